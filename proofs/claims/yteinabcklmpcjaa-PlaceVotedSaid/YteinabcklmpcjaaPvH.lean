/-
  WALKS: Vote, in the reference.
-/
import Derived.Test.YteinabcklmpcjaaPvG
import Derived.StillTailTactics
namespace Go.Proofs.Yteinabcklmpcjaa
open Go.RowKit

theorem bset {g b k : Nat} {w w' : World} (h : Below g w w') (hb : g ≤ b) (v : Value) : Below g w (w'.setCell ⟨b, k, none⟩ v) := h.setCell (p := ⟨b, k, none⟩) hb v

set_option maxRecDepth 100000 in
set_option maxHeartbeats 8000000 in
theorem rvote_of (w : World) (a : Option Addr) (n c : Nat) (f : Nat → Int) (v : Int) (hn : n ≤ maxLen) (hS : Sl w 2 a n f) :
    Calls Try.prog 27 #[.slice a n c, .int .i64 v] w fun e w' => ∃ lo hi er, e = .returned (resW lo hi er) ∧ VoteOut n f v lo hi er ∧ Below w.heap.size w w' := by
  have hB : Below w.heap.size w (w.alloc (.cells #[.int .i64 0, .int .i64 0] 25)) := (Below.refl _ w).alloc (Nat.le_refl _) _
  have a0 := World.alloc_heap_new w (.cells #[.int .i64 0, .int .i64 0] 25)
  have S1 := Lib.hid (hS.keep (by decide) hB)
  have hmx : maxLen = 9223372036854775807 := rfl
  clear hS
  by_cases h1 : n < 1 ∨ 16 < n
  · have HV : Hid (VoteOut n f v 0 0 4) := by
      have : voE n f v = 4 := by unfold voE; rw [if_pos h1]
      exact .inl ⟨by omega, rfl, rfl, this.symm⟩
    go_enter Try.func27, Try.ntmps27
    go_wp2_with fail
    generalize w.alloc (.cells #[.int .i64 0, .int .i64 0] 25) = W at a0 hB S1 ⊢
    have HB := Lib.hid hB
    have q0 : W.cell? ⟨w.heap.size, 0, none⟩ = some (.int .i64 0) := cell_h a0 rfl
    have q1 : W.cell? ⟨w.heap.size, 1, none⟩ = some (.int .i64 0) := cell_h a0 rfl
    have z : ∀ o, W.frozen? ⟨w.heap.size, o, none⟩ = false := fun o => frozen_own a0 o
    refine (wi_of false _ _ _ _ (by symm; rw [decide_eq_false_iff_not]; omega)).mono ?_
    rintro e w9 ⟨rfl, hw9⟩
    rw [hw9]
    clear hw9 w9 a0 hB h1
    go_wp2_with fail
    exact bodyPost_ret (v := resW 0 0 4) (by simp [results, Try.f27, go_sem, resW, q0, q1]) rfl ⟨0, 0, 4, rfl, HV.out, bset (bset HB.out (Nat.le_refl _) _) (Nat.le_refl _) _⟩
  have hn1 : 1 ≤ n ∧ n ≤ 16 := by omega
  have hE : voE n f v = if first (vgAt f) n ≠ 0 then first (vgAt f) n else if 0 ≤ v ∧ v < n then 0 else 1 := by unfold voE; rw [if_neg h1]
  have HE := Lib.hid hE
  clear hE h1 hmx hn
  go_enter Try.func27, Try.ntmps27
  go_wp2_with fail
  generalize w.alloc (.cells #[.int .i64 0, .int .i64 0] 25) = W at a0 hB S1 ⊢
  have HB := Lib.hid hB
  have A0 := Lib.hid a0
  clear hB a0
  refine (wi_of true _ _ _ _ (by symm; rw [decide_eq_true_iff]; omega)).mono ?_
  rintro e w9 ⟨rfl, hw9⟩
  rw [hw9]
  clear hw9 w9
  go_wp2_with fail
  go_loopw [6] (fun vi wr => ∃ i : Nat, i ≤ n ∧ vi = .int .i64 i ∧ Hid (∀ j, j < i → vgAt f j = 0) ∧ Hid (Below w.heap.size w wr) ∧ Hid (Below W.heap.size W wr)) (fun vi _ => n - (intOf vi).toNat)
  case atStart => exact ⟨0, by omega, rfl, fun j hj => by omega, HB.out, Below.refl _ _⟩
  case round =>
    obtain ⟨i, hi, rfl, HI, HK, HL⟩ := hrel
    have a1 : wr.heap[w.heap.size]? = some (.cells #[.int .i64 0, .int .i64 0] 25 (0, 0)) := (HL.out.block _ (Array.getElem?_eq_some_iff.1 A0.out).1).trans A0.out
    by_cases hlt : i < n
    · obtain ⟨b, o, rfl, hI⟩ := S1.out (by omega)
      have hJ := hI.keep HL.out (hI.lt (by omega))
      have d0 := hJ (i * 2) (by omega)
      have d1 := hJ.at (i * 2) 1 (by omega)
      have hv : vgAt f i = rgErr (f (i * 2)) (f (i * 2 + 1)) (-1073741824) 1073741824 := rfl
      clear hI hJ
      generalize f (i * 2) = X at d0 hv
      generalize f (i * 2 + 1) = Y at d1 hv
      obtain ⟨R, hR⟩ : ∃ R, rgErr X Y (-1073741824) 1073741824 = R := ⟨_, rfl⟩
      rw [hR] at hv
      have HR := Lib.hid hR
      have HV := Lib.hid hv
      have HF : Hid (R ≠ 0 → VoteOut n f v 0 0 R) := fun hne => by
        have h2 := first_at (g := vgAt f) HI.out (by rw [hv]; exact hne) hlt
        have h3 : voE n f v = R := by rw [HE.out, h2, hv, if_pos hne]
        exact .inl ⟨by rw [h3]; exact hne, rfl, rfl, h3.symm⟩
      clear hR hv
      by_cases h0 : R = 0
      · subst h0
        clear a1
        go_wp2_with fail
        refine (wrong_of _ X Y _ _).mono ?_
        rintro e W5 ⟨rfl, hw5⟩
        rw [HR.out]
        have HB5 := Lib.hid (HK.out.alloc HK.out.size (.cells #[.int .i64 X, .int .i64 Y] 25))
        have HL5 := Lib.hid (HL.out.alloc HL.out.size (.cells #[.int .i64 X, .int .i64 Y] 25))
        rw [← hw5] at HB5 HL5
        clear hw5
        go_wp2_with fail
        exact ⟨⟨i + 1, by omega, by go_num, (fun j hj => by
          by_cases ej : j = i
          · subst ej; exact HV.out
          · exact HI.out j (by omega)), HB5.out, HL5.out⟩, by simp [intOf]; omega⟩
      · have hne : (R == 0) = false := by simpa using h0
        have hne2 : (R != 0) = true := by simpa using h0
        have HN := Lib.hid h0
        have A1 := Lib.hid a1
        clear h0 a1
        go_wp2_with fail
        refine (wrong_of _ X Y _ _).mono ?_
        rintro e W5 ⟨rfl, hw5⟩
        rw [HR.out]
        have HB5 := Lib.hid (HK.out.alloc HK.out.size (.cells #[.int .i64 X, .int .i64 Y] 25))
        have a5 := al_old A1.out (.cells #[.int .i64 X, .int .i64 Y] 25)
        rw [← hw5] at HB5 a5
        have q0 : W5.cell? ⟨w.heap.size, 0, none⟩ = some (.int .i64 0) := cell_h a5 rfl
        have q1 : W5.cell? ⟨w.heap.size, 1, none⟩ = some (.int .i64 0) := cell_h a5 rfl
        have z : ∀ o, W5.frozen? ⟨w.heap.size, o, none⟩ = false := fun o => frozen_own a5 o
        clear hw5 a5
        go_wp2_with fail
        exact bodyPost_ret (v := resW 0 0 R) (by simp [results, Try.f27, go_sem, resW, q0, q1]) rfl ⟨0, 0, R, rfl, HF.out HN.out, bset (bset HB5.out (Nat.le_refl _) _) (Nat.le_refl _) _⟩
    · obtain rfl : i = n := by omega
      have hv := HE.out
      rw [first_zero HI.out, if_neg (by simp)] at hv
      have q0 : wr.cell? ⟨w.heap.size, 0, none⟩ = some (.int .i64 0) := cell_h a1 rfl
      have q1 : wr.cell? ⟨w.heap.size, 1, none⟩ = some (.int .i64 0) := cell_h a1 rfl
      have z : ∀ o, wr.frozen? ⟨w.heap.size, o, none⟩ = false := fun o => frozen_own a1 o
      have wn1 : IntKind.i64.wrap ((i : Int) - 1) = (i : Int) - 1 := IntWalk.i64_in _ (by omega)
      by_cases hr : 0 ≤ v ∧ v < i
      · rw [if_pos hr] at hv
        have H0 := Lib.hid hv
        have HRV := Lib.hid (ref_vote hv)
        have A1 := Lib.hid a1
        have S2 := Lib.hid (S1.out.keep (by decide) HL.out)
        have hal : w.heap.size < wr.heap.size := (Array.getElem?_eq_some_iff.1 a1).1
        clear hv a1 HE HI S1 HL HB A0 q0 q1 z
        obtain ⟨need, hneed⟩ : ∃ need, (i : Int) - v = need := ⟨_, rfl⟩
        have wn : IntKind.i64.wrap ((i : Int) - v) = need := (IntWalk.i64_in _ (by omega)).trans hneed
        rw [hneed] at HRV
        have hnd : 1 ≤ need ∧ need ≤ i := by omega
        clear hneed
        go_wp2_with (go_at_call 50; refine (wi_of true _ _ _ _ (by symm; rw [decide_eq_true_iff]; omega)).mono ?_; rintro e w9 ⟨rfl, hw9⟩; rw [hw9]; clear hw9 w9)
        have a2 := World.alloc_heap_new wr (.cells #[.int .i64 1073741825, .int .i64 (-1073741825)] 25)
        have hB3 : Below wr.heap.size wr (wr.alloc (.cells #[.int .i64 1073741825, .int .i64 (-1073741825)] 25)) := (Below.refl _ _).alloc (Nat.le_refl _) _
        obtain ⟨bo, hbo⟩ : ∃ bo, wr.heap.size = bo := ⟨_, rfl⟩
        generalize wr.alloc (.cells #[.int .i64 1073741825, .int .i64 (-1073741825)] 25) = W3 at a2 hB3 ⊢
        rw [hbo] at a2 hB3 hal ⊢
        obtain ⟨V0, HBo, HB3, S2, HK, HA0⟩ : ∃ V0 : World, Hid (V0.heap.size = bo) ∧ Hid (Below bo V0 W3) ∧ Hid (Sl V0 2 a i f) ∧ Hid (Below w.heap.size w V0) ∧ Hid (V0.heap[w.heap.size]? = some (.cells #[.int .i64 0, .int .i64 0] 25 (0, 0))) := ⟨wr, hbo, hB3, S2.out, HK.out, A1.out⟩
        have A2 := Lib.hid a2
        clear a2 hB3 hbo
        go_wp2_with fail
        go_loopw [9] (fun vi wq => ∃ k : Nat, k ≤ i ∧ vi = .int .i64 k ∧ Hid (wq.heap[bo]? = some (.cells #[.int .i64 (rlo f i need k), .int .i64 (rhi f i need k)] 25 (0, 0))) ∧ Hid (Below bo V0 wq)) (fun vi _ => i - (intOf vi).toNat)
        case atStart => exact ⟨0, by omega, rfl, A2.out, HB3.out⟩
        case round =>
          obtain ⟨k, hk, rfl, HO, HG⟩ := hrel
          by_cases hlt : k < i
          · obtain ⟨b, o, rfl, hI⟩ := S2.out (by omega)
            have hbb : b < bo := by rw [← HBo.out]; exact hI.lt (by omega)
            have hb1 : b ≠ bo := by omega
            have hb2 : bo ≠ b := by omega
            have hsz : bo < wr.heap.size := (Array.getElem?_eq_some_iff.1 HO.out).1
            have hbw : bo ≤ wr.heap.size := by omega
            have HC : Hid (∀ W X, Below bo V0 W → Calls Try.prog 65 #[.slice (some ⟨b, o, none⟩) i c, .int .i64 X] W fun e w' => e = .returned (.int .i64 (vts f X i)) ∧ Below W.heap.size W w') := fun W X hW => votes_of W _ i c f X hn1.2 (S2.out.keep (by decide) (by rw [HBo.out]; exact hW))
            have HD0 : Hid (∀ W, Below bo V0 W → W.cell? ⟨b, o + k * 2, none⟩ = some (.int .i64 (f (k * 2)))) := fun W hW => (hI.keep hW hbb) (k * 2) (by omega)
            have HD1 : Hid (∀ W, Below bo V0 W → W.cell? ⟨b, o + k * 2 + 1, none⟩ = some (.int .i64 (f (k * 2 + 1)))) := fun W hW => (hI.keep hW hbb).at (k * 2) 1 (by omega)
            have HL : Hid (rlo f i need (k + 1) = if need ≤ vts f (f (k * 2)) i then min (rlo f i need k) (f (k * 2)) else rlo f i need k) := rfl
            have HH : Hid (rhi f i need (k + 1) = if need ≤ vts f (f (k * 2 + 1)) i then max (rhi f i need k) (f (k * 2 + 1)) else rhi f i need k) := rfl
            clear hI
            generalize f (k * 2) = X at HD0 HL
            generalize f (k * 2 + 1) = Y at HD1 HH
            generalize rlo f i need k = LO at HL HO
            generalize rhi f i need k = HI at HH HO
            obtain ⟨VX, hVX⟩ : ∃ VX, vts f X i = VX := ⟨_, rfl⟩
            obtain ⟨VY, hVY⟩ : ∃ VY, vts f Y i = VY := ⟨_, rfl⟩
            rw [hVX] at HL
            rw [hVY] at HH
            have C1 := HC.out wr X HG.out
            rw [hVX] at C1
            have C1 := Lib.hid C1
            have C2 : Hid (∀ W, Below bo V0 W → Calls Try.prog 65 #[.slice (some ⟨b, o, none⟩) i c, .int .i64 Y] W fun e w' => e = .returned (.int .i64 VY) ∧ Below W.heap.size W w') := fun W hW => by rw [← hVY]; exact HC.out W Y hW
            clear HC hVX hVY
            have d0 := HD0.out wr HG.out
            go_wp2_with fail
            refine C1.out.mono ?_
            rintro e W5 ⟨rfl, hB5⟩
            have HO5 := Lib.hid ((hB5.block _ hsz).trans HO.out)
            have HG5 := Lib.hid (HG.out.trans (hB5.mono hbw))
            clear hB5 d0 hsz hbw C1 HO HG
            by_cases hx : need ≤ VX
            · have HL2 : Hid (rlo f i need (k + 1) = min LO X) := HL.out.trans (if_pos hx)
              have d0 := HD0.out W5 HG5.out
              have c0 : W5.cell? ⟨bo, 0, none⟩ = some (.int .i64 LO) := cell_h HO5.out rfl
              clear HL
              go_wp2_with fail
              go_still_tail 9, (by kernel_rfl)
              change wpList _ _ _ _ _ W5.drew
              have HOd : Hid (W5.drew.heap[bo]? = some (.cells #[.int .i64 LO, .int .i64 HI] 25 (0, 0))) := HO5.out
              have HGd : Hid (Below bo V0 W5.drew) := HG5.out.drew
              clear c0 d0 HO5 HG5
              generalize W5.drew = Wd at HOd HGd ⊢
              have c0 : Wd.cell? ⟨bo, 0, none⟩ = some (.int .i64 LO) := cell_h HOd.out rfl
              have z0 : Wd.frozen? ⟨bo, 0, none⟩ = false := frozen_own HOd.out 0
              have d1 := HD1.out Wd HGd.out
              go_wp2_with fail
              have HOm : Hid ((Wd.setCell ⟨bo, 0, none⟩ (.int .i64 (min LO X))).heap[bo]? = some (.cells #[.int .i64 (min LO X), .int .i64 HI] 25 (0, 0))) := set_0 HOd.out
              have HGm : Hid (Below bo V0 (Wd.setCell ⟨bo, 0, none⟩ (.int .i64 (min LO X)))) := bset HGd.out (Nat.le_refl _) _
              clear c0 z0 d1 HOd HGd
              generalize Wd.setCell ⟨bo, 0, none⟩ (.int .i64 (min LO X)) = Wm at HOm HGm ⊢
              have hszm : bo < Wm.heap.size := (Array.getElem?_eq_some_iff.1 HOm.out).1
              have hbwm : bo ≤ Wm.heap.size := by omega
              refine (C2.out _ HGm.out).mono ?_
              rintro e W6 ⟨rfl, hB6⟩
              have HO6 := Lib.hid ((hB6.block _ hszm).trans HOm.out)
              have HG6 := Lib.hid (HGm.out.trans (hB6.mono hbwm))
              clear hB6 hszm hbwm HOm HGm
              by_cases hy : need ≤ VY
              · have HH2 : Hid (rhi f i need (k + 1) = max HI Y) := HH.out.trans (if_pos hy)
                have d0 := HD1.out W6 HG6.out
                have c0 : W6.cell? ⟨bo, 1, none⟩ = some (.int .i64 HI) := cell_h HO6.out rfl
                clear HH
                go_wp2_with fail
                go_still_tail 9, (by kernel_rfl)
                change wpList _ _ _ _ _ W6.drew
                have HOd : Hid (W6.drew.heap[bo]? = some (.cells #[.int .i64 (min LO X), .int .i64 HI] 25 (0, 0))) := HO6.out
                have HGd : Hid (Below bo V0 W6.drew) := HG6.out.drew
                clear c0 d0 HO6 HG6
                generalize W6.drew = Wd at HOd HGd ⊢
                have c0 : Wd.cell? ⟨bo, 1, none⟩ = some (.int .i64 HI) := cell_h HOd.out rfl
                have z0 : Wd.frozen? ⟨bo, 1, none⟩ = false := frozen_own HOd.out 1
                go_wp2_with fail
                exact ⟨⟨k + 1, by omega, by go_num, (by rw [HL2.out, HH2.out]; exact set_1 HOd.out), bset HGd.out (Nat.le_refl _) _⟩, by simp [intOf]; omega⟩
              · have HH2 : Hid (rhi f i need (k + 1) = HI) := HH.out.trans (if_neg hy)
                clear HH
                go_wp2_with fail
                exact ⟨⟨k + 1, by omega, by go_num, (by rw [HL2.out, HH2.out]; exact HO6.out), HG6.out⟩, by simp [intOf]; omega⟩
            · have HL2 : Hid (rlo f i need (k + 1) = LO) := HL.out.trans (if_neg hx)
              have d1 := HD1.out W5 HG5.out
              clear HL
              go_wp2_with fail
              have HOm := Lib.hid HO5.out
              have HGm := Lib.hid HG5.out
              clear d1 HO5 HG5
              have hszm : bo < W5.heap.size := (Array.getElem?_eq_some_iff.1 HOm.out).1
              have hbwm : bo ≤ W5.heap.size := by omega
              refine (C2.out _ HGm.out).mono ?_
              rintro e W6 ⟨rfl, hB6⟩
              have HO6 := Lib.hid ((hB6.block _ hszm).trans HOm.out)
              have HG6 := Lib.hid (HGm.out.trans (hB6.mono hbwm))
              clear hB6 hszm hbwm HOm HGm
              by_cases hy : need ≤ VY
              · have HH2 : Hid (rhi f i need (k + 1) = max HI Y) := HH.out.trans (if_pos hy)
                have d0 := HD1.out W6 HG6.out
                have c0 : W6.cell? ⟨bo, 1, none⟩ = some (.int .i64 HI) := cell_h HO6.out rfl
                clear HH
                go_wp2_with fail
                go_still_tail 9, (by kernel_rfl)
                change wpList _ _ _ _ _ W6.drew
                have HOd : Hid (W6.drew.heap[bo]? = some (.cells #[.int .i64 LO, .int .i64 HI] 25 (0, 0))) := HO6.out
                have HGd : Hid (Below bo V0 W6.drew) := HG6.out.drew
                clear c0 d0 HO6 HG6
                generalize W6.drew = Wd at HOd HGd ⊢
                have c0 : Wd.cell? ⟨bo, 1, none⟩ = some (.int .i64 HI) := cell_h HOd.out rfl
                have z0 : Wd.frozen? ⟨bo, 1, none⟩ = false := frozen_own HOd.out 1
                go_wp2_with fail
                exact ⟨⟨k + 1, by omega, by go_num, (by rw [HL2.out, HH2.out]; exact set_1 HOd.out), bset HGd.out (Nat.le_refl _) _⟩, by simp [intOf]; omega⟩
              · have HH2 : Hid (rhi f i need (k + 1) = HI) := HH.out.trans (if_neg hy)
                clear HH
                go_wp2_with fail
                exact ⟨⟨k + 1, by omega, by go_num, (by rw [HL2.out, HH2.out]; exact HO6.out), HG6.out⟩, by simp [intOf]; omega⟩
          · obtain rfl : k = i := by omega
            have a1 := (HG.out.block _ hal).trans HA0.out
            have q0 : wr.cell? ⟨w.heap.size, 0, none⟩ = some (.int .i64 0) := cell_h a1 rfl
            have q1 : wr.cell? ⟨w.heap.size, 1, none⟩ = some (.int .i64 0) := cell_h a1 rfl
            have z : ∀ o, wr.frozen? ⟨w.heap.size, o, none⟩ = false := fun o => frozen_own a1 o
            have c0 : wr.cell? ⟨bo, 0, none⟩ = some (.int .i64 (rlo f k need k)) := cell_h HO.out rfl
            have c1 : wr.cell? ⟨bo, 1, none⟩ = some (.int .i64 (rhi f k need k)) := cell_h HO.out rfl
            have HBw := Lib.hid (HK.out.trans (HG.out.mono (by omega)))
            have hR := HRV.out
            clear a1 HO HRV
            generalize rlo f k need k = LO at hR c0
            generalize rhi f k need k = HI at hR c1
            rcases hR with ⟨hc, hV⟩ | ⟨hc, hV⟩
            · have HV := Lib.hid hV
              clear hV
              go_wp2_with fail
              exact bodyPost_ret (v := resW 0 0 5) (by simp [results, Try.f27, go_sem, resW, q0, q1]) rfl ⟨0, 0, 5, rfl, HV.out, bset (bset HBw.out (Nat.le_refl _) _) (Nat.le_refl _) _⟩
            · have HV := Lib.hid hV
              clear hV
              go_wp2_with fail
              exact bodyPost_ret (v := resW LO HI 0) (by simp [results, Try.f27, go_sem, resW, q0, q1]) rfl ⟨LO, HI, 0, rfl, HV.out, bset (bset HBw.out (Nat.le_refl _) _) (Nat.le_refl _) _⟩
      · rw [if_neg hr] at hv
        have HV : Hid (VoteOut i f v 0 0 1) := .inl ⟨by omega, rfl, rfl, hv.symm⟩
        clear hv a1
        go_wp2_with (go_at_call 50; refine (wi_of false _ _ _ _ (by symm; rw [decide_eq_false_iff_not]; omega)).mono ?_; rintro e w9 ⟨rfl, hw9⟩; rw [hw9]; clear hw9 w9)
        exact bodyPost_ret (v := resW 0 0 1) (by simp [results, Try.f27, go_sem, resW, q0, q1]) rfl ⟨0, 0, 1, rfl, HV.out, bset (bset HK.out (Nat.le_refl _) _) (Nat.le_refl _) _⟩
end Go.Proofs.Yteinabcklmpcjaa
