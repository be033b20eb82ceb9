/-
  UNFINISHED (not in plan_d.txt): the walk of fixed. The region of the append goes with go_region_held3, the six cells that it reads as the kept facts, and double brackets around its one arm; open are the arm's fact about the new block (hL) and the closing of the two returns.
-/
import Derived.Test.YtlbffdgojmjijaaDoorDrG
namespace Go.Proofs.YtlbffdgojmjijaaDoor
open Go.RowKit

set_option maxRecDepth 100000 in
set_option maxHeartbeats 8000000 in
theorem fixed_of (w : World) (a b d : Option Addr) (m c p c1 q c2 : Nat) (f s y : Nat → Int) (hm : m ≤ 12) (hf : VsOk m f) (hS : Sl w 3 a m f) (hY : 0 < p → ∃ g o, b = some ⟨g, o, none⟩ ∧ ∀ i, i < p → w.cell? ⟨g, o + i, none⟩ = some (.int .u8 (y i))) (hy : ∀ i, i < p → 0 ≤ y i ∧ y i ≤ 255) (hM : St w d q s) (hs : ∀ i, i < q * 3 → -128 ≤ s i ∧ s i ≤ 127) :
    Calls Tryd.prog 7 #[.slice a m c, .slice b p c1, .slice d q c2] w fun e W' => ∃ x k c' F, e = .returned (.slice x k c') ∧ Sl W' 4 x k F ∧ k ≤ 3 ∧ TieP m f F k ∧ Below w.heap.size w W' := by
  have HY := Lib.hid hY
  have HYb := Lib.hid hy
  have HM := Lib.hid hM
  have HMb := Lib.hid hs
  have HOk := Lib.hid hf
  have hm1 := hf.1
  have HS := Lib.hid hS
  clear hY hy hM hs hf hS
  go_enter Tryd.func7, Tryd.ntmps7
  go_wp2_with fail
  refine (line_of2 w a m c f HOk.out HS.out).mono ?_
  rintro e W1 ⟨G, rfl, hG0, hG, hB1⟩
  have HG := Lib.hid hG
  have HB1 := Lib.hid hB1
  have hs1 := hB1.size
  have hGl := hG.lt
  clear hG hB1
  have HR0 : Hid (W1.ownsRow W1.heap.size 38 4 (.slice none 0 0) 0 (Ln.irow (fun _ => 0) (0 * 4))) := Ln.own_nil W1 _ _ 4 _
  go_wp2_with fail
  go_loopw [9, 10, 11] (fun vo vl vi wr => ∃ (k last : Nat) (F : Nat → Int), k ≤ 3 ∧ vi = .int .i64 k ∧ vl = .int .i64 last ∧ last ≤ m ∧ Hid (0 < k → F ((k - 1) * 4) = (last : Int)) ∧ Hid (TieP m f F k) ∧ Hid (wr.ownsRow W1.heap.size 38 4 vo k (Ln.irow F (k * 4))) ∧ Hid (Below W1.heap.size W1 wr)) (fun _ _ vi _ => 3 - (intOf vi).toNat)
  case atStart => exact ⟨0, 0, fun _ => 0, by omega, rfl, rfl, by omega, fun h => absurd h (by omega), ⟨fun j hj => absurd hj (by omega), fun j hj => absurd hj (by omega)⟩, HR0.out, Below.refl _ _⟩
  case round =>
    obtain ⟨k, last, F, hk, rfl, rfl, hl, HL, HP, HR, HB⟩ := hrel
    have hss := HB.out.size
    obtain ⟨xa, cx, rfl⟩ := Ln.own_slice HR.out
    by_cases hlt : k < 3 ∧ k < q ∧ k < p
    · obtain ⟨h3, hkq, hkp⟩ := hlt
      obtain ⟨g1, o1, rfl, hyc⟩ := HY.out (by omega)
      obtain ⟨g2, o2, rfl, hmc⟩ := HM.out (by omega)
      have hg1 : g1 < w.heap.size := World.block_lt_of_cell? _ _ (hyc k hkp)
      have hg2 : g2 < w.heap.size := World.block_lt_of_cell? _ _ (hmc (k * 3) (by omega))
      have HBw : Hid (Below w.heap.size w wr) := Lib.hid (HB1.out.trans (HB.out.mono hs1))
      have dy := (HBw.out.cell (p := ⟨g1, o1 + k, none⟩) hg1).trans (hyc k hkp)
      have d0 := (HBw.out.cell (p := ⟨g2, o2 + k * 3, none⟩) hg2).trans (hmc (k * 3) (by omega))
      have d1 := (HBw.out.cell (p := ⟨g2, o2 + (k * 3 + 1), none⟩) hg2).trans (hmc (k * 3 + 1) (by omega))
      have d2 := (HBw.out.cell (p := ⟨g2, o2 + (k * 3 + 2), none⟩) hg2).trans (hmc (k * 3 + 2) (by omega))
      rw [← Nat.add_assoc] at d1 d2
      have qy := HYb.out k hkp
      have q0 := HMb.out (k * 3) (by omega)
      have q1 := HMb.out (k * 3 + 1) (by omega)
      have q2 := HMb.out (k * 3 + 2) (by omega)
      generalize y k = yv at dy qy
      generalize s (k * 3) = x0 at d0 q0
      generalize s (k * 3 + 1) = x1 at d1 q1
      generalize s (k * 3 + 2) = x2 at d2 q2
      obtain ⟨S, hSv⟩ : ∃ S : Nat, (last : Int) + 1 + yv % 4 = (S : Int) := ⟨((last : Int) + 1 + yv % 4).toNat, by omega⟩
      have hSl : last < S := by omega
      have HSv := Lib.hid hSv
      clear hyc hmc hSv
      go_upto_region 10 with fail
      simp only [HSv.out]
      by_cases hbr : m < S
      · go_wp2_with fail
        go_ret
        obtain ⟨x', c', hv, _, hSl, _⟩ := Ln.own_sl HR.out
        cases hv
        exact ⟨xa, k, cx, F, rfl, hSl, hk, HP.out, HBw.out⟩
      · have hL := HG.out.keep HB.out hGl
        have l0 := hL.cell (k := S * 3) (by omega)
        have l1 := hL.cell (k := S * 3 + 1) (by omega)
        have l2 := hL.cell (k := S * 3 + 2) (by omega)
        simp only [lnG, show S * 3 < (m + 1) * 3 by omega, show S * 3 + 1 < (m + 1) * 3 by omega, show S * 3 + 2 < (m + 1) * 3 by omega, if_true, show S * 3 % 3 = 0 by omega, show (S * 3 + 1) % 3 = 1 by omega, show (S * 3 + 2) % 3 = 2 by omega, show S * 3 / 3 = S by omega, show (S * 3 + 1) / 3 = S by omega, show (S * 3 + 2) / 3 = S by omega] at l0 l1 l2
        have b0 := lnS_big HOk.out (j := 0) (by omega) (show S ≤ m by omega)
        have b1 := lnS_big HOk.out (j := 1) (by omega) (show S ≤ m by omega)
        have b2 := lnS_big HOk.out (j := 2) (by omega) (show S ≤ m by omega)
        have HP2 := Lib.hid (TieP.more HP.out HL.out (show last < S ∧ S ≤ m by omega) q0 q1 q2)
        generalize lnS f 0 S = v0 at l0 b0 HP2
        generalize lnS f 1 S = v1 at l1 b1 HP2
        generalize lnS f 2 S = v2 at l2 b2 HP2
        have w0 : IntKind.i64.wrap (v0 + x0) = v0 + x0 := IntWalk.i64_in _ (by omega)
        have w1 : IntKind.i64.wrap (v1 + x1) = v1 + x1 := IntWalk.i64_in _ (by omega)
        have w2 : IntKind.i64.wrap (v2 + x2) = v2 + x2 := IntWalk.i64_in _ (by omega)
        have K0 : Hid (IntKind.i64.wrap x0 = x0) := Lib.hid (IntWalk.i64_in _ (by omega))
        have K1 : Hid (IntKind.i64.wrap x1 = x1) := Lib.hid (IntWalk.i64_in _ (by omega))
        have K2 : Hid (IntKind.i64.wrap x2 = x2) := Lib.hid (IntWalk.i64_in _ (by omega))
        have HF2 : Hid (0 < k + 1 → tie4 F k S (v0 + x0) (v1 + x1) (v2 + x2) ((k + 1 - 1) * 4) = (S : Int)) := fun _ => by rw [Nat.add_sub_cancel]; exact (tie4_at F k S _ _ _).1
        have eS : (0 : Int) ≤ (S : Int) ∧ (S : Int) < (m : Int) + 1 := by omega
        have ei : (0 : Int) ≤ (k : Int) ∧ (k : Int) < (q : Int) := by omega
        clear hL b0 b1 b2 HL HP HYb HMb HY HM HOk HS HSv HG qy dy HR0
        go_upto_region 11 with fail
        have hb7 : ∀ j, (Value.slice xa k cx).ownBlock = some j → W1.heap.size ≤ j := fun j e => (HR.out.lt j e).1
        have HB7 := Lib.hid hb7
        have nG : some G ≠ (Value.slice xa k cx).ownBlock := fun e => absurd (hb7 _ e.symm) (by omega)
        have n2 : some g2 ≠ (Value.slice xa k cx).ownBlock := fun e => absurd (hb7 _ e.symm) (by omega)
        have NG := Lib.hid nG
        have N2 := Lib.hid n2
        have hGw : G < wr.heap.size := by omega
        have hgw : g2 < wr.heap.size := by omega
        clear hb7 nG n2
        go_region_held3 (fun W' => W'.cell? ⟨G, S * 3, none⟩ = some (.int .i64 v0) ∧ W'.cell? ⟨G, S * 3 + 1, none⟩ = some (.int .i64 v1) ∧ W'.cell? ⟨G, S * 3 + 2, none⟩ = some (.int .i64 v2) ∧ W'.cell? ⟨g2, o2 + k * 3, none⟩ = some (.int .i8 x0) ∧ W'.cell? ⟨g2, o2 + k * 3 + 1, none⟩ = some (.int .i8 x1) ∧ W'.cell? ⟨g2, o2 + k * 3 + 2, none⟩ = some (.int .i8 x2)) (go_keep)
          ((refine step_tie (by rfl) (.tmp 57) (.tmp 97) (by rfl) (B := W1.heap.size) (k := k) (F := F) (S := S) (X := IntKind.i64.wrap (v0 + IntKind.i64.wrap x0)) (Y := IntKind.i64.wrap (v1 + IntKind.i64.wrap x1)) (Z := IntKind.i64.wrap (v2 + IntKind.i64.wrap x2)) (by rfl) (by rfl) (by first | exact HR.out | exact HR.out.alloc _ | exact (HR.out.alloc _).alloc _) (by first | exact World.alloc_heap_new _ _ | exact al_old (World.alloc_heap_new _ _) _ | exact al_1 _ _ _) (by omega) (by first | omega | (simp; done) | (simp; omega)) ?_
            intro g4 cap4 w4 o4 gr4
            rw [K0.out, K1.out, K2.out, w0, w1, w2] at o4
            have HO4 := Lib.hid o4
            have f0 : w4.cell? ⟨G, S * 3, none⟩ = some (.int .i64 v0) := (grown_cell gr4 (p := ⟨G, S * 3, none⟩) (by simp; omega) NG.out).trans (((Below.refl _ _).alloc (Nat.le_refl _) _).cell (p := ⟨G, S * 3, none⟩) hGw |>.trans l0)
            have f1 : w4.cell? ⟨G, S * 3 + 1, none⟩ = some (.int .i64 v1) := (grown_cell gr4 (p := ⟨G, S * 3 + 1, none⟩) (by simp; omega) NG.out).trans (((Below.refl _ _).alloc (Nat.le_refl _) _).cell (p := ⟨G, S * 3 + 1, none⟩) hGw |>.trans l1)
            have f2 : w4.cell? ⟨G, S * 3 + 2, none⟩ = some (.int .i64 v2) := (grown_cell gr4 (p := ⟨G, S * 3 + 2, none⟩) (by simp; omega) NG.out).trans (((Below.refl _ _).alloc (Nat.le_refl _) _).cell (p := ⟨G, S * 3 + 2, none⟩) hGw |>.trans l2)
            have f3 : w4.cell? ⟨g2, o2 + k * 3, none⟩ = some (.int .i8 x0) := (grown_cell gr4 (p := ⟨g2, o2 + k * 3, none⟩) (by simp; omega) N2.out).trans (((Below.refl _ _).alloc (Nat.le_refl _) _).cell (p := ⟨g2, o2 + k * 3, none⟩) hgw |>.trans d0)
            have f4 : w4.cell? ⟨g2, o2 + k * 3 + 1, none⟩ = some (.int .i8 x1) := (grown_cell gr4 (p := ⟨g2, o2 + k * 3 + 1, none⟩) (by simp; omega) N2.out).trans (((Below.refl _ _).alloc (Nat.le_refl _) _).cell (p := ⟨g2, o2 + k * 3 + 1, none⟩) hgw |>.trans d1)
            have f5 : w4.cell? ⟨g2, o2 + k * 3 + 2, none⟩ = some (.int .i8 x2) := (grown_cell gr4 (p := ⟨g2, o2 + k * 3 + 2, none⟩) (by simp; omega) N2.out).trans (((Below.refl _ _).alloc (Nat.le_refl _) _).cell (p := ⟨g2, o2 + k * 3 + 2, none⟩) hgw |>.trans d2)
            have HB4 : Hid (Below W1.heap.size W1 w4) := Below.grown (by first | exact HB.out.drew.alloc hss _ | exact HB.out.alloc hss _) gr4 (by first | omega | (simp; done) | (simp; omega)) HB7.out
            clear o4 gr4))
        all_goals
          go_wp2_with fail
          exact ⟨⟨k + 1, S, tie4 F k S (v0 + x0) (v1 + x1) (v2 + x2), by omega, by go_num, rfl, by omega, HF2, HP2, HO4, HB4⟩, by simp [intOf]; omega⟩
    · rcases (by omega : 3 ≤ k ∨ (k < 3 ∧ q ≤ k) ∨ (k < 3 ∧ k < q ∧ p ≤ k)) with h | h | h
      all_goals
        clear hlt
        go_wp2_with fail
        go_ret
        obtain ⟨x', c', hv, _, hSl, _⟩ := Ln.own_sl HR.out
        cases hv
        first | exact ⟨xa, k, ⟨cx, rfl⟩, F, hSl, hk, HP.out, HB1.out.trans (HB.out.mono hs1)⟩ | exact ⟨xa, k, cx, F, rfl, hSl, hk, HP.out, HB1.out.trans (HB.out.mono hs1)⟩
end Go.Proofs.YtlbffdgojmjijaaDoor
