/-
  WALKS: growth: Chain of the reference.
-/
import Derived.Test.YtlbffdgojmjijaaGreatDoorGsF
import Derived.Deep.RegionHeld3
import Derived.Deep.AppendLies
namespace Go.Proofs.YtlbffdgojmjijaaGreatDoor
open Go.RowKit

set_option maxRecDepth 100000 in
set_option maxHeartbeats 8000000 in
theorem hChain_of (w : World) (a b : Option Addr) (n m ca cb : Nat) (f g : Nat → Int) (hn : n ≤ 40) (hm : m ≤ 40) (hF : Sl w 2 a n f) (hG : Sl w 2 b m g) :
    Calls Tryz.prog 23 #[.slice a n ca, .slice b m cb] w (ChEnd w f g n m) := by
  have HI : Hid (∀ b w x lo hi, b = decide (lo ≤ x ∧ x ≤ hi) → Calls Tryz.prog 34 #[.int .i64 x, .int .i64 lo, .int .i64 hi] w fun e w' => e = .returned (.bool b) ∧ w' = w) := fun b w x lo hi h => hwithin_of b w x lo hi h
  have HF := Lib.hid hF
  have HG := Lib.hid hG
  clear hF hG
  by_cases hsz : n ≤ 24 ∧ m ≤ 24
  rotate_left
  · have HE : Hid (chE f g n m = 4) := by unfold chE; rw [if_neg hsz]; exact Lib.hid rfl
    rcases (by omega : 24 < n ∨ (n ≤ 24 ∧ 24 < m)) with h | ⟨h1, h2⟩
    all_goals
      go_enter Tryz.func23, Tryz.ntmps23
      go_wp2_with fail
      exact bodyPost_ret (v := .tuple #[.slice none 0 0, .int .i64 4]) (by simp [results, Tryz.f23, go_sem]) rfl (chEnd_bad HE.out (by decide) (Below.refl _ _))
  obtain ⟨h1, h2⟩ := hsz
  have HE : Hid (chE f g n m = if first (pErr 24 24 f) n = 0 then first (pErr 24 24 g) m else first (pErr 24 24 f) n) := by unfold chE; rw [if_pos ⟨h1, h2⟩]; exact Lib.hid rfl
  go_enter Tryz.func23, Tryz.ntmps23
  go_wp2_with fail
  have hBx := World.alloc_heap_new w (.cells #[.slice a n ca, .slice b m cb] 38)
  have hB0 := (Below.refl w.heap.size w).alloc (Nat.le_refl _) (.cells #[.slice a n ca, .slice b m cb] 38)
  generalize w.alloc (.cells #[.slice a n ca, .slice b m cb] 38) = W0 at hBx hB0 ⊢
  have HF0 := Lib.hid (HF.out.keep (by decide) hB0)
  have HG0 := Lib.hid (HG.out.keep (by decide) hB0)
  have HB0 := Lib.hid hB0
  generalize hBB : w.heap.size = B at hBx ⊢
  clear hBB
  have HBx := Lib.hid hBx
  have hBl : B < W0.heap.size := (Array.getElem?_eq_some_iff.1 hBx).1
  clear hBx hB0 HF HG
  go_loopw [7] (fun vi wr => ∃ j : Nat, j ≤ 2 ∧ vi = .int .i64 (j : Int) ∧ Hid (1 ≤ j → first (pErr 24 24 f) n = 0) ∧ Hid (2 ≤ j → first (pErr 24 24 g) m = 0) ∧ Hid (Below W0.heap.size W0 wr)) (fun vi _ => 2 - (intOf vi).toNat)
  case atStart => exact ⟨0, by omega, rfl, fun h => by omega, fun h => by omega, Below.refl _ _⟩
  case round =>
    obtain ⟨j, hj, rfl, H1, H2, HB⟩ := hrel
    by_cases hj2 : j < 2
    · have hjj : (∃ N A C F, N ≤ 24 ∧ W0.cell? ⟨B, j, none⟩ = some (.slice A N C) ∧ Sl W0 2 A N F ∧ (∀ v, first (pErr 24 24 F) N = v → v ≠ 0 → chE f g n m = v) ∧ (first (pErr 24 24 F) N = 0 → (1 ≤ j + 1 → first (pErr 24 24 f) n = 0) ∧ (2 ≤ j + 1 → first (pErr 24 24 g) m = 0))) := by
        rcases (by omega : j = 0 ∨ j = 1) with rfl | rfl
        · exact ⟨n, a, ca, f, h1, cell_h (k := 0) HBx.out rfl, HF0.out, fun v hv h0 => by rw [HE.out, hv, if_neg h0], fun h => ⟨fun _ => h, fun h => by omega⟩⟩
        · exact ⟨m, b, cb, g, h2, cell_h (k := 1) HBx.out rfl, HG0.out, fun v hv h0 => by rw [HE.out, if_pos (H1.out (by omega)), hv], fun h => ⟨fun _ => H1.out (by omega), fun _ => h⟩⟩
      obtain ⟨N, A, C, F, hN, hcA, hSA, hV, hZ⟩ := hjj
      have HcA := Lib.hid hcA
      have HSA := Lib.hid hSA
      have HV := Lib.hid hV
      have HZ := Lib.hid hZ
      have hji : (j : Int) < 2 := by omega
      clear hcA hSA hV hZ H1 H2
      go_wp2_with fail
      generalize hwq : wr = Wq at *
      clear hwq
      go_loopw [8] (fun vi wr => ∃ k : Nat, k ≤ N ∧ vi = .int .i64 k ∧ Hid (∀ i, i < k → pErr 24 24 F i = 0) ∧ Hid (Below W0.heap.size W0 wr)) (fun vi _ => N - (intOf vi).toNat)
      case atStart => exact ⟨0, by omega, rfl, fun i hi => by omega, HB.out⟩
      case round =>
        obtain ⟨k, hk, rfl, HP, HB2⟩ := hrel
        have c0 := (HB2.out.cell (p := ⟨B, j, none⟩) hBl).trans HcA.out
        have hS2 := HSA.out.keep (by decide) HB2.out
        by_cases hlt : k < N
        · obtain ⟨b4, o4, rfl, hI4⟩ := hS2 (by omega)
          have d0 := hI4 (k * 2) (by omega)
          have d1 := hI4.at (k * 2) 1 (by omega)
          have hkN : (k : Int) < (N : Int) := by omega
          have HTW : Hid (Calls Tryz.prog 44 #[.slice (some ⟨b4, o4, none⟩) N C, .int .i64 (k : Int)] wr fun e w' => e = .returned (.bool (tw F k)) ∧ Below wr.heap.size wr w') := htwice_of wr k N C _ F hlt (by omega) hS2
          have HP1 : Hid (pErr 24 24 F k = if ¬((0 ≤ F (k * 2) ∧ F (k * 2) < 24) ∧ 0 ≤ F (k * 2 + 1) ∧ F (k * 2 + 1) < 24) then 1 else if tw F k then 8 else 0) := Lib.hid rfl
          have HV1 : Hid (∀ v, pErr 24 24 F k = v → v ≠ 0 → chE f g n m = v) := fun v hv h0 => HV.out v (by rw [← hv]; exact first_at HP.out (by rw [hv]; exact h0) hlt) h0
          have HBw := Lib.hid (HB0.out.trans (HB2.out.mono HB0.out.size))
          clear hI4 hS2
          generalize F (k * 2) = x0 at d0 HP1
          generalize F (k * 2 + 1) = x1 at d1 HP1
          go_wp2_with fail
          by_cases h1 : 0 ≤ x0 ∧ x0 ≤ 23
          rotate_left
          · refine (HI.out false _ _ _ _ (by symm; rw [decide_eq_false_iff_not]; exact h1)).mono ?_
            rintro e w8 ⟨rfl, rfl⟩
            have HE1 := Lib.hid (HV1.out 1 (by rw [HP1.out, if_pos (fun e => h1 ⟨e.1.1, by have := e.1.2; omega⟩)]) (by decide))
            go_wp2_with fail
            (try simp only [Exit.inBlock, Exit.then])
            exact bodyPost_ret (v := .tuple #[.slice none 0 0, .int .i64 1]) (by simp [results, Tryz.f23, go_sem]) rfl (chEnd_bad HE1.out (by decide) HBw.out)
          refine (HI.out true _ _ _ _ (by symm; rw [decide_eq_true_iff]; exact h1)).mono ?_
          rintro e w8 ⟨rfl, rfl⟩
          go_wp2_with fail
          by_cases h2 : 0 ≤ x1 ∧ x1 ≤ 23
          rotate_left
          · refine (HI.out false _ _ _ _ (by symm; rw [decide_eq_false_iff_not]; exact h2)).mono ?_
            rintro e w8 ⟨rfl, rfl⟩
            have HE1 := Lib.hid (HV1.out 1 (by rw [HP1.out, if_pos (fun e => h2 ⟨e.2.1, by have := e.2.2; omega⟩)]) (by decide))
            go_wp2_with fail
            (try simp only [Exit.inBlock, Exit.then])
            exact bodyPost_ret (v := .tuple #[.slice none 0 0, .int .i64 1]) (by simp [results, Tryz.f23, go_sem]) rfl (chEnd_bad HE1.out (by decide) HBw.out)
          refine (HI.out true _ _ _ _ (by symm; rw [decide_eq_true_iff]; exact h2)).mono ?_
          rintro e w8 ⟨rfl, rfl⟩
          have hin : ¬¬((0 ≤ x0 ∧ x0 < 24) ∧ 0 ≤ x1 ∧ x1 < 24) := fun e => e ⟨⟨h1.1, by omega⟩, h2.1, by omega⟩
          go_wp2_with fail
          refine HTW.out.mono ?_
          rintro e W2 ⟨rfl, hb⟩
          have HB3 := Lib.hid (low_trans HB2.out hb)
          have HBw3 := Lib.hid (HB0.out.trans (HB3.out.mono HB0.out.size))
          clear hb HTW
          generalize tw F k = z at HP1 ⊢
          cases z with
          | true =>
            have HE1 := Lib.hid (HV1.out 8 (by rw [HP1.out, if_neg hin]; rfl) (by decide))
            go_wp2_with fail
            (try simp only [Exit.inBlock, Exit.then])
            exact bodyPost_ret (v := .tuple #[.slice none 0 0, .int .i64 8]) (by simp [results, Tryz.f23, go_sem]) rfl (chEnd_bad HE1.out (by decide) HBw3.out)
          | false =>
            have hz : pErr 24 24 F k = 0 := by rw [HP1.out, if_neg hin]; rfl
            go_wp2_with fail
            exact ⟨⟨k + 1, by omega, by go_num, fun j hj => by
              rcases Nat.lt_or_ge j k with h | h
              · exact HP.out j h
              · obtain rfl : j = k := by omega
                exact hz, HB3.out⟩, by simp [intOf]; omega⟩
        · obtain rfl : k = N := by omega
          have hz := HZ.out (first_zero HP.out)
          have HZ1 := Lib.hid hz.1
          have HZ2 := Lib.hid hz.2
          clear hz hS2
          go_wp2_with fail
          exact ⟨⟨j + 1, by omega, by go_num, HZ1.out, HZ2.out, HB2.out⟩, by simp [intOf]; omega⟩
    · obtain rfl : j = 2 := by omega
      rw [show (((2 : Nat) : Int)) = 2 from rfl]
      have hE0 : chE f g n m = 0 := by rw [HE.out, if_pos (H1.out (by omega)), H2.out (by omega)]
      have HE0 := Lib.hid hE0
      have HT : Hid (chT f g n m = tris f g m n) := by unfold chT; rw [if_pos hE0]; exact Lib.hid rfl
      have HF1 := Lib.hid (HF0.out.keep (by decide) HB.out)
      have HG1 := Lib.hid (HG0.out.keep (by decide) HB.out)
      have HB9 := Lib.hid (HB0.out.trans (HB.out.mono HB0.out.size))
      clear hE0 H1 H2 HE HF0 HG0 HBx HB HB0
      obtain ⟨i0, hi, hz0, hz1, hz2⟩ := info_parts x_int3
      go_wp2_with fail
      generalize hwq : wr = Wr at *
      clear hwq
      go_loopw [9, 10] (fun v vi w1 => ∃ i : Nat, i ≤ n ∧ vi = .int .i64 i ∧ Hid (w1.ownsRow Wr.heap.size 54 3 v (tris f g m i).length (tcells (tris f g m i))) ∧ Hid (Below Wr.heap.size Wr w1)) (fun _ vi _ => n - (intOf vi).toNat)
      case atStart => exact ⟨0, by omega, rfl, ⟨rfl, .inl ⟨rfl, rfl⟩⟩, Below.refl _ _⟩
      case round =>
        obtain ⟨i, hik, rfl, HR, HB1⟩ := hrel
        by_cases hlt : i < n
        · have HLn := Lib.hid (tris_len f g m h2 i)
          have HTr : Hid (tris f g m (i + 1) = tris f g m i ++ tri f g i m) := Lib.hid rfl
          obtain ⟨x0, hx0⟩ : ∃ x, f (i * 2) = x := ⟨_, rfl⟩
          obtain ⟨x1, hx1⟩ : ∃ x, f (i * 2 + 1) = x := ⟨_, rfl⟩
          have HX0 := Lib.hid hx0
          have HX1 := Lib.hid hx1
          have hin : (i : Int) < (n : Int) := by omega
          clear hx0 hx1
          go_wp2_with fail
          generalize hl : tris f g m i = L0 at HR HLn HTr
          clear hl
          go_loopw [9, 11] (fun v vk w1 => ∃ k : Nat, k ≤ m ∧ vk = .int .i64 k ∧ Hid (w1.ownsRow Wr.heap.size 54 3 v (L0 ++ tri f g i k).length (tcells (L0 ++ tri f g i k))) ∧ Hid (Below Wr.heap.size Wr w1)) (fun _ vk _ => m - (intOf vk).toNat)
          case atStart => exact ⟨0, by omega, rfl, by rw [tri, List.append_nil]; exact HR.out, HB1.out⟩
          case round =>
            obtain ⟨k, hkm, rfl, HR2, HB2⟩ := hrel
            by_cases hlt2 : k < m
            · have hkn : (k : Int) < (m : Int) := by omega
              obtain ⟨b3, o3, rfl, hI3⟩ := HF1.out (by omega)
              obtain ⟨b4, o4, rfl, hI4⟩ := HG1.out (by omega)
              have HY : Hid (∀ W, Below Wr.heap.size Wr W → W.cell? ⟨b3, o3 + i * 2, none⟩ = some (.int .i64 x0) ∧ W.cell? ⟨b3, o3 + i * 2 + 1, none⟩ = some (.int .i64 x1) ∧ W.cell? ⟨b4, o4 + k * 2, none⟩ = some (.int .i64 (g (k * 2))) ∧ W.cell? ⟨b4, o4 + k * 2 + 1, none⟩ = some (.int .i64 (g (k * 2 + 1)))) := fun W hb => by
                have hJ3 := hI3.keep hb (hI3.lt (by omega))
                have hJ4 := hI4.keep hb (hI4.lt (by omega))
                refine ⟨?_, ?_, ?_, ?_⟩
                · rw [← HX0.out]; exact hJ3 (i * 2) (by omega)
                · rw [← HX1.out]; exact hJ3.at (i * 2) 1 (by omega)
                · exact hJ4 (k * 2) (by omega)
                · exact hJ4.at (k * 2) 1 (by omega)
              clear hI3 hI4
              have hTl := tri_len f g i k
              have HTs : Hid (L0 ++ tri f g i (k + 1) = (L0 ++ tri f g i k) ++ if g (k * 2) = x1 then [(x0, x1, g (k * 2 + 1))] else []) := by rw [tri, HX0.out, HX1.out, List.append_assoc]; exact Lib.hid rfl
              have hLl : (L0 ++ tri f g i k).length ≤ 24 * i + k := by have := HLn.out; rw [List.length_append]; omega
              generalize L0 ++ tri f g i k = L at HR2 HTs hLl
              generalize g (k * 2) = y0 at HY HTs
              generalize g (k * 2 + 1) = y1 at HY HTs
              obtain ⟨d0, d1, e0, e1⟩ := HY.out wr HB2.out
              clear hTl
              by_cases he : y0 = x1
              · subst he
                have hts := HTs.out
                rw [if_pos rfl] at hts
                have HTt := Lib.hid hts
                clear hts HTs
                go_upto_region 21 with fail
                go_quiet (fail)
                have hBd := below_drewN HB2.out nq
                have hRd := own_below HR2.out (below_drewN (Below.refl wr.heap.size wr) nq)
                clear d0 d1 e0 e1
                generalize wr.drewN nq = Wd at hBd hRd ⊢
                obtain ⟨d0, d1, e0, e1⟩ := HY.out Wd hBd
                have HBd := Lib.hid hBd
                have HRd := Lib.hid hRd
                have hss := hBd.size
                have HA := Lib.hid ((hBd.drew).alloc hss (.cells #[.int .i64 x0, .int .i64 y0, .int .i64 y1] 54))
                have HN0 := Lib.hid (HY.out Wd.drew hBd.drew)
                have HNA := Lib.hid (HY.out _ HA.out)
                have HNA2 := Lib.hid (HY.out _ (hBd.alloc hss (.cells #[.int .i64 x0, .int .i64 y0, .int .i64 y1] 54)).drew)
                have hnews : ∀ j u, [Value.int .i64 x0, .int .i64 y0, .int .i64 y1][j]? = some u → (Wd.alloc (.cells #[.int .i64 x0, .int .i64 y0, .int .i64 y1] 54)).drew.cell? ((⟨Wd.heap.size, 0, none⟩ : Addr).add j) = some u := World.news_of_block (w := (Wd.alloc (.cells #[.int .i64 x0, .int .i64 y0, .int .i64 y1] 54)).drew) (heap_alloc_new Wd _)
                have HNews := Lib.hid hnews
                clear hBd hRd hnews
                go_wp2_with fail
                go_region_held3 (fun W' => W'.cell? ⟨b3, o3 + i * 2, none⟩ = some (.int .i64 x0) ∧ W'.cell? ⟨b3, o3 + i * 2 + 1, none⟩ = some (.int .i64 y0) ∧ W'.cell? ⟨b4, o4 + k * 2, none⟩ = some (.int .i64 y0) ∧ W'.cell? ⟨b4, o4 + k * 2 + 1, none⟩ = some (.int .i64 y1))
                  (first | (with_reducible exact HN0.out) | (with_reducible exact HNA.out) | (with_reducible exact HNA2.out) | (with_reducible exact hN5))
                  ((refine step_append_lies _ (by rfl) _ _ 51 (by rfl) Wr.heap.size 54 i0 (.agg #[.int .i64 0, .int .i64 0, .int .i64 0]) 3 24 Tryz.underlying51 hi hz0 hz1 hz2 rfl (by decide) u9 L.length (tcells L) (by simp [Act.eval]) (HRd.out.alloc _) ⟨Wd.heap.size, 0, none⟩ 1 1 [.int .i64 x0, .int .i64 y0, .int .i64 y1] (by simp [Act.eval]) rfl HNews.out (by simp [Value.oneCell']) (by decide) (by unfold maxLen; omega) (by omega) (by simp; omega) _ rfl ?_; intro g2 cap2 w3 hown3 hg3 hat3 hlt3; (have hD3 : Below Wr.heap.size Wr w3 := ((HBd.out.alloc hss _).drew).grown hg3 (by simp; omega) (fun j hj => (HRd.out.lt j hj).1)); (have hN5 := HY.out w3 hD3)))
                go_wp2
                refine ⟨⟨k + 1, by omega, by go_num, ?_, hD3⟩, by simp [intOf]; omega⟩
                rw [HTt.out, List.length_append, tcells_app, tcells_one]
                exact hown3
              · have hts := HTs.out
                rw [if_neg he, List.append_nil] at hts
                have HTt := Lib.hid hts
                have he2 : ¬ x1 = y0 := fun e => he e.symm
                clear hts HTs
                go_upto_region 21 with fail
                go_quiet (fail)
                have HBd := Lib.hid (below_drewN HB2.out nq)
                have HRd := Lib.hid (own_below HR2.out (below_drewN (Below.refl wr.heap.size wr) nq))
                go_wp2_with fail
                refine ⟨⟨k + 1, by omega, by go_num, ?_, HBd.out⟩, by simp [intOf]; omega⟩
                rw [HTt.out]
                exact HRd.out
            · obtain rfl : k = m := by omega
              go_wp2_with fail
              exact ⟨⟨i + 1, by omega, by go_num, by rw [HTr.out]; exact HR2.out, HB2.out⟩, by simp [intOf]; omega⟩
        · obtain rfl : i = n := by omega
          obtain ⟨x, c, rfl, hx⟩ := own_Sl3 HR.out
          have HX := Lib.hid hx
          clear hx
          go_wp2_with fail
          (try simp only [Exit.inBlock, Exit.then])
          refine bodyPost_ret (v := .tuple #[.slice x (tris f g m i).length c, .int .i64 0]) (by simp [results, Tryz.f23, go_sem]) rfl ?_
          refine ⟨x, c, ?_, ?_, HB9.out.trans (HB1.out.mono HB9.out.size)⟩
          · rw [HT.out, HE0.out]
          · rw [HT.out]; exact HX.out
end Go.Proofs.YtlbffdgojmjijaaGreatDoor
