/-
  WALKS: strength: exact quotients; failure for the example of chapter 9.
-/
import Derived.Test.YtlphlbgbbblnpaaGreatDoorStV
namespace Go.Proofs.YtlphlbgbbblnpaaGreatDoor
open Go.RowKit

theorem squot_ex (w : World) (v1 v2 : Value) (R D c : Int) (h1 : Dy.Nm w v1 (Dy.mk R 0)) (h2 : Dy.Nm w v2 (Dy.mk D 0)) (hR : 0 ≤ R ∧ R < 9223372036854775808) (hD : 0 < D ∧ D < 9223372036854775808) (hc0 : 0 ≤ c) (hc : R = c * D) (he : ¬(D % 2097152 = 0)) (hT : Dy.Tab w) :
    Calls Tryz.prog 65 #[v1, v2, .int .i64 20] w (Dy.Ret w fun w' v => SpI w' v c c) := by
  obtain ⟨R', rfl⟩ : ∃ n : Nat, R = (n : Int) := ⟨R.toNat, by omega⟩
  obtain ⟨D', rfl⟩ : ∃ n : Nat, D = (n : Int) := ⟨D.toNat, by omega⟩
  obtain ⟨c', rfl⟩ : ∃ n : Nat, c = (n : Int) := ⟨c.toNat, by omega⟩
  exact squot_of w v1 v2 20 _ _ _ _ h1 h2 fun V hV => quo_ex V v1 v2 R' D' c' (h1.keep hV) (h2.keep hV) (by rw [← Int.natCast_mul] at hc; exact Int.ofNat.inj hc) (by omega) (by omega) (by omega) (by omega) (hT.keep hV)
theorem quo_zero2 (w : World) (v1 v2 : Value) (a : Nat) (h1 : Dy.Nm w v1 (Dy.mk 0 0)) (h2 : Dy.Nm w v2 (Dy.mk (a : Int) (-20))) (h0 : a ≠ 0) (ha : a < 2 ^ 41) (hT : Dy.Tab w) :
    Calls Tryz.prog 100 #[v1, v2, .int .i64 20] w (Dy.Ret2 w fun w' v e => e = .int .i64 0 ∧ SpI w' v 0 0) := by
  obtain ⟨a1, p1, n1, k1, e1, m1, rfl, hn1, hc1⟩ := h1.fields
  obtain ⟨a2, p2, n2, k2, e2, m2, rfl, hn2, hc2⟩ := h2.fields
  obtain ⟨rfl, j, rfl, hD2, ho2⟩ := odd_split20 hc2 h0
  have hj : j ≤ 40 := by
    rcases Nat.lt_or_ge 40 j with h | h
    · exfalso
      have h3 : 2 ^ 41 ≤ 2 ^ j := Nat.pow_le_pow_right (by omega) (by omega)
      have h4 : 1 * 2 ^ j ≤ m2 * 2 ^ j := Nat.mul_le_mul_right _ (by omega)
      omega
    · exact h
  have hm2 : m2 ≤ a := by rw [hD2]; exact Nat.le_mul_of_pos_right _ (Nat.two_pow_pos _)
  have hn0 : n2 ≠ 0 := fun e => by
    have := hn2.len_zero.1 e
    omega
  obtain ⟨rfl, rfl, rfl⟩ : m1 = 0 ∧ a1 = false ∧ e1 = 0 := by
    rcases hc1 with ⟨rfl, rfl, rfl, _⟩ | ⟨ho, hx⟩
    · exact ⟨rfl, rfl, rfl⟩
    · exfalso
      have h9 : Dy.mk 0 0 = 0 := rfl
      rw [h9] at hx
      exact Dy.mk_ne_zero (Dy.sg_odd ho) hx.symm
  obtain ⟨s, hs⟩ : ∃ s : Nat, j + s = 40 := ⟨40 - j, by omega⟩
  have hz : 0 * 2 ^ s = 0 := Nat.zero_mul _
  have hq2 : m2 * 2 ^ 0 = m2 := by simp
  refine (Dy.quo_main w false false p1 p2 n1 k1 n2 k2 0 ((j : Int) - 20) 20 s 0 m2 s 0 2 hn0 (by omega) (by omega) (by omega) (by decide) (by decide) hn1 hn2 (Dy.len_two (A := 63) (by decide) (by decide)) (Dy.len_two (A := 63) (by omega) (by decide)) (Dy.len_two (A := 83) (by rw [hz]; decide) (by decide)) (by decide) (Dy.len_two (A := 63) (by rw [hq2]; omega) (by decide)) (by rw [hq2]; omega) (by omega) (by decide) (by decide) (by decide) (by omega) (by omega) hT).mono ?_
  rintro e w' ⟨v, e', rfl, ⟨rfl, hs9⟩, hb⟩
  rw [hz, Nat.zero_mod, Nat.zero_div] at hs9
  exact ⟨v, _, rfl, ⟨rfl, hs9⟩, hb⟩
theorem sdivz (w : World) (v v' : Value) (r r' : Nat) (h : SpI w v 0 0) (h' : Dy.Sp w v' (Dy.mk (r : Int) (-20)) (Dy.mk (r' : Int) (-20))) (hr : 0 < r ∧ r < 2 ^ 40) (hr' : 0 < r' ∧ r' < 2 ^ 41) (hT : Dy.Tab w) :
    Calls Tryz.prog 131 #[v, v', .int .i64 20] w (Dy.Ret w fun w' v => SpI w' v 0 0) := by
  refine divided_of w v v' 20 0 _ _ _ _ h h' fun V hV => ?_
  refine div_same V v v' _ _ _ _ 0 20 (by decide) (Dy.Sp.keep h hV) (Dy.Sp.keep h' hV) ⟨_, rfl, by omega⟩ (by rw [← mk0, mk_sub]; exact (sgn_mkE _ _).2.2 (by omega)) (hT.keep hV) ?_
  intro V2 u u' x y hu hu' hT2 hx hy
  have hx0 : x = Dy.mk 0 0 := by rcases hx with h | h <;> exact h
  subst hx0
  rcases hy with rfl | rfl
  · exact quo_zero2 V2 u u' r hu hu' (by omega) (by omega) hT2
  · exact quo_zero2 V2 u u' r' hu hu' (by omega) (by omega) hT2
theorem sdiv1 (w : World) (v v' : Value) (c : Int) (h : SpI w v c c) (h' : SpI w v' 1 1) (hc : 0 ≤ c ∧ c < 1099511627776) (hT : Dy.Tab w) :
    Calls Tryz.prog 131 #[v, v', .int .i64 20] w (Dy.Ret w fun w' v => SpI w' v c c) := by
  obtain ⟨c', rfl⟩ : ∃ n : Nat, c = (n : Int) := ⟨c.toNat, by omega⟩
  refine divided_of w v v' 20 _ _ _ _ _ h h' fun V hV => ?_
  refine div_same V v v' _ _ _ _ (c' : Int) 20 (by omega) (Dy.Sp.keep h hV) (Dy.Sp.keep h' hV) ?_ ?_ (hT.keep hV) ?_
  · rw [mk20]; exact ⟨_, rfl, by decide⟩
  · rw [mk_sub]; exact (sgn_mk _).2.2 (by decide)
  intro V2 u u' x y hu hu' hT2 hx hy
  have hx0 : x = Dy.mk (c' : Int) 0 := by rcases hx with h | h <;> exact h
  have hy0 : y = Dy.mk ((1 : Nat) : Int) 0 := by rcases hy with h | h <;> exact h
  subst hx0 hy0
  exact quo_ex V2 u u' c' 1 c' hu hu' (by omega) (by omega) (by decide) (by decide) (by decide) hT2
theorem ssub1 (w : World) (v v' : Value) (x y c : Int) (h : SpI w v x x) (h' : SpI w v' y y) (hx : x.natAbs < 109951162777) (hy : y.natAbs < 109951162777) (hc : x - y = c) (hT : Dy.Tab w) :
    Calls Tryz.prog 130 #[v, v'] w (Dy.Ret w fun w' v => SpI w' v c c) := by
  have h9 := ssub_int w v v' x x y y h h' hx hx hy hy hT
  rw [hc] at h9
  exact h9
set_option maxRecDepth 100000 in
set_option maxHeartbeats 16000000 in
theorem sfail_of (w : World) (b c : Nat) (hb : StpB w b) (hT : Dy.Tab w) :
    Calls Tryz.prog 90 #[.agg #[.int .i64 1000, .int .i64 10000, .int .i64 400000], .slice (some ⟨b, 0, none⟩) 1 c, .int .i64 20] w (Dy.Ret w fun w' v => SpI w' v 8000 8000) := by
  have hF1 : ∀ f, Fence.wide.fn f := fun _ => trivial
  have HT := Lib.hid hT
  have hSt0 := hb
  clear hT hb
  go_enter Tryz.func90, Tryz.ntmps90
  go_upto_region 1 with fail
  obtain ⟨W, hW⟩ : ∃ W, (w.alloc (.cells #[.int .i64 1000, .int .i64 10000, .int .i64 400000] 114)).alloc (.cells #[.bool false, .slice none 0 0, .int .i64 0, .bool false, .slice none 0 0, .int .i64 0] 116) = W := ⟨_, rfl⟩
  rw [hW]
  have hB : Below w.heap.size w W := by rw [← hW]; exact ((Below.refl _ _).alloc (Nat.le_refl _) _).alloc (by simp) _
  have hP : W.heap[w.heap.size]? = some (.cells #[.int .i64 1000, .int .i64 10000, .int .i64 400000] 114 (0, 0)) := by rw [← hW]; exact al_old (World.alloc_heap_new w _) _
  have hR : W.heap[w.heap.size + 1]? = some (.cells #[.bool false, .slice none 0 0, .int .i64 0, .bool false, .slice none 0 0, .int .i64 0] 116 (0, 0)) := by rw [← hW]; exact al_1 w _ _
  have HB := Lib.hid hB
  have HP := Lib.hid hP
  have HR := Lib.hid hR
  have HSt := Lib.hid (StpB.keep hSt0 hB)
  clear hW hB hP hR hSt0
  go_wp2_with fail
  go_loopw [7, 15] (fun vs vi wr => ∃ i : Nat, i ≤ 1 ∧ vi = .int .i64 i ∧ vs = .int .i64 0 ∧ Hid (Below W.heap.size W wr)) (fun _ vi _ => 1 - (intOf vi).toNat)
  case atStart => exact ⟨0, by omega, rfl, rfl, Below.refl _ _⟩
  case round =>
    obtain ⟨i, hi, rfl, rfl, HBr⟩ := hrel
    rcases (by omega : i = 0 ∨ i = 1) with rfl | rfl
    · obtain ⟨d0, d1, d2⟩ := HSt.out.keep HBr.out
      go_wp2_with fail
      exact ⟨⟨1, by omega, rfl, rfl, HBr.out.alloc HBr.out.size _⟩, by simp [intOf]⟩
    replace HP := Lib.hid (blk1 HP.out HBr.out)
    replace HR := Lib.hid (blk1 HR.out HBr.out)
    replace HSt := Lib.hid (StpB.keep HSt.out HBr.out)
    replace HB := Lib.hid (low_trans HB.out HBr.out)
    clear HBr
    go_upto_region 7 with fail
    have HKS : Hid (∀ V, Below wr.heap.size wr V → V.cell? ⟨w.heap.size, 0, none⟩ = some (.int .i64 1000) ∧ V.cell? ⟨w.heap.size, 1, none⟩ = some (.int .i64 10000) ∧ V.cell? ⟨w.heap.size, 2, none⟩ = some (.int .i64 400000)) := fun V hV => ⟨cell_h (blk1 HP.out hV) rfl, cell_h (blk1 HP.out hV) rfl, cell_h (blk1 HP.out hV) rfl⟩
    go_cut [10] (fun s wx => ∃ (K : Nat) (b4 : Bool) (q4 : Option Addr) (l4 c4 : Nat) (f4 : Int) (B4 : Bool) (Q4 : Option Addr) (L4 C4 : Nat) (F4 : Int), s = .pointer (some ⟨K, 0, none⟩) ∧ wx.heap[K]? = some (.cells #[.bool b4, .slice q4 l4 c4, .int .i64 f4, .bool B4, .slice Q4 L4 C4, .int .i64 F4] 116 (0, 0)) ∧ SpI wx (.agg #[.bool b4, .slice q4 l4 c4, .int .i64 f4, .bool B4, .slice Q4 L4 C4, .int .i64 F4]) 0 0 ∧ Below wr.heap.size wr wx)
    case first =>
      have hSt := HSt.out
      have ww1 : IntKind.i64.wrap 1000000 = 1000000 := by rfl
      refine (wpIn_wide (n := 5)).1 ?_
      refine wpIn_region_T 11 (fun W2 : World => W2.cell? ⟨w.heap.size, 0, none⟩ = some (.int .i64 1000) ∧ W2.cell? ⟨w.heap.size, 1, none⟩ = some (.int .i64 10000) ∧ W2.cell? ⟨w.heap.size, 2, none⟩ = some (.int .i64 400000)) (by kernel_rfl) ?_
      change anyT _ _ _ _ _ _ _ _ 12 (Array.replicate 12 false) _ _
      have hqd : Below wr.heap.size wr wr.drew := (Below.refl _ _).drew
      have hStd := StpB.keep hSt hqd
      generalize wr.drew = Wd at *
      have hS0 := HKS.out Wd hqd
      refine anyT_takeD hF1 0 30 (v := ?_) rfl rfl (by kernel_rfl) (by kernel_rfl) (by kernel_rfl) (by kernel_rfl) (by kernel_rfl) (fun _ _ _ h => h) hS0 rfl ?_ ?_
      rotate_left
      · intro W2 hSw; obtain ⟨r0, r1, r2⟩ := hSw; go_simp; try with_reducible rfl
      simp only [List.setIfInBounds_toArray, List.set_cons_zero, List.set_cons_succ]
      refine anyT_takeD hF1 2 32 (v := ?_) rfl rfl (by kernel_rfl) (by kernel_rfl) (by kernel_rfl) (by kernel_rfl) (by kernel_rfl) (fun _ _ _ h => h) hS0 rfl ?_ ?_
      rotate_left
      · intro W2 hSw; obtain ⟨r0, r1, r2⟩ := hSw; go_simp; try with_reducible rfl
      simp only [List.setIfInBounds_toArray, List.set_cons_zero, List.set_cons_succ]
      refine anyT_takeD hF1 3 33 (v := ?_) rfl rfl (by kernel_rfl) (by kernel_rfl) (by kernel_rfl) (by kernel_rfl) (by kernel_rfl) (fun _ _ _ h => h) hS0 rfl ?_ ?_
      rotate_left
      · intro W2 hSw; obtain ⟨r0, r1, r2⟩ := hSw; go_simp; try with_reducible rfl
      simp only [List.setIfInBounds_toArray, List.set_cons_zero, List.set_cons_succ]
      refine anyT_takeD hF1 4 34 (v := ?_) rfl rfl (by kernel_rfl) (by kernel_rfl) (by kernel_rfl) (by kernel_rfl) (by kernel_rfl) (fun _ _ _ h => h) hS0 rfl ?_ ?_
      rotate_left
      · intro W2 hSw; obtain ⟨r0, r1, r2⟩ := hSw; go_simp; try with_reducible rfl
      simp only [List.setIfInBounds_toArray, List.set_cons_zero, List.set_cons_succ]
      refine anyT_takeD hF1 8 38 (v := ?_) rfl rfl (by kernel_rfl) (by kernel_rfl) (by kernel_rfl) (by kernel_rfl) (by kernel_rfl) (fun _ _ _ h => h) hS0 rfl ?_ ?_
      rotate_left
      · intro W2 hSw; obtain ⟨r0, r1, r2⟩ := hSw; go_simp; try with_reducible rfl
      simp only [List.setIfInBounds_toArray, List.set_cons_zero, List.set_cons_succ]
      refine anyT_l [1, 10] (by kernel_rfl) (by decide) ⟨?_, ?_, trivial⟩
      · skip
        refine opT_call hF1 (fun h => absurd h (by decide)) 1 31 (w := Wd) rfl rfl (by kernel_rfl) (by rfl) (by go_simp; try with_reducible rfl; try decide) (callsIn_wide.2 (snumber_of Wd 0 (by unfold Dy.I64; omega) (HT.out.keep (low_trans HB.out hqd)))) ?_
        rintro e9 V1x1 ⟨v1, rfl, hv1, hb1⟩
        replace hqd := low_trans hqd hb1
        replace hS0 := HKS.out V1x1 hqd
        replace hStd := StpB.keep hStd hb1
        obtain ⟨b1, q1, l1, c1, f1, m1, rfl, _, _⟩ := id (Dy.Nm.fields hv1)
        have hv1d := hv1
        refine ⟨_, rfl, hS0, ?_⟩
        simp only [List.setIfInBounds_toArray, List.set_cons_zero, List.set_cons_succ]
        refine anyT_l [5, 10] (by kernel_rfl) (by decide) ⟨?_, ?_, trivial⟩
        · skip
          refine opT_call hF1 (fun h => absurd h (by decide)) 5 35 (w := V1x1) rfl rfl (by kernel_rfl) (by rfl) (by go_simp; try with_reducible rfl; try decide) (callsIn_wide.2 (sextent_of V1x1 b c hStd.c0 hStd.c1)) ?_
          rintro e9 V2x2 ⟨rfl, hb2⟩
          replace hqd := low_trans hqd hb2
          replace hS0 := HKS.out V2x2 hqd
          replace hStd := StpB.keep hStd hb2
          replace hv1d := Dy.Nm.keep hv1d hb2
          refine ⟨_, rfl, hS0, ?_⟩
          simp only [List.setIfInBounds_toArray, List.set_cons_zero, List.set_cons_succ]
          refine anyT_takeD hF1 6 36 (v := ?_) rfl rfl (by kernel_rfl) (by kernel_rfl) (by kernel_rfl) (by kernel_rfl) (by kernel_rfl) (fun _ _ _ h => h) hS0 rfl ?_ ?_
          rotate_left
          · intro W2 hSw; obtain ⟨r0, r1, r2⟩ := hSw; go_simp; try with_reducible rfl
          simp only [List.setIfInBounds_toArray, List.set_cons_zero, List.set_cons_succ]
          refine anyT_l [7, 10] (by kernel_rfl) (by decide) ⟨?_, ?_, trivial⟩
          · skip
            refine opT_call hF1 (fun h => absurd h (by decide)) 7 37 (w := V2x2) rfl rfl (by kernel_rfl) (by rfl) (by go_simp; try with_reducible rfl; try decide) (callsIn_wide.2 (snumber_of V2x2 1000000 (by unfold Dy.I64; omega) (HT.out.keep (low_trans HB.out hqd)))) ?_
            rintro e9 V3x3 ⟨v3, rfl, hv3, hb3⟩
            replace hqd := low_trans hqd hb3
            replace hS0 := HKS.out V3x3 hqd
            replace hStd := StpB.keep hStd hb3
            replace hv1d := Dy.Nm.keep hv1d hb3
            obtain ⟨b3, q3, l3, c3, f3, m3, rfl, _, _⟩ := id (Dy.Nm.fields hv3)
            have hv3d := hv3
            refine ⟨_, rfl, hS0, ?_⟩
            simp only [List.setIfInBounds_toArray, List.set_cons_zero, List.set_cons_succ]
            refine anyT_l [9, 10] (by kernel_rfl) (by decide) ⟨?_, ?_, trivial⟩
            · skip
              refine opT_call hF1 (fun h => absurd h (by decide)) 9 39 (w := V3x3) rfl rfl (by kernel_rfl) (by rfl) (by go_simp; try with_reducible rfl; try decide) (callsIn_wide.2 (squot_ex V3x3 _ _ 0 1000000 0 hv1d hv3d (by decide) (by decide) (by decide) (by decide) (by decide) (HT.out.keep (low_trans HB.out hqd)))) ?_
              rintro e9 V4x4 ⟨v4, rfl, hv4, hb4⟩
              replace hqd := low_trans hqd hb4
              replace hS0 := HKS.out V4x4 hqd
              replace hStd := StpB.keep hStd hb4
              replace hv1d := Dy.Nm.keep hv1d hb4
              replace hv3d := Dy.Nm.keep hv3d hb4
              obtain ⟨b4, q4, l4, c4, f4, B4, Q4, L4, C4, F4, rfl, _, _⟩ := id hv4
              have hv4d := hv4
              refine ⟨_, rfl, hS0, ?_⟩
              simp only [List.setIfInBounds_toArray, List.set_cons_zero, List.set_cons_succ]
              refine anyT_l [10] (by kernel_rfl) (by decide) ⟨?_, trivial⟩
              refine opT_val hF1 10 10 (w2 := V4x4.alloc (.cells #[.bool false, .slice none 0 0, .int .i64 0, .bool false, .slice none 0 0, .int .i64 0] 116)) (v := .pointer (some ⟨V4x4.heap.size, 0, none⟩)) rfl rfl (by kernel_rfl) rfl (by go_simp; try with_reducible rfl) (HKS.out _ (low_trans hqd ((Below.refl V4x4.heap.size V4x4).alloc (Nat.le_refl _) _))) ?_
              simp only [List.setIfInBounds_toArray, List.set_cons_zero, List.set_cons_succ]
              have hba := (Below.refl V4x4.heap.size V4x4).alloc (Nat.le_refl _) (.cells #[.bool false, .slice none 0 0, .int .i64 0, .bool false, .slice none 0 0, .int .i64 0] 116)
              have hzK := World.alloc_heap_new V4x4 (.cells #[.bool false, .slice none 0 0, .int .i64 0, .bool false, .slice none 0 0, .int .i64 0] 116)
              have hkK := hqd.size
              replace hqd := low_trans hqd hba
              replace hS0 := HKS.out _ hqd
              replace hStd := StpB.keep hStd hba
              replace hv1d := Dy.Nm.keep hv1d hba
              replace hv3d := Dy.Nm.keep hv3d hba
              replace hv4d := Dy.Sp.keep hv4d hba
              generalize V4x4.alloc (.cells #[.bool false, .slice none 0 0, .int .i64 0, .bool false, .slice none 0 0, .int .i64 0] 116) = K5 at *
              have z0 := cell_h (k := 0) hzK rfl
              have z1 := cell_h (k := 1) hzK rfl
              have z2 := cell_h (k := 2) hzK rfl
              have z3 := cell_h (k := 3) hzK rfl
              have z4 := cell_h (k := 4) hzK rfl
              have z5 := cell_h (k := 5) hzK rfl
              have zf : ∀ o, K5.frozen? ⟨V4x4.heap.size, o, none⟩ = false := fun o => by simp [World.frozen?, hzK]
              have hst := set6_all (b1 := b4) (q1 := q4) (l1 := l4) (c1 := c4) (f1 := f4) (b2 := B4) (q2 := Q4) (l2 := L4) (c2 := C4) (f2 := F4) hzK hqd hkK
              refine anyT_skipN hF1 (w2 := ((((((K5).setCell ⟨V4x4.heap.size, 0, none⟩ (.bool b4)).setCell ⟨V4x4.heap.size, 1, none⟩ (.slice q4 l4 c4)).setCell ⟨V4x4.heap.size, 2, none⟩ (.int .i64 f4)).setCell ⟨V4x4.heap.size, 3, none⟩ (.bool B4)).setCell ⟨V4x4.heap.size, 4, none⟩ (.slice Q4 L4 C4)).setCell ⟨V4x4.heap.size, 5, none⟩ (.int .i64 F4)) rfl rfl (by kernel_rfl) (by kernel_rfl) rfl (by go_simp; try with_reducible rfl) ?_
              refine anyT_done (by kernel_rfl) ?_ _
              clear z0 z1 z2 zf z3 z4 z5
              generalize hW9 : ((((((K5).setCell ⟨V4x4.heap.size, 0, none⟩ (.bool b4)).setCell ⟨V4x4.heap.size, 1, none⟩ (.slice q4 l4 c4)).setCell ⟨V4x4.heap.size, 2, none⟩ (.int .i64 f4)).setCell ⟨V4x4.heap.size, 3, none⟩ (.bool B4)).setCell ⟨V4x4.heap.size, 4, none⟩ (.slice Q4 L4 C4)).setCell ⟨V4x4.heap.size, 5, none⟩ (.int .i64 F4) = Y0z5
              obtain ⟨hR9, hB9, hS9, hN9⟩ := hst _ hW9
              go_wp2_with fail
              go_meet
              exact ⟨V4x4.heap.size, _, _, _, _, _, _, _, _, _, _, rfl, hR9, hS9 _ _ _ hv4d, hB9⟩
            · skip
              refine opT_val hF1 10 10 (w2 := V3x3.alloc (.cells #[.bool false, .slice none 0 0, .int .i64 0, .bool false, .slice none 0 0, .int .i64 0] 116)) (v := .pointer (some ⟨V3x3.heap.size, 0, none⟩)) rfl rfl (by kernel_rfl) rfl (by go_simp; try with_reducible rfl) (HKS.out _ (low_trans hqd ((Below.refl V3x3.heap.size V3x3).alloc (Nat.le_refl _) _))) ?_
              simp only [List.setIfInBounds_toArray, List.set_cons_zero, List.set_cons_succ]
              have hba := (Below.refl V3x3.heap.size V3x3).alloc (Nat.le_refl _) (.cells #[.bool false, .slice none 0 0, .int .i64 0, .bool false, .slice none 0 0, .int .i64 0] 116)
              have hzK := World.alloc_heap_new V3x3 (.cells #[.bool false, .slice none 0 0, .int .i64 0, .bool false, .slice none 0 0, .int .i64 0] 116)
              have hkK := hqd.size
              replace hqd := low_trans hqd hba
              replace hS0 := HKS.out _ hqd
              replace hStd := StpB.keep hStd hba
              replace hv1d := Dy.Nm.keep hv1d hba
              replace hv3d := Dy.Nm.keep hv3d hba
              generalize V3x3.alloc (.cells #[.bool false, .slice none 0 0, .int .i64 0, .bool false, .slice none 0 0, .int .i64 0] 116) = K6 at *
              refine anyT_l [9] (by kernel_rfl) (by decide) ⟨?_, trivial⟩
              refine opT_call hF1 (fun h => absurd h (by decide)) 9 39 (w := K6) rfl rfl (by kernel_rfl) (by rfl) (by go_simp; try with_reducible rfl; try decide) (callsIn_wide.2 (squot_ex K6 _ _ 0 1000000 0 hv1d hv3d (by decide) (by decide) (by decide) (by decide) (by decide) (HT.out.keep (low_trans HB.out hqd)))) ?_
              rintro e9 V4x7 ⟨v4, rfl, hv4, hb4⟩
              replace hqd := low_trans hqd hb4
              replace hS0 := HKS.out V4x7 hqd
              replace hStd := StpB.keep hStd hb4
              replace hv1d := Dy.Nm.keep hv1d hb4
              replace hv3d := Dy.Nm.keep hv3d hb4
              replace hzK := blk1 hzK hb4
              obtain ⟨b4, q4, l4, c4, f4, B4, Q4, L4, C4, F4, rfl, _, _⟩ := id hv4
              have hv4d := hv4
              refine ⟨_, rfl, hS0, ?_⟩
              simp only [List.setIfInBounds_toArray, List.set_cons_zero, List.set_cons_succ]
              have z0 := cell_h (k := 0) hzK rfl
              have z1 := cell_h (k := 1) hzK rfl
              have z2 := cell_h (k := 2) hzK rfl
              have z3 := cell_h (k := 3) hzK rfl
              have z4 := cell_h (k := 4) hzK rfl
              have z5 := cell_h (k := 5) hzK rfl
              have zf : ∀ o, V4x7.frozen? ⟨V3x3.heap.size, o, none⟩ = false := fun o => by simp [World.frozen?, hzK]
              have hst := set6_all (b1 := b4) (q1 := q4) (l1 := l4) (c1 := c4) (f1 := f4) (b2 := B4) (q2 := Q4) (l2 := L4) (c2 := C4) (f2 := F4) hzK hqd hkK
              refine anyT_skipN hF1 (w2 := ((((((V4x7).setCell ⟨V3x3.heap.size, 0, none⟩ (.bool b4)).setCell ⟨V3x3.heap.size, 1, none⟩ (.slice q4 l4 c4)).setCell ⟨V3x3.heap.size, 2, none⟩ (.int .i64 f4)).setCell ⟨V3x3.heap.size, 3, none⟩ (.bool B4)).setCell ⟨V3x3.heap.size, 4, none⟩ (.slice Q4 L4 C4)).setCell ⟨V3x3.heap.size, 5, none⟩ (.int .i64 F4)) rfl rfl (by kernel_rfl) (by kernel_rfl) rfl (by go_simp; try with_reducible rfl) ?_
              refine anyT_done (by kernel_rfl) ?_ _
              clear z0 z1 z2 zf z3 z4 z5
              generalize hW9 : ((((((V4x7).setCell ⟨V3x3.heap.size, 0, none⟩ (.bool b4)).setCell ⟨V3x3.heap.size, 1, none⟩ (.slice q4 l4 c4)).setCell ⟨V3x3.heap.size, 2, none⟩ (.int .i64 f4)).setCell ⟨V3x3.heap.size, 3, none⟩ (.bool B4)).setCell ⟨V3x3.heap.size, 4, none⟩ (.slice Q4 L4 C4)).setCell ⟨V3x3.heap.size, 5, none⟩ (.int .i64 F4) = Y0z7
              obtain ⟨hR9, hB9, hS9, hN9⟩ := hst _ hW9
              go_wp2_with fail
              go_meet
              exact ⟨V3x3.heap.size, _, _, _, _, _, _, _, _, _, _, rfl, hR9, hS9 _ _ _ hv4d, hB9⟩
          · skip
            refine opT_val hF1 10 10 (w2 := V2x2.alloc (.cells #[.bool false, .slice none 0 0, .int .i64 0, .bool false, .slice none 0 0, .int .i64 0] 116)) (v := .pointer (some ⟨V2x2.heap.size, 0, none⟩)) rfl rfl (by kernel_rfl) rfl (by go_simp; try with_reducible rfl) (HKS.out _ (low_trans hqd ((Below.refl V2x2.heap.size V2x2).alloc (Nat.le_refl _) _))) ?_
            simp only [List.setIfInBounds_toArray, List.set_cons_zero, List.set_cons_succ]
            have hba := (Below.refl V2x2.heap.size V2x2).alloc (Nat.le_refl _) (.cells #[.bool false, .slice none 0 0, .int .i64 0, .bool false, .slice none 0 0, .int .i64 0] 116)
            have hzK := World.alloc_heap_new V2x2 (.cells #[.bool false, .slice none 0 0, .int .i64 0, .bool false, .slice none 0 0, .int .i64 0] 116)
            have hkK := hqd.size
            replace hqd := low_trans hqd hba
            replace hS0 := HKS.out _ hqd
            replace hStd := StpB.keep hStd hba
            replace hv1d := Dy.Nm.keep hv1d hba
            generalize V2x2.alloc (.cells #[.bool false, .slice none 0 0, .int .i64 0, .bool false, .slice none 0 0, .int .i64 0] 116) = K8 at *
            refine anyT_l [7] (by kernel_rfl) (by decide) ⟨?_, trivial⟩
            refine opT_call hF1 (fun h => absurd h (by decide)) 7 37 (w := K8) rfl rfl (by kernel_rfl) (by rfl) (by go_simp; try with_reducible rfl; try decide) (callsIn_wide.2 (snumber_of K8 1000000 (by unfold Dy.I64; omega) (HT.out.keep (low_trans HB.out hqd)))) ?_
            rintro e9 V3x9 ⟨v3, rfl, hv3, hb3⟩
            replace hqd := low_trans hqd hb3
            replace hS0 := HKS.out V3x9 hqd
            replace hStd := StpB.keep hStd hb3
            replace hv1d := Dy.Nm.keep hv1d hb3
            replace hzK := blk1 hzK hb3
            obtain ⟨b3, q3, l3, c3, f3, m3, rfl, _, _⟩ := id (Dy.Nm.fields hv3)
            have hv3d := hv3
            refine ⟨_, rfl, hS0, ?_⟩
            simp only [List.setIfInBounds_toArray, List.set_cons_zero, List.set_cons_succ]
            refine anyT_l [9] (by kernel_rfl) (by decide) ⟨?_, trivial⟩
            refine opT_call hF1 (fun h => absurd h (by decide)) 9 39 (w := V3x9) rfl rfl (by kernel_rfl) (by rfl) (by go_simp; try with_reducible rfl; try decide) (callsIn_wide.2 (squot_ex V3x9 _ _ 0 1000000 0 hv1d hv3d (by decide) (by decide) (by decide) (by decide) (by decide) (HT.out.keep (low_trans HB.out hqd)))) ?_
            rintro e9 V4x10 ⟨v4, rfl, hv4, hb4⟩
            replace hqd := low_trans hqd hb4
            replace hS0 := HKS.out V4x10 hqd
            replace hStd := StpB.keep hStd hb4
            replace hv1d := Dy.Nm.keep hv1d hb4
            replace hv3d := Dy.Nm.keep hv3d hb4
            replace hzK := blk1 hzK hb4
            obtain ⟨b4, q4, l4, c4, f4, B4, Q4, L4, C4, F4, rfl, _, _⟩ := id hv4
            have hv4d := hv4
            refine ⟨_, rfl, hS0, ?_⟩
            simp only [List.setIfInBounds_toArray, List.set_cons_zero, List.set_cons_succ]
            have z0 := cell_h (k := 0) hzK rfl
            have z1 := cell_h (k := 1) hzK rfl
            have z2 := cell_h (k := 2) hzK rfl
            have z3 := cell_h (k := 3) hzK rfl
            have z4 := cell_h (k := 4) hzK rfl
            have z5 := cell_h (k := 5) hzK rfl
            have zf : ∀ o, V4x10.frozen? ⟨V2x2.heap.size, o, none⟩ = false := fun o => by simp [World.frozen?, hzK]
            have hst := set6_all (b1 := b4) (q1 := q4) (l1 := l4) (c1 := c4) (f1 := f4) (b2 := B4) (q2 := Q4) (l2 := L4) (c2 := C4) (f2 := F4) hzK hqd hkK
            refine anyT_skipN hF1 (w2 := ((((((V4x10).setCell ⟨V2x2.heap.size, 0, none⟩ (.bool b4)).setCell ⟨V2x2.heap.size, 1, none⟩ (.slice q4 l4 c4)).setCell ⟨V2x2.heap.size, 2, none⟩ (.int .i64 f4)).setCell ⟨V2x2.heap.size, 3, none⟩ (.bool B4)).setCell ⟨V2x2.heap.size, 4, none⟩ (.slice Q4 L4 C4)).setCell ⟨V2x2.heap.size, 5, none⟩ (.int .i64 F4)) rfl rfl (by kernel_rfl) (by kernel_rfl) rfl (by go_simp; try with_reducible rfl) ?_
            refine anyT_done (by kernel_rfl) ?_ _
            clear z0 z1 z2 zf z3 z4 z5
            generalize hW9 : ((((((V4x10).setCell ⟨V2x2.heap.size, 0, none⟩ (.bool b4)).setCell ⟨V2x2.heap.size, 1, none⟩ (.slice q4 l4 c4)).setCell ⟨V2x2.heap.size, 2, none⟩ (.int .i64 f4)).setCell ⟨V2x2.heap.size, 3, none⟩ (.bool B4)).setCell ⟨V2x2.heap.size, 4, none⟩ (.slice Q4 L4 C4)).setCell ⟨V2x2.heap.size, 5, none⟩ (.int .i64 F4) = Y0z10
            obtain ⟨hR9, hB9, hS9, hN9⟩ := hst _ hW9
            go_wp2_with fail
            go_meet
            exact ⟨V2x2.heap.size, _, _, _, _, _, _, _, _, _, _, rfl, hR9, hS9 _ _ _ hv4d, hB9⟩
        · skip
          refine opT_val hF1 10 10 (w2 := V1x1.alloc (.cells #[.bool false, .slice none 0 0, .int .i64 0, .bool false, .slice none 0 0, .int .i64 0] 116)) (v := .pointer (some ⟨V1x1.heap.size, 0, none⟩)) rfl rfl (by kernel_rfl) rfl (by go_simp; try with_reducible rfl) (HKS.out _ (low_trans hqd ((Below.refl V1x1.heap.size V1x1).alloc (Nat.le_refl _) _))) ?_
          simp only [List.setIfInBounds_toArray, List.set_cons_zero, List.set_cons_succ]
          have hba := (Below.refl V1x1.heap.size V1x1).alloc (Nat.le_refl _) (.cells #[.bool false, .slice none 0 0, .int .i64 0, .bool false, .slice none 0 0, .int .i64 0] 116)
          have hzK := World.alloc_heap_new V1x1 (.cells #[.bool false, .slice none 0 0, .int .i64 0, .bool false, .slice none 0 0, .int .i64 0] 116)
          have hkK := hqd.size
          replace hqd := low_trans hqd hba
          replace hS0 := HKS.out _ hqd
          replace hStd := StpB.keep hStd hba
          replace hv1d := Dy.Nm.keep hv1d hba
          generalize V1x1.alloc (.cells #[.bool false, .slice none 0 0, .int .i64 0, .bool false, .slice none 0 0, .int .i64 0] 116) = K11 at *
          refine anyT_l [5] (by kernel_rfl) (by decide) ⟨?_, trivial⟩
          refine opT_call hF1 (fun h => absurd h (by decide)) 5 35 (w := K11) rfl rfl (by kernel_rfl) (by rfl) (by go_simp; try with_reducible rfl; try decide) (callsIn_wide.2 (sextent_of K11 b c hStd.c0 hStd.c1)) ?_
          rintro e9 V2x12 ⟨rfl, hb2⟩
          replace hqd := low_trans hqd hb2
          replace hS0 := HKS.out V2x12 hqd
          replace hStd := StpB.keep hStd hb2
          replace hv1d := Dy.Nm.keep hv1d hb2
          replace hzK := blk1 hzK hb2
          refine ⟨_, rfl, hS0, ?_⟩
          simp only [List.setIfInBounds_toArray, List.set_cons_zero, List.set_cons_succ]
          refine anyT_takeD hF1 6 36 (v := ?_) rfl rfl (by kernel_rfl) (by kernel_rfl) (by kernel_rfl) (by kernel_rfl) (by kernel_rfl) (fun _ _ _ h => h) hS0 rfl ?_ ?_
          rotate_left
          · intro W2 hSw; obtain ⟨r0, r1, r2⟩ := hSw; go_simp; try with_reducible rfl
          simp only [List.setIfInBounds_toArray, List.set_cons_zero, List.set_cons_succ]
          refine anyT_l [7] (by kernel_rfl) (by decide) ⟨?_, trivial⟩
          refine opT_call hF1 (fun h => absurd h (by decide)) 7 37 (w := V2x12) rfl rfl (by kernel_rfl) (by rfl) (by go_simp; try with_reducible rfl; try decide) (callsIn_wide.2 (snumber_of V2x12 1000000 (by unfold Dy.I64; omega) (HT.out.keep (low_trans HB.out hqd)))) ?_
          rintro e9 V3x13 ⟨v3, rfl, hv3, hb3⟩
          replace hqd := low_trans hqd hb3
          replace hS0 := HKS.out V3x13 hqd
          replace hStd := StpB.keep hStd hb3
          replace hv1d := Dy.Nm.keep hv1d hb3
          replace hzK := blk1 hzK hb3
          obtain ⟨b3, q3, l3, c3, f3, m3, rfl, _, _⟩ := id (Dy.Nm.fields hv3)
          have hv3d := hv3
          refine ⟨_, rfl, hS0, ?_⟩
          simp only [List.setIfInBounds_toArray, List.set_cons_zero, List.set_cons_succ]
          refine anyT_l [9] (by kernel_rfl) (by decide) ⟨?_, trivial⟩
          refine opT_call hF1 (fun h => absurd h (by decide)) 9 39 (w := V3x13) rfl rfl (by kernel_rfl) (by rfl) (by go_simp; try with_reducible rfl; try decide) (callsIn_wide.2 (squot_ex V3x13 _ _ 0 1000000 0 hv1d hv3d (by decide) (by decide) (by decide) (by decide) (by decide) (HT.out.keep (low_trans HB.out hqd)))) ?_
          rintro e9 V4x14 ⟨v4, rfl, hv4, hb4⟩
          replace hqd := low_trans hqd hb4
          replace hS0 := HKS.out V4x14 hqd
          replace hStd := StpB.keep hStd hb4
          replace hv1d := Dy.Nm.keep hv1d hb4
          replace hv3d := Dy.Nm.keep hv3d hb4
          replace hzK := blk1 hzK hb4
          obtain ⟨b4, q4, l4, c4, f4, B4, Q4, L4, C4, F4, rfl, _, _⟩ := id hv4
          have hv4d := hv4
          refine ⟨_, rfl, hS0, ?_⟩
          simp only [List.setIfInBounds_toArray, List.set_cons_zero, List.set_cons_succ]
          have z0 := cell_h (k := 0) hzK rfl
          have z1 := cell_h (k := 1) hzK rfl
          have z2 := cell_h (k := 2) hzK rfl
          have z3 := cell_h (k := 3) hzK rfl
          have z4 := cell_h (k := 4) hzK rfl
          have z5 := cell_h (k := 5) hzK rfl
          have zf : ∀ o, V4x14.frozen? ⟨V1x1.heap.size, o, none⟩ = false := fun o => by simp [World.frozen?, hzK]
          have hst := set6_all (b1 := b4) (q1 := q4) (l1 := l4) (c1 := c4) (f1 := f4) (b2 := B4) (q2 := Q4) (l2 := L4) (c2 := C4) (f2 := F4) hzK hqd hkK
          refine anyT_skipN hF1 (w2 := ((((((V4x14).setCell ⟨V1x1.heap.size, 0, none⟩ (.bool b4)).setCell ⟨V1x1.heap.size, 1, none⟩ (.slice q4 l4 c4)).setCell ⟨V1x1.heap.size, 2, none⟩ (.int .i64 f4)).setCell ⟨V1x1.heap.size, 3, none⟩ (.bool B4)).setCell ⟨V1x1.heap.size, 4, none⟩ (.slice Q4 L4 C4)).setCell ⟨V1x1.heap.size, 5, none⟩ (.int .i64 F4)) rfl rfl (by kernel_rfl) (by kernel_rfl) rfl (by go_simp; try with_reducible rfl) ?_
          refine anyT_done (by kernel_rfl) ?_ _
          clear z0 z1 z2 zf z3 z4 z5
          generalize hW9 : ((((((V4x14).setCell ⟨V1x1.heap.size, 0, none⟩ (.bool b4)).setCell ⟨V1x1.heap.size, 1, none⟩ (.slice q4 l4 c4)).setCell ⟨V1x1.heap.size, 2, none⟩ (.int .i64 f4)).setCell ⟨V1x1.heap.size, 3, none⟩ (.bool B4)).setCell ⟨V1x1.heap.size, 4, none⟩ (.slice Q4 L4 C4)).setCell ⟨V1x1.heap.size, 5, none⟩ (.int .i64 F4) = Y0z14
          obtain ⟨hR9, hB9, hS9, hN9⟩ := hst _ hW9
          go_wp2_with fail
          go_meet
          exact ⟨V1x1.heap.size, _, _, _, _, _, _, _, _, _, _, rfl, hR9, hS9 _ _ _ hv4d, hB9⟩
      · skip
        refine opT_val hF1 10 10 (w2 := Wd.alloc (.cells #[.bool false, .slice none 0 0, .int .i64 0, .bool false, .slice none 0 0, .int .i64 0] 116)) (v := .pointer (some ⟨Wd.heap.size, 0, none⟩)) rfl rfl (by kernel_rfl) rfl (by go_simp; try with_reducible rfl) (HKS.out _ (low_trans hqd ((Below.refl Wd.heap.size Wd).alloc (Nat.le_refl _) _))) ?_
        simp only [List.setIfInBounds_toArray, List.set_cons_zero, List.set_cons_succ]
        have hba := (Below.refl Wd.heap.size Wd).alloc (Nat.le_refl _) (.cells #[.bool false, .slice none 0 0, .int .i64 0, .bool false, .slice none 0 0, .int .i64 0] 116)
        have hzK := World.alloc_heap_new Wd (.cells #[.bool false, .slice none 0 0, .int .i64 0, .bool false, .slice none 0 0, .int .i64 0] 116)
        have hkK := hqd.size
        replace hqd := low_trans hqd hba
        replace hS0 := HKS.out _ hqd
        replace hStd := StpB.keep hStd hba
        generalize Wd.alloc (.cells #[.bool false, .slice none 0 0, .int .i64 0, .bool false, .slice none 0 0, .int .i64 0] 116) = K15 at *
        refine anyT_l [1] (by kernel_rfl) (by decide) ⟨?_, trivial⟩
        refine opT_call hF1 (fun h => absurd h (by decide)) 1 31 (w := K15) rfl rfl (by kernel_rfl) (by rfl) (by go_simp; try with_reducible rfl; try decide) (callsIn_wide.2 (snumber_of K15 0 (by unfold Dy.I64; omega) (HT.out.keep (low_trans HB.out hqd)))) ?_
        rintro e9 V1x16 ⟨v1, rfl, hv1, hb1⟩
        replace hqd := low_trans hqd hb1
        replace hS0 := HKS.out V1x16 hqd
        replace hStd := StpB.keep hStd hb1
        replace hzK := blk1 hzK hb1
        obtain ⟨b1, q1, l1, c1, f1, m1, rfl, _, _⟩ := id (Dy.Nm.fields hv1)
        have hv1d := hv1
        refine ⟨_, rfl, hS0, ?_⟩
        simp only [List.setIfInBounds_toArray, List.set_cons_zero, List.set_cons_succ]
        refine anyT_l [5] (by kernel_rfl) (by decide) ⟨?_, trivial⟩
        refine opT_call hF1 (fun h => absurd h (by decide)) 5 35 (w := V1x16) rfl rfl (by kernel_rfl) (by rfl) (by go_simp; try with_reducible rfl; try decide) (callsIn_wide.2 (sextent_of V1x16 b c hStd.c0 hStd.c1)) ?_
        rintro e9 V2x17 ⟨rfl, hb2⟩
        replace hqd := low_trans hqd hb2
        replace hS0 := HKS.out V2x17 hqd
        replace hStd := StpB.keep hStd hb2
        replace hv1d := Dy.Nm.keep hv1d hb2
        replace hzK := blk1 hzK hb2
        refine ⟨_, rfl, hS0, ?_⟩
        simp only [List.setIfInBounds_toArray, List.set_cons_zero, List.set_cons_succ]
        refine anyT_takeD hF1 6 36 (v := ?_) rfl rfl (by kernel_rfl) (by kernel_rfl) (by kernel_rfl) (by kernel_rfl) (by kernel_rfl) (fun _ _ _ h => h) hS0 rfl ?_ ?_
        rotate_left
        · intro W2 hSw; obtain ⟨r0, r1, r2⟩ := hSw; go_simp; try with_reducible rfl
        simp only [List.setIfInBounds_toArray, List.set_cons_zero, List.set_cons_succ]
        refine anyT_l [7] (by kernel_rfl) (by decide) ⟨?_, trivial⟩
        refine opT_call hF1 (fun h => absurd h (by decide)) 7 37 (w := V2x17) rfl rfl (by kernel_rfl) (by rfl) (by go_simp; try with_reducible rfl; try decide) (callsIn_wide.2 (snumber_of V2x17 1000000 (by unfold Dy.I64; omega) (HT.out.keep (low_trans HB.out hqd)))) ?_
        rintro e9 V3x18 ⟨v3, rfl, hv3, hb3⟩
        replace hqd := low_trans hqd hb3
        replace hS0 := HKS.out V3x18 hqd
        replace hStd := StpB.keep hStd hb3
        replace hv1d := Dy.Nm.keep hv1d hb3
        replace hzK := blk1 hzK hb3
        obtain ⟨b3, q3, l3, c3, f3, m3, rfl, _, _⟩ := id (Dy.Nm.fields hv3)
        have hv3d := hv3
        refine ⟨_, rfl, hS0, ?_⟩
        simp only [List.setIfInBounds_toArray, List.set_cons_zero, List.set_cons_succ]
        refine anyT_l [9] (by kernel_rfl) (by decide) ⟨?_, trivial⟩
        refine opT_call hF1 (fun h => absurd h (by decide)) 9 39 (w := V3x18) rfl rfl (by kernel_rfl) (by rfl) (by go_simp; try with_reducible rfl; try decide) (callsIn_wide.2 (squot_ex V3x18 _ _ 0 1000000 0 hv1d hv3d (by decide) (by decide) (by decide) (by decide) (by decide) (HT.out.keep (low_trans HB.out hqd)))) ?_
        rintro e9 V4x19 ⟨v4, rfl, hv4, hb4⟩
        replace hqd := low_trans hqd hb4
        replace hS0 := HKS.out V4x19 hqd
        replace hStd := StpB.keep hStd hb4
        replace hv1d := Dy.Nm.keep hv1d hb4
        replace hv3d := Dy.Nm.keep hv3d hb4
        replace hzK := blk1 hzK hb4
        obtain ⟨b4, q4, l4, c4, f4, B4, Q4, L4, C4, F4, rfl, _, _⟩ := id hv4
        have hv4d := hv4
        refine ⟨_, rfl, hS0, ?_⟩
        simp only [List.setIfInBounds_toArray, List.set_cons_zero, List.set_cons_succ]
        have z0 := cell_h (k := 0) hzK rfl
        have z1 := cell_h (k := 1) hzK rfl
        have z2 := cell_h (k := 2) hzK rfl
        have z3 := cell_h (k := 3) hzK rfl
        have z4 := cell_h (k := 4) hzK rfl
        have z5 := cell_h (k := 5) hzK rfl
        have zf : ∀ o, V4x19.frozen? ⟨Wd.heap.size, o, none⟩ = false := fun o => by simp [World.frozen?, hzK]
        have hst := set6_all (b1 := b4) (q1 := q4) (l1 := l4) (c1 := c4) (f1 := f4) (b2 := B4) (q2 := Q4) (l2 := L4) (c2 := C4) (f2 := F4) hzK hqd hkK
        refine anyT_skipN hF1 (w2 := ((((((V4x19).setCell ⟨Wd.heap.size, 0, none⟩ (.bool b4)).setCell ⟨Wd.heap.size, 1, none⟩ (.slice q4 l4 c4)).setCell ⟨Wd.heap.size, 2, none⟩ (.int .i64 f4)).setCell ⟨Wd.heap.size, 3, none⟩ (.bool B4)).setCell ⟨Wd.heap.size, 4, none⟩ (.slice Q4 L4 C4)).setCell ⟨Wd.heap.size, 5, none⟩ (.int .i64 F4)) rfl rfl (by kernel_rfl) (by kernel_rfl) rfl (by go_simp; try with_reducible rfl) ?_
        refine anyT_done (by kernel_rfl) ?_ _
        clear z0 z1 z2 zf z3 z4 z5
        generalize hW9 : ((((((V4x19).setCell ⟨Wd.heap.size, 0, none⟩ (.bool b4)).setCell ⟨Wd.heap.size, 1, none⟩ (.slice q4 l4 c4)).setCell ⟨Wd.heap.size, 2, none⟩ (.int .i64 f4)).setCell ⟨Wd.heap.size, 3, none⟩ (.bool B4)).setCell ⟨Wd.heap.size, 4, none⟩ (.slice Q4 L4 C4)).setCell ⟨Wd.heap.size, 5, none⟩ (.int .i64 F4) = Y0z19
        obtain ⟨hR9, hB9, hS9, hN9⟩ := hst _ hW9
        go_wp2_with fail
        go_meet
        exact ⟨Wd.heap.size, _, _, _, _, _, _, _, _, _, _, rfl, hR9, hS9 _ _ _ hv4d, hB9⟩
    case rest =>
     obtain ⟨K1, b4, q4, l4, c4, f4, B4, Q4, L4, C4, F4, rfl, hK, hS, hBw⟩ := hcut
     replace HP := Lib.hid (blk1 HP.out hBw)
     replace HR := Lib.hid (blk1 HR.out hBw)
     replace HSt := Lib.hid (StpB.keep HSt.out hBw)
     replace HB := Lib.hid (low_trans HB.out hBw)
     have HK1 := Lib.hid hK
     have HS1 := Lib.hid hS
     clear hBw hK hS HKS
     obtain ⟨W1, hW1⟩ : ∃ W, wc = W := ⟨_, rfl⟩
     subst hW1
     go_upto_region 8 with fail
     have HKS : Hid (∀ V, Below wc.heap.size wc V → V.cell? ⟨w.heap.size, 0, none⟩ = some (.int .i64 1000) ∧ V.cell? ⟨w.heap.size, 1, none⟩ = some (.int .i64 10000) ∧ V.cell? ⟨w.heap.size, 2, none⟩ = some (.int .i64 400000)) := fun V hV => ⟨cell_h (blk1 HP.out hV) rfl, cell_h (blk1 HP.out hV) rfl, cell_h (blk1 HP.out hV) rfl⟩
     go_cut [11] (fun s wx => ∃ (K : Nat) (b5 : Bool) (q5 : Option Addr) (l5 c5 : Nat) (f5 : Int) (B5 : Bool) (Q5 : Option Addr) (L5 C5 : Nat) (F5 : Int), s = .pointer (some ⟨K, 0, none⟩) ∧ wx.heap[K]? = some (.cells #[.bool b5, .slice q5 l5 c5, .int .i64 f5, .bool B5, .slice Q5 L5 C5, .int .i64 F5] 116 (0, 0)) ∧ SpI wx (.agg #[.bool b5, .slice q5 l5 c5, .int .i64 f5, .bool B5, .slice Q5 L5 C5, .int .i64 F5]) 8000 8000 ∧ Below wc.heap.size wc wx)
     case first =>
      have ww1 : IntKind.i64.wrap 800000 = 800000 := by rfl
      have ww2 : IntKind.i64.wrap 8000000000 = 8000000000 := by rfl
      have ww3 : IntKind.i64.wrap 1000000 = 1000000 := by rfl
      have ww4 : IntKind.i64.wrap (800000 * 10000) = 8000000000 := by rfl
      refine (wpIn_wide (n := 5)).1 ?_
      refine wpIn_region_T 14 (fun W2 : World => W2.cell? ⟨w.heap.size, 0, none⟩ = some (.int .i64 1000) ∧ W2.cell? ⟨w.heap.size, 1, none⟩ = some (.int .i64 10000) ∧ W2.cell? ⟨w.heap.size, 2, none⟩ = some (.int .i64 400000)) (by kernel_rfl) ?_
      change anyT _ _ _ _ _ _ _ _ 15 (Array.replicate 15 false) _ _
      have hqd : Below wc.heap.size wc wc.drew := (Below.refl _ _).drew
      generalize wc.drew = Wd at *
      have hS0 := HKS.out Wd hqd
      refine anyT_takeD hF1 0 40 (v := ?_) rfl rfl (by kernel_rfl) (by kernel_rfl) (by kernel_rfl) (by kernel_rfl) (by kernel_rfl) (fun _ _ _ h => h) hS0 rfl ?_ ?_
      rotate_left
      · intro W2 hSw; obtain ⟨r0, r1, r2⟩ := hSw; go_simp; try with_reducible rfl
      simp only [List.setIfInBounds_toArray, List.set_cons_zero, List.set_cons_succ]
      refine anyT_takeD hF1 1 41 (v := ?_) rfl rfl (by kernel_rfl) (by kernel_rfl) (by kernel_rfl) (by kernel_rfl) (by kernel_rfl) (fun _ _ _ h => h) hS0 rfl ?_ ?_
      rotate_left
      · intro W2 hSw; obtain ⟨r0, r1, r2⟩ := hSw; go_simp; try with_reducible rfl
      simp only [List.setIfInBounds_toArray, List.set_cons_zero, List.set_cons_succ]
      refine anyT_takeD hF1 2 42 (v := ?_) rfl rfl (by kernel_rfl) (by kernel_rfl) (by kernel_rfl) (by kernel_rfl) (by kernel_rfl) (fun _ _ _ h => h) hS0 rfl ?_ ?_
      rotate_left
      · intro W2 hSw; obtain ⟨r0, r1, r2⟩ := hSw; go_simp; try with_reducible rfl
      simp only [List.setIfInBounds_toArray, List.set_cons_zero, List.set_cons_succ]
      refine anyT_takeD hF1 3 43 (v := ?_) rfl rfl (by kernel_rfl) (by kernel_rfl) (by kernel_rfl) (by kernel_rfl) (by kernel_rfl) (fun _ _ _ h => h) hS0 rfl ?_ ?_
      rotate_left
      · intro W2 hSw; obtain ⟨r0, r1, r2⟩ := hSw; go_simp; try with_reducible rfl
      simp only [List.setIfInBounds_toArray, List.set_cons_zero, List.set_cons_succ]
      refine anyT_takeD hF1 4 44 (v := ?_) rfl rfl (by kernel_rfl) (by kernel_rfl) (by kernel_rfl) (by kernel_rfl) (by kernel_rfl) (fun _ _ _ h => h) hS0 rfl ?_ ?_
      rotate_left
      · intro W2 hSw; obtain ⟨r0, r1, r2⟩ := hSw; go_simp; try with_reducible rfl
      simp only [List.setIfInBounds_toArray, List.set_cons_zero, List.set_cons_succ]
      refine anyT_takeD hF1 5 45 (v := ?_) rfl rfl (by kernel_rfl) (by kernel_rfl) (by kernel_rfl) (by kernel_rfl) (by kernel_rfl) (fun _ _ _ h => h) hS0 rfl ?_ ?_
      rotate_left
      · intro W2 hSw; obtain ⟨r0, r1, r2⟩ := hSw; go_simp; try with_reducible rfl
      simp only [List.setIfInBounds_toArray, List.set_cons_zero, List.set_cons_succ]
      refine anyT_takeD hF1 7 47 (v := ?_) rfl rfl (by kernel_rfl) (by kernel_rfl) (by kernel_rfl) (by kernel_rfl) (by kernel_rfl) (fun _ _ _ h => h) hS0 rfl ?_ ?_
      rotate_left
      · intro W2 hSw; obtain ⟨r0, r1, r2⟩ := hSw; go_simp; try with_reducible rfl
      simp only [List.setIfInBounds_toArray, List.set_cons_zero, List.set_cons_succ]
      refine anyT_takeD hF1 8 48 (v := ?_) rfl rfl (by kernel_rfl) (by kernel_rfl) (by kernel_rfl) (by kernel_rfl) (by kernel_rfl) (fun _ _ _ h => h) hS0 rfl ?_ ?_
      rotate_left
      · intro W2 hSw; obtain ⟨r0, r1, r2⟩ := hSw; go_simp; try with_reducible rfl
      simp only [List.setIfInBounds_toArray, List.set_cons_zero, List.set_cons_succ]
      refine anyT_takeD hF1 9 49 (v := ?_) rfl rfl (by kernel_rfl) (by kernel_rfl) (by kernel_rfl) (by kernel_rfl) (by kernel_rfl) (fun _ _ _ h => h) hS0 rfl ?_ ?_
      rotate_left
      · intro W2 hSw; obtain ⟨r0, r1, r2⟩ := hSw; go_simp; try with_reducible rfl
      simp only [List.setIfInBounds_toArray, List.set_cons_zero, List.set_cons_succ]
      refine anyT_takeD hF1 11 51 (v := ?_) rfl rfl (by kernel_rfl) (by kernel_rfl) (by kernel_rfl) (by kernel_rfl) (by kernel_rfl) (fun _ _ _ h => h) hS0 rfl ?_ ?_
      rotate_left
      · intro W2 hSw; obtain ⟨r0, r1, r2⟩ := hSw; go_simp; try with_reducible rfl
      simp only [List.setIfInBounds_toArray, List.set_cons_zero, List.set_cons_succ]
      refine anyT_l [6, 13] (by kernel_rfl) (by decide) ⟨?_, ?_, trivial⟩
      · skip
        refine opT_call hF1 (fun h => absurd h (by decide)) 6 46 (w := Wd) rfl rfl (by kernel_rfl) (by rfl) (by go_simp; try with_reducible rfl; try decide) (callsIn_wide.2 (snumber_of Wd 8000000000 (by unfold Dy.I64; omega) (HT.out.keep (low_trans HB.out hqd)))) ?_
        rintro e9 V1x1 ⟨v1, rfl, hv1, hb1⟩
        replace hqd := low_trans hqd hb1
        replace hS0 := HKS.out V1x1 hqd
        obtain ⟨b1, q1, l1, c1, f1, m1, rfl, _, _⟩ := id (Dy.Nm.fields hv1)
        have hv1d := hv1
        refine ⟨_, rfl, hS0, ?_⟩
        simp only [List.setIfInBounds_toArray, List.set_cons_zero, List.set_cons_succ]
        refine anyT_l [10, 13] (by kernel_rfl) (by decide) ⟨?_, ?_, trivial⟩
        · skip
          refine opT_call hF1 (fun h => absurd h (by decide)) 10 50 (w := V1x1) rfl rfl (by kernel_rfl) (by rfl) (by go_simp; try with_reducible rfl; try decide) (callsIn_wide.2 (snumber_of V1x1 1000000 (by unfold Dy.I64; omega) (HT.out.keep (low_trans HB.out hqd)))) ?_
          rintro e9 V2x2 ⟨v2, rfl, hv2, hb2⟩
          replace hqd := low_trans hqd hb2
          replace hS0 := HKS.out V2x2 hqd
          replace hv1d := Dy.Nm.keep hv1d hb2
          obtain ⟨b2, q2, l2, c2, f2, m2, rfl, _, _⟩ := id (Dy.Nm.fields hv2)
          have hv2d := hv2
          refine ⟨_, rfl, hS0, ?_⟩
          simp only [List.setIfInBounds_toArray, List.set_cons_zero, List.set_cons_succ]
          refine anyT_l [12, 13] (by kernel_rfl) (by decide) ⟨?_, ?_, trivial⟩
          · skip
            refine opT_call hF1 (fun h => absurd h (by decide)) 12 52 (w := V2x2) rfl rfl (by kernel_rfl) (by rfl) (by go_simp; try with_reducible rfl; try decide) (callsIn_wide.2 (squot_ex V2x2 _ _ 8000000000 1000000 8000 hv1d hv2d (by decide) (by decide) (by decide) (by decide) (by decide) (HT.out.keep (low_trans HB.out hqd)))) ?_
            rintro e9 V5x3 ⟨v5, rfl, hv5, hb5⟩
            replace hqd := low_trans hqd hb5
            replace hS0 := HKS.out V5x3 hqd
            replace hv1d := Dy.Nm.keep hv1d hb5
            replace hv2d := Dy.Nm.keep hv2d hb5
            obtain ⟨b5, q5, l5, c5, f5, B5, Q5, L5, C5, F5, rfl, _, _⟩ := id hv5
            have hv5d := hv5
            refine ⟨_, rfl, hS0, ?_⟩
            simp only [List.setIfInBounds_toArray, List.set_cons_zero, List.set_cons_succ]
            refine anyT_l [13] (by kernel_rfl) (by decide) ⟨?_, trivial⟩
            refine opT_val hF1 13 11 (w2 := V5x3.alloc (.cells #[.bool false, .slice none 0 0, .int .i64 0, .bool false, .slice none 0 0, .int .i64 0] 116)) (v := .pointer (some ⟨V5x3.heap.size, 0, none⟩)) rfl rfl (by kernel_rfl) rfl (by go_simp; try with_reducible rfl) (HKS.out _ (low_trans hqd ((Below.refl V5x3.heap.size V5x3).alloc (Nat.le_refl _) _))) ?_
            simp only [List.setIfInBounds_toArray, List.set_cons_zero, List.set_cons_succ]
            have hba := (Below.refl V5x3.heap.size V5x3).alloc (Nat.le_refl _) (.cells #[.bool false, .slice none 0 0, .int .i64 0, .bool false, .slice none 0 0, .int .i64 0] 116)
            have hzK := World.alloc_heap_new V5x3 (.cells #[.bool false, .slice none 0 0, .int .i64 0, .bool false, .slice none 0 0, .int .i64 0] 116)
            have hkK := hqd.size
            replace hqd := low_trans hqd hba
            replace hS0 := HKS.out _ hqd
            replace hv1d := Dy.Nm.keep hv1d hba
            replace hv2d := Dy.Nm.keep hv2d hba
            replace hv5d := Dy.Sp.keep hv5d hba
            generalize V5x3.alloc (.cells #[.bool false, .slice none 0 0, .int .i64 0, .bool false, .slice none 0 0, .int .i64 0] 116) = K4 at *
            have z0 := cell_h (k := 0) hzK rfl
            have z1 := cell_h (k := 1) hzK rfl
            have z2 := cell_h (k := 2) hzK rfl
            have z3 := cell_h (k := 3) hzK rfl
            have z4 := cell_h (k := 4) hzK rfl
            have z5 := cell_h (k := 5) hzK rfl
            have zf : ∀ o, K4.frozen? ⟨V5x3.heap.size, o, none⟩ = false := fun o => by simp [World.frozen?, hzK]
            have hst := set6_all (b1 := b5) (q1 := q5) (l1 := l5) (c1 := c5) (f1 := f5) (b2 := B5) (q2 := Q5) (l2 := L5) (c2 := C5) (f2 := F5) hzK hqd hkK
            refine anyT_skipN hF1 (w2 := ((((((K4).setCell ⟨V5x3.heap.size, 0, none⟩ (.bool b5)).setCell ⟨V5x3.heap.size, 1, none⟩ (.slice q5 l5 c5)).setCell ⟨V5x3.heap.size, 2, none⟩ (.int .i64 f5)).setCell ⟨V5x3.heap.size, 3, none⟩ (.bool B5)).setCell ⟨V5x3.heap.size, 4, none⟩ (.slice Q5 L5 C5)).setCell ⟨V5x3.heap.size, 5, none⟩ (.int .i64 F5)) rfl rfl (by kernel_rfl) (by kernel_rfl) rfl (by go_simp; try with_reducible rfl) ?_
            refine anyT_done (by kernel_rfl) ?_ _
            clear z0 z1 z2 zf z3 z4 z5
            generalize hW9 : ((((((K4).setCell ⟨V5x3.heap.size, 0, none⟩ (.bool b5)).setCell ⟨V5x3.heap.size, 1, none⟩ (.slice q5 l5 c5)).setCell ⟨V5x3.heap.size, 2, none⟩ (.int .i64 f5)).setCell ⟨V5x3.heap.size, 3, none⟩ (.bool B5)).setCell ⟨V5x3.heap.size, 4, none⟩ (.slice Q5 L5 C5)).setCell ⟨V5x3.heap.size, 5, none⟩ (.int .i64 F5) = Y0z4
            obtain ⟨hR9, hB9, hS9, hN9⟩ := hst _ hW9
            go_wp2_with fail
            go_meet
            exact ⟨V5x3.heap.size, _, _, _, _, _, _, _, _, _, _, rfl, hR9, hS9 _ _ _ hv5d, hB9⟩
          · skip
            refine opT_val hF1 13 11 (w2 := V2x2.alloc (.cells #[.bool false, .slice none 0 0, .int .i64 0, .bool false, .slice none 0 0, .int .i64 0] 116)) (v := .pointer (some ⟨V2x2.heap.size, 0, none⟩)) rfl rfl (by kernel_rfl) rfl (by go_simp; try with_reducible rfl) (HKS.out _ (low_trans hqd ((Below.refl V2x2.heap.size V2x2).alloc (Nat.le_refl _) _))) ?_
            simp only [List.setIfInBounds_toArray, List.set_cons_zero, List.set_cons_succ]
            have hba := (Below.refl V2x2.heap.size V2x2).alloc (Nat.le_refl _) (.cells #[.bool false, .slice none 0 0, .int .i64 0, .bool false, .slice none 0 0, .int .i64 0] 116)
            have hzK := World.alloc_heap_new V2x2 (.cells #[.bool false, .slice none 0 0, .int .i64 0, .bool false, .slice none 0 0, .int .i64 0] 116)
            have hkK := hqd.size
            replace hqd := low_trans hqd hba
            replace hS0 := HKS.out _ hqd
            replace hv1d := Dy.Nm.keep hv1d hba
            replace hv2d := Dy.Nm.keep hv2d hba
            generalize V2x2.alloc (.cells #[.bool false, .slice none 0 0, .int .i64 0, .bool false, .slice none 0 0, .int .i64 0] 116) = K5 at *
            refine anyT_l [12] (by kernel_rfl) (by decide) ⟨?_, trivial⟩
            refine opT_call hF1 (fun h => absurd h (by decide)) 12 52 (w := K5) rfl rfl (by kernel_rfl) (by rfl) (by go_simp; try with_reducible rfl; try decide) (callsIn_wide.2 (squot_ex K5 _ _ 8000000000 1000000 8000 hv1d hv2d (by decide) (by decide) (by decide) (by decide) (by decide) (HT.out.keep (low_trans HB.out hqd)))) ?_
            rintro e9 V5x6 ⟨v5, rfl, hv5, hb5⟩
            replace hqd := low_trans hqd hb5
            replace hS0 := HKS.out V5x6 hqd
            replace hv1d := Dy.Nm.keep hv1d hb5
            replace hv2d := Dy.Nm.keep hv2d hb5
            replace hzK := blk1 hzK hb5
            obtain ⟨b5, q5, l5, c5, f5, B5, Q5, L5, C5, F5, rfl, _, _⟩ := id hv5
            have hv5d := hv5
            refine ⟨_, rfl, hS0, ?_⟩
            simp only [List.setIfInBounds_toArray, List.set_cons_zero, List.set_cons_succ]
            have z0 := cell_h (k := 0) hzK rfl
            have z1 := cell_h (k := 1) hzK rfl
            have z2 := cell_h (k := 2) hzK rfl
            have z3 := cell_h (k := 3) hzK rfl
            have z4 := cell_h (k := 4) hzK rfl
            have z5 := cell_h (k := 5) hzK rfl
            have zf : ∀ o, V5x6.frozen? ⟨V2x2.heap.size, o, none⟩ = false := fun o => by simp [World.frozen?, hzK]
            have hst := set6_all (b1 := b5) (q1 := q5) (l1 := l5) (c1 := c5) (f1 := f5) (b2 := B5) (q2 := Q5) (l2 := L5) (c2 := C5) (f2 := F5) hzK hqd hkK
            refine anyT_skipN hF1 (w2 := ((((((V5x6).setCell ⟨V2x2.heap.size, 0, none⟩ (.bool b5)).setCell ⟨V2x2.heap.size, 1, none⟩ (.slice q5 l5 c5)).setCell ⟨V2x2.heap.size, 2, none⟩ (.int .i64 f5)).setCell ⟨V2x2.heap.size, 3, none⟩ (.bool B5)).setCell ⟨V2x2.heap.size, 4, none⟩ (.slice Q5 L5 C5)).setCell ⟨V2x2.heap.size, 5, none⟩ (.int .i64 F5)) rfl rfl (by kernel_rfl) (by kernel_rfl) rfl (by go_simp; try with_reducible rfl) ?_
            refine anyT_done (by kernel_rfl) ?_ _
            clear z0 z1 z2 zf z3 z4 z5
            generalize hW9 : ((((((V5x6).setCell ⟨V2x2.heap.size, 0, none⟩ (.bool b5)).setCell ⟨V2x2.heap.size, 1, none⟩ (.slice q5 l5 c5)).setCell ⟨V2x2.heap.size, 2, none⟩ (.int .i64 f5)).setCell ⟨V2x2.heap.size, 3, none⟩ (.bool B5)).setCell ⟨V2x2.heap.size, 4, none⟩ (.slice Q5 L5 C5)).setCell ⟨V2x2.heap.size, 5, none⟩ (.int .i64 F5) = Y0z6
            obtain ⟨hR9, hB9, hS9, hN9⟩ := hst _ hW9
            go_wp2_with fail
            go_meet
            exact ⟨V2x2.heap.size, _, _, _, _, _, _, _, _, _, _, rfl, hR9, hS9 _ _ _ hv5d, hB9⟩
        · skip
          refine opT_val hF1 13 11 (w2 := V1x1.alloc (.cells #[.bool false, .slice none 0 0, .int .i64 0, .bool false, .slice none 0 0, .int .i64 0] 116)) (v := .pointer (some ⟨V1x1.heap.size, 0, none⟩)) rfl rfl (by kernel_rfl) rfl (by go_simp; try with_reducible rfl) (HKS.out _ (low_trans hqd ((Below.refl V1x1.heap.size V1x1).alloc (Nat.le_refl _) _))) ?_
          simp only [List.setIfInBounds_toArray, List.set_cons_zero, List.set_cons_succ]
          have hba := (Below.refl V1x1.heap.size V1x1).alloc (Nat.le_refl _) (.cells #[.bool false, .slice none 0 0, .int .i64 0, .bool false, .slice none 0 0, .int .i64 0] 116)
          have hzK := World.alloc_heap_new V1x1 (.cells #[.bool false, .slice none 0 0, .int .i64 0, .bool false, .slice none 0 0, .int .i64 0] 116)
          have hkK := hqd.size
          replace hqd := low_trans hqd hba
          replace hS0 := HKS.out _ hqd
          replace hv1d := Dy.Nm.keep hv1d hba
          generalize V1x1.alloc (.cells #[.bool false, .slice none 0 0, .int .i64 0, .bool false, .slice none 0 0, .int .i64 0] 116) = K7 at *
          refine anyT_l [10] (by kernel_rfl) (by decide) ⟨?_, trivial⟩
          refine opT_call hF1 (fun h => absurd h (by decide)) 10 50 (w := K7) rfl rfl (by kernel_rfl) (by rfl) (by go_simp; try with_reducible rfl; try decide) (callsIn_wide.2 (snumber_of K7 1000000 (by unfold Dy.I64; omega) (HT.out.keep (low_trans HB.out hqd)))) ?_
          rintro e9 V2x8 ⟨v2, rfl, hv2, hb2⟩
          replace hqd := low_trans hqd hb2
          replace hS0 := HKS.out V2x8 hqd
          replace hv1d := Dy.Nm.keep hv1d hb2
          replace hzK := blk1 hzK hb2
          obtain ⟨b2, q2, l2, c2, f2, m2, rfl, _, _⟩ := id (Dy.Nm.fields hv2)
          have hv2d := hv2
          refine ⟨_, rfl, hS0, ?_⟩
          simp only [List.setIfInBounds_toArray, List.set_cons_zero, List.set_cons_succ]
          refine anyT_l [12] (by kernel_rfl) (by decide) ⟨?_, trivial⟩
          refine opT_call hF1 (fun h => absurd h (by decide)) 12 52 (w := V2x8) rfl rfl (by kernel_rfl) (by rfl) (by go_simp; try with_reducible rfl; try decide) (callsIn_wide.2 (squot_ex V2x8 _ _ 8000000000 1000000 8000 hv1d hv2d (by decide) (by decide) (by decide) (by decide) (by decide) (HT.out.keep (low_trans HB.out hqd)))) ?_
          rintro e9 V5x9 ⟨v5, rfl, hv5, hb5⟩
          replace hqd := low_trans hqd hb5
          replace hS0 := HKS.out V5x9 hqd
          replace hv1d := Dy.Nm.keep hv1d hb5
          replace hv2d := Dy.Nm.keep hv2d hb5
          replace hzK := blk1 hzK hb5
          obtain ⟨b5, q5, l5, c5, f5, B5, Q5, L5, C5, F5, rfl, _, _⟩ := id hv5
          have hv5d := hv5
          refine ⟨_, rfl, hS0, ?_⟩
          simp only [List.setIfInBounds_toArray, List.set_cons_zero, List.set_cons_succ]
          have z0 := cell_h (k := 0) hzK rfl
          have z1 := cell_h (k := 1) hzK rfl
          have z2 := cell_h (k := 2) hzK rfl
          have z3 := cell_h (k := 3) hzK rfl
          have z4 := cell_h (k := 4) hzK rfl
          have z5 := cell_h (k := 5) hzK rfl
          have zf : ∀ o, V5x9.frozen? ⟨V1x1.heap.size, o, none⟩ = false := fun o => by simp [World.frozen?, hzK]
          have hst := set6_all (b1 := b5) (q1 := q5) (l1 := l5) (c1 := c5) (f1 := f5) (b2 := B5) (q2 := Q5) (l2 := L5) (c2 := C5) (f2 := F5) hzK hqd hkK
          refine anyT_skipN hF1 (w2 := ((((((V5x9).setCell ⟨V1x1.heap.size, 0, none⟩ (.bool b5)).setCell ⟨V1x1.heap.size, 1, none⟩ (.slice q5 l5 c5)).setCell ⟨V1x1.heap.size, 2, none⟩ (.int .i64 f5)).setCell ⟨V1x1.heap.size, 3, none⟩ (.bool B5)).setCell ⟨V1x1.heap.size, 4, none⟩ (.slice Q5 L5 C5)).setCell ⟨V1x1.heap.size, 5, none⟩ (.int .i64 F5)) rfl rfl (by kernel_rfl) (by kernel_rfl) rfl (by go_simp; try with_reducible rfl) ?_
          refine anyT_done (by kernel_rfl) ?_ _
          clear z0 z1 z2 zf z3 z4 z5
          generalize hW9 : ((((((V5x9).setCell ⟨V1x1.heap.size, 0, none⟩ (.bool b5)).setCell ⟨V1x1.heap.size, 1, none⟩ (.slice q5 l5 c5)).setCell ⟨V1x1.heap.size, 2, none⟩ (.int .i64 f5)).setCell ⟨V1x1.heap.size, 3, none⟩ (.bool B5)).setCell ⟨V1x1.heap.size, 4, none⟩ (.slice Q5 L5 C5)).setCell ⟨V1x1.heap.size, 5, none⟩ (.int .i64 F5) = Y0z9
          obtain ⟨hR9, hB9, hS9, hN9⟩ := hst _ hW9
          go_wp2_with fail
          go_meet
          exact ⟨V1x1.heap.size, _, _, _, _, _, _, _, _, _, _, rfl, hR9, hS9 _ _ _ hv5d, hB9⟩
      · skip
        refine opT_val hF1 13 11 (w2 := Wd.alloc (.cells #[.bool false, .slice none 0 0, .int .i64 0, .bool false, .slice none 0 0, .int .i64 0] 116)) (v := .pointer (some ⟨Wd.heap.size, 0, none⟩)) rfl rfl (by kernel_rfl) rfl (by go_simp; try with_reducible rfl) (HKS.out _ (low_trans hqd ((Below.refl Wd.heap.size Wd).alloc (Nat.le_refl _) _))) ?_
        simp only [List.setIfInBounds_toArray, List.set_cons_zero, List.set_cons_succ]
        have hba := (Below.refl Wd.heap.size Wd).alloc (Nat.le_refl _) (.cells #[.bool false, .slice none 0 0, .int .i64 0, .bool false, .slice none 0 0, .int .i64 0] 116)
        have hzK := World.alloc_heap_new Wd (.cells #[.bool false, .slice none 0 0, .int .i64 0, .bool false, .slice none 0 0, .int .i64 0] 116)
        have hkK := hqd.size
        replace hqd := low_trans hqd hba
        replace hS0 := HKS.out _ hqd
        generalize Wd.alloc (.cells #[.bool false, .slice none 0 0, .int .i64 0, .bool false, .slice none 0 0, .int .i64 0] 116) = K10 at *
        refine anyT_l [6] (by kernel_rfl) (by decide) ⟨?_, trivial⟩
        refine opT_call hF1 (fun h => absurd h (by decide)) 6 46 (w := K10) rfl rfl (by kernel_rfl) (by rfl) (by go_simp; try with_reducible rfl; try decide) (callsIn_wide.2 (snumber_of K10 8000000000 (by unfold Dy.I64; omega) (HT.out.keep (low_trans HB.out hqd)))) ?_
        rintro e9 V1x11 ⟨v1, rfl, hv1, hb1⟩
        replace hqd := low_trans hqd hb1
        replace hS0 := HKS.out V1x11 hqd
        replace hzK := blk1 hzK hb1
        obtain ⟨b1, q1, l1, c1, f1, m1, rfl, _, _⟩ := id (Dy.Nm.fields hv1)
        have hv1d := hv1
        refine ⟨_, rfl, hS0, ?_⟩
        simp only [List.setIfInBounds_toArray, List.set_cons_zero, List.set_cons_succ]
        refine anyT_l [10] (by kernel_rfl) (by decide) ⟨?_, trivial⟩
        refine opT_call hF1 (fun h => absurd h (by decide)) 10 50 (w := V1x11) rfl rfl (by kernel_rfl) (by rfl) (by go_simp; try with_reducible rfl; try decide) (callsIn_wide.2 (snumber_of V1x11 1000000 (by unfold Dy.I64; omega) (HT.out.keep (low_trans HB.out hqd)))) ?_
        rintro e9 V2x12 ⟨v2, rfl, hv2, hb2⟩
        replace hqd := low_trans hqd hb2
        replace hS0 := HKS.out V2x12 hqd
        replace hv1d := Dy.Nm.keep hv1d hb2
        replace hzK := blk1 hzK hb2
        obtain ⟨b2, q2, l2, c2, f2, m2, rfl, _, _⟩ := id (Dy.Nm.fields hv2)
        have hv2d := hv2
        refine ⟨_, rfl, hS0, ?_⟩
        simp only [List.setIfInBounds_toArray, List.set_cons_zero, List.set_cons_succ]
        refine anyT_l [12] (by kernel_rfl) (by decide) ⟨?_, trivial⟩
        refine opT_call hF1 (fun h => absurd h (by decide)) 12 52 (w := V2x12) rfl rfl (by kernel_rfl) (by rfl) (by go_simp; try with_reducible rfl; try decide) (callsIn_wide.2 (squot_ex V2x12 _ _ 8000000000 1000000 8000 hv1d hv2d (by decide) (by decide) (by decide) (by decide) (by decide) (HT.out.keep (low_trans HB.out hqd)))) ?_
        rintro e9 V5x13 ⟨v5, rfl, hv5, hb5⟩
        replace hqd := low_trans hqd hb5
        replace hS0 := HKS.out V5x13 hqd
        replace hv1d := Dy.Nm.keep hv1d hb5
        replace hv2d := Dy.Nm.keep hv2d hb5
        replace hzK := blk1 hzK hb5
        obtain ⟨b5, q5, l5, c5, f5, B5, Q5, L5, C5, F5, rfl, _, _⟩ := id hv5
        have hv5d := hv5
        refine ⟨_, rfl, hS0, ?_⟩
        simp only [List.setIfInBounds_toArray, List.set_cons_zero, List.set_cons_succ]
        have z0 := cell_h (k := 0) hzK rfl
        have z1 := cell_h (k := 1) hzK rfl
        have z2 := cell_h (k := 2) hzK rfl
        have z3 := cell_h (k := 3) hzK rfl
        have z4 := cell_h (k := 4) hzK rfl
        have z5 := cell_h (k := 5) hzK rfl
        have zf : ∀ o, V5x13.frozen? ⟨Wd.heap.size, o, none⟩ = false := fun o => by simp [World.frozen?, hzK]
        have hst := set6_all (b1 := b5) (q1 := q5) (l1 := l5) (c1 := c5) (f1 := f5) (b2 := B5) (q2 := Q5) (l2 := L5) (c2 := C5) (f2 := F5) hzK hqd hkK
        refine anyT_skipN hF1 (w2 := ((((((V5x13).setCell ⟨Wd.heap.size, 0, none⟩ (.bool b5)).setCell ⟨Wd.heap.size, 1, none⟩ (.slice q5 l5 c5)).setCell ⟨Wd.heap.size, 2, none⟩ (.int .i64 f5)).setCell ⟨Wd.heap.size, 3, none⟩ (.bool B5)).setCell ⟨Wd.heap.size, 4, none⟩ (.slice Q5 L5 C5)).setCell ⟨Wd.heap.size, 5, none⟩ (.int .i64 F5)) rfl rfl (by kernel_rfl) (by kernel_rfl) rfl (by go_simp; try with_reducible rfl) ?_
        refine anyT_done (by kernel_rfl) ?_ _
        clear z0 z1 z2 zf z3 z4 z5
        generalize hW9 : ((((((V5x13).setCell ⟨Wd.heap.size, 0, none⟩ (.bool b5)).setCell ⟨Wd.heap.size, 1, none⟩ (.slice q5 l5 c5)).setCell ⟨Wd.heap.size, 2, none⟩ (.int .i64 f5)).setCell ⟨Wd.heap.size, 3, none⟩ (.bool B5)).setCell ⟨Wd.heap.size, 4, none⟩ (.slice Q5 L5 C5)).setCell ⟨Wd.heap.size, 5, none⟩ (.int .i64 F5) = Y0z13
        obtain ⟨hR9, hB9, hS9, hN9⟩ := hst _ hW9
        go_wp2_with fail
        go_meet
        exact ⟨Wd.heap.size, _, _, _, _, _, _, _, _, _, _, rfl, hR9, hS9 _ _ _ hv5d, hB9⟩
     case rest =>
      obtain ⟨K2, b5, q5, l5, c5, f5, B5, Q5, L5, C5, F5, rfl, hK, hS, hBw⟩ := hcut
      replace HP := Lib.hid (blk1 HP.out hBw)
      replace HR := Lib.hid (blk1 HR.out hBw)
      replace HSt := Lib.hid (StpB.keep HSt.out hBw)
      replace HB := Lib.hid (low_trans HB.out hBw)
      replace HK1 := Lib.hid (blk1 HK1.out hBw)
      replace HS1 := Lib.hid (Dy.Sp.keep HS1.out hBw)
      have HK2 := Lib.hid hK
      have HS2 := Lib.hid hS
      clear hBw hK hS HKS
      go_upto_region 9 with fail
      have HKS : Hid (∀ V, Below wc.heap.size wc V → V.cell? ⟨w.heap.size, 0, none⟩ = some (.int .i64 1000) ∧ V.cell? ⟨w.heap.size, 1, none⟩ = some (.int .i64 10000) ∧ V.cell? ⟨w.heap.size, 2, none⟩ = some (.int .i64 400000) ∧ V.cell? ⟨K1, 0, none⟩ = some (.bool b4) ∧ V.cell? ⟨K1, 1, none⟩ = some (.slice q4 l4 c4) ∧ V.cell? ⟨K1, 2, none⟩ = some (.int .i64 f4) ∧ V.cell? ⟨K1, 3, none⟩ = some (.bool B4) ∧ V.cell? ⟨K1, 4, none⟩ = some (.slice Q4 L4 C4) ∧ V.cell? ⟨K1, 5, none⟩ = some (.int .i64 F4)) := fun V hV => ⟨cell_h (blk1 HP.out hV) rfl, cell_h (blk1 HP.out hV) rfl, cell_h (blk1 HP.out hV) rfl, cell_h (blk1 HK1.out hV) rfl, cell_h (blk1 HK1.out hV) rfl, cell_h (blk1 HK1.out hV) rfl, cell_h (blk1 HK1.out hV) rfl, cell_h (blk1 HK1.out hV) rfl, cell_h (blk1 HK1.out hV) rfl⟩
      go_cut [12] (fun s wx => ∃ (K : Nat) (b6 : Bool) (q6 : Option Addr) (l6 c6 : Nat) (f6 : Int) (B6 : Bool) (Q6 : Option Addr) (L6 C6 : Nat) (F6 : Int), s = .pointer (some ⟨K, 0, none⟩) ∧ wx.heap[K]? = some (.cells #[.bool b6, .slice q6 l6 c6, .int .i64 f6, .bool B6, .slice Q6 L6 C6, .int .i64 F6] 116 (0, 0)) ∧ SpI wx (.agg #[.bool b6, .slice q6 l6 c6, .int .i64 f6, .bool B6, .slice Q6 L6 C6, .int .i64 F6]) 1 1 ∧ Below wc.heap.size wc wx)
      case first =>
        have hSt := HSt.out
        have hLo := HS1.out
        refine (wpIn_wide (n := 5)).1 ?_
        refine wpIn_region_T 11 (fun W2 : World => W2.cell? ⟨w.heap.size, 0, none⟩ = some (.int .i64 1000) ∧ W2.cell? ⟨w.heap.size, 1, none⟩ = some (.int .i64 10000) ∧ W2.cell? ⟨w.heap.size, 2, none⟩ = some (.int .i64 400000) ∧ W2.cell? ⟨K1, 0, none⟩ = some (.bool b4) ∧ W2.cell? ⟨K1, 1, none⟩ = some (.slice q4 l4 c4) ∧ W2.cell? ⟨K1, 2, none⟩ = some (.int .i64 f4) ∧ W2.cell? ⟨K1, 3, none⟩ = some (.bool B4) ∧ W2.cell? ⟨K1, 4, none⟩ = some (.slice Q4 L4 C4) ∧ W2.cell? ⟨K1, 5, none⟩ = some (.int .i64 F4)) (by kernel_rfl) ?_
        change anyT _ _ _ _ _ _ _ _ 12 (Array.replicate 12 false) _ _
        have hqd : Below wc.heap.size wc wc.drew := (Below.refl _ _).drew
        have hStd := StpB.keep hSt hqd
        have hLod := Dy.Sp.keep hLo hqd
        generalize wc.drew = Wd at *
        have hS0 := HKS.out Wd hqd
        refine anyT_takeD hF1 1 54 (v := ?_) rfl rfl (by kernel_rfl) (by kernel_rfl) (by kernel_rfl) (by kernel_rfl) (by kernel_rfl) (fun _ _ _ h => h) hS0 rfl ?_ ?_
        rotate_left
        · intro W2 hSw; obtain ⟨r0, r1, r2, r3, r4, r5, r6, r7, r8⟩ := hSw; go_simp; try with_reducible rfl
        simp only [List.setIfInBounds_toArray, List.set_cons_zero, List.set_cons_succ]
        refine anyT_takeD hF1 2 55 (v := ?_) rfl rfl (by kernel_rfl) (by kernel_rfl) (by kernel_rfl) (by kernel_rfl) (by kernel_rfl) (fun _ _ _ h => h) hS0 rfl ?_ ?_
        rotate_left
        · intro W2 hSw; obtain ⟨r0, r1, r2, r3, r4, r5, r6, r7, r8⟩ := hSw; go_simp; try with_reducible rfl
        simp only [List.setIfInBounds_toArray, List.set_cons_zero, List.set_cons_succ]
        refine anyT_takeD hF1 3 56 (v := ?_) rfl rfl (by kernel_rfl) (by kernel_rfl) (by kernel_rfl) (by kernel_rfl) (by kernel_rfl) (fun _ _ _ h => h) hS0 rfl ?_ ?_
        rotate_left
        · intro W2 hSw; obtain ⟨r0, r1, r2, r3, r4, r5, r6, r7, r8⟩ := hSw; go_simp; try with_reducible rfl
        simp only [List.setIfInBounds_toArray, List.set_cons_zero, List.set_cons_succ]
        refine anyT_takeD hF1 5 58 (v := ?_) rfl rfl (by kernel_rfl) (by kernel_rfl) (by kernel_rfl) (by kernel_rfl) (by kernel_rfl) (fun _ _ _ h => h) hS0 rfl ?_ ?_
        rotate_left
        · intro W2 hSw; obtain ⟨r0, r1, r2, r3, r4, r5, r6, r7, r8⟩ := hSw; go_simp; try with_reducible rfl
        simp only [List.setIfInBounds_toArray, List.set_cons_zero, List.set_cons_succ]
        refine anyT_takeD hF1 7 60 (v := ?_) rfl rfl (by kernel_rfl) (by kernel_rfl) (by kernel_rfl) (by kernel_rfl) (by kernel_rfl) (fun _ _ _ h => h) hS0 rfl ?_ ?_
        rotate_left
        · intro W2 hSw; obtain ⟨r0, r1, r2, r3, r4, r5, r6, r7, r8⟩ := hSw; go_simp; try with_reducible rfl
        simp only [List.setIfInBounds_toArray, List.set_cons_zero, List.set_cons_succ]
        refine anyT_l [0, 10] (by kernel_rfl) (by decide) ⟨?_, ?_, trivial⟩
        · skip
          refine opT_call hF1 (fun h => absurd h (by decide)) 0 53 (w := Wd) rfl rfl (by kernel_rfl) (by rfl) (by go_simp; try with_reducible rfl; try decide) (callsIn_wide.2 (sonly_of Wd 1 (by unfold Dy.I64; omega) (HT.out.keep (low_trans HB.out hqd)))) ?_
          rintro e9 V1x1 ⟨v1, rfl, hv1, hb1⟩
          replace hqd := low_trans hqd hb1
          replace hS0 := HKS.out V1x1 hqd
          replace hStd := StpB.keep hStd hb1
          replace hLod := Dy.Sp.keep hLod hb1
          obtain ⟨b1, q1, l1, c1, f1, B1, Q1, L1, C1, F1, rfl, _, _⟩ := id hv1
          have hv1d := hv1
          refine ⟨_, rfl, hS0, ?_⟩
          simp only [List.setIfInBounds_toArray, List.set_cons_zero, List.set_cons_succ]
          refine anyT_l [4, 10] (by kernel_rfl) (by decide) ⟨?_, ?_, trivial⟩
          · skip
            refine opT_call hF1 (fun h => absurd h (by decide)) 4 57 (w := V1x1) rfl rfl (by kernel_rfl) (by rfl) (by go_simp; try with_reducible rfl; try decide) (callsIn_wide.2 (sextent_of V1x1 b c hStd.c0 hStd.c1)) ?_
            rintro e9 V2x2 ⟨rfl, hb2⟩
            replace hqd := low_trans hqd hb2
            replace hS0 := HKS.out V2x2 hqd
            replace hStd := StpB.keep hStd hb2
            replace hLod := Dy.Sp.keep hLod hb2
            replace hv1d := Dy.Sp.keep hv1d hb2
            refine ⟨_, rfl, hS0, ?_⟩
            simp only [List.setIfInBounds_toArray, List.set_cons_zero, List.set_cons_succ]
            refine anyT_l [6, 10] (by kernel_rfl) (by decide) ⟨?_, ?_, trivial⟩
            · skip
              refine opT_call hF1 (fun h => absurd h (by decide)) 6 59 (w := V2x2) rfl rfl (by kernel_rfl) (by rfl) (by go_simp; try with_reducible rfl; try decide) (callsIn_wide.2 (sbulge_of V2x2 (HT.out.keep (low_trans HB.out hqd)))) ?_
              rintro e9 V3x3 ⟨v3, rfl, ⟨r, r', hr, hr', hv3⟩, hb3⟩
              replace hqd := low_trans hqd hb3
              replace hS0 := HKS.out V3x3 hqd
              replace hStd := StpB.keep hStd hb3
              replace hLod := Dy.Sp.keep hLod hb3
              replace hv1d := Dy.Sp.keep hv1d hb3
              obtain ⟨b3, q3, l3, c3, f3, B3, Q3, L3, C3, F3, rfl, _, _⟩ := id hv3
              have hv3d := hv3
              refine ⟨_, rfl, hS0, ?_⟩
              simp only [List.setIfInBounds_toArray, List.set_cons_zero, List.set_cons_succ]
              refine anyT_l [8, 10] (by kernel_rfl) (by decide) ⟨?_, ?_, trivial⟩
              · skip
                refine opT_call hF1 (fun h => absurd h (by decide)) 8 61 (w := V3x3) rfl rfl (by kernel_rfl) (by rfl) (by go_simp; try with_reducible rfl; try decide) (callsIn_wide.2 (sdivz V3x3 _ _ r r' hLod hv3d hr hr' (HT.out.keep (low_trans HB.out hqd)))) ?_
                rintro e9 V7x4 ⟨v7, rfl, hv7, hb7⟩
                replace hqd := low_trans hqd hb7
                replace hS0 := HKS.out V7x4 hqd
                replace hStd := StpB.keep hStd hb7
                replace hLod := Dy.Sp.keep hLod hb7
                replace hv1d := Dy.Sp.keep hv1d hb7
                replace hv3d := Dy.Sp.keep hv3d hb7
                obtain ⟨b7, q7, l7, c7, f7, B7, Q7, L7, C7, F7, rfl, _, _⟩ := id hv7
                have hv7d := hv7
                refine ⟨_, rfl, hS0, ?_⟩
                simp only [List.setIfInBounds_toArray, List.set_cons_zero, List.set_cons_succ]
                refine anyT_l [9, 10] (by kernel_rfl) (by decide) ⟨?_, ?_, trivial⟩
                · skip
                  refine opT_call hF1 (fun h => absurd h (by decide)) 9 62 (w := V7x4) rfl rfl (by kernel_rfl) (by rfl) (by go_simp; try with_reducible rfl; try decide) (callsIn_wide.2 (ssub1 V7x4 _ _ 1 0 1 hv1d hv7d (by decide) (by decide) (by decide) (HT.out.keep (low_trans HB.out hqd)))) ?_
                  rintro e9 V6x5 ⟨v6, rfl, hv6, hb6⟩
                  replace hqd := low_trans hqd hb6
                  replace hS0 := HKS.out V6x5 hqd
                  replace hStd := StpB.keep hStd hb6
                  replace hLod := Dy.Sp.keep hLod hb6
                  replace hv1d := Dy.Sp.keep hv1d hb6
                  replace hv3d := Dy.Sp.keep hv3d hb6
                  replace hv7d := Dy.Sp.keep hv7d hb6
                  obtain ⟨b6, q6, l6, c6, f6, B6, Q6, L6, C6, F6, rfl, _, _⟩ := id hv6
                  have hv6d := hv6
                  refine ⟨_, rfl, hS0, ?_⟩
                  simp only [List.setIfInBounds_toArray, List.set_cons_zero, List.set_cons_succ]
                  refine anyT_l [10] (by kernel_rfl) (by decide) ⟨?_, trivial⟩
                  refine opT_val hF1 10 12 (w2 := V6x5.alloc (.cells #[.bool false, .slice none 0 0, .int .i64 0, .bool false, .slice none 0 0, .int .i64 0] 116)) (v := .pointer (some ⟨V6x5.heap.size, 0, none⟩)) rfl rfl (by kernel_rfl) rfl (by go_simp; try with_reducible rfl) (HKS.out _ (low_trans hqd ((Below.refl V6x5.heap.size V6x5).alloc (Nat.le_refl _) _))) ?_
                  simp only [List.setIfInBounds_toArray, List.set_cons_zero, List.set_cons_succ]
                  have hba := (Below.refl V6x5.heap.size V6x5).alloc (Nat.le_refl _) (.cells #[.bool false, .slice none 0 0, .int .i64 0, .bool false, .slice none 0 0, .int .i64 0] 116)
                  have hzK := World.alloc_heap_new V6x5 (.cells #[.bool false, .slice none 0 0, .int .i64 0, .bool false, .slice none 0 0, .int .i64 0] 116)
                  have hkK := hqd.size
                  replace hqd := low_trans hqd hba
                  replace hS0 := HKS.out _ hqd
                  replace hStd := StpB.keep hStd hba
                  replace hLod := Dy.Sp.keep hLod hba
                  replace hv1d := Dy.Sp.keep hv1d hba
                  replace hv3d := Dy.Sp.keep hv3d hba
                  replace hv7d := Dy.Sp.keep hv7d hba
                  replace hv6d := Dy.Sp.keep hv6d hba
                  generalize V6x5.alloc (.cells #[.bool false, .slice none 0 0, .int .i64 0, .bool false, .slice none 0 0, .int .i64 0] 116) = K6 at *
                  have z0 := cell_h (k := 0) hzK rfl
                  have z1 := cell_h (k := 1) hzK rfl
                  have z2 := cell_h (k := 2) hzK rfl
                  have z3 := cell_h (k := 3) hzK rfl
                  have z4 := cell_h (k := 4) hzK rfl
                  have z5 := cell_h (k := 5) hzK rfl
                  have zf : ∀ o, K6.frozen? ⟨V6x5.heap.size, o, none⟩ = false := fun o => by simp [World.frozen?, hzK]
                  have hst := set6_all (b1 := b6) (q1 := q6) (l1 := l6) (c1 := c6) (f1 := f6) (b2 := B6) (q2 := Q6) (l2 := L6) (c2 := C6) (f2 := F6) hzK hqd hkK
                  refine anyT_skipN hF1 (w2 := ((((((K6).setCell ⟨V6x5.heap.size, 0, none⟩ (.bool b6)).setCell ⟨V6x5.heap.size, 1, none⟩ (.slice q6 l6 c6)).setCell ⟨V6x5.heap.size, 2, none⟩ (.int .i64 f6)).setCell ⟨V6x5.heap.size, 3, none⟩ (.bool B6)).setCell ⟨V6x5.heap.size, 4, none⟩ (.slice Q6 L6 C6)).setCell ⟨V6x5.heap.size, 5, none⟩ (.int .i64 F6)) rfl rfl (by kernel_rfl) (by kernel_rfl) rfl (by go_simp; try with_reducible rfl) ?_
                  refine anyT_done (by kernel_rfl) ?_ _
                  clear z0 z1 z2 zf z3 z4 z5
                  generalize hW9 : ((((((K6).setCell ⟨V6x5.heap.size, 0, none⟩ (.bool b6)).setCell ⟨V6x5.heap.size, 1, none⟩ (.slice q6 l6 c6)).setCell ⟨V6x5.heap.size, 2, none⟩ (.int .i64 f6)).setCell ⟨V6x5.heap.size, 3, none⟩ (.bool B6)).setCell ⟨V6x5.heap.size, 4, none⟩ (.slice Q6 L6 C6)).setCell ⟨V6x5.heap.size, 5, none⟩ (.int .i64 F6) = Y0z6
                  obtain ⟨hR9, hB9, hS9, hN9⟩ := hst _ hW9
                  go_wp2_with fail
                  go_meet
                  exact ⟨V6x5.heap.size, _, _, _, _, _, _, _, _, _, _, rfl, hR9, hS9 _ _ _ hv6d, hB9⟩
                · skip
                  refine opT_val hF1 10 12 (w2 := V7x4.alloc (.cells #[.bool false, .slice none 0 0, .int .i64 0, .bool false, .slice none 0 0, .int .i64 0] 116)) (v := .pointer (some ⟨V7x4.heap.size, 0, none⟩)) rfl rfl (by kernel_rfl) rfl (by go_simp; try with_reducible rfl) (HKS.out _ (low_trans hqd ((Below.refl V7x4.heap.size V7x4).alloc (Nat.le_refl _) _))) ?_
                  simp only [List.setIfInBounds_toArray, List.set_cons_zero, List.set_cons_succ]
                  have hba := (Below.refl V7x4.heap.size V7x4).alloc (Nat.le_refl _) (.cells #[.bool false, .slice none 0 0, .int .i64 0, .bool false, .slice none 0 0, .int .i64 0] 116)
                  have hzK := World.alloc_heap_new V7x4 (.cells #[.bool false, .slice none 0 0, .int .i64 0, .bool false, .slice none 0 0, .int .i64 0] 116)
                  have hkK := hqd.size
                  replace hqd := low_trans hqd hba
                  replace hS0 := HKS.out _ hqd
                  replace hStd := StpB.keep hStd hba
                  replace hLod := Dy.Sp.keep hLod hba
                  replace hv1d := Dy.Sp.keep hv1d hba
                  replace hv3d := Dy.Sp.keep hv3d hba
                  replace hv7d := Dy.Sp.keep hv7d hba
                  generalize V7x4.alloc (.cells #[.bool false, .slice none 0 0, .int .i64 0, .bool false, .slice none 0 0, .int .i64 0] 116) = K7 at *
                  refine anyT_l [9] (by kernel_rfl) (by decide) ⟨?_, trivial⟩
                  refine opT_call hF1 (fun h => absurd h (by decide)) 9 62 (w := K7) rfl rfl (by kernel_rfl) (by rfl) (by go_simp; try with_reducible rfl; try decide) (callsIn_wide.2 (ssub1 K7 _ _ 1 0 1 hv1d hv7d (by decide) (by decide) (by decide) (HT.out.keep (low_trans HB.out hqd)))) ?_
                  rintro e9 V6x8 ⟨v6, rfl, hv6, hb6⟩
                  replace hqd := low_trans hqd hb6
                  replace hS0 := HKS.out V6x8 hqd
                  replace hStd := StpB.keep hStd hb6
                  replace hLod := Dy.Sp.keep hLod hb6
                  replace hv1d := Dy.Sp.keep hv1d hb6
                  replace hv3d := Dy.Sp.keep hv3d hb6
                  replace hv7d := Dy.Sp.keep hv7d hb6
                  replace hzK := blk1 hzK hb6
                  obtain ⟨b6, q6, l6, c6, f6, B6, Q6, L6, C6, F6, rfl, _, _⟩ := id hv6
                  have hv6d := hv6
                  refine ⟨_, rfl, hS0, ?_⟩
                  simp only [List.setIfInBounds_toArray, List.set_cons_zero, List.set_cons_succ]
                  have z0 := cell_h (k := 0) hzK rfl
                  have z1 := cell_h (k := 1) hzK rfl
                  have z2 := cell_h (k := 2) hzK rfl
                  have z3 := cell_h (k := 3) hzK rfl
                  have z4 := cell_h (k := 4) hzK rfl
                  have z5 := cell_h (k := 5) hzK rfl
                  have zf : ∀ o, V6x8.frozen? ⟨V7x4.heap.size, o, none⟩ = false := fun o => by simp [World.frozen?, hzK]
                  have hst := set6_all (b1 := b6) (q1 := q6) (l1 := l6) (c1 := c6) (f1 := f6) (b2 := B6) (q2 := Q6) (l2 := L6) (c2 := C6) (f2 := F6) hzK hqd hkK
                  refine anyT_skipN hF1 (w2 := ((((((V6x8).setCell ⟨V7x4.heap.size, 0, none⟩ (.bool b6)).setCell ⟨V7x4.heap.size, 1, none⟩ (.slice q6 l6 c6)).setCell ⟨V7x4.heap.size, 2, none⟩ (.int .i64 f6)).setCell ⟨V7x4.heap.size, 3, none⟩ (.bool B6)).setCell ⟨V7x4.heap.size, 4, none⟩ (.slice Q6 L6 C6)).setCell ⟨V7x4.heap.size, 5, none⟩ (.int .i64 F6)) rfl rfl (by kernel_rfl) (by kernel_rfl) rfl (by go_simp; try with_reducible rfl) ?_
                  refine anyT_done (by kernel_rfl) ?_ _
                  clear z0 z1 z2 zf z3 z4 z5
                  generalize hW9 : ((((((V6x8).setCell ⟨V7x4.heap.size, 0, none⟩ (.bool b6)).setCell ⟨V7x4.heap.size, 1, none⟩ (.slice q6 l6 c6)).setCell ⟨V7x4.heap.size, 2, none⟩ (.int .i64 f6)).setCell ⟨V7x4.heap.size, 3, none⟩ (.bool B6)).setCell ⟨V7x4.heap.size, 4, none⟩ (.slice Q6 L6 C6)).setCell ⟨V7x4.heap.size, 5, none⟩ (.int .i64 F6) = Y0z8
                  obtain ⟨hR9, hB9, hS9, hN9⟩ := hst _ hW9
                  go_wp2_with fail
                  go_meet
                  exact ⟨V7x4.heap.size, _, _, _, _, _, _, _, _, _, _, rfl, hR9, hS9 _ _ _ hv6d, hB9⟩
              · skip
                refine opT_val hF1 10 12 (w2 := V3x3.alloc (.cells #[.bool false, .slice none 0 0, .int .i64 0, .bool false, .slice none 0 0, .int .i64 0] 116)) (v := .pointer (some ⟨V3x3.heap.size, 0, none⟩)) rfl rfl (by kernel_rfl) rfl (by go_simp; try with_reducible rfl) (HKS.out _ (low_trans hqd ((Below.refl V3x3.heap.size V3x3).alloc (Nat.le_refl _) _))) ?_
                simp only [List.setIfInBounds_toArray, List.set_cons_zero, List.set_cons_succ]
                have hba := (Below.refl V3x3.heap.size V3x3).alloc (Nat.le_refl _) (.cells #[.bool false, .slice none 0 0, .int .i64 0, .bool false, .slice none 0 0, .int .i64 0] 116)
                have hzK := World.alloc_heap_new V3x3 (.cells #[.bool false, .slice none 0 0, .int .i64 0, .bool false, .slice none 0 0, .int .i64 0] 116)
                have hkK := hqd.size
                replace hqd := low_trans hqd hba
                replace hS0 := HKS.out _ hqd
                replace hStd := StpB.keep hStd hba
                replace hLod := Dy.Sp.keep hLod hba
                replace hv1d := Dy.Sp.keep hv1d hba
                replace hv3d := Dy.Sp.keep hv3d hba
                generalize V3x3.alloc (.cells #[.bool false, .slice none 0 0, .int .i64 0, .bool false, .slice none 0 0, .int .i64 0] 116) = K9 at *
                refine anyT_l [8] (by kernel_rfl) (by decide) ⟨?_, trivial⟩
                refine opT_call hF1 (fun h => absurd h (by decide)) 8 61 (w := K9) rfl rfl (by kernel_rfl) (by rfl) (by go_simp; try with_reducible rfl; try decide) (callsIn_wide.2 (sdivz K9 _ _ r r' hLod hv3d hr hr' (HT.out.keep (low_trans HB.out hqd)))) ?_
                rintro e9 V7x10 ⟨v7, rfl, hv7, hb7⟩
                replace hqd := low_trans hqd hb7
                replace hS0 := HKS.out V7x10 hqd
                replace hStd := StpB.keep hStd hb7
                replace hLod := Dy.Sp.keep hLod hb7
                replace hv1d := Dy.Sp.keep hv1d hb7
                replace hv3d := Dy.Sp.keep hv3d hb7
                replace hzK := blk1 hzK hb7
                obtain ⟨b7, q7, l7, c7, f7, B7, Q7, L7, C7, F7, rfl, _, _⟩ := id hv7
                have hv7d := hv7
                refine ⟨_, rfl, hS0, ?_⟩
                simp only [List.setIfInBounds_toArray, List.set_cons_zero, List.set_cons_succ]
                refine anyT_l [9] (by kernel_rfl) (by decide) ⟨?_, trivial⟩
                refine opT_call hF1 (fun h => absurd h (by decide)) 9 62 (w := V7x10) rfl rfl (by kernel_rfl) (by rfl) (by go_simp; try with_reducible rfl; try decide) (callsIn_wide.2 (ssub1 V7x10 _ _ 1 0 1 hv1d hv7d (by decide) (by decide) (by decide) (HT.out.keep (low_trans HB.out hqd)))) ?_
                rintro e9 V6x11 ⟨v6, rfl, hv6, hb6⟩
                replace hqd := low_trans hqd hb6
                replace hS0 := HKS.out V6x11 hqd
                replace hStd := StpB.keep hStd hb6
                replace hLod := Dy.Sp.keep hLod hb6
                replace hv1d := Dy.Sp.keep hv1d hb6
                replace hv3d := Dy.Sp.keep hv3d hb6
                replace hv7d := Dy.Sp.keep hv7d hb6
                replace hzK := blk1 hzK hb6
                obtain ⟨b6, q6, l6, c6, f6, B6, Q6, L6, C6, F6, rfl, _, _⟩ := id hv6
                have hv6d := hv6
                refine ⟨_, rfl, hS0, ?_⟩
                simp only [List.setIfInBounds_toArray, List.set_cons_zero, List.set_cons_succ]
                have z0 := cell_h (k := 0) hzK rfl
                have z1 := cell_h (k := 1) hzK rfl
                have z2 := cell_h (k := 2) hzK rfl
                have z3 := cell_h (k := 3) hzK rfl
                have z4 := cell_h (k := 4) hzK rfl
                have z5 := cell_h (k := 5) hzK rfl
                have zf : ∀ o, V6x11.frozen? ⟨V3x3.heap.size, o, none⟩ = false := fun o => by simp [World.frozen?, hzK]
                have hst := set6_all (b1 := b6) (q1 := q6) (l1 := l6) (c1 := c6) (f1 := f6) (b2 := B6) (q2 := Q6) (l2 := L6) (c2 := C6) (f2 := F6) hzK hqd hkK
                refine anyT_skipN hF1 (w2 := ((((((V6x11).setCell ⟨V3x3.heap.size, 0, none⟩ (.bool b6)).setCell ⟨V3x3.heap.size, 1, none⟩ (.slice q6 l6 c6)).setCell ⟨V3x3.heap.size, 2, none⟩ (.int .i64 f6)).setCell ⟨V3x3.heap.size, 3, none⟩ (.bool B6)).setCell ⟨V3x3.heap.size, 4, none⟩ (.slice Q6 L6 C6)).setCell ⟨V3x3.heap.size, 5, none⟩ (.int .i64 F6)) rfl rfl (by kernel_rfl) (by kernel_rfl) rfl (by go_simp; try with_reducible rfl) ?_
                refine anyT_done (by kernel_rfl) ?_ _
                clear z0 z1 z2 zf z3 z4 z5
                generalize hW9 : ((((((V6x11).setCell ⟨V3x3.heap.size, 0, none⟩ (.bool b6)).setCell ⟨V3x3.heap.size, 1, none⟩ (.slice q6 l6 c6)).setCell ⟨V3x3.heap.size, 2, none⟩ (.int .i64 f6)).setCell ⟨V3x3.heap.size, 3, none⟩ (.bool B6)).setCell ⟨V3x3.heap.size, 4, none⟩ (.slice Q6 L6 C6)).setCell ⟨V3x3.heap.size, 5, none⟩ (.int .i64 F6) = Y0z11
                obtain ⟨hR9, hB9, hS9, hN9⟩ := hst _ hW9
                go_wp2_with fail
                go_meet
                exact ⟨V3x3.heap.size, _, _, _, _, _, _, _, _, _, _, rfl, hR9, hS9 _ _ _ hv6d, hB9⟩
            · skip
              refine opT_val hF1 10 12 (w2 := V2x2.alloc (.cells #[.bool false, .slice none 0 0, .int .i64 0, .bool false, .slice none 0 0, .int .i64 0] 116)) (v := .pointer (some ⟨V2x2.heap.size, 0, none⟩)) rfl rfl (by kernel_rfl) rfl (by go_simp; try with_reducible rfl) (HKS.out _ (low_trans hqd ((Below.refl V2x2.heap.size V2x2).alloc (Nat.le_refl _) _))) ?_
              simp only [List.setIfInBounds_toArray, List.set_cons_zero, List.set_cons_succ]
              have hba := (Below.refl V2x2.heap.size V2x2).alloc (Nat.le_refl _) (.cells #[.bool false, .slice none 0 0, .int .i64 0, .bool false, .slice none 0 0, .int .i64 0] 116)
              have hzK := World.alloc_heap_new V2x2 (.cells #[.bool false, .slice none 0 0, .int .i64 0, .bool false, .slice none 0 0, .int .i64 0] 116)
              have hkK := hqd.size
              replace hqd := low_trans hqd hba
              replace hS0 := HKS.out _ hqd
              replace hStd := StpB.keep hStd hba
              replace hLod := Dy.Sp.keep hLod hba
              replace hv1d := Dy.Sp.keep hv1d hba
              generalize V2x2.alloc (.cells #[.bool false, .slice none 0 0, .int .i64 0, .bool false, .slice none 0 0, .int .i64 0] 116) = K12 at *
              refine anyT_l [6] (by kernel_rfl) (by decide) ⟨?_, trivial⟩
              refine opT_call hF1 (fun h => absurd h (by decide)) 6 59 (w := K12) rfl rfl (by kernel_rfl) (by rfl) (by go_simp; try with_reducible rfl; try decide) (callsIn_wide.2 (sbulge_of K12 (HT.out.keep (low_trans HB.out hqd)))) ?_
              rintro e9 V3x13 ⟨v3, rfl, ⟨r, r', hr, hr', hv3⟩, hb3⟩
              replace hqd := low_trans hqd hb3
              replace hS0 := HKS.out V3x13 hqd
              replace hStd := StpB.keep hStd hb3
              replace hLod := Dy.Sp.keep hLod hb3
              replace hv1d := Dy.Sp.keep hv1d hb3
              replace hzK := blk1 hzK hb3
              obtain ⟨b3, q3, l3, c3, f3, B3, Q3, L3, C3, F3, rfl, _, _⟩ := id hv3
              have hv3d := hv3
              refine ⟨_, rfl, hS0, ?_⟩
              simp only [List.setIfInBounds_toArray, List.set_cons_zero, List.set_cons_succ]
              refine anyT_l [8] (by kernel_rfl) (by decide) ⟨?_, trivial⟩
              refine opT_call hF1 (fun h => absurd h (by decide)) 8 61 (w := V3x13) rfl rfl (by kernel_rfl) (by rfl) (by go_simp; try with_reducible rfl; try decide) (callsIn_wide.2 (sdivz V3x13 _ _ r r' hLod hv3d hr hr' (HT.out.keep (low_trans HB.out hqd)))) ?_
              rintro e9 V7x14 ⟨v7, rfl, hv7, hb7⟩
              replace hqd := low_trans hqd hb7
              replace hS0 := HKS.out V7x14 hqd
              replace hStd := StpB.keep hStd hb7
              replace hLod := Dy.Sp.keep hLod hb7
              replace hv1d := Dy.Sp.keep hv1d hb7
              replace hv3d := Dy.Sp.keep hv3d hb7
              replace hzK := blk1 hzK hb7
              obtain ⟨b7, q7, l7, c7, f7, B7, Q7, L7, C7, F7, rfl, _, _⟩ := id hv7
              have hv7d := hv7
              refine ⟨_, rfl, hS0, ?_⟩
              simp only [List.setIfInBounds_toArray, List.set_cons_zero, List.set_cons_succ]
              refine anyT_l [9] (by kernel_rfl) (by decide) ⟨?_, trivial⟩
              refine opT_call hF1 (fun h => absurd h (by decide)) 9 62 (w := V7x14) rfl rfl (by kernel_rfl) (by rfl) (by go_simp; try with_reducible rfl; try decide) (callsIn_wide.2 (ssub1 V7x14 _ _ 1 0 1 hv1d hv7d (by decide) (by decide) (by decide) (HT.out.keep (low_trans HB.out hqd)))) ?_
              rintro e9 V6x15 ⟨v6, rfl, hv6, hb6⟩
              replace hqd := low_trans hqd hb6
              replace hS0 := HKS.out V6x15 hqd
              replace hStd := StpB.keep hStd hb6
              replace hLod := Dy.Sp.keep hLod hb6
              replace hv1d := Dy.Sp.keep hv1d hb6
              replace hv3d := Dy.Sp.keep hv3d hb6
              replace hv7d := Dy.Sp.keep hv7d hb6
              replace hzK := blk1 hzK hb6
              obtain ⟨b6, q6, l6, c6, f6, B6, Q6, L6, C6, F6, rfl, _, _⟩ := id hv6
              have hv6d := hv6
              refine ⟨_, rfl, hS0, ?_⟩
              simp only [List.setIfInBounds_toArray, List.set_cons_zero, List.set_cons_succ]
              have z0 := cell_h (k := 0) hzK rfl
              have z1 := cell_h (k := 1) hzK rfl
              have z2 := cell_h (k := 2) hzK rfl
              have z3 := cell_h (k := 3) hzK rfl
              have z4 := cell_h (k := 4) hzK rfl
              have z5 := cell_h (k := 5) hzK rfl
              have zf : ∀ o, V6x15.frozen? ⟨V2x2.heap.size, o, none⟩ = false := fun o => by simp [World.frozen?, hzK]
              have hst := set6_all (b1 := b6) (q1 := q6) (l1 := l6) (c1 := c6) (f1 := f6) (b2 := B6) (q2 := Q6) (l2 := L6) (c2 := C6) (f2 := F6) hzK hqd hkK
              refine anyT_skipN hF1 (w2 := ((((((V6x15).setCell ⟨V2x2.heap.size, 0, none⟩ (.bool b6)).setCell ⟨V2x2.heap.size, 1, none⟩ (.slice q6 l6 c6)).setCell ⟨V2x2.heap.size, 2, none⟩ (.int .i64 f6)).setCell ⟨V2x2.heap.size, 3, none⟩ (.bool B6)).setCell ⟨V2x2.heap.size, 4, none⟩ (.slice Q6 L6 C6)).setCell ⟨V2x2.heap.size, 5, none⟩ (.int .i64 F6)) rfl rfl (by kernel_rfl) (by kernel_rfl) rfl (by go_simp; try with_reducible rfl) ?_
              refine anyT_done (by kernel_rfl) ?_ _
              clear z0 z1 z2 zf z3 z4 z5
              generalize hW9 : ((((((V6x15).setCell ⟨V2x2.heap.size, 0, none⟩ (.bool b6)).setCell ⟨V2x2.heap.size, 1, none⟩ (.slice q6 l6 c6)).setCell ⟨V2x2.heap.size, 2, none⟩ (.int .i64 f6)).setCell ⟨V2x2.heap.size, 3, none⟩ (.bool B6)).setCell ⟨V2x2.heap.size, 4, none⟩ (.slice Q6 L6 C6)).setCell ⟨V2x2.heap.size, 5, none⟩ (.int .i64 F6) = Y0z15
              obtain ⟨hR9, hB9, hS9, hN9⟩ := hst _ hW9
              go_wp2_with fail
              go_meet
              exact ⟨V2x2.heap.size, _, _, _, _, _, _, _, _, _, _, rfl, hR9, hS9 _ _ _ hv6d, hB9⟩
          · skip
            refine opT_val hF1 10 12 (w2 := V1x1.alloc (.cells #[.bool false, .slice none 0 0, .int .i64 0, .bool false, .slice none 0 0, .int .i64 0] 116)) (v := .pointer (some ⟨V1x1.heap.size, 0, none⟩)) rfl rfl (by kernel_rfl) rfl (by go_simp; try with_reducible rfl) (HKS.out _ (low_trans hqd ((Below.refl V1x1.heap.size V1x1).alloc (Nat.le_refl _) _))) ?_
            simp only [List.setIfInBounds_toArray, List.set_cons_zero, List.set_cons_succ]
            have hba := (Below.refl V1x1.heap.size V1x1).alloc (Nat.le_refl _) (.cells #[.bool false, .slice none 0 0, .int .i64 0, .bool false, .slice none 0 0, .int .i64 0] 116)
            have hzK := World.alloc_heap_new V1x1 (.cells #[.bool false, .slice none 0 0, .int .i64 0, .bool false, .slice none 0 0, .int .i64 0] 116)
            have hkK := hqd.size
            replace hqd := low_trans hqd hba
            replace hS0 := HKS.out _ hqd
            replace hStd := StpB.keep hStd hba
            replace hLod := Dy.Sp.keep hLod hba
            replace hv1d := Dy.Sp.keep hv1d hba
            generalize V1x1.alloc (.cells #[.bool false, .slice none 0 0, .int .i64 0, .bool false, .slice none 0 0, .int .i64 0] 116) = K16 at *
            refine anyT_l [4] (by kernel_rfl) (by decide) ⟨?_, trivial⟩
            refine opT_call hF1 (fun h => absurd h (by decide)) 4 57 (w := K16) rfl rfl (by kernel_rfl) (by rfl) (by go_simp; try with_reducible rfl; try decide) (callsIn_wide.2 (sextent_of K16 b c hStd.c0 hStd.c1)) ?_
            rintro e9 V2x17 ⟨rfl, hb2⟩
            replace hqd := low_trans hqd hb2
            replace hS0 := HKS.out V2x17 hqd
            replace hStd := StpB.keep hStd hb2
            replace hLod := Dy.Sp.keep hLod hb2
            replace hv1d := Dy.Sp.keep hv1d hb2
            replace hzK := blk1 hzK hb2
            refine ⟨_, rfl, hS0, ?_⟩
            simp only [List.setIfInBounds_toArray, List.set_cons_zero, List.set_cons_succ]
            refine anyT_l [6] (by kernel_rfl) (by decide) ⟨?_, trivial⟩
            refine opT_call hF1 (fun h => absurd h (by decide)) 6 59 (w := V2x17) rfl rfl (by kernel_rfl) (by rfl) (by go_simp; try with_reducible rfl; try decide) (callsIn_wide.2 (sbulge_of V2x17 (HT.out.keep (low_trans HB.out hqd)))) ?_
            rintro e9 V3x18 ⟨v3, rfl, ⟨r, r', hr, hr', hv3⟩, hb3⟩
            replace hqd := low_trans hqd hb3
            replace hS0 := HKS.out V3x18 hqd
            replace hStd := StpB.keep hStd hb3
            replace hLod := Dy.Sp.keep hLod hb3
            replace hv1d := Dy.Sp.keep hv1d hb3
            replace hzK := blk1 hzK hb3
            obtain ⟨b3, q3, l3, c3, f3, B3, Q3, L3, C3, F3, rfl, _, _⟩ := id hv3
            have hv3d := hv3
            refine ⟨_, rfl, hS0, ?_⟩
            simp only [List.setIfInBounds_toArray, List.set_cons_zero, List.set_cons_succ]
            refine anyT_l [8] (by kernel_rfl) (by decide) ⟨?_, trivial⟩
            refine opT_call hF1 (fun h => absurd h (by decide)) 8 61 (w := V3x18) rfl rfl (by kernel_rfl) (by rfl) (by go_simp; try with_reducible rfl; try decide) (callsIn_wide.2 (sdivz V3x18 _ _ r r' hLod hv3d hr hr' (HT.out.keep (low_trans HB.out hqd)))) ?_
            rintro e9 V7x19 ⟨v7, rfl, hv7, hb7⟩
            replace hqd := low_trans hqd hb7
            replace hS0 := HKS.out V7x19 hqd
            replace hStd := StpB.keep hStd hb7
            replace hLod := Dy.Sp.keep hLod hb7
            replace hv1d := Dy.Sp.keep hv1d hb7
            replace hv3d := Dy.Sp.keep hv3d hb7
            replace hzK := blk1 hzK hb7
            obtain ⟨b7, q7, l7, c7, f7, B7, Q7, L7, C7, F7, rfl, _, _⟩ := id hv7
            have hv7d := hv7
            refine ⟨_, rfl, hS0, ?_⟩
            simp only [List.setIfInBounds_toArray, List.set_cons_zero, List.set_cons_succ]
            refine anyT_l [9] (by kernel_rfl) (by decide) ⟨?_, trivial⟩
            refine opT_call hF1 (fun h => absurd h (by decide)) 9 62 (w := V7x19) rfl rfl (by kernel_rfl) (by rfl) (by go_simp; try with_reducible rfl; try decide) (callsIn_wide.2 (ssub1 V7x19 _ _ 1 0 1 hv1d hv7d (by decide) (by decide) (by decide) (HT.out.keep (low_trans HB.out hqd)))) ?_
            rintro e9 V6x20 ⟨v6, rfl, hv6, hb6⟩
            replace hqd := low_trans hqd hb6
            replace hS0 := HKS.out V6x20 hqd
            replace hStd := StpB.keep hStd hb6
            replace hLod := Dy.Sp.keep hLod hb6
            replace hv1d := Dy.Sp.keep hv1d hb6
            replace hv3d := Dy.Sp.keep hv3d hb6
            replace hv7d := Dy.Sp.keep hv7d hb6
            replace hzK := blk1 hzK hb6
            obtain ⟨b6, q6, l6, c6, f6, B6, Q6, L6, C6, F6, rfl, _, _⟩ := id hv6
            have hv6d := hv6
            refine ⟨_, rfl, hS0, ?_⟩
            simp only [List.setIfInBounds_toArray, List.set_cons_zero, List.set_cons_succ]
            have z0 := cell_h (k := 0) hzK rfl
            have z1 := cell_h (k := 1) hzK rfl
            have z2 := cell_h (k := 2) hzK rfl
            have z3 := cell_h (k := 3) hzK rfl
            have z4 := cell_h (k := 4) hzK rfl
            have z5 := cell_h (k := 5) hzK rfl
            have zf : ∀ o, V6x20.frozen? ⟨V1x1.heap.size, o, none⟩ = false := fun o => by simp [World.frozen?, hzK]
            have hst := set6_all (b1 := b6) (q1 := q6) (l1 := l6) (c1 := c6) (f1 := f6) (b2 := B6) (q2 := Q6) (l2 := L6) (c2 := C6) (f2 := F6) hzK hqd hkK
            refine anyT_skipN hF1 (w2 := ((((((V6x20).setCell ⟨V1x1.heap.size, 0, none⟩ (.bool b6)).setCell ⟨V1x1.heap.size, 1, none⟩ (.slice q6 l6 c6)).setCell ⟨V1x1.heap.size, 2, none⟩ (.int .i64 f6)).setCell ⟨V1x1.heap.size, 3, none⟩ (.bool B6)).setCell ⟨V1x1.heap.size, 4, none⟩ (.slice Q6 L6 C6)).setCell ⟨V1x1.heap.size, 5, none⟩ (.int .i64 F6)) rfl rfl (by kernel_rfl) (by kernel_rfl) rfl (by go_simp; try with_reducible rfl) ?_
            refine anyT_done (by kernel_rfl) ?_ _
            clear z0 z1 z2 zf z3 z4 z5
            generalize hW9 : ((((((V6x20).setCell ⟨V1x1.heap.size, 0, none⟩ (.bool b6)).setCell ⟨V1x1.heap.size, 1, none⟩ (.slice q6 l6 c6)).setCell ⟨V1x1.heap.size, 2, none⟩ (.int .i64 f6)).setCell ⟨V1x1.heap.size, 3, none⟩ (.bool B6)).setCell ⟨V1x1.heap.size, 4, none⟩ (.slice Q6 L6 C6)).setCell ⟨V1x1.heap.size, 5, none⟩ (.int .i64 F6) = Y0z20
            obtain ⟨hR9, hB9, hS9, hN9⟩ := hst _ hW9
            go_wp2_with fail
            go_meet
            exact ⟨V1x1.heap.size, _, _, _, _, _, _, _, _, _, _, rfl, hR9, hS9 _ _ _ hv6d, hB9⟩
        · skip
          refine opT_val hF1 10 12 (w2 := Wd.alloc (.cells #[.bool false, .slice none 0 0, .int .i64 0, .bool false, .slice none 0 0, .int .i64 0] 116)) (v := .pointer (some ⟨Wd.heap.size, 0, none⟩)) rfl rfl (by kernel_rfl) rfl (by go_simp; try with_reducible rfl) (HKS.out _ (low_trans hqd ((Below.refl Wd.heap.size Wd).alloc (Nat.le_refl _) _))) ?_
          simp only [List.setIfInBounds_toArray, List.set_cons_zero, List.set_cons_succ]
          have hba := (Below.refl Wd.heap.size Wd).alloc (Nat.le_refl _) (.cells #[.bool false, .slice none 0 0, .int .i64 0, .bool false, .slice none 0 0, .int .i64 0] 116)
          have hzK := World.alloc_heap_new Wd (.cells #[.bool false, .slice none 0 0, .int .i64 0, .bool false, .slice none 0 0, .int .i64 0] 116)
          have hkK := hqd.size
          replace hqd := low_trans hqd hba
          replace hS0 := HKS.out _ hqd
          replace hStd := StpB.keep hStd hba
          replace hLod := Dy.Sp.keep hLod hba
          generalize Wd.alloc (.cells #[.bool false, .slice none 0 0, .int .i64 0, .bool false, .slice none 0 0, .int .i64 0] 116) = K21 at *
          refine anyT_l [0] (by kernel_rfl) (by decide) ⟨?_, trivial⟩
          refine opT_call hF1 (fun h => absurd h (by decide)) 0 53 (w := K21) rfl rfl (by kernel_rfl) (by rfl) (by go_simp; try with_reducible rfl; try decide) (callsIn_wide.2 (sonly_of K21 1 (by unfold Dy.I64; omega) (HT.out.keep (low_trans HB.out hqd)))) ?_
          rintro e9 V1x22 ⟨v1, rfl, hv1, hb1⟩
          replace hqd := low_trans hqd hb1
          replace hS0 := HKS.out V1x22 hqd
          replace hStd := StpB.keep hStd hb1
          replace hLod := Dy.Sp.keep hLod hb1
          replace hzK := blk1 hzK hb1
          obtain ⟨b1, q1, l1, c1, f1, B1, Q1, L1, C1, F1, rfl, _, _⟩ := id hv1
          have hv1d := hv1
          refine ⟨_, rfl, hS0, ?_⟩
          simp only [List.setIfInBounds_toArray, List.set_cons_zero, List.set_cons_succ]
          refine anyT_l [4] (by kernel_rfl) (by decide) ⟨?_, trivial⟩
          refine opT_call hF1 (fun h => absurd h (by decide)) 4 57 (w := V1x22) rfl rfl (by kernel_rfl) (by rfl) (by go_simp; try with_reducible rfl; try decide) (callsIn_wide.2 (sextent_of V1x22 b c hStd.c0 hStd.c1)) ?_
          rintro e9 V2x23 ⟨rfl, hb2⟩
          replace hqd := low_trans hqd hb2
          replace hS0 := HKS.out V2x23 hqd
          replace hStd := StpB.keep hStd hb2
          replace hLod := Dy.Sp.keep hLod hb2
          replace hv1d := Dy.Sp.keep hv1d hb2
          replace hzK := blk1 hzK hb2
          refine ⟨_, rfl, hS0, ?_⟩
          simp only [List.setIfInBounds_toArray, List.set_cons_zero, List.set_cons_succ]
          refine anyT_l [6] (by kernel_rfl) (by decide) ⟨?_, trivial⟩
          refine opT_call hF1 (fun h => absurd h (by decide)) 6 59 (w := V2x23) rfl rfl (by kernel_rfl) (by rfl) (by go_simp; try with_reducible rfl; try decide) (callsIn_wide.2 (sbulge_of V2x23 (HT.out.keep (low_trans HB.out hqd)))) ?_
          rintro e9 V3x24 ⟨v3, rfl, ⟨r, r', hr, hr', hv3⟩, hb3⟩
          replace hqd := low_trans hqd hb3
          replace hS0 := HKS.out V3x24 hqd
          replace hStd := StpB.keep hStd hb3
          replace hLod := Dy.Sp.keep hLod hb3
          replace hv1d := Dy.Sp.keep hv1d hb3
          replace hzK := blk1 hzK hb3
          obtain ⟨b3, q3, l3, c3, f3, B3, Q3, L3, C3, F3, rfl, _, _⟩ := id hv3
          have hv3d := hv3
          refine ⟨_, rfl, hS0, ?_⟩
          simp only [List.setIfInBounds_toArray, List.set_cons_zero, List.set_cons_succ]
          refine anyT_l [8] (by kernel_rfl) (by decide) ⟨?_, trivial⟩
          refine opT_call hF1 (fun h => absurd h (by decide)) 8 61 (w := V3x24) rfl rfl (by kernel_rfl) (by rfl) (by go_simp; try with_reducible rfl; try decide) (callsIn_wide.2 (sdivz V3x24 _ _ r r' hLod hv3d hr hr' (HT.out.keep (low_trans HB.out hqd)))) ?_
          rintro e9 V7x25 ⟨v7, rfl, hv7, hb7⟩
          replace hqd := low_trans hqd hb7
          replace hS0 := HKS.out V7x25 hqd
          replace hStd := StpB.keep hStd hb7
          replace hLod := Dy.Sp.keep hLod hb7
          replace hv1d := Dy.Sp.keep hv1d hb7
          replace hv3d := Dy.Sp.keep hv3d hb7
          replace hzK := blk1 hzK hb7
          obtain ⟨b7, q7, l7, c7, f7, B7, Q7, L7, C7, F7, rfl, _, _⟩ := id hv7
          have hv7d := hv7
          refine ⟨_, rfl, hS0, ?_⟩
          simp only [List.setIfInBounds_toArray, List.set_cons_zero, List.set_cons_succ]
          refine anyT_l [9] (by kernel_rfl) (by decide) ⟨?_, trivial⟩
          refine opT_call hF1 (fun h => absurd h (by decide)) 9 62 (w := V7x25) rfl rfl (by kernel_rfl) (by rfl) (by go_simp; try with_reducible rfl; try decide) (callsIn_wide.2 (ssub1 V7x25 _ _ 1 0 1 hv1d hv7d (by decide) (by decide) (by decide) (HT.out.keep (low_trans HB.out hqd)))) ?_
          rintro e9 V6x26 ⟨v6, rfl, hv6, hb6⟩
          replace hqd := low_trans hqd hb6
          replace hS0 := HKS.out V6x26 hqd
          replace hStd := StpB.keep hStd hb6
          replace hLod := Dy.Sp.keep hLod hb6
          replace hv1d := Dy.Sp.keep hv1d hb6
          replace hv3d := Dy.Sp.keep hv3d hb6
          replace hv7d := Dy.Sp.keep hv7d hb6
          replace hzK := blk1 hzK hb6
          obtain ⟨b6, q6, l6, c6, f6, B6, Q6, L6, C6, F6, rfl, _, _⟩ := id hv6
          have hv6d := hv6
          refine ⟨_, rfl, hS0, ?_⟩
          simp only [List.setIfInBounds_toArray, List.set_cons_zero, List.set_cons_succ]
          have z0 := cell_h (k := 0) hzK rfl
          have z1 := cell_h (k := 1) hzK rfl
          have z2 := cell_h (k := 2) hzK rfl
          have z3 := cell_h (k := 3) hzK rfl
          have z4 := cell_h (k := 4) hzK rfl
          have z5 := cell_h (k := 5) hzK rfl
          have zf : ∀ o, V6x26.frozen? ⟨Wd.heap.size, o, none⟩ = false := fun o => by simp [World.frozen?, hzK]
          have hst := set6_all (b1 := b6) (q1 := q6) (l1 := l6) (c1 := c6) (f1 := f6) (b2 := B6) (q2 := Q6) (l2 := L6) (c2 := C6) (f2 := F6) hzK hqd hkK
          refine anyT_skipN hF1 (w2 := ((((((V6x26).setCell ⟨Wd.heap.size, 0, none⟩ (.bool b6)).setCell ⟨Wd.heap.size, 1, none⟩ (.slice q6 l6 c6)).setCell ⟨Wd.heap.size, 2, none⟩ (.int .i64 f6)).setCell ⟨Wd.heap.size, 3, none⟩ (.bool B6)).setCell ⟨Wd.heap.size, 4, none⟩ (.slice Q6 L6 C6)).setCell ⟨Wd.heap.size, 5, none⟩ (.int .i64 F6)) rfl rfl (by kernel_rfl) (by kernel_rfl) rfl (by go_simp; try with_reducible rfl) ?_
          refine anyT_done (by kernel_rfl) ?_ _
          clear z0 z1 z2 zf z3 z4 z5
          generalize hW9 : ((((((V6x26).setCell ⟨Wd.heap.size, 0, none⟩ (.bool b6)).setCell ⟨Wd.heap.size, 1, none⟩ (.slice q6 l6 c6)).setCell ⟨Wd.heap.size, 2, none⟩ (.int .i64 f6)).setCell ⟨Wd.heap.size, 3, none⟩ (.bool B6)).setCell ⟨Wd.heap.size, 4, none⟩ (.slice Q6 L6 C6)).setCell ⟨Wd.heap.size, 5, none⟩ (.int .i64 F6) = Y0z26
          obtain ⟨hR9, hB9, hS9, hN9⟩ := hst _ hW9
          go_wp2_with fail
          go_meet
          exact ⟨Wd.heap.size, _, _, _, _, _, _, _, _, _, _, rfl, hR9, hS9 _ _ _ hv6d, hB9⟩
      case rest =>
        obtain ⟨K3, b6, q6, l6, c6, f6, B6, Q6, L6, C6, F6, rfl, hK, hS, hBw⟩ := hcut
        replace HP := Lib.hid (blk1 HP.out hBw)
        replace HR := Lib.hid (blk1 HR.out hBw)
        replace HSt := Lib.hid (StpB.keep HSt.out hBw)
        replace HB := Lib.hid (low_trans HB.out hBw)
        replace HK1 := Lib.hid (blk1 HK1.out hBw)
        replace HS1 := Lib.hid (Dy.Sp.keep HS1.out hBw)
        replace HK2 := Lib.hid (blk1 HK2.out hBw)
        replace HS2 := Lib.hid (Dy.Sp.keep HS2.out hBw)
        have HK3 := Lib.hid hK
        have HS3 := Lib.hid hS
        clear hBw hK hS HKS
        go_upto_region 10 with fail
        have HKS : Hid (∀ V, Below wc.heap.size wc V → V.cell? ⟨K2, 0, none⟩ = some (.bool b5) ∧ V.cell? ⟨K2, 1, none⟩ = some (.slice q5 l5 c5) ∧ V.cell? ⟨K2, 2, none⟩ = some (.int .i64 f5) ∧ V.cell? ⟨K2, 3, none⟩ = some (.bool B5) ∧ V.cell? ⟨K2, 4, none⟩ = some (.slice Q5 L5 C5) ∧ V.cell? ⟨K2, 5, none⟩ = some (.int .i64 F5) ∧ V.cell? ⟨K1, 0, none⟩ = some (.bool b4) ∧ V.cell? ⟨K1, 1, none⟩ = some (.slice q4 l4 c4) ∧ V.cell? ⟨K1, 2, none⟩ = some (.int .i64 f4) ∧ V.cell? ⟨K1, 3, none⟩ = some (.bool B4) ∧ V.cell? ⟨K1, 4, none⟩ = some (.slice Q4 L4 C4) ∧ V.cell? ⟨K1, 5, none⟩ = some (.int .i64 F4) ∧ V.cell? ⟨K3, 0, none⟩ = some (.bool b6) ∧ V.cell? ⟨K3, 1, none⟩ = some (.slice q6 l6 c6) ∧ V.cell? ⟨K3, 2, none⟩ = some (.int .i64 f6) ∧ V.cell? ⟨K3, 3, none⟩ = some (.bool B6) ∧ V.cell? ⟨K3, 4, none⟩ = some (.slice Q6 L6 C6) ∧ V.cell? ⟨K3, 5, none⟩ = some (.int .i64 F6)) := fun V hV => ⟨cell_h (blk1 HK2.out hV) rfl, cell_h (blk1 HK2.out hV) rfl, cell_h (blk1 HK2.out hV) rfl, cell_h (blk1 HK2.out hV) rfl, cell_h (blk1 HK2.out hV) rfl, cell_h (blk1 HK2.out hV) rfl, cell_h (blk1 HK1.out hV) rfl, cell_h (blk1 HK1.out hV) rfl, cell_h (blk1 HK1.out hV) rfl, cell_h (blk1 HK1.out hV) rfl, cell_h (blk1 HK1.out hV) rfl, cell_h (blk1 HK1.out hV) rfl, cell_h (blk1 HK3.out hV) rfl, cell_h (blk1 HK3.out hV) rfl, cell_h (blk1 HK3.out hV) rfl, cell_h (blk1 HK3.out hV) rfl, cell_h (blk1 HK3.out hV) rfl, cell_h (blk1 HK3.out hV) rfl⟩
        have hLo := HS1.out
        have hSo := HS2.out
        have hBu := HS3.out
        refine (wpIn_wide (n := 5)).1 ?_
        refine wpIn_region_T 8 (fun W2 : World => W2.cell? ⟨K2, 0, none⟩ = some (.bool b5) ∧ W2.cell? ⟨K2, 1, none⟩ = some (.slice q5 l5 c5) ∧ W2.cell? ⟨K2, 2, none⟩ = some (.int .i64 f5) ∧ W2.cell? ⟨K2, 3, none⟩ = some (.bool B5) ∧ W2.cell? ⟨K2, 4, none⟩ = some (.slice Q5 L5 C5) ∧ W2.cell? ⟨K2, 5, none⟩ = some (.int .i64 F5) ∧ W2.cell? ⟨K1, 0, none⟩ = some (.bool b4) ∧ W2.cell? ⟨K1, 1, none⟩ = some (.slice q4 l4 c4) ∧ W2.cell? ⟨K1, 2, none⟩ = some (.int .i64 f4) ∧ W2.cell? ⟨K1, 3, none⟩ = some (.bool B4) ∧ W2.cell? ⟨K1, 4, none⟩ = some (.slice Q4 L4 C4) ∧ W2.cell? ⟨K1, 5, none⟩ = some (.int .i64 F4) ∧ W2.cell? ⟨K3, 0, none⟩ = some (.bool b6) ∧ W2.cell? ⟨K3, 1, none⟩ = some (.slice q6 l6 c6) ∧ W2.cell? ⟨K3, 2, none⟩ = some (.int .i64 f6) ∧ W2.cell? ⟨K3, 3, none⟩ = some (.bool B6) ∧ W2.cell? ⟨K3, 4, none⟩ = some (.slice Q6 L6 C6) ∧ W2.cell? ⟨K3, 5, none⟩ = some (.int .i64 F6)) (by kernel_rfl) ?_
        change anyT _ _ _ _ _ _ _ _ 9 (Array.replicate 9 false) _ _
        have hqd : Below wc.heap.size wc wc.drew := (Below.refl _ _).drew
        have hLod := Dy.Sp.keep hLo hqd
        have hSod := Dy.Sp.keep hSo hqd
        have hBud := Dy.Sp.keep hBu hqd
        generalize wc.drew = Wd at *
        have hS0 := HKS.out Wd hqd
        refine anyT_takeD hF1 0 63 (v := ?_) rfl rfl (by kernel_rfl) (by kernel_rfl) (by kernel_rfl) (by kernel_rfl) (by kernel_rfl) (fun _ _ _ h => h) hS0 rfl ?_ ?_
        rotate_left
        · intro W2 hSw; obtain ⟨r0, r1, r2, r3, r4, r5, r6, r7, r8, r9, r10, r11, r12, r13, r14, r15, r16, r17⟩ := hSw; go_simp; try with_reducible rfl
        simp only [List.setIfInBounds_toArray, List.set_cons_zero, List.set_cons_succ]
        refine anyT_takeD hF1 2 65 (v := ?_) rfl rfl (by kernel_rfl) (by kernel_rfl) (by kernel_rfl) (by kernel_rfl) (by kernel_rfl) (fun _ _ _ h => h) hS0 rfl ?_ ?_
        rotate_left
        · intro W2 hSw; obtain ⟨r0, r1, r2, r3, r4, r5, r6, r7, r8, r9, r10, r11, r12, r13, r14, r15, r16, r17⟩ := hSw; go_simp; try with_reducible rfl
        simp only [List.setIfInBounds_toArray, List.set_cons_zero, List.set_cons_succ]
        refine anyT_takeD hF1 5 68 (v := ?_) rfl rfl (by kernel_rfl) (by kernel_rfl) (by kernel_rfl) (by kernel_rfl) (by kernel_rfl) (fun _ _ _ h => h) hS0 rfl ?_ ?_
        rotate_left
        · intro W2 hSw; obtain ⟨r0, r1, r2, r3, r4, r5, r6, r7, r8, r9, r10, r11, r12, r13, r14, r15, r16, r17⟩ := hSw; go_simp; try with_reducible rfl
        simp only [List.setIfInBounds_toArray, List.set_cons_zero, List.set_cons_succ]
        refine anyT_takeD hF1 6 69 (v := ?_) rfl rfl (by kernel_rfl) (by kernel_rfl) (by kernel_rfl) (by kernel_rfl) (by kernel_rfl) (fun _ _ _ h => h) hS0 rfl ?_ ?_
        rotate_left
        · intro W2 hSw; obtain ⟨r0, r1, r2, r3, r4, r5, r6, r7, r8, r9, r10, r11, r12, r13, r14, r15, r16, r17⟩ := hSw; go_simp; try with_reducible rfl
        simp only [List.setIfInBounds_toArray, List.set_cons_zero, List.set_cons_succ]
        refine anyT_call hF1 (fun h => absurd h (by decide)) 1 64 (w := Wd) rfl rfl (by kernel_rfl) (by kernel_rfl) (by rfl) (by go_simp; try with_reducible rfl) (callsIn_wide.2 (sonly_of Wd 1 (by unfold Dy.I64; omega) (HT.out.keep (low_trans HB.out hqd)))) ?_
        rintro e9 V1 ⟨v1, rfl, hv1, hb1⟩
        replace hqd := low_trans hqd hb1
        replace hS0 := HKS.out V1 hqd
        replace hLod := Dy.Sp.keep hLod hb1
        replace hSod := Dy.Sp.keep hSod hb1
        replace hBud := Dy.Sp.keep hBud hb1
        obtain ⟨b1, q1, l1, c1, f1, B1, Q1, L1, C1, F1, rfl, _, _⟩ := id hv1
        have hv1d := hv1
        refine ⟨_, rfl, hS0, ?_⟩
        simp only [List.setIfInBounds_toArray, List.set_cons_zero, List.set_cons_succ]
        refine anyT_call hF1 (fun h => absurd h (by decide)) 3 66 (w := V1) rfl rfl (by kernel_rfl) (by kernel_rfl) (by rfl) (by go_simp; try with_reducible rfl) (callsIn_wide.2 (ssub1 V1 _ _ 1 0 1 hv1d hLod (by decide) (by decide) (by decide) (HT.out.keep (low_trans HB.out hqd)))) ?_
        rintro e9 V2 ⟨v2, rfl, hv2, hb2⟩
        replace hqd := low_trans hqd hb2
        replace hS0 := HKS.out V2 hqd
        replace hLod := Dy.Sp.keep hLod hb2
        replace hSod := Dy.Sp.keep hSod hb2
        replace hBud := Dy.Sp.keep hBud hb2
        replace hv1d := Dy.Sp.keep hv1d hb2
        obtain ⟨b2, q2, l2, c2, f2, B2, Q2, L2, C2, F2, rfl, _, _⟩ := id hv2
        have hv2d := hv2
        refine ⟨_, rfl, hS0, ?_⟩
        simp only [List.setIfInBounds_toArray, List.set_cons_zero, List.set_cons_succ]
        refine anyT_call hF1 (fun h => absurd h (by decide)) 4 67 (w := V2) rfl rfl (by kernel_rfl) (by kernel_rfl) (by rfl) (by go_simp; try with_reducible rfl) (callsIn_wide.2 (smul_int V2 _ _ 8000 8000 1 1 8000 8000 hSod hv2d (by decide) (by decide) (by decide) (by decide) (by decide) (by decide) (HT.out.keep (low_trans HB.out hqd)))) ?_
        rintro e9 V3 ⟨v3, rfl, hv3, hb3⟩
        replace hqd := low_trans hqd hb3
        replace hS0 := HKS.out V3 hqd
        replace hLod := Dy.Sp.keep hLod hb3
        replace hSod := Dy.Sp.keep hSod hb3
        replace hBud := Dy.Sp.keep hBud hb3
        replace hv1d := Dy.Sp.keep hv1d hb3
        replace hv2d := Dy.Sp.keep hv2d hb3
        obtain ⟨b3, q3, l3, c3, f3, B3, Q3, L3, C3, F3, rfl, _, _⟩ := id hv3
        have hv3d := hv3
        refine ⟨_, rfl, hS0, ?_⟩
        simp only [List.setIfInBounds_toArray, List.set_cons_zero, List.set_cons_succ]
        refine anyT_call hF1 (fun h => absurd h (by decide)) 7 70 (w := V3) rfl rfl (by kernel_rfl) (by kernel_rfl) (by rfl) (by go_simp; try with_reducible rfl) (callsIn_wide.2 (sdiv1 V3 _ _ 8000 hv3d hBud (by decide) (HT.out.keep (low_trans HB.out hqd)))) ?_
        rintro e9 V7 ⟨v7, rfl, hv7, hb7⟩
        replace hqd := low_trans hqd hb7
        replace hS0 := HKS.out V7 hqd
        replace hLod := Dy.Sp.keep hLod hb7
        replace hSod := Dy.Sp.keep hSod hb7
        replace hBud := Dy.Sp.keep hBud hb7
        replace hv1d := Dy.Sp.keep hv1d hb7
        replace hv2d := Dy.Sp.keep hv2d hb7
        replace hv3d := Dy.Sp.keep hv3d hb7
        obtain ⟨b7, q7, l7, c7, f7, B7, Q7, L7, C7, F7, rfl, _, _⟩ := id hv7
        have hv7d := hv7
        refine ⟨_, rfl, hS0, ?_⟩
        simp only [List.setIfInBounds_toArray, List.set_cons_zero, List.set_cons_succ]
        have hs7 := hv7d
        have hR7 := blk1 HR.out hqd
        have HA := Lib.hid (set6_all (b1 := b7) (q1 := q7) (l1 := l7) (c1 := c7) (f1 := f7) (b2 := B7) (q2 := Q7) (l2 := L7) (c2 := C7) (f2 := F7) hR7 (low_trans HB.out hqd) (by omega : w.heap.size ≤ w.heap.size + 1))
        have z0 := cell_h (k := 0) hR7 rfl
        have z1 := cell_h (k := 1) hR7 rfl
        have z2 := cell_h (k := 2) hR7 rfl
        have z3 := cell_h (k := 3) hR7 rfl
        have z4 := cell_h (k := 4) hR7 rfl
        have z5 := cell_h (k := 5) hR7 rfl
        have zf : ∀ o, V7.frozen? ⟨w.heap.size + 1, o, none⟩ = false := fun o => by simp [World.frozen?, hR7]
        refine anyT_skipN hF1 (w2 := ((((((V7).setCell ⟨w.heap.size + 1, 0, none⟩ (.bool b7)).setCell ⟨w.heap.size + 1, 1, none⟩ (.slice q7 l7 c7)).setCell ⟨w.heap.size + 1, 2, none⟩ (.int .i64 f7)).setCell ⟨w.heap.size + 1, 3, none⟩ (.bool B7)).setCell ⟨w.heap.size + 1, 4, none⟩ (.slice Q7 L7 C7)).setCell ⟨w.heap.size + 1, 5, none⟩ (.int .i64 F7)) rfl rfl (by kernel_rfl) (by kernel_rfl) rfl (by go_simp; try with_reducible rfl) ?_
        refine anyT_done (by kernel_rfl) ?_ _
        generalize hW9 : ((((((V7).setCell ⟨w.heap.size + 1, 0, none⟩ (.bool b7)).setCell ⟨w.heap.size + 1, 1, none⟩ (.slice q7 l7 c7)).setCell ⟨w.heap.size + 1, 2, none⟩ (.int .i64 f7)).setCell ⟨w.heap.size + 1, 3, none⟩ (.bool B7)).setCell ⟨w.heap.size + 1, 4, none⟩ (.slice Q7 L7 C7)).setCell ⟨w.heap.size + 1, 5, none⟩ (.int .i64 F7) = W9
        obtain ⟨hR9, hB9, hS9, _⟩ := HA.out W9 hW9
        have y0 := cell_h (k := 0) hR9 rfl
        have y1 := cell_h (k := 1) hR9 rfl
        have y2 := cell_h (k := 2) hR9 rfl
        have y3 := cell_h (k := 3) hR9 rfl
        have y4 := cell_h (k := 4) hR9 rfl
        have y5 := cell_h (k := 5) hR9 rfl
        go_wp2_with fail
        exact bodyPost_ret (v := .agg #[.bool b7, .slice q7 l7 c7, .int .i64 f7, .bool B7, .slice Q7 L7 C7, .int .i64 F7]) (by simp [results, Tryz.results90, go_sem, y0, y1, y2, y3, y4, y5]) rfl ⟨_, rfl, hS9 _ _ _ hs7, hB9⟩
end Go.Proofs.YtlphlbgbbblnpaaGreatDoor
