/-
  WALKS: the law of GrowthCosts.
-/
import Derived.Test.YtlbffdgojmjijaaGreatDoorGrH
import Derived.Test.YtlbffdgojmjijaaGreatDoorGrE
namespace Go.Proofs.YtlbffdgojmjijaaGreatDoor
open Go.RowKit

theorem arOk_sym (a b : Int) : arOk a b ↔ arOk b a := ⟨fun h => ⟨h.2, h.1⟩, fun h => ⟨h.2, h.1⟩⟩
theorem arR_sym (a b : Int) : arR a b = arR b a := by
  unfold arR
  by_cases h : arOk a b
  · rw [if_pos h, if_pos ((arOk_sym a b).1 h), ar_sym]
  · rw [if_neg h, if_neg (fun e => h ((arOk_sym a b).2 e))]
theorem arE_sym (a b : Int) : arE a b = arE b a := by
  unfold arE
  by_cases h : arOk a b
  · rw [if_pos h, if_pos ((arOk_sym a b).1 h)]
  · rw [if_neg h, if_neg (fun e => h ((arOk_sym a b).2 e))]
set_option maxRecDepth 100000 in
set_option maxHeartbeats 8000000 in
theorem growthCosts_law (w : World) (p : Option Addr) (n cp : Nat) (g : Nat → Int) (a c l wd lo hi a' c' l' wd' lo' hi' f t s al : Int) (hn : n ≤ maxLen) (hS : Sl w 6 p n g) (hT : Dy.Tab w) (hP : Dy.Pow w) :
    Calls Tryz.prog 3 #[.slice p n cp, .agg #[.int .i64 a, .int .i64 c, .int .i64 l, .int .i64 wd, .int .i64 lo, .int .i64 hi], .agg #[.int .i64 a', .int .i64 c', .int .i64 l', .int .i64 wd', .int .i64 lo', .int .i64 hi'], .agg #[.int .i64 f, .int .i64 t, .int .i64 s, .int .i64 al]] w fun e' w' => e' = .returned (.bool true) ∧ Below w.heap.size w w' := by
  have HK : Hid (∀ V, Below w.heap.size w V → Calls Tryz.prog 8 #[] V fun e w' => e = .returned (.bool true) ∧ Below V.heap.size V w') := fun V hV => awake8_of V (hT.keep hV) (hP.keep hV)
  have HS := Lib.hid hS
  clear hT hP hS
  have hn2 : (n : Int) ≤ 9223372036854775807 := by unfold maxLen at hn; omega
  obtain ⟨r, hr⟩ : ∃ r, csP (rlE f t s al) (fdE a c l wd lo hi) (fdE a' c' l' wd' lo' hi') (max (a - a') (a' - a)) (arV c c') f t s = r := ⟨_, rfl⟩
  obtain ⟨r1, r2⟩ := r
  have HC1 : Hid (∀ V, Calls Tryz.prog 13 #[.agg #[.int .i64 a, .int .i64 c, .int .i64 l, .int .i64 wd, .int .i64 lo, .int .i64 hi], .agg #[.int .i64 a', .int .i64 c', .int .i64 l', .int .i64 wd', .int .i64 lo', .int .i64 hi'], .agg #[.int .i64 f, .int .i64 t, .int .i64 s, .int .i64 al]] V fun e' w' => e' = .returned (.tuple #[.int .i64 r1, .int .i64 r2]) ∧ Below V.heap.size V w') := fun V => gCost_of V a c l wd lo hi a' c' l' wd' lo' hi' f t s al r1 r2 hr
  have HC2 : Hid (∀ V, Calls Tryz.prog 14 #[.agg #[.int .i64 a, .int .i64 c, .int .i64 l, .int .i64 wd, .int .i64 lo, .int .i64 hi], .agg #[.int .i64 a', .int .i64 c', .int .i64 l', .int .i64 wd', .int .i64 lo', .int .i64 hi'], .agg #[.int .i64 f, .int .i64 t, .int .i64 s, .int .i64 al]] V fun e' w' => e' = .returned (.tuple #[.int .i64 r1, .int .i64 r2]) ∧ Below V.heap.size V w') := fun V => hCost_of V a c l wd lo hi a' c' l' wd' lo' hi' f t s al r1 r2 hr
  have HA1 : Hid (∀ V, Calls Tryz.prog 9 #[.int .i64 c, .int .i64 c'] V fun e w' => e = .returned (.tuple #[.int .i64 (arR c c'), .int .i64 (arE c c')]) ∧ w' = V) := fun V => gAround_of V c c'
  have HA2 : Hid (∀ V, Calls Tryz.prog 10 #[.int .i64 c, .int .i64 c'] V fun e w' => e = .returned (.tuple #[.int .i64 (arR c c'), .int .i64 (arE c c')]) ∧ w' = V) := fun V => hAround_of V c c'
  have HA3 : Hid (∀ V, Calls Tryz.prog 9 #[.int .i64 c', .int .i64 c] V fun e w' => e = .returned (.tuple #[.int .i64 (arR c c'), .int .i64 (arE c c')]) ∧ w' = V) := fun V => by rw [arR_sym c c', arE_sym c c']; exact gAround_of V c' c
  have HK1 : Hid (∀ V, Below w.heap.size w V → Calls Tryz.prog 11 #[.slice p n cp] V fun e w' => e = .returned (.int .i64 (chF n g)) ∧ Below V.heap.size V w') := fun V hV => gCheck_of V p n cp g hn (HS.out.keep (by decide) hV)
  have HK2 : Hid (∀ V, Below w.heap.size w V → Calls Tryz.prog 12 #[.slice p n cp] V fun e w' => e = .returned (.int .i64 (chF n g)) ∧ Below V.heap.size V w') := fun V hV => hCheck_of V p n cp g hn (HS.out.keep (by decide) hV)
  generalize arR c c' = q1 at HA1 HA2 HA3
  generalize arE c c' = q2 at HA1 HA2 HA3
  generalize chF n g = q3 at HK1 HK2
  clear hr HS
  go_enter Tryz.func3, Tryz.ntmps3
  go_upto_region 1 with fail
  obtain ⟨W, hW⟩ : ∃ W, ((w.alloc (.cells #[.int .i64 a, .int .i64 c, .int .i64 l, .int .i64 wd, .int .i64 lo, .int .i64 hi] 26)).alloc (.cells #[.int .i64 a', .int .i64 c', .int .i64 l', .int .i64 wd', .int .i64 lo', .int .i64 hi'] 26)).alloc (.cells #[.int .i64 f, .int .i64 t, .int .i64 s, .int .i64 al] 28) = W := ⟨_, rfl⟩
  rw [hW]
  have hB : Below w.heap.size w W := by rw [← hW]; exact (((Below.refl _ _).alloc (Nat.le_refl _) _).alloc (by simp) _).alloc (by simp; omega) _
  have hP : W.heap[w.heap.size]? = some (.cells #[.int .i64 a, .int .i64 c, .int .i64 l, .int .i64 wd, .int .i64 lo, .int .i64 hi] 26 (0, 0)) ∧ W.heap[w.heap.size + 1]? = some (.cells #[.int .i64 a', .int .i64 c', .int .i64 l', .int .i64 wd', .int .i64 lo', .int .i64 hi'] 26 (0, 0)) ∧ W.heap[w.heap.size + 1 + 1]? = some (.cells #[.int .i64 f, .int .i64 t, .int .i64 s, .int .i64 al] 28 (0, 0)) := by rw [← hW]; exact ⟨al_old (al_old (World.alloc_heap_new w _) _) _, al_old (al_1 w _ _) _, al_2 w _ _ _⟩
  have HB := Lib.hid hB
  have HP := Lib.hid hP
  clear hW hB hP
  by_cases h40 : 40 < n
  · go_wp2_with fail
    refine (HK.out W HB.out).mono ?_
    rintro e W3 ⟨rfl, hb⟩
    have HB3 := Lib.hid (low_trans HB.out hb)
    clear hb
    go_wp2_with fail
    go_ret
    exact ⟨rfl, HB3.out⟩
  have s0 := cell_h (k := 0) HP.out.1 rfl
  have s1 := cell_h (k := 1) HP.out.1 rfl
  have s2 := cell_h (k := 2) HP.out.1 rfl
  have s3 := cell_h (k := 3) HP.out.1 rfl
  have s4 := cell_h (k := 4) HP.out.1 rfl
  have s5 := cell_h (k := 5) HP.out.1 rfl
  have t0 := cell_h (k := 0) HP.out.2.1 rfl
  have t1 := cell_h (k := 1) HP.out.2.1 rfl
  have t2 := cell_h (k := 2) HP.out.2.1 rfl
  have t3 := cell_h (k := 3) HP.out.2.1 rfl
  have t4 := cell_h (k := 4) HP.out.2.1 rfl
  have t5 := cell_h (k := 5) HP.out.2.1 rfl
  have u0 := cell_h (k := 0) HP.out.2.2 rfl
  have u1 := cell_h (k := 1) HP.out.2.2 rfl
  have u2 := cell_h (k := 2) HP.out.2.2 rfl
  have u3 := cell_h (k := 3) HP.out.2.2 rfl
  go_wp2_with fail
  refine (HA1.out _).mono ?_
  rintro e w9 ⟨rfl, rfl⟩
  go_wp2_with fail
  refine (HA2.out _).mono ?_
  rintro e w9 ⟨rfl, rfl⟩
  go_wp2_with fail
  refine (HA3.out _).mono ?_
  rintro e w9 ⟨rfl, rfl⟩
  go_wp2_with fail
  refine (HK1.out _ HB.out).mono ?_
  rintro e V0 ⟨rfl, hb⟩
  have HBv0 := Lib.hid (low_trans HB.out hb)
  have HPv0 := Lib.hid (blk3 HP.out hb)
  clear hb HB HP
  clear s0 s1 s2 s3 s4 s5 t0 t1 t2 t3 t4 t5 u0 u1 u2 u3
  have s0 := cell_h (k := 0) HPv0.out.1 rfl
  have s1 := cell_h (k := 1) HPv0.out.1 rfl
  have s2 := cell_h (k := 2) HPv0.out.1 rfl
  have s3 := cell_h (k := 3) HPv0.out.1 rfl
  have s4 := cell_h (k := 4) HPv0.out.1 rfl
  have s5 := cell_h (k := 5) HPv0.out.1 rfl
  have t0 := cell_h (k := 0) HPv0.out.2.1 rfl
  have t1 := cell_h (k := 1) HPv0.out.2.1 rfl
  have t2 := cell_h (k := 2) HPv0.out.2.1 rfl
  have t3 := cell_h (k := 3) HPv0.out.2.1 rfl
  have t4 := cell_h (k := 4) HPv0.out.2.1 rfl
  have t5 := cell_h (k := 5) HPv0.out.2.1 rfl
  have u0 := cell_h (k := 0) HPv0.out.2.2 rfl
  have u1 := cell_h (k := 1) HPv0.out.2.2 rfl
  have u2 := cell_h (k := 2) HPv0.out.2.2 rfl
  have u3 := cell_h (k := 3) HPv0.out.2.2 rfl
  go_wp2_with fail
  refine (HK2.out _ HBv0.out).mono ?_
  rintro e V1 ⟨rfl, hb⟩
  have HBv1 := Lib.hid (low_trans HBv0.out hb)
  have HPv1 := Lib.hid (blk3 HPv0.out hb)
  clear hb HBv0 HPv0
  clear s0 s1 s2 s3 s4 s5 t0 t1 t2 t3 t4 t5 u0 u1 u2 u3
  have s0 := cell_h (k := 0) HPv1.out.1 rfl
  have s1 := cell_h (k := 1) HPv1.out.1 rfl
  have s2 := cell_h (k := 2) HPv1.out.1 rfl
  have s3 := cell_h (k := 3) HPv1.out.1 rfl
  have s4 := cell_h (k := 4) HPv1.out.1 rfl
  have s5 := cell_h (k := 5) HPv1.out.1 rfl
  have t0 := cell_h (k := 0) HPv1.out.2.1 rfl
  have t1 := cell_h (k := 1) HPv1.out.2.1 rfl
  have t2 := cell_h (k := 2) HPv1.out.2.1 rfl
  have t3 := cell_h (k := 3) HPv1.out.2.1 rfl
  have t4 := cell_h (k := 4) HPv1.out.2.1 rfl
  have t5 := cell_h (k := 5) HPv1.out.2.1 rfl
  have u0 := cell_h (k := 0) HPv1.out.2.2 rfl
  have u1 := cell_h (k := 1) HPv1.out.2.2 rfl
  have u2 := cell_h (k := 2) HPv1.out.2.2 rfl
  have u3 := cell_h (k := 3) HPv1.out.2.2 rfl
  go_wp2_with fail
  refine (HC1.out _).mono ?_
  rintro e U0 ⟨rfl, hb⟩
  have HBu0 := Lib.hid (low_trans HBv1.out hb)
  have HPu0 := Lib.hid (blk3 HPv1.out hb)
  clear hb HBv1 HPv1
  clear s0 s1 s2 s3 s4 s5 t0 t1 t2 t3 t4 t5 u0 u1 u2 u3
  have s0 := cell_h (k := 0) HPu0.out.1 rfl
  have s1 := cell_h (k := 1) HPu0.out.1 rfl
  have s2 := cell_h (k := 2) HPu0.out.1 rfl
  have s3 := cell_h (k := 3) HPu0.out.1 rfl
  have s4 := cell_h (k := 4) HPu0.out.1 rfl
  have s5 := cell_h (k := 5) HPu0.out.1 rfl
  have t0 := cell_h (k := 0) HPu0.out.2.1 rfl
  have t1 := cell_h (k := 1) HPu0.out.2.1 rfl
  have t2 := cell_h (k := 2) HPu0.out.2.1 rfl
  have t3 := cell_h (k := 3) HPu0.out.2.1 rfl
  have t4 := cell_h (k := 4) HPu0.out.2.1 rfl
  have t5 := cell_h (k := 5) HPu0.out.2.1 rfl
  have u0 := cell_h (k := 0) HPu0.out.2.2 rfl
  have u1 := cell_h (k := 1) HPu0.out.2.2 rfl
  have u2 := cell_h (k := 2) HPu0.out.2.2 rfl
  have u3 := cell_h (k := 3) HPu0.out.2.2 rfl
  go_wp2_with fail
  refine (HC2.out _).mono ?_
  rintro e U1 ⟨rfl, hb⟩
  have HBu1 := Lib.hid (low_trans HBu0.out hb)
  have HPu1 := Lib.hid (blk3 HPu0.out hb)
  clear hb HBu0 HPu0
  clear s0 s1 s2 s3 s4 s5 t0 t1 t2 t3 t4 t5 u0 u1 u2 u3
  have s0 := cell_h (k := 0) HPu1.out.1 rfl
  have s1 := cell_h (k := 1) HPu1.out.1 rfl
  have s2 := cell_h (k := 2) HPu1.out.1 rfl
  have s3 := cell_h (k := 3) HPu1.out.1 rfl
  have s4 := cell_h (k := 4) HPu1.out.1 rfl
  have s5 := cell_h (k := 5) HPu1.out.1 rfl
  have t0 := cell_h (k := 0) HPu1.out.2.1 rfl
  have t1 := cell_h (k := 1) HPu1.out.2.1 rfl
  have t2 := cell_h (k := 2) HPu1.out.2.1 rfl
  have t3 := cell_h (k := 3) HPu1.out.2.1 rfl
  have t4 := cell_h (k := 4) HPu1.out.2.1 rfl
  have t5 := cell_h (k := 5) HPu1.out.2.1 rfl
  have u0 := cell_h (k := 0) HPu1.out.2.2 rfl
  have u1 := cell_h (k := 1) HPu1.out.2.2 rfl
  have u2 := cell_h (k := 2) HPu1.out.2.2 rfl
  have u3 := cell_h (k := 3) HPu1.out.2.2 rfl
  go_wp2_with fail
  refine (HK.out _ HBu1.out).mono ?_
  rintro e W3 ⟨rfl, hb⟩
  have HB3 := Lib.hid (low_trans HBu1.out hb)
  clear hb
  go_wp2_with fail
  go_ret
  exact ⟨rfl, HB3.out⟩
end Go.Proofs.YtlbffdgojmjijaaGreatDoor
