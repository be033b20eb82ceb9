/-
  WALKS: growth: Check, Around, the error of a rule, Cost: of the program and of the reference.
-/
import Derived.Test.YtlbffdgojmjijaaGreatDoorGrU
import Derived.Test.YtlbffdgojmjijaaGreatDoorGrV
import Derived.BigQuiet
namespace Go.Proofs.YtlbffdgojmjijaaGreatDoor
open Go.RowKit

set_option maxHeartbeats 1000000 in
theorem hwithin_of (b : Bool) (w : World) (x lo hi : Int) (h : b = decide (lo ≤ x ∧ x ≤ hi)) :
    Calls Tryz.prog 34 #[.int .i64 x, .int .i64 lo, .int .i64 hi] w fun e w' => e = .returned (.bool b) ∧ w' = w := by
  go_enter Tryz.func34, Tryz.ntmps34
  by_cases h1 : lo ≤ x
  · by_cases h2 : x ≤ hi
    · obtain rfl : b = true := by rw [h, decide_eq_true_iff]; omega
      clear h
      go_wp2
      go_ret
      refine ⟨?_, rfl⟩
      first | rfl | (congr 2; simp; omega)
    · obtain rfl : b = false := by rw [h, decide_eq_false_iff_not]; omega
      clear h
      go_wp2
      go_ret
      refine ⟨?_, rfl⟩
      first | rfl | (congr 2; simp; omega)
  · obtain rfl : b = false := by rw [h, decide_eq_false_iff_not]; omega
    clear h
    go_wp2
    go_ret
    exact ⟨rfl, rfl⟩
instance (a b : Int) : Decidable (arOk a b) := by unfold arOk; exact inferInstance
def arR (a b : Int) : Int := if arOk a b then arV a b else 0
def arE (a b : Int) : Int := if arOk a b then 0 else 1
set_option maxHeartbeats 2000000 in
theorem gAround_of (w : World) (a b : Int) :
    Calls Tryz.prog 9 #[.int .i64 a, .int .i64 b] w fun e w' => e = .returned (.tuple #[.int .i64 (arR a b), .int .i64 (arE a b)]) ∧ w' = w := by
  by_cases h : arOk a b
  · rw [arR, arE, if_pos h, if_pos h]; exact gAround_yes w a b h
  rw [arR, arE, if_neg h, if_neg h]
  have HM : Hid (∀ b w x, b = decide (0 ≤ x ∧ x < 720) → Calls Tryz.prog 32 #[.int .i64 x] w fun e w' => e = .returned (.bool b) ∧ w' = w) := fun b w x h => gmin_of b w x h
  go_enter Tryz.func9, Tryz.ntmps9
  go_wp2_with fail
  by_cases h1 : 0 ≤ a ∧ a < 720
  · have h2 : ¬(0 ≤ b ∧ b < 720) := fun e => h ⟨h1, e⟩
    refine (HM.out true _ _ (by symm; rw [decide_eq_true_iff]; exact h1)).mono ?_
    rintro e w9 ⟨rfl, rfl⟩
    go_wp2_with fail
    refine (HM.out false _ _ (by symm; rw [decide_eq_false_iff_not]; exact h2)).mono ?_
    rintro e w9 ⟨rfl, rfl⟩
    go_wp2_with fail
    exact bodyPost_ret (v := .tuple #[.int .i64 0, .int .i64 1]) (by simp [results, Tryz.f9, go_sem]) rfl ⟨rfl, rfl⟩
  · refine (HM.out false _ _ (by symm; rw [decide_eq_false_iff_not]; exact h1)).mono ?_
    rintro e w9 ⟨rfl, rfl⟩
    go_wp2_with fail
    exact bodyPost_ret (v := .tuple #[.int .i64 0, .int .i64 1]) (by simp [results, Tryz.f9, go_sem]) rfl ⟨rfl, rfl⟩
set_option maxHeartbeats 2000000 in
theorem hAround_of (w : World) (a b : Int) :
    Calls Tryz.prog 10 #[.int .i64 a, .int .i64 b] w fun e w' => e = .returned (.tuple #[.int .i64 (arR a b), .int .i64 (arE a b)]) ∧ w' = w := by
  have HM : Hid (∀ b w x, b = decide (0 ≤ x ∧ x ≤ 719) → Calls Tryz.prog 34 #[.int .i64 x, .int .i64 0, .int .i64 719] w fun e w' => e = .returned (.bool b) ∧ w' = w) := fun b w x h => hwithin_of b w x 0 719 h
  by_cases h1 : 0 ≤ a ∧ a ≤ 719
  · by_cases h2 : 0 ≤ b ∧ b ≤ 719
    · have h : arOk a b := ⟨by omega, by omega⟩
      rw [arR, arE, if_pos h, if_pos h]
      have w1 : IntKind.i64.wrap (a - b) = a - b := IntWalk.i64_in _ (by omega)
      have w2 : IntKind.i64.wrap (b - a) = b - a := IntWalk.i64_in _ (by omega)
      have w3 : IntKind.i64.wrap (720 - (a - b)) = 720 - (a - b) := IntWalk.i64_in _ (by omega)
      have w4 : IntKind.i64.wrap (720 - (b - a)) = 720 - (b - a) := IntWalk.i64_in _ (by omega)
      go_enter Tryz.func10, Tryz.ntmps10
      go_wp2_with fail
      refine (HM.out true _ _ (by symm; rw [decide_eq_true_iff]; exact h1)).mono ?_
      rintro e w9 ⟨rfl, rfl⟩
      go_wp2_with fail
      refine (HM.out true _ _ (by symm; rw [decide_eq_true_iff]; exact h2)).mono ?_
      rintro e w9 ⟨rfl, rfl⟩
      go_wp2_with fail
      all_goals
        refine bodyPost_ret (v := .tuple #[.int .i64 (arV a b), .int .i64 0]) (by first | (simp [results, Tryz.f10, go_sem, arV]; done) | (simp [results, Tryz.f10, go_sem, arV]; omega)) rfl ⟨rfl, rfl⟩
    · have h : ¬arOk a b := fun e => h2 ⟨by have := e.2; omega, by have := e.2; omega⟩
      rw [arR, arE, if_neg h, if_neg h]
      go_enter Tryz.func10, Tryz.ntmps10
      go_wp2_with fail
      refine (HM.out true _ _ (by symm; rw [decide_eq_true_iff]; exact h1)).mono ?_
      rintro e w9 ⟨rfl, rfl⟩
      go_wp2_with fail
      refine (HM.out false _ _ (by symm; rw [decide_eq_false_iff_not]; exact h2)).mono ?_
      rintro e w9 ⟨rfl, rfl⟩
      go_wp2_with fail
      exact bodyPost_ret (v := .tuple #[.int .i64 0, .int .i64 1]) (by simp [results, Tryz.f10, go_sem]) rfl ⟨rfl, rfl⟩
  · have h : ¬arOk a b := fun e => h1 ⟨by have := e.1; omega, by have := e.1; omega⟩
    rw [arR, arE, if_neg h, if_neg h]
    go_enter Tryz.func10, Tryz.ntmps10
    go_wp2_with fail
    refine (HM.out false _ _ (by symm; rw [decide_eq_false_iff_not]; exact h1)).mono ?_
    rintro e w9 ⟨rfl, rfl⟩
    go_wp2_with fail
    exact bodyPost_ret (v := .tuple #[.int .i64 0, .int .i64 1]) (by simp [results, Tryz.f10, go_sem]) rfl ⟨rfl, rfl⟩
/-- The error of a rule. -/
def rlE (f t s l : Int) : Int := if (0 ≤ f ∧ f ≤ 1048576) ∧ (0 ≤ t ∧ t ≤ 360) ∧ (0 ≤ s ∧ s ≤ 1024) ∧ (0 ≤ l ∧ l ≤ 1048576) then 0 else 1
theorem rlE_cases (f t s l : Int) : (rlE f t s l = 1) ∨ (rlE f t s l = 0 ∧ (0 ≤ f ∧ f ≤ 1048576) ∧ (0 ≤ t ∧ t ≤ 360) ∧ (0 ≤ s ∧ s ≤ 1024) ∧ (0 ≤ l ∧ l ≤ 1048576)) := by
  unfold rlE
  split
  · rename_i h; exact .inr ⟨rfl, h⟩
  · exact .inl rfl
set_option maxHeartbeats 8000000 in
theorem grule_of (w : World) (f t s l : Int) :
    Calls Tryz.prog 37 #[.agg #[.int .i64 f, .int .i64 t, .int .i64 s, .int .i64 l]] w fun e w' => e = .returned (.int .i64 (rlE f t s l)) ∧ Below w.heap.size w w' := by
  have HI : Hid (∀ b w x lo hi, b = decide (lo ≤ x ∧ x ≤ hi) → Calls Tryz.prog 47 #[.int .i64 x, .int .i64 lo, .int .i64 hi] w fun e w' => e = .returned (.bool b) ∧ w' = w) := fun b w x lo hi h => gwithin_of b w x lo hi h
  go_enter Tryz.func37, Tryz.ntmps37
  go_upto_region 1 with fail
  have hB : Hid (Below w.heap.size w (w.alloc (.cells #[.int .i64 f, .int .i64 t, .int .i64 s, .int .i64 l] 28))) := (Below.refl _ _).alloc (Nat.le_refl _) _
  have hP := World.alloc_heap_new w (.cells #[.int .i64 f, .int .i64 t, .int .i64 s, .int .i64 l] 28)
  generalize w.alloc (.cells #[.int .i64 f, .int .i64 t, .int .i64 s, .int .i64 l] 28) = W at hB hP ⊢
  have s0 := cell_h (k := 0) hP rfl
  have s1 := cell_h (k := 1) hP rfl
  have s2 := cell_h (k := 2) hP rfl
  have s3 := cell_h (k := 3) hP rfl
  clear hP
  go_wp2_with fail
  by_cases h0 : 0 ≤ f ∧ f ≤ 1048576
  rotate_left
  · refine (HI.out false _ _ _ _ (by symm; rw [decide_eq_false_iff_not]; exact h0)).mono ?_
    rintro e w9 ⟨rfl, rfl⟩
    have HE : Hid (rlE f t s l = 1) := by unfold rlE; rw [if_neg (fun e => h0 e.1)]; exact Lib.hid rfl
    go_wp2_with fail
    rw [HE.out]
    go_ret
    exact ⟨rfl, hB.out⟩
  refine (HI.out true _ _ _ _ (by symm; rw [decide_eq_true_iff]; exact h0)).mono ?_
  rintro e w9 ⟨rfl, rfl⟩
  go_wp2_with fail
  by_cases h1 : 0 ≤ t ∧ t ≤ 360
  rotate_left
  · refine (HI.out false _ _ _ _ (by symm; rw [decide_eq_false_iff_not]; exact h1)).mono ?_
    rintro e w9 ⟨rfl, rfl⟩
    have HE : Hid (rlE f t s l = 1) := by unfold rlE; rw [if_neg (fun e => h1 e.2.1)]; exact Lib.hid rfl
    go_wp2_with fail
    rw [HE.out]
    go_ret
    exact ⟨rfl, hB.out⟩
  refine (HI.out true _ _ _ _ (by symm; rw [decide_eq_true_iff]; exact h1)).mono ?_
  rintro e w9 ⟨rfl, rfl⟩
  go_wp2_with fail
  by_cases h2 : 0 ≤ s ∧ s ≤ 1024
  rotate_left
  · refine (HI.out false _ _ _ _ (by symm; rw [decide_eq_false_iff_not]; exact h2)).mono ?_
    rintro e w9 ⟨rfl, rfl⟩
    have HE : Hid (rlE f t s l = 1) := by unfold rlE; rw [if_neg (fun e => h2 e.2.2.1)]; exact Lib.hid rfl
    go_wp2_with fail
    rw [HE.out]
    go_ret
    exact ⟨rfl, hB.out⟩
  refine (HI.out true _ _ _ _ (by symm; rw [decide_eq_true_iff]; exact h2)).mono ?_
  rintro e w9 ⟨rfl, rfl⟩
  go_wp2_with fail
  by_cases h3 : 0 ≤ l ∧ l ≤ 1048576
  rotate_left
  · refine (HI.out false _ _ _ _ (by symm; rw [decide_eq_false_iff_not]; exact h3)).mono ?_
    rintro e w9 ⟨rfl, rfl⟩
    have HE : Hid (rlE f t s l = 1) := by unfold rlE; rw [if_neg (fun e => h3 e.2.2.2)]; exact Lib.hid rfl
    go_wp2_with fail
    rw [HE.out]
    go_ret
    exact ⟨rfl, hB.out⟩
  refine (HI.out true _ _ _ _ (by symm; rw [decide_eq_true_iff]; exact h3)).mono ?_
  rintro e w9 ⟨rfl, rfl⟩
  have HE : Hid (rlE f t s l = 0) := by unfold rlE; rw [if_pos ⟨h0, h1, h2, h3⟩]; exact Lib.hid rfl
  go_wp2_with fail
  rw [HE.out]
  go_ret
  exact ⟨rfl, hB.out⟩
set_option maxHeartbeats 8000000 in
theorem hrule_of (w : World) (f t s l : Int) :
    Calls Tryz.prog 40 #[.agg #[.int .i64 f, .int .i64 t, .int .i64 s, .int .i64 l]] w fun e w' => e = .returned (.int .i64 (rlE f t s l)) ∧ Below w.heap.size w w' := by
  have HI : Hid (∀ b w x lo hi, b = decide (lo ≤ x ∧ x ≤ hi) → Calls Tryz.prog 34 #[.int .i64 x, .int .i64 lo, .int .i64 hi] w fun e w' => e = .returned (.bool b) ∧ w' = w) := fun b w x lo hi h => hwithin_of b w x lo hi h
  go_enter Tryz.func40, Tryz.ntmps40
  go_upto_region 1 with fail
  have hB : Hid (Below w.heap.size w (w.alloc (.cells #[.int .i64 f, .int .i64 t, .int .i64 s, .int .i64 l] 36))) := (Below.refl _ _).alloc (Nat.le_refl _) _
  have hP := World.alloc_heap_new w (.cells #[.int .i64 f, .int .i64 t, .int .i64 s, .int .i64 l] 36)
  generalize w.alloc (.cells #[.int .i64 f, .int .i64 t, .int .i64 s, .int .i64 l] 36) = W at hB hP ⊢
  have s0 := cell_h (k := 0) hP rfl
  have s1 := cell_h (k := 1) hP rfl
  have s2 := cell_h (k := 2) hP rfl
  have s3 := cell_h (k := 3) hP rfl
  clear hP
  go_wp2_with fail
  by_cases h0 : 0 ≤ f ∧ f ≤ 1048576
  rotate_left
  · refine (HI.out false _ _ _ _ (by symm; rw [decide_eq_false_iff_not]; exact h0)).mono ?_
    rintro e w9 ⟨rfl, rfl⟩
    have HE : Hid (rlE f t s l = 1) := by unfold rlE; rw [if_neg (fun e => h0 e.1)]; exact Lib.hid rfl
    go_wp2_with fail
    rw [HE.out]
    go_ret
    exact ⟨rfl, hB.out⟩
  refine (HI.out true _ _ _ _ (by symm; rw [decide_eq_true_iff]; exact h0)).mono ?_
  rintro e w9 ⟨rfl, rfl⟩
  go_wp2_with fail
  by_cases h1 : 0 ≤ t ∧ t ≤ 360
  rotate_left
  · refine (HI.out false _ _ _ _ (by symm; rw [decide_eq_false_iff_not]; exact h1)).mono ?_
    rintro e w9 ⟨rfl, rfl⟩
    have HE : Hid (rlE f t s l = 1) := by unfold rlE; rw [if_neg (fun e => h1 e.2.1)]; exact Lib.hid rfl
    go_wp2_with fail
    rw [HE.out]
    go_ret
    exact ⟨rfl, hB.out⟩
  refine (HI.out true _ _ _ _ (by symm; rw [decide_eq_true_iff]; exact h1)).mono ?_
  rintro e w9 ⟨rfl, rfl⟩
  go_wp2_with fail
  by_cases h2 : 0 ≤ s ∧ s ≤ 1024
  rotate_left
  · refine (HI.out false _ _ _ _ (by symm; rw [decide_eq_false_iff_not]; exact h2)).mono ?_
    rintro e w9 ⟨rfl, rfl⟩
    have HE : Hid (rlE f t s l = 1) := by unfold rlE; rw [if_neg (fun e => h2 e.2.2.1)]; exact Lib.hid rfl
    go_wp2_with fail
    rw [HE.out]
    go_ret
    exact ⟨rfl, hB.out⟩
  refine (HI.out true _ _ _ _ (by symm; rw [decide_eq_true_iff]; exact h2)).mono ?_
  rintro e w9 ⟨rfl, rfl⟩
  go_wp2_with fail
  by_cases h3 : 0 ≤ l ∧ l ≤ 1048576
  rotate_left
  · refine (HI.out false _ _ _ _ (by symm; rw [decide_eq_false_iff_not]; exact h3)).mono ?_
    rintro e w9 ⟨rfl, rfl⟩
    have HE : Hid (rlE f t s l = 1) := by unfold rlE; rw [if_neg (fun e => h3 e.2.2.2)]; exact Lib.hid rfl
    go_wp2_with fail
    rw [HE.out]
    go_ret
    exact ⟨rfl, hB.out⟩
  refine (HI.out true _ _ _ _ (by symm; rw [decide_eq_true_iff]; exact h3)).mono ?_
  rintro e w9 ⟨rfl, rfl⟩
  have HE : Hid (rlE f t s l = 0) := by unfold rlE; rw [if_pos ⟨h0, h1, h2, h3⟩]; exact Lib.hid rfl
  go_wp2_with fail
  rw [HE.out]
  go_ret
  exact ⟨rfl, hB.out⟩
set_option maxHeartbeats 8000000 in
theorem hvalid_of (w : World) (a c l wd lo hi : Int) :
    Calls Tryz.prog 36 #[.agg #[.int .i64 a, .int .i64 c, .int .i64 l, .int .i64 wd, .int .i64 lo, .int .i64 hi]] w fun e w' => e = .returned (.int .i64 (fdE a c l wd lo hi)) ∧ Below w.heap.size w w' := by
  have HI : Hid (∀ b w x lo hi, b = decide (lo ≤ x ∧ x ≤ hi) → Calls Tryz.prog 34 #[.int .i64 x, .int .i64 lo, .int .i64 hi] w fun e w' => e = .returned (.bool b) ∧ w' = w) := fun b w x lo hi h => hwithin_of b w x lo hi h
  go_enter Tryz.func36, Tryz.ntmps36
  go_upto_region 1 with fail
  have hB : Hid (Below w.heap.size w (w.alloc (.cells #[.int .i64 a, .int .i64 c, .int .i64 l, .int .i64 wd, .int .i64 lo, .int .i64 hi] 26))) := (Below.refl _ _).alloc (Nat.le_refl _) _
  have hP := World.alloc_heap_new w (.cells #[.int .i64 a, .int .i64 c, .int .i64 l, .int .i64 wd, .int .i64 lo, .int .i64 hi] 26)
  generalize w.alloc (.cells #[.int .i64 a, .int .i64 c, .int .i64 l, .int .i64 wd, .int .i64 lo, .int .i64 hi] 26) = W at hB hP ⊢
  have s0 := cell_h (k := 0) hP rfl
  have s1 := cell_h (k := 1) hP rfl
  have s2 := cell_h (k := 2) hP rfl
  have s3 := cell_h (k := 3) hP rfl
  have s4 := cell_h (k := 4) hP rfl
  have s5 := cell_h (k := 5) hP rfl
  clear hP
  go_wp2_with fail
  by_cases h0 : inP a
  rotate_left
  · refine (HI.out false _ _ _ _ (by symm; rw [decide_eq_false_iff_not]; exact h0)).mono ?_
    rintro e w9 ⟨rfl, rfl⟩
    have HE : Hid (fdE a c l wd lo hi = 1) := by unfold fdE; rw [if_pos (fun e => h0 e.1)]; exact Lib.hid rfl
    go_wp2_with fail
    rw [HE.out]
    go_ret
    exact ⟨rfl, hB.out⟩
  refine (HI.out true _ _ _ _ (by symm; rw [decide_eq_true_iff]; exact h0)).mono ?_
  rintro e w9 ⟨rfl, rfl⟩
  go_wp2_with fail
  by_cases h1 : 0 ≤ c ∧ c ≤ 719
  rotate_left
  · refine (HI.out false _ _ _ _ (by symm; rw [decide_eq_false_iff_not]; exact h1)).mono ?_
    rintro e w9 ⟨rfl, rfl⟩
    have HE : Hid (fdE a c l wd lo hi = 1) := by unfold fdE; split; exact Lib.hid rfl; rw [if_pos (fun e => h1 ⟨by have := e.1; omega, by have := e.1; omega⟩)]; exact Lib.hid rfl
    go_wp2_with fail
    rw [HE.out]
    go_ret
    exact ⟨rfl, hB.out⟩
  refine (HI.out true _ _ _ _ (by symm; rw [decide_eq_true_iff]; exact h1)).mono ?_
  rintro e w9 ⟨rfl, rfl⟩
  go_wp2_with fail
  by_cases h2 : inP l
  rotate_left
  · refine (HI.out false _ _ _ _ (by symm; rw [decide_eq_false_iff_not]; exact h2)).mono ?_
    rintro e w9 ⟨rfl, rfl⟩
    have HE : Hid (fdE a c l wd lo hi = 1) := by unfold fdE; rw [if_pos (fun e => h2 e.2.1)]; exact Lib.hid rfl
    go_wp2_with fail
    rw [HE.out]
    go_ret
    exact ⟨rfl, hB.out⟩
  refine (HI.out true _ _ _ _ (by symm; rw [decide_eq_true_iff]; exact h2)).mono ?_
  rintro e w9 ⟨rfl, rfl⟩
  go_wp2_with fail
  by_cases h3 : inP wd
  rotate_left
  · refine (HI.out false _ _ _ _ (by symm; rw [decide_eq_false_iff_not]; exact h3)).mono ?_
    rintro e w9 ⟨rfl, rfl⟩
    have HE : Hid (fdE a c l wd lo hi = 1) := by unfold fdE; rw [if_pos (fun e => h3 e.2.2)]; exact Lib.hid rfl
    go_wp2_with fail
    rw [HE.out]
    go_ret
    exact ⟨rfl, hB.out⟩
  refine (HI.out true _ _ _ _ (by symm; rw [decide_eq_true_iff]; exact h3)).mono ?_
  rintro e w9 ⟨rfl, rfl⟩
  go_wp2_with fail
  have hP : ¬¬(inP a ∧ inP l ∧ inP wd) := fun e => e ⟨h0, h2, h3⟩
  by_cases h4 : inD lo
  rotate_left
  · refine (HI.out false _ _ _ _ (by symm; rw [decide_eq_false_iff_not]; exact h4)).mono ?_
    rintro e w9 ⟨rfl, rfl⟩
    have HE : Hid (fdE a c l wd lo hi = 1) := by unfold fdE; rw [if_neg hP, if_pos (fun e => h4 e.2.1)]; exact Lib.hid rfl
    go_wp2_with fail
    rw [HE.out]
    go_ret
    exact ⟨rfl, hB.out⟩
  refine (HI.out true _ _ _ _ (by symm; rw [decide_eq_true_iff]; exact h4)).mono ?_
  rintro e w9 ⟨rfl, rfl⟩
  go_wp2_with fail
  by_cases h5 : inD hi
  rotate_left
  · refine (HI.out false _ _ _ _ (by symm; rw [decide_eq_false_iff_not]; exact h5)).mono ?_
    rintro e w9 ⟨rfl, rfl⟩
    have HE : Hid (fdE a c l wd lo hi = 1) := by unfold fdE; rw [if_neg hP, if_pos (fun e => h5 e.2.2)]; exact Lib.hid rfl
    go_wp2_with fail
    rw [HE.out]
    go_ret
    exact ⟨rfl, hB.out⟩
  refine (HI.out true _ _ _ _ (by symm; rw [decide_eq_true_iff]; exact h5)).mono ?_
  rintro e w9 ⟨rfl, rfl⟩
  have hQ : ¬¬((0 ≤ c ∧ c < 720) ∧ inD lo ∧ inD hi) := fun e => e ⟨by omega, h4, h5⟩
  by_cases h6 : lo > hi
  · have hgt : hi < lo := h6
    have HE : Hid (fdE a c l wd lo hi = 7) := by unfold fdE; rw [if_neg hP, if_neg hQ, if_pos h6]; exact Lib.hid rfl
    go_wp2_with fail
    rw [HE.out]
    go_ret
    exact ⟨rfl, hB.out⟩
  · have hgt : ¬ hi < lo := h6
    have HE : Hid (fdE a c l wd lo hi = 0) := by unfold fdE; rw [if_neg hP, if_neg hQ, if_neg h6]; exact Lib.hid rfl
    go_wp2_with fail
    rw [HE.out]
    go_ret
    exact ⟨rfl, hB.out⟩
/-- The error of findings. -/
def fdAt (f : Nat → Int) (i : Nat) : Int := fdE (f (i * 6)) (f (i * 6 + 1)) (f (i * 6 + 2)) (f (i * 6 + 3)) (f (i * 6 + 4)) (f (i * 6 + 5))
def chF (n : Nat) (f : Nat → Int) : Int := if 24 < n then 4 else first (fdAt f) n
set_option maxHeartbeats 8000000 in
theorem gCheck_of (w : World) (a : Option Addr) (n c : Nat) (f : Nat → Int) (hn : n ≤ maxLen) (hS : Sl w 6 a n f) :
    Calls Tryz.prog 11 #[.slice a n c] w fun e w' => e = .returned (.int .i64 (chF n f)) ∧ Below w.heap.size w w' := by
  have HS := Lib.hid hS
  clear hS
  have hn2 : (n : Int) ≤ 9223372036854775807 := by unfold maxLen at hn; omega
  by_cases h3 : 24 < n
  · have hE : chF n f = 4 := by unfold chF; rw [if_pos h3]
    rw [hE]
    go_enter Tryz.func11, Tryz.ntmps11
    go_wp2
    go_ret
    exact ⟨rfl, Below.refl _ _⟩
  have hE : chF n f = first (fdAt f) n := by unfold chF; rw [if_neg h3]
  rw [hE]
  clear hE
  go_enter Tryz.func11, Tryz.ntmps11
  go_wp2
  go_loopw [11] (fun vi wr => ∃ i : Nat, i ≤ n ∧ vi = .int .i64 i ∧ Hid (∀ j, j < i → fdAt f j = 0) ∧ Hid (Below w.heap.size w wr)) (fun vi _ => n - (intOf vi).toNat)
  case atStart => exact ⟨0, by omega, rfl, fun j hj => by omega, Below.refl _ _⟩
  case round =>
    obtain ⟨i, hi, rfl, HI, HB⟩ := hrel
    by_cases hlt : i < n
    · obtain ⟨b, o, rfl, hI⟩ := HS.out (by omega)
      have hI2 := hI.keep HB.out (hI.lt (by omega))
      have d0 := hI2 (i * 6) (by omega)
      have d1 := hI2.at (i * 6) 1 (by omega)
      have d2 := hI2.at (i * 6) 2 (by omega)
      have d3 := hI2.at (i * 6) 3 (by omega)
      have d4 := hI2.at (i * 6) 4 (by omega)
      have d5 := hI2.at (i * 6) 5 (by omega)
      have HE : Hid (fdAt f i = fdE (f (i * 6)) (f (i * 6 + 1)) (f (i * 6 + 2)) (f (i * 6 + 3)) (f (i * 6 + 4)) (f (i * 6 + 5))) := rfl
      clear hI hI2
      generalize f (i * 6) = x0 at HE d0
      generalize f (i * 6 + 1) = x1 at HE d1
      generalize f (i * 6 + 2) = x2 at HE d2
      generalize f (i * 6 + 3) = x3 at HE d3
      generalize f (i * 6 + 4) = x4 at HE d4
      generalize f (i * 6 + 5) = x5 at HE d5
      go_upto_region 6 with fail
      obtain ⟨W1, hW1⟩ : ∃ W1, wr.alloc (.cells #[.int .i64 x0, .int .i64 x1, .int .i64 x2, .int .i64 x3, .int .i64 x4, .int .i64 x5] 26) = W1 := ⟨_, rfl⟩
      rw [hW1]
      have hb : Below wr.heap.size wr W1 := by rw [← hW1]; exact (Below.refl _ _).alloc (Nat.le_refl _) _
      have hP : W1.heap[wr.heap.size]? = some (.cells #[.int .i64 x0, .int .i64 x1, .int .i64 x2, .int .i64 x3, .int .i64 x4, .int .i64 x5] 26 (0, 0)) := by rw [← hW1]; exact World.alloc_heap_new wr _
      have HB1 := Lib.hid (low_trans HB.out hb)
      have s0 := cell_h (k := 0) hP rfl
      have s1 := cell_h (k := 1) hP rfl
      have s2 := cell_h (k := 2) hP rfl
      have s3 := cell_h (k := 3) hP rfl
      have s4 := cell_h (k := 4) hP rfl
      have s5 := cell_h (k := 5) hP rfl
      clear hW1 hb hP d0 d1 d2 d3 d4 d5
      go_wp2_with fail
      refine (gcheckF_of W1 x0 x1 x2 x3 x4 x5).mono ?_
      rintro e W2 ⟨rfl, hb⟩
      have HB2 := Lib.hid (low_trans HB1.out hb)
      clear hb
      generalize fdE x0 x1 x2 x3 x4 x5 = R at HE ⊢
      by_cases hR : R = 0
      · subst hR
        have hwi : IntKind.i64.wrap ((i : Int) + 1) = (i : Int) + 1 := IntWalk.i64_in _ (by omega)
        go_wp2_with fail
        exact ⟨⟨i + 1, by omega, by go_num, fun j hj => by
          rcases Nat.lt_or_ge j i with h | h
          · exact HI.out j h
          · obtain rfl : j = i := by omega
            exact HE.out, HB2.out⟩, by simp [intOf]; omega⟩
      · have HF : Hid (first (fdAt f) n = R) := by rw [← HE.out]; exact Lib.hid (first_at HI.out (by rw [HE.out]; exact hR) hlt)
        go_wp2_with fail
        (try simp only [Exit.inBlock, Exit.then])
        rw [HF.out]
        first | go_ret | go_ret2
        exact ⟨rfl, HB2.out⟩
    · obtain rfl : i = n := by omega
      have HF : Hid (first (fdAt f) i = 0) := Lib.hid (first_zero HI.out)
      go_wp2_with fail
      (try simp only [Exit.inBlock, Exit.then])
      rw [HF.out]
      first | go_ret | go_ret2
      exact ⟨rfl, HB.out⟩
set_option maxHeartbeats 8000000 in
theorem hCheck_of (w : World) (a : Option Addr) (n c : Nat) (f : Nat → Int) (hn : n ≤ maxLen) (hS : Sl w 6 a n f) :
    Calls Tryz.prog 12 #[.slice a n c] w fun e w' => e = .returned (.int .i64 (chF n f)) ∧ Below w.heap.size w w' := by
  have HS := Lib.hid hS
  clear hS
  have hn2 : (n : Int) ≤ 9223372036854775807 := by unfold maxLen at hn; omega
  by_cases h3 : 24 < n
  · have hE : chF n f = 4 := by unfold chF; rw [if_pos h3]
    rw [hE]
    go_enter Tryz.func12, Tryz.ntmps12
    go_wp2
    go_ret
    exact ⟨rfl, Below.refl _ _⟩
  have hE : chF n f = first (fdAt f) n := by unfold chF; rw [if_neg h3]
  rw [hE]
  clear hE
  go_enter Tryz.func12, Tryz.ntmps12
  go_wp2
  go_loopw [3] (fun vi wr => ∃ i : Nat, i ≤ n ∧ vi = .int .i64 i ∧ Hid (∀ j, j < i → fdAt f j = 0) ∧ Hid (Below w.heap.size w wr)) (fun vi _ => n - (intOf vi).toNat)
  case atStart => exact ⟨0, by omega, rfl, fun j hj => by omega, Below.refl _ _⟩
  case round =>
    obtain ⟨i, hi, rfl, HI, HB⟩ := hrel
    by_cases hlt : i < n
    · obtain ⟨b, o, rfl, hI⟩ := HS.out (by omega)
      have hI2 := hI.keep HB.out (hI.lt (by omega))
      have d0 := hI2 (i * 6) (by omega)
      have d1 := hI2.at (i * 6) 1 (by omega)
      have d2 := hI2.at (i * 6) 2 (by omega)
      have d3 := hI2.at (i * 6) 3 (by omega)
      have d4 := hI2.at (i * 6) 4 (by omega)
      have d5 := hI2.at (i * 6) 5 (by omega)
      have HE : Hid (fdAt f i = fdE (f (i * 6)) (f (i * 6 + 1)) (f (i * 6 + 2)) (f (i * 6 + 3)) (f (i * 6 + 4)) (f (i * 6 + 5))) := rfl
      clear hI hI2
      generalize f (i * 6) = x0 at HE d0
      generalize f (i * 6 + 1) = x1 at HE d1
      generalize f (i * 6 + 2) = x2 at HE d2
      generalize f (i * 6 + 3) = x3 at HE d3
      generalize f (i * 6 + 4) = x4 at HE d4
      generalize f (i * 6 + 5) = x5 at HE d5
      go_wp2_with fail
      refine (hvalid_of wr x0 x1 x2 x3 x4 x5).mono ?_
      rintro e W2 ⟨rfl, hb⟩
      have HB2 := Lib.hid (low_trans HB.out hb)
      clear hb
      generalize fdE x0 x1 x2 x3 x4 x5 = R at HE ⊢
      by_cases hR : R = 0
      · subst hR
        have hwi : IntKind.i64.wrap ((i : Int) + 1) = (i : Int) + 1 := IntWalk.i64_in _ (by omega)
        go_wp2_with fail
        exact ⟨⟨i + 1, by omega, by go_num, fun j hj => by
          rcases Nat.lt_or_ge j i with h | h
          · exact HI.out j h
          · obtain rfl : j = i := by omega
            exact HE.out, HB2.out⟩, by simp [intOf]; omega⟩
      · have HF : Hid (first (fdAt f) n = R) := by rw [← HE.out]; exact Lib.hid (first_at HI.out (by rw [HE.out]; exact hR) hlt)
        go_wp2_with fail
        (try simp only [Exit.inBlock, Exit.then])
        rw [HF.out]
        first | go_ret | go_ret2
        exact ⟨rfl, HB2.out⟩
    · obtain rfl : i = n := by omega
      have HF : Hid (first (fdAt f) i = 0) := Lib.hid (first_zero HI.out)
      go_wp2_with fail
      (try simp only [Exit.inBlock, Exit.then])
      rw [HF.out]
      first | go_ret | go_ret2
      exact ⟨rfl, HB.out⟩
end Go.Proofs.YtlbffdgojmjijaaGreatDoor
