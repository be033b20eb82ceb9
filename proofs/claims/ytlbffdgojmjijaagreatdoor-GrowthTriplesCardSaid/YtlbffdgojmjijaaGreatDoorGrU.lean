/-
  WALKS: growth: the error of a finding.
-/
import Derived.Test.YtlbffdgojmjijaaGreatDoorTkA
import Derived.Test.YtlbffdgojmjijaaGreatDoorPmAF
import Derived.LoopN
import Derived.Deep.RegionHeld3
import Derived.Deep.DeepCutAuto
namespace Go.Proofs.YtlbffdgojmjijaaGreatDoor
open Go.RowKit

set_option maxHeartbeats 1000000 in
theorem gwithin_of (b : Bool) (w : World) (x lo hi : Int) (h : b = decide (lo ≤ x ∧ x ≤ hi)) :
    Calls Tryz.prog 47 #[.int .i64 x, .int .i64 lo, .int .i64 hi] w fun e w' => e = .returned (.bool b) ∧ w' = w := by
  go_enter Tryz.func47, Tryz.ntmps47
  by_cases h1 : lo ≤ x
  · by_cases h2 : x ≤ hi
    · obtain rfl : b = true := by rw [h, decide_eq_true_iff]; omega
      clear h
      go_wp2
      go_ret
      refine ⟨?_, rfl⟩
      first | rfl | (congr 2; simp; omega)
    · obtain rfl : b = false := by rw [h, decide_eq_false_iff_not]; omega
      clear h
      go_wp2
      go_ret
      refine ⟨?_, rfl⟩
      first | rfl | (congr 2; simp; omega)
  · obtain rfl : b = false := by rw [h, decide_eq_false_iff_not]; omega
    clear h
    go_wp2
    go_ret
    exact ⟨rfl, rfl⟩
/-- The error of a finding. -/
def inP (x : Int) : Prop := 0 ≤ x ∧ x ≤ 1073741824
def inD (x : Int) : Prop := 0 ≤ x ∧ x ≤ 1048576
instance (x : Int) : Decidable (inP x) := by unfold inP; exact inferInstance
instance (x : Int) : Decidable (inD x) := by unfold inD; exact inferInstance
def fdE (a c l w lo hi : Int) : Int := if ¬(inP a ∧ inP l ∧ inP w) then 1 else if ¬((0 ≤ c ∧ c < 720) ∧ inD lo ∧ inD hi) then 1 else if lo > hi then 7 else 0
theorem fdE_cases (a c l w lo hi : Int) : (fdE a c l w lo hi = 1) ∨ (fdE a c l w lo hi = 7) ∨ (fdE a c l w lo hi = 0 ∧ inP a ∧ inP l ∧ inP w ∧ (0 ≤ c ∧ c < 720) ∧ inD lo ∧ inD hi ∧ lo ≤ hi) := by
  unfold fdE
  split
  · exact .inl rfl
  · split
    · exact .inl rfl
    · split
      · exact .inr (.inl rfl)
      · rename_i h1 h2 h3
        obtain ⟨x1, x2, x3⟩ := Decidable.not_not.1 h1
        obtain ⟨y1, y2, y3⟩ := Decidable.not_not.1 h2
        exact .inr (.inr ⟨rfl, x1, x2, x3, y1, y2, y3, by omega⟩)
set_option maxRecDepth 100000 in
set_option maxHeartbeats 8000000 in
theorem gcheckF_of (w : World) (a c l wd lo hi : Int) :
    Calls Tryz.prog 35 #[.agg #[.int .i64 a, .int .i64 c, .int .i64 l, .int .i64 wd, .int .i64 lo, .int .i64 hi]] w fun e w' => e = .returned (.int .i64 (fdE a c l wd lo hi)) ∧ Below w.heap.size w w' := by
  have HI : Hid (∀ b w x lo hi, b = decide (lo ≤ x ∧ x ≤ hi) → Calls Tryz.prog 47 #[.int .i64 x, .int .i64 lo, .int .i64 hi] w fun e w' => e = .returned (.bool b) ∧ w' = w) := fun b w x lo hi h => gwithin_of b w x lo hi h
  have HM : Hid (∀ b w x, b = decide (0 ≤ x ∧ x < 720) → Calls Tryz.prog 32 #[.int .i64 x] w fun e w' => e = .returned (.bool b) ∧ w' = w) := fun b w x h => gmin_of b w x h
  have ix0 : ∀ w, (Instr.index 54 (.agg #[.int .i64 a, .int .i64 l, .int .i64 wd]) (.int .i64 0)).run Tryz.prog w = .ok (.int .i64 a) w := fun _ => by kernel_rfl
  have ix1 : ∀ w, (Instr.index 54 (.agg #[.int .i64 a, .int .i64 l, .int .i64 wd]) (.int .i64 1)).run Tryz.prog w = .ok (.int .i64 l) w := fun _ => by kernel_rfl
  have ix2 : ∀ w, (Instr.index 54 (.agg #[.int .i64 a, .int .i64 l, .int .i64 wd]) (.int .i64 2)).run Tryz.prog w = .ok (.int .i64 wd) w := fun _ => by kernel_rfl
  go_enter Tryz.func35, Tryz.ntmps35
  go_upto_region 1 with fail
  have hB : Hid (Below w.heap.size w (w.alloc (.cells #[.int .i64 a, .int .i64 c, .int .i64 l, .int .i64 wd, .int .i64 lo, .int .i64 hi] 26))) := (Below.refl _ _).alloc (Nat.le_refl _) _
  have hP := World.alloc_heap_new w (.cells #[.int .i64 a, .int .i64 c, .int .i64 l, .int .i64 wd, .int .i64 lo, .int .i64 hi] 26)
  generalize w.alloc (.cells #[.int .i64 a, .int .i64 c, .int .i64 l, .int .i64 wd, .int .i64 lo, .int .i64 hi] 26) = W at hB hP ⊢
  have s0 := cell_h (k := 0) hP rfl
  have s1 := cell_h (k := 1) hP rfl
  have s2 := cell_h (k := 2) hP rfl
  have s3 := cell_h (k := 3) hP rfl
  have s4 := cell_h (k := 4) hP rfl
  have s5 := cell_h (k := 5) hP rfl
  clear hP
  go_wp2_with fail
  refine wp_loop_rounds 4 ?_
  rw [rounds_succ]
  go_wp2_with fail
  by_cases h0 : inP a
  rotate_left
  · refine (HI.out false _ _ _ _ (by symm; rw [decide_eq_false_iff_not]; exact h0)).mono ?_
    rintro e w9 ⟨rfl, rfl⟩
    have HE : Hid (fdE a c l wd lo hi = 1) := by unfold fdE; rw [if_pos (fun e => h0 e.1)]; exact Lib.hid rfl
    go_wp2_with fail
    (try simp only [Exit.inBlock, Exit.then])
    rw [HE.out]
    first | go_ret | go_ret2
    exact ⟨rfl, hB.out⟩
  refine (HI.out true _ _ _ _ (by symm; rw [decide_eq_true_iff]; exact h0)).mono ?_
  rintro e w9 ⟨rfl, rfl⟩
  go_wp2_with fail
  (try simp only [Exit.inBlock, Exit.then])
  rw [rounds_succ]
  go_wp2_with fail
  by_cases h1 : inP l
  rotate_left
  · refine (HI.out false _ _ _ _ (by symm; rw [decide_eq_false_iff_not]; exact h1)).mono ?_
    rintro e w9 ⟨rfl, rfl⟩
    have HE : Hid (fdE a c l wd lo hi = 1) := by unfold fdE; rw [if_pos (fun e => h1 e.2.1)]; exact Lib.hid rfl
    go_wp2_with fail
    (try simp only [Exit.inBlock, Exit.then])
    rw [HE.out]
    first | go_ret | go_ret2
    exact ⟨rfl, hB.out⟩
  refine (HI.out true _ _ _ _ (by symm; rw [decide_eq_true_iff]; exact h1)).mono ?_
  rintro e w9 ⟨rfl, rfl⟩
  go_wp2_with fail
  (try simp only [Exit.inBlock, Exit.then])
  rw [rounds_succ]
  go_wp2_with fail
  by_cases h2 : inP wd
  rotate_left
  · refine (HI.out false _ _ _ _ (by symm; rw [decide_eq_false_iff_not]; exact h2)).mono ?_
    rintro e w9 ⟨rfl, rfl⟩
    have HE : Hid (fdE a c l wd lo hi = 1) := by unfold fdE; rw [if_pos (fun e => h2 e.2.2)]; exact Lib.hid rfl
    go_wp2_with fail
    (try simp only [Exit.inBlock, Exit.then])
    rw [HE.out]
    first | go_ret | go_ret2
    exact ⟨rfl, hB.out⟩
  refine (HI.out true _ _ _ _ (by symm; rw [decide_eq_true_iff]; exact h2)).mono ?_
  rintro e w9 ⟨rfl, rfl⟩
  go_wp2_with fail
  (try simp only [Exit.inBlock, Exit.then])
  rw [rounds_succ]
  go_wp2_with fail
  have hP : ¬¬(inP a ∧ inP l ∧ inP wd) := fun e => e ⟨h0, h1, h2⟩
  by_cases h3 : 0 ≤ c ∧ c < 720
  rotate_left
  · refine (HM.out false _ _ (by symm; rw [decide_eq_false_iff_not]; exact h3)).mono ?_
    rintro e w9 ⟨rfl, rfl⟩
    have HE : Hid (fdE a c l wd lo hi = 1) := by unfold fdE; rw [if_neg hP, if_pos (fun e => h3 e.1)]; exact Lib.hid rfl
    go_wp2_with fail
    rw [HE.out]
    first | go_ret | go_ret2
    exact ⟨rfl, hB.out⟩
  refine (HM.out true _ _ (by symm; rw [decide_eq_true_iff]; exact h3)).mono ?_
  rintro e w9 ⟨rfl, rfl⟩
  go_wp2_with fail
  by_cases h4 : inD lo
  rotate_left
  · refine (HI.out false _ _ _ _ (by symm; rw [decide_eq_false_iff_not]; exact h4)).mono ?_
    rintro e w9 ⟨rfl, rfl⟩
    have HE : Hid (fdE a c l wd lo hi = 1) := by unfold fdE; rw [if_neg hP, if_pos (fun e => h4 e.2.1)]; exact Lib.hid rfl
    go_wp2_with fail
    rw [HE.out]
    first | go_ret | go_ret2
    exact ⟨rfl, hB.out⟩
  refine (HI.out true _ _ _ _ (by symm; rw [decide_eq_true_iff]; exact h4)).mono ?_
  rintro e w9 ⟨rfl, rfl⟩
  go_wp2_with fail
  by_cases h5 : inD hi
  rotate_left
  · refine (HI.out false _ _ _ _ (by symm; rw [decide_eq_false_iff_not]; exact h5)).mono ?_
    rintro e w9 ⟨rfl, rfl⟩
    have HE : Hid (fdE a c l wd lo hi = 1) := by unfold fdE; rw [if_neg hP, if_pos (fun e => h5 e.2.2)]; exact Lib.hid rfl
    go_wp2_with fail
    rw [HE.out]
    first | go_ret | go_ret2
    exact ⟨rfl, hB.out⟩
  refine (HI.out true _ _ _ _ (by symm; rw [decide_eq_true_iff]; exact h5)).mono ?_
  rintro e w9 ⟨rfl, rfl⟩
  have hQ : ¬¬((0 ≤ c ∧ c < 720) ∧ inD lo ∧ inD hi) := fun e => e ⟨h3, h4, h5⟩
  by_cases h6 : lo > hi
  · have hgt : hi < lo := h6
    have HE : Hid (fdE a c l wd lo hi = 7) := by unfold fdE; rw [if_neg hP, if_neg hQ, if_pos h6]; exact Lib.hid rfl
    go_wp2_with fail
    rw [HE.out]
    first | go_ret | go_ret2
    exact ⟨rfl, hB.out⟩
  · have hgt : ¬ hi < lo := h6
    have HE : Hid (fdE a c l wd lo hi = 0) := by unfold fdE; rw [if_neg hP, if_neg hQ, if_neg h6]; exact Lib.hid rfl
    go_wp2_with fail
    rw [HE.out]
    first | go_ret | go_ret2
    exact ⟨rfl, hB.out⟩
end Go.Proofs.YtlbffdgojmjijaaGreatDoor
