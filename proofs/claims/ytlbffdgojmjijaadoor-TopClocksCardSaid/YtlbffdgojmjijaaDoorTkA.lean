/-
  WALKS: growth: how far two minutes of the clock are apart.
-/
import Derived.Test.YtlbffdgojmjijaaDoorPlA
import Derived.BigFrame
namespace Go.Proofs.YtlbffdgojmjijaaDoor
open Go.RowKit

set_option maxHeartbeats 1000000 in
theorem gix_of (b : Bool) (w : World) (x n : Int) (h : b = decide (0 ≤ x ∧ x < n)) :
    Calls Tryd.prog 47 #[.int .i64 x, .int .i64 n] w fun e w' => e = .returned (.bool b) ∧ w' = w := by
  go_enter Tryd.func47, Tryd.ntmps47
  by_cases h1 : 0 ≤ x
  · by_cases h2 : x < n
    · obtain rfl : b = true := by rw [h, decide_eq_true_iff]; omega
      clear h
      go_wp2
      go_ret
      exact ⟨rfl, rfl⟩
    · obtain rfl : b = false := by rw [h, decide_eq_false_iff_not]; omega
      clear h
      go_wp2
      go_ret
      refine ⟨?_, rfl⟩
      first | rfl | (congr 2; simp; omega)
  · obtain rfl : b = false := by rw [h, decide_eq_false_iff_not]; omega
    clear h
    go_wp2
    go_ret
    exact ⟨rfl, rfl⟩
set_option maxHeartbeats 1000000 in
theorem gmin_of (b : Bool) (w : World) (x : Int) (h : b = decide (0 ≤ x ∧ x < 720)) :
    Calls Tryd.prog 33 #[.int .i64 x] w fun e w' => e = .returned (.bool b) ∧ w' = w := by
  have HI : Hid (Calls Tryd.prog 47 #[.int .i64 x, .int .i64 720] w fun e w' => e = .returned (.bool b) ∧ w' = w) := gix_of b w x 720 h
  clear h
  go_enter Tryd.func33, Tryd.ntmps33
  go_wp2_with (go_at_call 47; refine HI.out.mono ?_; rintro e w9 ⟨rfl, rfl⟩)
  go_ret
  exact ⟨rfl, rfl⟩
set_option maxHeartbeats 1000000 in
theorem gdist_of (w : World) (a b d : Int) (ha : 0 ≤ a ∧ a ≤ 1073741824) (hb : 0 ≤ b ∧ b ≤ 1073741824) (h : d = max (a - b) (b - a)) :
    Calls Tryd.prog 48 #[.int .i64 a, .int .i64 b] w fun e w' => e = .returned (.int .i64 d) ∧ w' = w := by
  have w1 : IntKind.i64.wrap (a - b) = a - b := IntWalk.i64_in _ (by omega)
  have w2 : IntKind.i64.wrap (b - a) = b - a := IntWalk.i64_in _ (by omega)
  go_enter Tryd.func48, Tryd.ntmps48
  go_wp2
  all_goals
    go_ret
    refine ⟨?_, rfl⟩
    first | rfl | (simp; omega)
/-- How far two minutes are apart. -/
def arV (a b : Int) : Int := min (max (a - b) (b - a)) (720 - max (a - b) (b - a))
set_option maxHeartbeats 1000000 in
theorem garound_of (w : World) (a b : Int) (ha : 0 ≤ a ∧ a < 720) (hb : 0 ≤ b ∧ b < 720) :
    Calls Tryd.prog 34 #[.int .i64 a, .int .i64 b] w fun e w' => e = .returned (.int .i64 (arV a b)) ∧ w' = w := by
  obtain ⟨d, hd⟩ : ∃ d, d = max (a - b) (b - a) := ⟨_, rfl⟩
  have hd2 : 0 ≤ d ∧ d < 720 := by omega
  have w1 : IntKind.i64.wrap (720 - d) = 720 - d := IntWalk.i64_in _ (by omega)
  have HD : Hid (Calls Tryd.prog 48 #[.int .i64 a, .int .i64 b] w fun e w' => e = .returned (.int .i64 d) ∧ w' = w) := gdist_of w a b d (by omega) (by omega) hd
  have HE : Hid (arV a b = min d (720 - d)) := by rw [arV, hd]; exact Lib.hid rfl
  clear hd
  go_enter Tryd.func34, Tryd.ntmps34
  go_wp2_with (go_at_call 48; refine HD.out.mono ?_; rintro e w9 ⟨rfl, rfl⟩)
  all_goals
    rw [HE.out]
    go_ret
    refine ⟨?_, rfl⟩
    first | rfl | (simp; omega)
/-- What Around tells: the distance, or the error 1. -/
def arOk (a b : Int) : Prop := (0 ≤ a ∧ a < 720) ∧ 0 ≤ b ∧ b < 720
set_option maxHeartbeats 1000000 in
theorem gAround_yes (w : World) (a b : Int) (h : arOk a b) :
    Calls Tryd.prog 16 #[.int .i64 a, .int .i64 b] w fun e w' => e = .returned (.tuple #[.int .i64 (arV a b), .int .i64 0]) ∧ w' = w := by
  obtain ⟨h1, h2⟩ := h
  have HA : Hid (∀ w, Calls Tryd.prog 33 #[.int .i64 a] w fun e w' => e = .returned (.bool true) ∧ w' = w) := fun w => gmin_of true w a (by symm; rw [decide_eq_true_iff]; omega)
  have HB : Hid (∀ w, Calls Tryd.prog 33 #[.int .i64 b] w fun e w' => e = .returned (.bool true) ∧ w' = w) := fun w => gmin_of true w b (by symm; rw [decide_eq_true_iff]; omega)
  have HR : Hid (∀ w, Calls Tryd.prog 34 #[.int .i64 a, .int .i64 b] w fun e w' => e = .returned (.int .i64 (arV a b)) ∧ w' = w) := fun w => garound_of w a b h1 h2
  go_enter Tryd.func16, Tryd.ntmps16
  go_wp2_with fail
  refine (HA.out _).mono ?_
  rintro e w9 ⟨rfl, rfl⟩
  go_wp2_with fail
  refine (HB.out _).mono ?_
  rintro e w9 ⟨rfl, rfl⟩
  go_wp2_with fail
  refine (HR.out _).mono ?_
  rintro e w9 ⟨rfl, rfl⟩
  go_wp2_with fail
  refine bodyPost_ret (v := .tuple #[.int .i64 (arV a b), .int .i64 0]) (by simp [results, Tryd.f16, go_sem]) rfl ?_
  exact ⟨rfl, rfl⟩
end Go.Proofs.YtlbffdgojmjijaaDoor
