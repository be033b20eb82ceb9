/-
  WALKS: growth: how far two minutes of the clock are apart.
-/
import Derived.Test.YtlbffdgojmjijaaGreatDoorPlA
import Derived.BigFrame
namespace Go.Proofs.YtlbffdgojmjijaaGreatDoor
open Go.RowKit

set_option maxHeartbeats 1000000 in
theorem gix_of (b : Bool) (w : World) (x n : Int) (h : b = decide (0 ≤ x ∧ x < n)) :
    Calls Tryz.prog 64 #[.int .i64 x, .int .i64 n] w fun e w' => e = .returned (.bool b) ∧ w' = w := by
  go_enter Tryz.func64, Tryz.ntmps64
  by_cases h1 : 0 ≤ x
  · by_cases h2 : x < n
    · obtain rfl : b = true := by rw [h, decide_eq_true_iff]; omega
      clear h
      go_wp2
      go_ret
      exact ⟨rfl, rfl⟩
    · obtain rfl : b = false := by rw [h, decide_eq_false_iff_not]; omega
      clear h
      go_wp2
      go_ret
      refine ⟨?_, rfl⟩
      first | rfl | (congr 2; simp; omega)
  · obtain rfl : b = false := by rw [h, decide_eq_false_iff_not]; omega
    clear h
    go_wp2
    go_ret
    exact ⟨rfl, rfl⟩
set_option maxHeartbeats 1000000 in
theorem gmin_of (b : Bool) (w : World) (x : Int) (h : b = decide (0 ≤ x ∧ x < 720)) :
    Calls Tryz.prog 32 #[.int .i64 x] w fun e w' => e = .returned (.bool b) ∧ w' = w := by
  have HI : Hid (Calls Tryz.prog 64 #[.int .i64 x, .int .i64 720] w fun e w' => e = .returned (.bool b) ∧ w' = w) := gix_of b w x 720 h
  clear h
  go_enter Tryz.func32, Tryz.ntmps32
  go_wp2_with (go_at_call 64; refine HI.out.mono ?_; rintro e w9 ⟨rfl, rfl⟩)
  go_ret
  exact ⟨rfl, rfl⟩
set_option maxHeartbeats 1000000 in
theorem gdist_of (w : World) (a b d : Int) (ha : 0 ≤ a ∧ a ≤ 1073741824) (hb : 0 ≤ b ∧ b ≤ 1073741824) (h : d = max (a - b) (b - a)) :
    Calls Tryz.prog 39 #[.int .i64 a, .int .i64 b] w fun e w' => e = .returned (.int .i64 d) ∧ w' = w := by
  have w1 : IntKind.i64.wrap (a - b) = a - b := IntWalk.i64_in _ (by omega)
  have w2 : IntKind.i64.wrap (b - a) = b - a := IntWalk.i64_in _ (by omega)
  go_enter Tryz.func39, Tryz.ntmps39
  go_wp2
  all_goals
    go_ret
    refine ⟨?_, rfl⟩
    first | rfl | (simp; omega)
/-- How far two minutes are apart. -/
def arV (a b : Int) : Int := min (max (a - b) (b - a)) (720 - max (a - b) (b - a))
set_option maxHeartbeats 1000000 in
theorem garound_of (w : World) (a b : Int) (ha : 0 ≤ a ∧ a < 720) (hb : 0 ≤ b ∧ b < 720) :
    Calls Tryz.prog 33 #[.int .i64 a, .int .i64 b] w fun e w' => e = .returned (.int .i64 (arV a b)) ∧ w' = w := by
  obtain ⟨d, hd⟩ : ∃ d, d = max (a - b) (b - a) := ⟨_, rfl⟩
  have hd2 : 0 ≤ d ∧ d < 720 := by omega
  have w1 : IntKind.i64.wrap (720 - d) = 720 - d := IntWalk.i64_in _ (by omega)
  have HD : Hid (Calls Tryz.prog 39 #[.int .i64 a, .int .i64 b] w fun e w' => e = .returned (.int .i64 d) ∧ w' = w) := gdist_of w a b d (by omega) (by omega) hd
  have HE : Hid (arV a b = min d (720 - d)) := by rw [arV, hd]; exact Lib.hid rfl
  clear hd
  go_enter Tryz.func33, Tryz.ntmps33
  go_wp2_with (go_at_call 39; refine HD.out.mono ?_; rintro e w9 ⟨rfl, rfl⟩)
  all_goals
    rw [HE.out]
    go_ret
    refine ⟨?_, rfl⟩
    first | rfl | (simp; omega)
theorem ar_roll {p q r : Int} (hp : 0 ≤ p ∧ p < 720) (hq : 0 ≤ q ∧ q < 720) : arV ((p + r) % 720) ((q + r) % 720) = arV p q := by
  unfold arV
  omega
theorem ar_sym (p q : Int) : arV p q = arV q p := by unfold arV; omega
theorem ar_in {p q : Int} (hp : 0 ≤ p ∧ p < 720) (hq : 0 ≤ q ∧ q < 720) : 0 ≤ arV p q ∧ arV p q ≤ 360 ∧ (arV p q = 0 ↔ p = q) := by unfold arV; omega
/-- What Around tells: the distance, or the error 1. -/
def arOk (a b : Int) : Prop := (0 ≤ a ∧ a < 720) ∧ 0 ≤ b ∧ b < 720
set_option maxHeartbeats 1000000 in
theorem gAround_yes (w : World) (a b : Int) (h : arOk a b) :
    Calls Tryz.prog 9 #[.int .i64 a, .int .i64 b] w fun e w' => e = .returned (.tuple #[.int .i64 (arV a b), .int .i64 0]) ∧ w' = w := by
  obtain ⟨h1, h2⟩ := h
  have HA : Hid (∀ w, Calls Tryz.prog 32 #[.int .i64 a] w fun e w' => e = .returned (.bool true) ∧ w' = w) := fun w => gmin_of true w a (by symm; rw [decide_eq_true_iff]; omega)
  have HB : Hid (∀ w, Calls Tryz.prog 32 #[.int .i64 b] w fun e w' => e = .returned (.bool true) ∧ w' = w) := fun w => gmin_of true w b (by symm; rw [decide_eq_true_iff]; omega)
  have HR : Hid (∀ w, Calls Tryz.prog 33 #[.int .i64 a, .int .i64 b] w fun e w' => e = .returned (.int .i64 (arV a b)) ∧ w' = w) := fun w => garound_of w a b h1 h2
  go_enter Tryz.func9, Tryz.ntmps9
  go_wp2_with fail
  refine (HA.out _).mono ?_
  rintro e w9 ⟨rfl, rfl⟩
  go_wp2_with fail
  refine (HB.out _).mono ?_
  rintro e w9 ⟨rfl, rfl⟩
  go_wp2_with fail
  refine (HR.out _).mono ?_
  rintro e w9 ⟨rfl, rfl⟩
  go_wp2_with fail
  refine bodyPost_ret (v := .tuple #[.int .i64 (arV a b), .int .i64 0]) (by simp [results, Tryz.f9, go_sem]) rfl ?_
  exact ⟨rfl, rfl⟩
theorem ar_tri {x y z : Int} (hx : 0 ≤ x ∧ x < 720) (hy : 0 ≤ y ∧ y < 720) (hz : 0 ≤ z ∧ z < 720) : arV x z ≤ arV x y + arV y z := by unfold arV; omega
end Go.Proofs.YtlbffdgojmjijaaGreatDoor
