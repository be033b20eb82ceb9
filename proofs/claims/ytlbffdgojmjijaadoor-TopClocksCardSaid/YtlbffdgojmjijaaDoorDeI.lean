/-
  WALKS: Clock and Restrained of the program.
-/
import Derived.Test.YtlbffdgojmjijaaDoorDeA
namespace Go.Proofs.YtlbffdgojmjijaaDoor
open Go.RowKit

set_option maxHeartbeats 1000000 in
theorem minute_of (b : Bool) (w : World) (x : Int) (h : b = decide (0 ≤ x ∧ x < 720)) :
    Calls Tryd.prog 32 #[.int .i64 x] w fun e w' => e = .returned (.bool b) ∧ w' = w := by
  go_enter Tryd.func32, Tryd.ntmps32
  by_cases h1 : 0 ≤ x
  · by_cases h2 : x < 720
    · obtain rfl : b = true := by rw [h, decide_eq_true_iff]; omega
      clear h
      go_wp2
      go_ret
      exact ⟨rfl, rfl⟩
    · obtain rfl : b = false := by rw [h, decide_eq_false_iff_not]; omega
      clear h
      go_wp2
      go_ret
      refine ⟨?_, rfl⟩
      first | rfl | (congr 2; simp; omega)
  · obtain rfl : b = false := by rw [h, decide_eq_false_iff_not]; omega
    clear h
    go_wp2
    go_ret
    exact ⟨rfl, rfl⟩

/-- What Clock tells. -/
def ckOk (a n r : Int) : Prop := (1 ≤ n ∧ n ≤ 64) ∧ (0 ≤ a ∧ a < n) ∧ 0 ≤ r ∧ r < 720
def ckv (a n r : Int) : Int := (720 * a / n + r) % 720
theorem ckv_in (a n r : Int) : 0 ≤ ckv a n r ∧ ckv a n r < 720 := ⟨Int.emod_nonneg _ (by omega), Int.emod_lt_of_pos _ (by omega)⟩
set_option maxRecDepth 100000 in
set_option maxHeartbeats 4000000 in
theorem clock_yes (w : World) (a n r : Int) (h : ckOk a n r) :
    Calls Tryd.prog 15 #[.int .i64 a, .int .i64 n, .int .i64 r] w fun e w' => e = .returned (.tuple #[.int .i64 (ckv a n r), .int .i64 0]) ∧ w' = w := by
  obtain ⟨h1, h2, h3⟩ := h
  have e1 : IntKind.i64.wrap (720 * a) = 720 * a := IntWalk.i64_in _ (by omega)
  have q0 : 0 ≤ 720 * a / n := Int.ediv_nonneg (by omega) (by omega)
  have q1 : 720 * a / n < 720 := Int.ediv_lt_of_lt_mul (by omega) (by omega)
  have e2 : IntKind.i64.wrap (720 * a / n + r) = 720 * a / n + r := IntWalk.i64_in _ (by omega)
  go_enter Tryd.func15, Tryd.ntmps15
  go_wp2_with (go_at_call 32; refine (minute_of true _ r (by symm; rw [decide_eq_true_iff]; omega)).mono ?_; rintro e w9 ⟨rfl, rfl⟩)
  refine bodyPost_ret (v := .tuple #[.int .i64 (ckv a n r), .int .i64 0]) (by simp [results, Tryd.f15, go_sem, ckv]) rfl ?_
  exact ⟨rfl, rfl⟩
set_option maxHeartbeats 1000000 in
theorem abs_of (w : World) (x y : Int) (h : -1000000 ≤ x ∧ x ≤ 1000000) (hy : y = max x (-x)) :
    Calls Tryd.prog 61 #[.int .i64 x] w fun e w' => e = .returned (.int .i64 y) ∧ w' = w := by
  have w1 : IntKind.i64.wrap (-x) = -x := IntWalk.i64_in _ (by omega)
  go_enter Tryd.func61, Tryd.ntmps61
  by_cases hx : 0 ≤ x
  · obtain rfl : y = x := by omega
    clear hy
    go_wp2
    go_ret
    refine ⟨?_, rfl⟩
    first | rfl | (congr 2; simp; omega)
  · obtain rfl : y = -x := by omega
    clear hy
    go_wp2
    go_ret
    refine ⟨?_, rfl⟩
    first | rfl | (congr 2; simp; omega)
def rsv (m w : Int) : Bool := decide (max (m - 360) (-(m - 360)) ≤ 120 + w)
end Go.Proofs.YtlbffdgojmjijaaDoor
