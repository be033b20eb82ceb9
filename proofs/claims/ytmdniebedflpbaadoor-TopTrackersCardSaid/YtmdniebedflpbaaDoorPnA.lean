/-
  WALKS: floors, ranges and their errors.
-/
import Derived.Test.YtmdniebedflpbaaDoorPmF
import Derived.Test.YtmdniebedflpbaaDoorOwB
import Derived.Test.YtmdniebedflpbaaDoorPrA
namespace Go.Proofs.YtmdniebedflpbaaDoor
open Go.RowKit

theorem fl_neg {y b : Int} (hb : 1 ≤ b) : (y % b = 0 → (-y) / b = -(y / b)) ∧ (y % b ≠ 0 → (-y) / b = -(y / b) - 1) := by
  have h := Int.emod_add_mul_ediv y b
  have h1 := Int.emod_nonneg y (show b ≠ 0 by omega)
  have h2 := Int.emod_lt_of_pos y (show 0 < b by omega)
  constructor
  · intro h0
    refine ((Int.ediv_emod_unique (a := -y) (b := b) (r := 0) (q := -(y / b)) (by omega)).2 ⟨?_, by omega, by omega⟩).1
    rw [Int.mul_neg]; omega
  · intro h0
    refine ((Int.ediv_emod_unique (a := -y) (b := b) (r := b - y % b) (q := -(y / b) - 1) (by omega)).2 ⟨?_, by omega, by omega⟩).1
    rw [Int.mul_sub, Int.mul_neg, Int.mul_one]; omega
/-- What a division and its rest, cut towards zero, come to below zero. -/
theorem t_neg {x b : Int} (hx : x < 0) (hb : 1 ≤ b) : (x.tmod b < 0 ∧ x.tdiv b - 1 = x / b) ∨ (0 ≤ x.tmod b ∧ x.tdiv b = x / b) := by
  obtain ⟨y, rfl⟩ : ∃ y, x = -y := ⟨-x, by omega⟩
  rw [Int.neg_tmod, Int.neg_tdiv, Int.tdiv_eq_ediv_of_nonneg (by omega), Int.tmod_eq_emod_of_nonneg (by omega)]
  have h1 := Int.emod_nonneg y (show b ≠ 0 by omega)
  obtain ⟨f1, f2⟩ := fl_neg (y := y) hb
  by_cases h : y % b = 0
  · exact .inr ⟨by omega, (f1 h).symm⟩
  · exact .inl ⟨by omega, (f2 h).symm⟩
theorem ediv_bd {x b : Int} (hb : 1 ≤ b) (hx : -4611686018427387904 ≤ x ∧ x ≤ 4611686018427387904) : -4611686018427387904 ≤ x / b ∧ x / b ≤ 4611686018427387904 := by
  constructor
  · exact (Int.le_ediv_iff_mul_le (by omega)).2 (by omega)
  · by_cases h : 0 ≤ x
    · have := Int.ediv_le_self b h; omega
    · have := Int.ediv_neg_of_neg_of_pos (a := x) (b := b) (by omega) (by omega); omega

set_option maxRecDepth 100000 in
set_option maxHeartbeats 4000000 in
theorem floor_of (w : World) (x b : Int) (hb : 1 ≤ b) (hb2 : b ≤ 1048576) (hx : -4611686018427387904 ≤ x ∧ x ≤ 4611686018427387904) :
    Calls Tryd.prog 37 #[.int .i64 x, .int .i64 b] w fun e w' => e = .returned (.int .i64 (x / b)) ∧ w' = w := by
  have hbd := ediv_bd hb hx
  by_cases h0 : 0 ≤ x
  · have hm := Int.emod_nonneg x (show b ≠ 0 by omega)
    have hm2 : decide (x % b < 0) = false := by simp; omega
    go_enter Tryd.func37, Tryd.ntmps37
    go_wp2
    go_ret
    exact ⟨rfl, rfl⟩
  · have ht := t_neg (x := x) (b := b) (by omega) hb
    have hbn : (b == 0) = false := by simp; omega
    have hx0 : x < 0 := by omega
    rcases ht with ⟨h1, h2⟩ | ⟨h1, h2⟩
    · have HD : Hid (x.tdiv b - 1 = x / b) := h2
      have hd : -4611686018427387904 ≤ x.tdiv b ∧ x.tdiv b ≤ 4611686018427387905 := by omega
      clear h2 hbd h0
      generalize x / b = D at *
      go_enter Tryd.func37, Tryd.ntmps37
      go_wp2
      go_ret
      exact ⟨ret_int HD.out, rfl⟩
    · have HD : Hid (x.tdiv b = x / b) := h2
      have hm2 : decide (x.tmod b < 0) = false := by simp; omega
      clear h2 hbd h0
      generalize x / b = D at *
      go_enter Tryd.func37, Tryd.ntmps37
      go_wp2
      go_ret
      exact ⟨ret_int HD.out, rfl⟩
/-- The least integer that is not below. -/
def ce (x b : Int) : Int := -((-x) / b)
theorem ce_bd {x b : Int} (hb : 1 ≤ b) (hx : -4611686018427387904 ≤ x ∧ x ≤ 4611686018427387904) : -4611686018427387904 ≤ ce x b ∧ ce x b ≤ 4611686018427387904 := by
  have := ediv_bd (x := -x) hb (by omega)
  unfold ce; omega

set_option maxRecDepth 100000 in
set_option maxHeartbeats 4000000 in
theorem outward_of (w : World) (x y b : Int) (hb : 1 ≤ b) (hb2 : b ≤ 1048576) (hx : -4611686018427387904 ≤ x ∧ x ≤ 4611686018427387904) (hy : -4611686018427387904 ≤ y ∧ y ≤ 4611686018427387904) :
    Calls Tryd.prog 19 #[.int .i64 x, .int .i64 y, .int .i64 b] w fun e w' => e = .returned (.agg #[.int .i64 (x / b), .int .i64 (ce y b)]) ∧ Below w.heap.size w w' := by
  have hc := ediv_bd (x := -y) hb (by omega)
  have HC : Hid (ce y b = -((-y) / b)) := rfl
  generalize ce y b = c at *
  go_enter Tryd.func19, Tryd.ntmps19
  go_wp2_with fail
  refine (floor_of _ x b hb hb2 hx).mono ?_
  rintro e w' ⟨rfl, rfl⟩
  go_wp2_with fail
  refine (floor_of _ (-y) b hb hb2 (by omega)).mono ?_
  rintro e w' ⟨rfl, rfl⟩
  go_wp2_with fail
  refine bodyPost_ret (v := .agg #[.int .i64 (x / b), .int .i64 (-((-y) / b))]) (by simp [results, Tryd.f19, go_sem]) rfl ⟨by rw [HC.out], (Below.refl _ _).alloc (Nat.le_refl _) _⟩

end Go.Proofs.YtmdniebedflpbaaDoor
