/-
  WALKS: the law of DentClocks.
-/
import Derived.Test.YtlbffdgojmjijaaDoorDeI
import Derived.Test.YtlbffdgojmjijaaDoorDeH
import Derived.StillTailTactics
namespace Go.Proofs.YtlbffdgojmjijaaDoor
open Go.RowKit

theorem ck_same {a b l : Int} (hl : 1 ≤ l ∧ l ≤ 64) (ha : 0 ≤ a ∧ a < l) (hb : 0 ≤ b ∧ b < l) (h : ckv a l 0 = ckv b l 0) : a = b := by
  have q : ∀ x, 0 ≤ x ∧ x < l → ckv x l 0 = 720 * x / l := fun x hx => by
    have q0 : 0 ≤ 720 * x / l := Int.ediv_nonneg (by omega) (by omega)
    have q1 : 720 * x / l < 720 := Int.ediv_lt_of_lt_mul (by omega) (by omega)
    rw [ckv]; omega
  rw [q a ha, q b hb] at h
  have A1 := Int.mul_ediv_self_le (x := 720 * a) (k := l) (by omega)
  have A2 := Int.lt_mul_ediv_self_add (x := 720 * a) (k := l) (by omega)
  have B1 := Int.mul_ediv_self_le (x := 720 * b) (k := l) (by omega)
  have B2 := Int.lt_mul_ediv_self_add (x := 720 * b) (k := l) (by omega)
  rw [h] at A1 A2
  omega
theorem ck_roll {a l r : Int} : ckv a l r = (ckv a l 0 + r) % 720 := by
  simp only [ckv]; omega
theorem rs_more {m u v : Int} (h : rsv m u = true) (hv : 0 ≤ v) : rsv m (u + v) = true := by
  simp only [rsv, decide_eq_true_iff] at h ⊢; omega

end Go.Proofs.YtlbffdgojmjijaaDoor
