/-
  WALKS: Odometer, Calibrate.
-/
import Derived.Test.YtmdniebedflpbaaDoorPnA
namespace Go.Proofs.YtmdniebedflpbaaDoor
open Go.RowKit

/-- What Odometer and Calibrate tell: both ends and the error. -/
def odo (t lo hi : Int) : Int × Int × Int := if t < 0 ∨ 1048576 < t then (0, 0, 1) else if rgErr lo hi 0 1000000 ≠ 0 then (0, 0, rgErr lo hi 0 1000000) else (t * lo / 1000, ce (t * hi) 1000, 0)
def cal (t lo hi : Int) : Int × Int × Int := if t = 0 then (0, 0, 3) else if t < 0 ∨ 1048576 < t then (0, 0, 1) else if rgErr lo hi 0 1073741824 ≠ 0 then (0, 0, rgErr lo hi 0 1073741824) else (1000 * lo / t, ce (1000 * hi) t, 0)
def resV (r : Int × Int × Int) : Value := .tuple #[.agg #[.int .i64 r.1, .int .i64 r.2.1], .int .i64 r.2.2]
theorem mul_bd {a b A B : Int} (ha : 0 ≤ a ∧ a ≤ A) (hb : 0 ≤ b ∧ b ≤ B) : 0 ≤ a * b ∧ a * b ≤ A * B :=
  ⟨Int.mul_nonneg ha.1 hb.1, Int.mul_le_mul ha.2 hb.2 hb.1 (by omega)⟩

end Go.Proofs.YtmdniebedflpbaaDoor
