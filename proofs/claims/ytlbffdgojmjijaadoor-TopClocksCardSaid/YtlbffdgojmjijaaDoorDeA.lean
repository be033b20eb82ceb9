/-
  WALKS: vectors: their sum, differences and multiples; whether their components are small.
-/
import Derived.Test.YtlbffdgojmjijaaDoorPmAF
import Derived.Test.YtlbffdgojmjijaaDoorPxD
namespace Go.Proofs.YtlbffdgojmjijaaDoor
open Go.RowKit

/-- A vector as a value; its cells in a block. -/
def vv (x y z : Int) : Value := .agg #[.int .i64 x, .int .i64 y, .int .i64 z]
def Big (x : Int) : Prop := -1152921504606846976 ≤ x ∧ x ≤ 1152921504606846976

set_option maxRecDepth 100000 in
set_option maxHeartbeats 4000000 in
theorem plus_of (w : World) (x y z a b c : Int) (hx : Big x) (hy : Big y) (hz : Big z) (ha : Big a) (hb : Big b) (hc : Big c) :
    Calls Tryd.prog 43 #[.agg #[.int .i64 x, .int .i64 y, .int .i64 z], .agg #[.int .i64 a, .int .i64 b, .int .i64 c]] w fun e w' => e = .returned (.agg #[.int .i64 (x + a), .int .i64 (y + b), .int .i64 (z + c)]) ∧ Below w.heap.size w w' := by
  unfold Big at *
  have w1 : IntKind.i64.wrap (x + a) = x + a := IntWalk.i64_in _ (by omega)
  have w2 : IntKind.i64.wrap (y + b) = y + b := IntWalk.i64_in _ (by omega)
  have w3 : IntKind.i64.wrap (z + c) = z + c := IntWalk.i64_in _ (by omega)
  clear hx hy hz ha hb hc
  go_enter Tryd.func43, Tryd.ntmps43
  go_wp2
  exact bodyPost_ret (v := .agg #[.int .i64 (x + a), .int .i64 (y + b), .int .i64 (z + c)]) (by simp [results, Tryd.results43, go_sem]) rfl ⟨rfl, by repeat (first | exact Below.refl _ _ | (refine Below.setCell ?_ (by simp <;> omega) _) | (refine Below.alloc ?_ (by simp <;> omega) _))⟩
set_option maxRecDepth 100000 in
set_option maxHeartbeats 4000000 in
theorem times_of (w : World) (n x y z : Int) (hx : Big (n * x)) (hy : Big (n * y)) (hz : Big (n * z)) :
    Calls Tryd.prog 44 #[.agg #[.int .i64 x, .int .i64 y, .int .i64 z], .int .i64 n] w fun e w' => e = .returned (.agg #[.int .i64 (n * x), .int .i64 (n * y), .int .i64 (n * z)]) ∧ Below w.heap.size w w' := by
  unfold Big at *
  have w1 : IntKind.i64.wrap (n * x) = n * x := IntWalk.i64_in _ (by omega)
  have w2 : IntKind.i64.wrap (n * y) = n * y := IntWalk.i64_in _ (by omega)
  have w3 : IntKind.i64.wrap (n * z) = n * z := IntWalk.i64_in _ (by omega)
  clear hx hy hz
  go_enter Tryd.func44, Tryd.ntmps44
  go_wp2
  exact bodyPost_ret (v := .agg #[.int .i64 (n * x), .int .i64 (n * y), .int .i64 (n * z)]) (by simp [results, Tryd.results44, go_sem]) rfl ⟨rfl, by repeat (first | exact Below.refl _ _ | (refine Below.setCell ?_ (by simp <;> omega) _) | (refine Below.alloc ?_ (by simp <;> omega) _))⟩
end Go.Proofs.YtlbffdgojmjijaaDoor
