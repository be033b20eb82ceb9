/-
  WALKS: the iterator over the bounds that shorten a path.
-/
import Derived.Test.YtmdniebedflpbaaGreatDoorPlR
import Derived.Test.YtmdniebedflpbaaGreatDoorVwA
namespace Go.Proofs.YtmdniebedflpbaaGreatDoor
open Go.RowKit Go.Shelf

attribute [local go_sem] Oper.semAt_some

/-- The bound i as a value. -/
def bdV (f : Nat → Int) (i : Nat) : Value := .agg #[.int .i64 (f (i * 3)), .int .i64 (f (i * 3 + 1)), .int .i64 (f (i * 3 + 2))]
theorem three_new (w : World) (x y z : Value) (t : TypeId) : (w.alloc (.cells #[x, y, z] t)).cell? ⟨w.heap.size, 0, none⟩ = some x ∧ (w.alloc (.cells #[x, y, z] t)).cell? ⟨w.heap.size, 1, none⟩ = some y ∧ (w.alloc (.cells #[x, y, z] t)).cell? ⟨w.heap.size, 2, none⟩ = some z := by
  have h := World.alloc_heap_new w (.cells #[x, y, z] t)
  simp only [World.cell?, h]
  exact ⟨rfl, rfl, rfl⟩
end Go.Proofs.YtmdniebedflpbaaGreatDoor
