/-
  WALKS: the functions that tell the steps.
-/
import Derived.Test.YtmdniebedflpbaaDoorPmE
namespace Go.Proofs.YtmdniebedflpbaaDoor
open Go.RowKit

theorem cell_h {w : World} {b k : Nat} {cs : Array Value} {t : TypeId} {fz : Nat × Nat} {v : Value} (h : w.heap[b]? = some (.cells cs t fz)) (hv : cs[k]? = some v) : w.cell? ⟨b, k, none⟩ = some v := by
  simp only [World.cell?, h]; exact hv
end Go.Proofs.YtmdniebedflpbaaDoor
