/-
  WALKS: Station.
-/
import Derived.Test.YtdibljidagiblaaDoorLoB
import Derived.RegionIn
namespace Go.Proofs.YtdibljidagiblaaDoor.Ln
open Go.RowKit Go.Shelf

attribute [local go_sem] Oper.semAt_some

theorem upto_mem {n : Nat} : ∀ {k i : Nat} (h : i < n), i < k → (⟨i, h⟩ : Ixs n) ∈ upto n k := by
  intro k i h hk
  simp only [upto, List.mem_filterMap, List.mem_range]
  exact ⟨i, hk, by simp [h]⟩

end Go.Proofs.YtdibljidagiblaaDoor.Ln
