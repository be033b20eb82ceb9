/-
  WORDS: a row of one's own, from an earlier world on.
-/
import Derived.Test.YtmdniebedflpbaaDoorPlA
import Derived.OwnWalk
namespace Go.Proofs.YtmdniebedflpbaaDoor
open Go.RowKit

theorem own_base {w : World} {base base' : Nat} {e : TypeId} {size : Nat} {v : Value} {k : Nat} {xs : List Value} (h : w.ownsRow base e size v k xs) (hb : base' ≤ base) : w.ownsRow base' e size v k xs := by
  obtain ⟨hl, h⟩ := h
  refine ⟨hl, ?_⟩
  rcases h with h | ⟨g, cap, cur, h0, h1, h2⟩
  · exact .inl h
  · exact .inr ⟨g, cap, cur, h0, Nat.le_trans hb h1, h2⟩
end Go.Proofs.YtmdniebedflpbaaDoor
