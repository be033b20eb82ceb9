/-
  WALKS: spans of the program: growth's number and only, Hull.
-/
import Derived.Test.YtlphlbgbbblnpaaGreatDoorDyN
import Derived.Test.YtlphlbgbbblnpaaGreatDoorDyJ
import Derived.Test.YtlphlbgbbblnpaaGreatDoorPmAF
namespace Go.Proofs.YtlphlbgbbblnpaaGreatDoor
open Go.RowKit

theorem nodig_of {W : World} {g : Nat} {a1 a2 : Bool} {p1 p2 : Option Addr} {n1 k1 n2 k2 : Nat} {e1 e2 : Int} {t : TypeId} {fz : Nat × Nat} (h : W.heap[g]? = some (.cells #[.bool a1, .slice p1 n1 k1, .int .i64 e1, .bool a2, .slice p2 n2 k2, .int .i64 e2] t fz)) : Dy.NoDig W g := by
  intro o x hc
  simp only [World.cell?, h] at hc
  match o, hc with
  | 0, hc => simp at hc
  | 1, hc => simp at hc
  | 2, hc => simp at hc
  | 3, hc => simp at hc
  | 4, hc => simp at hc
  | 5, hc => simp at hc
  | o + 6, hc => simp at hc
theorem set6_heap {W : World} {g : Nat} {t : TypeId} {a0 a1 a2 a3 a4 a5 v0 v1 v2 v3 v4 v5 : Value} (h : W.heap[g]? = some (.cells #[a0, a1, a2, a3, a4, a5] t (0, 0))) :
    ((((((W.setCell ⟨g, 0, none⟩ v0).setCell ⟨g, 1, none⟩ v1).setCell ⟨g, 2, none⟩ v2).setCell ⟨g, 3, none⟩ v3).setCell ⟨g, 4, none⟩ v4).setCell ⟨g, 5, none⟩ v5).heap[g]? = some (.cells #[v0, v1, v2, v3, v4, v5] t (0, 0)) := by
  rw [heap_set (heap_set (heap_set (heap_set (heap_set (heap_set h v0) v1) v2) v3) v4) v5]
  rfl
/-- What a function's span of results holds behind a store. -/
theorem set6_all {W0 W : World} {B g : Nat} {t : TypeId} {a1 a2 : Bool} {p1 p2 : Option Addr} {n1 k1 n2 k2 : Nat} {e1 e2 : Int} (h : W.heap[g]? = some (.cells #[.bool a1, .slice p1 n1 k1, .int .i64 e1, .bool a2, .slice p2 n2 k2, .int .i64 e2] t (0, 0)))
    {b1 b2 : Bool} {q1 q2 : Option Addr} {l1 c1 l2 c2 : Nat} {f1 f2 : Int} (hB : Below B W0 W) (hg : B ≤ g) :
    ∀ W9, ((((((W.setCell ⟨g, 0, none⟩ (.bool b1)).setCell ⟨g, 1, none⟩ (.slice q1 l1 c1)).setCell ⟨g, 2, none⟩ (.int .i64 f1)).setCell ⟨g, 3, none⟩ (.bool b2)).setCell ⟨g, 4, none⟩ (.slice q2 l2 c2)).setCell ⟨g, 5, none⟩ (.int .i64 f2)) = W9 →
      W9.heap[g]? = some (.cells #[.bool b1, .slice q1 l1 c1, .int .i64 f1, .bool b2, .slice q2 l2 c2, .int .i64 f2] t (0, 0)) ∧ Below B W0 W9 ∧ (∀ v x y, Dy.Sp W v x y → Dy.Sp W9 v x y) ∧ (∀ v x, Dy.Nm W v x → Dy.Nm W9 v x) := by
  intro W9 e
  subst e
  have hd := nodig_of h
  exact ⟨set6_heap h, Dy.below_set3 (Dy.below_set3 hB hg) hg, fun v x y hv => hv.set6 hd, fun v x hv => (hv.set3 hd).set3 hd.set3⟩
/-- A new span of results. -/
theorem new_span (w : World) : ∀ W, w.alloc (.cells #[.bool false, .slice none 0 0, .int .i64 0, .bool false, .slice none 0 0, .int .i64 0] 116) = W → W.heap[w.heap.size]? = some (.cells #[.bool false, .slice none 0 0, .int .i64 0, .bool false, .slice none 0 0, .int .i64 0] 116 (0, 0)) ∧ Below w.heap.size w W := by
  intro W e
  subst e
  exact ⟨World.alloc_heap_new w _, (Below.refl _ _).alloc (Nat.le_refl _) _⟩
end Go.Proofs.YtlphlbgbbblnpaaGreatDoor
