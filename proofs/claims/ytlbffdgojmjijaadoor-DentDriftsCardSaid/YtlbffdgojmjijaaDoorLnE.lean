/-
  WALKS: the iterator over the items with their starts; the end of a line.
-/
import Derived.Test.YtlbffdgojmjijaaDoorLnA
import Derived.RangeFuncNested
import Derived.RangeFuncBound
import Derived.RangeFuncCalls
import Derived.RangeFuncLeaves
import Derived.Shelf.Abstract
import Derived.OwnWalkIn
import Derived.TacticsInMore
import Derived.LoopNIn
import Derived.LoopIn
namespace Go.Proofs.YtlbffdgojmjijaaDoor.Ln
open Go.RowKit Go.Shelf

attribute [local go_sem] Oper.semAt_some

/-- Every block of cells but X stands as it stood. -/
structure KpX (X : Nat) (W W' : World) : Prop where
  size : W.heap.size ≤ W'.heap.size
  same : ∀ k o, k ≠ X → W.heap[k]? = some o → o.isCells = true → W'.heap[k]? = some o
theorem KpX.refl (X : Nat) (W : World) : KpX X W W := ⟨Nat.le_refl _, fun _ _ _ h _ => h⟩
theorem KpX.trans {X : Nat} {A B C : World} (h : KpX X A B) (k : KpX X B C) : KpX X A C :=
  ⟨Nat.le_trans h.size k.size, fun i o hi ho hc => k.same i o hi (h.same i o hi ho hc) hc⟩
theorem KpX.alloc {X : Nat} {A B : World} (h : KpX X A B) (o : Obj) : KpX X A (B.alloc o) :=
  h.trans ⟨by simp, fun k o' _ hk _ => (Below.heap_alloc B o k (Array.getElem?_eq_some_iff.1 hk).1).trans hk⟩
theorem KpX.cell {X : Nat} {W W' : World} (h : KpX X W W') {b o : Nat} {v : Value} (hb : b ≠ X) (hc : W.cell? ⟨b, o, none⟩ = some v) : W'.cell? ⟨b, o, none⟩ = some v := by
  obtain ⟨ob, ho, hcl⟩ := cells_of_cell hc
  exact (World.cell?_of_block ((h.same b ob hb ho hcl).trans ho.symm)).trans hc
theorem KpX.set (X : Nat) (W : World) (v : Value) : KpX X W (W.setCell ⟨X, 0, none⟩ v) :=
  ⟨by simp [World.setCell], fun k o hk ho _ => (Below.heap_setCell W ⟨X, 0, none⟩ v k hk).trans ho⟩
theorem kpX_b {X : Nat} {w : World} (W : World) (l : Nat) (o o' : Obj) (_ : w.heap.size ≤ l) (h : W.heap[l]? = some o) (hc : o.isCells = false) (_ : o.isWalk = false) : KpX X W (W.putObj l o') :=
  ⟨by simp, fun k ob _ hk hcl => by
    by_cases e : k = l
    · subst e; rw [h] at hk; cases hk; rw [hc] at hcl; cases hcl
    · exact (World.putObj_heap_other e).trans hk⟩

/-- Item i with its start, as a value. -/
def plV (f : Nat → Int) (i : Nat) : Value :=
  .agg #[.int .i64 (f (i * 7)), .int .i64 (f (i * 7 + 1)), .int .i64 (f (i * 7 + 2)), .int .i64 (f (i * 7 + 3)), .int .i64 (f (i * 7 + 4)), .int .i64 (f (i * 7 + 5)), .int .i64 (f (i * 7 + 6)), .int .i64 (endS f i)]
/-- The indices below n. -/
abbrev Ixs (n : Nat) := { i : Nat // i < n }
def upto (n k : Nat) : List (Ixs n) := (List.range k).filterMap fun i => if h : i < n then some ⟨i, h⟩ else none
theorem upto_succ {n k : Nat} (h : k < n) : upto n (k + 1) = upto n k ++ [⟨k, h⟩] := by
  simp [upto, List.range_succ, h]
theorem upto_length {n : Nat} : ∀ {k : Nat}, k ≤ n → (upto n k).length = k
  | 0, _ => rfl
  | k + 1, h => by rw [upto_succ (by omega), List.length_append, upto_length (by omega)]; rfl
theorem endS_step {f : Nat → Int} {n k : Nat} (hn : n ≤ 70) (hv : ∀ i, i < n → itAt f i = 0) (hk : k < n) :
    0 ≤ endS f k ∧ endS f k ≤ 1174405120 ∧ 1 ≤ f (k * 7 + 1) ∧ f (k * 7 + 1) ≤ 16777216 := by
  have h1 := endS_le (f := f) (n := k) fun i hi => hv i (by omega)
  have h2 := (itErr_ok (hv k hk)).2.1
  omega
theorem upto_zero (n : Nat) : upto n 0 = [] := rfl

/-- The end behind the items that have come. -/
def lastEnd (f : Nat → Int) {n : Nat} (pre : List (Ixs n)) : Int := match pre.getLast? with | none => 0 | some x => endS f (x.1 + 1)
theorem lastEnd_nil (f : Nat → Int) (n : Nat) : lastEnd f ([] : List (Ixs n)) = 0 := rfl
theorem lastEnd_snoc (f : Nat → Int) {n : Nat} (pre : List (Ixs n)) (x : Ixs n) : lastEnd f (pre ++ [x]) = endS f (x.1 + 1) := by simp [lastEnd]
theorem lastEnd_all (f : Nat → Int) (n : Nat) : ∀ k, k ≤ n → lastEnd f (upto n k) = endS f k
  | 0, _ => rfl
  | k + 1, h => by rw [upto_succ (by omega), lastEnd_snoc]

end Go.Proofs.YtlbffdgojmjijaaDoor.Ln
