/-
  WORDS and WALKS: the reference's copy of a line.
-/
import Derived.Test.YtlbffdgojmjijaaDoorLnE
import Derived.OwnWalk
import Derived.Laws.OwnMore
import Derived.Laws.AppendOwn
namespace Go.Proofs.YtlbffdgojmjijaaDoor.Ln
open Go.RowKit

/-- The first m ints of f, as cells. -/
def irow (f : Nat → Int) (m : Nat) : List Value := (List.range m).map fun i => .int .i64 (f i)
theorem irow_zero (f : Nat → Int) : irow f 0 = [] := rfl
theorem irow_length (f : Nat → Int) (m : Nat) : (irow f m).length = m := by simp [irow]
theorem irow_succ (f : Nat → Int) (m : Nat) : irow f (m + 1) = irow f m ++ [.int .i64 (f m)] := by simp [irow, List.range_succ]
theorem irow_at (f : Nat → Int) {m i : Nat} (h : i < m) : (irow f m)[i]? = some (.int .i64 (f i)) := by simp [irow, h]
theorem irow7 (f : Nat → Int) (k : Nat) : irow f ((k + 1) * 7) = irow f (k * 7) ++ [.int .i64 (f (k * 7)), .int .i64 (f (k * 7 + 1)), .int .i64 (f (k * 7 + 2)), .int .i64 (f (k * 7 + 3)), .int .i64 (f (k * 7 + 4)), .int .i64 (f (k * 7 + 5)), .int .i64 (f (k * 7 + 6))] := by
  rw [show (k + 1) * 7 = k * 7 + 1 + 1 + 1 + 1 + 1 + 1 + 1 by omega]
  simp only [irow_succ, List.append_assoc, List.cons_append, List.nil_append]
theorem irow3 (f : Nat → Int) (k : Nat) : irow f ((k + 1) * 3) = irow f (k * 3) ++ [.int .i64 (f (k * 3)), .int .i64 (f (k * 3 + 1)), .int .i64 (f (k * 3 + 2))] := by
  rw [show (k + 1) * 3 = k * 3 + 1 + 1 + 1 by omega]
  simp only [irow_succ, List.append_assoc, List.cons_append, List.nil_append]
theorem irow2 (f : Nat → Int) (k : Nat) : irow f ((k + 1) * 2) = irow f (k * 2) ++ [.int .i64 (f (k * 2)), .int .i64 (f (k * 2 + 1))] := by
  rw [show (k + 1) * 2 = k * 2 + 1 + 1 by omega]
  simp only [irow_succ, List.append_assoc, List.cons_append, List.nil_append]

/-- Every block that was there stands as it stood, but X. -/
structure KpB (X : Nat) (w w' : World) : Prop where
  os : w'.os = w.os
  tape : w'.tape = w.tape
  output : w'.output = w.output
  size : w.heap.size ≤ w'.heap.size
  block : ∀ k, k ≠ X → k < w.heap.size → w'.heap[k]? = w.heap[k]?
theorem KpB.refl (X : Nat) (w : World) : KpB X w w := ⟨rfl, rfl, rfl, Nat.le_refl _, fun _ _ _ => rfl⟩
theorem KpB.trans {X : Nat} {a b c : World} (h : KpB X a b) (k : KpB X b c) : KpB X a c :=
  ⟨k.os.trans h.os, k.tape.trans h.tape, k.output.trans h.output, Nat.le_trans h.size k.size, fun i hi hs => (k.block i hi (Nat.lt_of_lt_of_le hs h.size)).trans (h.block i hi hs)⟩
theorem KpB.of_below {X : Nat} {a b : World} (h : Below a.heap.size a b) : KpB X a b := ⟨h.os, h.tape, h.output, h.size, fun k _ hk => h.block k hk⟩
theorem KpB.alloc {X : Nat} {a b : World} (h : KpB X a b) (o : Obj) : KpB X a (b.alloc o) := h.trans (.of_below ((Below.refl _ _).alloc (Nat.le_refl _) _))
theorem KpB.drew {X : Nat} {a b : World} (h : KpB X a b) : KpB X a b.drew := h.trans ⟨rfl, rfl, rfl, Nat.le_refl _, fun _ _ _ => rfl⟩
theorem KpB.set {X : Nat} {a b : World} (h : KpB X a b) (j : Nat) (v : Value) : KpB X a (b.setCell ⟨X, j, none⟩ v) :=
  h.trans ⟨rfl, rfl, rfl, by simp [World.setCell], fun k hk _ => Below.heap_setCell _ _ _ _ hk⟩
theorem KpB.grown {X : Nat} {a b c : World} (h : KpB X a b) {row : Option Nat} (hg : b.grownBy c row) (hr : ∀ k, row = some k → a.heap.size ≤ k) : KpB X a c :=
  ⟨hg.os.trans h.os, hg.tape.trans h.tape, hg.output.trans h.output, Nat.le_trans h.size hg.size, fun i hi hs => (hg.block i (Nat.lt_of_lt_of_le hs h.size) (fun e => by have := hr i e.symm; omega)).trans (h.block i hi hs)⟩
theorem KpB.below {X B : Nat} {a b : World} (h : KpB X a b) (hB : B ≤ X) (hw : B ≤ a.heap.size) : Below B a b :=
  ⟨h.os, h.tape, h.output, h.size, fun k hk => h.block k (by omega) (by omega)⟩
theorem KpB.cell {X : Nat} {a b : World} (h : KpB X a b) {k o : Nat} (hk : k ≠ X) (hs : k < a.heap.size) : b.cell? ⟨k, o, none⟩ = a.cell? ⟨k, o, none⟩ :=
  World.cell?_of_block (h.block k hk hs)
theorem Sl.kpb {w w' : World} {s : Nat} {a : Option Addr} {n : Nat} {f : Nat → Int} {X : Nat} (hs : 0 < s) (h : Sl w s a n f) (hk : KpB X w w') (hX : ∀ b o, a = some ⟨b, o, none⟩ → b ≠ X) : Sl w' s a n f := by
  intro hn
  obtain ⟨b, o, e, hi⟩ := h hn
  have hlt := hi.lt (Nat.mul_pos hn hs)
  exact ⟨b, o, e, fun i hi' => (hk.cell (hX b o e) hlt).trans (hi i hi')⟩

/-- What a row that the call owns reads as. -/
theorem own_sl {w : World} {B E s : Nat} {v : Value} {k : Nat} {f : Nat → Int} (h : w.ownsRow B E s v k (irow f (k * s))) :
    ∃ a c, v = .slice a k c ∧ k ≤ c ∧ Sl w s a k f ∧ (∀ b o, a = some ⟨b, o, none⟩ → B ≤ b ∧ b < w.heap.size) := by
  rcases h.2 with ⟨rfl, rfl⟩ | ⟨g, cap, cur, rfl, hb, hg, hc, hm, hs, ht⟩
  · exact ⟨none, 0, rfl, Nat.le_refl _, fun h => by omega, fun b o e => by cases e⟩
  · refine ⟨some ⟨g, 0, none⟩, cap, rfl, hc, fun hn => ⟨g, 0, rfl, fun i hi => ?_⟩, fun b o e => ?_⟩
    · have hx : cur.toList[i]? = some (.int .i64 (f i)) := by
        rw [← irow_at f hi, ← ht, List.getElem?_take_of_lt hi]
      have hx2 : cur[i]? = some (.int .i64 (f i)) := by rw [← Array.getElem?_toList]; exact hx
      simp [World.cell?, hg, hx2]
    · cases e
      exact ⟨hb, (Array.getElem?_eq_some_iff.1 hg).1⟩
theorem own_slice {w : World} {B E s : Nat} {v : Value} {k : Nat} {xs : List Value} (h : w.ownsRow B E s v k xs) : ∃ a c, v = .slice a k c := by
  rcases h.2 with ⟨rfl, rfl⟩ | ⟨g, cap, cur, rfl, _⟩
  · exact ⟨none, 0, rfl⟩
  · exact ⟨_, _, rfl⟩
theorem own_nil (w : World) (B E s : Nat) (f : Nat → Int) : w.ownsRow B E s (.slice none 0 0) 0 (irow f (0 * s)) := by
  refine ⟨by simp [irow], .inl ⟨rfl, rfl⟩⟩

/-- A row of the call's own stays when another block is written. -/
theorem own_set {w : World} {B E s : Nat} {v : Value} {n : Nat} {xs : List Value} (h : w.ownsRow B E s v n xs) {X : Nat} (hX : X < B) (j : Nat) (u : Value) : (w.setCell ⟨X, j, none⟩ u).ownsRow B E s v n xs := by
  refine ⟨h.1, ?_⟩
  rcases h.2 with hn | ⟨g, cap, cur, rfl, hb, hg, rest⟩
  · exact .inl hn
  · exact .inr ⟨g, cap, cur, rfl, hb, (Below.heap_setCell w ⟨X, j, none⟩ u g (by show g ≠ X; omega)).trans hg, rest⟩
theorem cells_new2 (w : World) (o : Obj) (vs : List Value) (t : TypeId) : ∀ j u, vs[j]? = some u → ((w.alloc o).alloc (.cells vs.toArray t)).cell? ((⟨w.heap.size + 1, 0, none⟩ : Addr).add j) = some u := by
  intro j u h
  have hh := World.alloc_heap_new (w.alloc o) (.cells vs.toArray t)
  simp only [World.size_alloc] at hh
  have e : (⟨w.heap.size + 1, 0, none⟩ : Addr).add j = ⟨w.heap.size + 1, j, none⟩ := by
    by_cases e : j = 0
    · subst e; simp [Addr.add]
    · simp [Addr.add, e]
  rw [e]
  simp only [World.cell?, hh]
  simp [h]
end Go.Proofs.YtlbffdgojmjijaaDoor.Ln
