/-
  WORDS: the stations at which something may change, as lists; what sorting and compacting make of a list.
-/
import Derived.Test.YtbpifllkimkokaaDoorLpB
import Derived.Lib.SlicesCompact
import Derived.Sort.OwnSortedInts
namespace Go.Proofs.YtbpifllkimkokaaDoor
open Go.RowKit

/-- A slice of ints of the call's own. -/
def RowL (w : World) (B : Nat) (v : Value) (L : List Int) : Prop := w.ownsRow B 3 1 v L.length (L.map (.int .i64))
theorem RowL.form {w : World} {B : Nat} {v : Value} {L : List Int} (h : RowL w B v L) (hn : 0 < L.length) : ∃ g cap, v = .slice (some ⟨g, 0, none⟩) L.length cap := by
  obtain ⟨k, hk⟩ : ∃ k, L.length = k + 1 := ⟨L.length - 1, by omega⟩
  unfold RowL at h
  rw [hk] at h ⊢
  exact ownsRow_succ h
theorem RowL.snoc {w : World} {B : Nat} {v : Value} {L : List Int} {x : Int} (h : w.ownsRow B 3 1 v (L.length + 1) (L.map (.int .i64) ++ [.int .i64 x])) : RowL w B v (L ++ [x]) := by
  unfold RowL
  rw [List.length_append, List.map_append]
  exact h
theorem RowL.cell {w : World} {B g cap : Nat} {L : List Int} (h : RowL w B (.slice (some ⟨g, 0, none⟩) L.length cap) L) (i : Nat) (hi : i < L.length) : w.cell? ⟨g, i, none⟩ = some (.int .i64 (L[i]'hi)) := by
  rw [World.ownsRow.cellAt h i (by omega)]
  simp [List.getElem?_eq_getElem hi]
theorem RowL.below {w w' : World} {B : Nat} {v : Value} {L : List Int} (h : RowL w B v L) (hb : Below w.heap.size w w') : RowL w' B v L := own_below h hb
theorem RowL.base {w : World} {B B' : Nat} {v : Value} {L : List Int} (h : RowL w B v L) (hb : B' ≤ B) : RowL w B' v L := own_base h hb
theorem rowL_irow {w : World} {B : Nat} {v : Value} {n : Nat} {f : Nat → Int} (h : w.ownsRow B 3 1 v n (irow f n)) : RowL w B v ((List.range n).map f) := by
  unfold RowL
  rw [List.length_map, List.length_range, List.map_map]
  exact h

/-- The zones' stations, of the first i zones. -/
def zbs (z : Nat → Int) (e : Int) : Nat → List Int
  | 0 => []
  | i + 1 => zbs z e i ++ [z (i * 3)] ++ (if z (i * 3 + 1) < e then [z (i * 3 + 1)] else [])
theorem zbs_length (z : Nat → Int) (e : Int) : ∀ i, (zbs z e i).length ≤ 2 * i
  | 0 => by simp [zbs]
  | i + 1 => by
    have := zbs_length z e i
    simp only [zbs, List.length_append, List.length_cons, List.length_nil]
    split <;> simp <;> omega
theorem mem_zbs {z : Nat → Int} {e x : Int} : ∀ {i : Nat}, x ∈ zbs z e i ↔ ∃ j, j < i ∧ (x = z (j * 3) ∨ (x = z (j * 3 + 1) ∧ x < e))
  | 0 => by simp [zbs]
  | i + 1 => by
    simp only [zbs, List.mem_append, mem_zbs (i := i), List.mem_singleton]
    constructor
    · rintro ((⟨j, hj, h⟩ | h) | h)
      · exact ⟨j, by omega, h⟩
      · exact ⟨i, by omega, .inl h⟩
      · split at h
        · rw [List.mem_singleton] at h
          subst h
          exact ⟨i, by omega, .inr ⟨rfl, by assumption⟩⟩
        · cases h
    · rintro ⟨j, hj, h⟩
      by_cases hji : j = i
      · subst hji
        rcases h with h | ⟨rfl, h⟩
        · exact .inl (.inr h)
        · exact .inr (by rw [if_pos h]; simp)
      · exact .inl (.inl ⟨j, by omega, h⟩)
/-- The limits' stations. -/
def lbs (m : Nat → Int) (i : Nat) : List Int := (List.range i).map fun j => m (j * 2)
theorem lbs_succ (m : Nat → Int) (i : Nat) : lbs m (i + 1) = lbs m i ++ [m (i * 2)] := by simp [lbs, List.range_succ]
/-- All stations at which something may change. -/
def Br (f z m : Nat → Int) (n nz nl : Nat) (x : Int) : Prop :=
  (∃ i, i < n ∧ x = endS f i) ∨ (∃ j, j < nz ∧ (x = z (j * 3) ∨ (x = z (j * 3 + 1) ∧ x < endS f n))) ∨ (∃ j, j < nl ∧ x = m (j * 2))
def allBs (f z m : Nat → Int) (n nz nl : Nat) : List Int := (List.range n).map (endS f) ++ zbs z (endS f n) nz ++ lbs m nl
theorem mem_allBs {f z m : Nat → Int} {n nz nl : Nat} {x : Int} : x ∈ allBs f z m n nz nl ↔ Br f z m n nz nl x := by
  unfold allBs Br
  rw [List.mem_append, List.mem_append, mem_zbs, or_assoc]
  simp only [List.mem_map, List.mem_range, lbs, eq_comm]
theorem allBs_length (f z m : Nat → Int) (n nz nl : Nat) : n ≤ (allBs f z m n nz nl).length ∧ (allBs f z m n nz nl).length ≤ n + 2 * nz + nl := by
  have := zbs_length z (endS f n) nz
  simp only [allBs, lbs, List.length_append, List.length_map, List.length_range]
  omega

/-! ### compact -/
theorem mem_compactUpTo {d : Array Int} : ∀ {m : Nat} {x : Int}, x ∈ Lib.compactUpTo d m ↔ ∃ j, j < m ∧ d[j]! = x := by
  intro m x
  unfold Lib.compactUpTo
  simp only [List.mem_map, List.mem_filter, List.mem_range]
  constructor
  · rintro ⟨j, ⟨h1, _⟩, h2⟩; exact ⟨j, h1, h2⟩
  · rintro ⟨j, h1, h2⟩
    induction j with
    | zero => exact ⟨0, ⟨h1, by simp [Lib.keeps]⟩, h2⟩
    | succ k ih =>
      by_cases hk : Lib.keeps d (k + 1) = true
      · exact ⟨k + 1, ⟨h1, hk⟩, h2⟩
      · have he : d[k + 1]! = d[k]! := by
          by_cases e : d[k + 1]! = d[k]!
          · exact e
          · exact absurd (Lib.keeps_pos (m := k + 1) e) hk
        exact ih (by omega) (he.symm.trans h2)
theorem mem_compact {zs : List Int} {x : Int} : x ∈ Lib.compact zs ↔ x ∈ zs := by
  unfold Lib.compact
  rw [mem_compactUpTo]
  constructor
  · rintro ⟨j, h1, h2⟩
    rw [← h2]
    simp [h1]
  · intro h
    obtain ⟨j, hj, e⟩ := List.mem_iff_getElem.1 h
    exact ⟨j, hj, by simp [hj, e]⟩
theorem compact_strict {zs : List Int} (h : zs.Pairwise (· ≤ ·)) : (Lib.compact zs).Pairwise (· < ·) := by
  unfold Lib.compact Lib.compactUpTo
  rw [List.pairwise_map]
  have hp : ((List.range zs.length).filter (Lib.keeps zs.toArray)).Pairwise (· < ·) := (List.pairwise_lt_range).filter _
  refine hp.imp_of_mem fun {a b} ha hb hab => ?_
  have hb2 := (List.mem_filter.1 hb)
  have hbl : b < zs.length := List.mem_range.1 hb2.1
  have hk : zs.toArray[b]! ≠ zs.toArray[b - 1]! := by
    have := hb2.2
    unfold Lib.keeps at this
    rcases of_decide_eq_true this with h0 | h0
    · omega
    · exact h0
  have hle : ∀ i j, i ≤ j → j < zs.length → zs.toArray[i]! ≤ zs.toArray[j]! := by
    intro i j hij hj
    by_cases e : i = j
    · subst e; exact Int.le_refl _
    · have := List.pairwise_iff_getElem.1 h i j (by omega) hj (by omega)
      simpa [show i < zs.length by omega, hj] using this
  have h1 := hle a (b - 1) (by omega) (by omega)
  have h2 := hle (b - 1) b (by omega) hbl
  omega
theorem compact_length (zs : List Int) : (Lib.compact zs).length ≤ zs.length := by
  unfold Lib.compact Lib.compactUpTo
  rw [List.length_map]
  exact Nat.le_trans (List.length_filter_le _ _) (by simp)
/-- Sorted and compacted: ascending, each station once. -/
def ascOf (L : List Int) : List Int := Lib.compact (L.mergeSort fun x y => decide (x ≤ y))
theorem mem_ascOf {L : List Int} {x : Int} : x ∈ ascOf L ↔ x ∈ L := by unfold ascOf; rw [mem_compact, List.mem_mergeSort]
theorem ascOf_strict (L : List Int) : (ascOf L).Pairwise (· < ·) := by
  refine compact_strict ?_
  have := List.pairwise_mergeSort (le := fun x y : Int => decide (x ≤ y)) (fun a b c h1 h2 => by simp only [decide_eq_true_eq] at *; omega) (fun a b => by simp only [Bool.or_eq_true, decide_eq_true_eq]; omega) L
  exact this.imp fun h => by simpa using h
theorem ascOf_length (L : List Int) : (ascOf L).length ≤ L.length := by
  have := compact_length (L.mergeSort fun x y => decide (x ≤ y))
  rwa [(List.mergeSort_perm L _).length_eq] at this
end Go.Proofs.YtbpifllkimkokaaDoor
