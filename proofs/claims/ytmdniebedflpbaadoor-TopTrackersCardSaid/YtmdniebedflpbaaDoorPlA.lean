/-
  WORDS: rows of ints, bounds, and the paths of a search as the program keeps them.
-/
import Derived.Test.YtmdniebedflpbaaDoorProg
import Derived.WalkKit
import Derived.WalkSpells
import Derived.WalkLawsBesides
import Derived.BigQuiet
import Derived.Deep.QuietTactic
import Derived.Lib.Hide
import Derived.LoopN
namespace Go.Proofs.YtmdniebedflpbaaDoor
open Go.RowKit

/-- The cells from o on in block b hold the ints f 0 .. f (n - 1). -/
def Ints (w : World) (b o n : Nat) (f : Nat → Int) : Prop := ∀ i, i < n → w.cell? ⟨b, o + i, none⟩ = some (.int .i64 (f i))
theorem Ints.keep {w w' : World} {b o n : Nat} {f : Nat → Int} (h : Ints w b o n f) {B : Nat} (hb : Below B w w') (hB : b < B) : Ints w' b o n f :=
  fun i hi => (hb.cell (p := ⟨b, o + i, none⟩) hB).trans (h i hi)
theorem Ints.lt {w : World} {b o n : Nat} {f : Nat → Int} (h : Ints w b o n f) (hn : 0 < n) : b < w.heap.size :=
  World.block_lt_of_cell? w _ (h 0 hn)
theorem Ints.at {w : World} {b o n : Nat} {f : Nat → Int} (h : Ints w b o n f) (i j : Nat) (hi : i + j < n) : w.cell? ⟨b, o + i + j, none⟩ = some (.int .i64 (f (i + j))) := by
  rw [Nat.add_assoc]; exact h _ hi

/-- A slice of n elements of s ints each, at the address a. -/
def Sl (w : World) (s : Nat) (a : Option Addr) (n : Nat) (f : Nat → Int) : Prop :=
  0 < n → ∃ b o, a = some ⟨b, o, none⟩ ∧ Ints w b o (n * s) f
theorem Sl.keep {w w' : World} {s : Nat} {a : Option Addr} {n : Nat} {f : Nat → Int} (hs : 0 < s) (h : Sl w s a n f) (hb : Below w.heap.size w w') : Sl w' s a n f := by
  intro hn
  obtain ⟨b, o, e, hi⟩ := h hn
  exact ⟨b, o, e, hi.keep hb (hi.lt (Nat.mul_pos hn hs))⟩

/-- The first g i that is not 0, of the first n. -/
def first (g : Nat → Int) : Nat → Int
  | 0 => 0
  | n + 1 => if first g n = 0 then g n else first g n
theorem first_zero {g : Nat → Int} : ∀ {n : Nat}, (∀ i, i < n → g i = 0) → first g n = 0
  | 0, _ => rfl
  | n + 1, h => by simp only [first]; rw [if_pos (first_zero fun i hi => h i (by omega))]; exact h n (by omega)
theorem first_at {g : Nat → Int} {k : Nat} (h : ∀ i, i < k → g i = 0) (hk : g k ≠ 0) : ∀ {n : Nat}, k < n → first g n = g k
  | 0, h0 => by omega
  | n + 1, h0 => by
    by_cases e : k = n
    · subst e; simp only [first]; rw [if_pos (first_zero h)]
    · simp only [first]; rw [first_at h hk (n := n) (by omega), if_neg hk]
theorem first_all {g : Nat → Int} : ∀ {n : Nat}, first g n = 0 → ∀ i, i < n → g i = 0
  | 0, _, i, hi => by omega
  | n + 1, h, i, hi => by
    simp only [first] at h
    by_cases e : first g n = 0
    · rw [if_pos e] at h
      by_cases e2 : i = n
      · subst e2; exact h
      · exact first_all e i (by omega)
    · rw [if_neg e] at h; exact absurd h e

/-- The ints of a row fit. -/
def I64s (f : Nat → Int) (n : Nat) : Prop := ∀ i, i < n → -9223372036854775808 ≤ f i ∧ f i ≤ 9223372036854775807

/-- The error of a bound, and of bounds. -/
def bdErr (E F T M : Int) : Int := if F < 0 ∨ E ≤ F ∨ T < 0 ∨ E ≤ T ∨ M < -1073741824 ∨ 1073741824 < M then 1 else 0
def bdAt (E : Int) (f : Nat → Int) (i : Nat) : Int := bdErr E (f (i * 3)) (f (i * 3 + 1)) (f (i * 3 + 2))
def bchk (E : Int) (n : Nat) (f : Nat → Int) : Int := if E < 1 ∨ 64 < E ∨ 256 < n then 4 else first (bdAt E f) n

/-- From, To and Most of the bound i. -/
def bF (f : Nat → Int) (i : Nat) : Nat := (f (i * 3)).toNat
def bT (f : Nat → Int) (i : Nat) : Nat := (f (i * 3 + 1)).toNat
def bM (f : Nat → Int) (i : Nat) : Int := f (i * 3 + 2)
/-- Bounds without an error. -/
def BOk (E n : Nat) (f : Nat → Int) : Prop := (1 ≤ E ∧ E ≤ 64 ∧ n ≤ 256) ∧ ∀ i, i < n → (0 ≤ f (i * 3) ∧ f (i * 3) < E) ∧ (0 ≤ f (i * 3 + 1) ∧ f (i * 3 + 1) < E) ∧ -1073741824 ≤ f (i * 3 + 2) ∧ f (i * 3 + 2) ≤ 1073741824
theorem bok_of {E : Int} {n : Nat} {f : Nat → Int} (h : bchk E n f = 0) : BOk E.toNat n f ∧ E = (E.toNat : Int) := by
  unfold bchk at h
  split at h
  · omega
  · rename_i h1
    refine ⟨⟨by omega, fun i hi => ?_⟩, by omega⟩
    have h2 := first_all h i hi
    unfold bdAt bdErr at h2
    split at h2
    · omega
    · rename_i h3
      omega
theorem bF_eq {E n : Nat} {f : Nat → Int} (h : BOk E n f) {i : Nat} (hi : i < n) : f (i * 3) = (bF f i : Int) ∧ bF f i < E := by
  have := h.2 i hi; unfold bF; omega
theorem bT_eq {E n : Nat} {f : Nat → Int} (h : BOk E n f) {i : Nat} (hi : i < n) : f (i * 3 + 1) = (bT f i : Int) ∧ bT f i < E := by
  have := h.2 i hi; unfold bT; omega

/-- The paths: what is known, what it allows, its last bound. -/
structure Pt where
  kn : Nat → Bool
  mo : Nat → Int
  la : Nat → Int
/-- One place of a row turned. -/
def turn {α : Type} (g : Nat → α) (k : Nat) (v : α) : Nat → α := fun i => if i = k then v else g i
theorem turn_same {α : Type} (g : Nat → α) (k : Nat) (v : α) : turn g k v k = v := by simp [turn]
theorem turn_other {α : Type} (g : Nat → α) (k : Nat) (v : α) {i : Nat} (h : i ≠ k) : turn g k v i = g i := by simp [turn, h]
/-- Whether the bound i shortens; the paths behind it. -/
def Pt.sh (f : Nat → Int) (p : Pt) (i : Nat) : Bool := p.kn (bF f i) && (!p.kn (bT f i) || decide (p.mo (bF f i) + bM f i < p.mo (bT f i)))
def Pt.up (f : Nat → Int) (p : Pt) (i : Nat) : Pt := ⟨turn p.kn (bT f i) true, turn p.mo (bT f i) (p.mo (bF f i) + bM f i), turn p.la (bT f i) (i : Int)⟩
def Pt.ups (f : Nat → Int) (p : Pt) (l : List Nat) : Pt := l.foldl (fun q i => q.up f i) p
theorem Pt.ups_snoc (f : Nat → Int) (p : Pt) (l : List Nat) (i : Nat) : p.ups f (l ++ [i]) = (p.ups f l).up f i := by simp [Pt.ups, List.foldl_append]
/-- The bounds among the first k that shorten, one after the other. -/
def ysOf (f : Nat → Int) (p : Pt) : Nat → List Nat
  | 0 => []
  | k + 1 => if (p.ups f (ysOf f p k)).sh f k then ysOf f p k ++ [k] else ysOf f p k
/-- The To of the last one of a list, or -1. -/
def lastTo (f : Nat → Int) (l : List Nat) : Int := match l.getLast? with | none => -1 | some i => (bT f i : Int)
theorem lastTo_nil (f : Nat → Int) : lastTo f [] = -1 := rfl
theorem lastTo_snoc (f : Nat → Int) (l : List Nat) (i : Nat) : lastTo f (l ++ [i]) = (bT f i : Int) := by simp [lastTo]
/-- The rounds: n bounds, r rounds left. -/
def relS (f : Nat → Int) (n : Nat) : Nat → Pt → Int → Pt × Int
  | 0, p, s => (p, s)
  | r + 1, p, _ => if lastTo f (ysOf f p n) < 0 then (p.ups f (ysOf f p n), lastTo f (ysOf f p n)) else relS f n r (p.ups f (ysOf f p n)) (lastTo f (ysOf f p n))

/-- No path allows more than B, on either side. -/
def Pt.Le (p : Pt) (B : Int) : Prop := ∀ i, -B ≤ p.mo i ∧ p.mo i ≤ B
theorem Pt.Le.mono {p : Pt} {B C : Int} (h : p.Le B) (hc : B ≤ C) : p.Le C := fun i => by have := h i; omega
theorem Pt.Le.up {p : Pt} {B : Int} (h : p.Le B) {E n : Nat} {f : Nat → Int} (hf : BOk E n f) {i : Nat} (hi : i < n) : (p.up f i).Le (B + 1073741824) := by
  intro j
  have h1 := hf.2 i hi
  have h2 := h (bF f i)
  have h3 := h j
  unfold Pt.up turn bM
  dsimp only
  split <;> omega
theorem Pt.Le.ups {E n : Nat} {f : Nat → Int} (hf : BOk E n f) : ∀ (l : List Nat) {p : Pt} {B : Int}, p.Le B → (∀ i, i ∈ l → i < n) → (p.ups f l).Le (B + l.length * 1073741824)
  | [], p, B, h, _ => by simpa [Pt.ups] using h
  | i :: l, p, B, h, hl => by
    have := Pt.Le.ups hf l (h.up hf (hl i (by simp))) (fun j hj => hl j (by simp [hj]))
    refine this.mono ?_
    simp only [List.length_cons]
    push_cast
    omega
theorem ysOf_lt (f : Nat → Int) (p : Pt) : ∀ (k : Nat) (i : Nat), i ∈ ysOf f p k → i < k
  | 0, i, h => by simp [ysOf] at h
  | k + 1, i, h => by
    simp only [ysOf] at h
    split at h
    · rw [List.mem_append] at h
      rcases h with h | h
      · have := ysOf_lt f p k i h; omega
      · simp at h; omega
    · have := ysOf_lt f p k i h; omega
theorem ysOf_length (f : Nat → Int) (p : Pt) : ∀ (k : Nat), (ysOf f p k).length ≤ k
  | 0 => by simp [ysOf]
  | k + 1 => by
    have := ysOf_length f p k
    simp only [ysOf]
    split
    · simp; omega
    · omega
theorem ysOf_le {E n : Nat} {f : Nat → Int} (hf : BOk E n f) {p : Pt} {B : Int} (h : p.Le B) (k : Nat) (hk : k ≤ n) : (p.ups f (ysOf f p k)).Le (B + n * 1073741824) :=
  (Pt.Le.ups hf _ h (fun i hi => by have := ysOf_lt f p k i hi; omega)).mono (by have := ysOf_length f p k; omega)

/-- The cells of paths. -/
def Pt.cells (p : Pt) : Array Value := ((List.range 64).map (fun i => Value.bool (p.kn i)) ++ ((List.range 64).map (fun i => Value.int .i64 (p.mo i)) ++ (List.range 64).map (fun i => Value.int .i64 (p.la i)))).toArray
theorem Pt.cells_size (p : Pt) : p.cells.size = 192 := by simp [Pt.cells]
theorem Pt.cells_kn (p : Pt) {k : Nat} (h : k < 64) : p.cells[k]? = some (.bool (p.kn k)) := by
  simp only [Pt.cells, List.getElem?_toArray]
  rw [List.getElem?_append_left (by simp; omega)]
  simp [h]
theorem Pt.cells_mo (p : Pt) {k : Nat} (h : k < 64) : p.cells[64 + k]? = some (.int .i64 (p.mo k)) := by
  simp only [Pt.cells, List.getElem?_toArray]
  rw [List.getElem?_append_right (by simp), List.getElem?_append_left (by simp; omega)]
  simp [h]
theorem Pt.cells_la (p : Pt) {k : Nat} (h : k < 64) : p.cells[128 + k]? = some (.int .i64 (p.la k)) := by
  simp only [Pt.cells, List.getElem?_toArray]
  rw [List.getElem?_append_right (by simp; omega), List.getElem?_append_right (by simp; omega)]
  simp only [List.length_map, List.length_range, List.getElem?_map]
  rw [show 128 + k - 64 - 64 = k by omega]
  simp [h]
theorem Pt.cells_one (p : Pt) : p.cells.all (·.oneCell') = true := by
  rw [Array.all_eq_true_iff_forall_mem]
  intro v hv
  simp only [Pt.cells, List.mem_toArray, List.mem_append, List.mem_map] at hv
  rcases hv with ⟨i, _, rfl⟩ | ⟨i, _, rfl⟩ | ⟨i, _, rfl⟩ <;> rfl
theorem Pt.cells_cases {k : Nat} (h : k < 192) : k < 64 ∨ (∃ j, j < 64 ∧ k = 64 + j) ∨ (∃ j, j < 64 ∧ k = 128 + j) := by
  by_cases h1 : k < 64
  · exact .inl h1
  · by_cases h2 : k < 128
    · exact .inr (.inl ⟨k - 64, by omega, by omega⟩)
    · exact .inr (.inr ⟨k - 128, by omega, by omega⟩)
theorem Pt.cells_ext {p : Pt} {a : Array Value} (hs : a.size = 192) (h1 : ∀ k, k < 64 → a[k]? = some (.bool (p.kn k))) (h2 : ∀ k, k < 64 → a[64 + k]? = some (.int .i64 (p.mo k))) (h3 : ∀ k, k < 64 → a[128 + k]? = some (.int .i64 (p.la k))) : a = p.cells := by
  apply Array.ext_getElem?
  intro i
  by_cases hi : i < 192
  · rcases Pt.cells_cases hi with h | ⟨j, h, rfl⟩ | ⟨j, h, rfl⟩
    · rw [h1 i h, p.cells_kn h]
    · rw [h2 j h, p.cells_mo h]
    · rw [h3 j h, p.cells_la h]
  · rw [Array.getElem?_eq_none (by omega), Array.getElem?_eq_none (by rw [p.cells_size]; omega)]

/-- Block b holds the paths p. -/
def PtAt (w : World) (b : Nat) (t : TypeId) (p : Pt) : Prop := w.heap[b]? = some (.cells p.cells t (0, 0))
theorem PtAt.lt {w : World} {b : Nat} {t : TypeId} {p : Pt} (h : PtAt w b t p) : b < w.heap.size := (Array.getElem?_eq_some_iff.1 h).1
theorem PtAt.kn {w : World} {b : Nat} {t : TypeId} {p : Pt} (h : PtAt w b t p) {k : Nat} (hk : k < 64) : w.cell? ⟨b, k, none⟩ = some (.bool (p.kn k)) := by
  simp only [World.cell?, show w.heap[b]? = _ from h]; exact p.cells_kn hk
theorem PtAt.mo {w : World} {b : Nat} {t : TypeId} {p : Pt} (h : PtAt w b t p) {k : Nat} (hk : k < 64) : w.cell? ⟨b, 64 + k, none⟩ = some (.int .i64 (p.mo k)) := by
  simp only [World.cell?, show w.heap[b]? = _ from h]; exact p.cells_mo hk
theorem PtAt.la {w : World} {b : Nat} {t : TypeId} {p : Pt} (h : PtAt w b t p) {k : Nat} (hk : k < 64) : w.cell? ⟨b, 128 + k, none⟩ = some (.int .i64 (p.la k)) := by
  simp only [World.cell?, show w.heap[b]? = _ from h]; exact p.cells_la hk
theorem PtAt.keep {w w' : World} {b : Nat} {t : TypeId} {p : Pt} (h : PtAt w b t p) {B : Nat} (hb : Below B w w') (hB : b < B) : PtAt w' b t p := (hb.block _ hB).trans h
end Go.Proofs.YtmdniebedflpbaaDoor
