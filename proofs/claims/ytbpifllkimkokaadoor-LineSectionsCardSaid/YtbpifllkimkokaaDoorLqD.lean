/-
  WORDS: sections; WALKS: alike.
-/
import Derived.Test.YtbpifllkimkokaaDoorLqB
import Derived.Test.YtbpifllkimkokaaDoorLqC
import Derived.Test.YtbpifllkimkokaaDoorLoG
namespace Go.Proofs.YtbpifllkimkokaaDoor
open Go.RowKit

/-- A section. -/
structure Sec where
  fr : Int
  en : Int
  it : Int
  cl : Int
  mo : Int
/-- The same section, up to t. -/
def Sec.upTo (s : Sec) (t : Int) : Sec := { s with en := t }
def Sec.cells (s : Sec) : List Value := [.int .i64 s.fr, .int .i64 s.en, .int .i64 s.it, .int .i64 s.cl, .int .i64 s.mo]
def Sec.val (s : Sec) : Value := .agg #[.int .i64 s.fr, .int .i64 s.en, .int .i64 s.it, .int .i64 s.cl, .int .i64 s.mo]
/-- Whether nothing changes. -/
def alk (a b : Sec) : Bool := decide (a.it = b.it ∧ a.cl = b.cl ∧ a.mo = b.mo)
def secCells (S : List Sec) : List Value := S.flatMap Sec.cells
theorem secCells_length (S : List Sec) : (secCells S).length = S.length * 5 := by
  induction S with
  | nil => rfl
  | cons s S ih => simp only [secCells, List.flatMap_cons, List.length_append] at *; rw [ih]; simp [Sec.cells]; omega
theorem secCells_snoc (S : List Sec) (s : Sec) : secCells (S ++ [s]) = secCells S ++ s.cells := by simp [secCells]
theorem secCells_at (S : List Sec) (i : Nat) (hi : i < S.length) (j : Nat) (hj : j < 5) : (secCells S)[i * 5 + j]? = (S[i]'hi).cells[j]? := by
  induction S generalizing i with
  | nil => cases hi
  | cons s S ih =>
    simp only [secCells, List.flatMap_cons]
    cases i with
    | zero => rw [List.getElem?_append_left (by simp [Sec.cells]; omega)]; simp
    | succ k =>
      rw [List.getElem?_append_right (by simp [Sec.cells]; omega)]
      have := ih k (by simpa using hi)
      simp only [secCells] at this
      simp only [List.getElem_cons_succ]
      rw [← this]
      congr 1
      simp [Sec.cells]; omega
theorem secCells_setTo (S : List Sec) (s : Sec) (t : Int) : (secCells (S ++ [s])).set (S.length * 5 + 1) (.int .i64 t) = secCells (S ++ [s.upTo t]) := by
  rw [secCells_snoc, secCells_snoc, List.set_append_right _ _ (by rw [secCells_length]; omega), secCells_length]
  rw [show S.length * 5 + 1 - S.length * 5 = 1 by omega]
  rfl
/-- A slice of sections of the call's own. -/
def RowS (w : World) (B : Nat) (v : Value) (S : List Sec) : Prop := w.ownsRow B 60 5 v S.length (secCells S)
theorem RowS.form {w : World} {B : Nat} {v : Value} {S : List Sec} (h : RowS w B v S) (hn : 0 < S.length) : ∃ g cap, v = .slice (some ⟨g, 0, none⟩) S.length cap := by
  obtain ⟨k, hk⟩ : ∃ k, S.length = k + 1 := ⟨S.length - 1, by omega⟩
  unfold RowS at h
  rw [hk] at h ⊢
  exact ownsRow_succ h
theorem RowS.nil (w : World) (B : Nat) : RowS w B (.slice none 0 0) [] := World.ownsRow_nil w B _ _
theorem RowS.cell {w : World} {B g cap : Nat} {S : List Sec} (h : RowS w B (.slice (some ⟨g, 0, none⟩) S.length cap) S) (i : Nat) (hi : i < S.length) (j : Nat) (hj : j < 5) : w.cell? ⟨g, i * 5 + j, none⟩ = (S[i]'hi).cells[j]? := by
  rw [World.ownsRow.cellAt h (i * 5 + j) (by omega), secCells_at S i hi j hj]
theorem RowS.below {w w' : World} {B : Nat} {v : Value} {S : List Sec} (h : RowS w B v S) (hb : Below w.heap.size w w') : RowS w' B v S := own_below h hb
theorem RowS.base {w : World} {B B' : Nat} {v : Value} {S : List Sec} (h : RowS w B v S) (hb : B' ≤ B) : RowS w B' v S := own_base h hb
theorem RowS.snoc {w : World} {B : Nat} {v : Value} {S : List Sec} {s : Sec} (h : w.ownsRow B 60 5 v (S.length + 1) (secCells S ++ s.cells)) : RowS w B v (S ++ [s]) := by
  unfold RowS
  rw [List.length_append, secCells_snoc]
  exact h
theorem RowS.setTo {w : World} {B g cap : Nat} {S : List Sec} {s : Sec} (h : RowS w B (.slice (some ⟨g, 0, none⟩) (S.length + 1) cap) (S ++ [s])) (t : Int) :
    RowS (w.setCell ⟨g, S.length * 5 + 1, none⟩ (.int .i64 t)) B (.slice (some ⟨g, 0, none⟩) (S.length + 1) cap) (S ++ [s.upTo t]) ∧ w.grownBy (w.setCell ⟨g, S.length * 5 + 1, none⟩ (.int .i64 t)) (some g) := by
  unfold RowS at h ⊢
  rw [List.length_append] at h ⊢
  have := World.ownsRow.stored h (S.length * 5 + 1) (.int .i64 t)
  rw [secCells_setTo] at this
  exact this

/-- The item that has a station. -/
def itemOf (f : Nat → Int) (n : Nat) (st : Int) : Nat := ((List.range n).find? fun i => decide (st < endS f (i + 1))).getD 0
theorem itemOf_eq {f : Nat → Int} {n i : Nat} {st : Int} (hl : n ≤ 70) (hv : ∀ i, i < n → itAt f i = 0) (hi : i < n) (h1 : endS f i ≤ st) (h2 : st < endS f (i + 1)) : itemOf f n st = i := by
  unfold itemOf
  have e : ((List.range n).find? fun i => decide (st < endS f (i + 1))) = some i := by
    rw [List.find?_range_eq_some]
    refine ⟨by simpa using h2, by simpa using hi, fun j hj => ?_⟩
    have := endS_mono hl hv (i := j + 1) (j := i) (by omega) (by omega)
    simp; omega
  rw [e]; rfl
/-- The section that begins at a station, up to an end. -/
def secAt (f z m : Nat → Int) (n nz nl : Nat) (st e : Int) : Sec := ⟨st, e, itemOf f n st, clsAt z nz st, lmtAt m st nl⟩
/-- One station more. -/
def pstep (f z m : Nat → Int) (n nz nl : Nat) (E : Int) (S : List Sec) (st : Int) : List Sec :=
  match S.getLast? with
  | none => [secAt f z m n nz nl st E]
  | some s => if alk s (secAt f z m n nz nl st E) = true then S else S.dropLast ++ [s.upTo st] ++ [secAt f z m n nz nl st E]
theorem pstep_nil (f z m : Nat → Int) (n nz nl : Nat) (E st : Int) : pstep f z m n nz nl E [] st = [secAt f z m n nz nl st E] := rfl
theorem pstep_same {f z m : Nat → Int} {n nz nl : Nat} {E st : Int} {S : List Sec} {s : Sec} (h : alk s (secAt f z m n nz nl st E) = true) : pstep f z m n nz nl E (S ++ [s]) st = S ++ [s] := by simp [pstep, h]
theorem pstep_new {f z m : Nat → Int} {n nz nl : Nat} {E st : Int} {S : List Sec} {s : Sec} (h : alk s (secAt f z m n nz nl st E) = false) : pstep f z m n nz nl E (S ++ [s]) st = S ++ [s.upTo st] ++ [secAt f z m n nz nl st E] := by simp [pstep, h]
/-- All sections. -/
def secsOf (f z m : Nat → Int) (n nz nl : Nat) : List Sec := (ascOf (allBs f z m n nz nl)).foldl (pstep f z m n nz nl (endS f n)) []

set_option maxRecDepth 8000 in
set_option maxHeartbeats 1600000 in
theorem alike_of (w : World) (a b : Sec) : Calls Tryd.prog 101 #[a.val, b.val] w fun e w' => e = .returned (.bool (alk a b)) ∧ Below w.heap.size w w' := by
  obtain ⟨a0, a1, a2, a3, a4⟩ := a
  obtain ⟨b0, b1, b2, b3, b4⟩ := b
  unfold Sec.val alk
  dsimp only
  have hcase : (a2 ≠ b2 ∧ decide (a2 = b2 ∧ a3 = b3 ∧ a4 = b4) = false) ∨ (a2 = b2 ∧ a3 ≠ b3 ∧ decide (a2 = b2 ∧ a3 = b3 ∧ a4 = b4) = false) ∨ (a2 = b2 ∧ a3 = b3 ∧ a4 ≠ b4 ∧ decide (a2 = b2 ∧ a3 = b3 ∧ a4 = b4) = false) ∨ (a2 = b2 ∧ a3 = b3 ∧ a4 = b4 ∧ decide (a2 = b2 ∧ a3 = b3 ∧ a4 = b4) = true) := by
    by_cases h2 : a2 = b2
    · by_cases h3 : a3 = b3
      · by_cases h4 : a4 = b4
        · exact .inr (.inr (.inr ⟨h2, h3, h4, by simp [h2, h3, h4]⟩))
        · exact .inr (.inr (.inl ⟨h2, h3, h4, by simp [h4]⟩))
      · exact .inr (.inl ⟨h2, h3, by simp [h3]⟩)
    · exact .inl ⟨h2, by simp [h2]⟩
  generalize decide (a2 = b2 ∧ a3 = b3 ∧ a4 = b4) = B at hcase ⊢
  rcases hcase with ⟨h2, rfl⟩ | ⟨rfl, h3, rfl⟩ | ⟨rfl, rfl, h4, rfl⟩ | ⟨rfl, rfl, rfl, rfl⟩
  · have q : (a2 == b2) = false := by simpa using h2
    clear h2
    go_enter Tryd.func101, Tryd.ntmps101
    go_wp2
    go_ret
    exact ⟨rfl, ((Below.refl _ _).alloc (Nat.le_refl _) _).alloc (by simp) _⟩
  · have q : (a3 == b3) = false := by simpa using h3
    clear h3
    go_enter Tryd.func101, Tryd.ntmps101
    go_wp2
    go_ret
    exact ⟨rfl, ((Below.refl _ _).alloc (Nat.le_refl _) _).alloc (by simp) _⟩
  · have q : (a4 == b4) = false := by simpa using h4
    clear h4
    go_enter Tryd.func101, Tryd.ntmps101
    go_wp2
    go_ret
    exact ⟨rfl, ((Below.refl _ _).alloc (Nat.le_refl _) _).alloc (by simp) _⟩
  · go_enter Tryd.func101, Tryd.ntmps101
    go_wp2
    go_ret
    exact ⟨rfl, ((Below.refl _ _).alloc (Nat.le_refl _) _).alloc (by simp) _⟩
end Go.Proofs.YtbpifllkimkokaaDoor
