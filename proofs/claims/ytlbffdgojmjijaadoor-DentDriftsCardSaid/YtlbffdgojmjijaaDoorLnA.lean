/-
  WORDS: the lines of a pipeline as flat rows of ints, and their errors.
-/
import Derived.Test.YtlbffdgojmjijaaDoorProg
import Derived.WalkKit
import Derived.WalkSpells
import Derived.WalkLawsBesides
import Derived.BigQuiet
import Derived.Deep.QuietTactic
import Derived.Lib.Hide
import Derived.LoopN
namespace Go.Proofs.YtlbffdgojmjijaaDoor.Ln
open Go.RowKit

/-- The cells from o on in block b hold the ints f 0 .. f (n - 1). -/
def Ints (w : World) (b o n : Nat) (f : Nat → Int) : Prop := ∀ i, i < n → w.cell? ⟨b, o + i, none⟩ = some (.int .i64 (f i))
theorem Ints.keep {w w' : World} {b o n : Nat} {f : Nat → Int} (h : Ints w b o n f) {B : Nat} (hb : Below B w w') (hB : b < B) : Ints w' b o n f :=
  fun i hi => (hb.cell (p := ⟨b, o + i, none⟩) hB).trans (h i hi)
theorem Ints.lt {w : World} {b o n : Nat} {f : Nat → Int} (h : Ints w b o n f) (hn : 0 < n) : b < w.heap.size :=
  World.block_lt_of_cell? w _ (h 0 hn)

theorem Ints.at {w : World} {b o n : Nat} {f : Nat → Int} (h : Ints w b o n f) (i j : Nat) (hi : i + j < n) : w.cell? ⟨b, o + i + j, none⟩ = some (.int .i64 (f (i + j))) := by
  rw [Nat.add_assoc]; exact h _ hi

/-- A slice of n elements of s ints each, at the address a. -/
def Sl (w : World) (s : Nat) (a : Option Addr) (n : Nat) (f : Nat → Int) : Prop :=
  0 < n → ∃ b o, a = some ⟨b, o, none⟩ ∧ Ints w b o (n * s) f
theorem Sl.keep {w w' : World} {s : Nat} {a : Option Addr} {n : Nat} {f : Nat → Int} (hs : 0 < s) (h : Sl w s a n f) (hb : Below w.heap.size w w') : Sl w' s a n f := by
  intro hn
  obtain ⟨b, o, e, hi⟩ := h hn
  exact ⟨b, o, e, hi.keep hb (hi.lt (Nat.mul_pos hn hs))⟩

/-- The first g i that is not 0, of the first n. -/
def first (g : Nat → Int) : Nat → Int
  | 0 => 0
  | n + 1 => if first g n = 0 then g n else first g n
theorem first_zero {g : Nat → Int} : ∀ {n : Nat}, (∀ i, i < n → g i = 0) → first g n = 0
  | 0, _ => rfl
  | n + 1, h => by simp only [first]; rw [if_pos (first_zero fun i hi => h i (by omega))]; exact h n (by omega)
theorem first_at {g : Nat → Int} {k : Nat} (h : ∀ i, i < k → g i = 0) (hk : g k ≠ 0) : ∀ {n : Nat}, k < n → first g n = g k
  | 0, h0 => by omega
  | n + 1, h0 => by
    by_cases e : k = n
    · subst e; simp only [first]; rw [if_pos (first_zero h)]
    · simp only [first]; rw [first_at h hk (n := n) (by omega), if_neg hk]
theorem first_all {g : Nat → Int} : ∀ {n : Nat}, first g n = 0 → ∀ i, i < n → g i = 0
  | 0, _, i, hi => by omega
  | n + 1, h, i, hi => by
    simp only [first] at h
    by_cases e : first g n = 0
    · rw [if_pos e] at h
      by_cases e2 : i = n
      · subst e2; exact h
      · exact first_all e i (by omega)
    · rw [if_neg e] at h; exact absurd h e

/-- The error of an item. -/
def itErr (K L O W G S R : Int) : Int :=
  if K < 0 ∨ 2 < K ∨ L < 1 ∨ 16777216 < L ∨ O < 1 ∨ 2097152 < O ∨ W < 1 ∨ 131072 < W then 1
  else if G < 0 ∨ 7 < G then 20
  else if S < 0 ∨ 359 < S ∨ (K ≠ 1 ∧ R ≠ 0) ∨ (K = 1 ∧ (R < 1 ∨ 67108864 < R)) then 1
  else if O - 2 * W < 1 ∨ (K = 1 ∧ 2 * R ≤ O) then 7 else 0
def itAt (f : Nat → Int) (i : Nat) : Int := itErr (f (i * 7)) (f (i * 7 + 1)) (f (i * 7 + 2)) (f (i * 7 + 3)) (f (i * 7 + 4)) (f (i * 7 + 5)) (f (i * 7 + 6))

/-- The sum of the lengths. -/
def endS (f : Nat → Int) : Nat → Int
  | 0 => 0
  | n + 1 => endS f n + f (n * 7 + 1)
theorem itErr_ok {K L O W G S R : Int} (h : itErr K L O W G S R = 0) :
    (0 ≤ K ∧ K ≤ 2) ∧ (1 ≤ L ∧ L ≤ 16777216) ∧ (1 ≤ O ∧ O ≤ 2097152) ∧ (1 ≤ W ∧ W ≤ 131072) ∧ (0 ≤ G ∧ G ≤ 7) ∧ (0 ≤ S ∧ S ≤ 359) ∧ 0 ≤ R ∧ R ≤ 67108864 ∧ 1 ≤ O - 2 * W ∧ (K = 1 → O < 2 * R) := by
  unfold itErr at h
  split at h
  · omega
  · split at h
    · omega
    · split at h
      · omega
      · split at h
        · omega
        · rename_i h1 h2 h3 h4
          refine ⟨?_, ?_, ?_, ?_, ?_, ?_, ?_⟩ <;> omega
theorem endS_le {f : Nat → Int} : ∀ {n : Nat}, (∀ i, i < n → itAt f i = 0) → 0 ≤ endS f n ∧ endS f n ≤ n * 16777216
  | 0, _ => by simp [endS]
  | n + 1, h => by
    have h1 := endS_le (n := n) fun i hi => h i (by omega)
    have h2 := (itErr_ok (h n (by omega))).2.1
    simp only [endS]
    push_cast
    omega

/-- The error of a zone; e: the line's end, beh: the end of the zone ahead. -/
def znErr (e beh F T C : Int) : Int := if F < 0 ∨ e < T ∨ C < 1 ∨ 4 < C then 1 else if T ≤ F ∨ F < beh then 7 else 0
def znAt (f : Nat → Int) (e : Int) (i : Nat) : Int := znErr e (if i = 0 then 0 else f ((i - 1) * 3 + 1)) (f (i * 3)) (f (i * 3 + 1)) (f (i * 3 + 2))
/-- The error of a limit. -/
def lmErr (e ah F M : Int) : Int := if F < 0 ∨ e - 1 < F ∨ M < 0 ∨ 1048576 < M then 1 else if F ≤ ah then 7 else 0
def lmAt (f : Nat → Int) (e : Int) (i : Nat) : Int := lmErr e (if i = 0 then -1 else f ((i - 1) * 2)) (f (i * 2)) (f (i * 2 + 1))

/-- The error of a line. -/
def chk (n nz nl : Nat) (f z m : Nat → Int) : Int :=
  if n < 1 ∨ 64 < n ∨ 64 < nz ∨ 64 < nl then 4
  else if first (itAt f) n ≠ 0 then first (itAt f) n
  else if first (znAt z (endS f n)) nz ≠ 0 then first (znAt z (endS f n)) nz
  else first (lmAt m (endS f n)) nl

/-- Whether a tool passes an item. -/
def psV (K L O W R S T N Q : Int) : Bool :=
  if O - 2 * W < T ∨ O - 2 * W < N then false
  else if K = 2 then decide (1000 * L < Q)
  else if K = 1 then decide ((2 * R - (O - 2 * W) + 2 * T) * (2 * R - (O - 2 * W) + 2 * T) + S * S ≤ (2 * R + (O - 2 * W)) * (2 * R + (O - 2 * W)))
  else true
def psAt (f : Nat → Int) (S T N Q : Int) (i : Nat) : Bool := psV (f (i * 7)) (f (i * 7 + 1)) (f (i * 7 + 2)) (f (i * 7 + 3)) (f (i * 7 + 6)) S T N Q
/-- The first of n indices for which p is false, or -1. -/
def firstNot (p : Nat → Bool) (n : Nat) : Int := match (List.range n).find? (fun i => !p i) with | some i => (i : Int) | none => -1
end Go.Proofs.YtlbffdgojmjijaaDoor.Ln
