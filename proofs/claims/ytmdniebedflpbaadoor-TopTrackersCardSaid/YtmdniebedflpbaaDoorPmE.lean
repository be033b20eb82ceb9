/-
  WALKS: the errors of an alignment's problem; what makes the functions over the steps.
-/
import Derived.Test.YtmdniebedflpbaaDoorPmD
namespace Go.Proofs.YtmdniebedflpbaaDoor
open Go.RowKit

/-- The error of a place in a list, and of a list. -/
def plErr (R : Int) (g : Nat → Int) (i : Nat) : Int := if g i < 0 ∨ 1073741824 < g i then 1 else if 0 < i ∧ g i - g (i - 1) < R then 7 else 0
def plChk (R : Int) (n : Nat) (g : Nat → Int) : Int := if 40 < n then 4 else first (plErr R g) n
theorem plc_ok {R : Int} {n : Nat} {g : Nat → Int} (h : plChk R n g = 0) : n ≤ 40 ∧ Plc n g := by
  unfold plChk at h
  split at h
  · omega
  · refine ⟨by omega, fun i hi => ?_⟩
    have := first_all h i hi
    unfold plErr at this
    split at this
    · omega
    · omega

/-- The error of an alignment's problem. -/
def cErr (x : Int) : Int := if x < 0 ∨ 1048576 < x then 1 else 0
def pbChk (n m : Nat) (g h : Nat → Int) (L F M : Int) : Int := if plChk 1 n g ≠ 0 then plChk 1 n g else if plChk 0 m h ≠ 0 then plChk 0 m h else if cErr L ≠ 0 ∨ cErr F ≠ 0 ∨ cErr M ≠ 0 then 1 else 0
/-- A problem without an error. -/
structure PbOk (n m : Nat) (g h : Nat → Int) (L F M : Int) : Prop where
  n40 : n ≤ 40
  m40 : m ≤ 40
  pg : Plc n g
  ph : Plc m h
  l : 0 ≤ L ∧ L ≤ 1048576
  f : 0 ≤ F ∧ F ≤ 1048576
  m : 0 ≤ M ∧ M ≤ 1048576
theorem pb_ok {n m : Nat} {g h : Nat → Int} {L F M : Int} (hk : pbChk n m g h L F M = 0) : PbOk n m g h L F M ∧ plChk 1 n g = 0 ∧ plChk 0 m h = 0 := by
  unfold pbChk at hk
  by_cases h1 : plChk 1 n g = 0
  · rw [if_neg (by simpa using h1)] at hk
    by_cases h2 : plChk 0 m h = 0
    · rw [if_neg (by simpa using h2)] at hk
      split at hk
      · omega
      · rename_i h3
        unfold cErr at h3
        have a := plc_ok h1
        have b := plc_ok h2
        refine ⟨⟨a.1, b.1, a.2, b.2, ?_, ?_, ?_⟩, h1, h2⟩ <;> omega
    · rw [if_pos (by simpa using h2)] at hk; omega
  · rw [if_pos (by simpa using h1)] at hk; omega

end Go.Proofs.YtmdniebedflpbaaDoor
