/-
  WALKS: Fits (PqF's text, for a seat without the rows of PqE); Clash, where nothing clashes.
-/
import Derived.Test.YtmdniebedflpbaaDoorPxE
import Derived.Test.YtmdniebedflpbaaDoorPrA
namespace Go.Proofs.YtmdniebedflpbaaDoor
open Go.RowKit

def fpAt (g : Nat → Int) (i : Nat) : Int := if isPl (g i) = true then 0 else 1
/-- One behind the number of a bound that does not hold; 0 if it holds. -/
def fvAt (f g : Nat → Int) (i : Nat) : Int := if f (i * 3 + 2) < g (f (i * 3 + 1)).toNat - g (f (i * 3)).toNat then (i : Int) + 1 else 0
/-- What Fits tells. -/
def fitR (E : Int) (n : Nat) (f : Nat → Int) (m : Nat) (g : Nat → Int) : Int × Int :=
  if bchk E n f ≠ 0 then (0, bchk E n f) else if (m : Int) ≠ E then (0, 4) else if first (fpAt g) m ≠ 0 then (0, 1) else (first (fvAt f g) n - 1, 0)
def ft2 (r : Int × Int) : Value := .tuple #[.int .i64 r.1, .int .i64 r.2]

/-- Fits of places that keep their bounds. -/
theorem fits_true {N n : Nat} {pl F : Nat → Int} (h : TrueB N pl n F) (h1 : 1 ≤ N ∧ N ≤ 64) (hn : n ≤ 256) (hp : ∀ i, i < N → 0 ≤ pl i ∧ pl i ≤ 589815) : fitR N n F N pl = (-1, 0) := by
  unfold fitR
  rw [if_neg (by simpa using bchk_of (h.bok h1 hn)), if_neg (by simp), first_zero (fun i hi => ?_), if_neg (by simp), first_zero (fun i hi => ?_)]
  · rfl
  · unfold fvAt
    have := (h i hi).2.2.2
    rw [if_neg (by omega)]
  · unfold fpAt isPl
    have := hp i hi
    rw [if_pos (by rw [decide_eq_true_iff]; omega)]
end Go.Proofs.YtmdniebedflpbaaDoor
