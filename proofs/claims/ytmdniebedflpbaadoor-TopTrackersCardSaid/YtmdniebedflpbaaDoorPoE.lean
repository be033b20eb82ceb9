/-
  WALKS: the comparison of bounds; Forward in one form.
-/
import Derived.Test.YtmdniebedflpbaaDoorPoD
namespace Go.Proofs.YtmdniebedflpbaaDoor
open Go.RowKit

/-- The error and the count of Forward. -/
def fwE (n : Int) : Int := if n < 1 ∨ 64 < n then 4 else 0
def fwN (n : Int) : Nat := if n < 1 ∨ 64 < n then 0 else (n - 1).toNat
def FwEnd (n : Int) (w : World) (e : Ending) (W : World) : Prop := ∃ x c, e = .returned (.tuple #[.slice x (fwN n) c, .int .i64 (fwE n)]) ∧ Sl W 3 x (fwN n) fwF ∧ Below w.heap.size w W
theorem fwN_le (n : Int) : fwN n ≤ 63 := by unfold fwN; split <;> omega
theorem forward_of (w : World) (n : Int) : Calls Tryd.prog 7 #[.int .i64 n] w (FwEnd n w) := by
  by_cases h : n < 1 ∨ 64 < n
  · refine (forward_bad w n h).mono ?_
    rintro e w' ⟨rfl, rfl⟩
    refine ⟨none, 0, ?_, ?_, Below.refl _ _⟩
    · unfold fwN fwE; rw [if_pos h, if_pos h]
    · unfold fwN; rw [if_pos h]; exact fun h => absurd h (by decide)
  · obtain ⟨m, rfl⟩ : ∃ m : Nat, n = (m : Int) + 1 := ⟨(n - 1).toNat, by omega⟩
    have hN : fwN ((m : Int) + 1) = m := by unfold fwN; rw [if_neg h]; omega
    have hE : fwE ((m : Int) + 1) = 0 := by unfold fwE; rw [if_neg h]
    refine (forward_ok w m (by omega)).mono ?_
    rintro e w' ⟨rfl, hI, hb⟩
    refine ⟨some ⟨w.heap.size, 0, none⟩, m, by rw [hN, hE], ?_, hb⟩
    rw [hN]
    exact fun _ => ⟨w.heap.size, 0, rfl, hI⟩
end Go.Proofs.YtmdniebedflpbaaDoor
