/-
  WALKS: the errors of ranges and of bounds, in the program and in the reference (what the statements without sources of bounds need of the texts PnA, PnC, PnD, PqB).
-/
import Derived.Test.YtmdniebedflpbaaDoorPlB
namespace Go.Proofs.YtmdniebedflpbaaDoor
open Go.RowKit

/-- The error of a range with ends from a to b. -/
def rgErr (lo hi a b : Int) : Int := if lo < a ∨ b < lo ∨ hi < a ∨ b < hi then 1 else if hi < lo then 7 else 0
theorem rg_ways (lo hi a b : Int) : ((lo < a ∨ (a ≤ lo ∧ b < lo) ∨ (a ≤ lo ∧ lo ≤ b ∧ hi < a) ∨ (a ≤ lo ∧ lo ≤ b ∧ a ≤ hi ∧ b < hi)) ∧ rgErr lo hi a b = 1) ∨ ((a ≤ lo ∧ lo ≤ b ∧ a ≤ hi ∧ hi ≤ b ∧ hi < lo) ∧ rgErr lo hi a b = 7) ∨ ((a ≤ lo ∧ lo ≤ b ∧ a ≤ hi ∧ hi ≤ b ∧ lo ≤ hi) ∧ rgErr lo hi a b = 0) := by
  unfold rgErr
  by_cases h : lo < a ∨ b < lo ∨ hi < a ∨ b < hi
  · rw [if_pos h]; exact .inl ⟨by omega, rfl⟩
  · rw [if_neg h]
    by_cases h2 : hi < lo
    · rw [if_pos h2]; exact .inr (.inl ⟨by omega, rfl⟩)
    · rw [if_neg h2]; exact .inr (.inr ⟨by omega, rfl⟩)
set_option maxRecDepth 100000 in
set_option maxHeartbeats 4000000 in
theorem checkRange_of (w : World) (lo hi a b : Int) :
    Calls Tryd.prog 22 #[.agg #[.int .i64 lo, .int .i64 hi], .int .i64 a, .int .i64 b] w fun e w' => e = .returned (.int .i64 (rgErr lo hi a b)) ∧ w' = w.alloc (.cells #[.int .i64 lo, .int .i64 hi] 38) := by
  rcases rg_ways lo hi a b with ⟨h, he⟩ | ⟨h, he⟩ | ⟨h, he⟩
  · rw [he]
    clear he
    rcases h with h | ⟨h1, h2⟩ | ⟨h1, h2, h3⟩ | ⟨h1, h2, h3, h4⟩
    all_goals
      go_enter Tryd.func22, Tryd.ntmps22
      go_wp2
      go_ret
      exact ⟨rfl, rfl⟩
  · rw [he]
    clear he
    obtain ⟨h1, h2, h3, h4, h5⟩ := h
    go_enter Tryd.func22, Tryd.ntmps22
    go_wp2
    go_ret
    exact ⟨rfl, rfl⟩
  · rw [he]
    clear he
    obtain ⟨h1, h2, h3, h4, h5⟩ := h
    go_enter Tryd.func22, Tryd.ntmps22
    go_wp2
    go_ret
    exact ⟨rfl, rfl⟩

def isPl (x : Int) : Bool := decide (-1073741824 ≤ x ∧ x ≤ 1073741824)
theorem plc_any (w : World) (x : Int) : Calls Tryd.prog 20 #[.int .i64 x] w fun e w' => e = .returned (.bool (isPl x)) ∧ w' = w := plc_of _ w x rfl

end Go.Proofs.YtmdniebedflpbaaDoor
