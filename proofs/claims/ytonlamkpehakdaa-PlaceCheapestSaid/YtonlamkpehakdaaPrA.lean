/-
  WALKS: the errors of ranges and of bounds, in the program and in the reference (what the statements without sources of bounds need of the texts PnA, PnC, PnD, PqB).
-/
import Derived.Test.YtonlamkpehakdaaPlB
namespace Go.Proofs.Ytonlamkpehakdaa
open Go.RowKit

/-- The error of a range with ends from a to b. -/
def rgErr (lo hi a b : Int) : Int := if lo < a ∨ b < lo ∨ hi < a ∨ b < hi then 1 else if hi < lo then 7 else 0
theorem rg_ways (lo hi a b : Int) : ((lo < a ∨ (a ≤ lo ∧ b < lo) ∨ (a ≤ lo ∧ lo ≤ b ∧ hi < a) ∨ (a ≤ lo ∧ lo ≤ b ∧ a ≤ hi ∧ b < hi)) ∧ rgErr lo hi a b = 1) ∨ ((a ≤ lo ∧ lo ≤ b ∧ a ≤ hi ∧ hi ≤ b ∧ hi < lo) ∧ rgErr lo hi a b = 7) ∨ ((a ≤ lo ∧ lo ≤ b ∧ a ≤ hi ∧ hi ≤ b ∧ lo ≤ hi) ∧ rgErr lo hi a b = 0) := by
  unfold rgErr
  by_cases h : lo < a ∨ b < lo ∨ hi < a ∨ b < hi
  · rw [if_pos h]; exact .inl ⟨by omega, rfl⟩
  · rw [if_neg h]
    by_cases h2 : hi < lo
    · rw [if_pos h2]; exact .inr (.inl ⟨by omega, rfl⟩)
    · rw [if_neg h2]; exact .inr (.inr ⟨by omega, rfl⟩)
set_option maxRecDepth 100000 in
set_option maxHeartbeats 4000000 in
theorem checkRange_of (w : World) (lo hi a b : Int) :
    Calls Try.prog 53 #[.agg #[.int .i64 lo, .int .i64 hi], .int .i64 a, .int .i64 b] w fun e w' => e = .returned (.int .i64 (rgErr lo hi a b)) ∧ w' = w.alloc (.cells #[.int .i64 lo, .int .i64 hi] 25) := by
  rcases rg_ways lo hi a b with ⟨h, he⟩ | ⟨h, he⟩ | ⟨h, he⟩
  · rw [he]
    clear he
    rcases h with h | ⟨h1, h2⟩ | ⟨h1, h2, h3⟩ | ⟨h1, h2, h3, h4⟩
    all_goals
      go_enter Try.func53, Try.ntmps53
      go_wp2
      go_ret
      exact ⟨rfl, rfl⟩
  · rw [he]
    clear he
    obtain ⟨h1, h2, h3, h4, h5⟩ := h
    go_enter Try.func53, Try.ntmps53
    go_wp2
    go_ret
    exact ⟨rfl, rfl⟩
  · rw [he]
    clear he
    obtain ⟨h1, h2, h3, h4, h5⟩ := h
    go_enter Try.func53, Try.ntmps53
    go_wp2
    go_ret
    exact ⟨rfl, rfl⟩

def isPl (x : Int) : Bool := decide (-1073741824 ≤ x ∧ x ≤ 1073741824)
theorem plc_any (w : World) (x : Int) : Calls Try.prog 71 #[.int .i64 x] w fun e w' => e = .returned (.bool (isPl x)) ∧ w' = w := plc_of _ w x rfl

theorem wi_of (b : Bool) (w : World) (x a c : Int) (h : b = decide (a ≤ x ∧ x ≤ c)) :
    Calls Try.prog 50 #[.int .i64 x, .int .i64 a, .int .i64 c] w fun e w' => e = .returned (.bool b) ∧ w' = w := by
  go_enter Try.func50, Try.ntmps50
  by_cases h1 : a ≤ x
  · by_cases h2 : x ≤ c
    · obtain rfl : b = true := by rw [h, decide_eq_true_iff]; omega
      clear h
      go_wp2
      go_ret
      exact ⟨rfl, rfl⟩
    · obtain rfl : b = false := by rw [h, decide_eq_false_iff_not]; omega
      clear h
      go_wp2
      go_ret
      exact ⟨rfl, rfl⟩
  · obtain rfl : b = false := by rw [h, decide_eq_false_iff_not]; omega
    clear h
    go_wp2
    go_ret
    exact ⟨rfl, rfl⟩
theorem rpl_of (w : World) (x : Int) : Calls Try.prog 72 #[.int .i64 x] w fun e w' => e = .returned (.bool (isPl x)) ∧ w' = w := by
  go_enter Try.func72, Try.ntmps72
  go_wp2_with (go_at_call 50; refine (wi_of (isPl x) _ _ _ _ rfl).mono ?_; rintro e w' ⟨rfl, rfl⟩)
  go_ret
  exact ⟨rfl, rfl⟩
set_option maxRecDepth 100000 in
set_option maxHeartbeats 4000000 in
theorem wrong_of (w : World) (lo hi a b : Int) :
    Calls Try.prog 57 #[.agg #[.int .i64 lo, .int .i64 hi], .int .i64 a, .int .i64 b] w fun e w' => e = .returned (.int .i64 (rgErr lo hi a b)) ∧ w' = w.alloc (.cells #[.int .i64 lo, .int .i64 hi] 25) := by
  rcases rg_ways lo hi a b with ⟨h, he⟩ | ⟨h, he⟩ | ⟨h, he⟩
  · rw [he]
    clear he
    rcases h with h | ⟨h1, h2⟩ | ⟨h1, h2, h3⟩ | ⟨h1, h2, h3, h4⟩
    all_goals
      go_enter Try.func57, Try.ntmps57
      go_wp2_with (go_at_call 50; first | (refine (wi_of true _ _ _ _ (by symm; rw [decide_eq_true_iff]; omega)).mono ?_; rintro e w' ⟨rfl, rfl⟩) | (refine (wi_of false _ _ _ _ (by symm; rw [decide_eq_false_iff_not]; omega)).mono ?_; rintro e w' ⟨rfl, rfl⟩))
      go_ret
      exact ⟨rfl, rfl⟩
  · rw [he]
    clear he
    obtain ⟨h1, h2, h3, h4, h5⟩ := h
    go_enter Try.func57, Try.ntmps57
    go_wp2_with (go_at_call 50; refine (wi_of true _ _ _ _ (by symm; rw [decide_eq_true_iff]; omega)).mono ?_; rintro e w' ⟨rfl, rfl⟩)
    go_ret
    exact ⟨rfl, rfl⟩
  · rw [he]
    clear he
    obtain ⟨h1, h2, h3, h4, h5⟩ := h
    go_enter Try.func57, Try.ntmps57
    go_wp2_with (go_at_call 50; refine (wi_of true _ _ _ _ (by symm; rw [decide_eq_true_iff]; omega)).mono ?_; rintro e w' ⟨rfl, rfl⟩)
    go_ret
    exact ⟨rfl, rfl⟩

set_option maxRecDepth 100000 in
set_option maxHeartbeats 4000000 in
theorem rcheck_of (w : World) (E : Int) (a : Option Addr) (n c : Nat) (f : Nat → Int) (hn : n ≤ 9223372036854775807) (hS : Sl w 3 a n f) :
    Calls Try.prog 33 #[.int .i64 E, .slice a n c] w fun e' w' => e' = .returned (.int .i64 (bchk E n f)) ∧ w' = w := by
  have HS := Lib.hid hS
  clear hS
  by_cases h1 : E < 1 ∨ 64 < E
  · have hE : bchk E n f = 4 := by unfold bchk; rw [if_pos (by omega)]
    rw [hE]
    clear hE
    go_enter Try.func33, Try.ntmps33
    go_wp2_with (go_at_call 50; refine (wi_of false _ _ _ _ (by symm; rw [decide_eq_false_iff_not]; omega)).mono ?_; rintro e w9 ⟨rfl, hw9⟩; rw [hw9]; clear hw9 w9)
    go_ret
    exact ⟨rfl, rfl⟩
  have h1' : 1 ≤ E ∧ E ≤ 64 := by omega
  clear h1
  by_cases h3 : 256 < n
  · have hE : bchk E n f = 4 := by unfold bchk; rw [if_pos (by omega)]
    rw [hE]
    clear hE
    go_enter Try.func33, Try.ntmps33
    go_wp2_with (go_at_call 50; refine (wi_of true _ _ _ _ (by symm; rw [decide_eq_true_iff]; omega)).mono ?_; rintro e w9 ⟨rfl, hw9⟩; rw [hw9]; clear hw9 w9)
    go_ret
    exact ⟨rfl, rfl⟩
  have hE : bchk E n f = first (bdAt E f) n := by unfold bchk; rw [if_neg (by omega)]
  rw [hE]
  clear hE
  go_enter Try.func33, Try.ntmps33
  go_wp2_with (go_at_call 50; refine (wi_of true _ _ _ _ (by symm; rw [decide_eq_true_iff]; omega)).mono ?_; rintro e w9 ⟨rfl, hw9⟩; rw [hw9]; clear hw9 w9)
  go_loopw [5] (fun vi wr => ∃ i : Nat, i ≤ n ∧ vi = .int .i64 i ∧ Hid (∀ j, j < i → bdAt E f j = 0) ∧ Hid (wr = w)) (fun vi _ => n - (intOf vi).toNat)
  case atStart => exact ⟨0, by omega, rfl, fun j hj => by omega, rfl⟩
  case round =>
    obtain ⟨i, hi, rfl, HI, HB⟩ := hrel
    by_cases hlt : i < n
    · obtain ⟨b, o, rfl, hI⟩ := HS.out (by omega)
      have hI2 : Ints wr b o (n * 3) f := by rw [HB.out]; exact hI
      have d0 := hI2 (i * 3) (by omega)
      have d1 := hI2.at (i * 3) 1 (by omega)
      have d2 := hI2.at (i * 3) 2 (by omega)
      have HE : Hid (bdAt E f i = bdErr E (f (i * 3)) (f (i * 3 + 1)) (f (i * 3 + 2))) := rfl
      clear hI hI2
      generalize f (i * 3) = F at HE d0 ⊢
      generalize f (i * 3 + 1) = T at HE d1 ⊢
      generalize f (i * 3 + 2) = M at HE d2 ⊢
      obtain ⟨bp, hbp⟩ : ∃ b, isPl M = b := ⟨_, rfl⟩
      have HP := Lib.hid hbp
      have HW : (F < 0 ∧ bdErr E F T M = 1) ∨ (0 ≤ F ∧ E ≤ F ∧ bdErr E F T M = 1) ∨ (0 ≤ F ∧ F < E ∧ T < 0 ∧ bdErr E F T M = 1) ∨ (0 ≤ F ∧ F < E ∧ 0 ≤ T ∧ E ≤ T ∧ bdErr E F T M = 1) ∨ (0 ≤ F ∧ F < E ∧ 0 ≤ T ∧ T < E ∧ bp = false ∧ bdErr E F T M = 1) ∨ (0 ≤ F ∧ F < E ∧ 0 ≤ T ∧ T < E ∧ bp = true ∧ bdErr E F T M = 0) := by
        rcases bd_ways (decide (0 ≤ F ∧ F < E)) (decide (0 ≤ T ∧ T < E)) bp E F T M rfl rfl hbp.symm with ⟨g1, g⟩ | ⟨g1, g2, g⟩ | ⟨g1, g2, g3, g⟩ | ⟨g1, g2, g3, g⟩
        · simp only [decide_eq_false_iff_not] at g1; omega
        · simp only [decide_eq_false_iff_not, decide_eq_true_iff] at g1 g2; omega
        · simp only [decide_eq_true_iff] at g1 g2; exact .inr (.inr (.inr (.inr (.inl ⟨by omega, by omega, by omega, by omega, g3, g⟩))))
        · simp only [decide_eq_true_iff] at g1 g2; exact .inr (.inr (.inr (.inr (.inr ⟨by omega, by omega, by omega, by omega, g3, g⟩))))
      clear hbp
      generalize bdErr E F T M = R at HW HE
      have HF : Hid (R ≠ 0 → first (bdAt E f) n = R) := fun hne => by rw [← HE.out]; exact first_at HI.out (by rw [HE.out]; exact hne) hlt
      rcases HW with ⟨g1, rfl⟩ | ⟨g1, g2, rfl⟩ | ⟨g1, g2, g3, rfl⟩ | ⟨g1, g2, g3, g4, rfl⟩ | ⟨g1, g2, g3, g4, rfl, rfl⟩ | ⟨g1, g2, g3, g4, rfl, rfl⟩
      all_goals
        go_wp2_with (go_at_call 72; refine (rpl_of _ _).mono ?_; rintro e w9 ⟨rfl, hw9⟩; rw [hw9]; clear hw9 w9; rw [HP.out])
      all_goals first
        | (go_ret; exact ⟨by rw [HF.out (by decide)]; rfl, HB.out⟩)
        | (exact ⟨⟨i + 1, by omega, by go_num, (fun j hj => by
            by_cases ej : j = i
            · subst ej; exact HE.out
            · exact HI.out j (by omega)), HB.out⟩, by simp [intOf]; omega⟩)
    · obtain rfl : i = n := by omega
      go_wp2
      go_ret
      exact ⟨by rw [first_zero HI.out]; rfl, HB.out⟩
end Go.Proofs.Ytonlamkpehakdaa
