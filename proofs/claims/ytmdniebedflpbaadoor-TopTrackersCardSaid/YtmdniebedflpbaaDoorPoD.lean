/-
  WALKS: Between, of the program and of the reference; the comparison of bounds.
-/
import Derived.Test.YtmdniebedflpbaaDoorPoC
namespace Go.Proofs.YtmdniebedflpbaaDoor
open Go.RowKit

/-- The error of Between. -/
def btE (a b lo hi : Int) : Int := if (0 ≤ a ∧ a < 64) ∧ 0 ≤ b ∧ b < 64 then rgErr lo hi (-1073741824) 1073741824 else 1
def btL (a b lo hi : Int) : List Int := [a, b, hi, b, a, -lo]
def btF (a b lo hi : Int) (i : Nat) : Int := (btL a b lo hi).getD i 0
def btN (a b lo hi : Int) : Nat := if btE a b lo hi = 0 then 2 else 0
/-- Two bounds, or an error. -/
def BtEnd (a b lo hi : Int) (w : World) (e : Ending) (W : World) : Prop := ∃ x c, e = .returned (.tuple #[.slice x (btN a b lo hi) c, .int .i64 (btE a b lo hi)]) ∧ Sl W 3 x (btN a b lo hi) (btF a b lo hi) ∧ Below w.heap.size w W
theorem BtEnd.bad {a b lo hi : Int} {w W : World} (h : btE a b lo hi ≠ 0) (hb : Below w.heap.size w W) : BtEnd a b lo hi w (.returned (.tuple #[.slice none 0 0, .int .i64 (btE a b lo hi)])) W := by
  have hN : btN a b lo hi = 0 := by unfold btN; rw [if_neg h]
  refine ⟨none, 0, by rw [hN], ?_, hb⟩
  rw [hN]
  exact fun h => absurd h (by decide)
theorem BtEnd.ok {a b lo hi : Int} {w W : World} {B : Nat} {t : TypeId} (h : btE a b lo hi = 0) (hb : Below w.heap.size w W) (hB : W.heap[B]? = some (.cells #[.int .i64 a, .int .i64 b, .int .i64 hi, .int .i64 b, .int .i64 a, .int .i64 (-lo)] t (0, 0))) :
    BtEnd a b lo hi w (.returned (.tuple #[.slice (some ⟨B, 0, none⟩) 2 2, .int .i64 0])) W := by
  have hN : btN a b lo hi = 2 := by unfold btN; rw [if_pos h]
  refine ⟨some ⟨B, 0, none⟩, 2, by rw [hN, h], ?_, hb⟩
  rw [hN]
  refine fun _ => ⟨B, 0, rfl, fun i hi' => ?_⟩
  rw [Nat.zero_add]
  match i, hi' with
  | 0, _ => exact cell_h hB rfl
  | 1, _ => exact cell_h hB rfl
  | 2, _ => exact cell_h hB rfl
  | 3, _ => exact cell_h hB rfl
  | 4, _ => exact cell_h hB rfl
  | 5, _ => exact cell_h hB rfl

set_option maxRecDepth 100000 in
set_option maxHeartbeats 4000000 in
theorem between_of (w : World) (a b lo hi : Int) :
    Calls Tryd.prog 9 #[.int .i64 a, .int .i64 b, .agg #[.int .i64 lo, .int .i64 hi]] w (BtEnd a b lo hi w) := by
  by_cases h1 : (0 ≤ a ∧ a < 64) ∧ 0 ≤ b ∧ b < 64
  · have hE : btE a b lo hi = rgErr lo hi (-1073741824) 1073741824 := by unfold btE; rw [if_pos h1]
    obtain ⟨ha, hb⟩ := h1
    by_cases h2 : rgErr lo hi (-1073741824) 1073741824 = 0
    · have hr : (-1073741824 ≤ lo ∧ lo ≤ 1073741824) ∧ -1073741824 ≤ hi ∧ hi ≤ 1073741824 := by
        rcases rg_ways lo hi (-1073741824) 1073741824 with ⟨_, h⟩ | ⟨_, h⟩ | ⟨h, _⟩ <;> omega
      have HR := Lib.hid h2
      have HE := Lib.hid (hE.trans h2)
      clear h2 hE
      go_enter Tryd.func9, Tryd.ntmps9
      go_wp2_with (first
        | (go_at_call 21; refine (idx_of true _ _ _ (by symm; rw [decide_eq_true_iff]; omega)).mono ?_; rintro e w' ⟨rfl, rfl⟩)
        | (go_at_call 22; refine (checkRange_of _ lo hi (-1073741824) 1073741824).mono ?_; rintro e w' ⟨rfl, rfl⟩; rw [HR.out]))
      refine bodyPost_ret (v := .tuple #[.slice (some ⟨_, 0, none⟩) 2 2, .int .i64 0]) (by simp [results, Tryd.f9, go_sem]; rfl) rfl ?_
      exact .ok HE.out ((((Below.refl _ w).alloc (Nat.le_refl _) _).alloc (by simp) _).alloc (by simp; omega) _) (al_2 w _ _ _)
    · have hne : (rgErr lo hi (-1073741824) 1073741824 == 0) = false := by simpa using h2
      have hne2 : (rgErr lo hi (-1073741824) 1073741824 != 0) = true := by simpa using h2
      have HE := Lib.hid hE
      have H2 := Lib.hid h2
      clear h2 hE
      go_enter Tryd.func9, Tryd.ntmps9
      go_wp2_with (first
        | (go_at_call 21; refine (idx_of true _ _ _ (by symm; rw [decide_eq_true_iff]; omega)).mono ?_; rintro e w' ⟨rfl, rfl⟩)
        | (go_at_call 22; refine (checkRange_of _ lo hi (-1073741824) 1073741824).mono ?_; rintro e w' ⟨rfl, rfl⟩))
      refine bodyPost_ret (v := .tuple #[.slice none 0 0, .int .i64 (rgErr lo hi (-1073741824) 1073741824)]) (by simp [results, Tryd.f9, go_sem]) rfl ?_
      rw [← HE.out]
      exact .bad (by rw [HE.out]; exact H2.out) (((Below.refl _ w).alloc (Nat.le_refl _) _).alloc (by simp) _)
  · have hE : btE a b lo hi = 1 := by unfold btE; rw [if_neg h1]
    have HE := Lib.hid hE
    have h2 : ¬(0 ≤ a ∧ a < 64) ∨ ((0 ≤ a ∧ a < 64) ∧ ¬(0 ≤ b ∧ b < 64)) := by omega
    clear hE h1
    rcases h2 with h1 | ⟨h1, h2⟩
    all_goals
      go_enter Tryd.func9, Tryd.ntmps9
      go_wp2_with (go_at_call 21; first | (refine (idx_of true _ _ _ (by symm; rw [decide_eq_true_iff]; omega)).mono ?_; rintro e w' ⟨rfl, rfl⟩) | (refine (idx_of false _ _ _ (by symm; rw [decide_eq_false_iff_not]; omega)).mono ?_; rintro e w' ⟨rfl, rfl⟩))
      refine bodyPost_ret (v := .tuple #[.slice none 0 0, .int .i64 1]) (by simp [results, Tryd.f9, go_sem]) rfl ?_
      rw [← HE.out]
      exact .bad (by rw [HE.out]; decide) ((Below.refl _ w).alloc (Nat.le_refl _) _)
end Go.Proofs.YtmdniebedflpbaaDoor
