/-
  WALKS: the error of a pair; the indices that no pair has.
-/
import Derived.Test.YtonlamkpehakdaaPmF
import Derived.Test.YtonlamkpehakdaaPrA
namespace Go.Proofs.Ytonlamkpehakdaa
open Go.RowKit

/-- The error of a pair. -/
def prErr (N M : Int) (f : Nat → Int) (i : Nat) : Int :=
  if f (i * 2) < 0 ∨ N ≤ f (i * 2) ∨ f (i * 2 + 1) < 0 ∨ M ≤ f (i * 2 + 1) then 1
  else if 0 < i ∧ (f (i * 2) ≤ f ((i - 1) * 2) ∨ f (i * 2 + 1) ≤ f ((i - 1) * 2 + 1)) then 7 else 0
theorem pr_ways (N M : Int) (f : Nat → Int) (i : Nat) : (¬(0 ≤ f (i * 2) ∧ f (i * 2) < N) ∧ prErr N M f i = 1) ∨ ((0 ≤ f (i * 2) ∧ f (i * 2) < N) ∧ ¬(0 ≤ f (i * 2 + 1) ∧ f (i * 2 + 1) < M) ∧ prErr N M f i = 1) ∨
    ((0 ≤ f (i * 2) ∧ f (i * 2) < N) ∧ (0 ≤ f (i * 2 + 1) ∧ f (i * 2 + 1) < M) ∧ i = 0 ∧ prErr N M f i = 0) ∨
    ((0 ≤ f (i * 2) ∧ f (i * 2) < N) ∧ (0 ≤ f (i * 2 + 1) ∧ f (i * 2 + 1) < M) ∧ ∃ j, i = j + 1 ∧ (((f (i * 2) ≤ f (j * 2) ∨ (¬f (i * 2) ≤ f (j * 2) ∧ f (i * 2 + 1) ≤ f (j * 2 + 1))) ∧ prErr N M f i = 7) ∨ (¬f (i * 2) ≤ f (j * 2) ∧ ¬f (i * 2 + 1) ≤ f (j * 2 + 1) ∧ prErr N M f i = 0))) := by
  unfold prErr
  by_cases h1 : 0 ≤ f (i * 2) ∧ f (i * 2) < N
  · by_cases h2 : 0 ≤ f (i * 2 + 1) ∧ f (i * 2 + 1) < M
    · rw [if_neg (by omega)]
      by_cases h0 : i = 0
      · exact .inr (.inr (.inl ⟨h1, h2, h0, by rw [if_neg (by omega)]⟩))
      · obtain ⟨j, rfl⟩ : ∃ j, i = j + 1 := ⟨i - 1, by omega⟩
        rw [Nat.add_sub_cancel]
        refine .inr (.inr (.inr ⟨h1, h2, j, rfl, ?_⟩))
        by_cases h : f ((j + 1) * 2) ≤ f (j * 2) ∨ f ((j + 1) * 2 + 1) ≤ f (j * 2 + 1)
        · exact .inl ⟨by omega, by rw [if_pos ⟨by omega, h⟩]⟩
        · exact .inr ⟨by omega, by omega, by rw [if_neg (fun h2 => h h2.2)]⟩
    · exact .inr (.inl ⟨h1, h2, by rw [if_pos (by omega)]⟩)
  · exact .inl ⟨h1, by rw [if_pos (by omega)]⟩

set_option maxRecDepth 100000 in
set_option maxHeartbeats 4000000 in
theorem checkPair_of (w : World) (N M : Int) (a : Option Addr) (n c : Nat) (f : Nat → Int) (i : Nat) (hi : i < n) (hn : n ≤ 4611686018427387903) (hS : Sl w 2 a n f) :
    Calls Try.prog 48 #[.int .i64 N, .int .i64 M, .slice a n c, .int .i64 i] w fun e w' => e = .returned (.int .i64 (prErr N M f i)) ∧ Below w.heap.size w w' := by
  obtain ⟨b, o, rfl, hI⟩ := hS (by omega)
  have d0 := hI (i * 2) (by omega)
  have d1 := hI.at (i * 2) 1 (by omega)
  have hE := pr_ways N M f i
  obtain ⟨V, hV⟩ : ∃ V, prErr N M f i = V := ⟨_, rfl⟩
  rw [hV] at hE ⊢
  clear hV hS
  have HI := Lib.hid hI
  clear hI
  generalize f (i * 2) = X at d0 hE ⊢
  generalize f (i * 2 + 1) = Y at d1 hE ⊢
  have hB := (Below.refl w.heap.size w).alloc (Nat.le_refl _) (.cells #[.int .i64 X, .int .i64 Y] 107)
  have a0 := World.alloc_heap_new w (.cells #[.int .i64 X, .int .i64 Y] 107)
  have hl := HI.out.lt (by omega)
  rcases hE with ⟨k1, rfl⟩ | ⟨k1, k2, rfl⟩ | ⟨k1, k2, h0, rfl⟩ | ⟨k1, k2, j, hj, hV⟩
  · have K1 := Lib.hid (show false = decide (0 ≤ X ∧ X < N) by symm; rw [decide_eq_false_iff_not]; exact k1)
    clear k1
    go_enter Try.func48, Try.ntmps48
    go_wp2_with fail
    generalize w.alloc (.cells #[.int .i64 X, .int .i64 Y] 107) = W at hB a0 ⊢
    have s0 : W.cell? ⟨w.heap.size, 0, none⟩ = some (.int .i64 X) := cell_h a0 rfl
    have s1 : W.cell? ⟨w.heap.size, 1, none⟩ = some (.int .i64 Y) := cell_h a0 rfl
    go_wp2_with (go_at_call 70; refine (idx_of _ _ _ _ K1.out).mono ?_; rintro e' w' ⟨rfl, hw⟩; rw [hw]; clear hw w')
    go_ret
    exact ⟨rfl, hB⟩
  · have K1 := Lib.hid (show true = decide (0 ≤ X ∧ X < N) by symm; rw [decide_eq_true_iff]; exact k1)
    clear k1
    have K2 := Lib.hid (show false = decide (0 ≤ Y ∧ Y < M) by symm; rw [decide_eq_false_iff_not]; exact k2)
    clear k2
    go_enter Try.func48, Try.ntmps48
    go_wp2_with fail
    generalize w.alloc (.cells #[.int .i64 X, .int .i64 Y] 107) = W at hB a0 ⊢
    have s0 : W.cell? ⟨w.heap.size, 0, none⟩ = some (.int .i64 X) := cell_h a0 rfl
    have s1 : W.cell? ⟨w.heap.size, 1, none⟩ = some (.int .i64 Y) := cell_h a0 rfl
    go_wp2_with (go_at_call 70; refine (idx_of _ _ _ _ (by first | exact K1.out | exact K2.out)).mono ?_; rintro e' w' ⟨rfl, hw⟩; rw [hw]; clear hw w')
    go_ret
    exact ⟨rfl, hB⟩
  · have K1 := Lib.hid (show true = decide (0 ≤ X ∧ X < N) by symm; rw [decide_eq_true_iff]; exact k1)
    clear k1
    have K2 := Lib.hid (show true = decide (0 ≤ Y ∧ Y < M) by symm; rw [decide_eq_true_iff]; exact k2)
    clear k2
    have hg : decide ((0 : Int) < (i : Int)) = false := by rw [decide_eq_false_iff_not]; omega
    have hg2 : decide (0 < i) = false := by rw [decide_eq_false_iff_not]; omega
    clear h0
    go_enter Try.func48, Try.ntmps48
    go_wp2_with fail
    generalize w.alloc (.cells #[.int .i64 X, .int .i64 Y] 107) = W at hB a0 ⊢
    have s0 : W.cell? ⟨w.heap.size, 0, none⟩ = some (.int .i64 X) := cell_h a0 rfl
    have s1 : W.cell? ⟨w.heap.size, 1, none⟩ = some (.int .i64 Y) := cell_h a0 rfl
    go_wp2_with (go_at_call 70; refine (idx_of _ _ _ _ (by first | exact K1.out | exact K2.out)).mono ?_; rintro e' w' ⟨rfl, hw⟩; rw [hw]; clear hw w')
    have HB := Lib.hid hB
    clear hB d0 d1 a0
    go_quiet (fail)
    go_wp2_with fail
    go_ret
    have hb := HB.out
    exact ⟨rfl, ⟨hb.os, hb.tape, hb.output, hb.size, hb.block⟩⟩
  · obtain ⟨X', hX'⟩ : ∃ X', f (j * 2) = X' := ⟨_, rfl⟩
    obtain ⟨Y', hY'⟩ : ∃ Y', f (j * 2 + 1) = Y' := ⟨_, rfl⟩
    have hI2 := HI.out.keep hB hl
    have d2 := hI2 (j * 2) (by omega)
    have d3 := hI2.at (j * 2) 1 (by omega)
    rw [hX'] at hV d2
    rw [hY'] at hV d3
    have hg : decide (0 < i) = true := by rw [decide_eq_true_iff]; omega
    obtain rfl : j = i - 1 := by omega
    have hpos : (0 : Int) < i := by omega
    have hw1 : IntKind.i64.wrap ((i : Int) - 1) = (i : Int) - 1 := IntWalk.i64_in _ (by omega)
    have ht1 : ((i : Int) - 1).toNat = i - 1 := by omega
    have hin : (i : Int) - 1 < n := by omega
    have hi0 : 0 ≤ (i : Int) - 1 := by omega
    clear hj
    clear hX' hY' hI2
    have K1 := Lib.hid (show true = decide (0 ≤ X ∧ X < N) by symm; rw [decide_eq_true_iff]; exact k1)
    clear k1
    have K2 := Lib.hid (show true = decide (0 ≤ Y ∧ Y < M) by symm; rw [decide_eq_true_iff]; exact k2)
    clear k2
    go_enter Try.func48, Try.ntmps48
    go_wp2_with fail
    generalize w.alloc (.cells #[.int .i64 X, .int .i64 Y] 107) = W at hB a0 d2 d3 ⊢
    have s0 : W.cell? ⟨w.heap.size, 0, none⟩ = some (.int .i64 X) := cell_h a0 rfl
    have s1 : W.cell? ⟨w.heap.size, 1, none⟩ = some (.int .i64 Y) := cell_h a0 rfl
    go_wp2_with (go_at_call 70; refine (idx_of _ _ _ _ (by first | exact K1.out | exact K2.out)).mono ?_; rintro e' w' ⟨rfl, hw⟩; rw [hw]; clear hw w')
    have HB := Lib.hid hB
    clear hB d0 d1 a0
    rcases hV with ⟨hx | ⟨hx, hy⟩, rfl⟩ | ⟨hx, hy, rfl⟩
    · go_quiet (fail)
      go_wp2_with fail
      go_ret
      have hb := HB.out
      exact ⟨rfl, ⟨hb.os, hb.tape, hb.output, hb.size, hb.block⟩⟩
    · have hx2 : decide (X ≤ X') = false := by rw [decide_eq_false_iff_not]; omega
      clear hx
      go_quiet (fail)
      go_wp2_with fail
      go_ret
      have hb := HB.out
      exact ⟨rfl, ⟨hb.os, hb.tape, hb.output, hb.size, hb.block⟩⟩
    · have hx2 : decide (X ≤ X') = false := by rw [decide_eq_false_iff_not]; omega
      clear hx
      go_quiet (fail)
      go_wp2_with fail
      go_ret
      have hb := HB.out
      exact ⟨rfl, ⟨hb.os, hb.tape, hb.output, hb.size, hb.block⟩⟩
end Go.Proofs.Ytonlamkpehakdaa
