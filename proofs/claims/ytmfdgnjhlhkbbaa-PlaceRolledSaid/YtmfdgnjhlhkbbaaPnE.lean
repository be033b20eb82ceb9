/-
  WALKS: the reference of Calibrate.
-/
import Derived.Test.YtmfdgnjhlhkbbaaPnD
namespace Go.Proofs.Ytmfdgnjhlhkbbaa
open Go.RowKit

theorem cal_bad {t lo hi : Int} (h0 : t ≠ 0) (h : t < 0 ∨ 1048576 < t) : cal t lo hi = (0, 0, 1) := by
  unfold cal
  rw [if_neg h0, if_pos h]
theorem cal_rg {t lo hi : Int} (h : 1 ≤ t ∧ t ≤ 1048576) (h2 : rgErr lo hi 0 1073741824 ≠ 0) : cal t lo hi = (0, 0, rgErr lo hi 0 1073741824) := by
  unfold cal
  rw [if_neg (by omega), if_neg (by omega), if_pos h2]
theorem cal_ok {t lo hi : Int} (h : 1 ≤ t ∧ t ≤ 1048576) (h2 : rgErr lo hi 0 1073741824 = 0) : cal t lo hi = (1000 * lo / t, ce (1000 * hi) t, 0) := by
  unfold cal
  rw [if_neg (by omega), if_neg (by omega), if_neg (by simpa using h2)]

set_option maxRecDepth 100000 in
set_option maxHeartbeats 4000000 in
theorem rcalibrate_of (w : World) (t lo hi : Int) :
    Calls Try.prog 26 #[.int .i64 t, .agg #[.int .i64 lo, .int .i64 hi]] w fun e w' => e = .returned (resV (cal t lo hi)) ∧ Below w.heap.size w w' := by
  have hF1 : ∀ f, Fence.wide.fn f := fun _ => trivial
  by_cases h0 : t = 0
  · subst h0
    have hE : cal 0 lo hi = (0, 0, 3) := by unfold cal; rw [if_pos rfl]
    rw [hE]
    clear hE
    go_enter Try.func26, Try.ntmps26
    go_wp2_with fail
    exact bodyPost_ret (v := resV (0, 0, 3)) (by simp [results, Try.f26, go_sem, resV]) rfl ⟨rfl, ((Below.refl _ w).alloc (Nat.le_refl _) _).alloc (by simp) _⟩
  have h00 : (t == 0) = false := by simpa using h0
  by_cases h1 : t < 0 ∨ 1048576 < t
  · rw [cal_bad h0 h1]
    clear h0
    go_enter Try.func26, Try.ntmps26
    go_wp2_with (go_at_call 61; first | (refine (wi_of true _ _ _ _ (by symm; rw [decide_eq_true_iff]; omega)).mono ?_; rintro e w' ⟨rfl, rfl⟩) | (refine (wi_of false _ _ _ _ (by symm; rw [decide_eq_false_iff_not]; omega)).mono ?_; rintro e w' ⟨rfl, rfl⟩))
    exact bodyPost_ret (v := resV (0, 0, 1)) (by simp [results, Try.f26, go_sem, resV]) rfl ⟨rfl, ((Below.refl _ w).alloc (Nat.le_refl _) _).alloc (by simp) _⟩
  have ht : 1 ≤ t ∧ t ≤ 1048576 := by omega
  clear h0 h1
  by_cases h3 : rgErr lo hi 0 1073741824 = 0
  · have hr : 0 ≤ lo ∧ lo ≤ 1073741824 ∧ 0 ≤ hi ∧ hi ≤ 1073741824 := by
      rcases rg_ways lo hi 0 1073741824 with ⟨_, h⟩ | ⟨_, h⟩ | ⟨h, _⟩ <;> omega
    rw [cal_ok ht h3]
    have w1 : IntKind.i64.wrap (1000 * lo) = 1000 * lo := IntWalk.i64_in _ (by omega)
    have w2 : IntKind.i64.wrap (1000 * hi) = 1000 * hi := IntWalk.i64_in _ (by omega)
    have HR := Lib.hid h3
    clear h3
    go_enter Try.func26, Try.ntmps26
    go_wp2_with first | (go_at_call 61; first | (refine (wi_of true _ _ _ _ (by symm; rw [decide_eq_true_iff]; omega)).mono ?_; rintro e w' ⟨rfl, rfl⟩) | (refine (wi_of false _ _ _ _ (by symm; rw [decide_eq_false_iff_not]; omega)).mono ?_; rintro e w' ⟨rfl, rfl⟩)) | (go_at_call 63; refine (wrong_of _ lo hi 0 1073741824).mono ?_; rintro e w' ⟨rfl, rfl⟩; rw [HR.out])
    have a0 := al_old (al_old (World.alloc_heap_new w (.cells #[.int .i64 lo, .int .i64 hi] 27)) (.cells #[.int .i64 0, .int .i64 0] 27)) (.cells #[.int .i64 lo, .int .i64 hi] 27)
    have a1 := al_old (al_1 w (.cells #[.int .i64 lo, .int .i64 hi] 27) (.cells #[.int .i64 0, .int .i64 0] 27)) (.cells #[.int .i64 lo, .int .i64 hi] 27)
    have hB2 : Below w.heap.size w (((w.alloc (.cells #[.int .i64 lo, .int .i64 hi] 27)).alloc (.cells #[.int .i64 0, .int .i64 0] 27)).alloc (.cells #[.int .i64 lo, .int .i64 hi] 27)) := (((Below.refl _ w).alloc (Nat.le_refl _) _).alloc (by simp) _).alloc (by simp; omega) _
    obtain ⟨W2, hW2⟩ : ∃ W2, ((w.alloc (.cells #[.int .i64 lo, .int .i64 hi] 27)).alloc (.cells #[.int .i64 0, .int .i64 0] 27)).alloc (.cells #[.int .i64 lo, .int .i64 hi] 27) = W2 := ⟨_, rfl⟩
    rw [hW2] at a0 a1 hB2 ⊢
    clear hW2
    refine (wpIn_wide (n := 5)).1 ?_
    refine wpIn_region_I (fun W2 : World => W2.cell? ⟨w.heap.size, 0, none⟩ = some (.int .i64 lo) ∧ W2.cell? ⟨w.heap.size, 1, none⟩ = some (.int .i64 hi)) (by kernel_rfl) ?_
    change anyI _ _ _ _ _ _ _ 13 (Array.replicate 13 false) _ _
    obtain ⟨Wd, hWd⟩ : ∃ Wd, W2.drew = Wd := ⟨_, rfl⟩
    have hBd : Below w.heap.size w Wd := by rw [← hWd]; exact hB2.drew
    replace a0 : Wd.heap[w.heap.size]? = some (.cells #[.int .i64 lo, .int .i64 hi] 27 (0, 0)) := by rw [← hWd]; exact a0
    replace a1 : Wd.heap[w.heap.size + 1]? = some (.cells #[.int .i64 0, .int .i64 0] 27 (0, 0)) := by rw [← hWd]; exact a1
    rw [hWd]
    clear hWd hB2
    have hS0 : Wd.cell? ⟨w.heap.size, 0, none⟩ = some (.int .i64 lo) ∧ Wd.cell? ⟨w.heap.size, 1, none⟩ = some (.int .i64 hi) := ⟨cell_h a0 rfl, cell_h a0 rfl⟩
    refine anyI_takeD hF1 0 20 (v := ?_) rfl rfl (by kernel_rfl) (by kernel_rfl) (by kernel_rfl) (by kernel_rfl) (fun _ _ _ h => h) hS0 rfl ?_ ?_
    rotate_left
    · intro W2 hSw; obtain ⟨s0, s1⟩ := hSw; go_simp; try with_reducible rfl
    simp only [List.setIfInBounds_toArray, List.set_cons_zero, List.set_cons_succ]
    refine anyI_takeD hF1 1 21 (v := ?_) rfl rfl (by kernel_rfl) (by kernel_rfl) (by kernel_rfl) (by kernel_rfl) (fun _ _ _ h => h) hS0 rfl ?_ ?_
    rotate_left
    · intro W2 hSw; obtain ⟨s0, s1⟩ := hSw; go_simp; try with_reducible rfl
    simp only [List.setIfInBounds_toArray, List.set_cons_zero, List.set_cons_succ]
    refine anyI_takeD hF1 2 22 (v := ?_) rfl rfl (by kernel_rfl) (by kernel_rfl) (by kernel_rfl) (by kernel_rfl) (fun _ _ _ h => h) hS0 rfl ?_ ?_
    rotate_left
    · intro W2 hSw; obtain ⟨s0, s1⟩ := hSw; go_simp; try with_reducible rfl
    simp only [List.setIfInBounds_toArray, List.set_cons_zero, List.set_cons_succ]
    refine anyI_takeD hF1 3 23 (v := ?_) rfl rfl (by kernel_rfl) (by kernel_rfl) (by kernel_rfl) (by kernel_rfl) (fun _ _ _ h => h) hS0 rfl ?_ ?_
    rotate_left
    · intro W2 hSw; obtain ⟨s0, s1⟩ := hSw; go_simp; try with_reducible rfl
    simp only [List.setIfInBounds_toArray, List.set_cons_zero, List.set_cons_succ]
    refine anyI_takeD hF1 5 25 (v := ?_) rfl rfl (by kernel_rfl) (by kernel_rfl) (by kernel_rfl) (by kernel_rfl) (fun _ _ _ h => h) hS0 rfl ?_ ?_
    rotate_left
    · intro W2 hSw; obtain ⟨s0, s1⟩ := hSw; go_simp; try with_reducible rfl
    simp only [List.setIfInBounds_toArray, List.set_cons_zero, List.set_cons_succ]
    refine anyI_takeD hF1 6 26 (v := ?_) rfl rfl (by kernel_rfl) (by kernel_rfl) (by kernel_rfl) (by kernel_rfl) (fun _ _ _ h => h) hS0 rfl ?_ ?_
    rotate_left
    · intro W2 hSw; obtain ⟨s0, s1⟩ := hSw; go_simp; try with_reducible rfl
    simp only [List.setIfInBounds_toArray, List.set_cons_zero, List.set_cons_succ]
    refine anyI_takeD hF1 7 27 (v := ?_) rfl rfl (by kernel_rfl) (by kernel_rfl) (by kernel_rfl) (by kernel_rfl) (fun _ _ _ h => h) hS0 rfl ?_ ?_
    rotate_left
    · intro W2 hSw; obtain ⟨s0, s1⟩ := hSw; go_simp; try with_reducible rfl
    simp only [List.setIfInBounds_toArray, List.set_cons_zero, List.set_cons_succ]
    refine anyI_takeD hF1 8 28 (v := ?_) rfl rfl (by kernel_rfl) (by kernel_rfl) (by kernel_rfl) (by kernel_rfl) (fun _ _ _ h => h) hS0 rfl ?_ ?_
    rotate_left
    · intro W2 hSw; obtain ⟨s0, s1⟩ := hSw; go_simp; try with_reducible rfl
    simp only [List.setIfInBounds_toArray, List.set_cons_zero, List.set_cons_succ]
    refine anyI_call hF1 (fun h => absurd h (by decide)) 4 24 (w := Wd) rfl rfl (by kernel_rfl) (by kernel_rfl) (by rfl) (by go_simp; try simp only [w1, w2]; try with_reducible rfl) (callsIn_wide.2 (rfloor_of Wd (1000 * lo) t (by omega) (by omega) (by omega))) ?_
    rintro e w3 ⟨rfl, rfl⟩
    refine ⟨_, rfl, hS0, ?_⟩
    simp only [List.setIfInBounds_toArray, List.set_cons_zero, List.set_cons_succ]
    refine anyI_call hF1 (fun h => absurd h (by decide)) 9 29 (w := w3) rfl rfl (by kernel_rfl) (by kernel_rfl) (by rfl) (by go_simp; try simp only [w1, w2]; try with_reducible rfl) (callsIn_wide.2 (rceil_of w3 (1000 * hi) t (by omega) (by omega) (by omega))) ?_
    rintro e w4 ⟨rfl, rfl⟩
    refine ⟨_, rfl, hS0, ?_⟩
    simp only [List.setIfInBounds_toArray, List.set_cons_zero, List.set_cons_succ]
    refine anyI_valueD hF1 10 30 (v := ?_) (w2 := w4) rfl rfl (by kernel_rfl) (by kernel_rfl) rfl ?_ hS0 ?_
    rotate_left
    · go_simp; try with_reducible rfl
    simp only [List.setIfInBounds_toArray, List.set_cons_zero, List.set_cons_succ]
    have c0 : w4.cell? ⟨w.heap.size + 1, 0, none⟩ = some (.int .i64 0) := cell_h a1 rfl
    have c1 : w4.cell? ⟨w.heap.size + 1, 1, none⟩ = some (.int .i64 0) := cell_h a1 rfl
    have z : ∀ o, w4.frozen? ⟨w.heap.size + 1, o, none⟩ = false := fun o => by simp [World.frozen?, a1]
    have hB5 : Below w.heap.size w ((w4.setCell ⟨w.heap.size + 1, 0, none⟩ (.int .i64 (1000 * lo / t))).setCell ⟨w.heap.size + 1, 1, none⟩ (.int .i64 (ce (1000 * hi) t))) := (hBd.setCell (p := ⟨w.heap.size + 1, 0, none⟩) (by show w.heap.size ≤ w.heap.size + 1; omega) _).setCell (p := ⟨w.heap.size + 1, 1, none⟩) (by show w.heap.size ≤ w.heap.size + 1; omega) _
    have a5 : ((w4.setCell ⟨w.heap.size + 1, 0, none⟩ (.int .i64 (1000 * lo / t))).setCell ⟨w.heap.size + 1, 1, none⟩ (.int .i64 (ce (1000 * hi) t))).heap[w.heap.size]? = some (.cells #[.int .i64 lo, .int .i64 hi] 27 (0, 0)) := ((Below.heap_setCell _ ⟨w.heap.size + 1, 1, none⟩ _ _ (show w.heap.size ≠ w.heap.size + 1 by omega)).trans (Below.heap_setCell _ ⟨w.heap.size + 1, 0, none⟩ _ _ (show w.heap.size ≠ w.heap.size + 1 by omega))).trans a0
    have b5 : ((w4.setCell ⟨w.heap.size + 1, 0, none⟩ (.int .i64 (1000 * lo / t))).setCell ⟨w.heap.size + 1, 1, none⟩ (.int .i64 (ce (1000 * hi) t))).heap[w.heap.size + 1]? = some (.cells #[.int .i64 (1000 * lo / t), .int .i64 (ce (1000 * hi) t)] 27 (0, 0)) := by rw [heap_set (heap_set a1 _) _]; rfl
    refine anyI_skipN hF1 11 (w2 := (w4.setCell ⟨w.heap.size + 1, 0, none⟩ (.int .i64 (1000 * lo / t))).setCell ⟨w.heap.size + 1, 1, none⟩ (.int .i64 (ce (1000 * hi) t))) rfl rfl (by kernel_rfl) (by kernel_rfl) rfl ?_ ⟨cell_h a5 rfl, cell_h a5 rfl⟩ ?_
    · go_simp; try with_reducible rfl
    generalize (w4.setCell ⟨w.heap.size + 1, 0, none⟩ (.int .i64 (1000 * lo / t))).setCell ⟨w.heap.size + 1, 1, none⟩ (.int .i64 (ce (1000 * hi) t)) = w5 at hB5 a5 b5 ⊢
    refine anyI_valueD hF1 12 5 (v := ?_) (w2 := w5) rfl rfl (by kernel_rfl) (by kernel_rfl) rfl ?_ ⟨cell_h a5 rfl, cell_h a5 rfl⟩ ?_
    rotate_left
    · go_simp; try with_reducible rfl
    simp only [List.setIfInBounds_toArray, List.set_cons_zero, List.set_cons_succ]
    refine anyI_done (by kernel_rfl) ?_ _
    have g0 : w5.cell? ⟨w.heap.size + 1, 0, none⟩ = some (.int .i64 (1000 * lo / t)) := cell_h b5 rfl
    have g1 : w5.cell? ⟨w.heap.size + 1, 1, none⟩ = some (.int .i64 (ce (1000 * hi) t)) := cell_h b5 rfl
    clear a0 a1 hS0 c0 c1 z a5 b5
    go_wp2_with fail
    exact bodyPost_ret (v := resV (1000 * lo / t, ce (1000 * hi) t, 0)) (by simp [results, Try.f26, go_sem, resV, g0, g1]) rfl ⟨rfl, hB5⟩
  · rw [cal_rg ht h3]
    have hne : (rgErr lo hi 0 1073741824 == 0) = false := by simpa using h3
    have hne2 : (rgErr lo hi 0 1073741824 != 0) = true := by simpa using h3
    clear h3
    go_enter Try.func26, Try.ntmps26
    go_wp2_with first | (go_at_call 61; first | (refine (wi_of true _ _ _ _ (by symm; rw [decide_eq_true_iff]; omega)).mono ?_; rintro e w' ⟨rfl, rfl⟩) | (refine (wi_of false _ _ _ _ (by symm; rw [decide_eq_false_iff_not]; omega)).mono ?_; rintro e w' ⟨rfl, rfl⟩)) | (go_at_call 63; refine (wrong_of _ lo hi 0 1073741824).mono ?_; rintro e w' ⟨rfl, rfl⟩)
    exact bodyPost_ret (v := resV (0, 0, rgErr lo hi 0 1073741824)) (by simp [results, Try.f26, go_sem, resV]) rfl ⟨rfl, (((Below.refl _ w).alloc (Nat.le_refl _) _).alloc (by simp) _).alloc (by simp; omega) _⟩
end Go.Proofs.Ytmfdgnjhlhkbbaa
