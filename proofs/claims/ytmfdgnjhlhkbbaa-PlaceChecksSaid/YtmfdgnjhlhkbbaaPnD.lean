/-
  WALKS: the reference of Odometer, Calibrate and Passed.
-/
import Derived.Test.YtmfdgnjhlhkbbaaPnC
namespace Go.Proofs.Ytmfdgnjhlhkbbaa
open Go.RowKit

theorem wi_of (b : Bool) (w : World) (x a c : Int) (h : b = decide (a ≤ x ∧ x ≤ c)) :
    Calls Try.prog 61 #[.int .i64 x, .int .i64 a, .int .i64 c] w fun e w' => e = .returned (.bool b) ∧ w' = w := by
  go_enter Try.func61, Try.ntmps61
  by_cases h1 : a ≤ x
  · by_cases h2 : x ≤ c
    · obtain rfl : b = true := by rw [h, decide_eq_true_iff]; omega
      clear h
      go_wp2
      go_ret
      exact ⟨rfl, rfl⟩
    · obtain rfl : b = false := by rw [h, decide_eq_false_iff_not]; omega
      clear h
      go_wp2
      go_ret
      exact ⟨rfl, rfl⟩
  · obtain rfl : b = false := by rw [h, decide_eq_false_iff_not]; omega
    clear h
    go_wp2
    go_ret
    exact ⟨rfl, rfl⟩
theorem rpl_of (w : World) (x : Int) : Calls Try.prog 66 #[.int .i64 x] w fun e w' => e = .returned (.bool (isPl x)) ∧ w' = w := by
  go_enter Try.func66, Try.ntmps66
  go_wp2_with (go_at_call 61; refine (wi_of (isPl x) _ _ _ _ rfl).mono ?_; rintro e w' ⟨rfl, rfl⟩)
  go_ret
  exact ⟨rfl, rfl⟩

set_option maxRecDepth 100000 in
set_option maxHeartbeats 4000000 in
theorem wrong_of (w : World) (lo hi a b : Int) :
    Calls Try.prog 63 #[.agg #[.int .i64 lo, .int .i64 hi], .int .i64 a, .int .i64 b] w fun e w' => e = .returned (.int .i64 (rgErr lo hi a b)) ∧ w' = w.alloc (.cells #[.int .i64 lo, .int .i64 hi] 27) := by
  rcases rg_ways lo hi a b with ⟨h, he⟩ | ⟨h, he⟩ | ⟨h, he⟩
  · rw [he]
    clear he
    rcases h with h | ⟨h1, h2⟩ | ⟨h1, h2, h3⟩ | ⟨h1, h2, h3, h4⟩
    all_goals
      go_enter Try.func63, Try.ntmps63
      go_wp2_with (go_at_call 61; first | (refine (wi_of true _ _ _ _ (by symm; rw [decide_eq_true_iff]; omega)).mono ?_; rintro e w' ⟨rfl, rfl⟩) | (refine (wi_of false _ _ _ _ (by symm; rw [decide_eq_false_iff_not]; omega)).mono ?_; rintro e w' ⟨rfl, rfl⟩))
      go_ret
      exact ⟨rfl, rfl⟩
  · rw [he]
    clear he
    obtain ⟨h1, h2, h3, h4, h5⟩ := h
    go_enter Try.func63, Try.ntmps63
    go_wp2_with (go_at_call 61; refine (wi_of true _ _ _ _ (by symm; rw [decide_eq_true_iff]; omega)).mono ?_; rintro e w' ⟨rfl, rfl⟩)
    go_ret
    exact ⟨rfl, rfl⟩
  · rw [he]
    clear he
    obtain ⟨h1, h2, h3, h4, h5⟩ := h
    go_enter Try.func63, Try.ntmps63
    go_wp2_with (go_at_call 61; refine (wi_of true _ _ _ _ (by symm; rw [decide_eq_true_iff]; omega)).mono ?_; rintro e w' ⟨rfl, rfl⟩)
    go_ret
    exact ⟨rfl, rfl⟩
theorem odo_bad {t lo hi : Int} (h : t < 0 ∨ 1048576 < t ∨ lo < 0 ∨ 1000000 < lo ∨ hi < 0 ∨ 1000000 < hi) : odo t lo hi = (0, 0, 1) := by
  unfold odo
  by_cases h1 : t < 0 ∨ 1048576 < t
  · rw [if_pos h1]
  · rw [if_neg h1]
    rcases rg_ways lo hi 0 1000000 with ⟨_, g⟩ | ⟨_, g⟩ | ⟨_, g⟩
    · rw [g]; rfl
    · omega
    · omega
theorem odo_ord {t lo hi : Int} (h : 0 ≤ t ∧ t ≤ 1048576 ∧ 0 ≤ lo ∧ lo ≤ 1000000 ∧ 0 ≤ hi ∧ hi ≤ 1000000) (h2 : hi < lo) : odo t lo hi = (0, 0, 7) := by
  unfold odo
  rw [if_neg (by omega)]
  rcases rg_ways lo hi 0 1000000 with ⟨_, g⟩ | ⟨_, g⟩ | ⟨_, g⟩
  · omega
  · rw [g]; rfl
  · omega
theorem odo_ok {t lo hi : Int} (h : 0 ≤ t ∧ t ≤ 1048576 ∧ 0 ≤ lo ∧ lo ≤ 1000000 ∧ 0 ≤ hi ∧ hi ≤ 1000000) (h2 : lo ≤ hi) : odo t lo hi = (t * lo / 1000, ce (t * hi) 1000, 0) := by
  unfold odo
  rw [if_neg (by omega)]
  rcases rg_ways lo hi 0 1000000 with ⟨_, g⟩ | ⟨_, g⟩ | ⟨_, g⟩
  · omega
  · omega
  · rw [g]; rfl

set_option maxRecDepth 100000 in
set_option maxHeartbeats 4000000 in
theorem rodometer_of (w : World) (t lo hi : Int) :
    Calls Try.prog 25 #[.int .i64 t, .agg #[.int .i64 lo, .int .i64 hi]] w fun e w' => e = .returned (resV (odo t lo hi)) ∧ Below w.heap.size w w' := by
  have hF1 : ∀ f, Fence.wide.fn f := fun _ => trivial
  by_cases h1 : t < 0 ∨ 1048576 < t ∨ lo < 0 ∨ 1000000 < lo ∨ hi < 0 ∨ 1000000 < hi
  · rw [odo_bad h1]
    have h2 : (t < 0 ∨ 1048576 < t) ∨ ((0 ≤ t ∧ t ≤ 1048576) ∧ (lo < 0 ∨ 1000000 < lo)) ∨ ((0 ≤ t ∧ t ≤ 1048576) ∧ (0 ≤ lo ∧ lo ≤ 1000000) ∧ (hi < 0 ∨ 1000000 < hi)) := by omega
    clear h1
    rcases h2 with h1 | ⟨h1, h2⟩ | ⟨h1, h2, h3⟩
    all_goals
      go_enter Try.func25, Try.ntmps25
      go_wp2_with (go_at_call 61; first | (refine (wi_of true _ _ _ _ (by symm; rw [decide_eq_true_iff]; omega)).mono ?_; rintro e w' ⟨rfl, rfl⟩) | (refine (wi_of false _ _ _ _ (by symm; rw [decide_eq_false_iff_not]; omega)).mono ?_; rintro e w' ⟨rfl, rfl⟩))
      exact bodyPost_ret (v := resV (0, 0, 1)) (by simp [results, Try.f25, go_sem, resV]) rfl ⟨rfl, ((Below.refl _ w).alloc (Nat.le_refl _) _).alloc (by simp) _⟩
  have hk : 0 ≤ t ∧ t ≤ 1048576 ∧ 0 ≤ lo ∧ lo ≤ 1000000 ∧ 0 ≤ hi ∧ hi ≤ 1000000 := by omega
  clear h1
  by_cases h2 : hi < lo
  · rw [odo_ord hk h2]
    go_enter Try.func25, Try.ntmps25
    go_wp2_with (go_at_call 61; first | (refine (wi_of true _ _ _ _ (by symm; rw [decide_eq_true_iff]; omega)).mono ?_; rintro e w' ⟨rfl, rfl⟩) | (refine (wi_of false _ _ _ _ (by symm; rw [decide_eq_false_iff_not]; omega)).mono ?_; rintro e w' ⟨rfl, rfl⟩))
    exact bodyPost_ret (v := resV (0, 0, 7)) (by simp [results, Try.f25, go_sem, resV]) rfl ⟨rfl, ((Below.refl _ w).alloc (Nat.le_refl _) _).alloc (by simp) _⟩
  have h3 : lo ≤ hi := by omega
  clear h2
  rw [odo_ok hk h3]
  have b1 := mul_bd (a := t) (b := lo) (A := 1048576) (B := 1000000) (by omega) (by omega)
  have b2 := mul_bd (a := t) (b := hi) (A := 1048576) (B := 1000000) (by omega) (by omega)
  have w1 : IntKind.i64.wrap (t * lo) = t * lo := IntWalk.i64_in _ (by omega)
  have w2 : IntKind.i64.wrap (t * hi) = t * hi := IntWalk.i64_in _ (by omega)
  go_enter Try.func25, Try.ntmps25
  go_wp2_with (go_at_call 61; first | (refine (wi_of true _ _ _ _ (by symm; rw [decide_eq_true_iff]; omega)).mono ?_; rintro e w' ⟨rfl, rfl⟩) | (refine (wi_of false _ _ _ _ (by symm; rw [decide_eq_false_iff_not]; omega)).mono ?_; rintro e w' ⟨rfl, rfl⟩))
  have a0 := al_old (World.alloc_heap_new w (.cells #[.int .i64 lo, .int .i64 hi] 27)) (.cells #[.int .i64 0, .int .i64 0] 27)
  have a1 := al_1 w (.cells #[.int .i64 lo, .int .i64 hi] 27) (.cells #[.int .i64 0, .int .i64 0] 27)
  have hB2 : Below w.heap.size w ((w.alloc (.cells #[.int .i64 lo, .int .i64 hi] 27)).alloc (.cells #[.int .i64 0, .int .i64 0] 27)) := ((Below.refl _ w).alloc (Nat.le_refl _) _).alloc (by simp) _
  obtain ⟨W2, hW2⟩ : ∃ W2, (w.alloc (.cells #[.int .i64 lo, .int .i64 hi] 27)).alloc (.cells #[.int .i64 0, .int .i64 0] 27) = W2 := ⟨_, rfl⟩
  rw [hW2] at a0 a1 hB2 ⊢
  clear hW2
  refine (wpIn_wide (n := 5)).1 ?_
  refine wpIn_region_I (fun W2 : World => W2.cell? ⟨w.heap.size, 0, none⟩ = some (.int .i64 lo) ∧ W2.cell? ⟨w.heap.size, 1, none⟩ = some (.int .i64 hi)) (by kernel_rfl) ?_
  change anyI _ _ _ _ _ _ _ 13 (Array.replicate 13 false) _ _
  obtain ⟨Wd, hWd⟩ : ∃ Wd, W2.drew = Wd := ⟨_, rfl⟩
  have hBd : Below w.heap.size w Wd := by rw [← hWd]; exact hB2.drew
  replace a0 : Wd.heap[w.heap.size]? = some (.cells #[.int .i64 lo, .int .i64 hi] 27 (0, 0)) := by rw [← hWd]; exact a0
  replace a1 : Wd.heap[w.heap.size + 1]? = some (.cells #[.int .i64 0, .int .i64 0] 27 (0, 0)) := by rw [← hWd]; exact a1
  rw [hWd]
  clear hWd hB2
  have hS0 : Wd.cell? ⟨w.heap.size, 0, none⟩ = some (.int .i64 lo) ∧ Wd.cell? ⟨w.heap.size, 1, none⟩ = some (.int .i64 hi) := ⟨cell_h a0 rfl, cell_h a0 rfl⟩
  refine anyI_takeD hF1 0 28 (v := ?_) rfl rfl (by kernel_rfl) (by kernel_rfl) (by kernel_rfl) (by kernel_rfl) (fun _ _ _ h => h) hS0 rfl ?_ ?_
  rotate_left
  · intro W2 hSw; obtain ⟨s0, s1⟩ := hSw; go_simp; try with_reducible rfl
  simp only [List.setIfInBounds_toArray, List.set_cons_zero, List.set_cons_succ]
  refine anyI_takeD hF1 1 29 (v := ?_) rfl rfl (by kernel_rfl) (by kernel_rfl) (by kernel_rfl) (by kernel_rfl) (fun _ _ _ h => h) hS0 rfl ?_ ?_
  rotate_left
  · intro W2 hSw; obtain ⟨s0, s1⟩ := hSw; go_simp; try with_reducible rfl
  simp only [List.setIfInBounds_toArray, List.set_cons_zero, List.set_cons_succ]
  refine anyI_takeD hF1 2 30 (v := ?_) rfl rfl (by kernel_rfl) (by kernel_rfl) (by kernel_rfl) (by kernel_rfl) (fun _ _ _ h => h) hS0 rfl ?_ ?_
  rotate_left
  · intro W2 hSw; obtain ⟨s0, s1⟩ := hSw; go_simp; try with_reducible rfl
  simp only [List.setIfInBounds_toArray, List.set_cons_zero, List.set_cons_succ]
  refine anyI_takeD hF1 3 31 (v := ?_) rfl rfl (by kernel_rfl) (by kernel_rfl) (by kernel_rfl) (by kernel_rfl) (fun _ _ _ h => h) hS0 rfl ?_ ?_
  rotate_left
  · intro W2 hSw; obtain ⟨s0, s1⟩ := hSw; go_simp; try with_reducible rfl
  simp only [List.setIfInBounds_toArray, List.set_cons_zero, List.set_cons_succ]
  refine anyI_takeD hF1 5 33 (v := ?_) rfl rfl (by kernel_rfl) (by kernel_rfl) (by kernel_rfl) (by kernel_rfl) (fun _ _ _ h => h) hS0 rfl ?_ ?_
  rotate_left
  · intro W2 hSw; obtain ⟨s0, s1⟩ := hSw; go_simp; try with_reducible rfl
  simp only [List.setIfInBounds_toArray, List.set_cons_zero, List.set_cons_succ]
  refine anyI_takeD hF1 6 34 (v := ?_) rfl rfl (by kernel_rfl) (by kernel_rfl) (by kernel_rfl) (by kernel_rfl) (fun _ _ _ h => h) hS0 rfl ?_ ?_
  rotate_left
  · intro W2 hSw; obtain ⟨s0, s1⟩ := hSw; go_simp; try with_reducible rfl
  simp only [List.setIfInBounds_toArray, List.set_cons_zero, List.set_cons_succ]
  refine anyI_takeD hF1 7 35 (v := ?_) rfl rfl (by kernel_rfl) (by kernel_rfl) (by kernel_rfl) (by kernel_rfl) (fun _ _ _ h => h) hS0 rfl ?_ ?_
  rotate_left
  · intro W2 hSw; obtain ⟨s0, s1⟩ := hSw; go_simp; try with_reducible rfl
  simp only [List.setIfInBounds_toArray, List.set_cons_zero, List.set_cons_succ]
  refine anyI_takeD hF1 8 36 (v := ?_) rfl rfl (by kernel_rfl) (by kernel_rfl) (by kernel_rfl) (by kernel_rfl) (fun _ _ _ h => h) hS0 rfl ?_ ?_
  rotate_left
  · intro W2 hSw; obtain ⟨s0, s1⟩ := hSw; go_simp; try with_reducible rfl
  simp only [List.setIfInBounds_toArray, List.set_cons_zero, List.set_cons_succ]
  refine anyI_call hF1 (fun h => absurd h (by decide)) 4 32 (w := Wd) rfl rfl (by kernel_rfl) (by kernel_rfl) (by rfl) (by go_simp; try with_reducible rfl) (callsIn_wide.2 (rfloor_of Wd (t * lo) 1000 (by decide) (by decide) (by omega))) ?_
  rintro e w3 ⟨rfl, rfl⟩
  refine ⟨_, rfl, hS0, ?_⟩
  simp only [List.setIfInBounds_toArray, List.set_cons_zero, List.set_cons_succ]
  refine anyI_call hF1 (fun h => absurd h (by decide)) 9 37 (w := w3) rfl rfl (by kernel_rfl) (by kernel_rfl) (by rfl) (by go_simp; try with_reducible rfl) (callsIn_wide.2 (rceil_of w3 (t * hi) 1000 (by decide) (by decide) (by omega))) ?_
  rintro e w4 ⟨rfl, rfl⟩
  refine ⟨_, rfl, hS0, ?_⟩
  simp only [List.setIfInBounds_toArray, List.set_cons_zero, List.set_cons_succ]
  refine anyI_valueD hF1 10 38 (v := ?_) (w2 := w4) rfl rfl (by kernel_rfl) (by kernel_rfl) rfl ?_ hS0 ?_
  rotate_left
  · go_simp; try with_reducible rfl
  simp only [List.setIfInBounds_toArray, List.set_cons_zero, List.set_cons_succ]
  have c0 : w4.cell? ⟨w.heap.size + 1, 0, none⟩ = some (.int .i64 0) := cell_h a1 rfl
  have c1 : w4.cell? ⟨w.heap.size + 1, 1, none⟩ = some (.int .i64 0) := cell_h a1 rfl
  have z : ∀ o, w4.frozen? ⟨w.heap.size + 1, o, none⟩ = false := fun o => by simp [World.frozen?, a1]
  have hB5 : Below w.heap.size w ((w4.setCell ⟨w.heap.size + 1, 0, none⟩ (.int .i64 (t * lo / 1000))).setCell ⟨w.heap.size + 1, 1, none⟩ (.int .i64 (ce (t * hi) 1000))) := (hBd.setCell (p := ⟨w.heap.size + 1, 0, none⟩) (by show w.heap.size ≤ w.heap.size + 1; omega) _).setCell (p := ⟨w.heap.size + 1, 1, none⟩) (by show w.heap.size ≤ w.heap.size + 1; omega) _
  have a5 : ((w4.setCell ⟨w.heap.size + 1, 0, none⟩ (.int .i64 (t * lo / 1000))).setCell ⟨w.heap.size + 1, 1, none⟩ (.int .i64 (ce (t * hi) 1000))).heap[w.heap.size]? = some (.cells #[.int .i64 lo, .int .i64 hi] 27 (0, 0)) := ((Below.heap_setCell _ ⟨w.heap.size + 1, 1, none⟩ _ _ (show w.heap.size ≠ w.heap.size + 1 by omega)).trans (Below.heap_setCell _ ⟨w.heap.size + 1, 0, none⟩ _ _ (show w.heap.size ≠ w.heap.size + 1 by omega))).trans a0
  have b5 : ((w4.setCell ⟨w.heap.size + 1, 0, none⟩ (.int .i64 (t * lo / 1000))).setCell ⟨w.heap.size + 1, 1, none⟩ (.int .i64 (ce (t * hi) 1000))).heap[w.heap.size + 1]? = some (.cells #[.int .i64 (t * lo / 1000), .int .i64 (ce (t * hi) 1000)] 27 (0, 0)) := by rw [heap_set (heap_set a1 _) _]; rfl
  refine anyI_skipN hF1 11 (w2 := (w4.setCell ⟨w.heap.size + 1, 0, none⟩ (.int .i64 (t * lo / 1000))).setCell ⟨w.heap.size + 1, 1, none⟩ (.int .i64 (ce (t * hi) 1000))) rfl rfl (by kernel_rfl) (by kernel_rfl) rfl ?_ ⟨cell_h a5 rfl, cell_h a5 rfl⟩ ?_
  · go_simp; try with_reducible rfl
  generalize (w4.setCell ⟨w.heap.size + 1, 0, none⟩ (.int .i64 (t * lo / 1000))).setCell ⟨w.heap.size + 1, 1, none⟩ (.int .i64 (ce (t * hi) 1000)) = w5 at hB5 a5 b5 ⊢
  refine anyI_valueD hF1 12 5 (v := ?_) (w2 := w5) rfl rfl (by kernel_rfl) (by kernel_rfl) rfl ?_ ⟨cell_h a5 rfl, cell_h a5 rfl⟩ ?_
  rotate_left
  · go_simp; try with_reducible rfl
  simp only [List.setIfInBounds_toArray, List.set_cons_zero, List.set_cons_succ]
  refine anyI_done (by kernel_rfl) ?_ _
  have g0 : w5.cell? ⟨w.heap.size + 1, 0, none⟩ = some (.int .i64 (t * lo / 1000)) := cell_h b5 rfl
  have g1 : w5.cell? ⟨w.heap.size + 1, 1, none⟩ = some (.int .i64 (ce (t * hi) 1000)) := cell_h b5 rfl
  clear a0 a1 hS0 c0 c1 z a5 b5
  go_wp2_with fail
  exact bodyPost_ret (v := resV (t * lo / 1000, ce (t * hi) 1000, 0)) (by simp [results, Try.f25, go_sem, resV, g0, g1]) rfl ⟨rfl, hB5⟩
end Go.Proofs.Ytmfdgnjhlhkbbaa
