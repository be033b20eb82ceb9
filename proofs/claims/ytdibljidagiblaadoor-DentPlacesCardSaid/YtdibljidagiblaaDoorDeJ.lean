/-
  WALKS: Clock and Restrained, of the program and of the reference, for any numbers.
-/
import Derived.Test.YtdibljidagiblaaDoorDeI
import Derived.StillTailTactics
namespace Go.Proofs.YtdibljidagiblaaDoor
open Go.RowKit

set_option maxHeartbeats 1000000 in
theorem bet7 (b : Bool) (w : World) (n l m : Int) (h : b = decide (l ≤ n ∧ n ≤ m)) :
    Calls Tryd.prog 66 #[.int .i64 n, .int .i64 l, .int .i64 m] w fun e w' => e = .returned (.bool b) ∧ w' = w := by
  go_enter Tryd.func66, Tryd.ntmps66
  by_cases h1 : l ≤ n
  · by_cases h2 : n ≤ m
    · obtain rfl : b = true := by rw [h, decide_eq_true_iff]; omega
      clear h
      go_wp2
      go_ret
      exact ⟨rfl, rfl⟩
    · obtain rfl : b = false := by rw [h, decide_eq_false_iff_not]; omega
      clear h
      go_wp2
      go_ret
      refine ⟨?_, rfl⟩
      first | rfl | (congr 2; simp; omega)
  · obtain rfl : b = false := by rw [h, decide_eq_false_iff_not]; omega
    clear h
    go_wp2
    go_ret
    exact ⟨rfl, rfl⟩
theorem bet7_yes (w : World) (n l m : Int) (h : l ≤ n ∧ n ≤ m) : Calls Tryd.prog 66 #[.int .i64 n, .int .i64 l, .int .i64 m] w fun e w' => e = .returned (.bool true) ∧ w' = w := bet7 true w n l m (by symm; rwa [decide_eq_true_iff])
theorem bet7_no (w : World) (n l m : Int) (h : ¬(l ≤ n ∧ n ≤ m)) : Calls Tryd.prog 66 #[.int .i64 n, .int .i64 l, .int .i64 m] w fun e w' => e = .returned (.bool false) ∧ w' = w := bet7 false w n l m (by symm; rwa [decide_eq_false_iff_not])
theorem minute_no (w : World) (x : Int) (h : ¬(0 ≤ x ∧ x < 720)) : Calls Tryd.prog 67 #[.int .i64 x] w fun e w' => e = .returned (.bool false) ∧ w' = w := minute_of false w x (by symm; rwa [decide_eq_false_iff_not])

set_option maxRecDepth 100000 in
set_option maxHeartbeats 4000000 in
theorem clock_no (w : World) (a n r : Int) (h : ¬ckOk a n r) :
    Calls Tryd.prog 26 #[.int .i64 a, .int .i64 n, .int .i64 r] w fun e w' => e = .returned (.tuple #[.int .i64 0, .int .i64 1]) ∧ w' = w := by
  rcases (by unfold ckOk at h; omega : n < 1 ∨ (1 ≤ n ∧ 64 < n) ∨ ((1 ≤ n ∧ n ≤ 64) ∧ a < 0) ∨ ((1 ≤ n ∧ n ≤ 64) ∧ 0 ≤ a ∧ n ≤ a) ∨ ((1 ≤ n ∧ n ≤ 64) ∧ (0 ≤ a ∧ a < n) ∧ ¬(0 ≤ r ∧ r < 720))) with h1 | h1 | h1 | h1 | ⟨h1, h2, h3⟩
  all_goals clear h
  all_goals go_enter Tryd.func26, Tryd.ntmps26
  · go_wp2_with fail
    refine bodyPost_ret (v := .tuple #[.int .i64 0, .int .i64 1]) (by simp [results, Tryd.f26, go_sem]) rfl ⟨rfl, rfl⟩
  · go_wp2_with fail
    refine bodyPost_ret (v := .tuple #[.int .i64 0, .int .i64 1]) (by simp [results, Tryd.f26, go_sem]) rfl ⟨rfl, rfl⟩
  · go_wp2_with fail
    refine bodyPost_ret (v := .tuple #[.int .i64 0, .int .i64 1]) (by simp [results, Tryd.f26, go_sem]) rfl ⟨rfl, rfl⟩
  · go_wp2_with fail
    refine bodyPost_ret (v := .tuple #[.int .i64 0, .int .i64 1]) (by simp [results, Tryd.f26, go_sem]) rfl ⟨rfl, rfl⟩
  · go_wp2_with fail
    refine (minute_no _ r h3).mono ?_
    rintro e w9 ⟨rfl, rfl⟩
    go_wp2_with fail
    refine bodyPost_ret (v := .tuple #[.int .i64 0, .int .i64 1]) (by simp [results, Tryd.f26, go_sem]) rfl ⟨rfl, rfl⟩

set_option maxRecDepth 100000 in
set_option maxHeartbeats 4000000 in
theorem rclock_yes (w : World) (a n r : Int) (h : ckOk a n r) :
    Calls Tryd.prog 27 #[.int .i64 a, .int .i64 n, .int .i64 r] w fun e w' => e = .returned (.tuple #[.int .i64 (ckv a n r), .int .i64 0]) ∧ w' = w := by
  obtain ⟨h1, h2, h3⟩ := h
  have e1 : IntKind.i64.wrap (720 * a) = 720 * a := IntWalk.i64_in _ (by omega)
  have q0 : 0 ≤ 720 * a / n := Int.ediv_nonneg (by omega) (by omega)
  have q1 : 720 * a / n < 720 := Int.ediv_lt_of_lt_mul (by omega) (by omega)
  have e2 : IntKind.i64.wrap (720 * a / n + r) = 720 * a / n + r := IntWalk.i64_in _ (by omega)
  have e3 : IntKind.i64.wrap (n - 1) = n - 1 := IntWalk.i64_in _ (by omega)
  go_enter Tryd.func27, Tryd.ntmps27
  go_wp2_with fail
  refine (bet7_yes _ n 1 64 h1).mono ?_
  rintro e w9 ⟨rfl, rfl⟩
  go_wp2_with fail
  refine (bet7_yes _ a 0 (n - 1) (by omega)).mono ?_
  rintro e w9 ⟨rfl, rfl⟩
  go_wp2_with fail
  refine (bet7_yes _ r 0 719 (by omega)).mono ?_
  rintro e w9 ⟨rfl, rfl⟩
  go_wp2_with fail
  refine bodyPost_ret (v := .tuple #[.int .i64 (ckv a n r), .int .i64 0]) (by simp [results, Tryd.f27, go_sem, ckv]) rfl ?_
  exact ⟨rfl, rfl⟩

set_option maxRecDepth 100000 in
set_option maxHeartbeats 4000000 in
theorem rclock_no (w : World) (a n r : Int) (h : ¬ckOk a n r) :
    Calls Tryd.prog 27 #[.int .i64 a, .int .i64 n, .int .i64 r] w fun e w' => e = .returned (.tuple #[.int .i64 0, .int .i64 1]) ∧ w' = w := by
  rcases (by unfold ckOk at h; omega : ¬(1 ≤ n ∧ n ≤ 64) ∨ ((1 ≤ n ∧ n ≤ 64) ∧ ¬(0 ≤ a ∧ a ≤ n - 1)) ∨ ((1 ≤ n ∧ n ≤ 64) ∧ (0 ≤ a ∧ a ≤ n - 1) ∧ ¬(0 ≤ r ∧ r ≤ 719))) with h1 | ⟨h1, h2⟩ | ⟨h1, h2, h3⟩
  all_goals clear h
  · go_enter Tryd.func27, Tryd.ntmps27
    go_wp2_with fail
    refine (bet7_no _ n 1 64 h1).mono ?_
    rintro e w9 ⟨rfl, rfl⟩
    go_wp2_with fail
    refine bodyPost_ret (v := .tuple #[.int .i64 0, .int .i64 1]) (by simp [results, Tryd.f27, go_sem]) rfl ⟨rfl, rfl⟩
  · have e3 : IntKind.i64.wrap (n - 1) = n - 1 := IntWalk.i64_in _ (by omega)
    go_enter Tryd.func27, Tryd.ntmps27
    go_wp2_with fail
    refine (bet7_yes _ n 1 64 h1).mono ?_
    rintro e w9 ⟨rfl, rfl⟩
    go_wp2_with fail
    refine (bet7_no _ a 0 (n - 1) h2).mono ?_
    rintro e w9 ⟨rfl, rfl⟩
    go_wp2_with fail
    refine bodyPost_ret (v := .tuple #[.int .i64 0, .int .i64 1]) (by simp [results, Tryd.f27, go_sem]) rfl ⟨rfl, rfl⟩
  · have e3 : IntKind.i64.wrap (n - 1) = n - 1 := IntWalk.i64_in _ (by omega)
    go_enter Tryd.func27, Tryd.ntmps27
    go_wp2_with fail
    refine (bet7_yes _ n 1 64 h1).mono ?_
    rintro e w9 ⟨rfl, rfl⟩
    go_wp2_with fail
    refine (bet7_yes _ a 0 (n - 1) h2).mono ?_
    rintro e w9 ⟨rfl, rfl⟩
    go_wp2_with fail
    refine (bet7_no _ r 0 719 h3).mono ?_
    rintro e w9 ⟨rfl, rfl⟩
    go_wp2_with fail
    refine bodyPost_ret (v := .tuple #[.int .i64 0, .int .i64 1]) (by simp [results, Tryd.f27, go_sem]) rfl ⟨rfl, rfl⟩
/-- The program's Clock and the reference's return the same. -/
theorem clock_both (a n r : Int) : ∃ c x : Int, (∀ w, Calls Tryd.prog 26 #[.int .i64 a, .int .i64 n, .int .i64 r] w fun e w' => e = .returned (.tuple #[.int .i64 c, .int .i64 x]) ∧ w' = w) ∧ ∀ w, Calls Tryd.prog 27 #[.int .i64 a, .int .i64 n, .int .i64 r] w fun e w' => e = .returned (.tuple #[.int .i64 c, .int .i64 x]) ∧ w' = w := by
  by_cases h : ckOk a n r
  · exact ⟨ckv a n r, 0, fun w => clock_yes w a n r h, fun w => rclock_yes w a n r h⟩
  · exact ⟨0, 1, fun w => clock_no w a n r h, fun w => rclock_no w a n r h⟩

set_option maxRecDepth 100000 in
set_option maxHeartbeats 4000000 in
theorem restr_no (V : World) (m w : Int) (h : ¬((0 ≤ m ∧ m < 720) ∧ 0 ≤ w ∧ w ≤ 360)) :
    Calls Tryd.prog 28 #[.int .i64 m, .int .i64 w] V fun e w' => e = .returned (.tuple #[.bool false, .int .i64 1]) ∧ w' = V := by
  rcases (by omega : ¬(0 ≤ m ∧ m < 720) ∨ ((0 ≤ m ∧ m < 720) ∧ w < 0) ∨ ((0 ≤ m ∧ m < 720) ∧ 0 ≤ w ∧ 360 < w)) with h1 | ⟨h1, h2⟩ | ⟨h1, h2⟩
  all_goals clear h
  all_goals go_enter Tryd.func28, Tryd.ntmps28
  · go_wp2_with fail
    refine (minute_no _ m h1).mono ?_
    rintro e w9 ⟨rfl, rfl⟩
    go_wp2_with fail
    refine bodyPost_ret (v := .tuple #[.bool false, .int .i64 1]) (by simp [results, Tryd.f28, go_sem]) rfl ⟨rfl, rfl⟩
  · go_wp2_with fail
    refine (minute_of true _ m (by symm; rwa [decide_eq_true_iff])).mono ?_
    rintro e w9 ⟨rfl, rfl⟩
    go_wp2_with fail
    refine bodyPost_ret (v := .tuple #[.bool false, .int .i64 1]) (by simp [results, Tryd.f28, go_sem]) rfl ⟨rfl, rfl⟩
  · go_wp2_with fail
    refine (minute_of true _ m (by symm; rwa [decide_eq_true_iff])).mono ?_
    rintro e w9 ⟨rfl, rfl⟩
    go_wp2_with fail
    refine bodyPost_ret (v := .tuple #[.bool false, .int .i64 1]) (by simp [results, Tryd.f28, go_sem]) rfl ⟨rfl, rfl⟩

set_option maxRecDepth 100000 in
set_option maxHeartbeats 4000000 in
theorem rrestr_no (V : World) (m w : Int) (h : ¬((0 ≤ m ∧ m < 720) ∧ 0 ≤ w ∧ w ≤ 360)) :
    Calls Tryd.prog 29 #[.int .i64 m, .int .i64 w] V fun e w' => e = .returned (.tuple #[.bool false, .int .i64 1]) ∧ w' = V := by
  by_cases h1 : 0 ≤ m ∧ m ≤ 719
  · go_enter Tryd.func29, Tryd.ntmps29
    go_wp2_with fail
    refine (bet7_yes _ m 0 719 h1).mono ?_
    rintro e w9 ⟨rfl, rfl⟩
    go_wp2_with fail
    refine (bet7_no _ w 0 360 (by omega)).mono ?_
    rintro e w9 ⟨rfl, rfl⟩
    go_wp2_with fail
    refine bodyPost_ret (v := .tuple #[.bool false, .int .i64 1]) (by simp [results, Tryd.f29, go_sem]) rfl ⟨rfl, rfl⟩
  · go_enter Tryd.func29, Tryd.ntmps29
    go_wp2_with fail
    refine (bet7_no _ m 0 719 h1).mono ?_
    rintro e w9 ⟨rfl, rfl⟩
    go_wp2_with fail
    refine bodyPost_ret (v := .tuple #[.bool false, .int .i64 1]) (by simp [results, Tryd.f29, go_sem]) rfl ⟨rfl, rfl⟩

theorem rs_all {m w : Int} (hm : 0 ≤ m ∧ m < 720) (hw : 0 ≤ w ∧ w ≤ 360) (h : ∀ j : Int, m - w ≤ j → j ≤ m + w → ¬(240 ≤ (j + 720) % 720 ∧ (j + 720) % 720 ≤ 480)) : rsv m w = false := by
  simp only [rsv, decide_eq_false_iff_not]
  intro hc
  by_cases h1 : m < 240
  · exact h 240 (by omega) (by omega) (by decide)
  · by_cases h2 : 480 < m
    · exact h 480 (by omega) (by omega) (by decide)
    · exact h m (by omega) (by omega) (by omega)
theorem rs_one {m w j : Int} (hm : 0 ≤ m ∧ m < 720) (hw : 0 ≤ w ∧ w ≤ 360) (h1 : m - w ≤ j) (h2 : j ≤ m + w) (h : 240 ≤ (j + 720) % 720 ∧ (j + 720) % 720 ≤ 480) : rsv m w = true := by
  simp only [rsv, decide_eq_true_iff]
  omega

set_option maxRecDepth 100000 in
set_option maxHeartbeats 4000000 in
theorem rrestr_yes (V : World) (m w : Int) (hm : 0 ≤ m ∧ m < 720) (hw : 0 ≤ w ∧ w ≤ 360) :
    Calls Tryd.prog 29 #[.int .i64 m, .int .i64 w] V fun e w' => e = .returned (.tuple #[.bool (rsv m w), .int .i64 0]) ∧ w' = V := by
  go_enter Tryd.func29, Tryd.ntmps29
  go_wp2_with fail
  refine (bet7_yes _ m 0 719 (by omega)).mono ?_
  rintro e w9 ⟨rfl, rfl⟩
  go_wp2_with fail
  refine (bet7_yes _ w 0 360 hw).mono ?_
  rintro e w9 ⟨rfl, rfl⟩
  go_wp2_with fail
  go_loopw [6] (fun vi wr => ∃ k : Int, m - w ≤ k ∧ k ≤ m + w + 1 ∧ vi = .int .i64 k ∧ Hid (∀ j : Int, m - w ≤ j → j < k → ¬(240 ≤ (j + 720) % 720 ∧ (j + 720) % 720 ≤ 480)) ∧ wr = w9) (fun vi _ => (m + w + 1 - intOf vi).toNat)
  case atStart => exact ⟨m - w, by omega, by omega, rfl, fun j h1 h2 => by omega, rfl⟩
  case round =>
    obtain ⟨k, hk1, hk2, rfl, HJ, rfl⟩ := hrel
    by_cases hlt : k ≤ m + w
    · obtain ⟨y, hy⟩ : ∃ y, (k + 720) % 720 = y := ⟨_, rfl⟩
      by_cases hin : 240 ≤ y ∧ y ≤ 480
      · have HE : Hid (rsv m w = true) := rs_one hm hw hk1 hlt (by rw [hy]; exact hin)
        go_wp2_with fail
        refine (bet7_yes _ y 240 480 hin).mono ?_
        rintro e w9 ⟨rfl, rfl⟩
        go_wp2_with fail
        rw [HE.out]
        refine bodyPost_ret (v := .tuple #[.bool true, .int .i64 0]) (by simp [results, Tryd.f29, go_sem]) rfl ⟨rfl, rfl⟩
      · have HJ2 : Hid (∀ j : Int, m - w ≤ j → j < k + 1 → ¬(240 ≤ (j + 720) % 720 ∧ (j + 720) % 720 ≤ 480)) := fun j h1 h2 => by
          by_cases e : j = k
          · rw [e, hy]; exact hin
          · exact HJ.out j h1 (by omega)
        go_wp2_with fail
        refine (bet7_no _ y 240 480 hin).mono ?_
        rintro e w9 ⟨rfl, rfl⟩
        go_wp2_with fail
        exact ⟨⟨k + 1, by omega, by omega, by go_num, HJ2, by first | rfl | trivial⟩, by simp [intOf]; omega⟩
    · have HE : Hid (rsv m w = false) := rs_all hm hw (fun j h1 h2 => HJ.out j h1 (by omega))
      go_wp2_with fail
      rw [HE.out]
      refine bodyPost_ret (v := .tuple #[.bool false, .int .i64 0]) (by simp [results, Tryd.f29, go_sem]) rfl ⟨rfl, rfl⟩
/-- The program's Restrained and the reference's return the same. -/
theorem restr_both (m w : Int) : ∃ (c : Bool) (x : Int), (∀ V, Calls Tryd.prog 28 #[.int .i64 m, .int .i64 w] V fun e w' => e = .returned (.tuple #[.bool c, .int .i64 x]) ∧ w' = V) ∧ ∀ V, Calls Tryd.prog 29 #[.int .i64 m, .int .i64 w] V fun e w' => e = .returned (.tuple #[.bool c, .int .i64 x]) ∧ w' = V := by
  by_cases h : (0 ≤ m ∧ m < 720) ∧ 0 ≤ w ∧ w ≤ 360
  · exact ⟨rsv m w, 0, fun V => restr_yes V m w h.1 h.2, fun V => rrestr_yes V m w h.1 h.2⟩
  · exact ⟨false, 1, fun V => restr_no V m w h, fun V => rrestr_no V m w h⟩
end Go.Proofs.YtdibljidagiblaaDoor
