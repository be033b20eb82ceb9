/-
  WALKS: the errors of zones and limits.
-/
import Derived.Test.YtdibljidagiblaaDoorLnBD
import Derived.Test.YtdibljidagiblaaDoorLnE
namespace Go.Proofs.YtdibljidagiblaaDoor.Ln
open Go.RowKit

theorem zn_ways (b : Bool) (e B F T C : Int) (hb : b = decide (1 ≤ C ∧ C ≤ 4)) :
    (F < 0 ∧ znErr e B F T C = 1) ∨ (0 ≤ F ∧ e < T ∧ znErr e B F T C = 1) ∨ (0 ≤ F ∧ T ≤ e ∧ b = false ∧ znErr e B F T C = 1) ∨
    (0 ≤ F ∧ T ≤ e ∧ b = true ∧ T ≤ F ∧ znErr e B F T C = 7) ∨ (0 ≤ F ∧ T ≤ e ∧ b = true ∧ F < T ∧ F < B ∧ znErr e B F T C = 7) ∨
    (0 ≤ F ∧ T ≤ e ∧ b = true ∧ F < T ∧ B ≤ F ∧ znErr e B F T C = 0) := by
  by_cases h1 : F < 0
  · exact .inl ⟨h1, by unfold znErr; rw [if_pos (by omega)]⟩
  by_cases h2 : e < T
  · exact .inr (.inl ⟨by omega, h2, by unfold znErr; rw [if_pos (by omega)]⟩)
  by_cases h3 : 1 ≤ C ∧ C ≤ 4
  · have hb1 : b = true := by rw [hb]; simp [h3]
    by_cases h4 : T ≤ F
    · exact .inr (.inr (.inr (.inl ⟨by omega, by omega, hb1, h4, by unfold znErr; rw [if_neg (by omega), if_pos (by omega)]⟩)))
    by_cases h5 : F < B
    · exact .inr (.inr (.inr (.inr (.inl ⟨by omega, by omega, hb1, by omega, h5, by unfold znErr; rw [if_neg (by omega), if_pos (by omega)]⟩))))
    · exact .inr (.inr (.inr (.inr (.inr ⟨by omega, by omega, hb1, by omega, by omega, by unfold znErr; rw [if_neg (by omega), if_neg (by omega)]⟩))))
  · have hb1 : b = false := by rw [hb]; simp only [decide_eq_false_iff_not]; exact h3
    exact .inr (.inr (.inl ⟨by omega, by omega, hb1, by unfold znErr; rw [if_pos (by omega)]⟩))

theorem lm_ways (b1 b2 : Bool) (e A F M : Int) (h1 : b1 = decide (0 ≤ F ∧ F ≤ e - 1)) (h2 : b2 = decide (0 ≤ M ∧ M ≤ 1048576)) :
    (b1 = false ∧ lmErr e A F M = 1) ∨ (b1 = true ∧ b2 = false ∧ lmErr e A F M = 1) ∨
    (b1 = true ∧ b2 = true ∧ F ≤ A ∧ lmErr e A F M = 7) ∨ (b1 = true ∧ b2 = true ∧ A < F ∧ lmErr e A F M = 0) := by
  by_cases p1 : 0 ≤ F ∧ F ≤ e - 1
  · have hb1 : b1 = true := by rw [h1]; simp only [decide_eq_true_iff]; exact p1
    by_cases p2 : 0 ≤ M ∧ M ≤ 1048576
    · have hb2 : b2 = true := by rw [h2]; simp [p2]
      by_cases p3 : F ≤ A
      · exact .inr (.inr (.inl ⟨hb1, hb2, p3, by unfold lmErr; rw [if_neg (by omega), if_pos p3]⟩))
      · exact .inr (.inr (.inr ⟨hb1, hb2, by omega, by unfold lmErr; rw [if_neg (by omega), if_neg p3]⟩))
    · have hb2 : b2 = false := by rw [h2]; simp only [decide_eq_false_iff_not]; exact p2
      exact .inr (.inl ⟨hb1, hb2, by unfold lmErr; rw [if_pos (by omega)]⟩)
  · have hb1 : b1 = false := by rw [h1]; simp only [decide_eq_false_iff_not]; exact p1
    exact .inl ⟨hb1, by unfold lmErr; rw [if_pos (by omega)]⟩

set_option maxRecDepth 8000 in
set_option maxHeartbeats 3200000 in
theorem zones_of (w : World) (a : Option Addr) (n c : Nat) (z : Nat → Int) (e : Int) (hn : n ≤ 64) (hS : Sl w 3 a n z) :
    Calls Tryd.prog 122 #[.slice a n c, .int .i64 e] w fun e' w' => e' = .returned (.int .i64 (first (znAt z e) n)) ∧ Below w.heap.size w w' := by
  have HS := Lib.hid hS
  clear hS
  go_enter Tryd.func122, Tryd.ntmps122
  go_wp2
  go_loopw [5, 10] (fun vb vi wr => ∃ i : Nat, i ≤ n ∧ vi = .int .i64 i ∧ vb = .int .i64 (if i = 0 then 0 else z ((i - 1) * 3 + 1)) ∧ Hid (∀ j, j < i → znAt z e j = 0) ∧ Hid (Below w.heap.size w wr)) (fun _ vi _ => n - (intOf vi).toNat)
  case atStart => exact ⟨0, by omega, rfl, rfl, fun j hj => by omega, Below.refl _ _⟩
  case round =>
    obtain ⟨i, hi, rfl, rfl, HZ, HB⟩ := hrel
    by_cases hlt : i < n
    · obtain ⟨b, o, rfl, hI⟩ := HS.out (by omega)
      have hI2 := hI.keep HB.out (hI.lt (by omega))
      have d0 := hI2 (i * 3) (by omega)
      have d1 := hI2.at (i * 3) 1 (by omega)
      have d2 := hI2.at (i * 3) 2 (by omega)
      have HE : Hid (znAt z e i = znErr e (if i = 0 then 0 else z ((i - 1) * 3 + 1)) (z (i * 3)) (z (i * 3 + 1)) (z (i * 3 + 2))) := rfl
      have HV : Hid (z (i * 3 + 1) = (if i + 1 = 0 then 0 else z ((i + 1 - 1) * 3 + 1))) := by unfold Hid; simp
      clear hI hI2
      generalize (if i = 0 then 0 else z ((i - 1) * 3 + 1)) = B at HE ⊢
      generalize z (i * 3) = F at HE d0 ⊢
      generalize z (i * 3 + 1) = T at HE HV d1 ⊢
      generalize z (i * 3 + 2) = C at HE d2 ⊢
      obtain ⟨b1, h1⟩ : ∃ b : Bool, b = decide (1 ≤ C ∧ C ≤ 4) := ⟨_, rfl⟩
      have HW := zn_ways b1 e B F T C h1
      have H1 := Lib.hid h1
      clear h1
      generalize znErr e B F T C = E at HW HE
      have HF : Hid (E ≠ 0 → first (znAt z e) n = E) := fun hne => by rw [← HE.out]; exact first_at HZ.out (by rw [HE.out]; exact hne) hlt
      rcases HW with ⟨h1, rfl⟩ | ⟨h1, h2, rfl⟩ | ⟨h1, h2, rfl, rfl⟩ | ⟨h1, h2, rfl, h3, rfl⟩ | ⟨h1, h2, rfl, h3, h4, rfl⟩ | ⟨h1, h2, rfl, h3, h4, rfl⟩
      all_goals
        go_wp2_with (go_at_call 95; refine (betw _ _ _ _ _ (by first | exact H1.out)).mono ?_; rintro e' w' ⟨rfl, rfl⟩)
      all_goals first
        | (go_ret; exact ⟨by rw [HF.out (by decide)]; rfl, HB.out.alloc HB.out.size _⟩)
        | (exact ⟨⟨i + 1, by omega, by go_num, by rw [← HV.out], (fun j hj => by
            by_cases ej : j = i
            · subst ej; exact HE.out
            · exact HZ.out j (by omega)), HB.out.alloc HB.out.size _⟩, by simp [intOf]; omega⟩)
    · obtain rfl : i = n := by omega
      generalize (if i = 0 then 0 else z ((i - 1) * 3 + 1)) = B
      go_wp2
      go_ret
      exact ⟨by rw [first_zero HZ.out]; rfl, HB.out⟩
set_option maxRecDepth 8000 in
set_option maxHeartbeats 3200000 in
theorem limits_of (w : World) (a : Option Addr) (n c : Nat) (m : Nat → Int) (e : Int) (he : 0 ≤ e ∧ e ≤ 1174405120) (hn : n ≤ 64) (hS : Sl w 2 a n m) :
    Calls Tryd.prog 123 #[.slice a n c, .int .i64 e] w fun e' w' => e' = .returned (.int .i64 (first (lmAt m e) n)) ∧ Below w.heap.size w w' := by
  have HS := Lib.hid hS
  clear hS
  go_enter Tryd.func123, Tryd.ntmps123
  go_wp2
  go_loopw [5, 10] (fun vb vi wr => ∃ i : Nat, i ≤ n ∧ vi = .int .i64 i ∧ vb = .int .i64 (if i = 0 then -1 else m ((i - 1) * 2)) ∧ Hid (∀ j, j < i → lmAt m e j = 0) ∧ Hid (Below w.heap.size w wr)) (fun _ vi _ => n - (intOf vi).toNat)
  case atStart => exact ⟨0, by omega, rfl, rfl, fun j hj => by omega, Below.refl _ _⟩
  case round =>
    obtain ⟨i, hi, rfl, rfl, HZ, HB⟩ := hrel
    by_cases hlt : i < n
    · obtain ⟨b, o, rfl, hI⟩ := HS.out (by omega)
      have hI2 := hI.keep HB.out (hI.lt (by omega))
      have d0 := hI2 (i * 2) (by omega)
      have d1 := hI2.at (i * 2) 1 (by omega)
      have HE : Hid (lmAt m e i = lmErr e (if i = 0 then -1 else m ((i - 1) * 2)) (m (i * 2)) (m (i * 2 + 1))) := rfl
      have HV : Hid (m (i * 2) = (if i + 1 = 0 then -1 else m ((i + 1 - 1) * 2))) := by unfold Hid; simp
      have hw1 : IntKind.i64.wrap (e - 1) = e - 1 := IntWalk.i64_in _ (by omega)
      clear hI hI2
      generalize (if i = 0 then -1 else m ((i - 1) * 2)) = B at HE ⊢
      generalize m (i * 2) = F at HE HV d0 ⊢
      generalize m (i * 2 + 1) = M at HE d1 ⊢
      obtain ⟨b1, h1⟩ : ∃ b : Bool, b = decide (0 ≤ F ∧ F ≤ e - 1) := ⟨_, rfl⟩
      obtain ⟨b2, h2⟩ : ∃ b : Bool, b = decide (0 ≤ M ∧ M ≤ 1048576) := ⟨_, rfl⟩
      have HW := lm_ways b1 b2 e B F M h1 h2
      have H1 := Lib.hid h1
      have H2 := Lib.hid h2
      clear h1 h2
      generalize lmErr e B F M = E at HW HE
      have HF : Hid (E ≠ 0 → first (lmAt m e) n = E) := fun hne => by rw [← HE.out]; exact first_at HZ.out (by rw [HE.out]; exact hne) hlt
      rcases HW with ⟨rfl, rfl⟩ | ⟨rfl, rfl, rfl⟩ | ⟨rfl, rfl, h3, rfl⟩ | ⟨rfl, rfl, h3, rfl⟩
      all_goals
        go_wp2_with (go_at_call 95; refine (betw _ _ _ _ _ (by first | exact H1.out | exact H2.out)).mono ?_; rintro e' w' ⟨rfl, rfl⟩)
      all_goals first
        | (go_ret; exact ⟨by rw [HF.out (by decide)]; rfl, HB.out.alloc HB.out.size _⟩)
        | (exact ⟨⟨i + 1, by omega, by go_num, by rw [← HV.out], (fun j hj => by
            by_cases ej : j = i
            · subst ej; exact HE.out
            · exact HZ.out j (by omega)), HB.out.alloc HB.out.size _⟩, by simp [intOf]; omega⟩)
    · obtain rfl : i = n := by omega
      generalize (if i = 0 then -1 else m ((i - 1) * 2)) = B
      go_wp2
      go_ret
      exact ⟨by rw [first_zero HZ.out]; rfl, HB.out⟩
end Go.Proofs.YtdibljidagiblaaDoor.Ln
