/-
  WALKS AND WORDS: LnB LnC LnD LnD2 of my texts, one behind the other.
-/
import Derived.Test.YtdibljidagiblaaDoorLnA
-- LnB: WALKS: between, bore, the errors of items: the program's and the reference's.
namespace Go.Proofs.YtdibljidagiblaaDoor.Ln
open Go.RowKit

theorem betw (b : Bool) (w : World) (n l m : Int) (h : b = decide (l ≤ n ∧ n ≤ m)) :
    Calls Tryd.prog 95 #[.int .i64 n, .int .i64 l, .int .i64 m] w fun e w' => e = .returned (.bool b) ∧ w' = w := by
  go_enter Tryd.func95, Tryd.ntmps95
  by_cases h1 : l ≤ n
  · by_cases h2 : n ≤ m
    · obtain rfl : b = true := by rw [h, decide_eq_true_iff]; omega
      clear h
      go_wp2
      go_ret
      exact ⟨rfl, rfl⟩
    · obtain rfl : b = false := by rw [h, decide_eq_false_iff_not]; omega
      clear h
      go_wp2
      go_ret
      refine ⟨?_, rfl⟩
      first | rfl | (congr 2; simp; omega)
  · obtain rfl : b = false := by rw [h, decide_eq_false_iff_not]; omega
    clear h
    go_wp2
    go_ret
    exact ⟨rfl, rfl⟩
theorem bore_of (w : World) (K L O W G S R : Int) (h : 1 ≤ O ∧ O ≤ 2097152) (h2 : 1 ≤ W ∧ W ≤ 131072) :
    Calls Tryd.prog 139 #[.agg #[.int .i64 K, .int .i64 L, .int .i64 O, .int .i64 W, .int .i64 G, .int .i64 S, .int .i64 R]] w fun e w' => e = .returned (.int .i64 (O - 2 * W)) ∧ Below w.heap.size w w' := by
  go_enter Tryd.func139, Tryd.ntmps139
  go_wp2
  go_ret
  exact ⟨rfl, (Below.refl _ _).alloc (Nat.le_refl _) _⟩
/-- The ways through the error of an item. -/
theorem item_ways (b1 b2 b3 b4 b5 b6 b7 : Bool) (K L O W G S R : Int) (h1 : b1 = decide (0 ≤ K ∧ K ≤ 2)) (h2 : b2 = decide (1 ≤ L ∧ L ≤ 16777216)) (h3 : b3 = decide (1 ≤ O ∧ O ≤ 2097152)) (h4 : b4 = decide (1 ≤ W ∧ W ≤ 131072))
    (h5 : b5 = decide (0 ≤ G ∧ G ≤ 7)) (h6 : b6 = decide (0 ≤ S ∧ S ≤ 359)) (h7 : b7 = decide (1 ≤ R ∧ R ≤ 67108864)) :
    (b1 = false ∧ itErr K L O W G S R = 1) ∨ (b1 = true ∧ b2 = false ∧ itErr K L O W G S R = 1) ∨ (b1 = true ∧ b2 = true ∧ b3 = false ∧ itErr K L O W G S R = 1) ∨
    (b1 = true ∧ b2 = true ∧ b3 = true ∧ b4 = false ∧ itErr K L O W G S R = 1) ∨
    (b1 = true ∧ b2 = true ∧ b3 = true ∧ b4 = true ∧ (1 ≤ O ∧ O ≤ 2097152) ∧ (1 ≤ W ∧ W ≤ 131072) ∧
      ((b5 = false ∧ itErr K L O W G S R = 20) ∨ (b5 = true ∧ b6 = false ∧ itErr K L O W G S R = 1) ∨
       (b5 = true ∧ b6 = true ∧ K = 1 ∧ b7 = false ∧ itErr K L O W G S R = 1) ∨ (b5 = true ∧ b6 = true ∧ K ≠ 1 ∧ R ≠ 0 ∧ itErr K L O W G S R = 1) ∨
       (b5 = true ∧ b6 = true ∧ K = 1 ∧ b7 = true ∧ O - 2 * W < 1 ∧ itErr K L O W G S R = 7) ∨ (b5 = true ∧ b6 = true ∧ K ≠ 1 ∧ R = 0 ∧ O - 2 * W < 1 ∧ itErr K L O W G S R = 7) ∨
       (b5 = true ∧ b6 = true ∧ K = 1 ∧ b7 = true ∧ (1 ≤ R ∧ R ≤ 67108864) ∧ 1 ≤ O - 2 * W ∧ 2 * R ≤ O ∧ itErr K L O W G S R = 7) ∨
       (b5 = true ∧ b6 = true ∧ K = 1 ∧ b7 = true ∧ (1 ≤ R ∧ R ≤ 67108864) ∧ 1 ≤ O - 2 * W ∧ O < 2 * R ∧ itErr K L O W G S R = 0) ∨
       (b5 = true ∧ b6 = true ∧ K ≠ 1 ∧ R = 0 ∧ 1 ≤ O - 2 * W ∧ itErr K L O W G S R = 0))) := by
  have no : ∀ {p : Prop} [Decidable p] {b : Bool}, b = decide p → ¬p → b = false := fun h hn => by rw [h]; simp [hn]
  have yes : ∀ {p : Prop} [Decidable p] {b : Bool}, b = decide p → p → b = true := fun h hn => by rw [h]; simp [hn]
  by_cases p1 : 0 ≤ K ∧ K ≤ 2
  · by_cases p2 : 1 ≤ L ∧ L ≤ 16777216
    · by_cases p3 : 1 ≤ O ∧ O ≤ 2097152
      · by_cases p4 : 1 ≤ W ∧ W ≤ 131072
        · have e1 : itErr K L O W G S R = (if G < 0 ∨ 7 < G then 20
              else if S < 0 ∨ 359 < S ∨ (K ≠ 1 ∧ R ≠ 0) ∨ (K = 1 ∧ (R < 1 ∨ 67108864 < R)) then 1
              else if O - 2 * W < 1 ∨ (K = 1 ∧ 2 * R ≤ O) then 7 else 0) := by unfold itErr; rw [if_neg (by omega)]
          refine .inr (.inr (.inr (.inr ⟨yes h1 p1, yes h2 p2, yes h3 p3, yes h4 p4, p3, p4, ?_⟩)))
          by_cases p5 : 0 ≤ G ∧ G ≤ 7
          · rw [if_neg (by omega)] at e1
            by_cases p6 : 0 ≤ S ∧ S ≤ 359
            · by_cases pk : K = 1
              · by_cases p7 : 1 ≤ R ∧ R ≤ 67108864
                · rw [if_neg (by omega)] at e1
                  by_cases q1 : O - 2 * W < 1
                  · exact .inr (.inr (.inr (.inr (.inl ⟨yes h5 p5, yes h6 p6, pk, yes h7 p7, q1, by rw [e1, if_pos (by omega)]⟩))))
                  · by_cases q2 : 2 * R ≤ O
                    · exact .inr (.inr (.inr (.inr (.inr (.inr (.inl ⟨yes h5 p5, yes h6 p6, pk, yes h7 p7, p7, by omega, q2, by rw [e1, if_pos (by omega)]⟩))))))
                    · exact .inr (.inr (.inr (.inr (.inr (.inr (.inr (.inl ⟨yes h5 p5, yes h6 p6, pk, yes h7 p7, p7, by omega, by omega, by rw [e1, if_neg (by omega)]⟩)))))))
                · exact .inr (.inr (.inl ⟨yes h5 p5, yes h6 p6, pk, no h7 p7, by rw [e1, if_pos (by omega)]⟩))
              · by_cases pr : R = 0
                · rw [if_neg (by omega)] at e1
                  by_cases q1 : O - 2 * W < 1
                  · exact .inr (.inr (.inr (.inr (.inr (.inl ⟨yes h5 p5, yes h6 p6, pk, pr, q1, by rw [e1, if_pos (by omega)]⟩)))))
                  · exact .inr (.inr (.inr (.inr (.inr (.inr (.inr (.inr ⟨yes h5 p5, yes h6 p6, pk, pr, by omega, by rw [e1, if_neg (by omega)]⟩)))))))
                · exact .inr (.inr (.inr (.inl ⟨yes h5 p5, yes h6 p6, pk, pr, by rw [e1, if_pos (by omega)]⟩)))
            · exact .inr (.inl ⟨yes h5 p5, no h6 p6, by rw [e1, if_pos (by omega)]⟩)
          · exact .inl ⟨no h5 p5, by rw [e1, if_pos (by omega)]⟩
        · exact .inr (.inr (.inr (.inl ⟨yes h1 p1, yes h2 p2, yes h3 p3, no h4 p4, by unfold itErr; rw [if_pos (by omega)]⟩)))
      · exact .inr (.inr (.inl ⟨yes h1 p1, yes h2 p2, no h3 p3, by unfold itErr; rw [if_pos (by omega)]⟩))
    · exact .inr (.inl ⟨yes h1 p1, no h2 p2, by unfold itErr; rw [if_pos (by omega)]⟩)
  · exact .inl ⟨no h1 p1, by unfold itErr; rw [if_pos (by omega)]⟩

set_option maxRecDepth 8000 in
set_option maxHeartbeats 3200000 in
theorem item_err (w : World) (K L O W G S R : Int) :
    Calls Tryd.prog 121 #[.agg #[.int .i64 K, .int .i64 L, .int .i64 O, .int .i64 W, .int .i64 G, .int .i64 S, .int .i64 R]] w fun e w' => e = .returned (.int .i64 (itErr K L O W G S R)) ∧ Below w.heap.size w w' := by
  obtain ⟨b1, h1⟩ : ∃ b : Bool, b = decide (0 ≤ K ∧ K ≤ 2) := ⟨_, rfl⟩
  obtain ⟨b2, h2⟩ : ∃ b : Bool, b = decide (1 ≤ L ∧ L ≤ 16777216) := ⟨_, rfl⟩
  obtain ⟨b3, h3⟩ : ∃ b : Bool, b = decide (1 ≤ O ∧ O ≤ 2097152) := ⟨_, rfl⟩
  obtain ⟨b4, h4⟩ : ∃ b : Bool, b = decide (1 ≤ W ∧ W ≤ 131072) := ⟨_, rfl⟩
  obtain ⟨b5, h5⟩ : ∃ b : Bool, b = decide (0 ≤ G ∧ G ≤ 7) := ⟨_, rfl⟩
  obtain ⟨b6, h6⟩ : ∃ b : Bool, b = decide (0 ≤ S ∧ S ≤ 359) := ⟨_, rfl⟩
  obtain ⟨b7, h7⟩ : ∃ b : Bool, b = decide (1 ≤ R ∧ R ≤ 67108864) := ⟨_, rfl⟩
  have HW := item_ways b1 b2 b3 b4 b5 b6 b7 K L O W G S R h1 h2 h3 h4 h5 h6 h7
  have H1 := Lib.hid h1
  have H2 := Lib.hid h2
  have H3 := Lib.hid h3
  have H4 := Lib.hid h4
  have H5 := Lib.hid h5
  have H6 := Lib.hid h6
  have H7 := Lib.hid h7
  clear h1 h2 h3 h4 h5 h6 h7
  generalize hE : itErr K L O W G S R = E at HW ⊢
  clear hE
  rcases HW with ⟨rfl, rfl⟩ | ⟨rfl, rfl, rfl⟩ | ⟨rfl, rfl, rfl, rfl⟩ | ⟨rfl, rfl, rfl, rfl, rfl⟩ | ⟨rfl, rfl, rfl, rfl, hO, hW, ⟨rfl, rfl⟩ | ⟨rfl, rfl, rfl⟩ | ⟨rfl, rfl, rfl, rfl, rfl⟩ | ⟨rfl, rfl, hK, hR, rfl⟩ | ⟨rfl, rfl, rfl, rfl, hB, rfl⟩ | ⟨rfl, rfl, hK, rfl, hB, rfl⟩ | ⟨rfl, rfl, rfl, rfl, hR, hB, hC, rfl⟩ | ⟨rfl, rfl, rfl, rfl, hR, hB, hC, rfl⟩ | ⟨rfl, rfl, hK, rfl, hB, rfl⟩⟩
  all_goals (try have k1 : (K == 1) = false := by simpa using hK)
  all_goals (try have k2 : (K != 1) = true := by simpa using hK)
  all_goals (try have k3 : (R != 0) = true := by simpa using hR)
  all_goals
    go_enter Tryd.func121, Tryd.ntmps121
    go_wp2_with (first
      | (go_at_call 95; refine (betw _ _ _ _ _ (by first | exact H1.out | exact H2.out | exact H3.out | exact H4.out | exact H5.out | exact H6.out | exact H7.out)).mono ?_; rintro e w' ⟨rfl, rfl⟩)
      | (go_at_call 139; refine (bore_of _ _ _ _ _ _ _ _ hO hW).mono ?_; rintro e w2 ⟨rfl, hb2⟩; have c0 := fun i => hb2.cell (p := ⟨w.heap.size, i, none⟩) (by simp)))
  all_goals
    go_ret
    first
      | exact ⟨rfl, (Below.refl _ _).alloc (Nat.le_refl _) _⟩
      | exact ⟨rfl, ((Below.refl _ _).alloc (Nat.le_refl _) _).trans (hb2.mono (by simp))⟩
end Go.Proofs.YtdibljidagiblaaDoor.Ln
-- LnC: WALKS: the error of an item, by the reference.
namespace Go.Proofs.YtdibljidagiblaaDoor.Ln
open Go.RowKit

end Go.Proofs.YtdibljidagiblaaDoor.Ln
-- LnD: WALKS: whether a tool passes an item: the program's and the reference's.
namespace Go.Proofs.YtdibljidagiblaaDoor.Ln
open Go.RowKit

theorem sq_le {n : Int} (h : -1073741824 ≤ n ∧ n ≤ 1073741824) : 0 ≤ n * n ∧ n * n ≤ 1152921504606846976 := by
  have h1 := Int.mul_nonneg (show 0 ≤ 1073741824 - n by omega) (show 0 ≤ 1073741824 + n by omega)
  have e : (1073741824 - n) * (1073741824 + n) = 1152921504606846976 - n * n := by grind
  rw [e] at h1
  refine ⟨?_, by omega⟩
  rcases Int.le_total 0 n with h0 | h0
  · exact Int.mul_nonneg h0 h0
  · exact Int.mul_nonneg_of_nonpos_of_nonpos h0 h0

theorem ps_ways (K L O W R S T N Q : Int) :
    (O - 2 * W < T ∧ psV K L O W R S T N Q = false) ∨ (T ≤ O - 2 * W ∧ O - 2 * W < N ∧ psV K L O W R S T N Q = false) ∨
    (T ≤ O - 2 * W ∧ N ≤ O - 2 * W ∧
      ((K = 1 ∧ psV K L O W R S T N Q = decide ((2 * R - (O - 2 * W) + 2 * T) * (2 * R - (O - 2 * W) + 2 * T) + S * S ≤ (2 * R + (O - 2 * W)) * (2 * R + (O - 2 * W)))) ∨
       (K = 2 ∧ 1000 * L < Q ∧ psV K L O W R S T N Q = true) ∨ (K = 2 ∧ Q ≤ 1000 * L ∧ psV K L O W R S T N Q = false) ∨ (K ≠ 1 ∧ K ≠ 2 ∧ psV K L O W R S T N Q = true))) := by
  by_cases h1 : O - 2 * W < T
  · exact .inl ⟨h1, by unfold psV; rw [if_pos (by omega)]⟩
  · by_cases h2 : O - 2 * W < N
    · exact .inr (.inl ⟨by omega, h2, by unfold psV; rw [if_pos (by omega)]⟩)
    · refine .inr (.inr ⟨by omega, by omega, ?_⟩)
      by_cases k1 : K = 1
      · exact .inl ⟨k1, by unfold psV; rw [if_neg (by omega), if_neg (by omega), if_pos k1]⟩
      · by_cases k2 : K = 2
        · by_cases q : 1000 * L < Q
          · exact .inr (.inl ⟨k2, q, by unfold psV; rw [if_neg (by omega), if_pos k2]; simp [q]⟩)
          · exact .inr (.inr (.inl ⟨k2, by omega, by unfold psV; rw [if_neg (by omega), if_pos k2]; simp; omega⟩))
        · exact .inr (.inr (.inr ⟨k1, k2, by unfold psV; rw [if_neg (by omega), if_neg k2, if_neg k1]⟩))

end Go.Proofs.YtdibljidagiblaaDoor.Ln
-- LnD2: WALKS: whether a tool passes an item, by the reference.
namespace Go.Proofs.YtdibljidagiblaaDoor.Ln
open Go.RowKit

end Go.Proofs.YtdibljidagiblaaDoor.Ln
