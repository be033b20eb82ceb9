/-
  WALKS: whether a tool passes an item: the program's and the reference's.
-/
import Derived.Test.YtbpifllkimkokaaDoorLnC
namespace Go.Proofs.YtbpifllkimkokaaDoor
open Go.RowKit

theorem sq_le {n : Int} (h : -1073741824 ≤ n ∧ n ≤ 1073741824) : 0 ≤ n * n ∧ n * n ≤ 1152921504606846976 := by
  have h1 := Int.mul_nonneg (show 0 ≤ 1073741824 - n by omega) (show 0 ≤ 1073741824 + n by omega)
  have e : (1073741824 - n) * (1073741824 + n) = 1152921504606846976 - n * n := by grind
  rw [e] at h1
  refine ⟨?_, by omega⟩
  rcases Int.le_total 0 n with h0 | h0
  · exact Int.mul_nonneg h0 h0
  · exact Int.mul_nonneg_of_nonpos_of_nonpos h0 h0

theorem square_of (w : World) (n : Int) (h : -1073741824 ≤ n ∧ n ≤ 1073741824) :
    Calls Tryd.prog 104 #[.int .i64 n] w fun e w' => e = .returned (.int .i64 (n * n)) ∧ w' = w := by
  have hs := sq_le h
  have hw : IntKind.i64.wrap (n * n) = n * n := IntWalk.i64_in _ (by omega)
  clear hs
  go_enter Tryd.func104, Tryd.ntmps104
  go_wp2
  go_ret
  simp

theorem ps_ways (K L O W R S T N Q : Int) :
    (O - 2 * W < T ∧ psV K L O W R S T N Q = false) ∨ (T ≤ O - 2 * W ∧ O - 2 * W < N ∧ psV K L O W R S T N Q = false) ∨
    (T ≤ O - 2 * W ∧ N ≤ O - 2 * W ∧
      ((K = 1 ∧ psV K L O W R S T N Q = decide ((2 * R - (O - 2 * W) + 2 * T) * (2 * R - (O - 2 * W) + 2 * T) + S * S ≤ (2 * R + (O - 2 * W)) * (2 * R + (O - 2 * W)))) ∨
       (K = 2 ∧ 1000 * L < Q ∧ psV K L O W R S T N Q = true) ∨ (K = 2 ∧ Q ≤ 1000 * L ∧ psV K L O W R S T N Q = false) ∨ (K ≠ 1 ∧ K ≠ 2 ∧ psV K L O W R S T N Q = true))) := by
  by_cases h1 : O - 2 * W < T
  · exact .inl ⟨h1, by unfold psV; rw [if_pos (by omega)]⟩
  · by_cases h2 : O - 2 * W < N
    · exact .inr (.inl ⟨by omega, h2, by unfold psV; rw [if_pos (by omega)]⟩)
    · refine .inr (.inr ⟨by omega, by omega, ?_⟩)
      by_cases k1 : K = 1
      · exact .inl ⟨k1, by unfold psV; rw [if_neg (by omega), if_neg (by omega), if_pos k1]⟩
      · by_cases k2 : K = 2
        · by_cases q : 1000 * L < Q
          · exact .inr (.inl ⟨k2, q, by unfold psV; rw [if_neg (by omega), if_pos k2]; simp [q]⟩)
          · exact .inr (.inr (.inl ⟨k2, by omega, by unfold psV; rw [if_neg (by omega), if_pos k2]; simp; omega⟩))
        · exact .inr (.inr (.inr ⟨k1, k2, by unfold psV; rw [if_neg (by omega), if_neg k2, if_neg k1]⟩))

set_option maxRecDepth 8000 in
set_option maxHeartbeats 3200000 in
theorem passes_of (w : World) (K L O W G M R S T N Q : Int) (hL : 1 ≤ L ∧ L ≤ 16777216) (hO : 1 ≤ O ∧ O ≤ 2097152) (hW : 1 ≤ W ∧ W ≤ 131072) (hR : 0 ≤ R ∧ R ≤ 67108864)
    (hS : 1 ≤ S ∧ S ≤ 16777216) (hT : 1 ≤ T ∧ T ≤ 16777216) (_hN : 1 ≤ N ∧ N ≤ 16777216) (_hQ : 1 ≤ Q ∧ Q ≤ 16777216) :
    Calls Tryd.prog 78 #[.agg #[.int .i64 K, .int .i64 L, .int .i64 O, .int .i64 W, .int .i64 G, .int .i64 M, .int .i64 R], .agg #[.int .i64 S, .int .i64 T, .int .i64 N, .int .i64 Q]] w fun e w' => e = .returned (.bool (psV K L O W R S T N Q)) ∧ Below w.heap.size w w' := by
  have HW := ps_ways K L O W R S T N Q
  generalize hE : psV K L O W R S T N Q = E at HW ⊢
  clear hE
  have hx := sq_le (n := 2 * R - (O - 2 * W) + 2 * T) (by omega)
  have hs := sq_le (n := S) (by omega)
  have hw1 : IntKind.i64.wrap ((2 * R - (O - 2 * W) + 2 * T) * (2 * R - (O - 2 * W) + 2 * T) + S * S) = (2 * R - (O - 2 * W) + 2 * T) * (2 * R - (O - 2 * W) + 2 * T) + S * S := IntWalk.i64_in _ (by omega)
  clear hx hs
  rcases HW with ⟨h1, rfl⟩ | ⟨h1, h2, rfl⟩ | ⟨h1, h2, ⟨rfl, rfl⟩ | ⟨rfl, h3, rfl⟩ | ⟨rfl, h3, rfl⟩ | ⟨h3, h4, rfl⟩⟩
  all_goals (try have k1 : (K == 1) = false := by simpa using h3)
  all_goals (try have k2 : (K == 2) = false := by simpa using h4)
  all_goals
    go_enter Tryd.func78, Tryd.ntmps78
    go_wp2_with (go_at_call 103; refine (bore_of _ _ _ _ _ _ _ _ hO hW).mono ?_; rintro e w2 ⟨rfl, hb2⟩; have c0 := fun i => hb2.cell (p := ⟨w.heap.size, i, none⟩) (by simp; omega); have c1 := fun i => hb2.cell (p := ⟨w.heap.size + 1, i, none⟩) (by simp))
  all_goals (try (go_quiet (first | (go_at_call 104; exact Calls.quiet_of_same (square_of _ _ (by omega)))); go_wp2))
  all_goals
    go_ret
    refine ⟨by first | rfl | (congr 2; simpa using h3), ?_⟩
    first
      | exact (((Below.refl _ _).alloc (Nat.le_refl _) _).alloc (by simp) _).trans ((hb2.mono (B' := w.heap.size) (by simp; omega)))
      | exact ((((Below.refl _ _).alloc (Nat.le_refl _) _).alloc (by simp) _).trans ((hb2.mono (B' := w.heap.size) (by simp; omega)))).trans ⟨rfl, rfl, rfl, Nat.le_refl _, fun _ _ => rfl⟩
end Go.Proofs.YtbpifllkimkokaaDoor
