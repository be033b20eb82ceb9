/-
  WALKS: whether a tool passes an item, by the reference.
-/
import Derived.Test.YtbpifllkimkokaaDoorLnD
namespace Go.Proofs.YtbpifllkimkokaaDoor
open Go.RowKit

set_option maxRecDepth 8000 in
set_option maxHeartbeats 3200000 in
theorem rpasses_of (w : World) (K L O W G M R S T N Q : Int) (hL : 1 ≤ L ∧ L ≤ 16777216) (hO : 1 ≤ O ∧ O ≤ 2097152) (hW : 1 ≤ W ∧ W ≤ 131072) (hR : 0 ≤ R ∧ R ≤ 67108864)
    (hS : 1 ≤ S ∧ S ≤ 16777216) (hT : 1 ≤ T ∧ T ≤ 16777216) (_hN : 1 ≤ N ∧ N ≤ 16777216) (_hQ : 1 ≤ Q ∧ Q ≤ 16777216) :
    Calls Tryd.prog 79 #[.agg #[.int .i64 K, .int .i64 L, .int .i64 O, .int .i64 W, .int .i64 G, .int .i64 M, .int .i64 R], .agg #[.int .i64 S, .int .i64 T, .int .i64 N, .int .i64 Q]] w fun e w' => e = .returned (.bool (psV K L O W R S T N Q)) ∧ Below w.heap.size w w' := by
  have HW := ps_ways K L O W R S T N Q
  generalize hE : psV K L O W R S T N Q = E at HW ⊢
  clear hE
  have hx := sq_le (n := 2 * R - (O - 2 * W) + 2 * T) (by omega)
  have hs := sq_le (n := S) (by omega)
  have hw1 : IntKind.i64.wrap ((2 * R - (O - 2 * W) + 2 * T) * (2 * R - (O - 2 * W) + 2 * T) + S * S) = (2 * R - (O - 2 * W) + 2 * T) * (2 * R - (O - 2 * W) + 2 * T) + S * S := IntWalk.i64_in _ (by omega)
  have hy := sq_le (n := 2 * R + (O - 2 * W)) (by omega)
  have hw2 : IntKind.i64.wrap ((2 * R - (O - 2 * W) + 2 * T) * (2 * R - (O - 2 * W) + 2 * T)) = (2 * R - (O - 2 * W) + 2 * T) * (2 * R - (O - 2 * W) + 2 * T) := IntWalk.i64_in _ (by omega)
  have hw3 : IntKind.i64.wrap ((2 * R + (O - 2 * W)) * (2 * R + (O - 2 * W))) = (2 * R + (O - 2 * W)) * (2 * R + (O - 2 * W)) := IntWalk.i64_in _ (by omega)
  have hw4 : IntKind.i64.wrap (S * S) = S * S := IntWalk.i64_in _ (by omega)
  clear hx hs hy
  rcases HW with ⟨h1, rfl⟩ | ⟨h1, h2, rfl⟩ | ⟨h1, h2, ⟨rfl, rfl⟩ | ⟨rfl, h3, rfl⟩ | ⟨rfl, h3, rfl⟩ | ⟨h3, h4, rfl⟩⟩
  all_goals (try have k1 : (K == 1) = false := by simpa using h3)
  all_goals (try have k2 : (K == 2) = false := by simpa using h4)
  all_goals
    go_enter Tryd.func79, Tryd.ntmps79
    go_wp2_with (go_at_call 99; refine (rbore_of _ _ _ _ _ _ _ _ hO hW).mono ?_; rintro e w2 ⟨rfl, hb2⟩; have c0 := fun i => hb2.cell (p := ⟨w.heap.size, i, none⟩) (by simp; omega); have c1 := fun i => hb2.cell (p := ⟨w.heap.size + 1, i, none⟩) (by simp))
  all_goals (try (go_quiet (fail); go_wp2))
  all_goals
    go_ret
    refine ⟨by first | rfl | (congr 2; simpa using h3), ?_⟩
    first
      | exact (((Below.refl _ _).alloc (Nat.le_refl _) _).alloc (by simp) _).trans ((hb2.mono (B' := w.heap.size) (by simp; omega)))
      | exact ((((Below.refl _ _).alloc (Nat.le_refl _) _).alloc (by simp) _).trans ((hb2.mono (B' := w.heap.size) (by simp; omega)))).trans ⟨rfl, rfl, rfl, Nat.le_refl _, fun _ _ => rfl⟩
end Go.Proofs.YtbpifllkimkokaaDoor
