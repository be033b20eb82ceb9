/-
  WALKS: traps: the reference: a minute later, a valve, Step.
-/
import Derived.Test.YtmdniebedflpbaaGreatDoorVsC
namespace Go.Proofs.YtmdniebedflpbaaGreatDoor
open Go.RowKit

set_option maxHeartbeats 16000000 in
theorem rtick_of (w : World) (t : Tp) (ht : t.ok) : Calls Tryz.prog 48 #[t.val] w fun e w' => e = .returned t.tick.val ∧ Below w.heap.size w w' := by
  obtain ⟨x, hx⟩ : ∃ x, t.tick = x := ⟨_, rfl⟩
  rw [hx]
  have HX := Lib.hid hx
  clear hx
  obtain ⟨m, k, v, u, d, p, g, i⟩ := t
  obtain ⟨hp, hg, hi⟩ := ht
  dsimp only at hp hg hi
  have w1 : IntKind.i64.wrap (p + 1) = p + 1 := IntWalk.i64_in _ (by omega)
  have w2 : IntKind.i64.wrap (p - 1) = p - 1 := IntWalk.i64_in _ (by omega)
  have w3 : IntKind.i64.wrap (g - 1) = g - 1 := IntWalk.i64_in _ (by omega)
  dsimp only [Tp.val] at HX ⊢
  go_enter Tryz.func48, Tryz.ntmps48
  by_cases hmk : m = false ∧ k = false
  · obtain ⟨rfl, rfl⟩ := hmk
    cases v <;> cases u
    all_goals
      go_wp2_with fail
      all_goals
        refine bodyPost_ret (v := .agg #[.bool x.m, .bool x.k, .bool x.v, .bool x.u, .bool x.d, .int .i64 x.p, .int .i64 x.g, .int .i64 x.i]) (by rw [← HX.out]; simp [results, Tryz.f48, go_sem, Tp.tick] <;> omega) rfl ⟨rfl, ((Below.refl _ _).alloc (Nat.le_refl _) _).alloc (by simp) _⟩
  · have hp4 : p = 0 ∨ p = 1 ∨ p = 2 ∨ p = 3 := by omega
    have hi3 : i = 0 ∨ i = 1 ∨ i = 2 := by omega
    clear w2 w3 hp hg hi
    cases m <;> cases k
    · exact absurd ⟨rfl, rfl⟩ hmk
    all_goals
      clear hmk
      rcases hp4 with rfl | rfl | rfl | rfl <;> rcases hi3 with rfl | rfl | rfl
      all_goals
        go_wp2_with fail
        refine bodyPost_ret (v := .agg #[.bool x.m, .bool x.k, .bool x.v, .bool x.u, .bool x.d, .int .i64 x.p, .int .i64 x.g, .int .i64 x.i]) (by rw [← HX.out]; simp [results, Tryz.f48, go_sem, Tp.tick] <;> omega) rfl ⟨rfl, ((Below.refl _ _).alloc (Nat.le_refl _) _).alloc (by simp) _⟩

end Go.Proofs.YtmdniebedflpbaaGreatDoor
