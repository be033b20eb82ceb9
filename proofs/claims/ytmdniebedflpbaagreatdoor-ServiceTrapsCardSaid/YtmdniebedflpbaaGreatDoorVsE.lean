/-
  WALKS: traps: the reference: a valve, Step.
-/
import Derived.Test.YtmdniebedflpbaaGreatDoorVsD
namespace Go.Proofs.YtmdniebedflpbaaGreatDoor
open Go.RowKit

theorem three_low (w : World) (a b c : Obj) : Below w.heap.size w (((w.alloc a).alloc b).alloc c) := (((Below.refl _ _).alloc (Nat.le_refl _) _).alloc (by simp) _).alloc (by simp; omega) _

set_option maxHeartbeats 16000000 in
theorem valve_of (w : World) (t : Tp) (c : Nat) (hc : c ≤ 7) (v : Int) (o : Bool) (hv : v = (c / 2 : Nat)) (ho : o = decide (c % 2 = 0)) :
    Calls Tryz.prog 47 #[t.val, .int .i64 v, .bool o] w fun e w' => e = .returned (stepB (if t.alw c = true then (t.beh c, true) else (t, false))) ∧ Below w.heap.size w w' := by
  obtain ⟨m, k, v, u, d, p, g, i⟩ := t
  have hc2 : c = 0 ∨ c = 1 ∨ c = 2 ∨ c = 3 ∨ c = 4 ∨ c = 5 ∨ c = 6 ∨ c = 7 := by omega
  clear hc
  subst hv ho
  dsimp only [Tp.val]
  rcases hc2 with rfl | rfl | rfl | rfl | rfl | rfl | rfl | rfl
  all_goals
    dsimp only [Tp.alw, Tp.beh]
    go_enter Tryz.func47, Tryz.ntmps47
  · cases m
    · cases d
      · cases u
        · go_wp2_with fail
          first
            | (go_region; go_wp2_with fail; refine bodyPost_ret (v := .tuple #[.agg #[.bool _, .bool _, .bool _, .bool _, .bool _, .int .i64 _, .int .i64 _, .int .i64 _], .bool _]) (by simp [results, Tryz.f47, go_sem]) rfl ⟨rfl, ?_⟩; exact (three_low _ _ _ _).drew)
            | (refine bodyPost_ret (v := .tuple #[.agg #[.bool _, .bool _, .bool _, .bool _, .bool _, .int .i64 _, .int .i64 _, .int .i64 _], .bool _]) (by simp [results, Tryz.f47, go_sem]) rfl ⟨rfl, ?_⟩; exact three_low _ _ _ _)
        · go_wp2_with fail
          first
            | (go_region; go_wp2_with fail; refine bodyPost_ret (v := .tuple #[.agg #[.bool _, .bool _, .bool _, .bool _, .bool _, .int .i64 _, .int .i64 _, .int .i64 _], .bool _]) (by simp [results, Tryz.f47, go_sem]) rfl ⟨rfl, ?_⟩; exact (three_low _ _ _ _).drew)
            | (refine bodyPost_ret (v := .tuple #[.agg #[.bool _, .bool _, .bool _, .bool _, .bool _, .int .i64 _, .int .i64 _, .int .i64 _], .bool _]) (by simp [results, Tryz.f47, go_sem]) rfl ⟨rfl, ?_⟩; exact three_low _ _ _ _)
      · go_wp2_with fail
        first
          | (go_region; go_wp2_with fail; refine bodyPost_ret (v := .tuple #[.agg #[.bool _, .bool _, .bool _, .bool _, .bool _, .int .i64 _, .int .i64 _, .int .i64 _], .bool _]) (by simp [results, Tryz.f47, go_sem]) rfl ⟨rfl, ?_⟩; exact (three_low _ _ _ _).drew)
          | (refine bodyPost_ret (v := .tuple #[.agg #[.bool _, .bool _, .bool _, .bool _, .bool _, .int .i64 _, .int .i64 _, .int .i64 _], .bool _]) (by simp [results, Tryz.f47, go_sem]) rfl ⟨rfl, ?_⟩; exact three_low _ _ _ _)
    · go_wp2_with fail
      first
        | (go_region; go_wp2_with fail; refine bodyPost_ret (v := .tuple #[.agg #[.bool _, .bool _, .bool _, .bool _, .bool _, .int .i64 _, .int .i64 _, .int .i64 _], .bool _]) (by simp [results, Tryz.f47, go_sem]) rfl ⟨rfl, ?_⟩; exact (three_low _ _ _ _).drew)
        | (refine bodyPost_ret (v := .tuple #[.agg #[.bool _, .bool _, .bool _, .bool _, .bool _, .int .i64 _, .int .i64 _, .int .i64 _], .bool _]) (by simp [results, Tryz.f47, go_sem]) rfl ⟨rfl, ?_⟩; exact three_low _ _ _ _)
  · cases m
    · go_wp2_with fail
      first
        | (go_region; go_wp2_with fail; refine bodyPost_ret (v := .tuple #[.agg #[.bool _, .bool _, .bool _, .bool _, .bool _, .int .i64 _, .int .i64 _, .int .i64 _], .bool _]) (by simp [results, Tryz.f47, go_sem]) rfl ⟨rfl, ?_⟩; exact (three_low _ _ _ _).drew)
        | (refine bodyPost_ret (v := .tuple #[.agg #[.bool _, .bool _, .bool _, .bool _, .bool _, .int .i64 _, .int .i64 _, .int .i64 _], .bool _]) (by simp [results, Tryz.f47, go_sem]) rfl ⟨rfl, ?_⟩; exact three_low _ _ _ _)
    · cases d
      · go_wp2_with fail
        first
          | (go_region; go_wp2_with fail; refine bodyPost_ret (v := .tuple #[.agg #[.bool _, .bool _, .bool _, .bool _, .bool _, .int .i64 _, .int .i64 _, .int .i64 _], .bool _]) (by simp [results, Tryz.f47, go_sem]) rfl ⟨rfl, ?_⟩; exact (three_low _ _ _ _).drew)
          | (refine bodyPost_ret (v := .tuple #[.agg #[.bool _, .bool _, .bool _, .bool _, .bool _, .int .i64 _, .int .i64 _, .int .i64 _], .bool _]) (by simp [results, Tryz.f47, go_sem]) rfl ⟨rfl, ?_⟩; exact three_low _ _ _ _)
      · go_wp2_with fail
        first
          | (go_region; go_wp2_with fail; refine bodyPost_ret (v := .tuple #[.agg #[.bool _, .bool _, .bool _, .bool _, .bool _, .int .i64 _, .int .i64 _, .int .i64 _], .bool _]) (by simp [results, Tryz.f47, go_sem]) rfl ⟨rfl, ?_⟩; exact (three_low _ _ _ _).drew)
          | (refine bodyPost_ret (v := .tuple #[.agg #[.bool _, .bool _, .bool _, .bool _, .bool _, .int .i64 _, .int .i64 _, .int .i64 _], .bool _]) (by simp [results, Tryz.f47, go_sem]) rfl ⟨rfl, ?_⟩; exact three_low _ _ _ _)
  · cases k
    · cases d
      · cases u
        · go_wp2_with fail
          first
            | (go_region; go_wp2_with fail; refine bodyPost_ret (v := .tuple #[.agg #[.bool _, .bool _, .bool _, .bool _, .bool _, .int .i64 _, .int .i64 _, .int .i64 _], .bool _]) (by simp [results, Tryz.f47, go_sem]) rfl ⟨rfl, ?_⟩; exact (three_low _ _ _ _).drew)
            | (refine bodyPost_ret (v := .tuple #[.agg #[.bool _, .bool _, .bool _, .bool _, .bool _, .int .i64 _, .int .i64 _, .int .i64 _], .bool _]) (by simp [results, Tryz.f47, go_sem]) rfl ⟨rfl, ?_⟩; exact three_low _ _ _ _)
        · go_wp2_with fail
          first
            | (go_region; go_wp2_with fail; refine bodyPost_ret (v := .tuple #[.agg #[.bool _, .bool _, .bool _, .bool _, .bool _, .int .i64 _, .int .i64 _, .int .i64 _], .bool _]) (by simp [results, Tryz.f47, go_sem]) rfl ⟨rfl, ?_⟩; exact (three_low _ _ _ _).drew)
            | (refine bodyPost_ret (v := .tuple #[.agg #[.bool _, .bool _, .bool _, .bool _, .bool _, .int .i64 _, .int .i64 _, .int .i64 _], .bool _]) (by simp [results, Tryz.f47, go_sem]) rfl ⟨rfl, ?_⟩; exact three_low _ _ _ _)
      · go_wp2_with fail
        first
          | (go_region; go_wp2_with fail; refine bodyPost_ret (v := .tuple #[.agg #[.bool _, .bool _, .bool _, .bool _, .bool _, .int .i64 _, .int .i64 _, .int .i64 _], .bool _]) (by simp [results, Tryz.f47, go_sem]) rfl ⟨rfl, ?_⟩; exact (three_low _ _ _ _).drew)
          | (refine bodyPost_ret (v := .tuple #[.agg #[.bool _, .bool _, .bool _, .bool _, .bool _, .int .i64 _, .int .i64 _, .int .i64 _], .bool _]) (by simp [results, Tryz.f47, go_sem]) rfl ⟨rfl, ?_⟩; exact three_low _ _ _ _)
    · go_wp2_with fail
      first
        | (go_region; go_wp2_with fail; refine bodyPost_ret (v := .tuple #[.agg #[.bool _, .bool _, .bool _, .bool _, .bool _, .int .i64 _, .int .i64 _, .int .i64 _], .bool _]) (by simp [results, Tryz.f47, go_sem]) rfl ⟨rfl, ?_⟩; exact (three_low _ _ _ _).drew)
        | (refine bodyPost_ret (v := .tuple #[.agg #[.bool _, .bool _, .bool _, .bool _, .bool _, .int .i64 _, .int .i64 _, .int .i64 _], .bool _]) (by simp [results, Tryz.f47, go_sem]) rfl ⟨rfl, ?_⟩; exact three_low _ _ _ _)
  · cases k
    · go_wp2_with fail
      first
        | (go_region; go_wp2_with fail; refine bodyPost_ret (v := .tuple #[.agg #[.bool _, .bool _, .bool _, .bool _, .bool _, .int .i64 _, .int .i64 _, .int .i64 _], .bool _]) (by simp [results, Tryz.f47, go_sem]) rfl ⟨rfl, ?_⟩; exact (three_low _ _ _ _).drew)
        | (refine bodyPost_ret (v := .tuple #[.agg #[.bool _, .bool _, .bool _, .bool _, .bool _, .int .i64 _, .int .i64 _, .int .i64 _], .bool _]) (by simp [results, Tryz.f47, go_sem]) rfl ⟨rfl, ?_⟩; exact three_low _ _ _ _)
    · cases d
      · go_wp2_with fail
        first
          | (go_region; go_wp2_with fail; refine bodyPost_ret (v := .tuple #[.agg #[.bool _, .bool _, .bool _, .bool _, .bool _, .int .i64 _, .int .i64 _, .int .i64 _], .bool _]) (by simp [results, Tryz.f47, go_sem]) rfl ⟨rfl, ?_⟩; exact (three_low _ _ _ _).drew)
          | (refine bodyPost_ret (v := .tuple #[.agg #[.bool _, .bool _, .bool _, .bool _, .bool _, .int .i64 _, .int .i64 _, .int .i64 _], .bool _]) (by simp [results, Tryz.f47, go_sem]) rfl ⟨rfl, ?_⟩; exact three_low _ _ _ _)
      · go_wp2_with fail
        first
          | (go_region; go_wp2_with fail; refine bodyPost_ret (v := .tuple #[.agg #[.bool _, .bool _, .bool _, .bool _, .bool _, .int .i64 _, .int .i64 _, .int .i64 _], .bool _]) (by simp [results, Tryz.f47, go_sem]) rfl ⟨rfl, ?_⟩; exact (three_low _ _ _ _).drew)
          | (refine bodyPost_ret (v := .tuple #[.agg #[.bool _, .bool _, .bool _, .bool _, .bool _, .int .i64 _, .int .i64 _, .int .i64 _], .bool _]) (by simp [results, Tryz.f47, go_sem]) rfl ⟨rfl, ?_⟩; exact three_low _ _ _ _)
  · cases v
    · cases d
      · go_wp2_with fail
        first
          | (go_region; go_wp2_with fail; refine bodyPost_ret (v := .tuple #[.agg #[.bool _, .bool _, .bool _, .bool _, .bool _, .int .i64 _, .int .i64 _, .int .i64 _], .bool _]) (by simp [results, Tryz.f47, go_sem]) rfl ⟨rfl, ?_⟩; exact (three_low _ _ _ _).drew)
          | (refine bodyPost_ret (v := .tuple #[.agg #[.bool _, .bool _, .bool _, .bool _, .bool _, .int .i64 _, .int .i64 _, .int .i64 _], .bool _]) (by simp [results, Tryz.f47, go_sem]) rfl ⟨rfl, ?_⟩; exact three_low _ _ _ _)
      · go_wp2_with fail
        first
          | (go_region; go_wp2_with fail; refine bodyPost_ret (v := .tuple #[.agg #[.bool _, .bool _, .bool _, .bool _, .bool _, .int .i64 _, .int .i64 _, .int .i64 _], .bool _]) (by simp [results, Tryz.f47, go_sem]) rfl ⟨rfl, ?_⟩; exact (three_low _ _ _ _).drew)
          | (refine bodyPost_ret (v := .tuple #[.agg #[.bool _, .bool _, .bool _, .bool _, .bool _, .int .i64 _, .int .i64 _, .int .i64 _], .bool _]) (by simp [results, Tryz.f47, go_sem]) rfl ⟨rfl, ?_⟩; exact three_low _ _ _ _)
    · go_wp2_with fail
      first
        | (go_region; go_wp2_with fail; refine bodyPost_ret (v := .tuple #[.agg #[.bool _, .bool _, .bool _, .bool _, .bool _, .int .i64 _, .int .i64 _, .int .i64 _], .bool _]) (by simp [results, Tryz.f47, go_sem]) rfl ⟨rfl, ?_⟩; exact (three_low _ _ _ _).drew)
        | (refine bodyPost_ret (v := .tuple #[.agg #[.bool _, .bool _, .bool _, .bool _, .bool _, .int .i64 _, .int .i64 _, .int .i64 _], .bool _]) (by simp [results, Tryz.f47, go_sem]) rfl ⟨rfl, ?_⟩; exact three_low _ _ _ _)
  · cases v
    · go_wp2_with fail
      first
        | (go_region; go_wp2_with fail; refine bodyPost_ret (v := .tuple #[.agg #[.bool _, .bool _, .bool _, .bool _, .bool _, .int .i64 _, .int .i64 _, .int .i64 _], .bool _]) (by simp [results, Tryz.f47, go_sem]) rfl ⟨rfl, ?_⟩; exact (three_low _ _ _ _).drew)
        | (refine bodyPost_ret (v := .tuple #[.agg #[.bool _, .bool _, .bool _, .bool _, .bool _, .int .i64 _, .int .i64 _, .int .i64 _], .bool _]) (by simp [results, Tryz.f47, go_sem]) rfl ⟨rfl, ?_⟩; exact three_low _ _ _ _)
    · cases d
      · go_wp2_with fail
        first
          | (go_region; go_wp2_with fail; refine bodyPost_ret (v := .tuple #[.agg #[.bool _, .bool _, .bool _, .bool _, .bool _, .int .i64 _, .int .i64 _, .int .i64 _], .bool _]) (by simp [results, Tryz.f47, go_sem]) rfl ⟨rfl, ?_⟩; exact (three_low _ _ _ _).drew)
          | (refine bodyPost_ret (v := .tuple #[.agg #[.bool _, .bool _, .bool _, .bool _, .bool _, .int .i64 _, .int .i64 _, .int .i64 _], .bool _]) (by simp [results, Tryz.f47, go_sem]) rfl ⟨rfl, ?_⟩; exact three_low _ _ _ _)
      · go_wp2_with fail
        first
          | (go_region; go_wp2_with fail; refine bodyPost_ret (v := .tuple #[.agg #[.bool _, .bool _, .bool _, .bool _, .bool _, .int .i64 _, .int .i64 _, .int .i64 _], .bool _]) (by simp [results, Tryz.f47, go_sem]) rfl ⟨rfl, ?_⟩; exact (three_low _ _ _ _).drew)
          | (refine bodyPost_ret (v := .tuple #[.agg #[.bool _, .bool _, .bool _, .bool _, .bool _, .int .i64 _, .int .i64 _, .int .i64 _], .bool _]) (by simp [results, Tryz.f47, go_sem]) rfl ⟨rfl, ?_⟩; exact three_low _ _ _ _)
  · cases u
    · cases d
      · cases m
        · cases k
          · go_wp2_with fail
            first
              | (go_region; go_wp2_with fail; refine bodyPost_ret (v := .tuple #[.agg #[.bool _, .bool _, .bool _, .bool _, .bool _, .int .i64 _, .int .i64 _, .int .i64 _], .bool _]) (by simp [results, Tryz.f47, go_sem]) rfl ⟨rfl, ?_⟩; exact (three_low _ _ _ _).drew)
              | (refine bodyPost_ret (v := .tuple #[.agg #[.bool _, .bool _, .bool _, .bool _, .bool _, .int .i64 _, .int .i64 _, .int .i64 _], .bool _]) (by simp [results, Tryz.f47, go_sem]) rfl ⟨rfl, ?_⟩; exact three_low _ _ _ _)
          · go_wp2_with fail
            first
              | (go_region; go_wp2_with fail; refine bodyPost_ret (v := .tuple #[.agg #[.bool _, .bool _, .bool _, .bool _, .bool _, .int .i64 _, .int .i64 _, .int .i64 _], .bool _]) (by simp [results, Tryz.f47, go_sem]) rfl ⟨rfl, ?_⟩; exact (three_low _ _ _ _).drew)
              | (refine bodyPost_ret (v := .tuple #[.agg #[.bool _, .bool _, .bool _, .bool _, .bool _, .int .i64 _, .int .i64 _, .int .i64 _], .bool _]) (by simp [results, Tryz.f47, go_sem]) rfl ⟨rfl, ?_⟩; exact three_low _ _ _ _)
        · go_wp2_with fail
          first
            | (go_region; go_wp2_with fail; refine bodyPost_ret (v := .tuple #[.agg #[.bool _, .bool _, .bool _, .bool _, .bool _, .int .i64 _, .int .i64 _, .int .i64 _], .bool _]) (by simp [results, Tryz.f47, go_sem]) rfl ⟨rfl, ?_⟩; exact (three_low _ _ _ _).drew)
            | (refine bodyPost_ret (v := .tuple #[.agg #[.bool _, .bool _, .bool _, .bool _, .bool _, .int .i64 _, .int .i64 _, .int .i64 _], .bool _]) (by simp [results, Tryz.f47, go_sem]) rfl ⟨rfl, ?_⟩; exact three_low _ _ _ _)
      · go_wp2_with fail
        first
          | (go_region; go_wp2_with fail; refine bodyPost_ret (v := .tuple #[.agg #[.bool _, .bool _, .bool _, .bool _, .bool _, .int .i64 _, .int .i64 _, .int .i64 _], .bool _]) (by simp [results, Tryz.f47, go_sem]) rfl ⟨rfl, ?_⟩; exact (three_low _ _ _ _).drew)
          | (refine bodyPost_ret (v := .tuple #[.agg #[.bool _, .bool _, .bool _, .bool _, .bool _, .int .i64 _, .int .i64 _, .int .i64 _], .bool _]) (by simp [results, Tryz.f47, go_sem]) rfl ⟨rfl, ?_⟩; exact three_low _ _ _ _)
    · go_wp2_with fail
      first
        | (go_region; go_wp2_with fail; refine bodyPost_ret (v := .tuple #[.agg #[.bool _, .bool _, .bool _, .bool _, .bool _, .int .i64 _, .int .i64 _, .int .i64 _], .bool _]) (by simp [results, Tryz.f47, go_sem]) rfl ⟨rfl, ?_⟩; exact (three_low _ _ _ _).drew)
        | (refine bodyPost_ret (v := .tuple #[.agg #[.bool _, .bool _, .bool _, .bool _, .bool _, .int .i64 _, .int .i64 _, .int .i64 _], .bool _]) (by simp [results, Tryz.f47, go_sem]) rfl ⟨rfl, ?_⟩; exact three_low _ _ _ _)
  · cases u
    · go_wp2_with fail
      first
        | (go_region; go_wp2_with fail; refine bodyPost_ret (v := .tuple #[.agg #[.bool _, .bool _, .bool _, .bool _, .bool _, .int .i64 _, .int .i64 _, .int .i64 _], .bool _]) (by simp [results, Tryz.f47, go_sem]) rfl ⟨rfl, ?_⟩; exact (three_low _ _ _ _).drew)
        | (refine bodyPost_ret (v := .tuple #[.agg #[.bool _, .bool _, .bool _, .bool _, .bool _, .int .i64 _, .int .i64 _, .int .i64 _], .bool _]) (by simp [results, Tryz.f47, go_sem]) rfl ⟨rfl, ?_⟩; exact three_low _ _ _ _)
    · cases d
      · go_wp2_with fail
        first
          | (go_region; go_wp2_with fail; refine bodyPost_ret (v := .tuple #[.agg #[.bool _, .bool _, .bool _, .bool _, .bool _, .int .i64 _, .int .i64 _, .int .i64 _], .bool _]) (by simp [results, Tryz.f47, go_sem]) rfl ⟨rfl, ?_⟩; exact (three_low _ _ _ _).drew)
          | (refine bodyPost_ret (v := .tuple #[.agg #[.bool _, .bool _, .bool _, .bool _, .bool _, .int .i64 _, .int .i64 _, .int .i64 _], .bool _]) (by simp [results, Tryz.f47, go_sem]) rfl ⟨rfl, ?_⟩; exact three_low _ _ _ _)
      · go_wp2_with fail
        first
          | (go_region; go_wp2_with fail; refine bodyPost_ret (v := .tuple #[.agg #[.bool _, .bool _, .bool _, .bool _, .bool _, .int .i64 _, .int .i64 _, .int .i64 _], .bool _]) (by simp [results, Tryz.f47, go_sem]) rfl ⟨rfl, ?_⟩; exact (three_low _ _ _ _).drew)
          | (refine bodyPost_ret (v := .tuple #[.agg #[.bool _, .bool _, .bool _, .bool _, .bool _, .int .i64 _, .int .i64 _, .int .i64 _], .bool _]) (by simp [results, Tryz.f47, go_sem]) rfl ⟨rfl, ?_⟩; exact three_low _ _ _ _)
end Go.Proofs.YtmdniebedflpbaaGreatDoor
