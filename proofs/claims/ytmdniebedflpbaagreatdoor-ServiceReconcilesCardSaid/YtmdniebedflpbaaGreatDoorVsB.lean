/-
  WALKS: traps: where the pig goes, a while later, behind a command (the program).
-/
import Derived.Test.YtmdniebedflpbaaGreatDoorVsA
namespace Go.Proofs.YtmdniebedflpbaaGreatDoor
open Go.RowKit

def Tp.mov (t : Tp) : Int := if t.m = true ∧ t.p = 3 ∧ t.k = true ∧ t.i = 1 then 2 else if t.m = true ∧ t.p = 3 ∧ t.k = false ∧ t.i = 2 then 1 else t.i
set_option maxHeartbeats 8000000 in
theorem moved_of (w : World) (t : Tp) : Calls Tryz.prog 112 #[t.val] w fun e w' => e = .returned (.int .i64 t.mov) ∧ Below w.heap.size w w' := by
  obtain ⟨x, hx⟩ : ∃ x, t.mov = x := ⟨_, rfl⟩
  rw [hx]
  have HX := Lib.hid hx
  clear hx
  obtain ⟨m, k, v, u, d, p, g, i⟩ := t
  dsimp only [Tp.val] at HX ⊢
  go_enter Tryz.func112, Tryz.ntmps112
  go_upto_region 1 with fail
  obtain ⟨W, hW⟩ : ∃ W, w.alloc (.cells #[.bool m, .bool k, .bool v, .bool u, .bool d, .int .i64 p, .int .i64 g, .int .i64 i] 23) = W := ⟨_, rfl⟩
  rw [hW]
  obtain ⟨hB, hH⟩ := Tp.new w (.mk m k v u d p g i) _ hW
  have HB := Lib.hid hB
  have s0 := cell_h (k := 0) hH rfl
  have s1 := cell_h (k := 1) hH rfl
  have s5 := cell_h (k := 5) hH rfl
  have s7 := cell_h (k := 7) hH rfl
  clear hB hH hW
  cases m
  · go_wp2_with fail
    go_ret
    exact ⟨by rw [← HX.out]; rfl, HB.out⟩
  by_cases hp : p = 3
  rotate_left
  · have hp2 : (p == 3) = false := by simpa using hp
    go_wp2_with fail
    go_ret
    exact ⟨by rw [← HX.out]; simp [Tp.mov, hp], HB.out⟩
  subst hp
  cases k
  · by_cases hi : i = 2
    · subst hi
      go_wp2_with fail
      go_ret
      exact ⟨by rw [← HX.out]; rfl, HB.out⟩
    · have hi2 : (i == 2) = false := by simpa using hi
      go_wp2_with fail
      go_ret
      exact ⟨by rw [← HX.out]; simp [Tp.mov, hi], HB.out⟩
  · by_cases hi : i = 1
    · subst hi
      go_wp2_with fail
      go_ret
      exact ⟨by rw [← HX.out]; rfl, HB.out⟩
    · have hi2 : (i == 1) = false := by simpa using hi
      go_wp2_with fail
      go_ret
      exact ⟨by rw [← HX.out]; simp [Tp.mov, hi], HB.out⟩

set_option maxHeartbeats 8000000 in
theorem ticked_of (w : World) (t : Tp) (ht : t.ok) : Calls Tryz.prog 87 #[t.val] w fun e w' => e = .returned t.tick.val ∧ Below w.heap.size w w' := by
  obtain ⟨x, hx⟩ : ∃ x, t.tick = x := ⟨_, rfl⟩
  rw [hx]
  have HX := Lib.hid hx
  clear hx
  obtain ⟨m, k, v, u, d, p, g, i⟩ := t
  obtain ⟨hp, hg, hi⟩ := ht
  dsimp only at hp hg hi
  have HM : Hid (∀ W x, Calls Tryz.prog 112 #[.agg #[.bool m, .bool k, .bool v, .bool u, .bool d, .int .i64 x, .int .i64 3, .int .i64 i]] W fun e w' => e = .returned (.int .i64 (Tp.mk m k v u d x 3 i).mov) ∧ Below W.heap.size W w') := fun W x => moved_of W (.mk m k v u d x 3 i)
  have w1 : IntKind.i64.wrap (p + 1) = p + 1 := IntWalk.i64_in _ (by omega)
  have w2 : IntKind.i64.wrap (p - 1) = p - 1 := IntWalk.i64_in _ (by omega)
  have w3 : IntKind.i64.wrap (g - 1) = g - 1 := IntWalk.i64_in _ (by omega)
  dsimp only [Tp.val] at HX ⊢
  go_enter Tryz.func87, Tryz.ntmps87
  by_cases hmk : m = false ∧ k = false
  · obtain ⟨rfl, rfl⟩ := hmk
    clear HM
    cases v
    · cases u
      all_goals
        go_wp2_with fail
        all_goals
          refine bodyPost_ret (v := .agg #[.bool x.m, .bool x.k, .bool x.v, .bool x.u, .bool x.d, .int .i64 x.p, .int .i64 x.g, .int .i64 x.i]) (by rw [← HX.out]; simp [results, Tryz.f87, go_sem, Tp.tick] <;> omega) rfl ⟨rfl, ((Below.refl _ _).alloc (Nat.le_refl _) _).alloc (by simp) _⟩
    · cases u
      all_goals
        go_wp2_with fail
        all_goals
          refine bodyPost_ret (v := .agg #[.bool x.m, .bool x.k, .bool x.v, .bool x.u, .bool x.d, .int .i64 x.p, .int .i64 x.g, .int .i64 x.i]) (by rw [← HX.out]; simp [results, Tryz.f87, go_sem, Tp.tick] <;> omega) rfl ⟨rfl, ((Below.refl _ _).alloc (Nat.le_refl _) _).alloc (by simp) _⟩
  · obtain ⟨q, hq⟩ : ∃ q, q = min (p + 1) 3 := ⟨_, rfl⟩
    have hX : x = ⟨m, k, v, u, d, q, 3, (Tp.mk m k v u d q 3 i).mov⟩ := by
      rw [← HX.out, hq]
      unfold Tp.tick Tp.mov
      rw [if_pos (by revert hmk; cases m <;> cases k <;> simp)]
    subst hX
    dsimp only at HX ⊢
    have HM2 := Lib.hid (fun W => HM.out W q)
    obtain ⟨z, hz⟩ : ∃ z, (Tp.mk m k v u d q 3 i).mov = z := ⟨_, rfl⟩
    rw [hz] at HM2 ⊢
    clear HX HM hz
    have hq2 : (p + 1 ≤ 3 ∧ q = p + 1) ∨ (3 < p + 1 ∧ q = 3) := by omega
    clear hq
    have hmk2 : m = true ∨ (m = false ∧ k = true) := by revert hmk; cases m <;> cases k <;> simp
    clear hmk
    rcases hq2 with ⟨h1, rfl⟩ | ⟨h1, rfl⟩ <;> rcases hmk2 with rfl | ⟨rfl, rfl⟩
    all_goals
      go_wp2_with fail
      refine (HM2.out _).mono ?_
      rintro e V ⟨rfl, hV⟩
      have c0 := (hV.block _ (by simp; omega)).trans (al_old (new_heap w _) _)
      have c1 := (hV.block _ (by simp)).trans (al_1 w _ _)
      have HV : Hid (Below w.heap.size w V) := low_trans (((Below.refl _ _).alloc (Nat.le_refl _) _).alloc (by simp) _) hV
      clear hV HM2
      have s0 := cell_h (k := 0) c0 rfl
      have s1 := cell_h (k := 1) c0 rfl
      have s2 := cell_h (k := 2) c0 rfl
      have s3 := cell_h (k := 3) c0 rfl
      have s4 := cell_h (k := 4) c0 rfl
      have s5 := cell_h (k := 5) c0 rfl
      have s6 := cell_h (k := 6) c0 rfl
      have s7 := cell_h (k := 7) c0 rfl
      have d0 := cell_h (k := 0) c1 rfl
      have d1 := cell_h (k := 1) c1 rfl
      have d2 := cell_h (k := 2) c1 rfl
      have d3 := cell_h (k := 3) c1 rfl
      have d4 := cell_h (k := 4) c1 rfl
      have d5 := cell_h (k := 5) c1 rfl
      have d6 := cell_h (k := 6) c1 rfl
      have d7 := cell_h (k := 7) c1 rfl
      have f0 := fz_h c0
      have f1 := fz_h c1
      go_wp2_with fail
      refine bodyPost_ret (v := .agg #[.bool _, .bool _, .bool _, .bool _, .bool _, .int .i64 _, .int .i64 _, .int .i64 _]) (by simp [results, Tryz.f87, go_sem, d0, d1, d2, d3, d4, d5, d6, d7]) rfl ⟨rfl, ?_⟩
      iterate 9 refine Below.setCell ?_ (by simp) _
      exact HV.out

set_option maxHeartbeats 16000000 in
theorem behind_of (w : World) (t : Tp) (ht : t.ok) (c : Nat) (hc : c ≤ 12) : Calls Tryz.prog 46 #[t.val, .int .i64 (c : Int)] w fun e w' => e = .returned (t.beh c).val ∧ Below w.heap.size w w' := by
  have HT : Hid (∀ W, Calls Tryz.prog 87 #[t.val] W fun e w' => e = .returned t.tick.val ∧ Below W.heap.size W w') := fun W => ticked_of W t ht
  by_cases h12 : c = 12
  · subst h12
    have e : t.beh 12 = t.tick := rfl
    rw [e]
    obtain ⟨x, hx⟩ : ∃ x, t.tick = x := ⟨_, rfl⟩
    rw [hx] at HT ⊢
    clear hx e
    obtain ⟨m, k, v, u, d, p, g, i⟩ := t
    dsimp only [Tp.val] at HT ⊢
    go_enter Tryz.func46, Tryz.ntmps46
    go_wp2_with fail
    refine (HT.out _).mono ?_
    rintro e V ⟨rfl, hV⟩
    have c1 := (hV.block _ (by simp)).trans (al_1 w _ _)
    have HV : Hid (Below w.heap.size w V) := low_trans (((Below.refl _ _).alloc (Nat.le_refl _) _).alloc (by simp) _) hV
    clear hV HT
    have d0 := cell_h (k := 0) c1 rfl
    have d1 := cell_h (k := 1) c1 rfl
    have d2 := cell_h (k := 2) c1 rfl
    have d3 := cell_h (k := 3) c1 rfl
    have d4 := cell_h (k := 4) c1 rfl
    have d5 := cell_h (k := 5) c1 rfl
    have d6 := cell_h (k := 6) c1 rfl
    have d7 := cell_h (k := 7) c1 rfl
    have f1 := fz_h c1
    go_wp2_with fail
    refine bodyPost_ret (v := .agg #[.bool _, .bool _, .bool _, .bool _, .bool _, .int .i64 _, .int .i64 _, .int .i64 _]) (by simp [results, Tryz.f46, go_sem, d0, d1, d2, d3, d4, d5, d6, d7]) rfl ⟨rfl, ?_⟩
    iterate 8 refine Below.setCell ?_ (by simp) _
    exact HV.out
  · clear HT
    obtain ⟨m, k, v, u, d, p, g, i⟩ := t
    have hc2 : c = 0 ∨ c = 1 ∨ c = 2 ∨ c = 3 ∨ c = 4 ∨ c = 5 ∨ c = 6 ∨ c = 7 ∨ c = 8 ∨ c = 9 ∨ c = 10 ∨ c = 11 := by omega
    clear hc h12 ht
    dsimp only [Tp.val]
    rcases hc2 with rfl | rfl | rfl | rfl | rfl | rfl | rfl | rfl | rfl | rfl | rfl | rfl
    all_goals
      dsimp only [Tp.beh]
      go_enter Tryz.func46, Tryz.ntmps46
      go_wp2_with fail
      refine bodyPost_ret (v := .agg #[.bool _, .bool _, .bool _, .bool _, .bool _, .int .i64 _, .int .i64 _, .int .i64 _]) (by simp [results, Tryz.f46, go_sem]) rfl ⟨rfl, ((Below.refl _ _).alloc (Nat.le_refl _) _).alloc (by simp) _⟩
end Go.Proofs.YtmdniebedflpbaaGreatDoor
