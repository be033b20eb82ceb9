/-
  WALKS: growth: Cost of the program and of the reference.
-/
import Derived.Test.YtlbffdgojmjijaaGreatDoorGrG
import Derived.Deep.QuietTactic
namespace Go.Proofs.YtlbffdgojmjijaaGreatDoor
open Go.RowKit

/-- What Cost tells, and its error, out of the errors of the rule and of both findings, the distance and the turn. -/
def csP (x y z d u f t s : Int) : Int × Int := if ¬x = 0 then (0, x) else if ¬y = 0 then (0, y) else if ¬z = 0 then (0, z) else if f < d ∨ t < u then (0, 5) else (d + s * u, 0)
set_option maxRecDepth 100000 in
set_option maxHeartbeats 8000000 in
theorem gCost_of (w : World) (a c l wd lo hi a' c' l' wd' lo' hi' f t s al r e : Int) (h : csP (rlE f t s al) (fdE a c l wd lo hi) (fdE a' c' l' wd' lo' hi') (max (a - a') (a' - a)) (arV c c') f t s = (r, e)) :
    Calls Tryz.prog 13 #[.agg #[.int .i64 a, .int .i64 c, .int .i64 l, .int .i64 wd, .int .i64 lo, .int .i64 hi], .agg #[.int .i64 a', .int .i64 c', .int .i64 l', .int .i64 wd', .int .i64 lo', .int .i64 hi'], .agg #[.int .i64 f, .int .i64 t, .int .i64 s, .int .i64 al]] w fun e' w' => e' = .returned (.tuple #[.int .i64 r, .int .i64 e]) ∧ Below w.heap.size w w' := by
  obtain ⟨x, hx⟩ : ∃ x, rlE f t s al = x := ⟨_, rfl⟩
  obtain ⟨y, hy⟩ : ∃ x, fdE a c l wd lo hi = x := ⟨_, rfl⟩
  obtain ⟨z, hz⟩ : ∃ x, fdE a' c' l' wd' lo' hi' = x := ⟨_, rfl⟩
  have hxc := rlE_cases f t s al
  have hyc := fdE_cases a c l wd lo hi
  have hzc := fdE_cases a' c' l' wd' lo' hi'
  rw [hx] at h hxc
  rw [hy] at h hyc
  rw [hz] at h hzc
  have HX := Lib.hid hx
  have HY := Lib.hid hy
  have HZ := Lib.hid hz
  have HH := Lib.hid h
  clear hx hy hz h
  go_enter Tryz.func13, Tryz.ntmps13
  go_upto_region 1 with fail
  obtain ⟨W, hW⟩ : ∃ W, ((w.alloc (.cells #[.int .i64 a, .int .i64 c, .int .i64 l, .int .i64 wd, .int .i64 lo, .int .i64 hi] 26)).alloc (.cells #[.int .i64 a', .int .i64 c', .int .i64 l', .int .i64 wd', .int .i64 lo', .int .i64 hi'] 26)).alloc (.cells #[.int .i64 f, .int .i64 t, .int .i64 s, .int .i64 al] 28) = W := ⟨_, rfl⟩
  rw [hW]
  have hB : Below w.heap.size w W := by rw [← hW]; exact (((Below.refl _ _).alloc (Nat.le_refl _) _).alloc (by simp) _).alloc (by simp; omega) _
  have hP : W.heap[w.heap.size]? = some (.cells #[.int .i64 a, .int .i64 c, .int .i64 l, .int .i64 wd, .int .i64 lo, .int .i64 hi] 26 (0, 0)) ∧ W.heap[w.heap.size + 1]? = some (.cells #[.int .i64 a', .int .i64 c', .int .i64 l', .int .i64 wd', .int .i64 lo', .int .i64 hi'] 26 (0, 0)) ∧ W.heap[w.heap.size + 1 + 1]? = some (.cells #[.int .i64 f, .int .i64 t, .int .i64 s, .int .i64 al] 28 (0, 0)) := by rw [← hW]; exact ⟨al_old (al_old (World.alloc_heap_new w _) _) _, al_old (al_1 w _ _) _, al_2 w _ _ _⟩
  have HB := Lib.hid hB
  have HP := Lib.hid hP
  clear hW hB hP
  have s0 := cell_h (k := 0) HP.out.1 rfl
  have s1 := cell_h (k := 1) HP.out.1 rfl
  have s2 := cell_h (k := 2) HP.out.1 rfl
  have s3 := cell_h (k := 3) HP.out.1 rfl
  have s4 := cell_h (k := 4) HP.out.1 rfl
  have s5 := cell_h (k := 5) HP.out.1 rfl
  have t0 := cell_h (k := 0) HP.out.2.1 rfl
  have t1 := cell_h (k := 1) HP.out.2.1 rfl
  have t2 := cell_h (k := 2) HP.out.2.1 rfl
  have t3 := cell_h (k := 3) HP.out.2.1 rfl
  have t4 := cell_h (k := 4) HP.out.2.1 rfl
  have t5 := cell_h (k := 5) HP.out.2.1 rfl
  have r0 := cell_h (k := 0) HP.out.2.2 rfl
  have r1 := cell_h (k := 1) HP.out.2.2 rfl
  have r2 := cell_h (k := 2) HP.out.2.2 rfl
  have r3 := cell_h (k := 3) HP.out.2.2 rfl
  go_wp2_with fail
  refine (grule_of W f t s al).mono ?_
  rintro e9 W1 ⟨rfl, hb⟩
  have HB1 := Lib.hid (low_trans HB.out hb)
  have HP1 := Lib.hid (blk3 HP.out hb)
  rw [HX.out]
  clear hb HB HP
  clear s0 s1 s2 s3 s4 s5 t0 t1 t2 t3 t4 t5 r0 r1 r2 r3
  by_cases hx : x = 0
  rotate_left
  · have hre : ((0 : Int), x) = (r, e) := by rw [← HH.out, csP, if_pos hx]
    go_wp2_with fail
    obtain ⟨rfl, rfl⟩ := Prod.mk.inj hre
    exact bodyPost_ret (v := .tuple #[.int .i64 (0), .int .i64 x]) (by simp [results, Tryz.f13, go_sem]) rfl ⟨rfl, HB1.out⟩
  subst hx
  have s0 := cell_h (k := 0) HP1.out.1 rfl
  have s1 := cell_h (k := 1) HP1.out.1 rfl
  have s2 := cell_h (k := 2) HP1.out.1 rfl
  have s3 := cell_h (k := 3) HP1.out.1 rfl
  have s4 := cell_h (k := 4) HP1.out.1 rfl
  have s5 := cell_h (k := 5) HP1.out.1 rfl
  have t0 := cell_h (k := 0) HP1.out.2.1 rfl
  have t1 := cell_h (k := 1) HP1.out.2.1 rfl
  have t2 := cell_h (k := 2) HP1.out.2.1 rfl
  have t3 := cell_h (k := 3) HP1.out.2.1 rfl
  have t4 := cell_h (k := 4) HP1.out.2.1 rfl
  have t5 := cell_h (k := 5) HP1.out.2.1 rfl
  have r0 := cell_h (k := 0) HP1.out.2.2 rfl
  have r1 := cell_h (k := 1) HP1.out.2.2 rfl
  have r2 := cell_h (k := 2) HP1.out.2.2 rfl
  have r3 := cell_h (k := 3) HP1.out.2.2 rfl
  go_wp2_with fail
  refine (gboth_of W1 a c l wd lo hi a' c' l' wd' lo' hi' (if y = 0 then z else y) (by rw [HY.out, HZ.out])).mono ?_
  rintro e9 W2 ⟨rfl, hb⟩
  have HB2 := Lib.hid (low_trans HB1.out hb)
  have HP2 := Lib.hid (blk3 HP1.out hb)
  clear hb HB1 HP1
  clear s0 s1 s2 s3 s4 s5 t0 t1 t2 t3 t4 t5 r0 r1 r2 r3
  by_cases hy : y = 0
  rotate_left
  · rw [if_neg hy]
    have hre : ((0 : Int), y) = (r, e) := by rw [← HH.out, csP, if_neg (by simp), if_pos hy]
    go_wp2_with fail
    obtain ⟨rfl, rfl⟩ := Prod.mk.inj hre
    exact bodyPost_ret (v := .tuple #[.int .i64 (0), .int .i64 y]) (by simp [results, Tryz.f13, go_sem]) rfl ⟨rfl, HB2.out⟩
  rw [if_pos hy]
  subst hy
  by_cases hz : z = 0
  rotate_left
  · have hre : ((0 : Int), z) = (r, e) := by rw [← HH.out, csP, if_neg (by simp), if_neg (by simp), if_pos hz]
    go_wp2_with fail
    obtain ⟨rfl, rfl⟩ := Prod.mk.inj hre
    exact bodyPost_ret (v := .tuple #[.int .i64 (0), .int .i64 z]) (by simp [results, Tryz.f13, go_sem]) rfl ⟨rfl, HB2.out⟩
  subst hz
  obtain ⟨g1, g2, g3, g4⟩ : (0 ≤ f ∧ f ≤ 1048576) ∧ (0 ≤ t ∧ t ≤ 360) ∧ (0 ≤ s ∧ s ≤ 1024) ∧ (0 ≤ al ∧ al ≤ 1048576) := by
    rcases hxc with h | h
    · omega
    · exact h.2
  obtain ⟨y1, y2⟩ : inP a ∧ (0 ≤ c ∧ c < 720) := by
    rcases hyc with h | h | h
    · omega
    · omega
    · exact ⟨h.2.1, h.2.2.2.2.1⟩
  obtain ⟨z1, z2⟩ : inP a' ∧ (0 ≤ c' ∧ c' < 720) := by
    rcases hzc with h | h | h
    · omega
    · omega
    · exact ⟨h.2.1, h.2.2.2.2.1⟩
  unfold inP at y1 z1
  obtain ⟨d, hd⟩ : ∃ d, d = max (a - a') (a' - a) := ⟨_, rfl⟩
  obtain ⟨u, hu⟩ : ∃ u, u = arV c c' := ⟨_, rfl⟩
  have hd2 : 0 ≤ d ∧ d ≤ 1073741824 := by omega
  have hu2 : 0 ≤ u ∧ u ≤ 360 := by have := ar_in y2 z2; omega
  have m1 : 0 ≤ s * u := Int.mul_nonneg g3.1 hu2.1
  have m2 : s * u ≤ 1024 * 360 := Int.mul_le_mul g3.2 hu2.2 hu2.1 (by omega)
  have w1 : IntKind.i64.wrap (s * u) = s * u := IntWalk.i64_in _ (by omega)
  have w2 : IntKind.i64.wrap (d + s * u) = d + s * u := IntWalk.i64_in _ (by omega)
  have s0 := cell_h (k := 0) HP2.out.1 rfl
  have s1 := cell_h (k := 1) HP2.out.1 rfl
  have s2 := cell_h (k := 2) HP2.out.1 rfl
  have s3 := cell_h (k := 3) HP2.out.1 rfl
  have s4 := cell_h (k := 4) HP2.out.1 rfl
  have s5 := cell_h (k := 5) HP2.out.1 rfl
  have t0 := cell_h (k := 0) HP2.out.2.1 rfl
  have t1 := cell_h (k := 1) HP2.out.2.1 rfl
  have t2 := cell_h (k := 2) HP2.out.2.1 rfl
  have t3 := cell_h (k := 3) HP2.out.2.1 rfl
  have t4 := cell_h (k := 4) HP2.out.2.1 rfl
  have t5 := cell_h (k := 5) HP2.out.2.1 rfl
  have r0 := cell_h (k := 0) HP2.out.2.2 rfl
  have r1 := cell_h (k := 1) HP2.out.2.2 rfl
  have r2 := cell_h (k := 2) HP2.out.2.2 rfl
  have r3 := cell_h (k := 3) HP2.out.2.2 rfl
  have HD : Hid (∀ w, Calls Tryz.prog 39 #[.int .i64 a, .int .i64 a'] w fun e w' => e = .returned (.int .i64 d) ∧ w' = w) := fun w => gdist_of w a a' d (by omega) (by omega) hd
  have HU : Hid (∀ w, Calls Tryz.prog 33 #[.int .i64 c, .int .i64 c'] w fun e w' => e = .returned (.int .i64 u) ∧ w' = w) := fun w => by rw [hu]; exact garound_of w c c' y2 z2
  have HC : Hid (csP 0 0 0 d u f t s = (r, e)) := by rw [hd, hu]; exact HH
  clear HH hd hu hxc hyc hzc m1 m2 g1 g2 g3 g4 y1 y2 z1 z2 hd2 hu2
  go_upto_region 7 with fail
  go_quiet (first
    | (go_at_call 39; exact Calls.quiet_of_same (HD.out _))
    | (go_at_call 33; exact Calls.quiet_of_same (HU.out _)))
  have HB3 : Hid (Below w.heap.size w (W2.drewN nq)) := below_drewN HB2.out nq
  have HP3 : Hid ((W2.drewN nq).heap[w.heap.size]? = some (.cells #[.int .i64 a, .int .i64 c, .int .i64 l, .int .i64 wd, .int .i64 lo, .int .i64 hi] 26 (0, 0)) ∧ (W2.drewN nq).heap[w.heap.size + 1]? = some (.cells #[.int .i64 a', .int .i64 c', .int .i64 l', .int .i64 wd', .int .i64 lo', .int .i64 hi'] 26 (0, 0)) ∧ (W2.drewN nq).heap[w.heap.size + 1 + 1]? = some (.cells #[.int .i64 f, .int .i64 t, .int .i64 s, .int .i64 al] 28 (0, 0))) := HP2
  generalize W2.drewN nq = W3 at HB3 HP3 ⊢
  clear s0 s1 s2 s3 s4 s5 t0 t1 t2 t3 t4 t5 r0 r1 r2 r3
  have s0 := cell_h (k := 0) HP3.out.1 rfl
  have s1 := cell_h (k := 1) HP3.out.1 rfl
  have s2 := cell_h (k := 2) HP3.out.1 rfl
  have s3 := cell_h (k := 3) HP3.out.1 rfl
  have s4 := cell_h (k := 4) HP3.out.1 rfl
  have s5 := cell_h (k := 5) HP3.out.1 rfl
  have t0 := cell_h (k := 0) HP3.out.2.1 rfl
  have t1 := cell_h (k := 1) HP3.out.2.1 rfl
  have t2 := cell_h (k := 2) HP3.out.2.1 rfl
  have t3 := cell_h (k := 3) HP3.out.2.1 rfl
  have t4 := cell_h (k := 4) HP3.out.2.1 rfl
  have t5 := cell_h (k := 5) HP3.out.2.1 rfl
  have r0 := cell_h (k := 0) HP3.out.2.2 rfl
  have r1 := cell_h (k := 1) HP3.out.2.2 rfl
  have r2 := cell_h (k := 2) HP3.out.2.2 rfl
  have r3 := cell_h (k := 3) HP3.out.2.2 rfl
  by_cases h1 : f < d
  · have hre : ((0 : Int), (5 : Int)) = (r, e) := by rw [← HC.out, csP, if_neg (by simp), if_neg (by simp), if_neg (by simp), if_pos (.inl h1)]
    go_wp2_with fail
    obtain ⟨rfl, rfl⟩ := Prod.mk.inj hre
    exact bodyPost_ret (v := .tuple #[.int .i64 (0), .int .i64 5]) (by simp [results, Tryz.f13, go_sem]) rfl ⟨rfl, HB3.out⟩
  by_cases h2 : t < u
  · have hre : ((0 : Int), (5 : Int)) = (r, e) := by rw [← HC.out, csP, if_neg (by simp), if_neg (by simp), if_neg (by simp), if_pos (.inr h2)]
    go_wp2_with fail
    obtain ⟨rfl, rfl⟩ := Prod.mk.inj hre
    exact bodyPost_ret (v := .tuple #[.int .i64 (0), .int .i64 5]) (by simp [results, Tryz.f13, go_sem]) rfl ⟨rfl, HB3.out⟩
  have hre : (d + s * u, (0 : Int)) = (r, e) := by rw [← HC.out, csP, if_neg (by simp), if_neg (by simp), if_neg (by simp), if_neg (by omega)]
  go_wp2_with fail
  obtain ⟨rfl, rfl⟩ := Prod.mk.inj hre
  exact bodyPost_ret (v := .tuple #[.int .i64 (d + s * u), .int .i64 0]) (by simp [results, Tryz.f13, go_sem]) rfl ⟨rfl, HB3.out⟩
set_option maxRecDepth 100000 in
set_option maxHeartbeats 8000000 in
theorem hCost_of (w : World) (a c l wd lo hi a' c' l' wd' lo' hi' f t s al r e : Int) (h : csP (rlE f t s al) (fdE a c l wd lo hi) (fdE a' c' l' wd' lo' hi') (max (a - a') (a' - a)) (arV c c') f t s = (r, e)) :
    Calls Tryz.prog 14 #[.agg #[.int .i64 a, .int .i64 c, .int .i64 l, .int .i64 wd, .int .i64 lo, .int .i64 hi], .agg #[.int .i64 a', .int .i64 c', .int .i64 l', .int .i64 wd', .int .i64 lo', .int .i64 hi'], .agg #[.int .i64 f, .int .i64 t, .int .i64 s, .int .i64 al]] w fun e' w' => e' = .returned (.tuple #[.int .i64 r, .int .i64 e]) ∧ Below w.heap.size w w' := by
  obtain ⟨x, hx⟩ : ∃ x, rlE f t s al = x := ⟨_, rfl⟩
  obtain ⟨y, hy⟩ : ∃ x, fdE a c l wd lo hi = x := ⟨_, rfl⟩
  obtain ⟨z, hz⟩ : ∃ x, fdE a' c' l' wd' lo' hi' = x := ⟨_, rfl⟩
  have hxc := rlE_cases f t s al
  have hyc := fdE_cases a c l wd lo hi
  have hzc := fdE_cases a' c' l' wd' lo' hi'
  rw [hx] at h hxc
  rw [hy] at h hyc
  rw [hz] at h hzc
  have HX := Lib.hid hx
  have HY := Lib.hid hy
  have HZ := Lib.hid hz
  have HH := Lib.hid h
  clear hx hy hz h
  go_enter Tryz.func14, Tryz.ntmps14
  go_upto_region 1 with fail
  obtain ⟨W, hW⟩ : ∃ W, ((w.alloc (.cells #[.int .i64 a, .int .i64 c, .int .i64 l, .int .i64 wd, .int .i64 lo, .int .i64 hi] 26)).alloc (.cells #[.int .i64 a', .int .i64 c', .int .i64 l', .int .i64 wd', .int .i64 lo', .int .i64 hi'] 26)).alloc (.cells #[.int .i64 f, .int .i64 t, .int .i64 s, .int .i64 al] 36) = W := ⟨_, rfl⟩
  rw [hW]
  have hB : Below w.heap.size w W := by rw [← hW]; exact (((Below.refl _ _).alloc (Nat.le_refl _) _).alloc (by simp) _).alloc (by simp; omega) _
  have hP : W.heap[w.heap.size]? = some (.cells #[.int .i64 a, .int .i64 c, .int .i64 l, .int .i64 wd, .int .i64 lo, .int .i64 hi] 26 (0, 0)) ∧ W.heap[w.heap.size + 1]? = some (.cells #[.int .i64 a', .int .i64 c', .int .i64 l', .int .i64 wd', .int .i64 lo', .int .i64 hi'] 26 (0, 0)) ∧ W.heap[w.heap.size + 1 + 1]? = some (.cells #[.int .i64 f, .int .i64 t, .int .i64 s, .int .i64 al] 36 (0, 0)) := by rw [← hW]; exact ⟨al_old (al_old (World.alloc_heap_new w _) _) _, al_old (al_1 w _ _) _, al_2 w _ _ _⟩
  have HB := Lib.hid hB
  have HP := Lib.hid hP
  clear hW hB hP
  have s0 := cell_h (k := 0) HP.out.1 rfl
  have s1 := cell_h (k := 1) HP.out.1 rfl
  have s2 := cell_h (k := 2) HP.out.1 rfl
  have s3 := cell_h (k := 3) HP.out.1 rfl
  have s4 := cell_h (k := 4) HP.out.1 rfl
  have s5 := cell_h (k := 5) HP.out.1 rfl
  have t0 := cell_h (k := 0) HP.out.2.1 rfl
  have t1 := cell_h (k := 1) HP.out.2.1 rfl
  have t2 := cell_h (k := 2) HP.out.2.1 rfl
  have t3 := cell_h (k := 3) HP.out.2.1 rfl
  have t4 := cell_h (k := 4) HP.out.2.1 rfl
  have t5 := cell_h (k := 5) HP.out.2.1 rfl
  have r0 := cell_h (k := 0) HP.out.2.2 rfl
  have r1 := cell_h (k := 1) HP.out.2.2 rfl
  have r2 := cell_h (k := 2) HP.out.2.2 rfl
  have r3 := cell_h (k := 3) HP.out.2.2 rfl
  go_wp2_with fail
  refine (hrule_of W f t s al).mono ?_
  rintro e9 W1 ⟨rfl, hb⟩
  have HB1 := Lib.hid (low_trans HB.out hb)
  have HP1 := Lib.hid (blk3 HP.out hb)
  rw [HX.out]
  clear hb HB HP
  clear s0 s1 s2 s3 s4 s5 t0 t1 t2 t3 t4 t5 r0 r1 r2 r3
  by_cases hx : x = 0
  rotate_left
  · have hre : ((0 : Int), x) = (r, e) := by rw [← HH.out, csP, if_pos hx]
    go_wp2_with fail
    obtain ⟨rfl, rfl⟩ := Prod.mk.inj hre
    exact bodyPost_ret (v := .tuple #[.int .i64 (0), .int .i64 x]) (by simp [results, Tryz.f14, go_sem]) rfl ⟨rfl, HB1.out⟩
  subst hx
  have s0 := cell_h (k := 0) HP1.out.1 rfl
  have s1 := cell_h (k := 1) HP1.out.1 rfl
  have s2 := cell_h (k := 2) HP1.out.1 rfl
  have s3 := cell_h (k := 3) HP1.out.1 rfl
  have s4 := cell_h (k := 4) HP1.out.1 rfl
  have s5 := cell_h (k := 5) HP1.out.1 rfl
  have t0 := cell_h (k := 0) HP1.out.2.1 rfl
  have t1 := cell_h (k := 1) HP1.out.2.1 rfl
  have t2 := cell_h (k := 2) HP1.out.2.1 rfl
  have t3 := cell_h (k := 3) HP1.out.2.1 rfl
  have t4 := cell_h (k := 4) HP1.out.2.1 rfl
  have t5 := cell_h (k := 5) HP1.out.2.1 rfl
  have r0 := cell_h (k := 0) HP1.out.2.2 rfl
  have r1 := cell_h (k := 1) HP1.out.2.2 rfl
  have r2 := cell_h (k := 2) HP1.out.2.2 rfl
  have r3 := cell_h (k := 3) HP1.out.2.2 rfl
  go_wp2_with fail
  refine (hvalid_of W1 a c l wd lo hi).mono ?_
  rintro e9 W2 ⟨rfl, hb⟩
  have HB2 := Lib.hid (low_trans HB1.out hb)
  have HP2 := Lib.hid (blk3 HP1.out hb)
  rw [HY.out]
  clear hb HB1 HP1
  clear s0 s1 s2 s3 s4 s5 t0 t1 t2 t3 t4 t5 r0 r1 r2 r3
  by_cases hy : y = 0
  rotate_left
  · have hre : ((0 : Int), y) = (r, e) := by rw [← HH.out, csP, if_neg (by simp), if_pos hy]
    go_wp2_with fail
    obtain ⟨rfl, rfl⟩ := Prod.mk.inj hre
    exact bodyPost_ret (v := .tuple #[.int .i64 (0), .int .i64 y]) (by simp [results, Tryz.f14, go_sem]) rfl ⟨rfl, HB2.out⟩
  subst hy
  have s0 := cell_h (k := 0) HP2.out.1 rfl
  have s1 := cell_h (k := 1) HP2.out.1 rfl
  have s2 := cell_h (k := 2) HP2.out.1 rfl
  have s3 := cell_h (k := 3) HP2.out.1 rfl
  have s4 := cell_h (k := 4) HP2.out.1 rfl
  have s5 := cell_h (k := 5) HP2.out.1 rfl
  have t0 := cell_h (k := 0) HP2.out.2.1 rfl
  have t1 := cell_h (k := 1) HP2.out.2.1 rfl
  have t2 := cell_h (k := 2) HP2.out.2.1 rfl
  have t3 := cell_h (k := 3) HP2.out.2.1 rfl
  have t4 := cell_h (k := 4) HP2.out.2.1 rfl
  have t5 := cell_h (k := 5) HP2.out.2.1 rfl
  have r0 := cell_h (k := 0) HP2.out.2.2 rfl
  have r1 := cell_h (k := 1) HP2.out.2.2 rfl
  have r2 := cell_h (k := 2) HP2.out.2.2 rfl
  have r3 := cell_h (k := 3) HP2.out.2.2 rfl
  go_wp2_with fail
  refine (hvalid_of W2 a' c' l' wd' lo' hi').mono ?_
  rintro e9 W3 ⟨rfl, hb⟩
  have HB3 := Lib.hid (low_trans HB2.out hb)
  have HP3 := Lib.hid (blk3 HP2.out hb)
  rw [HZ.out]
  clear hb HB2 HP2
  clear s0 s1 s2 s3 s4 s5 t0 t1 t2 t3 t4 t5 r0 r1 r2 r3
  by_cases hz : z = 0
  rotate_left
  · have hre : ((0 : Int), z) = (r, e) := by rw [← HH.out, csP, if_neg (by simp), if_neg (by simp), if_pos hz]
    go_wp2_with fail
    obtain ⟨rfl, rfl⟩ := Prod.mk.inj hre
    exact bodyPost_ret (v := .tuple #[.int .i64 (0), .int .i64 z]) (by simp [results, Tryz.f14, go_sem]) rfl ⟨rfl, HB3.out⟩
  subst hz
  obtain ⟨g1, g2, g3, g4⟩ : (0 ≤ f ∧ f ≤ 1048576) ∧ (0 ≤ t ∧ t ≤ 360) ∧ (0 ≤ s ∧ s ≤ 1024) ∧ (0 ≤ al ∧ al ≤ 1048576) := by
    rcases hxc with h | h
    · omega
    · exact h.2
  obtain ⟨y1, y2⟩ : inP a ∧ (0 ≤ c ∧ c < 720) := by
    rcases hyc with h | h | h
    · omega
    · omega
    · exact ⟨h.2.1, h.2.2.2.2.1⟩
  obtain ⟨z1, z2⟩ : inP a' ∧ (0 ≤ c' ∧ c' < 720) := by
    rcases hzc with h | h | h
    · omega
    · omega
    · exact ⟨h.2.1, h.2.2.2.2.1⟩
  unfold inP at y1 z1
  obtain ⟨d, hd⟩ : ∃ d, d = max (a - a') (a' - a) := ⟨_, rfl⟩
  obtain ⟨u, hu⟩ : ∃ u, u = arV c c' := ⟨_, rfl⟩
  have hd2 : 0 ≤ d ∧ d ≤ 1073741824 := by omega
  have hu2 : 0 ≤ u ∧ u ≤ 360 := by have := ar_in y2 z2; omega
  have m1 : 0 ≤ s * u := Int.mul_nonneg g3.1 hu2.1
  have m2 : s * u ≤ 1024 * 360 := Int.mul_le_mul g3.2 hu2.2 hu2.1 (by omega)
  have w1 : IntKind.i64.wrap (s * u) = s * u := IntWalk.i64_in _ (by omega)
  have w2 : IntKind.i64.wrap (d + s * u) = d + s * u := IntWalk.i64_in _ (by omega)
  have s0 := cell_h (k := 0) HP3.out.1 rfl
  have s1 := cell_h (k := 1) HP3.out.1 rfl
  have s2 := cell_h (k := 2) HP3.out.1 rfl
  have s3 := cell_h (k := 3) HP3.out.1 rfl
  have s4 := cell_h (k := 4) HP3.out.1 rfl
  have s5 := cell_h (k := 5) HP3.out.1 rfl
  have t0 := cell_h (k := 0) HP3.out.2.1 rfl
  have t1 := cell_h (k := 1) HP3.out.2.1 rfl
  have t2 := cell_h (k := 2) HP3.out.2.1 rfl
  have t3 := cell_h (k := 3) HP3.out.2.1 rfl
  have t4 := cell_h (k := 4) HP3.out.2.1 rfl
  have t5 := cell_h (k := 5) HP3.out.2.1 rfl
  have r0 := cell_h (k := 0) HP3.out.2.2 rfl
  have r1 := cell_h (k := 1) HP3.out.2.2 rfl
  have r2 := cell_h (k := 2) HP3.out.2.2 rfl
  have r3 := cell_h (k := 3) HP3.out.2.2 rfl
  have HU : Hid (∀ w, Calls Tryz.prog 10 #[.int .i64 c, .int .i64 c'] w fun e w' => e = .returned (.tuple #[.int .i64 u, .int .i64 0]) ∧ w' = w) := fun w => by
    have h := hAround_of w c c'
    rw [arR, arE, if_pos ⟨y2, z2⟩, if_pos ⟨y2, z2⟩, ← hu] at h
    exact h
  have w3 : IntKind.i64.wrap (a - a') = a - a' := IntWalk.i64_in _ (by omega)
  have w4 : IntKind.i64.wrap (a' - a) = a' - a := IntWalk.i64_in _ (by omega)
  have hor : (a' ≤ a ∧ d = a - a') ∨ (a < a' ∧ d = a' - a) := by omega
  have HC : Hid (csP 0 0 0 d u f t s = (r, e)) := by rw [hd, hu]; exact HH
  clear HH hd hu hxc hyc hzc m1 m2 g1 g2 g3 g4 y1 y2 z1 z2 hd2 hu2
  rcases hor with ⟨ho, rfl⟩ | ⟨ho, rfl⟩
  · have hle : a' - a ≤ a - a' := by omega
    have hmx : max (a - a') (a' - a) = a - a' := by omega
    go_wp2_with fail
    refine (HU.out _).mono ?_
    rintro e9 w9 ⟨rfl, rfl⟩
    by_cases h1 : f < a - a'
    · have hre : ((0 : Int), (5 : Int)) = (r, e) := by rw [← HC.out, csP, if_neg (by simp), if_neg (by simp), if_neg (by simp), if_pos (.inl h1)]
      go_wp2_with fail
      obtain ⟨rfl, rfl⟩ := Prod.mk.inj hre
      exact bodyPost_ret (v := .tuple #[.int .i64 (0), .int .i64 5]) (by simp [results, Tryz.f14, go_sem]) rfl ⟨rfl, HB3.out⟩
    by_cases h2 : t < u
    · have hre : ((0 : Int), (5 : Int)) = (r, e) := by rw [← HC.out, csP, if_neg (by simp), if_neg (by simp), if_neg (by simp), if_pos (.inr h2)]
      go_wp2_with fail
      obtain ⟨rfl, rfl⟩ := Prod.mk.inj hre
      exact bodyPost_ret (v := .tuple #[.int .i64 (0), .int .i64 5]) (by simp [results, Tryz.f14, go_sem]) rfl ⟨rfl, HB3.out⟩
    have hre : (a - a' + s * u, (0 : Int)) = (r, e) := by rw [← HC.out, csP, if_neg (by simp), if_neg (by simp), if_neg (by simp), if_neg (by omega)]
    go_wp2_with fail
    obtain ⟨rfl, rfl⟩ := Prod.mk.inj hre
    exact bodyPost_ret (v := .tuple #[.int .i64 (a - a' + s * u), .int .i64 0]) (by simp [results, Tryz.f14, go_sem]) rfl ⟨rfl, HB3.out⟩
  · have hle : ¬a' - a ≤ a - a' := by omega
    have hmx : max (a - a') (a' - a) = a' - a := by omega
    go_wp2_with fail
    refine (HU.out _).mono ?_
    rintro e9 w9 ⟨rfl, rfl⟩
    by_cases h1 : f < a' - a
    · have hre : ((0 : Int), (5 : Int)) = (r, e) := by rw [← HC.out, csP, if_neg (by simp), if_neg (by simp), if_neg (by simp), if_pos (.inl h1)]
      go_wp2_with fail
      obtain ⟨rfl, rfl⟩ := Prod.mk.inj hre
      exact bodyPost_ret (v := .tuple #[.int .i64 (0), .int .i64 5]) (by simp [results, Tryz.f14, go_sem]) rfl ⟨rfl, HB3.out⟩
    by_cases h2 : t < u
    · have hre : ((0 : Int), (5 : Int)) = (r, e) := by rw [← HC.out, csP, if_neg (by simp), if_neg (by simp), if_neg (by simp), if_pos (.inr h2)]
      go_wp2_with fail
      obtain ⟨rfl, rfl⟩ := Prod.mk.inj hre
      exact bodyPost_ret (v := .tuple #[.int .i64 (0), .int .i64 5]) (by simp [results, Tryz.f14, go_sem]) rfl ⟨rfl, HB3.out⟩
    have hre : (a' - a + s * u, (0 : Int)) = (r, e) := by rw [← HC.out, csP, if_neg (by simp), if_neg (by simp), if_neg (by simp), if_neg (by omega)]
    go_wp2_with fail
    obtain ⟨rfl, rfl⟩ := Prod.mk.inj hre
    exact bodyPost_ret (v := .tuple #[.int .i64 (a' - a + s * u), .int .i64 0]) (by simp [results, Tryz.f14, go_sem]) rfl ⟨rfl, HB3.out⟩
end Go.Proofs.YtlbffdgojmjijaaGreatDoor
