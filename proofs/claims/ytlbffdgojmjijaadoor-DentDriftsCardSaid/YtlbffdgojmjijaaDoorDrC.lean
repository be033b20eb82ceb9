/-
  WALKS: divisor and over.
-/
import Derived.Test.YtlbffdgojmjijaaDoorDrB
import Derived.BigQuiet
namespace Go.Proofs.YtlbffdgojmjijaaDoor
open Go.RowKit

def Bg (x : Int) : Prop := -4611686018427387904 ≤ x ∧ x ≤ 4611686018427387904
set_option maxHeartbeats 1000000 in
theorem absb_of (w : World) (x y : Int) (h : Bg x) (hy : y = x.natAbs) :
    Calls Tryd.prog 61 #[.int .i64 x] w fun e w' => e = .returned (.int .i64 y) ∧ w' = w := by
  unfold Bg at h
  have w1 : IntKind.i64.wrap (-x) = -x := IntWalk.i64_in _ (by omega)
  go_enter Tryd.func61, Tryd.ntmps61
  by_cases hx : 0 ≤ x
  · obtain rfl : y = x := by omega
    clear hy
    go_wp2
    go_ret
    refine ⟨?_, rfl⟩
    first | rfl | (congr 2; simp; omega)
  · obtain rfl : y = -x := by omega
    clear hy
    go_wp2
    go_ret
    refine ⟨?_, rfl⟩
    first | rfl | (congr 2; simp; omega)
theorem gcd_tmod (a b : Int) : Int.gcd b (a.tmod b) = Int.gcd a b := by
  simp only [Int.gcd, Int.natAbs_tmod]
  rw [Nat.gcd_comm, ← Nat.gcd_rec, Nat.gcd_comm]
set_option maxRecDepth 100000 in
set_option maxHeartbeats 4000000 in
theorem div_of : ∀ (m : Nat) (w : World) (a b g : Int), b.natAbs < m → Bg a → Bg b → g = (Int.gcd a b : Int) →
    Calls Tryd.prog 46 #[.int .i64 a, .int .i64 b] w fun e w' => e = .returned (.int .i64 g) ∧ w' = w
  | 0, _, _, _, _, h, _, _, _ => absurd h (by omega)
  | m + 1, w, a, b, g, h, ha, hb, hg => by
    by_cases h0 : b = 0
    · subst h0
      have HA := Lib.hid (absb_of w a g ha (by rw [hg]; simp))
      clear hg h ha hb
      go_enter Tryd.func46, Tryd.ntmps46
      go_wp2_with fail
      refine HA.out.mono ?_
      rintro e w9 ⟨rfl, rfl⟩
      go_wp2_with fail
      go_ret
      exact ⟨rfl, rfl⟩
    · have hn := Int.natAbs_tmod a b
      have hlt : a.natAbs % b.natAbs < b.natAbs := Nat.mod_lt _ (by omega)
      obtain ⟨r, hr⟩ : ∃ r, a.tmod b = r := ⟨_, rfl⟩
      rw [hr] at hn
      have HI := Lib.hid (div_of m w b r g (by omega) hb (by unfold Bg at hb ⊢; omega) (by rw [hg, ← hr, gcd_tmod]))
      clear hg hn hlt
      go_enter Tryd.func46, Tryd.ntmps46
      go_wp2_with fail
      refine HI.out.mono ?_
      rintro e w9 ⟨rfl, rfl⟩
      go_wp2_with fail
      go_ret
      exact ⟨rfl, rfl⟩

theorem quo_le {x g p : Int} (h : x = g * p) (hg : 1 ≤ g) (hx : Bg x) : IntKind.i64.wrap p = p ∧ Bg p := by
  have h1 : x.natAbs = g.natAbs * p.natAbs := by rw [h, Int.natAbs_mul]
  have h2 : p.natAbs ≤ x.natAbs := by rw [h1]; exact Nat.le_mul_of_pos_left _ (by omega)
  have h3 : Bg p := by unfold Bg at hx ⊢; omega
  exact ⟨IntWalk.i64_in _ (by unfold Bg at h3; omega), h3⟩
def gd (a b : Int) : Int := (Int.gcd a b : Int)
theorem gd_call (W : World) (a b : Int) (ha : Bg a) (hb : Bg b) : Calls Tryd.prog 46 #[.int .i64 a, .int .i64 b] W fun e w' => e = .returned (.int .i64 (gd a b)) ∧ ∃ q, w' = W.drewN q := (div_of _ W a b _ (Nat.lt_succ_self _) ha hb rfl).mono fun _ _ h => ⟨h.1, 0, h.2⟩
set_option maxRecDepth 100000 in
set_option maxHeartbeats 4000000 in
/-- What over returns: the place, with one common divisor g taken out. -/
theorem over_of (w : World) (x y z u : Int) (hx : Bg x) (hy : Bg y) (hz : Bg z) (hu : Bg u) (h1 : 1 ≤ u) :
    Calls Tryd.prog 29 #[.agg #[.int .i64 x, .int .i64 y, .int .i64 z], .int .i64 u] w fun e w' => (∃ p q r s g : Int, e = .returned (.agg #[.int .i64 p, .int .i64 q, .int .i64 r, .int .i64 s]) ∧ x = g * p ∧ y = g * q ∧ z = g * r ∧ u = g * s ∧ 1 ≤ g) ∧ Below w.heap.size w w' := by
  obtain ⟨g1, hg1⟩ : ∃ g1 : Int, g1 = (Int.gcd x y : Int) := ⟨_, rfl⟩
  obtain ⟨g2, hg2⟩ : ∃ g2 : Int, g2 = (Int.gcd z u : Int) := ⟨_, rfl⟩
  obtain ⟨g, hg⟩ : ∃ g : Int, g = (Int.gcd g1 g2 : Int) := ⟨_, rfl⟩
  have d1 : g1 ∣ x := by rw [hg1]; exact Int.gcd_dvd_left ..
  have d2 : g1 ∣ y := by rw [hg1]; exact Int.gcd_dvd_right ..
  have d3 : g2 ∣ z := by rw [hg2]; exact Int.gcd_dvd_left ..
  have d4 : g2 ∣ u := by rw [hg2]; exact Int.gcd_dvd_right ..
  have e1 : g ∣ g1 := by rw [hg]; exact Int.gcd_dvd_left ..
  have e2 : g ∣ g2 := by rw [hg]; exact Int.gcd_dvd_right ..
  obtain ⟨p, hp⟩ := Int.dvd_trans e1 d1
  obtain ⟨q, hq⟩ := Int.dvd_trans e1 d2
  obtain ⟨r, hr⟩ := Int.dvd_trans e2 d3
  obtain ⟨s, hs⟩ := Int.dvd_trans e2 d4
  have hg0 : 0 ≤ g := by rw [hg]; omega
  have hg1' : 0 ≤ g1 := by rw [hg1]; omega
  have hg2' : 0 ≤ g2 := by rw [hg2]; omega
  have hgn : g ≠ 0 := fun e => by rw [e] at hs; omega
  have hgp : 1 ≤ g := by omega
  have b2 : g2 ≤ u := Int.le_of_dvd (by omega) d4
  have b1 : g1 ≤ 4611686018427387904 := by
    by_cases h : x = 0
    · by_cases h' : y = 0
      · subst h; subst h'; rw [hg1]; decide
      · have := Int.le_of_dvd (a := g1) (b := y.natAbs) (by omega) (Int.dvd_natAbs.2 d2)
        unfold Bg at hy; omega
    · have := Int.le_of_dvd (a := g1) (b := x.natAbs) (by omega) (Int.dvd_natAbs.2 d1)
      unfold Bg at hx; omega
  have hb1 : Bg g1 := by unfold Bg; omega
  have hb2 : Bg g2 := by unfold Bg at hu ⊢; omega
  have hb1' : Bg (gd x y) := by unfold gd; rw [← hg1]; exact hb1
  have hb2' : Bg (gd z u) := by unfold gd; rw [← hg2]; exact hb2
  have HG : Hid (gd (gd x y) (gd z u) = g) := by rw [hg, hg1, hg2]; exact Lib.hid rfl
  have t1 : x.tdiv g = p := by rw [hp]; exact Int.mul_tdiv_cancel_left _ hgn
  have t2 : y.tdiv g = q := by rw [hq]; exact Int.mul_tdiv_cancel_left _ hgn
  have t3 : z.tdiv g = r := by rw [hr]; exact Int.mul_tdiv_cancel_left _ hgn
  have t4 : u.tdiv g = s := by rw [hs]; exact Int.mul_tdiv_cancel_left _ hgn
  have k1 := (quo_le hp hgp hx).1
  have k2 := (quo_le hq hgp hy).1
  have k3 := (quo_le hr hgp hz).1
  have k4 := (quo_le hs hgp hu).1
  have HX : Hid (x = g * p ∧ y = g * q ∧ z = g * r ∧ u = g * s ∧ 1 ≤ g) := ⟨hp, hq, hr, hs, hgp⟩
  clear hg hg1 hg2 d1 d2 d3 d4 e1 e2 hp hq hr hs hg1' hg2' b1 b2 hb1 hb2
  go_enter Tryd.func29, Tryd.ntmps29
  go_wp2_with fail
  obtain ⟨W, hW⟩ : ∃ W, (w.alloc (.cells #[.int .i64 x, .int .i64 y, .int .i64 z] 36)).alloc (.cells #[.int .i64 0, .int .i64 0, .int .i64 0, .int .i64 0] 34) = W := ⟨_, rfl⟩
  rw [hW]
  have hB : Below w.heap.size w W := by rw [← hW]; exact ((Below.refl _ _).alloc (Nat.le_refl _) _).alloc (by simp) _
  have A0 : W.heap[w.heap.size]? = some (.cells #[.int .i64 x, .int .i64 y, .int .i64 z] 36 (0, 0)) := by rw [← hW]; exact al_old (World.alloc_heap_new w _) _
  have A1 : W.heap[w.heap.size + 1]? = some (.cells #[.int .i64 0, .int .i64 0, .int .i64 0, .int .i64 0] 34 (0, 0)) := by rw [← hW]; exact al_1 w _ _
  have s0 : W.cell? ⟨w.heap.size, 0, none⟩ = some (.int .i64 x) := cell_h A0 rfl
  have s1 : W.cell? ⟨w.heap.size, 1, none⟩ = some (.int .i64 y) := cell_h A0 rfl
  have s2 : W.cell? ⟨w.heap.size, 2, none⟩ = some (.int .i64 z) := cell_h A0 rfl
  have HB := Lib.hid hB
  have HA1 := Lib.hid A1
  clear hW hB A0 A1
  go_quiet ((go_at_call 46; exact Calls.quiet_of (gd_call _ _ _ (by assumption) (by assumption))))
  rw [HG.out]
  have q0 : (W.drewN nq).cell? ⟨w.heap.size, 0, none⟩ = some (.int .i64 x) := s0
  have q1 : (W.drewN nq).cell? ⟨w.heap.size, 1, none⟩ = some (.int .i64 y) := s1
  have q2 : (W.drewN nq).cell? ⟨w.heap.size, 2, none⟩ = some (.int .i64 z) := s2
  have HB2 : Hid (Below w.heap.size w (W.drewN nq)) := below_drewN HB.out nq
  have hA2 : (W.drewN nq).heap[w.heap.size + 1]? = some (.cells #[.int .i64 0, .int .i64 0, .int .i64 0, .int .i64 0] 34 (0, 0)) := HA1.out
  generalize W.drewN nq = V at q0 q1 q2 HB2 hA2 ⊢
  have z0 := cell_h (k := 0) hA2 rfl
  have z1 := cell_h (k := 1) hA2 rfl
  have z2 := cell_h (k := 2) hA2 rfl
  have z3 := cell_h (k := 3) hA2 rfl
  have zf : ∀ o, V.frozen? ⟨w.heap.size + 1, o, none⟩ = false := fun o => by simp [World.frozen?, hA2]
  clear s0 s1 s2 HB HA1 HG hA2
  clear hb1' hb2' hx hy hz hu
  go_wp2_with fail
  go_region_with (fail)
  all_goals
    have HB3 := Lib.hid ((((HB2.out.setCell (p := ⟨w.heap.size + 1, 0, none⟩) (Nat.le_succ _) (.int .i64 p)).setCell (p := ⟨w.heap.size + 1, 1, none⟩) (Nat.le_succ _) (.int .i64 q)).setCell (p := ⟨w.heap.size + 1, 2, none⟩) (Nat.le_succ _) (.int .i64 r)).setCell (p := ⟨w.heap.size + 1, 3, none⟩) (Nat.le_succ _) (.int .i64 s)).drew
    go_wp2_with fail
    refine bodyPost_ret (v := .agg #[.int .i64 p, .int .i64 q, .int .i64 r, .int .i64 s]) (by simp [results, Tryd.results29, go_sem, z0, z1, z2, z3]) rfl ⟨⟨p, q, r, s, g, rfl, HX.out⟩, HB3.out⟩
end Go.Proofs.YtlbffdgojmjijaaDoor
