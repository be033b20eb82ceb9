/-
  WALKS: strength: quotients with 20 bits, their lower ends; Bound.
-/
import Derived.Test.YtlphlbgbbblnpaaGreatDoorStJ
import Derived.Test.YtlphlbgbbblnpaaGreatDoorStD
namespace Go.Proofs.YtlphlbgbbblnpaaGreatDoor
open Go.RowKit

theorem rLo_eq (ex : Bool) (q : Nat) : Dy.rLo false ex q 20 = Dy.mk (q : Int) (-20) := by
  unfold Dy.rLo
  cases ex
  · have h : Dy.sgn (Dy.mk ((q + 1 : Nat) : Int) (-20) - Dy.mk (q : Int) (-20)) > 0 := by
      rw [mk_sub]; exact (sgn_mkE _ _).2.2 (by push_cast; omega)
    have h2 : ¬(Dy.sgn (Dy.mk ((q + 1 : Nat) : Int) (-20) - Dy.mk (q : Int) (-20)) < 0) := by omega
    exact if_neg h2
  · rfl
theorem odd_split {D m : Nat} {e : Int} {a : Bool} (h : Dy.Canon a m e (Dy.mk (D : Int) 0)) (h0 : D ≠ 0) : a = false ∧ ∃ j : Nat, e = (j : Int) ∧ D = m * 2 ^ j ∧ m % 2 = 1 := by
  obtain ⟨j, k, hk⟩ : ∃ j k, D = 2 ^ j * (2 * k + 1) := by
    have : ∀ N D : Nat, D ≤ N → D ≠ 0 → ∃ j k, D = 2 ^ j * (2 * k + 1) := fun N => by
      induction N with
      | zero => intro D h1 h2; omega
      | succ N ih =>
        intro D h1 h2
        rcases Nat.mod_two_eq_zero_or_one D with h3 | h3
        · obtain ⟨j, k, e⟩ := ih (D / 2) (by omega) (by omega)
          exact ⟨j + 1, k, by rw [Nat.pow_succ, Nat.mul_comm (2 ^ j) 2, Nat.mul_assoc, ← e]; omega⟩
        · exact ⟨0, D / 2, by omega⟩
    exact this D D (Nat.le_refl _) h0
  have h2 : Dy.Canon false (2 * k + 1) (0 + (j : Int)) (Dy.mk (Dy.sg false D) 0) := Dy.canon_build (neg := false) (t := j) (q := k) hk
  have h3 := (h.inj h2).2 rfl
  obtain ⟨rfl, rfl, rfl⟩ := h3
  exact ⟨rfl, j, by omega, by rw [hk, Nat.mul_comm], by omega⟩
theorem quo20 (w : World) (v1 v2 : Value) (R D : Nat) (h1 : Dy.Nm w v1 (Dy.mk (R : Int) 0)) (h2 : Dy.Nm w v2 (Dy.mk (D : Int) 0)) (hR : R < 2 ^ 63) (hD : D < 2 ^ 63) (h0 : D ≠ 0) (he : D % 2 ^ 21 ≠ 0) (hT : Dy.Tab w) :
    Calls Tryz.prog 100 #[v1, v2, .int .i64 20] w (Dy.Ret2 w fun w' v e => e = .int .i64 0 ∧ ∃ ex, Dy.Sp w' v (Dy.rLo false ex (R * 2 ^ 20 / D) 20) (Dy.rHi false ex (R * 2 ^ 20 / D) 20) ∧ ex = decide (R * 2 ^ 20 % D = 0)) := by
  obtain ⟨a1, p1, n1, k1, e1, m1, rfl, hn1, hc1⟩ := h1.fields
  obtain ⟨a2, p2, n2, k2, e2, m2, rfl, hn2, hc2⟩ := h2.fields
  obtain ⟨rfl, j2, rfl, hD2, ho2⟩ := odd_split hc2 h0
  have hj2 : j2 ≤ 20 := by
    rcases Nat.lt_or_ge 20 j2 with h | h
    · exfalso
      apply he
      obtain ⟨t, rfl⟩ : ∃ t, j2 = 21 + t := ⟨j2 - 21, by omega⟩
      rw [hD2, Nat.pow_add, Nat.mul_left_comm]
      exact Nat.mul_mod_right _ _
    · exact h
  have hm2 : m2 ≤ D := by rw [hD2]; exact Nat.le_mul_of_pos_right _ (Nat.two_pow_pos _)
  have hn0 : n2 ≠ 0 := fun e => by
    have := hn2.len_zero.1 e
    omega
  have hA1 : a1 = false ∧ ∃ j1 : Nat, e1 = (j1 : Int) ∧ R = m1 * 2 ^ j1 ∧ j1 ≤ 63 := by
    by_cases hR0 : R = 0
    · subst hR0
      rcases hc1 with ⟨rfl, rfl, rfl, _⟩ | ⟨ho, hx⟩
      · exact ⟨rfl, 0, rfl, by simp, by omega⟩
      · exfalso
        have h9 : Dy.mk ((0 : Nat) : Int) 0 = 0 := rfl
        rw [h9] at hx
        exact Dy.mk_ne_zero (Dy.sg_odd ho) hx.symm
    · obtain ⟨rfl, j1, rfl, hR1, ho1⟩ := odd_split hc1 hR0
      refine ⟨rfl, j1, rfl, hR1, ?_⟩
      rcases Nat.lt_or_ge 63 j1 with h | h
      · exfalso
        have h3 : 2 ^ 63 ≤ 2 ^ j1 := Nat.pow_le_pow_right (by omega) (by omega)
        have h4 : 1 * 2 ^ j1 ≤ m1 * 2 ^ j1 := Nat.mul_le_mul_right _ (by omega)
        omega
      · exact h
  obtain ⟨rfl, j1, rfl, hR1, hj1⟩ := hA1
  have hm1 : m1 ≤ R := by rw [hR1]; exact Nat.le_mul_of_pos_right _ (Nat.two_pow_pos _)
  obtain ⟨s1, hs1⟩ : ∃ s : Nat, j1 + 20 = j2 + s := ⟨j1 + 20 - j2, by omega⟩
  have hq1 : R * 2 ^ 20 = (m1 * 2 ^ s1) * 2 ^ j2 := by rw [hR1, Nat.mul_assoc, ← Nat.pow_add, hs1, Nat.mul_assoc, ← Nat.pow_add, Nat.add_comm j2 s1]
  have hq2 : m2 * 2 ^ 0 = m2 := by simp
  have hM : m1 * 2 ^ s1 < 2 ^ 83 := by
    have h3 : m1 * 2 ^ s1 ≤ R * 2 ^ 20 := by rw [hq1]; exact Nat.le_mul_of_pos_right _ (Nat.two_pow_pos _)
    have h4 : R * 2 ^ 20 < 2 ^ 63 * 2 ^ 20 := Nat.mul_lt_mul_of_pos_right hR (by decide)
    rw [← Nat.pow_add] at h4
    omega
  have hdiv : R * 2 ^ 20 / D = m1 * 2 ^ s1 / (m2 * 2 ^ 0) := by rw [hq1, hD2, hq2, Nat.mul_div_mul_right _ _ (Nat.two_pow_pos _)]
  have hmod : decide (m1 * 2 ^ s1 % (m2 * 2 ^ 0) = 0) = decide (R * 2 ^ 20 % D = 0) := by
    rw [hq1, hD2, hq2, Nat.mul_mod_mul_right, Bool.eq_iff_iff, decide_eq_true_iff, decide_eq_true_iff]
    constructor
    · intro h; rw [h]; simp
    · intro h
      rcases Nat.mul_eq_zero.1 h with h | h
      · exact h
      · exact absurd h (Nat.ne_of_gt (Nat.two_pow_pos _))
  refine (Dy.quo_main w false false p1 p2 n1 k1 n2 k2 j1 j2 20 s1 m1 m2 s1 0 2 hn0 (by omega) (by omega) (by omega) (by decide) (by decide) hn1 hn2 (Dy.len_two (A := 63) (by omega) (by decide)) (Dy.len_two (A := 63) (by omega) (by decide)) (Dy.len_two (A := 83) hM (by decide)) (by decide) (Dy.len_two (A := 63) (by omega) (by decide)) (by rw [hq2]; omega) (by omega) (by decide) (by omega) (by omega) (by omega) (by omega) hT).mono ?_
  rintro e w' ⟨v, e', rfl, ⟨rfl, hs⟩, hb⟩
  rw [← hdiv, hmod] at hs
  exact ⟨v, _, rfl, ⟨rfl, _, hs, rfl⟩, hb⟩

set_option maxHeartbeats 1600000 in
theorem sbits20 (w : World) : Calls Tryz.prog 67 #[.int .i64 20] w fun e w' => e = .returned (.int .i64 20) ∧ w' = w := by
  go_enter Tryz.func67, Tryz.ntmps67
  go_wp2
  go_ret
  exact ⟨rfl, rfl⟩
/-- What a quotient tells, whatever it is. -/
theorem squot_of (w : World) (v1 v2 : Value) (k : Int) (x y x1 x2 : Dyadic) (h1 : Dy.Nm w v1 x1) (h2 : Dy.Nm w v2 x2)
    (hQ : ∀ V, Below w.heap.size w V → Calls Tryz.prog 100 #[v1, v2, .int .i64 k] V (Dy.Ret2 V fun w' v e => e = .int .i64 0 ∧ Dy.Sp w' v x y)) :
    Calls Tryz.prog 65 #[v1, v2, .int .i64 k] w (Dy.Ret w fun w' v => Dy.Sp w' v x y) := by
  have HQ := Lib.hid hQ
  obtain ⟨a1, p1, n1, k1, e1, m1, rfl, _, _⟩ := h1.fields
  obtain ⟨a2, p2, n2, k2, e2, m2, rfl, _, _⟩ := h2.fields
  clear hQ h1 h2
  go_enter Tryz.func65, Tryz.ntmps65
  go_wp2_with fail
  obtain ⟨W, hW⟩ : ∃ W, ((w.alloc (.cells #[.bool a1, .slice p1 n1 k1, .int .i64 e1] 75)).alloc (.cells #[.bool a2, .slice p2 n2 k2, .int .i64 e2] 75)).alloc (.cells #[.bool false, .slice none 0 0, .int .i64 0, .bool false, .slice none 0 0, .int .i64 0] 116) = W := ⟨_, rfl⟩
  rw [hW]
  have hB : Below w.heap.size w W := by rw [← hW]; exact (((Below.refl _ _).alloc (Nat.le_refl _) _).alloc (by simp) _).alloc (by simp; omega) _
  have hR : W.heap[w.heap.size + 1 + 1]? = some (.cells #[.bool false, .slice none 0 0, .int .i64 0, .bool false, .slice none 0 0, .int .i64 0] 116 (0, 0)) := by rw [← hW]; exact al_2 w _ _ _
  have HB := Lib.hid hB
  have HR := Lib.hid hR
  clear hW hB hR
  refine (HQ.out W HB.out).mono ?_
  rintro e W1 ⟨v, ee, rfl, ⟨rfl, hs⟩, hb⟩
  obtain ⟨c1, q1, l1, d1, f1, c2, q2, l2, d2, f2, rfl, hx, hy⟩ := hs
  have hR1 := blk1 HR.out hb
  have hB1 := low_trans HB.out hb
  have hg : w.heap.size + 1 + 1 < W1.heap.size := (Array.getElem?_eq_some_iff.1 hR1).1
  go_upto_region 2 with fail
  obtain ⟨W2, hW2⟩ : ∃ W2, W1.alloc (.cells #[.bool c1, .slice q1 l1 d1, .int .i64 f1, .bool c2, .slice q2 l2 d2, .int .i64 f2] 116) = W2 := ⟨_, rfl⟩
  rw [hW2]
  have hb2 : Below W1.heap.size W1 W2 := by rw [← hW2]; exact (Below.refl _ _).alloc (Nat.le_refl _) _
  have hN2 : W2.heap[W1.heap.size]? = some (.cells #[.bool c1, .slice q1 l1 d1, .int .i64 f1, .bool c2, .slice q2 l2 d2, .int .i64 f2] 116 (0, 0)) := by rw [← hW2]; exact World.alloc_heap_new W1 _
  have hR2 := blk1 hR1 hb2
  have HS2 : Hid (Dy.Sp W2 (.agg #[.bool c1, .slice q1 l1 d1, .int .i64 f1, .bool c2, .slice q2 l2 d2, .int .i64 f2]) x y) := Dy.Sp.keep ⟨c1, q1, l1, d1, f1, c2, q2, l2, d2, f2, rfl, hx, hy⟩ hb2
  have HA := Lib.hid (set6_all (b1 := c1) (q1 := q1) (l1 := l1) (c1 := d1) (f1 := f1) (b2 := c2) (q2 := q2) (l2 := l2) (c2 := d2) (f2 := f2) hR2 (low_trans hB1 hb2) (by omega : w.heap.size ≤ w.heap.size + 1 + 1))
  obtain ⟨nb, hnb⟩ : ∃ nb, W1.heap.size = nb := ⟨_, rfl⟩
  rw [hnb] at hN2
  rw [hnb]
  have z0 := cell_h (k := 0) hR2 rfl
  have z1 := cell_h (k := 1) hR2 rfl
  have z2 := cell_h (k := 2) hR2 rfl
  have z3 := cell_h (k := 3) hR2 rfl
  have z4 := cell_h (k := 4) hR2 rfl
  have z5 := cell_h (k := 5) hR2 rfl
  have zf : ∀ o, W2.frozen? ⟨w.heap.size + 1 + 1, o, none⟩ = false := fun o => by simp [World.frozen?, hR2]
  have u0 := cell_h (k := 0) hN2 rfl
  have u1 := cell_h (k := 1) hN2 rfl
  have u2 := cell_h (k := 2) hN2 rfl
  have u3 := cell_h (k := 3) hN2 rfl
  have u4 := cell_h (k := 4) hN2 rfl
  have u5 := cell_h (k := 5) hN2 rfl
  clear hW2 hb2 hN2 hR2 hx hy hR1 hB1 hnb hb HR HB HQ hg
  go_wp2_with fail
  generalize hW9 : (((((W2.setCell ⟨w.heap.size + 1 + 1, 0, none⟩ (.bool c1)).setCell ⟨w.heap.size + 1 + 1, 1, none⟩ (.slice q1 l1 d1)).setCell ⟨w.heap.size + 1 + 1, 2, none⟩ (.int .i64 f1)).setCell ⟨w.heap.size + 1 + 1, 3, none⟩ (.bool c2)).setCell ⟨w.heap.size + 1 + 1, 4, none⟩ (.slice q2 l2 d2)).setCell ⟨w.heap.size + 1 + 1, 5, none⟩ (.int .i64 f2) = W9
  obtain ⟨hR9, hB9, hS9, _⟩ := HA.out W9 hW9
  have y0 := cell_h (k := 0) hR9 rfl
  have y1 := cell_h (k := 1) hR9 rfl
  have y2 := cell_h (k := 2) hR9 rfl
  have y3 := cell_h (k := 3) hR9 rfl
  have y4 := cell_h (k := 4) hR9 rfl
  have y5 := cell_h (k := 5) hR9 rfl
  exact bodyPost_ret (v := .agg #[.bool c1, .slice q1 l1 d1, .int .i64 f1, .bool c2, .slice q2 l2 d2, .int .i64 f2]) (by simp [results, Tryz.results65, go_sem, y0, y1, y2, y3, y4, y5]) rfl ⟨_, rfl, hS9 _ _ _ HS2.out, hB9⟩

set_option maxRecDepth 100000 in
set_option maxHeartbeats 4000000 in
/-- Bound, for a price that is not below 0. -/
theorem sBound_of (w : World) (q : Option Addr) (n c : Nat) (f : Nat → Int) (C N L : Int) (v : Value) (hj : jsE f n C N = 0) (hL : 0 ≤ L ∧ L ≤ 2199023255552) (hS : Sl w 4 q n f) (hv : Nq w v L) (hT : Dy.Tab w) :
    Calls Tryz.prog 25 #[.slice q n c, .int .i64 C, .int .i64 N, v] w (Dy.Ret2 w fun w' v e => e = .int .i64 0 ∧ Nq w' v (bdI f n C N L 1048576)) := by
  have HJ := Lib.hid hj
  have HS := Lib.hid hS
  have HV := Lib.hid hv
  have HT := Lib.hid hT
  have hn : n ≤ 24 := (jok_of hj).1
  obtain ⟨a, p, l, k0, e0, m0, rfl, _, _⟩ := Dy.Nm.fields hv
  clear hj hS hv hT
  go_enter Tryz.func25, Tryz.ntmps25
  go_wp2_with fail
  obtain ⟨W, hW⟩ : ∃ W, (w.alloc (.cells #[.bool a, .slice p l k0, .int .i64 e0] 75)).alloc (.cells #[.bool false, .slice none 0 0, .int .i64 0] 75) = W := ⟨_, rfl⟩
  rw [hW]
  have hB : Below w.heap.size w W := by rw [← hW]; exact ((Below.refl _ _).alloc (Nat.le_refl _) _).alloc (by simp) _
  have hP : W.heap[w.heap.size]? = some (.cells #[.bool a, .slice p l k0, .int .i64 e0] 75 (0, 0)) := by rw [← hW]; exact al_old (World.alloc_heap_new w _) _
  have hR : Zb W (w.heap.size + 1) := by rw [← hW]; exact al_1 w _ _
  have HB := Lib.hid hB
  have HP := Lib.hid hP
  have HR := Lib.hid hR
  clear hW hB hP hR
  refine (scheck_of W q n c f C N (by unfold maxLen; omega) (HS.out.keep (by decide) HB.out)).mono ?_
  rintro e W1 ⟨rfl, hb⟩
  rw [HJ.out]
  have HB1 := Lib.hid (low_trans HB.out hb)
  have HP1 := Lib.hid (blk1 HP.out hb)
  have HR1 := Lib.hid (HR.out.keep hb)
  clear hb HB HP HR
  have s0 := cell_h (k := 0) HP1.out rfl
  have s1 := cell_h (k := 1) HP1.out rfl
  have s2 := cell_h (k := 2) HP1.out rfl
  go_wp2_with fail
  refine (Dy.sign_nm W1 _ _ (HV.out.keep HB1.out)).mono ?_
  rintro e1 W2 ⟨rfl, hb⟩
  have hs : ¬(Dy.sgn (Dy.mk L (-20)) < 0) := fun e => by have := (sgn_mkE L (-20)).1.1 e; omega
  generalize Dy.sgn (Dy.mk L (-20)) = s at hs ⊢
  have HB2 := Lib.hid (low_trans HB1.out hb)
  have HP2 := Lib.hid (blk1 HP1.out hb)
  have HR2 := Lib.hid (HR1.out.keep hb)
  clear hb HB1 HP1 HR1 s0 s1 s2
  have s0 := cell_h (k := 0) HP2.out rfl
  have s1 := cell_h (k := 1) HP2.out rfl
  have s2 := cell_h (k := 2) HP2.out rfl
  go_wp2_with fail
  refine (sbound_of W2 q n c f C N L _ HJ.out hL (HS.out.keep (by decide) HB2.out) (Nq.keep HV.out HB2.out) (HT.out.keep HB2.out)).mono ?_
  rintro e1 W3 ⟨v3, rfl, hv3, hb⟩
  obtain ⟨b7, q7, l7, c7, f7, m7, rfl, _, _⟩ := id (Dy.Nm.fields hv3)
  have hZ := HR2.out.keep hb
  have z0 := cell_h (k := 0) hZ rfl
  have z1 := cell_h (k := 1) hZ rfl
  have z2 := cell_h (k := 2) hZ rfl
  have zf := hZ.fr
  have HQ := Lib.hid (fun W9 h9 => hZ.laid hv3 w (low_trans HB2.out hb) (by omega) (W9 := W9) h9)
  clear hv3 hb hZ HB2 HP2 HR2 s0 s1 s2
  go_wp2_with fail
  generalize h9 : ((W3.setCell ⟨w.heap.size + 1, 0, none⟩ (.bool b7)).setCell ⟨w.heap.size + 1, 1, none⟩ (.slice q7 l7 c7)).setCell ⟨w.heap.size + 1, 2, none⟩ (.int .i64 f7) = W9
  obtain ⟨q1, q2, q3⟩ := HQ.out W9 h9
  have y0 := cell_h (k := 0) q1 rfl
  have y1 := cell_h (k := 1) q1 rfl
  have y2 := cell_h (k := 2) q1 rfl
  exact bodyPost_ret (v := .tuple #[.agg #[.bool b7, .slice q7 l7 c7, .int .i64 f7], .int .i64 0]) (by simp [results, Tryz.results25, go_sem, y0, y1, y2]) rfl ⟨_, _, rfl, ⟨rfl, q2⟩, q3⟩
end Go.Proofs.YtlphlbgbbblnpaaGreatDoor
