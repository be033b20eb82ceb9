/-
  WALKS AND WORDS: StP StQ StR of my texts, one behind the other.
-/
import Derived.Test.YtlphlbgbbblnpaaGreatDoorStIK
import Derived.Test.YtlphlbgbbblnpaaGreatDoorGrT
import Derived.Test.YtlphlbgbbblnpaaGreatDoorPmAF
-- StP: WALKS: the number of bits; roots by Newton's steps; Root of a number with 20 bits.
namespace Go.Proofs.YtlphlbgbbblnpaaGreatDoor
open Go.RowKit

theorem length_nt (w : World) (v : Value) (m : Nat) (h : Dy.Nt w v m) (l : Dy.Len m 400000000000) : Calls Tryz.prog 212 #[v] w fun e w' => (∃ L : Nat, e = .returned (.int .i64 (L : Int)) ∧ m < 2 ^ L ∧ (m ≠ 0 → 2 ^ L ≤ 2 * m)) ∧ w' = w := by
  rcases h with ⟨rfl, rfl⟩ | ⟨b, o, n, k, f, rfl, hn, hk, hr, hs, hl, rfl⟩
  · go_enter Tryz.func212, Tryz.ntmps212
    go_wp2
    go_ret
    exact ⟨⟨0, rfl, by decide, fun h => absurd rfl h⟩, rfl⟩
  · refine (Dy.length_core w b o n k f hn (Dy.len_le hn hl l) hr hs).mono ?_
    rintro e w' ⟨rfl, rfl⟩
    refine ⟨⟨_, rfl, ?_⟩, rfl⟩
    obtain ⟨j, rfl⟩ : ∃ j, n = j + 1 := ⟨n - 1, by omega⟩
    rw [Nat.add_sub_cancel] at hl ⊢
    have h1 : Dy.val f j < Dy.base ^ j := Dy.val_lt fun i hi => hs i (by omega)
    have hb : Dy.base ^ j = 2 ^ (64 * j) := by rw [Nat.pow_mul]; rfl
    have hv : Dy.val f (j + 1) = Dy.val f j + f j * Dy.base ^ j := rfl
    obtain ⟨t1, t2, _⟩ := Dy.bitLen_spec (f j) (hs j (by omega))
    rw [hv, hb]
    rw [hb] at h1
    generalize Lib.bitLen (f j) = t at t1 t2
    rw [Nat.pow_add]
    have h3 : (f j + 1) * 2 ^ (64 * j) ≤ 2 ^ t * 2 ^ (64 * j) := Nat.mul_le_mul_right _ t1
    have h4 : 2 ^ t * 2 ^ (64 * j) ≤ 2 * f j * 2 ^ (64 * j) := Nat.mul_le_mul_right _ (t2 hl)
    rw [Nat.add_mul, Nat.one_mul] at h3
    rw [Nat.mul_comm (2 ^ (64 * j)) (2 ^ t)]
    refine ⟨by omega, fun _ => ?_⟩
    rw [Nat.mul_assoc] at h4
    omega
theorem nt_uniq {w : World} {v : Value} {m m' : Nat} (h : Dy.Nt w v m) (h' : Dy.Nt w v m') : m = m' := by
  rcases h with ⟨rfl, rfl⟩ | ⟨b, o, n, k, f, rfl, hn, hk, hr, hs, hl, rfl⟩
  · rcases h' with ⟨_, rfl⟩ | ⟨b, o, n, k, f, hx, _⟩
    · rfl
    · cases hx
  · rcases h' with ⟨hx, _⟩ | ⟨b', o', n', k', f', hx, hn', hk', hr', hs', hl', rfl⟩
    · cases hx
    · cases hx
      refine Dy.val_congr fun i hi => ?_
      have h1 := (hr i hi).symm.trans (hr' i hi)
      simp only [Option.some.injEq, Value.int.injEq, true_and] at h1
      omega
open Classical in
noncomputable def ntOf (w : World) (v : Value) : Nat := if h : ∃ m, Dy.Nt w v m then Classical.choose h else 0
theorem ntOf_eq {w : World} {v : Value} {m : Nat} (h : Dy.Nt w v m) : ntOf w v = m := by
  unfold ntOf
  rw [dif_pos ⟨m, h⟩]
  exact nt_uniq (Classical.choose_spec ⟨m, h⟩) h

set_option maxRecDepth 100000 in
set_option maxHeartbeats 4000000 in
theorem root_nt (w : World) (v : Value) (m : Nat) (h : Dy.Nt w v m) (hm : m < 2 ^ 126) (h0 : m ≠ 0) : Calls Tryz.prog 203 #[v] w (Dy.Ret w fun w' u => ∃ r, r * r ≤ m ∧ m < (r + 1) * (r + 1) ∧ Dy.Nt w' u r) := by
  have H := Lib.hid h
  obtain ⟨p, n, c, rfl⟩ := h.slice
  have hn0 : n ≠ 0 := fun e => h0 (h.len_zero.1 e)
  have HLm : ∀ L : Nat, 2 ≤ L → Dy.Len m L := fun L hL => Dy.len_two (A := 126) hm (by omega)
  have HH0 := Lib.hid h0
  have HM := Lib.hid hm
  have HLn := Lib.hid HLm
  clear h hm h0 HLm
  go_enter Tryz.func203, Tryz.ntmps203
  go_wp2_with fail
  refine (Dy.natural_nt w 1 (by decide)).mono ?_
  rintro e w1 ⟨v1, rfl, hv1, hb1⟩
  go_wp2_with fail
  refine (length_nt w1 _ m (H.out.keep hb1) (HLn.out _ (by omega))).mono ?_
  rintro e w2 ⟨⟨l, rfl, hl1, hl2⟩, rfl⟩
  have hl3 : l ≤ 126 := by
    rcases Nat.lt_or_ge 126 l with h | h
    · exfalso
      have h1 : 2 ^ 127 ≤ 2 ^ l := Nat.pow_le_pow_right (by omega) h
      have h2 := hl2 HH0.out
      have h3 := HM.out
      have h4 : (2 : Nat) ^ 127 = 2 * 2 ^ 126 := by decide
      omega
    · exact h
  have hstart := Lib.hid (fun r hr => root_start (m := m) (r := r) hl1 hr)
  obtain ⟨s, hs⟩ : ∃ s, (l + 1) / 2 = s := ⟨_, rfl⟩
  have hs63 : s ≤ 63 := by omega
  have hsI : ((l : Int) + 1).tdiv 2 = (s : Int) := by rw [Int.tdiv_eq_ediv_of_nonneg (by omega), ← hs]; omega
  have HV1 := Lib.hid hv1
  have HB1 := Lib.hid hb1
  rw [hs] at hstart
  clear hl1 hl2 hv1 hb1 hs
  go_wp2_with fail
  refine (Dy.left_nt w2 v1 1 s HV1.out (Dy.len_two (A := 1) (by decide) (by decide)) (by omega)).mono ?_
  rintro e w3 ⟨v3, rfl, hv3, hb3⟩
  rw [Nat.one_mul] at hv3
  have hX0 : 2 ^ s ≤ 2 ^ 63 := Nat.pow_le_pow_right (by omega) hs63
  have hX1 : 0 < 2 ^ s := Nat.two_pow_pos _
  have HB3 := Lib.hid (low_trans HB1.out hb3)
  have HV3 := Lib.hid hv3
  generalize 2 ^ s = X0 at HV3 hX0 hX1 hstart
  clear hv3 hb3 HV1 HB1 hsI
  go_wp2_with fail
  go_loopw [3] (fun vx wr => ∃ X, 0 < X ∧ X ≤ 2 ^ 63 ∧ Hid (∀ r, r * r ≤ m → r ≤ X) ∧ Hid (Dy.Nt wr vx X) ∧ Hid (Below w.heap.size w wr)) (fun vx wr => ntOf wr vx)
  case atStart => exact ⟨X0, hX1, hX0, hstart, HV3.out, HB3.out⟩
  case round =>
    obtain ⟨X, hXp, hXl, HI, HX, HB⟩ := hrel
    have hq1 : m / X ≤ m := Nat.div_le_self _ _
    have hlx : X < 2 ^ 64 := Nat.lt_of_le_of_lt hXl (by decide)
    have hge := Lib.hid (fun r hr => newton_ge (m := m) (X := X) (r := r) hXp hr)
    have hst := Lib.hid (newton_stop (m := m) (X := X) hXp)
    go_wp2_with fail
    refine (Dy.over_nt wr _ _ m X (H.out.keep HB.out) HX.out (HLn.out _ (by omega)) (Dy.len_two (A := 64) hlx (by decide)) (by omega)).mono ?_
    rintro e w4 ⟨v4, v5, rfl, ⟨hv4, _⟩, hb4⟩
    have HX4 := Lib.hid (HX.out.keep hb4)
    have HV4 := Lib.hid hv4
    have HB4 := Lib.hid (low_trans HB.out hb4)
    clear hv4 hb4
    go_wp2_with fail
    refine (Dy.plus_nt w4 _ _ X (m / X) HX4.out HV4.out (Dy.len_two (A := 64) hlx (by decide)) (Dy.len_two (A := 126) (Nat.lt_of_le_of_lt hq1 HM.out) (by decide))).mono ?_
    rintro e w5 ⟨v6, rfl, hv6, hb5⟩
    have hlen : X + m / X < 2 ^ 127 := by
      have h1 := HM.out
      have h2 : (2 : Nat) ^ 127 = 2 ^ 126 + 2 ^ 126 := by decide
      have h3 : (2 : Nat) ^ 64 ≤ 2 ^ 126 := by decide
      omega
    have HX5 := Lib.hid (HX4.out.keep hb5)
    have HV6 := Lib.hid hv6
    have HB5 := Lib.hid (low_trans HB4.out hb5)
    clear hv6 hb5 HX4 HV4 HB4
    go_wp2_with fail
    refine (Dy.right_nt w5 _ (X + m / X) 1 HV6.out (Dy.len_two (A := 127) hlen (by decide)) (by omega)).mono ?_
    rintro e w6 ⟨v7, rfl, hv7, hb6⟩
    rw [Nat.pow_one] at hv7
    have hlen2 : (X + m / X) / 2 < 2 ^ 127 := Nat.lt_of_le_of_lt (Nat.div_le_self _ _) hlen
    have HX6 := Lib.hid (HX5.out.keep hb6)
    have HB6 := Lib.hid (low_trans HB5.out hb6)
    generalize (X + m / X) / 2 = Y at hv7 hge hst hlen2
    have HV7 := Lib.hid hv7
    have HL2 := Lib.hid hlen2
    clear hv7 hb6 HX5 HV6 HB5 hq1 hlen hlen2
    go_wp2_with fail
    refine (Dy.compare_nt w6 _ _ Y X HV7.out HX6.out (Dy.len_two (A := 127) HL2.out (by decide)) (Dy.len_two (A := 64) hlx (by decide))).mono ?_
    rintro e w7 ⟨rfl, hq7⟩
    have hb7 := hq7.below w6.heap.size
    have HX7 := Lib.hid (HX6.out.keep hb7)
    have HV8 := Lib.hid (HV7.out.keep hb7)
    have HB7 := Lib.hid (low_trans HB6.out hb7)
    clear hq7 hb7 HX6 HV7 HB6
    by_cases hc : Y < X
    · have hcm : Dy.cmpN Y X = -1 := by unfold Dy.cmpN; rw [if_pos hc]
      rw [hcm]
      go_wp2_with fail
      refine ⟨⟨Y, ?_, by omega, fun r hr => hge.out r hr, HV8.out, HB7.out⟩, ?_⟩
      · have h1 := hge.out 1
        have h2 := HH0.out
        exact h1 (by omega)
      · rw [ntOf_eq HV8.out, ntOf_eq HX.out]; exact hc
    · have hcm : 0 ≤ Dy.cmpN Y X := by unfold Dy.cmpN; rw [if_neg hc]; split <;> omega
      have HR : Hid (X * X ≤ m ∧ m < (X + 1) * (X + 1)) := ⟨hst.out (by omega), Nat.lt_of_not_le fun h => by have := HI.out (X + 1) h; omega⟩
      generalize Dy.cmpN Y X = cv at hcm ⊢
      go_wp2_with fail
      go_ret
      exact ⟨_, rfl, ⟨X, HR.out.1, HR.out.2, HX7.out⟩, HB7.out⟩

theorem rHi_eq (ex : Bool) (q : Nat) : Dy.rHi false ex q 20 = Dy.mk ((if ex then q else q + 1 : Nat) : Int) (-20) := by
  unfold Dy.rHi
  cases ex
  · have h : Dy.sgn (Dy.mk ((q + 1 : Nat) : Int) (-20) - Dy.mk (q : Int) (-20)) > 0 := by
      rw [mk_sub]; exact (sgn_mkE _ _).2.2 (by push_cast; omega)
    exact if_pos h
  · rfl
theorem odd_split20 {D m : Nat} {e : Int} {a : Bool} (h : Dy.Canon a m e (Dy.mk (D : Int) (-20))) (h0 : D ≠ 0) : a = false ∧ ∃ j : Nat, e = (j : Int) - 20 ∧ D = m * 2 ^ j ∧ m % 2 = 1 := by
  obtain ⟨j, k, hk⟩ : ∃ j k, D = 2 ^ j * (2 * k + 1) := by
    have : ∀ N D : Nat, D ≤ N → D ≠ 0 → ∃ j k, D = 2 ^ j * (2 * k + 1) := fun N => by
      induction N with
      | zero => intro D h1 h2; omega
      | succ N ih =>
        intro D h1 h2
        rcases Nat.mod_two_eq_zero_or_one D with h3 | h3
        · obtain ⟨j, k, e⟩ := ih (D / 2) (by omega) (by omega)
          exact ⟨j + 1, k, by rw [Nat.pow_succ, Nat.mul_comm (2 ^ j) 2, Nat.mul_assoc, ← e]; omega⟩
        · exact ⟨0, D / 2, by omega⟩
    exact this D D (Nat.le_refl _) h0
  have h2 : Dy.Canon false (2 * k + 1) (-20 + (j : Int)) (Dy.mk (Dy.sg false D) (-20)) := Dy.canon_build (neg := false) (t := j) (q := k) hk
  have h3 := (h.inj h2).2 rfl
  obtain ⟨rfl, rfl, rfl⟩ := h3
  exact ⟨rfl, j, by omega, by rw [hk, Nat.mul_comm], by omega⟩
set_option maxRecDepth 100000 in
set_option maxHeartbeats 4000000 in
theorem root20 (w : World) (v : Value) (D : Nat) (h : Nq w v (D : Int)) (h0 : D ≠ 0) (hD : D < 2 ^ 80) (hT : Dy.Tab w) :
    Calls Tryz.prog 188 #[v, .int .i64 20] w (Dy.Ret2 w fun w' v e => e = .int .i64 0 ∧ ∃ (r : Nat) (ex : Bool), r * r ≤ D * 2 ^ 20 ∧ D * 2 ^ 20 < (r + 1) * (r + 1) ∧ Dy.Sp w' v (Dy.mk (r : Int) (-20)) (Dy.mk ((if ex then r else r + 1 : Nat) : Int) (-20))) := by
  obtain ⟨a, p, n, k, e, m, rfl, hn, hc⟩ := Dy.Nm.fields h
  obtain ⟨rfl, j, rfl, hDm, ho⟩ := odd_split20 hc h0
  have hm1 : m ≤ D := by rw [hDm]; exact Nat.le_mul_of_pos_right _ (Nat.two_pow_pos _)
  have hj : j ≤ 80 := by
    rcases Nat.lt_or_ge 80 j with h | h
    · exfalso
      have h3 : 2 ^ 80 ≤ 2 ^ j := Nat.pow_le_pow_right (by omega) (by omega)
      have h4 : 1 * 2 ^ j ≤ m * 2 ^ j := Nat.mul_le_mul_right _ (by omega)
      omega
    · exact h
  have hsq : m * 2 ^ (j + 20) = D * 2 ^ 20 := by rw [hDm, Nat.pow_add, Nat.mul_assoc]
  have hsl : D * 2 ^ 20 < 2 ^ 100 := by
    have h4 : D * 2 ^ 20 < 2 ^ 80 * 2 ^ 20 := Nat.mul_lt_mul_of_pos_right hD (by decide)
    rwa [← Nat.pow_add] at h4
  have hs0 : D * 2 ^ 20 ≠ 0 := fun e => by
    rcases Nat.mul_eq_zero.1 e with h | h
    · exact h0 h
    · exact absurd h (by decide)
  have H := Lib.hid hn
  have HT := Lib.hid hT
  have HSq := Lib.hid hsq
  have HSl := Lib.hid hsl
  have HS0 := Lib.hid hs0
  have HLm : Hid (Dy.Len m 400000000000) := Dy.len_two (A := 80) (Nat.lt_of_le_of_lt hm1 hD) (by omega)
  generalize D * 2 ^ 20 = S at HSq HSl HS0 ⊢
  clear h hc hn hT hsq hsl hs0 hm1 hDm hD h0
  have hup : (j : Int) - 20 + 40 = ((j + 20 : Nat) : Int) := by omega
  have hx1 : max (((j + 20 : Nat) : Int)) 0 = ((j + 20 : Nat) : Int) := by omega
  have hx2 : max (-((j + 20 : Nat) : Int)) 0 = ((0 : Nat) : Int) := by omega
  have hu0 : decide ((((j + 20 : Nat) : Int)) ≥ 0) = true := by rw [decide_eq_true_iff]; omega
  obtain ⟨u, hu⟩ : ∃ u : Nat, j + 20 = u := ⟨_, rfl⟩
  rw [hu] at hup hx1 hx2 hu0 HSq
  have hub : u ≤ 100 := by omega
  clear hu
  go_enter Tryz.func188, Tryz.ntmps188
  go_wp2_with fail
  obtain ⟨W, hW⟩ : ∃ W, (w.alloc (.cells #[.bool false, .slice p n k, .int .i64 ((j : Int) - 20)] 75)).alloc (.cells #[.bool false, .slice none 0 0, .int .i64 0, .bool false, .slice none 0 0, .int .i64 0] 116) = W := ⟨_, rfl⟩
  rw [hW]
  have hB : Below w.heap.size w W := by rw [← hW]; exact ((Below.refl _ _).alloc (Nat.le_refl _) _).alloc (by simp) _
  have hP : W.heap[w.heap.size]? = some (.cells #[.bool false, .slice p n k, .int .i64 ((j : Int) - 20)] 75 (0, 0)) := by rw [← hW]; exact al_old (World.alloc_heap_new w _) _
  have hR : W.heap[w.heap.size + 1]? = some (.cells #[.bool false, .slice none 0 0, .int .i64 0, .bool false, .slice none 0 0, .int .i64 0] 116 (0, 0)) := by rw [← hW]; exact al_1 w _ _
  have HB := Lib.hid hB
  have HR := Lib.hid hR
  have s1 := cell_h (k := 1) hP rfl
  have s2 := cell_h (k := 2) hP rfl
  have H1 := Lib.hid (H.out.keep hB)
  clear hW hB hP hR
  refine (Dy.clamp W 20 (by decide) (by decide)).mono ?_
  rintro e0 W0 ⟨rfl, rfl⟩
  go_wp2_with fail
  have hL : Calls Tryz.prog 117 #[.slice p n k, .int .i64 (u : Int)] W0 (Dy.Ret W0 fun w' v => Dy.Nt w' v S) := by
    have h := Dy.left_nt W0 (.slice p n k) m u H1.out HLm.out (by omega)
    rwa [HSq.out] at h
  refine hL.mono ?_
  rintro e0 W1 ⟨v1, rfl, hv1, hb1⟩
  have HV1 := Lib.hid hv1
  have HB1 := Lib.hid (low_trans HB.out hb1)
  have HR1 := Lib.hid (blk1 HR.out hb1)
  clear hv1 hb1 hL HB HR s1 s2 H1 H
  go_wp2_with fail
  refine (Dy.right_nt W1 v1 S 0 HV1.out (Dy.len_two (A := 100) HSl.out (by decide)) (by omega)).mono ?_
  rintro e0 W2 ⟨v2, rfl, hv2, hb2⟩
  rw [Nat.pow_zero, Nat.div_one] at hv2
  have HV2 := Lib.hid hv2
  have HB2 := Lib.hid (low_trans HB1.out hb2)
  have HR2 := Lib.hid (blk1 HR1.out hb2)
  clear hv2 hb2 HV1 HB1 HR1
  go_wp2_with fail
  refine (root_nt W2 v2 S HV2.out (Nat.lt_trans HSl.out (by decide)) HS0.out).mono ?_
  rintro e0 W3 ⟨v3, rfl, ⟨r, hr1, hr2, hv3⟩, hb3⟩
  have hrl : r < 2 ^ 64 := by
    rcases Nat.lt_or_ge r (2 ^ 64) with h | h
    · exact h
    · exfalso
      have h3 : 2 ^ 64 * 2 ^ 64 ≤ r * r := Nat.mul_le_mul h h
      have h4 := HSl.out
      have h5 : (2 : Nat) ^ 64 * 2 ^ 64 = 2 ^ 128 := by decide
      have h6 : (2 : Nat) ^ 100 ≤ 2 ^ 128 := by decide
      omega
  have HRr := Lib.hid (And.intro hr1 hr2)
  have HRl : Hid (Dy.Len r 1) := Dy.len_two (A := 64) hrl (by decide)
  have HV3 := Lib.hid hv3
  have HV23 := Lib.hid (HV2.out.keep hb3)
  have HB3 := Lib.hid (low_trans HB2.out hb3)
  have HR3 := Lib.hid (blk1 HR2.out hb3)
  clear hr1 hr2 hrl hv3 hb3 HV2 HB2 HR2
  go_wp2_with fail
  refine (Dy.times_nt W3 v3 v3 r r 1 1 HV3.out HV3.out HRl.out HRl.out (by omega)).mono ?_
  rintro e0 W4 ⟨v4, rfl, hv4, hb4⟩
  have HV4 := Lib.hid hv4
  have HV34 := Lib.hid (HV3.out.keep hb4)
  have HV24 := Lib.hid (HV23.out.keep hb4)
  have HB4 := Lib.hid (low_trans HB3.out hb4)
  have HR4 := Lib.hid (blk1 HR3.out hb4)
  clear hv4 hb4 HV3 HV23 HB3 HR3
  go_wp2_with fail
  refine (Dy.compare_nt W4 v4 v2 (r * r) S HV4.out HV24.out (Dy.len_two (A := 100) (Nat.lt_of_le_of_lt HRr.out.1 HSl.out) (by decide)) (Dy.len_two (A := 100) HSl.out (by decide))).mono ?_
  rintro e0 W5 ⟨rfl, hq5⟩
  have hb5 := hq5.below W4.heap.size
  obtain ⟨cv, hcv⟩ : ∃ cv, Dy.cmpN (r * r) S = cv := ⟨_, rfl⟩
  rw [hcv]
  have HV35 := Lib.hid (HV34.out.keep hb5)
  have HB5 := Lib.hid (low_trans HB4.out hb5)
  have HR5 := Lib.hid (blk1 HR4.out hb5)
  clear hcv hq5 hb5 HV34 HV24 HV4 HB4 HR4
  obtain ⟨q3, l3, c3, rfl⟩ := HV35.out.slice
  go_wp2_with fail
  obtain ⟨ex, hex⟩ : ∃ ex : Bool, (cv == 0) = ex := ⟨_, rfl⟩
  rw [hex]
  refine (Dy.rounded_nm W5 false q3 l3 c3 r 1 20 ex HV35.out HRl.out (by decide) (by decide) (by decide) (HT.out.keep HB5.out)).mono ?_
  rintro e0 W6 ⟨v6, rfl, hs6, hb6⟩
  rw [rLo_eq, rHi_eq] at hs6
  obtain ⟨a1, p1, n1, k1, e1, a2, p2, n2, k2, e2, rfl, hx, hy⟩ := hs6
  have HS6 : Hid (Dy.Sp W6 (.agg #[.bool a1, .slice p1 n1 k1, .int .i64 e1, .bool a2, .slice p2 n2 k2, .int .i64 e2]) (Dy.mk (r : Int) (-20)) (Dy.mk ((if ex then r else r + 1 : Nat) : Int) (-20))) := ⟨a1, p1, n1, k1, e1, a2, p2, n2, k2, e2, rfl, hx, hy⟩
  have hR6 := blk1 HR5.out hb6
  have HA := Lib.hid (set6_all (b1 := a1) (q1 := p1) (l1 := n1) (c1 := k1) (f1 := e1) (b2 := a2) (q2 := p2) (l2 := n2) (c2 := k2) (f2 := e2) hR6 (low_trans HB5.out hb6) (by omega : w.heap.size ≤ w.heap.size + 1))
  have z0 := cell_h (k := 0) hR6 rfl
  have z1 := cell_h (k := 1) hR6 rfl
  have z2 := cell_h (k := 2) hR6 rfl
  have z3 := cell_h (k := 3) hR6 rfl
  have z4 := cell_h (k := 4) hR6 rfl
  have z5 := cell_h (k := 5) hR6 rfl
  have zf : ∀ o, W6.frozen? ⟨w.heap.size + 1, o, none⟩ = false := fun o => by simp [World.frozen?, hR6]
  clear hx hy hR6 hb6 HV35 HB5 HR5
  go_wp2_with fail
  generalize hW9 : (((((W6.setCell ⟨w.heap.size + 1, 0, none⟩ (.bool a1)).setCell ⟨w.heap.size + 1, 1, none⟩ (.slice p1 n1 k1)).setCell ⟨w.heap.size + 1, 2, none⟩ (.int .i64 e1)).setCell ⟨w.heap.size + 1, 3, none⟩ (.bool a2)).setCell ⟨w.heap.size + 1, 4, none⟩ (.slice p2 n2 k2)).setCell ⟨w.heap.size + 1, 5, none⟩ (.int .i64 e2) = W9
  obtain ⟨hR9, hB9, hS9, _⟩ := HA.out W9 hW9
  have y0 := cell_h (k := 0) hR9 rfl
  have y1 := cell_h (k := 1) hR9 rfl
  have y2 := cell_h (k := 2) hR9 rfl
  have y3 := cell_h (k := 3) hR9 rfl
  have y4 := cell_h (k := 4) hR9 rfl
  have y5 := cell_h (k := 5) hR9 rfl
  exact bodyPost_ret (v := .tuple #[.agg #[.bool a1, .slice p1 n1 k1, .int .i64 e1, .bool a2, .slice p2 n2 k2, .int .i64 e2], .int .i64 0]) (by simp [results, Tryz.results188, go_sem, y0, y1, y2, y3, y4, y5]) rfl ⟨_, _, rfl, ⟨rfl, r, ex, HRr.out.1, HRr.out.2, hS9 _ _ _ HS6.out⟩, hB9⟩
end Go.Proofs.YtlphlbgbbblnpaaGreatDoor
-- StQ: WALKS: strength: negatives, sums and differences of spans with whole ends; only; divided.
namespace Go.Proofs.YtlphlbgbbblnpaaGreatDoor
open Go.RowKit

theorem bx40 {a : Int} (h : a.natAbs < 1099511627776) : Dy.Box (Dy.mk a 0) 40 0 := ⟨a, rfl, h⟩
set_option maxRecDepth 100000 in
set_option maxHeartbeats 8000000 in
theorem sneg_int (w : World) (v : Value) (x y : Int) (h : SpI w v x y) (hx : x.natAbs < 1099511627776) (hy : y.natAbs < 1099511627776) (hT : Dy.Tab w) :
    Calls Tryz.prog 233 #[v] w (Dy.Ret w fun w' v => SpI w' v (-y) (-x)) := by
  have hF1 : ∀ f, Fence.wide.fn f := fun _ => trivial
  obtain ⟨b1, q1, l1, c1, f1, B1, Q1, L1, C1, F1, rfl, h1, h2⟩ := h
  have H1 := Lib.hid h1
  have H2 := Lib.hid h2
  have HT := Lib.hid hT
  clear h1 h2 hT
  go_enter Tryz.func233, Tryz.ntmps233
  go_upto_region 1 with fail
  obtain ⟨W, hW⟩ : ∃ W, (w.alloc (.cells #[.bool b1, .slice q1 l1 c1, .int .i64 f1, .bool B1, .slice Q1 L1 C1, .int .i64 F1] 116)).alloc (.cells #[.bool false, .slice none 0 0, .int .i64 0, .bool false, .slice none 0 0, .int .i64 0] 116) = W := ⟨_, rfl⟩
  rw [hW]
  have hB : Below w.heap.size w W := by rw [← hW]; exact ((Below.refl _ _).alloc (Nat.le_refl _) _).alloc (by simp) _
  have hP : W.heap[w.heap.size]? = some (.cells #[.bool b1, .slice q1 l1 c1, .int .i64 f1, .bool B1, .slice Q1 L1 C1, .int .i64 F1] 116 (0, 0)) := by rw [← hW]; exact al_old (World.alloc_heap_new w _) _
  have hR : W.heap[w.heap.size + 1]? = some (.cells #[.bool false, .slice none 0 0, .int .i64 0, .bool false, .slice none 0 0, .int .i64 0] 116 (0, 0)) := by rw [← hW]; exact al_1 w _ _
  have HB := Lib.hid hB
  have HP := Lib.hid hP
  have HR := Lib.hid hR
  clear hW hB hP hR
  have HKS : Hid (∀ V, Below W.heap.size W V → V.cell? ⟨w.heap.size, 0, none⟩ = some (.bool b1) ∧ V.cell? ⟨w.heap.size, 1, none⟩ = some (.slice q1 l1 c1) ∧ V.cell? ⟨w.heap.size, 2, none⟩ = some (.int .i64 f1) ∧ V.cell? ⟨w.heap.size, 3, none⟩ = some (.bool B1) ∧ V.cell? ⟨w.heap.size, 4, none⟩ = some (.slice Q1 L1 C1) ∧ V.cell? ⟨w.heap.size, 5, none⟩ = some (.int .i64 F1)) := fun V hV => ⟨cell_h (blk1 HP.out hV) rfl, cell_h (blk1 HP.out hV) rfl, cell_h (blk1 HP.out hV) rfl, cell_h (blk1 HP.out hV) rfl, cell_h (blk1 HP.out hV) rfl, cell_h (blk1 HP.out hV) rfl⟩
  refine (wpIn_wide (n := 5)).1 ?_
  refine wpIn_region_T 7 (fun W2 : World => W2.cell? ⟨w.heap.size, 0, none⟩ = some (.bool b1) ∧ W2.cell? ⟨w.heap.size, 1, none⟩ = some (.slice q1 l1 c1) ∧ W2.cell? ⟨w.heap.size, 2, none⟩ = some (.int .i64 f1) ∧ W2.cell? ⟨w.heap.size, 3, none⟩ = some (.bool B1) ∧ W2.cell? ⟨w.heap.size, 4, none⟩ = some (.slice Q1 L1 C1) ∧ W2.cell? ⟨w.heap.size, 5, none⟩ = some (.int .i64 F1)) (by kernel_rfl) ?_
  change anyT _ _ _ _ _ _ _ _ 8 (Array.replicate 8 false) _ _
  have hqd : Below W.heap.size W W.drew := (Below.refl _ _).drew
  generalize W.drew = Wd at *
  have hS0 := HKS.out Wd hqd
  refine anyT_takeD hF1 0 3 (v := ?_) rfl rfl (by kernel_rfl) (by kernel_rfl) (by kernel_rfl) (by kernel_rfl) (by kernel_rfl) (fun _ _ _ h => h) hS0 rfl ?_ ?_
  rotate_left
  · intro W2 hSw; obtain ⟨r0, r1, r2, r3, r4, r5⟩ := hSw; go_simp; try with_reducible rfl
  simp only [List.setIfInBounds_toArray, List.set_cons_zero, List.set_cons_succ]
  refine anyT_takeD hF1 1 4 (v := ?_) rfl rfl (by kernel_rfl) (by kernel_rfl) (by kernel_rfl) (by kernel_rfl) (by kernel_rfl) (fun _ _ _ h => h) hS0 rfl ?_ ?_
  rotate_left
  · intro W2 hSw; obtain ⟨r0, r1, r2, r3, r4, r5⟩ := hSw; go_simp; try with_reducible rfl
  simp only [List.setIfInBounds_toArray, List.set_cons_zero, List.set_cons_succ]
  refine anyT_takeD hF1 3 6 (v := ?_) rfl rfl (by kernel_rfl) (by kernel_rfl) (by kernel_rfl) (by kernel_rfl) (by kernel_rfl) (fun _ _ _ h => h) hS0 rfl ?_ ?_
  rotate_left
  · intro W2 hSw; obtain ⟨r0, r1, r2, r3, r4, r5⟩ := hSw; go_simp; try with_reducible rfl
  simp only [List.setIfInBounds_toArray, List.set_cons_zero, List.set_cons_succ]
  refine anyT_takeD hF1 4 7 (v := ?_) rfl rfl (by kernel_rfl) (by kernel_rfl) (by kernel_rfl) (by kernel_rfl) (by kernel_rfl) (fun _ _ _ h => h) hS0 rfl ?_ ?_
  rotate_left
  · intro W2 hSw; obtain ⟨r0, r1, r2, r3, r4, r5⟩ := hSw; go_simp; try with_reducible rfl
  simp only [List.setIfInBounds_toArray, List.set_cons_zero, List.set_cons_succ]
  refine anyT_call hF1 (fun h => absurd h (by decide)) 2 5 (w := Wd) rfl rfl (by kernel_rfl) (by kernel_rfl) (by rfl) (by go_simp; try with_reducible rfl) (callsIn_wide.2 (Dy.neg_nm Wd _ (Dy.mk y 0) 40 0 (H2.out.keep (low_trans HB.out hqd)) (bx40 (by omega)) (by omega) (HT.out.keep (low_trans HB.out hqd)))) ?_
  rintro e9 V2 ⟨v2, rfl, hv2, hb2⟩
  replace hqd := low_trans hqd hb2
  replace hS0 := HKS.out V2 hqd
  obtain ⟨b2, q2, l2, c2, f2, m2, rfl, _, _⟩ := id (Dy.Nm.fields hv2)
  have hv2d := hv2
  refine ⟨_, rfl, hS0, ?_⟩
  simp only [List.setIfInBounds_toArray, List.set_cons_zero, List.set_cons_succ]
  refine anyT_call hF1 (fun h => absurd h (by decide)) 5 8 (w := V2) rfl rfl (by kernel_rfl) (by kernel_rfl) (by rfl) (by go_simp; try with_reducible rfl) (callsIn_wide.2 (Dy.neg_nm V2 _ (Dy.mk x 0) 40 0 (H1.out.keep (low_trans HB.out hqd)) (bx40 (by omega)) (by omega) (HT.out.keep (low_trans HB.out hqd)))) ?_
  rintro e9 V3 ⟨v3, rfl, hv3, hb3⟩
  replace hqd := low_trans hqd hb3
  replace hS0 := HKS.out V3 hqd
  replace hv2d := Dy.Nm.keep hv2d hb3
  obtain ⟨b3, q3, l3, c3, f3, m3, rfl, _, _⟩ := id (Dy.Nm.fields hv3)
  have hv3d := hv3
  refine ⟨_, rfl, hS0, ?_⟩
  simp only [List.setIfInBounds_toArray, List.set_cons_zero, List.set_cons_succ]
  refine anyT_takeD hF1 6 9 (v := ?_) rfl rfl (by kernel_rfl) (by kernel_rfl) (by kernel_rfl) (by kernel_rfl) (by kernel_rfl) (fun _ _ _ h => h) hS0 rfl ?_ ?_
  rotate_left
  · intro W2 hSw; obtain ⟨r0, r1, r2, r3, r4, r5⟩ := hSw; go_simp; try with_reducible rfl
  simp only [List.setIfInBounds_toArray, List.set_cons_zero, List.set_cons_succ]
  rw [Dy.mk_neg] at hv2d hv3d
  have hs : SpI V3 (.agg #[.bool b2, .slice q2 l2 c2, .int .i64 f2, .bool b3, .slice q3 l3 c3, .int .i64 f3]) (-y) (-x) := ⟨b2, q2, l2, c2, f2, b3, q3, l3, c3, f3, rfl, hv2d, hv3d⟩
  have hR7 := blk1 HR.out hqd
  have HA := Lib.hid (set6_all (b1 := b2) (q1 := q2) (l1 := l2) (c1 := c2) (f1 := f2) (b2 := b3) (q2 := q3) (l2 := l3) (c2 := c3) (f2 := f3) hR7 (low_trans HB.out hqd) (by omega : w.heap.size ≤ w.heap.size + 1))
  have z0 := cell_h (k := 0) hR7 rfl
  have z1 := cell_h (k := 1) hR7 rfl
  have z2 := cell_h (k := 2) hR7 rfl
  have z3 := cell_h (k := 3) hR7 rfl
  have z4 := cell_h (k := 4) hR7 rfl
  have z5 := cell_h (k := 5) hR7 rfl
  have zf : ∀ o, V3.frozen? ⟨w.heap.size + 1, o, none⟩ = false := fun o => by simp [World.frozen?, hR7]
  refine anyT_skipN hF1 (w2 := ((((((V3).setCell ⟨w.heap.size + 1, 0, none⟩ (.bool b2)).setCell ⟨w.heap.size + 1, 1, none⟩ (.slice q2 l2 c2)).setCell ⟨w.heap.size + 1, 2, none⟩ (.int .i64 f2)).setCell ⟨w.heap.size + 1, 3, none⟩ (.bool b3)).setCell ⟨w.heap.size + 1, 4, none⟩ (.slice q3 l3 c3)).setCell ⟨w.heap.size + 1, 5, none⟩ (.int .i64 f3)) rfl rfl (by kernel_rfl) (by kernel_rfl) rfl (by go_simp; try with_reducible rfl) ?_
  refine anyT_done (by kernel_rfl) ?_ _
  generalize hW9 : ((((((V3).setCell ⟨w.heap.size + 1, 0, none⟩ (.bool b2)).setCell ⟨w.heap.size + 1, 1, none⟩ (.slice q2 l2 c2)).setCell ⟨w.heap.size + 1, 2, none⟩ (.int .i64 f2)).setCell ⟨w.heap.size + 1, 3, none⟩ (.bool b3)).setCell ⟨w.heap.size + 1, 4, none⟩ (.slice q3 l3 c3)).setCell ⟨w.heap.size + 1, 5, none⟩ (.int .i64 f3) = W9
  obtain ⟨hR9, hB9, hS9, _⟩ := HA.out W9 hW9
  have y0 := cell_h (k := 0) hR9 rfl
  have y1 := cell_h (k := 1) hR9 rfl
  have y2 := cell_h (k := 2) hR9 rfl
  have y3 := cell_h (k := 3) hR9 rfl
  have y4 := cell_h (k := 4) hR9 rfl
  have y5 := cell_h (k := 5) hR9 rfl
  go_wp2_with fail
  exact bodyPost_ret (v := .agg #[.bool b2, .slice q2 l2 c2, .int .i64 f2, .bool b3, .slice q3 l3 c3, .int .i64 f3]) (by simp [results, Tryz.results233, go_sem, y0, y1, y2, y3, y4, y5]) rfl ⟨_, rfl, hS9 _ _ _ hs, hB9⟩
set_option maxRecDepth 100000 in
set_option maxHeartbeats 8000000 in
theorem sadd_int (w : World) (v v' : Value) (x y x' y' : Int) (h : SpI w v x y) (h' : SpI w v' x' y') (hx : x.natAbs < 1099511627776) (hy : y.natAbs < 1099511627776) (hx' : x'.natAbs < 1099511627776) (hy' : y'.natAbs < 1099511627776) (hT : Dy.Tab w) :
    Calls Tryz.prog 232 #[v, v'] w (Dy.Ret w fun w' v => SpI w' v (x + x') (y + y')) := by
  have hF1 : ∀ f, Fence.wide.fn f := fun _ => trivial
  obtain ⟨b1, q1, l1, c1, f1, B1, Q1, L1, C1, F1, rfl, h1, h2⟩ := h
  obtain ⟨b4, q4, l4, c4, f4, B4, Q4, L4, C4, F4, rfl, h3, h4⟩ := h'
  have H1 := Lib.hid h1
  have H2 := Lib.hid h2
  have H3 := Lib.hid h3
  have H4 := Lib.hid h4
  have HT := Lib.hid hT
  clear h1 h2 h3 h4 hT
  go_enter Tryz.func232, Tryz.ntmps232
  go_upto_region 1 with fail
  obtain ⟨W, hW⟩ : ∃ W, ((w.alloc (.cells #[.bool b1, .slice q1 l1 c1, .int .i64 f1, .bool B1, .slice Q1 L1 C1, .int .i64 F1] 116)).alloc (.cells #[.bool b4, .slice q4 l4 c4, .int .i64 f4, .bool B4, .slice Q4 L4 C4, .int .i64 F4] 116)).alloc (.cells #[.bool false, .slice none 0 0, .int .i64 0, .bool false, .slice none 0 0, .int .i64 0] 116) = W := ⟨_, rfl⟩
  rw [hW]
  have hB : Below w.heap.size w W := by rw [← hW]; exact (((Below.refl _ _).alloc (Nat.le_refl _) _).alloc (by simp) _).alloc (by simp; omega) _
  have hP : W.heap[w.heap.size]? = some (.cells #[.bool b1, .slice q1 l1 c1, .int .i64 f1, .bool B1, .slice Q1 L1 C1, .int .i64 F1] 116 (0, 0)) := by rw [← hW]; exact al_old (al_old (World.alloc_heap_new w _) _) _
  have hQ : W.heap[w.heap.size + 1]? = some (.cells #[.bool b4, .slice q4 l4 c4, .int .i64 f4, .bool B4, .slice Q4 L4 C4, .int .i64 F4] 116 (0, 0)) := by rw [← hW]; exact al_old (al_1 w _ _) _
  have hR : W.heap[w.heap.size + 1 + 1]? = some (.cells #[.bool false, .slice none 0 0, .int .i64 0, .bool false, .slice none 0 0, .int .i64 0] 116 (0, 0)) := by rw [← hW]; exact al_2 w _ _ _
  have HB := Lib.hid hB
  have HP := Lib.hid hP
  have HQ := Lib.hid hQ
  have HR := Lib.hid hR
  clear hW hB hP hQ hR
  have HKS : Hid (∀ V, Below W.heap.size W V → V.cell? ⟨w.heap.size, 0, none⟩ = some (.bool b1) ∧ V.cell? ⟨w.heap.size, 1, none⟩ = some (.slice q1 l1 c1) ∧ V.cell? ⟨w.heap.size, 2, none⟩ = some (.int .i64 f1) ∧ V.cell? ⟨w.heap.size, 3, none⟩ = some (.bool B1) ∧ V.cell? ⟨w.heap.size, 4, none⟩ = some (.slice Q1 L1 C1) ∧ V.cell? ⟨w.heap.size, 5, none⟩ = some (.int .i64 F1) ∧ V.cell? ⟨w.heap.size + 1, 0, none⟩ = some (.bool b4) ∧ V.cell? ⟨w.heap.size + 1, 1, none⟩ = some (.slice q4 l4 c4) ∧ V.cell? ⟨w.heap.size + 1, 2, none⟩ = some (.int .i64 f4) ∧ V.cell? ⟨w.heap.size + 1, 3, none⟩ = some (.bool B4) ∧ V.cell? ⟨w.heap.size + 1, 4, none⟩ = some (.slice Q4 L4 C4) ∧ V.cell? ⟨w.heap.size + 1, 5, none⟩ = some (.int .i64 F4)) := fun V hV => ⟨cell_h (blk1 HP.out hV) rfl, cell_h (blk1 HP.out hV) rfl, cell_h (blk1 HP.out hV) rfl, cell_h (blk1 HP.out hV) rfl, cell_h (blk1 HP.out hV) rfl, cell_h (blk1 HP.out hV) rfl, cell_h (blk1 HQ.out hV) rfl, cell_h (blk1 HQ.out hV) rfl, cell_h (blk1 HQ.out hV) rfl, cell_h (blk1 HQ.out hV) rfl, cell_h (blk1 HQ.out hV) rfl, cell_h (blk1 HQ.out hV) rfl⟩
  refine (wpIn_wide (n := 5)).1 ?_
  refine wpIn_region_T 11 (fun W2 : World => W2.cell? ⟨w.heap.size, 0, none⟩ = some (.bool b1) ∧ W2.cell? ⟨w.heap.size, 1, none⟩ = some (.slice q1 l1 c1) ∧ W2.cell? ⟨w.heap.size, 2, none⟩ = some (.int .i64 f1) ∧ W2.cell? ⟨w.heap.size, 3, none⟩ = some (.bool B1) ∧ W2.cell? ⟨w.heap.size, 4, none⟩ = some (.slice Q1 L1 C1) ∧ W2.cell? ⟨w.heap.size, 5, none⟩ = some (.int .i64 F1) ∧ W2.cell? ⟨w.heap.size + 1, 0, none⟩ = some (.bool b4) ∧ W2.cell? ⟨w.heap.size + 1, 1, none⟩ = some (.slice q4 l4 c4) ∧ W2.cell? ⟨w.heap.size + 1, 2, none⟩ = some (.int .i64 f4) ∧ W2.cell? ⟨w.heap.size + 1, 3, none⟩ = some (.bool B4) ∧ W2.cell? ⟨w.heap.size + 1, 4, none⟩ = some (.slice Q4 L4 C4) ∧ W2.cell? ⟨w.heap.size + 1, 5, none⟩ = some (.int .i64 F4)) (by kernel_rfl) ?_
  change anyT _ _ _ _ _ _ _ _ 12 (Array.replicate 12 false) _ _
  have hqd : Below W.heap.size W W.drew := (Below.refl _ _).drew
  generalize W.drew = Wd at *
  have hS0 := HKS.out Wd hqd
  refine anyT_takeD hF1 0 5 (v := ?_) rfl rfl (by kernel_rfl) (by kernel_rfl) (by kernel_rfl) (by kernel_rfl) (by kernel_rfl) (fun _ _ _ h => h) hS0 rfl ?_ ?_
  rotate_left
  · intro W2 hSw; obtain ⟨r0, r1, r2, r3, r4, r5, r6, r7, r8, r9, r10, r11⟩ := hSw; go_simp; try with_reducible rfl
  simp only [List.setIfInBounds_toArray, List.set_cons_zero, List.set_cons_succ]
  refine anyT_takeD hF1 1 6 (v := ?_) rfl rfl (by kernel_rfl) (by kernel_rfl) (by kernel_rfl) (by kernel_rfl) (by kernel_rfl) (fun _ _ _ h => h) hS0 rfl ?_ ?_
  rotate_left
  · intro W2 hSw; obtain ⟨r0, r1, r2, r3, r4, r5, r6, r7, r8, r9, r10, r11⟩ := hSw; go_simp; try with_reducible rfl
  simp only [List.setIfInBounds_toArray, List.set_cons_zero, List.set_cons_succ]
  refine anyT_takeD hF1 2 7 (v := ?_) rfl rfl (by kernel_rfl) (by kernel_rfl) (by kernel_rfl) (by kernel_rfl) (by kernel_rfl) (fun _ _ _ h => h) hS0 rfl ?_ ?_
  rotate_left
  · intro W2 hSw; obtain ⟨r0, r1, r2, r3, r4, r5, r6, r7, r8, r9, r10, r11⟩ := hSw; go_simp; try with_reducible rfl
  simp only [List.setIfInBounds_toArray, List.set_cons_zero, List.set_cons_succ]
  refine anyT_takeD hF1 3 8 (v := ?_) rfl rfl (by kernel_rfl) (by kernel_rfl) (by kernel_rfl) (by kernel_rfl) (by kernel_rfl) (fun _ _ _ h => h) hS0 rfl ?_ ?_
  rotate_left
  · intro W2 hSw; obtain ⟨r0, r1, r2, r3, r4, r5, r6, r7, r8, r9, r10, r11⟩ := hSw; go_simp; try with_reducible rfl
  simp only [List.setIfInBounds_toArray, List.set_cons_zero, List.set_cons_succ]
  refine anyT_takeD hF1 5 10 (v := ?_) rfl rfl (by kernel_rfl) (by kernel_rfl) (by kernel_rfl) (by kernel_rfl) (by kernel_rfl) (fun _ _ _ h => h) hS0 rfl ?_ ?_
  rotate_left
  · intro W2 hSw; obtain ⟨r0, r1, r2, r3, r4, r5, r6, r7, r8, r9, r10, r11⟩ := hSw; go_simp; try with_reducible rfl
  simp only [List.setIfInBounds_toArray, List.set_cons_zero, List.set_cons_succ]
  refine anyT_takeD hF1 6 11 (v := ?_) rfl rfl (by kernel_rfl) (by kernel_rfl) (by kernel_rfl) (by kernel_rfl) (by kernel_rfl) (fun _ _ _ h => h) hS0 rfl ?_ ?_
  rotate_left
  · intro W2 hSw; obtain ⟨r0, r1, r2, r3, r4, r5, r6, r7, r8, r9, r10, r11⟩ := hSw; go_simp; try with_reducible rfl
  simp only [List.setIfInBounds_toArray, List.set_cons_zero, List.set_cons_succ]
  refine anyT_takeD hF1 7 12 (v := ?_) rfl rfl (by kernel_rfl) (by kernel_rfl) (by kernel_rfl) (by kernel_rfl) (by kernel_rfl) (fun _ _ _ h => h) hS0 rfl ?_ ?_
  rotate_left
  · intro W2 hSw; obtain ⟨r0, r1, r2, r3, r4, r5, r6, r7, r8, r9, r10, r11⟩ := hSw; go_simp; try with_reducible rfl
  simp only [List.setIfInBounds_toArray, List.set_cons_zero, List.set_cons_succ]
  refine anyT_takeD hF1 8 13 (v := ?_) rfl rfl (by kernel_rfl) (by kernel_rfl) (by kernel_rfl) (by kernel_rfl) (by kernel_rfl) (fun _ _ _ h => h) hS0 rfl ?_ ?_
  rotate_left
  · intro W2 hSw; obtain ⟨r0, r1, r2, r3, r4, r5, r6, r7, r8, r9, r10, r11⟩ := hSw; go_simp; try with_reducible rfl
  simp only [List.setIfInBounds_toArray, List.set_cons_zero, List.set_cons_succ]
  refine anyT_call hF1 (fun h => absurd h (by decide)) 4 9 (w := Wd) rfl rfl (by kernel_rfl) (by kernel_rfl) (by rfl) (by go_simp; try with_reducible rfl) (callsIn_wide.2 (Dy.add_nm Wd _ _ (Dy.mk x 0) (Dy.mk x' 0) 40 0 40 0 (H1.out.keep (low_trans HB.out hqd)) (H3.out.keep (low_trans HB.out hqd)) (bx40 (by omega)) (bx40 (by omega)) (by omega) (HT.out.keep (low_trans HB.out hqd)))) ?_
  rintro e9 V2 ⟨v2, rfl, hv2, hb2⟩
  replace hqd := low_trans hqd hb2
  replace hS0 := HKS.out V2 hqd
  obtain ⟨b2, q2, l2, c2, f2, m2, rfl, _, _⟩ := id (Dy.Nm.fields hv2)
  have hv2d := hv2
  refine ⟨_, rfl, hS0, ?_⟩
  simp only [List.setIfInBounds_toArray, List.set_cons_zero, List.set_cons_succ]
  refine anyT_call hF1 (fun h => absurd h (by decide)) 9 14 (w := V2) rfl rfl (by kernel_rfl) (by kernel_rfl) (by rfl) (by go_simp; try with_reducible rfl) (callsIn_wide.2 (Dy.add_nm V2 _ _ (Dy.mk y 0) (Dy.mk y' 0) 40 0 40 0 (H2.out.keep (low_trans HB.out hqd)) (H4.out.keep (low_trans HB.out hqd)) (bx40 (by omega)) (bx40 (by omega)) (by omega) (HT.out.keep (low_trans HB.out hqd)))) ?_
  rintro e9 V3 ⟨v3, rfl, hv3, hb3⟩
  replace hqd := low_trans hqd hb3
  replace hS0 := HKS.out V3 hqd
  replace hv2d := Dy.Nm.keep hv2d hb3
  obtain ⟨b3, q3, l3, c3, f3, m3, rfl, _, _⟩ := id (Dy.Nm.fields hv3)
  have hv3d := hv3
  refine ⟨_, rfl, hS0, ?_⟩
  simp only [List.setIfInBounds_toArray, List.set_cons_zero, List.set_cons_succ]
  refine anyT_takeD hF1 10 15 (v := ?_) rfl rfl (by kernel_rfl) (by kernel_rfl) (by kernel_rfl) (by kernel_rfl) (by kernel_rfl) (fun _ _ _ h => h) hS0 rfl ?_ ?_
  rotate_left
  · intro W2 hSw; obtain ⟨r0, r1, r2, r3, r4, r5, r6, r7, r8, r9, r10, r11⟩ := hSw; go_simp; try with_reducible rfl
  simp only [List.setIfInBounds_toArray, List.set_cons_zero, List.set_cons_succ]
  rw [Dy.mk_add] at hv2d hv3d
  have hs : SpI V3 (.agg #[.bool b2, .slice q2 l2 c2, .int .i64 f2, .bool b3, .slice q3 l3 c3, .int .i64 f3]) (x + x') (y + y') := ⟨b2, q2, l2, c2, f2, b3, q3, l3, c3, f3, rfl, hv2d, hv3d⟩
  have hR7 := blk1 HR.out hqd
  have HA := Lib.hid (set6_all (b1 := b2) (q1 := q2) (l1 := l2) (c1 := c2) (f1 := f2) (b2 := b3) (q2 := q3) (l2 := l3) (c2 := c3) (f2 := f3) hR7 (low_trans HB.out hqd) (by omega : w.heap.size ≤ w.heap.size + 1 + 1))
  have z0 := cell_h (k := 0) hR7 rfl
  have z1 := cell_h (k := 1) hR7 rfl
  have z2 := cell_h (k := 2) hR7 rfl
  have z3 := cell_h (k := 3) hR7 rfl
  have z4 := cell_h (k := 4) hR7 rfl
  have z5 := cell_h (k := 5) hR7 rfl
  have zf : ∀ o, V3.frozen? ⟨w.heap.size + 1 + 1, o, none⟩ = false := fun o => by simp [World.frozen?, hR7]
  refine anyT_skipN hF1 (w2 := ((((((V3).setCell ⟨w.heap.size + 1 + 1, 0, none⟩ (.bool b2)).setCell ⟨w.heap.size + 1 + 1, 1, none⟩ (.slice q2 l2 c2)).setCell ⟨w.heap.size + 1 + 1, 2, none⟩ (.int .i64 f2)).setCell ⟨w.heap.size + 1 + 1, 3, none⟩ (.bool b3)).setCell ⟨w.heap.size + 1 + 1, 4, none⟩ (.slice q3 l3 c3)).setCell ⟨w.heap.size + 1 + 1, 5, none⟩ (.int .i64 f3)) rfl rfl (by kernel_rfl) (by kernel_rfl) rfl (by go_simp; try with_reducible rfl) ?_
  refine anyT_done (by kernel_rfl) ?_ _
  generalize hW9 : ((((((V3).setCell ⟨w.heap.size + 1 + 1, 0, none⟩ (.bool b2)).setCell ⟨w.heap.size + 1 + 1, 1, none⟩ (.slice q2 l2 c2)).setCell ⟨w.heap.size + 1 + 1, 2, none⟩ (.int .i64 f2)).setCell ⟨w.heap.size + 1 + 1, 3, none⟩ (.bool b3)).setCell ⟨w.heap.size + 1 + 1, 4, none⟩ (.slice q3 l3 c3)).setCell ⟨w.heap.size + 1 + 1, 5, none⟩ (.int .i64 f3) = W9
  obtain ⟨hR9, hB9, hS9, _⟩ := HA.out W9 hW9
  have y0 := cell_h (k := 0) hR9 rfl
  have y1 := cell_h (k := 1) hR9 rfl
  have y2 := cell_h (k := 2) hR9 rfl
  have y3 := cell_h (k := 3) hR9 rfl
  have y4 := cell_h (k := 4) hR9 rfl
  have y5 := cell_h (k := 5) hR9 rfl
  go_wp2_with fail
  exact bodyPost_ret (v := .agg #[.bool b2, .slice q2 l2 c2, .int .i64 f2, .bool b3, .slice q3 l3 c3, .int .i64 f3]) (by simp [results, Tryz.results232, go_sem, y0, y1, y2, y3, y4, y5]) rfl ⟨_, rfl, hS9 _ _ _ hs, hB9⟩
end Go.Proofs.YtlphlbgbbblnpaaGreatDoor
-- StR: WALKS: strength: differences of spans with whole ends; only; a quotient of spans whose ends all tell the same; divided.
namespace Go.Proofs.YtlphlbgbbblnpaaGreatDoor
open Go.RowKit

theorem meth_negS (a : Bool) (p : Option Addr) (n c : Nat) (e : Int) (a' : Bool) (p' : Option Addr) (n' c' : Nat) (e' : Int) (w : World) : (method 387 116 (.agg #[.bool a, .slice p n c, .int .i64 e, .bool a', .slice p' n' c', .int .i64 e']) "Neg").run Tryz.prog w = .ok (233, .agg #[.bool a, .slice p n c, .int .i64 e, .bool a', .slice p' n' c', .int .i64 e']) w := by kernel_rfl
theorem meth_addS (a : Bool) (p : Option Addr) (n c : Nat) (e : Int) (a' : Bool) (p' : Option Addr) (n' c' : Nat) (e' : Int) (w : World) : (method 387 116 (.agg #[.bool a, .slice p n c, .int .i64 e, .bool a', .slice p' n' c', .int .i64 e']) "Add").run Tryz.prog w = .ok (232, .agg #[.bool a, .slice p n c, .int .i64 e, .bool a', .slice p' n' c', .int .i64 e']) w := by kernel_rfl
set_option maxRecDepth 100000 in
set_option maxHeartbeats 8000000 in
theorem sdiff_int (w : World) (v v' : Value) (x y x' y' : Int) (h : SpI w v x y) (h' : SpI w v' x' y') (hx : x.natAbs < 109951162777) (hy : y.natAbs < 109951162777) (hx' : x'.natAbs < 109951162777) (hy' : y'.natAbs < 109951162777) (hT : Dy.Tab w) :
    Calls Tryz.prog 165 #[v, v'] w (Dy.Ret w fun w' v => SpI w' v (x - y') (y - x')) := by
  have hF1 : ∀ f, Fence.wide.fn f := fun _ => trivial
  have H1 := Lib.hid h
  have H2 := Lib.hid h'
  have HT := Lib.hid hT
  obtain ⟨b1, q1, l1, c1, f1, B1, Q1, L1, C1, F1, rfl, _, _⟩ := id h
  obtain ⟨b4, q4, l4, c4, f4, B4, Q4, L4, C4, F4, rfl, _, _⟩ := id h'
  have hmn := meth_negS b4 q4 l4 c4 f4 B4 Q4 L4 C4 F4
  have hma := meth_addS b1 q1 l1 c1 f1 B1 Q1 L1 C1 F1
  clear h h' hT
  go_enter Tryz.func165, Tryz.ntmps165
  go_upto_region 1 with fail
  obtain ⟨W, hW⟩ : ∃ W, ((w.alloc (.cells #[.bool b1, .slice q1 l1 c1, .int .i64 f1, .bool B1, .slice Q1 L1 C1, .int .i64 F1] 116)).alloc (.cells #[.bool b4, .slice q4 l4 c4, .int .i64 f4, .bool B4, .slice Q4 L4 C4, .int .i64 F4] 116)).alloc (.cells #[.bool false, .slice none 0 0, .int .i64 0, .bool false, .slice none 0 0, .int .i64 0] 116) = W := ⟨_, rfl⟩
  rw [hW]
  have hB : Below w.heap.size w W := by rw [← hW]; exact (((Below.refl _ _).alloc (Nat.le_refl _) _).alloc (by simp) _).alloc (by simp; omega) _
  have hP : W.heap[w.heap.size]? = some (.cells #[.bool b1, .slice q1 l1 c1, .int .i64 f1, .bool B1, .slice Q1 L1 C1, .int .i64 F1] 116 (0, 0)) := by rw [← hW]; exact al_old (al_old (World.alloc_heap_new w _) _) _
  have hQ : W.heap[w.heap.size + 1]? = some (.cells #[.bool b4, .slice q4 l4 c4, .int .i64 f4, .bool B4, .slice Q4 L4 C4, .int .i64 F4] 116 (0, 0)) := by rw [← hW]; exact al_old (al_1 w _ _) _
  have hR : W.heap[w.heap.size + 1 + 1]? = some (.cells #[.bool false, .slice none 0 0, .int .i64 0, .bool false, .slice none 0 0, .int .i64 0] 116 (0, 0)) := by rw [← hW]; exact al_2 w _ _ _
  have HB := Lib.hid hB
  have HP := Lib.hid hP
  have HQ := Lib.hid hQ
  have HR := Lib.hid hR
  clear hW hB hP hQ hR
  have HKS : Hid (∀ V, Below W.heap.size W V → V.cell? ⟨w.heap.size, 0, none⟩ = some (.bool b1) ∧ V.cell? ⟨w.heap.size, 1, none⟩ = some (.slice q1 l1 c1) ∧ V.cell? ⟨w.heap.size, 2, none⟩ = some (.int .i64 f1) ∧ V.cell? ⟨w.heap.size, 3, none⟩ = some (.bool B1) ∧ V.cell? ⟨w.heap.size, 4, none⟩ = some (.slice Q1 L1 C1) ∧ V.cell? ⟨w.heap.size, 5, none⟩ = some (.int .i64 F1) ∧ V.cell? ⟨w.heap.size + 1, 0, none⟩ = some (.bool b4) ∧ V.cell? ⟨w.heap.size + 1, 1, none⟩ = some (.slice q4 l4 c4) ∧ V.cell? ⟨w.heap.size + 1, 2, none⟩ = some (.int .i64 f4) ∧ V.cell? ⟨w.heap.size + 1, 3, none⟩ = some (.bool B4) ∧ V.cell? ⟨w.heap.size + 1, 4, none⟩ = some (.slice Q4 L4 C4) ∧ V.cell? ⟨w.heap.size + 1, 5, none⟩ = some (.int .i64 F4)) := fun V hV => ⟨cell_h (blk1 HP.out hV) rfl, cell_h (blk1 HP.out hV) rfl, cell_h (blk1 HP.out hV) rfl, cell_h (blk1 HP.out hV) rfl, cell_h (blk1 HP.out hV) rfl, cell_h (blk1 HP.out hV) rfl, cell_h (blk1 HQ.out hV) rfl, cell_h (blk1 HQ.out hV) rfl, cell_h (blk1 HQ.out hV) rfl, cell_h (blk1 HQ.out hV) rfl, cell_h (blk1 HQ.out hV) rfl, cell_h (blk1 HQ.out hV) rfl⟩
  refine (wpIn_wide (n := 5)).1 ?_
  refine wpIn_region_T 6 (fun W2 : World => W2.cell? ⟨w.heap.size, 0, none⟩ = some (.bool b1) ∧ W2.cell? ⟨w.heap.size, 1, none⟩ = some (.slice q1 l1 c1) ∧ W2.cell? ⟨w.heap.size, 2, none⟩ = some (.int .i64 f1) ∧ W2.cell? ⟨w.heap.size, 3, none⟩ = some (.bool B1) ∧ W2.cell? ⟨w.heap.size, 4, none⟩ = some (.slice Q1 L1 C1) ∧ W2.cell? ⟨w.heap.size, 5, none⟩ = some (.int .i64 F1) ∧ W2.cell? ⟨w.heap.size + 1, 0, none⟩ = some (.bool b4) ∧ W2.cell? ⟨w.heap.size + 1, 1, none⟩ = some (.slice q4 l4 c4) ∧ W2.cell? ⟨w.heap.size + 1, 2, none⟩ = some (.int .i64 f4) ∧ W2.cell? ⟨w.heap.size + 1, 3, none⟩ = some (.bool B4) ∧ W2.cell? ⟨w.heap.size + 1, 4, none⟩ = some (.slice Q4 L4 C4) ∧ W2.cell? ⟨w.heap.size + 1, 5, none⟩ = some (.int .i64 F4)) (by kernel_rfl) ?_
  change anyT _ _ _ _ _ _ _ _ 7 (Array.replicate 7 false) _ _
  have hqd : Below W.heap.size W W.drew := (Below.refl _ _).drew
  generalize W.drew = Wd at *
  have hS0 := HKS.out Wd hqd
  refine anyT_takeD hF1 0 5 (v := ?_) rfl rfl (by kernel_rfl) (by kernel_rfl) (by kernel_rfl) (by kernel_rfl) (by kernel_rfl) (fun _ _ _ h => h) hS0 rfl ?_ ?_
  rotate_left
  · intro W2 hSw; obtain ⟨r0, r1, r2, r3, r4, r5, r6, r7, r8, r9, r10, r11⟩ := hSw; go_simp; try with_reducible rfl
  simp only [List.setIfInBounds_toArray, List.set_cons_zero, List.set_cons_succ]
  refine anyT_takeD hF1 1 6 (v := ?_) rfl rfl (by kernel_rfl) (by kernel_rfl) (by kernel_rfl) (by kernel_rfl) (by kernel_rfl) (fun _ _ _ h => h) hS0 rfl ?_ ?_
  rotate_left
  · intro W2 hSw; obtain ⟨r0, r1, r2, r3, r4, r5, r6, r7, r8, r9, r10, r11⟩ := hSw; go_simp; try with_reducible rfl
  simp only [List.setIfInBounds_toArray, List.set_cons_zero, List.set_cons_succ]
  refine anyT_takeD hF1 2 7 (v := ?_) rfl rfl (by kernel_rfl) (by kernel_rfl) (by kernel_rfl) (by kernel_rfl) (by kernel_rfl) (fun _ _ _ h => h) hS0 rfl ?_ ?_
  rotate_left
  · intro W2 hSw; obtain ⟨r0, r1, r2, r3, r4, r5, r6, r7, r8, r9, r10, r11⟩ := hSw; go_simp; try with_reducible rfl
  simp only [List.setIfInBounds_toArray, List.set_cons_zero, List.set_cons_succ]
  refine anyT_takeD hF1 3 8 (v := ?_) rfl rfl (by kernel_rfl) (by kernel_rfl) (by kernel_rfl) (by kernel_rfl) (by kernel_rfl) (fun _ _ _ h => h) hS0 rfl ?_ ?_
  rotate_left
  · intro W2 hSw; obtain ⟨r0, r1, r2, r3, r4, r5, r6, r7, r8, r9, r10, r11⟩ := hSw; go_simp; try with_reducible rfl
  simp only [List.setIfInBounds_toArray, List.set_cons_zero, List.set_cons_succ]
  refine anyT_call hF1 (fun h => absurd h (by decide)) 4 9 (w := Wd) rfl rfl (by kernel_rfl) (by kernel_rfl) (by rfl) (by go_simp; try with_reducible rfl) (callsIn_wide.2 (sneg_int Wd _ x' y' (SpI.keep H2.out (low_trans HB.out hqd)) (by omega) (by omega) (HT.out.keep (low_trans HB.out hqd)))) ?_
  rintro e9 V2 ⟨v2, rfl, hv2, hb2⟩
  replace hqd := low_trans hqd hb2
  replace hS0 := HKS.out V2 hqd
  obtain ⟨b2, q2, l2, c2, f2, B2, Q2, L2, C2, F2, rfl, _, _⟩ := id hv2
  have hv2d := hv2
  refine ⟨_, rfl, hS0, ?_⟩
  simp only [List.setIfInBounds_toArray, List.set_cons_zero, List.set_cons_succ]
  refine anyT_call hF1 (fun h => absurd h (by decide)) 5 10 (w := V2) rfl rfl (by kernel_rfl) (by kernel_rfl) (by rfl) (by go_simp; try with_reducible rfl) (callsIn_wide.2 (sadd_int V2 _ _ x y (-y') (-x') (SpI.keep H1.out (low_trans HB.out hqd)) hv2d (by omega) (by omega) (by omega) (by omega) (HT.out.keep (low_trans HB.out hqd)))) ?_
  rintro e9 V3 ⟨v3, rfl, hv3, hb3⟩
  replace hqd := low_trans hqd hb3
  replace hS0 := HKS.out V3 hqd
  replace hv2d := SpI.keep hv2d hb3
  obtain ⟨b3, q3, l3, c3, f3, B3, Q3, L3, C3, F3, rfl, _, _⟩ := id hv3
  have hv3d := hv3
  refine ⟨_, rfl, hS0, ?_⟩
  simp only [List.setIfInBounds_toArray, List.set_cons_zero, List.set_cons_succ]
  have hs : SpI V3 (.agg #[.bool b3, .slice q3 l3 c3, .int .i64 f3, .bool B3, .slice Q3 L3 C3, .int .i64 F3]) (x - y') (y - x') := by have h9 := hv3d; rw [← Int.sub_eq_add_neg, ← Int.sub_eq_add_neg] at h9; exact h9
  have hR7 := blk1 HR.out hqd
  have HA := Lib.hid (set6_all (b1 := b3) (q1 := q3) (l1 := l3) (c1 := c3) (f1 := f3) (b2 := B3) (q2 := Q3) (l2 := L3) (c2 := C3) (f2 := F3) hR7 (low_trans HB.out hqd) (by omega : w.heap.size ≤ w.heap.size + 1 + 1))
  have z0 := cell_h (k := 0) hR7 rfl
  have z1 := cell_h (k := 1) hR7 rfl
  have z2 := cell_h (k := 2) hR7 rfl
  have z3 := cell_h (k := 3) hR7 rfl
  have z4 := cell_h (k := 4) hR7 rfl
  have z5 := cell_h (k := 5) hR7 rfl
  have zf : ∀ o, V3.frozen? ⟨w.heap.size + 1 + 1, o, none⟩ = false := fun o => by simp [World.frozen?, hR7]
  refine anyT_skipN hF1 (w2 := ((((((V3).setCell ⟨w.heap.size + 1 + 1, 0, none⟩ (.bool b3)).setCell ⟨w.heap.size + 1 + 1, 1, none⟩ (.slice q3 l3 c3)).setCell ⟨w.heap.size + 1 + 1, 2, none⟩ (.int .i64 f3)).setCell ⟨w.heap.size + 1 + 1, 3, none⟩ (.bool B3)).setCell ⟨w.heap.size + 1 + 1, 4, none⟩ (.slice Q3 L3 C3)).setCell ⟨w.heap.size + 1 + 1, 5, none⟩ (.int .i64 F3)) rfl rfl (by kernel_rfl) (by kernel_rfl) rfl (by go_simp; try with_reducible rfl) ?_
  refine anyT_done (by kernel_rfl) ?_ _
  generalize hW9 : ((((((V3).setCell ⟨w.heap.size + 1 + 1, 0, none⟩ (.bool b3)).setCell ⟨w.heap.size + 1 + 1, 1, none⟩ (.slice q3 l3 c3)).setCell ⟨w.heap.size + 1 + 1, 2, none⟩ (.int .i64 f3)).setCell ⟨w.heap.size + 1 + 1, 3, none⟩ (.bool B3)).setCell ⟨w.heap.size + 1 + 1, 4, none⟩ (.slice Q3 L3 C3)).setCell ⟨w.heap.size + 1 + 1, 5, none⟩ (.int .i64 F3) = W9
  obtain ⟨hR9, hB9, hS9, _⟩ := HA.out W9 hW9
  have y0 := cell_h (k := 0) hR9 rfl
  have y1 := cell_h (k := 1) hR9 rfl
  have y2 := cell_h (k := 2) hR9 rfl
  have y3 := cell_h (k := 3) hR9 rfl
  have y4 := cell_h (k := 4) hR9 rfl
  have y5 := cell_h (k := 5) hR9 rfl
  go_wp2_with fail
  exact bodyPost_ret (v := .agg #[.bool b3, .slice q3 l3 c3, .int .i64 f3, .bool B3, .slice Q3 L3 C3, .int .i64 F3]) (by simp [results, Tryz.results165, go_sem, y0, y1, y2, y3, y4, y5]) rfl ⟨_, rfl, hS9 _ _ _ hs, hB9⟩
set_option maxRecDepth 100000 in
set_option maxHeartbeats 8000000 in
theorem ssub_int (w : World) (v v' : Value) (x y x' y' : Int) (h : SpI w v x y) (h' : SpI w v' x' y') (hx : x.natAbs < 109951162777) (hy : y.natAbs < 109951162777) (hx' : x'.natAbs < 109951162777) (hy' : y'.natAbs < 109951162777) (hT : Dy.Tab w) :
    Calls Tryz.prog 130 #[v, v'] w (Dy.Ret w fun w' v => SpI w' v (x - y') (y - x')) := by
  have hF1 : ∀ f, Fence.wide.fn f := fun _ => trivial
  have H1 := Lib.hid h
  have H2 := Lib.hid h'
  have HT := Lib.hid hT
  obtain ⟨b1, q1, l1, c1, f1, B1, Q1, L1, C1, F1, rfl, _, _⟩ := id h
  obtain ⟨b4, q4, l4, c4, f4, B4, Q4, L4, C4, F4, rfl, _, _⟩ := id h'
  clear h h' hT
  go_enter Tryz.func130, Tryz.ntmps130
  go_wp2_with fail
  obtain ⟨W, hW⟩ : ∃ W, ((w.alloc (.cells #[.bool b1, .slice q1 l1 c1, .int .i64 f1, .bool B1, .slice Q1 L1 C1, .int .i64 F1] 116)).alloc (.cells #[.bool b4, .slice q4 l4 c4, .int .i64 f4, .bool B4, .slice Q4 L4 C4, .int .i64 F4] 116)).alloc (.cells #[.bool false, .slice none 0 0, .int .i64 0, .bool false, .slice none 0 0, .int .i64 0] 116) = W := ⟨_, rfl⟩
  rw [hW]
  have hB : Below w.heap.size w W := by rw [← hW]; exact (((Below.refl _ _).alloc (Nat.le_refl _) _).alloc (by simp) _).alloc (by simp; omega) _
  have hP : W.heap[w.heap.size]? = some (.cells #[.bool b1, .slice q1 l1 c1, .int .i64 f1, .bool B1, .slice Q1 L1 C1, .int .i64 F1] 116 (0, 0)) := by rw [← hW]; exact al_old (al_old (World.alloc_heap_new w _) _) _
  have hQ : W.heap[w.heap.size + 1]? = some (.cells #[.bool b4, .slice q4 l4 c4, .int .i64 f4, .bool B4, .slice Q4 L4 C4, .int .i64 F4] 116 (0, 0)) := by rw [← hW]; exact al_old (al_1 w _ _) _
  have hR : W.heap[w.heap.size + 1 + 1]? = some (.cells #[.bool false, .slice none 0 0, .int .i64 0, .bool false, .slice none 0 0, .int .i64 0] 116 (0, 0)) := by rw [← hW]; exact al_2 w _ _ _
  have HB := Lib.hid hB
  have HP := Lib.hid hP
  have HQ := Lib.hid hQ
  have HR := Lib.hid hR
  clear hW hB hP hQ hR
  refine (sdiff_int W _ _ x y x' y' (SpI.keep H1.out HB.out) (SpI.keep H2.out HB.out) hx hy hx' hy' (HT.out.keep HB.out)).mono ?_
  rintro e V3 ⟨v3, rfl, hs, hb⟩
  obtain ⟨b3, q3, l3, c3, f3, B3, Q3, L3, C3, F3, rfl, _, _⟩ := id hs
  have hR7 := blk1 HR.out hb
  have hb7 := low_trans HB.out hb
  clear hb
  have HA := Lib.hid (set6_all (b1 := b3) (q1 := q3) (l1 := l3) (c1 := c3) (f1 := f3) (b2 := B3) (q2 := Q3) (l2 := L3) (c2 := C3) (f2 := F3) hR7 hb7 (by omega : w.heap.size ≤ w.heap.size + 1 + 1))
  have z0 := cell_h (k := 0) hR7 rfl
  have z1 := cell_h (k := 1) hR7 rfl
  have z2 := cell_h (k := 2) hR7 rfl
  have z3 := cell_h (k := 3) hR7 rfl
  have z4 := cell_h (k := 4) hR7 rfl
  have z5 := cell_h (k := 5) hR7 rfl
  have zf : ∀ o, V3.frozen? ⟨w.heap.size + 1 + 1, o, none⟩ = false := fun o => by simp [World.frozen?, hR7]
  have HS3 := Lib.hid hs
  clear hR7 hb7
  go_wp2_with fail
  generalize hW9 : (((((V3.setCell ⟨w.heap.size + 1 + 1, 0, none⟩ (.bool b3)).setCell ⟨w.heap.size + 1 + 1, 1, none⟩ (.slice q3 l3 c3)).setCell ⟨w.heap.size + 1 + 1, 2, none⟩ (.int .i64 f3)).setCell ⟨w.heap.size + 1 + 1, 3, none⟩ (.bool B3)).setCell ⟨w.heap.size + 1 + 1, 4, none⟩ (.slice Q3 L3 C3)).setCell ⟨w.heap.size + 1 + 1, 5, none⟩ (.int .i64 F3) = W9
  obtain ⟨hR9, hB9, hS9, _⟩ := HA.out W9 hW9
  have y0 := cell_h (k := 0) hR9 rfl
  have y1 := cell_h (k := 1) hR9 rfl
  have y2 := cell_h (k := 2) hR9 rfl
  have y3 := cell_h (k := 3) hR9 rfl
  have y4 := cell_h (k := 4) hR9 rfl
  have y5 := cell_h (k := 5) hR9 rfl
  exact bodyPost_ret (v := .agg #[.bool b3, .slice q3 l3 c3, .int .i64 f3, .bool B3, .slice Q3 L3 C3, .int .i64 F3]) (by simp [results, Tryz.results130, go_sem, y0, y1, y2, y3, y4, y5]) rfl ⟨_, rfl, hS9 _ _ _ HS3.out, hB9⟩
set_option maxHeartbeats 1600000 in
theorem sonly_of (w : World) (n : Int) (h : Dy.I64 n) (hT : Dy.Tab w) :
    Calls Tryz.prog 129 #[.int .i64 n] w (Dy.Ret w fun w' v => Dy.Sp w' v (Dy.mk n 0) (Dy.mk n 0)) := by
  have HT := Lib.hid hT
  have HI := Lib.hid h
  clear hT h
  go_enter Tryz.func129, Tryz.ntmps129
  go_wp2_with fail
  obtain ⟨W, hW⟩ : ∃ W, w.alloc (.cells #[.bool false, .slice none 0 0, .int .i64 0, .bool false, .slice none 0 0, .int .i64 0] 116) = W := ⟨_, rfl⟩
  obtain ⟨hR, hB⟩ := new_span w W hW
  rw [hW]
  clear hW
  refine (snumber_of W n HI.out (HT.out.keep hB)).mono ?_
  rintro e W1 ⟨v1, rfl, hv1, hB1⟩
  have hR1 := (hB1.block _ (Array.getElem?_eq_some_iff.1 hR).1).trans hR
  have HR1 := Lib.hid hR1
  have HB1 := Lib.hid (hB.trans (hB1.mono hB.size))
  have HV1 := Lib.hid hv1
  obtain ⟨a1, p1, n1, k1, e1, m1, rfl, _, _⟩ := hv1.fields
  clear hR hB hB1 hR1 hv1
  go_wp2_with fail
  refine (Dy.only_nm W1 _ _ HV1.out).mono ?_
  rintro e W2 ⟨v2, rfl, ⟨b1, q1, l1, c1, f1, b2, q2, l2, c2, f2, rfl, hx, hy⟩, hB2⟩
  have hR2 := (hB2.block _ (Array.getElem?_eq_some_iff.1 HR1.out).1).trans HR1.out
  have HS2 : Hid (Dy.Sp W2 (.agg #[.bool b1, .slice q1 l1 c1, .int .i64 f1, .bool b2, .slice q2 l2 c2, .int .i64 f2]) (Dy.mk n 0) (Dy.mk n 0)) := ⟨b1, q1, l1, c1, f1, b2, q2, l2, c2, f2, rfl, hx, hy⟩
  have HA := Lib.hid (set6_all (b1 := b1) (q1 := q1) (l1 := l1) (c1 := c1) (f1 := f1) (b2 := b2) (q2 := q2) (l2 := l2) (c2 := c2) (f2 := f2) hR2 (HB1.out.trans (hB2.mono HB1.out.size)) (Nat.le_refl _))
  have z0 := cell_h (k := 0) hR2 rfl
  have z1 := cell_h (k := 1) hR2 rfl
  have z2 := cell_h (k := 2) hR2 rfl
  have z3 := cell_h (k := 3) hR2 rfl
  have z4 := cell_h (k := 4) hR2 rfl
  have z5 := cell_h (k := 5) hR2 rfl
  have zf : ∀ o, W2.frozen? ⟨w.heap.size, o, none⟩ = false := fun o => by simp [World.frozen?, hR2]
  clear hR2 hB2 hx hy HB1 HR1 HV1
  go_wp2_with fail
  generalize hW9 : (((((W2.setCell ⟨w.heap.size, 0, none⟩ (.bool b1)).setCell ⟨w.heap.size, 1, none⟩ (.slice q1 l1 c1)).setCell ⟨w.heap.size, 2, none⟩ (.int .i64 f1)).setCell ⟨w.heap.size, 3, none⟩ (.bool b2)).setCell ⟨w.heap.size, 4, none⟩ (.slice q2 l2 c2)).setCell ⟨w.heap.size, 5, none⟩ (.int .i64 f2) = W9
  obtain ⟨hR9, hB9, hS9, _⟩ := HA.out W9 hW9
  have y0 := cell_h (k := 0) hR9 rfl
  have y1 := cell_h (k := 1) hR9 rfl
  have y2 := cell_h (k := 2) hR9 rfl
  have y3 := cell_h (k := 3) hR9 rfl
  have y4 := cell_h (k := 4) hR9 rfl
  have y5 := cell_h (k := 5) hR9 rfl
  exact bodyPost_ret (v := .agg #[.bool b1, .slice q1 l1 c1, .int .i64 f1, .bool b2, .slice q2 l2 c2, .int .i64 f2]) (by simp [results, Tryz.results129, go_sem, y0, y1, y2, y3, y4, y5]) rfl ⟨_, rfl, hS9 _ _ _ HS2.out, hB9⟩
set_option maxHeartbeats 4000000 in
theorem has_noG (w : World) (v u : Value) (y1 y2 : Dyadic) (h1 : Dy.Sp w v y1 y2) (h2 : Dy.Nm w u (Dy.mk 0 0)) (ha : Dy.Box y1 60 20) (hs0 : Dy.sgn (y1 - Dy.mk 0 0) > 0) (hT : Dy.Tab w) :
    Calls Tryz.prog 186 #[v, u] w fun e w' => e = .returned (.bool false) ∧ Below w.heap.size w w' := by
  obtain ⟨a1, p1, n1, k1, e1, a2, p2, n2, k2, e2, rfl, h11, h12⟩ := h1
  have H1 := Lib.hid h11
  have H2 := Lib.hid h2
  have HT := Lib.hid hT
  obtain ⟨a3, p3, n3, k3, e3, m3, rfl, _, _⟩ := h2.fields
  have hs : Hid (Dy.sgn (y1 - Dy.mk 0 0) > 0) := hs0
  clear h11 h12 h2 hT hs0
  go_enter Tryz.func186, Tryz.ntmps186
  go_wp2_with fail
  obtain ⟨W, hW⟩ : ∃ W, (w.alloc (.cells #[.bool a1, .slice p1 n1 k1, .int .i64 e1, .bool a2, .slice p2 n2 k2, .int .i64 e2] 116)).alloc (.cells #[.bool a3, .slice p3 n3 k3, .int .i64 e3] 75) = W := ⟨_, rfl⟩
  rw [hW]
  have hB : Below w.heap.size w W := by rw [← hW]; exact ((Below.refl _ _).alloc (Nat.le_refl _) _).alloc (by simp) _
  have HB := Lib.hid hB
  clear hW hB
  refine (Dy.cmp_nm W _ _ _ _ 60 20 40 0 (H1.out.keep HB.out) (H2.out.keep HB.out) ha (bx40 (by decide)) (by omega) (HT.out.keep HB.out)).mono ?_
  rintro e W2 ⟨rfl, hB2⟩
  have HB2 := Lib.hid (HB.out.trans (hB2.mono HB.out.size))
  clear hB2
  generalize Dy.sgn (y1 - Dy.mk 0 0) = s at hs ⊢
  have hs1 : ¬ s ≤ 0 := by have := hs.out; omega
  clear hs
  go_wp2_with fail
  go_ret
  exact ⟨rfl, HB2.out⟩
set_option maxRecDepth 100000 in
set_option maxHeartbeats 8000000 in
theorem div_same (w : World) (v1 v2 : Value) (x1 x2 y1 y2 : Dyadic) (a k : Int) (ha : a.natAbs < 1099511627776) (h1 : Dy.Sp w v1 x1 x2) (h2 : Dy.Sp w v2 y1 y2) (hy : Dy.Box y1 60 20) (hs0 : Dy.sgn (y1 - Dy.mk 0 0) > 0) (hT : Dy.Tab w)
    (hQ : ∀ V u u' x y, Dy.Nm V u x → Dy.Nm V u' y → Dy.Tab V → (x = x1 ∨ x = x2) → (y = y1 ∨ y = y2) → Calls Tryz.prog 100 #[u, u', .int .i64 k] V (Dy.Ret2 V fun w' v e => e = .int .i64 0 ∧ SpI w' v a a)) :
    Calls Tryz.prog 166 #[v1, v2, .int .i64 k] w (Dy.Ret2 w fun w' v e => e = .int .i64 0 ∧ SpI w' v a a) := by
  have HQu := Lib.hid hQ
  clear hQ
  have HV2 := Lib.hid h2
  obtain ⟨a1, p1, n1, k1, e1, a2, p2, n2, k2, e2, rfl, h11, h12⟩ := h1
  obtain ⟨a3, p3, n3, k3, e3, a4, p4, n4, k4, e4, rfl, h21, h22⟩ := h2
  have HT := Lib.hid hT
  have H1 := Lib.hid h11
  have H2 := Lib.hid h12
  have H3 := Lib.hid h21
  have H4 := Lib.hid h22
  clear hT h11 h12 h21 h22
  have ix0 : ∀ w, (Instr.index 250 (.agg #[.bool a1, .slice p1 n1 k1, .int .i64 e1, .bool a4, .slice p4 n4 k4, .int .i64 e4, .bool a2, .slice p2 n2 k2, .int .i64 e2, .bool a3, .slice p3 n3 k3, .int .i64 e3, .bool a2, .slice p2 n2 k2, .int .i64 e2, .bool a4, .slice p4 n4 k4, .int .i64 e4]) (.int .i64 0)).run Tryz.prog w = .ok (.agg #[.bool a1, .slice p1 n1 k1, .int .i64 e1, .bool a4, .slice p4 n4 k4, .int .i64 e4]) w := fun _ => by kernel_rfl
  have ix1 : ∀ w, (Instr.index 250 (.agg #[.bool a1, .slice p1 n1 k1, .int .i64 e1, .bool a4, .slice p4 n4 k4, .int .i64 e4, .bool a2, .slice p2 n2 k2, .int .i64 e2, .bool a3, .slice p3 n3 k3, .int .i64 e3, .bool a2, .slice p2 n2 k2, .int .i64 e2, .bool a4, .slice p4 n4 k4, .int .i64 e4]) (.int .i64 1)).run Tryz.prog w = .ok (.agg #[.bool a2, .slice p2 n2 k2, .int .i64 e2, .bool a3, .slice p3 n3 k3, .int .i64 e3]) w := fun _ => by kernel_rfl
  have ix2 : ∀ w, (Instr.index 250 (.agg #[.bool a1, .slice p1 n1 k1, .int .i64 e1, .bool a4, .slice p4 n4 k4, .int .i64 e4, .bool a2, .slice p2 n2 k2, .int .i64 e2, .bool a3, .slice p3 n3 k3, .int .i64 e3, .bool a2, .slice p2 n2 k2, .int .i64 e2, .bool a4, .slice p4 n4 k4, .int .i64 e4]) (.int .i64 2)).run Tryz.prog w = .ok (.agg #[.bool a2, .slice p2 n2 k2, .int .i64 e2, .bool a4, .slice p4 n4 k4, .int .i64 e4]) w := fun _ => by kernel_rfl
  go_enter Tryz.func166, Tryz.ntmps166
  go_wp2_with fail
  obtain ⟨W, hW⟩ : ∃ W, (((w.alloc (.cells #[.bool a1, .slice p1 n1 k1, .int .i64 e1, .bool a2, .slice p2 n2 k2, .int .i64 e2] 116)).alloc (.cells #[.bool a3, .slice p3 n3 k3, .int .i64 e3, .bool a4, .slice p4 n4 k4, .int .i64 e4] 116)).alloc (.cells #[.bool false, .slice none 0 0, .int .i64 0, .bool false, .slice none 0 0, .int .i64 0] 116)) = W := ⟨_, rfl⟩
  rw [hW]
  have hB : Below w.heap.size w W := by rw [← hW]; exact (((Below.refl _ _).alloc (Nat.le_refl _) _).alloc (by simp) _).alloc (by simp; omega) _
  have hR : W.heap[w.heap.size + 1 + 1]? = some (.cells #[.bool false, .slice none 0 0, .int .i64 0, .bool false, .slice none 0 0, .int .i64 0] 116 (0, 0)) := by rw [← hW]; exact al_2 w _ _ _
  have hP : W.heap[w.heap.size]? = some (.cells #[.bool a1, .slice p1 n1 k1, .int .i64 e1, .bool a2, .slice p2 n2 k2, .int .i64 e2] 116 (0, 0)) := by rw [← hW]; exact al_old (al_old (World.alloc_heap_new w _) _) _
  have hQ : W.heap[w.heap.size + 1]? = some (.cells #[.bool a3, .slice p3 n3 k3, .int .i64 e3, .bool a4, .slice p4 n4 k4, .int .i64 e4] 116 (0, 0)) := by rw [← hW]; exact al_old (al_1 w _ _) _
  have HB := Lib.hid hB
  have HW := Lib.hid (And.intro hR (And.intro hP hQ))
  clear hW hB hR hP hQ
  refine (has_noG W _ _ y1 y2 (Dy.Sp.keep HV2.out HB.out) (Dy.Nm.zero W) hy hs0 (HT.out.keep HB.out)).mono ?_
  rintro e W1 ⟨rfl, hB1⟩
  have HB1 := Lib.hid (HB.out.trans (hB1.mono HB.out.size))
  have HW1 := Lib.hid (And.intro ((hB1.block _ (Array.getElem?_eq_some_iff.1 HW.out.1).1).trans HW.out.1) (And.intro ((hB1.block _ (Array.getElem?_eq_some_iff.1 HW.out.2.1).1).trans HW.out.2.1) ((hB1.block _ (Array.getElem?_eq_some_iff.1 HW.out.2.2).1).trans HW.out.2.2)))
  have s0 : W1.cell? ⟨w.heap.size, 0, none⟩ = some (.bool a1) := cell_h HW1.out.2.1 rfl
  have s1 : W1.cell? ⟨w.heap.size, 1, none⟩ = some (.slice p1 n1 k1) := cell_h HW1.out.2.1 rfl
  have s2 : W1.cell? ⟨w.heap.size, 2, none⟩ = some (.int .i64 e1) := cell_h HW1.out.2.1 rfl
  have s3 : W1.cell? ⟨w.heap.size, 3, none⟩ = some (.bool a2) := cell_h HW1.out.2.1 rfl
  have s4 : W1.cell? ⟨w.heap.size, 4, none⟩ = some (.slice p2 n2 k2) := cell_h HW1.out.2.1 rfl
  have s5 : W1.cell? ⟨w.heap.size, 5, none⟩ = some (.int .i64 e2) := cell_h HW1.out.2.1 rfl
  have t0 : W1.cell? ⟨w.heap.size + 1, 0, none⟩ = some (.bool a3) := cell_h HW1.out.2.2 rfl
  have t1 : W1.cell? ⟨w.heap.size + 1, 1, none⟩ = some (.slice p3 n3 k3) := cell_h HW1.out.2.2 rfl
  have t2 : W1.cell? ⟨w.heap.size + 1, 2, none⟩ = some (.int .i64 e3) := cell_h HW1.out.2.2 rfl
  have t3 : W1.cell? ⟨w.heap.size + 1, 3, none⟩ = some (.bool a4) := cell_h HW1.out.2.2 rfl
  have t4 : W1.cell? ⟨w.heap.size + 1, 4, none⟩ = some (.slice p4 n4 k4) := cell_h HW1.out.2.2 rfl
  have t5 : W1.cell? ⟨w.heap.size + 1, 5, none⟩ = some (.int .i64 e4) := cell_h HW1.out.2.2 rfl
  clear hB1 HW HB
  go_wp2_with fail
  refine (HQu.out W1 _ _ _ _ (H1.out.keep HB1.out) (H3.out.keep HB1.out) (HT.out.keep HB1.out) (by simp) (by simp)).mono ?_
  rintro e W2 ⟨v5, e5, rfl, ⟨rfl, hv5⟩, hB2⟩
  have HB2 := Lib.hid (HB1.out.trans (hB2.mono HB1.out.size))
  have HW2 := Lib.hid (blk3 HW1.out hB2)
  have HV5 := Lib.hid hv5
  obtain ⟨a5, p5, n5, k5, e5, a6, p6, n6, k6, e6, rfl, _, _⟩ := hv5
  have HGL : Hid (¬(w.heap.size + 1 + 1 = W2.heap.size) ∧ ¬(w.heap.size = W2.heap.size) ∧ ¬(w.heap.size + 1 = W2.heap.size)) := by
    have h1 := (Array.getElem?_eq_some_iff.1 HW2.out.1).1
    exact Lib.hid (by omega)
  have HBs : Hid (w.heap.size ≤ W2.heap.size) := HB2.out.size
  clear hB2 s0 s1 s2 s3 s4 s5 t0 t1 t2 t3 t4 t5 HW1 HB1
  go_upto_region 4 with fail
  obtain ⟨V0, hV0⟩ : ∃ V, W2.alloc (.cells #[.bool a5, .slice p5 n5 k5, .int .i64 e5, .bool a6, .slice p6 n6 k6, .int .i64 e6] 116) = V := ⟨_, rfl⟩
  rw [hV0]
  have hB3 : Below W2.heap.size W2 V0 := by rw [← hV0]; exact (Below.refl _ _).alloc (Nat.le_refl _) _
  have HG0 : Hid (V0.heap[W2.heap.size]? = some (.cells #[.bool a5, .slice p5 n5 k5, .int .i64 e5, .bool a6, .slice p6 n6 k6, .int .i64 e6] 116 (0, 0))) := by rw [← hV0]; exact World.alloc_heap_new W2 _
  have HW3 := Lib.hid (blk3 HW2.out hB3)
  have HS0 : Hid (SpI V0 (.agg #[.bool a5, .slice p5 n5 k5, .int .i64 e5, .bool a6, .slice p6 n6 k6, .int .i64 e6]) a a) := SpI.keep HV5.out hB3
  have HB3 := Lib.hid (HB2.out.trans (hB3.mono HB2.out.size))
  have s0 : V0.cell? ⟨w.heap.size, 0, none⟩ = some (.bool a1) := cell_h HW3.out.2.1 rfl
  have s1 : V0.cell? ⟨w.heap.size, 1, none⟩ = some (.slice p1 n1 k1) := cell_h HW3.out.2.1 rfl
  have s2 : V0.cell? ⟨w.heap.size, 2, none⟩ = some (.int .i64 e1) := cell_h HW3.out.2.1 rfl
  have s3 : V0.cell? ⟨w.heap.size, 3, none⟩ = some (.bool a2) := cell_h HW3.out.2.1 rfl
  have s4 : V0.cell? ⟨w.heap.size, 4, none⟩ = some (.slice p2 n2 k2) := cell_h HW3.out.2.1 rfl
  have s5 : V0.cell? ⟨w.heap.size, 5, none⟩ = some (.int .i64 e2) := cell_h HW3.out.2.1 rfl
  have t0 : V0.cell? ⟨w.heap.size + 1, 0, none⟩ = some (.bool a3) := cell_h HW3.out.2.2 rfl
  have t1 : V0.cell? ⟨w.heap.size + 1, 1, none⟩ = some (.slice p3 n3 k3) := cell_h HW3.out.2.2 rfl
  have t2 : V0.cell? ⟨w.heap.size + 1, 2, none⟩ = some (.int .i64 e3) := cell_h HW3.out.2.2 rfl
  have t3 : V0.cell? ⟨w.heap.size + 1, 3, none⟩ = some (.bool a4) := cell_h HW3.out.2.2 rfl
  have t4 : V0.cell? ⟨w.heap.size + 1, 4, none⟩ = some (.slice p4 n4 k4) := cell_h HW3.out.2.2 rfl
  have t5 : V0.cell? ⟨w.heap.size + 1, 5, none⟩ = some (.int .i64 e4) := cell_h HW3.out.2.2 rfl
  clear hV0 hB3 HV5 HW2 HB2
  go_wp2_with fail
  refine wp_loop_rounds 4 ?_
  have hgl : ¬(w.heap.size + 1 + 1 = W2.heap.size) ∧ ¬(w.heap.size = W2.heap.size) ∧ ¬(w.heap.size + 1 = W2.heap.size) := HGL.out
  clear s0 s1 s2 s3 s4 s5 t0 t1 t2 t3 t4 t5
  have hg2 : w.heap.size ≤ W2.heap.size := by
    exact HBs.out
  rw [rounds_succ]
  go_upto_region 7 with fail
  obtain ⟨Va0, hV⟩ : ∃ V, V0.alloc (.cells #[.bool a1, .slice p1 n1 k1, .int .i64 e1, .bool a4, .slice p4 n4 k4, .int .i64 e4] 249) = V := ⟨_, rfl⟩
  rw [hV]
  have hBa : Below V0.heap.size V0 Va0 := by rw [← hV]; exact (Below.refl _ _).alloc (Nat.le_refl _) _
  have hNa : Va0.heap[V0.heap.size]? = some (.cells #[.bool a1, .slice p1 n1 k1, .int .i64 e1, .bool a4, .slice p4 n4 k4, .int .i64 e4] 249 (0, 0)) := by rw [← hV]; exact World.alloc_heap_new V0 _
  have HGa0 := Lib.hid (blk1 HG0.out hBa)
  have HWa0 := Lib.hid (blk3 HW3.out hBa)
  have HSa0 := Lib.hid (SpI.keep HS0.out hBa)
  have HBa0 := Lib.hid (HB3.out.trans (hBa.mono HB3.out.size))
  have u0 : Va0.cell? ⟨V0.heap.size, 0, none⟩ = some (.bool a1) := cell_h hNa rfl
  have u1 : Va0.cell? ⟨V0.heap.size, 1, none⟩ = some (.slice p1 n1 k1) := cell_h hNa rfl
  have u2 : Va0.cell? ⟨V0.heap.size, 2, none⟩ = some (.int .i64 e1) := cell_h hNa rfl
  have u3 : Va0.cell? ⟨V0.heap.size, 3, none⟩ = some (.bool a4) := cell_h hNa rfl
  have u4 : Va0.cell? ⟨V0.heap.size, 4, none⟩ = some (.slice p4 n4 k4) := cell_h hNa rfl
  have u5 : Va0.cell? ⟨V0.heap.size, 5, none⟩ = some (.int .i64 e4) := cell_h hNa rfl
  clear hV hBa hNa HG0 HW3 HS0 HB3
  go_wp2_with fail
  refine (HQu.out Va0 _ _ _ _ (H1.out.keep HBa0.out) (H4.out.keep HBa0.out) (HT.out.keep HBa0.out) (by simp) (by simp)).mono ?_
  rintro e Vb0 ⟨vq, eq, rfl, ⟨rfl, hq⟩, hBb⟩
  obtain ⟨a7, p7, n7, k7, e7, a8, p8, n8, k8, e8, rfl, hq1, hq2⟩ := hq
  have HQ0 : Hid (SpI Vb0 (.agg #[.bool a7, .slice p7 n7 k7, .int .i64 e7, .bool a8, .slice p8 n8 k8, .int .i64 e8]) a a) := ⟨a7, p7, n7, k7, e7, a8, p8, n8, k8, e8, rfl, hq1, hq2⟩
  have HGb0 := Lib.hid (blk1 HGa0.out hBb)
  have HWb0 := Lib.hid (blk3 HWa0.out hBb)
  have HSb0 := Lib.hid (SpI.keep HSa0.out hBb)
  have HBb0 := Lib.hid (HBa0.out.trans (hBb.mono HBa0.out.size))
  clear hq1 hq2 hBb HGa0 HWa0 HSa0 HBa0 u0 u1 u2 u3 u4 u5
  go_upto_region 8 with fail
  obtain ⟨Vc0, hV⟩ : ∃ V, Vb0.alloc (.cells #[.bool a7, .slice p7 n7 k7, .int .i64 e7, .bool a8, .slice p8 n8 k8, .int .i64 e8] 116) = V := ⟨_, rfl⟩
  rw [hV]
  have hBc : Below Vb0.heap.size Vb0 Vc0 := by rw [← hV]; exact (Below.refl _ _).alloc (Nat.le_refl _) _
  have hNc : Vc0.heap[Vb0.heap.size]? = some (.cells #[.bool a7, .slice p7 n7 k7, .int .i64 e7, .bool a8, .slice p8 n8 k8, .int .i64 e8] 116 (0, 0)) := by rw [← hV]; exact World.alloc_heap_new Vb0 _
  have HGc0 := Lib.hid (blk1 HGb0.out hBc)
  have HWc0 := Lib.hid (blk3 HWb0.out hBc)
  have HSc0 := Lib.hid (SpI.keep HSb0.out hBc)
  have HQc0 := Lib.hid (SpI.keep HQ0.out hBc)
  have HBc0 := Lib.hid (HBb0.out.trans (hBc.mono HBb0.out.size))
  have u0 : Vc0.cell? ⟨Vb0.heap.size, 0, none⟩ = some (.bool a7) := cell_h hNc rfl
  have u1 : Vc0.cell? ⟨Vb0.heap.size, 1, none⟩ = some (.slice p7 n7 k7) := cell_h hNc rfl
  have u2 : Vc0.cell? ⟨Vb0.heap.size, 2, none⟩ = some (.int .i64 e7) := cell_h hNc rfl
  have u3 : Vc0.cell? ⟨Vb0.heap.size, 3, none⟩ = some (.bool a8) := cell_h hNc rfl
  have u4 : Vc0.cell? ⟨Vb0.heap.size, 4, none⟩ = some (.slice p8 n8 k8) := cell_h hNc rfl
  have u5 : Vc0.cell? ⟨Vb0.heap.size, 5, none⟩ = some (.int .i64 e8) := cell_h hNc rfl
  have g0 : Vc0.cell? ⟨W2.heap.size, 0, none⟩ = some (.bool a5) := cell_h HGc0.out rfl
  have g1 : Vc0.cell? ⟨W2.heap.size, 1, none⟩ = some (.slice p5 n5 k5) := cell_h HGc0.out rfl
  have g2 : Vc0.cell? ⟨W2.heap.size, 2, none⟩ = some (.int .i64 e5) := cell_h HGc0.out rfl
  have g3 : Vc0.cell? ⟨W2.heap.size, 3, none⟩ = some (.bool a6) := cell_h HGc0.out rfl
  have g4 : Vc0.cell? ⟨W2.heap.size, 4, none⟩ = some (.slice p6 n6 k6) := cell_h HGc0.out rfl
  have g5 : Vc0.cell? ⟨W2.heap.size, 5, none⟩ = some (.int .i64 e6) := cell_h HGc0.out rfl
  clear hV hBc hNc HGb0 HWb0 HSb0 HQ0 HBb0
  go_wp2_with fail
  refine (shull_int Vc0 _ _ a a a a a a HSc0.out HQc0.out ha ha ha ha (by omega) (by omega) (HT.out.keep HBc0.out)).mono ?_
  rintro e Vd0 ⟨vh, rfl, hh, hBd⟩
  obtain ⟨a9, p9, n9, k9, e9, a10, p10, n10, k10, e10, rfl, hh1, hh2⟩ := hh
  have HH0 : Hid (SpI Vd0 (.agg #[.bool a9, .slice p9 n9 k9, .int .i64 e9, .bool a10, .slice p10 n10 k10, .int .i64 e10]) a a) := ⟨a9, p9, n9, k9, e9, a10, p10, n10, k10, e10, rfl, hh1, hh2⟩
  have hGd := blk1 HGc0.out hBd
  have HWd0 := Lib.hid (blk3 HWc0.out hBd)
  have HBd0 := Lib.hid (HBc0.out.trans (hBd.mono HBc0.out.size))
  clear hh1 hh2 HWc0 HGc0 HSc0 HQc0 HBc0 u0 u1 u2 u3 u4 u5 g0 g1 g2 g3 g4 g5
  have g0 : Vd0.cell? ⟨W2.heap.size, 0, none⟩ = some (.bool a5) := cell_h hGd rfl
  have g1 : Vd0.cell? ⟨W2.heap.size, 1, none⟩ = some (.slice p5 n5 k5) := cell_h hGd rfl
  have g2 : Vd0.cell? ⟨W2.heap.size, 2, none⟩ = some (.int .i64 e5) := cell_h hGd rfl
  have g3 : Vd0.cell? ⟨W2.heap.size, 3, none⟩ = some (.bool a6) := cell_h hGd rfl
  have g4 : Vd0.cell? ⟨W2.heap.size, 4, none⟩ = some (.slice p6 n6 k6) := cell_h hGd rfl
  have g5 : Vd0.cell? ⟨W2.heap.size, 5, none⟩ = some (.int .i64 e6) := cell_h hGd rfl
  have gf : ∀ o, Vd0.frozen? ⟨W2.heap.size, o, none⟩ = false := fun o => by simp [World.frozen?, hGd]
  have HA := Lib.hid (set6_all (b1 := a9) (q1 := p9) (l1 := n9) (c1 := k9) (f1 := e9) (b2 := a10) (q2 := p10) (l2 := n10) (c2 := k10) (f2 := e10) hGd HBd0.out hg2)
  have HO := Lib.hid (set6_blk3 (v0 := .bool a9) (v1 := .slice p9 n9 k9) (v2 := .int .i64 e9) (v3 := .bool a10) (v4 := .slice p10 n10 k10) (v5 := .int .i64 e10) (g := W2.heap.size) HWd0.out hgl.1 hgl.2.1 hgl.2.2)
  clear hGd hBd
  go_wp2_with fail
  generalize hW9 : (((((Vd0.setCell ⟨W2.heap.size, 0, none⟩ (.bool a9)).setCell ⟨W2.heap.size, 1, none⟩ (.slice p9 n9 k9)).setCell ⟨W2.heap.size, 2, none⟩ (.int .i64 e9)).setCell ⟨W2.heap.size, 3, none⟩ (.bool a10)).setCell ⟨W2.heap.size, 4, none⟩ (.slice p10 n10 k10)).setCell ⟨W2.heap.size, 5, none⟩ (.int .i64 e10) = Ve0 at HO
  obtain ⟨hR9, hB9, hS9, _⟩ := HA.out Ve0 hW9
  have HGe0 := Lib.hid hR9
  have HBe0 := Lib.hid hB9
  have HSe0 : Hid (SpI Ve0 (.agg #[.bool a9, .slice p9 n9 k9, .int .i64 e9, .bool a10, .slice p10 n10 k10, .int .i64 e10]) a a) := hS9 _ _ _ HH0.out
  have HWe0 := Lib.hid HO.out
  clear hW9 hR9 hB9 hS9 HA HO HH0 HWd0 HBd0 g0 g1 g2 g3 g4 g5 gf
  (try simp only [Exit.inBlock, Exit.then])
  rw [rounds_succ]
  go_upto_region 7 with fail
  obtain ⟨Va1, hV⟩ : ∃ V, Ve0.alloc (.cells #[.bool a2, .slice p2 n2 k2, .int .i64 e2, .bool a3, .slice p3 n3 k3, .int .i64 e3] 249) = V := ⟨_, rfl⟩
  rw [hV]
  have hBa : Below Ve0.heap.size Ve0 Va1 := by rw [← hV]; exact (Below.refl _ _).alloc (Nat.le_refl _) _
  have hNa : Va1.heap[Ve0.heap.size]? = some (.cells #[.bool a2, .slice p2 n2 k2, .int .i64 e2, .bool a3, .slice p3 n3 k3, .int .i64 e3] 249 (0, 0)) := by rw [← hV]; exact World.alloc_heap_new Ve0 _
  have HGa1 := Lib.hid (blk1 HGe0.out hBa)
  have HWa1 := Lib.hid (blk3 HWe0.out hBa)
  have HSa1 := Lib.hid (SpI.keep HSe0.out hBa)
  have HBa1 := Lib.hid (HBe0.out.trans (hBa.mono HBe0.out.size))
  have u0 : Va1.cell? ⟨Ve0.heap.size, 0, none⟩ = some (.bool a2) := cell_h hNa rfl
  have u1 : Va1.cell? ⟨Ve0.heap.size, 1, none⟩ = some (.slice p2 n2 k2) := cell_h hNa rfl
  have u2 : Va1.cell? ⟨Ve0.heap.size, 2, none⟩ = some (.int .i64 e2) := cell_h hNa rfl
  have u3 : Va1.cell? ⟨Ve0.heap.size, 3, none⟩ = some (.bool a3) := cell_h hNa rfl
  have u4 : Va1.cell? ⟨Ve0.heap.size, 4, none⟩ = some (.slice p3 n3 k3) := cell_h hNa rfl
  have u5 : Va1.cell? ⟨Ve0.heap.size, 5, none⟩ = some (.int .i64 e3) := cell_h hNa rfl
  clear hV hBa hNa HGe0 HWe0 HSe0 HBe0
  go_wp2_with fail
  refine (HQu.out Va1 _ _ _ _ (H2.out.keep HBa1.out) (H3.out.keep HBa1.out) (HT.out.keep HBa1.out) (by simp) (by simp)).mono ?_
  rintro e Vb1 ⟨vq, eq, rfl, ⟨rfl, hq⟩, hBb⟩
  obtain ⟨a11, p11, n11, k11, e11, a12, p12, n12, k12, e12, rfl, hq1, hq2⟩ := hq
  have HQ1 : Hid (SpI Vb1 (.agg #[.bool a11, .slice p11 n11 k11, .int .i64 e11, .bool a12, .slice p12 n12 k12, .int .i64 e12]) a a) := ⟨a11, p11, n11, k11, e11, a12, p12, n12, k12, e12, rfl, hq1, hq2⟩
  have HGb1 := Lib.hid (blk1 HGa1.out hBb)
  have HWb1 := Lib.hid (blk3 HWa1.out hBb)
  have HSb1 := Lib.hid (SpI.keep HSa1.out hBb)
  have HBb1 := Lib.hid (HBa1.out.trans (hBb.mono HBa1.out.size))
  clear hq1 hq2 hBb HGa1 HWa1 HSa1 HBa1 u0 u1 u2 u3 u4 u5
  go_upto_region 8 with fail
  obtain ⟨Vc1, hV⟩ : ∃ V, Vb1.alloc (.cells #[.bool a11, .slice p11 n11 k11, .int .i64 e11, .bool a12, .slice p12 n12 k12, .int .i64 e12] 116) = V := ⟨_, rfl⟩
  rw [hV]
  have hBc : Below Vb1.heap.size Vb1 Vc1 := by rw [← hV]; exact (Below.refl _ _).alloc (Nat.le_refl _) _
  have hNc : Vc1.heap[Vb1.heap.size]? = some (.cells #[.bool a11, .slice p11 n11 k11, .int .i64 e11, .bool a12, .slice p12 n12 k12, .int .i64 e12] 116 (0, 0)) := by rw [← hV]; exact World.alloc_heap_new Vb1 _
  have HGc1 := Lib.hid (blk1 HGb1.out hBc)
  have HWc1 := Lib.hid (blk3 HWb1.out hBc)
  have HSc1 := Lib.hid (SpI.keep HSb1.out hBc)
  have HQc1 := Lib.hid (SpI.keep HQ1.out hBc)
  have HBc1 := Lib.hid (HBb1.out.trans (hBc.mono HBb1.out.size))
  have u0 : Vc1.cell? ⟨Vb1.heap.size, 0, none⟩ = some (.bool a11) := cell_h hNc rfl
  have u1 : Vc1.cell? ⟨Vb1.heap.size, 1, none⟩ = some (.slice p11 n11 k11) := cell_h hNc rfl
  have u2 : Vc1.cell? ⟨Vb1.heap.size, 2, none⟩ = some (.int .i64 e11) := cell_h hNc rfl
  have u3 : Vc1.cell? ⟨Vb1.heap.size, 3, none⟩ = some (.bool a12) := cell_h hNc rfl
  have u4 : Vc1.cell? ⟨Vb1.heap.size, 4, none⟩ = some (.slice p12 n12 k12) := cell_h hNc rfl
  have u5 : Vc1.cell? ⟨Vb1.heap.size, 5, none⟩ = some (.int .i64 e12) := cell_h hNc rfl
  have g0 : Vc1.cell? ⟨W2.heap.size, 0, none⟩ = some (.bool a9) := cell_h HGc1.out rfl
  have g1 : Vc1.cell? ⟨W2.heap.size, 1, none⟩ = some (.slice p9 n9 k9) := cell_h HGc1.out rfl
  have g2 : Vc1.cell? ⟨W2.heap.size, 2, none⟩ = some (.int .i64 e9) := cell_h HGc1.out rfl
  have g3 : Vc1.cell? ⟨W2.heap.size, 3, none⟩ = some (.bool a10) := cell_h HGc1.out rfl
  have g4 : Vc1.cell? ⟨W2.heap.size, 4, none⟩ = some (.slice p10 n10 k10) := cell_h HGc1.out rfl
  have g5 : Vc1.cell? ⟨W2.heap.size, 5, none⟩ = some (.int .i64 e10) := cell_h HGc1.out rfl
  clear hV hBc hNc HGb1 HWb1 HSb1 HQ1 HBb1
  go_wp2_with fail
  refine (shull_int Vc1 _ _ a a a a a a HSc1.out HQc1.out ha ha ha ha (by omega) (by omega) (HT.out.keep HBc1.out)).mono ?_
  rintro e Vd1 ⟨vh, rfl, hh, hBd⟩
  obtain ⟨a13, p13, n13, k13, e13, a14, p14, n14, k14, e14, rfl, hh1, hh2⟩ := hh
  have HH1 : Hid (SpI Vd1 (.agg #[.bool a13, .slice p13 n13 k13, .int .i64 e13, .bool a14, .slice p14 n14 k14, .int .i64 e14]) a a) := ⟨a13, p13, n13, k13, e13, a14, p14, n14, k14, e14, rfl, hh1, hh2⟩
  have hGd := blk1 HGc1.out hBd
  have HWd1 := Lib.hid (blk3 HWc1.out hBd)
  have HBd1 := Lib.hid (HBc1.out.trans (hBd.mono HBc1.out.size))
  clear hh1 hh2 HWc1 HGc1 HSc1 HQc1 HBc1 u0 u1 u2 u3 u4 u5 g0 g1 g2 g3 g4 g5
  have g0 : Vd1.cell? ⟨W2.heap.size, 0, none⟩ = some (.bool a9) := cell_h hGd rfl
  have g1 : Vd1.cell? ⟨W2.heap.size, 1, none⟩ = some (.slice p9 n9 k9) := cell_h hGd rfl
  have g2 : Vd1.cell? ⟨W2.heap.size, 2, none⟩ = some (.int .i64 e9) := cell_h hGd rfl
  have g3 : Vd1.cell? ⟨W2.heap.size, 3, none⟩ = some (.bool a10) := cell_h hGd rfl
  have g4 : Vd1.cell? ⟨W2.heap.size, 4, none⟩ = some (.slice p10 n10 k10) := cell_h hGd rfl
  have g5 : Vd1.cell? ⟨W2.heap.size, 5, none⟩ = some (.int .i64 e10) := cell_h hGd rfl
  have gf : ∀ o, Vd1.frozen? ⟨W2.heap.size, o, none⟩ = false := fun o => by simp [World.frozen?, hGd]
  have HA := Lib.hid (set6_all (b1 := a13) (q1 := p13) (l1 := n13) (c1 := k13) (f1 := e13) (b2 := a14) (q2 := p14) (l2 := n14) (c2 := k14) (f2 := e14) hGd HBd1.out hg2)
  have HO := Lib.hid (set6_blk3 (v0 := .bool a13) (v1 := .slice p13 n13 k13) (v2 := .int .i64 e13) (v3 := .bool a14) (v4 := .slice p14 n14 k14) (v5 := .int .i64 e14) (g := W2.heap.size) HWd1.out hgl.1 hgl.2.1 hgl.2.2)
  clear hGd hBd
  go_wp2_with fail
  generalize hW9 : (((((Vd1.setCell ⟨W2.heap.size, 0, none⟩ (.bool a13)).setCell ⟨W2.heap.size, 1, none⟩ (.slice p13 n13 k13)).setCell ⟨W2.heap.size, 2, none⟩ (.int .i64 e13)).setCell ⟨W2.heap.size, 3, none⟩ (.bool a14)).setCell ⟨W2.heap.size, 4, none⟩ (.slice p14 n14 k14)).setCell ⟨W2.heap.size, 5, none⟩ (.int .i64 e14) = Ve1 at HO
  obtain ⟨hR9, hB9, hS9, _⟩ := HA.out Ve1 hW9
  have HGe1 := Lib.hid hR9
  have HBe1 := Lib.hid hB9
  have HSe1 : Hid (SpI Ve1 (.agg #[.bool a13, .slice p13 n13 k13, .int .i64 e13, .bool a14, .slice p14 n14 k14, .int .i64 e14]) a a) := hS9 _ _ _ HH1.out
  have HWe1 := Lib.hid HO.out
  clear hW9 hR9 hB9 hS9 HA HO HH1 HWd1 HBd1 g0 g1 g2 g3 g4 g5 gf
  (try simp only [Exit.inBlock, Exit.then])
  rw [rounds_succ]
  go_upto_region 7 with fail
  obtain ⟨Va2, hV⟩ : ∃ V, Ve1.alloc (.cells #[.bool a2, .slice p2 n2 k2, .int .i64 e2, .bool a4, .slice p4 n4 k4, .int .i64 e4] 249) = V := ⟨_, rfl⟩
  rw [hV]
  have hBa : Below Ve1.heap.size Ve1 Va2 := by rw [← hV]; exact (Below.refl _ _).alloc (Nat.le_refl _) _
  have hNa : Va2.heap[Ve1.heap.size]? = some (.cells #[.bool a2, .slice p2 n2 k2, .int .i64 e2, .bool a4, .slice p4 n4 k4, .int .i64 e4] 249 (0, 0)) := by rw [← hV]; exact World.alloc_heap_new Ve1 _
  have HGa2 := Lib.hid (blk1 HGe1.out hBa)
  have HWa2 := Lib.hid (blk3 HWe1.out hBa)
  have HSa2 := Lib.hid (SpI.keep HSe1.out hBa)
  have HBa2 := Lib.hid (HBe1.out.trans (hBa.mono HBe1.out.size))
  have u0 : Va2.cell? ⟨Ve1.heap.size, 0, none⟩ = some (.bool a2) := cell_h hNa rfl
  have u1 : Va2.cell? ⟨Ve1.heap.size, 1, none⟩ = some (.slice p2 n2 k2) := cell_h hNa rfl
  have u2 : Va2.cell? ⟨Ve1.heap.size, 2, none⟩ = some (.int .i64 e2) := cell_h hNa rfl
  have u3 : Va2.cell? ⟨Ve1.heap.size, 3, none⟩ = some (.bool a4) := cell_h hNa rfl
  have u4 : Va2.cell? ⟨Ve1.heap.size, 4, none⟩ = some (.slice p4 n4 k4) := cell_h hNa rfl
  have u5 : Va2.cell? ⟨Ve1.heap.size, 5, none⟩ = some (.int .i64 e4) := cell_h hNa rfl
  clear hV hBa hNa HGe1 HWe1 HSe1 HBe1
  go_wp2_with fail
  refine (HQu.out Va2 _ _ _ _ (H2.out.keep HBa2.out) (H4.out.keep HBa2.out) (HT.out.keep HBa2.out) (by simp) (by simp)).mono ?_
  rintro e Vb2 ⟨vq, eq, rfl, ⟨rfl, hq⟩, hBb⟩
  obtain ⟨a15, p15, n15, k15, e15, a16, p16, n16, k16, e16, rfl, hq1, hq2⟩ := hq
  have HQ2 : Hid (SpI Vb2 (.agg #[.bool a15, .slice p15 n15 k15, .int .i64 e15, .bool a16, .slice p16 n16 k16, .int .i64 e16]) a a) := ⟨a15, p15, n15, k15, e15, a16, p16, n16, k16, e16, rfl, hq1, hq2⟩
  have HGb2 := Lib.hid (blk1 HGa2.out hBb)
  have HWb2 := Lib.hid (blk3 HWa2.out hBb)
  have HSb2 := Lib.hid (SpI.keep HSa2.out hBb)
  have HBb2 := Lib.hid (HBa2.out.trans (hBb.mono HBa2.out.size))
  clear hq1 hq2 hBb HGa2 HWa2 HSa2 HBa2 u0 u1 u2 u3 u4 u5
  go_upto_region 8 with fail
  obtain ⟨Vc2, hV⟩ : ∃ V, Vb2.alloc (.cells #[.bool a15, .slice p15 n15 k15, .int .i64 e15, .bool a16, .slice p16 n16 k16, .int .i64 e16] 116) = V := ⟨_, rfl⟩
  rw [hV]
  have hBc : Below Vb2.heap.size Vb2 Vc2 := by rw [← hV]; exact (Below.refl _ _).alloc (Nat.le_refl _) _
  have hNc : Vc2.heap[Vb2.heap.size]? = some (.cells #[.bool a15, .slice p15 n15 k15, .int .i64 e15, .bool a16, .slice p16 n16 k16, .int .i64 e16] 116 (0, 0)) := by rw [← hV]; exact World.alloc_heap_new Vb2 _
  have HGc2 := Lib.hid (blk1 HGb2.out hBc)
  have HWc2 := Lib.hid (blk3 HWb2.out hBc)
  have HSc2 := Lib.hid (SpI.keep HSb2.out hBc)
  have HQc2 := Lib.hid (SpI.keep HQ2.out hBc)
  have HBc2 := Lib.hid (HBb2.out.trans (hBc.mono HBb2.out.size))
  have u0 : Vc2.cell? ⟨Vb2.heap.size, 0, none⟩ = some (.bool a15) := cell_h hNc rfl
  have u1 : Vc2.cell? ⟨Vb2.heap.size, 1, none⟩ = some (.slice p15 n15 k15) := cell_h hNc rfl
  have u2 : Vc2.cell? ⟨Vb2.heap.size, 2, none⟩ = some (.int .i64 e15) := cell_h hNc rfl
  have u3 : Vc2.cell? ⟨Vb2.heap.size, 3, none⟩ = some (.bool a16) := cell_h hNc rfl
  have u4 : Vc2.cell? ⟨Vb2.heap.size, 4, none⟩ = some (.slice p16 n16 k16) := cell_h hNc rfl
  have u5 : Vc2.cell? ⟨Vb2.heap.size, 5, none⟩ = some (.int .i64 e16) := cell_h hNc rfl
  have g0 : Vc2.cell? ⟨W2.heap.size, 0, none⟩ = some (.bool a13) := cell_h HGc2.out rfl
  have g1 : Vc2.cell? ⟨W2.heap.size, 1, none⟩ = some (.slice p13 n13 k13) := cell_h HGc2.out rfl
  have g2 : Vc2.cell? ⟨W2.heap.size, 2, none⟩ = some (.int .i64 e13) := cell_h HGc2.out rfl
  have g3 : Vc2.cell? ⟨W2.heap.size, 3, none⟩ = some (.bool a14) := cell_h HGc2.out rfl
  have g4 : Vc2.cell? ⟨W2.heap.size, 4, none⟩ = some (.slice p14 n14 k14) := cell_h HGc2.out rfl
  have g5 : Vc2.cell? ⟨W2.heap.size, 5, none⟩ = some (.int .i64 e14) := cell_h HGc2.out rfl
  clear hV hBc hNc HGb2 HWb2 HSb2 HQ2 HBb2
  go_wp2_with fail
  refine (shull_int Vc2 _ _ a a a a a a HSc2.out HQc2.out ha ha ha ha (by omega) (by omega) (HT.out.keep HBc2.out)).mono ?_
  rintro e Vd2 ⟨vh, rfl, hh, hBd⟩
  obtain ⟨a17, p17, n17, k17, e17, a18, p18, n18, k18, e18, rfl, hh1, hh2⟩ := hh
  have HH2 : Hid (SpI Vd2 (.agg #[.bool a17, .slice p17 n17 k17, .int .i64 e17, .bool a18, .slice p18 n18 k18, .int .i64 e18]) a a) := ⟨a17, p17, n17, k17, e17, a18, p18, n18, k18, e18, rfl, hh1, hh2⟩
  have hGd := blk1 HGc2.out hBd
  have HWd2 := Lib.hid (blk3 HWc2.out hBd)
  have HBd2 := Lib.hid (HBc2.out.trans (hBd.mono HBc2.out.size))
  clear hh1 hh2 HWc2 HGc2 HSc2 HQc2 HBc2 u0 u1 u2 u3 u4 u5 g0 g1 g2 g3 g4 g5
  have g0 : Vd2.cell? ⟨W2.heap.size, 0, none⟩ = some (.bool a13) := cell_h hGd rfl
  have g1 : Vd2.cell? ⟨W2.heap.size, 1, none⟩ = some (.slice p13 n13 k13) := cell_h hGd rfl
  have g2 : Vd2.cell? ⟨W2.heap.size, 2, none⟩ = some (.int .i64 e13) := cell_h hGd rfl
  have g3 : Vd2.cell? ⟨W2.heap.size, 3, none⟩ = some (.bool a14) := cell_h hGd rfl
  have g4 : Vd2.cell? ⟨W2.heap.size, 4, none⟩ = some (.slice p14 n14 k14) := cell_h hGd rfl
  have g5 : Vd2.cell? ⟨W2.heap.size, 5, none⟩ = some (.int .i64 e14) := cell_h hGd rfl
  have gf : ∀ o, Vd2.frozen? ⟨W2.heap.size, o, none⟩ = false := fun o => by simp [World.frozen?, hGd]
  have HA := Lib.hid (set6_all (b1 := a17) (q1 := p17) (l1 := n17) (c1 := k17) (f1 := e17) (b2 := a18) (q2 := p18) (l2 := n18) (c2 := k18) (f2 := e18) hGd HBd2.out hg2)
  have HO := Lib.hid (set6_blk3 (v0 := .bool a17) (v1 := .slice p17 n17 k17) (v2 := .int .i64 e17) (v3 := .bool a18) (v4 := .slice p18 n18 k18) (v5 := .int .i64 e18) (g := W2.heap.size) HWd2.out hgl.1 hgl.2.1 hgl.2.2)
  clear hGd hBd
  go_wp2_with fail
  generalize hW9 : (((((Vd2.setCell ⟨W2.heap.size, 0, none⟩ (.bool a17)).setCell ⟨W2.heap.size, 1, none⟩ (.slice p17 n17 k17)).setCell ⟨W2.heap.size, 2, none⟩ (.int .i64 e17)).setCell ⟨W2.heap.size, 3, none⟩ (.bool a18)).setCell ⟨W2.heap.size, 4, none⟩ (.slice p18 n18 k18)).setCell ⟨W2.heap.size, 5, none⟩ (.int .i64 e18) = Ve2 at HO
  obtain ⟨hR9, hB9, hS9, _⟩ := HA.out Ve2 hW9
  have HGe2 := Lib.hid hR9
  have HBe2 := Lib.hid hB9
  have HSe2 : Hid (SpI Ve2 (.agg #[.bool a17, .slice p17 n17 k17, .int .i64 e17, .bool a18, .slice p18 n18 k18, .int .i64 e18]) a a) := hS9 _ _ _ HH2.out
  have HWe2 := Lib.hid HO.out
  clear hW9 hR9 hB9 hS9 HA HO HH2 HWd2 HBd2 g0 g1 g2 g3 g4 g5 gf
  (try simp only [Exit.inBlock, Exit.then])
  rw [rounds_succ]
  have g0 : Ve2.cell? ⟨W2.heap.size, 0, none⟩ = some (.bool a17) := cell_h HGe2.out rfl
  have g1 : Ve2.cell? ⟨W2.heap.size, 1, none⟩ = some (.slice p17 n17 k17) := cell_h HGe2.out rfl
  have g2 : Ve2.cell? ⟨W2.heap.size, 2, none⟩ = some (.int .i64 e17) := cell_h HGe2.out rfl
  have g3 : Ve2.cell? ⟨W2.heap.size, 3, none⟩ = some (.bool a18) := cell_h HGe2.out rfl
  have g4 : Ve2.cell? ⟨W2.heap.size, 4, none⟩ = some (.slice p18 n18 k18) := cell_h HGe2.out rfl
  have g5 : Ve2.cell? ⟨W2.heap.size, 5, none⟩ = some (.int .i64 e18) := cell_h HGe2.out rfl
  have z0 : Ve2.cell? ⟨w.heap.size + 1 + 1, 0, none⟩ = some (.bool false) := cell_h HWe2.out.1 rfl
  have z1 : Ve2.cell? ⟨w.heap.size + 1 + 1, 1, none⟩ = some (.slice none 0 0) := cell_h HWe2.out.1 rfl
  have z2 : Ve2.cell? ⟨w.heap.size + 1 + 1, 2, none⟩ = some (.int .i64 0) := cell_h HWe2.out.1 rfl
  have z3 : Ve2.cell? ⟨w.heap.size + 1 + 1, 3, none⟩ = some (.bool false) := cell_h HWe2.out.1 rfl
  have z4 : Ve2.cell? ⟨w.heap.size + 1 + 1, 4, none⟩ = some (.slice none 0 0) := cell_h HWe2.out.1 rfl
  have z5 : Ve2.cell? ⟨w.heap.size + 1 + 1, 5, none⟩ = some (.int .i64 0) := cell_h HWe2.out.1 rfl
  have zf : ∀ o, Ve2.frozen? ⟨w.heap.size + 1 + 1, o, none⟩ = false := fun o => by simp [World.frozen?, HWe2.out.1]
  have HA := Lib.hid (set6_all (b1 := a17) (q1 := p17) (l1 := n17) (c1 := k17) (f1 := e17) (b2 := a18) (q2 := p18) (l2 := n18) (c2 := k18) (f2 := e18) HWe2.out.1 HBe2.out (by omega))
  go_wp2_with fail
  generalize hW9 : (((((Ve2.setCell ⟨w.heap.size + 1 + 1, 0, none⟩ (.bool a17)).setCell ⟨w.heap.size + 1 + 1, 1, none⟩ (.slice p17 n17 k17)).setCell ⟨w.heap.size + 1 + 1, 2, none⟩ (.int .i64 e17)).setCell ⟨w.heap.size + 1 + 1, 3, none⟩ (.bool a18)).setCell ⟨w.heap.size + 1 + 1, 4, none⟩ (.slice p18 n18 k18)).setCell ⟨w.heap.size + 1 + 1, 5, none⟩ (.int .i64 e18) = W9
  obtain ⟨hR9, hB9, hS9, _⟩ := HA.out W9 hW9
  have y0 := cell_h (k := 0) hR9 rfl
  have y1 := cell_h (k := 1) hR9 rfl
  have y2 := cell_h (k := 2) hR9 rfl
  have y3 := cell_h (k := 3) hR9 rfl
  have y4 := cell_h (k := 4) hR9 rfl
  have y5 := cell_h (k := 5) hR9 rfl
  exact bodyPost_ret (v := .tuple #[.agg #[.bool a17, .slice p17 n17 k17, .int .i64 e17, .bool a18, .slice p18 n18 k18, .int .i64 e18], .int .i64 0]) (by simp [results, Tryz.results166, go_sem, y0, y1, y2, y3, y4, y5]) rfl ⟨_, _, rfl, ⟨rfl, hS9 _ _ _ HSe2.out⟩, hB9⟩
set_option maxRecDepth 100000 in
set_option maxHeartbeats 8000000 in
theorem divided_of (w : World) (v v' : Value) (k a : Int) (x1 x2 y1 y2 : Dyadic) (h : Dy.Sp w v x1 x2) (h' : Dy.Sp w v' y1 y2)
    (hQ : ∀ V, Below w.heap.size w V → Calls Tryz.prog 166 #[v, v', .int .i64 k] V (Dy.Ret2 V fun w' v e => e = .int .i64 0 ∧ SpI w' v a a)) :
    Calls Tryz.prog 131 #[v, v', .int .i64 k] w (Dy.Ret w fun w' v => SpI w' v a a) := by
  have HQu := Lib.hid hQ
  obtain ⟨b1, q1, l1, c1, f1, B1, Q1, L1, C1, F1, rfl, _, _⟩ := id h
  obtain ⟨b4, q4, l4, c4, f4, B4, Q4, L4, C4, F4, rfl, _, _⟩ := id h'
  clear h h' hQ
  go_enter Tryz.func131, Tryz.ntmps131
  go_wp2_with fail
  obtain ⟨W, hW⟩ : ∃ W, ((w.alloc (.cells #[.bool b1, .slice q1 l1 c1, .int .i64 f1, .bool B1, .slice Q1 L1 C1, .int .i64 F1] 116)).alloc (.cells #[.bool b4, .slice q4 l4 c4, .int .i64 f4, .bool B4, .slice Q4 L4 C4, .int .i64 F4] 116)).alloc (.cells #[.bool false, .slice none 0 0, .int .i64 0, .bool false, .slice none 0 0, .int .i64 0] 116) = W := ⟨_, rfl⟩
  rw [hW]
  have hB : Below w.heap.size w W := by rw [← hW]; exact (((Below.refl _ _).alloc (Nat.le_refl _) _).alloc (by simp) _).alloc (by simp; omega) _
  have hP : W.heap[w.heap.size]? = some (.cells #[.bool b1, .slice q1 l1 c1, .int .i64 f1, .bool B1, .slice Q1 L1 C1, .int .i64 F1] 116 (0, 0)) := by rw [← hW]; exact al_old (al_old (World.alloc_heap_new w _) _) _
  have hQ : W.heap[w.heap.size + 1]? = some (.cells #[.bool b4, .slice q4 l4 c4, .int .i64 f4, .bool B4, .slice Q4 L4 C4, .int .i64 F4] 116 (0, 0)) := by rw [← hW]; exact al_old (al_1 w _ _) _
  have hR : W.heap[w.heap.size + 1 + 1]? = some (.cells #[.bool false, .slice none 0 0, .int .i64 0, .bool false, .slice none 0 0, .int .i64 0] 116 (0, 0)) := by rw [← hW]; exact al_2 w _ _ _
  have HB := Lib.hid hB
  have HP := Lib.hid hP
  have HQ9 := Lib.hid hQ
  have HR := Lib.hid hR
  clear hW hB hP hQ hR
  refine (HQu.out W HB.out).mono ?_
  rintro e V2 ⟨v3, e3, rfl, ⟨rfl, hs⟩, hb⟩
  obtain ⟨b3, q3, l3, c3, f3, B3, Q3, L3, C3, F3, rfl, _, _⟩ := id hs
  have hP7 := blk1 HP.out hb
  have hR8 := blk1 HR.out hb
  have hb8 := low_trans HB.out hb
  have HA0 := Lib.hid (set6_all (b1 := b3) (q1 := q3) (l1 := l3) (c1 := c3) (f1 := f3) (b2 := B3) (q2 := Q3) (l2 := L3) (c2 := C3) (f2 := F3) hP7 hb8 (Nat.le_refl _))
  have z0 := cell_h (k := 0) hP7 rfl
  have z1 := cell_h (k := 1) hP7 rfl
  have z2 := cell_h (k := 2) hP7 rfl
  have z3 := cell_h (k := 3) hP7 rfl
  have z4 := cell_h (k := 4) hP7 rfl
  have z5 := cell_h (k := 5) hP7 rfl
  have zf : ∀ o, V2.frozen? ⟨w.heap.size, o, none⟩ = false := fun o => by simp [World.frozen?, hP7]
  go_upto_region 2 with fail
  generalize hW8 : (((((V2.setCell ⟨w.heap.size, 0, none⟩ (.bool b3)).setCell ⟨w.heap.size, 1, none⟩ (.slice q3 l3 c3)).setCell ⟨w.heap.size, 2, none⟩ (.int .i64 f3)).setCell ⟨w.heap.size, 3, none⟩ (.bool B3)).setCell ⟨w.heap.size, 4, none⟩ (.slice Q3 L3 C3)).setCell ⟨w.heap.size, 5, none⟩ (.int .i64 F3) = V3
  obtain ⟨hP8, hb7, hS8, _⟩ := HA0.out V3 hW8
  have hs8 := hS8 _ _ _ hs
  have hR7 : V3.heap[w.heap.size + 1 + 1]? = some (.cells #[.bool false, .slice none 0 0, .int .i64 0, .bool false, .slice none 0 0, .int .i64 0] 116 (0, 0)) := by rw [← hW8]; exact (set6_blk (by omega)).trans hR8
  clear z0 z1 z2 z3 z4 z5 zf hW8 hP7 hR8 hb8 hb hs hS8 HA0
  have u0 := cell_h (k := 0) hP8 rfl
  have u1 := cell_h (k := 1) hP8 rfl
  have u2 := cell_h (k := 2) hP8 rfl
  have u3 := cell_h (k := 3) hP8 rfl
  have u4 := cell_h (k := 4) hP8 rfl
  have u5 := cell_h (k := 5) hP8 rfl
  have HA := Lib.hid (set6_all (b1 := b3) (q1 := q3) (l1 := l3) (c1 := c3) (f1 := f3) (b2 := B3) (q2 := Q3) (l2 := L3) (c2 := C3) (f2 := F3) hR7 hb7 (by omega : w.heap.size ≤ w.heap.size + 1 + 1))
  have z0 := cell_h (k := 0) hR7 rfl
  have z1 := cell_h (k := 1) hR7 rfl
  have z2 := cell_h (k := 2) hR7 rfl
  have z3 := cell_h (k := 3) hR7 rfl
  have z4 := cell_h (k := 4) hR7 rfl
  have z5 := cell_h (k := 5) hR7 rfl
  have zf : ∀ o, V3.frozen? ⟨w.heap.size + 1 + 1, o, none⟩ = false := fun o => by simp [World.frozen?, hR7]
  have HS3 := Lib.hid hs8
  clear hR7 hb7
  go_wp2_with fail
  generalize hW9 : (((((V3.setCell ⟨w.heap.size + 1 + 1, 0, none⟩ (.bool b3)).setCell ⟨w.heap.size + 1 + 1, 1, none⟩ (.slice q3 l3 c3)).setCell ⟨w.heap.size + 1 + 1, 2, none⟩ (.int .i64 f3)).setCell ⟨w.heap.size + 1 + 1, 3, none⟩ (.bool B3)).setCell ⟨w.heap.size + 1 + 1, 4, none⟩ (.slice Q3 L3 C3)).setCell ⟨w.heap.size + 1 + 1, 5, none⟩ (.int .i64 F3) = W9
  obtain ⟨hR9, hB9, hS9, _⟩ := HA.out W9 hW9
  have y0 := cell_h (k := 0) hR9 rfl
  have y1 := cell_h (k := 1) hR9 rfl
  have y2 := cell_h (k := 2) hR9 rfl
  have y3 := cell_h (k := 3) hR9 rfl
  have y4 := cell_h (k := 4) hR9 rfl
  have y5 := cell_h (k := 5) hR9 rfl
  exact bodyPost_ret (v := .agg #[.bool b3, .slice q3 l3 c3, .int .i64 f3, .bool B3, .slice Q3 L3 C3, .int .i64 F3]) (by simp [results, Tryz.results131, go_sem, y0, y1, y2, y3, y4, y5]) rfl ⟨_, rfl, hS9 _ _ _ HS3.out, hB9⟩
end Go.Proofs.YtlphlbgbbblnpaaGreatDoor
