/-
  WALKS: strength: a price with a great bound.
-/
import Derived.Test.YtlphlbgbbblnpaaGreatDoorStIK
import Derived.Test.YtlphlbgbbblnpaaGreatDoorStV
namespace Go.Proofs.YtlphlbgbbblnpaaGreatDoor
open Go.RowKit

theorem alS {V : World} {o : Obj} {v : Value} {x y : Dyadic} (h : Dy.Sp V v x y) : Dy.Sp (V.alloc o) v x y := h.keep ((Below.refl _ _).alloc (Nat.le_refl _) _)
theorem bdI_fits {f : Nat → Int} {n : Nat} {C N L : Int} (hj : jsE f n C N = 0) (hL : 0 ≤ L ∧ L ≤ 2199023255552) : 0 ≤ bdI f n C N L 1048576 ∧ bdI f n C N L 1048576 ≤ 25165824000000 := by
  obtain ⟨hn, hC, hN, hjf⟩ := jok_of hj
  have hrk : 0 ≤ rsk f n ∧ rsk f n ≤ 24000000 := by
    unfold rsk
    refine ⟨si_nn fun i hi => (hjf i hi).1.1, ?_⟩
    have h1 : si n (fun i => f (i * 4)) ≤ si n (fun _ => (1000000 : Int)) := si_le fun i hi => (hjf i hi).1.2
    have h2 : ∀ n : Nat, si n (fun _ => (1000000 : Int)) = 1000000 * n := fun n => by
      induction n with
      | zero => rfl
      | succ n ih => simp only [si, ih]; push_cast; omega
    rw [h2] at h1; omega
  have hm0 : 0 ≤ C * N ∧ C * N ≤ 1460 := by
    refine ⟨Int.mul_nonneg (by omega) hN.1, ?_⟩
    have h1 : C * N ≤ 4 * N := Int.mul_le_mul_of_nonneg_right hC.2 hN.1
    omega
  have h := bdS_fits (f := f) (n := n) (m := C * N) (L := L) hrk hm0 hL (fun i hi => ⟨(hjf i hi).1, (hjf i hi).2.1⟩) hn (k := n) (Nat.le_refl n)
  rw [← bdS_end]
  omega
/-- Two numbers are stored over others. -/
theorem num_two {V : World} {g h : Nat} {a a' b b' : Bool} {p p' r r' : Option Addr} {n k n' k' m l m' l' : Nat} {e e' d d' : Int} {x y : Dyadic} (hgh : g ≠ h)
    (hg : V.heap[g]? = some (.cells #[.bool a', .slice p' n' k', .int .i64 e'] 75 (0, 0))) (hh : V.heap[h]? = some (.cells #[.bool b', .slice r' m' l', .int .i64 d'] 75 (0, 0)))
    (hv : Dy.Nm V (.agg #[.bool a, .slice p n k, .int .i64 e]) x) (hw : Dy.Nm V (.agg #[.bool b, .slice r m l, .int .i64 d]) y) (B : Nat) (w : World) (hB : Below B w V) (hgB : B ≤ g) (hhB : B ≤ h) :
    ∀ W, W = (((((V.setCell ⟨g, 0, none⟩ (.bool a)).setCell ⟨g, 1, none⟩ (.slice p n k)).setCell ⟨g, 2, none⟩ (.int .i64 e)).setCell ⟨h, 0, none⟩ (.bool b)).setCell ⟨h, 1, none⟩ (.slice r m l)).setCell ⟨h, 2, none⟩ (.int .i64 d) →
    W.heap[g]? = some (.cells #[.bool a, .slice p n k, .int .i64 e] 75 (0, 0)) ∧ W.heap[h]? = some (.cells #[.bool b, .slice r m l, .int .i64 d] 75 (0, 0)) ∧ Dy.Nm W (.agg #[.bool a, .slice p n k, .int .i64 e]) x ∧ Dy.Nm W (.agg #[.bool b, .slice r m l, .int .i64 d]) y ∧ Below B w W := by
  intro W e
  subst e
  obtain ⟨q1, q2⟩ := num_store (a := a) (p := p) (n := n) (k := k) (e := e) hg hv
  have q3 : Dy.Nm (((V.setCell ⟨g, 0, none⟩ (.bool a)).setCell ⟨g, 1, none⟩ (.slice p n k)).setCell ⟨g, 2, none⟩ (.int .i64 e)) (.agg #[.bool b, .slice r m l, .int .i64 d]) y := hw.set3 (num_nodig hg)
  have q4 := (set3_blk (v0 := .bool a) (v1 := .slice p n k) (v2 := .int .i64 e) (Ne.symm hgh)).trans hh
  obtain ⟨r1, r2⟩ := num_store (a := b) (p := r) (n := m) (k := l) (e := d) q4 q3
  exact ⟨(set3_blk hgh).trans q1, r1, q2.set3 (num_nodig q4), r2, Dy.below_set3 (Dy.below_set3 hB hgB) hhB⟩
set_option maxRecDepth 100000 in
set_option maxHeartbeats 16000000 in
theorem sPrice_of (w : World) (q : Option Addr) (n c : Nat) (f : Nat → Int) (C N : Int) (hj : jsE f n C N = 0) (hS : Sl w 4 q n f) (hT : Dy.Tab w) :
    Calls Tryz.prog 23 #[.slice q n c, .int .i64 C, .int .i64 N, .int .i64 20] w (Dy.Ret2 w fun w' v e => e = .int .i64 0 ∧ ∃ L : Int, (0 ≤ L ∧ L ≤ 2199023255552) ∧ Nq w' v L) := by
  have HJ := Lib.hid hj
  have HS := Lib.hid hS
  have HT := Lib.hid hT
  obtain ⟨hn, _, _, hjf⟩ := jok_of hj
  have HJf := Lib.hid hjf
  clear hj hS hT hjf
  go_enter Tryz.func23, Tryz.ntmps23
  go_wp2_with fail
  obtain ⟨W, hW⟩ : ∃ W, w.alloc (.cells #[.bool false, .slice none 0 0, .int .i64 0] 75) = W := ⟨_, rfl⟩
  rw [hW]
  have hB : Below w.heap.size w W := by rw [← hW]; exact (Below.refl _ _).alloc (Nat.le_refl _) _
  have hR : Zb W w.heap.size := by rw [← hW]; exact World.alloc_heap_new w _
  have HB := Lib.hid hB
  have HR := Lib.hid hR
  clear hW hB hR
  refine (scheck_of W q n c f C N (by unfold maxLen; omega) (HS.out.keep (by decide) HB.out)).mono ?_
  rintro e V0 ⟨rfl, hb⟩
  rw [HJ.out]
  have HB0 := Lib.hid (low_trans HB.out hb)
  have HR0 := Lib.hid (HR.out.keep hb)
  clear hb HB HR
  obtain ⟨B8, hB8⟩ : ∃ b, w.heap.size = b := ⟨_, rfl⟩
  have HB8 := Lib.hid hB8
  rw [hB8] at HR0
  rw [hB8]
  clear hB8
  go_upto_region 5 with fail
  obtain ⟨W1, hW⟩ : ∃ W, V0.alloc (.cells #[.bool false, .slice none 0 0, .int .i64 0] 75) = W := ⟨_, rfl⟩
  rw [hW]
  have hB : Below V0.heap.size V0 W1 := by rw [← hW]; exact (Below.refl _ _).alloc (Nat.le_refl _) _
  have hR : Zb W1 V0.heap.size := by rw [← hW]; exact World.alloc_heap_new V0 _
  obtain ⟨G, hG⟩ : ∃ b, V0.heap.size = b := ⟨_, rfl⟩
  have HG := Lib.hid hG
  rw [hG] at hR
  rw [hG]
  have HBa := Lib.hid hB
  have HRa := Lib.hid hR
  have HBw := Lib.hid (low_trans HB0.out hB)
  have s0 := cell_h (k := 0) hR rfl
  have s1 := cell_h (k := 1) hR rfl
  have s2 := cell_h (k := 2) hR rfl
  clear hW hB hR hG
  go_wp2_with fail
  refine (sbound_of W1 q n c f C N 0 _ HJ.out (by omega) (HS.out.keep (by decide) HBw.out) (by rw [Nq, Dy.mk_zero]; exact Dy.Nm.zero W1) (HT.out.keep HBw.out)).mono ?_
  rintro e1 W2 ⟨v3, rfl, hv3, hb⟩
  have hfM := bdI_fits (L := 0) HJ.out (by omega)
  generalize bdI f n C N 0 1048576 = M0 at hv3 hfM
  obtain ⟨b7, q7, l7, c7, f7, m7, rfl, _, _⟩ := id (Dy.Nm.fields hv3)
  have HB2 := Lib.hid (low_trans HBa.out hb)
  have HR2 := Lib.hid (HRa.out.keep hb)
  have HV2 := Lib.hid hv3
  clear hv3 hb HBa HRa HBw s0 s1 s2
  go_upto_region 6 with fail
  obtain ⟨W3, hW⟩ : ∃ W, W2.alloc (.cells #[.bool b7, .slice q7 l7 c7, .int .i64 f7] 75) = W := ⟨_, rfl⟩
  rw [hW]
  have hB : Below W2.heap.size W2 W3 := by rw [← hW]; exact (Below.refl _ _).alloc (Nat.le_refl _) _
  have hR : W3.heap[W2.heap.size]? = some (.cells #[.bool b7, .slice q7 l7 c7, .int .i64 f7] 75 (0, 0)) := by rw [← hW]; exact World.alloc_heap_new W2 _
  have hGl : G < W2.heap.size := (Array.getElem?_eq_some_iff.1 HR2.out).1
  obtain ⟨H, hH⟩ : ∃ b, W2.heap.size = b := ⟨_, rfl⟩
  have HB3 := Lib.hid (low_trans HB2.out hB)
  have HG3 := Lib.hid (blk1 HR2.out hB)
  have HV3 := Lib.hid (Nq.keep HV2.out hB)
  rw [hH] at hR hGl
  rw [hH]
  have HH3 := Lib.hid hR
  have hGV : V0.heap.size ≤ G := by rw [HG.out]; exact Nat.le_refl _
  have hHV : V0.heap.size ≤ H := by omega
  clear hW hB hR hH HB2 HR2 HV2
  have hB80 : B8 < V0.heap.size := (Array.getElem?_eq_some_iff.1 HR0.out).1
  go_wp2_with fail
  go_loopw [33] (fun vi wr => ∃ k : Nat, k ≤ n ∧ vi = .int .i64 k ∧ ∃ (a1 : Bool) (p1 : Option Addr) (n1 k1 : Nat) (e1 : Int) (a2 : Bool) (p2 : Option Addr) (n2 k2 : Nat) (e2 L M : Int), (0 ≤ L ∧ L ≤ 2199023255552) ∧ (0 ≤ M ∧ M ≤ 25165824000000) ∧ Hid (wr.heap[G]? = some (.cells #[.bool a1, .slice p1 n1 k1, .int .i64 e1] 75 (0, 0))) ∧ Hid (wr.heap[H]? = some (.cells #[.bool a2, .slice p2 n2 k2, .int .i64 e2] 75 (0, 0))) ∧ Hid (Nq wr (.agg #[.bool a1, .slice p1 n1 k1, .int .i64 e1]) L) ∧ Hid (Nq wr (.agg #[.bool a2, .slice p2 n2 k2, .int .i64 e2]) M) ∧ Hid (Below V0.heap.size V0 wr)) (fun vi _ => n - (intOf vi).toNat)
  case atStart => exact ⟨0, by omega, rfl, false, none, 0, 0, 0, b7, q7, l7, c7, f7, 0, M0, by omega, hfM, HG3.out, HH3.out, by rw [Nq, Dy.mk_zero]; exact Dy.Nm.zero W3, HV3.out, HB3.out⟩
  case round =>
    obtain ⟨k, hk, rfl, a1, p1, n1, k1, e1, a2, p2, n2, k2, e2, L, M, hL, hM, HGr, HHr, HNL, HNM, HBr⟩ := hrel
    have hBl := HBr.out.size
    by_cases hlt : k < n
    · obtain ⟨b4, o4, rfl, hI4⟩ := HS.out (by omega)
      have hb4 := hI4.lt (by omega)
      have hJ := (hI4.keep HB0.out hb4).keep HBr.out (by have := HB0.out.size; omega)
      have d0 := hJ (k * 4) (by omega)
      have d1 := hJ.at (k * 4) 1 (by omega)
      have d2 := hJ.at (k * 4) 2 (by omega)
      have d3 := hJ.at (k * 4) 3 (by omega)
      have hf := HJf.out k hlt
      clear hI4 hJ
      obtain ⟨R, hR⟩ : ∃ R : Nat, f (k * 4) = (R : Int) := ⟨(f (k * 4)).toNat, by omega⟩
      obtain ⟨D, hD⟩ : ∃ R : Nat, f (k * 4 + 1) = (R : Int) := ⟨(f (k * 4 + 1)).toNat, by omega⟩
      rw [hR] at d0 hf
      rw [hD] at d1 hf
      generalize f (k * 4 + 2) = x2 at d2 hf
      generalize f (k * 4 + 3) = x3 at d3 hf
      clear hR hD
      go_upto_region 9 with fail
      have hbV : Below wr.heap.size wr (wr.alloc (.cells #[.int .i64 (R : Int), .int .i64 (D : Int), .int .i64 x2, .int .i64 x3] 66)) := (Below.refl _ _).alloc (Nat.le_refl _) _
      have j0 := World.alloc_heap_new wr (.cells #[.int .i64 (R : Int), .int .i64 (D : Int), .int .i64 x2, .int .i64 x3] 66)
      obtain ⟨nb, hnb⟩ : ∃ nb, wr.heap.size = nb := ⟨_, rfl⟩
      rw [hnb] at j0
      rw [hnb]
      have HGv := Lib.hid (blk1 HGr.out hbV)
      have HHv := Lib.hid (blk1 HHr.out hbV)
      have HNLv := Lib.hid (Nq.keep HNL.out hbV)
      have HNMv := Lib.hid (Nq.keep HNM.out hbV)
      have HBv := Lib.hid (lowB hBl HBr.out hbV)
      clear d0 d1 d2 d3 hbV HGr HHr HNL HNM hBl HBr hnb
      generalize wr.alloc (.cells #[.int .i64 (R : Int), .int .i64 (D : Int), .int .i64 x2, .int .i64 x3] 66) = V1 at *
      have hV1s := HBv.out.size
      have hTv : ∀ V, Below V1.drew.heap.size V1.drew V → Dy.Tab V := fun V hV => HT.out.keep (low_trans (low_trans HB0.out HBv.out) (undrew hV))
      go_cut [15] (fun s15 wx => ∃ (K : Nat) (a6 : Bool) (p6 : Option Addr) (n6 k6 : Nat) (e6 L6 : Int), s15 = .pointer (some ⟨K, 0, none⟩) ∧ V1.heap.size ≤ K ∧ (0 ≤ L6 ∧ L6 ≤ 2199023255552) ∧ wx.heap[K]? = some (.cells #[.bool a6, .slice p6 n6 k6, .int .i64 e6] 75 (0, 0)) ∧ Nq wx (.agg #[.bool a6, .slice p6 n6 k6, .int .i64 e6]) L6 ∧ Below V1.heap.size V1 wx)
      case first =>
        have hS0 : V1.drew.cell? ⟨nb, 0, none⟩ = some (.int .i64 (R : Int)) ∧ V1.drew.cell? ⟨nb, 1, none⟩ = some (.int .i64 (D : Int)) := ⟨cell_h (show V1.drew.heap[nb]? = _ from j0) rfl, cell_h (show V1.drew.heap[nb]? = _ from j0) rfl⟩
        obtain ⟨s0, s1⟩ := id hS0
        have hKP : ∀ V, Below V1.drew.heap.size V1.drew V → V.cell? ⟨nb, 0, none⟩ = some (.int .i64 (R : Int)) ∧ V.cell? ⟨nb, 1, none⟩ = some (.int .i64 (D : Int)) := fun V hV => ⟨cell_h (blk1 j0 (undrew hV)) rfl, cell_h (blk1 j0 (undrew hV)) rfl⟩
        have hd : Below V1.drew.heap.size V1.drew V1.drew := Below.refl _ _
        have hd1 : Below V1.drew.heap.size V1.drew V1 := ⟨rfl, rfl, rfl, Nat.le_refl _, fun _ _ => rfl⟩
        have HN1 : Hid (∀ V, Below V1.drew.heap.size V1.drew V → Calls Tryz.prog 66 #[.int .i64 (R : Int)] V (Dy.Ret V fun w' v => Dy.Nm w' v (Dy.mk (R : Int) 0))) := fun V hV => snumber_of V R (by unfold Dy.I64; omega) (hTv V hV)
        have HN2 : Hid (∀ V, Below V1.drew.heap.size V1.drew V → Calls Tryz.prog 66 #[.int .i64 (D : Int)] V (Dy.Ret V fun w' v => Dy.Nm w' v (Dy.mk (D : Int) 0))) := fun V hV => snumber_of V D (by unfold Dy.I64; omega) (hTv V hV)
        have HQu : Hid (∀ V u u', Below V1.drew.heap.size V1.drew V → Dy.Nm V u (Dy.mk (R : Int) 0) → Dy.Nm V u' (Dy.mk (D : Int) 0) → Calls Tryz.prog 65 #[u, u', .int .i64 20] V (Dy.Ret V fun w' v => Dy.Sp w' v (Dy.mk ((R * 2 ^ 20 / D : Nat) : Int) (-20)) (Dy.rHi false (decide (R * 2 ^ 20 % D = 0)) (R * 2 ^ 20 / D) 20))) := fun V u u' hV hu hu' =>
          squot_of V u u' 20 _ _ _ _ hu hu' fun V2 hV2 => (quo20 V2 u u' R D (hu.keep hV2) (hu'.keep hV2) (by omega) (by omega) (by omega) (by rw [Nat.mod_eq_of_lt (by omega)]; omega) (hTv V2 (low_trans hV hV2))).mono fun e w' ⟨v, e', h1, ⟨h2, ex, h3, h4⟩, h5⟩ => ⟨v, e', h1, ⟨h2, by rw [rLo_eq, h4] at h3; exact h3⟩, h5⟩
        have hqb : R * 2 ^ 20 / D ≤ 2199023255552 := Nat.le_trans (Nat.div_le_self _ _) (by omega)
        obtain ⟨Q, hQ⟩ : ∃ Q : Nat, R * 2 ^ 20 / D = Q := ⟨_, rfl⟩
        generalize Dy.rHi false (decide (R * 2 ^ 20 % D = 0)) (R * 2 ^ 20 / D) 20 = hi at HQu
        rw [hQ] at HQu hqb
        clear hQ
        have HLo : Hid (∀ V u, Dy.Sp V u (Dy.mk (Q : Int) (-20)) hi → Calls Tryz.prog 68 #[u] V (Dy.Ret V fun w' v => Nq w' v (Q : Int))) := fun V u hu => slo_of V u _ _ hu
        go_region_held3 (fun W' => W'.cell? ⟨nb, 0, none⟩ = some (.int .i64 (R : Int)) ∧ W'.cell? ⟨nb, 1, none⟩ = some (.int .i64 (D : Int)))
          (first | (with_reducible assumption) | (exact hKP _ (alB (by assumption))) | (exact hKP _ (alB (by assumption)).drew) | (exact hKP _ (Dy.below_set3 (by first | assumption | exact alB (by assumption)) (Below.size (w := V1.drew) (by assumption)))))
          (first
            | (go_at_call 66; refine (HN1.out _ (by first | assumption | exact alB (by assumption) | exact (alB (by assumption)).drew)).mono ?_; rintro e9 V2 ⟨v2, rfl, hv2, hb2⟩; (have hd2 := low_trans (w := V1.drew) (by first | assumption | exact alB (by assumption) | exact (alB (by assumption)).drew) hb2); (have hS2 := hKP V2 hd2); (try (have hz2 := Zb.newK hb2)); (try (have hz2 := Zb.newKd hb2)); (try (have hz2 := Zb.keep (by assumption) hb2)); (obtain ⟨b2, q2, l2, c2, f2, m2, rfl, _, _⟩ := id (Dy.Nm.fields hv2)))
            | (go_at_call 66; refine (HN2.out _ (by first | assumption | exact alB (by assumption) | exact (alB (by assumption)).drew)).mono ?_; rintro e9 V3 ⟨v3, rfl, hv3, hb3⟩; (have hd3 := low_trans (w := V1.drew) (by first | assumption | exact alB (by assumption) | exact (alB (by assumption)).drew) hb3); (have hS3 := hKP V3 hd3); (try (have hz3 := Zb.newK hb3)); (try (have hz3 := Zb.newKd hb3)); (try (have hz3 := Zb.keep (by assumption) hb3)); (obtain ⟨b3, q3, l3, c3, f3, m3, rfl, _, _⟩ := id (Dy.Nm.fields hv3)); (have hv2' : Dy.Nm V3 _ (Dy.mk (R : Int) 0) := Dy.Nm.keep (by first | assumption | exact alN (by assumption)) hb3))
            | (go_at_call 67; refine (sbits20 _).mono ?_; rintro e9 V4 ⟨rfl, rfl⟩)
            | (go_at_call 65; refine (HQu.out _ _ _ (by first | assumption | exact alB (by assumption) | exact (alB (by assumption)).drew) (by first | assumption | exact alN (by assumption)) (by first | assumption | exact alN (by assumption))).mono ?_; rintro e9 V5 ⟨v5, rfl, hv5, hb5⟩; (have hd5 := low_trans (w := V1.drew) (by first | assumption | exact alB (by assumption) | exact (alB (by assumption)).drew) hb5); (have hS5 := hKP V5 hd5); (try (have hz5 := Zb.newK hb5)); (try (have hz5 := Zb.newKd hb5)); (try (have hz5 := Zb.keep (by assumption) hb5)); (obtain ⟨g1, r1, t1, u1, w1, g2, r2, t2, u2, w2, rfl, _, _⟩ := id hv5))
            | (go_at_call 68; refine (HLo.out _ _ (by first | assumption | exact alS (by assumption))).mono ?_; rintro e9 V6 ⟨v6, rfl, hv6, hb6⟩; (have hd6 := low_trans (w := V1.drew) (by first | assumption | exact alB (by assumption) | exact (alB (by assumption)).drew) hb6); (have hS6 := hKP V6 hd6); (try (have hz6 := Zb.newK hb6)); (try (have hz6 := Zb.newKd hb6)); (try (have hz6 := Zb.keep (by assumption) hb6)); (obtain ⟨b6, q6, l6, c6, f6, m6, rfl, _, _⟩ := id (Dy.Nm.fields hv6)); (try (have y0 := cell_h (k := 0) (w := V6) (cs := #[.bool false, .slice none 0 0, .int .i64 0]) (t := 75) (fz := (0, 0)) (by assumption) rfl; have y1 := cell_h (k := 1) (w := V6) (cs := #[.bool false, .slice none 0 0, .int .i64 0]) (t := 75) (fz := (0, 0)) (by assumption) rfl; have y2 := cell_h (k := 2) (w := V6) (cs := #[.bool false, .slice none 0 0, .int .i64 0]) (t := 75) (fz := (0, 0)) (by assumption) rfl; have yf := Zb.fr (V := V6) (by assumption)))))
        all_goals
          go_wp2_with fail
          go_meet
          first
            | (with_reducible exact ⟨_, b6, q6, l6, c6, f6, (Q : Int), rfl, (undrew hd6).size, (by omega), World.alloc_heap_new V6 _, alN hv6, (undrew hd6).alloc (undrew hd6).size _⟩)
            | exact ⟨_, b6, q6, l6, c6, f6, (Q : Int), rfl, Below.size (w := V1.drew) (by assumption), (by omega), (Zb.store (by assumption) hv6).1, (Zb.store (by assumption) hv6).2, Dy.below_set3 (undrew hd6) (Below.size (w := V1.drew) (by assumption))⟩
      case rest =>
        obtain ⟨K, a6, p6, n6, k6, e6, L6, rfl, hKs, hL6, hK, hN6, hBx⟩ := hcut
        have HKc := Lib.hid hK
        have hGK : ¬(G = K) := by have := (Array.getElem?_eq_some_iff.1 HGv.out).1; omega
        have hHK : ¬(H = K) := by have := (Array.getElem?_eq_some_iff.1 HHv.out).1; omega
        have HN6 := Lib.hid hN6
        have HBc := Lib.hid (lowB HBv.out.size HBv.out hBx)
        have HGc := Lib.hid (blk1 HGv.out hBx)
        have HHc := Lib.hid (blk1 HHv.out hBx)
        have HLc := Lib.hid (Nq.keep HNLv.out hBx)
        have HMc := Lib.hid (Nq.keep HNMv.out hBx)
        have s0 := cell_h (k := 0) hK rfl
        have s1 := cell_h (k := 1) hK rfl
        have s2 := cell_h (k := 2) hK rfl
        clear hK hN6 hBx HGv HHv HNLv HNMv HBv
        go_wp2_with fail
        refine (sbound_of wc (some ⟨b4, o4, none⟩) n c f C N L6 _ HJ.out hL6 (HS.out.keep (by decide) (low_trans HB0.out HBc.out)) HN6.out (HT.out.keep (low_trans HB0.out HBc.out))).mono ?_
        rintro e1 W4 ⟨v3, rfl, hv3, hb⟩
        have hfM6 := bdI_fits (L := L6) HJ.out hL6
        generalize bdI f n C N L6 1048576 = M6 at hv3 hfM6
        obtain ⟨b7, q7, l7, c7, f7, m7, rfl, _, _⟩ := id (Dy.Nm.fields hv3)
        have HV4 := Lib.hid hv3
        have HB4 := Lib.hid (lowB HBc.out.size HBc.out hb)
        have HK4 := Lib.hid (blk1 HKc.out hb)
        have HG4 := Lib.hid (blk1 HGc.out hb)
        have HH4 := Lib.hid (blk1 HHc.out hb)
        have HP4 := Lib.hid (Nq.keep HN6.out hb)
        have HL4 := Lib.hid (Nq.keep HLc.out hb)
        have HM4 := Lib.hid (Nq.keep HMc.out hb)
        clear hv3 hb s0 s1 s2 HKc HGc HHc HN6 HLc HMc HBc
        go_upto_region 11 with fail
        obtain ⟨W5, hW⟩ : ∃ W, W4.alloc (.cells #[.bool b7, .slice q7 l7 c7, .int .i64 f7] 75) = W := ⟨_, rfl⟩
        rw [hW]
        have hB : Below W4.heap.size W4 W5 := by rw [← hW]; exact (Below.refl _ _).alloc (Nat.le_refl _) _
        have hR : W5.heap[W4.heap.size]? = some (.cells #[.bool b7, .slice q7 l7 c7, .int .i64 f7] 75 (0, 0)) := by rw [← hW]; exact World.alloc_heap_new W4 _
        obtain ⟨U, hU⟩ : ∃ b, W4.heap.size = b := ⟨_, rfl⟩
        rw [hU] at hR
        rw [hU]
        have HU5 := Lib.hid hR
        have HV5 := Lib.hid (Nq.keep HV4.out hB)
        have HB5 := Lib.hid (lowB HB4.out.size HB4.out hB)
        have HK5 := Lib.hid (blk1 HK4.out hB)
        have HG5 := Lib.hid (blk1 HG4.out hB)
        have HH5 := Lib.hid (blk1 HH4.out hB)
        have HP5 := Lib.hid (Nq.keep HP4.out hB)
        have HL5 := Lib.hid (Nq.keep HL4.out hB)
        have HM5 := Lib.hid (Nq.keep HM4.out hB)
        have hGU : ¬(G = U) := by have := (Array.getElem?_eq_some_iff.1 HG4.out).1; omega
        have hHU : ¬(H = U) := by have := (Array.getElem?_eq_some_iff.1 HH4.out).1; omega
        have hKU : ¬(K = U) := by have := (Array.getElem?_eq_some_iff.1 HK4.out).1; omega
        clear hW hB hR hU HV4 HB4 HK4 HG4 HH4 HP4 HL4 HM4
        have u0 := cell_h (k := 0) HU5.out rfl
        have u1 := cell_h (k := 1) HU5.out rfl
        have u2 := cell_h (k := 2) HU5.out rfl
        have h0 := cell_h (k := 0) HH5.out rfl
        have h1 := cell_h (k := 1) HH5.out rfl
        have h2 := cell_h (k := 2) HH5.out rfl
        go_wp2_with fail
        refine (Dy.cmp_nm W5 _ _ _ _ 60 20 60 20 HV5.out HM5.out (bx20 (by omega)) (bx20 (by omega)) (by omega) (HT.out.keep (low_trans HB0.out HB5.out))).mono ?_
        rintro e1 W6 ⟨rfl, hb⟩
        generalize Dy.sgn (Dy.mk M6 (-20) - Dy.mk M (-20)) = s
        have HU6 := Lib.hid (blk1 HU5.out hb)
        have HV6 := Lib.hid (Nq.keep HV5.out hb)
        have HB6 := Lib.hid (lowB HB5.out.size HB5.out hb)
        have HK6 := Lib.hid (blk1 HK5.out hb)
        have HG6 := Lib.hid (blk1 HG5.out hb)
        have HH6 := Lib.hid (blk1 HH5.out hb)
        have HP6 := Lib.hid (Nq.keep HP5.out hb)
        have HL6 := Lib.hid (Nq.keep HL5.out hb)
        have HM6 := Lib.hid (Nq.keep HM5.out hb)
        clear hb u0 u1 u2 h0 h1 h2 HU5 HV5 HB5 HK5 HG5 HH5 HP5 HL5 HM5
        have hGH : ¬(G = H) := by omega
        rcases (by omega : s > 0 ∨ (¬(s > 0) ∧ s = 0) ∨ (¬(s > 0) ∧ s ≠ 0)) with c1 | ⟨c1, c2⟩ | ⟨c1, c2⟩
        · have k0 := cell_h (k := 0) HK6.out rfl
          have k1 := cell_h (k := 1) HK6.out rfl
          have k2 := cell_h (k := 2) HK6.out rfl
          have u0 := cell_h (k := 0) HU6.out rfl
          have u1 := cell_h (k := 1) HU6.out rfl
          have u2 := cell_h (k := 2) HU6.out rfl
          have g0 := cell_h (k := 0) HG6.out rfl
          have g1 := cell_h (k := 1) HG6.out rfl
          have g2 := cell_h (k := 2) HG6.out rfl
          have h0 := cell_h (k := 0) HH6.out rfl
          have h1 := cell_h (k := 1) HH6.out rfl
          have h2 := cell_h (k := 2) HH6.out rfl
          have gf : ∀ o, W6.frozen? ⟨G, o, none⟩ = false := fun o => by simp [World.frozen?, HG6.out]
          have hf9 : ∀ o, W6.frozen? ⟨H, o, none⟩ = false := fun o => by simp [World.frozen?, HH6.out]
          have HA := Lib.hid (num_two hGH HG6.out HH6.out HP6.out HV6.out V0.heap.size V0 HB6.out hGV hHV)
          go_upto_region 13 with fail
          go_region
          all_goals
            generalize hW9 : (((((W6.setCell ⟨G, 0, none⟩ (.bool a6)).setCell ⟨G, 1, none⟩ (.slice p6 n6 k6)).setCell ⟨G, 2, none⟩ (.int .i64 e6)).setCell ⟨H, 0, none⟩ (.bool b7)).setCell ⟨H, 1, none⟩ (.slice q7 l7 c7)).setCell ⟨H, 2, none⟩ (.int .i64 f7) = W9
            obtain ⟨r1, r2, r3, r4, r5⟩ := HA.out W9 hW9.symm
            have R1 := Lib.hid (And.intro r1 (And.intro r2 (And.intro r3 (And.intro r4 r5))))
            clear r1 r2 r3 r4 r5 hW9 HA gf hf9 k0 k1 k2 u0 u1 u2 g0 g1 g2 h0 h1 h2
            go_wp2_with fail
            exact ⟨⟨k + 1, by omega, by go_num, a6, p6, n6, k6, e6, b7, q7, l7, c7, f7, L6, M6, hL6, hfM6, R1.out.1, R1.out.2.1, R1.out.2.2.1, R1.out.2.2.2.1, R1.out.2.2.2.2.drew⟩, by simp [intOf]; omega⟩
        · subst c2
          have k0 := cell_h (k := 0) HK6.out rfl
          have k1 := cell_h (k := 1) HK6.out rfl
          have k2 := cell_h (k := 2) HK6.out rfl
          have g0 := cell_h (k := 0) HG6.out rfl
          have g1 := cell_h (k := 1) HG6.out rfl
          have g2 := cell_h (k := 2) HG6.out rfl
          go_wp2_with fail
          refine (Dy.cmp_nm W6 _ _ _ _ 60 20 60 20 HP6.out HL6.out (bx20 (by omega)) (bx20 (by omega)) (by omega) (HT.out.keep (low_trans HB0.out HB6.out))).mono ?_
          rintro e1 W7 ⟨rfl, hb⟩
          generalize Dy.sgn (Dy.mk L6 (-20) - Dy.mk L (-20)) = s
          have HU7 := Lib.hid (blk1 HU6.out hb)
          have HV7 := Lib.hid (Nq.keep HV6.out hb)
          have HB7 := Lib.hid (lowB HB6.out.size HB6.out hb)
          have HK7 := Lib.hid (blk1 HK6.out hb)
          have HG7 := Lib.hid (blk1 HG6.out hb)
          have HH7 := Lib.hid (blk1 HH6.out hb)
          have HP7 := Lib.hid (Nq.keep HP6.out hb)
          have HL7 := Lib.hid (Nq.keep HL6.out hb)
          have HM7 := Lib.hid (Nq.keep HM6.out hb)
          clear hb k0 k1 k2 g0 g1 g2 HU6 HV6 HB6 HK6 HG6 HH6 HP6 HL6 HM6
          by_cases c3 : s < 0
          · have k0 := cell_h (k := 0) HK7.out rfl
            have k1 := cell_h (k := 1) HK7.out rfl
            have k2 := cell_h (k := 2) HK7.out rfl
            have u0 := cell_h (k := 0) HU7.out rfl
            have u1 := cell_h (k := 1) HU7.out rfl
            have u2 := cell_h (k := 2) HU7.out rfl
            have g0 := cell_h (k := 0) HG7.out rfl
            have g1 := cell_h (k := 1) HG7.out rfl
            have g2 := cell_h (k := 2) HG7.out rfl
            have h0 := cell_h (k := 0) HH7.out rfl
            have h1 := cell_h (k := 1) HH7.out rfl
            have h2 := cell_h (k := 2) HH7.out rfl
            have gf : ∀ o, W7.frozen? ⟨G, o, none⟩ = false := fun o => by simp [World.frozen?, HG7.out]
            have hf9 : ∀ o, W7.frozen? ⟨H, o, none⟩ = false := fun o => by simp [World.frozen?, HH7.out]
            have HA := Lib.hid (num_two hGH HG7.out HH7.out HP7.out HV7.out V0.heap.size V0 HB7.out hGV hHV)
            go_upto_region 13 with fail
            go_region
            all_goals
              generalize hW9 : (((((W7.setCell ⟨G, 0, none⟩ (.bool a6)).setCell ⟨G, 1, none⟩ (.slice p6 n6 k6)).setCell ⟨G, 2, none⟩ (.int .i64 e6)).setCell ⟨H, 0, none⟩ (.bool b7)).setCell ⟨H, 1, none⟩ (.slice q7 l7 c7)).setCell ⟨H, 2, none⟩ (.int .i64 f7) = W9
              obtain ⟨r1, r2, r3, r4, r5⟩ := HA.out W9 hW9.symm
              have R1 := Lib.hid (And.intro r1 (And.intro r2 (And.intro r3 (And.intro r4 r5))))
              clear r1 r2 r3 r4 r5 hW9 HA gf hf9 k0 k1 k2 u0 u1 u2 g0 g1 g2 h0 h1 h2
              go_wp2_with fail
              exact ⟨⟨k + 1, by omega, by go_num, a6, p6, n6, k6, e6, b7, q7, l7, c7, f7, L6, M6, hL6, hfM6, R1.out.1, R1.out.2.1, R1.out.2.2.1, R1.out.2.2.2.1, R1.out.2.2.2.2.drew⟩, by simp [intOf]; omega⟩
          · go_wp2_with fail
            exact ⟨⟨k + 1, by omega, by go_num, a1, p1, n1, k1, e1, a2, p2, n2, k2, e2, L, M, hL, hM, HG7.out, HH7.out, HL7.out, HM7.out, HB7.out⟩, by simp [intOf]; omega⟩
        · go_wp2_with fail
          exact ⟨⟨k + 1, by omega, by go_num, a1, p1, n1, k1, e1, a2, p2, n2, k2, e2, L, M, hL, hM, HG6.out, HH6.out, HL6.out, HM6.out, HB6.out⟩, by simp [intOf]; omega⟩
    · obtain rfl : k = n := by omega
      have g0 := cell_h (k := 0) HGr.out rfl
      have g1 := cell_h (k := 1) HGr.out rfl
      have g2 := cell_h (k := 2) HGr.out rfl
      have hZ : Zb wr B8 := blk1 HR0.out HBr.out
      have z0 := cell_h (k := 0) hZ rfl
      have z1 := cell_h (k := 1) hZ rfl
      have z2 := cell_h (k := 2) hZ rfl
      have zf := hZ.fr
      have HQ := Lib.hid (fun W9 h9 => hZ.laid HNL.out w (low_trans HB0.out HBr.out) (by rw [HB8.out]; exact Nat.le_refl _) (W9 := W9) h9)
      clear hZ
      go_wp2_with fail
      generalize h9 : ((wr.setCell ⟨B8, 0, none⟩ (.bool a1)).setCell ⟨B8, 1, none⟩ (.slice p1 n1 k1)).setCell ⟨B8, 2, none⟩ (.int .i64 e1) = W9
      obtain ⟨q1, q2, q3⟩ := HQ.out W9 h9
      have y0 := cell_h (k := 0) q1 rfl
      have y1 := cell_h (k := 1) q1 rfl
      have y2 := cell_h (k := 2) q1 rfl
      exact bodyPost_ret (v := .tuple #[.agg #[.bool a1, .slice p1 n1 k1, .int .i64 e1], .int .i64 0]) (by simp [results, Tryz.results23, go_sem, y0, y1, y2]) rfl ⟨_, _, rfl, ⟨rfl, L, hL, q2⟩, q3⟩
end Go.Proofs.YtlphlbgbbblnpaaGreatDoor
