/-
  WALKS: strength: the bound of a price.
-/
import Derived.Test.YtlphlbgbbblnpaaGreatDoorStI
import Derived.Test.YtlphlbgbbblnpaaGreatDoorPlT
import Derived.Test.YtlphlbgbbblnpaaGreatDoorPmAF
import Derived.Test.YtlphlbgbbblnpaaGreatDoorStB
namespace Go.Proofs.YtlphlbgbbblnpaaGreatDoor
open Go.RowKit

/-- The bound before it is held against 0, behind the first k jobs. -/
def bdS (f : Nat → Int) (n : Nat) (m L : Int) (k : Nat) : Int := rsk f n * 1048576 - L * m - si k fun i => max (f (i * 4) * 1048576 - L * f (i * 4 + 1)) 0
theorem bdS_step (f : Nat → Int) (n : Nat) (m L : Int) (k : Nat) : bdS f n m L (k + 1) = bdS f n m L k - max (f (k * 4) * 1048576 - L * f (k * 4 + 1)) 0 := by
  unfold bdS; simp only [si]; omega
theorem bdS_end (f : Nat → Int) (n : Nat) (C N L : Int) : max (bdS f n (C * N) L n) 0 = bdI f n C N L 1048576 := by
  unfold bdS bdI
  rw [Int.mul_comm L (C * N)]
  have e : (fun i => max (f (i * 4) * 1048576 - L * f (i * 4 + 1)) 0) = fun i => max 0 (f (i * 4) * 1048576 - f (i * 4 + 1) * L) := by
    funext i; rw [Int.mul_comm L, Int.max_comm]
  rw [e, Int.max_comm]
theorem mulL {L x : Int} (hL : 0 ≤ L ∧ L ≤ 2199023255552) (hx : 0 ≤ x ∧ x ≤ 1460) : 0 ≤ L * x ∧ L * x ≤ 3210573953105920 := by
  refine ⟨Int.mul_nonneg hL.1 hx.1, ?_⟩
  have h1 : L * x ≤ 2199023255552 * x := Int.mul_le_mul_of_nonneg_right hL.2 hx.1
  omega
theorem bdS_fits {f : Nat → Int} {n : Nat} {m L : Int} (hr : 0 ≤ rsk f n ∧ rsk f n ≤ 24000000) (hm : 0 ≤ m ∧ m ≤ 1460) (hL : 0 ≤ L ∧ L ≤ 2199023255552) (hf : ∀ i, i < n → (0 ≤ f (i * 4) ∧ f (i * 4) ≤ 1000000) ∧ 1 ≤ f (i * 4 + 1) ∧ f (i * 4 + 1) ≤ 365) (hn : n ≤ 24) :
    ∀ {k : Nat}, k ≤ n → -3210573953105920 - k * 1048576000000 ≤ bdS f n m L k ∧ bdS f n m L k ≤ 25165824000000
  | 0, _ => by
    have := mulL hL hm
    unfold bdS; simp only [si]; omega
  | k + 1, hk => by
    have h1 := bdS_fits hr hm hL hf hn (k := k) (by omega)
    have h2 := hf k (by omega)
    have h3 := mulL hL (x := f (k * 4 + 1)) (by omega)
    rw [bdS_step]
    omega

theorem lowB {B : Nat} {w V W : World} (hB : B ≤ V.heap.size) (h : Below B w V) (hb : Below V.heap.size V W) : Below B w W := h.trans (hb.mono hB)
theorem blk1' {W W' : World} {a : Nat} {x : Obj} (h : W.heap[a]? = some x) (hB : Below W.heap.size W W') (_ : a < W.heap.size) : W'.heap[a]? = some x := (hB.block _ (Array.getElem?_eq_some_iff.1 h).1).trans h
/-- A number stored over another one. -/
theorem num_nodig {V : World} {g : Nat} {a : Bool} {p : Option Addr} {n k : Nat} {e : Int} (h : V.heap[g]? = some (.cells #[.bool a, .slice p n k, .int .i64 e] 75 (0, 0))) : Dy.NoDig V g := by
  intro o x hc
  simp only [World.cell?, h] at hc
  match o, hc with
  | 0, hc => simp at hc
  | 1, hc => simp at hc
  | 2, hc => simp at hc
  | o + 3, hc => simp at hc
theorem num_store {V : World} {g : Nat} {a a' : Bool} {p p' : Option Addr} {n k n' k' : Nat} {e e' : Int} {x : Dyadic} (h : V.heap[g]? = some (.cells #[.bool a', .slice p' n' k', .int .i64 e'] 75 (0, 0))) (hv : Dy.Nm V (.agg #[.bool a, .slice p n k, .int .i64 e]) x) :
    (((V.setCell ⟨g, 0, none⟩ (.bool a)).setCell ⟨g, 1, none⟩ (.slice p n k)).setCell ⟨g, 2, none⟩ (.int .i64 e)).heap[g]? = some (.cells #[.bool a, .slice p n k, .int .i64 e] 75 (0, 0)) ∧ Dy.Nm (((V.setCell ⟨g, 0, none⟩ (.bool a)).setCell ⟨g, 1, none⟩ (.slice p n k)).setCell ⟨g, 2, none⟩ (.int .i64 e)) (.agg #[.bool a, .slice p n k, .int .i64 e]) x :=
  ⟨by rw [heap_set (heap_set (heap_set h _) _) _]; rfl, hv.set3 (num_nodig h)⟩
set_option maxRecDepth 100000 in
set_option maxHeartbeats 16000000 in
theorem sbound_of (w : World) (q : Option Addr) (n c : Nat) (f : Nat → Int) (C N L : Int) (v : Value) (hj : jsE f n C N = 0) (hL : 0 ≤ L ∧ L ≤ 2199023255552) (hS : Sl w 4 q n f) (hv : Nq w v L) (hT : Dy.Tab w) :
    Calls Tryz.prog 64 #[.slice q n c, .int .i64 C, .int .i64 N, v] w (Dy.Ret w fun w' v => Nq w' v (bdI f n C N L 1048576)) := by
  obtain ⟨hn, hC, hN, hjf⟩ := jok_of hj
  have hrk : 0 ≤ rsk f n ∧ rsk f n ≤ 24000000 := by
    unfold rsk
    refine ⟨si_nn fun i hi => (hjf i hi).1.1, ?_⟩
    have h1 : si n (fun i => f (i * 4)) ≤ si n (fun _ => (1000000 : Int)) := si_le fun i hi => (hjf i hi).1.2
    have h2 : ∀ n : Nat, si n (fun _ => (1000000 : Int)) = 1000000 * n := fun n => by
      induction n with
      | zero => rfl
      | succ n ih => simp only [si, ih]; push_cast; omega
    rw [h2] at h1; omega
  have hm0 : 0 ≤ C * N ∧ C * N ≤ 1460 := by
    refine ⟨Int.mul_nonneg (by omega) hN.1, ?_⟩
    have h1 : C * N ≤ 4 * N := Int.mul_le_mul_of_nonneg_right hC.2 hN.1
    omega
  have HFit := Lib.hid (fun k hk => bdS_fits (f := f) (n := n) (m := C * N) (L := L) hrk hm0 hL (fun i hi => ⟨(hjf i hi).1, (hjf i hi).2.1⟩) hn (k := k) hk)
  have HEnd := Lib.hid (bdS_end f n C N L)
  have HStep := Lib.hid (fun k => bdS_step f n (C * N) L k)
  have H00 : Hid (bdS f n (C * N) L 0 = rsk f n * 1048576 - L * (C * N)) := by unfold bdS; simp only [si]; exact Lib.hid (by omega)
  obtain ⟨bI, hbI⟩ : ∃ x, bdI f n C N L 1048576 = x := ⟨_, rfl⟩
  rw [hbI] at HEnd
  rw [hbI]
  have HRk : Hid (∀ V, Below w.heap.size w V → Calls Tryz.prog 61 #[.slice q n c] V fun e w' => e = .returned (.int .i64 (rsk f n)) ∧ Below V.heap.size V w') := fun V hV => srisk_of V q n c f hn (fun i hi => (hjf i hi).1) (hS.keep (by decide) hV)
  obtain ⟨r, hr⟩ : ∃ r, rsk f n = r := ⟨_, rfl⟩
  rw [hr] at HRk hrk H00
  obtain ⟨m, hm⟩ : ∃ m, C * N = m := ⟨_, rfl⟩
  simp only [hm] at HFit HEnd HStep H00 hm0
  have hwm : IntKind.i64.wrap (C * N) = m := by rw [hm]; exact IntWalk.i64_in _ (by omega)
  have HS := Lib.hid hS
  have HV := Lib.hid hv
  have HT := Lib.hid hT
  have HJf := Lib.hid hjf
  obtain ⟨a, p, l, k0, e0, m0, rfl, _, _⟩ := Dy.Nm.fields hv
  clear hbI hr hm hS hv hT hjf hj
  have HN1 : Hid (∀ V, Below w.heap.size w V → Calls Tryz.prog 66 #[.int .i64 r] V (Dy.Ret V fun w' v => Nq w' v (r * 1048576))) := fun V hV => by
    have h := snumber_of V r (by unfold Dy.I64; omega) (HT.out.keep hV)
    rw [mk20] at h
    exact h
  have HN2 : Hid (∀ V, Below w.heap.size w V → Calls Tryz.prog 66 #[.int .i64 m] V (Dy.Ret V fun w' v => Dy.Nm w' v (Dy.mk m 0))) := fun V hV => snumber_of V m (by unfold Dy.I64; omega) (HT.out.keep hV)
  have HM : Hid (∀ V u (x : Int), 0 ≤ x ∧ x ≤ 1460 → Below w.heap.size w V → Dy.Nm V u (Dy.mk x 0) → Calls Tryz.prog 98 #[.agg #[.bool a, .slice p l k0, .int .i64 e0], u] V (Dy.Ret V fun w' v => Nq w' v (L * x))) := fun V u x hx hV hu => by
    have h := Dy.mul_nm V _ _ _ _ 60 20 40 0 (HV.out.keep hV) hu (bx20 (by omega)) (bx (by omega)) (by omega) (HT.out.keep hV)
    rw [Dy.mk_mul, show (-20 : Int) + 0 = -20 from rfl] at h
    exact h
  have HD : Hid (∀ V u u' (x y : Int), (-1152921504606846976 < x ∧ x < 1152921504606846976) → (-1152921504606846976 < y ∧ y < 1152921504606846976) → Below w.heap.size w V → Nq V u x → Nq V u' y → Calls Tryz.prog 72 #[u, u'] V (Dy.Ret V fun w' v => Nq w' v (x - y))) := fun V u u' x y hx hy hV hu hu' => by
    have h := Dy.sub_nm V _ _ _ _ 60 20 60 20 hu hu' (bx20 hx) (bx20 hy) (by omega) (HT.out.keep hV)
    rw [mk_sub] at h
    exact h
  go_enter Tryz.func64, Tryz.ntmps64
  go_upto_region 1 with fail
  obtain ⟨V0, hW⟩ : ∃ W, (w.alloc (.cells #[.bool a, .slice p l k0, .int .i64 e0] 75)).alloc (.cells #[.bool false, .slice none 0 0, .int .i64 0] 75) = W := ⟨_, rfl⟩
  rw [hW]
  have hB : Below w.heap.size w V0 := by rw [← hW]; exact ((Below.refl _ _).alloc (Nat.le_refl _) _).alloc (by simp) _
  have hP : V0.heap[w.heap.size]? = some (.cells #[.bool a, .slice p l k0, .int .i64 e0] 75 (0, 0)) := by rw [← hW]; exact al_old (World.alloc_heap_new w _) _
  have hR : Zb V0 (w.heap.size + 1) := by rw [← hW]; exact al_1 w _ _
  have HB := Lib.hid hB
  have HP := Lib.hid hP
  have HR := Lib.hid hR
  clear hW hB hP hR
  obtain ⟨B7, hB7⟩ : ∃ b, w.heap.size = b := ⟨_, rfl⟩
  have HB7 := Lib.hid hB7
  rw [hB7] at HP HR
  rw [hB7]
  have hBl7 : B7 < V0.heap.size := (Array.getElem?_eq_some_iff.1 HP.out).1
  clear hB7
  have HMq := Lib.hid (mulL hL hm0)
  go_cut [9] (fun s9 wx => ∃ (G : Nat) (a6 : Bool) (p6 : Option Addr) (n6 k6 : Nat) (e6 : Int), s9 = .pointer (some ⟨G, 0, none⟩) ∧ V0.heap.size ≤ G ∧ wx.heap[G]? = some (.cells #[.bool a6, .slice p6 n6 k6, .int .i64 e6] 75 (0, 0)) ∧ Nq wx (.agg #[.bool a6, .slice p6 n6 k6, .int .i64 e6]) (r * 1048576 - L * m) ∧ Below V0.heap.size V0 wx)
  case first =>
    clear HR
    have hw : Below w.heap.size w V0.drew := HB.out.drew
    have hw1 : Below w.heap.size w V0 := HB.out
    have HPd : Hid (V0.drew.heap[B7]? = some (.cells #[.bool a, .slice p l k0, .int .i64 e0] 75 (0, 0))) := HP.out
    have hS0 : V0.drew.cell? ⟨B7, 0, none⟩ = some (.bool a) ∧ V0.drew.cell? ⟨B7, 1, none⟩ = some (.slice p l k0) ∧ V0.drew.cell? ⟨B7, 2, none⟩ = some (.int .i64 e0) := ⟨cell_h HPd.out rfl, cell_h HPd.out rfl, cell_h HPd.out rfl⟩
    obtain ⟨s0, s1, s2⟩ := id hS0
    have hKP : ∀ V, Below V0.drew.heap.size V0.drew V → V.cell? ⟨B7, 0, none⟩ = some (.bool a) ∧ V.cell? ⟨B7, 1, none⟩ = some (.slice p l k0) ∧ V.cell? ⟨B7, 2, none⟩ = some (.int .i64 e0) := fun V hV => ⟨cell_h (blk1 HPd.out hV) rfl, cell_h (blk1 HPd.out hV) rfl, cell_h (blk1 HPd.out hV) rfl⟩
    have hd : Below V0.drew.heap.size V0.drew V0.drew := Below.refl _ _
    have hd1 : Below V0.drew.heap.size V0.drew V0 := ⟨rfl, rfl, rfl, Nat.le_refl _, fun _ _ => rfl⟩
    have hbM := HMq.out
    go_region_held3 (fun W' => W'.cell? ⟨B7, 0, none⟩ = some (.bool a) ∧ W'.cell? ⟨B7, 1, none⟩ = some (.slice p l k0) ∧ W'.cell? ⟨B7, 2, none⟩ = some (.int .i64 e0))
      (first | (with_reducible assumption) | (exact hKP _ (alB (by assumption))) | (exact hKP _ (alB (by assumption)).drew) | (exact hKP _ (Dy.below_set3 (by first | assumption | exact alB (by assumption)) (Below.size (w := V0.drew) (by assumption)))))
      (first
        | (go_at_call 61; refine (HRk.out _ (by first | assumption | exact alB (by assumption) | exact (alB (by assumption)).drew)).mono ?_; rintro e9 V2 ⟨rfl, hb2⟩; (have hL2 := low_trans (w := w) (by first | assumption | exact alB (by assumption) | exact (alB (by assumption)).drew) hb2); (have hd2 := low_trans (w := V0.drew) (by first | assumption | exact alB (by assumption) | exact (alB (by assumption)).drew) hb2); (have hS2 := hKP V2 hd2); (try (have hz2 := Zb.newK hb2)); (try (have hz2 := Zb.newKd hb2)); (try (have hz2 := Zb.keep (by assumption) hb2)))
        | (go_at_call 66; refine (HN1.out _ (by first | assumption | exact alB (by assumption) | exact (alB (by assumption)).drew)).mono ?_; rintro e9 V3 ⟨v3, rfl, hv3, hb3⟩; (have hL3 := low_trans (w := w) (by first | assumption | exact alB (by assumption) | exact (alB (by assumption)).drew) hb3); (have hd3 := low_trans (w := V0.drew) (by first | assumption | exact alB (by assumption) | exact (alB (by assumption)).drew) hb3); (have hS3 := hKP V3 hd3); (try (have hz3 := Zb.newK hb3)); (try (have hz3 := Zb.newKd hb3)); (try (have hz3 := Zb.keep (by assumption) hb3)); (obtain ⟨b3, q3, l3, c3, f3, m3, rfl, _, _⟩ := id (Dy.Nm.fields hv3)))
        | (go_at_call 66; refine (HN2.out _ (by first | assumption | exact alB (by assumption) | exact (alB (by assumption)).drew)).mono ?_; rintro e9 V4 ⟨v4, rfl, hv4, hb4⟩; (have hL4 := low_trans (w := w) (by first | assumption | exact alB (by assumption) | exact (alB (by assumption)).drew) hb4); (have hd4 := low_trans (w := V0.drew) (by first | assumption | exact alB (by assumption) | exact (alB (by assumption)).drew) hb4); (have hS4 := hKP V4 hd4); (try (have hz4 := Zb.newK hb4)); (try (have hz4 := Zb.newKd hb4)); (try (have hz4 := Zb.keep (by assumption) hb4)); (obtain ⟨b4, q4, l4, c4, f4, m4, rfl, _, _⟩ := id (Dy.Nm.fields hv4)); (have hv3' : Dy.Nm V4 _ (Dy.mk (r * 1048576) (-20)) := Dy.Nm.keep (by first | assumption | exact alN (by assumption)) hb4))
        | (go_at_call 98; refine (HM.out _ _ m (by omega) (by first | assumption | exact alB (by assumption) | exact (alB (by assumption)).drew) (by first | assumption | exact alN (by assumption))).mono ?_; rintro e9 V5 ⟨v5, rfl, hv5, hb5⟩; (have hL5 := low_trans (w := w) (by first | assumption | exact alB (by assumption) | exact (alB (by assumption)).drew) hb5); (have hd5 := low_trans (w := V0.drew) (by first | assumption | exact alB (by assumption) | exact (alB (by assumption)).drew) hb5); (have hS5 := hKP V5 hd5); (try (have hz5 := Zb.newK hb5)); (try (have hz5 := Zb.newKd hb5)); (try (have hz5 := Zb.keep (by assumption) hb5)); (obtain ⟨b5, q5, l5, c5, f5, m5, rfl, _, _⟩ := id (Dy.Nm.fields hv5)); (have hv3' : Dy.Nm V5 _ (Dy.mk (r * 1048576) (-20)) := Dy.Nm.keep (by first | assumption | exact alN (by assumption)) hb5))
        | (go_at_call 72; refine (HD.out _ _ _ (r * 1048576) (L * m) (by omega) (by omega) (by first | assumption | exact alB (by assumption) | exact (alB (by assumption)).drew) (by first | assumption | exact alN (by assumption)) (by first | assumption | exact alN (by assumption))).mono ?_; rintro e9 V6 ⟨v6, rfl, hv6, hb6⟩; (have hL6 := low_trans (w := w) (by first | assumption | exact alB (by assumption) | exact (alB (by assumption)).drew) hb6); (have hd6 := low_trans (w := V0.drew) (by first | assumption | exact alB (by assumption) | exact (alB (by assumption)).drew) hb6); (have hS6 := hKP V6 hd6); (try (have hz6 := Zb.newK hb6)); (try (have hz6 := Zb.newKd hb6)); (try (have hz6 := Zb.keep (by assumption) hb6)); (obtain ⟨b6, q6, l6, c6, f6, m6, rfl, _, _⟩ := id (Dy.Nm.fields hv6)); (try (have y0 := cell_h (k := 0) (w := V6) (cs := #[.bool false, .slice none 0 0, .int .i64 0]) (t := 75) (fz := (0, 0)) (by assumption) rfl; have y1 := cell_h (k := 1) (w := V6) (cs := #[.bool false, .slice none 0 0, .int .i64 0]) (t := 75) (fz := (0, 0)) (by assumption) rfl; have y2 := cell_h (k := 2) (w := V6) (cs := #[.bool false, .slice none 0 0, .int .i64 0]) (t := 75) (fz := (0, 0)) (by assumption) rfl; have yf := Zb.fr (V := V6) (by assumption)))))
    all_goals
      go_wp2_with fail
      go_meet
      first
        | (with_reducible exact ⟨_, b6, q6, l6, c6, f6, rfl, (undrew hd6).size, World.alloc_heap_new V6 _, alN hv6, (undrew hd6).alloc (undrew hd6).size _⟩)
        | exact ⟨_, b6, q6, l6, c6, f6, rfl, Below.size (w := V0.drew) (by assumption), (Zb.store (by assumption) hv6).1, (Zb.store (by assumption) hv6).2, Dy.below_set3 (undrew hd6) (Below.size (w := V0.drew) (by assumption))⟩
  case rest =>
    obtain ⟨G, a6, p6, n6, k6, e6, rfl, hGs, hG, hN, hBx⟩ := hcut
    have HGc := Lib.hid hG
    have HNc : Hid (Nq wc (.agg #[.bool a6, .slice p6 n6 k6, .int .i64 e6]) (bdS f n m L 0)) := by rw [H00.out]; exact Lib.hid hN
    have HBc := Lib.hid hBx
    clear hG hN hBx
    go_wp2_with fail
    go_loopw [24] (fun vi wr => ∃ k : Nat, k ≤ n ∧ vi = .int .i64 k ∧ ∃ (a6 : Bool) (p6 : Option Addr) (n6 k6 : Nat) (e6 : Int), Hid (wr.heap[G]? = some (.cells #[.bool a6, .slice p6 n6 k6, .int .i64 e6] 75 (0, 0))) ∧ Hid (Nq wr (.agg #[.bool a6, .slice p6 n6 k6, .int .i64 e6]) (bdS f n m L k)) ∧ Hid (Below V0.heap.size V0 wr)) (fun vi _ => n - (intOf vi).toNat)
    case atStart => exact ⟨0, by omega, rfl, a6, p6, n6, k6, e6, HGc.out, HNc.out, HBc.out⟩
    case round =>
      obtain ⟨k, hk, rfl, a7, p7, n7, k7, e7, HG, HN, HBr⟩ := hrel
      have hfk := HFit.out k hk
      have hG0 : G < wr.heap.size := (Array.getElem?_eq_some_iff.1 HG.out).1
      have hB70 : B7 < wr.heap.size := Nat.lt_of_lt_of_le hBl7 HBr.out.size
      by_cases hlt : k < n
      · obtain ⟨b4, o4, rfl, hI4⟩ := HS.out (by omega)
        have hb4 := hI4.lt (by omega)
        have hJ := (hI4.keep HB.out hb4).keep HBr.out (by have := HB.out.size; omega)
        have d0 := hJ (k * 4) (by omega)
        have d1 := hJ.at (k * 4) 1 (by omega)
        have d2 := hJ.at (k * 4) 2 (by omega)
        have d3 := hJ.at (k * 4) 3 (by omega)
        have hf := HJf.out k hlt
        have hst := HStep.out k
        have hfk1 := HFit.out (k + 1) hlt
        have HLx := Lib.hid (mulL (L := L) (x := f (k * 4 + 1)) hL (by omega))
        clear hI4 hJ
        generalize f (k * 4) = x0 at d0 hf hst
        generalize f (k * 4 + 1) = x1 at d1 hf hst HLx
        generalize f (k * 4 + 2) = x2 at d2 hf
        generalize f (k * 4 + 3) = x3 at d3 hf
        have HSt := Lib.hid hst
        clear hst
        go_upto_region 5 with fail
        have hbV : Below wr.heap.size wr (wr.alloc (.cells #[.int .i64 x0, .int .i64 x1, .int .i64 x2, .int .i64 x3] 66)) := (Below.refl _ _).alloc (Nat.le_refl _) _
        have j0 := World.alloc_heap_new wr (.cells #[.int .i64 x0, .int .i64 x1, .int .i64 x2, .int .i64 x3] 66)
        obtain ⟨nb, hnb⟩ : ∃ nb, wr.heap.size = nb := ⟨_, rfl⟩
        rw [hnb] at j0
        rw [hnb]
        have HGv := Lib.hid (blk1 HG.out hbV)
        have HNv := Lib.hid (Nq.keep HN.out hbV)
        have hsz0 : V0.heap.size ≤ wr.heap.size := HBr.out.size
        have HBv := Lib.hid (lowB hsz0 HBr.out hbV)
        clear d0 d1 d2 d3 hbV HG HN hsz0 HBr hnb
        generalize wr.alloc (.cells #[.int .i64 x0, .int .i64 x1, .int .i64 x2, .int .i64 x3] 66) = V1 at *
        have c0 := cell_h (k := 0) j0 rfl
        have c1 := cell_h (k := 1) j0 rfl
        have g0 := cell_h (k := 0) HGv.out rfl
        have g1 := cell_h (k := 1) HGv.out rfl
        have g2 := cell_h (k := 2) HGv.out rfl
        have gf : ∀ o, V1.frozen? ⟨G, o, none⟩ = false := fun o => by simp [World.frozen?, HGv.out]
        have hKP : ∀ V, Below V0.heap.size V0 V → V.cell? ⟨B7, 0, none⟩ = some (.bool a) ∧ V.cell? ⟨B7, 1, none⟩ = some (.slice p l k0) ∧ V.cell? ⟨B7, 2, none⟩ = some (.int .i64 e0) := fun V hV => ⟨cell_h (blk1' HP.out hV hBl7) rfl, cell_h (blk1' HP.out hV hBl7) rfl, cell_h (blk1' HP.out hV hBl7) rfl⟩
        have hd1 := HBv.out
        have hS1 := hKP V1 hd1
        obtain ⟨s0, s1, s2⟩ := id hS1
        have hg1 : Nq V1 (.agg #[.bool a7, .slice p7 n7 k7, .int .i64 e7]) (bdS f n m L k) := HNv.out
        have hlx := HLx.out
        obtain ⟨bk, hbk⟩ : ∃ x, bdS f n m L k = x := ⟨_, rfl⟩
        rw [hbk] at hg1 hfk HSt
        obtain ⟨lx, hlx2⟩ : ∃ x, L * x1 = x := ⟨_, rfl⟩
        rw [hlx2] at hlx HSt
        have HMx : Hid (∀ V u, Below V0.heap.size V0 V → Dy.Nm V u (Dy.mk x1 0) → Calls Tryz.prog 98 #[.agg #[.bool a, .slice p l k0, .int .i64 e0], u] V (Dy.Ret V fun w' v => Nq w' v lx)) := fun V u hV hu => by
          have h := HM.out V u x1 (by omega) (HB.out.trans (hV.mono HB.out.size)) hu
          rw [hlx2] at h
          exact h
        have HNa : Hid (∀ V, Below V0.heap.size V0 V → Calls Tryz.prog 66 #[.int .i64 x0] V (Dy.Ret V fun w' v => Nq w' v (x0 * 1048576))) := fun V hV => by
          have h := snumber_of V x0 (by unfold Dy.I64; omega) (HT.out.keep (HB.out.trans (hV.mono HB.out.size)))
          rw [mk20] at h
          exact h
        have HNb : Hid (∀ V, Below V0.heap.size V0 V → Calls Tryz.prog 66 #[.int .i64 x1] V (Dy.Ret V fun w' v => Dy.Nm w' v (Dy.mk x1 0))) := fun V hV => snumber_of V x1 (by unfold Dy.I64; omega) (HT.out.keep (HB.out.trans (hV.mono HB.out.size)))
        have HDa : Hid (∀ V u u', Below V0.heap.size V0 V → Nq V u (x0 * 1048576) → Nq V u' lx → Calls Tryz.prog 72 #[u, u'] V (Dy.Ret V fun w' v => Nq w' v (x0 * 1048576 - lx))) := fun V u u' hV hu hu' => HD.out V u u' (x0 * 1048576) lx (by omega) (by omega) (HB.out.trans (hV.mono HB.out.size)) hu hu'
        have HPo : Hid (∀ V u, Below V0.heap.size V0 V → Nq V u (x0 * 1048576 - lx) → Calls Tryz.prog 99 #[u] V (Dy.Ret V fun w' v => Nq w' v (max (x0 * 1048576 - lx) 0))) := fun V u hV hu => spos_of V u _ hu (HT.out.keep (HB.out.trans (hV.mono HB.out.size)))
        have HDb : Hid (∀ V u u', Below V0.heap.size V0 V → Nq V u bk → Nq V u' (max (x0 * 1048576 - lx) 0) → Calls Tryz.prog 72 #[u, u'] V (Dy.Ret V fun w' v => Nq w' v (bk - max (x0 * 1048576 - lx) 0))) := fun V u u' hV hu hu' => HD.out V u u' bk (max (x0 * 1048576 - lx) 0) (by omega) (by omega) (HB.out.trans (hV.mono HB.out.size)) hu hu'
        have hsz0 : V0.heap.size ≤ V0.heap.size := Nat.le_refl _
        have HGb : Hid (∀ V, Below V1.heap.size V1 V → V.heap[G]? = some (.cells #[.bool a7, .slice p7 n7 k7, .int .i64 e7] 75 (0, 0))) := fun V hV => blk1 HGv.out hV
        have HJb : Hid (∀ V, Below V1.heap.size V1 V → V.heap[nb]? = some (.cells #[.int .i64 x0, .int .i64 x1, .int .i64 x2, .int .i64 x3] 66 (0, 0))) := fun V hV => blk1 j0 hV
        have hb1 : Below V1.heap.size V1 V1 := Below.refl _ _
        have hd1' : Below V0.heap.size V0 V1.drew := hd1.drew
        have hb1' : Below V1.heap.size V1 V1.drew := hb1.drew
        have hg1' : Nq V1.drew (.agg #[.bool a7, .slice p7 n7 k7, .int .i64 e7]) bk := hg1
        have hS1' := hKP V1.drew hd1'
        have HKS : Hid (∀ V, Below V0.heap.size V0 V → Below V1.heap.size V1 V → V.cell? ⟨G, 0, none⟩ = some (.bool a7) ∧ V.cell? ⟨G, 1, none⟩ = some (.slice p7 n7 k7) ∧ V.cell? ⟨G, 2, none⟩ = some (.int .i64 e7) ∧ V.cell? ⟨nb, 0, none⟩ = some (.int .i64 x0) ∧ V.cell? ⟨nb, 1, none⟩ = some (.int .i64 x1) ∧ V.cell? ⟨B7, 0, none⟩ = some (.bool a) ∧ V.cell? ⟨B7, 1, none⟩ = some (.slice p l k0) ∧ V.cell? ⟨B7, 2, none⟩ = some (.int .i64 e0)) := fun V hV hq => ⟨cell_h (HGb.out V hq) rfl, cell_h (HGb.out V hq) rfl, cell_h (HGb.out V hq) rfl, cell_h (HJb.out V hq) rfl, cell_h (HJb.out V hq) rfl, (hKP V hV).1, (hKP V hV).2.1, (hKP V hV).2.2⟩
        have hF1 : ∀ f, Fence.wide.fn f := fun _ => trivial
        refine (wpIn_wide (n := 5)).1 ?_
        refine wpIn_region_T 12 (fun W2 : World => W2.cell? ⟨G, 0, none⟩ = some (.bool a7) ∧ W2.cell? ⟨G, 1, none⟩ = some (.slice p7 n7 k7) ∧ W2.cell? ⟨G, 2, none⟩ = some (.int .i64 e7) ∧ W2.cell? ⟨nb, 0, none⟩ = some (.int .i64 x0) ∧ W2.cell? ⟨nb, 1, none⟩ = some (.int .i64 x1) ∧ W2.cell? ⟨B7, 0, none⟩ = some (.bool a) ∧ W2.cell? ⟨B7, 1, none⟩ = some (.slice p l k0) ∧ W2.cell? ⟨B7, 2, none⟩ = some (.int .i64 e0)) (by kernel_rfl) ?_
        change anyT _ _ _ _ _ _ _ _ 13 (Array.replicate 13 false) _ _
        have hdd : Below V0.heap.size V0 V1.drew := hd1.drew
        have hqd : Below V1.heap.size V1 V1.drew := hb1.drew
        have hgd : Nq V1.drew (.agg #[.bool a7, .slice p7 n7 k7, .int .i64 e7]) bk := hg1
        generalize V1.drew = Wd at hdd hqd hgd ⊢
        have hS0 := HKS.out Wd hdd hqd
        refine anyT_takeD hF1 0 28 (v := ?_) rfl rfl (by kernel_rfl) (by kernel_rfl) (by kernel_rfl) (by kernel_rfl) (by kernel_rfl) (fun _ _ _ h => h) hS0 rfl ?_ ?_
        rotate_left
        · intro W2 hSw; obtain ⟨r0, r1, r2, r3, r4, r5, r6, r7⟩ := hSw; go_simp; try with_reducible rfl
        simp only [List.setIfInBounds_toArray, List.set_cons_zero, List.set_cons_succ]
        refine anyT_takeD hF1 1 29 (v := ?_) rfl rfl (by kernel_rfl) (by kernel_rfl) (by kernel_rfl) (by kernel_rfl) (by kernel_rfl) (fun _ _ _ h => h) hS0 rfl ?_ ?_
        rotate_left
        · intro W2 hSw; obtain ⟨r0, r1, r2, r3, r4, r5, r6, r7⟩ := hSw; go_simp; try with_reducible rfl
        simp only [List.setIfInBounds_toArray, List.set_cons_zero, List.set_cons_succ]
        refine anyT_takeD hF1 2 30 (v := ?_) rfl rfl (by kernel_rfl) (by kernel_rfl) (by kernel_rfl) (by kernel_rfl) (by kernel_rfl) (fun _ _ _ h => h) hS0 rfl ?_ ?_
        rotate_left
        · intro W2 hSw; obtain ⟨r0, r1, r2, r3, r4, r5, r6, r7⟩ := hSw; go_simp; try with_reducible rfl
        simp only [List.setIfInBounds_toArray, List.set_cons_zero, List.set_cons_succ]
        refine anyT_takeD hF1 4 32 (v := ?_) rfl rfl (by kernel_rfl) (by kernel_rfl) (by kernel_rfl) (by kernel_rfl) (by kernel_rfl) (fun _ _ _ h => h) hS0 rfl ?_ ?_
        rotate_left
        · intro W2 hSw; obtain ⟨r0, r1, r2, r3, r4, r5, r6, r7⟩ := hSw; go_simp; try with_reducible rfl
        simp only [List.setIfInBounds_toArray, List.set_cons_zero, List.set_cons_succ]
        refine anyT_takeD hF1 5 33 (v := ?_) rfl rfl (by kernel_rfl) (by kernel_rfl) (by kernel_rfl) (by kernel_rfl) (by kernel_rfl) (fun _ _ _ h => h) hS0 rfl ?_ ?_
        rotate_left
        · intro W2 hSw; obtain ⟨r0, r1, r2, r3, r4, r5, r6, r7⟩ := hSw; go_simp; try with_reducible rfl
        simp only [List.setIfInBounds_toArray, List.set_cons_zero, List.set_cons_succ]
        refine anyT_takeD hF1 6 34 (v := ?_) rfl rfl (by kernel_rfl) (by kernel_rfl) (by kernel_rfl) (by kernel_rfl) (by kernel_rfl) (fun _ _ _ h => h) hS0 rfl ?_ ?_
        rotate_left
        · intro W2 hSw; obtain ⟨r0, r1, r2, r3, r4, r5, r6, r7⟩ := hSw; go_simp; try with_reducible rfl
        simp only [List.setIfInBounds_toArray, List.set_cons_zero, List.set_cons_succ]
        refine anyT_call hF1 (fun h => absurd h (by decide)) 3 31 (w := Wd) rfl rfl (by kernel_rfl) (by kernel_rfl) (by rfl) (by go_simp; try with_reducible rfl) (callsIn_wide.2 (HNa.out _ hdd)) ?_
        rintro e9 V2 ⟨v2, rfl, hv2, hb2⟩
        have hdd := lowB (B := V0.heap.size) hdd.size hdd hb2
        have hqd := low_trans hqd hb2
        replace hS0 := HKS.out V2 hdd hqd
        have hgd := Nq.keep hgd hb2
        obtain ⟨b2, q2, l2, c2, f2, m2, rfl, _, _⟩ := id (Dy.Nm.fields hv2)
        refine ⟨_, rfl, hS0, ?_⟩
        simp only [List.setIfInBounds_toArray, List.set_cons_zero, List.set_cons_succ]
        refine anyT_call hF1 (fun h => absurd h (by decide)) 7 35 (w := V2) rfl rfl (by kernel_rfl) (by kernel_rfl) (by rfl) (by go_simp; try with_reducible rfl) (callsIn_wide.2 (HNb.out _ hdd)) ?_
        rintro e9 V3 ⟨v3, rfl, hv3, hb3⟩
        have hdd := lowB (B := V0.heap.size) hdd.size hdd hb3
        have hqd := low_trans hqd hb3
        replace hS0 := HKS.out V3 hdd hqd
        have hgd := Nq.keep hgd hb3
        have hv2 := Nq.keep hv2 hb3
        obtain ⟨b3, q3, l3, c3, f3, m3, rfl, _, _⟩ := id (Dy.Nm.fields hv3)
        refine ⟨_, rfl, hS0, ?_⟩
        simp only [List.setIfInBounds_toArray, List.set_cons_zero, List.set_cons_succ]
        refine anyT_call hF1 (fun h => absurd h (by decide)) 8 36 (w := V3) rfl rfl (by kernel_rfl) (by kernel_rfl) (by rfl) (by go_simp; try with_reducible rfl) (callsIn_wide.2 (HMx.out _ _ hdd hv3)) ?_
        rintro e9 V4 ⟨v4, rfl, hv4, hb4⟩
        have hdd := lowB (B := V0.heap.size) hdd.size hdd hb4
        have hqd := low_trans hqd hb4
        replace hS0 := HKS.out V4 hdd hqd
        have hgd := Nq.keep hgd hb4
        have hv2 := Nq.keep hv2 hb4
        obtain ⟨b4, q4, l4, c4, f4, m4, rfl, _, _⟩ := id (Dy.Nm.fields hv4)
        refine ⟨_, rfl, hS0, ?_⟩
        simp only [List.setIfInBounds_toArray, List.set_cons_zero, List.set_cons_succ]
        refine anyT_call hF1 (fun h => absurd h (by decide)) 9 37 (w := V4) rfl rfl (by kernel_rfl) (by kernel_rfl) (by rfl) (by go_simp; try with_reducible rfl) (callsIn_wide.2 (HDa.out _ _ _ hdd hv2 hv4)) ?_
        rintro e9 V5 ⟨v5, rfl, hv5, hb5⟩
        have hdd := lowB (B := V0.heap.size) hdd.size hdd hb5
        have hqd := low_trans hqd hb5
        replace hS0 := HKS.out V5 hdd hqd
        have hgd := Nq.keep hgd hb5
        obtain ⟨b5, q5, l5, c5, f5, m5, rfl, _, _⟩ := id (Dy.Nm.fields hv5)
        refine ⟨_, rfl, hS0, ?_⟩
        simp only [List.setIfInBounds_toArray, List.set_cons_zero, List.set_cons_succ]
        refine anyT_call hF1 (fun h => absurd h (by decide)) 10 38 (w := V5) rfl rfl (by kernel_rfl) (by kernel_rfl) (by rfl) (by go_simp; try with_reducible rfl) (callsIn_wide.2 (HPo.out _ _ hdd hv5)) ?_
        rintro e9 V6 ⟨v6, rfl, hv6, hb6⟩
        have hdd := lowB (B := V0.heap.size) hdd.size hdd hb6
        have hqd := low_trans hqd hb6
        replace hS0 := HKS.out V6 hdd hqd
        have hgd := Nq.keep hgd hb6
        obtain ⟨b6, q6, l6, c6, f6, m6, rfl, _, _⟩ := id (Dy.Nm.fields hv6)
        refine ⟨_, rfl, hS0, ?_⟩
        simp only [List.setIfInBounds_toArray, List.set_cons_zero, List.set_cons_succ]
        refine anyT_call hF1 (fun h => absurd h (by decide)) 11 39 (w := V6) rfl rfl (by kernel_rfl) (by kernel_rfl) (by rfl) (by go_simp; try with_reducible rfl) (callsIn_wide.2 (HDb.out _ _ _ hdd hgd hv6)) ?_
        rintro e9 V7 ⟨v7, rfl, hv7, hb7⟩
        have hdd := lowB (B := V0.heap.size) hdd.size hdd hb7
        have hqd := low_trans hqd hb7
        replace hS0 := HKS.out V7 hdd hqd
        obtain ⟨b7, q7, l7, c7, f7, m7, rfl, _, _⟩ := id (Dy.Nm.fields hv7)
        refine ⟨_, rfl, hS0, ?_⟩
        simp only [List.setIfInBounds_toArray, List.set_cons_zero, List.set_cons_succ]
        obtain ⟨r0, r1, r2, _⟩ := hS0
        have rf : ∀ o, V7.frozen? ⟨G, o, none⟩ = false := fun o => by simp [World.frozen?, HGb.out V7 hqd]
        have HN9 := Lib.hid (num_store (HGb.out V7 hqd) hv7)
        have HB9 := Lib.hid (Dy.below_set3 (b := .slice q7 l7 c7) (a := .bool b7) (c := .int .i64 f7) (i := 0) (j := 1) (k := 2) hdd hGs)
        refine anyT_skipN hF1 (w2 := ((V7.setCell ⟨G, 0, none⟩ (.bool b7)).setCell ⟨G, 1, none⟩ (.slice q7 l7 c7)).setCell ⟨G, 2, none⟩ (.int .i64 f7)) rfl rfl (by kernel_rfl) (by kernel_rfl) rfl (by go_simp; try with_reducible rfl) ?_
        refine anyT_done (by kernel_rfl) ?_ _
        generalize ((V7.setCell ⟨G, 0, none⟩ (.bool b7)).setCell ⟨G, 1, none⟩ (.slice q7 l7 c7)).setCell ⟨G, 2, none⟩ (.int .i64 f7) = V9 at HN9 HB9 ⊢
        clear hKP hS1 hg1 HGb HJb hb1 HKS hgd hv7 hdd hqd r0 r1 r2 rf
        go_wp2_with fail
        exact ⟨⟨k + 1, by omega, by go_num, b7, q7, l7, c7, f7, HN9.out.1, by rw [HSt.out]; exact HN9.out.2, HB9.out⟩, by simp [intOf]; omega⟩
      · obtain rfl : k = n := by omega
        have g0 := cell_h (k := 0) HG.out rfl
        have g1 := cell_h (k := 1) HG.out rfl
        have g2 := cell_h (k := 2) HG.out rfl
        have HZr : Hid (Zb wr (B7 + 1)) := blk1 HR.out HBr.out
        have hZl : B7 + 1 < wr.heap.size := (Array.getElem?_eq_some_iff.1 HZr.out).1
        have HBw := Lib.hid (lowB HB.out.size HB.out HBr.out)
        have hEnd := HEnd.out
        generalize bdS f k m L k = bk at HN hEnd hfk
        go_wp2_with fail
        refine (spos_of wr _ bk HN.out (HT.out.keep HBw.out)).mono ?_
        rintro e9 V7 ⟨v7, rfl, hv7, hb7⟩
        rw [hEnd] at hv7
        obtain ⟨b7, q7, l7, c7, f7, m7, rfl, _, _⟩ := id (Dy.Nm.fields hv7)
        have hZ7 := HZr.out.keep hb7
        have z0 := cell_h (k := 0) hZ7 rfl
        have z1 := cell_h (k := 1) hZ7 rfl
        have z2 := cell_h (k := 2) hZ7 rfl
        have zf := hZ7.fr
        have HQ := Lib.hid (fun W9 h9 => hZ7.laid hv7 w (lowB HBw.out.size HBw.out hb7) (by rw [HB7.out]; omega) (W9 := W9) h9)
        clear hv7 hb7 hZ7 g0 g1 g2 HG HN
        go_wp2_with fail
        generalize h9 : ((V7.setCell ⟨B7 + 1, 0, none⟩ (.bool b7)).setCell ⟨B7 + 1, 1, none⟩ (.slice q7 l7 c7)).setCell ⟨B7 + 1, 2, none⟩ (.int .i64 f7) = W9
        obtain ⟨q1, q2, q3⟩ := HQ.out W9 h9
        have y0 := cell_h (k := 0) q1 rfl
        have y1 := cell_h (k := 1) q1 rfl
        have y2 := cell_h (k := 2) q1 rfl
        exact bodyPost_ret (v := .agg #[.bool b7, .slice q7 l7 c7, .int .i64 f7]) (by simp [results, Tryz.results64, go_sem, y0, y1, y2]) rfl ⟨_, rfl, q2, q3⟩
end Go.Proofs.YtlphlbgbbblnpaaGreatDoor
