/-
  WALKS: the law of TopPlan.
-/
import Derived.Test.YtlphlbgbbblnpaaGreatDoorStL
import Derived.Test.YtlphlbgbbblnpaaGreatDoorStM
import Derived.Test.YtlphlbgbbblnpaaGreatDoorDyK
namespace Go.Proofs.YtlphlbgbbblnpaaGreatDoor
open Go.RowKit

/-- What stays while the calls of TopPlan follow each other. -/
structure TpS (W w : World) (x : Option Addr) (n : Nat) (f : Nat → Int) : Prop where
  bel : Below W.heap.size W w
  sl : Sl w 4 x n f
theorem TpS.keep {W w w' : World} {x : Option Addr} {n : Nat} {f : Nat → Int} (h : TpS W w x n f) (hb : Below w.heap.size w w') : TpS W w' x n f := ⟨low_trans h.bel hb, h.sl.keep (by decide) hb⟩
theorem whole_q (w : World) (n : Int) (h : -1099511627776 < n ∧ n < 1099511627776) (hT : Dy.Tab w) : Calls Tryz.prog 35 #[.int .i64 n] w (Dy.Ret w fun w' v => Nq w' v (n * 1048576)) := by
  have h2 := Dy.whole_of w n (by unfold Dy.I64; omega) hT
  rw [mk20] at h2
  exact h2
theorem cmp_q (w : World) (v1 v2 : Value) (x y : Int) (h1 : Nq w v1 x) (h2 : Nq w v2 y) (hx : -1152921504606846976 < x ∧ x < 1152921504606846976) (hy : -1152921504606846976 < y ∧ y < 1152921504606846976) (hge : y ≤ x) (hT : Dy.Tab w) :
    Calls Tryz.prog 26 #[v1, v2] w fun e w' => (∃ s : Int, 0 ≤ s ∧ e = .returned (.int .i64 s)) ∧ Below w.heap.size w w' := by
  refine (Dy.cmp_nm w v1 v2 _ _ 60 20 60 20 h1 h2 (bx20 hx) (bx20 hy) (by omega) hT).mono ?_
  rintro e w' ⟨rfl, hb⟩
  refine ⟨⟨_, ?_, rfl⟩, hb⟩
  rw [mk_sub]
  have := (sgn_mkE (x - y) (-20)).1
  omega

set_option maxRecDepth 100000 in
set_option maxHeartbeats 16000000 in
theorem topPlan_law (W : World) (aa pp : Option Addr) (ln pn lc pc : Nat) (g p : Nat → Int) (xc xd xp : Int) (hl : By W aa 4 ln g) (hp : By W pp 3 pn p) (hg : ∀ i, i < ln * 4 → 0 ≤ g i ∧ g i ≤ 255) (hpv : ∀ i, i < pn * 3 → 0 ≤ p i ∧ p i ≤ 255)
    (hc : IntKind.u8.min ≤ xc ∧ xc ≤ IntKind.u8.max) (hd : IntKind.u8.min ≤ xd ∧ xd ≤ IntKind.u8.max) (hq : IntKind.u8.min ≤ xp ∧ xp ≤ IntKind.u8.max) (hln : ln ≤ maxLen) (hpn : pn ≤ maxLen) (hT : Dy.Tab W) :
    Calls Tryz.prog 8 #[.slice aa ln lc, .int .u8 xc, .int .u8 xd, .slice pp pn pc, .int .u8 xp] W fun e W' => e = .returned (.bool true) ∧ Below W.heap.size W W' := by
  have hc' : 0 ≤ xc ∧ xc ≤ 255 := hc
  have hd' : 0 ≤ xd ∧ xd ≤ 255 := hd
  have hq' : 0 ≤ xp ∧ xp ≤ 255 := hq
  have hmx : maxLen = 9223372036854775807 := rfl
  have hl2 : (ln : Int) ≤ 9223372036854775807 := by omega
  have hp2 : (pn : Int) ≤ 9223372036854775807 := by omega
  clear hc hd hq hln hpn hmx
  have HL := Lib.hid hl
  have HP := Lib.hid hp
  have HG := Lib.hid hg
  have HPv := Lib.hid hpv
  have HT := Lib.hid hT
  clear hl hp hg hpv hT
  by_cases h5 : ln ≤ 5 ∧ pn ≤ 5
  rotate_left
  · rcases (by omega : 5 < ln ∨ (ln ≤ 5 ∧ 5 < pn)) with h | ⟨h1, h2⟩
    all_goals
      go_enter Tryz.func8, Tryz.ntmps8
      go_wp2_with fail
      refine (Dy.adds_of _ HT.out).mono ?_
      rintro e w' ⟨rfl, hb⟩
      have HB := Lib.hid hb
      clear hb
      go_wp2_with fail
      go_ret
      exact ⟨rfl, HB.out⟩
  obtain ⟨h5l, h5p⟩ := h5
  go_enter Tryz.func8, Tryz.ntmps8
  go_wp2_with fail
  obtain ⟨i0, hi, hz0, hz1, hz2⟩ := info_parts x_job
  go_loopw [11, 41] (fun v vi wr => ∃ k : Nat, k ≤ ln ∧ vi = .int .i64 k ∧ Hid (wr.ownsRow W.heap.size 66 4 v k (rowI (tpF g) (k * 4))) ∧ Hid (Below W.heap.size W wr)) (fun _ vi _ => ln - (intOf vi).toNat)
  case atStart => exact ⟨0, by omega, rfl, ⟨rfl, .inl ⟨rfl, rfl⟩⟩, Below.refl _ _⟩
  case round =>
    obtain ⟨k, hk, rfl, HR, HB⟩ := hrel
    by_cases hlt : k < ln
    · obtain ⟨b4, o4, rfl, hI4⟩ := (HL.out.keep (by decide) HB.out) (by omega)
      have d0 := hI4 (k * 4) (by omega)
      have d1 := hI4 (k * 4 + 1) (by omega)
      have d2 := hI4 (k * 4 + 2) (by omega)
      have d3 := hI4 (k * 4 + 3) (by omega)
      rw [← Nat.add_assoc] at d1 d2 d3
      have y0 := HG.out (k * 4) (by omega)
      have y1 := HG.out (k * 4 + 1) (by omega)
      have y2 := HG.out (k * 4 + 2) (by omega)
      have y3 := HG.out (k * 4 + 3) (by omega)
      obtain ⟨e0, e1, e2, e3⟩ := tpF_at g k
      have hrow := rowI_four (tpF g) k
      rw [e0, e1, e2, e3] at hrow
      have HRow := Lib.hid hrow
      clear hI4 e0 e1 e2 e3 hrow
      generalize g (k * 4) = z0 at d0 y0 HRow
      generalize g (k * 4 + 1) = z1 at d1 y1 HRow
      generalize g (k * 4 + 2) = z2 at d2 y2 HRow
      generalize g (k * 4 + 3) = z3 at d3 y3 HRow
      have hbl : b4 < wr.heap.size := World.block_lt_of_cell? _ _ d0
      have r1 : z1 % 20 = z1 % 20 := rfl
      have hsz := HB.out.size
      go_wp2_with (at_builtin; refine wpList_append_own _ rfl _ _ 63 rfl W.heap.size 66 i0 (.agg #[.int .i64 0, .int .i64 0, .int .i64 0, .int .i64 0]) 4 32 Tryz.underlying63 hi hz0 hz1 hz2 rfl (by decide) _ k _ rfl ((HR.out.alloc _).alloc _) ⟨wr.heap.size + 1, 0, none⟩ 1 1 [.int .i64 (10 * z0), .int .i64 (1 + z1 % 20), .int .i64 (z2 % 20), .int .i64 z3] rfl rfl (by have := cells_four (wr.alloc (.cells #[.int .u8 z0, .int .u8 z1, .int .u8 z2, .int .u8 z3] 64)) (.int .i64 (10 * z0)) (.int .i64 (1 + z1 % 20)) (.int .i64 (z2 % 20)) (.int .i64 z3) 66; rwa [World.size_alloc] at this) (by simp [Value.oneCell']) (by unfold maxLen; omega) (by omega) (by simp; omega) ?_; intro v2 w3 hown hgrow _)
      exact ⟨⟨k + 1, by omega, by go_num, by rw [HRow.out]; exact hown, ((HB.out.alloc HB.out.size _).alloc (by simp; omega) _).grown hgrow (by simp; omega) (fun j hj => (HR.out.lt j hj).1)⟩, by simp [intOf]; omega⟩
    · obtain rfl : k = ln := by omega
      obtain ⟨x, cx, rfl, hcx, hx⟩ := own_ints HR.out
      have HS : Hid (TpS W wr x k (tpF g)) := ⟨HB.out, hx⟩
      obtain ⟨r1, hr1⟩ : ∃ r : Nat, xc % 4 = (r : Int) := ⟨(xc % 4).toNat, by omega⟩
      obtain ⟨C, hC⟩ : ∃ C : Nat, 1 + (r1 : Int) = (C : Int) := ⟨1 + r1, by omega⟩
      obtain ⟨N, hN⟩ : ∃ N : Nat, xd % 60 = (N : Int) := ⟨(xd % 60).toNat, by omega⟩
      have HJ : Hid (jsE (tpF g) k C N = 0) := tpF_ok (by omega) (by omega) (by omega) HG.out
      have hkL : k ≤ 19 := by omega
      clear hx HR HB
      go_wp2_with fail
      refine (sPrice_of wr x k cx (tpF g) C N HJ.out HS.out.sl (HT.out.keep HS.out.bel)).mono ?_
      rintro e W2 ⟨v2, e2, rfl, ⟨rfl, L, hL, hv2⟩, hb⟩
      replace HS := Lib.hid (HS.out.keep hb)
      obtain ⟨b2, q2, l2, c2, f2, m2, rfl, _, _⟩ := id (Dy.Nm.fields hv2)
      have HNL := Lib.hid hv2
      clear hv2 hb
      go_upto_region 11 with fail
      obtain ⟨W3, hW⟩ : ∃ W, W2.alloc (.cells #[.bool b2, .slice q2 l2 c2, .int .i64 f2] 75) = W := ⟨_, rfl⟩
      rw [hW]
      have hb : Below W2.heap.size W2 W3 := by rw [← hW]; exact (Below.refl _ _).alloc (Nat.le_refl _) _
      have hR : W3.heap[W2.heap.size]? = some (.cells #[.bool b2, .slice q2 l2 c2, .int .i64 f2] 75 (0, 0)) := by rw [← hW]; exact World.alloc_heap_new W2 _
      obtain ⟨Ta, hG⟩ : ∃ b, W2.heap.size = b := ⟨_, rfl⟩
      rw [hG] at hR
      rw [hG]
      replace HS := Lib.hid ((HS.out).keep hb)
      replace HNL := Lib.hid (Nq.keep HNL.out hb)
      have HTa := Lib.hid hR
      clear hW hb hR hG
      have s0 := cell_h (k := 0) HTa.out rfl
      have s1 := cell_h (k := 1) HTa.out rfl
      have s2 := cell_h (k := 2) HTa.out rfl
      go_wp2_with fail
      refine (sBound_of W3 x k cx (tpF g) C N L _ HJ.out hL HS.out.sl HNL.out (HT.out.keep HS.out.bel)).mono ?_
      rintro e W4 ⟨v3, e3, rfl, ⟨rfl, hv3⟩, hb⟩
      obtain ⟨b3, q3, l3, c3, f3, m3, rfl, _, _⟩ := id (Dy.Nm.fields hv3)
      replace HS := Lib.hid ((HS.out).keep hb)
      replace HNL := Lib.hid (Nq.keep HNL.out hb)
      replace HTa := Lib.hid (blk1 HTa.out hb)
      have HN1 := Lib.hid hv3
      clear hv3 hb s0 s1 s2
      go_upto_region 12 with fail
      obtain ⟨W5, hW⟩ : ∃ W, W4.alloc (.cells #[.bool b3, .slice q3 l3 c3, .int .i64 f3] 75) = W := ⟨_, rfl⟩
      rw [hW]
      have hb : Below W4.heap.size W4 W5 := by rw [← hW]; exact (Below.refl _ _).alloc (Nat.le_refl _) _
      have hR : W5.heap[W4.heap.size]? = some (.cells #[.bool b3, .slice q3 l3 c3, .int .i64 f3] 75 (0, 0)) := by rw [← hW]; exact World.alloc_heap_new W4 _
      obtain ⟨U, hG⟩ : ∃ b, W4.heap.size = b := ⟨_, rfl⟩
      rw [hG] at hR
      rw [hG]
      replace HS := Lib.hid ((HS.out).keep hb)
      replace HNL := Lib.hid (Nq.keep HNL.out hb)
      replace HTa := Lib.hid (blk1 HTa.out hb)
      replace HN1 := Lib.hid (Nq.keep HN1.out hb)
      have HU := Lib.hid hR
      clear hW hb hR hG
      go_wp2_with fail
      refine (whole_q W5 xp (by omega) (HT.out.keep HS.out.bel)).mono ?_
      rintro e W6 ⟨v4, rfl, hv4, hb⟩
      obtain ⟨b4, q4, l4, c4, f4, m4, rfl, _, _⟩ := id (Dy.Nm.fields hv4)
      replace HS := Lib.hid ((HS.out).keep hb)
      replace HNL := Lib.hid (Nq.keep HNL.out hb)
      replace HTa := Lib.hid (blk1 HTa.out hb)
      replace HN1 := Lib.hid (Nq.keep HN1.out hb)
      replace HU := Lib.hid (blk1 HU.out hb)
      have HNp := Lib.hid hv4
      clear hv4 hb
      go_wp2_with fail
      refine (sBound_of W6 x k cx (tpF g) C N (xp * 1048576) _ HJ.out (by omega) HS.out.sl HNp.out (HT.out.keep HS.out.bel)).mono ?_
      rintro e W7 ⟨v5, e5, rfl, ⟨rfl, hv5⟩, hb⟩
      obtain ⟨b5, q5, l5, c5, f5, m5, rfl, _, _⟩ := id (Dy.Nm.fields hv5)
      replace HS := Lib.hid ((HS.out).keep hb)
      replace HNL := Lib.hid (Nq.keep HNL.out hb)
      replace HTa := Lib.hid (blk1 HTa.out hb)
      replace HN1 := Lib.hid (Nq.keep HN1.out hb)
      replace HU := Lib.hid (blk1 HU.out hb)
      have HN2 := Lib.hid hv5
      clear hv5 hb HNp
      go_upto_region 13 with fail
      obtain ⟨W8, hW⟩ : ∃ W, W7.alloc (.cells #[.bool b5, .slice q5 l5 c5, .int .i64 f5] 75) = W := ⟨_, rfl⟩
      rw [hW]
      have hb : Below W7.heap.size W7 W8 := by rw [← hW]; exact (Below.refl _ _).alloc (Nat.le_refl _) _
      have hR : W8.heap[W7.heap.size]? = some (.cells #[.bool b5, .slice q5 l5 c5, .int .i64 f5] 75 (0, 0)) := by rw [← hW]; exact World.alloc_heap_new W7 _
      obtain ⟨K, hG⟩ : ∃ b, W7.heap.size = b := ⟨_, rfl⟩
      rw [hG] at hR
      rw [hG]
      replace HS := Lib.hid ((HS.out).keep hb)
      replace HNL := Lib.hid (Nq.keep HNL.out hb)
      replace HTa := Lib.hid (blk1 HTa.out hb)
      replace HN1 := Lib.hid (Nq.keep HN1.out hb)
      replace HU := Lib.hid (blk1 HU.out hb)
      replace HN2 := Lib.hid (Nq.keep HN2.out hb)
      have HK := Lib.hid hR
      clear hW hb hR hG
      go_wp2_with fail
      refine (greedy_of W8 x k cx (tpF g) C N hkL HJ.out HS.out.sl).mono ?_
      rintro e W9 ⟨y, cy, rfl, hcy, hy, hb⟩
      have hfit := gr_fit (R := jbs (tpF g)) (C := C) (N := N) (o := isort (lessR (tpF g)) k fun i => i) (n := k) (by omega) ((isP_id k).isort (Nat.le_refl k)) (k := k) (Nat.le_refl k)
      have hlen := gr_len (R := jbs (tpF g)) (o := isort (lessR (tpF g)) k fun i => i) (C := C) (N := N) k
      have hE1 := fit_ok (l := grl (tpF g) k C N) HJ.out hfit.1 (fun s hs => by
        obtain ⟨⟨i, hi, hi2⟩, _⟩ := hfit.2.1 s hs
        rw [hi2]
        exact ((isP_id k).isort (lt := lessR (tpF g)) (Nat.le_refl k)).1 i hi)
      have hlen2 : (grl (tpF g) k C N).length ≤ k := hlen
      generalize grl (tpF g) k C N = gl at hy hcy hE1 hlen2 ⊢
      clear hfit hlen
      replace HS := Lib.hid ((HS.out).keep hb)
      replace HNL := Lib.hid (Nq.keep HNL.out hb)
      replace HTa := Lib.hid (blk1 HTa.out hb)
      replace HN1 := Lib.hid (Nq.keep HN1.out hb)
      replace HU := Lib.hid (blk1 HU.out hb)
      replace HN2 := Lib.hid (Nq.keep HN2.out hb)
      replace HK := Lib.hid (blk1 HK.out hb)
      have HY := Lib.hid hy
      have HE1 := Lib.hid hE1
      clear hy hb hE1
      go_wp2_with fail
      refine (sleft_of W9 x y k cx gl.length cy (tpF g) (sf gl) C N HJ.out (by omega) hcy HS.out.sl HY.out).mono ?_
      rintro e W10 ⟨rfl, hb⟩
      have hlv : lfV (tpF g) (sf gl) k gl.length C N = rsk (tpF g) k - tkn (tpF g) (sf gl) gl.length := by unfold lfV; rw [if_pos HE1.out]
      rw [hlv, HE1.out]
      obtain ⟨Ln, hLn⟩ : ∃ l : Nat, L = (l : Int) := ⟨L.toNat, by omega⟩
      obtain ⟨Pn, hPn⟩ : ∃ l : Nat, xp = (l : Int) := ⟨xp.toNat, by omega⟩
      have g1 := plan_ge (f := tpF g) (g := sf gl) (n := k) (p := gl.length) HJ.out HE1.out Ln 1048576
      have g2 := plan_ge (f := tpF g) (g := sf gl) (n := k) (p := gl.length) HJ.out HE1.out (Pn * 1048576) 1048576
      have f1 := bdI_fits (L := L) HJ.out hL
      have f2 := bdI_fits (L := xp * 1048576) HJ.out (by omega)
      have HGe := Lib.hid (fun (p : Nat) (g' : Nat → Int) (h : lfE (tpF g) g' k p C N = 0) => And.intro (plan_ge (f := tpF g) (g := g') (n := k) (p := p) HJ.out h Ln 1048576) (plan_ge (f := tpF g) (g := g') (n := k) (p := p) HJ.out h (Pn * 1048576) 1048576))
      rw [← hLn] at g1
      rw [Int.natCast_mul, ← hPn] at g2
      simp only [Int.natCast_mul, ← hLn, ← hPn] at HGe
      rw [show (((1048576 : Nat)) : Int) = 1048576 from rfl] at g1 g2
      simp only [show (((1048576 : Nat)) : Int) = 1048576 from rfl] at HGe
      have hrk : 0 ≤ rsk (tpF g) k ∧ rsk (tpF g) k ≤ 12750 := by
        unfold rsk
        have hF := (jok_of HJ.out).2.2.2
        refine ⟨si_nn fun i hi => (hF i hi).1.1, ?_⟩
        have h1 : si k (fun i => tpF g (i * 4)) ≤ si k (fun _ => (2550 : Int)) := si_le fun i hi => by
          have h2 := HG.out (i * 4) (by omega)
          have h3 := (tpF_at g i).1
          omega
        have h2 : ∀ n : Nat, si n (fun _ => (2550 : Int)) = 2550 * n := fun n => by
          induction n with
          | zero => rfl
          | succ n ih => simp only [si, ih]; push_cast; omega
        rw [h2] at h1; omega
      have htk : 0 ≤ tkn (tpF g) (sf gl) gl.length := by
        unfold tkn
        have hF := (jok_of HJ.out).2.2.2
        have hs := sok_of HE1.out
        exact si_nn fun i hi => (hF _ (by have := (hs i hi).1; omega)).1.1
      generalize bdI (tpF g) k C N L 1048576 = B1 at g1 f1 HN1 HGe
      generalize bdI (tpF g) k C N (xp * 1048576) 1048576 = B2 at g2 f2 HN2 HGe
      obtain ⟨lf, hlf⟩ : ∃ l, rsk (tpF g) k - tkn (tpF g) (sf gl) gl.length = l := ⟨_, rfl⟩
      rw [hlf] at g1 g2
      have hlb : 0 ≤ lf ∧ lf ≤ 12750 := by omega
      rw [hlf]
      clear hlv hlf htk hLn hPn HY
      replace HS := Lib.hid ((HS.out).keep hb)
      replace HNL := Lib.hid (Nq.keep HNL.out hb)
      replace HTa := Lib.hid (blk1 HTa.out hb)
      replace HN1 := Lib.hid (Nq.keep HN1.out hb)
      replace HU := Lib.hid (blk1 HU.out hb)
      replace HN2 := Lib.hid (Nq.keep HN2.out hb)
      replace HK := Lib.hid (blk1 HK.out hb)
      clear hb
      go_upto_region 15 with fail
      have hmx5 : ∀ w : World, (Builtin.max_ #[30, 30, 30, 30, 30] 30 #[.int .i64 0, .int .i64 0, .int .i64 0, .int .i64 0, .int .i64 0]).run Tryz.prog w = .ok (.int .i64 0) w := fun _ => by kernel_rfl
      have hu : (undef : Value) = .tuple #[] := rfl
      have hKP : ∀ V, Below W10.heap.size W10 V → V.cell? ⟨U, 0, none⟩ = some (.bool b3) ∧ V.cell? ⟨U, 1, none⟩ = some (.slice q3 l3 c3) ∧ V.cell? ⟨U, 2, none⟩ = some (.int .i64 f3) ∧ V.cell? ⟨K, 0, none⟩ = some (.bool b5) ∧ V.cell? ⟨K, 1, none⟩ = some (.slice q5 l5 c5) ∧ V.cell? ⟨K, 2, none⟩ = some (.int .i64 f5) := fun V hV => ⟨cell_h (blk1 HU.out hV) rfl, cell_h (blk1 HU.out hV) rfl, cell_h (blk1 HU.out hV) rfl, cell_h (blk1 HK.out hV) rfl, cell_h (blk1 HK.out hV) rfl, cell_h (blk1 HK.out hV) rfl⟩
      have hd0 : Below W10.heap.size W10 W10 := Below.refl _ _
      have hd1 : Below W10.heap.size W10 W10.drew := hd0.drew
      have hS0 := hKP W10 hd0
      have hS1 := hKP W10.drew hd1
      obtain ⟨x0, x1, x2, x3, x4, x5⟩ := id hS0
      have HWl : Hid (∀ V, Below W10.heap.size W10 V → Calls Tryz.prog 35 #[.int .i64 lf] V (Dy.Ret V fun w' v => Nq w' v (lf * 1048576))) := fun V hV => whole_q V lf (by omega) (HT.out.keep (low_trans HS.out.bel hV))
      have HC : Hid (∀ V u v (y : Int), Below W10.heap.size W10 V → Nq V u (lf * 1048576) → Nq V v y → (-1152921504606846976 < y ∧ y ≤ lf * 1048576) → Calls Tryz.prog 26 #[u, v] V fun e w' => (∃ s : Int, 0 ≤ s ∧ e = .returned (.int .i64 s)) ∧ Below V.heap.size V w') := fun V u v y hV hu hv hy => cmp_q V u v (lf * 1048576) y hu hv (by omega) (by omega) hy.2 (HT.out.keep (low_trans HS.out.bel hV))
      have hN1 : Nq W10 (.agg #[.bool b3, .slice q3 l3 c3, .int .i64 f3]) B1 := HN1.out
      have hN2 : Nq W10 (.agg #[.bool b5, .slice q5 l5 c5, .int .i64 f5]) B2 := HN2.out
      go_region_held3 (fun W2 => W2.cell? ⟨U, 0, none⟩ = some (.bool b3) ∧ W2.cell? ⟨U, 1, none⟩ = some (.slice q3 l3 c3) ∧ W2.cell? ⟨U, 2, none⟩ = some (.int .i64 f3) ∧ W2.cell? ⟨K, 0, none⟩ = some (.bool b5) ∧ W2.cell? ⟨K, 1, none⟩ = some (.slice q5 l5 c5) ∧ W2.cell? ⟨K, 2, none⟩ = some (.int .i64 f5))
        (first | (with_reducible assumption) | (exact hKP _ (by assumption)))
        (first
          | (go_at_call 35; refine (HWl.out _ (by first | assumption | exact Below.drew (by assumption))).mono ?_; rintro e9 V2 ⟨v2, rfl, hv2, hb2⟩; (have hd2 := low_trans (w := W10) (by first | assumption | exact Below.drew (by assumption)) hb2); (have hS2 := hKP V2 hd2); (have hNa2 := Nq.keep hN1 hd2); (have hNb2 := Nq.keep hN2 hd2); (obtain ⟨b9, q9, l9, c9, f9, m9, rfl, _, _⟩ := id (Dy.Nm.fields hv2)))
          | (go_at_call 26; refine (HC.out _ _ _ _ (by first | assumption | exact Below.drew (by assumption)) (by assumption) (by assumption) (by omega)).mono ?_; rintro e9 V3 ⟨⟨s1, hs1, rfl⟩, hb3⟩; (have hd3 := low_trans (w := W10) (by first | assumption | exact Below.drew (by assumption)) hb3); (have hS3 := hKP V3 hd3); (have hNa3 := Nq.keep hN1 hd3); (have hNb3 := Nq.keep hN2 hd3); (have hc1 : decide (s1 < 0) = false := by rw [decide_eq_false_iff_not]; omega); (have hc3 : decide (s1 ≥ 0) = true := by rw [decide_eq_true_iff]; omega)))
      clear HWl HC hKP hS0 hS1 x0 x1 x2 x3 x4 x5 hN1 hN2 hmx5 hu
      replace HS := Lib.hid ((HS.out).keep hd3)
      replace HNL := Lib.hid (Nq.keep HNL.out hd3)
      replace HTa := Lib.hid (blk1 HTa.out hd3)
      replace HN1 := Lib.hid (Nq.keep HN1.out hd3)
      replace HU := Lib.hid (blk1 HU.out hd3)
      replace HN2 := Lib.hid (Nq.keep HN2.out hd3)
      replace HK := Lib.hid (blk1 HK.out hd3)
      clear hd0 hd1 hc1 hc3
      obtain ⟨i1, hi', hz0', hz1', hz2'⟩ := info_parts x_slot
      have HPp := Lib.hid (HP.out.keep (by decide) HS.out.bel)
      generalize hV3 : V3 = Vs at *
      clear hV3
      go_wp2_with fail
      go_loopw [26, 136] (fun v vi wr => ∃ m : Nat, m ≤ pn ∧ vi = .int .i64 m ∧ Hid (wr.ownsRow Vs.heap.size 80 3 v m (rowI p (m * 3))) ∧ Hid (Below Vs.heap.size Vs wr)) (fun _ vi _ => pn - (intOf vi).toNat)
      case atStart => exact ⟨0, by omega, rfl, ⟨rfl, .inl ⟨rfl, rfl⟩⟩, Below.refl _ _⟩
      case round =>
        obtain ⟨m, hm, rfl, HR, HB⟩ := hrel
        by_cases hlt : m < pn
        · obtain ⟨b4, o4, rfl, hI4⟩ := (HPp.out.keep (by decide) HB.out) (by omega)
          have d0 := hI4 (m * 3) (by omega)
          have d1 := hI4 (m * 3 + 1) (by omega)
          have d2 := hI4 (m * 3 + 2) (by omega)
          rw [← Nat.add_assoc] at d1 d2
          have y0 := HPv.out (m * 3) (by omega)
          have y1 := HPv.out (m * 3 + 1) (by omega)
          have y2 := HPv.out (m * 3 + 2) (by omega)
          have HRow := Lib.hid (rowI_three p m)
          clear hI4
          generalize p (m * 3) = z0 at d0 y0 HRow
          generalize p (m * 3 + 1) = z1 at d1 y1 HRow
          generalize p (m * 3 + 2) = z2 at d2 y2 HRow
          have hbl : b4 < wr.heap.size := World.block_lt_of_cell? _ _ d0
          have hsz := HB.out.size
          go_wp2_with (at_builtin; refine wpList_append_own _ rfl _ _ 67 rfl Vs.heap.size 80 i1 (.agg #[.int .i64 0, .int .i64 0, .int .i64 0]) 3 24 Tryz.underlying67 hi' hz0' hz1' hz2' rfl (by decide) _ m _ rfl ((HR.out.alloc _).alloc _) ⟨wr.heap.size + 1, 0, none⟩ 1 1 [.int .i64 z0, .int .i64 z1, .int .i64 z2] rfl rfl (by have := cells_tri3 (wr.alloc (.cells #[.int .u8 z0, .int .u8 z1, .int .u8 z2] 78)) (.int .i64 z0) (.int .i64 z1) (.int .i64 z2) 80; rwa [World.size_alloc] at this) (by simp [Value.oneCell']) (by unfold maxLen; omega) (by omega) (by simp; omega) ?_; intro v2 w3 hown hgrow _)
          exact ⟨⟨m + 1, by omega, by go_num, by rw [HRow.out]; exact hown, ((HB.out.alloc HB.out.size _).alloc (by simp; omega) _).grown hgrow (by simp; omega) (fun j hj => (HR.out.lt j hj).1)⟩, by simp [intOf]; omega⟩
        · obtain rfl : m = pn := by omega
          obtain ⟨z, cz, rfl, hcz, hz⟩ := own_ints HR.out
          replace HS := Lib.hid ((HS.out).keep HB.out)
          replace HNL := Lib.hid (Nq.keep HNL.out HB.out)
          replace HTa := Lib.hid (blk1 HTa.out HB.out)
          replace HN1 := Lib.hid (Nq.keep HN1.out HB.out)
          replace HU := Lib.hid (blk1 HU.out HB.out)
          replace HN2 := Lib.hid (Nq.keep HN2.out HB.out)
          replace HK := Lib.hid (blk1 HK.out HB.out)
          have HZ := Lib.hid hz
          clear hz HR HB
          go_wp2_with fail
          refine (sleft_of wr x z k cx m cz (tpF g) p C N HJ.out (by omega) hcz HS.out.sl HZ.out).mono ?_
          rintro e W12 ⟨rfl, hb⟩
          replace HS := Lib.hid ((HS.out).keep hb)
          replace HNL := Lib.hid (Nq.keep HNL.out hb)
          replace HTa := Lib.hid (blk1 HTa.out hb)
          replace HN1 := Lib.hid (Nq.keep HN1.out hb)
          replace HU := Lib.hid (blk1 HU.out hb)
          replace HN2 := Lib.hid (Nq.keep HN2.out hb)
          replace HK := Lib.hid (blk1 HK.out hb)
          clear hb HZ
          have hE := HGe.out m p
          have hLV : lfV (tpF g) p k m C N = if lfE (tpF g) p k m C N = 0 then rsk (tpF g) k - tkn (tpF g) p m else 0 := rfl
          have htk : lfE (tpF g) p k m C N = 0 → 0 ≤ tkn (tpF g) p m := fun h => by
            unfold tkn
            have hF := (jok_of HJ.out).2.2.2
            have hs := sok_of h
            exact si_nn fun i hi => (hF _ (by have := (hs i hi).1; omega)).1.1
          generalize lfE (tpF g) p k m C N = E2 at hE hLV htk ⊢
          generalize lfV (tpF g) p k m C N = l2 at hLV ⊢
          have hu : (undef : Value) = .tuple #[] := rfl
          by_cases h0 : E2 = 0
          · subst h0
            rw [if_pos rfl] at hLV
            obtain ⟨g1', g2'⟩ := hE rfl
            have htk0 := htk rfl
            rw [← hLV] at g1' g2'
            have hlb2 : 0 ≤ l2 ∧ l2 ≤ 12750 := by omega
            clear hLV htk hE
            go_upto_region 24 with fail
            have hKP : ∀ V, Below W12.heap.size W12 V → V.cell? ⟨U, 0, none⟩ = some (.bool b3) ∧ V.cell? ⟨U, 1, none⟩ = some (.slice q3 l3 c3) ∧ V.cell? ⟨U, 2, none⟩ = some (.int .i64 f3) ∧ V.cell? ⟨K, 0, none⟩ = some (.bool b5) ∧ V.cell? ⟨K, 1, none⟩ = some (.slice q5 l5 c5) ∧ V.cell? ⟨K, 2, none⟩ = some (.int .i64 f5) := fun V hV => ⟨cell_h (blk1 HU.out hV) rfl, cell_h (blk1 HU.out hV) rfl, cell_h (blk1 HU.out hV) rfl, cell_h (blk1 HK.out hV) rfl, cell_h (blk1 HK.out hV) rfl, cell_h (blk1 HK.out hV) rfl⟩
            have hd0 : Below W12.heap.size W12 W12 := Below.refl _ _
            have hd1 : Below W12.heap.size W12 W12.drew := hd0.drew
            have hS0 := hKP W12 hd0
            have hS1 := hKP W12.drew hd1
            obtain ⟨x0, x1, x2, x3, x4, x5⟩ := id hS0
            have HWl : Hid (∀ V, Below W12.heap.size W12 V → Calls Tryz.prog 35 #[.int .i64 l2] V (Dy.Ret V fun w' v => Nq w' v (l2 * 1048576))) := fun V hV => whole_q V l2 (by omega) (HT.out.keep (low_trans HS.out.bel hV))
            have HC : Hid (∀ V u v (y : Int), Below W12.heap.size W12 V → Nq V u (l2 * 1048576) → Nq V v y → (-1152921504606846976 < y ∧ y ≤ l2 * 1048576) → Calls Tryz.prog 26 #[u, v] V fun e w' => (∃ s : Int, 0 ≤ s ∧ e = .returned (.int .i64 s)) ∧ Below V.heap.size V w') := fun V u v y hV hu hv hy => cmp_q V u v (l2 * 1048576) y hu hv (by omega) (by omega) hy.2 (HT.out.keep (low_trans HS.out.bel hV))
            have hN1 : Nq W12 (.agg #[.bool b3, .slice q3 l3 c3, .int .i64 f3]) B1 := HN1.out
            have hN2 : Nq W12 (.agg #[.bool b5, .slice q5 l5 c5, .int .i64 f5]) B2 := HN2.out
            have HAd : Hid (∀ V, Below W12.heap.size W12 V → Calls Tryz.prog 34 #[] V fun e w' => e = .returned (.bool true) ∧ Below V.heap.size V w') := fun V hV => Dy.adds_of V (HT.out.keep (low_trans HS.out.bel hV))
            go_region_held3 (fun W2 => W2.cell? ⟨U, 0, none⟩ = some (.bool b3) ∧ W2.cell? ⟨U, 1, none⟩ = some (.slice q3 l3 c3) ∧ W2.cell? ⟨U, 2, none⟩ = some (.int .i64 f3) ∧ W2.cell? ⟨K, 0, none⟩ = some (.bool b5) ∧ W2.cell? ⟨K, 1, none⟩ = some (.slice q5 l5 c5) ∧ W2.cell? ⟨K, 2, none⟩ = some (.int .i64 f5))
              (first | (with_reducible assumption) | (exact hKP _ (by assumption)))
              (first
                | (go_at_call 35; refine (HWl.out _ (by first | assumption | exact Below.drew (by assumption))).mono ?_; rintro e9 V2 ⟨v2, rfl, hv2, hb2⟩; (have hd2 := low_trans (w := W12) (by first | assumption | exact Below.drew (by assumption)) hb2); (have hS2 := hKP V2 hd2); (have hNa2 := Nq.keep hN1 hd2); (have hNb2 := Nq.keep hN2 hd2); (obtain ⟨b9, q9, l9, c9, f9, m9, rfl, _, _⟩ := id (Dy.Nm.fields hv2)))
                | (go_at_call 26; refine (HC.out _ _ _ _ (by first | assumption | exact Below.drew (by assumption)) (by assumption) (by assumption) (by omega)).mono ?_; rintro e9 V3 ⟨⟨s1, hs1, rfl⟩, hb3⟩; (have hd3 := low_trans (w := W12) (by first | assumption | exact Below.drew (by assumption)) hb3); (have hS3 := hKP V3 hd3); (have hNa3 := Nq.keep hN1 hd3); (have hNb3 := Nq.keep hN2 hd3); (have hc1 : decide (s1 < 0) = false := by rw [decide_eq_false_iff_not]; omega); (have hc3 : decide (s1 ≥ 0) = true := by rw [decide_eq_true_iff]; omega))
                | (go_at_call 34; refine (HAd.out _ (by first | assumption | exact Below.drew (by assumption))).mono ?_; rintro e9 V5 ⟨rfl, hb5⟩; (have hd5 := low_trans (w := W12) (by first | assumption | exact Below.drew (by assumption)) hb5); (have hS5 := hKP V5 hd5); (have hNa5 := Nq.keep hN1 hd5); (have hNb5 := Nq.keep hN2 hd5)))
            all_goals
              go_wp2_with fail
              go_ret
              exact ⟨rfl, low_trans HS.out.bel hd5⟩
          · clear hLV htk hE
            have hne : (E2 != 0) = true := by simpa using h0
            have hd0 : Below W12.heap.size W12 W12 := Below.refl _ _
            have hd1 : Below W12.heap.size W12 W12.drew := hd0.drew
            have HAd : Hid (∀ V, Below W12.heap.size W12 V → Calls Tryz.prog 34 #[] V fun e w' => e = .returned (.bool true) ∧ Below V.heap.size V w') := fun V hV => Dy.adds_of V (HT.out.keep (low_trans HS.out.bel hV))
            go_upto_region 24 with fail
            first
              | (go_region_with ((go_at_call 34; refine (HAd.out _ (by first | assumption | exact Below.drew (by assumption))).mono ?_; rintro e9 V5 ⟨rfl, hb5⟩; (have hd5 := low_trans (w := W12) (by first | assumption | exact Below.drew (by assumption)) hb5))))
              | fail
            all_goals
              go_wp2_with fail
              go_ret
              exact ⟨rfl, low_trans HS.out.bel hd5⟩
end Go.Proofs.YtlphlbgbbblnpaaGreatDoor
