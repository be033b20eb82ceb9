/-
  WALKS: the law of StrengthLeaves.
-/
import Derived.Test.YtlphlbgbbblnpaaGreatDoorLvAB
namespace Go.Proofs.YtlphlbgbbblnpaaGreatDoor
open Go.RowKit Go.Shelf

set_option maxRecDepth 100000 in
set_option maxHeartbeats 32000000 in
theorem leaves_law (W : World) (aa qq pp : Option Addr) (ln qn pn lc qc pc : Nat) (g s p : Nat → Int) (xc xd m0 m1 : Int) (hl : By W aa 4 ln g) (hq : Sh W qq qn s) (hp : By W pp 3 pn p) (hg : ∀ i, i < ln * 4 → 0 ≤ g i ∧ g i ≤ 255) (hsv : ∀ i, i < qn → 0 ≤ s i ∧ s i ≤ 65535) (hpv : ∀ i, i < pn * 3 → 0 ≤ p i ∧ p i ≤ 255)
    (hc : IntKind.u8.min ≤ xc ∧ xc ≤ IntKind.u8.max) (hd : IntKind.u8.min ≤ xd ∧ xd ≤ IntKind.u8.max) (hm0 : IntKind.u8.min ≤ m0 ∧ m0 ≤ IntKind.u8.max) (hm1 : IntKind.u8.min ≤ m1 ∧ m1 ≤ IntKind.u8.max) (hln : ln ≤ maxLen) (hqn : qn ≤ maxLen) (hpn : pn ≤ maxLen) (hT : Dy.Tab W) (hPw : Dy.Pow W) :
    Calls Tryz.prog 6 #[.slice aa ln lc, .int .u8 xc, .int .u8 xd, .slice qq qn qc, .slice pp pn pc, .agg #[.int .u8 m0, .int .u8 m1]] W fun e W' => e = .returned (.bool true) ∧ Below W.heap.size W W' := by
  have hF1 : ∀ f, Fence.wide.fn f := fun _ => trivial
  have hc' : 0 ≤ xc ∧ xc ≤ 255 := hc
  have hd' : 0 ≤ xd ∧ xd ≤ 255 := hd
  have h0' : 0 ≤ m0 ∧ m0 ≤ 255 := hm0
  have h1' : 0 ≤ m1 ∧ m1 ≤ 255 := hm1
  have hmx : maxLen = 9223372036854775807 := rfl
  have hl2 : (ln : Int) ≤ 9223372036854775807 := by omega
  have hp2 : (pn : Int) ≤ 9223372036854775807 := by omega
  have hq2 : (qn : Int) ≤ 9223372036854775807 := by omega
  clear hc hd hm0 hm1 hln hpn hqn hmx
  have HL := Lib.hid hl
  have HQ := Lib.hid hq
  have HP := Lib.hid hp
  have HG := Lib.hid hg
  have HSv := Lib.hid hsv
  have HPv := Lib.hid hpv
  have HT := Lib.hid hT
  have HPw := Lib.hid hPw
  clear hl hq hp hg hsv hpv hT hPw
  go_enter Tryz.func6, Tryz.ntmps6
  go_upto_region 1 with fail
  obtain ⟨W0, hW⟩ : ∃ W0, W.alloc (.cells #[.int .u8 m0, .int .u8 m1] 24) = W0 := ⟨_, rfl⟩
  rw [hW]
  have hB0 : Below W.heap.size W W0 := by rw [← hW]; exact (Below.refl _ _).alloc (Nat.le_refl _) _
  have hM0 : W0.heap[W.heap.size]? = some (.cells #[.int .u8 m0, .int .u8 m1] 24 (0, 0)) := by rw [← hW]; exact World.alloc_heap_new W _
  have HB0 := Lib.hid hB0
  have HM := Lib.hid hM0
  replace HL := Lib.hid (HL.out.keep (by decide) hB0)
  replace HP := Lib.hid (HP.out.keep (by decide) hB0)
  replace HT := Lib.hid (HT.out.keep hB0)
  replace HPw := Lib.hid (HPw.out.keep hB0)
  replace HQ : Hid (Sh W0 qq qn s) := Lib.hid fun h => by
    obtain ⟨b, o, e, hc⟩ := HQ.out h
    exact ⟨b, o, e, fun i hi => (hB0.cell (p := ⟨b, o + i, none⟩) (World.block_lt_of_cell? _ _ (hc i hi))).trans (hc i hi)⟩
  clear hW hB0 hM0
  have HAw : Hid (∀ V, Below W0.heap.size W0 V → Calls Tryz.prog 14 #[] V fun e w' => e = .returned (.bool true) ∧ Below V.heap.size V w') := fun V hV => awake9_of V (HT.out.keep hV) (HPw.out.keep hV)
  by_cases h8 : ln ≤ 8 ∧ pn ≤ 8 ∧ qn ≤ 4
  rotate_left
  · rcases (by omega : 8 < ln ∨ (ln ≤ 8 ∧ 8 < pn) ∨ (ln ≤ 8 ∧ pn ≤ 8 ∧ 4 < qn)) with h | ⟨h1, h2⟩ | ⟨h1, h2, h3⟩
    all_goals
      go_wp2_with fail
      refine (HAw.out _ (Below.refl _ _)).mono ?_
      rintro e w' ⟨rfl, hb⟩
      have HB := Lib.hid (low_trans HB0.out hb)
      clear hb
      go_wp2_with fail
      go_ret
      exact ⟨rfl, HB.out⟩
  obtain ⟨h8l, h8p, h8q⟩ := h8
  go_wp2_with fail
  obtain ⟨i0, hi, hz0, hz1, hz2⟩ := info_parts x_job
  go_loopw [13, 56] (fun v vi wr => ∃ k : Nat, k ≤ ln ∧ vi = .int .i64 k ∧ Hid (wr.ownsRow W0.heap.size 66 4 v k (rowI (lvF g) (k * 4))) ∧ Hid (Below W0.heap.size W0 wr)) (fun _ vi _ => ln - (intOf vi).toNat)
  case atStart => exact ⟨0, by omega, rfl, ⟨rfl, .inl ⟨rfl, rfl⟩⟩, Below.refl _ _⟩
  case round =>
    obtain ⟨k, hk, rfl, HR, HB⟩ := hrel
    by_cases hlt : k < ln
    · obtain ⟨b4, o4, rfl, hI4⟩ := (HL.out.keep (by decide) HB.out) (by omega)
      have d0 := hI4 (k * 4) (by omega)
      have d1 := hI4 (k * 4 + 1) (by omega)
      have d2 := hI4 (k * 4 + 2) (by omega)
      have d3 := hI4 (k * 4 + 3) (by omega)
      rw [← Nat.add_assoc] at d1 d2 d3
      have y0 := HG.out (k * 4) (by omega)
      have y1 := HG.out (k * 4 + 1) (by omega)
      have y2 := HG.out (k * 4 + 2) (by omega)
      have y3 := HG.out (k * 4 + 3) (by omega)
      obtain ⟨e0, e1, e2, e3⟩ := lvF_at g k
      have hrow := rowI_four (lvF g) k
      rw [e0, e1, e2, e3] at hrow
      have HRow := Lib.hid hrow
      clear hI4 e0 e1 e2 e3 hrow
      generalize g (k * 4) = z0 at d0 y0 HRow
      generalize g (k * 4 + 1) = z1 at d1 y1 HRow
      generalize g (k * 4 + 2) = z2 at d2 y2 HRow
      generalize g (k * 4 + 3) = z3 at d3 y3 HRow
      have hbl : b4 < wr.heap.size := World.block_lt_of_cell? _ _ d0
      have hsz := HB.out.size
      go_wp2_with (at_builtin; refine wpList_append_own _ rfl _ _ 63 rfl W0.heap.size 66 i0 (.agg #[.int .i64 0, .int .i64 0, .int .i64 0, .int .i64 0]) 4 32 Tryz.underlying63 hi hz0 hz1 hz2 rfl (by decide) _ k _ rfl ((HR.out.alloc _).alloc _) ⟨wr.heap.size + 1, 0, none⟩ 1 1 [.int .i64 z0, .int .i64 (1 + z1 % 9), .int .i64 (z2 % 20), .int .i64 (z3 % 60)] rfl rfl (by have := cells_four (wr.alloc (.cells #[.int .u8 z0, .int .u8 z1, .int .u8 z2, .int .u8 z3] 64)) (.int .i64 z0) (.int .i64 (1 + z1 % 9)) (.int .i64 (z2 % 20)) (.int .i64 (z3 % 60)) 66; rwa [World.size_alloc] at this) (by simp [Value.oneCell']) (by unfold maxLen; omega) (by omega) (by simp; omega) ?_; intro v2 w3 hown hgrow _)
      exact ⟨⟨k + 1, by omega, by go_num, by rw [HRow.out]; exact hown, ((HB.out.alloc HB.out.size _).alloc (by simp; omega) _).grown hgrow (by simp; omega) (fun j hj => (HR.out.lt j hj).1)⟩, by simp [intOf]; omega⟩
    · obtain rfl : k = ln := by omega
      obtain ⟨x, cx, rfl, hcx, hx⟩ := own_ints HR.out
      have HS : Hid (LvSt W0 wr x k (lvF g)) := ⟨HB.out, hx⟩
      obtain ⟨r1, hr1⟩ : ∃ r : Nat, xc % 3 = (r : Int) := ⟨(xc % 3).toNat, by omega⟩
      obtain ⟨C, hC⟩ : ∃ C : Nat, 1 + (r1 : Int) = (C : Int) := ⟨1 + r1, by omega⟩
      obtain ⟨N, hN⟩ : ∃ N : Nat, xd % 40 = (N : Int) := ⟨(xd % 40).toNat, by omega⟩
      have HJ : Hid (jsE (lvF g) k C N = 0) := lvF_ok (by omega) (by omega) (by omega) HG.out
      have hkL : k ≤ 19 := by omega
      clear hx HR HB
      go_wp2_with fail
      refine (greedy_of wr x k cx (lvF g) C N hkL HJ.out HS.out.sl).mono ?_
      rintro e W9 ⟨y, cy, rfl, hcy, hy, hb⟩
      have hfit := gr_fit (R := jbs (lvF g)) (C := C) (N := N) (o := isort (lessR (lvF g)) k fun i => i) (n := k) (by omega) ((isP_id k).isort (Nat.le_refl k)) (k := k) (Nat.le_refl k)
      have hlen := gr_len (R := jbs (lvF g)) (o := isort (lessR (lvF g)) k fun i => i) (C := C) (N := N) k
      have hE1 := fit_ok (l := grl (lvF g) k C N) HJ.out hfit.1 (fun s hs => by
        obtain ⟨⟨i, hi, hi2⟩, _⟩ := hfit.2.1 s hs
        rw [hi2]
        exact ((isP_id k).isort (lt := lessR (lvF g)) (Nat.le_refl k)).1 i hi)
      have hlen2 : (grl (lvF g) k C N).length ≤ k := hlen
      generalize grl (lvF g) k C N = gl at hy hcy hE1 hlen2 ⊢
      clear hfit hlen
      replace HS := Lib.hid (HS.out.keep hb)
      have HY := Lib.hid hy
      have HE1 := Lib.hid hE1
      clear hy hb hE1
      go_wp2_with fail
      refine (sleft_of W9 x y k cx gl.length cy (lvF g) (sf gl) C N HJ.out (by omega) hcy HS.out.sl HY.out).mono ?_
      rintro e W10 ⟨rfl, hb⟩
      have hlv : lfV (lvF g) (sf gl) k gl.length C N = rsk (lvF g) k - tkn (lvF g) (sf gl) gl.length := by unfold lfV; rw [if_pos HE1.out]
      rw [hlv, HE1.out]
      have hrk : 0 ≤ rsk (lvF g) k ∧ rsk (lvF g) k ≤ 2040 := by
        unfold rsk
        have hF := (jok_of HJ.out).2.2.2
        refine ⟨si_nn fun i hi => (hF i hi).1.1, ?_⟩
        have h1 : si k (fun i => lvF g (i * 4)) ≤ si k (fun _ => (255 : Int)) := si_le fun i hi => by
          have h2 := HG.out (i * 4) (by omega)
          have h3 := (lvF_at g i).1
          omega
        have h2 : ∀ n : Nat, si n (fun _ => (255 : Int)) = 255 * n := fun n => by
          induction n with
          | zero => rfl
          | succ n ih => simp only [si, ih]; push_cast; omega
        rw [h2] at h1; omega
      have htk : ∀ (g' : Nat → Int) (p' : Nat), lfE (lvF g) g' k p' C N = 0 → 0 ≤ tkn (lvF g) g' p' := fun g' p' h => by
        unfold tkn
        have hF := (jok_of HJ.out).2.2.2
        have hs := sok_of h
        exact si_nn fun i hi => (hF _ (by have := (hs i hi).1; omega)).1.1
      have hge : ∀ (p' : Nat) (g' : Nat → Int) (L : Int), 0 ≤ L → lfE (lvF g) g' k p' C N = 0 → bdI (lvF g) k C N L 1048576 ≤ (rsk (lvF g) k - tkn (lvF g) g' p') * 1048576 ∧ (0 ≤ rsk (lvF g) k - tkn (lvF g) g' p' ∧ rsk (lvF g) k - tkn (lvF g) g' p' ≤ 2040) := fun p' g' L hL h => by
        obtain ⟨Ln, rfl⟩ : ∃ l : Nat, L = (l : Int) := ⟨L.toNat, by omega⟩
        have h1 := plan_ge (f := lvF g) (g := g') (n := k) (p := p') HJ.out h Ln 1048576
        have h2 := htk g' p' h
        rw [show (((1048576 : Nat)) : Int) = 1048576 from rfl] at h1
        exact ⟨h1.1, h1.2, by omega⟩
      have HGe := Lib.hid hge
      have hlb := (hge gl.length (sf gl) 0 (by omega) HE1.out).2
      have HLf := Lib.hid (fun (L : Int) (hL : 0 ≤ L) => (hge gl.length (sf gl) L hL HE1.out).1)
      generalize rsk (lvF g) k - tkn (lvF g) (sf gl) gl.length = lf at hlb HLf ⊢
      replace HS := Lib.hid (HS.out.keep hb)
      clear hlv hrk htk hge hb HY HE1
      go_wp2_with fail
      refine (sPrice_of W10 x k cx (lvF g) C N HJ.out HS.out.sl (HT.out.keep HS.out.bel)).mono ?_
      rintro e W11 ⟨v2, e2, rfl, ⟨rfl, L, hL, hv2⟩, hb⟩
      replace HS := Lib.hid (HS.out.keep hb)
      have HNL := Lib.hid hv2
      obtain ⟨b2, q2, l2, c2, f2, mm2, rfl, _, _⟩ := id (Dy.Nm.fields hv2)
      clear hv2 hb

      go_upto_region 13 with fail
      obtain ⟨W12, hW⟩ : ∃ W, W11.alloc (.cells #[.bool b2, .slice q2 l2 c2, .int .i64 f2] 75) = W := ⟨_, rfl⟩
      rw [hW]
      have hb : Below W11.heap.size W11 W12 := by rw [← hW]; exact (Below.refl _ _).alloc (Nat.le_refl _) _
      have hR : W12.heap[W11.heap.size]? = some (.cells #[.bool b2, .slice q2 l2 c2, .int .i64 f2] 75 (0, 0)) := by rw [← hW]; exact World.alloc_heap_new W11 _
      obtain ⟨Ta, hG⟩ : ∃ b, W11.heap.size = b := ⟨_, rfl⟩
      rw [hG] at hR
      rw [hG]
      replace HS := Lib.hid ((HS.out).keep hb)
      replace HNL := Lib.hid (Nq.keep HNL.out hb)
      have HTa := Lib.hid hR
      clear hW hb hR hG
      obtain ⟨i1, hi', hz0', hz1', hz2'⟩ := info_parts x_slot
      have HPp := Lib.hid (HP.out.keep (by decide) HS.out.bel)
      go_wp2_with fail
      go_loopw [24, 122] (fun u vi wr => ∃ (m : Nat) (v : Value), m ≤ pn ∧ vi = .int .i64 m ∧ v = u ∧ Hid (wr.ownsRow W12.heap.size 80 3 v m (rowI (lvS p C) (m * 3))) ∧ Hid (Below W12.heap.size W12 wr)) (fun _ vi _ => pn - (intOf vi).toNat)
      case atStart => exact ⟨0, _, by omega, rfl, rfl, ⟨rfl, .inl ⟨rfl, rfl⟩⟩, Below.refl _ _⟩
      case round =>
        obtain ⟨m, v, hm, rfl, rfl, HR, HB⟩ := hrel
        by_cases hlt : m < pn
        · obtain ⟨b4, o4, rfl, hI4⟩ := (HPp.out.keep (by decide) HB.out) (by omega)
          have d0 := hI4 (m * 3) (by omega)
          have d1 := hI4 (m * 3 + 1) (by omega)
          have d2 := hI4 (m * 3 + 2) (by omega)
          rw [← Nat.add_assoc] at d1 d2
          have y0 := HPv.out (m * 3) (by omega)
          have y1 := HPv.out (m * 3 + 1) (by omega)
          have y2 := HPv.out (m * 3 + 2) (by omega)
          obtain ⟨e0, e1, e2⟩ := lvS_at p C m
          have hrow := rowI_three (lvS p C) m
          rw [e0, e1, e2] at hrow
          have HRow := Lib.hid hrow
          clear hI4 e0 e1 e2 hrow
          generalize p (m * 3) = z0 at d0 y0 HRow
          generalize p (m * 3 + 1) = z1 at d1 y1 HRow
          generalize p (m * 3 + 2) = z2 at d2 y2 HRow
          have hbl : b4 < wr.heap.size := World.block_lt_of_cell? _ _ d0
          go_upto_region 19 with fail
          have hn := World.alloc_heap_new wr (.cells #[.int .u8 z0, .int .u8 z1, .int .u8 z2] 78)
          have hb1 := HB.out.alloc HB.out.size (.cells #[.int .u8 z0, .int .u8 z1, .int .u8 z2] 78)
          have hR1 := HR.out.alloc (.cells #[.int .u8 z0, .int .u8 z1, .int .u8 z2] 78)
          have hlt2 := fun j hj => (HR.out.lt j hj).2
          generalize wr.alloc (.cells #[.int .u8 z0, .int .u8 z1, .int .u8 z2] 78) = V1 at *
          have hb2 : Below W12.heap.size W12 V1.drew := hb1.drew
          have hR2 : V1.drew.ownsRow W12.heap.size 80 3 v m (rowI (lvS p C) (m * 3)) := hR1
          have hn2 : V1.drew.heap[wr.heap.size]? = some (.cells #[.int .u8 z0, .int .u8 z1, .int .u8 z2] 78 (0, 0)) := hn
          refine (wpIn_wide (n := 5)).1 ?_
          refine wpIn_region_I (fun W2 : World => W2.cell? ⟨wr.heap.size, 0, none⟩ = some (.int .u8 z0) ∧ W2.cell? ⟨wr.heap.size, 1, none⟩ = some (.int .u8 z1) ∧ W2.cell? ⟨wr.heap.size, 2, none⟩ = some (.int .u8 z2)) (by kernel_rfl) ?_
          change anyI _ _ _ _ _ _ _ 18 (Array.replicate 18 false) _ _
          generalize V1.drew = Wd at *
          have hS0 : Wd.cell? ⟨wr.heap.size, 0, none⟩ = some (.int .u8 z0) ∧ Wd.cell? ⟨wr.heap.size, 1, none⟩ = some (.int .u8 z1) ∧ Wd.cell? ⟨wr.heap.size, 2, none⟩ = some (.int .u8 z2) := ⟨cell_h hn2 rfl, cell_h hn2 rfl, cell_h hn2 rfl⟩
          have hC0 : ¬((C : Int) = 0) := by omega
          have hmod : 0 ≤ z1 % (C : Int) ∧ z1 % (C : Int) < 3 := ⟨Int.emod_nonneg _ hC0, by have := Int.emod_lt_of_pos z1 (show 0 < (C : Int) by omega); omega⟩
          have htm : z1.tmod (C : Int) = z1 % (C : Int) := Int.tmod_eq_emod_of_nonneg y1.1
          have hC1 : ¬(C = 0) := by omega
          have ht0 : z0.tmod 8 = z0 % 8 := Int.tmod_eq_emod_of_nonneg y0.1
          have ht2 : z2.tmod 40 = z2 % 40 := Int.tmod_eq_emod_of_nonneg y2.1
          have w1 : IntKind.i64.wrap z1 = z1 := IntWalk.i64_in _ (by omega)
          have w2 : IntKind.i64.wrap (z1 % (C : Int)) = z1 % (C : Int) := IntWalk.i64_in _ (by omega)
          have w3 : IntKind.i64.wrap (z0 % 8) = z0 % 8 := IntWalk.i64_in _ (by omega)
          have w4 : IntKind.i64.wrap (z2 % 40) = z2 % 40 := IntWalk.i64_in _ (by omega)
          have w5 : IntKind.u8.wrap (z0 % 8) = z0 % 8 := IntWalk.u8_in _ (by omega)
          have w6 : IntKind.u8.wrap (z2 % 40) = z2 % 40 := IntWalk.u8_in _ (by omega)
          refine anyI_takeD hF1 0 126 (v := ?_) rfl rfl (by kernel_rfl) (by kernel_rfl) (by kernel_rfl) (by kernel_rfl) (fun _ _ _ h => h) hS0 rfl ?_ ?_
          rotate_left
          · intro W2 hSw; obtain ⟨r0, r1, r2⟩ := hSw; go_simp; try with_reducible rfl
          simp only [List.setIfInBounds_toArray, List.set_cons_zero, List.set_cons_succ]
          refine anyI_takeD hF1 1 127 (v := ?_) rfl rfl (by kernel_rfl) (by kernel_rfl) (by kernel_rfl) (by kernel_rfl) (fun _ _ _ h => h) hS0 rfl ?_ ?_
          rotate_left
          · intro W2 hSw; obtain ⟨r0, r1, r2⟩ := hSw; go_simp; try with_reducible rfl
          simp only [List.setIfInBounds_toArray, List.set_cons_zero, List.set_cons_succ]
          refine anyI_takeD hF1 2 128 (v := ?_) rfl rfl (by kernel_rfl) (by kernel_rfl) (by kernel_rfl) (by kernel_rfl) (fun _ _ _ h => h) hS0 rfl ?_ ?_
          rotate_left
          · intro W2 hSw; obtain ⟨r0, r1, r2⟩ := hSw; go_simp; try with_reducible rfl
          simp only [List.setIfInBounds_toArray, List.set_cons_zero, List.set_cons_succ]
          refine anyI_takeD hF1 3 129 (v := ?_) rfl rfl (by kernel_rfl) (by kernel_rfl) (by kernel_rfl) (by kernel_rfl) (fun _ _ _ h => h) hS0 rfl ?_ ?_
          rotate_left
          · intro W2 hSw; obtain ⟨r0, r1, r2⟩ := hSw; go_simp; try with_reducible rfl
          simp only [List.setIfInBounds_toArray, List.set_cons_zero, List.set_cons_succ]
          refine anyI_takeD hF1 4 130 (v := ?_) rfl rfl (by kernel_rfl) (by kernel_rfl) (by kernel_rfl) (by kernel_rfl) (fun _ _ _ h => h) hS0 rfl ?_ ?_
          rotate_left
          · intro W2 hSw; obtain ⟨r0, r1, r2⟩ := hSw; go_simp; try with_reducible rfl
          simp only [List.setIfInBounds_toArray, List.set_cons_zero, List.set_cons_succ]
          refine anyI_takeD hF1 5 131 (v := ?_) rfl rfl (by kernel_rfl) (by kernel_rfl) (by kernel_rfl) (by kernel_rfl) (fun _ _ _ h => h) hS0 rfl ?_ ?_
          rotate_left
          · intro W2 hSw; obtain ⟨r0, r1, r2⟩ := hSw; go_simp; try with_reducible rfl
          simp only [List.setIfInBounds_toArray, List.set_cons_zero, List.set_cons_succ]
          refine anyI_takeD hF1 6 132 (v := ?_) rfl rfl (by kernel_rfl) (by kernel_rfl) (by kernel_rfl) (by kernel_rfl) (fun _ _ _ h => h) hS0 rfl ?_ ?_
          rotate_left
          · intro W2 hSw; obtain ⟨r0, r1, r2⟩ := hSw; go_simp; try with_reducible rfl
          simp only [List.setIfInBounds_toArray, List.set_cons_zero, List.set_cons_succ]
          refine anyI_takeD hF1 7 133 (v := ?_) rfl rfl (by kernel_rfl) (by kernel_rfl) (by kernel_rfl) (by kernel_rfl) (fun _ _ _ h => h) hS0 rfl ?_ ?_
          rotate_left
          · intro W2 hSw; obtain ⟨r0, r1, r2⟩ := hSw; go_simp; try with_reducible rfl
          simp only [List.setIfInBounds_toArray, List.set_cons_zero, List.set_cons_succ]
          refine anyI_takeD hF1 8 134 (v := ?_) rfl rfl (by kernel_rfl) (by kernel_rfl) (by kernel_rfl) (by kernel_rfl) (fun _ _ _ h => h) hS0 rfl ?_ ?_
          rotate_left
          · intro W2 hSw; obtain ⟨r0, r1, r2⟩ := hSw; go_simp; try with_reducible rfl
          simp only [List.setIfInBounds_toArray, List.set_cons_zero, List.set_cons_succ]
          refine anyI_takeD hF1 9 135 (v := ?_) rfl rfl (by kernel_rfl) (by kernel_rfl) (by kernel_rfl) (by kernel_rfl) (fun _ _ _ h => h) hS0 rfl ?_ ?_
          rotate_left
          · intro W2 hSw; obtain ⟨r0, r1, r2⟩ := hSw; go_simp; try with_reducible rfl
          simp only [List.setIfInBounds_toArray, List.set_cons_zero, List.set_cons_succ]
          refine anyI_takeD hF1 10 136 (v := ?_) rfl rfl (by kernel_rfl) (by kernel_rfl) (by kernel_rfl) (by kernel_rfl) (fun _ _ _ h => h) hS0 rfl ?_ ?_
          rotate_left
          · intro W2 hSw; obtain ⟨r0, r1, r2⟩ := hSw; go_simp; try with_reducible rfl
          simp only [List.setIfInBounds_toArray, List.set_cons_zero, List.set_cons_succ]
          refine anyI_takeD hF1 11 137 (v := ?_) rfl rfl (by kernel_rfl) (by kernel_rfl) (by kernel_rfl) (by kernel_rfl) (fun _ _ _ h => h) hS0 rfl ?_ ?_
          rotate_left
          · intro W2 hSw; obtain ⟨r0, r1, r2⟩ := hSw; go_simp; try with_reducible rfl
          simp only [List.setIfInBounds_toArray, List.set_cons_zero, List.set_cons_succ]
          refine anyI_takeD hF1 12 138 (v := ?_) rfl rfl (by kernel_rfl) (by kernel_rfl) (by kernel_rfl) (by kernel_rfl) (fun _ _ _ h => h) hS0 rfl ?_ ?_
          rotate_left
          · intro W2 hSw; obtain ⟨r0, r1, r2⟩ := hSw; go_simp; try with_reducible rfl
          simp only [List.setIfInBounds_toArray, List.set_cons_zero, List.set_cons_succ]
          refine anyI_takeD hF1 13 139 (v := ?_) rfl rfl (by kernel_rfl) (by kernel_rfl) (by kernel_rfl) (by kernel_rfl) (fun _ _ _ h => h) hS0 rfl ?_ ?_
          rotate_left
          · intro W2 hSw; obtain ⟨r0, r1, r2⟩ := hSw; go_simp; try with_reducible rfl
          simp only [List.setIfInBounds_toArray, List.set_cons_zero, List.set_cons_succ]
          refine anyI_takeD hF1 14 140 (v := ?_) rfl rfl (by kernel_rfl) (by kernel_rfl) (by kernel_rfl) (by kernel_rfl) (fun _ _ _ h => h) hS0 rfl ?_ ?_
          rotate_left
          · intro W2 hSw; obtain ⟨r0, r1, r2⟩ := hSw; go_simp; try with_reducible rfl
          simp only [List.setIfInBounds_toArray, List.set_cons_zero, List.set_cons_succ]
          have hba := (Below.refl Wd.heap.size Wd).alloc (Nat.le_refl _) (.cells #[.int .i64 (z0 % 8), .int .i64 (z1 % (C : Int)), .int .i64 (z2 % 40)] 80)
          have hc3 := cells_tri3 Wd (.int .i64 (z0 % 8)) (.int .i64 (z1 % (C : Int))) (.int .i64 (z2 % 40)) 80
          have hl3 : wr.heap.size < Wd.heap.size := (Array.getElem?_eq_some_iff.1 hn2).1
          refine anyI_valueD hF1 15 141 (w2 := Wd.alloc (.cells #[.int .i64 (z0 % 8), .int .i64 (z1 % (C : Int)), .int .i64 (z2 % 40)] 80)) (v := .slice (some ⟨Wd.heap.size, 0, none⟩) 1 1) rfl rfl (by kernel_rfl) (by kernel_rfl) rfl (by go_simp; try with_reducible rfl) ⟨(hba.cell (p := ⟨wr.heap.size, 0, none⟩) hl3).trans hS0.1, (hba.cell (p := ⟨wr.heap.size, 1, none⟩) hl3).trans hS0.2.1, (hba.cell (p := ⟨wr.heap.size, 2, none⟩) hl3).trans hS0.2.2⟩ ?_
          simp only [List.setIfInBounds_toArray, List.set_cons_zero, List.set_cons_succ]
          have hn3 := blk1 hn2 hba
          have hb3 := hb2.alloc hb2.size (.cells #[.int .i64 (z0 % 8), .int .i64 (z1 % (C : Int)), .int .i64 (z2 % 40)] 80)
          have hR3 := hR2.alloc (.cells #[.int .i64 (z0 % 8), .int .i64 (z1 % (C : Int)), .int .i64 (z2 % 40)] 80)
          generalize Wd.alloc (.cells #[.int .i64 (z0 % 8), .int .i64 (z1 % (C : Int)), .int .i64 (z2 % 40)] 80) = We at *
          obtain ⟨v', w', hr, hown, hgrow, _⟩ := run_append_own (P := Tryz.prog) We W12.heap.size 67 67 80 i1 (.agg #[.int .i64 0, .int .i64 0, .int .i64 0]) 3 24 Tryz.underlying67 hi' hz0' hz1' hz2' rfl (by decide) v m _ hR3 ⟨Wd.heap.size, 0, none⟩ 1 1 [.int .i64 (z0 % 8), .int .i64 (z1 % (C : Int)), .int .i64 (z2 % 40)] rfl hc3 (by simp [Value.oneCell']) (by unfold maxLen; omega) (by omega) hb3.size
          have hne : ∀ o, some (⟨wr.heap.size, o, none⟩ : Addr).block ≠ v.ownBlock := fun o e => Nat.lt_irrefl _ (hlt2 _ e.symm)
          have hb4 : Below W12.heap.size W12 w' := hb3.grown hgrow hb3.size (fun j hj => (HR.out.lt j hj).1)
          refine anyI_valueD hF1 16 142 (w2 := w') (v := v') rfl rfl (by kernel_rfl) (by kernel_rfl) rfl (exec_append (.tmp 126) (.tmp 141) 67 rfl rfl rfl hr) ⟨hgrow.cell (cell_h hn3 rfl) (hne 0), hgrow.cell (cell_h hn3 rfl) (hne 1), hgrow.cell (cell_h hn3 rfl) (hne 2)⟩ ?_
          simp only [List.setIfInBounds_toArray, List.set_cons_zero, List.set_cons_succ]
          refine anyI_valueD hF1 17 24 (w2 := w') (v := v') rfl rfl (by kernel_rfl) (by kernel_rfl) rfl (by go_simp; try with_reducible rfl) ⟨hgrow.cell (cell_h hn3 rfl) (hne 0), hgrow.cell (cell_h hn3 rfl) (hne 1), hgrow.cell (cell_h hn3 rfl) (hne 2)⟩ ?_
          simp only [List.setIfInBounds_toArray, List.set_cons_zero, List.set_cons_succ]
          refine anyI_done (by kernel_rfl) ?_ _
          go_wp2_with fail
          exact ⟨⟨m + 1, _, by omega, by go_num, rfl, by rw [HRow.out]; exact hown, hb4⟩, by simp [intOf]; omega⟩
        · obtain rfl : m = pn := by omega
          obtain ⟨z, cz, rfl, hcz, hz⟩ := own_ints HR.out
          replace HS := Lib.hid ((HS.out).keep HB.out)
          replace HNL := Lib.hid (Nq.keep HNL.out HB.out)
          replace HTa := Lib.hid (blk1 HTa.out HB.out)
          have HZ := Lib.hid hz
          replace HQ : Hid (Sh wr qq qn s) := Lib.hid fun h => by
            obtain ⟨b, o, e, hc⟩ := HQ.out h
            exact ⟨b, o, e, fun i hi => (HS.out.bel.cell (p := ⟨b, o + i, none⟩) (World.block_lt_of_cell? _ _ (hc i hi))).trans (hc i hi)⟩
          replace HM := Lib.hid (blk1 HM.out HS.out.bel)
          clear hz HR HB
          go_wp2_with fail
          refine (sleft_of wr x z k cx m cz (lvF g) (lvS p C) C N HJ.out (by omega) hcz HS.out.sl HZ.out).mono ?_
          rintro e W13 ⟨rfl, hb⟩
          replace HS := Lib.hid ((HS.out).keep hb)
          replace HNL := Lib.hid (Nq.keep HNL.out hb)
          replace HTa := Lib.hid (blk1 HTa.out hb)
          replace HM := Lib.hid (blk1 HM.out hb)
          replace HQ : Hid (Sh W13 qq qn s) := Lib.hid fun h => by
            obtain ⟨b, o, e, hc⟩ := HQ.out h
            exact ⟨b, o, e, fun i hi => (hb.cell (p := ⟨b, o + i, none⟩) (World.block_lt_of_cell? _ _ (hc i hi))).trans (hc i hi)⟩
          clear hb HZ
          have HE2 := Lib.hid (fun (L : Int) (hL : 0 ≤ L) (h : lfE (lvF g) (lvS p C) k m C N = 0) => (HGe.out m (lvS p C) L hL h).1)
          have HLv : Hid (lfE (lvF g) (lvS p C) k m C N = 0 → lfV (lvF g) (lvS p C) k m C N = rsk (lvF g) k - tkn (lvF g) (lvS p C) m ∧ 0 ≤ lfV (lvF g) (lvS p C) k m C N ∧ lfV (lvF g) (lvS p C) k m C N ≤ 2040) := Lib.hid fun h => by
            have h1 : lfV (lvF g) (lvS p C) k m C N = rsk (lvF g) k - tkn (lvF g) (lvS p C) m := by unfold lfV; rw [if_pos h]
            have h2 := (HGe.out m (lvS p C) 0 (by omega) h).2
            exact ⟨h1, by omega, by omega⟩
          have HE3 : Hid (∀ L : Int, 0 ≤ L → lfE (lvF g) (lvS p C) k m C N = 0 → bdI (lvF g) k C N L 1048576 ≤ lfV (lvF g) (lvS p C) k m C N * 1048576) := Lib.hid fun L hL h => by rw [(HLv.out h).1]; exact HE2.out L hL h
          have HLw : Hid (lfE (lvF g) (lvS p C) k m C N = 0 → 0 ≤ lfV (lvF g) (lvS p C) k m C N ∧ lfV (lvF g) (lvS p C) k m C N ≤ 2040) := Lib.hid fun h => (HLv.out h).2
          generalize lfE (lvF g) (lvS p C) k m C N = E2 at HE3 HLw ⊢
          generalize lfV (lvF g) (lvS p C) k m C N = lv2 at HE3 HLw ⊢
          clear HE2 HLv HGe HPp
          have s0 := cell_h (k := 0) HTa.out rfl
          have s1 := cell_h (k := 1) HTa.out rfl
          have s2 := cell_h (k := 2) HTa.out rfl
          go_upto_region 23 with fail
          have hr0 := World.alloc_heap_new W13 (.cells #[.bool b2, .slice q2 l2 c2, .int .i64 f2] 75)
          have hba := (Below.refl W13.heap.size W13).alloc (Nat.le_refl _) (.cells #[.bool b2, .slice q2 l2 c2, .int .i64 f2] 75)
          have hNLa := Nq.keep HNL.out hba
          generalize hV0 : W13.alloc (.cells #[.bool b2, .slice q2 l2 c2, .int .i64 f2] 75) = V0 at *
          have HRow0 : Hid (NumRow V0 W13.heap.size W13.heap.size 1 1 (fun _ => L)) := by
            refine ⟨Nat.le_refl _, ⟨Nat.le_refl _, by decide⟩, ⟨_, hr0, rfl, fun u hu x hx => ?_⟩, fun k hk => ?_⟩
            · subst hx
              simp at hu
            · obtain rfl : k = 0 := by omega
              exact ⟨b2, q2, l2, c2, f2, cell_h hr0 rfl, cell_h hr0 rfl, cell_h hr0 rfl, hNLa⟩
          have HBa := Lib.hid hba
          clear s0 s1 s2 hr0 hba hNLa hV0
          go_wp2_with fail
          go_loopw [29, 156] (fun u vi wr => ∃ (i G cap : Nat) (F : Nat → Int), i ≤ qn ∧ vi = .int .i64 i ∧ u = .slice (some ⟨G, 0, none⟩) (i + 1) cap ∧ Hid (NumRow wr W13.heap.size G (i + 1) cap F) ∧ Hid (∀ k, k < i + 1 → 0 ≤ F k ∧ F k ≤ 2199023255552) ∧ Hid (Below W13.heap.size W13 wr)) (fun _ vi _ => qn - (intOf vi).toNat)
          case atStart => exact ⟨0, _, _, _, by omega, rfl, rfl, HRow0.out, fun k hk => hL, HBa.out⟩
          case round =>
            obtain ⟨i, G, cap, F, hi2, rfl, rfl, HR, HFb, HB⟩ := hrel
            by_cases hlt : i < qn
            · obtain ⟨b4, o4, rfl, hI4⟩ := HQ.out (by omega)
              have d0 := (HB.out.cell (p := ⟨b4, o4 + i, none⟩) (World.block_lt_of_cell? _ _ (hI4 i hlt))).trans (hI4 i hlt)
              have y0 := HSv.out i hlt
              generalize s i = z0 at d0 y0
              have w1 : IntKind.i64.wrap z0 = z0 := IntWalk.i64_in _ (by omega)
              clear hI4
              go_wp2_with fail
              refine (new6_of wr z0 y0 (HT.out.keep (low_trans HS.out.bel HB.out))).mono ?_
              rintro e V ⟨v, e', rfl, ⟨rfl, hv⟩, hb⟩
              obtain ⟨b7, q7, l7, c7, f7, m7, rfl, _, _⟩ := id (Dy.Nm.fields hv)
              replace HB := Lib.hid (lowB HB.out.size HB.out hb)
              replace HR := Lib.hid (HR.out.keep hb)
              clear d0
              go_upto_region 29 with fail
              have hr1 := World.alloc_heap_new V (.cells #[.bool b7, .slice q7 l7 c7, .int .i64 f7] 75)
              have hba := (Below.refl V.heap.size V).alloc (Nat.le_refl _) (.cells #[.bool b7, .slice q7 l7 c7, .int .i64 f7] 75)
              have hva := Nq.keep hv hba
              replace HB := Lib.hid (lowB HB.out.size HB.out hba)
              replace HR := Lib.hid (HR.out.keep hba)
              clear hb hv hba
              generalize V.alloc (.cells #[.bool b7, .slice q7 l7 c7, .int .i64 f7] 75) = Va at *
              generalize V.heap.size = nb at *
              have s0 := cell_h (k := 0) hr1 rfl
              have s1 := cell_h (k := 1) hr1 rfl
              have s2 := cell_h (k := 2) hr1 rfl
              have hG := HR.out.lo
              have hr2 := World.alloc_heap_new Va (.cells #[.bool b7, .slice q7 l7 c7, .int .i64 f7] 75)
              have hbb := (Below.refl Va.heap.size Va).alloc (Nat.le_refl _) (.cells #[.bool b7, .slice q7 l7 c7, .int .i64 f7] 75)
              have HR2 := Lib.hid (HR.out.keep hbb)
              have HB2 := Lib.hid (lowB HB.out.size HB.out hbb)
              have HV2 := Lib.hid (Nq.keep hva hbb)
              have HR3 := Lib.hid hr2
              clear hr1 hva hr2 hbb
              go_wp2_with (at_builtin; refine wpList_numrow rfl _ _ rfl rfl rfl HR2.out (by omega) HB2.out.size (cell_h HR3.out rfl) (cell_h HR3.out rfl) (cell_h HR3.out rfl) HV2.out ?_; intro g9 cap9 w3 hrow hgrow)
              exact ⟨⟨i + 1, g9, cap9, _, by omega, by go_num, rfl, hrow, fun k hk => by
                show 0 ≤ (if k = i + 1 then z0 * 16384 else F k) ∧ (if k = i + 1 then z0 * 16384 else F k) ≤ 2199023255552
                by_cases e : k = i + 1
                · rw [if_pos e]; omega
                · rw [if_neg e]; exact HFb.out k (by omega), HB2.out.grown hgrow HB2.out.size (fun j hj => by cases hj; exact hG)⟩, by simp [intOf]; omega⟩
            · obtain rfl : i = qn := by omega
              replace HS := Lib.hid ((HS.out).keep HB.out)
              replace HNL := Lib.hid (Nq.keep HNL.out HB.out)
              replace HTa := Lib.hid (blk1 HTa.out HB.out)
              replace HM := Lib.hid (blk1 HM.out HB.out)
              generalize wr = Wx at *
              obtain ⟨r2, hr2⟩ : ∃ r : Nat, m0 % 2 = (r : Int) := ⟨(m0 % 2).toNat, by omega⟩
              obtain ⟨C2, hC2⟩ : ∃ c : Nat, (C : Int) + (r2 : Int) = (c : Int) := ⟨C + r2, by omega⟩
              obtain ⟨m1n, hm1n⟩ : ∃ r : Nat, m1 = (r : Int) := ⟨m1.toNat, by omega⟩
              obtain ⟨N2, hN2⟩ : ∃ c : Nat, (N : Int) + m1 = (c : Int) := ⟨N + m1n, by omega⟩
              clear hm1n
              have HJ2 : Hid (jsE (lvF g) k C2 N2 = 0) := lvF_ok (by omega) (by omega) (by omega) HG.out
              go_wp2_with fail
              go_loopw [175] (fun vi wr => ∃ j : Nat, j ≤ i + 1 ∧ vi = .int .i64 j ∧ Hid (Below Wx.heap.size Wx wr)) (fun vi _ => i + 1 - (intOf vi).toNat)
              case atStart => exact ⟨0, by omega, rfl, Below.refl _ _⟩
              case round =>
                obtain ⟨j, hj, rfl, HB2⟩ := hrel
                by_cases hlt2 : j < i + 1
                · obtain ⟨b5, q5, l5, c5, f5, e0, e1, e2, hv5⟩ := (HR.out.keep HB2.out).els j (by omega)
                  have hF := HFb.out j (by omega)
                  generalize F j = Lj at hv5 hF
                  have HN5 := Lib.hid hv5
                  clear hv5
                  replace HS := Lib.hid ((HS.out).keep HB2.out)
                  replace HM := Lib.hid (blk1 HM.out HB2.out)
                  have HBr := HB2
                  go_upto_region 34 with fail
                  obtain ⟨V1, hW⟩ : ∃ W, wr.alloc (.cells #[.bool b5, .slice q5 l5 c5, .int .i64 f5] 75) = W := ⟨_, rfl⟩
                  rw [hW]
                  have hb : Below wr.heap.size wr V1 := by rw [← hW]; exact (Below.refl _ _).alloc (Nat.le_refl _) _
                  have hR : V1.heap[wr.heap.size]? = some (.cells #[.bool b5, .slice q5 l5 c5, .int .i64 f5] 75 (0, 0)) := by rw [← hW]; exact World.alloc_heap_new wr _
                  obtain ⟨T35, hG⟩ : ∃ b, wr.heap.size = b := ⟨_, rfl⟩
                  rw [hG] at hR
                  rw [hG]
                  replace HS := Lib.hid ((HS.out).keep hb)
                  replace HM := Lib.hid (blk1 HM.out hb)
                  replace HBr := Lib.hid (low_trans HBr.out hb)
                  replace HN5 := Lib.hid (Nq.keep HN5.out hb)
                  have HT35 := Lib.hid hR
                  clear hW hb hR hG
                  have s0 := cell_h (k := 0) HT35.out rfl
                  have s1 := cell_h (k := 1) HT35.out rfl
                  have s2 := cell_h (k := 2) HT35.out rfl
                  clear e0 e1 e2
                  go_wp2_with fail
                  refine (sBound_of V1 x k cx (lvF g) C N Lj _ HJ.out hF HS.out.sl HN5.out (HT.out.keep HS.out.bel)).mono ?_
                  rintro e V2 ⟨v6, e6, rfl, ⟨rfl, hv6⟩, hb⟩
                  obtain ⟨b6, q6, l6, c6, f6, m6, rfl, _, _⟩ := id (Dy.Nm.fields hv6)
                  replace HS := Lib.hid ((HS.out).keep hb)
                  replace HM := Lib.hid (blk1 HM.out hb)
                  replace HBr := Lib.hid (low_trans HBr.out hb)
                  replace HN5 := Lib.hid (Nq.keep HN5.out hb)
                  replace HT35 := Lib.hid (blk1 HT35.out hb)
                  have HN6 := Lib.hid hv6
                  clear hv6 hb s0 s1 s2
                  go_upto_region 35 with fail
                  obtain ⟨V3, hW⟩ : ∃ W, V2.alloc (.cells #[.bool b6, .slice q6 l6 c6, .int .i64 f6] 75) = W := ⟨_, rfl⟩
                  rw [hW]
                  have hb : Below V2.heap.size V2 V3 := by rw [← hW]; exact (Below.refl _ _).alloc (Nat.le_refl _) _
                  have hR : V3.heap[V2.heap.size]? = some (.cells #[.bool b6, .slice q6 l6 c6, .int .i64 f6] 75 (0, 0)) := by rw [← hW]; exact World.alloc_heap_new V2 _
                  obtain ⟨T36, hG⟩ : ∃ b, V2.heap.size = b := ⟨_, rfl⟩
                  rw [hG] at hR
                  rw [hG]
                  replace HS := Lib.hid ((HS.out).keep hb)
                  replace HM := Lib.hid (blk1 HM.out hb)
                  replace HBr := Lib.hid (low_trans HBr.out hb)
                  replace HN5 := Lib.hid (Nq.keep HN5.out hb)
                  replace HT35 := Lib.hid (blk1 HT35.out hb)
                  replace HN6 := Lib.hid (Nq.keep HN6.out hb)
                  have HT36 := Lib.hid hR
                  clear hW hb hR hG
                  have s0 := cell_h (k := 0) HT35.out rfl
                  have s1 := cell_h (k := 1) HT35.out rfl
                  have s2 := cell_h (k := 2) HT35.out rfl
                  have n0 := cell_h (k := 0) HM.out rfl
                  have n1 := cell_h (k := 1) HM.out rfl
                  go_wp2_with fail
                  refine (sBound_of V3 x k cx (lvF g) C2 N2 Lj _ HJ2.out hF HS.out.sl HN5.out (HT.out.keep HS.out.bel)).mono ?_
                  rintro e V4 ⟨v8, e8, rfl, ⟨rfl, hv8⟩, hb⟩
                  obtain ⟨b8, q8, l8, c8, f8, m8, rfl, _, _⟩ := id (Dy.Nm.fields hv8)
                  replace HS := Lib.hid ((HS.out).keep hb)
                  replace HM := Lib.hid (blk1 HM.out hb)
                  replace HBr := Lib.hid (low_trans HBr.out hb)
                  replace HN5 := Lib.hid (Nq.keep HN5.out hb)
                  replace HT35 := Lib.hid (blk1 HT35.out hb)
                  replace HN6 := Lib.hid (Nq.keep HN6.out hb)
                  replace HT36 := Lib.hid (blk1 HT36.out hb)
                  have HN8 := Lib.hid hv8
                  clear hv8 hb s0 s1 s2 n0 n1
                  go_upto_region 36 with fail
                  obtain ⟨V5, hW⟩ : ∃ W, V4.alloc (.cells #[.bool b8, .slice q8 l8 c8, .int .i64 f8] 75) = W := ⟨_, rfl⟩
                  rw [hW]
                  have hb : Below V4.heap.size V4 V5 := by rw [← hW]; exact (Below.refl _ _).alloc (Nat.le_refl _) _
                  have hR : V5.heap[V4.heap.size]? = some (.cells #[.bool b8, .slice q8 l8 c8, .int .i64 f8] 75 (0, 0)) := by rw [← hW]; exact World.alloc_heap_new V4 _
                  obtain ⟨T38, hG⟩ : ∃ b, V4.heap.size = b := ⟨_, rfl⟩
                  rw [hG] at hR
                  rw [hG]
                  replace HS := Lib.hid ((HS.out).keep hb)
                  replace HM := Lib.hid (blk1 HM.out hb)
                  replace HBr := Lib.hid (low_trans HBr.out hb)
                  replace HN5 := Lib.hid (Nq.keep HN5.out hb)
                  replace HT35 := Lib.hid (blk1 HT35.out hb)
                  replace HN6 := Lib.hid (Nq.keep HN6.out hb)
                  replace HT36 := Lib.hid (blk1 HT36.out hb)
                  replace HN8 := Lib.hid (Nq.keep HN8.out hb)
                  have HT38 := Lib.hid hR
                  clear hW hb hR hG
                  have g1 := HLf.out Lj hF.1
                  have g3 := HE3.out Lj hF.1
                  have g2 : bdI (lvF g) k C2 N2 Lj 1048576 ≤ bdI (lvF g) k C N Lj 1048576 := bdI_mono (by omega) (by omega) hF.1
                  have f1 := bdI_fits (L := Lj) HJ.out hF
                  have f2 := bdI_fits (L := Lj) HJ2.out hF
                  generalize bdI (lvF g) k C2 N2 Lj 1048576 = B2 at g2 f2 HN8
                  generalize bdI (lvF g) k C N Lj 1048576 = B1 at g1 g2 g3 f1 HN6
                  have hKP : ∀ V, Below V5.heap.size V5 V → V.cell? ⟨T36, 0, none⟩ = some (.bool b6) ∧ V.cell? ⟨T36, 1, none⟩ = some (.slice q6 l6 c6) ∧ V.cell? ⟨T36, 2, none⟩ = some (.int .i64 f6) ∧ V.cell? ⟨T38, 0, none⟩ = some (.bool b8) ∧ V.cell? ⟨T38, 1, none⟩ = some (.slice q8 l8 c8) ∧ V.cell? ⟨T38, 2, none⟩ = some (.int .i64 f8) := fun V hV => ⟨cell_h (blk1 HT36.out hV) rfl, cell_h (blk1 HT36.out hV) rfl, cell_h (blk1 HT36.out hV) rfl, cell_h (blk1 HT38.out hV) rfl, cell_h (blk1 HT38.out hV) rfl, cell_h (blk1 HT38.out hV) rfl⟩
                  have hd0 : Below V5.heap.size V5 V5 := Below.refl _ _
                  have hd1 : Below V5.heap.size V5 V5.drew := hd0.drew
                  have hS0 := hKP V5 hd0
                  have hS1 := hKP V5.drew hd1
                  obtain ⟨x0, x1, x2, x3, x4, x5⟩ := id hS0
                  have HWl : Hid (∀ V n, Below V5.heap.size V5 V → (0 ≤ n ∧ n ≤ 2040) → Calls Tryz.prog 27 #[.int .i64 n] V (Dy.Ret V fun w' v => Nq w' v (n * 1048576))) := fun V n hV hn => knum_q V n (by omega) (HT.out.keep (low_trans HS.out.bel hV))
                  have HC : Hid (∀ V u v (x y : Int), Below V5.heap.size V5 V → Nq V u x → Nq V v y → (-1152921504606846976 < x ∧ x ≤ y ∧ y < 1152921504606846976) → Calls Tryz.prog 26 #[u, v] V fun e w' => (∃ s : Int, s ≤ 0 ∧ e = .returned (.int .i64 s)) ∧ Below V.heap.size V w') := fun V u v x y hV hu hv hy => cmp_le V u v x y hu hv (by omega) (by omega) hy.2.1 (HT.out.keep (low_trans HS.out.bel hV))
                  have hN1 : Nq V5 (.agg #[.bool b6, .slice q6 l6 c6, .int .i64 f6]) B1 := HN6.out
                  have hN2 : Nq V5 (.agg #[.bool b8, .slice q8 l8 c8, .int .i64 f8]) B2 := HN8.out
                  have hu : (undef : Value) = .tuple #[] := rfl
                  by_cases h0 : E2 = 0
                  · subst h0
                    have g4 := g3 rfl
                    have hl2 := HLw.out rfl
                    clear g3
                    have HKS := Lib.hid hKP
                    clear hKP hS0 hS1 x0 x1 x2 x3 x4 x5 hd0 hd1
                    refine (wpIn_wide (n := 5)).1 ?_
                    refine wpIn_region_I (fun W2 : World => W2.cell? ⟨T36, 0, none⟩ = some (.bool b6) ∧ W2.cell? ⟨T36, 1, none⟩ = some (.slice q6 l6 c6) ∧ W2.cell? ⟨T36, 2, none⟩ = some (.int .i64 f6) ∧ W2.cell? ⟨T38, 0, none⟩ = some (.bool b8) ∧ W2.cell? ⟨T38, 1, none⟩ = some (.slice q8 l8 c8) ∧ W2.cell? ⟨T38, 2, none⟩ = some (.int .i64 f8)) (by kernel_rfl) ?_
                    change anyI _ _ _ _ _ _ _ 30 (Array.replicate 30 false) _ _
                    have hqd : Below V5.heap.size V5 V5.drew := (Below.refl _ _).drew
                    have hA := Nq.keep hN1 hqd
                    have hM := Nq.keep hN2 hqd
                    generalize V5.drew = Wd at *
                    have hS0 := HKS.out Wd hqd
                    refine anyI_tkG hF1 0 204 (v := ?_) rfl rfl (by kernel_rfl) (by kernel_rfl) (by kernel_rfl) (by kernel_rfl) (fun _ _ _ h => h) hS0 (by rfl) ?_ ?_
                    rotate_left
                    · intro W2 hSw; obtain ⟨r0, r1, r2, r3, r4, r5⟩ := hSw; go_simp; try with_reducible rfl
                    simp only [List.setIfInBounds_toArray, List.set_cons_zero, List.set_cons_succ]
                    refine anyI_tkG hF1 1 205 (v := ?_) rfl rfl (by kernel_rfl) (by kernel_rfl) (by kernel_rfl) (by kernel_rfl) (fun _ _ _ h => h) hS0 (by rfl) ?_ ?_
                    rotate_left
                    · intro W2 hSw; obtain ⟨r0, r1, r2, r3, r4, r5⟩ := hSw; go_simp; try with_reducible rfl
                    simp only [List.setIfInBounds_toArray, List.set_cons_zero, List.set_cons_succ]
                    refine anyI_tkG hF1 2 206 (v := ?_) rfl rfl (by kernel_rfl) (by kernel_rfl) (by kernel_rfl) (by kernel_rfl) (fun _ _ _ h => h) hS0 (by rfl) ?_ ?_
                    rotate_left
                    · intro W2 hSw; obtain ⟨r0, r1, r2, r3, r4, r5⟩ := hSw; go_simp; try with_reducible rfl
                    simp only [List.setIfInBounds_toArray, List.set_cons_zero, List.set_cons_succ]
                    refine anyI_tkG hF1 3 207 (v := ?_) rfl rfl (by kernel_rfl) (by kernel_rfl) (by kernel_rfl) (by kernel_rfl) (fun _ _ _ h => h) hS0 (by rfl) ?_ ?_
                    rotate_left
                    · intro W2 hSw; obtain ⟨r0, r1, r2, r3, r4, r5⟩ := hSw; go_simp; try with_reducible rfl
                    simp only [List.setIfInBounds_toArray, List.set_cons_zero, List.set_cons_succ]
                    refine anyI_tkG hF1 4 208 (v := ?_) rfl rfl (by kernel_rfl) (by kernel_rfl) (by kernel_rfl) (by kernel_rfl) (fun _ _ _ h => h) hS0 (by rfl) ?_ ?_
                    rotate_left
                    · intro W2 hSw; obtain ⟨r0, r1, r2, r3, r4, r5⟩ := hSw; go_simp; try with_reducible rfl
                    simp only [List.setIfInBounds_toArray, List.set_cons_zero, List.set_cons_succ]
                    refine anyI_tkG hF1 5 209 (v := ?_) rfl rfl (by kernel_rfl) (by kernel_rfl) (by kernel_rfl) (by kernel_rfl) (fun _ _ _ h => h) hS0 (by rfl) ?_ ?_
                    rotate_left
                    · intro W2 hSw; obtain ⟨r0, r1, r2, r3, r4, r5⟩ := hSw; go_simp; try with_reducible rfl
                    simp only [List.setIfInBounds_toArray, List.set_cons_zero, List.set_cons_succ]
                    refine anyI_tkG hF1 6 210 (v := ?_) rfl rfl (by kernel_rfl) (by kernel_rfl) (by kernel_rfl) (by kernel_rfl) (fun _ _ _ h => h) hS0 (by rfl) ?_ ?_
                    rotate_left
                    · intro W2 hSw; obtain ⟨r0, r1, r2, r3, r4, r5⟩ := hSw; go_simp; try with_reducible rfl
                    simp only [List.setIfInBounds_toArray, List.set_cons_zero, List.set_cons_succ]
                    refine anyI_tkG hF1 7 211 (v := ?_) rfl rfl (by kernel_rfl) (by kernel_rfl) (by kernel_rfl) (by kernel_rfl) (fun _ _ _ h => h) hS0 (by rfl) ?_ ?_
                    rotate_left
                    · intro W2 hSw; obtain ⟨r0, r1, r2, r3, r4, r5⟩ := hSw; go_simp; try with_reducible rfl
                    simp only [List.setIfInBounds_toArray, List.set_cons_zero, List.set_cons_succ]
                    refine anyI_tkG hF1 8 212 (v := ?_) rfl rfl (by kernel_rfl) (by kernel_rfl) (by kernel_rfl) (by kernel_rfl) (fun _ _ _ h => h) hS0 (by rfl) ?_ ?_
                    rotate_left
                    · intro W2 hSw; obtain ⟨r0, r1, r2, r3, r4, r5⟩ := hSw; go_simp; try with_reducible rfl
                    simp only [List.setIfInBounds_toArray, List.set_cons_zero, List.set_cons_succ]
                    refine anyI_call hF1 (fun h => absurd h (by decide)) 9 213 (w := Wd) rfl rfl (by kernel_rfl) (by kernel_rfl) (by rfl) (by go_simp; try with_reducible rfl) (callsIn_wide.2 (HWl.out Wd lf hqd hlb)) ?_
                    rintro e9 Vq20 ⟨v20, rfl, hv20, hb20⟩
                    replace hqd := low_trans hqd hb20
                    replace hS0 := HKS.out Vq20 hqd
                    replace hA := Nq.keep hA hb20
                    replace hM := Nq.keep hM hb20
                    obtain ⟨b20, q20, l20, c20, f20, m20, rfl, _, _⟩ := id (Dy.Nm.fields hv20)
                    refine ⟨_, rfl, hS0, ?_⟩
                    simp only [List.setIfInBounds_toArray, List.set_cons_zero, List.set_cons_succ]
                    refine anyI_call hF1 (fun h => absurd h (by decide)) 10 214 (w := Vq20) rfl rfl (by kernel_rfl) (by kernel_rfl) (by rfl) (by go_simp; try with_reducible rfl) (callsIn_wide.2 (HC.out Vq20 _ _ B1 (lf * 1048576) hqd hA hv20 (by omega))) ?_
                    rintro e9 Vq21 ⟨⟨s21, hs21, rfl⟩, hb21⟩
                    replace hqd := low_trans hqd hb21
                    replace hS0 := HKS.out Vq21 hqd
                    replace hA := Nq.keep hA hb21
                    replace hM := Nq.keep hM hb21
                    have hc21 : decide (s21 > 0) = false := by rw [decide_eq_false_iff_not]; omega
                    refine ⟨_, rfl, hS0, ?_⟩
                    simp only [List.setIfInBounds_toArray, List.set_cons_zero, List.set_cons_succ]
                    refine anyI_tkG hF1 11 215 (v := ?_) rfl rfl (by kernel_rfl) (by kernel_rfl) (by kernel_rfl) (by kernel_rfl) (fun _ _ _ h => h) hS0 (by rfl) ?_ ?_
                    rotate_left
                    · intro W2 hSw; obtain ⟨r0, r1, r2, r3, r4, r5⟩ := hSw; go_simp; try with_reducible rfl
                    simp only [List.setIfInBounds_toArray, List.set_cons_zero, List.set_cons_succ]
                    refine anyI_tkG hF1 12 216 (v := ?_) rfl rfl (by kernel_rfl) (by kernel_rfl) (by kernel_rfl) (by kernel_rfl) (fun _ _ _ h => h) hS0 (by rfl) ?_ ?_
                    rotate_left
                    · intro W2 hSw; obtain ⟨r0, r1, r2, r3, r4, r5⟩ := hSw; go_simp; try with_reducible rfl
                    simp only [List.setIfInBounds_toArray, List.set_cons_zero, List.set_cons_succ]
                    refine anyI_tkG hF1 13 217 (v := ?_) rfl rfl (by kernel_rfl) (by kernel_rfl) (by kernel_rfl) (by kernel_rfl) (fun _ _ _ h => h) hS0 (by rfl) ?_ ?_
                    rotate_left
                    · intro W2 hSw; obtain ⟨r0, r1, r2, r3, r4, r5⟩ := hSw; go_simp; try with_reducible rfl
                    simp only [List.setIfInBounds_toArray, List.set_cons_zero, List.set_cons_succ]
                    refine anyI_tkG hF1 14 218 (v := ?_) rfl rfl (by kernel_rfl) (by kernel_rfl) (by kernel_rfl) (by kernel_rfl) (fun _ _ _ h => h) hS0 (by rfl) ?_ ?_
                    rotate_left
                    · intro W2 hSw; obtain ⟨r0, r1, r2, r3, r4, r5⟩ := hSw; go_simp; try with_reducible rfl
                    simp only [List.setIfInBounds_toArray, List.set_cons_zero, List.set_cons_succ]
                    refine anyI_tkG hF1 15 219 (v := .bool true) rfl rfl (by kernel_rfl) (by kernel_rfl) (by kernel_rfl) (by kernel_rfl) (fun _ _ _ h => h) hS0 (by rfl) (fun W2 hSw => by go_simp; try with_reducible rfl) ?_
                    simp only [List.setIfInBounds_toArray, List.set_cons_zero, List.set_cons_succ]
                    refine anyI_tkG hF1 16 220 (v := ?_) rfl rfl (by kernel_rfl) (by kernel_rfl) (by kernel_rfl) (by kernel_rfl) (fun _ _ _ h => h) hS0 (by rfl) ?_ ?_
                    rotate_left
                    · intro W2 hSw; obtain ⟨r0, r1, r2, r3, r4, r5⟩ := hSw; go_simp; try with_reducible rfl
                    simp only [List.setIfInBounds_toArray, List.set_cons_zero, List.set_cons_succ]
                    refine anyI_tkG hF1 17 221 (v := ?_) rfl rfl (by kernel_rfl) (by kernel_rfl) (by kernel_rfl) (by kernel_rfl) (fun _ _ _ h => h) hS0 (by rfl) ?_ ?_
                    rotate_left
                    · intro W2 hSw; obtain ⟨r0, r1, r2, r3, r4, r5⟩ := hSw; go_simp; try with_reducible rfl
                    simp only [List.setIfInBounds_toArray, List.set_cons_zero, List.set_cons_succ]
                    refine anyI_tkG hF1 18 222 (v := ?_) rfl rfl (by kernel_rfl) (by kernel_rfl) (by kernel_rfl) (by kernel_rfl) (fun _ _ _ h => h) hS0 (by rfl) ?_ ?_
                    rotate_left
                    · intro W2 hSw; obtain ⟨r0, r1, r2, r3, r4, r5⟩ := hSw; go_simp; try with_reducible rfl
                    simp only [List.setIfInBounds_toArray, List.set_cons_zero, List.set_cons_succ]
                    refine anyI_call hF1 (fun h => absurd h (by decide)) 19 223 (w := Vq21) rfl rfl (by kernel_rfl) (by kernel_rfl) (by rfl) (by go_simp; try with_reducible rfl) (callsIn_wide.2 (HWl.out Vq21 lv2 hqd hl2)) ?_
                    rintro e9 Vq22 ⟨v22, rfl, hv22, hb22⟩
                    replace hqd := low_trans hqd hb22
                    replace hS0 := HKS.out Vq22 hqd
                    replace hA := Nq.keep hA hb22
                    replace hM := Nq.keep hM hb22
                    obtain ⟨b22, q22, l22, c22, f22, m22, rfl, _, _⟩ := id (Dy.Nm.fields hv22)
                    refine ⟨_, rfl, hS0, ?_⟩
                    simp only [List.setIfInBounds_toArray, List.set_cons_zero, List.set_cons_succ]
                    refine anyI_call hF1 (fun h => absurd h (by decide)) 20 224 (w := Vq22) rfl rfl (by kernel_rfl) (by kernel_rfl) (by rfl) (by go_simp; try with_reducible rfl) (callsIn_wide.2 (HC.out Vq22 _ _ B1 (lv2 * 1048576) hqd hA hv22 (by omega))) ?_
                    rintro e9 Vq23 ⟨⟨s23, hs23, rfl⟩, hb23⟩
                    replace hqd := low_trans hqd hb23
                    replace hS0 := HKS.out Vq23 hqd
                    replace hA := Nq.keep hA hb23
                    replace hM := Nq.keep hM hb23
                    have hc23 : decide (s23 > 0) = false := by rw [decide_eq_false_iff_not]; omega
                    refine ⟨_, rfl, hS0, ?_⟩
                    simp only [List.setIfInBounds_toArray, List.set_cons_zero, List.set_cons_succ]
                    refine anyI_tkG hF1 21 225 (v := ?_) rfl rfl (by kernel_rfl) (by kernel_rfl) (by kernel_rfl) (by kernel_rfl) (fun _ _ _ h => h) hS0 (by rfl) ?_ ?_
                    rotate_left
                    · intro W2 hSw; obtain ⟨r0, r1, r2, r3, r4, r5⟩ := hSw; go_simp; try with_reducible rfl
                    simp only [List.setIfInBounds_toArray, List.set_cons_zero, List.set_cons_succ]
                    refine anyI_tkG hF1 22 226 (v := ?_) rfl rfl (by kernel_rfl) (by kernel_rfl) (by kernel_rfl) (by kernel_rfl) (fun _ _ _ h => h) hS0 (by rfl) ?_ ?_
                    rotate_left
                    · intro W2 hSw; obtain ⟨r0, r1, r2, r3, r4, r5⟩ := hSw; go_simp; try with_reducible rfl
                    simp only [List.setIfInBounds_toArray, List.set_cons_zero, List.set_cons_succ]
                    refine anyI_tkG hF1 23 227 (v := ?_) rfl rfl (by kernel_rfl) (by kernel_rfl) (by kernel_rfl) (by kernel_rfl) (fun _ _ _ h => h) hS0 (by rfl) ?_ ?_
                    rotate_left
                    · intro W2 hSw; obtain ⟨r0, r1, r2, r3, r4, r5⟩ := hSw; go_simp; try with_reducible rfl
                    simp only [List.setIfInBounds_toArray, List.set_cons_zero, List.set_cons_succ]
                    refine anyI_tkG hF1 24 228 (v := ?_) rfl rfl (by kernel_rfl) (by kernel_rfl) (by kernel_rfl) (by kernel_rfl) (fun _ _ _ h => h) hS0 (by rfl) ?_ ?_
                    rotate_left
                    · intro W2 hSw; obtain ⟨r0, r1, r2, r3, r4, r5⟩ := hSw; go_simp; try with_reducible rfl
                    simp only [List.setIfInBounds_toArray, List.set_cons_zero, List.set_cons_succ]
                    refine anyI_tkG hF1 25 229 (v := ?_) rfl rfl (by kernel_rfl) (by kernel_rfl) (by kernel_rfl) (by kernel_rfl) (fun _ _ _ h => h) hS0 (by rfl) ?_ ?_
                    rotate_left
                    · intro W2 hSw; obtain ⟨r0, r1, r2, r3, r4, r5⟩ := hSw; go_simp; try with_reducible rfl
                    simp only [List.setIfInBounds_toArray, List.set_cons_zero, List.set_cons_succ]
                    refine anyI_tkG hF1 26 230 (v := ?_) rfl rfl (by kernel_rfl) (by kernel_rfl) (by kernel_rfl) (by kernel_rfl) (fun _ _ _ h => h) hS0 (by rfl) ?_ ?_
                    rotate_left
                    · intro W2 hSw; obtain ⟨r0, r1, r2, r3, r4, r5⟩ := hSw; go_simp; try with_reducible rfl
                    simp only [List.setIfInBounds_toArray, List.set_cons_zero, List.set_cons_succ]
                    refine anyI_call hF1 (fun h => absurd h (by decide)) 27 231 (w := Vq23) rfl rfl (by kernel_rfl) (by kernel_rfl) (by rfl) (by go_simp; try with_reducible rfl) (callsIn_wide.2 (HC.out Vq23 _ _ B2 B1 hqd hM hA (by omega))) ?_
                    rintro e9 Vq24 ⟨⟨s24, hs24, rfl⟩, hb24⟩
                    replace hqd := low_trans hqd hb24
                    replace hS0 := HKS.out Vq24 hqd
                    replace hA := Nq.keep hA hb24
                    replace hM := Nq.keep hM hb24
                    have hc24 : decide (s24 > 0) = false := by rw [decide_eq_false_iff_not]; omega
                    refine ⟨_, rfl, hS0, ?_⟩
                    simp only [List.setIfInBounds_toArray, List.set_cons_zero, List.set_cons_succ]
                    refine anyI_tkG hF1 28 232 (v := ?_) rfl rfl (by kernel_rfl) (by kernel_rfl) (by kernel_rfl) (by kernel_rfl) (fun _ _ _ h => h) hS0 (by rfl) ?_ ?_
                    rotate_left
                    · intro W2 hSw; obtain ⟨r0, r1, r2, r3, r4, r5⟩ := hSw; go_simp; try with_reducible rfl
                    simp only [List.setIfInBounds_toArray, List.set_cons_zero, List.set_cons_succ]
                    refine anyI_tkG hF1 29 233 (v := ?_) rfl rfl (by kernel_rfl) (by kernel_rfl) (by kernel_rfl) (by kernel_rfl) (fun _ _ _ h => h) hS0 (by rfl) ?_ ?_
                    rotate_left
                    · intro W2 hSw; obtain ⟨r0, r1, r2, r3, r4, r5⟩ := hSw; go_simp; try with_reducible rfl
                    simp only [List.setIfInBounds_toArray, List.set_cons_zero, List.set_cons_succ]
                    refine anyI_done (by kernel_rfl) ?_ _
                    go_wp2_with fail
                    exact ⟨⟨j + 1, by omega, by go_num, low_trans HBr.out hqd⟩, by simp [intOf]; omega⟩
                  · have hne : (E2 == 0) = false := by simpa using h0
                    have hne2 : decide (E2 = 0) = false := decide_eq_false h0
                    clear g3
                    have HKS := Lib.hid hKP
                    clear hKP hS0 hS1 x0 x1 x2 x3 x4 x5 hd0 hd1
                    refine (wpIn_wide (n := 5)).1 ?_
                    refine wpIn_region_I (fun W2 : World => W2.cell? ⟨T36, 0, none⟩ = some (.bool b6) ∧ W2.cell? ⟨T36, 1, none⟩ = some (.slice q6 l6 c6) ∧ W2.cell? ⟨T36, 2, none⟩ = some (.int .i64 f6) ∧ W2.cell? ⟨T38, 0, none⟩ = some (.bool b8) ∧ W2.cell? ⟨T38, 1, none⟩ = some (.slice q8 l8 c8) ∧ W2.cell? ⟨T38, 2, none⟩ = some (.int .i64 f8)) (by kernel_rfl) ?_
                    change anyI _ _ _ _ _ _ _ 30 (Array.replicate 30 false) _ _
                    have hqd : Below V5.heap.size V5 V5.drew := (Below.refl _ _).drew
                    have hA := Nq.keep hN1 hqd
                    have hM := Nq.keep hN2 hqd
                    generalize V5.drew = Wd at *
                    have hS0 := HKS.out Wd hqd
                    refine anyI_tkG hF1 0 204 (v := ?_) rfl rfl (by kernel_rfl) (by kernel_rfl) (by kernel_rfl) (by kernel_rfl) (fun _ _ _ h => h) hS0 (by rfl) ?_ ?_
                    rotate_left
                    · intro W2 hSw; obtain ⟨r0, r1, r2, r3, r4, r5⟩ := hSw; go_simp; try with_reducible rfl
                    simp only [List.setIfInBounds_toArray, List.set_cons_zero, List.set_cons_succ]
                    refine anyI_tkG hF1 1 205 (v := ?_) rfl rfl (by kernel_rfl) (by kernel_rfl) (by kernel_rfl) (by kernel_rfl) (fun _ _ _ h => h) hS0 (by rfl) ?_ ?_
                    rotate_left
                    · intro W2 hSw; obtain ⟨r0, r1, r2, r3, r4, r5⟩ := hSw; go_simp; try with_reducible rfl
                    simp only [List.setIfInBounds_toArray, List.set_cons_zero, List.set_cons_succ]
                    refine anyI_tkG hF1 2 206 (v := ?_) rfl rfl (by kernel_rfl) (by kernel_rfl) (by kernel_rfl) (by kernel_rfl) (fun _ _ _ h => h) hS0 (by rfl) ?_ ?_
                    rotate_left
                    · intro W2 hSw; obtain ⟨r0, r1, r2, r3, r4, r5⟩ := hSw; go_simp; try with_reducible rfl
                    simp only [List.setIfInBounds_toArray, List.set_cons_zero, List.set_cons_succ]
                    refine anyI_tkG hF1 3 207 (v := ?_) rfl rfl (by kernel_rfl) (by kernel_rfl) (by kernel_rfl) (by kernel_rfl) (fun _ _ _ h => h) hS0 (by rfl) ?_ ?_
                    rotate_left
                    · intro W2 hSw; obtain ⟨r0, r1, r2, r3, r4, r5⟩ := hSw; go_simp; try with_reducible rfl
                    simp only [List.setIfInBounds_toArray, List.set_cons_zero, List.set_cons_succ]
                    refine anyI_tkG hF1 4 208 (v := ?_) rfl rfl (by kernel_rfl) (by kernel_rfl) (by kernel_rfl) (by kernel_rfl) (fun _ _ _ h => h) hS0 (by rfl) ?_ ?_
                    rotate_left
                    · intro W2 hSw; obtain ⟨r0, r1, r2, r3, r4, r5⟩ := hSw; go_simp; try with_reducible rfl
                    simp only [List.setIfInBounds_toArray, List.set_cons_zero, List.set_cons_succ]
                    refine anyI_tkG hF1 5 209 (v := ?_) rfl rfl (by kernel_rfl) (by kernel_rfl) (by kernel_rfl) (by kernel_rfl) (fun _ _ _ h => h) hS0 (by rfl) ?_ ?_
                    rotate_left
                    · intro W2 hSw; obtain ⟨r0, r1, r2, r3, r4, r5⟩ := hSw; go_simp; try with_reducible rfl
                    simp only [List.setIfInBounds_toArray, List.set_cons_zero, List.set_cons_succ]
                    refine anyI_tkG hF1 6 210 (v := ?_) rfl rfl (by kernel_rfl) (by kernel_rfl) (by kernel_rfl) (by kernel_rfl) (fun _ _ _ h => h) hS0 (by rfl) ?_ ?_
                    rotate_left
                    · intro W2 hSw; obtain ⟨r0, r1, r2, r3, r4, r5⟩ := hSw; go_simp; try with_reducible rfl
                    simp only [List.setIfInBounds_toArray, List.set_cons_zero, List.set_cons_succ]
                    refine anyI_tkG hF1 7 211 (v := ?_) rfl rfl (by kernel_rfl) (by kernel_rfl) (by kernel_rfl) (by kernel_rfl) (fun _ _ _ h => h) hS0 (by rfl) ?_ ?_
                    rotate_left
                    · intro W2 hSw; obtain ⟨r0, r1, r2, r3, r4, r5⟩ := hSw; go_simp; try with_reducible rfl
                    simp only [List.setIfInBounds_toArray, List.set_cons_zero, List.set_cons_succ]
                    refine anyI_tkG hF1 8 212 (v := ?_) rfl rfl (by kernel_rfl) (by kernel_rfl) (by kernel_rfl) (by kernel_rfl) (fun _ _ _ h => h) hS0 (by rfl) ?_ ?_
                    rotate_left
                    · intro W2 hSw; obtain ⟨r0, r1, r2, r3, r4, r5⟩ := hSw; go_simp; try with_reducible rfl
                    simp only [List.setIfInBounds_toArray, List.set_cons_zero, List.set_cons_succ]
                    refine anyI_call hF1 (fun h => absurd h (by decide)) 9 213 (w := Wd) rfl rfl (by kernel_rfl) (by kernel_rfl) (by rfl) (by go_simp; try with_reducible rfl) (callsIn_wide.2 (HWl.out Wd lf hqd hlb)) ?_
                    rintro e9 Vq20 ⟨v20, rfl, hv20, hb20⟩
                    replace hqd := low_trans hqd hb20
                    replace hS0 := HKS.out Vq20 hqd
                    replace hA := Nq.keep hA hb20
                    replace hM := Nq.keep hM hb20
                    obtain ⟨b20, q20, l20, c20, f20, m20, rfl, _, _⟩ := id (Dy.Nm.fields hv20)
                    refine ⟨_, rfl, hS0, ?_⟩
                    simp only [List.setIfInBounds_toArray, List.set_cons_zero, List.set_cons_succ]
                    refine anyI_call hF1 (fun h => absurd h (by decide)) 10 214 (w := Vq20) rfl rfl (by kernel_rfl) (by kernel_rfl) (by rfl) (by go_simp; try with_reducible rfl) (callsIn_wide.2 (HC.out Vq20 _ _ B1 (lf * 1048576) hqd hA hv20 (by omega))) ?_
                    rintro e9 Vq21 ⟨⟨s21, hs21, rfl⟩, hb21⟩
                    replace hqd := low_trans hqd hb21
                    replace hS0 := HKS.out Vq21 hqd
                    replace hA := Nq.keep hA hb21
                    replace hM := Nq.keep hM hb21
                    have hc21 : decide (s21 > 0) = false := by rw [decide_eq_false_iff_not]; omega
                    refine ⟨_, rfl, hS0, ?_⟩
                    simp only [List.setIfInBounds_toArray, List.set_cons_zero, List.set_cons_succ]
                    refine anyI_tkG hF1 11 215 (v := ?_) rfl rfl (by kernel_rfl) (by kernel_rfl) (by kernel_rfl) (by kernel_rfl) (fun _ _ _ h => h) hS0 (by rfl) ?_ ?_
                    rotate_left
                    · intro W2 hSw; obtain ⟨r0, r1, r2, r3, r4, r5⟩ := hSw; go_simp; try with_reducible rfl
                    simp only [List.setIfInBounds_toArray, List.set_cons_zero, List.set_cons_succ]
                    refine anyI_tkG hF1 12 216 (v := ?_) rfl rfl (by kernel_rfl) (by kernel_rfl) (by kernel_rfl) (by kernel_rfl) (fun _ _ _ h => h) hS0 (by rfl) ?_ ?_
                    rotate_left
                    · intro W2 hSw; obtain ⟨r0, r1, r2, r3, r4, r5⟩ := hSw; go_simp; try with_reducible rfl
                    simp only [List.setIfInBounds_toArray, List.set_cons_zero, List.set_cons_succ]
                    refine anyI_tkG hF1 13 217 (v := ?_) rfl rfl (by kernel_rfl) (by kernel_rfl) (by kernel_rfl) (by kernel_rfl) (fun _ _ _ h => h) hS0 (by rfl) ?_ ?_
                    rotate_left
                    · intro W2 hSw; obtain ⟨r0, r1, r2, r3, r4, r5⟩ := hSw; go_simp; try with_reducible rfl
                    simp only [List.setIfInBounds_toArray, List.set_cons_zero, List.set_cons_succ]
                    refine anyI_tkG hF1 14 218 (v := ?_) rfl rfl (by kernel_rfl) (by kernel_rfl) (by kernel_rfl) (by kernel_rfl) (fun _ _ _ h => h) hS0 (by rfl) ?_ ?_
                    rotate_left
                    · intro W2 hSw; obtain ⟨r0, r1, r2, r3, r4, r5⟩ := hSw; go_simp; try with_reducible rfl
                    simp only [List.setIfInBounds_toArray, List.set_cons_zero, List.set_cons_succ]
                    refine anyI_tkG hF1 15 219 (v := .bool false) rfl rfl (by kernel_rfl) (by kernel_rfl) (by kernel_rfl) (by kernel_rfl) (fun _ _ _ h => h) hS0 (by rfl) (fun W2 hSw => by go_simp; try (simp [h0])) ?_
                    simp only [List.setIfInBounds_toArray, List.set_cons_zero, List.set_cons_succ]
                    refine anyI_tkG hF1 16 220 (v := ?_) rfl rfl (by kernel_rfl) (by kernel_rfl) (by kernel_rfl) (by kernel_rfl) (fun _ _ _ h => h) hS0 (by rfl) ?_ ?_
                    rotate_left
                    · intro W2 hSw; obtain ⟨r0, r1, r2, r3, r4, r5⟩ := hSw; go_simp; try with_reducible rfl
                    simp only [List.setIfInBounds_toArray, List.set_cons_zero, List.set_cons_succ]
                    refine anyI_tkN hF1 17 221 rfl rfl (by kernel_rfl) (by kernel_rfl) (by kernel_rfl) (by kernel_rfl) (fun _ _ _ h => h) hS0 (by rfl) ?_
                    simp only [List.setIfInBounds_toArray, List.set_cons_zero, List.set_cons_succ]
                    refine anyI_tkN hF1 18 222 rfl rfl (by kernel_rfl) (by kernel_rfl) (by kernel_rfl) (by kernel_rfl) (fun _ _ _ h => h) hS0 (by rfl) ?_
                    simp only [List.setIfInBounds_toArray, List.set_cons_zero, List.set_cons_succ]
                    refine anyI_pss hF1 19 223 rfl rfl (by kernel_rfl) (by rfl) hS0 ?_
                    simp only [List.setIfInBounds_toArray, List.set_cons_zero, List.set_cons_succ]
                    refine anyI_pss hF1 20 224 rfl rfl (by kernel_rfl) (by rfl) hS0 ?_
                    simp only [List.setIfInBounds_toArray, List.set_cons_zero, List.set_cons_succ]
                    refine anyI_tkN hF1 21 225 rfl rfl (by kernel_rfl) (by kernel_rfl) (by kernel_rfl) (by kernel_rfl) (fun _ _ _ h => h) hS0 (by rfl) ?_
                    simp only [List.setIfInBounds_toArray, List.set_cons_zero, List.set_cons_succ]
                    refine anyI_tkG hF1 22 226 (v := ?_) rfl rfl (by kernel_rfl) (by kernel_rfl) (by kernel_rfl) (by kernel_rfl) (fun _ _ _ h => h) hS0 (by rfl) ?_ ?_
                    rotate_left
                    · intro W2 hSw; obtain ⟨r0, r1, r2, r3, r4, r5⟩ := hSw; go_simp; try with_reducible rfl
                    simp only [List.setIfInBounds_toArray, List.set_cons_zero, List.set_cons_succ]
                    refine anyI_tkG hF1 23 227 (v := ?_) rfl rfl (by kernel_rfl) (by kernel_rfl) (by kernel_rfl) (by kernel_rfl) (fun _ _ _ h => h) hS0 (by rfl) ?_ ?_
                    rotate_left
                    · intro W2 hSw; obtain ⟨r0, r1, r2, r3, r4, r5⟩ := hSw; go_simp; try with_reducible rfl
                    simp only [List.setIfInBounds_toArray, List.set_cons_zero, List.set_cons_succ]
                    refine anyI_tkG hF1 24 228 (v := ?_) rfl rfl (by kernel_rfl) (by kernel_rfl) (by kernel_rfl) (by kernel_rfl) (fun _ _ _ h => h) hS0 (by rfl) ?_ ?_
                    rotate_left
                    · intro W2 hSw; obtain ⟨r0, r1, r2, r3, r4, r5⟩ := hSw; go_simp; try with_reducible rfl
                    simp only [List.setIfInBounds_toArray, List.set_cons_zero, List.set_cons_succ]
                    refine anyI_tkG hF1 25 229 (v := ?_) rfl rfl (by kernel_rfl) (by kernel_rfl) (by kernel_rfl) (by kernel_rfl) (fun _ _ _ h => h) hS0 (by rfl) ?_ ?_
                    rotate_left
                    · intro W2 hSw; obtain ⟨r0, r1, r2, r3, r4, r5⟩ := hSw; go_simp; try with_reducible rfl
                    simp only [List.setIfInBounds_toArray, List.set_cons_zero, List.set_cons_succ]
                    refine anyI_tkG hF1 26 230 (v := ?_) rfl rfl (by kernel_rfl) (by kernel_rfl) (by kernel_rfl) (by kernel_rfl) (fun _ _ _ h => h) hS0 (by rfl) ?_ ?_
                    rotate_left
                    · intro W2 hSw; obtain ⟨r0, r1, r2, r3, r4, r5⟩ := hSw; go_simp; try with_reducible rfl
                    simp only [List.setIfInBounds_toArray, List.set_cons_zero, List.set_cons_succ]
                    refine anyI_call hF1 (fun h => absurd h (by decide)) 27 231 (w := Vq21) rfl rfl (by kernel_rfl) (by kernel_rfl) (by rfl) (by go_simp; try with_reducible rfl) (callsIn_wide.2 (HC.out Vq21 _ _ B2 B1 hqd hM hA (by omega))) ?_
                    rintro e9 Vq24 ⟨⟨s24, hs24, rfl⟩, hb24⟩
                    replace hqd := low_trans hqd hb24
                    replace hS0 := HKS.out Vq24 hqd
                    replace hA := Nq.keep hA hb24
                    replace hM := Nq.keep hM hb24
                    have hc24 : decide (s24 > 0) = false := by rw [decide_eq_false_iff_not]; omega
                    refine ⟨_, rfl, hS0, ?_⟩
                    simp only [List.setIfInBounds_toArray, List.set_cons_zero, List.set_cons_succ]
                    refine anyI_tkG hF1 28 232 (v := ?_) rfl rfl (by kernel_rfl) (by kernel_rfl) (by kernel_rfl) (by kernel_rfl) (fun _ _ _ h => h) hS0 (by rfl) ?_ ?_
                    rotate_left
                    · intro W2 hSw; obtain ⟨r0, r1, r2, r3, r4, r5⟩ := hSw; go_simp; try with_reducible rfl
                    simp only [List.setIfInBounds_toArray, List.set_cons_zero, List.set_cons_succ]
                    refine anyI_tkG hF1 29 233 (v := ?_) rfl rfl (by kernel_rfl) (by kernel_rfl) (by kernel_rfl) (by kernel_rfl) (fun _ _ _ h => h) hS0 (by rfl) ?_ ?_
                    rotate_left
                    · intro W2 hSw; obtain ⟨r0, r1, r2, r3, r4, r5⟩ := hSw; go_simp; try with_reducible rfl
                    simp only [List.setIfInBounds_toArray, List.set_cons_zero, List.set_cons_succ]
                    refine anyI_done (by kernel_rfl) ?_ _
                    go_wp2_with fail
                    exact ⟨⟨j + 1, by omega, by go_num, low_trans HBr.out hqd⟩, by simp [intOf]; omega⟩
                · obtain rfl : j = i + 1 := by omega
                  have HBe := Lib.hid (low_trans HS.out.bel HB2.out)
                  go_wp2_with fail
                  refine (HAw.out _ HBe.out).mono ?_
                  rintro e w' ⟨rfl, hb⟩
                  have HB9 := Lib.hid (low_trans HB0.out (low_trans HBe.out hb))
                  clear hb
                  go_wp2_with fail
                  go_ret
                  exact ⟨rfl, HB9.out⟩
end Go.Proofs.YtlphlbgbbblnpaaGreatDoor
