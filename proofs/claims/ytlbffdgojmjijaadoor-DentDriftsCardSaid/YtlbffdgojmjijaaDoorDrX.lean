/-
  WALKS: the law of DentDrifts (60 s).
-/
import Derived.Test.YtlbffdgojmjijaaDoorDrJ
import Derived.Test.YtlbffdgojmjijaaDoorDeH
import Derived.BigQuiet
import Derived.BigRegion
import Derived.LoopN
namespace Go.Proofs.YtlbffdgojmjijaaDoor
open Go.RowKit

theorem tri_keep {w W : World} {a : Option Addr} {n : Nat} {s : Nat → Int} (h : St w a n s) (hB : Below w.heap.size w W) : St W a n s := fun hn => by
  obtain ⟨b, o, e, hc⟩ := h hn
  exact ⟨b, o, e, fun i hi => (hB.cell (p := ⟨b, o + i, none⟩) (World.block_lt_of_cell? _ _ (hc i hi))).trans (hc i hi)⟩

/-- What the inner loop of DentDrifts keeps: U, the tie's step, and what is left. -/
structure DrR (W6 V : World) (P T : Nat) (U s l0 l1 l2 : Int) : Prop where
  u : V.cell? ⟨P, 3, none⟩ = some (.int .i64 U)
  t : V.cell? ⟨T, 0, none⟩ = some (.int .i64 s)
  l : V.heap[W6.heap.size]? = some (.cells #[.int .i64 l0, .int .i64 l1, .int .i64 l2] 39 (0, 0))
  b : Below W6.heap.size W6 V
theorem DrR.alloc {W6 V : World} {P T : Nat} {U s l0 l1 l2 : Int} (h : DrR W6 V P T U s l0 l1 l2) (o : Obj) : DrR W6 (V.alloc o) P T U s l0 l1 l2 :=
  ⟨(((Below.refl V.heap.size V).alloc (Nat.le_refl _) o).cell (p := ⟨P, 3, none⟩) (World.block_lt_of_cell? _ _ h.u)).trans h.u, (((Below.refl V.heap.size V).alloc (Nat.le_refl _) o).cell (p := ⟨T, 0, none⟩) (World.block_lt_of_cell? _ _ h.t)).trans h.t, al_old h.l o, h.b.alloc h.b.size o⟩
theorem DrR.drewN {W6 V : World} {P T : Nat} {U s l0 l1 l2 : Int} (h : DrR W6 V P T U s l0 l1 l2) (n : Nat) : DrR W6 (V.drewN n) P T U s l0 l1 l2 := ⟨h.u, h.t, h.l, below_drewN h.b n⟩
theorem DrR.drew {W6 V : World} {P T : Nat} {U s l0 l1 l2 : Int} (h : DrR W6 V P T U s l0 l1 l2) : DrR W6 V.drew P T U s l0 l1 l2 := ⟨h.u, h.t, h.l, h.b.drew⟩
theorem DrR.oth {W6 V : World} {c k o : Nat} {v : Value} (hk : k ≠ W6.heap.size) : (V.setCell ⟨W6.heap.size, c, none⟩ v).cell? ⟨k, o, none⟩ = V.cell? ⟨k, o, none⟩ := by
  have h := Below.heap_setCell V ⟨W6.heap.size, c, none⟩ v k (by show k ≠ W6.heap.size; exact hk)
  simp only [World.cell?, h]
theorem DrR.set0 {W6 V : World} {P T : Nat} {U s l0 l1 l2 : Int} (h : DrR W6 V P T U s l0 l1 l2) (hP : P < W6.heap.size) (hT : W6.heap.size < T) (v : Int) : DrR W6 (V.setCell ⟨W6.heap.size, 0, none⟩ (.int .i64 v)) P T U s v l1 l2 :=
  ⟨(DrR.oth (by omega)).trans h.u, (DrR.oth (by omega)).trans h.t, by rw [heap_set h.l]; rfl, h.b.setCell (Nat.le_refl _) _⟩
theorem DrR.set1 {W6 V : World} {P T : Nat} {U s l0 l1 l2 : Int} (h : DrR W6 V P T U s l0 l1 l2) (hP : P < W6.heap.size) (hT : W6.heap.size < T) (v : Int) : DrR W6 (V.setCell ⟨W6.heap.size, 1, none⟩ (.int .i64 v)) P T U s l0 v l2 :=
  ⟨(DrR.oth (by omega)).trans h.u, (DrR.oth (by omega)).trans h.t, by rw [heap_set h.l]; rfl, h.b.setCell (Nat.le_refl _) _⟩
theorem DrR.set2 {W6 V : World} {P T : Nat} {U s l0 l1 l2 : Int} (h : DrR W6 V P T U s l0 l1 l2) (hP : P < W6.heap.size) (hT : W6.heap.size < T) (v : Int) : DrR W6 (V.setCell ⟨W6.heap.size, 2, none⟩ (.int .i64 v)) P T U s l0 l1 v :=
  ⟨(DrR.oth (by omega)).trans h.u, (DrR.oth (by omega)).trans h.t, by rw [heap_set h.l]; rfl, h.b.setCell (Nat.le_refl _) _⟩

set_option maxRecDepth 100000 in
set_option maxHeartbeats 16000000 in
theorem dentDrifts_law (w : World) (a : Option Addr) (n c : Nat) (s : Nat → Int) (b : Option Addr) (p c1 : Nat) (y : Nat → Int) (d : Option Addr) (q c2 : Nat) (t : Nat → Int) (o0 o1 o2 : Int)
    (hn : n ≤ maxLen) (hS : St w a n s) (hs : ∀ i, i < n * 3 → -128 ≤ s i ∧ s i ≤ 127) (hY : 0 < p → ∃ g o, b = some (⟨g, o, none⟩ : Addr) ∧ ∀ i, i < p → w.cell? ⟨g, o + i, none⟩ = some (.int .u8 (y i))) (hy : ∀ i, i < p → 0 ≤ y i ∧ y i ≤ 255) (hM : St w d q t) (ht : ∀ i, i < q * 3 → -128 ≤ t i ∧ t i ≤ 127)
    (h0 : -128 ≤ o0 ∧ o0 ≤ 127) (h1 : -128 ≤ o1 ∧ o1 ≤ 127) (h2 : -128 ≤ o2 ∧ o2 ≤ 127) (hT : Dy.Tab w) :
    Calls Tryd.prog 4 #[.slice a n c, .slice b p c1, .slice d q c2, .agg #[.int .i8 o0, .int .i8 o1, .int .i8 o2]] w fun e w' => e = .returned (.bool true) ∧ Below w.heap.size w w' := by
  have HK : Hid (∀ W, Below w.heap.size w W → Calls Tryd.prog 8 #[] W fun e w' => e = .returned (.bool true) ∧ Below W.heap.size W w') := fun W hW => awake7_of W (hT.keep hW)
  have HWy : Hid (∀ W, Below w.heap.size w W → Calls Tryd.prog 6 #[.slice a n c] W fun e W' => ∃ x m c' f, e = .returned (.slice x m c') ∧ Sl W' 3 x m f ∧ (1 ≤ m ∧ m ≤ 12) ∧ (∀ i, i < m * 3 → -300 ≤ f i ∧ f i ≤ 300) ∧ Below W.heap.size W W') := fun W hW => way_of W a n c s hn hs (tri_keep hS hW)
  have HFx : Hid (∀ W x m c' f, Below w.heap.size w W → m ≤ 12 → VsOk m f → Sl W 3 x m f → Calls Tryd.prog 7 #[.slice x m c', .slice b p c1, .slice d q c2] W fun e W' => ∃ x k c' F, e = .returned (.slice x k c') ∧ Sl W' 4 x k F ∧ k ≤ 3 ∧ TieP m f F k ∧ Below W.heap.size W W') := fun W x m c' f hW hm hf hSl => fixed_of W x b d m c' p c1 q c2 f t y hm hf hSl (fun hp => by
    obtain ⟨g, o, e, hc⟩ := hY hp
    exact ⟨g, o, e, fun i hi => (hW.cell (p := ⟨g, o + i, none⟩) (World.block_lt_of_cell? _ _ (hc i hi))).trans (hc i hi)⟩) hy (tri_keep hM hW) ht
  clear hT hS hs hY hy hM ht hn
  go_enter Tryd.func4, Tryd.ntmps4
  go_wp2_with fail
  obtain ⟨W0, hW0⟩ : ∃ W0, w.alloc (.cells #[.int .i8 o0, .int .i8 o1, .int .i8 o2] 45) = W0 := ⟨_, rfl⟩
  rw [hW0]
  have hB0 : Below w.heap.size w W0 := by rw [← hW0]; exact (Below.refl _ _).alloc (Nat.le_refl _) _
  have hA0 : W0.heap[w.heap.size]? = some (.cells #[.int .i8 o0, .int .i8 o1, .int .i8 o2] 45 (0, 0)) := by rw [← hW0]; exact World.alloc_heap_new w _
  have hl0 : w.heap.size < W0.heap.size := (Array.getElem?_eq_some_iff.1 hA0).1
  have HA0 := Lib.hid hA0
  have HB0 := Lib.hid hB0
  clear hW0 hA0 hB0
  refine (HWy.out W0 HB0.out).mono ?_
  rintro e W1 ⟨x, m, c', f, rfl, hSl, hm, hfb, hB1⟩
  have HS1 := Lib.hid hSl
  have HOk := Lib.hid (vsok_of hm hfb)
  have HB1 := Lib.hid (HB0.out.trans (hB1.mono HB0.out.size))
  have HA1 := Lib.hid ((hB1.block _ hl0).trans HA0.out)
  clear hSl hfb hB1 HB0 HA0 HWy
  go_wp2_with fail
  refine (HFx.out W1 x m c' f HB1.out hm.2 HOk.out HS1.out).mono ?_
  rintro e W2 ⟨tx, k, tc, F, rfl, hTl, hk, hP, hB2⟩
  have HT2 := Lib.hid hTl
  have HP := Lib.hid hP
  have HS2 := Lib.hid (HS1.out.keep (by decide) hB2)
  have HA2 := Lib.hid ((hB2.block _ (Array.getElem?_eq_some_iff.1 HA1.out).1).trans HA1.out)
  have HB2 := Lib.hid (HB1.out.trans (hB2.mono HB1.out.size))
  clear hTl hP hB2 HB1 HA1 HS1 HFx
  go_wp2_with fail
  refine (HK.out W2 HB2.out).mono ?_
  rintro e W3 ⟨rfl, hB3⟩
  have HT3 := Lib.hid (HT2.out.keep (by decide) hB3)
  have HS3 := Lib.hid (HS2.out.keep (by decide) hB3)
  have HA3 := Lib.hid ((hB3.block _ (Array.getElem?_eq_some_iff.1 HA2.out).1).trans HA2.out)
  have HB3 := Lib.hid (HB2.out.trans (hB3.mono HB2.out.size))
  clear hB3 HB2 HA2 HT2 HS2
  by_cases hk0 : k = 0
  · subst hk0
    go_wp2_with fail
    refine (HK.out W3 HB3.out).mono ?_
    rintro e W4 ⟨rfl, hB4⟩
    have HB4 := Lib.hid (HB3.out.trans (hB4.mono HB3.out.size))
    clear hB4
    go_wp2_with fail
    go_ret
    exact ⟨rfl, HB4.out⟩
  have hk1 : 1 ≤ k := by omega
  have ek : ¬(k : Int) = 0 := by omega
  have HTs : Hid (TsOk m k F) := tsok_of HOk.out ⟨hk1, hk⟩ HP.out
  obtain ⟨tb, tq, rfl, hI3⟩ := HT3.out (by omega)
  have HI3 := Lib.hid hI3
  clear hI3
  go_wp2_with fail
  refine (drift_of W3 x (some ⟨tb, tq, none⟩) m c' k tc f F HOk.out HTs.out HS3.out HT3.out (fun i hi => ⟨by have := ms_small HP.out hi (j := 0) (by omega); rw [Nat.add_zero] at this; unfold Sm; omega, by have := ms_small HP.out hi (j := 1) (by omega); unfold Sm; omega, by have := ms_small HP.out hi (j := 2) (by omega); unfold Sm; omega⟩)).mono ?_
  rintro e W4 ⟨⟨D0, D1, D2, U, g, rfl, e0, e1, e2, e3, hg⟩, hB4⟩
  have HE := Lib.hid (And.intro e0 (And.intro e1 (And.intro e2 e3)))
  have HB4 := Lib.hid (HB3.out.trans (hB4.mono HB3.out.size))
  have HS4 := Lib.hid (HS3.out.keep (by decide) hB4)
  have HT4 := Lib.hid (HT3.out.keep (by decide) hB4)
  have HI4 := Lib.hid (HI3.out.keep hB4 (HI3.out.lt (by omega)))
  have HA4 := Lib.hid ((hB4.block _ (Array.getElem?_eq_some_iff.1 HA3.out).1).trans HA3.out)
  clear e0 e1 e2 e3 hB4 HB3 HS3 HT3 HI3 HA3 HK
  have hx : ∀ i, i < k → ∀ j, j < 3 → -128 ≤ msV f F (i * 3 + j) ∧ msV f F (i * 3 + j) ≤ 127 := fun i hi j hj => ms_small HP.out hi hj
  have hsb : ∀ i, i < k → 1 ≤ F (i * 4) ∧ F (i * 4) ≤ 12 := fun i hi => by have := (HP.out.1 i hi).1; omega
  have hq0 : sumI (fun i => F (i * 4) * msV f F (i * 3)) k = g * D0 := by rw [← HE.out.1, smD_sum]
  have hq1 : sumI (fun i => F (i * 4) * msV f F (i * 3 + 1)) k = g * D1 := by rw [← HE.out.2.1, smD_sum]
  have hq2 : sumI (fun i => F (i * 4) * msV f F (i * 3 + 2)) k = g * D2 := by rw [← HE.out.2.2.1, smD_sum]
  have hqU : sumI (fun i => F (i * 4) * F (i * 4)) k = g * U := by rw [← HE.out.2.2.2, smD_sum]
  have hx0 : ∀ i, i < k → -128 ≤ msV f F (i * 3) ∧ msV f F (i * 3) ≤ 127 := fun i hi => by have := hx i hi 0 (by omega); rwa [Nat.add_zero] at this
  have hx1 := fun i hi => hx i hi 1 (by omega)
  have hx2 := fun i hi => hx i hi 2 (by omega)
  have bq : ∀ {x : Nat → Int}, (∀ i, i < k → -128 ≤ x i ∧ x i ≤ 127) → ∀ {D : Int}, sumI (fun i => F (i * 4) * x i) k = g * D → -4608 ≤ D ∧ D ≤ 4608 := fun {x} hxx {D} e => by
    have h := sumI_bd (g := fun i => F (i * 4) * x i) (B := 1536) (k := k) (fun i hi => by
      have := mb (a := F (i * 4)) (b := x i) (A := 12) (B := 128) (by have := hsb i hi; omega) (by have := hxx i hi; omega)
      omega) k (Nat.le_refl _)
    rw [e] at h
    have h2 : D.natAbs ≤ (g * D).natAbs := by rw [Int.natAbs_mul]; exact Nat.le_mul_of_pos_left _ (by omega)
    omega
  have hD0 := bq hx0 hq0
  have hD1 := bq hx1 hq1
  have hD2 := bq hx2 hq2
  have hU : 1 ≤ U ∧ U ≤ 432 := by
    have h := sumI_bd (g := fun i => F (i * 4) * F (i * 4)) (B := 144) (k := k) (fun i hi => by
      have := mb (a := F (i * 4)) (b := F (i * 4)) (A := 12) (B := 12) (by have := hsb i hi; omega) (by have := hsb i hi; omega)
      omega) k (Nat.le_refl _)
    have hp := sq_pos (F := F) (M := msV f F) (k := k) (fun i hi => by have := hsb i hi; omega) k (Nat.le_refl _)
    rw [HE.out.2.2.2] at hp
    rw [hqU] at h
    have h2 : U.natAbs ≤ (g * U).natAbs := by rw [Int.natAbs_mul]; exact Nat.le_mul_of_pos_left _ (by omega)
    have h3 : 0 < U := by
      by_cases hh : 0 < U
      · exact hh
      · have := Int.mul_nonneg (show 0 ≤ g by omega) (show 0 ≤ -U by omega)
        rw [Int.mul_neg] at this
        omega
    omega
  obtain ⟨SM, SO, S0, S1, S2, hD⟩ := drm_of (o0 := o0) (o1 := o1) (o2 := o2) hq0 hq1 hq2 hqU
  have HBd := Lib.hid (hD.bd hU hD0 hD1 hD2 h0 h1 h2 hsb hx0 hx1 hx2)
  have HD := Lib.hid hD
  have HX0 := Lib.hid hx0
  have HX1 := Lib.hid hx1
  have HX2 := Lib.hid hx2
  have HSB := Lib.hid hsb
  clear hq0 hq1 hq2 hqU bq hx hx0 hx1 hx2 hsb hD HE hg
  go_wp2_with fail
  obtain ⟨W5, hW5⟩ : ∃ W5, W4.alloc (.cells #[.int .i64 D0, .int .i64 D1, .int .i64 D2, .int .i64 U] 34) = W5 := ⟨_, rfl⟩
  rw [hW5]
  have hB5 : Below W4.heap.size W4 W5 := by rw [← hW5]; exact (Below.refl _ _).alloc (Nat.le_refl _) _
  have hP5 : W5.heap[W4.heap.size]? = some (.cells #[.int .i64 D0, .int .i64 D1, .int .i64 D2, .int .i64 U] 34 (0, 0)) := by rw [← hW5]; exact World.alloc_heap_new W4 _
  have HP5 := Lib.hid hP5
  have HA5 := Lib.hid ((hB5.block _ (Array.getElem?_eq_some_iff.1 HA4.out).1).trans HA4.out)
  have HI5 := Lib.hid (HI4.out.keep hB5 (HI4.out.lt (by omega)))
  have HS5 := Lib.hid (HS4.out.keep (by decide) hB5)
  have HT5 := Lib.hid (HT4.out.keep (by decide) hB5)
  have HB5 := Lib.hid (HB4.out.trans (hB5.mono HB4.out.size))
  clear hW5 hB5 hP5 HB4 HA4 HI4 HS4 HT4
  refine (miss_of W5 x (some ⟨tb, tq, none⟩) m c' k tc f F HOk.out HTs.out HS5.out HT5.out).mono ?_
  rintro e W6 ⟨G, rfl, hG0, hG, hB6⟩
  have HG := Lib.hid hG
  have HP6 := Lib.hid ((hB6.block _ (Array.getElem?_eq_some_iff.1 HP5.out).1).trans HP5.out)
  have HA6 := Lib.hid ((hB6.block _ (Array.getElem?_eq_some_iff.1 HA5.out).1).trans HA5.out)
  have HI6 := Lib.hid (HI5.out.keep hB6 (HI5.out.lt (by omega)))
  have HB6 := Lib.hid (HB5.out.trans (hB6.mono HB5.out.size))
  have u3 : W6.cell? ⟨W4.heap.size, 3, none⟩ = some (.int .i64 U) := cell_h HP6.out rfl
  clear hG hB6 HS5 HT5 HI5 HA5 HP5 HB5
  go_wp2_with fail
  obtain ⟨W7, hW7⟩ : ∃ W7, W6.alloc (.cells #[.int .i64 0, .int .i64 0, .int .i64 0] 39) = W7 := ⟨_, rfl⟩
  rw [hW7]
  have hB7 : Below W6.heap.size W6 W7 := by rw [← hW7]; exact (Below.refl _ _).alloc (Nat.le_refl _) _
  have hL7 : W7.heap[W6.heap.size]? = some (.cells #[.int .i64 (S0 0), .int .i64 (S1 0), .int .i64 (S2 0)] 39 (0, 0)) := by
    rw [HD.out.z0.2.2.1, HD.out.z0.2.2.2.1, HD.out.z0.2.2.2.2, ← hW7]; exact World.alloc_heap_new W6 _
  have HB7 := Lib.hid hB7
  have HL7 := Lib.hid hL7
  have hPl : W4.heap.size < W6.heap.size := World.block_lt_of_cell? _ _ u3
  have hGl : G < W6.heap.size := HG.out.lt
  have htl : tb < W6.heap.size := HI6.out.lt (by omega)
  have hol : w.heap.size < W6.heap.size := (Array.getElem?_eq_some_iff.1 HA6.out).1
  clear hW7 hB7 hL7 u3 HOk HP HTs
  go_loopw [16, 17, 70] (fun vm vo vi wr => ∃ i : Nat, i ≤ k ∧ vi = .int .i64 i ∧ vm = .int .i64 (SM i) ∧ vo = .int .i64 (SO i) ∧ Hid (wr.heap[W6.heap.size]? = some (.cells #[.int .i64 (S0 i), .int .i64 (S1 i), .int .i64 (S2 i)] 39 (0, 0))) ∧ Hid (Below W6.heap.size W6 wr)) (fun _ _ vi _ => k - (intOf vi).toNat)
  case atStart => exact ⟨0, by omega, rfl, by rw [HD.out.z0.1], by rw [HD.out.z0.2.1], HL7, HB7⟩
  case round =>
    obtain ⟨i, hi, rfl, rfl, rfl, HL, HB⟩ := hrel
    by_cases hlt : i < k
    · have hJ := HI6.out.keep HB.out htl
      have hM := HG.out.keep HB.out hGl
      have hP := (HB.out.block _ hPl).trans HP6.out
      have hA := (HB.out.block _ hol).trans HA6.out
      have d0 := hJ (i * 4) (by omega)
      have d1 := hJ.at (i * 4) 1 (by omega)
      have d2 := hJ.at (i * 4) 2 (by omega)
      have d3 := hJ.at (i * 4) 3 (by omega)
      have g0 := hM.cell (k := i * 3) (by omega)
      have g1 := hM.cell (k := i * 3 + 1) (by omega)
      have g2 := hM.cell (k := i * 3 + 2) (by omega)
      simp only [msG, show i * 3 < k * 3 by omega, show i * 3 + 1 < k * 3 by omega, show i * 3 + 2 < k * 3 by omega, if_true] at g0 g1 g2
      obtain ⟨b1, b2, b3, b4, b5⟩ := HBd.out i (by omega)
      have hk3 : (i : Int) ≤ 3 ∧ 0 ≤ (i : Int) ∧ (i : Int) < (k : Int) := by omega
      obtain ⟨A, B, u, C, E, v, lu, uu, vv, a1, a2, a3, a4, a5, a6, a7, a8, a9, c1', c2', c3', c4', c5', c6', c7', c8', c9'⟩ := uv hU (HX0.out i hlt) (HSB.out i hlt) hD0 h0
      obtain ⟨Ax, Bx, ux, Cx, Ex, vx, lux, uux, vvx, e1, e2, e3, e4, e5, e6, e7, e8, e9, f1, f2, f3, f4, f5, f6, f7, f8, f9⟩ := uv hU (HX1.out i hlt) (HSB.out i hlt) hD1 h1
      obtain ⟨Ay, By, uy, Cy, Ey, vy, luy, uuy, vvy, i1, i2, i3, i4, i5, i6, i7, i8, i9, j1, j2, j3, j4, j5, j6, j7, j8, j9⟩ := uv hU (HX2.out i hlt) (HSB.out i hlt) hD2 h2
      have HM1 : Hid (SM (i + 1) = SM i + uu + uux + uuy) := by rw [HD.out.mine, a1, a2, a3, a8, e1, e2, e3, e8, i1, i2, i3, i8]; exact Lib.hid rfl
      have HO1 : Hid (SO (i + 1) = SO i + vv + vvx + vvy) := by rw [HD.out.own, a4, a5, a6, a9, e4, e5, e6, e9, i4, i5, i6, i9]; exact Lib.hid rfl
      have HL0 : Hid (S0 (i + 1) = S0 i + lu) := by rw [HD.out.l0, a1, a2, a3, a7]; exact Lib.hid rfl
      have HL1 : Hid (S1 (i + 1) = S1 i + lux) := by rw [HD.out.l1, e1, e2, e3, e7]; exact Lib.hid rfl
      have HL2 : Hid (S2 (i + 1) = S2 i + luy) := by rw [HD.out.l2, i1, i2, i3, i7]; exact Lib.hid rfl
      have hs := HSB.out i hlt
      have hX0 := HX0.out i hlt
      have hX1 := HX1.out i hlt
      have hX2 := HX2.out i hlt
      generalize F (i * 4) = S at d0 a2 a4 a7 e2 e4 e7 i2 i4 i7 hs
      generalize F (i * 4 + 1) = t1 at d1
      generalize F (i * 4 + 2) = t2 at d2
      generalize F (i * 4 + 3) = t3 at d3
      generalize msV f F (i * 3) = x0 at g0 a1 a5 hX0
      generalize msV f F (i * 3 + 1) = x1 at g1 e1 e5 hX1
      generalize msV f F (i * 3 + 2) = x2 at g2 i1 i5 hX2
      have HLi := Lib.hid (And.intro b3 (And.intro b4 b5))
      have m0 := b1; have m1 := b2
      generalize SM i = Mi at HM1 m0 ⊢
      generalize SO i = Oi at HO1 m1 ⊢
      have k0 : W6.heap.size < wr.heap.size := (Array.getElem?_eq_some_iff.1 HL.out).1
      clear hJ hM b1 b2 b3 b4 b5
      go_upto_region 14 with fail
      obtain ⟨V1, hV1⟩ : ∃ V1, wr.alloc (.cells #[.int .i64 S, .int .i64 t1, .int .i64 t2, .int .i64 t3] 38) = V1 := ⟨_, rfl⟩
      rw [hV1]
      have hBV : Below wr.heap.size wr V1 := by rw [← hV1]; exact (Below.refl _ _).alloc (Nat.le_refl _) _
      have hTV : V1.heap[wr.heap.size]? = some (.cells #[.int .i64 S, .int .i64 t1, .int .i64 t2, .int .i64 t3] 38 (0, 0)) := by rw [← hV1]; exact World.alloc_heap_new wr _
      have q0 := (hBV.cell (p := ⟨G, i * 3, none⟩) (by simp; omega)).trans g0
      have q1 := (hBV.cell (p := ⟨G, i * 3 + 1, none⟩) (by simp; omega)).trans g1
      have q2 := (hBV.cell (p := ⟨G, i * 3 + 2, none⟩) (by simp; omega)).trans g2
      have hP1 := (hBV.block W4.heap.size (by omega)).trans hP
      have hA1 := (hBV.block w.heap.size (by omega)).trans hA
      have p0 : V1.cell? ⟨W4.heap.size, 0, none⟩ = some (.int .i64 D0) := cell_h hP1 rfl
      have p1 : V1.cell? ⟨W4.heap.size, 1, none⟩ = some (.int .i64 D1) := cell_h hP1 rfl
      have p2 : V1.cell? ⟨W4.heap.size, 2, none⟩ = some (.int .i64 D2) := cell_h hP1 rfl
      have r0 : V1.cell? ⟨w.heap.size, 0, none⟩ = some (.int .i8 o0) := cell_h hA1 rfl
      have r1 : V1.cell? ⟨w.heap.size, 1, none⟩ = some (.int .i8 o1) := cell_h hA1 rfl
      have r2 : V1.cell? ⟨w.heap.size, 2, none⟩ = some (.int .i8 o2) := cell_h hA1 rfl
      have HR1 : Hid (DrR W6 V1 W4.heap.size wr.heap.size U S (S0 i) (S1 i) (S2 i)) := Lib.hid ⟨cell_h hP1 rfl, cell_h hTV rfl, (hBV.block _ k0).trans HL.out, HB.out.trans (hBV.mono (by omega))⟩
      clear hV1 hBV hTV d0 d1 d2 d3 g0 g1 g2 hP hA hP1 hA1
      go_quiet (fail)
      have HR2 : Hid (DrR W6 (V1.drewN nq) W4.heap.size wr.heap.size U S (S0 i) (S1 i) (S2 i)) := Lib.hid (HR1.out.drewN nq)
      clear q0 q1 q2 p0 p1 p2 r0 r1 r2 HR1
      generalize V1.drewN nq = V2 at HR2 ⊢
      have i0w : (-1327104 * (i : Int) ≤ S0 i ∧ S0 i ≤ 1327104 * (i : Int)) := HLi.out.1
      have i1w : (-1327104 * (i : Int) ≤ S1 i ∧ S1 i ≤ 1327104 * (i : Int)) := HLi.out.2.1
      have i2w : (-1327104 * (i : Int) ≤ S2 i ∧ S2 i ≤ 1327104 * (i : Int)) := HLi.out.2.2
      generalize S0 i = s0 at HL0 HR2 i0w
      generalize S1 i = s1 at HL1 HR2 i1w
      generalize S2 i = s2 at HL2 HR2 i2w
      have ix0 : ∀ w, (Instr.index 49 (.agg #[.int .i64 x0, .int .i64 D0, .int .i64 o0, .int .i64 x1, .int .i64 D1, .int .i64 o1, .int .i64 x2, .int .i64 D2, .int .i64 o2]) (.int .i64 0)).run Tryd.prog w = .ok (.agg #[.int .i64 x0, .int .i64 D0, .int .i64 o0]) w := fun _ => by kernel_rfl
      have ix1 : ∀ w, (Instr.index 49 (.agg #[.int .i64 x0, .int .i64 D0, .int .i64 o0, .int .i64 x1, .int .i64 D1, .int .i64 o1, .int .i64 x2, .int .i64 D2, .int .i64 o2]) (.int .i64 1)).run Tryd.prog w = .ok (.agg #[.int .i64 x1, .int .i64 D1, .int .i64 o1]) w := fun _ => by kernel_rfl
      have ix2 : ∀ w, (Instr.index 49 (.agg #[.int .i64 x0, .int .i64 D0, .int .i64 o0, .int .i64 x1, .int .i64 D1, .int .i64 o1, .int .i64 x2, .int .i64 D2, .int .i64 o2]) (.int .i64 2)).run Tryd.prog w = .ok (.agg #[.int .i64 x2, .int .i64 D2, .int .i64 o2]) w := fun _ => by kernel_rfl
      have ww1 : IntKind.i64.wrap (A) = A := IntWalk.i64_in _ (by omega)
      have ww2 : IntKind.i64.wrap (B) = B := IntWalk.i64_in _ (by omega)
      have ww3 : IntKind.i64.wrap (u) = u := IntWalk.i64_in _ (by omega)
      have ww4 : IntKind.i64.wrap (C) = C := IntWalk.i64_in _ (by omega)
      have ww5 : IntKind.i64.wrap (E) = E := IntWalk.i64_in _ (by omega)
      have ww6 : IntKind.i64.wrap (v) = v := IntWalk.i64_in _ (by omega)
      have ww7 : IntKind.i64.wrap (lu) = lu := IntWalk.i64_in _ (by omega)
      have ww8 : IntKind.i64.wrap (uu) = uu := IntWalk.i64_in _ (by omega)
      have ww9 : IntKind.i64.wrap (vv) = vv := IntWalk.i64_in _ (by omega)
      have ww10 : IntKind.i64.wrap (Ax) = Ax := IntWalk.i64_in _ (by omega)
      have ww11 : IntKind.i64.wrap (Bx) = Bx := IntWalk.i64_in _ (by omega)
      have ww12 : IntKind.i64.wrap (ux) = ux := IntWalk.i64_in _ (by omega)
      have ww13 : IntKind.i64.wrap (Cx) = Cx := IntWalk.i64_in _ (by omega)
      have ww14 : IntKind.i64.wrap (Ex) = Ex := IntWalk.i64_in _ (by omega)
      have ww15 : IntKind.i64.wrap (vx) = vx := IntWalk.i64_in _ (by omega)
      have ww16 : IntKind.i64.wrap (lux) = lux := IntWalk.i64_in _ (by omega)
      have ww17 : IntKind.i64.wrap (uux) = uux := IntWalk.i64_in _ (by omega)
      have ww18 : IntKind.i64.wrap (vvx) = vvx := IntWalk.i64_in _ (by omega)
      have ww19 : IntKind.i64.wrap (Ay) = Ay := IntWalk.i64_in _ (by omega)
      have ww20 : IntKind.i64.wrap (By) = By := IntWalk.i64_in _ (by omega)
      have ww21 : IntKind.i64.wrap (uy) = uy := IntWalk.i64_in _ (by omega)
      have ww22 : IntKind.i64.wrap (Cy) = Cy := IntWalk.i64_in _ (by omega)
      have ww23 : IntKind.i64.wrap (Ey) = Ey := IntWalk.i64_in _ (by omega)
      have ww24 : IntKind.i64.wrap (vy) = vy := IntWalk.i64_in _ (by omega)
      have ww25 : IntKind.i64.wrap (luy) = luy := IntWalk.i64_in _ (by omega)
      have ww26 : IntKind.i64.wrap (uuy) = uuy := IntWalk.i64_in _ (by omega)
      have ww27 : IntKind.i64.wrap (vvy) = vvy := IntWalk.i64_in _ (by omega)
      have ww28 : IntKind.i64.wrap (s0 + lu) = s0 + lu := IntWalk.i64_in _ (by omega)
      have ww29 : IntKind.i64.wrap (s1 + lux) = s1 + lux := IntWalk.i64_in _ (by omega)
      have ww30 : IntKind.i64.wrap (s2 + luy) = s2 + luy := IntWalk.i64_in _ (by omega)
      have ww31 : IntKind.i64.wrap (Mi + uu) = Mi + uu := IntWalk.i64_in _ (by omega)
      have ww32 : IntKind.i64.wrap (Mi + uu + uux) = Mi + uu + uux := IntWalk.i64_in _ (by omega)
      have ww33 : IntKind.i64.wrap (Mi + uu + uux + uuy) = Mi + uu + uux + uuy := IntWalk.i64_in _ (by omega)
      have ww34 : IntKind.i64.wrap (Oi + vv) = Oi + vv := IntWalk.i64_in _ (by omega)
      have ww35 : IntKind.i64.wrap (Oi + vv + vvx) = Oi + vv + vvx := IntWalk.i64_in _ (by omega)
      have ww36 : IntKind.i64.wrap (Oi + vv + vvx + vvy) = Oi + vv + vvx + vvy := IntWalk.i64_in _ (by omega)
      clear c1' c2' c3' c4' c5' c6' c7' c8' c9' f1 f2 f3 f4 f5 f6 f7 f8 f9 j1 j2 j3 j4 j5 j6 j7 j8 j9 i0w i1w i2w m0 m1 hX0 hX1 hX2
      have hTl : wr.heap.size < V2.heap.size := World.block_lt_of_cell? _ _ HR2.out.t
      go_wp2_with fail
      refine wp_loop_rounds 4 ?_
      rw [rounds_succ]
      go_upto_region 17 with fail
      obtain ⟨V3, hV3⟩ : ∃ V3, V2.alloc (.cells #[.int .i64 x0, .int .i64 D0, .int .i64 o0] 39) = V3 := ⟨_, rfl⟩
      rw [hV3]
      have HR3 : Hid (DrR W6 V3 W4.heap.size wr.heap.size U S s0 s1 s2) := by rw [← hV3]; exact HR2.out.alloc _
      have hx0 : V3.heap[V2.heap.size]? = some (.cells #[.int .i64 x0, .int .i64 D0, .int .i64 o0] 39 (0, 0)) := by rw [← hV3]; exact World.alloc_heap_new V2 _
      have au0 : V3.cell? ⟨W4.heap.size, 3, none⟩ = some (.int .i64 U) := HR3.out.u
      have at0 : V3.cell? ⟨wr.heap.size, 0, none⟩ = some (.int .i64 S) := HR3.out.t
      have ax00 : V3.cell? ⟨V2.heap.size, 0, none⟩ = some (.int .i64 x0) := cell_h hx0 rfl
      have ax01 : V3.cell? ⟨V2.heap.size, 1, none⟩ = some (.int .i64 D0) := cell_h hx0 rfl
      have ax02 : V3.cell? ⟨V2.heap.size, 2, none⟩ = some (.int .i64 o0) := cell_h hx0 rfl
      have al0 : V3.cell? ⟨W6.heap.size, 0, none⟩ = some (.int .i64 s0) := cell_h HR3.out.l rfl
      have af0 : V3.frozen? ⟨W6.heap.size, 0, none⟩ = false := by simp [World.frozen?, HR3.out.l]
      clear hV3 hx0 HR2
      go_upto_region 19 with fail
      go_region
      have HR4 : Hid (DrR W6 ((V3.setCell ⟨W6.heap.size, 0, none⟩ (.int .i64 (s0 + lu))).drew) W4.heap.size wr.heap.size U S (s0 + lu) s1 s2) := Lib.hid ((HR3.out.set0 hPl k0 _).drew)
      generalize (V3.setCell ⟨W6.heap.size, 0, none⟩ (.int .i64 (s0 + lu))).drew = V4 at HR4 ⊢
      clear au0 at0 ax00 ax01 ax02 al0 af0 HR3
      go_wp2_with fail
      (try simp only [Exit.inBlock, Exit.then])
      rw [rounds_succ]
      go_upto_region 17 with fail
      obtain ⟨V5, hV5⟩ : ∃ V5, V4.alloc (.cells #[.int .i64 x1, .int .i64 D1, .int .i64 o1] 39) = V5 := ⟨_, rfl⟩
      rw [hV5]
      have HR5 : Hid (DrR W6 V5 W4.heap.size wr.heap.size U S (s0 + lu) s1 s2) := by rw [← hV5]; exact HR4.out.alloc _
      have hx1 : V5.heap[V4.heap.size]? = some (.cells #[.int .i64 x1, .int .i64 D1, .int .i64 o1] 39 (0, 0)) := by rw [← hV5]; exact World.alloc_heap_new V4 _
      have au1 : V5.cell? ⟨W4.heap.size, 3, none⟩ = some (.int .i64 U) := HR5.out.u
      have at1 : V5.cell? ⟨wr.heap.size, 0, none⟩ = some (.int .i64 S) := HR5.out.t
      have ax10 : V5.cell? ⟨V4.heap.size, 0, none⟩ = some (.int .i64 x1) := cell_h hx1 rfl
      have ax11 : V5.cell? ⟨V4.heap.size, 1, none⟩ = some (.int .i64 D1) := cell_h hx1 rfl
      have ax12 : V5.cell? ⟨V4.heap.size, 2, none⟩ = some (.int .i64 o1) := cell_h hx1 rfl
      have al1 : V5.cell? ⟨W6.heap.size, 1, none⟩ = some (.int .i64 s1) := cell_h HR5.out.l rfl
      have af1 : V5.frozen? ⟨W6.heap.size, 1, none⟩ = false := by simp [World.frozen?, HR5.out.l]
      clear hV5 hx1 HR4
      go_upto_region 19 with fail
      go_region
      have HR6 : Hid (DrR W6 ((V5.setCell ⟨W6.heap.size, 1, none⟩ (.int .i64 (s1 + lux))).drew) W4.heap.size wr.heap.size U S (s0 + lu) (s1 + lux) s2) := Lib.hid ((HR5.out.set1 hPl k0 _).drew)
      generalize (V5.setCell ⟨W6.heap.size, 1, none⟩ (.int .i64 (s1 + lux))).drew = V6 at HR6 ⊢
      clear au1 at1 ax10 ax11 ax12 al1 af1 HR5
      go_wp2_with fail
      (try simp only [Exit.inBlock, Exit.then])
      rw [rounds_succ]
      go_upto_region 17 with fail
      obtain ⟨V7, hV7⟩ : ∃ V7, V6.alloc (.cells #[.int .i64 x2, .int .i64 D2, .int .i64 o2] 39) = V7 := ⟨_, rfl⟩
      rw [hV7]
      have HR7 : Hid (DrR W6 V7 W4.heap.size wr.heap.size U S (s0 + lu) (s1 + lux) s2) := by rw [← hV7]; exact HR6.out.alloc _
      have hx2 : V7.heap[V6.heap.size]? = some (.cells #[.int .i64 x2, .int .i64 D2, .int .i64 o2] 39 (0, 0)) := by rw [← hV7]; exact World.alloc_heap_new V6 _
      have au2 : V7.cell? ⟨W4.heap.size, 3, none⟩ = some (.int .i64 U) := HR7.out.u
      have at2 : V7.cell? ⟨wr.heap.size, 0, none⟩ = some (.int .i64 S) := HR7.out.t
      have ax20 : V7.cell? ⟨V6.heap.size, 0, none⟩ = some (.int .i64 x2) := cell_h hx2 rfl
      have ax21 : V7.cell? ⟨V6.heap.size, 1, none⟩ = some (.int .i64 D2) := cell_h hx2 rfl
      have ax22 : V7.cell? ⟨V6.heap.size, 2, none⟩ = some (.int .i64 o2) := cell_h hx2 rfl
      have al2 : V7.cell? ⟨W6.heap.size, 2, none⟩ = some (.int .i64 s2) := cell_h HR7.out.l rfl
      have af2 : V7.frozen? ⟨W6.heap.size, 2, none⟩ = false := by simp [World.frozen?, HR7.out.l]
      clear hV7 hx2 HR6
      go_upto_region 19 with fail
      go_region
      have HR8 : Hid (DrR W6 ((V7.setCell ⟨W6.heap.size, 2, none⟩ (.int .i64 (s2 + luy))).drew) W4.heap.size wr.heap.size U S (s0 + lu) (s1 + lux) (s2 + luy)) := Lib.hid ((HR7.out.set2 hPl k0 _).drew)
      generalize (V7.setCell ⟨W6.heap.size, 2, none⟩ (.int .i64 (s2 + luy))).drew = V8 at HR8 ⊢
      clear au2 at2 ax20 ax21 ax22 al2 af2 HR7
      go_wp2_with fail
      (try simp only [Exit.inBlock, Exit.then])
      rw [rounds_succ]
      have wi : IntKind.i64.wrap ((i : Int) + 1) = (i : Int) + 1 := IntWalk.i64_in _ (by omega)
      go_wp2_with fail
      exact ⟨⟨i + 1, by omega, by go_num, by rw [HM1.out], by rw [HO1.out], by rw [HL0.out, HL1.out, HL2.out]; exact HR8.out.l, HR8.out.b⟩, by simp [intOf]; omega⟩
    · obtain rfl : i = k := by omega
      rw [HD.out.e0, HD.out.e1, HD.out.e2] at HL
      have hle := HD.out.le
      have heq : ∀ w, Sem.run Tryd.prog (Op.equalIn 10000 39 (.agg #[.int .i64 0, .int .i64 0, .int .i64 0]) (.agg #[.int .i64 0, .int .i64 0, .int .i64 0])) w = .ok true w := fun _ => by kernel_rfl
      have l0 : wr.cell? ⟨W6.heap.size, 0, none⟩ = some (.int .i64 0) := cell_h HL.out rfl
      have l1 : wr.cell? ⟨W6.heap.size, 1, none⟩ = some (.int .i64 0) := cell_h HL.out rfl
      have l2 : wr.cell? ⟨W6.heap.size, 2, none⟩ = some (.int .i64 0) := cell_h HL.out rfl
      have HBe := Lib.hid (HB6.out.trans (HB.out.mono HB6.out.size))
      clear HL HB
      generalize SM i = Mi at hle ⊢
      generalize SO i = Oi at hle ⊢
      go_wp2_with fail
      go_ret
      exact ⟨rfl, HBe.out⟩
end Go.Proofs.YtlbffdgojmjijaaDoor
