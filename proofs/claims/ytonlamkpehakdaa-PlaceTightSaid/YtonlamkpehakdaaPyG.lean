/-
  WALKS: the law of tight limits.
-/
import Derived.Test.YtonlamkpehakdaaPyF
import Derived.Test.YtonlamkpehakdaaPxG
import Derived.Deep.RegionHeld3
import Derived.Deep.DeepCutAuto
namespace Go.Proofs.Ytonlamkpehakdaa
open Go.RowKit

theorem own_int {W : World} {B g n cap : Nat} {p : Nat → Int} (h : W.ownsRow B 3 1 (.slice (some ⟨g, 0, none⟩) n cap) n (jrow p n)) : Sl W 1 (some ⟨g, 0, none⟩) n p := fun _ => ⟨g, 0, rfl, fun i hi => by
  rw [Nat.zero_add, World.ownsRow.cellAt h i (by omega), jrow_get p (by omega)]⟩
/-- The limits of the ends of a bound. -/
theorem tight_bd {N n : Nat} {pl F : Nat → Int} (h : TrueB N pl n F) (h1 : 1 ≤ N ∧ N ≤ 64) (hn : n ≤ 256) {i : Nat} (hi : i < n) :
    ((ptU F n N).kn (bF F i) = true → (ptU F n N).kn (bT F i) = true ∧ (ptU F n N).mo (bT F i) - (ptU F n N).mo (bF F i) ≤ bM F i) ∧
    ((ptD F n N).kn (bT F i) = true → (ptD F n N).kn (bF F i) = true ∧ -(ptD F n N).mo (bT F i) - -(ptD F n N).mo (bF F i) ≤ bM F i) := by
  have hb := h.bok h1 hn
  have hg := h.keeps.noNeg (E := N)
  refine ⟨fun hk => ?_, fun hk => ?_⟩
  · have m := (ptU_min hb hg (bF F i)).1 hk
    obtain ⟨⟨es, hw, _⟩, _⟩ := m
    have hk' := (ptU_min hb hg (bT F i)).2 ⟨_, isWk_snoc hw hi rfl⟩
    have := IsMin.bound hi ((ptU_min hb hg (bF F i)).1 hk) ((ptU_min hb hg (bT F i)).1 hk')
    exact ⟨hk', by omega⟩
  · have m := (ptD_min hb hg (bT F i)).1 hk
    obtain ⟨⟨es, hw, _⟩, _⟩ := m
    have hk' := (ptD_min hb hg (bF F i)).2 ⟨i :: es, hi, rfl, hw⟩
    have := IsMin.bound' hi ((ptD_min hb hg (bT F i)).1 hk) ((ptD_min hb hg (bF F i)).1 hk')
    exact ⟨hk', by omega⟩

set_option maxRecDepth 100000 in
set_option maxHeartbeats 8000000 in
theorem tight_law (w : World) (a : Option Addr) (n c : Nat) (s : Nat → Int) (a2 : Option Addr) (m c2 : Nat) (g : Nat → Int)
    (hn : n ≤ maxLen) (hm : m ≤ maxLen) (hs : ∀ i, i < n → 0 ≤ s i ∧ s i ≤ 65535) (hg : ∀ i, i < m * 4 → 0 ≤ g i ∧ g i ≤ 255) (hS : Sh w a n s) (hK : Sq w a2 m g) :
    Calls Try.prog 13 #[.slice a n c, .slice a2 m c2] w fun e w' => e = .returned (.bool true) ∧ Below w.heap.size w w' := by
  have hmx : maxLen = 9223372036854775807 := rfl
  by_cases h1 : 9 < n ∨ 20 < m
  · clear hs hg hS hK
    rcases (by omega : 9 < n ∨ (n ≤ 9 ∧ 20 < m)) with h2 | ⟨h2, h3⟩
    all_goals
      clear h1
      go_enter Try.func13, Try.ntmps13
      go_wp2_with fail
      refine (awake_of _).mono ?_
      rintro e w2 ⟨rfl, hB2⟩
      have HB2 := Lib.hid hB2
      clear hB2
      go_wp2_with fail
      go_ret
      exact ⟨rfl, HB2.out⟩
  have hn9 : n ≤ 9 := by omega
  have hm20 : m ≤ 20 := by omega
  have HSw := Lib.hid hs
  have HGw := Lib.hid hg
  have hpb : ∀ i, i < n + 1 → 0 ≤ plS s i ∧ plS s i ≤ 589815 := fun i hi => by have := plS_bd hs i (by omega); omega
  have HPb := Lib.hid hpb
  have S1 := Lib.hid hS
  have HK : Hid (∀ W, Below w.heap.size w W → Sq W a2 m g) := fun W hW hpos => by
    obtain ⟨b, o, e, hc⟩ := hK hpos
    exact ⟨b, o, e, fun i hi => (hW.cell (p := ⟨b, o + i, none⟩) (cell_lt (hc i hi))).trans (hc i hi)⟩
  clear h1 hmx hs hg hpb hS hK hn hm
  go_enter Try.func13, Try.ntmps13
  go_wp2_with fail
  refine (truly_of w a n c s hn9 HSw.out S1.out).mono ?_
  rintro e W1 ⟨gp, cp, rfl, hO1, hB1⟩
  have P1 := Lib.hid (own_int hO1)
  have HB1 := Lib.hid hB1
  clear hB1 hO1 S1
  go_wp2_with fail
  refine (told_of W1 _ (n + 1) cp (plS s) a2 m c2 g (by omega) hm20 HPb.out HGw.out P1.out (HK.out W1 HB1.out)).mono ?_
  rintro e W2 ⟨vb, cnt, F, rfl, hcnt, hT, _, hO2, hB2⟩
  obtain ⟨xb, cb, rfl, hSb⟩ := brow_own hO2
  have HB2 := Lib.hid (HB1.out.trans (hB2.mono HB1.out.size))
  have S2 := Lib.hid hSb
  have HT := Lib.hid hT
  clear hB2 hO2 hSb hT HB1 P1 HK HSw HGw HPb
  go_wp2_with fail
  have hcn : cnt ≤ 256 := by omega
  have hN64 : 1 ≤ n + 1 ∧ n + 1 ≤ 64 := by omega
  have HBk := Lib.hid (HT.out.bok hN64 hcn)
  have HNc := Lib.hid (true_noclash HT.out hN64 hcn)
  refine (limits_ok W2 F (n + 1) cnt cb xb HBk.out S2.out HNc.out).mono ?_
  rintro e W3 ⟨B1, rfl, hb1, hL1, hB3⟩
  have HB3 := Lib.hid (HB2.out.trans (hB3.mono HB2.out.size))
  have S3 := Lib.hid (S2.out.keep (by decide) hB3)
  have HL1 := Lib.hid hL1
  have hB1W : B1 < W3.heap.size := hL1.lt
  have HR3 : Hid (Below W3.heap.size W3 W3) := Below.refl _ _
  clear hB3 hL1 HB2 S2 hb1
  go_wp2_with fail
  go_loopw [59] (fun vi wr => ∃ k : Nat, k ≤ cnt ∧ vi = .int .i64 k ∧ Hid (Below W3.heap.size W3 wr)) (fun vi _ => cnt - (intOf vi).toNat)
  case atStart => exact ⟨0, by omega, rfl, HR3.out⟩
  case round =>
    obtain ⟨k, hk, rfl, HR⟩ := hrel
    by_cases hlt : k < cnt
    · obtain ⟨bq, oq, rfl, hI⟩ := S3.out (by omega)
      have hbq := hI.lt (by omega)
      have hJ := hI.keep HR.out hbq
      have d0 := hJ (k * 3) (by omega)
      have d1 := hJ.at (k * 3) 1 (by omega)
      have d2 := hJ.at (k * 3) 2 (by omega)
      obtain ⟨f0, l0⟩ := bF_eq HBk.out hlt
      obtain ⟨f1, l1⟩ := bT_eq HBk.out hlt
      have hmb := (HBk.out.2 k hlt).2.2
      rw [f0] at d0
      rw [f1] at d1
      have hq := tight_bd HT.out hN64 hcn hlt
      have hue := ptU_le HBk.out
      have hde := ptD_le HBk.out
      have u1 := hue (bF F k)
      have u2 := hue (bT F k)
      have u3 : -17592186044416 ≤ -((ptD F cnt (n + 1)).mo (bF F k)) ∧ -((ptD F cnt (n + 1)).mo (bF F k)) ≤ 17592186044416 := by have := hde (bF F k); omega
      have u4 : -17592186044416 ≤ -((ptD F cnt (n + 1)).mo (bT F k)) ∧ -((ptD F cnt (n + 1)).mo (bT F k)) ≤ 17592186044416 := by have := hde (bT F k); omega
      have hBK := HL1.out.keep HR.out hB1W
      have e10 := hBK.cell (k := bF F k * 4) (by omega)
      have e11 := hBK.cell (k := bF F k * 4 + 1) (by omega)
      have e12 := hBK.cell (k := bF F k * 4 + 2) (by omega)
      have e13 := hBK.cell (k := bF F k * 4 + 3) (by omega)
      have e20 := hBK.cell (k := bT F k * 4) (by omega)
      have e21 := hBK.cell (k := bT F k * 4 + 1) (by omega)
      have e22 := hBK.cell (k := bT F k * 4 + 2) (by omega)
      have e23 := hBK.cell (k := bT F k * 4 + 3) (by omega)
      rw [lmV_0] at e10 e20
      rw [lmV_1] at e11 e21
      rw [lmV_2] at e12 e22
      rw [lmV_3] at e13 e23
      have hM : bM F k = F (k * 3 + 2) := rfl
      rw [hM] at hq
      generalize -((ptD F cnt (n + 1)).mo (bF F k)) = L1 at e10 hq u3
      generalize (ptU F cnt (n + 1)).mo (bF F k) = H1 at e11 hq u1
      generalize (ptD F cnt (n + 1)).kn (bF F k) = l1' at e12 hq
      generalize (ptU F cnt (n + 1)).kn (bF F k) = h1' at e13 hq
      generalize -((ptD F cnt (n + 1)).mo (bT F k)) = L2 at e20 hq u4
      generalize (ptU F cnt (n + 1)).mo (bT F k) = H2 at e21 hq u2
      generalize (ptD F cnt (n + 1)).kn (bT F k) = l2' at e22 hq
      generalize (ptU F cnt (n + 1)).kn (bT F k) = h2' at e23 hq
      generalize F (k * 3 + 2) = M at hq d2 hmb
      generalize bF F k = u at d0 l0 e10 e11 e12 e13 ⊢
      generalize bT F k = t at d1 l1 e20 e21 e22 e23 ⊢
      have w1 : IntKind.i64.wrap (H2 - H1) = H2 - H1 := IntWalk.i64_in _ (by omega)
      have w2 : IntKind.i64.wrap (L2 - L1) = L2 - L1 := IntWalk.i64_in _ (by omega)
      have hA : (h1' = false) ∨ (h1' = true ∧ h2' = true ∧ decide (M < H2 - H1) = false) := by
        cases h1'
        · exact .inl rfl
        · obtain ⟨x1, x2⟩ := hq.1 rfl
          exact .inr ⟨rfl, x1, decide_eq_false (by omega)⟩
      have hBb : (l2' = false) ∨ (l2' = true ∧ l1' = true ∧ decide (M < L2 - L1) = false) := by
        cases l2'
        · exact .inl rfl
        · obtain ⟨x1, x2⟩ := hq.2 rfl
          exact .inr ⟨rfl, x1, decide_eq_false (by omega)⟩
      have HAA := Lib.hid hA
      have HBB := Lib.hid hBb
      have hun : (u : Int) < ((n + 1 : Nat) : Int) := by omega
      have htn : (t : Int) < ((n + 1 : Nat) : Int) := by omega
      have hun2 : (u : Int) < (n : Int) + 1 := by omega
      have htn2 : (t : Int) < (n : Int) + 1 := by omega
      have hu0 : (0 : Int) ≤ (u : Int) := by omega
      have ht0 : (0 : Int) ≤ (t : Int) := by omega
      have hkc : (k : Int) < cnt := by omega
      clear hA hBb hq u1 u2 u3 u4 hue hde hM hBK f0 f1 hJ hI hmb
      have HRw := Lib.hid HR.out.size
      have HB1w := Lib.hid (Nat.lt_of_lt_of_le hB1W HR.out.size)
      have hB1 : Below wr.heap.size wr (wr.alloc (.cells #[.int .i64 (u : Int), .int .i64 (t : Int), .int .i64 M] 98)) := (Below.refl _ _).alloc (Nat.le_refl _) _
      have a1 := World.alloc_heap_new wr (.cells #[.int .i64 (u : Int), .int .i64 (t : Int), .int .i64 M] 98)
      have HE : Hid (∀ W, Below wr.heap.size wr W → W.cell? ⟨B1, u * 4, none⟩ = some (.int .i64 L1) ∧ W.cell? ⟨B1, u * 4 + 1, none⟩ = some (.int .i64 H1) ∧ W.cell? ⟨B1, u * 4 + 2, none⟩ = some (.bool l1') ∧ W.cell? ⟨B1, u * 4 + 3, none⟩ = some (.bool h1') ∧ W.cell? ⟨B1, t * 4, none⟩ = some (.int .i64 L2) ∧ W.cell? ⟨B1, t * 4 + 1, none⟩ = some (.int .i64 H2) ∧ W.cell? ⟨B1, t * 4 + 2, none⟩ = some (.bool l2') ∧ W.cell? ⟨B1, t * 4 + 3, none⟩ = some (.bool h2')) := fun W hW => by
        have hlt := HB1w.out
        exact ⟨(hW.cell (p := ⟨B1, _, none⟩) hlt).trans e10, (hW.cell (p := ⟨B1, _, none⟩) hlt).trans e11, (hW.cell (p := ⟨B1, _, none⟩) hlt).trans e12, (hW.cell (p := ⟨B1, _, none⟩) hlt).trans e13, (hW.cell (p := ⟨B1, _, none⟩) hlt).trans e20, (hW.cell (p := ⟨B1, _, none⟩) hlt).trans e21, (hW.cell (p := ⟨B1, _, none⟩) hlt).trans e22, (hW.cell (p := ⟨B1, _, none⟩) hlt).trans e23⟩
      clear e10 e11 e12 e13 e20 e21 e22 e23
      go_upto_region 12 with fail
      generalize wr.alloc (.cells #[.int .i64 (u : Int), .int .i64 (t : Int), .int .i64 M] 98) = W4 at hB1 a1 ⊢
      have q0 : W4.cell? ⟨wr.heap.size, 0, none⟩ = some (.int .i64 (u : Int)) := cell_h a1 rfl
      have q1 : W4.cell? ⟨wr.heap.size, 1, none⟩ = some (.int .i64 (t : Int)) := cell_h a1 rfl
      obtain ⟨e10, e11, e12, e13, e20, e21, e22, e23⟩ := HE.out W4 hB1
      have hW4l : wr.heap.size < W4.heap.size := (Array.getElem?_eq_some_iff.1 a1).1
      go_cut [12, 13] (fun s12 s13 wx => ∃ b1 b2, s12 = .pointer (some ⟨b1, 0, none⟩) ∧ s13 = .pointer (some ⟨b2, 0, none⟩) ∧ wx.heap[b1]? = some (.cells #[.int .i64 L1, .int .i64 H1, .bool l1', .bool h1'] 95 (0, 0)) ∧ wx.heap[b2]? = some (.cells #[.int .i64 L2, .int .i64 H2, .bool l2', .bool h2'] 95 (0, 0)) ∧ Below W4.heap.size W4 wx)
      case first =>
        go_region_held3 (fun w' => w'.cell? ⟨wr.heap.size, 0, none⟩ = some (.int .i64 (u : Int)) ∧ w'.cell? ⟨wr.heap.size, 1, none⟩ = some (.int .i64 (t : Int)) ∧ w'.cell? ⟨B1, u * 4, none⟩ = some (.int .i64 L1) ∧ w'.cell? ⟨B1, u * 4 + 1, none⟩ = some (.int .i64 H1) ∧ w'.cell? ⟨B1, u * 4 + 2, none⟩ = some (.bool l1') ∧ w'.cell? ⟨B1, u * 4 + 3, none⟩ = some (.bool h1') ∧ w'.cell? ⟨B1, t * 4, none⟩ = some (.int .i64 L2) ∧ w'.cell? ⟨B1, t * 4 + 1, none⟩ = some (.int .i64 H2) ∧ w'.cell? ⟨B1, t * 4 + 2, none⟩ = some (.bool l2') ∧ w'.cell? ⟨B1, t * 4 + 3, none⟩ = some (.bool h2')) (go_keep) (fail)
        all_goals
          go_wp2_with fail
          go_meet
          first
            | exact ⟨_, _, rfl, rfl, al_old (World.alloc_heap_new W4 _) _, al_1 W4 _ _, (((Below.refl _ W4).alloc (Nat.le_refl _) _).alloc (by simp) _).drew⟩
            | exact ⟨_, _, rfl, rfl, al_1 W4 _ _, al_old (World.alloc_heap_new W4 _) _, (((Below.refl _ W4).alloc (Nat.le_refl _) _).alloc (by simp) _).drew⟩
      case rest =>
        obtain ⟨b1, b2, rfl, rfl, q1', q2', hBx⟩ := hcut
        have hbx : Below wr.heap.size wr wc := hB1.trans (hBx.mono hB1.size)
        have r0 : wc.cell? ⟨wr.heap.size, 2, none⟩ = some (.int .i64 M) := cell_h ((hBx.block _ hW4l).trans a1) rfl
        have r10 : wc.cell? ⟨b1, 0, none⟩ = some (.int .i64 L1) := cell_h q1' rfl
        have r11 : wc.cell? ⟨b1, 1, none⟩ = some (.int .i64 H1) := cell_h q1' rfl
        have r12 : wc.cell? ⟨b1, 2, none⟩ = some (.bool l1') := cell_h q1' rfl
        have r13 : wc.cell? ⟨b1, 3, none⟩ = some (.bool h1') := cell_h q1' rfl
        have r20 : wc.cell? ⟨b2, 0, none⟩ = some (.int .i64 L2) := cell_h q2' rfl
        have r21 : wc.cell? ⟨b2, 1, none⟩ = some (.int .i64 H2) := cell_h q2' rfl
        have r22 : wc.cell? ⟨b2, 2, none⟩ = some (.bool l2') := cell_h q2' rfl
        have r23 : wc.cell? ⟨b2, 3, none⟩ = some (.bool h2') := cell_h q2' rfl
        have HRx := Lib.hid (HR.out.trans (hbx.mono HR.out.size))
        clear q1' q2' hBx hbx a1 hB1 q0 q1 e10 e11 e12 e13 e20 e21 e22 e23 HE
        rcases HAA.out with rfl | ⟨rfl, rfl, da1⟩
        all_goals
          rcases HBB.out with rfl | ⟨rfl, rfl, db1⟩
        all_goals
          clear HAA HBB
          go_wp2_with fail
          exact ⟨⟨k + 1, by omega, by go_num, HRx.out⟩, by simp [intOf]; omega⟩
    · obtain rfl : k = cnt := by omega
      by_cases hn0 : n = 0
      · subst hn0
        go_wp2_with fail
        refine wp_loop_rounds 1 ?_
        rw [rounds_succ]
        go_wp2_with fail
        refine (awake_of _).mono ?_
        rintro e W6 ⟨rfl, hB6⟩
        have HB6 := Lib.hid ((HB3.out.trans (HR.out.mono HB3.out.size)).trans (hB6.mono (HB3.out.trans (HR.out.mono HB3.out.size)).size))
        clear hB6
        go_wp2_with fail
        go_ret
        exact ⟨rfl, HB6.out⟩
      have hn1 : ¬((n : Int) = 0) := by omega
      go_wp2_with fail
      go_loopw [113] (fun vi wr' => ∃ j : Nat, j ≤ n ∧ vi = .int .i64 j ∧ Hid (Below W3.heap.size W3 wr')) (fun vi _ => n - (intOf vi).toNat)
      case atStart => exact ⟨0, by omega, rfl, HR.out⟩
      case round =>
        obtain ⟨j, hj, rfl, HR2⟩ := hrel
        by_cases hlt2 : j < n
        · have hjn : (j : Int) < n := by omega
          have hjE : j + 1 < n + 1 := by omega
          have ej : (j + 1) * 4 = 4 + j * 4 := by omega
          have hBK := HL1.out.keep HR2.out hB1W
          have e0 := hBK.cell (k := (j + 1) * 4) (by omega)
          have e1 := hBK.cell (k := (j + 1) * 4 + 1) (by omega)
          have e2 := hBK.cell (k := (j + 1) * 4 + 2) (by omega)
          have e3 := hBK.cell (k := (j + 1) * 4 + 3) (by omega)
          rw [lmV_0, ej] at e0
          rw [lmV_1, ej] at e1
          rw [lmV_2, ej] at e2
          rw [lmV_3, ej] at e3
          have CU : Hid (∀ W, Below W3.heap.size W3 W → Calls Try.prog 39 #[.int .i64 ((n + 1 : Nat) : Int), .slice xb k cb, .int .i64 ((j + 1 : Nat) : Int), .bool true] W (ChEnd W (n + 1) k F (j + 1) 0 (j + 1) ((ptU F k (n + 1)).kn (j + 1)) ((ptU F k (n + 1)).mo (j + 1)))) := fun W hW => chain_up W F (n + 1) k cb (j + 1) xb HBk.out hjE (S3.out.keep (by decide) hW) HNc.out
          have CD : Hid (∀ W, Below W3.heap.size W3 W → Calls Try.prog 39 #[.int .i64 ((n + 1 : Nat) : Int), .slice xb k cb, .int .i64 ((j + 1 : Nat) : Int), .bool false] W (ChEnd W (n + 1) k F (j + 1) (j + 1) 0 ((ptD F k (n + 1)).kn (j + 1)) ((ptD F k (n + 1)).mo (j + 1)))) := fun W hW => chain_down W F (n + 1) k cb (j + 1) xb HBk.out hjE (S3.out.keep (by decide) hW) HNc.out
          have hde := ptD_le HBk.out (j + 1)
          generalize (ptU F k (n + 1)).kn (j + 1) = hh at e3 CU
          generalize (ptU F k (n + 1)).mo (j + 1) = HH at e1 CU
          generalize (ptD F k (n + 1)).kn (j + 1) = ll at e2 CD
          generalize (ptD F k (n + 1)).mo (j + 1) = MM at e0 CD hde
          have wM : IntKind.i64.wrap (-MM) = -MM := IntWalk.i64_in _ (by omega)
          have wj : IntKind.i64.wrap ((j : Int) + 1) = (j : Int) + 1 := IntWalk.i64_in _ (by omega)
          have ec : ((j + 1 : Nat) : Int) = (j : Int) + 1 := by push_cast; rfl
          have EC := Lib.hid ec
          have hB4 : Below wr.heap.size wr (wr.alloc (.cells #[.int .i64 (-MM), .int .i64 HH, .bool ll, .bool hh] 95)) := (Below.refl _ _).alloc (Nat.le_refl _) _
          have a4 := World.alloc_heap_new wr (.cells #[.int .i64 (-MM), .int .i64 HH, .bool ll, .bool hh] 95)
          have HB4 := Lib.hid (HR2.out.trans (hB4.mono HR2.out.size))
          clear ec hde hBK hB4
          go_wp2_with fail
          generalize wr.alloc (.cells #[.int .i64 (-MM), .int .i64 HH, .bool ll, .bool hh] 95) = W4 at a4 HB4 ⊢
          clear e0 e1 e2 e3
          refine (CU.out W4 HB4.out).mono ?_
          rintro e W5 ⟨vv, l, ev, rfl, hO5, hB5, hway⟩
          obtain ⟨xu, cu, rfl⟩ := own_form hO5
          have hU : (hh = false ∧ ev = 5) ∨ (hh = true ∧ ev = 0 ∧ chR ((n + 1 : Nat) : Int) k F l.length (lf l) = (0, (j : Int) + 1, HH, 0)) := by
            rcases hway with ⟨h1, _, h2⟩ | ⟨_, h0, _⟩ | ⟨h1, _, h2, h3, h4, h5, h6, _⟩
            · exact .inl ⟨h1, h2⟩
            · omega
            · refine .inr ⟨h1, h4, ?_⟩
              rw [chR_wk HBk.out h2 (by omega) h5, h6, EC.out]
              rfl
          have hll : l.length ≤ 64 := by
            rcases hway with ⟨_, rfl, _⟩ | ⟨_, _, rfl, _⟩ | ⟨_, _, _, h3, _⟩
            · simp
            · simp
            · omega
          have a5 := (hB5.block _ (Array.getElem?_eq_some_iff.1 a4).1).trans a4
          have HU := Lib.hid hU
          have Su := Lib.hid (own_ln hO5)
          have HB5 := Lib.hid (HB4.out.trans (hB5.mono HB4.out.size))
          have c50 : W5.cell? ⟨wr.heap.size, 0, none⟩ = some (.int .i64 (-MM)) := cell_h a5 rfl
          have c51 : W5.cell? ⟨wr.heap.size, 1, none⟩ = some (.int .i64 HH) := cell_h a5 rfl
          have c52 : W5.cell? ⟨wr.heap.size, 2, none⟩ = some (.bool ll) := cell_h a5 rfl
          have c53 : W5.cell? ⟨wr.heap.size, 3, none⟩ = some (.bool hh) := cell_h a5 rfl
          have HA5 := Lib.hid a5
          clear hO5 hB5 hway hU a4 a5 HB4 CU
          have hlast : ∀ wz, Hid (Below W3.heap.size W3 wz) → (∃ j' : Nat, j' ≤ n ∧ (.int .i64 ((j : Int) + 1) : Value) = .int .i64 j' ∧ Hid (Below W3.heap.size W3 wz)) := fun wz hz => ⟨j + 1, by omega, by go_num, hz⟩
          have HLast := Lib.hid hlast
          clear hlast
          obtain ⟨r1, r2, r3, r4, hr, hc⟩ : ∃ r1 r2 r3 r4, chR ((n + 1 : Nat) : Int) k F l.length (lf l) = (r1, r2, r3, r4) ∧ ((hh = false ∧ ev = 5) ∨ (hh = true ∧ ev = 0 ∧ r1 = 0 ∧ r2 = (j : Int) + 1 ∧ r3 = HH ∧ r4 = 0)) := by
            rcases HU.out with ⟨h1, h2⟩ | ⟨h1, h2, h3⟩
            · exact ⟨_, _, _, _, rfl, .inl ⟨h1, h2⟩⟩
            · exact ⟨_, _, _, _, h3, .inr ⟨h1, h2, rfl, rfl, rfl, rfl⟩⟩
          have HRr := Lib.hid hr
          have HCe : Hid (∀ W : World, W.heap[wr.heap.size]? = some (.cells #[.int .i64 (-MM), .int .i64 HH, .bool ll, .bool hh] 95 (0, 0)) → W.cell? ⟨wr.heap.size, 0, none⟩ = some (.int .i64 (-MM)) ∧ W.cell? ⟨wr.heap.size, 1, none⟩ = some (.int .i64 HH) ∧ W.cell? ⟨wr.heap.size, 2, none⟩ = some (.bool ll) ∧ W.cell? ⟨wr.heap.size, 3, none⟩ = some (.bool hh)) := fun W h => ⟨cell_h h rfl, cell_h h rfl, cell_h h rfl, cell_h h rfl⟩
          clear hr HU
          rcases hc with ⟨rfl, rfl⟩ | ⟨rfl, rfl, rfl, rfl, rfl, rfl⟩
          all_goals
            go_wp2_with fail
            refine (chain_of W5 ((n + 1 : Nat) : Int) xb xu k cb l.length cu F (lf l) (by omega) (S3.out.keep (by decide) HB5.out) Su.out).mono ?_
            rintro e W6 ⟨rfl, hB6⟩
            rw [HRr.out]
            dsimp only [ch4]
            have a6 := (hB6.block _ (Array.getElem?_eq_some_iff.1 HA5.out).1).trans HA5.out
            have HB6 := Lib.hid (HB5.out.trans (hB6.mono HB5.out.size))
            have HA6 := Lib.hid a6
            obtain ⟨c60, c61, c62, c63⟩ := HCe.out W6 a6
            clear c50 c51 c52 c53 hB6 a6 HA5 HB5 Su HRr hll
            go_wp2_with fail
            refine (CD.out W6 HB6.out).mono ?_
            rintro e W7 ⟨vv, l2, ev2, rfl, hO7, hB7, hway⟩
            obtain ⟨xd, cd, rfl⟩ := own_form hO7
            have hll : l2.length ≤ 64 := by
              rcases hway with ⟨_, rfl, _⟩ | ⟨_, _, rfl, _⟩ | ⟨_, _, _, h3, _⟩
              · simp
              · simp
              · omega
            obtain ⟨r1', r2', r3', r4', hr2, hc2⟩ : ∃ r1 r2 r3 r4, chR ((n + 1 : Nat) : Int) k F l2.length (lf l2) = (r1, r2, r3, r4) ∧ ((ll = false ∧ ev2 = 5) ∨ (ll = true ∧ ev2 = 0 ∧ r1 = (j : Int) + 1 ∧ r2 = 0 ∧ r3 = MM ∧ r4 = 0)) := by
              rcases hway with ⟨h1, _, h2⟩ | ⟨_, h0, _⟩ | ⟨h1, _, h2, h3, h4, h5, h6, _⟩
              · exact ⟨_, _, _, _, rfl, .inl ⟨h1, h2⟩⟩
              · omega
              · refine ⟨_, _, _, _, chR_wk HBk.out h2 (by omega) h5, .inr ⟨h1, h4, EC.out, rfl, h6, rfl⟩⟩
            have a7 := (hB7.block _ (Array.getElem?_eq_some_iff.1 HA6.out).1).trans HA6.out
            have Sd := Lib.hid (own_ln hO7)
            have HB7 := Lib.hid (HB6.out.trans (hB7.mono HB6.out.size))
            have HRr := Lib.hid hr2
            obtain ⟨c70, c71, c72, c73⟩ := HCe.out W7 a7
            have HA7 := Lib.hid a7
            clear c60 c61 c62 c63 hr2 hO7 hB7 hway a7 HA6 HB6 CD
            rcases hc2 with ⟨rfl, rfl⟩ | ⟨rfl, rfl, rfl, rfl, rfl, rfl⟩
            all_goals
              go_wp2_with fail
              refine (chain_of W7 ((n + 1 : Nat) : Int) xb xd k cb l2.length cd F (lf l2) (by omega) (S3.out.keep (by decide) HB7.out) Sd.out).mono ?_
              rintro e W8 ⟨rfl, hB8⟩
              rw [HRr.out]
              dsimp only [ch4]
              have a8 := (hB8.block _ (Array.getElem?_eq_some_iff.1 HA7.out).1).trans HA7.out
              have HB8 := Lib.hid (HB7.out.trans (hB8.mono HB7.out.size))
              obtain ⟨c80, c81, c82, c83⟩ := HCe.out W8 a8
              clear c70 c71 c72 c73 hB8 a8 HA7 HB7 Sd HRr
              go_wp2_with fail
              exact ⟨HLast.out _ HB8, by simp [intOf]; omega⟩
        · obtain rfl : j = n := by omega
          go_wp2_with fail
          refine (awake_of _).mono ?_
          rintro e W6 ⟨rfl, hB6⟩
          have HB6 := Lib.hid ((HB3.out.trans (HR2.out.mono HB3.out.size)).trans (hB6.mono (HB3.out.trans (HR2.out.mono HB3.out.size)).size))
          clear hB6
          go_wp2_with fail
          go_ret
          exact ⟨rfl, HB6.out⟩
end Go.Proofs.Ytonlamkpehakdaa
