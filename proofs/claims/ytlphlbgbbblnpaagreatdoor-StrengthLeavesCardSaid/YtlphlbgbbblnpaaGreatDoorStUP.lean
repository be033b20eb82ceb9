/-
  WALKS AND WORDS: PlU StU of my texts, one behind the other.
-/
import Derived.Test.YtlphlbgbbblnpaaGreatDoorStIK
import Derived.Test.YtlphlbgbbblnpaaGreatDoorStPR
-- PlU: REGIONS in which several operations may come up: calls in their chain, and room that is made at any time among them.
namespace Go.Proofs.YtlphlbgbbblnpaaGreatDoor
open Go.RowKit Go.Shelf

attribute [local go_sem] Oper.semAt_some

def allP (p : Nat → Prop) : List Nat → Prop
  | [] => True
  | i :: l => p i ∧ allP p l
theorem allP_mem {p : Nat → Prop} : ∀ {l : List Nat}, allP p l → ∀ i ∈ l, p i
  | [], _, i, hi => by cases hi
  | j :: l, h, i, hi => by
    rcases List.mem_cons.1 hi with rfl | hi
    · exact h.1
    · exact allP_mem h.2 i hi
section
variable {F : Fence} {n : Nat} {P : Program} {ops : Array Oper} {Q : Exit → Act → World → Prop} {md : Region.Mode} {S : World → Prop} {t : Nat}
theorem anyT_l (l : List Nat) {fuel : Nat} {listed : Array Bool} {a : Act} {w : World} (hr : Region.ready md ops listed = l) (hne : l ≠ [])
    (h : allP (fun i => wpOpIn F n P ops Q i (fun a' w' => (i = t ∨ S w') ∧ anyT t F n P md ops Q S fuel (listed.setIfInBounds i true) a' w') a w) l) : anyT t F n P md ops Q S (fuel + 1) listed a w :=
  ⟨fun h0 => absurd (hr.symm.trans h0) hne, fun j hj => by rw [hr] at hj; exact allP_mem h j hj⟩
theorem opT_call (hF : ∀ f, F.fn f) (hn : F.depth.isSome = true → 1 ≤ n) (i d : Nat) {o : Oper} {listed : Array Bool} {fuel : Nat} {a : Act} {w : World} {f : FuncId} {args : Array Value} {R : Ending → World → Prop} (hi : ops[i]? = some o) (hdst : o.dst = some d) (hd : noDefer ops = true)
    (hw : Region.wanted o (yielded ops a.tmps) = true) (hv : (execOp a.eval o).run P w = .ok (.enter f args) w) (hc : CallsIn F (n - 1) P f args w R)
    (h : ∀ e w', R e w' → ∃ v, e = .returned v ∧ S w' ∧ anyT t F n P md ops Q S fuel (listed.setIfInBounds i true) { tmps := a.tmps.setIfInBounds d v, defers := a.defers } w') :
    wpOpIn F n P ops Q i (fun a' w' => (i = t ∨ S w') ∧ anyT t F n P md ops Q S fuel (listed.setIfInBounds i true) a' w') a w := by
  unfold wpOpIn
  simp only [hi, hw, if_true, Oper.wpIn, Oper.semAt_eq _ _ _ (fun c => noDefer_spec hd i o c hi), hv, Oper.uponIn]
  refine ⟨fun f _ => hF f, hn, hc.mono ?_⟩
  intro e w' he
  obtain ⟨v, rfl, hS, hA⟩ := h e w' he
  exact ⟨.inr hS, by rw [put_some hdst]; exact hA⟩
theorem opT_val (hF : ∀ f, F.fn f) (i d : Nat) {o : Oper} {listed : Array Bool} {fuel : Nat} {a : Act} {w w2 : World} {v : Value} (hi : ops[i]? = some o) (hdst : o.dst = some d) (hd : noDefer ops = true)
    (hg : o.guard = none) (hv : (execOp a.eval o).run P w = .ok (.value v) w2) (hS : S w2)
    (h : anyT t F n P md ops Q S fuel (listed.setIfInBounds i true) { tmps := a.tmps.setIfInBounds d v, defers := a.defers } w2) :
    wpOpIn F n P ops Q i (fun a' w' => (i = t ∨ S w') ∧ anyT t F n P md ops Q S fuel (listed.setIfInBounds i true) a' w') a w := by
  unfold wpOpIn
  have hw : Region.wanted o (yielded ops a.tmps) = true := by simp [Region.wanted, hg]
  simp only [hi, hw, if_true, Oper.wpIn, Oper.semAt_eq _ _ _ (fun c => noDefer_spec hd i o c hi), hv, Oper.uponIn]
  exact ⟨fun f _ => hF f, .inr hS, by rw [put_some hdst]; exact h⟩
theorem opT_skip (hF : ∀ f, F.fn f) (i : Nat) {o : Oper} {listed : Array Bool} {fuel : Nat} {a : Act} {w w2 : World} (hi : ops[i]? = some o) (hdst : o.dst = none) (hd : noDefer ops = true)
    (hg : o.guard = none) (hv : (execOp a.eval o).run P w = .ok .skip w2) (hS : i = t ∨ S w2)
    (h : anyT t F n P md ops Q S fuel (listed.setIfInBounds i true) a w2) :
    wpOpIn F n P ops Q i (fun a' w' => (i = t ∨ S w') ∧ anyT t F n P md ops Q S fuel (listed.setIfInBounds i true) a' w') a w := by
  unfold wpOpIn
  have hw : Region.wanted o (yielded ops a.tmps) = true := by simp [Region.wanted, hg]
  simp only [hi, hw, if_true, Oper.wpIn, Oper.semAt_eq _ _ _ (fun c => noDefer_spec hd i o c hi), hv, Oper.uponIn]
  exact ⟨fun f _ => hF f, hS, by rw [put_none hdst]; exact h⟩
end
end Go.Proofs.YtlphlbgbbblnpaaGreatDoor
-- StU: WALKS: strength: quotients of 0 and exact ones with 20 bits; the root of a span with 20 bits.
namespace Go.Proofs.YtlphlbgbbblnpaaGreatDoor
open Go.RowKit

theorem mk0 : Dy.mk 0 (-20) = Dy.mk 0 0 := (mk20 0).symm
theorem quo_zero (w : World) (v1 v2 : Value) (a : Nat) (h1 : Dy.Nm w v1 (Dy.mk 0 0)) (h2 : Dy.Nm w v2 (Dy.mk (a : Int) (-20))) (h0 : a ≠ 0) (ha : a < 2 ^ 40) (hT : Dy.Tab w) :
    Calls Tryz.prog 100 #[v1, v2, .int .i64 20] w (Dy.Ret2 w fun w' v e => e = .int .i64 0 ∧ SpI w' v 0 0) := by
  obtain ⟨a1, p1, n1, k1, e1, m1, rfl, hn1, hc1⟩ := h1.fields
  obtain ⟨a2, p2, n2, k2, e2, m2, rfl, hn2, hc2⟩ := h2.fields
  obtain ⟨rfl, j, rfl, hD2, ho2⟩ := odd_split20 hc2 h0
  have hj : j ≤ 40 := by
    rcases Nat.lt_or_ge 40 j with h | h
    · exfalso
      have h3 : 2 ^ 40 ≤ 2 ^ j := Nat.pow_le_pow_right (by omega) (by omega)
      have h4 : 1 * 2 ^ j ≤ m2 * 2 ^ j := Nat.mul_le_mul_right _ (by omega)
      omega
    · exact h
  have hm2 : m2 ≤ a := by rw [hD2]; exact Nat.le_mul_of_pos_right _ (Nat.two_pow_pos _)
  have hn0 : n2 ≠ 0 := fun e => by
    have := hn2.len_zero.1 e
    omega
  obtain ⟨rfl, rfl, rfl⟩ : m1 = 0 ∧ a1 = false ∧ e1 = 0 := by
    rcases hc1 with ⟨rfl, rfl, rfl, _⟩ | ⟨ho, hx⟩
    · exact ⟨rfl, rfl, rfl⟩
    · exfalso
      have h9 : Dy.mk 0 0 = 0 := rfl
      rw [h9] at hx
      exact Dy.mk_ne_zero (Dy.sg_odd ho) hx.symm
  obtain ⟨s, hs⟩ : ∃ s : Nat, j + s = 40 := ⟨40 - j, by omega⟩
  have hz : 0 * 2 ^ s = 0 := Nat.zero_mul _
  have hq2 : m2 * 2 ^ 0 = m2 := by simp
  refine (Dy.quo_main w false false p1 p2 n1 k1 n2 k2 0 ((j : Int) - 20) 20 s 0 m2 s 0 2 hn0 (by omega) (by omega) (by omega) (by decide) (by decide) hn1 hn2 (Dy.len_two (A := 63) (by decide) (by decide)) (Dy.len_two (A := 63) (by omega) (by decide)) (Dy.len_two (A := 83) (by rw [hz]; decide) (by decide)) (by decide) (Dy.len_two (A := 63) (by rw [hq2]; omega) (by decide)) (by rw [hq2]; omega) (by omega) (by decide) (by decide) (by decide) (by omega) (by omega) hT).mono ?_
  rintro e w' ⟨v, e', rfl, ⟨rfl, hs9⟩, hb⟩
  rw [hz, Nat.zero_mod, Nat.zero_div] at hs9
  exact ⟨v, _, rfl, ⟨rfl, hs9⟩, hb⟩
theorem quo_ex (w : World) (v1 v2 : Value) (R D c : Nat) (h1 : Dy.Nm w v1 (Dy.mk (R : Int) 0)) (h2 : Dy.Nm w v2 (Dy.mk (D : Int) 0)) (hc : R = c * D) (hR : R < 2 ^ 63) (hD : D < 2 ^ 63) (h0 : D ≠ 0) (he : D % 2 ^ 21 ≠ 0) (hT : Dy.Tab w) :
    Calls Tryz.prog 100 #[v1, v2, .int .i64 20] w (Dy.Ret2 w fun w' v e => e = .int .i64 0 ∧ SpI w' v (c : Int) (c : Int)) := by
  refine (quo20 w v1 v2 R D h1 h2 hR hD h0 he hT).mono ?_
  rintro e w' ⟨v, e', rfl, ⟨rfl, ex, hs, hx⟩, hb⟩
  have hm : R * 2 ^ 20 = (c * 2 ^ 20) * D := by rw [hc, Nat.mul_right_comm]
  rw [hm, Nat.mul_mod_left, decide_eq_true rfl] at hx
  subst hx
  rw [hm, Nat.mul_div_cancel _ (by omega), rLo_eq, rHi_eq, if_pos rfl] at hs
  refine ⟨v, _, rfl, ⟨rfl, ?_⟩, hb⟩
  unfold SpI
  rw [mk20, show (c : Int) * 1048576 = ((c * 2 ^ 20 : Nat) : Int) by rw [Int.natCast_mul, show ((2 ^ 20 : Nat) : Int) = 1048576 from rfl]]
  exact hs
set_option maxRecDepth 100000 in
set_option maxHeartbeats 8000000 in
theorem sroot_of (w : World) (v : Value) (D D' : Nat) (h : Dy.Sp w v (Dy.mk (D : Int) (-20)) (Dy.mk (D' : Int) (-20))) (h0 : D ≠ 0) (h0' : D' ≠ 0) (hD : D < 2 ^ 60) (hD' : D' < 2 ^ 60) (hT : Dy.Tab w) :
    Calls Tryz.prog 167 #[v, .int .i64 20] w (Dy.Ret2 w fun w' v e => e = .int .i64 0 ∧ ∃ r r' : Nat, (0 < r ∧ r < 2 ^ 40) ∧ (0 < r' ∧ r' < 2 ^ 41) ∧ Dy.Sp w' v (Dy.mk (r : Int) (-20)) (Dy.mk (r' : Int) (-20))) := by
  have hrb : ∀ (r E : Nat), E ≠ 0 → E < 2 ^ 60 → r * r ≤ E * 2 ^ 20 → E * 2 ^ 20 < (r + 1) * (r + 1) → 0 < r ∧ r < 2 ^ 40 := fun r E e0 e1 h1 h2 => by
    constructor
    · rcases Nat.eq_zero_or_pos r with rfl | h
      · exfalso
        have : 1 * 2 ^ 20 ≤ E * 2 ^ 20 := Nat.mul_le_mul_right _ (by omega)
        omega
      · exact h
    · rcases Nat.lt_or_ge r (2 ^ 40) with h | h
      · exact h
      · exfalso
        have h3 : 2 ^ 40 * 2 ^ 40 ≤ r * r := Nat.mul_le_mul h h
        have h4 : E * 2 ^ 20 < 2 ^ 60 * 2 ^ 20 := Nat.mul_lt_mul_of_pos_right e1 (by decide)
        omega
  have HRB := Lib.hid hrb
  have HT := Lib.hid hT
  obtain ⟨b1, q1, l1, c1, f1, B1, Q1, L1, C1, F1, rfl, hn1, hn2⟩ := id h
  have H1 := Lib.hid hn1
  have H2 := Lib.hid hn2
  clear h hT hn1 hn2 hrb
  go_enter Tryz.func167, Tryz.ntmps167
  go_wp2_with fail
  obtain ⟨W, hW⟩ : ∃ W, (w.alloc (.cells #[.bool b1, .slice q1 l1 c1, .int .i64 f1, .bool B1, .slice Q1 L1 C1, .int .i64 F1] 116)).alloc (.cells #[.bool false, .slice none 0 0, .int .i64 0, .bool false, .slice none 0 0, .int .i64 0] 116) = W := ⟨_, rfl⟩
  rw [hW]
  have hB : Below w.heap.size w W := by rw [← hW]; exact ((Below.refl _ _).alloc (Nat.le_refl _) _).alloc (by simp) _
  have hP : W.heap[w.heap.size]? = some (.cells #[.bool b1, .slice q1 l1 c1, .int .i64 f1, .bool B1, .slice Q1 L1 C1, .int .i64 F1] 116 (0, 0)) := by rw [← hW]; exact al_old (World.alloc_heap_new w _) _
  have hR : W.heap[w.heap.size + 1]? = some (.cells #[.bool false, .slice none 0 0, .int .i64 0, .bool false, .slice none 0 0, .int .i64 0] 116 (0, 0)) := by rw [← hW]; exact al_1 w _ _
  have HB := Lib.hid hB
  have HP := Lib.hid hP
  have HR := Lib.hid hR
  clear hW hB hP hR
  refine (root20 W _ D (Dy.Nm.keep H1.out HB.out) h0 (by omega) (HT.out.keep HB.out)).mono ?_
  rintro e W1 ⟨v, ee, rfl, ⟨rfl, r1, x1, hr1, hr2, hs⟩, hb⟩
  have HX1 := Lib.hid (HRB.out r1 D h0 hD hr1 hr2)
  have HS1 := Lib.hid hs
  obtain ⟨b2, q2, l2, c2, f2, B2, Q2, L2, C2, F2, rfl, _, _⟩ := id hs
  have hb1 := hb
  clear hs hr1 hr2
  go_upto_region 2 with fail
  have HN2 := Lib.hid (World.alloc_heap_new W1 (.cells #[.bool b2, .slice q2 l2 c2, .int .i64 f2, .bool B2, .slice Q2 L2 C2, .int .i64 F2] 116))
  have HB2 := Lib.hid (low_trans hb1 ((Below.refl W1.heap.size W1).alloc (Nat.le_refl _) (.cells #[.bool b2, .slice q2 l2 c2, .int .i64 f2, .bool B2, .slice Q2 L2 C2, .int .i64 F2] 116)))
  have HS2 : Hid (Dy.Sp (W1.alloc (.cells #[.bool b2, .slice q2 l2 c2, .int .i64 f2, .bool B2, .slice Q2 L2 C2, .int .i64 F2] 116)) (.agg #[.bool b2, .slice q2 l2 c2, .int .i64 f2, .bool B2, .slice Q2 L2 C2, .int .i64 F2]) _ _) := Dy.Sp.keep HS1.out ((Below.refl W1.heap.size W1).alloc (Nat.le_refl _) _)
  have HL2 : Hid (w.heap.size + 1 < W1.heap.size) := (Array.getElem?_eq_some_iff.1 (blk1 HR.out hb1)).1
  clear hb hb1 HS1
  generalize W1.alloc (.cells #[.bool b2, .slice q2 l2 c2, .int .i64 f2, .bool B2, .slice Q2 L2 C2, .int .i64 F2] 116) = W2 at HN2 HB2 HS2 ⊢
  generalize W1.heap.size = nb at HN2 HL2 ⊢

  have p3 := cell_h (k := 3) (blk1 HP.out HB2.out) rfl
  have p4 := cell_h (k := 4) (blk1 HP.out HB2.out) rfl
  have p5 := cell_h (k := 5) (blk1 HP.out HB2.out) rfl
  go_wp2_with fail
  have hb2 := low_trans HB.out HB2.out
  refine (root20 W2 _ D' (Dy.Nm.keep H2.out hb2) h0' (by omega) (HT.out.keep hb2)).mono ?_
  rintro e W3 ⟨v, ee, rfl, ⟨rfl, r2, x2, hr1, hr2, hs⟩, hb⟩
  have HX2 := Lib.hid (HRB.out r2 D' h0' hD' hr1 hr2)
  have HS3 := Lib.hid hs
  obtain ⟨b3, q3, l3, c3, f3, B3, Q3, L3, C3, F3, rfl, _, _⟩ := id hs
  have hb1 := hb
  clear hs hr1 hr2 p3 p4 p5 hb2
  go_upto_region 5 with fail
  have hn3 := World.alloc_heap_new W3 (.cells #[.bool b3, .slice q3 l3 c3, .int .i64 f3, .bool B3, .slice Q3 L3 C3, .int .i64 F3] 116)
  have ha := (Below.refl W3.heap.size W3).alloc (Nat.le_refl _) (.cells #[.bool b3, .slice q3 l3 c3, .int .i64 f3, .bool B3, .slice Q3 L3 C3, .int .i64 F3] 116)
  have hb4 := low_trans hb1 ha
  have hS3 : Dy.Sp (W3.alloc (.cells #[.bool b3, .slice q3 l3 c3, .int .i64 f3, .bool B3, .slice Q3 L3 C3, .int .i64 F3] 116)) (.agg #[.bool b3, .slice q3 l3 c3, .int .i64 f3, .bool B3, .slice Q3 L3 C3, .int .i64 F3]) _ _ := Dy.Sp.keep HS3.out ha
  have hS2 := Dy.Sp.keep HS2.out hb4
  have hN2 := blk1 HN2.out hb4
  have hR2 := blk1 (blk1 HR.out HB2.out) hb4
  have hB4 := low_trans HB.out (low_trans HB2.out hb4)
  have hl3 : w.heap.size + 1 < W3.heap.size := (Array.getElem?_eq_some_iff.1 (blk1 (blk1 HR.out HB2.out) hb1)).1
  clear hb hb1 ha hb4 HS3 HS2 HN2
  generalize W3.alloc (.cells #[.bool b3, .slice q3 l3 c3, .int .i64 f3, .bool B3, .slice Q3 L3 C3, .int .i64 F3] 116) = W4 at hn3 hS3 hS2 hN2 hR2 hB4 ⊢
  generalize W3.heap.size = nc at hn3 hl3 ⊢

  have hSp : Dy.Sp W4 (.agg #[.bool b2, .slice q2 l2 c2, .int .i64 f2, .bool B3, .slice Q3 L3 C3, .int .i64 F3]) (Dy.mk (r1 : Int) (-20)) (Dy.mk ((if x2 then r2 else r2 + 1 : Nat) : Int) (-20)) := by
    obtain ⟨_, _, _, _, _, _, _, _, _, _, e1, g1, _⟩ := hS2
    obtain ⟨_, _, _, _, _, _, _, _, _, _, e2, _, g2⟩ := hS3
    injection e1 with e1; injection e1 with e1; injection e1 with i1 e1; injection e1 with i2 e1; injection e1 with i3 e1
    injection e2 with e2; injection e2 with e2; injection e2 with _ e2; injection e2 with _ e2; injection e2 with _ e2; injection e2 with j1 e2; injection e2 with j2 e2; injection e2 with j3 e2
    injection i1 with i1; injection i2 with i2a i2b i2c; injection i3 with _ i3
    injection j1 with j1; injection j2 with j2a j2b j2c; injection j3 with _ j3
    subst i1 i2a i2b i2c i3 j1 j2a j2b j2c j3
    exact ⟨_, _, _, _, _, _, _, _, _, _, rfl, g1, g2⟩
  have HSp := Lib.hid hSp
  have u0 := cell_h (k := 0) hN2 rfl
  have u1 := cell_h (k := 1) hN2 rfl
  have u2 := cell_h (k := 2) hN2 rfl
  have t3 := cell_h (k := 3) hn3 rfl
  have t4 := cell_h (k := 4) hn3 rfl
  have t5 := cell_h (k := 5) hn3 rfl
  have HA := Lib.hid (set6_all (b1 := b2) (q1 := q2) (l1 := l2) (c1 := c2) (f1 := f2) (b2 := B3) (q2 := Q3) (l2 := L3) (c2 := C3) (f2 := F3) hR2 hB4 (by omega : w.heap.size ≤ w.heap.size + 1))
  have z0 := cell_h (k := 0) hR2 rfl
  have z1 := cell_h (k := 1) hR2 rfl
  have z2 := cell_h (k := 2) hR2 rfl
  have z3 := cell_h (k := 3) hR2 rfl
  have z4 := cell_h (k := 4) hR2 rfl
  have z5 := cell_h (k := 5) hR2 rfl
  have zf : ∀ o, W4.frozen? ⟨w.heap.size + 1, o, none⟩ = false := fun o => by simp [World.frozen?, hR2]
  clear hSp hS2 hS3 hN2 hn3 hR2 hB4 hl3
  go_wp2_with fail
  generalize hW9 : (((((W4.setCell ⟨w.heap.size + 1, 0, none⟩ (.bool b2)).setCell ⟨w.heap.size + 1, 1, none⟩ (.slice q2 l2 c2)).setCell ⟨w.heap.size + 1, 2, none⟩ (.int .i64 f2)).setCell ⟨w.heap.size + 1, 3, none⟩ (.bool B3)).setCell ⟨w.heap.size + 1, 4, none⟩ (.slice Q3 L3 C3)).setCell ⟨w.heap.size + 1, 5, none⟩ (.int .i64 F3) = W9
  obtain ⟨hR9, hB9, hS9, _⟩ := HA.out W9 hW9
  have y0 := cell_h (k := 0) hR9 rfl
  have y1 := cell_h (k := 1) hR9 rfl
  have y2 := cell_h (k := 2) hR9 rfl
  have y3 := cell_h (k := 3) hR9 rfl
  have y4 := cell_h (k := 4) hR9 rfl
  have y5 := cell_h (k := 5) hR9 rfl
  have hx1 := HX1.out
  have hx2 := HX2.out
  refine bodyPost_ret (v := .tuple #[.agg #[.bool b2, .slice q2 l2 c2, .int .i64 f2, .bool B3, .slice Q3 L3 C3, .int .i64 F3], .int .i64 0]) (by simp [results, Tryz.results167, go_sem, y0, y1, y2, y3, y4, y5]) rfl ⟨_, _, rfl, ⟨rfl, r1, _, hx1, ?_, hS9 _ _ _ HSp.out⟩, hB9⟩
  cases x2 <;> simp <;> omega
end Go.Proofs.YtlphlbgbbblnpaaGreatDoor
