/-
  WALKS: spans: Quo and Div of the document's example.
-/
import Derived.Test.YtlphlbgbbblnpaaGreatDoorGrS
import Derived.LoopN
namespace Go.Proofs.YtlphlbgbbblnpaaGreatDoor
open Go.RowKit

theorem set6_blk {W : World} {g b : Nat} {v0 v1 v2 v3 v4 v5 : Value} (hb : ¬(b = g)) : ((((((W.setCell ⟨g, 0, none⟩ v0).setCell ⟨g, 1, none⟩ v1).setCell ⟨g, 2, none⟩ v2).setCell ⟨g, 3, none⟩ v3).setCell ⟨g, 4, none⟩ v4).setCell ⟨g, 5, none⟩ v5).heap[b]? = W.heap[b]? := by
  rw [Below.heap_setCell _ _ _ _ (by exact hb), Below.heap_setCell _ _ _ _ (by exact hb), Below.heap_setCell _ _ _ _ (by exact hb), Below.heap_setCell _ _ _ _ (by exact hb), Below.heap_setCell _ _ _ _ (by exact hb), Below.heap_setCell _ _ _ _ (by exact hb)]
theorem set6_blk3 {W : World} {g a b c : Nat} {x y z : Obj} {v0 v1 v2 v3 v4 v5 : Value} (h : W.heap[a]? = some x ∧ W.heap[b]? = some y ∧ W.heap[c]? = some z) (ha : ¬(a = g)) (hb : ¬(b = g)) (hc : ¬(c = g)) :
    ((((((W.setCell ⟨g, 0, none⟩ v0).setCell ⟨g, 1, none⟩ v1).setCell ⟨g, 2, none⟩ v2).setCell ⟨g, 3, none⟩ v3).setCell ⟨g, 4, none⟩ v4).setCell ⟨g, 5, none⟩ v5).heap[a]? = some x ∧ ((((((W.setCell ⟨g, 0, none⟩ v0).setCell ⟨g, 1, none⟩ v1).setCell ⟨g, 2, none⟩ v2).setCell ⟨g, 3, none⟩ v3).setCell ⟨g, 4, none⟩ v4).setCell ⟨g, 5, none⟩ v5).heap[b]? = some y ∧ ((((((W.setCell ⟨g, 0, none⟩ v0).setCell ⟨g, 1, none⟩ v1).setCell ⟨g, 2, none⟩ v2).setCell ⟨g, 3, none⟩ v3).setCell ⟨g, 4, none⟩ v4).setCell ⟨g, 5, none⟩ v5).heap[c]? = some z :=
  ⟨(set6_blk ha).trans h.1, (set6_blk hb).trans h.2.1, (set6_blk hc).trans h.2.2⟩
theorem blk3 {W W' : World} {a b c : Nat} {x y z : Obj} (h : W.heap[a]? = some x ∧ W.heap[b]? = some y ∧ W.heap[c]? = some z) (hB : Below W.heap.size W W') : W'.heap[a]? = some x ∧ W'.heap[b]? = some y ∧ W'.heap[c]? = some z :=
  ⟨(hB.block _ (Array.getElem?_eq_some_iff.1 h.1).1).trans h.1, (hB.block _ (Array.getElem?_eq_some_iff.1 h.2.1).1).trans h.2.1, (hB.block _ (Array.getElem?_eq_some_iff.1 h.2.2).1).trans h.2.2⟩
theorem blk1 {W W' : World} {a : Nat} {x : Obj} (h : W.heap[a]? = some x) (hB : Below W.heap.size W W') : W'.heap[a]? = some x := (hB.block _ (Array.getElem?_eq_some_iff.1 h).1).trans h
theorem quo_300 (w : World) (v1 v2 : Value) (h1 : Dy.Nm w v1 (Dy.mk 109500 0)) (h2 : Dy.Nm w v2 (Dy.mk 365 0)) (hT : Dy.Tab w) :
    Calls Tryz.prog 100 #[v1, v2, .int .i64 0] w (Dy.Ret2 w fun w' v e => e = .int .i64 0 ∧ SpI w' v 300 300) := by
  have em1 : Dy.mk 109500 0 = Dy.mk ((27375 : Nat) : Int) 2 := Dy.mk_shift 27375 0 2
  rw [em1] at h1
  obtain ⟨a1, p1, n1, k1, e1, m1, rfl, hn1, hc1⟩ := h1.fields
  obtain ⟨a2, p2, n2, k2, e2, m2, rfl, hn2, hc2⟩ := h2.fields
  obtain ⟨rfl, rfl, rfl⟩ := Dy.canon_odd hc1 (by decide)
  obtain ⟨rfl, rfl, rfl⟩ := Dy.canon_odd (n := 365) hc2 (by decide)
  have hn0 : n2 ≠ 0 := fun e => by
    have := hn2.len_zero.1 e
    omega
  refine (Dy.quo_main w false false p1 p2 n1 k1 n2 k2 2 0 0 2 27375 365 2 0 1 hn0 (by decide) (by decide) (by decide) (by decide) (by decide) hn1 hn2 (Dy.len_two (A := 20) (by decide) (by decide)) (Dy.len_two (A := 20) (by decide) (by decide)) (Dy.len_two (A := 30) (by decide) (by decide)) (by decide) (Dy.len_two (A := 20) (by decide) (by decide)) (by decide) (by decide) (by decide) (by decide) (by decide) (by decide) (by decide) hT).mono ?_
  rintro e w' ⟨v, e', rfl, ⟨rfl, hs⟩, hb⟩
  refine ⟨v, _, rfl, ⟨rfl, ?_⟩, hb⟩
  have hd : decide (27375 * 2 ^ 2 % (365 * 2 ^ 0) = 0) = true := by decide
  have hq : 27375 * 2 ^ 2 / (365 * 2 ^ 0) = 300 := by decide
  rw [hd, hq] at hs
  exact hs
theorem quo_700 (w : World) (v1 v2 : Value) (h1 : Dy.Nm w v1 (Dy.mk 255500 0)) (h2 : Dy.Nm w v2 (Dy.mk 365 0)) (hT : Dy.Tab w) :
    Calls Tryz.prog 100 #[v1, v2, .int .i64 0] w (Dy.Ret2 w fun w' v e => e = .int .i64 0 ∧ SpI w' v 700 700) := by
  have em1 : Dy.mk 255500 0 = Dy.mk ((63875 : Nat) : Int) 2 := Dy.mk_shift 63875 0 2
  rw [em1] at h1
  obtain ⟨a1, p1, n1, k1, e1, m1, rfl, hn1, hc1⟩ := h1.fields
  obtain ⟨a2, p2, n2, k2, e2, m2, rfl, hn2, hc2⟩ := h2.fields
  obtain ⟨rfl, rfl, rfl⟩ := Dy.canon_odd hc1 (by decide)
  obtain ⟨rfl, rfl, rfl⟩ := Dy.canon_odd (n := 365) hc2 (by decide)
  have hn0 : n2 ≠ 0 := fun e => by
    have := hn2.len_zero.1 e
    omega
  refine (Dy.quo_main w false false p1 p2 n1 k1 n2 k2 2 0 0 2 63875 365 2 0 1 hn0 (by decide) (by decide) (by decide) (by decide) (by decide) hn1 hn2 (Dy.len_two (A := 20) (by decide) (by decide)) (Dy.len_two (A := 20) (by decide) (by decide)) (Dy.len_two (A := 30) (by decide) (by decide)) (by decide) (Dy.len_two (A := 20) (by decide) (by decide)) (by decide) (by decide) (by decide) (by decide) (by decide) (by decide) (by decide) hT).mono ?_
  rintro e w' ⟨v, e', rfl, ⟨rfl, hs⟩, hb⟩
  refine ⟨v, _, rfl, ⟨rfl, ?_⟩, hb⟩
  have hd : decide (63875 * 2 ^ 2 % (365 * 2 ^ 0) = 0) = true := by decide
  have hq : 63875 * 2 ^ 2 / (365 * 2 ^ 0) = 700 := by decide
  rw [hd, hq] at hs
  exact hs
set_option maxRecDepth 100000 in
set_option maxHeartbeats 8000000 in
theorem div_ex (w : World) (v1 v2 : Value) (h1 : SpI w v1 109500 255500) (h2 : SpI w v2 365 365) (hT : Dy.Tab w) :
    Calls Tryz.prog 166 #[v1, v2, .int .i64 0] w (Dy.Ret2 w fun w' v e => e = .int .i64 0 ∧ SpI w' v 300 700) := by
  have HV2 := Lib.hid h2
  obtain ⟨a1, p1, n1, k1, e1, a2, p2, n2, k2, e2, rfl, h11, h12⟩ := h1
  obtain ⟨a3, p3, n3, k3, e3, a4, p4, n4, k4, e4, rfl, h21, h22⟩ := h2
  have HT := Lib.hid hT
  have H1 := Lib.hid h11
  have H2 := Lib.hid h12
  have H3 := Lib.hid h21
  have H4 := Lib.hid h22
  clear hT h11 h12 h21 h22
  have ix0 : ∀ w, (Instr.index 250 (.agg #[.bool a1, .slice p1 n1 k1, .int .i64 e1, .bool a4, .slice p4 n4 k4, .int .i64 e4, .bool a2, .slice p2 n2 k2, .int .i64 e2, .bool a3, .slice p3 n3 k3, .int .i64 e3, .bool a2, .slice p2 n2 k2, .int .i64 e2, .bool a4, .slice p4 n4 k4, .int .i64 e4]) (.int .i64 0)).run Tryz.prog w = .ok (.agg #[.bool a1, .slice p1 n1 k1, .int .i64 e1, .bool a4, .slice p4 n4 k4, .int .i64 e4]) w := fun _ => by kernel_rfl
  have ix1 : ∀ w, (Instr.index 250 (.agg #[.bool a1, .slice p1 n1 k1, .int .i64 e1, .bool a4, .slice p4 n4 k4, .int .i64 e4, .bool a2, .slice p2 n2 k2, .int .i64 e2, .bool a3, .slice p3 n3 k3, .int .i64 e3, .bool a2, .slice p2 n2 k2, .int .i64 e2, .bool a4, .slice p4 n4 k4, .int .i64 e4]) (.int .i64 1)).run Tryz.prog w = .ok (.agg #[.bool a2, .slice p2 n2 k2, .int .i64 e2, .bool a3, .slice p3 n3 k3, .int .i64 e3]) w := fun _ => by kernel_rfl
  have ix2 : ∀ w, (Instr.index 250 (.agg #[.bool a1, .slice p1 n1 k1, .int .i64 e1, .bool a4, .slice p4 n4 k4, .int .i64 e4, .bool a2, .slice p2 n2 k2, .int .i64 e2, .bool a3, .slice p3 n3 k3, .int .i64 e3, .bool a2, .slice p2 n2 k2, .int .i64 e2, .bool a4, .slice p4 n4 k4, .int .i64 e4]) (.int .i64 2)).run Tryz.prog w = .ok (.agg #[.bool a2, .slice p2 n2 k2, .int .i64 e2, .bool a4, .slice p4 n4 k4, .int .i64 e4]) w := fun _ => by kernel_rfl
  go_enter Tryz.func166, Tryz.ntmps166
  go_wp2_with fail
  obtain ⟨W, hW⟩ : ∃ W, (((w.alloc (.cells #[.bool a1, .slice p1 n1 k1, .int .i64 e1, .bool a2, .slice p2 n2 k2, .int .i64 e2] 116)).alloc (.cells #[.bool a3, .slice p3 n3 k3, .int .i64 e3, .bool a4, .slice p4 n4 k4, .int .i64 e4] 116)).alloc (.cells #[.bool false, .slice none 0 0, .int .i64 0, .bool false, .slice none 0 0, .int .i64 0] 116)) = W := ⟨_, rfl⟩
  rw [hW]
  have hB : Below w.heap.size w W := by rw [← hW]; exact (((Below.refl _ _).alloc (Nat.le_refl _) _).alloc (by simp) _).alloc (by simp; omega) _
  have hR : W.heap[w.heap.size + 1 + 1]? = some (.cells #[.bool false, .slice none 0 0, .int .i64 0, .bool false, .slice none 0 0, .int .i64 0] 116 (0, 0)) := by rw [← hW]; exact al_2 w _ _ _
  have hP : W.heap[w.heap.size]? = some (.cells #[.bool a1, .slice p1 n1 k1, .int .i64 e1, .bool a2, .slice p2 n2 k2, .int .i64 e2] 116 (0, 0)) := by rw [← hW]; exact al_old (al_old (World.alloc_heap_new w _) _) _
  have hQ : W.heap[w.heap.size + 1]? = some (.cells #[.bool a3, .slice p3 n3 k3, .int .i64 e3, .bool a4, .slice p4 n4 k4, .int .i64 e4] 116 (0, 0)) := by rw [← hW]; exact al_old (al_1 w _ _) _
  have HB := Lib.hid hB
  have HW := Lib.hid (And.intro hR (And.intro hP hQ))
  clear hW hB hR hP hQ
  refine (has_no W _ _ 365 365 0 (SpI.keep HV2.out HB.out) (Dy.Nm.zero W) (by decide) (by decide) (by decide) (HT.out.keep HB.out)).mono ?_
  rintro e W1 ⟨rfl, hB1⟩
  have HB1 := Lib.hid (HB.out.trans (hB1.mono HB.out.size))
  have HW1 := Lib.hid (And.intro ((hB1.block _ (Array.getElem?_eq_some_iff.1 HW.out.1).1).trans HW.out.1) (And.intro ((hB1.block _ (Array.getElem?_eq_some_iff.1 HW.out.2.1).1).trans HW.out.2.1) ((hB1.block _ (Array.getElem?_eq_some_iff.1 HW.out.2.2).1).trans HW.out.2.2)))
  have s0 : W1.cell? ⟨w.heap.size, 0, none⟩ = some (.bool a1) := cell_h HW1.out.2.1 rfl
  have s1 : W1.cell? ⟨w.heap.size, 1, none⟩ = some (.slice p1 n1 k1) := cell_h HW1.out.2.1 rfl
  have s2 : W1.cell? ⟨w.heap.size, 2, none⟩ = some (.int .i64 e1) := cell_h HW1.out.2.1 rfl
  have s3 : W1.cell? ⟨w.heap.size, 3, none⟩ = some (.bool a2) := cell_h HW1.out.2.1 rfl
  have s4 : W1.cell? ⟨w.heap.size, 4, none⟩ = some (.slice p2 n2 k2) := cell_h HW1.out.2.1 rfl
  have s5 : W1.cell? ⟨w.heap.size, 5, none⟩ = some (.int .i64 e2) := cell_h HW1.out.2.1 rfl
  have t0 : W1.cell? ⟨w.heap.size + 1, 0, none⟩ = some (.bool a3) := cell_h HW1.out.2.2 rfl
  have t1 : W1.cell? ⟨w.heap.size + 1, 1, none⟩ = some (.slice p3 n3 k3) := cell_h HW1.out.2.2 rfl
  have t2 : W1.cell? ⟨w.heap.size + 1, 2, none⟩ = some (.int .i64 e3) := cell_h HW1.out.2.2 rfl
  have t3 : W1.cell? ⟨w.heap.size + 1, 3, none⟩ = some (.bool a4) := cell_h HW1.out.2.2 rfl
  have t4 : W1.cell? ⟨w.heap.size + 1, 4, none⟩ = some (.slice p4 n4 k4) := cell_h HW1.out.2.2 rfl
  have t5 : W1.cell? ⟨w.heap.size + 1, 5, none⟩ = some (.int .i64 e4) := cell_h HW1.out.2.2 rfl
  clear hB1 HW HB
  go_wp2_with fail
  refine (quo_300 W1 _ _ (H1.out.keep HB1.out) (H3.out.keep HB1.out) (HT.out.keep HB1.out)).mono ?_
  rintro e W2 ⟨v5, e5, rfl, ⟨rfl, hv5⟩, hB2⟩
  have HB2 := Lib.hid (HB1.out.trans (hB2.mono HB1.out.size))
  have HW2 := Lib.hid (blk3 HW1.out hB2)
  have HV5 := Lib.hid hv5
  obtain ⟨a5, p5, n5, k5, e5, a6, p6, n6, k6, e6, rfl, _, _⟩ := hv5
  have HGL : Hid (¬(w.heap.size + 1 + 1 = W2.heap.size) ∧ ¬(w.heap.size = W2.heap.size) ∧ ¬(w.heap.size + 1 = W2.heap.size)) := by
    have h1 := (Array.getElem?_eq_some_iff.1 HW2.out.1).1
    exact Lib.hid (by omega)
  have HBs : Hid (w.heap.size ≤ W2.heap.size) := HB2.out.size
  clear hB2 s0 s1 s2 s3 s4 s5 t0 t1 t2 t3 t4 t5 HW1 HB1
  go_upto_region 4 with fail
  obtain ⟨V0, hV0⟩ : ∃ V, W2.alloc (.cells #[.bool a5, .slice p5 n5 k5, .int .i64 e5, .bool a6, .slice p6 n6 k6, .int .i64 e6] 116) = V := ⟨_, rfl⟩
  rw [hV0]
  have hB3 : Below W2.heap.size W2 V0 := by rw [← hV0]; exact (Below.refl _ _).alloc (Nat.le_refl _) _
  have HG0 : Hid (V0.heap[W2.heap.size]? = some (.cells #[.bool a5, .slice p5 n5 k5, .int .i64 e5, .bool a6, .slice p6 n6 k6, .int .i64 e6] 116 (0, 0))) := by rw [← hV0]; exact World.alloc_heap_new W2 _
  have HW3 := Lib.hid (blk3 HW2.out hB3)
  have HS0 : Hid (SpI V0 (.agg #[.bool a5, .slice p5 n5 k5, .int .i64 e5, .bool a6, .slice p6 n6 k6, .int .i64 e6]) 300 300) := SpI.keep HV5.out hB3
  have HB3 := Lib.hid (HB2.out.trans (hB3.mono HB2.out.size))
  have s0 : V0.cell? ⟨w.heap.size, 0, none⟩ = some (.bool a1) := cell_h HW3.out.2.1 rfl
  have s1 : V0.cell? ⟨w.heap.size, 1, none⟩ = some (.slice p1 n1 k1) := cell_h HW3.out.2.1 rfl
  have s2 : V0.cell? ⟨w.heap.size, 2, none⟩ = some (.int .i64 e1) := cell_h HW3.out.2.1 rfl
  have s3 : V0.cell? ⟨w.heap.size, 3, none⟩ = some (.bool a2) := cell_h HW3.out.2.1 rfl
  have s4 : V0.cell? ⟨w.heap.size, 4, none⟩ = some (.slice p2 n2 k2) := cell_h HW3.out.2.1 rfl
  have s5 : V0.cell? ⟨w.heap.size, 5, none⟩ = some (.int .i64 e2) := cell_h HW3.out.2.1 rfl
  have t0 : V0.cell? ⟨w.heap.size + 1, 0, none⟩ = some (.bool a3) := cell_h HW3.out.2.2 rfl
  have t1 : V0.cell? ⟨w.heap.size + 1, 1, none⟩ = some (.slice p3 n3 k3) := cell_h HW3.out.2.2 rfl
  have t2 : V0.cell? ⟨w.heap.size + 1, 2, none⟩ = some (.int .i64 e3) := cell_h HW3.out.2.2 rfl
  have t3 : V0.cell? ⟨w.heap.size + 1, 3, none⟩ = some (.bool a4) := cell_h HW3.out.2.2 rfl
  have t4 : V0.cell? ⟨w.heap.size + 1, 4, none⟩ = some (.slice p4 n4 k4) := cell_h HW3.out.2.2 rfl
  have t5 : V0.cell? ⟨w.heap.size + 1, 5, none⟩ = some (.int .i64 e4) := cell_h HW3.out.2.2 rfl
  clear hV0 hB3 HV5 HW2 HB2
  go_wp2_with fail
  refine wp_loop_rounds 4 ?_
  have hgl : ¬(w.heap.size + 1 + 1 = W2.heap.size) ∧ ¬(w.heap.size = W2.heap.size) ∧ ¬(w.heap.size + 1 = W2.heap.size) := HGL.out
  clear s0 s1 s2 s3 s4 s5 t0 t1 t2 t3 t4 t5
  have hg2 : w.heap.size ≤ W2.heap.size := by
    exact HBs.out
  rw [rounds_succ]
  go_upto_region 7 with fail
  obtain ⟨Va0, hV⟩ : ∃ V, V0.alloc (.cells #[.bool a1, .slice p1 n1 k1, .int .i64 e1, .bool a4, .slice p4 n4 k4, .int .i64 e4] 249) = V := ⟨_, rfl⟩
  rw [hV]
  have hBa : Below V0.heap.size V0 Va0 := by rw [← hV]; exact (Below.refl _ _).alloc (Nat.le_refl _) _
  have hNa : Va0.heap[V0.heap.size]? = some (.cells #[.bool a1, .slice p1 n1 k1, .int .i64 e1, .bool a4, .slice p4 n4 k4, .int .i64 e4] 249 (0, 0)) := by rw [← hV]; exact World.alloc_heap_new V0 _
  have HGa0 := Lib.hid (blk1 HG0.out hBa)
  have HWa0 := Lib.hid (blk3 HW3.out hBa)
  have HSa0 := Lib.hid (SpI.keep HS0.out hBa)
  have HBa0 := Lib.hid (HB3.out.trans (hBa.mono HB3.out.size))
  have u0 : Va0.cell? ⟨V0.heap.size, 0, none⟩ = some (.bool a1) := cell_h hNa rfl
  have u1 : Va0.cell? ⟨V0.heap.size, 1, none⟩ = some (.slice p1 n1 k1) := cell_h hNa rfl
  have u2 : Va0.cell? ⟨V0.heap.size, 2, none⟩ = some (.int .i64 e1) := cell_h hNa rfl
  have u3 : Va0.cell? ⟨V0.heap.size, 3, none⟩ = some (.bool a4) := cell_h hNa rfl
  have u4 : Va0.cell? ⟨V0.heap.size, 4, none⟩ = some (.slice p4 n4 k4) := cell_h hNa rfl
  have u5 : Va0.cell? ⟨V0.heap.size, 5, none⟩ = some (.int .i64 e4) := cell_h hNa rfl
  clear hV hBa hNa HG0 HW3 HS0 HB3
  go_wp2_with fail
  refine (quo_300 Va0 _ _ (H1.out.keep HBa0.out) (H4.out.keep HBa0.out) (HT.out.keep HBa0.out)).mono ?_
  rintro e Vb0 ⟨vq, eq, rfl, ⟨rfl, hq⟩, hBb⟩
  obtain ⟨a7, p7, n7, k7, e7, a8, p8, n8, k8, e8, rfl, hq1, hq2⟩ := hq
  have HQ0 : Hid (SpI Vb0 (.agg #[.bool a7, .slice p7 n7 k7, .int .i64 e7, .bool a8, .slice p8 n8 k8, .int .i64 e8]) 300 300) := ⟨a7, p7, n7, k7, e7, a8, p8, n8, k8, e8, rfl, hq1, hq2⟩
  have HGb0 := Lib.hid (blk1 HGa0.out hBb)
  have HWb0 := Lib.hid (blk3 HWa0.out hBb)
  have HSb0 := Lib.hid (SpI.keep HSa0.out hBb)
  have HBb0 := Lib.hid (HBa0.out.trans (hBb.mono HBa0.out.size))
  clear hq1 hq2 hBb HGa0 HWa0 HSa0 HBa0 u0 u1 u2 u3 u4 u5
  go_upto_region 8 with fail
  obtain ⟨Vc0, hV⟩ : ∃ V, Vb0.alloc (.cells #[.bool a7, .slice p7 n7 k7, .int .i64 e7, .bool a8, .slice p8 n8 k8, .int .i64 e8] 116) = V := ⟨_, rfl⟩
  rw [hV]
  have hBc : Below Vb0.heap.size Vb0 Vc0 := by rw [← hV]; exact (Below.refl _ _).alloc (Nat.le_refl _) _
  have hNc : Vc0.heap[Vb0.heap.size]? = some (.cells #[.bool a7, .slice p7 n7 k7, .int .i64 e7, .bool a8, .slice p8 n8 k8, .int .i64 e8] 116 (0, 0)) := by rw [← hV]; exact World.alloc_heap_new Vb0 _
  have HGc0 := Lib.hid (blk1 HGb0.out hBc)
  have HWc0 := Lib.hid (blk3 HWb0.out hBc)
  have HSc0 := Lib.hid (SpI.keep HSb0.out hBc)
  have HQc0 := Lib.hid (SpI.keep HQ0.out hBc)
  have HBc0 := Lib.hid (HBb0.out.trans (hBc.mono HBb0.out.size))
  have u0 : Vc0.cell? ⟨Vb0.heap.size, 0, none⟩ = some (.bool a7) := cell_h hNc rfl
  have u1 : Vc0.cell? ⟨Vb0.heap.size, 1, none⟩ = some (.slice p7 n7 k7) := cell_h hNc rfl
  have u2 : Vc0.cell? ⟨Vb0.heap.size, 2, none⟩ = some (.int .i64 e7) := cell_h hNc rfl
  have u3 : Vc0.cell? ⟨Vb0.heap.size, 3, none⟩ = some (.bool a8) := cell_h hNc rfl
  have u4 : Vc0.cell? ⟨Vb0.heap.size, 4, none⟩ = some (.slice p8 n8 k8) := cell_h hNc rfl
  have u5 : Vc0.cell? ⟨Vb0.heap.size, 5, none⟩ = some (.int .i64 e8) := cell_h hNc rfl
  have g0 : Vc0.cell? ⟨W2.heap.size, 0, none⟩ = some (.bool a5) := cell_h HGc0.out rfl
  have g1 : Vc0.cell? ⟨W2.heap.size, 1, none⟩ = some (.slice p5 n5 k5) := cell_h HGc0.out rfl
  have g2 : Vc0.cell? ⟨W2.heap.size, 2, none⟩ = some (.int .i64 e5) := cell_h HGc0.out rfl
  have g3 : Vc0.cell? ⟨W2.heap.size, 3, none⟩ = some (.bool a6) := cell_h HGc0.out rfl
  have g4 : Vc0.cell? ⟨W2.heap.size, 4, none⟩ = some (.slice p6 n6 k6) := cell_h HGc0.out rfl
  have g5 : Vc0.cell? ⟨W2.heap.size, 5, none⟩ = some (.int .i64 e6) := cell_h HGc0.out rfl
  clear hV hBc hNc HGb0 HWb0 HSb0 HQ0 HBb0
  go_wp2_with fail
  refine (shull_int Vc0 _ _ 300 300 300 300 300 300 HSc0.out HQc0.out (by decide) (by decide) (by decide) (by decide) (by decide) (by decide) (HT.out.keep HBc0.out)).mono ?_
  rintro e Vd0 ⟨vh, rfl, hh, hBd⟩
  obtain ⟨a9, p9, n9, k9, e9, a10, p10, n10, k10, e10, rfl, hh1, hh2⟩ := hh
  have HH0 : Hid (SpI Vd0 (.agg #[.bool a9, .slice p9 n9 k9, .int .i64 e9, .bool a10, .slice p10 n10 k10, .int .i64 e10]) 300 300) := ⟨a9, p9, n9, k9, e9, a10, p10, n10, k10, e10, rfl, hh1, hh2⟩
  have hGd := blk1 HGc0.out hBd
  have HWd0 := Lib.hid (blk3 HWc0.out hBd)
  have HBd0 := Lib.hid (HBc0.out.trans (hBd.mono HBc0.out.size))
  clear hh1 hh2 HWc0 HGc0 HSc0 HQc0 HBc0 u0 u1 u2 u3 u4 u5 g0 g1 g2 g3 g4 g5
  have g0 : Vd0.cell? ⟨W2.heap.size, 0, none⟩ = some (.bool a5) := cell_h hGd rfl
  have g1 : Vd0.cell? ⟨W2.heap.size, 1, none⟩ = some (.slice p5 n5 k5) := cell_h hGd rfl
  have g2 : Vd0.cell? ⟨W2.heap.size, 2, none⟩ = some (.int .i64 e5) := cell_h hGd rfl
  have g3 : Vd0.cell? ⟨W2.heap.size, 3, none⟩ = some (.bool a6) := cell_h hGd rfl
  have g4 : Vd0.cell? ⟨W2.heap.size, 4, none⟩ = some (.slice p6 n6 k6) := cell_h hGd rfl
  have g5 : Vd0.cell? ⟨W2.heap.size, 5, none⟩ = some (.int .i64 e6) := cell_h hGd rfl
  have gf : ∀ o, Vd0.frozen? ⟨W2.heap.size, o, none⟩ = false := fun o => by simp [World.frozen?, hGd]
  have HA := Lib.hid (set6_all (b1 := a9) (q1 := p9) (l1 := n9) (c1 := k9) (f1 := e9) (b2 := a10) (q2 := p10) (l2 := n10) (c2 := k10) (f2 := e10) hGd HBd0.out hg2)
  have HO := Lib.hid (set6_blk3 (v0 := .bool a9) (v1 := .slice p9 n9 k9) (v2 := .int .i64 e9) (v3 := .bool a10) (v4 := .slice p10 n10 k10) (v5 := .int .i64 e10) (g := W2.heap.size) HWd0.out hgl.1 hgl.2.1 hgl.2.2)
  clear hGd hBd
  go_wp2_with fail
  generalize hW9 : (((((Vd0.setCell ⟨W2.heap.size, 0, none⟩ (.bool a9)).setCell ⟨W2.heap.size, 1, none⟩ (.slice p9 n9 k9)).setCell ⟨W2.heap.size, 2, none⟩ (.int .i64 e9)).setCell ⟨W2.heap.size, 3, none⟩ (.bool a10)).setCell ⟨W2.heap.size, 4, none⟩ (.slice p10 n10 k10)).setCell ⟨W2.heap.size, 5, none⟩ (.int .i64 e10) = Ve0 at HO
  obtain ⟨hR9, hB9, hS9, _⟩ := HA.out Ve0 hW9
  have HGe0 := Lib.hid hR9
  have HBe0 := Lib.hid hB9
  have HSe0 : Hid (SpI Ve0 (.agg #[.bool a9, .slice p9 n9 k9, .int .i64 e9, .bool a10, .slice p10 n10 k10, .int .i64 e10]) 300 300) := hS9 _ _ _ HH0.out
  have HWe0 := Lib.hid HO.out
  clear hW9 hR9 hB9 hS9 HA HO HH0 HWd0 HBd0 g0 g1 g2 g3 g4 g5 gf
  (try simp only [Exit.inBlock, Exit.then])
  rw [rounds_succ]
  go_upto_region 7 with fail
  obtain ⟨Va1, hV⟩ : ∃ V, Ve0.alloc (.cells #[.bool a2, .slice p2 n2 k2, .int .i64 e2, .bool a3, .slice p3 n3 k3, .int .i64 e3] 249) = V := ⟨_, rfl⟩
  rw [hV]
  have hBa : Below Ve0.heap.size Ve0 Va1 := by rw [← hV]; exact (Below.refl _ _).alloc (Nat.le_refl _) _
  have hNa : Va1.heap[Ve0.heap.size]? = some (.cells #[.bool a2, .slice p2 n2 k2, .int .i64 e2, .bool a3, .slice p3 n3 k3, .int .i64 e3] 249 (0, 0)) := by rw [← hV]; exact World.alloc_heap_new Ve0 _
  have HGa1 := Lib.hid (blk1 HGe0.out hBa)
  have HWa1 := Lib.hid (blk3 HWe0.out hBa)
  have HSa1 := Lib.hid (SpI.keep HSe0.out hBa)
  have HBa1 := Lib.hid (HBe0.out.trans (hBa.mono HBe0.out.size))
  have u0 : Va1.cell? ⟨Ve0.heap.size, 0, none⟩ = some (.bool a2) := cell_h hNa rfl
  have u1 : Va1.cell? ⟨Ve0.heap.size, 1, none⟩ = some (.slice p2 n2 k2) := cell_h hNa rfl
  have u2 : Va1.cell? ⟨Ve0.heap.size, 2, none⟩ = some (.int .i64 e2) := cell_h hNa rfl
  have u3 : Va1.cell? ⟨Ve0.heap.size, 3, none⟩ = some (.bool a3) := cell_h hNa rfl
  have u4 : Va1.cell? ⟨Ve0.heap.size, 4, none⟩ = some (.slice p3 n3 k3) := cell_h hNa rfl
  have u5 : Va1.cell? ⟨Ve0.heap.size, 5, none⟩ = some (.int .i64 e3) := cell_h hNa rfl
  clear hV hBa hNa HGe0 HWe0 HSe0 HBe0
  go_wp2_with fail
  refine (quo_700 Va1 _ _ (H2.out.keep HBa1.out) (H3.out.keep HBa1.out) (HT.out.keep HBa1.out)).mono ?_
  rintro e Vb1 ⟨vq, eq, rfl, ⟨rfl, hq⟩, hBb⟩
  obtain ⟨a11, p11, n11, k11, e11, a12, p12, n12, k12, e12, rfl, hq1, hq2⟩ := hq
  have HQ1 : Hid (SpI Vb1 (.agg #[.bool a11, .slice p11 n11 k11, .int .i64 e11, .bool a12, .slice p12 n12 k12, .int .i64 e12]) 700 700) := ⟨a11, p11, n11, k11, e11, a12, p12, n12, k12, e12, rfl, hq1, hq2⟩
  have HGb1 := Lib.hid (blk1 HGa1.out hBb)
  have HWb1 := Lib.hid (blk3 HWa1.out hBb)
  have HSb1 := Lib.hid (SpI.keep HSa1.out hBb)
  have HBb1 := Lib.hid (HBa1.out.trans (hBb.mono HBa1.out.size))
  clear hq1 hq2 hBb HGa1 HWa1 HSa1 HBa1 u0 u1 u2 u3 u4 u5
  go_upto_region 8 with fail
  obtain ⟨Vc1, hV⟩ : ∃ V, Vb1.alloc (.cells #[.bool a11, .slice p11 n11 k11, .int .i64 e11, .bool a12, .slice p12 n12 k12, .int .i64 e12] 116) = V := ⟨_, rfl⟩
  rw [hV]
  have hBc : Below Vb1.heap.size Vb1 Vc1 := by rw [← hV]; exact (Below.refl _ _).alloc (Nat.le_refl _) _
  have hNc : Vc1.heap[Vb1.heap.size]? = some (.cells #[.bool a11, .slice p11 n11 k11, .int .i64 e11, .bool a12, .slice p12 n12 k12, .int .i64 e12] 116 (0, 0)) := by rw [← hV]; exact World.alloc_heap_new Vb1 _
  have HGc1 := Lib.hid (blk1 HGb1.out hBc)
  have HWc1 := Lib.hid (blk3 HWb1.out hBc)
  have HSc1 := Lib.hid (SpI.keep HSb1.out hBc)
  have HQc1 := Lib.hid (SpI.keep HQ1.out hBc)
  have HBc1 := Lib.hid (HBb1.out.trans (hBc.mono HBb1.out.size))
  have u0 : Vc1.cell? ⟨Vb1.heap.size, 0, none⟩ = some (.bool a11) := cell_h hNc rfl
  have u1 : Vc1.cell? ⟨Vb1.heap.size, 1, none⟩ = some (.slice p11 n11 k11) := cell_h hNc rfl
  have u2 : Vc1.cell? ⟨Vb1.heap.size, 2, none⟩ = some (.int .i64 e11) := cell_h hNc rfl
  have u3 : Vc1.cell? ⟨Vb1.heap.size, 3, none⟩ = some (.bool a12) := cell_h hNc rfl
  have u4 : Vc1.cell? ⟨Vb1.heap.size, 4, none⟩ = some (.slice p12 n12 k12) := cell_h hNc rfl
  have u5 : Vc1.cell? ⟨Vb1.heap.size, 5, none⟩ = some (.int .i64 e12) := cell_h hNc rfl
  have g0 : Vc1.cell? ⟨W2.heap.size, 0, none⟩ = some (.bool a9) := cell_h HGc1.out rfl
  have g1 : Vc1.cell? ⟨W2.heap.size, 1, none⟩ = some (.slice p9 n9 k9) := cell_h HGc1.out rfl
  have g2 : Vc1.cell? ⟨W2.heap.size, 2, none⟩ = some (.int .i64 e9) := cell_h HGc1.out rfl
  have g3 : Vc1.cell? ⟨W2.heap.size, 3, none⟩ = some (.bool a10) := cell_h HGc1.out rfl
  have g4 : Vc1.cell? ⟨W2.heap.size, 4, none⟩ = some (.slice p10 n10 k10) := cell_h HGc1.out rfl
  have g5 : Vc1.cell? ⟨W2.heap.size, 5, none⟩ = some (.int .i64 e10) := cell_h HGc1.out rfl
  clear hV hBc hNc HGb1 HWb1 HSb1 HQ1 HBb1
  go_wp2_with fail
  refine (shull_int Vc1 _ _ 300 300 700 700 300 700 HSc1.out HQc1.out (by decide) (by decide) (by decide) (by decide) (by decide) (by decide) (HT.out.keep HBc1.out)).mono ?_
  rintro e Vd1 ⟨vh, rfl, hh, hBd⟩
  obtain ⟨a13, p13, n13, k13, e13, a14, p14, n14, k14, e14, rfl, hh1, hh2⟩ := hh
  have HH1 : Hid (SpI Vd1 (.agg #[.bool a13, .slice p13 n13 k13, .int .i64 e13, .bool a14, .slice p14 n14 k14, .int .i64 e14]) 300 700) := ⟨a13, p13, n13, k13, e13, a14, p14, n14, k14, e14, rfl, hh1, hh2⟩
  have hGd := blk1 HGc1.out hBd
  have HWd1 := Lib.hid (blk3 HWc1.out hBd)
  have HBd1 := Lib.hid (HBc1.out.trans (hBd.mono HBc1.out.size))
  clear hh1 hh2 HWc1 HGc1 HSc1 HQc1 HBc1 u0 u1 u2 u3 u4 u5 g0 g1 g2 g3 g4 g5
  have g0 : Vd1.cell? ⟨W2.heap.size, 0, none⟩ = some (.bool a9) := cell_h hGd rfl
  have g1 : Vd1.cell? ⟨W2.heap.size, 1, none⟩ = some (.slice p9 n9 k9) := cell_h hGd rfl
  have g2 : Vd1.cell? ⟨W2.heap.size, 2, none⟩ = some (.int .i64 e9) := cell_h hGd rfl
  have g3 : Vd1.cell? ⟨W2.heap.size, 3, none⟩ = some (.bool a10) := cell_h hGd rfl
  have g4 : Vd1.cell? ⟨W2.heap.size, 4, none⟩ = some (.slice p10 n10 k10) := cell_h hGd rfl
  have g5 : Vd1.cell? ⟨W2.heap.size, 5, none⟩ = some (.int .i64 e10) := cell_h hGd rfl
  have gf : ∀ o, Vd1.frozen? ⟨W2.heap.size, o, none⟩ = false := fun o => by simp [World.frozen?, hGd]
  have HA := Lib.hid (set6_all (b1 := a13) (q1 := p13) (l1 := n13) (c1 := k13) (f1 := e13) (b2 := a14) (q2 := p14) (l2 := n14) (c2 := k14) (f2 := e14) hGd HBd1.out hg2)
  have HO := Lib.hid (set6_blk3 (v0 := .bool a13) (v1 := .slice p13 n13 k13) (v2 := .int .i64 e13) (v3 := .bool a14) (v4 := .slice p14 n14 k14) (v5 := .int .i64 e14) (g := W2.heap.size) HWd1.out hgl.1 hgl.2.1 hgl.2.2)
  clear hGd hBd
  go_wp2_with fail
  generalize hW9 : (((((Vd1.setCell ⟨W2.heap.size, 0, none⟩ (.bool a13)).setCell ⟨W2.heap.size, 1, none⟩ (.slice p13 n13 k13)).setCell ⟨W2.heap.size, 2, none⟩ (.int .i64 e13)).setCell ⟨W2.heap.size, 3, none⟩ (.bool a14)).setCell ⟨W2.heap.size, 4, none⟩ (.slice p14 n14 k14)).setCell ⟨W2.heap.size, 5, none⟩ (.int .i64 e14) = Ve1 at HO
  obtain ⟨hR9, hB9, hS9, _⟩ := HA.out Ve1 hW9
  have HGe1 := Lib.hid hR9
  have HBe1 := Lib.hid hB9
  have HSe1 : Hid (SpI Ve1 (.agg #[.bool a13, .slice p13 n13 k13, .int .i64 e13, .bool a14, .slice p14 n14 k14, .int .i64 e14]) 300 700) := hS9 _ _ _ HH1.out
  have HWe1 := Lib.hid HO.out
  clear hW9 hR9 hB9 hS9 HA HO HH1 HWd1 HBd1 g0 g1 g2 g3 g4 g5 gf
  (try simp only [Exit.inBlock, Exit.then])
  rw [rounds_succ]
  go_upto_region 7 with fail
  obtain ⟨Va2, hV⟩ : ∃ V, Ve1.alloc (.cells #[.bool a2, .slice p2 n2 k2, .int .i64 e2, .bool a4, .slice p4 n4 k4, .int .i64 e4] 249) = V := ⟨_, rfl⟩
  rw [hV]
  have hBa : Below Ve1.heap.size Ve1 Va2 := by rw [← hV]; exact (Below.refl _ _).alloc (Nat.le_refl _) _
  have hNa : Va2.heap[Ve1.heap.size]? = some (.cells #[.bool a2, .slice p2 n2 k2, .int .i64 e2, .bool a4, .slice p4 n4 k4, .int .i64 e4] 249 (0, 0)) := by rw [← hV]; exact World.alloc_heap_new Ve1 _
  have HGa2 := Lib.hid (blk1 HGe1.out hBa)
  have HWa2 := Lib.hid (blk3 HWe1.out hBa)
  have HSa2 := Lib.hid (SpI.keep HSe1.out hBa)
  have HBa2 := Lib.hid (HBe1.out.trans (hBa.mono HBe1.out.size))
  have u0 : Va2.cell? ⟨Ve1.heap.size, 0, none⟩ = some (.bool a2) := cell_h hNa rfl
  have u1 : Va2.cell? ⟨Ve1.heap.size, 1, none⟩ = some (.slice p2 n2 k2) := cell_h hNa rfl
  have u2 : Va2.cell? ⟨Ve1.heap.size, 2, none⟩ = some (.int .i64 e2) := cell_h hNa rfl
  have u3 : Va2.cell? ⟨Ve1.heap.size, 3, none⟩ = some (.bool a4) := cell_h hNa rfl
  have u4 : Va2.cell? ⟨Ve1.heap.size, 4, none⟩ = some (.slice p4 n4 k4) := cell_h hNa rfl
  have u5 : Va2.cell? ⟨Ve1.heap.size, 5, none⟩ = some (.int .i64 e4) := cell_h hNa rfl
  clear hV hBa hNa HGe1 HWe1 HSe1 HBe1
  go_wp2_with fail
  refine (quo_700 Va2 _ _ (H2.out.keep HBa2.out) (H4.out.keep HBa2.out) (HT.out.keep HBa2.out)).mono ?_
  rintro e Vb2 ⟨vq, eq, rfl, ⟨rfl, hq⟩, hBb⟩
  obtain ⟨a15, p15, n15, k15, e15, a16, p16, n16, k16, e16, rfl, hq1, hq2⟩ := hq
  have HQ2 : Hid (SpI Vb2 (.agg #[.bool a15, .slice p15 n15 k15, .int .i64 e15, .bool a16, .slice p16 n16 k16, .int .i64 e16]) 700 700) := ⟨a15, p15, n15, k15, e15, a16, p16, n16, k16, e16, rfl, hq1, hq2⟩
  have HGb2 := Lib.hid (blk1 HGa2.out hBb)
  have HWb2 := Lib.hid (blk3 HWa2.out hBb)
  have HSb2 := Lib.hid (SpI.keep HSa2.out hBb)
  have HBb2 := Lib.hid (HBa2.out.trans (hBb.mono HBa2.out.size))
  clear hq1 hq2 hBb HGa2 HWa2 HSa2 HBa2 u0 u1 u2 u3 u4 u5
  go_upto_region 8 with fail
  obtain ⟨Vc2, hV⟩ : ∃ V, Vb2.alloc (.cells #[.bool a15, .slice p15 n15 k15, .int .i64 e15, .bool a16, .slice p16 n16 k16, .int .i64 e16] 116) = V := ⟨_, rfl⟩
  rw [hV]
  have hBc : Below Vb2.heap.size Vb2 Vc2 := by rw [← hV]; exact (Below.refl _ _).alloc (Nat.le_refl _) _
  have hNc : Vc2.heap[Vb2.heap.size]? = some (.cells #[.bool a15, .slice p15 n15 k15, .int .i64 e15, .bool a16, .slice p16 n16 k16, .int .i64 e16] 116 (0, 0)) := by rw [← hV]; exact World.alloc_heap_new Vb2 _
  have HGc2 := Lib.hid (blk1 HGb2.out hBc)
  have HWc2 := Lib.hid (blk3 HWb2.out hBc)
  have HSc2 := Lib.hid (SpI.keep HSb2.out hBc)
  have HQc2 := Lib.hid (SpI.keep HQ2.out hBc)
  have HBc2 := Lib.hid (HBb2.out.trans (hBc.mono HBb2.out.size))
  have u0 : Vc2.cell? ⟨Vb2.heap.size, 0, none⟩ = some (.bool a15) := cell_h hNc rfl
  have u1 : Vc2.cell? ⟨Vb2.heap.size, 1, none⟩ = some (.slice p15 n15 k15) := cell_h hNc rfl
  have u2 : Vc2.cell? ⟨Vb2.heap.size, 2, none⟩ = some (.int .i64 e15) := cell_h hNc rfl
  have u3 : Vc2.cell? ⟨Vb2.heap.size, 3, none⟩ = some (.bool a16) := cell_h hNc rfl
  have u4 : Vc2.cell? ⟨Vb2.heap.size, 4, none⟩ = some (.slice p16 n16 k16) := cell_h hNc rfl
  have u5 : Vc2.cell? ⟨Vb2.heap.size, 5, none⟩ = some (.int .i64 e16) := cell_h hNc rfl
  have g0 : Vc2.cell? ⟨W2.heap.size, 0, none⟩ = some (.bool a13) := cell_h HGc2.out rfl
  have g1 : Vc2.cell? ⟨W2.heap.size, 1, none⟩ = some (.slice p13 n13 k13) := cell_h HGc2.out rfl
  have g2 : Vc2.cell? ⟨W2.heap.size, 2, none⟩ = some (.int .i64 e13) := cell_h HGc2.out rfl
  have g3 : Vc2.cell? ⟨W2.heap.size, 3, none⟩ = some (.bool a14) := cell_h HGc2.out rfl
  have g4 : Vc2.cell? ⟨W2.heap.size, 4, none⟩ = some (.slice p14 n14 k14) := cell_h HGc2.out rfl
  have g5 : Vc2.cell? ⟨W2.heap.size, 5, none⟩ = some (.int .i64 e14) := cell_h HGc2.out rfl
  clear hV hBc hNc HGb2 HWb2 HSb2 HQ2 HBb2
  go_wp2_with fail
  refine (shull_int Vc2 _ _ 300 700 700 700 300 700 HSc2.out HQc2.out (by decide) (by decide) (by decide) (by decide) (by decide) (by decide) (HT.out.keep HBc2.out)).mono ?_
  rintro e Vd2 ⟨vh, rfl, hh, hBd⟩
  obtain ⟨a17, p17, n17, k17, e17, a18, p18, n18, k18, e18, rfl, hh1, hh2⟩ := hh
  have HH2 : Hid (SpI Vd2 (.agg #[.bool a17, .slice p17 n17 k17, .int .i64 e17, .bool a18, .slice p18 n18 k18, .int .i64 e18]) 300 700) := ⟨a17, p17, n17, k17, e17, a18, p18, n18, k18, e18, rfl, hh1, hh2⟩
  have hGd := blk1 HGc2.out hBd
  have HWd2 := Lib.hid (blk3 HWc2.out hBd)
  have HBd2 := Lib.hid (HBc2.out.trans (hBd.mono HBc2.out.size))
  clear hh1 hh2 HWc2 HGc2 HSc2 HQc2 HBc2 u0 u1 u2 u3 u4 u5 g0 g1 g2 g3 g4 g5
  have g0 : Vd2.cell? ⟨W2.heap.size, 0, none⟩ = some (.bool a13) := cell_h hGd rfl
  have g1 : Vd2.cell? ⟨W2.heap.size, 1, none⟩ = some (.slice p13 n13 k13) := cell_h hGd rfl
  have g2 : Vd2.cell? ⟨W2.heap.size, 2, none⟩ = some (.int .i64 e13) := cell_h hGd rfl
  have g3 : Vd2.cell? ⟨W2.heap.size, 3, none⟩ = some (.bool a14) := cell_h hGd rfl
  have g4 : Vd2.cell? ⟨W2.heap.size, 4, none⟩ = some (.slice p14 n14 k14) := cell_h hGd rfl
  have g5 : Vd2.cell? ⟨W2.heap.size, 5, none⟩ = some (.int .i64 e14) := cell_h hGd rfl
  have gf : ∀ o, Vd2.frozen? ⟨W2.heap.size, o, none⟩ = false := fun o => by simp [World.frozen?, hGd]
  have HA := Lib.hid (set6_all (b1 := a17) (q1 := p17) (l1 := n17) (c1 := k17) (f1 := e17) (b2 := a18) (q2 := p18) (l2 := n18) (c2 := k18) (f2 := e18) hGd HBd2.out hg2)
  have HO := Lib.hid (set6_blk3 (v0 := .bool a17) (v1 := .slice p17 n17 k17) (v2 := .int .i64 e17) (v3 := .bool a18) (v4 := .slice p18 n18 k18) (v5 := .int .i64 e18) (g := W2.heap.size) HWd2.out hgl.1 hgl.2.1 hgl.2.2)
  clear hGd hBd
  go_wp2_with fail
  generalize hW9 : (((((Vd2.setCell ⟨W2.heap.size, 0, none⟩ (.bool a17)).setCell ⟨W2.heap.size, 1, none⟩ (.slice p17 n17 k17)).setCell ⟨W2.heap.size, 2, none⟩ (.int .i64 e17)).setCell ⟨W2.heap.size, 3, none⟩ (.bool a18)).setCell ⟨W2.heap.size, 4, none⟩ (.slice p18 n18 k18)).setCell ⟨W2.heap.size, 5, none⟩ (.int .i64 e18) = Ve2 at HO
  obtain ⟨hR9, hB9, hS9, _⟩ := HA.out Ve2 hW9
  have HGe2 := Lib.hid hR9
  have HBe2 := Lib.hid hB9
  have HSe2 : Hid (SpI Ve2 (.agg #[.bool a17, .slice p17 n17 k17, .int .i64 e17, .bool a18, .slice p18 n18 k18, .int .i64 e18]) 300 700) := hS9 _ _ _ HH2.out
  have HWe2 := Lib.hid HO.out
  clear hW9 hR9 hB9 hS9 HA HO HH2 HWd2 HBd2 g0 g1 g2 g3 g4 g5 gf
  (try simp only [Exit.inBlock, Exit.then])
  rw [rounds_succ]
  have g0 : Ve2.cell? ⟨W2.heap.size, 0, none⟩ = some (.bool a17) := cell_h HGe2.out rfl
  have g1 : Ve2.cell? ⟨W2.heap.size, 1, none⟩ = some (.slice p17 n17 k17) := cell_h HGe2.out rfl
  have g2 : Ve2.cell? ⟨W2.heap.size, 2, none⟩ = some (.int .i64 e17) := cell_h HGe2.out rfl
  have g3 : Ve2.cell? ⟨W2.heap.size, 3, none⟩ = some (.bool a18) := cell_h HGe2.out rfl
  have g4 : Ve2.cell? ⟨W2.heap.size, 4, none⟩ = some (.slice p18 n18 k18) := cell_h HGe2.out rfl
  have g5 : Ve2.cell? ⟨W2.heap.size, 5, none⟩ = some (.int .i64 e18) := cell_h HGe2.out rfl
  have z0 : Ve2.cell? ⟨w.heap.size + 1 + 1, 0, none⟩ = some (.bool false) := cell_h HWe2.out.1 rfl
  have z1 : Ve2.cell? ⟨w.heap.size + 1 + 1, 1, none⟩ = some (.slice none 0 0) := cell_h HWe2.out.1 rfl
  have z2 : Ve2.cell? ⟨w.heap.size + 1 + 1, 2, none⟩ = some (.int .i64 0) := cell_h HWe2.out.1 rfl
  have z3 : Ve2.cell? ⟨w.heap.size + 1 + 1, 3, none⟩ = some (.bool false) := cell_h HWe2.out.1 rfl
  have z4 : Ve2.cell? ⟨w.heap.size + 1 + 1, 4, none⟩ = some (.slice none 0 0) := cell_h HWe2.out.1 rfl
  have z5 : Ve2.cell? ⟨w.heap.size + 1 + 1, 5, none⟩ = some (.int .i64 0) := cell_h HWe2.out.1 rfl
  have zf : ∀ o, Ve2.frozen? ⟨w.heap.size + 1 + 1, o, none⟩ = false := fun o => by simp [World.frozen?, HWe2.out.1]
  have HA := Lib.hid (set6_all (b1 := a17) (q1 := p17) (l1 := n17) (c1 := k17) (f1 := e17) (b2 := a18) (q2 := p18) (l2 := n18) (c2 := k18) (f2 := e18) HWe2.out.1 HBe2.out (by omega))
  go_wp2_with fail
  generalize hW9 : (((((Ve2.setCell ⟨w.heap.size + 1 + 1, 0, none⟩ (.bool a17)).setCell ⟨w.heap.size + 1 + 1, 1, none⟩ (.slice p17 n17 k17)).setCell ⟨w.heap.size + 1 + 1, 2, none⟩ (.int .i64 e17)).setCell ⟨w.heap.size + 1 + 1, 3, none⟩ (.bool a18)).setCell ⟨w.heap.size + 1 + 1, 4, none⟩ (.slice p18 n18 k18)).setCell ⟨w.heap.size + 1 + 1, 5, none⟩ (.int .i64 e18) = W9
  obtain ⟨hR9, hB9, hS9, _⟩ := HA.out W9 hW9
  have y0 := cell_h (k := 0) hR9 rfl
  have y1 := cell_h (k := 1) hR9 rfl
  have y2 := cell_h (k := 2) hR9 rfl
  have y3 := cell_h (k := 3) hR9 rfl
  have y4 := cell_h (k := 4) hR9 rfl
  have y5 := cell_h (k := 5) hR9 rfl
  exact bodyPost_ret (v := .tuple #[.agg #[.bool a17, .slice p17 n17 k17, .int .i64 e17, .bool a18, .slice p18 n18 k18, .int .i64 e18], .int .i64 0]) (by simp [results, Tryz.results166, go_sem, y0, y1, y2, y3, y4, y5]) rfl ⟨_, _, rfl, ⟨rfl, hS9 _ _ _ HSe2.out⟩, hB9⟩
end Go.Proofs.YtlphlbgbbblnpaaGreatDoor
