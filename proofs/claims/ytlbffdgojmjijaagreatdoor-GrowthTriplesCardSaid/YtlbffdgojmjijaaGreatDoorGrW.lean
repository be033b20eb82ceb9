/-
  WALKS: growth: the rate of the document's example.
-/
import Derived.Test.YtlbffdgojmjijaaGreatDoorGrV
namespace Go.Proofs.YtlbffdgojmjijaaGreatDoor
open Go.RowKit

set_option maxRecDepth 100000 in
set_option maxHeartbeats 8000000 in
theorem yearly_ex (w : World) (hT : Dy.Tab w) :
    Calls Tryz.prog 51 #[.agg #[.int .i64 900, .int .i64 1100], .agg #[.int .i64 1400, .int .i64 1600], .int .i64 365, .int .i64 0] w (Dy.Ret w fun w' v => SpI w' v 300 700) := by
  have HT := Lib.hid hT
  clear hT
  go_enter Tryz.func51, Tryz.ntmps51
  go_upto_region 1 with fail
  obtain ⟨W, hW⟩ : ∃ W, ((w.alloc (.cells #[.int .i64 900, .int .i64 1100] 24)).alloc (.cells #[.int .i64 1400, .int .i64 1600] 24)).alloc (.cells #[.bool false, .slice none 0 0, .int .i64 0, .bool false, .slice none 0 0, .int .i64 0] 69) = W := ⟨_, rfl⟩
  rw [hW]
  have hB : Below w.heap.size w W := by rw [← hW]; exact (((Below.refl _ _).alloc (Nat.le_refl _) _).alloc (by simp) _).alloc (by simp; omega) _
  have hP : W.heap[w.heap.size]? = some (.cells #[.int .i64 900, .int .i64 1100] 24 (0, 0)) := by rw [← hW]; exact al_old (al_old (World.alloc_heap_new w _) _) _
  have hQ : W.heap[w.heap.size + 1]? = some (.cells #[.int .i64 1400, .int .i64 1600] 24 (0, 0)) := by rw [← hW]; exact al_old (al_1 w _ _) _
  have hR : W.heap[w.heap.size + 1 + 1]? = some (.cells #[.bool false, .slice none 0 0, .int .i64 0, .bool false, .slice none 0 0, .int .i64 0] 69 (0, 0)) := by rw [← hW]; exact al_2 w _ _ _
  have HR : Hid (W.drew.heap[w.heap.size + 1 + 1]? = some (.cells #[.bool false, .slice none 0 0, .int .i64 0, .bool false, .slice none 0 0, .int .i64 0] 69 (0, 0))) := hR
  have HB : Hid (Below w.heap.size w W.drew) := hB.drew
  have s0 := cell_h (k := 0) hP rfl
  have s1 := cell_h (k := 1) hP rfl
  have t0 := cell_h (k := 0) hQ rfl
  have t1 := cell_h (k := 1) hQ rfl
  clear hW hP hQ hR hB
  go_region
  all_goals
    clear s0 s1 t0 t1
    generalize W.drew = V at HR HB ⊢
    go_wp2_with fail
    refine (gonly_of V 300 (by unfold Dy.I64; omega) (HT.out.keep HB.out)).mono ?_
    rintro e V1 ⟨v1, rfl, hv1, hb1⟩
    have HV1 : Hid (SpI V1 v1 300 300) := hv1
    have HB1 := Lib.hid (low_trans HB.out hb1)
    have HR1 := Lib.hid (blk1 HR.out hb1)
    obtain ⟨a1, p1, n1, k1, e1, a2, p2, n2, k2, e2, rfl, _, _⟩ := hv1
    clear hb1 HR HB
    go_wp2_with fail
    refine (gonly_of V1 700 (by unfold Dy.I64; omega) (HT.out.keep HB1.out)).mono ?_
    rintro e V2 ⟨v2, rfl, hv2, hb2⟩
    have HV2 : Hid (SpI V2 v2 700 700) := hv2
    have HV12 := Lib.hid (SpI.keep HV1.out hb2)
    have HB2 := Lib.hid (low_trans HB1.out hb2)
    have HR2 := Lib.hid (blk1 HR1.out hb2)
    obtain ⟨a3, p3, n3, k3, e3, a4, p4, n4, k4, e4, rfl, _, _⟩ := hv2
    clear hb2 HR1 HB1 HV1
    go_wp2_with fail
    refine (shull_int V2 _ _ 300 300 700 700 300 700 HV12.out HV2.out (by decide) (by decide) (by decide) (by decide) (by decide) (by decide) (HT.out.keep HB2.out)).mono ?_
    rintro e V3 ⟨v3, rfl, hv3, hb3⟩
    have HV3 : Hid (SpI V3 v3 300 700) := hv3
    have HB3 := Lib.hid (low_trans HB2.out hb3)
    have HR3 := Lib.hid (blk1 HR2.out hb3)
    obtain ⟨a5, p5, n5, k5, e5, a6, p6, n6, k6, e6, rfl, _, _⟩ := hv3
    clear hb3 HR2 HB2 HV12 HV2
    go_wp2_with fail
    refine (scaled_ex V3 _ HV3.out (HT.out.keep HB3.out)).mono ?_
    rintro e V4 ⟨v4, rfl, hv4, hb4⟩
    have HV4 : Hid (SpI V4 v4 300 700) := hv4
    have HB4 := Lib.hid (low_trans HB3.out hb4)
    have HR4 := blk1 HR3.out hb4
    obtain ⟨b1, q1, l1, c1, f1, b2, q2, l2, c2, f2, rfl, _, _⟩ := hv4
    clear hb4 HR3 HB3 HV3
    have HA := Lib.hid (set6_all (b1 := b1) (q1 := q1) (l1 := l1) (c1 := c1) (f1 := f1) (b2 := b2) (q2 := q2) (l2 := l2) (c2 := c2) (f2 := f2) HR4 HB4.out (by omega))
    have z0 := cell_h (k := 0) HR4 rfl
    have z1 := cell_h (k := 1) HR4 rfl
    have z2 := cell_h (k := 2) HR4 rfl
    have z3 := cell_h (k := 3) HR4 rfl
    have z4 := cell_h (k := 4) HR4 rfl
    have z5 := cell_h (k := 5) HR4 rfl
    have zf : ∀ o, V4.frozen? ⟨w.heap.size + 1 + 1, o, none⟩ = false := fun o => by simp [World.frozen?, HR4]
    clear HR4 HB4
    go_wp2_with fail
    generalize hW9 : (((((V4.setCell ⟨w.heap.size + 1 + 1, 0, none⟩ (.bool b1)).setCell ⟨w.heap.size + 1 + 1, 1, none⟩ (.slice q1 l1 c1)).setCell ⟨w.heap.size + 1 + 1, 2, none⟩ (.int .i64 f1)).setCell ⟨w.heap.size + 1 + 1, 3, none⟩ (.bool b2)).setCell ⟨w.heap.size + 1 + 1, 4, none⟩ (.slice q2 l2 c2)).setCell ⟨w.heap.size + 1 + 1, 5, none⟩ (.int .i64 f2) = W9
    obtain ⟨hR9, hB9, hS9, _⟩ := HA.out W9 hW9
    have y0 := cell_h (k := 0) hR9 rfl
    have y1 := cell_h (k := 1) hR9 rfl
    have y2 := cell_h (k := 2) hR9 rfl
    have y3 := cell_h (k := 3) hR9 rfl
    have y4 := cell_h (k := 4) hR9 rfl
    have y5 := cell_h (k := 5) hR9 rfl
    exact bodyPost_ret (v := .agg #[.bool b1, .slice q1 l1 c1, .int .i64 f1, .bool b2, .slice q2 l2 c2, .int .i64 f2]) (by simp [results, Tryz.results51, go_sem, y0, y1, y2, y3, y4, y5]) rfl ⟨_, rfl, hS9 _ _ _ HV4.out, hB9⟩
set_option maxRecDepth 100000 in
set_option maxHeartbeats 8000000 in
theorem rate_ex (w : World) (hT : Dy.Tab w) :
    Calls Tryz.prog 26 #[.agg #[.int .i64 0, .int .i64 0, .int .i64 0, .int .i64 0, .int .i64 900, .int .i64 1100], .agg #[.int .i64 0, .int .i64 0, .int .i64 0, .int .i64 0, .int .i64 1400, .int .i64 1600], .int .i64 365, .int .i64 0] w (Dy.Ret2 w fun w' v e => e = .int .i64 0 ∧ SpI w' v 300 700) := by
  have HT := Lib.hid hT
  clear hT
  go_enter Tryz.func26, Tryz.ntmps26
  go_upto_region 1 with fail
  obtain ⟨W, hW⟩ : ∃ W, ((w.alloc (.cells #[.int .i64 0, .int .i64 0, .int .i64 0, .int .i64 0, .int .i64 900, .int .i64 1100] 26)).alloc (.cells #[.int .i64 0, .int .i64 0, .int .i64 0, .int .i64 0, .int .i64 1400, .int .i64 1600] 26)).alloc (.cells #[.bool false, .slice none 0 0, .int .i64 0, .bool false, .slice none 0 0, .int .i64 0] 69) = W := ⟨_, rfl⟩
  rw [hW]
  have hB : Below w.heap.size w W := by rw [← hW]; exact (((Below.refl _ _).alloc (Nat.le_refl _) _).alloc (by simp) _).alloc (by simp; omega) _
  have hP : W.heap[w.heap.size]? = some (.cells #[.int .i64 0, .int .i64 0, .int .i64 0, .int .i64 0, .int .i64 900, .int .i64 1100] 26 (0, 0)) := by rw [← hW]; exact al_old (al_old (World.alloc_heap_new w _) _) _
  have hQ : W.heap[w.heap.size + 1]? = some (.cells #[.int .i64 0, .int .i64 0, .int .i64 0, .int .i64 0, .int .i64 1400, .int .i64 1600] 26 (0, 0)) := by rw [← hW]; exact al_old (al_1 w _ _) _
  have hR : W.heap[w.heap.size + 1 + 1]? = some (.cells #[.bool false, .slice none 0 0, .int .i64 0, .bool false, .slice none 0 0, .int .i64 0] 69 (0, 0)) := by rw [← hW]; exact al_2 w _ _ _
  have HW := Lib.hid (And.intro hR (And.intro hP hQ))
  have HB := Lib.hid hB
  have s0 := cell_h (k := 0) hP rfl
  have t0 := cell_h (k := 0) hQ rfl
  have s1 := cell_h (k := 1) hP rfl
  have t1 := cell_h (k := 1) hQ rfl
  have s2 := cell_h (k := 2) hP rfl
  have t2 := cell_h (k := 2) hQ rfl
  have s3 := cell_h (k := 3) hP rfl
  have t3 := cell_h (k := 3) hQ rfl
  have s4 := cell_h (k := 4) hP rfl
  have t4 := cell_h (k := 4) hQ rfl
  have s5 := cell_h (k := 5) hP rfl
  have t5 := cell_h (k := 5) hQ rfl
  clear hW hP hQ hR hB
  go_wp2_with fail
  refine (gboth_of W 0 0 0 0 900 1100 0 0 0 0 1400 1600 0 (by decide)).mono ?_
  rintro e W1 ⟨rfl, hb1⟩
  have HB1 := Lib.hid (low_trans HB.out hb1)
  have HW1 := Lib.hid (blk3 HW.out hb1)
  clear hb1 HB HW s0 s1 s2 s3 s4 s5 t0 t1 t2 t3 t4 t5
  have s0 := cell_h (k := 0) HW1.out.2.1 rfl
  have t0 := cell_h (k := 0) HW1.out.2.2 rfl
  have s1 := cell_h (k := 1) HW1.out.2.1 rfl
  have t1 := cell_h (k := 1) HW1.out.2.2 rfl
  have s2 := cell_h (k := 2) HW1.out.2.1 rfl
  have t2 := cell_h (k := 2) HW1.out.2.2 rfl
  have s3 := cell_h (k := 3) HW1.out.2.1 rfl
  have t3 := cell_h (k := 3) HW1.out.2.2 rfl
  have s4 := cell_h (k := 4) HW1.out.2.1 rfl
  have t4 := cell_h (k := 4) HW1.out.2.2 rfl
  have s5 := cell_h (k := 5) HW1.out.2.1 rfl
  have t5 := cell_h (k := 5) HW1.out.2.2 rfl
  go_wp2_with fail
  refine (gwithin_of true W1 365 1 36500 (by decide)).mono ?_
  rintro e w9 ⟨rfl, rfl⟩
  go_wp2_with fail
  refine (yearly_ex _ (HT.out.keep HB1.out)).mono ?_
  rintro e V4 ⟨v4, rfl, hv4, hb4⟩
  have HV4 : Hid (SpI V4 v4 300 700) := hv4
  have HB4 := Lib.hid (low_trans HB1.out hb4)
  have HR4 := blk1 HW1.out.1 hb4
  obtain ⟨b1, q1, l1, c1, f1, b2, q2, l2, c2, f2, rfl, _, _⟩ := hv4
  clear hb4 HB1 HW1 s0 s1 s2 s3 s4 s5 t0 t1 t2 t3 t4 t5
  have HA := Lib.hid (set6_all (b1 := b1) (q1 := q1) (l1 := l1) (c1 := c1) (f1 := f1) (b2 := b2) (q2 := q2) (l2 := l2) (c2 := c2) (f2 := f2) HR4 HB4.out (by omega))
  have z0 := cell_h (k := 0) HR4 rfl
  have z1 := cell_h (k := 1) HR4 rfl
  have z2 := cell_h (k := 2) HR4 rfl
  have z3 := cell_h (k := 3) HR4 rfl
  have z4 := cell_h (k := 4) HR4 rfl
  have z5 := cell_h (k := 5) HR4 rfl
  have zf : ∀ o, V4.frozen? ⟨w.heap.size + 1 + 1, o, none⟩ = false := fun o => by simp [World.frozen?, HR4]
  clear HR4 HB4
  go_wp2_with fail
  generalize hW9 : (((((V4.setCell ⟨w.heap.size + 1 + 1, 0, none⟩ (.bool b1)).setCell ⟨w.heap.size + 1 + 1, 1, none⟩ (.slice q1 l1 c1)).setCell ⟨w.heap.size + 1 + 1, 2, none⟩ (.int .i64 f1)).setCell ⟨w.heap.size + 1 + 1, 3, none⟩ (.bool b2)).setCell ⟨w.heap.size + 1 + 1, 4, none⟩ (.slice q2 l2 c2)).setCell ⟨w.heap.size + 1 + 1, 5, none⟩ (.int .i64 f2) = W9
  obtain ⟨hR9, hB9, hS9, _⟩ := HA.out W9 hW9
  have y0 := cell_h (k := 0) hR9 rfl
  have y1 := cell_h (k := 1) hR9 rfl
  have y2 := cell_h (k := 2) hR9 rfl
  have y3 := cell_h (k := 3) hR9 rfl
  have y4 := cell_h (k := 4) hR9 rfl
  have y5 := cell_h (k := 5) hR9 rfl
  exact bodyPost_ret (v := .tuple #[.agg #[.bool b1, .slice q1 l1 c1, .int .i64 f1, .bool b2, .slice q2 l2 c2, .int .i64 f2], .int .i64 0]) (by simp [results, Tryz.results26, go_sem, y0, y1, y2, y3, y4, y5]) rfl ⟨_, _, rfl, ⟨rfl, hS9 _ _ _ HV4.out⟩, hB9⟩
end Go.Proofs.YtlbffdgojmjijaaGreatDoor
