/-
  WALKS: growth: the rate of the document's example; the error of two findings.
-/
import Derived.Test.YtlbffdgojmjijaaGreatDoorGrT
import Derived.Test.YtlbffdgojmjijaaGreatDoorGrU
import Derived.Deep.RegionWith
import Derived.BigRegion
import Derived.BigQuiet
namespace Go.Proofs.YtlbffdgojmjijaaGreatDoor
open Go.RowKit

set_option maxHeartbeats 4000000 in
theorem gboth_of (w : World) (a c l wd lo hi a' c' l' wd' lo' hi' r : Int) (hr : r = if fdE a c l wd lo hi = 0 then fdE a' c' l' wd' lo' hi' else fdE a c l wd lo hi) :
    Calls Tryz.prog 38 #[.agg #[.int .i64 a, .int .i64 c, .int .i64 l, .int .i64 wd, .int .i64 lo, .int .i64 hi], .agg #[.int .i64 a', .int .i64 c', .int .i64 l', .int .i64 wd', .int .i64 lo', .int .i64 hi']] w fun e w' => e = .returned (.int .i64 r) ∧ Below w.heap.size w w' := by
  have HR := Lib.hid hr
  clear hr
  have HF1 : Hid (∀ w, Calls Tryz.prog 35 #[.agg #[.int .i64 a, .int .i64 c, .int .i64 l, .int .i64 wd, .int .i64 lo, .int .i64 hi]] w fun e w' => e = .returned (.int .i64 (fdE a c l wd lo hi)) ∧ Below w.heap.size w w') := fun w => gcheckF_of w a c l wd lo hi
  have HF2 : Hid (∀ w, Calls Tryz.prog 35 #[.agg #[.int .i64 a', .int .i64 c', .int .i64 l', .int .i64 wd', .int .i64 lo', .int .i64 hi']] w fun e w' => e = .returned (.int .i64 (fdE a' c' l' wd' lo' hi')) ∧ Below w.heap.size w w') := fun w => gcheckF_of w a' c' l' wd' lo' hi'
  generalize fdE a c l wd lo hi = x at HF1 HR
  generalize fdE a' c' l' wd' lo' hi' = y at HF2 HR
  go_enter Tryz.func38, Tryz.ntmps38
  go_upto_region 1 with fail
  have hB : Below w.heap.size w ((w.alloc (.cells #[.int .i64 a, .int .i64 c, .int .i64 l, .int .i64 wd, .int .i64 lo, .int .i64 hi] 26)).alloc (.cells #[.int .i64 a', .int .i64 c', .int .i64 l', .int .i64 wd', .int .i64 lo', .int .i64 hi'] 26)) := ((Below.refl _ _).alloc (Nat.le_refl _) _).alloc (by simp) _
  have hP : ((w.alloc (.cells #[.int .i64 a, .int .i64 c, .int .i64 l, .int .i64 wd, .int .i64 lo, .int .i64 hi] 26)).alloc (.cells #[.int .i64 a', .int .i64 c', .int .i64 l', .int .i64 wd', .int .i64 lo', .int .i64 hi'] 26)).heap[w.heap.size]? = some (.cells #[.int .i64 a, .int .i64 c, .int .i64 l, .int .i64 wd, .int .i64 lo, .int .i64 hi] 26 (0, 0)) := al_old (World.alloc_heap_new w _) _
  have hQ : ((w.alloc (.cells #[.int .i64 a, .int .i64 c, .int .i64 l, .int .i64 wd, .int .i64 lo, .int .i64 hi] 26)).alloc (.cells #[.int .i64 a', .int .i64 c', .int .i64 l', .int .i64 wd', .int .i64 lo', .int .i64 hi'] 26)).heap[w.heap.size + 1]? = some (.cells #[.int .i64 a', .int .i64 c', .int .i64 l', .int .i64 wd', .int .i64 lo', .int .i64 hi'] 26 (0, 0)) := al_1 w _ _
  generalize (w.alloc (.cells #[.int .i64 a, .int .i64 c, .int .i64 l, .int .i64 wd, .int .i64 lo, .int .i64 hi] 26)).alloc (.cells #[.int .i64 a', .int .i64 c', .int .i64 l', .int .i64 wd', .int .i64 lo', .int .i64 hi'] 26) = W at hB hP hQ ⊢
  have HB := Lib.hid hB
  have HQ := Lib.hid hQ
  have s0 := cell_h (k := 0) hP rfl
  have s1 := cell_h (k := 1) hP rfl
  have s2 := cell_h (k := 2) hP rfl
  have s3 := cell_h (k := 3) hP rfl
  have s4 := cell_h (k := 4) hP rfl
  have s5 := cell_h (k := 5) hP rfl
  clear hP hQ hB
  go_wp2_with fail
  refine (HF1.out _).mono ?_
  rintro e W1 ⟨rfl, hB1⟩
  have HB1 := Lib.hid (HB.out.trans (hB1.mono HB.out.size))
  have hQ1 := blk1 HQ.out hB1
  have t0 := cell_h (k := 0) hQ1 rfl
  have t1 := cell_h (k := 1) hQ1 rfl
  have t2 := cell_h (k := 2) hQ1 rfl
  have t3 := cell_h (k := 3) hQ1 rfl
  have t4 := cell_h (k := 4) hQ1 rfl
  have t5 := cell_h (k := 5) hQ1 rfl
  clear hB1 hQ1 HB s0 s1 s2 s3 s4 s5
  by_cases hx : x = 0
  · subst hx
    go_wp2_with fail
    refine (HF2.out _).mono ?_
    rintro e W2 ⟨rfl, hB2⟩
    have HB2 := Lib.hid (HB1.out.trans (hB2.mono HB1.out.size))
    clear hB2
    go_wp2_with fail
    go_ret
    have h : r = y := by rw [HR.out]; simp
    exact ⟨by rw [h]; rfl, HB2.out⟩
  · go_wp2_with fail
    go_ret
    have h : r = x := by rw [HR.out]; simp [hx]
    exact ⟨by rw [h]; rfl, HB1.out⟩
set_option maxHeartbeats 4000000 in
theorem found_of (w : World) (at_ ck lo hi : Int) :
    Calls Tryz.prog 27 #[.int .i64 at_, .int .i64 ck, .int .i64 lo, .int .i64 hi] w fun e w' => e = .returned (.agg #[.int .i64 at_, .int .i64 ck, .int .i64 0, .int .i64 0, .int .i64 lo, .int .i64 hi]) ∧ Below w.heap.size w w' := by
  go_enter Tryz.func27, Tryz.ntmps27
  go_wp2_with fail
  refine bodyPost_ret (v := .agg #[.int .i64 at_, .int .i64 ck, .int .i64 0, .int .i64 0, .int .i64 lo, .int .i64 hi]) (by simp [results, Tryz.results27, go_sem]) rfl ⟨rfl, ?_⟩
  first
    | exact (Below.refl _ _).alloc (Nat.le_refl _) _
    | exact ((Below.refl _ _).alloc (Nat.le_refl _) _).setCell (by simp) _
    | exact ((((((((Below.refl _ _).alloc (Nat.le_refl _) _).setCell (Nat.le_refl _) _).setCell (Nat.le_refl _) _).setCell (Nat.le_refl _) _).setCell (Nat.le_refl _) _).setCell (Nat.le_refl _) _).setCell (Nat.le_refl _) _)
theorem low_trans {w V W : World} (h : Below w.heap.size w V) (hb : Below V.heap.size V W) : Below w.heap.size w W := h.trans (hb.mono h.size)
set_option maxRecDepth 100000 in
set_option maxHeartbeats 8000000 in
theorem scaled_ex (w : World) (v : Value) (h : SpI w v 300 700) (hT : Dy.Tab w) :
    Calls Tryz.prog 73 #[v, .int .i64 365, .int .i64 365, .int .i64 0] w (Dy.Ret w fun w' v => SpI w' v 300 700) := by
  have HV := Lib.hid h
  obtain ⟨a1, p1, n1, k1, e1, a2, p2, n2, k2, e2, rfl, h11, h12⟩ := h
  have HO : Hid (∀ V, Below w.heap.size w V → Calls Tryz.prog 74 #[.int .i64 365] V (Dy.Ret V fun w' v => SpI w' v 365 365)) := fun V hV => gonly_of V 365 (by unfold Dy.I64; omega) (hT.keep hV)
  have HM : Hid (∀ V u, Below w.heap.size w V → SpI V u 365 365 → Calls Tryz.prog 88 #[.agg #[.bool a1, .slice p1 n1 k1, .int .i64 e1, .bool a2, .slice p2 n2 k2, .int .i64 e2], u] V (Dy.Ret V fun w' v => SpI w' v 109500 255500)) := fun V u hV hu => smul_int V _ _ 300 700 365 365 109500 255500 (HV.out.keep hV) hu (by decide) (by decide) (by decide) (by decide) (by decide) (by decide) (hT.keep hV)
  have HD : Hid (∀ V u v, Below w.heap.size w V → SpI V u 109500 255500 → SpI V v 365 365 → Calls Tryz.prog 89 #[u, v, .int .i64 0] V (Dy.Ret2 V fun w' v e => e = .int .i64 0 ∧ SpI w' v 300 700)) := fun V u v hV hu hv => div_ex V u v hu hv (hT.keep hV)
  clear h11 h12 hT
  go_enter Tryz.func73, Tryz.ntmps73
  go_upto_region 1 with fail
  obtain ⟨W, hW⟩ : ∃ W, (w.alloc (.cells #[.bool a1, .slice p1 n1 k1, .int .i64 e1, .bool a2, .slice p2 n2 k2, .int .i64 e2] 69)).alloc (.cells #[.bool false, .slice none 0 0, .int .i64 0, .bool false, .slice none 0 0, .int .i64 0] 69) = W := ⟨_, rfl⟩
  rw [hW]
  have hB0 : Below w.heap.size w W := by rw [← hW]; exact ((Below.refl _ _).alloc (Nat.le_refl _) _).alloc (by simp) _
  have hP : W.heap[w.heap.size]? = some (.cells #[.bool a1, .slice p1 n1 k1, .int .i64 e1, .bool a2, .slice p2 n2 k2, .int .i64 e2] 69 (0, 0)) := by rw [← hW]; exact al_old (World.alloc_heap_new w _) _
  have hR : W.heap[w.heap.size + 1]? = some (.cells #[.bool false, .slice none 0 0, .int .i64 0, .bool false, .slice none 0 0, .int .i64 0] 69 (0, 0)) := by rw [← hW]; exact al_1 w _ _
  have hB : Below w.heap.size w W.drew := hB0.drew
  have hPR := Lib.hid (And.intro hP hR)
  have s0 : W.drew.cell? ⟨w.heap.size, 0, none⟩ = some (.bool a1) := cell_h hP rfl
  have s1 : W.drew.cell? ⟨w.heap.size, 1, none⟩ = some (.slice p1 n1 k1) := cell_h hP rfl
  have s2 : W.drew.cell? ⟨w.heap.size, 2, none⟩ = some (.int .i64 e1) := cell_h hP rfl
  have s3 : W.drew.cell? ⟨w.heap.size, 3, none⟩ = some (.bool a2) := cell_h hP rfl
  have s4 : W.drew.cell? ⟨w.heap.size, 4, none⟩ = some (.slice p2 n2 k2) := cell_h hP rfl
  have s5 : W.drew.cell? ⟨w.heap.size, 5, none⟩ = some (.int .i64 e2) := cell_h hP rfl
  have hBW : Below W.heap.size W W.drew := (Below.refl _ _).drew
  clear hW hP hR hB0
  go_region_with (first
    | (go_at_call 74; refine (HO.out _ (by assumption)).mono ?_; rintro e9 Wo ⟨vo, rfl, hvo, hbo⟩; (have hBo : Below w.heap.size w Wo := low_trans (by assumption) hbo); (have hWo : Below W.heap.size W Wo := low_trans (by assumption) hbo); (have s0 : Wo.cell? ⟨w.heap.size, 0, none⟩ = some (.bool a1) := cell_h (blk1 hPR.out.1 hWo) rfl); (have s1 : Wo.cell? ⟨w.heap.size, 1, none⟩ = some (.slice p1 n1 k1) := cell_h (blk1 hPR.out.1 hWo) rfl); (have s2 : Wo.cell? ⟨w.heap.size, 2, none⟩ = some (.int .i64 e1) := cell_h (blk1 hPR.out.1 hWo) rfl); (have s3 : Wo.cell? ⟨w.heap.size, 3, none⟩ = some (.bool a2) := cell_h (blk1 hPR.out.1 hWo) rfl); (have s4 : Wo.cell? ⟨w.heap.size, 4, none⟩ = some (.slice p2 n2 k2) := cell_h (blk1 hPR.out.1 hWo) rfl); (have s5 : Wo.cell? ⟨w.heap.size, 5, none⟩ = some (.int .i64 e2) := cell_h (blk1 hPR.out.1 hWo) rfl); (obtain ⟨a3, p3, n3, k3, e3, a4, p4, n4, k4, e4, rfl, _, _⟩ := id hvo))
    | (go_at_call 88; refine (HM.out _ _ hBo hvo).mono ?_; rintro e9 Wm ⟨vm, rfl, hvm, hbm⟩; (have hBm : Below w.heap.size w Wm := low_trans hBo hbm); (have hWm : Below W.heap.size W Wm := low_trans hWo hbm); (obtain ⟨a5, p5, n5, k5, e5, a6, p6, n6, k6, e6, rfl, _, _⟩ := id hvm))
    | (go_at_call 89; refine (HD.out _ _ _ hBo (SpI.keep hvm hbo) hvo).mono ?_; rintro e9 Wd ⟨vd, ed, rfl, ⟨rfl, hvd⟩, hbd⟩; (have hBd : Below w.heap.size w Wd := low_trans hBo hbd); (have hWd : Below W.heap.size W Wd := low_trans hWo hbd); (have s0 : Wd.cell? ⟨w.heap.size, 0, none⟩ = some (.bool a1) := cell_h (blk1 hPR.out.1 hWd) rfl); (have s1 : Wd.cell? ⟨w.heap.size, 1, none⟩ = some (.slice p1 n1 k1) := cell_h (blk1 hPR.out.1 hWd) rfl); (have s2 : Wd.cell? ⟨w.heap.size, 2, none⟩ = some (.int .i64 e1) := cell_h (blk1 hPR.out.1 hWd) rfl); (have s3 : Wd.cell? ⟨w.heap.size, 3, none⟩ = some (.bool a2) := cell_h (blk1 hPR.out.1 hWd) rfl); (have s4 : Wd.cell? ⟨w.heap.size, 4, none⟩ = some (.slice p2 n2 k2) := cell_h (blk1 hPR.out.1 hWd) rfl); (have s5 : Wd.cell? ⟨w.heap.size, 5, none⟩ = some (.int .i64 e2) := cell_h (blk1 hPR.out.1 hWd) rfl); (have sf : ∀ o, Wd.frozen? ⟨w.heap.size, o, none⟩ = false := fun o => by simp [World.frozen?, blk1 hPR.out.1 hWd]); (obtain ⟨b1, q1, l1, c1, f1, b2, q2, l2, c2, f2, rfl, hx, hy⟩ := id hvd)))
  all_goals
    have HSd : Hid (SpI Wd (.agg #[.bool b1, .slice q1 l1 c1, .int .i64 f1, .bool b2, .slice q2 l2 c2, .int .i64 f2]) 300 700) := hvd
    have HPd := Lib.hid (set6_heap (v0 := .bool b1) (v1 := .slice q1 l1 c1) (v2 := .int .i64 f1) (v3 := .bool b2) (v4 := .slice q2 l2 c2) (v5 := .int .i64 f2) (blk1 hPR.out.1 hWd))
    have HRd := Lib.hid ((set6_blk (g := w.heap.size) (v0 := .bool b1) (v1 := .slice q1 l1 c1) (v2 := .int .i64 f1) (v3 := .bool b2) (v4 := .slice q2 l2 c2) (v5 := .int .i64 f2) (b := w.heap.size + 1) (by omega)).trans (blk1 hPR.out.2 hWd))
    obtain ⟨W8, hW8⟩ : ∃ W8, (((((Wd.setCell ⟨w.heap.size, 0, none⟩ (.bool b1)).setCell ⟨w.heap.size, 1, none⟩ (.slice q1 l1 c1)).setCell ⟨w.heap.size, 2, none⟩ (.int .i64 f1)).setCell ⟨w.heap.size, 3, none⟩ (.bool b2)).setCell ⟨w.heap.size, 4, none⟩ (.slice q2 l2 c2)).setCell ⟨w.heap.size, 5, none⟩ (.int .i64 f2) = W8 := ⟨_, rfl⟩
    obtain ⟨_, hB8, hS8, _⟩ := set6_all (b1 := b1) (q1 := q1) (l1 := l1) (c1 := c1) (f1 := f1) (b2 := b2) (q2 := q2) (l2 := l2) (c2 := c2) (f2 := f2) (blk1 hPR.out.1 hWd) hBd (Nat.le_refl _) W8 hW8
    rw [hW8] at HPd HRd
    rw [hW8]
    have HS8 : Hid (SpI W8 (.agg #[.bool b1, .slice q1 l1 c1, .int .i64 f1, .bool b2, .slice q2 l2 c2, .int .i64 f2]) 300 700) := hS8 _ _ _ HSd.out
    have HB8 := Lib.hid hB8
    clear hvd hx hy hbd hWd hBd s0 s1 s2 s3 s4 s5 sf hW8 hB8 hS8 HSd hvm hvo hbo hbm hBo hBm hWo hWm hBW hB
    have s0 := cell_h (k := 0) HPd.out rfl
    have s1 := cell_h (k := 1) HPd.out rfl
    have s2 := cell_h (k := 2) HPd.out rfl
    have s3 := cell_h (k := 3) HPd.out rfl
    have s4 := cell_h (k := 4) HPd.out rfl
    have s5 := cell_h (k := 5) HPd.out rfl
    have z0 := cell_h (k := 0) HRd.out rfl
    have z1 := cell_h (k := 1) HRd.out rfl
    have z2 := cell_h (k := 2) HRd.out rfl
    have z3 := cell_h (k := 3) HRd.out rfl
    have z4 := cell_h (k := 4) HRd.out rfl
    have z5 := cell_h (k := 5) HRd.out rfl
    have zf : ∀ o, W8.frozen? ⟨w.heap.size + 1, o, none⟩ = false := fun o => by simp [World.frozen?, HRd.out]
    have HA := Lib.hid (set6_all (b1 := b1) (q1 := q1) (l1 := l1) (c1 := c1) (f1 := f1) (b2 := b2) (q2 := q2) (l2 := l2) (c2 := c2) (f2 := f2) HRd.out HB8.out (by omega))
    go_wp2_with fail
    generalize hW9 : (((((W8.setCell ⟨w.heap.size + 1, 0, none⟩ (.bool b1)).setCell ⟨w.heap.size + 1, 1, none⟩ (.slice q1 l1 c1)).setCell ⟨w.heap.size + 1, 2, none⟩ (.int .i64 f1)).setCell ⟨w.heap.size + 1, 3, none⟩ (.bool b2)).setCell ⟨w.heap.size + 1, 4, none⟩ (.slice q2 l2 c2)).setCell ⟨w.heap.size + 1, 5, none⟩ (.int .i64 f2) = W9
    obtain ⟨hR9, hB9, hS9, _⟩ := HA.out W9 hW9
    have y0 := cell_h (k := 0) hR9 rfl
    have y1 := cell_h (k := 1) hR9 rfl
    have y2 := cell_h (k := 2) hR9 rfl
    have y3 := cell_h (k := 3) hR9 rfl
    have y4 := cell_h (k := 4) hR9 rfl
    have y5 := cell_h (k := 5) hR9 rfl
    exact bodyPost_ret (v := .agg #[.bool b1, .slice q1 l1 c1, .int .i64 f1, .bool b2, .slice q2 l2 c2, .int .i64 f2]) (by simp [results, Tryz.results73, go_sem, y0, y1, y2, y3, y4, y5]) rfl ⟨_, rfl, hS9 _ _ _ HS8.out, hB9⟩
end Go.Proofs.YtlbffdgojmjijaaGreatDoor
