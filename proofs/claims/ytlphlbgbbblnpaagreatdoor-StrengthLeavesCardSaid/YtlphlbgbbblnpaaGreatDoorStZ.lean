/-
  WALKS: strength: Failure for the example of chapter 9.
-/
import Derived.Test.YtlphlbgbbblnpaaGreatDoorStX
namespace Go.Proofs.YtlphlbgbbblnpaaGreatDoor
open Go.RowKit

set_option maxRecDepth 100000 in
set_option maxHeartbeats 16000000 in
theorem sFailure_of (w : World) (b : Nat) (hb : StpB w b) (hT : Dy.Tab w) :
    Calls Tryz.prog 41 #[.agg #[.int .i64 1000, .int .i64 10000, .int .i64 400000], .slice (some ⟨b, 0, none⟩) 1 1, .int .i64 0, .int .i64 0, .int .i64 20] w (Dy.Ret2 w fun w' v e => e = .int .i64 0 ∧ SpI w' v 8000 8000) := by
  have hF1 : ∀ f, Fence.wide.fn f := fun _ => trivial
  have HT := Lib.hid hT
  have hSt0 := hb
  clear hT hb
  go_enter Tryz.func41, Tryz.ntmps41
  go_upto_region 1 with fail
  obtain ⟨W, hW⟩ : ∃ W, (w.alloc (.cells #[.int .i64 1000, .int .i64 10000, .int .i64 400000] 114)).alloc (.cells #[.bool false, .slice none 0 0, .int .i64 0, .bool false, .slice none 0 0, .int .i64 0] 116) = W := ⟨_, rfl⟩
  rw [hW]
  have hB : Below w.heap.size w W := by rw [← hW]; exact ((Below.refl _ _).alloc (Nat.le_refl _) _).alloc (by simp) _
  have hP : W.heap[w.heap.size]? = some (.cells #[.int .i64 1000, .int .i64 10000, .int .i64 400000] 114 (0, 0)) := by rw [← hW]; exact al_old (World.alloc_heap_new w _) _
  have hR : W.heap[w.heap.size + 1]? = some (.cells #[.bool false, .slice none 0 0, .int .i64 0, .bool false, .slice none 0 0, .int .i64 0] 116 (0, 0)) := by rw [← hW]; exact al_1 w _ _
  have HB := Lib.hid hB
  have HP := Lib.hid hP
  have HR := Lib.hid hR
  have HSt := Lib.hid (StpB.keep hSt0 hB)
  have p0 := cell_h (k := 0) hP rfl
  have p1 := cell_h (k := 1) hP rfl
  have p2 := cell_h (k := 2) hP rfl
  clear hW hB hP hR hSt0
  go_wp2_with fail
  refine (sloss_of W b 1 HSt.out).mono ?_
  rintro e V1 ⟨rfl, hb⟩
  replace HB := Lib.hid (low_trans HB.out hb)
  replace HP := Lib.hid (blk1 HP.out hb)
  replace HR := Lib.hid (blk1 HR.out hb)
  replace HSt := Lib.hid (StpB.keep HSt.out hb)
  clear hb p0 p1 p2
  go_wp2_with fail
  refine (sindex_of true V1 0 1 (by decide)).mono ?_
  rintro e V9 ⟨rfl, hV9⟩
  subst V9
  go_wp2_with fail
  refine (swithin_of true V1 0 0 0 (by decide)).mono ?_
  rintro e V9 ⟨rfl, hV9⟩
  subst V9
  go_upto_region 6 with fail
  have HKS : Hid (∀ V, Below V1.heap.size V1 V → V.cell? ⟨w.heap.size, 0, none⟩ = some (.int .i64 1000) ∧ V.cell? ⟨w.heap.size, 1, none⟩ = some (.int .i64 10000) ∧ V.cell? ⟨w.heap.size, 2, none⟩ = some (.int .i64 400000)) := fun V hV => ⟨cell_h (blk1 HP.out hV) rfl, cell_h (blk1 HP.out hV) rfl, cell_h (blk1 HP.out hV) rfl⟩
  have hSt := HSt.out
  have ww1 : IntKind.i64.wrap 1 = 1 := by rfl
  refine (wpIn_wide (n := 5)).1 ?_
  refine wpIn_region_T 9 (fun W2 : World => W2.cell? ⟨w.heap.size, 0, none⟩ = some (.int .i64 1000) ∧ W2.cell? ⟨w.heap.size, 1, none⟩ = some (.int .i64 10000) ∧ W2.cell? ⟨w.heap.size, 2, none⟩ = some (.int .i64 400000)) (by kernel_rfl) ?_
  change anyT _ _ _ _ _ _ _ _ 11 (Array.replicate 11 false) _ _
  have hqd : Below V1.heap.size V1 V1.drew := (Below.refl _ _).drew
  have hStd := StpB.keep hSt hqd
  generalize V1.drew = Wd at *
  have hS0 := HKS.out Wd hqd
  refine anyT_takeD hF1 0 32 (v := ?_) rfl rfl (by kernel_rfl) (by kernel_rfl) (by kernel_rfl) (by kernel_rfl) (by kernel_rfl) (fun _ _ _ h => h) hS0 rfl ?_ ?_
  rotate_left
  · intro W2 hSw; obtain ⟨r0, r1, r2⟩ := hSw; go_simp; try with_reducible rfl
  simp only [List.setIfInBounds_toArray, List.set_cons_zero, List.set_cons_succ]
  refine anyT_takeD hF1 1 33 (v := ?_) rfl rfl (by kernel_rfl) (by kernel_rfl) (by kernel_rfl) (by kernel_rfl) (by kernel_rfl) (fun _ _ _ h => h) hS0 rfl ?_ ?_
  rotate_left
  · intro W2 hSw; obtain ⟨r0, r1, r2⟩ := hSw; go_simp; try with_reducible rfl
  simp only [List.setIfInBounds_toArray, List.set_cons_zero, List.set_cons_succ]
  refine anyT_takeD hF1 2 34 (v := ?_) rfl rfl (by kernel_rfl) (by kernel_rfl) (by kernel_rfl) (by kernel_rfl) (by kernel_rfl) (fun _ _ _ h => h) hS0 rfl ?_ ?_
  rotate_left
  · intro W2 hSw; obtain ⟨r0, r1, r2⟩ := hSw; go_simp; try with_reducible rfl
  simp only [List.setIfInBounds_toArray, List.set_cons_zero, List.set_cons_succ]
  refine anyT_takeD hF1 3 35 (v := ?_) rfl rfl (by kernel_rfl) (by kernel_rfl) (by kernel_rfl) (by kernel_rfl) (by kernel_rfl) (fun _ _ _ h => h) hS0 rfl ?_ ?_
  rotate_left
  · intro W2 hSw; obtain ⟨r0, r1, r2⟩ := hSw; go_simp; try with_reducible rfl
  simp only [List.setIfInBounds_toArray, List.set_cons_zero, List.set_cons_succ]
  refine anyT_takeD hF1 4 36 (v := ?_) rfl rfl (by kernel_rfl) (by kernel_rfl) (by kernel_rfl) (by kernel_rfl) (by kernel_rfl) (fun _ _ _ h => h) hS0 rfl ?_ ?_
  rotate_left
  · intro W2 hSw; obtain ⟨r0, r1, r2⟩ := hSw; go_simp; try with_reducible rfl
  simp only [List.setIfInBounds_toArray, List.set_cons_zero, List.set_cons_succ]
  refine anyT_takeD hF1 5 37 (v := ?_) rfl rfl (by kernel_rfl) (by kernel_rfl) (by kernel_rfl) (by kernel_rfl) (by kernel_rfl) (fun _ _ _ h => h) hS0 rfl ?_ ?_
  rotate_left
  · intro W2 hSw; obtain ⟨r0, r1, r2⟩ := hSw; go_simp; try with_reducible rfl
  simp only [List.setIfInBounds_toArray, List.set_cons_zero, List.set_cons_succ]
  refine anyT_takeD hF1 6 38 (v := ?_) rfl rfl (by kernel_rfl) (by kernel_rfl) (by kernel_rfl) (by kernel_rfl) (by kernel_rfl) (fun _ _ _ h => h) hS0 rfl ?_ ?_
  rotate_left
  · intro W2 hSw; obtain ⟨r0, r1, r2⟩ := hSw; go_simp; try with_reducible rfl
  simp only [List.setIfInBounds_toArray, List.set_cons_zero, List.set_cons_succ]
  refine anyT_call hF1 (fun h => absurd h (by decide)) 7 39 (w := Wd) rfl rfl (by kernel_rfl) (by kernel_rfl) (by rfl) (by go_simp; try with_reducible rfl) (callsIn_wide.2 (sbits20 Wd)) ?_
  rintro e9 V9 ⟨rfl, hsame⟩
  subst V9
  refine ⟨_, rfl, hS0, ?_⟩
  simp only [List.setIfInBounds_toArray, List.set_cons_zero, List.set_cons_succ]
  refine anyT_call hF1 (fun h => absurd h (by decide)) 8 40 (w := Wd) rfl rfl (by kernel_rfl) (by kernel_rfl) (by rfl) (by go_simp; try with_reducible rfl) (callsIn_wide.2 (sfail_of Wd b 1 hStd (HT.out.keep (low_trans HB.out hqd)))) ?_
  rintro e9 V3 ⟨v3, rfl, hv3, hb3⟩
  replace hqd := low_trans hqd hb3
  replace hS0 := HKS.out V3 hqd
  replace hStd := StpB.keep hStd hb3
  obtain ⟨b3, q3, l3, c3, f3, B3, Q3, L3, C3, F3, rfl, _, _⟩ := id hv3
  have hv3d := hv3
  refine ⟨_, rfl, hS0, ?_⟩
  simp only [List.setIfInBounds_toArray, List.set_cons_zero, List.set_cons_succ]
  have hR7 := blk1 HR.out hqd
  have HA := Lib.hid (set6_all (b1 := b3) (q1 := q3) (l1 := l3) (c1 := c3) (f1 := f3) (b2 := B3) (q2 := Q3) (l2 := L3) (c2 := C3) (f2 := F3) hR7 (low_trans HB.out hqd) (by omega : w.heap.size ≤ w.heap.size + 1))
  have z0 := cell_h (k := 0) hR7 rfl
  have z1 := cell_h (k := 1) hR7 rfl
  have z2 := cell_h (k := 2) hR7 rfl
  have z3 := cell_h (k := 3) hR7 rfl
  have z4 := cell_h (k := 4) hR7 rfl
  have z5 := cell_h (k := 5) hR7 rfl
  have zf : ∀ o, V3.frozen? ⟨w.heap.size + 1, o, none⟩ = false := fun o => by simp [World.frozen?, hR7]
  refine anyT_l [9] (by kernel_rfl) (by decide) ⟨?_, trivial⟩
  refine opT_skip hF1 9 (w2 := ((((((V3).setCell ⟨w.heap.size + 1, 0, none⟩ (.bool b3)).setCell ⟨w.heap.size + 1, 1, none⟩ (.slice q3 l3 c3)).setCell ⟨w.heap.size + 1, 2, none⟩ (.int .i64 f3)).setCell ⟨w.heap.size + 1, 3, none⟩ (.bool B3)).setCell ⟨w.heap.size + 1, 4, none⟩ (.slice Q3 L3 C3)).setCell ⟨w.heap.size + 1, 5, none⟩ (.int .i64 F3)) rfl rfl (by kernel_rfl) rfl (by go_simp; try with_reducible rfl) (.inl rfl) ?_
  generalize hW9 : ((((((V3).setCell ⟨w.heap.size + 1, 0, none⟩ (.bool b3)).setCell ⟨w.heap.size + 1, 1, none⟩ (.slice q3 l3 c3)).setCell ⟨w.heap.size + 1, 2, none⟩ (.int .i64 f3)).setCell ⟨w.heap.size + 1, 3, none⟩ (.bool B3)).setCell ⟨w.heap.size + 1, 4, none⟩ (.slice Q3 L3 C3)).setCell ⟨w.heap.size + 1, 5, none⟩ (.int .i64 F3) = W9
  obtain ⟨hR9, hB9, hS9, _⟩ := HA.out W9 hW9
  have hSW : W9.cell? ⟨w.heap.size, 0, none⟩ = some (.int .i64 1000) ∧ W9.cell? ⟨w.heap.size, 1, none⟩ = some (.int .i64 10000) ∧ W9.cell? ⟨w.heap.size, 2, none⟩ = some (.int .i64 400000) := by
    rw [← hW9]
    exact ⟨(set6_oth (by omega)).trans hS0.1, (set6_oth (by omega)).trans hS0.2.1, (set6_oth (by omega)).trans hS0.2.2⟩
  refine anyT_l [10] (by kernel_rfl) (by decide) ⟨?_, trivial⟩
  refine opT_val hF1 10 11 (w2 := W9) (v := .int .i64 0) rfl rfl (by kernel_rfl) rfl (by go_simp; try with_reducible rfl) hSW ?_
  simp only [List.setIfInBounds_toArray, List.set_cons_zero, List.set_cons_succ]
  refine anyT_done (by kernel_rfl) ?_ _
  have y0 := cell_h (k := 0) hR9 rfl
  have y1 := cell_h (k := 1) hR9 rfl
  have y2 := cell_h (k := 2) hR9 rfl
  have y3 := cell_h (k := 3) hR9 rfl
  have y4 := cell_h (k := 4) hR9 rfl
  have y5 := cell_h (k := 5) hR9 rfl
  go_wp2_with fail
  exact bodyPost_ret (v := .tuple #[.agg #[.bool b3, .slice q3 l3 c3, .int .i64 f3, .bool B3, .slice Q3 L3 C3, .int .i64 F3], .int .i64 0]) (by simp [results, Tryz.results41, go_sem, y0, y1, y2, y3, y4, y5]) rfl ⟨_, _, rfl, ⟨rfl, hS9 _ _ _ hv3d⟩, hB9⟩
end Go.Proofs.YtlphlbgbbblnpaaGreatDoor
