/-
  WALKS: the closure that compares turns.
-/
import Derived.Test.YteinabcklmpcjaaPvC
import Derived.Sort.Grow
namespace Go.Proofs.Yteinabcklmpcjaa
open Go.RowKit Go.Sort

set_option maxRecDepth 100000 in
set_option maxHeartbeats 4000000 in
theorem turns1_of (w : World) (x0 x1 y0 y1 : Int) :
    Calls Try.prog 89 #[.agg #[.int .i64 x0, .int .i64 x1], .agg #[.int .i64 y0, .int .i64 y1]] w fun e w' => e = .returned (.int .i64 (turnCmp (x0, x1) (y0, y1))) ∧ ∃ q os, w' = grow (w.drewN q) os := by
  have hc : turnCmp (x0, x1) (y0, y1) = if cmpI x0 y0 ≠ 0 then cmpI x0 y0 else cmpI y1 x1 := rfl
  have c1 := fun (W : World) => compare_of W x0 y0
  have c2 := fun (W : World) => compare_of W y1 x1
  generalize turnCmp (x0, x1) (y0, y1) = R at hc ⊢
  generalize cmpI x0 y0 = A at hc c1
  generalize cmpI y1 x1 = B at hc c2
  have HR := Lib.hid hc
  clear hc
  have C1 := Lib.hid c1
  have C2 := Lib.hid c2
  clear c1 c2
  have a0 := al_old (World.alloc_heap_new w (.cells #[.int .i64 x0, .int .i64 x1] 124)) (.cells #[.int .i64 y0, .int .i64 y1] 124)
  have a1 := al_1 w (.cells #[.int .i64 x0, .int .i64 x1] 124) (.cells #[.int .i64 y0, .int .i64 y1] 124)
  go_enter Try.func89, Try.ntmps89
  go_wp2_with fail
  obtain ⟨W, hW⟩ : ∃ W, (w.alloc (.cells #[.int .i64 x0, .int .i64 x1] 124)).alloc (.cells #[.int .i64 y0, .int .i64 y1] 124) = W := ⟨_, rfl⟩
  rw [hW] at a0 a1 ⊢
  have HW : Hid (W = grow w #[.cells #[.int .i64 x0, .int .i64 x1] 124, .cells #[.int .i64 y0, .int .i64 y1] 124]) := by
    show W = _
    rw [← hW, alloc_eq_grow, alloc_eq_grow, grow_grow]
    rfl
  have p0 : W.cell? ⟨w.heap.size, 0, none⟩ = some (.int .i64 x0) := cell_h a0 rfl
  have p1 : W.cell? ⟨w.heap.size, 1, none⟩ = some (.int .i64 x1) := cell_h a0 rfl
  have q0 : W.cell? ⟨w.heap.size + 1, 0, none⟩ = some (.int .i64 y0) := cell_h a1 rfl
  have q1 : W.cell? ⟨w.heap.size + 1, 1, none⟩ = some (.int .i64 y1) := cell_h a1 rfl
  clear a0 a1 hW
  go_still_tail 10, (by kernel_rfl)
  still_call (C1.out _)
  repeat still_step
  still_call (C2.out _)
  refine wpStill_nil ?_
  change wpList _ _ _ _ _ W.drew
  have HWd : Hid (W.drew = grow (w.drewN 1) #[.cells #[.int .i64 x0, .int .i64 x1] 124, .cells #[.int .i64 y0, .int .i64 y1] 124]) := by
    show W.drew = _
    rw [HW.out]
    rfl
  clear p0 p1 q0 q1
  generalize W.drew = Wd at HWd ⊢
  clear HW C1 C2
  go_wp2_with fail
  have b0 := World.alloc_heap_new Wd (.cells #[.int .i64 A, .int .i64 B] 3)
  have HG : Hid (Wd.alloc (.cells #[.int .i64 A, .int .i64 B] 3) = grow (w.drewN 1) (#[.cells #[.int .i64 x0, .int .i64 x1] 124, .cells #[.int .i64 y0, .int .i64 y1] 124] ++ #[.cells #[.int .i64 A, .int .i64 B] 3])) := by
    show Wd.alloc _ = _
    rw [alloc_eq_grow, HWd.out, grow_grow]
  generalize Wd.alloc (.cells #[.int .i64 A, .int .i64 B] 3) = Wf at b0 HG ⊢
  refine (or_of Wf Wd.heap.size A B (cell_h b0 rfl) (cell_h b0 rfl)).mono ?_
  rintro e w9 ⟨rfl, hw9⟩
  rw [hw9]
  clear hw9 w9 b0
  rw [← HR.out]
  clear HR
  go_wp2_with fail
  exact bodyPost_ret (v := .int .i64 R) (by simp [results, Try.f89, go_sem]) rfl ⟨rfl, 1, _, HG.out⟩
end Go.Proofs.Yteinabcklmpcjaa
