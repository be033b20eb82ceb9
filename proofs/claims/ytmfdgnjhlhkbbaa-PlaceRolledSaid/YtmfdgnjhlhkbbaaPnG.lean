/-
  WALKS: the law of the wheels.
-/
import Derived.Test.YtmfdgnjhlhkbbaaPnF
namespace Go.Proofs.Ytmfdgnjhlhkbbaa
open Go.RowKit

set_option maxRecDepth 100000 in
set_option maxHeartbeats 4000000 in
theorem wheels_of (w : World) (t lo hi at_ alo ahi slo shi : Int) :
    Calls Try.prog 5 #[.int .i64 t, .agg #[.int .i64 lo, .int .i64 hi], .int .i64 at_, .agg #[.int .i64 alo, .int .i64 ahi], .agg #[.int .i64 slo, .int .i64 shi]] w fun e w' => e = .returned (.bool true) ∧ Below w.heap.size w w' := by
  have c1 := fun w => odometer_of w t lo hi
  have c2 := fun w => rodometer_of w t lo hi
  generalize odo t lo hi = r at c1 c2
  obtain ⟨r1, r2, r3⟩ := r
  have c3 := fun w => calibrate_of w t lo hi
  have c4 := fun w => rcalibrate_of w t lo hi
  generalize cal t lo hi = s at c3 c4
  obtain ⟨s1, s2, s3⟩ := s
  have c5 := fun w => passed_of w at_ alo ahi slo shi
  have c6 := fun w => rpassed_of w at_ alo ahi slo shi
  generalize pas at_ alo ahi slo shi = p at c5 c6
  obtain ⟨p1, p2, p3⟩ := p
  simp only [resV] at c1 c2 c3 c4 c5 c6
  have C1 := Lib.hid c1
  have C2 := Lib.hid c2
  have C3 := Lib.hid c3
  have C4 := Lib.hid c4
  have C5 := Lib.hid c5
  have C6 := Lib.hid c6
  clear c1 c2 c3 c4 c5 c6
  have a0 := al_old (al_old (World.alloc_heap_new w (.cells #[.int .i64 lo, .int .i64 hi] 27)) (.cells #[.int .i64 alo, .int .i64 ahi] 27)) (.cells #[.int .i64 slo, .int .i64 shi] 27)
  have a1 := al_old (al_1 w (.cells #[.int .i64 lo, .int .i64 hi] 27) (.cells #[.int .i64 alo, .int .i64 ahi] 27)) (.cells #[.int .i64 slo, .int .i64 shi] 27)
  have a2 := al_2 w (.cells #[.int .i64 lo, .int .i64 hi] 27) (.cells #[.int .i64 alo, .int .i64 ahi] 27) (.cells #[.int .i64 slo, .int .i64 shi] 27)
  have hB : Below w.heap.size w (((w.alloc (.cells #[.int .i64 lo, .int .i64 hi] 27)).alloc (.cells #[.int .i64 alo, .int .i64 ahi] 27)).alloc (.cells #[.int .i64 slo, .int .i64 shi] 27)) := (((Below.refl _ w).alloc (Nat.le_refl _) _).alloc (by simp) _).alloc (by simp; omega) _
  go_enter Try.func5, Try.ntmps5
  go_wp2_with fail
  generalize ((w.alloc (.cells #[.int .i64 lo, .int .i64 hi] 27)).alloc (.cells #[.int .i64 alo, .int .i64 ahi] 27)).alloc (.cells #[.int .i64 slo, .int .i64 shi] 27) = V0 at a0 a1 a2 hB ⊢
  refine (C1.out V0).mono ?_
  rintro e W1 ⟨rfl, hB1⟩
  replace a0 := (hB1.block _ (Array.getElem?_eq_some_iff.1 a0).1).trans a0
  replace a1 := (hB1.block _ (Array.getElem?_eq_some_iff.1 a1).1).trans a1
  replace a2 := (hB1.block _ (Array.getElem?_eq_some_iff.1 a2).1).trans a2
  replace hB := hB.trans (hB1.mono hB.size)
  clear hB1
  have x0 : ∀ X, (W1.alloc X).cell? ⟨w.heap.size, 0, none⟩ = some (.int .i64 lo) := fun X => cell_h (al_old a0 X) rfl
  have x1 : ∀ X, (W1.alloc X).cell? ⟨w.heap.size, 1, none⟩ = some (.int .i64 hi) := fun X => cell_h (al_old a0 X) rfl
  have Ha0 := Lib.hid a0
  have Ha1 := Lib.hid a1
  have Ha2 := Lib.hid a2
  have HhB := Lib.hid hB
  clear a0 a1 a2 hB
  go_wp2_with fail
  have a0 := Ha0.out
  have a1 := Ha1.out
  have a2 := Ha2.out
  have hB := HhB.out
  clear Ha0 Ha1 Ha2 HhB x0 x1
  replace a0 := al_old a0 (.cells #[.int .i64 r1, .int .i64 r2] 27)
  replace a1 := al_old a1 (.cells #[.int .i64 r1, .int .i64 r2] 27)
  replace a2 := al_old a2 (.cells #[.int .i64 r1, .int .i64 r2] 27)
  have d1 := World.alloc_heap_new W1 (.cells #[.int .i64 r1, .int .i64 r2] 27)
  replace hB := hB.alloc hB.size (.cells #[.int .i64 r1, .int .i64 r2] 27)
  generalize hV : W1.alloc (.cells #[.int .i64 r1, .int .i64 r2] 27) = V1 at a0 a1 a2 hB d1 ⊢
  clear hV
  refine (C2.out V1).mono ?_
  rintro e W2 ⟨rfl, hB2⟩
  replace a0 := (hB2.block _ (Array.getElem?_eq_some_iff.1 a0).1).trans a0
  replace a1 := (hB2.block _ (Array.getElem?_eq_some_iff.1 a1).1).trans a1
  replace a2 := (hB2.block _ (Array.getElem?_eq_some_iff.1 a2).1).trans a2
  replace d1 := (hB2.block _ (Array.getElem?_eq_some_iff.1 d1).1).trans d1
  replace hB := hB.trans (hB2.mono hB.size)
  clear hB2
  have x0 : ∀ X, (W2.alloc X).cell? ⟨w.heap.size, 0, none⟩ = some (.int .i64 lo) := fun X => cell_h (al_old a0 X) rfl
  have x1 : ∀ X, (W2.alloc X).cell? ⟨w.heap.size, 1, none⟩ = some (.int .i64 hi) := fun X => cell_h (al_old a0 X) rfl
  have Ha0 := Lib.hid a0
  have Ha1 := Lib.hid a1
  have Ha2 := Lib.hid a2
  have HhB := Lib.hid hB
  have Hd1 := Lib.hid d1
  clear a0 a1 a2 hB d1
  go_wp2_with fail
  have a0 := Ha0.out
  have a1 := Ha1.out
  have a2 := Ha2.out
  have hB := HhB.out
  have d1 := Hd1.out
  clear Ha0 Ha1 Ha2 HhB Hd1 x0 x1
  replace a0 := al_old a0 (.cells #[.int .i64 r1, .int .i64 r2] 27)
  replace a1 := al_old a1 (.cells #[.int .i64 r1, .int .i64 r2] 27)
  replace a2 := al_old a2 (.cells #[.int .i64 r1, .int .i64 r2] 27)
  replace d1 := al_old d1 (.cells #[.int .i64 r1, .int .i64 r2] 27)
  have d2 := World.alloc_heap_new W2 (.cells #[.int .i64 r1, .int .i64 r2] 27)
  replace hB := hB.alloc hB.size (.cells #[.int .i64 r1, .int .i64 r2] 27)
  generalize hV : W2.alloc (.cells #[.int .i64 r1, .int .i64 r2] 27) = V2 at a0 a1 a2 hB d1 d2 ⊢
  clear hV
  refine (C3.out V2).mono ?_
  rintro e W3 ⟨rfl, hB3⟩
  replace a0 := (hB3.block _ (Array.getElem?_eq_some_iff.1 a0).1).trans a0
  replace a1 := (hB3.block _ (Array.getElem?_eq_some_iff.1 a1).1).trans a1
  replace a2 := (hB3.block _ (Array.getElem?_eq_some_iff.1 a2).1).trans a2
  replace d1 := (hB3.block _ (Array.getElem?_eq_some_iff.1 d1).1).trans d1
  replace d2 := (hB3.block _ (Array.getElem?_eq_some_iff.1 d2).1).trans d2
  replace hB := hB.trans (hB3.mono hB.size)
  clear hB3
  have x0 : ∀ X, (W3.alloc X).cell? ⟨w.heap.size, 0, none⟩ = some (.int .i64 lo) := fun X => cell_h (al_old a0 X) rfl
  have x1 : ∀ X, (W3.alloc X).cell? ⟨w.heap.size, 1, none⟩ = some (.int .i64 hi) := fun X => cell_h (al_old a0 X) rfl
  have Ha0 := Lib.hid a0
  have Ha1 := Lib.hid a1
  have Ha2 := Lib.hid a2
  have HhB := Lib.hid hB
  have Hd1 := Lib.hid d1
  have Hd2 := Lib.hid d2
  clear a0 a1 a2 hB d1 d2
  go_wp2_with fail
  have a0 := Ha0.out
  have a1 := Ha1.out
  have a2 := Ha2.out
  have hB := HhB.out
  have d1 := Hd1.out
  have d2 := Hd2.out
  clear Ha0 Ha1 Ha2 HhB Hd1 Hd2 x0 x1
  replace a0 := al_old a0 (.cells #[.int .i64 s1, .int .i64 s2] 27)
  replace a1 := al_old a1 (.cells #[.int .i64 s1, .int .i64 s2] 27)
  replace a2 := al_old a2 (.cells #[.int .i64 s1, .int .i64 s2] 27)
  replace d1 := al_old d1 (.cells #[.int .i64 s1, .int .i64 s2] 27)
  replace d2 := al_old d2 (.cells #[.int .i64 s1, .int .i64 s2] 27)
  have d3 := World.alloc_heap_new W3 (.cells #[.int .i64 s1, .int .i64 s2] 27)
  replace hB := hB.alloc hB.size (.cells #[.int .i64 s1, .int .i64 s2] 27)
  generalize hV : W3.alloc (.cells #[.int .i64 s1, .int .i64 s2] 27) = V3 at a0 a1 a2 hB d1 d2 d3 ⊢
  clear hV
  refine (C4.out V3).mono ?_
  rintro e W4 ⟨rfl, hB4⟩
  replace a0 := (hB4.block _ (Array.getElem?_eq_some_iff.1 a0).1).trans a0
  replace a1 := (hB4.block _ (Array.getElem?_eq_some_iff.1 a1).1).trans a1
  replace a2 := (hB4.block _ (Array.getElem?_eq_some_iff.1 a2).1).trans a2
  replace d1 := (hB4.block _ (Array.getElem?_eq_some_iff.1 d1).1).trans d1
  replace d2 := (hB4.block _ (Array.getElem?_eq_some_iff.1 d2).1).trans d2
  replace d3 := (hB4.block _ (Array.getElem?_eq_some_iff.1 d3).1).trans d3
  replace hB := hB.trans (hB4.mono hB.size)
  clear hB4
  have x0 : ∀ X, (W4.alloc X).cell? ⟨w.heap.size + 1, 0, none⟩ = some (.int .i64 alo) := fun X => cell_h (al_old a1 X) rfl
  have x1 : ∀ X, (W4.alloc X).cell? ⟨w.heap.size + 1, 1, none⟩ = some (.int .i64 ahi) := fun X => cell_h (al_old a1 X) rfl
  have y0 : ∀ X, (W4.alloc X).cell? ⟨w.heap.size + 1 + 1, 0, none⟩ = some (.int .i64 slo) := fun X => cell_h (al_old a2 X) rfl
  have y1 : ∀ X, (W4.alloc X).cell? ⟨w.heap.size + 1 + 1, 1, none⟩ = some (.int .i64 shi) := fun X => cell_h (al_old a2 X) rfl
  have Ha0 := Lib.hid a0
  have Ha1 := Lib.hid a1
  have Ha2 := Lib.hid a2
  have HhB := Lib.hid hB
  have Hd1 := Lib.hid d1
  have Hd2 := Lib.hid d2
  have Hd3 := Lib.hid d3
  clear a0 a1 a2 hB d1 d2 d3
  go_wp2_with fail
  have a0 := Ha0.out
  have a1 := Ha1.out
  have a2 := Ha2.out
  have hB := HhB.out
  have d1 := Hd1.out
  have d2 := Hd2.out
  have d3 := Hd3.out
  clear Ha0 Ha1 Ha2 HhB Hd1 Hd2 Hd3 x0 x1 y0 y1
  replace a0 := al_old a0 (.cells #[.int .i64 s1, .int .i64 s2] 27)
  replace a1 := al_old a1 (.cells #[.int .i64 s1, .int .i64 s2] 27)
  replace a2 := al_old a2 (.cells #[.int .i64 s1, .int .i64 s2] 27)
  replace d1 := al_old d1 (.cells #[.int .i64 s1, .int .i64 s2] 27)
  replace d2 := al_old d2 (.cells #[.int .i64 s1, .int .i64 s2] 27)
  replace d3 := al_old d3 (.cells #[.int .i64 s1, .int .i64 s2] 27)
  have d4 := World.alloc_heap_new W4 (.cells #[.int .i64 s1, .int .i64 s2] 27)
  replace hB := hB.alloc hB.size (.cells #[.int .i64 s1, .int .i64 s2] 27)
  generalize hV : W4.alloc (.cells #[.int .i64 s1, .int .i64 s2] 27) = V4 at a0 a1 a2 hB d1 d2 d3 d4 ⊢
  clear hV
  refine (C5.out V4).mono ?_
  rintro e W5 ⟨rfl, hB5⟩
  replace a0 := (hB5.block _ (Array.getElem?_eq_some_iff.1 a0).1).trans a0
  replace a1 := (hB5.block _ (Array.getElem?_eq_some_iff.1 a1).1).trans a1
  replace a2 := (hB5.block _ (Array.getElem?_eq_some_iff.1 a2).1).trans a2
  replace d1 := (hB5.block _ (Array.getElem?_eq_some_iff.1 d1).1).trans d1
  replace d2 := (hB5.block _ (Array.getElem?_eq_some_iff.1 d2).1).trans d2
  replace d3 := (hB5.block _ (Array.getElem?_eq_some_iff.1 d3).1).trans d3
  replace d4 := (hB5.block _ (Array.getElem?_eq_some_iff.1 d4).1).trans d4
  replace hB := hB.trans (hB5.mono hB.size)
  clear hB5
  have x0 : ∀ X, (W5.alloc X).cell? ⟨w.heap.size + 1, 0, none⟩ = some (.int .i64 alo) := fun X => cell_h (al_old a1 X) rfl
  have x1 : ∀ X, (W5.alloc X).cell? ⟨w.heap.size + 1, 1, none⟩ = some (.int .i64 ahi) := fun X => cell_h (al_old a1 X) rfl
  have y0 : ∀ X, (W5.alloc X).cell? ⟨w.heap.size + 1 + 1, 0, none⟩ = some (.int .i64 slo) := fun X => cell_h (al_old a2 X) rfl
  have y1 : ∀ X, (W5.alloc X).cell? ⟨w.heap.size + 1 + 1, 1, none⟩ = some (.int .i64 shi) := fun X => cell_h (al_old a2 X) rfl
  have Ha0 := Lib.hid a0
  have Ha1 := Lib.hid a1
  have Ha2 := Lib.hid a2
  have HhB := Lib.hid hB
  have Hd1 := Lib.hid d1
  have Hd2 := Lib.hid d2
  have Hd3 := Lib.hid d3
  have Hd4 := Lib.hid d4
  clear a0 a1 a2 hB d1 d2 d3 d4
  go_wp2_with fail
  have a0 := Ha0.out
  have a1 := Ha1.out
  have a2 := Ha2.out
  have hB := HhB.out
  have d1 := Hd1.out
  have d2 := Hd2.out
  have d3 := Hd3.out
  have d4 := Hd4.out
  clear Ha0 Ha1 Ha2 HhB Hd1 Hd2 Hd3 Hd4 x0 x1 y0 y1
  replace a0 := al_old a0 (.cells #[.int .i64 p1, .int .i64 p2] 27)
  replace a1 := al_old a1 (.cells #[.int .i64 p1, .int .i64 p2] 27)
  replace a2 := al_old a2 (.cells #[.int .i64 p1, .int .i64 p2] 27)
  replace d1 := al_old d1 (.cells #[.int .i64 p1, .int .i64 p2] 27)
  replace d2 := al_old d2 (.cells #[.int .i64 p1, .int .i64 p2] 27)
  replace d3 := al_old d3 (.cells #[.int .i64 p1, .int .i64 p2] 27)
  replace d4 := al_old d4 (.cells #[.int .i64 p1, .int .i64 p2] 27)
  have d5 := World.alloc_heap_new W5 (.cells #[.int .i64 p1, .int .i64 p2] 27)
  replace hB := hB.alloc hB.size (.cells #[.int .i64 p1, .int .i64 p2] 27)
  generalize hV : W5.alloc (.cells #[.int .i64 p1, .int .i64 p2] 27) = V5 at a0 a1 a2 hB d1 d2 d3 d4 d5 ⊢
  clear hV
  refine (C6.out V5).mono ?_
  rintro e W6 ⟨rfl, hB6⟩
  replace a0 := (hB6.block _ (Array.getElem?_eq_some_iff.1 a0).1).trans a0
  replace a1 := (hB6.block _ (Array.getElem?_eq_some_iff.1 a1).1).trans a1
  replace a2 := (hB6.block _ (Array.getElem?_eq_some_iff.1 a2).1).trans a2
  replace d1 := (hB6.block _ (Array.getElem?_eq_some_iff.1 d1).1).trans d1
  replace d2 := (hB6.block _ (Array.getElem?_eq_some_iff.1 d2).1).trans d2
  replace d3 := (hB6.block _ (Array.getElem?_eq_some_iff.1 d3).1).trans d3
  replace d4 := (hB6.block _ (Array.getElem?_eq_some_iff.1 d4).1).trans d4
  replace d5 := (hB6.block _ (Array.getElem?_eq_some_iff.1 d5).1).trans d5
  replace hB := hB.trans (hB6.mono hB.size)
  clear hB6
  have z10 : ∀ X, (W6.alloc X).cell? ⟨W1.heap.size, 0, none⟩ = some (.int .i64 r1) := fun X => cell_h (al_old d1 X) rfl
  have z11 : ∀ X, (W6.alloc X).cell? ⟨W1.heap.size, 1, none⟩ = some (.int .i64 r2) := fun X => cell_h (al_old d1 X) rfl
  have z20 : ∀ X, (W6.alloc X).cell? ⟨W2.heap.size, 0, none⟩ = some (.int .i64 r1) := fun X => cell_h (al_old d2 X) rfl
  have z21 : ∀ X, (W6.alloc X).cell? ⟨W2.heap.size, 1, none⟩ = some (.int .i64 r2) := fun X => cell_h (al_old d2 X) rfl
  have z30 : ∀ X, (W6.alloc X).cell? ⟨W3.heap.size, 0, none⟩ = some (.int .i64 s1) := fun X => cell_h (al_old d3 X) rfl
  have z31 : ∀ X, (W6.alloc X).cell? ⟨W3.heap.size, 1, none⟩ = some (.int .i64 s2) := fun X => cell_h (al_old d3 X) rfl
  have z40 : ∀ X, (W6.alloc X).cell? ⟨W4.heap.size, 0, none⟩ = some (.int .i64 s1) := fun X => cell_h (al_old d4 X) rfl
  have z41 : ∀ X, (W6.alloc X).cell? ⟨W4.heap.size, 1, none⟩ = some (.int .i64 s2) := fun X => cell_h (al_old d4 X) rfl
  have z50 : ∀ X, (W6.alloc X).cell? ⟨W5.heap.size, 0, none⟩ = some (.int .i64 p1) := fun X => cell_h (al_old d5 X) rfl
  have z51 : ∀ X, (W6.alloc X).cell? ⟨W5.heap.size, 1, none⟩ = some (.int .i64 p2) := fun X => cell_h (al_old d5 X) rfl
  have Ha0 := Lib.hid a0
  have Ha1 := Lib.hid a1
  have Ha2 := Lib.hid a2
  have HhB := Lib.hid hB
  have Hd1 := Lib.hid d1
  have Hd2 := Lib.hid d2
  have Hd3 := Lib.hid d3
  have Hd4 := Lib.hid d4
  have Hd5 := Lib.hid d5
  clear a0 a1 a2 hB d1 d2 d3 d4 d5
  go_wp2_with fail
  have a0 := Ha0.out
  have a1 := Ha1.out
  have a2 := Ha2.out
  have hB := HhB.out
  have d1 := Hd1.out
  have d2 := Hd2.out
  have d3 := Hd3.out
  have d4 := Hd4.out
  have d5 := Hd5.out
  clear Ha0 Ha1 Ha2 HhB Hd1 Hd2 Hd3 Hd4 Hd5 z10 z11 z20 z21 z30 z31 z40 z41 z50 z51
  replace a0 := al_old a0 (.cells #[.int .i64 p1, .int .i64 p2] 27)
  replace a1 := al_old a1 (.cells #[.int .i64 p1, .int .i64 p2] 27)
  replace a2 := al_old a2 (.cells #[.int .i64 p1, .int .i64 p2] 27)
  replace d1 := al_old d1 (.cells #[.int .i64 p1, .int .i64 p2] 27)
  replace d2 := al_old d2 (.cells #[.int .i64 p1, .int .i64 p2] 27)
  replace d3 := al_old d3 (.cells #[.int .i64 p1, .int .i64 p2] 27)
  replace d4 := al_old d4 (.cells #[.int .i64 p1, .int .i64 p2] 27)
  replace d5 := al_old d5 (.cells #[.int .i64 p1, .int .i64 p2] 27)
  have d6 := World.alloc_heap_new W6 (.cells #[.int .i64 p1, .int .i64 p2] 27)
  replace hB := hB.alloc hB.size (.cells #[.int .i64 p1, .int .i64 p2] 27)
  generalize hV : W6.alloc (.cells #[.int .i64 p1, .int .i64 p2] 27) = V6 at a0 a1 a2 hB d1 d2 d3 d4 d5 d6 ⊢
  clear hV
  refine (awake_of V6).mono ?_
  rintro e w8 ⟨rfl, hB8⟩
  have HB := Lib.hid (hB.trans (hB8.mono hB.size))
  clear a0 a1 a2 d1 d2 d3 d4 d5 d6 hB hB8
  go_wp2_with fail
  go_ret
  exact ⟨rfl, HB.out⟩
end Go.Proofs.Ytmfdgnjhlhkbbaa
