/-
  WALKS: spans of the program: growth's number and only, Hull.
-/
import Derived.Test.YtlbffdgojmjijaaGreatDoorDyN
import Derived.Test.YtlbffdgojmjijaaGreatDoorDyJ
import Derived.Test.YtlbffdgojmjijaaGreatDoorPmAF
namespace Go.Proofs.YtlbffdgojmjijaaGreatDoor
open Go.RowKit

theorem nodig_of {W : World} {g : Nat} {a1 a2 : Bool} {p1 p2 : Option Addr} {n1 k1 n2 k2 : Nat} {e1 e2 : Int} {t : TypeId} {fz : Nat × Nat} (h : W.heap[g]? = some (.cells #[.bool a1, .slice p1 n1 k1, .int .i64 e1, .bool a2, .slice p2 n2 k2, .int .i64 e2] t fz)) : Dy.NoDig W g := by
  intro o x hc
  simp only [World.cell?, h] at hc
  match o, hc with
  | 0, hc => simp at hc
  | 1, hc => simp at hc
  | 2, hc => simp at hc
  | 3, hc => simp at hc
  | 4, hc => simp at hc
  | 5, hc => simp at hc
  | o + 6, hc => simp at hc
theorem set6_heap {W : World} {g : Nat} {t : TypeId} {a0 a1 a2 a3 a4 a5 v0 v1 v2 v3 v4 v5 : Value} (h : W.heap[g]? = some (.cells #[a0, a1, a2, a3, a4, a5] t (0, 0))) :
    ((((((W.setCell ⟨g, 0, none⟩ v0).setCell ⟨g, 1, none⟩ v1).setCell ⟨g, 2, none⟩ v2).setCell ⟨g, 3, none⟩ v3).setCell ⟨g, 4, none⟩ v4).setCell ⟨g, 5, none⟩ v5).heap[g]? = some (.cells #[v0, v1, v2, v3, v4, v5] t (0, 0)) := by
  rw [heap_set (heap_set (heap_set (heap_set (heap_set (heap_set h v0) v1) v2) v3) v4) v5]
  rfl
/-- What a function's span of results holds behind a store. -/
theorem set6_all {W0 W : World} {B g : Nat} {t : TypeId} {a1 a2 : Bool} {p1 p2 : Option Addr} {n1 k1 n2 k2 : Nat} {e1 e2 : Int} (h : W.heap[g]? = some (.cells #[.bool a1, .slice p1 n1 k1, .int .i64 e1, .bool a2, .slice p2 n2 k2, .int .i64 e2] t (0, 0)))
    {b1 b2 : Bool} {q1 q2 : Option Addr} {l1 c1 l2 c2 : Nat} {f1 f2 : Int} (hB : Below B W0 W) (hg : B ≤ g) :
    ∀ W9, ((((((W.setCell ⟨g, 0, none⟩ (.bool b1)).setCell ⟨g, 1, none⟩ (.slice q1 l1 c1)).setCell ⟨g, 2, none⟩ (.int .i64 f1)).setCell ⟨g, 3, none⟩ (.bool b2)).setCell ⟨g, 4, none⟩ (.slice q2 l2 c2)).setCell ⟨g, 5, none⟩ (.int .i64 f2)) = W9 →
      W9.heap[g]? = some (.cells #[.bool b1, .slice q1 l1 c1, .int .i64 f1, .bool b2, .slice q2 l2 c2, .int .i64 f2] t (0, 0)) ∧ Below B W0 W9 ∧ (∀ v x y, Dy.Sp W v x y → Dy.Sp W9 v x y) ∧ (∀ v x, Dy.Nm W v x → Dy.Nm W9 v x) := by
  intro W9 e
  subst e
  have hd := nodig_of h
  exact ⟨set6_heap h, Dy.below_set3 (Dy.below_set3 hB hg) hg, fun v x y hv => hv.set6 hd, fun v x hv => (hv.set3 hd).set3 hd.set3⟩
set_option maxHeartbeats 1600000 in
theorem gnumber_of (w : World) (n : Int) (h : Dy.I64 n) (hT : Dy.Tab w) :
    Calls Tryz.prog 56 #[.int .i64 n] w (Dy.Ret w fun w' v => Dy.Nm w' v (Dy.mk n 0)) := by
  have HT := Lib.hid hT
  have HI := Lib.hid h
  clear hT h
  go_enter Tryz.func56, Tryz.ntmps56
  go_wp2_with fail
  refine (Dy.int_nm _ n HI.out (HT.out.keep ((Below.refl _ _).alloc (Nat.le_refl _) _))).mono ?_
  rintro e1 w1 ⟨v1, rfl, hv1, hb1⟩
  have hb0 : Hid (Below w.heap.size w w1) := ((Below.refl _ _).alloc (Nat.le_refl _) _).trans (hb1.mono (by simp))
  obtain ⟨hcc, hff⟩ := Dy.bcell hb1
  have HND : Hid (Dy.NoDig w1 w.heap.size) := (Dy.noDig_at rfl).keep hb1 (by simp)
  have hz : w.heap.size < w1.heap.size := by have := hb1.size; simp at this; omega
  have H4 := Lib.hid hv1
  obtain ⟨a4, p4, n4, k4, e4, m4, rfl, _, _⟩ := hv1.fields
  clear hb1 hv1
  go_wp2
  refine bodyPost_ret (v := .agg #[.bool a4, .slice p4 n4 k4, .int .i64 e4]) (by simp [results, Tryz.results56, go_sem, hcc]) rfl ⟨_, rfl, H4.out.laid HND.out, ?_⟩
  exact ((hb0.out.setCell (by simp) _).setCell (by simp) _).setCell (by simp) _
/-- A new span of results. -/
theorem new_span (w : World) : ∀ W, w.alloc (.cells #[.bool false, .slice none 0 0, .int .i64 0, .bool false, .slice none 0 0, .int .i64 0] 69) = W → W.heap[w.heap.size]? = some (.cells #[.bool false, .slice none 0 0, .int .i64 0, .bool false, .slice none 0 0, .int .i64 0] 69 (0, 0)) ∧ Below w.heap.size w W := by
  intro W e
  subst e
  exact ⟨World.alloc_heap_new w _, (Below.refl _ _).alloc (Nat.le_refl _) _⟩
set_option maxHeartbeats 1600000 in
theorem gonly_of (w : World) (n : Int) (h : Dy.I64 n) (hT : Dy.Tab w) :
    Calls Tryz.prog 74 #[.int .i64 n] w (Dy.Ret w fun w' v => Dy.Sp w' v (Dy.mk n 0) (Dy.mk n 0)) := by
  have HT := Lib.hid hT
  have HI := Lib.hid h
  clear hT h
  go_enter Tryz.func74, Tryz.ntmps74
  go_wp2_with fail
  obtain ⟨W, hW⟩ : ∃ W, w.alloc (.cells #[.bool false, .slice none 0 0, .int .i64 0, .bool false, .slice none 0 0, .int .i64 0] 69) = W := ⟨_, rfl⟩
  obtain ⟨hR, hB⟩ := new_span w W hW
  rw [hW]
  clear hW
  refine (gnumber_of W n HI.out (HT.out.keep hB)).mono ?_
  rintro e W1 ⟨v1, rfl, hv1, hB1⟩
  have hR1 := (hB1.block _ (Array.getElem?_eq_some_iff.1 hR).1).trans hR
  have HR1 := Lib.hid hR1
  have HB1 := Lib.hid (hB.trans (hB1.mono hB.size))
  have HV1 := Lib.hid hv1
  obtain ⟨a1, p1, n1, k1, e1, m1, rfl, _, _⟩ := hv1.fields
  clear hR hB hB1 hR1 hv1
  go_wp2_with fail
  refine (Dy.only_nm W1 _ _ HV1.out).mono ?_
  rintro e W2 ⟨v2, rfl, ⟨b1, q1, l1, c1, f1, b2, q2, l2, c2, f2, rfl, hx, hy⟩, hB2⟩
  have hR2 := (hB2.block _ (Array.getElem?_eq_some_iff.1 HR1.out).1).trans HR1.out
  have HS2 : Hid (Dy.Sp W2 (.agg #[.bool b1, .slice q1 l1 c1, .int .i64 f1, .bool b2, .slice q2 l2 c2, .int .i64 f2]) (Dy.mk n 0) (Dy.mk n 0)) := ⟨b1, q1, l1, c1, f1, b2, q2, l2, c2, f2, rfl, hx, hy⟩
  have HA := Lib.hid (set6_all (b1 := b1) (q1 := q1) (l1 := l1) (c1 := c1) (f1 := f1) (b2 := b2) (q2 := q2) (l2 := l2) (c2 := c2) (f2 := f2) hR2 (HB1.out.trans (hB2.mono HB1.out.size)) (Nat.le_refl _))
  have z0 := cell_h (k := 0) hR2 rfl
  have z1 := cell_h (k := 1) hR2 rfl
  have z2 := cell_h (k := 2) hR2 rfl
  have z3 := cell_h (k := 3) hR2 rfl
  have z4 := cell_h (k := 4) hR2 rfl
  have z5 := cell_h (k := 5) hR2 rfl
  have zf : ∀ o, W2.frozen? ⟨w.heap.size, o, none⟩ = false := fun o => by simp [World.frozen?, hR2]
  clear hR2 hB2 hx hy HB1 HR1 HV1
  go_wp2_with fail
  generalize hW9 : (((((W2.setCell ⟨w.heap.size, 0, none⟩ (.bool b1)).setCell ⟨w.heap.size, 1, none⟩ (.slice q1 l1 c1)).setCell ⟨w.heap.size, 2, none⟩ (.int .i64 f1)).setCell ⟨w.heap.size, 3, none⟩ (.bool b2)).setCell ⟨w.heap.size, 4, none⟩ (.slice q2 l2 c2)).setCell ⟨w.heap.size, 5, none⟩ (.int .i64 f2) = W9
  obtain ⟨hR9, hB9, hS9, _⟩ := HA.out W9 hW9
  have y0 := cell_h (k := 0) hR9 rfl
  have y1 := cell_h (k := 1) hR9 rfl
  have y2 := cell_h (k := 2) hR9 rfl
  have y3 := cell_h (k := 3) hR9 rfl
  have y4 := cell_h (k := 4) hR9 rfl
  have y5 := cell_h (k := 5) hR9 rfl
  exact bodyPost_ret (v := .agg #[.bool b1, .slice q1 l1 c1, .int .i64 f1, .bool b2, .slice q2 l2 c2, .int .i64 f2]) (by simp [results, Tryz.results74, go_sem, y0, y1, y2, y3, y4, y5]) rfl ⟨_, rfl, hS9 _ _ _ HS2.out, hB9⟩
end Go.Proofs.YtlbffdgojmjijaaGreatDoor
