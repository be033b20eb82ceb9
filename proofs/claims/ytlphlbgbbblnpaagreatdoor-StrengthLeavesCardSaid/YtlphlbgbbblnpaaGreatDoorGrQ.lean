/-
  WALKS: spans of the program: Lo, Hi, Hull.
-/
import Derived.Test.YtlphlbgbbblnpaaGreatDoorGrP
import Derived.Test.YtlphlbgbbblnpaaGreatDoorPmAF
namespace Go.Proofs.YtlphlbgbbblnpaaGreatDoor
open Go.RowKit

/-- Three numbers. -/
def g3 (x y z : Dyadic) : Nat → Dyadic := fun i => if i = 0 then x else if i = 1 then y else z
theorem nine {W : World} {g : Nat} {t : TypeId} {a1 a2 a3 : Bool} {p1 p2 p3 : Option Addr} {n1 k1 n2 k2 n3 k3 : Nat} {e1 e2 e3 : Int} {x y z : Dyadic} (h : W.heap[g]? = some (.cells #[.bool a1, .slice p1 n1 k1, .int .i64 e1, .bool a2, .slice p2 n2 k2, .int .i64 e2, .bool a3, .slice p3 n3 k3, .int .i64 e3] t (0, 0)))
    (hx : Dy.Nm W (.agg #[.bool a1, .slice p1 n1 k1, .int .i64 e1]) x) (hy : Dy.Nm W (.agg #[.bool a2, .slice p2 n2 k2, .int .i64 e2]) y) (hz : Dy.Nm W (.agg #[.bool a3, .slice p3 n3 k3, .int .i64 e3]) z) : Dy.Nums W g 0 3 (g3 x y z) := by
  intro i hi
  rcases (by omega : i = 0 ∨ i = 1 ∨ i = 2) with rfl | rfl | rfl
  · exact ⟨a1, p1, n1, k1, e1, cell_h h rfl, cell_h h rfl, cell_h h rfl, hx⟩
  · exact ⟨a2, p2, n2, k2, e2, cell_h h rfl, cell_h h rfl, cell_h h rfl, hy⟩
  · exact ⟨a3, p3, n3, k3, e3, cell_h h rfl, cell_h h rfl, cell_h h rfl, hz⟩
set_option maxHeartbeats 1600000 in
theorem slo_of (w : World) (v : Value) (x y : Dyadic) (h : Dy.Sp w v x y) :
    Calls Tryz.prog 68 #[v] w (Dy.Ret w fun w' v => Dy.Nm w' v x) := by
  obtain ⟨a1, p1, n1, k1, e1, a2, p2, n2, k2, e2, rfl, h1, h2⟩ := h
  have H1 := Lib.hid h1
  clear h1 h2
  go_enter Tryz.func68, Tryz.ntmps68
  go_wp2_with fail
  have hb : Below w.heap.size w ((w.alloc (.cells #[.bool a1, .slice p1 n1 k1, .int .i64 e1, .bool a2, .slice p2 n2 k2, .int .i64 e2] 116)).alloc (.cells #[.bool a1, .slice p1 n1 k1, .int .i64 e1] 75)) := ((Below.refl _ _).alloc (Nat.le_refl _) _).alloc (by simp) _
  refine bodyPost_ret (v := .agg #[.bool a1, .slice p1 n1 k1, .int .i64 e1]) (by simp [results, Tryz.results68, go_sem]) rfl ⟨_, rfl, H1.out.keep hb, hb⟩
set_option maxHeartbeats 1600000 in
theorem shull_nm (w : World) (v1 v2 : Value) (x1 y1 x2 y2 : Dyadic) (A E : Nat) (h1 : Dy.Sp w v1 x1 y1) (h2 : Dy.Sp w v2 x2 y2) (b1 : Dy.Box x1 A E) (b2 : Dy.Box y1 A E) (b3 : Dy.Box x2 A E) (b4 : Dy.Box y2 A E) (hAE : A + E + A + E ≤ 1000000000) (hT : Dy.Tab w) :
    Calls Tryz.prog 187 #[v1, v2] w (Dy.Ret w fun w' v => Dy.Sp w' v (Dy.hullLo x1 (g3 y1 x2 y2) 3) (Dy.hullHi x1 (g3 y1 x2 y2) 3)) := by
  obtain ⟨a1, p1, n1, k1, e1, a2, p2, n2, k2, e2, rfl, h11, h12⟩ := h1
  obtain ⟨a3, p3, n3, k3, e3, a4, p4, n4, k4, e4, rfl, h21, h22⟩ := h2
  have HT := Lib.hid hT
  have H1 := Lib.hid (And.intro h11 (And.intro h12 (And.intro h21 h22)))
  have HX := Lib.hid (And.intro b1 (And.intro b2 (And.intro b3 b4)))
  clear hT h11 h12 h21 h22 b1 b2 b3 b4
  go_enter Tryz.func187, Tryz.ntmps187
  go_wp2_with fail
  obtain ⟨W, hW⟩ : ∃ W, ((((w.alloc (.cells #[.bool a1, .slice p1 n1 k1, .int .i64 e1, .bool a2, .slice p2 n2 k2, .int .i64 e2] 116)).alloc (.cells #[.bool a3, .slice p3 n3 k3, .int .i64 e3, .bool a4, .slice p4 n4 k4, .int .i64 e4] 116)).alloc (.cells #[.bool false, .slice none 0 0, .int .i64 0, .bool false, .slice none 0 0, .int .i64 0] 116)).alloc (.cells #[.bool a2, .slice p2 n2 k2, .int .i64 e2, .bool a3, .slice p3 n3 k3, .int .i64 e3, .bool a4, .slice p4 n4 k4, .int .i64 e4] 75)) = W := ⟨_, rfl⟩
  rw [hW]
  have hB : Below w.heap.size w W := by rw [← hW]; exact ((((Below.refl _ _).alloc (Nat.le_refl _) _).alloc (by simp) _).alloc (by simp; omega) _).alloc (by simp; omega) _
  have hR : W.heap[w.heap.size + 1 + 1]? = some (.cells #[.bool false, .slice none 0 0, .int .i64 0, .bool false, .slice none 0 0, .int .i64 0] 116 (0, 0)) := by rw [← hW]; exact al_old (al_2 w _ _ _) _
  have hL : W.heap[w.heap.size + 1 + 1 + 1]? = some (.cells #[.bool a2, .slice p2 n2 k2, .int .i64 e2, .bool a3, .slice p3 n3 k3, .int .i64 e3, .bool a4, .slice p4 n4 k4, .int .i64 e4] 75 (0, 0)) := by rw [← hW]; exact al_3 w _ _ _ _
  have HB := Lib.hid hB
  have HR := Lib.hid hR
  have HN := Lib.hid (nine hL (H1.out.2.1.keep hB) (H1.out.2.2.1.keep hB) (H1.out.2.2.2.keep hB))
  clear hW hB hR hL
  refine (Dy.hull_nm W a1 p1 n1 k1 e1 _ 0 3 3 x1 (g3 y1 x2 y2) A E (by omega) (H1.out.1.keep HB.out) HN.out HX.out.1 (fun i hi => by
    rcases (by omega : i = 0 ∨ i = 1 ∨ i = 2) with rfl | rfl | rfl
    · exact HX.out.2.1
    · exact HX.out.2.2.1
    · exact HX.out.2.2.2) hAE (HT.out.keep HB.out)).mono ?_
  rintro e W2 ⟨v2, rfl, ⟨b1, q1, l1, c1, f1, b2, q2, l2, c2, f2, rfl, hx, hy⟩, hB2⟩
  have hR2 := (hB2.block _ (Array.getElem?_eq_some_iff.1 HR.out).1).trans HR.out
  have HB2 := Lib.hid (HB.out.trans (hB2.mono HB.out.size))
  have HS2 : Hid (Dy.Sp W2 (.agg #[.bool b1, .slice q1 l1 c1, .int .i64 f1, .bool b2, .slice q2 l2 c2, .int .i64 f2]) (Dy.hullLo x1 (g3 y1 x2 y2) 3) (Dy.hullHi x1 (g3 y1 x2 y2) 3)) := ⟨b1, q1, l1, c1, f1, b2, q2, l2, c2, f2, rfl, hx, hy⟩
  have HA := Lib.hid (set6_all (b1 := b1) (q1 := q1) (l1 := l1) (c1 := c1) (f1 := f1) (b2 := b2) (q2 := q2) (l2 := l2) (c2 := c2) (f2 := f2) hR2 HB2.out (by omega))
  have z0 := cell_h (k := 0) hR2 rfl
  have z1 := cell_h (k := 1) hR2 rfl
  have z2 := cell_h (k := 2) hR2 rfl
  have z3 := cell_h (k := 3) hR2 rfl
  have z4 := cell_h (k := 4) hR2 rfl
  have z5 := cell_h (k := 5) hR2 rfl
  have zf : ∀ o, W2.frozen? ⟨w.heap.size + 1 + 1, o, none⟩ = false := fun o => by simp [World.frozen?, hR2]
  clear hR2 hB2 hx hy HB2 HR HN HB
  go_wp2_with fail
  generalize hW9 : (((((W2.setCell ⟨w.heap.size + 1 + 1, 0, none⟩ (.bool b1)).setCell ⟨w.heap.size + 1 + 1, 1, none⟩ (.slice q1 l1 c1)).setCell ⟨w.heap.size + 1 + 1, 2, none⟩ (.int .i64 f1)).setCell ⟨w.heap.size + 1 + 1, 3, none⟩ (.bool b2)).setCell ⟨w.heap.size + 1 + 1, 4, none⟩ (.slice q2 l2 c2)).setCell ⟨w.heap.size + 1 + 1, 5, none⟩ (.int .i64 f2) = W9
  obtain ⟨hR9, hB9, hS9, _⟩ := HA.out W9 hW9
  have y0 := cell_h (k := 0) hR9 rfl
  have y1 := cell_h (k := 1) hR9 rfl
  have y2 := cell_h (k := 2) hR9 rfl
  have y3 := cell_h (k := 3) hR9 rfl
  have y4 := cell_h (k := 4) hR9 rfl
  have y5 := cell_h (k := 5) hR9 rfl
  exact bodyPost_ret (v := .agg #[.bool b1, .slice q1 l1 c1, .int .i64 f1, .bool b2, .slice q2 l2 c2, .int .i64 f2]) (by simp [results, Tryz.results187, go_sem, y0, y1, y2, y3, y4, y5]) rfl ⟨_, rfl, hS9 _ _ _ HS2.out, hB9⟩
end Go.Proofs.YtlphlbgbbblnpaaGreatDoor
