/-
  WALKS: growth: the error of a growth; the closures of Days on the document's example.
-/
import Derived.Test.YtlbffdgojmjijaaGreatDoorGrW
namespace Go.Proofs.YtlbffdgojmjijaaGreatDoor
open Go.RowKit

theorem low_trans' {B : Nat} {w V W : World} (hB : B ≤ V.heap.size) (h : Below B w V) (hb : Below V.heap.size V W) : Below B w W := h.trans (hb.mono hB)
set_option maxRecDepth 100000 in
set_option maxHeartbeats 8000000 in
theorem ggrow_ok (w : World) (a1 a2 a3 a4 a5 : Bool) (p1 p2 p3 p4 p5 : Option Addr) (n1 k1 n2 k2 n3 k3 n4 k4 n5 k5 : Nat) (e1 e2 e3 e4 e5 : Int) (x y u v l : Int) (h1 : SpI w (.agg #[.bool a1, .slice p1 n1 k1, .int .i64 e1, .bool a2, .slice p2 n2 k2, .int .i64 e2]) x y) (h2 : SpI w (.agg #[.bool a3, .slice p3 n3 k3, .int .i64 e3, .bool a4, .slice p4 n4 k4, .int .i64 e4]) u v) (h3 : Dy.Nm w (.agg #[.bool a5, .slice p5 n5 k5, .int .i64 e5]) (Dy.mk l 0)) (hx : 0 ≤ x) (hu : 0 ≤ u) (hl : 0 ≤ l) :
    Calls Tryz.prog 52 #[.agg #[.bool a1, .slice p1 n1 k1, .int .i64 e1, .bool a2, .slice p2 n2 k2, .int .i64 e2, .bool a3, .slice p3 n3 k3, .int .i64 e3, .bool a4, .slice p4 n4 k4, .int .i64 e4, .bool a5, .slice p5 n5 k5, .int .i64 e5]] w fun e w' => e = .returned (.int .i64 0) ∧ Below w.heap.size w w' := by
  have H1 := Lib.hid h1
  have H2 := Lib.hid h2
  have H3 := Lib.hid h3
  have sx : Hid (¬ Dy.sgn (Dy.mk x 0) < 0) := fun e => by have := (sgn_mk _).1.1 e; omega
  have su : Hid (¬ Dy.sgn (Dy.mk u 0) < 0) := fun e => by have := (sgn_mk _).1.1 e; omega
  have sl : Hid (¬ Dy.sgn (Dy.mk l 0) < 0) := fun e => by have := (sgn_mk _).1.1 e; omega
  clear h1 h2 h3
  go_enter Tryz.func52, Tryz.ntmps52
  go_upto_region 1 with fail
  have hP := World.alloc_heap_new w (.cells #[.bool a1, .slice p1 n1 k1, .int .i64 e1, .bool a2, .slice p2 n2 k2, .int .i64 e2, .bool a3, .slice p3 n3 k3, .int .i64 e3, .bool a4, .slice p4 n4 k4, .int .i64 e4, .bool a5, .slice p5 n5 k5, .int .i64 e5] 77)
  have hB : Below w.heap.size w (w.alloc (.cells #[.bool a1, .slice p1 n1 k1, .int .i64 e1, .bool a2, .slice p2 n2 k2, .int .i64 e2, .bool a3, .slice p3 n3 k3, .int .i64 e3, .bool a4, .slice p4 n4 k4, .int .i64 e4, .bool a5, .slice p5 n5 k5, .int .i64 e5] 77)) := (Below.refl _ _).alloc (Nat.le_refl _) _
  generalize w.alloc (.cells #[.bool a1, .slice p1 n1 k1, .int .i64 e1, .bool a2, .slice p2 n2 k2, .int .i64 e2, .bool a3, .slice p3 n3 k3, .int .i64 e3, .bool a4, .slice p4 n4 k4, .int .i64 e4, .bool a5, .slice p5 n5 k5, .int .i64 e5] 77) = W at hP hB ⊢
  have HP := Lib.hid hP
  have HB := Lib.hid hB
  have s0 : W.cell? ⟨w.heap.size, 0, none⟩ = some (.bool a1) := cell_h hP rfl
  have s1 : W.cell? ⟨w.heap.size, 1, none⟩ = some (.slice p1 n1 k1) := cell_h hP rfl
  have s2 : W.cell? ⟨w.heap.size, 2, none⟩ = some (.int .i64 e1) := cell_h hP rfl
  have s3 : W.cell? ⟨w.heap.size, 3, none⟩ = some (.bool a2) := cell_h hP rfl
  have s4 : W.cell? ⟨w.heap.size, 4, none⟩ = some (.slice p2 n2 k2) := cell_h hP rfl
  have s5 : W.cell? ⟨w.heap.size, 5, none⟩ = some (.int .i64 e2) := cell_h hP rfl
  have s6 : W.cell? ⟨w.heap.size, 6, none⟩ = some (.bool a3) := cell_h hP rfl
  have s7 : W.cell? ⟨w.heap.size, 7, none⟩ = some (.slice p3 n3 k3) := cell_h hP rfl
  have s8 : W.cell? ⟨w.heap.size, 8, none⟩ = some (.int .i64 e3) := cell_h hP rfl
  have s9 : W.cell? ⟨w.heap.size, 9, none⟩ = some (.bool a4) := cell_h hP rfl
  have s10 : W.cell? ⟨w.heap.size, 10, none⟩ = some (.slice p4 n4 k4) := cell_h hP rfl
  have s11 : W.cell? ⟨w.heap.size, 11, none⟩ = some (.int .i64 e4) := cell_h hP rfl
  have s12 : W.cell? ⟨w.heap.size, 12, none⟩ = some (.bool a5) := cell_h hP rfl
  have s13 : W.cell? ⟨w.heap.size, 13, none⟩ = some (.slice p5 n5 k5) := cell_h hP rfl
  have s14 : W.cell? ⟨w.heap.size, 14, none⟩ = some (.int .i64 e5) := cell_h hP rfl
  clear hP hB
  go_wp2_with fail
  refine (slo_of W _ _ _ (H1.out.keep HB.out)).mono ?_
  rintro e V1 ⟨vn, rfl, hvn, hb⟩
  have HN0 := Lib.hid hvn
  have HB1 := Lib.hid (low_trans HB.out hb)
  have HP1 := Lib.hid (blk1 HP.out hb)
  obtain ⟨b0, q0, l0, c0, f0, m0, rfl, _, _⟩ := hvn.fields
  clear hb hvn s0 s1 s2 s3 s4 s5 s6 s7 s8 s9 s10 s11 s12 s13 s14
  have s0 : V1.cell? ⟨w.heap.size, 0, none⟩ = some (.bool a1) := cell_h HP1.out rfl
  have s1 : V1.cell? ⟨w.heap.size, 1, none⟩ = some (.slice p1 n1 k1) := cell_h HP1.out rfl
  have s2 : V1.cell? ⟨w.heap.size, 2, none⟩ = some (.int .i64 e1) := cell_h HP1.out rfl
  have s3 : V1.cell? ⟨w.heap.size, 3, none⟩ = some (.bool a2) := cell_h HP1.out rfl
  have s4 : V1.cell? ⟨w.heap.size, 4, none⟩ = some (.slice p2 n2 k2) := cell_h HP1.out rfl
  have s5 : V1.cell? ⟨w.heap.size, 5, none⟩ = some (.int .i64 e2) := cell_h HP1.out rfl
  have s6 : V1.cell? ⟨w.heap.size, 6, none⟩ = some (.bool a3) := cell_h HP1.out rfl
  have s7 : V1.cell? ⟨w.heap.size, 7, none⟩ = some (.slice p3 n3 k3) := cell_h HP1.out rfl
  have s8 : V1.cell? ⟨w.heap.size, 8, none⟩ = some (.int .i64 e3) := cell_h HP1.out rfl
  have s9 : V1.cell? ⟨w.heap.size, 9, none⟩ = some (.bool a4) := cell_h HP1.out rfl
  have s10 : V1.cell? ⟨w.heap.size, 10, none⟩ = some (.slice p4 n4 k4) := cell_h HP1.out rfl
  have s11 : V1.cell? ⟨w.heap.size, 11, none⟩ = some (.int .i64 e4) := cell_h HP1.out rfl
  have s12 : V1.cell? ⟨w.heap.size, 12, none⟩ = some (.bool a5) := cell_h HP1.out rfl
  have s13 : V1.cell? ⟨w.heap.size, 13, none⟩ = some (.slice p5 n5 k5) := cell_h HP1.out rfl
  have s14 : V1.cell? ⟨w.heap.size, 14, none⟩ = some (.int .i64 e5) := cell_h HP1.out rfl
  go_wp2_with fail
  refine (Dy.sign_nm V1 _ _ HN0.out).mono ?_
  rintro e V2 ⟨rfl, hb⟩
  have HB2 := Lib.hid (low_trans HB1.out hb)
  have HP2 := Lib.hid (blk1 HP1.out hb)
  generalize Dy.sgn (Dy.mk x 0) = g0 at sx ⊢
  have r0 : ¬ g0 < 0 := by have := sx.out; omega
  clear hb sx s0 s1 s2 s3 s4 s5 s6 s7 s8 s9 s10 s11 s12 s13 s14
  have s0 : V2.cell? ⟨w.heap.size, 0, none⟩ = some (.bool a1) := cell_h HP2.out rfl
  have s1 : V2.cell? ⟨w.heap.size, 1, none⟩ = some (.slice p1 n1 k1) := cell_h HP2.out rfl
  have s2 : V2.cell? ⟨w.heap.size, 2, none⟩ = some (.int .i64 e1) := cell_h HP2.out rfl
  have s3 : V2.cell? ⟨w.heap.size, 3, none⟩ = some (.bool a2) := cell_h HP2.out rfl
  have s4 : V2.cell? ⟨w.heap.size, 4, none⟩ = some (.slice p2 n2 k2) := cell_h HP2.out rfl
  have s5 : V2.cell? ⟨w.heap.size, 5, none⟩ = some (.int .i64 e2) := cell_h HP2.out rfl
  have s6 : V2.cell? ⟨w.heap.size, 6, none⟩ = some (.bool a3) := cell_h HP2.out rfl
  have s7 : V2.cell? ⟨w.heap.size, 7, none⟩ = some (.slice p3 n3 k3) := cell_h HP2.out rfl
  have s8 : V2.cell? ⟨w.heap.size, 8, none⟩ = some (.int .i64 e3) := cell_h HP2.out rfl
  have s9 : V2.cell? ⟨w.heap.size, 9, none⟩ = some (.bool a4) := cell_h HP2.out rfl
  have s10 : V2.cell? ⟨w.heap.size, 10, none⟩ = some (.slice p4 n4 k4) := cell_h HP2.out rfl
  have s11 : V2.cell? ⟨w.heap.size, 11, none⟩ = some (.int .i64 e4) := cell_h HP2.out rfl
  have s12 : V2.cell? ⟨w.heap.size, 12, none⟩ = some (.bool a5) := cell_h HP2.out rfl
  have s13 : V2.cell? ⟨w.heap.size, 13, none⟩ = some (.slice p5 n5 k5) := cell_h HP2.out rfl
  have s14 : V2.cell? ⟨w.heap.size, 14, none⟩ = some (.int .i64 e5) := cell_h HP2.out rfl
  go_wp2_with fail
  refine (slo_of V2 _ _ _ (H2.out.keep HB2.out)).mono ?_
  rintro e V3 ⟨vn, rfl, hvn, hb⟩
  have HN1 := Lib.hid hvn
  have HB3 := Lib.hid (low_trans HB2.out hb)
  have HP3 := Lib.hid (blk1 HP2.out hb)
  obtain ⟨b0, q0, l0, c0, f0, m0, rfl, _, _⟩ := hvn.fields
  clear hb hvn s0 s1 s2 s3 s4 s5 s6 s7 s8 s9 s10 s11 s12 s13 s14
  have s0 : V3.cell? ⟨w.heap.size, 0, none⟩ = some (.bool a1) := cell_h HP3.out rfl
  have s1 : V3.cell? ⟨w.heap.size, 1, none⟩ = some (.slice p1 n1 k1) := cell_h HP3.out rfl
  have s2 : V3.cell? ⟨w.heap.size, 2, none⟩ = some (.int .i64 e1) := cell_h HP3.out rfl
  have s3 : V3.cell? ⟨w.heap.size, 3, none⟩ = some (.bool a2) := cell_h HP3.out rfl
  have s4 : V3.cell? ⟨w.heap.size, 4, none⟩ = some (.slice p2 n2 k2) := cell_h HP3.out rfl
  have s5 : V3.cell? ⟨w.heap.size, 5, none⟩ = some (.int .i64 e2) := cell_h HP3.out rfl
  have s6 : V3.cell? ⟨w.heap.size, 6, none⟩ = some (.bool a3) := cell_h HP3.out rfl
  have s7 : V3.cell? ⟨w.heap.size, 7, none⟩ = some (.slice p3 n3 k3) := cell_h HP3.out rfl
  have s8 : V3.cell? ⟨w.heap.size, 8, none⟩ = some (.int .i64 e3) := cell_h HP3.out rfl
  have s9 : V3.cell? ⟨w.heap.size, 9, none⟩ = some (.bool a4) := cell_h HP3.out rfl
  have s10 : V3.cell? ⟨w.heap.size, 10, none⟩ = some (.slice p4 n4 k4) := cell_h HP3.out rfl
  have s11 : V3.cell? ⟨w.heap.size, 11, none⟩ = some (.int .i64 e4) := cell_h HP3.out rfl
  have s12 : V3.cell? ⟨w.heap.size, 12, none⟩ = some (.bool a5) := cell_h HP3.out rfl
  have s13 : V3.cell? ⟨w.heap.size, 13, none⟩ = some (.slice p5 n5 k5) := cell_h HP3.out rfl
  have s14 : V3.cell? ⟨w.heap.size, 14, none⟩ = some (.int .i64 e5) := cell_h HP3.out rfl
  go_wp2_with fail
  refine (Dy.sign_nm V3 _ _ HN1.out).mono ?_
  rintro e V4 ⟨rfl, hb⟩
  have HB4 := Lib.hid (low_trans HB3.out hb)
  have HP4 := Lib.hid (blk1 HP3.out hb)
  generalize Dy.sgn (Dy.mk u 0) = g1 at su ⊢
  have r1 : ¬ g1 < 0 := by have := su.out; omega
  clear hb su s0 s1 s2 s3 s4 s5 s6 s7 s8 s9 s10 s11 s12 s13 s14
  have s0 : V4.cell? ⟨w.heap.size, 0, none⟩ = some (.bool a1) := cell_h HP4.out rfl
  have s1 : V4.cell? ⟨w.heap.size, 1, none⟩ = some (.slice p1 n1 k1) := cell_h HP4.out rfl
  have s2 : V4.cell? ⟨w.heap.size, 2, none⟩ = some (.int .i64 e1) := cell_h HP4.out rfl
  have s3 : V4.cell? ⟨w.heap.size, 3, none⟩ = some (.bool a2) := cell_h HP4.out rfl
  have s4 : V4.cell? ⟨w.heap.size, 4, none⟩ = some (.slice p2 n2 k2) := cell_h HP4.out rfl
  have s5 : V4.cell? ⟨w.heap.size, 5, none⟩ = some (.int .i64 e2) := cell_h HP4.out rfl
  have s6 : V4.cell? ⟨w.heap.size, 6, none⟩ = some (.bool a3) := cell_h HP4.out rfl
  have s7 : V4.cell? ⟨w.heap.size, 7, none⟩ = some (.slice p3 n3 k3) := cell_h HP4.out rfl
  have s8 : V4.cell? ⟨w.heap.size, 8, none⟩ = some (.int .i64 e3) := cell_h HP4.out rfl
  have s9 : V4.cell? ⟨w.heap.size, 9, none⟩ = some (.bool a4) := cell_h HP4.out rfl
  have s10 : V4.cell? ⟨w.heap.size, 10, none⟩ = some (.slice p4 n4 k4) := cell_h HP4.out rfl
  have s11 : V4.cell? ⟨w.heap.size, 11, none⟩ = some (.int .i64 e4) := cell_h HP4.out rfl
  have s12 : V4.cell? ⟨w.heap.size, 12, none⟩ = some (.bool a5) := cell_h HP4.out rfl
  have s13 : V4.cell? ⟨w.heap.size, 13, none⟩ = some (.slice p5 n5 k5) := cell_h HP4.out rfl
  have s14 : V4.cell? ⟨w.heap.size, 14, none⟩ = some (.int .i64 e5) := cell_h HP4.out rfl
  go_wp2_with fail
  refine (Dy.sign_nm V4 _ _ (H3.out.keep HB4.out)).mono ?_
  rintro e V5 ⟨rfl, hb⟩
  have HB5 := Lib.hid (low_trans HB4.out hb)
  have HP5 := Lib.hid (blk1 HP4.out hb)
  generalize Dy.sgn (Dy.mk l 0) = g2 at sl ⊢
  have r2 : ¬ g2 < 0 := by have := sl.out; omega
  clear hb sl s0 s1 s2 s3 s4 s5 s6 s7 s8 s9 s10 s11 s12 s13 s14
  have s0 : V5.cell? ⟨w.heap.size, 0, none⟩ = some (.bool a1) := cell_h HP5.out rfl
  have s1 : V5.cell? ⟨w.heap.size, 1, none⟩ = some (.slice p1 n1 k1) := cell_h HP5.out rfl
  have s2 : V5.cell? ⟨w.heap.size, 2, none⟩ = some (.int .i64 e1) := cell_h HP5.out rfl
  have s3 : V5.cell? ⟨w.heap.size, 3, none⟩ = some (.bool a2) := cell_h HP5.out rfl
  have s4 : V5.cell? ⟨w.heap.size, 4, none⟩ = some (.slice p2 n2 k2) := cell_h HP5.out rfl
  have s5 : V5.cell? ⟨w.heap.size, 5, none⟩ = some (.int .i64 e2) := cell_h HP5.out rfl
  have s6 : V5.cell? ⟨w.heap.size, 6, none⟩ = some (.bool a3) := cell_h HP5.out rfl
  have s7 : V5.cell? ⟨w.heap.size, 7, none⟩ = some (.slice p3 n3 k3) := cell_h HP5.out rfl
  have s8 : V5.cell? ⟨w.heap.size, 8, none⟩ = some (.int .i64 e3) := cell_h HP5.out rfl
  have s9 : V5.cell? ⟨w.heap.size, 9, none⟩ = some (.bool a4) := cell_h HP5.out rfl
  have s10 : V5.cell? ⟨w.heap.size, 10, none⟩ = some (.slice p4 n4 k4) := cell_h HP5.out rfl
  have s11 : V5.cell? ⟨w.heap.size, 11, none⟩ = some (.int .i64 e4) := cell_h HP5.out rfl
  have s12 : V5.cell? ⟨w.heap.size, 12, none⟩ = some (.bool a5) := cell_h HP5.out rfl
  have s13 : V5.cell? ⟨w.heap.size, 13, none⟩ = some (.slice p5 n5 k5) := cell_h HP5.out rfl
  have s14 : V5.cell? ⟨w.heap.size, 14, none⟩ = some (.int .i64 e5) := cell_h HP5.out rfl
  go_wp2_with fail
  go_ret
  exact ⟨rfl, HB5.out⟩
/-- What the closures of Days look at: the rate's cells, the cells of what is left. -/
structure DaW (w : World) (P L : Nat) (a3 a4 a6 : Bool) (p3 p4 p6 : Option Addr) (n3 k3 n4 k4 n6 k6 : Nat) (e3 e4 e6 : Int) : Prop where
  c : w.cell? ⟨P, 6, none⟩ = some (.bool a3) ∧ w.cell? ⟨P, 7, none⟩ = some (.slice p3 n3 k3) ∧ w.cell? ⟨P, 8, none⟩ = some (.int .i64 e3) ∧ w.cell? ⟨P, 9, none⟩ = some (.bool a4) ∧ w.cell? ⟨P, 10, none⟩ = some (.slice p4 n4 k4) ∧ w.cell? ⟨P, 11, none⟩ = some (.int .i64 e4) ∧ w.cell? ⟨L, 0, none⟩ = some (.bool a6) ∧ w.cell? ⟨L, 1, none⟩ = some (.slice p6 n6 k6) ∧ w.cell? ⟨L, 2, none⟩ = some (.int .i64 e6)
  r : SpI w (.agg #[.bool a3, .slice p3 n3 k3, .int .i64 e3, .bool a4, .slice p4 n4 k4, .int .i64 e4]) 365 365
  l : Dy.Nm w (.agg #[.bool a6, .slice p6 n6 k6, .int .i64 e6]) (Dy.mk 365000 0)
theorem DaW.keep {w W : World} {P L : Nat} {a3 a4 a6 : Bool} {p3 p4 p6 : Option Addr} {n3 k3 n4 k4 n6 k6 : Nat} {e3 e4 e6 : Int} (h : DaW w P L a3 a4 a6 p3 p4 p6 n3 k3 n4 k4 n6 k6 e3 e4 e6) (hB : Below w.heap.size w W) : DaW W P L a3 a4 a6 p3 p4 p6 n3 k3 n4 k4 n6 k6 e3 e4 e6 := by
  obtain ⟨⟨h0, h1, h2, h3, h4, h5, h6, h7, h8⟩, hr, hl⟩ := h
  exact ⟨⟨(hB.cell (World.block_lt_of_cell? _ _ h0)).trans h0, (hB.cell (World.block_lt_of_cell? _ _ h1)).trans h1, (hB.cell (World.block_lt_of_cell? _ _ h2)).trans h2, (hB.cell (World.block_lt_of_cell? _ _ h3)).trans h3, (hB.cell (World.block_lt_of_cell? _ _ h4)).trans h4, (hB.cell (World.block_lt_of_cell? _ _ h5)).trans h5, (hB.cell (World.block_lt_of_cell? _ _ h6)).trans h6, (hB.cell (World.block_lt_of_cell? _ _ h7)).trans h7, (hB.cell (World.block_lt_of_cell? _ _ h8)).trans h8⟩, hr.keep hB, hl.keep hB⟩
set_option maxRecDepth 100000 in
set_option maxHeartbeats 8000000 in
theorem passes_of (w : World) (P L : Nat) (a3 a4 a6 : Bool) (p3 p4 p6 : Option Addr) (n3 k3 n4 k4 n6 k6 : Nat) (e3 e4 e6 : Int) (h : DaW w P L a3 a4 a6 p3 p4 p6 n3 k3 n4 k4 n6 k6 e3 e4 e6) (d : Int) (hd : 0 ≤ d ∧ d ≤ 100000) (b : Bool) (hb : b = decide (1000 < d)) (hT : Dy.Tab w) :
    Calls Tryz.prog 57 #[.int .i64 d, .pointer (some ⟨P, 0, none⟩), .pointer (some ⟨L, 0, none⟩)] w fun e w' => e = .returned (.bool b) ∧ Below w.heap.size w w' := by
  have H := Lib.hid h
  have HT := Lib.hid hT
  have HBB : Hid (b = decide (Dy.sgn (Dy.mk (365 * d) 0 - Dy.mk 365000 0) > 0)) := by
    rw [mk_sub, hb, decide_eq_decide, (sgn_mk _).2]; exact Lib.hid (by omega)
  clear h hT hb
  go_enter Tryz.func57, Tryz.ntmps57
  go_upto_region 1 with fail
  have hD := H.out.keep (Below.refl _ w).drew
  have HB : Hid (Below w.heap.size w w.drew) := (Below.refl _ w).drew
  have HC1 := Lib.hid (shi_of w.drew (.agg #[.bool a3, .slice p3 n3 k3, .int .i64 e3, .bool a4, .slice p4 n4 k4, .int .i64 e4]) (Dy.mk 365 0) (Dy.mk 365 0) hD.r)
  have hS := hD.c
  go_region_held3 (fun W' => W'.cell? ⟨P, 6, none⟩ = some (.bool a3) ∧ W'.cell? ⟨P, 7, none⟩ = some (.slice p3 n3 k3) ∧ W'.cell? ⟨P, 8, none⟩ = some (.int .i64 e3) ∧ W'.cell? ⟨P, 9, none⟩ = some (.bool a4) ∧ W'.cell? ⟨P, 10, none⟩ = some (.slice p4 n4 k4) ∧ W'.cell? ⟨P, 11, none⟩ = some (.int .i64 e4) ∧ W'.cell? ⟨L, 0, none⟩ = some (.bool a6) ∧ W'.cell? ⟨L, 1, none⟩ = some (.slice p6 n6 k6) ∧ W'.cell? ⟨L, 2, none⟩ = some (.int .i64 e6))
    (with_reducible assumption)
    (first
      | (go_at_call 54; refine HC1.out.mono ?_; rintro e9 V1 ⟨v1, rfl, hv1, hb1⟩; (have hB1 := low_trans HB.out hb1); (have hS1 := (H.out.keep hB1).c); (obtain ⟨b1, q1, l1, c1, f1, m1, rfl, _, _⟩ := id hv1.fields))
      | (go_at_call 56; refine (gnumber_of V1 d (by unfold Dy.I64; omega) (HT.out.keep hB1)).mono ?_; rintro e9 V2 ⟨v2, rfl, hv2, hb2⟩; (have hB2 := low_trans hB1 hb2); (have hS2 := (H.out.keep hB2).c); (have hv1' := hv1.keep hb2); (obtain ⟨b2, q2, l2, c2, f2, m2, rfl, _, _⟩ := id hv2.fields))
      | (go_at_call 55; refine (Dy.mul_nm V2 _ _ _ _ 40 0 40 0 hv1' hv2 (bx (by decide)) (bx (by omega)) (by omega) (HT.out.keep hB2)).mono ?_; rintro e9 V3 ⟨v3, rfl, hv3, hb3⟩; (have hB3 := low_trans hB2 hb3); (have hS3 := (H.out.keep hB3).c); (rw [Dy.mk_mul] at hv3); (obtain ⟨b3, q3, l3, c3, f3, m3, rfl, _, _⟩ := id hv3.fields))
      | (go_at_call 58; refine (Dy.cmp_nm V3 _ _ _ _ 40 0 40 0 hv3 (H.out.keep hB3).l (bx (by omega)) (bx (by decide)) (by omega) (HT.out.keep hB3)).mono ?_; rintro e9 V4 ⟨rfl, hb4⟩; (have hB4 := low_trans hB3 hb4); (have hS4 := (H.out.keep hB4).c)))
  all_goals
    have HB4 := Lib.hid hB4
    clear hS hS1 hS2 hS3 hS4 hB1 hB2 hB3 hB4 hb1 hb3 hb4 hv1 hv2 hv3 hv1' HC1 hD
    rw [show decide (0 < Dy.sgn (Dy.mk (365 * d) 0 - Dy.mk 365000 0)) = b from HBB.out.symm]
    go_wp2_with fail
    go_ret
    exact ⟨rfl, HB4.out⟩
end Go.Proofs.YtlbffdgojmjijaaGreatDoor
