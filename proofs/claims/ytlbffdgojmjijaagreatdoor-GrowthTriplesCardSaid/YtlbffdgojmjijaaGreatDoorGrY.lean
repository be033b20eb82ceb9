/-
  WALKS: growth: Days on the document's example.
-/
import Derived.Test.YtlbffdgojmjijaaGreatDoorGrZ
namespace Go.Proofs.YtlbffdgojmjijaaGreatDoor
open Go.RowKit

theorem alB {w V : World} {o : Obj} (h : Below w.heap.size w V) : Below w.heap.size w (V.alloc o) := h.alloc h.size o
theorem alN {V : World} {o : Obj} {v : Value} {x : Dyadic} (h : Dy.Nm V v x) : Dy.Nm (V.alloc o) v x := h.keep ((Below.refl _ _).alloc (Nat.le_refl _) _)
theorem undrew {V W : World} (h : Below V.drew.heap.size V.drew W) : Below V.heap.size V W := ⟨h.os, h.tape, h.output, h.size, h.block⟩
/-- A block that holds the number 0, and no digit. -/
def Zb (W : World) (g : Nat) : Prop := W.heap[g]? = some (.cells #[.bool false, .slice none 0 0, .int .i64 0] 67 (0, 0))
theorem Zb.new (V : World) : Zb (V.alloc (.cells #[.bool false, .slice none 0 0, .int .i64 0] 67)) V.heap.size := World.alloc_heap_new V _
theorem Zb.keep {V W : World} {g : Nat} (h : Zb V g) (hB : Below V.heap.size V W) : Zb W g := blk1 h hB
theorem Zb.newK {V W : World} (hB : Below (V.alloc (.cells #[.bool false, .slice none 0 0, .int .i64 0] 67)).heap.size (V.alloc (.cells #[.bool false, .slice none 0 0, .int .i64 0] 67)) W) : Zb W V.heap.size := (Zb.new V).keep hB
theorem Zb.newKd {V W : World} (hB : Below (V.alloc (.cells #[.bool false, .slice none 0 0, .int .i64 0] 67)).drew.heap.size (V.alloc (.cells #[.bool false, .slice none 0 0, .int .i64 0] 67)).drew W) : Zb W V.heap.size := Zb.keep (V := (V.alloc (.cells #[.bool false, .slice none 0 0, .int .i64 0] 67)).drew) (Zb.new V) hB
theorem Zb.fr {V : World} {g : Nat} (h : Zb V g) : ∀ o, V.frozen? ⟨g, o, none⟩ = false := fun o => by simp [World.frozen?, show V.heap[g]? = _ from h]
theorem Zb.nodig {V : World} {g : Nat} (h : Zb V g) : Dy.NoDig V g := by
  intro o x hc
  simp only [World.cell?, show V.heap[g]? = _ from h] at hc
  match o, hc with
  | 0, hc => simp at hc
  | 1, hc => simp at hc
  | 2, hc => simp at hc
  | o + 3, hc => simp at hc
/-- A number stored in such a block. -/
theorem Zb.store {V : World} {g : Nat} {a : Bool} {p : Option Addr} {n k : Nat} {e : Int} {x : Dyadic} (h : Zb V g) (hv : Dy.Nm V (.agg #[.bool a, .slice p n k, .int .i64 e]) x) :
    (((V.setCell ⟨g, 0, none⟩ (.bool a)).setCell ⟨g, 1, none⟩ (.slice p n k)).setCell ⟨g, 2, none⟩ (.int .i64 e)).heap[g]? = some (.cells #[.bool a, .slice p n k, .int .i64 e] 67 (0, 0)) ∧ Dy.Nm (((V.setCell ⟨g, 0, none⟩ (.bool a)).setCell ⟨g, 1, none⟩ (.slice p n k)).setCell ⟨g, 2, none⟩ (.int .i64 e)) (.agg #[.bool a, .slice p n k, .int .i64 e]) x :=
  ⟨by rw [heap_set (heap_set (heap_set h _) _) _]; rfl, hv.set3 h.nodig⟩
set_option maxRecDepth 100000 in
set_option maxHeartbeats 8000000 in
theorem days_ex (w : World) (a1 a2 a3 a4 a5 : Bool) (p1 p2 p3 p4 p5 : Option Addr) (n1 k1 n2 k2 n3 k3 n4 k4 n5 k5 : Nat) (e1 e2 e3 e4 e5 : Int) (h1 : SpI w (.agg #[.bool a1, .slice p1 n1 k1, .int .i64 e1, .bool a2, .slice p2 n2 k2, .int .i64 e2]) 1000 1000) (h2 : SpI w (.agg #[.bool a3, .slice p3 n3 k3, .int .i64 e3, .bool a4, .slice p4 n4 k4, .int .i64 e4]) 365 365) (h3 : Dy.Nm w (.agg #[.bool a5, .slice p5 n5 k5, .int .i64 e5]) (Dy.mk 2000 0)) (hT : Dy.Tab w) :
    Calls Tryz.prog 28 #[.agg #[.bool a1, .slice p1 n1 k1, .int .i64 e1, .bool a2, .slice p2 n2 k2, .int .i64 e2, .bool a3, .slice p3 n3 k3, .int .i64 e3, .bool a4, .slice p4 n4 k4, .int .i64 e4, .bool a5, .slice p5 n5 k5, .int .i64 e5]] w fun e w' => e = .returned (.tuple #[.int .i64 1000, .int .i64 0]) ∧ Below w.heap.size w w' := by
  have H1 := Lib.hid h1
  have H2 := Lib.hid h2
  have H3 := Lib.hid h3
  have HT := Lib.hid hT
  clear h1 h2 h3 hT
  go_enter Tryz.func28, Tryz.ntmps28
  go_upto_region 1 with fail
  have hP := World.alloc_heap_new w (.cells #[.bool a1, .slice p1 n1 k1, .int .i64 e1, .bool a2, .slice p2 n2 k2, .int .i64 e2, .bool a3, .slice p3 n3 k3, .int .i64 e3, .bool a4, .slice p4 n4 k4, .int .i64 e4, .bool a5, .slice p5 n5 k5, .int .i64 e5] 77)
  have hB : Below w.heap.size w (w.alloc (.cells #[.bool a1, .slice p1 n1 k1, .int .i64 e1, .bool a2, .slice p2 n2 k2, .int .i64 e2, .bool a3, .slice p3 n3 k3, .int .i64 e3, .bool a4, .slice p4 n4 k4, .int .i64 e4, .bool a5, .slice p5 n5 k5, .int .i64 e5] 77)) := (Below.refl _ _).alloc (Nat.le_refl _) _
  generalize w.alloc (.cells #[.bool a1, .slice p1 n1 k1, .int .i64 e1, .bool a2, .slice p2 n2 k2, .int .i64 e2, .bool a3, .slice p3 n3 k3, .int .i64 e3, .bool a4, .slice p4 n4 k4, .int .i64 e4, .bool a5, .slice p5 n5 k5, .int .i64 e5] 77) = W at hP hB ⊢
  have HP := Lib.hid hP
  have HB := Lib.hid hB
  have s0 : W.cell? ⟨w.heap.size, 0, none⟩ = some (.bool a1) := cell_h hP rfl
  have s1 : W.cell? ⟨w.heap.size, 1, none⟩ = some (.slice p1 n1 k1) := cell_h hP rfl
  have s2 : W.cell? ⟨w.heap.size, 2, none⟩ = some (.int .i64 e1) := cell_h hP rfl
  have s3 : W.cell? ⟨w.heap.size, 3, none⟩ = some (.bool a2) := cell_h hP rfl
  have s4 : W.cell? ⟨w.heap.size, 4, none⟩ = some (.slice p2 n2 k2) := cell_h hP rfl
  have s5 : W.cell? ⟨w.heap.size, 5, none⟩ = some (.int .i64 e2) := cell_h hP rfl
  have s6 : W.cell? ⟨w.heap.size, 6, none⟩ = some (.bool a3) := cell_h hP rfl
  have s7 : W.cell? ⟨w.heap.size, 7, none⟩ = some (.slice p3 n3 k3) := cell_h hP rfl
  have s8 : W.cell? ⟨w.heap.size, 8, none⟩ = some (.int .i64 e3) := cell_h hP rfl
  have s9 : W.cell? ⟨w.heap.size, 9, none⟩ = some (.bool a4) := cell_h hP rfl
  have s10 : W.cell? ⟨w.heap.size, 10, none⟩ = some (.slice p4 n4 k4) := cell_h hP rfl
  have s11 : W.cell? ⟨w.heap.size, 11, none⟩ = some (.int .i64 e4) := cell_h hP rfl
  have s12 : W.cell? ⟨w.heap.size, 12, none⟩ = some (.bool a5) := cell_h hP rfl
  have s13 : W.cell? ⟨w.heap.size, 13, none⟩ = some (.slice p5 n5 k5) := cell_h hP rfl
  have s14 : W.cell? ⟨w.heap.size, 14, none⟩ = some (.int .i64 e5) := cell_h hP rfl
  clear hP hB
  go_wp2_with fail
  refine (ggrow_ok W a1 a2 a3 a4 a5 p1 p2 p3 p4 p5 n1 k1 n2 k2 n3 k3 n4 k4 n5 k5 e1 e2 e3 e4 e5 1000 1000 365 365 2000 (H1.out.keep HB.out) (H2.out.keep HB.out) (H3.out.keep HB.out) (by omega) (by omega) (by omega)).mono ?_
  rintro e V1 ⟨rfl, hb⟩
  have HB1 := Lib.hid (low_trans HB.out hb)
  have HP1 := Lib.hid (blk1 HP.out hb)
  clear hb HB HP s0 s1 s2 s3 s4 s5 s6 s7 s8 s9 s10 s11 s12 s13 s14
  have s0 : V1.cell? ⟨w.heap.size, 0, none⟩ = some (.bool a1) := cell_h HP1.out rfl
  have s1 : V1.cell? ⟨w.heap.size, 1, none⟩ = some (.slice p1 n1 k1) := cell_h HP1.out rfl
  have s2 : V1.cell? ⟨w.heap.size, 2, none⟩ = some (.int .i64 e1) := cell_h HP1.out rfl
  have s3 : V1.cell? ⟨w.heap.size, 3, none⟩ = some (.bool a2) := cell_h HP1.out rfl
  have s4 : V1.cell? ⟨w.heap.size, 4, none⟩ = some (.slice p2 n2 k2) := cell_h HP1.out rfl
  have s5 : V1.cell? ⟨w.heap.size, 5, none⟩ = some (.int .i64 e2) := cell_h HP1.out rfl
  have s6 : V1.cell? ⟨w.heap.size, 6, none⟩ = some (.bool a3) := cell_h HP1.out rfl
  have s7 : V1.cell? ⟨w.heap.size, 7, none⟩ = some (.slice p3 n3 k3) := cell_h HP1.out rfl
  have s8 : V1.cell? ⟨w.heap.size, 8, none⟩ = some (.int .i64 e3) := cell_h HP1.out rfl
  have s9 : V1.cell? ⟨w.heap.size, 9, none⟩ = some (.bool a4) := cell_h HP1.out rfl
  have s10 : V1.cell? ⟨w.heap.size, 10, none⟩ = some (.slice p4 n4 k4) := cell_h HP1.out rfl
  have s11 : V1.cell? ⟨w.heap.size, 11, none⟩ = some (.int .i64 e4) := cell_h HP1.out rfl
  have s12 : V1.cell? ⟨w.heap.size, 12, none⟩ = some (.bool a5) := cell_h HP1.out rfl
  have s13 : V1.cell? ⟨w.heap.size, 13, none⟩ = some (.slice p5 n5 k5) := cell_h HP1.out rfl
  have s14 : V1.cell? ⟨w.heap.size, 14, none⟩ = some (.int .i64 e5) := cell_h HP1.out rfl
  go_upto_region 4 with fail
  go_cut [5] (fun s5 wx => ∃ (L : Nat) (a6 : Bool) (p6 : Option Addr) (n6 k6 : Nat) (e6 : Int), s5 = .pointer (some ⟨L, 0, none⟩) ∧ wx.heap[L]? = some (.cells #[.bool a6, .slice p6 n6 k6, .int .i64 e6] 67 (0, 0)) ∧ Dy.Nm wx (.agg #[.bool a6, .slice p6 n6 k6, .int .i64 e6]) (Dy.mk 365000 0) ∧ Below V1.heap.size V1 wx)
  case first =>
    have hw : Below w.heap.size w V1.drew := HB1.out.drew
    have HPd : Hid (V1.drew.heap[w.heap.size]? = some (.cells #[.bool a1, .slice p1 n1 k1, .int .i64 e1, .bool a2, .slice p2 n2 k2, .int .i64 e2, .bool a3, .slice p3 n3 k3, .int .i64 e3, .bool a4, .slice p4 n4 k4, .int .i64 e4, .bool a5, .slice p5 n5 k5, .int .i64 e5] 77 (0, 0))) := HP1.out
    have hS : V1.drew.cell? ⟨w.heap.size, 0, none⟩ = some (.bool a1) ∧ V1.drew.cell? ⟨w.heap.size, 1, none⟩ = some (.slice p1 n1 k1) ∧ V1.drew.cell? ⟨w.heap.size, 2, none⟩ = some (.int .i64 e1) ∧ V1.drew.cell? ⟨w.heap.size, 3, none⟩ = some (.bool a2) ∧ V1.drew.cell? ⟨w.heap.size, 4, none⟩ = some (.slice p2 n2 k2) ∧ V1.drew.cell? ⟨w.heap.size, 5, none⟩ = some (.int .i64 e2) ∧ V1.drew.cell? ⟨w.heap.size, 12, none⟩ = some (.bool a5) ∧ V1.drew.cell? ⟨w.heap.size, 13, none⟩ = some (.slice p5 n5 k5) ∧ V1.drew.cell? ⟨w.heap.size, 14, none⟩ = some (.int .i64 e5) := ⟨s0, s1, s2, s3, s4, s5, s12, s13, s14⟩
    have hKP : ∀ V, Below V1.drew.heap.size V1.drew V → V.cell? ⟨w.heap.size, 0, none⟩ = some (.bool a1) ∧ V.cell? ⟨w.heap.size, 1, none⟩ = some (.slice p1 n1 k1) ∧ V.cell? ⟨w.heap.size, 2, none⟩ = some (.int .i64 e1) ∧ V.cell? ⟨w.heap.size, 3, none⟩ = some (.bool a2) ∧ V.cell? ⟨w.heap.size, 4, none⟩ = some (.slice p2 n2 k2) ∧ V.cell? ⟨w.heap.size, 5, none⟩ = some (.int .i64 e2) ∧ V.cell? ⟨w.heap.size, 12, none⟩ = some (.bool a5) ∧ V.cell? ⟨w.heap.size, 13, none⟩ = some (.slice p5 n5 k5) ∧ V.cell? ⟨w.heap.size, 14, none⟩ = some (.int .i64 e5) := fun V hV => ⟨cell_h (blk1 HPd.out hV) rfl, cell_h (blk1 HPd.out hV) rfl, cell_h (blk1 HPd.out hV) rfl, cell_h (blk1 HPd.out hV) rfl, cell_h (blk1 HPd.out hV) rfl, cell_h (blk1 HPd.out hV) rfl, cell_h (blk1 HPd.out hV) rfl, cell_h (blk1 HPd.out hV) rfl, cell_h (blk1 HPd.out hV) rfl⟩
    have hd : Below V1.drew.heap.size V1.drew V1.drew := Below.refl _ _
    have hw1 : Below w.heap.size w V1 := HB1.out
    have hd1 : Below V1.drew.heap.size V1.drew V1 := ⟨rfl, rfl, rfl, Nat.le_refl _, fun _ _ => rfl⟩
    have HHi : Hid (∀ V, Below w.heap.size w V → Calls Tryz.prog 54 #[(.agg #[.bool a1, .slice p1 n1 k1, .int .i64 e1, .bool a2, .slice p2 n2 k2, .int .i64 e2])] V (Dy.Ret V fun w' v => Dy.Nm w' v (Dy.mk 1000 0))) := fun V hV => shi_of V (.agg #[.bool a1, .slice p1 n1 k1, .int .i64 e1, .bool a2, .slice p2 n2 k2, .int .i64 e2]) (Dy.mk 1000 0) (Dy.mk 1000 0) (H1.out.keep hV)
    have HSu : Hid (∀ V u, Below w.heap.size w V → Dy.Nm V u (Dy.mk 1000 0) → Calls Tryz.prog 53 #[(.agg #[.bool a5, .slice p5 n5 k5, .int .i64 e5]), u] V (Dy.Ret V fun w' v => Dy.Nm w' v (Dy.mk 1000 0))) := fun V u hV hu => by
      have h := Dy.sub_nm V _ _ _ _ 40 0 40 0 (H3.out.keep hV) hu (bx (by decide)) (bx (by decide)) (by omega) (HT.out.keep hV)
      rw [mk_sub] at h
      exact h
    have HNu : Hid (∀ V, Below w.heap.size w V → Calls Tryz.prog 56 #[.int .i64 365] V (Dy.Ret V fun w' v => Dy.Nm w' v (Dy.mk 365 0))) := fun V hV => gnumber_of V 365 (by unfold Dy.I64; omega) (HT.out.keep hV)
    have HMu : Hid (∀ V u v, Below w.heap.size w V → Dy.Nm V u (Dy.mk 1000 0) → Dy.Nm V v (Dy.mk 365 0) → Calls Tryz.prog 55 #[u, v] V (Dy.Ret V fun w' v => Dy.Nm w' v (Dy.mk 365000 0))) := fun V u v hV hu hv => by
      have h := Dy.mul_nm V _ _ _ _ 40 0 40 0 hu hv (bx (by decide)) (bx (by decide)) (by omega) (HT.out.keep hV)
      rw [Dy.mk_mul] at h
      exact h
    go_region_held3 (fun W' => W'.cell? ⟨w.heap.size, 0, none⟩ = some (.bool a1) ∧ W'.cell? ⟨w.heap.size, 1, none⟩ = some (.slice p1 n1 k1) ∧ W'.cell? ⟨w.heap.size, 2, none⟩ = some (.int .i64 e1) ∧ W'.cell? ⟨w.heap.size, 3, none⟩ = some (.bool a2) ∧ W'.cell? ⟨w.heap.size, 4, none⟩ = some (.slice p2 n2 k2) ∧ W'.cell? ⟨w.heap.size, 5, none⟩ = some (.int .i64 e2) ∧ W'.cell? ⟨w.heap.size, 12, none⟩ = some (.bool a5) ∧ W'.cell? ⟨w.heap.size, 13, none⟩ = some (.slice p5 n5 k5) ∧ W'.cell? ⟨w.heap.size, 14, none⟩ = some (.int .i64 e5))
      (first | (with_reducible assumption) | (exact hKP _ (alB (by assumption))) | (exact hKP _ (alB (by assumption)).drew) | (exact hKP _ (Dy.below_set3 (by first | assumption | exact alB (by assumption)) (Below.size (w := V1.drew) (by assumption)))))
      (first
        | (go_at_call 54; refine (HHi.out _ (by first | assumption | exact alB (by assumption) | exact (alB (by assumption)).drew)).mono ?_; rintro e9 V2 ⟨v2, rfl, hv2, hb2⟩; (have hL2 := low_trans (w := w) (by first | assumption | exact alB (by assumption) | exact (alB (by assumption)).drew) hb2); (have hd2 := low_trans (w := V1.drew) (by first | assumption | exact alB (by assumption) | exact (alB (by assumption)).drew) hb2); (have hS2 := hKP V2 hd2); (try (have hz2 := Zb.newK hb2)); (try (have hz2 := Zb.newKd hb2)); (try (have hz2 := Zb.keep (by assumption) hb2)); (obtain ⟨b2, q2, l2, c2, f2, m2, rfl, _, _⟩ := id hv2.fields))
        | (go_at_call 53; refine (HSu.out _ _ (by first | assumption | exact alB (by assumption) | exact (alB (by assumption)).drew) (by first | assumption | exact alN (by assumption))).mono ?_; rintro e9 V3 ⟨v3, rfl, hv3, hb3⟩; (have hL3 := low_trans (w := w) (by first | assumption | exact alB (by assumption) | exact (alB (by assumption)).drew) hb3); (have hd3 := low_trans (w := V1.drew) (by first | assumption | exact alB (by assumption) | exact (alB (by assumption)).drew) hb3); (have hS3 := hKP V3 hd3); (try (have hz3 := Zb.newK hb3)); (try (have hz3 := Zb.newKd hb3)); (try (have hz3 := Zb.keep (by assumption) hb3)); (obtain ⟨b3, q3, l3, c3, f3, m3, rfl, _, _⟩ := id hv3.fields))
        | (go_at_call 56; refine (HNu.out _ (by first | assumption | exact alB (by assumption) | exact (alB (by assumption)).drew)).mono ?_; rintro e9 V4 ⟨v4, rfl, hv4, hb4⟩; (have hL4 := low_trans (w := w) (by first | assumption | exact alB (by assumption) | exact (alB (by assumption)).drew) hb4); (have hd4 := low_trans (w := V1.drew) (by first | assumption | exact alB (by assumption) | exact (alB (by assumption)).drew) hb4); (have hS4 := hKP V4 hd4); (try (have hz4 := Zb.newK hb4)); (try (have hz4 := Zb.newKd hb4)); (try (have hz4 := Zb.keep (by assumption) hb4)); (obtain ⟨b4, q4, l4, c4, f4, m4, rfl, _, _⟩ := id hv4.fields); (have hv3' : Dy.Nm V4 _ (Dy.mk 1000 0) := Dy.Nm.keep (by first | assumption | exact alN (by assumption)) hb4))
        | (go_at_call 55; refine (HMu.out _ _ _ (by first | assumption | exact alB (by assumption) | exact (alB (by assumption)).drew) (by first | assumption | exact alN (by assumption)) (by first | assumption | exact alN (by assumption))).mono ?_; rintro e9 V5 ⟨v5, rfl, hv5, hb5⟩; (have hL5 := low_trans (w := w) (by first | assumption | exact alB (by assumption) | exact (alB (by assumption)).drew) hb5); (have hd5 := low_trans (w := V1.drew) (by first | assumption | exact alB (by assumption) | exact (alB (by assumption)).drew) hb5); (have hS5 := hKP V5 hd5); (try (have hz5 := Zb.newK hb5)); (try (have hz5 := Zb.newKd hb5)); (try (have hz5 := Zb.keep (by assumption) hb5)); (obtain ⟨b5, q5, l5, c5, f5, m5, rfl, _, _⟩ := id hv5.fields); (try (have y0 := cell_h (k := 0) (w := V5) (cs := #[.bool false, .slice none 0 0, .int .i64 0]) (t := 67) (fz := (0, 0)) (by assumption) rfl; have y1 := cell_h (k := 1) (w := V5) (cs := #[.bool false, .slice none 0 0, .int .i64 0]) (t := 67) (fz := (0, 0)) (by assumption) rfl; have y2 := cell_h (k := 2) (w := V5) (cs := #[.bool false, .slice none 0 0, .int .i64 0]) (t := 67) (fz := (0, 0)) (by assumption) rfl; have yf := Zb.fr (V := V5) (by assumption)))))
    all_goals
      go_wp2_with fail
      go_meet
      first
        | (with_reducible exact ⟨_, b5, q5, l5, c5, f5, rfl, World.alloc_heap_new V5 _, alN hv5, (undrew hd5).alloc (undrew hd5).size _⟩)
        | exact ⟨_, b5, q5, l5, c5, f5, rfl, (Zb.store (by assumption) hv5).1, (Zb.store (by assumption) hv5).2, Dy.below_set3 (undrew hd5) (Below.size (w := V1.drew) (by assumption))⟩
  case rest =>
    obtain ⟨L, a6, p6, n6, k6, e6, rfl, hL, hN, hBx⟩ := hcut
    have HLc := Lib.hid hL
    have HNc := Lib.hid hN
    have HBc := Lib.hid (low_trans HB1.out hBx)
    have HPc := Lib.hid (blk1 HP1.out hBx)
    clear hL hN hBx HB1 HP1 s0 s1 s2 s3 s4 s5 s6 s7 s8 s9 s10 s11 s12 s13 s14
    go_wp2_with fail
    have hbq : Below wc.heap.size wc (wc.alloc (.cells #[.func (Fn.func 57) #[] #[.pointer (some ⟨w.heap.size, 0, none⟩), .pointer (some ⟨L, 0, none⟩)]] 79)) := (Below.refl _ _).alloc (Nat.le_refl _) _
    have hq0 := World.alloc_heap_new wc (.cells #[.func (Fn.func 57) #[] #[.pointer (some ⟨w.heap.size, 0, none⟩), .pointer (some ⟨L, 0, none⟩)]] 79)
    generalize wc.alloc (.cells #[.func (Fn.func 57) #[] #[.pointer (some ⟨w.heap.size, 0, none⟩), .pointer (some ⟨L, 0, none⟩)]] 79) = Wf at hbq hq0 ⊢
    have HBf := Lib.hid (low_trans HBc.out hbq)
    have HPf := blk1 HPc.out hbq
    have HLf := blk1 HLc.out hbq
    have HD : Hid (DaW Wf w.heap.size L a3 a4 a6 p3 p4 p6 n3 k3 n4 k4 n6 k6 e3 e4 e6) := ⟨⟨cell_h HPf rfl, cell_h HPf rfl, cell_h HPf rfl, cell_h HPf rfl, cell_h HPf rfl, cell_h HPf rfl, cell_h HLf rfl, cell_h HLf rfl, cell_h HLf rfl⟩, SpI.keep (SpI.keep H2.out HBc.out) hbq, HNc.out.keep hbq⟩
    have HQ := Lib.hid hq0
    clear hbq hq0 HPf HLf HLc HNc HPc HBc
    refine (passes_of Wf w.heap.size L a3 a4 a6 p3 p4 p6 n3 k3 n4 k4 n6 k6 e3 e4 e6 HD.out 0 (by omega) false (by decide) (HT.out.keep HBf.out)).mono ?_
    rintro e W1 ⟨rfl, hb⟩
    have HBg := Lib.hid (low_trans HBf.out hb)
    have HDg := Lib.hid (HD.out.keep hb)
    have hq1 := cell_h (k := 0) (blk1 HQ.out hb) rfl
    clear hb HBf HD HQ
    go_wp2_with fail
    refine (search_ex W1 wc.heap.size w.heap.size L a3 a4 a6 p3 p4 p6 n3 k3 n4 k4 n6 k6 e3 e4 e6 hq1 HDg.out (HT.out.keep HBg.out)).mono ?_
    rintro e W2 ⟨rfl, hb⟩
    have HBh := Lib.hid (low_trans HBg.out hb)
    clear hb hq1
    go_wp2_with fail
    refine bodyPost_ret (v := .tuple #[.int .i64 1000, .int .i64 0]) (by simp [results, Tryz.results28, go_sem]) rfl ?_
    exact ⟨rfl, HBh.out⟩
end Go.Proofs.YtlbffdgojmjijaaGreatDoor
