/-
  WALKS: strength: numbers with 20 bits behind the point; the bound of a price.
-/
import Derived.Test.YtlphlbgbbblnpaaGreatDoorStC
import Derived.Test.YtlphlbgbbblnpaaGreatDoorGrT
import Derived.Deep.RegionWith
import Derived.BigRegion
namespace Go.Proofs.YtlphlbgbbblnpaaGreatDoor
open Go.RowKit

theorem alB {w V : World} {o : Obj} (h : Below w.heap.size w V) : Below w.heap.size w (V.alloc o) := h.alloc h.size o
theorem alN {V : World} {o : Obj} {v : Value} {x : Dyadic} (h : Dy.Nm V v x) : Dy.Nm (V.alloc o) v x := h.keep ((Below.refl _ _).alloc (Nat.le_refl _) _)
theorem undrew {V W : World} (h : Below V.drew.heap.size V.drew W) : Below V.heap.size V W := ⟨h.os, h.tape, h.output, h.size, h.block⟩
/-- A block that holds the number 0, and no digit. -/
def Zb (W : World) (g : Nat) : Prop := W.heap[g]? = some (.cells #[.bool false, .slice none 0 0, .int .i64 0] 75 (0, 0))
theorem Zb.new (V : World) : Zb (V.alloc (.cells #[.bool false, .slice none 0 0, .int .i64 0] 75)) V.heap.size := World.alloc_heap_new V _
theorem Zb.keep {V W : World} {g : Nat} (h : Zb V g) (hB : Below V.heap.size V W) : Zb W g := blk1 h hB
theorem Zb.newK {V W : World} (hB : Below (V.alloc (.cells #[.bool false, .slice none 0 0, .int .i64 0] 75)).heap.size (V.alloc (.cells #[.bool false, .slice none 0 0, .int .i64 0] 75)) W) : Zb W V.heap.size := (Zb.new V).keep hB
theorem Zb.newKd {V W : World} (hB : Below (V.alloc (.cells #[.bool false, .slice none 0 0, .int .i64 0] 75)).drew.heap.size (V.alloc (.cells #[.bool false, .slice none 0 0, .int .i64 0] 75)).drew W) : Zb W V.heap.size := Zb.keep (V := (V.alloc (.cells #[.bool false, .slice none 0 0, .int .i64 0] 75)).drew) (Zb.new V) hB
theorem Zb.fr {V : World} {g : Nat} (h : Zb V g) : ∀ o, V.frozen? ⟨g, o, none⟩ = false := fun o => by simp [World.frozen?, show V.heap[g]? = _ from h]
theorem Zb.nodig {V : World} {g : Nat} (h : Zb V g) : Dy.NoDig V g := by
  intro o x hc
  simp only [World.cell?, show V.heap[g]? = _ from h] at hc
  match o, hc with
  | 0, hc => simp at hc
  | 1, hc => simp at hc
  | 2, hc => simp at hc
  | o + 3, hc => simp at hc
/-- A number stored in such a block. -/
theorem Zb.store {V : World} {g : Nat} {a : Bool} {p : Option Addr} {n k : Nat} {e : Int} {x : Dyadic} (h : Zb V g) (hv : Dy.Nm V (.agg #[.bool a, .slice p n k, .int .i64 e]) x) :
    (((V.setCell ⟨g, 0, none⟩ (.bool a)).setCell ⟨g, 1, none⟩ (.slice p n k)).setCell ⟨g, 2, none⟩ (.int .i64 e)).heap[g]? = some (.cells #[.bool a, .slice p n k, .int .i64 e] 75 (0, 0)) ∧ Dy.Nm (((V.setCell ⟨g, 0, none⟩ (.bool a)).setCell ⟨g, 1, none⟩ (.slice p n k)).setCell ⟨g, 2, none⟩ (.int .i64 e)) (.agg #[.bool a, .slice p n k, .int .i64 e]) x :=
  ⟨by rw [heap_set (heap_set (heap_set h _) _) _]; rfl, hv.set3 h.nodig⟩
set_option maxHeartbeats 1600000 in
theorem snumber_of (w : World) (n : Int) (h : Dy.I64 n) (hT : Dy.Tab w) :
    Calls Tryz.prog 66 #[.int .i64 n] w (Dy.Ret w fun w' v => Dy.Nm w' v (Dy.mk n 0)) := by
  have HT := Lib.hid hT
  have HI := Lib.hid h
  clear hT h
  go_enter Tryz.func66, Tryz.ntmps66
  go_wp2_with fail
  refine (Dy.int_nm _ n HI.out (HT.out.keep ((Below.refl _ _).alloc (Nat.le_refl _) _))).mono ?_
  rintro e1 w1 ⟨v1, rfl, hv1, hb1⟩
  have hb0 : Hid (Below w.heap.size w w1) := ((Below.refl _ _).alloc (Nat.le_refl _) _).trans (hb1.mono (by simp))
  obtain ⟨hcc, hff⟩ := Dy.bcell hb1
  have HND : Hid (Dy.NoDig w1 w.heap.size) := (Dy.noDig_at rfl).keep hb1 (by simp)
  have hz : w.heap.size < w1.heap.size := by have := hb1.size; simp at this; omega
  have H4 := Lib.hid hv1
  obtain ⟨a4, p4, n4, k4, e4, m4, rfl, _, _⟩ := hv1.fields
  clear hb1 hv1
  go_wp2
  refine bodyPost_ret (v := .agg #[.bool a4, .slice p4 n4 k4, .int .i64 e4]) (by simp [results, Tryz.results66, go_sem, hcc]) rfl ⟨_, rfl, H4.out.laid HND.out, ?_⟩
  exact ((hb0.out.setCell (by simp) _).setCell (by simp) _).setCell (by simp) _

theorem mk20 (n : Int) : Dy.mk n 0 = Dy.mk (n * 1048576) (-20) := by
  have h := Dy.mk_shift n (-20) 20
  rw [show (2 : Int) ^ 20 = 1048576 by decide, show (-20 : Int) + ((20 : Nat) : Int) = 0 by decide] at h
  exact h.symm
theorem sgn_mkE (i e : Int) : (Dy.sgn (Dy.mk i e) < 0 ↔ i < 0) ∧ (Dy.sgn (Dy.mk i e) > 0 ↔ 0 < i) := by
  rcases Int.lt_trichotomy i 0 with h | h | h
  · have := Dy.sgn_neg (Dy.mk_neg' (e := e) h); rw [this]; omega
  · subst h; have := Dy.sgn_zero; rw [Dy.mk_zero, this]; omega
  · have := Dy.sgn_pos (Dy.mk_pos (e := e) h); rw [this]; omega
theorem bx20 {i : Int} (h : -1152921504606846976 < i ∧ i < 1152921504606846976) : Dy.Box (Dy.mk i (-20)) 60 20 := ⟨i, rfl, by omega⟩
/-- A number with 20 bits behind the point. -/
abbrev Nq (w : World) (v : Value) (i : Int) : Prop := Dy.Nm w v (Dy.mk i (-20))
theorem Nq.keep {w w' : World} {v : Value} {i : Int} (h : Nq w v i) (hb : Below w.heap.size w w') : Nq w' v i := Dy.Nm.keep h hb
/-- A number is stored in a result. -/
theorem Zb.laid {V W9 : World} {B g : Nat} {a : Bool} {p : Option Addr} {n k : Nat} {e : Int} {x : Dyadic} (h : Zb V g) (hv : Dy.Nm V (.agg #[.bool a, .slice p n k, .int .i64 e]) x) (w : World) (hB : Below B w V) (hg : B ≤ g)
    (h9 : ((V.setCell ⟨g, 0, none⟩ (.bool a)).setCell ⟨g, 1, none⟩ (.slice p n k)).setCell ⟨g, 2, none⟩ (.int .i64 e) = W9) :
    W9.heap[g]? = some (.cells #[.bool a, .slice p n k, .int .i64 e] 75 (0, 0)) ∧ Dy.Nm W9 (.agg #[.bool a, .slice p n k, .int .i64 e]) x ∧ Below B w W9 := by
  subst h9
  exact ⟨(h.store hv).1, (h.store hv).2, Dy.below_set3 hB hg⟩
set_option maxHeartbeats 1600000 in
theorem spos_of (w : World) (v : Value) (i : Int) (h : Nq w v i) (_hT : Dy.Tab w) :
    Calls Tryz.prog 99 #[v] w (Dy.Ret w fun w' v => Nq w' v (max i 0)) := by
  have H := Lib.hid h
  obtain ⟨a, p, n, k, e, m, rfl, _, _⟩ := Dy.Nm.fields h
  clear h
  go_enter Tryz.func99, Tryz.ntmps99
  go_wp2_with fail
  obtain ⟨W, hW⟩ : ∃ W, (w.alloc (.cells #[.bool a, .slice p n k, .int .i64 e] 75)).alloc (.cells #[.bool false, .slice none 0 0, .int .i64 0] 75) = W := ⟨_, rfl⟩
  rw [hW]
  have hB : Below w.heap.size w W := by rw [← hW]; exact ((Below.refl _ _).alloc (Nat.le_refl _) _).alloc (by simp) _
  have hP : W.heap[w.heap.size]? = some (.cells #[.bool a, .slice p n k, .int .i64 e] 75 (0, 0)) := by rw [← hW]; exact al_old (World.alloc_heap_new w _) _
  have hR : Zb W (w.heap.size + 1) := by rw [← hW]; exact al_1 w _ _
  have HB := Lib.hid hB
  have HP := Lib.hid hP
  have HR := Lib.hid hR
  clear hW hB hP hR
  refine (Dy.sign_nm W _ _ (H.out.keep HB.out)).mono ?_
  rintro e1 W1 ⟨rfl, hb⟩
  have hs := (sgn_mkE i (-20)).1
  generalize Dy.sgn (Dy.mk i (-20)) = s at hs ⊢
  have hP1 := blk1 HP.out hb
  have HR1 := Lib.hid (HR.out.keep hb)
  have HB1 := Lib.hid (low_trans HB.out hb)
  have s0 := cell_h (k := 0) hP1 rfl
  have s1 := cell_h (k := 1) hP1 rfl
  have s2 := cell_h (k := 2) hP1 rfl
  have z0 := cell_h (k := 0) HR1.out rfl
  have z1 := cell_h (k := 1) HR1.out rfl
  have z2 := cell_h (k := 2) HR1.out rfl
  have zf := HR1.out.fr
  clear hb hP1 HP HR HB
  by_cases h0 : i < 0
  · have hs0 : s < 0 := hs.2 h0
    have em : max i 0 = 0 := by omega
    have HQ : Hid (∀ W9, ((W1.setCell ⟨w.heap.size + 1, 0, none⟩ (.bool false)).setCell ⟨w.heap.size + 1, 1, none⟩ (.slice none 0 0)).setCell ⟨w.heap.size + 1, 2, none⟩ (.int .i64 0) = W9 → W9.heap[w.heap.size + 1]? = some (.cells #[.bool false, .slice none 0 0, .int .i64 0] 75 (0, 0)) ∧ Dy.Nm W9 (.agg #[.bool false, .slice none 0 0, .int .i64 0]) 0 ∧ Below w.heap.size w W9) := fun W9 h9 => HR1.out.laid (Dy.Nm.zero W1) w HB1.out (by omega) h9
    clear hs h0
    go_wp2_with fail
    generalize h9 : ((W1.setCell ⟨w.heap.size + 1, 0, none⟩ (.bool false)).setCell ⟨w.heap.size + 1, 1, none⟩ (.slice none 0 0)).setCell ⟨w.heap.size + 1, 2, none⟩ (.int .i64 0) = W9
    obtain ⟨q1, q2, q3⟩ := HQ.out W9 h9
    have y0 := cell_h (k := 0) q1 rfl
    have y1 := cell_h (k := 1) q1 rfl
    have y2 := cell_h (k := 2) q1 rfl
    exact bodyPost_ret (v := .agg #[.bool false, .slice none 0 0, .int .i64 0]) (by simp [results, Tryz.results99, go_sem, y0, y1, y2]) rfl ⟨_, rfl, by rw [em]; exact q2, q3⟩
  · have hs0 : ¬(s < 0) := fun e => h0 (hs.1 e)
    have em : max i 0 = i := by omega
    have HQ : Hid (∀ W9, ((W1.setCell ⟨w.heap.size + 1, 0, none⟩ (.bool a)).setCell ⟨w.heap.size + 1, 1, none⟩ (.slice p n k)).setCell ⟨w.heap.size + 1, 2, none⟩ (.int .i64 e) = W9 → W9.heap[w.heap.size + 1]? = some (.cells #[.bool a, .slice p n k, .int .i64 e] 75 (0, 0)) ∧ Dy.Nm W9 (.agg #[.bool a, .slice p n k, .int .i64 e]) (Dy.mk i (-20)) ∧ Below w.heap.size w W9) := fun W9 h9 => HR1.out.laid (H.out.keep HB1.out) w HB1.out (by omega) h9
    clear hs h0
    go_wp2_with fail
    generalize h9 : ((W1.setCell ⟨w.heap.size + 1, 0, none⟩ (.bool a)).setCell ⟨w.heap.size + 1, 1, none⟩ (.slice p n k)).setCell ⟨w.heap.size + 1, 2, none⟩ (.int .i64 e) = W9
    obtain ⟨q1, q2, q3⟩ := HQ.out W9 h9
    have y0 := cell_h (k := 0) q1 rfl
    have y1 := cell_h (k := 1) q1 rfl
    have y2 := cell_h (k := 2) q1 rfl
    exact bodyPost_ret (v := .agg #[.bool a, .slice p n k, .int .i64 e]) (by simp [results, Tryz.results99, go_sem, y0, y1, y2]) rfl ⟨_, rfl, by rw [em]; exact q2, q3⟩
end Go.Proofs.YtlphlbgbbblnpaaGreatDoor
