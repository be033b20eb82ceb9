/-
  WALKS: the reference's told.
-/
import Derived.Test.YtbpifllkimkokaaDoorLrC
import Derived.Test.YtbpifllkimkokaaDoorLqE
namespace Go.Proofs.YtbpifllkimkokaaDoor
open Go.RowKit

/-- A slice of sections of the reference's. -/
def RowR (w : World) (B : Nat) (v : Value) (S : List Sec) : Prop := w.ownsRow B 59 5 v S.length (secCells S)
theorem RowR.form {w : World} {B : Nat} {v : Value} {S : List Sec} (h : RowR w B v S) (hn : 0 < S.length) : ∃ g cap, v = .slice (some ⟨g, 0, none⟩) S.length cap := by
  obtain ⟨k, hk⟩ : ∃ k, S.length = k + 1 := ⟨S.length - 1, by omega⟩
  unfold RowR at h
  rw [hk] at h ⊢
  exact ownsRow_succ h
theorem RowR.nil (w : World) (B : Nat) : RowR w B (.slice none 0 0) [] := World.ownsRow_nil w B _ _
theorem RowR.cell {w : World} {B g cap : Nat} {S : List Sec} (h : RowR w B (.slice (some ⟨g, 0, none⟩) S.length cap) S) (i : Nat) (hi : i < S.length) (j : Nat) (hj : j < 5) : w.cell? ⟨g, i * 5 + j, none⟩ = (S[i]'hi).cells[j]? := by
  rw [World.ownsRow.cellAt h (i * 5 + j) (by omega), secCells_at S i hi j hj]
theorem RowR.below {w w' : World} {B : Nat} {v : Value} {S : List Sec} (h : RowR w B v S) (hb : Below w.heap.size w w') : RowR w' B v S := own_below h hb
theorem RowR.base {w : World} {B B' : Nat} {v : Value} {S : List Sec} (h : RowR w B v S) (hb : B' ≤ B) : RowR w B' v S := own_base h hb
theorem RowR.snoc {w : World} {B : Nat} {v : Value} {S : List Sec} {s : Sec} (h : w.ownsRow B 59 5 v (S.length + 1) (secCells S ++ s.cells)) : RowR w B v (S ++ [s]) := by
  unfold RowR
  rw [List.length_append, secCells_snoc]
  exact h
theorem RowR.setTo {w : World} {B g cap : Nat} {S : List Sec} {s : Sec} (h : RowR w B (.slice (some ⟨g, 0, none⟩) (S.length + 1) cap) (S ++ [s])) (t : Int) :
    RowR (w.setCell ⟨g, S.length * 5 + 1, none⟩ (.int .i64 t)) B (.slice (some ⟨g, 0, none⟩) (S.length + 1) cap) (S ++ [s.upTo t]) ∧ w.grownBy (w.setCell ⟨g, S.length * 5 + 1, none⟩ (.int .i64 t)) (some g) := by
  unfold RowR at h ⊢
  rw [List.length_append] at h ⊢
  have := World.ownsRow.stored h (S.length * 5 + 1) (.int .i64 t)
  rw [secCells_setTo] at this
  exact this

theorem RowR.five {w : World} {B g cap : Nat} {S : List Sec} (h : RowR w B (.slice (some ⟨g, 0, none⟩) S.length cap) S) (i : Nat) (hi : i < S.length) :
    w.cell? ⟨g, i * 5, none⟩ = some (.int .i64 (S[i]'hi).fr) ∧ w.cell? ⟨g, i * 5 + 1, none⟩ = some (.int .i64 (S[i]'hi).en) ∧ w.cell? ⟨g, i * 5 + 2, none⟩ = some (.int .i64 (S[i]'hi).it) ∧ w.cell? ⟨g, i * 5 + 3, none⟩ = some (.int .i64 (S[i]'hi).cl) ∧ w.cell? ⟨g, i * 5 + 4, none⟩ = some (.int .i64 (S[i]'hi).mo) :=
  ⟨h.cell i hi 0 (by omega), h.cell i hi 1 (by omega), h.cell i hi 2 (by omega), h.cell i hi 3 (by omega), h.cell i hi 4 (by omega)⟩

/-- The zero value of a section of the reference, as a block. -/
def zSecR : Obj := .cells #[.int .i64 0, .int .i64 0, .int .i64 0, .int .i64 0, .int .i64 0] 59
theorem zfactsR {W : World} {p : Nat} (h : W.heap[p]? = some zSecR) : W.cell? ⟨p, 0, none⟩ = some (.int .i64 0) ∧ W.cell? ⟨p, 1, none⟩ = some (.int .i64 0) ∧ W.cell? ⟨p, 2, none⟩ = some (.int .i64 0) ∧ W.cell? ⟨p, 3, none⟩ = some (.int .i64 0) ∧ W.cell? ⟨p, 4, none⟩ = some (.int .i64 0) ∧ (∀ o, W.frozen? ⟨p, o, none⟩ = false) := by
  unfold zSecR at h
  refine ⟨?_, ?_, ?_, ?_, ?_, fun o => ?_⟩
  · simp [World.cell?, h]
  · simp [World.cell?, h]
  · simp [World.cell?, h]
  · simp [World.cell?, h]
  · simp [World.cell?, h]
  · simp [World.frozen?, h]
theorem set5_block {W : World} {p : Nat} {t : TypeId} {cs : Array Value} (hz : W.heap[p]? = some (.cells cs t (0, 0))) (v0 v1 v2 v3 v4 : Value) :
    (((((W.setCell ⟨p, 0, none⟩ v0).setCell ⟨p, 1, none⟩ v1).setCell ⟨p, 2, none⟩ v2).setCell ⟨p, 3, none⟩ v3).setCell ⟨p, 4, none⟩ v4).heap[p]? = some (.cells (((((cs.setIfInBounds 0 v0).setIfInBounds 1 v1).setIfInBounds 2 v2).setIfInBounds 3 v3).setIfInBounds 4 v4) t (0, 0)) :=
  heap_setCell_same _ p 4 _ _ v4 (heap_setCell_same _ p 3 _ _ v3 (heap_setCell_same _ p 2 _ _ v2 (heap_setCell_same _ p 1 _ _ v1 (heap_setCell_same W p 0 _ _ v0 hz))))
theorem set5_below {B : Nat} {w W : World} (h : Below B w W) {p : Nat} (hp : B ≤ p) (v0 v1 v2 v3 v4 : Value) :
    Below B w (((((W.setCell ⟨p, 0, none⟩ v0).setCell ⟨p, 1, none⟩ v1).setCell ⟨p, 2, none⟩ v2).setCell ⟨p, 3, none⟩ v3).setCell ⟨p, 4, none⟩ v4) :=
  ((((h.setCell (p := ⟨p, 0, none⟩) hp _).setCell (p := ⟨p, 1, none⟩) hp _).setCell (p := ⟨p, 2, none⟩) hp _).setCell (p := ⟨p, 3, none⟩) hp _).setCell (p := ⟨p, 4, none⟩) hp _

set_option maxRecDepth 8000 in
set_option maxHeartbeats 3200000 in
theorem rtold_of (w : World) (a za la : Option Addr) (n c nz zc nl lc : Nat) (f z m : Nat → Int) (st : Int) (h : chk n nz nl f z m = 0) (hst : 0 ≤ st ∧ st < endS f n) (hS : Sl w 7 a n f) (hZ : Sl w 3 za nz z) (hL : Sl w 2 la nl m) :
    Calls Tryd.prog 74 #[.agg #[.slice a n c, .slice za nz zc, .slice la nl lc], .int .i64 st] w fun e w' => e = .returned (secAt f z m n nz nl st (st + 1)).val ∧ Below w.heap.size w w' := by
  have hok := chk_ok h
  have hn : n ≤ 70 := by omega
  have hv := hok.2.2.2.1
  have hE := endS_le (f := f) (n := n) hv
  have HAT : Hid (∀ W', Below w.heap.size w W' → Calls Tryd.prog 22 #[.agg #[.slice a n c, .slice za nz zc, .slice la nl lc], .int .i64 st] W' fun e W3 => (∃ o, e = .returned (.tuple #[.int .i64 (itemOf f n st : Nat), .int .i64 o, .int .i64 0])) ∧ Below W'.heap.size W' W3) := fun W' hb =>
    (rat_yes a za la n c nz zc nl lc f st hn hv hst W' (hS.keep (by omega) hb)).mono fun e W3 ⟨⟨i, hi, h1, h2, he⟩, hb3⟩ => by
      rw [itemOf_eq hn hv hi h1 h2]
      exact ⟨⟨_, he⟩, hb3⟩
  have HCL : Hid (∀ W', Below w.heap.size w W' → Calls Tryd.prog 30 #[.agg #[.slice a n c, .slice za nz zc, .slice la nl lc], .int .i64 st] W' fun e W3 => e = .returned (.tuple #[.int .i64 (clsAt z nz st), .int .i64 0]) ∧ Below W'.heap.size W' W3) := fun W' hb => by
    have := rClassAt_of W' a za la n c nz zc nl lc f z st hn hv hok.2.1 (zok_of h) (hS.keep (by omega) hb) (hZ.keep (by omega) hb)
    rw [decide_eq_true hst, stE_yes] at this
    exact this
  have HLI : Hid (∀ W', Below w.heap.size w W' → Calls Tryd.prog 31 #[.agg #[.slice a n c, .slice za nz zc, .slice la nl lc], .int .i64 st] W' fun e W3 => e = .returned (.tuple #[.int .i64 (lmtAt m st nl), .int .i64 0]) ∧ Below W'.heap.size W' W3) := fun W' hb => by
    have := rLimitAt_of W' a za la n c nz zc nl lc f m st hn hv hok.2.2.1 (hS.keep (by omega) hb) (hL.keep (by omega) hb)
    rw [decide_eq_true hst, stE_yes] at this
    exact this
  have e1 : IntKind.i64.wrap (st + 1) = st + 1 := IntWalk.i64_in _ (by omega)
  clear hS hZ hL hok hv h
  go_enter Tryd.func74, Tryd.ntmps74
  go_wp2_with fail
  obtain ⟨W, hW⟩ : ∃ W, W = (w.alloc (.cells #[.slice a n c, .slice za nz zc, .slice la nl lc] 31)).alloc (.cells #[.int .i64 0, .int .i64 0, .int .i64 0, .int .i64 0, .int .i64 0] 59) := ⟨_, rfl⟩
  have hBW : Hid (Below w.heap.size w W) := by rw [hW]; exact ((Below.refl _ _).alloc (Nat.le_refl _) _).alloc (by simp) _
  have HX : Hid (W.cell? ⟨w.heap.size, 0, none⟩ = some (.slice a n c) ∧ W.cell? ⟨w.heap.size, 1, none⟩ = some (.slice za nz zc) ∧ W.cell? ⟨w.heap.size, 2, none⟩ = some (.slice la nl lc)) := by
    rw [hW]; exact ⟨by go_simp, by go_simp, by go_simp⟩
  have HZB : Hid (W.heap[w.heap.size + 1]? = some zSecR) := by
    have hh := World.alloc_heap_new (w.alloc (.cells #[.slice a n c, .slice za nz zc, .slice la nl lc] 31)) (.cells #[.int .i64 0, .int .i64 0, .int .i64 0, .int .i64 0, .int .i64 0] 59)
    rw [← hW, World.size_alloc] at hh
    exact hh
  rw [← hW]
  clear hW
  refine (HAT.out W hBW.out).mono ?_
  rintro e' w2 ⟨⟨o, rfl⟩, hb2⟩
  have HB2 : Hid (Below w.heap.size w w2) := hBW.out.trans (hb2.mono hBW.out.size)
  have HX2 := Lib.hid (three_keep HX.out hb2)
  have HZ2 := Lib.hid (zkeep HZB.out hb2)
  clear hb2
  obtain ⟨x0, x1, x2⟩ := HX2.out
  go_wp2_with fail
  refine (HCL.out w2 HB2.out).mono ?_
  rintro e' w3 ⟨rfl, hb3⟩
  have HB3 : Hid (Below w.heap.size w w3) := HB2.out.trans (hb3.mono HB2.out.size)
  have HX3 := Lib.hid (three_keep HX2.out hb3)
  have HZ3 := Lib.hid (zkeep HZ2.out hb3)
  clear hb3 x0 x1 x2
  obtain ⟨x0, x1, x2⟩ := HX3.out
  go_wp2_with fail
  refine (HLI.out w3 HB3.out).mono ?_
  rintro e' w4 ⟨rfl, hb4⟩
  have HB4 : Hid (Below w.heap.size w w4) := HB3.out.trans (hb4.mono HB3.out.size)
  have HZ4 := Lib.hid (zkeep HZ3.out hb4)
  clear hb4 x0 x1 x2
  obtain ⟨z0, z1, z2, z3, z4, zf⟩ := zfactsR HZ4.out
  go_wp2_with fail
  have hfin := set5_block (by have := HZ4.out; unfold zSecR at this; exact this) (.int .i64 st) (.int .i64 (st + 1)) (.int .i64 (itemOf f n st : Nat)) (.int .i64 (clsAt z nz st)) (.int .i64 (lmtAt m st nl))
  refine bodyPost_ret (v := (secAt f z m n nz nl st (st + 1)).val) (by simp [results, Tryd.results74, go_sem, World.cell?, hfin, secAt, Sec.val]) rfl ⟨rfl, set5_below HB4.out (by omega) _ _ _ _ _⟩
end Go.Proofs.YtbpifllkimkokaaDoor
