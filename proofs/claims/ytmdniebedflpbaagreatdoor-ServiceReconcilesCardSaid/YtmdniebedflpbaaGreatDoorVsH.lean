/-
  WALKS: traps: one command of a route (the program's closure).
-/
import Derived.Test.YtmdniebedflpbaaGreatDoorVsC
import Derived.RangeFuncBox
namespace Go.Proofs.YtmdniebedflpbaaGreatDoor
open Go.RowKit

theorem own_keep {W W' : World} {e sz m : Nat} {B : Nat} {v : Value} {xs : List Value} (h : W.ownsRow B e sz v m xs) (hb : Below W.heap.size W W') : W'.ownsRow B e sz v m xs := by
  refine ⟨h.1, ?_⟩
  rcases h.2 with hn | ⟨g, cap, cur, rfl, hg, hc, hr⟩
  · exact .inl hn
  · exact .inr ⟨g, cap, cur, rfl, hg, (hb.block g (Array.getElem?_eq_some_iff.1 hc).1).trans hc, hr⟩
theorem x_int : (Tryz.prog.info? 3).map (fun i => (i.zero, i.size, i.bytes)) = some (some (.int .i64 0), 1, 8) := by kernel_rfl
theorem cell_one (w : World) (v : Value) (t : TypeId) : ∀ j u, [v][j]? = some u → (w.alloc (.cells #[v] t)).cell? ((⟨w.heap.size, 0, none⟩ : Addr).add j) = some u := by
  intro j u h
  have e : j = 0 := by
    cases j with
    | zero => rfl
    | succ j => simp at h
  subst e
  simp only [List.getElem?_cons_zero] at h
  rw [← h]
  exact cell_h (new_heap w (.cells #[v] t)) rfl
/-- Ints, as cells. -/
def irw (L : List Int) : List Value := L.map fun x => .int .i64 x
theorem irw_snoc (L : List Int) (c : Int) : irw (L ++ [c]) = irw L ++ [.int .i64 c] := by simp [irw]
/-- What Route keeps: the trap's box, and the route's one. -/
structure Rts (w W : World) (bt br : Nat) (t : Tp) (L : List Int) : Prop where
  old : w.heap.size ≤ bt
  apart : bt < br
  box : W.heap[bt]? = some (.cells #[.bool t.m, .bool t.k, .bool t.v, .bool t.u, .bool t.d, .int .i64 t.p, .int .i64 t.g, .int .i64 t.i] 23 (0, 0))
  row : ∃ v, W.heap[br]? = some (.cells #[v] 30 (0, 0)) ∧ W.ownsRow (br + 1) 3 1 v L.length (irw L)
  below : Below w.heap.size w W

set_option maxRecDepth 100000 in
set_option maxHeartbeats 4000000 in
theorem add_no (w W : World) (bt br : Nat) (t : Tp) (L : List Int) (c : Int) (h : Rts w W bt br t L) :
    Calls Tryz.prog 49 #[.bool false, .int .i64 c, .pointer (some ⟨br, 0, none⟩), .pointer (some ⟨bt, 0, none⟩)] W fun e W' => e = .returned (.tuple #[]) ∧ Rts w W' bt br t L := by
  have H := Lib.hid h
  clear h
  go_enter Tryz.func49, Tryz.ntmps49
  go_wp2_with fail
  first | go_end0 | refine bodyPost_ret (results_none rfl _ _ _) rfl ?_
  exact ⟨rfl, H.out⟩
set_option maxHeartbeats 4000000 in
theorem eight_set {W : World} {g : Nat} {T : TypeId} {a0 a1 a2 a3 a4 a5 a6 a7 v0 v1 v2 v3 v4 v5 v6 v7 : Value} (h : W.heap[g]? = some (.cells #[a0, a1, a2, a3, a4, a5, a6, a7] T (0, 0))) :
    ((((((((W.setCell ⟨g, 0, none⟩ v0).setCell ⟨g, 1, none⟩ v1).setCell ⟨g, 2, none⟩ v2).setCell ⟨g, 3, none⟩ v3).setCell ⟨g, 4, none⟩ v4).setCell ⟨g, 5, none⟩ v5).setCell ⟨g, 6, none⟩ v6).setCell ⟨g, 7, none⟩ v7).heap[g]? = some (.cells #[v0, v1, v2, v3, v4, v5, v6, v7] T (0, 0)) := by
  rw [heap_set (heap_set (heap_set (heap_set (heap_set (heap_set (heap_set (heap_set h v0) v1) v2) v3) v4) v5) v6) v7]
  rfl

set_option maxRecDepth 100000 in
set_option maxHeartbeats 8000000 in
theorem add_yes (w W : World) (bt br : Nat) (t : Tp) (L : List Int) (c : Nat) (h : Rts w W bt br t L) (ht : t.ok) (hc : c ≤ 12) (hL : L.length ≤ 100) :
    Calls Tryz.prog 49 #[.bool true, .int .i64 (c : Int), .pointer (some ⟨br, 0, none⟩), .pointer (some ⟨bt, 0, none⟩)] W fun e W' => e = .returned (.tuple #[]) ∧ Rts w W' bt br (t.beh c) (L ++ [(c : Int)]) := by
  have HB : Hid (∀ W, Calls Tryz.prog 46 #[t.val, .int .i64 (c : Int)] W fun e w' => e = .returned (t.beh c).val ∧ Below W.heap.size W w') := fun W => behind_of W t ht c hc
  obtain ⟨x, hx⟩ : ∃ x, t.beh c = x := ⟨_, rfl⟩
  rw [hx] at HB ⊢
  clear hx ht
  obtain ⟨hold, hap, hbox, ⟨v, hv, hO⟩, hlow⟩ := h
  have HV := Lib.hid hv
  have HO := Lib.hid hO
  have HL := Lib.hid hlow
  have HX := Lib.hid hbox
  have hsz := (Array.getElem?_eq_some_iff.1 hv).1
  obtain ⟨i0, hi0, hz0, hz1, hz2⟩ := info_parts x_int
  obtain ⟨n, hn⟩ : ∃ n, L.length = n := ⟨_, rfl⟩
  rw [hn] at HO hL
  have r0 : W.cell? ⟨br, 0, none⟩ = some v := cell_h hv rfl
  have rf := fz_h hv 0
  have h47 := HO.out.1
  clear hbox hO hlow hv
  go_enter Tryz.func49, Tryz.ntmps49
  go_upto_region 2 with (at_builtin; refine wpList_append_own _ rfl _ _ 30 rfl (br + 1) 3 i0 (.int .i64 0) 1 8 Tryz.underlying30 hi0 hz0 hz1 hz2 rfl (by decide) _ n _ rfl (HO.out.alloc _) ⟨W.heap.size, 0, none⟩ 1 1 [.int .i64 (c : Int)] rfl rfl (cell_one _ _ _) (by simp [Value.oneCell']) (by unfold maxLen; omega) (by omega) (by simp; omega) ?_; intro v1 W1 hown1 hgrow1 hnil1; clear hnil1; have hb1 : Below (br + 1) W W1 := ((Below.refl _ W).alloc (by omega) _).grown hgrow1 (by simp; omega) (fun j hj => (HO.out.lt j hj).1); have HO1 : Hid (W1.ownsRow (br + 1) 3 1 v1 (n + 1) (irw (L ++ [(c : Int)]))) := (by rw [irw_snoc]; exact hown1); have HX1 := Lib.hid ((hb1.block _ (by omega)).trans HX.out); have HV1 := Lib.hid ((hb1.block _ (by omega)).trans HV.out); have HL1 : Hid (Below w.heap.size w W1) := Lib.hid (HL.out.trans (hb1.mono (by omega))); have r1 := cell_h HV1.out rfl (k := 0); have rf1 := fz_h HV1.out 0; obtain ⟨g1, cap1, rfl⟩ := ownsRow_succ HO1.out; clear hown1 hgrow1 hb1 HO HX HV HL r0 rf h47)
  obtain ⟨W2, hW2⟩ : ∃ W2, W1.setCell ⟨br, 0, none⟩ (.slice (some ⟨g1, 0, none⟩) (n + 1) cap1) = W2 := ⟨_, rfl⟩
  rw [hW2]
  have c0 : W2.heap[bt]? = some (.cells #[.bool t.m, .bool t.k, .bool t.v, .bool t.u, .bool t.d, .int .i64 t.p, .int .i64 t.g, .int .i64 t.i] 23 (0, 0)) := by rw [← hW2]; exact (Below.heap_setCell _ _ _ _ (by simp; omega)).trans HX1.out
  have c1 : W2.heap[br]? = some (.cells #[.slice (some ⟨g1, 0, none⟩) (n + 1) cap1] 30 (0, 0)) := by rw [← hW2]; exact heap_set HV1.out _
  have HO2 : Hid (W2.ownsRow (br + 1) 3 1 (.slice (some ⟨g1, 0, none⟩) (n + 1) cap1) (n + 1) (irw (L ++ [(c : Int)]))) := by rw [← hW2]; exact ownsRow_setCell_below HO1.out (by simp) _
  have HL2 : Hid (Below w.heap.size w W2) := by rw [← hW2]; exact HL1.out.setCell (by simp; omega) _
  clear hW2 HX1 HV1 HO1 HL1 r1 rf1
  obtain ⟨m, k, v', u, d, p, g, i⟩ := t
  dsimp only [Tp.val] at HB c0
  have s0 := cell_h (k := 0) c0 rfl
  have s1 := cell_h (k := 1) c0 rfl
  have s2 := cell_h (k := 2) c0 rfl
  have s3 := cell_h (k := 3) c0 rfl
  have s4 := cell_h (k := 4) c0 rfl
  have s5 := cell_h (k := 5) c0 rfl
  have s6 := cell_h (k := 6) c0 rfl
  have s7 := cell_h (k := 7) c0 rfl
  go_wp2_with fail
  refine (HB.out _).mono ?_
  rintro e V ⟨rfl, hV⟩
  have C0 := Lib.hid ((hV.block _ (Array.getElem?_eq_some_iff.1 c0).1).trans c0)
  have C1 := Lib.hid ((hV.block _ (Array.getElem?_eq_some_iff.1 c1).1).trans c1)
  have HL3 := Lib.hid (low_trans HL2.out hV)
  have HO3 := Lib.hid (own_keep HO2.out hV)
  clear s0 s1 s2 s3 s4 s5 s6 s7 c0 c1 hV HL2 HO2 HB
  have s0 := cell_h (k := 0) C0.out rfl
  have s1 := cell_h (k := 1) C0.out rfl
  have s2 := cell_h (k := 2) C0.out rfl
  have s3 := cell_h (k := 3) C0.out rfl
  have s4 := cell_h (k := 4) C0.out rfl
  have s5 := cell_h (k := 5) C0.out rfl
  have s6 := cell_h (k := 6) C0.out rfl
  have s7 := cell_h (k := 7) C0.out rfl
  have f0 := fz_h C0.out
  go_wp2_with fail
  first | go_end0 | refine bodyPost_ret (results_none rfl _ _ _) rfl ?_
  refine ⟨rfl, hold, hap, eight_set C0.out, ⟨_, (Below.heap_setCell _ _ _ _ (by simp; omega)).trans ((Below.heap_setCell _ _ _ _ (by simp; omega)).trans ((Below.heap_setCell _ _ _ _ (by simp; omega)).trans ((Below.heap_setCell _ _ _ _ (by simp; omega)).trans ((Below.heap_setCell _ _ _ _ (by simp; omega)).trans ((Below.heap_setCell _ _ _ _ (by simp; omega)).trans ((Below.heap_setCell _ _ _ _ (by simp; omega)).trans ((Below.heap_setCell _ _ _ _ (by simp; omega)).trans C1.out))))))), ?_⟩, ?_⟩
  · rw [List.length_append, hn]
    iterate 8 refine ownsRow_setCell_below ?_ (by simp; omega) _
    exact HO3.out
  · iterate 8 refine Below.setCell ?_ (by simp; omega) _
    exact HL3.out
end Go.Proofs.YtmdniebedflpbaaGreatDoor
