/-
  WALKS: sectionsOf.
-/
import Derived.Test.YtbpifllkimkokaaDoorLqD
import Derived.Deep.DeepCutAuto
namespace Go.Proofs.YtbpifllkimkokaaDoor
open Go.RowKit Go.Sort

theorem lok_of {n nz nl : Nat} {f z m : Nat → Int} (h : chk n nz nl f z m = 0) : ∀ j, j < nl → 0 ≤ m (j * 2) ∧ m (j * 2) ≤ endS f n - 1 ∧ 0 ≤ m (j * 2 + 1) ∧ m (j * 2 + 1) ≤ 1048576 := fun j hj => by
  have h1 := (chk_ok h).2.2.2.2.2 j hj
  unfold lmAt lmErr at h1
  split at h1
  · omega
  · split at h1
    · omega
    · omega
theorem zend_of {n nz nl : Nat} {f z m : Nat → Int} (h : chk n nz nl f z m = 0) : ∀ j, j < nz → z (j * 3 + 1) ≤ endS f n := fun j hj => by
  have h1 := (chk_ok h).2.2.2.2.1 j hj
  unfold znAt znErr at h1
  split at h1
  · omega
  · omega
theorem br_in {n nz nl : Nat} {f z m : Nat → Int} (h : chk n nz nl f z m = 0) {x : Int} (hx : Br f z m n nz nl x) : 0 ≤ x ∧ x < endS f n := by
  have hok := chk_ok h
  have hv := hok.2.2.2.1
  rcases hx with ⟨i, hi, rfl⟩ | ⟨j, hj, hx⟩ | ⟨j, hj, rfl⟩
  · have h1 := endS_step (f := f) (n := n) (by omega) hv hi
    have h2 := endS_mono (f := f) (n := n) (by omega) hv (i := i + 1) (j := n) (by omega) (Nat.le_refl _)
    have h3 : endS f (i + 1) = endS f i + f (i * 7 + 1) := rfl
    omega
  · have h1 := zok_of h j hj
    have h2 := zend_of h j hj
    rcases hx with rfl | ⟨rfl, hx⟩ <;> omega
  · have h1 := lok_of h j hj
    omega
theorem asc_in {n nz nl : Nat} {f z m : Nat → Int} (h : chk n nz nl f z m = 0) : ∀ x ∈ ascOf (allBs f z m n nz nl), 0 ≤ x ∧ x < endS f n := fun _ hx => br_in h (mem_allBs.1 (mem_ascOf.1 hx))
theorem pstep_length (f z m : Nat → Int) (n nz nl : Nat) (E : Int) (S : List Sec) (st : Int) : (pstep f z m n nz nl E S st).length ≤ S.length + 1 := by
  rcases List.eq_nil_or_concat S with rfl | ⟨S0, s, rfl⟩
  · simp [pstep]
  · cases h : alk s (secAt f z m n nz nl st E)
    · simp only [List.concat_eq_append]; rw [pstep_new h]; simp
    · simp only [List.concat_eq_append]; rw [pstep_same h]; simp

theorem below_step {B : Nat} {a cur W : World} (h : Below B a cur) (hb : Below cur.heap.size cur W) (hB : B ≤ a.heap.size) : Below B a W := h.trans (hb.mono (Nat.le_trans hB h.size))
theorem zkeep {cur W : World} {p : Nat} {o : Obj} (h : cur.heap[p]? = some o) (hb : Below cur.heap.size cur W) : W.heap[p]? = some o := (hb.block p (Array.getElem?_eq_some_iff.1 h).1).trans h
/-- The zero value of a section, as a block. -/
def zSec : Obj := .cells #[.int .i64 0, .int .i64 0, .int .i64 0, .int .i64 0, .int .i64 0] 60

theorem three_set {W : World} {g p : Nat} {a0 a1 a2 v0 v1 v2 v3 v4 : Value} (h : W.cell? ⟨g, 0, none⟩ = some a0 ∧ W.cell? ⟨g, 1, none⟩ = some a1 ∧ W.cell? ⟨g, 2, none⟩ = some a2) (hp : g ≠ p) :
    (((((W.setCell ⟨p, 0, none⟩ v0).setCell ⟨p, 1, none⟩ v1).setCell ⟨p, 2, none⟩ v2).setCell ⟨p, 3, none⟩ v3).setCell ⟨p, 4, none⟩ v4).cell? ⟨g, 0, none⟩ = some a0 ∧
    (((((W.setCell ⟨p, 0, none⟩ v0).setCell ⟨p, 1, none⟩ v1).setCell ⟨p, 2, none⟩ v2).setCell ⟨p, 3, none⟩ v3).setCell ⟨p, 4, none⟩ v4).cell? ⟨g, 1, none⟩ = some a1 ∧
    (((((W.setCell ⟨p, 0, none⟩ v0).setCell ⟨p, 1, none⟩ v1).setCell ⟨p, 2, none⟩ v2).setCell ⟨p, 3, none⟩ v3).setCell ⟨p, 4, none⟩ v4).cell? ⟨g, 2, none⟩ = some a2 := by
  have e : ∀ (V : World) (j k : Nat) (u : Value), (V.setCell ⟨p, j, none⟩ u).cell? ⟨g, k, none⟩ = V.cell? ⟨g, k, none⟩ := fun V j k u => World.cell?_of_block (a := ⟨g, k, none⟩) (Below.heap_setCell V ⟨p, j, none⟩ u g hp)
  simp only [e]
  exact h
theorem zfacts {W : World} {p : Nat} (h : W.heap[p]? = some zSec) : W.cell? ⟨p, 0, none⟩ = some (.int .i64 0) ∧ W.cell? ⟨p, 1, none⟩ = some (.int .i64 0) ∧ W.cell? ⟨p, 2, none⟩ = some (.int .i64 0) ∧ W.cell? ⟨p, 3, none⟩ = some (.int .i64 0) ∧ W.cell? ⟨p, 4, none⟩ = some (.int .i64 0) ∧ (∀ o, W.frozen? ⟨p, o, none⟩ = false) := by
  unfold zSec at h
  refine ⟨?_, ?_, ?_, ?_, ?_, fun o => ?_⟩
  · simp [World.cell?, h]
  · simp [World.cell?, h]
  · simp [World.cell?, h]
  · simp [World.cell?, h]
  · simp [World.cell?, h]
  · simp [World.frozen?, h]

theorem ten_keep {W W' : World} {a0 a1 a2 a3 a4 a5 a6 a7 a8 a9 : Addr} {v0 v1 v2 v3 v4 v5 v6 v7 v8 v9 : Value}
    (h : W.cell? a0 = some v0 ∧ W.cell? a1 = some v1 ∧ W.cell? a2 = some v2 ∧ W.cell? a3 = some v3 ∧ W.cell? a4 = some v4 ∧ W.cell? a5 = some v5 ∧ W.cell? a6 = some v6 ∧ W.cell? a7 = some v7 ∧ W.cell? a8 = some v8 ∧ W.cell? a9 = some v9) (hb : Below W.heap.size W W') :
    W'.cell? a0 = some v0 ∧ W'.cell? a1 = some v1 ∧ W'.cell? a2 = some v2 ∧ W'.cell? a3 = some v3 ∧ W'.cell? a4 = some v4 ∧ W'.cell? a5 = some v5 ∧ W'.cell? a6 = some v6 ∧ W'.cell? a7 = some v7 ∧ W'.cell? a8 = some v8 ∧ W'.cell? a9 = some v9 := by
  have e : ∀ (q : Addr) x, W.cell? q = some x → W'.cell? q = some x := fun q x hx => (hb.cell (p := q) (World.block_lt_of_cell? W _ hx)).trans hx
  obtain ⟨h0, h1, h2, h3, h4, h5, h6, h7, h8, h9⟩ := h
  exact ⟨e _ _ h0, e _ _ h1, e _ _ h2, e _ _ h3, e _ _ h4, e _ _ h5, e _ _ h6, e _ _ h7, e _ _ h8, e _ _ h9⟩
/-- What the statement 'next := ..' leaves: s8: where next lies; u: the sections so far. -/
def NxP (w w2 : World) (u : Value) (S : List Sec) (s : Sec) (s8 : Value) (wx : World) : Prop :=
  ∃ p : Nat, s8 = .pointer (some ⟨p, 0, none⟩) ∧ wx.heap[p]? = some (.cells #[.int .i64 s.fr, .int .i64 s.en, .int .i64 s.it, .int .i64 s.cl, .int .i64 s.mo] 60 (0, 0)) ∧ w2.heap.size ≤ p ∧ (∀ k, u.ownBlock = some k → k ≠ p) ∧ Below w.heap.size w wx ∧ Below w2.heap.size w2 wx ∧ RowS wx w2.heap.size u S
theorem nx_alloc {w w2 w3 W6 : World} {u : Value} {S : List Sec} {a b c d e : Int} (hB : Below w.heap.size w w3) (hD : Below w2.heap.size w2 w3) (hR : RowS w3 w2.heap.size u S) (hC : Below w3.heap.size w3 W6) :
    NxP w w2 u S ⟨a, b, c, d, e⟩ (.pointer (some ⟨W6.heap.size, 0, none⟩)) (W6.alloc (.cells #[.int .i64 a, .int .i64 b, .int .i64 c, .int .i64 d, .int .i64 e] 60)) := by
  have h1 := hB.trans (hC.mono hB.size)
  have h2 := hD.trans (hC.mono hD.size)
  have h3 := hR.below hC
  refine ⟨_, rfl, World.alloc_heap_new W6 _, h2.size, fun k hk => ?_, h1.alloc h1.size _, h2.alloc h2.size _, h3.alloc _⟩
  have := (h3.lt k hk).2
  omega
theorem nx_set {w w2 w3 W6 : World} {u : Value} {S : List Sec} {a b c d e : Int} {p : Nat} (hB : Below w.heap.size w w3) (hD : Below w2.heap.size w2 w3) (hR : RowS w3 w2.heap.size u S) (hC : Below w3.heap.size w3 W6) (hz : W6.heap[p]? = some zSec) (hp : w3.heap.size ≤ p) :
    NxP w w2 u S ⟨a, b, c, d, e⟩ (.pointer (some ⟨p, 0, none⟩)) (((((W6.setCell ⟨p, 0, none⟩ (.int .i64 a)).setCell ⟨p, 1, none⟩ (.int .i64 b)).setCell ⟨p, 2, none⟩ (.int .i64 c)).setCell ⟨p, 3, none⟩ (.int .i64 d)).setCell ⟨p, 4, none⟩ (.int .i64 e)) := by
  have h1 := hB.trans (hC.mono hB.size)
  have h2 := hD.trans (hC.mono hD.size)
  have h3 := hR.below hC
  have hw := hB.size
  have hw2 := hD.size
  have hne : ∀ k, u.ownBlock = some k → k ≠ p := fun k hk => by have := (hR.lt k hk).2; omega
  have hnp : u.ownBlock ≠ some p := fun e => hne p e rfl
  unfold zSec at hz
  have q0 := heap_setCell_same W6 p 0 _ _ (.int .i64 a) hz
  have q1 := heap_setCell_same _ p 1 _ _ (.int .i64 b) q0
  have q2 := heap_setCell_same _ p 2 _ _ (.int .i64 c) q1
  have q3 := heap_setCell_same _ p 3 _ _ (.int .i64 d) q2
  have q4 := heap_setCell_same _ p 4 _ _ (.int .i64 e) q3
  refine ⟨p, rfl, q4, by omega, hne, ?_, ?_, ?_⟩
  · exact ((((h1.setCell (p := ⟨p, 0, none⟩) (show w.heap.size ≤ p by omega) _).setCell (p := ⟨p, 1, none⟩) (show w.heap.size ≤ p by omega) _).setCell (p := ⟨p, 2, none⟩) (show w.heap.size ≤ p by omega) _).setCell (p := ⟨p, 3, none⟩) (show w.heap.size ≤ p by omega) _).setCell (p := ⟨p, 4, none⟩) (show w.heap.size ≤ p by omega) _
  · exact ((((h2.setCell (p := ⟨p, 0, none⟩) (show w2.heap.size ≤ p by omega) _).setCell (p := ⟨p, 1, none⟩) (show w2.heap.size ≤ p by omega) _).setCell (p := ⟨p, 2, none⟩) (show w2.heap.size ≤ p by omega) _).setCell (p := ⟨p, 3, none⟩) (show w2.heap.size ≤ p by omega) _).setCell (p := ⟨p, 4, none⟩) (show w2.heap.size ≤ p by omega) _
  · exact ownsRow_setCell_other (ownsRow_setCell_other (ownsRow_setCell_other (ownsRow_setCell_other (ownsRow_setCell_other h3 (a := ⟨p, 0, none⟩) hnp _) (a := ⟨p, 1, none⟩) hnp _) (a := ⟨p, 2, none⟩) hnp _) (a := ⟨p, 3, none⟩) hnp _) (a := ⟨p, 4, none⟩) hnp _

set_option maxRecDepth 8000 in
set_option maxHeartbeats 6400000 in
theorem sectionsOf_of (HSort : SortC) (HComp : CompactC) (w : World) (a za la : Option Addr) (n c nz zc nl lc : Nat) (f z m : Nat → Int) (h : chk n nz nl f z m = 0) (hS : Sl w 7 a n f) (hZ : Sl w 3 za nz z) (hL : Sl w 2 la nl m) :
    Calls Tryd.prog 71 #[.agg #[.slice a n c, .slice za nz zc, .slice la nl lc]] w fun e w' => (∃ v, e = .returned v ∧ RowS w' w.heap.size v (secsOf f z m n nz nl)) ∧ Below w.heap.size w w' := by
  obtain ⟨i5, hi5, hz50, hz51, hz52⟩ := info_parts (show (Tryd.prog.info? 60).map (fun i => (i.zero, i.size, i.bytes)) = some (some (.agg #[.int .i64 0, .int .i64 0, .int .i64 0, .int .i64 0, .int .i64 0]), 5, 40) by kernel_rfl)
  have hok := chk_ok h
  have hn : 1 ≤ n ∧ n ≤ 64 := hok.1
  have hv := hok.2.2.2.1
  have HBR : Hid (∀ W', Below w.heap.size w W' → Calls Tryd.prog 100 #[.agg #[.slice a n c, .slice za nz zc, .slice la nl lc]] W' fun e w' => (∃ v, e = .returned v ∧ RowL w' W'.heap.size v (ascOf (allBs f z m n nz nl))) ∧ Below W'.heap.size W' w') :=
    fun W' hb => breaks_of HSort HComp W' a za la n c nz zc nl lc f z m hn hok.2.1 hok.2.2.1 hv (hS.keep (by omega) hb) (hZ.keep (by omega) hb) (hL.keep (by omega) hb)
  have HEN : Hid (∀ W', Below w.heap.size w W' → Calls Tryd.prog 58 #[.agg #[.slice a n c, .slice za nz zc, .slice la nl lc]] W' fun e W3 => e = .returned (.int .i64 (endS f n)) ∧ Below W'.heap.size W' W3) :=
    fun W' hb => endOf_of a za la n c nz zc nl lc f (by omega) hv W' (hS.keep (by omega) hb)
  have HIA : Hid (∀ W' st, Below w.heap.size w W' → (0 ≤ st ∧ st < endS f n) → Calls Tryd.prog 60 #[.agg #[.slice a n c, .slice za nz zc, .slice la nl lc], .int .i64 st] W' fun e W3 => (∃ o, e = .returned (.tuple #[.int .i64 (itemOf f n st : Nat), .int .i64 o])) ∧ Below W'.heap.size W' W3) :=
    fun W' st hb hs => (itemAt_of a za la n c nz zc nl lc f st (by omega) hv hs W' (hS.keep (by omega) hb)).mono fun e W3 ⟨⟨i, hi, h1, h2, he⟩, hb3⟩ => by
      rw [itemOf_eq (by omega) hv hi h1 h2]
      exact ⟨⟨_, he⟩, hb3⟩
  have HCA : Hid (∀ W' st, Below w.heap.size w W' → Calls Tryd.prog 69 #[.agg #[.slice a n c, .slice za nz zc, .slice la nl lc], .int .i64 st] W' fun e W3 => e = .returned (.int .i64 (clsAt z nz st)) ∧ Below W'.heap.size W' W3) :=
    fun W' st hb => classAt_of W' a za la n c nz zc nl lc z st hok.2.1 (zok_of h) (hZ.keep (by omega) hb)
  have HLA : Hid (∀ W' st, Below w.heap.size w W' → Calls Tryd.prog 70 #[.agg #[.slice a n c, .slice za nz zc, .slice la nl lc], .int .i64 st] W' fun e W3 => e = .returned (.int .i64 (lmtAt m st nl)) ∧ Below W'.heap.size W' W3) :=
    fun W' st hb => limitAt_of W' a za la n c nz zc nl lc m st hok.2.2.1 (hL.keep (by omega) hb)
  have HIN := Lib.hid (asc_in h)
  have hlen : (ascOf (allBs f z m n nz nl)).length ≤ 256 := by
    have h1 := ascOf_length (allBs f z m n nz nl)
    have h2 := (allBs_length f z m n nz nl).2
    omega
  have hpos : 0 < (ascOf (allBs f z m n nz nl)).length := by
    have h0 : (0 : Int) ∈ ascOf (allBs f z m n nz nl) := mem_ascOf.2 (mem_allBs.2 (.inl ⟨0, by omega, rfl⟩))
    exact List.length_pos_of_mem h0
  have HFin : Hid (secsOf f z m n nz nl = (ascOf (allBs f z m n nz nl)).foldl (pstep f z m n nz nl (endS f n)) []) := rfl
  generalize secsOf f z m n nz nl = RES at HFin ⊢
  generalize ascOf (allBs f z m n nz nl) = Bs at HBR HIN hlen hpos HFin
  obtain ⟨E, hE⟩ : ∃ E, E = endS f n := ⟨_, rfl⟩
  have hEb := endS_le (f := f) (n := n) hv
  rw [← hE] at HEN HIA HIN HFin hEb
  clear hok hv h hS hZ hL hE
  go_enter Tryd.func71, Tryd.ntmps71
  go_wp2_with fail
  obtain ⟨W, hW⟩ : ∃ W, W = w.alloc (.cells #[.slice a n c, .slice za nz zc, .slice la nl lc] 26) := ⟨_, rfl⟩
  have hBW : Hid (Below w.heap.size w W) := by rw [hW]; exact (Below.refl _ _).alloc (Nat.le_refl _) _
  have HX : Hid (W.cell? ⟨w.heap.size, 0, none⟩ = some (.slice a n c) ∧ W.cell? ⟨w.heap.size, 1, none⟩ = some (.slice za nz zc) ∧ W.cell? ⟨w.heap.size, 2, none⟩ = some (.slice la nl lc)) := by
    rw [hW]; exact ⟨by go_simp, by go_simp, by go_simp⟩
  rw [← hW]
  clear hW
  refine (HBR.out W hBW.out).mono ?_
  rintro e' w2 ⟨⟨v, rfl, hrow⟩, hb2⟩
  have HB2 : Hid (Below w.heap.size w w2) := hBW.out.trans (hb2.mono hBW.out.size)
  have HX2 := Lib.hid (three_keep HX.out hb2)
  obtain ⟨gB, cB, rfl⟩ := hrow.form hpos
  have HRB := Lib.hid hrow
  have hgB : gB < w2.heap.size := (hrow.lt gB rfl).2
  clear hb2 hrow
  go_wp2_with fail
  go_loopw [3, 13] (fun vs vi wr => ∃ (i : Nat) (S : List Sec), i ≤ Bs.length ∧ vi = .int .i64 i ∧ S.length ≤ i ∧ Hid (S = (Bs.take i).foldl (pstep f z m n nz nl E) []) ∧ Hid (RowS wr w2.heap.size vs S) ∧ Hid (Below w2.heap.size w2 wr)) (fun _ vi _ => Bs.length - (intOf vi).toNat)
  case atStart => exact ⟨0, [], by omega, rfl, by simp, by show [] = _; simp, RowS.nil _ _, Below.refl _ _⟩
  case round =>
    obtain ⟨i, S, hi, rfl, hSl, HSe, HR, HD⟩ := hrel
    have hss := HD.out.size
    have HB : Hid (Below w.heap.size w wr) := HB2.out.trans (HD.out.mono HB2.out.size)
    by_cases hlt : i < Bs.length
    · have hin := HIN.out (Bs[i]'hlt) (List.getElem_mem hlt)
      have hst : wr.cell? ⟨gB, i, none⟩ = some (.int .i64 (Bs[i]'hlt)) := (HD.out.cell (p := ⟨gB, i, none⟩) hgB).trans (HRB.out.cell i hlt)
      have HTk : Hid (Bs.take (i + 1) = Bs.take i ++ [Bs[i]'hlt]) := by show _ = _; rw [List.take_succ_eq_append_getElem hlt]
      generalize Bs[i]'hlt = st at hin hst HTk
      have HXr := Lib.hid (three_keep HX2.out HD.out)
      obtain ⟨x0, x1, x2⟩ := HXr.out
      go_wp2_with fail
      refine (HIA.out wr st HB.out hin).mono ?_
      rintro e' w3 ⟨⟨off, rfl⟩, hb3⟩
      have HB3 : Hid (Below w.heap.size w w3) := HB.out.trans (hb3.mono HB.out.size)
      have HD3 : Hid (Below w2.heap.size w2 w3) := HD.out.trans (hb3.mono hss)
      have HR3 : Hid (RowS w3 w2.heap.size _ S) := HR.out.below hb3
      have HX3 := Lib.hid (three_keep HXr.out hb3)
      clear hb3 x0 x1 x2 hst
      have HN3 : Hid (w3.drew.cell? ⟨w.heap.size, 0, none⟩ = some (.slice a n c) ∧ w3.drew.cell? ⟨w.heap.size, 1, none⟩ = some (.slice za nz zc) ∧ w3.drew.cell? ⟨w.heap.size, 2, none⟩ = some (.slice la nl lc)) := HX3.out
      have HBD : Hid (Below w.heap.size w w3.drew) := HB3.out.drew
      have hBA : Below w.heap.size w (w3.alloc zSec).drew := (HB3.out.alloc HB3.out.size _).drew
      have hNA : (w3.alloc zSec).drew.cell? ⟨w.heap.size, 0, none⟩ = some (.slice a n c) ∧ (w3.alloc zSec).drew.cell? ⟨w.heap.size, 1, none⟩ = some (.slice za nz zc) ∧ (w3.alloc zSec).drew.cell? ⟨w.heap.size, 2, none⟩ = some (.slice la nl lc) := three_keep HX3.out (((Below.refl _ _).alloc (Nat.le_refl _) _).drew)
      have hZA : (w3.alloc zSec).drew.heap[w3.heap.size]? = some zSec := World.alloc_heap_new w3 zSec
      unfold zSec at hBA hNA
      have hp3 : w.heap.size ≠ w3.heap.size := Nat.ne_of_lt (World.block_lt_of_cell? w3 ⟨w.heap.size, 0, none⟩ HX3.out.1)
      have hC0 : Below w3.heap.size w3 w3.drew := (Below.refl _ _).drew
      have hCA : Below w3.heap.size w3 (w3.alloc zSec).drew := ((Below.refl _ _).alloc (Nat.le_refl _) _).drew
      unfold zSec at hCA
      go_upto_region 6 with fail
      go_cut [8] (fun s8 wx => NxP w w2 u3 S (secAt f z m n nz nl st E) s8 wx)
      case first =>
       go_region_held3 (fun W' => W'.cell? ⟨w.heap.size, 0, none⟩ = some (.slice a n c) ∧ W'.cell? ⟨w.heap.size, 1, none⟩ = some (.slice za nz zc) ∧ W'.cell? ⟨w.heap.size, 2, none⟩ = some (.slice la nl lc))
        (first | (with_reducible exact three_set hN6 hp5) | (with_reducible exact three_set hN6 hp4) | (with_reducible exact three_set hN6 hp3) | (with_reducible exact HN3.out) | (with_reducible exact hNA) | (with_reducible exact hN4) | (with_reducible exact three_keep hN4 ((Below.refl _ _).alloc (Nat.le_refl _) _)) | (with_reducible exact hN5) | (with_reducible exact three_keep hN5 ((Below.refl _ _).alloc (Nat.le_refl _) _)) | (with_reducible exact hN6) | (with_reducible exact three_keep hN6 ((Below.refl _ _).alloc (Nat.le_refl _) _)))
        (first
          | (go_at_call 58; refine (HEN.out _ (by first | with_reducible exact HBD.out | with_reducible exact hBA)).mono ?_; rintro e4 W4 ⟨rfl, hb4⟩; (have hN4 := three_keep (by first | with_reducible exact HN3.out | with_reducible exact hNA) hb4); (have hB4 := below_step (B := w.heap.size) (a := w) (by first | with_reducible exact HBD.out | with_reducible exact hBA) hb4 (Nat.le_refl _)); (have hp4 : w.heap.size ≠ W4.heap.size := Nat.ne_of_lt (World.block_lt_of_cell? W4 ⟨w.heap.size, 0, none⟩ hN4.1)); (have hC4 := below_step (B := w3.heap.size) (a := w3) (by first | with_reducible exact hC0 | with_reducible exact hCA) hb4 (Nat.le_refl _)); (try (have hz4 := zkeep hZA hb4)))
          | (go_at_call 69; refine (HCA.out _ st (by first | with_reducible exact hB4 | with_reducible exact hB4.alloc hB4.size _)).mono ?_; rintro e5 W5 ⟨rfl, hb5⟩; (have hN5 := three_keep (by first | with_reducible exact hN4 | with_reducible exact three_keep hN4 ((Below.refl _ _).alloc (Nat.le_refl _) _)) hb5); (have hB5 := below_step (B := w.heap.size) (a := w) (by first | with_reducible exact hB4 | with_reducible exact hB4.alloc hB4.size _) hb5 (Nat.le_refl _)); (have hp5 : w.heap.size ≠ W5.heap.size := Nat.ne_of_lt (World.block_lt_of_cell? W5 ⟨w.heap.size, 0, none⟩ hN5.1)); (have hC5 := below_step (B := w3.heap.size) (a := w3) (by first | with_reducible exact hC4 | with_reducible exact hC4.alloc hC4.size _) hb5 (Nat.le_refl _)); (first | (have hz5 := zkeep hz4 hb5) | (have hz5 := zkeep (World.alloc_heap_new W4 zSec) hb5) | skip))
          | (go_at_call 70; refine (HLA.out _ st (by first | with_reducible exact hB5 | with_reducible exact hB5.alloc hB5.size _)).mono ?_; rintro e6 W6 ⟨rfl, hb6⟩; (have hN6 := three_keep (by first | with_reducible exact hN5 | with_reducible exact three_keep hN5 ((Below.refl _ _).alloc (Nat.le_refl _) _)) hb6); (have hB6 := below_step (B := w.heap.size) (a := w) (by first | with_reducible exact hB5 | with_reducible exact hB5.alloc hB5.size _) hb6 (Nat.le_refl _)); (have hC6 := below_step (B := w3.heap.size) (a := w3) (by first | with_reducible exact hC5 | with_reducible exact hC5.alloc hC5.size _) hb6 (Nat.le_refl _)); (first | (have hz6 := zkeep hz5 hb6) | (have hz6 := zkeep (World.alloc_heap_new W5 zSec) hb6) | skip); (try ((have z0 := (zfacts hz6).1); (have z1 := (zfacts hz6).2.1); (have z2 := (zfacts hz6).2.2.1); (have z3 := (zfacts hz6).2.2.2.1); (have z4 := (zfacts hz6).2.2.2.2.1); (have zf := (zfacts hz6).2.2.2.2.2)))))
       all_goals
         go_wp2_with fail
         go_meet
         unfold secAt
         first
           | with_reducible exact nx_alloc HB3.out HD3.out HR3.out hC6
           | with_reducible exact nx_set HB3.out HD3.out HR3.out hC6 hz6 hC5.size
           | with_reducible exact nx_set HB3.out HD3.out HR3.out hC6 hz6 hC4.size
           | with_reducible exact nx_set HB3.out HD3.out HR3.out hC6 hz6 (Nat.le_refl _)
      case rest =>
       obtain ⟨p, rfl, hp, hpb, hne, hB, hD, hR⟩ := hcut
       obtain ⟨nx, hnx⟩ : ∃ s, s = secAt f z m n nz nl st E := ⟨_, rfl⟩
       rw [← hnx] at hp
       have HNX := Lib.hid hnx
       have HPc := Lib.hid hp
       have HBc := Lib.hid hB
       have HDc := Lib.hid hD
       have HRc := Lib.hid hR
       have hpl : p < wc.heap.size := (Array.getElem?_eq_some_iff.1 hp).1
       have c0 : wc.cell? ⟨p, 0, none⟩ = some (.int .i64 nx.fr) := by simp [World.cell?, hp]
       have c1 : wc.cell? ⟨p, 1, none⟩ = some (.int .i64 nx.en) := by simp [World.cell?, hp]
       have c2 : wc.cell? ⟨p, 2, none⟩ = some (.int .i64 nx.it) := by simp [World.cell?, hp]
       have c3 : wc.cell? ⟨p, 3, none⟩ = some (.int .i64 nx.cl) := by simp [World.cell?, hp]
       have c4 : wc.cell? ⟨p, 4, none⟩ = some (.int .i64 nx.mo) := by simp [World.cell?, hp]
       have hss3 := HDc.out.size
       clear hnx hp hB hD hR HBD HN3 hBA hNA hZA hp3 hC0 hCA
       rcases List.eq_nil_or_concat S with rfl | ⟨S0, s, rfl⟩
       · obtain ⟨a3, k3, rfl⟩ := own_slice HRc.out
         have HF7 : Hid ([nx] = (Bs.take (i + 1)).foldl (pstep f z m n nz nl E) []) := by
           show _ = _
           rw [HTk.out, List.foldl_append, ← HSe.out, HNX.out]
           rfl
         go_wp2_with (at_builtin; refine wpList_append_lies _ rfl (.tmp 51) (.tmp 53) 52 rfl w2.heap.size 60 i5 (.agg #[.int .i64 0, .int .i64 0, .int .i64 0, .int .i64 0, .int .i64 0]) 5 40 Tryd.underlying52 hi5 hz50 hz51 hz52 rfl (by decide) (.slice a3 0 k3) 0 [] rfl (HRc.out.alloc _) ⟨wc.heap.size, 0, none⟩ 1 1 nx.cells rfl rfl (World.news_of_block (heap_alloc_new _ _)) (by simp [Sec.cells, Value.oneCell']) (by decide) (by unfold maxLen; omega) (by omega) (by simp; omega) (wc.heap.size + 1) (by simp) ?_; intro g2 cap2 w7 hown7 hg7 hat7 hlt7)
         have HR7 : Hid (RowS w7 w2.heap.size (.slice (some ⟨g2, 0, none⟩) 1 cap2) [nx]) := RowS.snoc (S := []) hown7
         have HD7 : Hid (Below w2.heap.size w2 w7) := (HDc.out.alloc hss3 _).grown hg7 (by simp; omega) (fun k hk => (HRc.out.lt k hk).1)
         clear hown7 hg7 hat7 c0 c1 c2 c3 c4
         go_wp2
         exact ⟨⟨i + 1, [nx], by omega, by go_num, by simp, HF7.out, HR7.out, HD7.out⟩, by simp [intOf]; omega⟩
       · rw [List.concat_eq_append] at HRc hSl HSe
         have hkl : S0.length ≤ 255 := by rw [List.length_append] at hSl; simp at hSl; omega
         obtain ⟨g, cap, hg⟩ := RowS.form HRc.out (by simp)
         rw [show (S0 ++ [s]).length = S0.length + 1 by simp] at hg
         subst hg
         have HRk : Hid (RowS wc w2.heap.size (.slice (some ⟨g, 0, none⟩) (S0.length + 1) cap) (S0 ++ [s])) := HRc.out
         have hgl := (HRc.out.lt g rfl)
         have hgp : g ≠ p := hne g rfl
         have hcell : ∀ j, j < 5 → wc.cell? ⟨g, S0.length * 5 + j, none⟩ = s.cells[j]? := fun j hj => by
           have h1 : RowS wc w2.heap.size (.slice (some ⟨g, 0, none⟩) (S0 ++ [s]).length cap) (S0 ++ [s]) := by rw [List.length_append]; exact HRc.out
           have h2 := h1.cell S0.length (by simp) j hj
           rwa [List.getElem_concat_length rfl] at h2
         have r0 : wc.cell? ⟨g, S0.length * 5, none⟩ = some (.int .i64 s.fr) := hcell 0 (by omega)
         have r1 : wc.cell? ⟨g, S0.length * 5 + 1, none⟩ = some (.int .i64 s.en) := hcell 1 (by omega)
         have r2 : wc.cell? ⟨g, S0.length * 5 + 2, none⟩ = some (.int .i64 s.it) := hcell 2 (by omega)
         have r3 : wc.cell? ⟨g, S0.length * 5 + 3, none⟩ = some (.int .i64 s.cl) := hcell 3 (by omega)
         have r4 : wc.cell? ⟨g, S0.length * 5 + 4, none⟩ = some (.int .i64 s.mo) := hcell 4 (by omega)
         have hb1 : (0 : Int) ≤ (S0.length : Int) := by omega
         have hb2 : (S0.length : Int) < (S0.length : Int) + 1 := by omega
         have e41 : IntKind.i64.wrap (S0.length : Int) = (S0.length : Int) := IntWalk.i64_in _ (by omega)
         have e40 : IntKind.i64.wrap ((S0.length : Int) + 1 - 1) = (S0.length : Int) := by rw [IntWalk.i64_in _ (by omega)]; omega
         have HAL := Lib.hid (alike_of wc.drew s nx)
         have HN9 : Hid (wc.drew.cell? ⟨p, 0, none⟩ = some (.int .i64 nx.fr) ∧ wc.drew.cell? ⟨p, 1, none⟩ = some (.int .i64 nx.en) ∧ wc.drew.cell? ⟨p, 2, none⟩ = some (.int .i64 nx.it) ∧ wc.drew.cell? ⟨p, 3, none⟩ = some (.int .i64 nx.cl) ∧ wc.drew.cell? ⟨p, 4, none⟩ = some (.int .i64 nx.mo) ∧
           wc.drew.cell? ⟨g, S0.length * 5, none⟩ = some (.int .i64 s.fr) ∧ wc.drew.cell? ⟨g, S0.length * 5 + 1, none⟩ = some (.int .i64 s.en) ∧ wc.drew.cell? ⟨g, S0.length * 5 + 2, none⟩ = some (.int .i64 s.it) ∧ wc.drew.cell? ⟨g, S0.length * 5 + 3, none⟩ = some (.int .i64 s.cl) ∧ wc.drew.cell? ⟨g, S0.length * 5 + 4, none⟩ = some (.int .i64 s.mo)) := ⟨c0, c1, c2, c3, c4, r0, r1, r2, r3, r4⟩
         unfold Sec.val at HAL
         clear hcell
         by_cases hal : alk s nx = true
         · rw [hal] at HAL
           have HF7 : Hid (S0 ++ [s] = (Bs.take (i + 1)).foldl (pstep f z m n nz nl E) []) := by
             show _ = _
             rw [HTk.out, List.foldl_append, ← HSe.out]
             have h1 := hal
             rw [HNX.out] at h1
             exact (pstep_same h1).symm
           clear hal c0 c1 c2 c3 c4 r0 r1 r2 r3 r4
           go_wp2_with fail
           go_region_held3 (fun W' => W'.cell? ⟨p, 0, none⟩ = some (.int .i64 nx.fr) ∧ W'.cell? ⟨p, 1, none⟩ = some (.int .i64 nx.en) ∧ W'.cell? ⟨p, 2, none⟩ = some (.int .i64 nx.it) ∧ W'.cell? ⟨p, 3, none⟩ = some (.int .i64 nx.cl) ∧ W'.cell? ⟨p, 4, none⟩ = some (.int .i64 nx.mo) ∧
             W'.cell? ⟨g, S0.length * 5, none⟩ = some (.int .i64 s.fr) ∧ W'.cell? ⟨g, S0.length * 5 + 1, none⟩ = some (.int .i64 s.en) ∧ W'.cell? ⟨g, S0.length * 5 + 2, none⟩ = some (.int .i64 s.it) ∧ W'.cell? ⟨g, S0.length * 5 + 3, none⟩ = some (.int .i64 s.cl) ∧ W'.cell? ⟨g, S0.length * 5 + 4, none⟩ = some (.int .i64 s.mo))
             (first | (with_reducible exact HN9.out) | (with_reducible exact hN8))
             (first | (go_at_call 101; refine HAL.out.mono ?_; rintro e8 W8 ⟨rfl, hb8⟩; (have hN8 := ten_keep HN9.out hb8)))
           have HR8 : Hid (RowS W8 w2.heap.size (.slice (some ⟨g, 0, none⟩) (S0.length + 1) cap) (S0 ++ [s])) := RowS.below (w := wc.drew) HRk.out hb8
           have HD8 : Hid (Below w2.heap.size w2 W8) := HDc.out.drew.trans (hb8.mono (by show w2.heap.size ≤ wc.heap.size; omega))
           clear hb8 hN8
           go_wp2
           exact ⟨⟨i + 1, S0 ++ [s], by omega, by go_num, by omega, HF7.out, HR8.out, HD8.out⟩, by simp [intOf]; omega⟩
         · have hal2 : alk s nx = false := by simpa using hal
           rw [hal2] at HAL
           have HF7 : Hid (S0 ++ [s.upTo st] ++ [nx] = (Bs.take (i + 1)).foldl (pstep f z m n nz nl E) []) := by
             show _ = _
             rw [HTk.out, List.foldl_append, ← HSe.out]
             have h1 := hal2
             rw [HNX.out] at h1
             rw [HNX.out]
             exact (pstep_new h1).symm
           clear hal hal2 c0 c1 c2 c3 c4 r0 r1 r2 r3 r4
           go_wp2_with fail
           go_region_held3 (fun W' => W'.cell? ⟨p, 0, none⟩ = some (.int .i64 nx.fr) ∧ W'.cell? ⟨p, 1, none⟩ = some (.int .i64 nx.en) ∧ W'.cell? ⟨p, 2, none⟩ = some (.int .i64 nx.it) ∧ W'.cell? ⟨p, 3, none⟩ = some (.int .i64 nx.cl) ∧ W'.cell? ⟨p, 4, none⟩ = some (.int .i64 nx.mo) ∧
             W'.cell? ⟨g, S0.length * 5, none⟩ = some (.int .i64 s.fr) ∧ W'.cell? ⟨g, S0.length * 5 + 1, none⟩ = some (.int .i64 s.en) ∧ W'.cell? ⟨g, S0.length * 5 + 2, none⟩ = some (.int .i64 s.it) ∧ W'.cell? ⟨g, S0.length * 5 + 3, none⟩ = some (.int .i64 s.cl) ∧ W'.cell? ⟨g, S0.length * 5 + 4, none⟩ = some (.int .i64 s.mo))
             (first | (with_reducible exact HN9.out) | (with_reducible exact hN8))
             (first | (go_at_call 101; refine HAL.out.mono ?_; rintro e8 W8 ⟨rfl, hb8⟩; (have hN8 := ten_keep HN9.out hb8)))
           have HR8 : Hid (RowS W8 w2.heap.size (.slice (some ⟨g, 0, none⟩) (S0.length + 1) cap) (S0 ++ [s])) := RowS.below (w := wc.drew) HRk.out hb8
           have HD8 : Hid (Below w2.heap.size w2 W8) := HDc.out.drew.trans (hb8.mono (by show w2.heap.size ≤ wc.heap.size; omega))
           have hs8 : w2.heap.size ≤ W8.heap.size := HD8.out.size
           have hss8 : wc.heap.size ≤ W8.heap.size := hb8.size
           obtain ⟨c0, c1, c2, c3, c4, r0, r1, r2, r3, r4⟩ := hN8
           have fz : ∀ o, W8.frozen? ⟨g, o, none⟩ = false := fun o => World.ownsRow.frozenAt (n := S0.length + 1) (xs := secCells (S0 ++ [s])) (by have := HR8.out; unfold RowS at this; rwa [List.length_append] at this) o
           have hset := RowS.setTo HR8.out st
           have HR9 := Lib.hid hset.1
           have HD9 : Hid (Below w2.heap.size w2 (W8.setCell ⟨g, S0.length * 5 + 1, none⟩ (.int .i64 st))) := HD8.out.grown hset.2 hs8 (fun k hk => by cases hk; exact hgl.1)
           have e : ∀ (k : Nat), (W8.setCell ⟨g, S0.length * 5 + 1, none⟩ (.int .i64 st)).cell? ⟨p, k, none⟩ = W8.cell? ⟨p, k, none⟩ := fun k => World.cell?_of_block (a := ⟨p, k, none⟩) (Below.heap_setCell W8 ⟨g, S0.length * 5 + 1, none⟩ (.int .i64 st) p (fun h => hgp h.symm))
           have d0 := (e 0).trans c0
           have d1 := (e 1).trans c1
           have d2 := (e 2).trans c2
           have d3 := (e 3).trans c3
           have d4 := (e 4).trans c4
           clear hb8 hset e
           go_upto_region 11 with fail
           generalize hw9 : W8.setCell ⟨g, S0.length * 5 + 1, none⟩ (.int .i64 st) = w9 at HR9 HD9 d0 d1 d2 d3 d4 ⊢
           have hs9 : w2.heap.size ≤ w9.heap.size := HD9.out.size
           clear hw9 c0 c1 c2 c3 c4 r0 r1 r2 r3 r4 fz
           go_wp2_with (at_builtin; refine wpList_append_lies _ rfl (.tmp 51) (.tmp 53) 52 rfl w2.heap.size 60 i5 (.agg #[.int .i64 0, .int .i64 0, .int .i64 0, .int .i64 0, .int .i64 0]) 5 40 Tryd.underlying52 hi5 hz50 hz51 hz52 rfl (by decide) (.slice (some ⟨g, 0, none⟩) (S0.length + 1) cap) (S0.length + 1) (secCells (S0 ++ [s.upTo st])) rfl ((by have := HR9.out; unfold RowS at this; rw [List.length_append] at this; exact this : w9.ownsRow w2.heap.size 60 5 (.slice (some ⟨g, 0, none⟩) (S0.length + 1) cap) (S0.length + 1) (secCells (S0 ++ [s.upTo st]))).alloc _) ⟨w9.heap.size, 0, none⟩ 1 1 nx.cells rfl rfl (World.news_of_block (heap_alloc_new _ _)) (by simp [Sec.cells, Value.oneCell']) (by decide) (by unfold maxLen; omega) (by omega) (by simp; omega) (w9.heap.size + 1) (by simp) ?_; intro g2 cap2 w7 hown7 hg7 hat7 hlt7)
           have HR7 : Hid (RowS w7 w2.heap.size (.slice (some ⟨g2, 0, none⟩) (S0.length + 1 + 1) cap2) (S0 ++ [s.upTo st] ++ [nx])) := RowS.snoc (by rw [List.length_append]; exact hown7)
           have HD7 : Hid (Below w2.heap.size w2 w7) := (HD9.out.alloc hs9 _).grown hg7 (by simp; omega) (fun k hk => by cases hk; exact hgl.1)
           clear hown7 hg7 hat7 d0 d1 d2 d3 d4
           go_wp2
           exact ⟨⟨i + 1, S0 ++ [s.upTo st] ++ [nx], by omega, by go_num, by simp at hSl ⊢; omega, HF7.out, HR7.out, HD7.out⟩, by simp [intOf]; omega⟩
    · obtain rfl : i = Bs.length := by omega
      have HFe : Hid (S = RES) := by show _ = _; rw [HFin.out, HSe.out, List.take_length]
      go_wp2
      go_ret
      refine ⟨⟨_, rfl, ?_⟩, HB.out⟩
      rw [← HFe.out]
      exact HR.out.base HB2.out.size
end Go.Proofs.YtbpifllkimkokaaDoor
