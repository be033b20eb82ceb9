/-
  WALKS: the reference's Sections.
-/
import Derived.Test.YtbpifllkimkokaaDoorLrD
import Derived.Test.YtbpifllkimkokaaDoorLqF
import Derived.Deep.DeepCutAuto
namespace Go.Proofs.YtbpifllkimkokaaDoor
open Go.RowKit

/-- The sections with the last one's end at u. -/
def Rl (P : List Sec) (u : Int) : List Sec := match P.getLast? with | none => [] | some s => P.dropLast ++ [s.upTo u]
theorem rl_nil (u : Int) : Rl [] u = [] := rfl
theorem rl_snoc (P : List Sec) (s : Sec) (u : Int) : Rl (P ++ [s]) u = P ++ [s.upTo u] := by simp [Rl]
theorem rl_step (f z m : Nat → Int) (n nz nl : Nat) (E st nxt : Int) (P S : List Sec) (hS : S = Rl P st) :
    (S = [] ∧ Rl (pstep f z m n nz nl E P st) nxt = [secAt f z m n nz nl st nxt]) ∨
    ∃ S0 s, S = S0 ++ [s] ∧ ((alk s (secAt f z m n nz nl st nxt) = true ∧ Rl (pstep f z m n nz nl E P st) nxt = S0 ++ [s.upTo nxt]) ∨ (alk s (secAt f z m n nz nl st nxt) = false ∧ Rl (pstep f z m n nz nl E P st) nxt = S0 ++ [s] ++ [secAt f z m n nz nl st nxt])) := by
  rcases List.eq_nil_or_concat P with rfl | ⟨P0, s, rfl⟩
  · exact .inl ⟨hS, rfl⟩
  · rw [List.concat_eq_append] at hS ⊢
    rw [rl_snoc] at hS
    refine .inr ⟨P0, s.upTo st, hS, ?_⟩
    have ha : alk (s.upTo st) (secAt f z m n nz nl st nxt) = alk s (secAt f z m n nz nl st E) := rfl
    rw [ha]
    cases hh : alk s (secAt f z m n nz nl st E)
    · rw [pstep_new hh, rl_snoc]
      exact .inr ⟨rfl, rfl⟩
    · rw [pstep_same hh, rl_snoc]
      exact .inl ⟨rfl, rfl⟩

/-- What the statement 'x := told(..)' leaves: s6: where next lies; u: the sections so far. -/
def NxR (w w2 : World) (u : Value) (S : List Sec) (s : Sec) (s6 : Value) (wx : World) : Prop :=
  ∃ p : Nat, s6 = .pointer (some ⟨p, 0, none⟩) ∧ wx.heap[p]? = some (.cells #[.int .i64 s.fr, .int .i64 s.en, .int .i64 s.it, .int .i64 s.cl, .int .i64 s.mo] 59 (0, 0)) ∧ w2.heap.size ≤ p ∧ (∀ k, u.ownBlock = some k → k ≠ p) ∧ Below w.heap.size w wx ∧ Below w2.heap.size w2 wx ∧ RowR wx w2.heap.size u S
theorem nxr_alloc {w w2 w3 W6 : World} {u : Value} {S : List Sec} {a b c d e : Int} (hB : Below w.heap.size w w3) (hD : Below w2.heap.size w2 w3) (hR : RowR w3 w2.heap.size u S) (hC : Below w3.heap.size w3 W6) :
    NxR w w2 u S ⟨a, b, c, d, e⟩ (.pointer (some ⟨W6.heap.size, 0, none⟩)) (W6.alloc (.cells #[.int .i64 a, .int .i64 b, .int .i64 c, .int .i64 d, .int .i64 e] 59)) := by
  have h1 := hB.trans (hC.mono hB.size)
  have h2 := hD.trans (hC.mono hD.size)
  have h3 := hR.below hC
  refine ⟨_, rfl, World.alloc_heap_new W6 _, h2.size, fun k hk => ?_, h1.alloc h1.size _, h2.alloc h2.size _, h3.alloc _⟩
  have := (h3.lt k hk).2
  omega
theorem nxr_set {w w2 w3 W6 : World} {u : Value} {S : List Sec} {a b c d e : Int} {p : Nat} (hB : Below w.heap.size w w3) (hD : Below w2.heap.size w2 w3) (hR : RowR w3 w2.heap.size u S) (hC : Below w3.heap.size w3 W6) (hz : W6.heap[p]? = some zSecR) (hp : w3.heap.size ≤ p) :
    NxR w w2 u S ⟨a, b, c, d, e⟩ (.pointer (some ⟨p, 0, none⟩)) (((((W6.setCell ⟨p, 0, none⟩ (.int .i64 a)).setCell ⟨p, 1, none⟩ (.int .i64 b)).setCell ⟨p, 2, none⟩ (.int .i64 c)).setCell ⟨p, 3, none⟩ (.int .i64 d)).setCell ⟨p, 4, none⟩ (.int .i64 e)) := by
  have h1 := hB.trans (hC.mono hB.size)
  have h2 := hD.trans (hC.mono hD.size)
  have h3 := hR.below hC
  have hw := hB.size
  have hw2 := hD.size
  have hne : ∀ k, u.ownBlock = some k → k ≠ p := fun k hk => by have := (hR.lt k hk).2; omega
  have hnp : u.ownBlock ≠ some p := fun e => hne p e rfl
  unfold zSecR at hz
  have q0 := heap_setCell_same W6 p 0 _ _ (.int .i64 a) hz
  have q1 := heap_setCell_same _ p 1 _ _ (.int .i64 b) q0
  have q2 := heap_setCell_same _ p 2 _ _ (.int .i64 c) q1
  have q3 := heap_setCell_same _ p 3 _ _ (.int .i64 d) q2
  have q4 := heap_setCell_same _ p 4 _ _ (.int .i64 e) q3
  refine ⟨p, rfl, q4, by omega, hne, ?_, ?_, ?_⟩
  · exact ((((h1.setCell (p := ⟨p, 0, none⟩) (show w.heap.size ≤ p by omega) _).setCell (p := ⟨p, 1, none⟩) (show w.heap.size ≤ p by omega) _).setCell (p := ⟨p, 2, none⟩) (show w.heap.size ≤ p by omega) _).setCell (p := ⟨p, 3, none⟩) (show w.heap.size ≤ p by omega) _).setCell (p := ⟨p, 4, none⟩) (show w.heap.size ≤ p by omega) _
  · exact ((((h2.setCell (p := ⟨p, 0, none⟩) (show w2.heap.size ≤ p by omega) _).setCell (p := ⟨p, 1, none⟩) (show w2.heap.size ≤ p by omega) _).setCell (p := ⟨p, 2, none⟩) (show w2.heap.size ≤ p by omega) _).setCell (p := ⟨p, 3, none⟩) (show w2.heap.size ≤ p by omega) _).setCell (p := ⟨p, 4, none⟩) (show w2.heap.size ≤ p by omega) _
  · exact ownsRow_setCell_other (ownsRow_setCell_other (ownsRow_setCell_other (ownsRow_setCell_other (ownsRow_setCell_other h3 (a := ⟨p, 0, none⟩) hnp _) (a := ⟨p, 1, none⟩) hnp _) (a := ⟨p, 2, none⟩) hnp _) (a := ⟨p, 3, none⟩) hnp _) (a := ⟨p, 4, none⟩) hnp _

theorem four_keepA {W W' : World} {a0 a1 a2 a3 : Addr} {v0 v1 v2 v3 : Value} (h : W.cell? a0 = some v0 ∧ W.cell? a1 = some v1 ∧ W.cell? a2 = some v2 ∧ W.cell? a3 = some v3) (hb : Below W.heap.size W W') :
    W'.cell? a0 = some v0 ∧ W'.cell? a1 = some v1 ∧ W'.cell? a2 = some v2 ∧ W'.cell? a3 = some v3 := by
  have e : ∀ (q : Addr) x, W.cell? q = some x → W'.cell? q = some x := fun q x hx => (hb.cell (p := q) (World.block_lt_of_cell? W _ hx)).trans hx
  obtain ⟨h0, h1, h2, h3⟩ := h
  exact ⟨e _ _ h0, e _ _ h1, e _ _ h2, e _ _ h3⟩
theorem four_setA {W : World} {p : Nat} {a0 a1 a2 a3 : Addr} {v0 v1 v2 v3 u0 u1 u2 u3 u4 : Value} (h : W.cell? a0 = some v0 ∧ W.cell? a1 = some v1 ∧ W.cell? a2 = some v2 ∧ W.cell? a3 = some v3) (n0 : a0.block ≠ p) (n1 : a1.block ≠ p) (n2 : a2.block ≠ p) (n3 : a3.block ≠ p) :
    (((((W.setCell ⟨p, 0, none⟩ u0).setCell ⟨p, 1, none⟩ u1).setCell ⟨p, 2, none⟩ u2).setCell ⟨p, 3, none⟩ u3).setCell ⟨p, 4, none⟩ u4).cell? a0 = some v0 ∧
    (((((W.setCell ⟨p, 0, none⟩ u0).setCell ⟨p, 1, none⟩ u1).setCell ⟨p, 2, none⟩ u2).setCell ⟨p, 3, none⟩ u3).setCell ⟨p, 4, none⟩ u4).cell? a1 = some v1 ∧
    (((((W.setCell ⟨p, 0, none⟩ u0).setCell ⟨p, 1, none⟩ u1).setCell ⟨p, 2, none⟩ u2).setCell ⟨p, 3, none⟩ u3).setCell ⟨p, 4, none⟩ u4).cell? a2 = some v2 ∧
    (((((W.setCell ⟨p, 0, none⟩ u0).setCell ⟨p, 1, none⟩ u1).setCell ⟨p, 2, none⟩ u2).setCell ⟨p, 3, none⟩ u3).setCell ⟨p, 4, none⟩ u4).cell? a3 = some v3 := by
  have e : ∀ (V : World) (j : Nat) (u : Value) (a : Addr), a.block ≠ p → (V.setCell ⟨p, j, none⟩ u).cell? a = V.cell? a := fun V j u a ha => World.cell?_of_block (Below.heap_setCell V ⟨p, j, none⟩ u a.block ha)
  rw [e _ _ _ _ n0, e _ _ _ _ n0, e _ _ _ _ n0, e _ _ _ _ n0, e _ _ _ _ n0, e _ _ _ _ n1, e _ _ _ _ n1, e _ _ _ _ n1, e _ _ _ _ n1, e _ _ _ _ n1, e _ _ _ _ n2, e _ _ _ _ n2, e _ _ _ _ n2, e _ _ _ _ n2, e _ _ _ _ n2, e _ _ _ _ n3, e _ _ _ _ n3, e _ _ _ _ n3, e _ _ _ _ n3, e _ _ _ _ n3]
  exact h

set_option maxRecDepth 8000 in
set_option maxHeartbeats 6400000 in
theorem rsections_of (w : World) (a za la : Option Addr) (n c nz zc nl lc : Nat) (f z m : Nat → Int) (h : chk n nz nl f z m = 0) (hS : Sl w 7 a n f) (hZ : Sl w 3 za nz z) (hL : Sl w 2 la nl m) :
    Calls Tryd.prog 32 #[.agg #[.slice a n c, .slice za nz zc, .slice la nl lc]] w fun e w' => (∃ v, e = .returned v ∧ RowR w' w.heap.size v (secsOf f z m n nz nl)) ∧ Below w.heap.size w w' := by
  obtain ⟨i5, hi5, hz50, hz51, hz52⟩ := info_parts (show (Tryd.prog.info? 59).map (fun i => (i.zero, i.size, i.bytes)) = some (some (.agg #[.int .i64 0, .int .i64 0, .int .i64 0, .int .i64 0, .int .i64 0]), 5, 40) by kernel_rfl)
  have hok := chk_ok h
  have HMK : Hid (∀ W', Below w.heap.size w W' → Calls Tryd.prog 73 #[.agg #[.slice a n c, .slice za nz zc, .slice la nl lc]] W' fun e w' => (∃ v, e = .returned v ∧ RowL w' W'.heap.size v (ascOf (allBs f z m n nz nl) ++ [endS f n])) ∧ Below W'.heap.size W' w') :=
    fun W' hb => rmarks_of W' a za la n c nz zc nl lc f z m h (hS.keep (by omega) hb) (hZ.keep (by omega) hb) (hL.keep (by omega) hb)
  have HTO : Hid (∀ W' st, Below w.heap.size w W' → (0 ≤ st ∧ st < endS f n) → Calls Tryd.prog 74 #[.agg #[.slice a n c, .slice za nz zc, .slice la nl lc], .int .i64 st] W' fun e w' => e = .returned (.agg #[.int .i64 st, .int .i64 (st + 1), .int .i64 (itemOf f n st : Nat), .int .i64 (clsAt z nz st), .int .i64 (lmtAt m st nl)]) ∧ Below W'.heap.size W' w') :=
    fun W' st hb hs => rtold_of W' a za la n c nz zc nl lc f z m st h hs (hS.keep (by omega) hb) (hZ.keep (by omega) hb) (hL.keep (by omega) hb)
  have HIN := Lib.hid (asc_in h)
  have hlen : (ascOf (allBs f z m n nz nl)).length ≤ 256 := by
    have h1 := ascOf_length (allBs f z m n nz nl)
    have h2 := (allBs_length f z m n nz nl).2
    omega
  have HFin : Hid (Rl ((ascOf (allBs f z m n nz nl)).foldl (pstep f z m n nz nl (endS f n)) []) (endS f n) = secsOf f z m n nz nl) := by
    show Rl (secsOf f z m n nz nl) (endS f n) = secsOf f z m n nz nl
    have hs := secs_of h
    generalize secsOf f z m n nz nl = S at hs
    rcases List.eq_nil_or_concat S with rfl | ⟨S0, s, rfl⟩
    · rfl
    · rw [List.concat_eq_append] at hs ⊢
      rw [rl_snoc]
      have h1 := hs.fin (by simp)
      have h2 : (S0 ++ [s])[(S0 ++ [s]).length - 1]'(by simp) = s := by
        have e : (S0 ++ [s]).length - 1 = S0.length := by simp
        simp only [e]
        exact List.getElem_concat_length rfl _
      rw [h2] at h1
      unfold Sec.upTo
      rw [← h1]
  generalize secsOf f z m n nz nl = RES at HFin ⊢
  generalize ascOf (allBs f z m n nz nl) = Bs at HMK HIN hlen HFin
  obtain ⟨E, hE⟩ : ∃ E, E = endS f n := ⟨_, rfl⟩
  have hEb := endS_le (f := f) (n := n) hok.2.2.2.1
  have hnn : n ≤ 64 := hok.1.2
  rw [← hE] at HMK HTO HIN HFin hEb
  clear hok h hS hZ hL hE
  go_enter Tryd.func32, Tryd.ntmps32
  go_wp2_with fail
  obtain ⟨W, hW⟩ : ∃ W, W = w.alloc (.cells #[.slice a n c, .slice za nz zc, .slice la nl lc] 31) := ⟨_, rfl⟩
  have hBW : Hid (Below w.heap.size w W) := by rw [hW]; exact (Below.refl _ _).alloc (Nat.le_refl _) _
  have HX : Hid (W.cell? ⟨w.heap.size, 0, none⟩ = some (.slice a n c) ∧ W.cell? ⟨w.heap.size, 1, none⟩ = some (.slice za nz zc) ∧ W.cell? ⟨w.heap.size, 2, none⟩ = some (.slice la nl lc)) := by
    rw [hW]; exact ⟨by go_simp, by go_simp, by go_simp⟩
  rw [← hW]
  clear hW
  refine (HMK.out W hBW.out).mono ?_
  rintro e' w2 ⟨⟨v, rfl, hrow⟩, hb2⟩
  have HB2 : Hid (Below w.heap.size w w2) := hBW.out.trans (hb2.mono hBW.out.size)
  have HX2 := Lib.hid (three_keep HX.out hb2)
  obtain ⟨gM, cM, hv⟩ := hrow.form (by simp)
  rw [show (Bs ++ [E]).length = Bs.length + 1 by simp] at hv
  subst hv
  have hgM : gM < w2.heap.size := (hrow.lt gM rfl).2
  have HMC : Hid (∀ i, i ≤ Bs.length → w2.cell? ⟨gM, i, none⟩ = some (.int .i64 ((Bs ++ [E]).getD i 0))) := fun i hi => by
    have h1 : RowL w2 W.heap.size (.slice (some ⟨gM, 0, none⟩) (Bs ++ [E]).length cM) (Bs ++ [E]) := by rw [show (Bs ++ [E]).length = Bs.length + 1 by simp]; exact hrow
    have h2 := h1.cell i (by simp; omega)
    rw [h2]
    simp [List.getD, List.getElem?_eq_getElem (show i < (Bs ++ [E]).length by simp; omega)]
  clear hb2 hrow
  go_wp2_with fail
  go_loopw [4, 5] (fun vo vi wr => ∃ (i : Nat) (S : List Sec) (kO : Nat), i ≤ Bs.length ∧ vi = .int .i64 i ∧ kO ≤ i ∧ Hid (S.length = kO) ∧ (∃ a k, vo = .slice a kO k) ∧ Hid (S = Rl ((Bs.take i).foldl (pstep f z m n nz nl E) []) ((Bs ++ [E]).getD i 0)) ∧ Hid (RowR wr w2.heap.size vo S) ∧ Hid (Below w2.heap.size w2 wr)) (fun _ vi _ => Bs.length - (intOf vi).toNat)
  case atStart => exact ⟨0, [], 0, by omega, rfl, by omega, rfl, ⟨none, 0, rfl⟩, by show [] = _; simp [Rl], RowR.nil _ _, Below.refl _ _⟩
  case round =>
    obtain ⟨i, S, kO, hi, rfl, hkl, hkO, ⟨oa, ok, rfl⟩, HSe, HR, HD⟩ := hrel
    have hss := HD.out.size
    have HB : Hid (Below w.heap.size w wr) := HB2.out.trans (HD.out.mono HB2.out.size)
    by_cases hlt : i < Bs.length
    · have hq1 : decide ((i : Int) + 1 < (Bs.length : Int) + 1) = true := by rw [decide_eq_true_eq]; omega
      have hmi : (Bs ++ [E]).getD i 0 = Bs[i]'hlt := by simp [List.getD, List.getElem?_append_left hlt, List.getElem?_eq_getElem hlt]
      have hin := HIN.out (Bs[i]'hlt) (List.getElem_mem hlt)
      have hst : wr.cell? ⟨gM, i, none⟩ = some (.int .i64 (Bs[i]'hlt)) := by rw [← hmi]; exact (HD.out.cell (p := ⟨gM, i, none⟩) hgM).trans (HMC.out i hi)
      have hnx : wr.cell? ⟨gM, i + 1, none⟩ = some (.int .i64 ((Bs ++ [E]).getD (i + 1) 0)) := (HD.out.cell (p := ⟨gM, i + 1, none⟩) hgM).trans (HMC.out (i + 1) (by omega))
      have hstep : Hid ((S = [] ∧ Rl ((Bs.take (i + 1)).foldl (pstep f z m n nz nl E) []) ((Bs ++ [E]).getD (i + 1) 0) = [secAt f z m n nz nl (Bs[i]'hlt) ((Bs ++ [E]).getD (i + 1) 0)]) ∨
          ∃ S0 s, S = S0 ++ [s] ∧ ((alk s (secAt f z m n nz nl (Bs[i]'hlt) ((Bs ++ [E]).getD (i + 1) 0)) = true ∧ Rl ((Bs.take (i + 1)).foldl (pstep f z m n nz nl E) []) ((Bs ++ [E]).getD (i + 1) 0) = S0 ++ [s.upTo ((Bs ++ [E]).getD (i + 1) 0)]) ∨ (alk s (secAt f z m n nz nl (Bs[i]'hlt) ((Bs ++ [E]).getD (i + 1) 0)) = false ∧ Rl ((Bs.take (i + 1)).foldl (pstep f z m n nz nl E) []) ((Bs ++ [E]).getD (i + 1) 0) = S0 ++ [s] ++ [secAt f z m n nz nl (Bs[i]'hlt) ((Bs ++ [E]).getD (i + 1) 0)]))) := by
        have h1 := rl_step f z m n nz nl E (Bs[i]'hlt) ((Bs ++ [E]).getD (i + 1) 0) ((Bs.take i).foldl (pstep f z m n nz nl E) []) S (by rw [← hmi]; exact HSe.out)
        rw [List.take_succ_eq_append_getElem hlt, List.foldl_append]
        exact h1
      generalize hNX : (Bs ++ [E]).getD (i + 1) 0 = NX at hnx hstep
      generalize Bs[i]'hlt = st at hin hst hstep
      have HNX := Lib.hid hNX
      clear hmi hNX
      have HXr := Lib.hid (three_keep HX2.out HD.out)
      have hb1 : (0 : Int) ≤ (i : Int) := by omega
      have hb2 : (i : Int) < (Bs.length : Int) + 1 := by omega
      have hb3 : (i : Int) + 1 < (Bs.length : Int) + 1 := by omega
      have HN0 : Hid (wr.drew.cell? ⟨w.heap.size, 0, none⟩ = some (.slice a n c) ∧ wr.drew.cell? ⟨w.heap.size, 1, none⟩ = some (.slice za nz zc) ∧ wr.drew.cell? ⟨w.heap.size, 2, none⟩ = some (.slice la nl lc) ∧ wr.drew.cell? ⟨gM, i, none⟩ = some (.int .i64 st)) := ⟨HXr.out.1, HXr.out.2.1, HXr.out.2.2, hst⟩
      have hB0 : Below w.heap.size w wr.drew := HB.out.drew
      have hBA : Below w.heap.size w (wr.alloc zSecR).drew := (HB.out.alloc HB.out.size _).drew
      have hNA : (wr.alloc zSecR).drew.cell? ⟨w.heap.size, 0, none⟩ = some (.slice a n c) ∧ (wr.alloc zSecR).drew.cell? ⟨w.heap.size, 1, none⟩ = some (.slice za nz zc) ∧ (wr.alloc zSecR).drew.cell? ⟨w.heap.size, 2, none⟩ = some (.slice la nl lc) ∧ (wr.alloc zSecR).drew.cell? ⟨gM, i, none⟩ = some (.int .i64 st) := four_keepA (W := wr) ⟨HXr.out.1, HXr.out.2.1, HXr.out.2.2, hst⟩ (((Below.refl _ _).alloc (Nat.le_refl _) _).drew)
      have hZA : (wr.alloc zSecR).drew.heap[wr.heap.size]? = some zSecR := World.alloc_heap_new wr zSecR
      have hC0 : Below wr.heap.size wr wr.drew := (Below.refl _ _).drew
      have hCA : Below wr.heap.size wr (wr.alloc zSecR).drew := ((Below.refl _ _).alloc (Nat.le_refl _) _).drew
      have hp0 : w.heap.size ≠ wr.heap.size := Nat.ne_of_lt (World.block_lt_of_cell? wr ⟨w.heap.size, 0, none⟩ HXr.out.1)
      have hpM : gM ≠ wr.heap.size := Nat.ne_of_lt (World.block_lt_of_cell? wr ⟨gM, i, none⟩ hst)
      unfold zSecR at hBA hNA hCA
      obtain ⟨x0, x1, x2⟩ := HXr.out
      go_upto_region 6 with fail
      go_cut [6] (fun s6 wx => NxR w w2 (.slice oa kO ok) S (secAt f z m n nz nl st (st + 1)) s6 wx)
      case first =>
        go_region_held3 (fun W' => W'.cell? ⟨w.heap.size, 0, none⟩ = some (.slice a n c) ∧ W'.cell? ⟨w.heap.size, 1, none⟩ = some (.slice za nz zc) ∧ W'.cell? ⟨w.heap.size, 2, none⟩ = some (.slice la nl lc) ∧ W'.cell? ⟨gM, i, none⟩ = some (.int .i64 st))
          (first | (with_reducible exact HN0.out) | (with_reducible exact hNA) | (with_reducible exact hN4) | (with_reducible exact four_setA hN4 hp0 hp0 hp0 hpM) | (with_reducible exact four_keepA hN4 ((Below.refl _ _).alloc (Nat.le_refl _) _)))
          (first
            | (go_at_call 74; refine (HTO.out _ st (by first | with_reducible exact hB0 | with_reducible exact hBA) hin).mono ?_; rintro e4 W4 ⟨rfl, hb4⟩; (have hN4 := four_keepA (by first | with_reducible exact HN0.out | with_reducible exact hNA) hb4); (have hC4 := below_step (B := wr.heap.size) (a := wr) (by first | with_reducible exact hC0 | with_reducible exact hCA) hb4 (Nat.le_refl _)); (try (have hz4 := zkeep hZA hb4)); (try ((have z0 := (zfactsR hz4).1); (have z1 := (zfactsR hz4).2.1); (have z2 := (zfactsR hz4).2.2.1); (have z3 := (zfactsR hz4).2.2.2.1); (have z4 := (zfactsR hz4).2.2.2.2.1); (have zf := (zfactsR hz4).2.2.2.2.2)))))
        all_goals
          go_wp2_with fail
          go_meet
          unfold secAt
          first
            | with_reducible exact nxr_alloc HB.out HD.out HR.out hC4
            | with_reducible exact nxr_set HB.out HD.out HR.out hC4 hz4 (Nat.le_refl _)
      case rest =>
        obtain ⟨p, rfl, hp, hpb, hne, hB, hD, hR⟩ := hcut
        obtain ⟨X, hX⟩ : ∃ X, X = secAt f z m n nz nl st NX := ⟨_, rfl⟩
        have hp2 : wc.heap[p]? = some (.cells #[.int .i64 X.fr, .int .i64 (st + 1), .int .i64 X.it, .int .i64 X.cl, .int .i64 X.mo] 59 (0, 0)) := by rw [hX]; exact hp
        have hen : NX = X.en := by rw [hX]; rfl
        rw [← hX] at hstep
        clear hX hp hB0 hBA hNA hZA hC0 hCA hp0 hpM HN0 x0 x1 x2
        subst hen
        have HBc := Lib.hid hB
        have HDc := Lib.hid hD
        have HRc := Lib.hid hR
        have hss3 := HDc.out.size
        have c0 : wc.cell? ⟨p, 0, none⟩ = some (.int .i64 X.fr) := by simp [World.cell?, hp2]
        have c1 : wc.cell? ⟨p, 1, none⟩ = some (.int .i64 (st + 1)) := by simp [World.cell?, hp2]
        have c2 : wc.cell? ⟨p, 2, none⟩ = some (.int .i64 X.it) := by simp [World.cell?, hp2]
        have c3 : wc.cell? ⟨p, 3, none⟩ = some (.int .i64 X.cl) := by simp [World.cell?, hp2]
        have c4 : wc.cell? ⟨p, 4, none⟩ = some (.int .i64 X.mo) := by simp [World.cell?, hp2]
        have fz : ∀ o, wc.frozen? ⟨p, o, none⟩ = false := fun o => by simp [World.frozen?, hp2]
        have hpl : p < wc.heap.size := (Array.getElem?_eq_some_iff.1 hp2).1
        have dn : wc.cell? ⟨gM, i + 1, none⟩ = some (.int .i64 X.en) := by
          have h1 := (hD.cell (p := ⟨gM, i + 1, none⟩) hgM).trans (HMC.out (i + 1) (by omega))
          rwa [HNX.out] at h1
        have hq8 := heap_setCell_same wc p 1 _ _ (.int .i64 X.en) hp2
        have hB8 : Below w.heap.size w (wc.setCell ⟨p, 1, none⟩ (.int .i64 X.en)) := HBc.out.setCell (p := ⟨p, 1, none⟩) (show w.heap.size ≤ p from Nat.le_trans HB2.out.size hpb) _
        have hD8 : Below w2.heap.size w2 (wc.setCell ⟨p, 1, none⟩ (.int .i64 X.en)) := HDc.out.setCell (p := ⟨p, 1, none⟩) hpb _
        have hnp : (Value.slice oa kO ok).ownBlock ≠ some p := fun e => hne p e rfl
        have hR8 : RowR (wc.setCell ⟨p, 1, none⟩ (.int .i64 X.en)) w2.heap.size (.slice oa kO ok) S := ownsRow_setCell_other HRc.out (a := ⟨p, 1, none⟩) hnp _
        clear hB hD hR hst hnx
        go_upto_region 8 with fail
        generalize hw8 : wc.setCell ⟨p, 1, none⟩ (.int .i64 X.en) = w8 at hq8 hB8 hD8 hR8 ⊢
        have hpl8 : p < w8.heap.size := (Array.getElem?_eq_some_iff.1 hq8).1
        have HQ8 : Hid (w8.heap[p]? = some (.cells #[.int .i64 X.fr, .int .i64 X.en, .int .i64 X.it, .int .i64 X.cl, .int .i64 X.mo] 59 (0, 0))) := hq8
        have HB8 := Lib.hid hB8
        have HD8 := Lib.hid hD8
        have HR8 := Lib.hid hR8
        have hss8 := HD8.out.size
        clear hw8 hq8 hB8 hD8 hR8 c0 c1 c2 c3 c4 fz dn hp2 hpl hss3
        have c0 : w8.cell? ⟨p, 0, none⟩ = some (.int .i64 X.fr) := by have := HQ8.out; simp [World.cell?, this]
        have c1 : w8.cell? ⟨p, 1, none⟩ = some (.int .i64 X.en) := by have := HQ8.out; simp [World.cell?, this]
        have c2 : w8.cell? ⟨p, 2, none⟩ = some (.int .i64 X.it) := by have := HQ8.out; simp [World.cell?, this]
        have c3 : w8.cell? ⟨p, 3, none⟩ = some (.int .i64 X.cl) := by have := HQ8.out; simp [World.cell?, this]
        have c4 : w8.cell? ⟨p, 4, none⟩ = some (.int .i64 X.mo) := by have := HQ8.out; simp [World.cell?, this]
        rcases hstep.out with ⟨rfl, hres⟩ | ⟨S0, s, rfl, ⟨hal, hres⟩ | ⟨hal, hres⟩⟩
        · have hk0 : kO = 0 := hkO.out.symm
          subst hk0
          have HFn : Hid ([X] = Rl ((Bs.take (i + 1)).foldl (pstep f z m n nz nl E) []) ((Bs ++ [E]).getD (i + 1) 0)) := by show _ = _; rw [HNX.out]; exact hres.symm
          clear hres
          go_wp2
          go_quiet (fail)
          generalize hwq : w8.drewN _ = wq
          have hbq : Below w8.heap.size w8 wq := by rw [← hwq]; exact ⟨rfl, rfl, rfl, Nat.le_refl _, fun _ _ => rfl⟩
          obtain ⟨b0, b1, b2, b3, b4⟩ := five_keepA ⟨c0, c1, c2, c3, c4⟩ hbq
          have HRq := Lib.hid (HR8.out.below hbq)
          have HDq : Hid (Below w2.heap.size w2 wq) := HD8.out.trans (hbq.mono hss8)
          have hsq := HDq.out.size
          clear hwq hbq c0 c1 c2 c3 c4
          go_wp2_with (at_builtin; refine wpList_append_lies _ rfl (.tmp 70) (.tmp 72) 56 rfl w2.heap.size 59 i5 (.agg #[.int .i64 0, .int .i64 0, .int .i64 0, .int .i64 0, .int .i64 0]) 5 40 Tryd.underlying56 hi5 hz50 hz51 hz52 rfl (by decide) (.slice oa 0 ok) 0 [] rfl (HRq.out.alloc _) ⟨wq.heap.size, 0, none⟩ 1 1 X.cells rfl rfl (World.news_of_block (heap_alloc_new _ _)) (by simp [Sec.cells, Value.oneCell']) (by decide) (by unfold maxLen; omega) (by omega) (by simp; omega) (wq.heap.size + 1) (by simp) ?_; intro g2 cap2 w7 hown7 hg7 hat7 hlt7)
          have HRn : Hid (RowR w7 w2.heap.size (.slice (some ⟨g2, 0, none⟩) 1 cap2) [X]) := RowR.snoc (S := []) hown7
          have HDn : Hid (Below w2.heap.size w2 w7) := (HDq.out.alloc hsq _).grown hg7 (by simp; omega) (fun k hk => (HRq.out.lt k hk).1)
          have HLn : Hid ([X].length = 1) := rfl
          clear hown7 hg7 hat7 b0 b1 b2 b3 b4
          go_wp2
          exact ⟨⟨i + 1, [X], 1, by omega, by go_num, by omega, HLn.out, ⟨_, _, rfl⟩, HFn.out, HRn.out, HDn.out⟩, by simp [intOf]; omega⟩
        · have hk0 : kO = S0.length + 1 := by rw [← hkO.out]; simp
          subst hk0
          obtain ⟨go, co, hg⟩ := RowR.form HR8.out (by simp)
          have hoa : oa = some ⟨go, 0, none⟩ := (Value.slice.inj hg).1
          subst hoa
          clear hg
          have hcell : ∀ j, j < 5 → w8.cell? ⟨go, S0.length * 5 + j, none⟩ = s.cells[j]? := fun j hj => by
            have h1 : RowR w8 w2.heap.size (.slice (some ⟨go, 0, none⟩) (S0 ++ [s]).length ok) (S0 ++ [s]) := by rw [show (S0 ++ [s]).length = S0.length + 1 by simp]; exact HR8.out
            have h2 := h1.cell S0.length (by simp) j hj
            rwa [List.getElem_concat_length rfl] at h2
          have r1 : w8.cell? ⟨go, S0.length * 5 + 1, none⟩ = some (.int .i64 s.en) := hcell 1 (by omega)
          have r2 : w8.cell? ⟨go, S0.length * 5 + 2, none⟩ = some (.int .i64 s.it) := hcell 2 (by omega)
          have r3 : w8.cell? ⟨go, S0.length * 5 + 3, none⟩ = some (.int .i64 s.cl) := hcell 3 (by omega)
          have r4 : w8.cell? ⟨go, S0.length * 5 + 4, none⟩ = some (.int .i64 s.mo) := hcell 4 (by omega)
          have t0 : (0 : Int) ≤ (S0.length : Int) := by omega
          have t1 : (S0.length : Int) < (S0.length : Int) + 1 := by omega
          have t2 : IntKind.i64.wrap ((S0.length : Int) + 1 - 1) = (S0.length : Int) := by rw [IntWalk.i64_in _ (by omega)]; omega
          have t3 : IntKind.i64.wrap (S0.length : Int) = (S0.length : Int) := IntWalk.i64_in _ (by omega)
          have t4 : decide ((0 : Int) ≤ (S0.length : Int)) = true := by rw [decide_eq_true_eq]; omega
          have hgo := HR8.out.lt go rfl
          clear hcell
          have ha := of_decide_eq_true hal
          have k1 : (s.it == X.it) = true := by simpa using ha.1
          have k2 : (s.cl == X.cl) = true := by simpa using ha.2.1
          have k3 : (s.mo == X.mo) = true := by simpa using ha.2.2
          have HFn : Hid (S0 ++ [s.upTo X.en] = Rl ((Bs.take (i + 1)).foldl (pstep f z m n nz nl E) []) ((Bs ++ [E]).getD (i + 1) 0)) := by show _ = _; rw [HNX.out]; exact hres.symm
          have HLn : Hid ((S0 ++ [s.upTo X.en]).length = S0.length + 1) := by show _ = _; simp
          clear hres ha hal
          go_wp2
          go_quiet (fail)
          generalize hwq : w8.drewN _ = wq
          have hbq : Below w8.heap.size w8 wq := by rw [← hwq]; exact ⟨rfl, rfl, rfl, Nat.le_refl _, fun _ _ => rfl⟩
          obtain ⟨b0, b1, b2, b3, b4⟩ := five_keepA ⟨c0, c1, c2, c3, c4⟩ hbq
          have r1q := (hbq.cell (World.block_lt_of_cell? w8 _ r1)).trans r1
          have HRq : Hid (RowR wq w2.heap.size (.slice (some ⟨go, 0, none⟩) (S0.length + 1) ok) (S0 ++ [s])) := HR8.out.below hbq
          have HDq : Hid (Below w2.heap.size w2 wq) := HD8.out.trans (hbq.mono hss8)
          have hsq := HDq.out.size
          have fz : ∀ o, wq.frozen? ⟨go, o, none⟩ = false := fun o => World.ownsRow.frozenAt (n := S0.length + 1) (xs := secCells (S0 ++ [s])) (by have := HRq.out; unfold RowR at this; rwa [show (S0 ++ [s]).length = S0.length + 1 by simp] at this) o
          have hset := RowR.setTo HRq.out X.en
          have HRn := Lib.hid hset.1
          have HDn : Hid (Below w2.heap.size w2 (wq.setCell ⟨go, S0.length * 5 + 1, none⟩ (.int .i64 X.en))) := HDq.out.grown hset.2 hsq (fun k hk => by cases hk; exact hgo.1)
          clear hwq hbq c0 c1 c2 c3 c4 r1 r2 r3 r4 hset k1 k2 k3
          go_wp2
          exact ⟨⟨i + 1, S0 ++ [s.upTo X.en], S0.length + 1, by omega, by go_num, by omega, HLn.out, ⟨_, _, rfl⟩, HFn.out, HRn.out, HDn.out⟩, by simp [intOf]; omega⟩
        · have hk0 : kO = S0.length + 1 := by rw [← hkO.out]; simp
          subst hk0
          obtain ⟨go, co, hg⟩ := RowR.form HR8.out (by simp)
          have hoa : oa = some ⟨go, 0, none⟩ := (Value.slice.inj hg).1
          subst hoa
          clear hg
          have hcell : ∀ j, j < 5 → w8.cell? ⟨go, S0.length * 5 + j, none⟩ = s.cells[j]? := fun j hj => by
            have h1 : RowR w8 w2.heap.size (.slice (some ⟨go, 0, none⟩) (S0 ++ [s]).length ok) (S0 ++ [s]) := by rw [show (S0 ++ [s]).length = S0.length + 1 by simp]; exact HR8.out
            have h2 := h1.cell S0.length (by simp) j hj
            rwa [List.getElem_concat_length rfl] at h2
          have r1 : w8.cell? ⟨go, S0.length * 5 + 1, none⟩ = some (.int .i64 s.en) := hcell 1 (by omega)
          have r2 : w8.cell? ⟨go, S0.length * 5 + 2, none⟩ = some (.int .i64 s.it) := hcell 2 (by omega)
          have r3 : w8.cell? ⟨go, S0.length * 5 + 3, none⟩ = some (.int .i64 s.cl) := hcell 3 (by omega)
          have r4 : w8.cell? ⟨go, S0.length * 5 + 4, none⟩ = some (.int .i64 s.mo) := hcell 4 (by omega)
          have t0 : (0 : Int) ≤ (S0.length : Int) := by omega
          have t1 : (S0.length : Int) < (S0.length : Int) + 1 := by omega
          have t2 : IntKind.i64.wrap ((S0.length : Int) + 1 - 1) = (S0.length : Int) := by rw [IntWalk.i64_in _ (by omega)]; omega
          have t3 : IntKind.i64.wrap (S0.length : Int) = (S0.length : Int) := IntWalk.i64_in _ (by omega)
          have t4 : decide ((0 : Int) ≤ (S0.length : Int)) = true := by rw [decide_eq_true_eq]; omega
          have hgo := HR8.out.lt go rfl
          clear hcell
          have hcase : (s.it == X.it) = false ∨ ((s.it == X.it) = true ∧ (s.cl == X.cl) = false) ∨ ((s.it == X.it) = true ∧ (s.cl == X.cl) = true ∧ (s.mo == X.mo) = false) := by
            have h7 := of_decide_eq_false hal
            by_cases ha : s.it = X.it
            · by_cases hb : s.cl = X.cl
              · by_cases hc : s.mo = X.mo
                · exact absurd ⟨ha, hb, hc⟩ h7
                · exact .inr (.inr ⟨by simpa using ha, by simpa using hb, by simpa using hc⟩)
              · exact .inr (.inl ⟨by simpa using ha, by simpa using hb⟩)
            · exact .inl (by simpa using ha)
          have HFn : Hid (S0 ++ [s] ++ [X] = Rl ((Bs.take (i + 1)).foldl (pstep f z m n nz nl E) []) ((Bs ++ [E]).getD (i + 1) 0)) := by show _ = _; rw [HNX.out]; exact hres.symm
          have HLn : Hid ((S0 ++ [s] ++ [X]).length = S0.length + 1 + 1) := by show _ = _; simp
          clear hres hal
          rcases hcase with k1 | ⟨k1, k2⟩ | ⟨k1, k2, k3⟩
          all_goals
            go_wp2
            go_quiet (fail)
            generalize hwq : w8.drewN _ = wq
            have hbq : Below w8.heap.size w8 wq := by rw [← hwq]; exact ⟨rfl, rfl, rfl, Nat.le_refl _, fun _ _ => rfl⟩
            obtain ⟨b0, b1, b2, b3, b4⟩ := five_keepA ⟨c0, c1, c2, c3, c4⟩ hbq
            have HRq : Hid (wq.ownsRow w2.heap.size 59 5 (.slice (some ⟨go, 0, none⟩) (S0.length + 1) ok) (S0.length + 1) (secCells (S0 ++ [s]))) := by
              have h1 := HR8.out.below hbq
              unfold RowR at h1
              rwa [show (S0 ++ [s]).length = S0.length + 1 by simp] at h1
            have HDq : Hid (Below w2.heap.size w2 wq) := HD8.out.trans (hbq.mono hss8)
            have hsq := HDq.out.size
            clear hwq hbq c0 c1 c2 c3 c4 r1 r2 r3 r4
            go_wp2_with (at_builtin; refine wpList_append_lies _ rfl (.tmp 70) (.tmp 72) 56 rfl w2.heap.size 59 i5 (.agg #[.int .i64 0, .int .i64 0, .int .i64 0, .int .i64 0, .int .i64 0]) 5 40 Tryd.underlying56 hi5 hz50 hz51 hz52 rfl (by decide) (.slice (some ⟨go, 0, none⟩) (S0.length + 1) ok) (S0.length + 1) (secCells (S0 ++ [s])) rfl (HRq.out.alloc _) ⟨wq.heap.size, 0, none⟩ 1 1 X.cells rfl rfl (World.news_of_block (heap_alloc_new _ _)) (by simp [Sec.cells, Value.oneCell']) (by decide) (by unfold maxLen; omega) (by omega) (by simp; omega) (wq.heap.size + 1) (by simp) ?_; intro g2 cap2 w7 hown7 hg7 hat7 hlt7)
            have HRn : Hid (RowR w7 w2.heap.size (.slice (some ⟨g2, 0, none⟩) (S0.length + 1 + 1) cap2) (S0 ++ [s] ++ [X])) := RowR.snoc (by rw [show (S0 ++ [s]).length = S0.length + 1 by simp]; exact hown7)
            have HDn : Hid (Below w2.heap.size w2 w7) := (HDq.out.alloc hsq _).grown hg7 (by simp; omega) (fun k hk => by cases hk; exact hgo.1)
            clear hown7 hg7 hat7 b0 b1 b2 b3 b4
            go_wp2
            exact ⟨⟨i + 1, S0 ++ [s] ++ [X], S0.length + 1 + 1, by omega, by go_num, by omega, HLn.out, ⟨_, _, rfl⟩, HFn.out, HRn.out, HDn.out⟩, by simp [intOf]; omega⟩
    · obtain rfl : i = Bs.length := by omega
      have hq1 : decide ((Bs.length : Int) + 1 < (Bs.length : Int) + 1) = false := by rw [decide_eq_false_iff_not]; omega
      have HFe : Hid (S = RES) := by
        show _ = _
        rw [← HFin.out, HSe.out, List.take_length]
        congr 1
        simp [List.getD]
      go_wp2
      go_ret
      refine ⟨⟨_, rfl, ?_⟩, HB.out⟩
      rw [← HFe.out]
      exact HR.out.base HB2.out.size
end Go.Proofs.YtbpifllkimkokaaDoor
