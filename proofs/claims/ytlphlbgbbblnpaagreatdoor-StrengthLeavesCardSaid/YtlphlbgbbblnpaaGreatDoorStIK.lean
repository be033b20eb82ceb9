/-
  WALKS AND WORDS: StI PlT StJ StK of my texts, one behind the other.
-/
import Derived.Test.YtlphlbgbbblnpaaGreatDoorStCE
import Derived.Test.YtlphlbgbbblnpaaGreatDoorGrT
import Derived.Deep.RegionWith
import Derived.BigRegion
import Derived.Test.YtlphlbgbbblnpaaGreatDoorPlR
import Derived.Test.YtlphlbgbbblnpaaGreatDoorPlCJ
import Derived.Test.YtlphlbgbbblnpaaGreatDoorPmAF
import Derived.Test.YtlphlbgbbblnpaaGreatDoorStAB
-- StI: WALKS: strength: numbers with 20 bits behind the point; the bound of a price.
namespace Go.Proofs.YtlphlbgbbblnpaaGreatDoor
open Go.RowKit

theorem alB {w V : World} {o : Obj} (h : Below w.heap.size w V) : Below w.heap.size w (V.alloc o) := h.alloc h.size o
theorem alN {V : World} {o : Obj} {v : Value} {x : Dyadic} (h : Dy.Nm V v x) : Dy.Nm (V.alloc o) v x := h.keep ((Below.refl _ _).alloc (Nat.le_refl _) _)
theorem undrew {V W : World} (h : Below V.drew.heap.size V.drew W) : Below V.heap.size V W := ⟨h.os, h.tape, h.output, h.size, h.block⟩
/-- A block that holds the number 0, and no digit. -/
def Zb (W : World) (g : Nat) : Prop := W.heap[g]? = some (.cells #[.bool false, .slice none 0 0, .int .i64 0] 75 (0, 0))
theorem Zb.new (V : World) : Zb (V.alloc (.cells #[.bool false, .slice none 0 0, .int .i64 0] 75)) V.heap.size := World.alloc_heap_new V _
theorem Zb.keep {V W : World} {g : Nat} (h : Zb V g) (hB : Below V.heap.size V W) : Zb W g := blk1 h hB
theorem Zb.newK {V W : World} (hB : Below (V.alloc (.cells #[.bool false, .slice none 0 0, .int .i64 0] 75)).heap.size (V.alloc (.cells #[.bool false, .slice none 0 0, .int .i64 0] 75)) W) : Zb W V.heap.size := (Zb.new V).keep hB
theorem Zb.newKd {V W : World} (hB : Below (V.alloc (.cells #[.bool false, .slice none 0 0, .int .i64 0] 75)).drew.heap.size (V.alloc (.cells #[.bool false, .slice none 0 0, .int .i64 0] 75)).drew W) : Zb W V.heap.size := Zb.keep (V := (V.alloc (.cells #[.bool false, .slice none 0 0, .int .i64 0] 75)).drew) (Zb.new V) hB
theorem Zb.fr {V : World} {g : Nat} (h : Zb V g) : ∀ o, V.frozen? ⟨g, o, none⟩ = false := fun o => by simp [World.frozen?, show V.heap[g]? = _ from h]
theorem Zb.nodig {V : World} {g : Nat} (h : Zb V g) : Dy.NoDig V g := by
  intro o x hc
  simp only [World.cell?, show V.heap[g]? = _ from h] at hc
  match o, hc with
  | 0, hc => simp at hc
  | 1, hc => simp at hc
  | 2, hc => simp at hc
  | o + 3, hc => simp at hc
/-- A number stored in such a block. -/
theorem Zb.store {V : World} {g : Nat} {a : Bool} {p : Option Addr} {n k : Nat} {e : Int} {x : Dyadic} (h : Zb V g) (hv : Dy.Nm V (.agg #[.bool a, .slice p n k, .int .i64 e]) x) :
    (((V.setCell ⟨g, 0, none⟩ (.bool a)).setCell ⟨g, 1, none⟩ (.slice p n k)).setCell ⟨g, 2, none⟩ (.int .i64 e)).heap[g]? = some (.cells #[.bool a, .slice p n k, .int .i64 e] 75 (0, 0)) ∧ Dy.Nm (((V.setCell ⟨g, 0, none⟩ (.bool a)).setCell ⟨g, 1, none⟩ (.slice p n k)).setCell ⟨g, 2, none⟩ (.int .i64 e)) (.agg #[.bool a, .slice p n k, .int .i64 e]) x :=
  ⟨by rw [heap_set (heap_set (heap_set h _) _) _]; rfl, hv.set3 h.nodig⟩
set_option maxHeartbeats 1600000 in
theorem snumber_of (w : World) (n : Int) (h : Dy.I64 n) (hT : Dy.Tab w) :
    Calls Tryz.prog 66 #[.int .i64 n] w (Dy.Ret w fun w' v => Dy.Nm w' v (Dy.mk n 0)) := by
  have HT := Lib.hid hT
  have HI := Lib.hid h
  clear hT h
  go_enter Tryz.func66, Tryz.ntmps66
  go_wp2_with fail
  refine (Dy.int_nm _ n HI.out (HT.out.keep ((Below.refl _ _).alloc (Nat.le_refl _) _))).mono ?_
  rintro e1 w1 ⟨v1, rfl, hv1, hb1⟩
  have hb0 : Hid (Below w.heap.size w w1) := ((Below.refl _ _).alloc (Nat.le_refl _) _).trans (hb1.mono (by simp))
  obtain ⟨hcc, hff⟩ := Dy.bcell hb1
  have HND : Hid (Dy.NoDig w1 w.heap.size) := (Dy.noDig_at rfl).keep hb1 (by simp)
  have hz : w.heap.size < w1.heap.size := by have := hb1.size; simp at this; omega
  have H4 := Lib.hid hv1
  obtain ⟨a4, p4, n4, k4, e4, m4, rfl, _, _⟩ := hv1.fields
  clear hb1 hv1
  go_wp2
  refine bodyPost_ret (v := .agg #[.bool a4, .slice p4 n4 k4, .int .i64 e4]) (by simp [results, Tryz.results66, go_sem, hcc]) rfl ⟨_, rfl, H4.out.laid HND.out, ?_⟩
  exact ((hb0.out.setCell (by simp) _).setCell (by simp) _).setCell (by simp) _

theorem mk20 (n : Int) : Dy.mk n 0 = Dy.mk (n * 1048576) (-20) := by
  have h := Dy.mk_shift n (-20) 20
  rw [show (2 : Int) ^ 20 = 1048576 by decide, show (-20 : Int) + ((20 : Nat) : Int) = 0 by decide] at h
  exact h.symm
theorem sgn_mkE (i e : Int) : (Dy.sgn (Dy.mk i e) < 0 ↔ i < 0) ∧ (Dy.sgn (Dy.mk i e) > 0 ↔ 0 < i) := by
  rcases Int.lt_trichotomy i 0 with h | h | h
  · have := Dy.sgn_neg (Dy.mk_neg' (e := e) h); rw [this]; omega
  · subst h; have := Dy.sgn_zero; rw [Dy.mk_zero, this]; omega
  · have := Dy.sgn_pos (Dy.mk_pos (e := e) h); rw [this]; omega
theorem bx20 {i : Int} (h : -1152921504606846976 < i ∧ i < 1152921504606846976) : Dy.Box (Dy.mk i (-20)) 60 20 := ⟨i, rfl, by omega⟩
/-- A number with 20 bits behind the point. -/
abbrev Nq (w : World) (v : Value) (i : Int) : Prop := Dy.Nm w v (Dy.mk i (-20))
theorem Nq.keep {w w' : World} {v : Value} {i : Int} (h : Nq w v i) (hb : Below w.heap.size w w') : Nq w' v i := Dy.Nm.keep h hb
/-- A number is stored in a result. -/
theorem Zb.laid {V W9 : World} {B g : Nat} {a : Bool} {p : Option Addr} {n k : Nat} {e : Int} {x : Dyadic} (h : Zb V g) (hv : Dy.Nm V (.agg #[.bool a, .slice p n k, .int .i64 e]) x) (w : World) (hB : Below B w V) (hg : B ≤ g)
    (h9 : ((V.setCell ⟨g, 0, none⟩ (.bool a)).setCell ⟨g, 1, none⟩ (.slice p n k)).setCell ⟨g, 2, none⟩ (.int .i64 e) = W9) :
    W9.heap[g]? = some (.cells #[.bool a, .slice p n k, .int .i64 e] 75 (0, 0)) ∧ Dy.Nm W9 (.agg #[.bool a, .slice p n k, .int .i64 e]) x ∧ Below B w W9 := by
  subst h9
  exact ⟨(h.store hv).1, (h.store hv).2, Dy.below_set3 hB hg⟩
set_option maxHeartbeats 1600000 in
theorem spos_of (w : World) (v : Value) (i : Int) (h : Nq w v i) (_hT : Dy.Tab w) :
    Calls Tryz.prog 99 #[v] w (Dy.Ret w fun w' v => Nq w' v (max i 0)) := by
  have H := Lib.hid h
  obtain ⟨a, p, n, k, e, m, rfl, _, _⟩ := Dy.Nm.fields h
  clear h
  go_enter Tryz.func99, Tryz.ntmps99
  go_wp2_with fail
  obtain ⟨W, hW⟩ : ∃ W, (w.alloc (.cells #[.bool a, .slice p n k, .int .i64 e] 75)).alloc (.cells #[.bool false, .slice none 0 0, .int .i64 0] 75) = W := ⟨_, rfl⟩
  rw [hW]
  have hB : Below w.heap.size w W := by rw [← hW]; exact ((Below.refl _ _).alloc (Nat.le_refl _) _).alloc (by simp) _
  have hP : W.heap[w.heap.size]? = some (.cells #[.bool a, .slice p n k, .int .i64 e] 75 (0, 0)) := by rw [← hW]; exact al_old (World.alloc_heap_new w _) _
  have hR : Zb W (w.heap.size + 1) := by rw [← hW]; exact al_1 w _ _
  have HB := Lib.hid hB
  have HP := Lib.hid hP
  have HR := Lib.hid hR
  clear hW hB hP hR
  refine (Dy.sign_nm W _ _ (H.out.keep HB.out)).mono ?_
  rintro e1 W1 ⟨rfl, hb⟩
  have hs := (sgn_mkE i (-20)).1
  generalize Dy.sgn (Dy.mk i (-20)) = s at hs ⊢
  have hP1 := blk1 HP.out hb
  have HR1 := Lib.hid (HR.out.keep hb)
  have HB1 := Lib.hid (low_trans HB.out hb)
  have s0 := cell_h (k := 0) hP1 rfl
  have s1 := cell_h (k := 1) hP1 rfl
  have s2 := cell_h (k := 2) hP1 rfl
  have z0 := cell_h (k := 0) HR1.out rfl
  have z1 := cell_h (k := 1) HR1.out rfl
  have z2 := cell_h (k := 2) HR1.out rfl
  have zf := HR1.out.fr
  clear hb hP1 HP HR HB
  by_cases h0 : i < 0
  · have hs0 : s < 0 := hs.2 h0
    have em : max i 0 = 0 := by omega
    have HQ : Hid (∀ W9, ((W1.setCell ⟨w.heap.size + 1, 0, none⟩ (.bool false)).setCell ⟨w.heap.size + 1, 1, none⟩ (.slice none 0 0)).setCell ⟨w.heap.size + 1, 2, none⟩ (.int .i64 0) = W9 → W9.heap[w.heap.size + 1]? = some (.cells #[.bool false, .slice none 0 0, .int .i64 0] 75 (0, 0)) ∧ Dy.Nm W9 (.agg #[.bool false, .slice none 0 0, .int .i64 0]) 0 ∧ Below w.heap.size w W9) := fun W9 h9 => HR1.out.laid (Dy.Nm.zero W1) w HB1.out (by omega) h9
    clear hs h0
    go_wp2_with fail
    generalize h9 : ((W1.setCell ⟨w.heap.size + 1, 0, none⟩ (.bool false)).setCell ⟨w.heap.size + 1, 1, none⟩ (.slice none 0 0)).setCell ⟨w.heap.size + 1, 2, none⟩ (.int .i64 0) = W9
    obtain ⟨q1, q2, q3⟩ := HQ.out W9 h9
    have y0 := cell_h (k := 0) q1 rfl
    have y1 := cell_h (k := 1) q1 rfl
    have y2 := cell_h (k := 2) q1 rfl
    exact bodyPost_ret (v := .agg #[.bool false, .slice none 0 0, .int .i64 0]) (by simp [results, Tryz.results99, go_sem, y0, y1, y2]) rfl ⟨_, rfl, by rw [em]; exact q2, q3⟩
  · have hs0 : ¬(s < 0) := fun e => h0 (hs.1 e)
    have em : max i 0 = i := by omega
    have HQ : Hid (∀ W9, ((W1.setCell ⟨w.heap.size + 1, 0, none⟩ (.bool a)).setCell ⟨w.heap.size + 1, 1, none⟩ (.slice p n k)).setCell ⟨w.heap.size + 1, 2, none⟩ (.int .i64 e) = W9 → W9.heap[w.heap.size + 1]? = some (.cells #[.bool a, .slice p n k, .int .i64 e] 75 (0, 0)) ∧ Dy.Nm W9 (.agg #[.bool a, .slice p n k, .int .i64 e]) (Dy.mk i (-20)) ∧ Below w.heap.size w W9) := fun W9 h9 => HR1.out.laid (H.out.keep HB1.out) w HB1.out (by omega) h9
    clear hs h0
    go_wp2_with fail
    generalize h9 : ((W1.setCell ⟨w.heap.size + 1, 0, none⟩ (.bool a)).setCell ⟨w.heap.size + 1, 1, none⟩ (.slice p n k)).setCell ⟨w.heap.size + 1, 2, none⟩ (.int .i64 e) = W9
    obtain ⟨q1, q2, q3⟩ := HQ.out W9 h9
    have y0 := cell_h (k := 0) q1 rfl
    have y1 := cell_h (k := 1) q1 rfl
    have y2 := cell_h (k := 2) q1 rfl
    exact bodyPost_ret (v := .agg #[.bool a, .slice p n k, .int .i64 e]) (by simp [results, Tryz.results99, go_sem, y0, y1, y2]) rfl ⟨_, rfl, by rw [em]; exact q2, q3⟩
end Go.Proofs.YtlphlbgbbblnpaaGreatDoor
-- PlT: REGIONS whose last operation is a store into what they read: all operations stand ahead of it, so what they read need not be kept behind it.
namespace Go.Proofs.YtlphlbgbbblnpaaGreatDoor
open Go.RowKit Go.Shelf

attribute [local go_sem] Oper.semAt_some

section
variable {F : Fence} {n : Nat} {P : Program} {ops : Array Oper} {Q : Exit → Act → World → Prop} {md : Region.Mode} {S : World → Prop} {t : Nat}

/-- Whatever order is picked, and S holds behind each operation other than number t. -/
def anyT (t : Nat) (F : Fence) (n : Nat) (P : Program) (md : Region.Mode) (ops : Array Oper) (Q : Exit → Act → World → Prop) (S : World → Prop) : Nat → Array Bool → Act → World → Prop
  | 0, listed, a, w => Region.ready md ops listed = [] ∧ Q .normal a w
  | fuel + 1, listed, a, w =>
    (Region.ready md ops listed = [] → Q .normal a w) ∧
    ∀ i ∈ Region.ready md ops listed, wpOpIn F n P ops Q i (fun a' w' => (i = t ∨ S w') ∧ anyT t F n P md ops Q S fuel (listed.setIfInBounds i true) a' w') a w

theorem anyT_any : ∀ (fuel : Nat) (listed : Array Bool) (a : Act) (w : World), anyT t F n P md ops Q S fuel listed a w → wpAnyIn F n P md ops Q fuel listed a w
  | 0, _, _, _, h => h
  | fuel + 1, _, _, _, h => ⟨h.1, fun i hi => wpOpIn_mono (fun a' w' h' => anyT_any fuel _ a' w' h'.2) (h.2 i hi)⟩

/-- Number t stands behind number i. -/
def behindB (md : Region.Mode) (ops : Array Oper) (t i : Nat) : Bool := match ops[t]? with
  | none => false
  | some o => o.after.any fun e => Region.binds md e && e.on == i
theorem behindB_spec {i : Nat} {o : Oper} (h : behindB md ops t i = true) (ho : ops[t]? = some o) : ∃ e ∈ o.after, Region.binds md e = true ∧ e.on = i := by
  unfold behindB at h
  rw [ho] at h
  simp only [Array.any_eq_true'] at h
  obtain ⟨e, he, h⟩ := h
  simp only [Bool.and_eq_true, beq_iff_eq] at h
  exact ⟨e, he, h⟩

theorem anyT_first (hF : ∀ f, F.fn f) {i : Nat} {oi : Oper} {v : Value} (hi : ops[i]? = some oi) (hsel : ∀ (j : Nat) (o : Oper) cs b, ops[j]? = some o → o.op ≠ .select cs b)
    (hd : ∀ (j : Nat) (o : Oper) c, ops[j]? = some o → o.op ≠ .defer c) (hQ : ∀ c a w, Q (.panic c) (a.put oi.dst v) w → Q (.panic c) a w) (hti : behindB md ops t i = true) :
    ∀ (fuel : Nat) (listed : Array Bool) (a : Act) (w : World),
      (∀ j oj, ops[j]? = some oj → j ≠ i → listed.getD j true = false → (∀ e ∈ oj.after, Region.binds md e = true → e.on ≠ i) → oi.apart ops oj = true) →
      i ∈ Region.ready md ops listed → YieldsIf P ops S oi v a → S w →
      anyT t F n P md ops Q S fuel (listed.setIfInBounds i true) (a.put oi.dst v) w → anyT t F n P md ops Q S (fuel + 1) listed a w
  | fuel, listed, a, w, hfree, hr, hy, hS, H => by
    refine ⟨fun h => (by rw [h] at hr; cases hr), fun j hj => ?_⟩
    by_cases hji : j = i
    · subst hji; exact opI_gives hF hi (fun c => hd _ _ c hi) hy hS ⟨.inr hS, H⟩
    · cases fuel with
      | zero =>
        have := ready_mono hj hji
        rw [H.1] at this
        cases this
      | succ fuel =>
        obtain ⟨hjun, oj, hoj, hall⟩ := mem_ready.1 hj
        have hnot : ∀ e ∈ oj.after, Region.binds md e = true → e.on ≠ i := fun e he hb heq => by
          have h1 := hall e he hb
          have h0 := (mem_ready.1 hr).1
          rw [heq] at h1
          rcases Nat.lt_or_ge i listed.size with h' | h'
          · simp [h'] at h0 h1; rw [h0] at h1; cases h1
          · simp [Array.getElem?_eq_none h'] at h1
        have hjt : j ≠ t := fun e => by
          subst e
          obtain ⟨e, he, hb, hon⟩ := behindB_spec hti hoj
          exact hnot e he hb hon
        refine wpOpIn_mono (fun a' w' h3 => ⟨h3.2.1, anyT_first hF hi hsel hd hQ hti fuel (listed.setIfInBounds j true) a' w' ?_ (ready_mono hr (Ne.symm hji)) h3.1 (h3.2.1.resolve_left hjt) ?_⟩)
          (opI_put hF hoj (hfree j oj hoj hji hjun hnot) (fun cs b => hsel i oi cs b hi) (fun cs b => hsel j oj cs b hoj) (fun c => hd j oj c hoj) hQ hy (H.2 j (ready_mono hj hji)))
        · intro k ok hk hki hun hno
          refine hfree k ok hk hki ?_ hno
          by_cases hjk : j = k
          · subst hjk; exact hjun
          · rw [getD_set_ne true hjk] at hun; exact hun
        · rw [Array.setIfInBounds_comm _ _ hji]; exact h3.2.2

theorem anyT_one (i : Nat) {fuel : Nat} {listed : Array Bool} {a : Act} {w : World} (hr : Region.ready md ops listed = [i])
    (h : wpOpIn F n P ops Q i (fun a' w' => (i = t ∨ S w') ∧ anyT t F n P md ops Q S fuel (listed.setIfInBounds i true) a' w') a w) : anyT t F n P md ops Q S (fuel + 1) listed a w :=
  ⟨fun h0 => absurd (hr.symm.trans h0) (by simp), fun j hj => by
    have e : j = i := by rw [hr] at hj; simpa using hj
    rw [e]; exact h⟩
theorem anyT_done {listed : Array Bool} {a : Act} {w : World} (hr : Region.ready md ops listed = []) (h : Q .normal a w) :
    ∀ fuel, anyT t F n P md ops Q S fuel listed a w
  | 0 => ⟨hr, h⟩
  | _ + 1 => ⟨fun _ => h, by rw [hr]; simp⟩
theorem anyT_takeD (hF : ∀ f, F.fn f) (i d : Nat) {oi : Oper} {v : Value} {fuel : Nat} {listed : Array Bool} {a : Act} {w : World} (hi : ops[i]? = some oi) (hdst : oi.dst = some d)
    (hs : Region.noSelect ops = true) (hd : noDefer ops = true) (hf : Region.free md ops listed i = true) (hr : (Region.ready md ops listed).contains i = true) (hti : behindB md ops t i = true)
    (hQ : ∀ c a w, Q (.panic c) (a.put oi.dst v) w → Q (.panic c) a w) (hS : S w) (hg : oi.guard = none) (hy : ∀ w, S w → (execOp a.eval oi).run P w = .ok (.value v) w)
    (h : anyT t F n P md ops Q S fuel (listed.setIfInBounds i true) { tmps := a.tmps.setIfInBounds d v, defers := a.defers } w) : anyT t F n P md ops Q S (fuel + 1) listed a w :=
  anyT_first hF hi (Region.noSelect_spec hs) (noDefer_spec hd) hQ hti fuel listed a w (Region.free_spec hi hf) (by simpa using hr) (.inl ⟨by simp [Region.wanted, hg], hy⟩) hS (by rw [put_some hdst]; exact h)
theorem anyT_skipN (hF : ∀ f, F.fn f) {o : Oper} {fuel : Nat} {listed : Array Bool} {a : Act} {w w2 : World} (hi : ops[t]? = some o) (hdst : o.dst = none) (hd : noDefer ops = true) (hr : Region.ready md ops listed = [t])
    (hg : o.guard = none) (hv : (execOp a.eval o).run P w = .ok .skip w2)
    (h : anyT t F n P md ops Q S fuel (listed.setIfInBounds t true) a w2) : anyT t F n P md ops Q S (fuel + 1) listed a w := by
  refine anyT_one t hr ?_
  unfold wpOpIn
  have hw : Region.wanted o (yielded ops a.tmps) = true := by simp [Region.wanted, hg]
  simp only [hi, hw, if_true, Oper.wpIn, Oper.semAt_eq _ _ _ (fun c => noDefer_spec hd t o c hi), hv, Oper.uponIn]
  exact ⟨fun f _ => hF f, .inl trivial, by rw [put_none hdst]; exact h⟩
theorem anyT_call (hF : ∀ f, F.fn f) (hn : F.depth.isSome = true → 1 ≤ n) (i d : Nat) {o : Oper} {fuel : Nat} {listed : Array Bool} {a : Act} {w : World} {f : FuncId} {args : Array Value} {R : Ending → World → Prop} (hi : ops[i]? = some o) (hdst : o.dst = some d) (hd : noDefer ops = true) (hr : Region.ready md ops listed = [i])
    (hw : Region.wanted o (yielded ops a.tmps) = true) (hv : (execOp a.eval o).run P w = .ok (.enter f args) w) (hc : CallsIn F (n - 1) P f args w R)
    (h : ∀ e w', R e w' → ∃ v, e = .returned v ∧ S w' ∧ anyT t F n P md ops Q S fuel (listed.setIfInBounds i true) { tmps := a.tmps.setIfInBounds d v, defers := a.defers } w') : anyT t F n P md ops Q S (fuel + 1) listed a w := by
  refine anyT_one i hr ?_
  unfold wpOpIn
  simp only [hi, hw, if_true, Oper.wpIn, Oper.semAt_eq _ _ _ (fun c => noDefer_spec hd i o c hi), hv, Oper.uponIn]
  refine ⟨fun f _ => hF f, hn, hc.mono ?_⟩
  intro e w' he
  obtain ⟨v, rfl, hS, hA⟩ := h e w' he
  exact ⟨.inr hS, by rw [put_some hdst]; exact hA⟩
theorem wpIn_region_T {id : Nat} {a : Act} {w : World} (t : Nat) (S : World → Prop) (hm : P.follows .mixedOrders = true)
    (h : anyT t F n P .any ops Q S ops.size (Array.replicate ops.size false) a w.drew) : (Code.region id ops true).wpIn F n P Q a w :=
  wpIn_region_any hm (anyT_any _ _ _ _ h)
end
end Go.Proofs.YtlphlbgbbblnpaaGreatDoor
-- StJ: WALKS: strength: the bound of a price.
namespace Go.Proofs.YtlphlbgbbblnpaaGreatDoor
open Go.RowKit

/-- The bound before it is held against 0, behind the first k jobs. -/
def bdS (f : Nat → Int) (n : Nat) (m L : Int) (k : Nat) : Int := rsk f n * 1048576 - L * m - si k fun i => max (f (i * 4) * 1048576 - L * f (i * 4 + 1)) 0
theorem bdS_step (f : Nat → Int) (n : Nat) (m L : Int) (k : Nat) : bdS f n m L (k + 1) = bdS f n m L k - max (f (k * 4) * 1048576 - L * f (k * 4 + 1)) 0 := by
  unfold bdS; simp only [si]; omega
theorem bdS_end (f : Nat → Int) (n : Nat) (C N L : Int) : max (bdS f n (C * N) L n) 0 = bdI f n C N L 1048576 := by
  unfold bdS bdI
  rw [Int.mul_comm L (C * N)]
  have e : (fun i => max (f (i * 4) * 1048576 - L * f (i * 4 + 1)) 0) = fun i => max 0 (f (i * 4) * 1048576 - f (i * 4 + 1) * L) := by
    funext i; rw [Int.mul_comm L, Int.max_comm]
  rw [e, Int.max_comm]
theorem mulL {L x : Int} (hL : 0 ≤ L ∧ L ≤ 2199023255552) (hx : 0 ≤ x ∧ x ≤ 1460) : 0 ≤ L * x ∧ L * x ≤ 3210573953105920 := by
  refine ⟨Int.mul_nonneg hL.1 hx.1, ?_⟩
  have h1 : L * x ≤ 2199023255552 * x := Int.mul_le_mul_of_nonneg_right hL.2 hx.1
  omega
theorem bdS_fits {f : Nat → Int} {n : Nat} {m L : Int} (hr : 0 ≤ rsk f n ∧ rsk f n ≤ 24000000) (hm : 0 ≤ m ∧ m ≤ 1460) (hL : 0 ≤ L ∧ L ≤ 2199023255552) (hf : ∀ i, i < n → (0 ≤ f (i * 4) ∧ f (i * 4) ≤ 1000000) ∧ 1 ≤ f (i * 4 + 1) ∧ f (i * 4 + 1) ≤ 365) (hn : n ≤ 24) :
    ∀ {k : Nat}, k ≤ n → -3210573953105920 - k * 1048576000000 ≤ bdS f n m L k ∧ bdS f n m L k ≤ 25165824000000
  | 0, _ => by
    have := mulL hL hm
    unfold bdS; simp only [si]; omega
  | k + 1, hk => by
    have h1 := bdS_fits hr hm hL hf hn (k := k) (by omega)
    have h2 := hf k (by omega)
    have h3 := mulL hL (x := f (k * 4 + 1)) (by omega)
    rw [bdS_step]
    omega

theorem lowB {B : Nat} {w V W : World} (hB : B ≤ V.heap.size) (h : Below B w V) (hb : Below V.heap.size V W) : Below B w W := h.trans (hb.mono hB)
theorem blk1' {W W' : World} {a : Nat} {x : Obj} (h : W.heap[a]? = some x) (hB : Below W.heap.size W W') (_ : a < W.heap.size) : W'.heap[a]? = some x := (hB.block _ (Array.getElem?_eq_some_iff.1 h).1).trans h
/-- A number stored over another one. -/
theorem num_nodig {V : World} {g : Nat} {a : Bool} {p : Option Addr} {n k : Nat} {e : Int} (h : V.heap[g]? = some (.cells #[.bool a, .slice p n k, .int .i64 e] 75 (0, 0))) : Dy.NoDig V g := by
  intro o x hc
  simp only [World.cell?, h] at hc
  match o, hc with
  | 0, hc => simp at hc
  | 1, hc => simp at hc
  | 2, hc => simp at hc
  | o + 3, hc => simp at hc
theorem num_store {V : World} {g : Nat} {a a' : Bool} {p p' : Option Addr} {n k n' k' : Nat} {e e' : Int} {x : Dyadic} (h : V.heap[g]? = some (.cells #[.bool a', .slice p' n' k', .int .i64 e'] 75 (0, 0))) (hv : Dy.Nm V (.agg #[.bool a, .slice p n k, .int .i64 e]) x) :
    (((V.setCell ⟨g, 0, none⟩ (.bool a)).setCell ⟨g, 1, none⟩ (.slice p n k)).setCell ⟨g, 2, none⟩ (.int .i64 e)).heap[g]? = some (.cells #[.bool a, .slice p n k, .int .i64 e] 75 (0, 0)) ∧ Dy.Nm (((V.setCell ⟨g, 0, none⟩ (.bool a)).setCell ⟨g, 1, none⟩ (.slice p n k)).setCell ⟨g, 2, none⟩ (.int .i64 e)) (.agg #[.bool a, .slice p n k, .int .i64 e]) x :=
  ⟨by rw [heap_set (heap_set (heap_set h _) _) _]; rfl, hv.set3 (num_nodig h)⟩
set_option maxRecDepth 100000 in
set_option maxHeartbeats 16000000 in
theorem sbound_of (w : World) (q : Option Addr) (n c : Nat) (f : Nat → Int) (C N L : Int) (v : Value) (hj : jsE f n C N = 0) (hL : 0 ≤ L ∧ L ≤ 2199023255552) (hS : Sl w 4 q n f) (hv : Nq w v L) (hT : Dy.Tab w) :
    Calls Tryz.prog 64 #[.slice q n c, .int .i64 C, .int .i64 N, v] w (Dy.Ret w fun w' v => Nq w' v (bdI f n C N L 1048576)) := by
  obtain ⟨hn, hC, hN, hjf⟩ := jok_of hj
  have hrk : 0 ≤ rsk f n ∧ rsk f n ≤ 24000000 := by
    unfold rsk
    refine ⟨si_nn fun i hi => (hjf i hi).1.1, ?_⟩
    have h1 : si n (fun i => f (i * 4)) ≤ si n (fun _ => (1000000 : Int)) := si_le fun i hi => (hjf i hi).1.2
    have h2 : ∀ n : Nat, si n (fun _ => (1000000 : Int)) = 1000000 * n := fun n => by
      induction n with
      | zero => rfl
      | succ n ih => simp only [si, ih]; push_cast; omega
    rw [h2] at h1; omega
  have hm0 : 0 ≤ C * N ∧ C * N ≤ 1460 := by
    refine ⟨Int.mul_nonneg (by omega) hN.1, ?_⟩
    have h1 : C * N ≤ 4 * N := Int.mul_le_mul_of_nonneg_right hC.2 hN.1
    omega
  have HFit := Lib.hid (fun k hk => bdS_fits (f := f) (n := n) (m := C * N) (L := L) hrk hm0 hL (fun i hi => ⟨(hjf i hi).1, (hjf i hi).2.1⟩) hn (k := k) hk)
  have HEnd := Lib.hid (bdS_end f n C N L)
  have HStep := Lib.hid (fun k => bdS_step f n (C * N) L k)
  have H00 : Hid (bdS f n (C * N) L 0 = rsk f n * 1048576 - L * (C * N)) := by unfold bdS; simp only [si]; exact Lib.hid (by omega)
  obtain ⟨bI, hbI⟩ : ∃ x, bdI f n C N L 1048576 = x := ⟨_, rfl⟩
  rw [hbI] at HEnd
  rw [hbI]
  have HRk : Hid (∀ V, Below w.heap.size w V → Calls Tryz.prog 61 #[.slice q n c] V fun e w' => e = .returned (.int .i64 (rsk f n)) ∧ Below V.heap.size V w') := fun V hV => srisk_of V q n c f hn (fun i hi => (hjf i hi).1) (hS.keep (by decide) hV)
  obtain ⟨r, hr⟩ : ∃ r, rsk f n = r := ⟨_, rfl⟩
  rw [hr] at HRk hrk H00
  obtain ⟨m, hm⟩ : ∃ m, C * N = m := ⟨_, rfl⟩
  simp only [hm] at HFit HEnd HStep H00 hm0
  have hwm : IntKind.i64.wrap (C * N) = m := by rw [hm]; exact IntWalk.i64_in _ (by omega)
  have HS := Lib.hid hS
  have HV := Lib.hid hv
  have HT := Lib.hid hT
  have HJf := Lib.hid hjf
  obtain ⟨a, p, l, k0, e0, m0, rfl, _, _⟩ := Dy.Nm.fields hv
  clear hbI hr hm hS hv hT hjf hj
  have HN1 : Hid (∀ V, Below w.heap.size w V → Calls Tryz.prog 66 #[.int .i64 r] V (Dy.Ret V fun w' v => Nq w' v (r * 1048576))) := fun V hV => by
    have h := snumber_of V r (by unfold Dy.I64; omega) (HT.out.keep hV)
    rw [mk20] at h
    exact h
  have HN2 : Hid (∀ V, Below w.heap.size w V → Calls Tryz.prog 66 #[.int .i64 m] V (Dy.Ret V fun w' v => Dy.Nm w' v (Dy.mk m 0))) := fun V hV => snumber_of V m (by unfold Dy.I64; omega) (HT.out.keep hV)
  have HM : Hid (∀ V u (x : Int), 0 ≤ x ∧ x ≤ 1460 → Below w.heap.size w V → Dy.Nm V u (Dy.mk x 0) → Calls Tryz.prog 98 #[.agg #[.bool a, .slice p l k0, .int .i64 e0], u] V (Dy.Ret V fun w' v => Nq w' v (L * x))) := fun V u x hx hV hu => by
    have h := Dy.mul_nm V _ _ _ _ 60 20 40 0 (HV.out.keep hV) hu (bx20 (by omega)) (bx (by omega)) (by omega) (HT.out.keep hV)
    rw [Dy.mk_mul, show (-20 : Int) + 0 = -20 from rfl] at h
    exact h
  have HD : Hid (∀ V u u' (x y : Int), (-1152921504606846976 < x ∧ x < 1152921504606846976) → (-1152921504606846976 < y ∧ y < 1152921504606846976) → Below w.heap.size w V → Nq V u x → Nq V u' y → Calls Tryz.prog 72 #[u, u'] V (Dy.Ret V fun w' v => Nq w' v (x - y))) := fun V u u' x y hx hy hV hu hu' => by
    have h := Dy.sub_nm V _ _ _ _ 60 20 60 20 hu hu' (bx20 hx) (bx20 hy) (by omega) (HT.out.keep hV)
    rw [mk_sub] at h
    exact h
  go_enter Tryz.func64, Tryz.ntmps64
  go_upto_region 1 with fail
  obtain ⟨V0, hW⟩ : ∃ W, (w.alloc (.cells #[.bool a, .slice p l k0, .int .i64 e0] 75)).alloc (.cells #[.bool false, .slice none 0 0, .int .i64 0] 75) = W := ⟨_, rfl⟩
  rw [hW]
  have hB : Below w.heap.size w V0 := by rw [← hW]; exact ((Below.refl _ _).alloc (Nat.le_refl _) _).alloc (by simp) _
  have hP : V0.heap[w.heap.size]? = some (.cells #[.bool a, .slice p l k0, .int .i64 e0] 75 (0, 0)) := by rw [← hW]; exact al_old (World.alloc_heap_new w _) _
  have hR : Zb V0 (w.heap.size + 1) := by rw [← hW]; exact al_1 w _ _
  have HB := Lib.hid hB
  have HP := Lib.hid hP
  have HR := Lib.hid hR
  clear hW hB hP hR
  obtain ⟨B7, hB7⟩ : ∃ b, w.heap.size = b := ⟨_, rfl⟩
  have HB7 := Lib.hid hB7
  rw [hB7] at HP HR
  rw [hB7]
  have hBl7 : B7 < V0.heap.size := (Array.getElem?_eq_some_iff.1 HP.out).1
  clear hB7
  have HMq := Lib.hid (mulL hL hm0)
  go_cut [9] (fun s9 wx => ∃ (G : Nat) (a6 : Bool) (p6 : Option Addr) (n6 k6 : Nat) (e6 : Int), s9 = .pointer (some ⟨G, 0, none⟩) ∧ V0.heap.size ≤ G ∧ wx.heap[G]? = some (.cells #[.bool a6, .slice p6 n6 k6, .int .i64 e6] 75 (0, 0)) ∧ Nq wx (.agg #[.bool a6, .slice p6 n6 k6, .int .i64 e6]) (r * 1048576 - L * m) ∧ Below V0.heap.size V0 wx)
  case first =>
    clear HR
    have hw : Below w.heap.size w V0.drew := HB.out.drew
    have hw1 : Below w.heap.size w V0 := HB.out
    have HPd : Hid (V0.drew.heap[B7]? = some (.cells #[.bool a, .slice p l k0, .int .i64 e0] 75 (0, 0))) := HP.out
    have hS0 : V0.drew.cell? ⟨B7, 0, none⟩ = some (.bool a) ∧ V0.drew.cell? ⟨B7, 1, none⟩ = some (.slice p l k0) ∧ V0.drew.cell? ⟨B7, 2, none⟩ = some (.int .i64 e0) := ⟨cell_h HPd.out rfl, cell_h HPd.out rfl, cell_h HPd.out rfl⟩
    obtain ⟨s0, s1, s2⟩ := id hS0
    have hKP : ∀ V, Below V0.drew.heap.size V0.drew V → V.cell? ⟨B7, 0, none⟩ = some (.bool a) ∧ V.cell? ⟨B7, 1, none⟩ = some (.slice p l k0) ∧ V.cell? ⟨B7, 2, none⟩ = some (.int .i64 e0) := fun V hV => ⟨cell_h (blk1 HPd.out hV) rfl, cell_h (blk1 HPd.out hV) rfl, cell_h (blk1 HPd.out hV) rfl⟩
    have hd : Below V0.drew.heap.size V0.drew V0.drew := Below.refl _ _
    have hd1 : Below V0.drew.heap.size V0.drew V0 := ⟨rfl, rfl, rfl, Nat.le_refl _, fun _ _ => rfl⟩
    have hbM := HMq.out
    go_region_held3 (fun W' => W'.cell? ⟨B7, 0, none⟩ = some (.bool a) ∧ W'.cell? ⟨B7, 1, none⟩ = some (.slice p l k0) ∧ W'.cell? ⟨B7, 2, none⟩ = some (.int .i64 e0))
      (first | (with_reducible assumption) | (exact hKP _ (alB (by assumption))) | (exact hKP _ (alB (by assumption)).drew) | (exact hKP _ (Dy.below_set3 (by first | assumption | exact alB (by assumption)) (Below.size (w := V0.drew) (by assumption)))))
      (first
        | (go_at_call 61; refine (HRk.out _ (by first | assumption | exact alB (by assumption) | exact (alB (by assumption)).drew)).mono ?_; rintro e9 V2 ⟨rfl, hb2⟩; (have hL2 := low_trans (w := w) (by first | assumption | exact alB (by assumption) | exact (alB (by assumption)).drew) hb2); (have hd2 := low_trans (w := V0.drew) (by first | assumption | exact alB (by assumption) | exact (alB (by assumption)).drew) hb2); (have hS2 := hKP V2 hd2); (try (have hz2 := Zb.newK hb2)); (try (have hz2 := Zb.newKd hb2)); (try (have hz2 := Zb.keep (by assumption) hb2)))
        | (go_at_call 66; refine (HN1.out _ (by first | assumption | exact alB (by assumption) | exact (alB (by assumption)).drew)).mono ?_; rintro e9 V3 ⟨v3, rfl, hv3, hb3⟩; (have hL3 := low_trans (w := w) (by first | assumption | exact alB (by assumption) | exact (alB (by assumption)).drew) hb3); (have hd3 := low_trans (w := V0.drew) (by first | assumption | exact alB (by assumption) | exact (alB (by assumption)).drew) hb3); (have hS3 := hKP V3 hd3); (try (have hz3 := Zb.newK hb3)); (try (have hz3 := Zb.newKd hb3)); (try (have hz3 := Zb.keep (by assumption) hb3)); (obtain ⟨b3, q3, l3, c3, f3, m3, rfl, _, _⟩ := id (Dy.Nm.fields hv3)))
        | (go_at_call 66; refine (HN2.out _ (by first | assumption | exact alB (by assumption) | exact (alB (by assumption)).drew)).mono ?_; rintro e9 V4 ⟨v4, rfl, hv4, hb4⟩; (have hL4 := low_trans (w := w) (by first | assumption | exact alB (by assumption) | exact (alB (by assumption)).drew) hb4); (have hd4 := low_trans (w := V0.drew) (by first | assumption | exact alB (by assumption) | exact (alB (by assumption)).drew) hb4); (have hS4 := hKP V4 hd4); (try (have hz4 := Zb.newK hb4)); (try (have hz4 := Zb.newKd hb4)); (try (have hz4 := Zb.keep (by assumption) hb4)); (obtain ⟨b4, q4, l4, c4, f4, m4, rfl, _, _⟩ := id (Dy.Nm.fields hv4)); (have hv3' : Dy.Nm V4 _ (Dy.mk (r * 1048576) (-20)) := Dy.Nm.keep (by first | assumption | exact alN (by assumption)) hb4))
        | (go_at_call 98; refine (HM.out _ _ m (by omega) (by first | assumption | exact alB (by assumption) | exact (alB (by assumption)).drew) (by first | assumption | exact alN (by assumption))).mono ?_; rintro e9 V5 ⟨v5, rfl, hv5, hb5⟩; (have hL5 := low_trans (w := w) (by first | assumption | exact alB (by assumption) | exact (alB (by assumption)).drew) hb5); (have hd5 := low_trans (w := V0.drew) (by first | assumption | exact alB (by assumption) | exact (alB (by assumption)).drew) hb5); (have hS5 := hKP V5 hd5); (try (have hz5 := Zb.newK hb5)); (try (have hz5 := Zb.newKd hb5)); (try (have hz5 := Zb.keep (by assumption) hb5)); (obtain ⟨b5, q5, l5, c5, f5, m5, rfl, _, _⟩ := id (Dy.Nm.fields hv5)); (have hv3' : Dy.Nm V5 _ (Dy.mk (r * 1048576) (-20)) := Dy.Nm.keep (by first | assumption | exact alN (by assumption)) hb5))
        | (go_at_call 72; refine (HD.out _ _ _ (r * 1048576) (L * m) (by omega) (by omega) (by first | assumption | exact alB (by assumption) | exact (alB (by assumption)).drew) (by first | assumption | exact alN (by assumption)) (by first | assumption | exact alN (by assumption))).mono ?_; rintro e9 V6 ⟨v6, rfl, hv6, hb6⟩; (have hL6 := low_trans (w := w) (by first | assumption | exact alB (by assumption) | exact (alB (by assumption)).drew) hb6); (have hd6 := low_trans (w := V0.drew) (by first | assumption | exact alB (by assumption) | exact (alB (by assumption)).drew) hb6); (have hS6 := hKP V6 hd6); (try (have hz6 := Zb.newK hb6)); (try (have hz6 := Zb.newKd hb6)); (try (have hz6 := Zb.keep (by assumption) hb6)); (obtain ⟨b6, q6, l6, c6, f6, m6, rfl, _, _⟩ := id (Dy.Nm.fields hv6)); (try (have y0 := cell_h (k := 0) (w := V6) (cs := #[.bool false, .slice none 0 0, .int .i64 0]) (t := 75) (fz := (0, 0)) (by assumption) rfl; have y1 := cell_h (k := 1) (w := V6) (cs := #[.bool false, .slice none 0 0, .int .i64 0]) (t := 75) (fz := (0, 0)) (by assumption) rfl; have y2 := cell_h (k := 2) (w := V6) (cs := #[.bool false, .slice none 0 0, .int .i64 0]) (t := 75) (fz := (0, 0)) (by assumption) rfl; have yf := Zb.fr (V := V6) (by assumption)))))
    all_goals
      go_wp2_with fail
      go_meet
      first
        | (with_reducible exact ⟨_, b6, q6, l6, c6, f6, rfl, (undrew hd6).size, World.alloc_heap_new V6 _, alN hv6, (undrew hd6).alloc (undrew hd6).size _⟩)
        | exact ⟨_, b6, q6, l6, c6, f6, rfl, Below.size (w := V0.drew) (by assumption), (Zb.store (by assumption) hv6).1, (Zb.store (by assumption) hv6).2, Dy.below_set3 (undrew hd6) (Below.size (w := V0.drew) (by assumption))⟩
  case rest =>
    obtain ⟨G, a6, p6, n6, k6, e6, rfl, hGs, hG, hN, hBx⟩ := hcut
    have HGc := Lib.hid hG
    have HNc : Hid (Nq wc (.agg #[.bool a6, .slice p6 n6 k6, .int .i64 e6]) (bdS f n m L 0)) := by rw [H00.out]; exact Lib.hid hN
    have HBc := Lib.hid hBx
    clear hG hN hBx
    go_wp2_with fail
    go_loopw [24] (fun vi wr => ∃ k : Nat, k ≤ n ∧ vi = .int .i64 k ∧ ∃ (a6 : Bool) (p6 : Option Addr) (n6 k6 : Nat) (e6 : Int), Hid (wr.heap[G]? = some (.cells #[.bool a6, .slice p6 n6 k6, .int .i64 e6] 75 (0, 0))) ∧ Hid (Nq wr (.agg #[.bool a6, .slice p6 n6 k6, .int .i64 e6]) (bdS f n m L k)) ∧ Hid (Below V0.heap.size V0 wr)) (fun vi _ => n - (intOf vi).toNat)
    case atStart => exact ⟨0, by omega, rfl, a6, p6, n6, k6, e6, HGc.out, HNc.out, HBc.out⟩
    case round =>
      obtain ⟨k, hk, rfl, a7, p7, n7, k7, e7, HG, HN, HBr⟩ := hrel
      have hfk := HFit.out k hk
      have hG0 : G < wr.heap.size := (Array.getElem?_eq_some_iff.1 HG.out).1
      have hB70 : B7 < wr.heap.size := Nat.lt_of_lt_of_le hBl7 HBr.out.size
      by_cases hlt : k < n
      · obtain ⟨b4, o4, rfl, hI4⟩ := HS.out (by omega)
        have hb4 := hI4.lt (by omega)
        have hJ := (hI4.keep HB.out hb4).keep HBr.out (by have := HB.out.size; omega)
        have d0 := hJ (k * 4) (by omega)
        have d1 := hJ.at (k * 4) 1 (by omega)
        have d2 := hJ.at (k * 4) 2 (by omega)
        have d3 := hJ.at (k * 4) 3 (by omega)
        have hf := HJf.out k hlt
        have hst := HStep.out k
        have hfk1 := HFit.out (k + 1) hlt
        have HLx := Lib.hid (mulL (L := L) (x := f (k * 4 + 1)) hL (by omega))
        clear hI4 hJ
        generalize f (k * 4) = x0 at d0 hf hst
        generalize f (k * 4 + 1) = x1 at d1 hf hst HLx
        generalize f (k * 4 + 2) = x2 at d2 hf
        generalize f (k * 4 + 3) = x3 at d3 hf
        have HSt := Lib.hid hst
        clear hst
        go_upto_region 5 with fail
        have hbV : Below wr.heap.size wr (wr.alloc (.cells #[.int .i64 x0, .int .i64 x1, .int .i64 x2, .int .i64 x3] 66)) := (Below.refl _ _).alloc (Nat.le_refl _) _
        have j0 := World.alloc_heap_new wr (.cells #[.int .i64 x0, .int .i64 x1, .int .i64 x2, .int .i64 x3] 66)
        obtain ⟨nb, hnb⟩ : ∃ nb, wr.heap.size = nb := ⟨_, rfl⟩
        rw [hnb] at j0
        rw [hnb]
        have HGv := Lib.hid (blk1 HG.out hbV)
        have HNv := Lib.hid (Nq.keep HN.out hbV)
        have hsz0 : V0.heap.size ≤ wr.heap.size := HBr.out.size
        have HBv := Lib.hid (lowB hsz0 HBr.out hbV)
        clear d0 d1 d2 d3 hbV HG HN hsz0 HBr hnb
        generalize wr.alloc (.cells #[.int .i64 x0, .int .i64 x1, .int .i64 x2, .int .i64 x3] 66) = V1 at *
        have c0 := cell_h (k := 0) j0 rfl
        have c1 := cell_h (k := 1) j0 rfl
        have g0 := cell_h (k := 0) HGv.out rfl
        have g1 := cell_h (k := 1) HGv.out rfl
        have g2 := cell_h (k := 2) HGv.out rfl
        have gf : ∀ o, V1.frozen? ⟨G, o, none⟩ = false := fun o => by simp [World.frozen?, HGv.out]
        have hKP : ∀ V, Below V0.heap.size V0 V → V.cell? ⟨B7, 0, none⟩ = some (.bool a) ∧ V.cell? ⟨B7, 1, none⟩ = some (.slice p l k0) ∧ V.cell? ⟨B7, 2, none⟩ = some (.int .i64 e0) := fun V hV => ⟨cell_h (blk1' HP.out hV hBl7) rfl, cell_h (blk1' HP.out hV hBl7) rfl, cell_h (blk1' HP.out hV hBl7) rfl⟩
        have hd1 := HBv.out
        have hS1 := hKP V1 hd1
        obtain ⟨s0, s1, s2⟩ := id hS1
        have hg1 : Nq V1 (.agg #[.bool a7, .slice p7 n7 k7, .int .i64 e7]) (bdS f n m L k) := HNv.out
        have hlx := HLx.out
        obtain ⟨bk, hbk⟩ : ∃ x, bdS f n m L k = x := ⟨_, rfl⟩
        rw [hbk] at hg1 hfk HSt
        obtain ⟨lx, hlx2⟩ : ∃ x, L * x1 = x := ⟨_, rfl⟩
        rw [hlx2] at hlx HSt
        have HMx : Hid (∀ V u, Below V0.heap.size V0 V → Dy.Nm V u (Dy.mk x1 0) → Calls Tryz.prog 98 #[.agg #[.bool a, .slice p l k0, .int .i64 e0], u] V (Dy.Ret V fun w' v => Nq w' v lx)) := fun V u hV hu => by
          have h := HM.out V u x1 (by omega) (HB.out.trans (hV.mono HB.out.size)) hu
          rw [hlx2] at h
          exact h
        have HNa : Hid (∀ V, Below V0.heap.size V0 V → Calls Tryz.prog 66 #[.int .i64 x0] V (Dy.Ret V fun w' v => Nq w' v (x0 * 1048576))) := fun V hV => by
          have h := snumber_of V x0 (by unfold Dy.I64; omega) (HT.out.keep (HB.out.trans (hV.mono HB.out.size)))
          rw [mk20] at h
          exact h
        have HNb : Hid (∀ V, Below V0.heap.size V0 V → Calls Tryz.prog 66 #[.int .i64 x1] V (Dy.Ret V fun w' v => Dy.Nm w' v (Dy.mk x1 0))) := fun V hV => snumber_of V x1 (by unfold Dy.I64; omega) (HT.out.keep (HB.out.trans (hV.mono HB.out.size)))
        have HDa : Hid (∀ V u u', Below V0.heap.size V0 V → Nq V u (x0 * 1048576) → Nq V u' lx → Calls Tryz.prog 72 #[u, u'] V (Dy.Ret V fun w' v => Nq w' v (x0 * 1048576 - lx))) := fun V u u' hV hu hu' => HD.out V u u' (x0 * 1048576) lx (by omega) (by omega) (HB.out.trans (hV.mono HB.out.size)) hu hu'
        have HPo : Hid (∀ V u, Below V0.heap.size V0 V → Nq V u (x0 * 1048576 - lx) → Calls Tryz.prog 99 #[u] V (Dy.Ret V fun w' v => Nq w' v (max (x0 * 1048576 - lx) 0))) := fun V u hV hu => spos_of V u _ hu (HT.out.keep (HB.out.trans (hV.mono HB.out.size)))
        have HDb : Hid (∀ V u u', Below V0.heap.size V0 V → Nq V u bk → Nq V u' (max (x0 * 1048576 - lx) 0) → Calls Tryz.prog 72 #[u, u'] V (Dy.Ret V fun w' v => Nq w' v (bk - max (x0 * 1048576 - lx) 0))) := fun V u u' hV hu hu' => HD.out V u u' bk (max (x0 * 1048576 - lx) 0) (by omega) (by omega) (HB.out.trans (hV.mono HB.out.size)) hu hu'
        have hsz0 : V0.heap.size ≤ V0.heap.size := Nat.le_refl _
        have HGb : Hid (∀ V, Below V1.heap.size V1 V → V.heap[G]? = some (.cells #[.bool a7, .slice p7 n7 k7, .int .i64 e7] 75 (0, 0))) := fun V hV => blk1 HGv.out hV
        have HJb : Hid (∀ V, Below V1.heap.size V1 V → V.heap[nb]? = some (.cells #[.int .i64 x0, .int .i64 x1, .int .i64 x2, .int .i64 x3] 66 (0, 0))) := fun V hV => blk1 j0 hV
        have hb1 : Below V1.heap.size V1 V1 := Below.refl _ _
        have hd1' : Below V0.heap.size V0 V1.drew := hd1.drew
        have hb1' : Below V1.heap.size V1 V1.drew := hb1.drew
        have hg1' : Nq V1.drew (.agg #[.bool a7, .slice p7 n7 k7, .int .i64 e7]) bk := hg1
        have hS1' := hKP V1.drew hd1'
        have HKS : Hid (∀ V, Below V0.heap.size V0 V → Below V1.heap.size V1 V → V.cell? ⟨G, 0, none⟩ = some (.bool a7) ∧ V.cell? ⟨G, 1, none⟩ = some (.slice p7 n7 k7) ∧ V.cell? ⟨G, 2, none⟩ = some (.int .i64 e7) ∧ V.cell? ⟨nb, 0, none⟩ = some (.int .i64 x0) ∧ V.cell? ⟨nb, 1, none⟩ = some (.int .i64 x1) ∧ V.cell? ⟨B7, 0, none⟩ = some (.bool a) ∧ V.cell? ⟨B7, 1, none⟩ = some (.slice p l k0) ∧ V.cell? ⟨B7, 2, none⟩ = some (.int .i64 e0)) := fun V hV hq => ⟨cell_h (HGb.out V hq) rfl, cell_h (HGb.out V hq) rfl, cell_h (HGb.out V hq) rfl, cell_h (HJb.out V hq) rfl, cell_h (HJb.out V hq) rfl, (hKP V hV).1, (hKP V hV).2.1, (hKP V hV).2.2⟩
        have hF1 : ∀ f, Fence.wide.fn f := fun _ => trivial
        refine (wpIn_wide (n := 5)).1 ?_
        refine wpIn_region_T 12 (fun W2 : World => W2.cell? ⟨G, 0, none⟩ = some (.bool a7) ∧ W2.cell? ⟨G, 1, none⟩ = some (.slice p7 n7 k7) ∧ W2.cell? ⟨G, 2, none⟩ = some (.int .i64 e7) ∧ W2.cell? ⟨nb, 0, none⟩ = some (.int .i64 x0) ∧ W2.cell? ⟨nb, 1, none⟩ = some (.int .i64 x1) ∧ W2.cell? ⟨B7, 0, none⟩ = some (.bool a) ∧ W2.cell? ⟨B7, 1, none⟩ = some (.slice p l k0) ∧ W2.cell? ⟨B7, 2, none⟩ = some (.int .i64 e0)) (by kernel_rfl) ?_
        change anyT _ _ _ _ _ _ _ _ 13 (Array.replicate 13 false) _ _
        have hdd : Below V0.heap.size V0 V1.drew := hd1.drew
        have hqd : Below V1.heap.size V1 V1.drew := hb1.drew
        have hgd : Nq V1.drew (.agg #[.bool a7, .slice p7 n7 k7, .int .i64 e7]) bk := hg1
        generalize V1.drew = Wd at hdd hqd hgd ⊢
        have hS0 := HKS.out Wd hdd hqd
        refine anyT_takeD hF1 0 28 (v := ?_) rfl rfl (by kernel_rfl) (by kernel_rfl) (by kernel_rfl) (by kernel_rfl) (by kernel_rfl) (fun _ _ _ h => h) hS0 rfl ?_ ?_
        rotate_left
        · intro W2 hSw; obtain ⟨r0, r1, r2, r3, r4, r5, r6, r7⟩ := hSw; go_simp; try with_reducible rfl
        simp only [List.setIfInBounds_toArray, List.set_cons_zero, List.set_cons_succ]
        refine anyT_takeD hF1 1 29 (v := ?_) rfl rfl (by kernel_rfl) (by kernel_rfl) (by kernel_rfl) (by kernel_rfl) (by kernel_rfl) (fun _ _ _ h => h) hS0 rfl ?_ ?_
        rotate_left
        · intro W2 hSw; obtain ⟨r0, r1, r2, r3, r4, r5, r6, r7⟩ := hSw; go_simp; try with_reducible rfl
        simp only [List.setIfInBounds_toArray, List.set_cons_zero, List.set_cons_succ]
        refine anyT_takeD hF1 2 30 (v := ?_) rfl rfl (by kernel_rfl) (by kernel_rfl) (by kernel_rfl) (by kernel_rfl) (by kernel_rfl) (fun _ _ _ h => h) hS0 rfl ?_ ?_
        rotate_left
        · intro W2 hSw; obtain ⟨r0, r1, r2, r3, r4, r5, r6, r7⟩ := hSw; go_simp; try with_reducible rfl
        simp only [List.setIfInBounds_toArray, List.set_cons_zero, List.set_cons_succ]
        refine anyT_takeD hF1 4 32 (v := ?_) rfl rfl (by kernel_rfl) (by kernel_rfl) (by kernel_rfl) (by kernel_rfl) (by kernel_rfl) (fun _ _ _ h => h) hS0 rfl ?_ ?_
        rotate_left
        · intro W2 hSw; obtain ⟨r0, r1, r2, r3, r4, r5, r6, r7⟩ := hSw; go_simp; try with_reducible rfl
        simp only [List.setIfInBounds_toArray, List.set_cons_zero, List.set_cons_succ]
        refine anyT_takeD hF1 5 33 (v := ?_) rfl rfl (by kernel_rfl) (by kernel_rfl) (by kernel_rfl) (by kernel_rfl) (by kernel_rfl) (fun _ _ _ h => h) hS0 rfl ?_ ?_
        rotate_left
        · intro W2 hSw; obtain ⟨r0, r1, r2, r3, r4, r5, r6, r7⟩ := hSw; go_simp; try with_reducible rfl
        simp only [List.setIfInBounds_toArray, List.set_cons_zero, List.set_cons_succ]
        refine anyT_takeD hF1 6 34 (v := ?_) rfl rfl (by kernel_rfl) (by kernel_rfl) (by kernel_rfl) (by kernel_rfl) (by kernel_rfl) (fun _ _ _ h => h) hS0 rfl ?_ ?_
        rotate_left
        · intro W2 hSw; obtain ⟨r0, r1, r2, r3, r4, r5, r6, r7⟩ := hSw; go_simp; try with_reducible rfl
        simp only [List.setIfInBounds_toArray, List.set_cons_zero, List.set_cons_succ]
        refine anyT_call hF1 (fun h => absurd h (by decide)) 3 31 (w := Wd) rfl rfl (by kernel_rfl) (by kernel_rfl) (by rfl) (by go_simp; try with_reducible rfl) (callsIn_wide.2 (HNa.out _ hdd)) ?_
        rintro e9 V2 ⟨v2, rfl, hv2, hb2⟩
        have hdd := lowB (B := V0.heap.size) hdd.size hdd hb2
        have hqd := low_trans hqd hb2
        replace hS0 := HKS.out V2 hdd hqd
        have hgd := Nq.keep hgd hb2
        obtain ⟨b2, q2, l2, c2, f2, m2, rfl, _, _⟩ := id (Dy.Nm.fields hv2)
        refine ⟨_, rfl, hS0, ?_⟩
        simp only [List.setIfInBounds_toArray, List.set_cons_zero, List.set_cons_succ]
        refine anyT_call hF1 (fun h => absurd h (by decide)) 7 35 (w := V2) rfl rfl (by kernel_rfl) (by kernel_rfl) (by rfl) (by go_simp; try with_reducible rfl) (callsIn_wide.2 (HNb.out _ hdd)) ?_
        rintro e9 V3 ⟨v3, rfl, hv3, hb3⟩
        have hdd := lowB (B := V0.heap.size) hdd.size hdd hb3
        have hqd := low_trans hqd hb3
        replace hS0 := HKS.out V3 hdd hqd
        have hgd := Nq.keep hgd hb3
        have hv2 := Nq.keep hv2 hb3
        obtain ⟨b3, q3, l3, c3, f3, m3, rfl, _, _⟩ := id (Dy.Nm.fields hv3)
        refine ⟨_, rfl, hS0, ?_⟩
        simp only [List.setIfInBounds_toArray, List.set_cons_zero, List.set_cons_succ]
        refine anyT_call hF1 (fun h => absurd h (by decide)) 8 36 (w := V3) rfl rfl (by kernel_rfl) (by kernel_rfl) (by rfl) (by go_simp; try with_reducible rfl) (callsIn_wide.2 (HMx.out _ _ hdd hv3)) ?_
        rintro e9 V4 ⟨v4, rfl, hv4, hb4⟩
        have hdd := lowB (B := V0.heap.size) hdd.size hdd hb4
        have hqd := low_trans hqd hb4
        replace hS0 := HKS.out V4 hdd hqd
        have hgd := Nq.keep hgd hb4
        have hv2 := Nq.keep hv2 hb4
        obtain ⟨b4, q4, l4, c4, f4, m4, rfl, _, _⟩ := id (Dy.Nm.fields hv4)
        refine ⟨_, rfl, hS0, ?_⟩
        simp only [List.setIfInBounds_toArray, List.set_cons_zero, List.set_cons_succ]
        refine anyT_call hF1 (fun h => absurd h (by decide)) 9 37 (w := V4) rfl rfl (by kernel_rfl) (by kernel_rfl) (by rfl) (by go_simp; try with_reducible rfl) (callsIn_wide.2 (HDa.out _ _ _ hdd hv2 hv4)) ?_
        rintro e9 V5 ⟨v5, rfl, hv5, hb5⟩
        have hdd := lowB (B := V0.heap.size) hdd.size hdd hb5
        have hqd := low_trans hqd hb5
        replace hS0 := HKS.out V5 hdd hqd
        have hgd := Nq.keep hgd hb5
        obtain ⟨b5, q5, l5, c5, f5, m5, rfl, _, _⟩ := id (Dy.Nm.fields hv5)
        refine ⟨_, rfl, hS0, ?_⟩
        simp only [List.setIfInBounds_toArray, List.set_cons_zero, List.set_cons_succ]
        refine anyT_call hF1 (fun h => absurd h (by decide)) 10 38 (w := V5) rfl rfl (by kernel_rfl) (by kernel_rfl) (by rfl) (by go_simp; try with_reducible rfl) (callsIn_wide.2 (HPo.out _ _ hdd hv5)) ?_
        rintro e9 V6 ⟨v6, rfl, hv6, hb6⟩
        have hdd := lowB (B := V0.heap.size) hdd.size hdd hb6
        have hqd := low_trans hqd hb6
        replace hS0 := HKS.out V6 hdd hqd
        have hgd := Nq.keep hgd hb6
        obtain ⟨b6, q6, l6, c6, f6, m6, rfl, _, _⟩ := id (Dy.Nm.fields hv6)
        refine ⟨_, rfl, hS0, ?_⟩
        simp only [List.setIfInBounds_toArray, List.set_cons_zero, List.set_cons_succ]
        refine anyT_call hF1 (fun h => absurd h (by decide)) 11 39 (w := V6) rfl rfl (by kernel_rfl) (by kernel_rfl) (by rfl) (by go_simp; try with_reducible rfl) (callsIn_wide.2 (HDb.out _ _ _ hdd hgd hv6)) ?_
        rintro e9 V7 ⟨v7, rfl, hv7, hb7⟩
        have hdd := lowB (B := V0.heap.size) hdd.size hdd hb7
        have hqd := low_trans hqd hb7
        replace hS0 := HKS.out V7 hdd hqd
        obtain ⟨b7, q7, l7, c7, f7, m7, rfl, _, _⟩ := id (Dy.Nm.fields hv7)
        refine ⟨_, rfl, hS0, ?_⟩
        simp only [List.setIfInBounds_toArray, List.set_cons_zero, List.set_cons_succ]
        obtain ⟨r0, r1, r2, _⟩ := hS0
        have rf : ∀ o, V7.frozen? ⟨G, o, none⟩ = false := fun o => by simp [World.frozen?, HGb.out V7 hqd]
        have HN9 := Lib.hid (num_store (HGb.out V7 hqd) hv7)
        have HB9 := Lib.hid (Dy.below_set3 (b := .slice q7 l7 c7) (a := .bool b7) (c := .int .i64 f7) (i := 0) (j := 1) (k := 2) hdd hGs)
        refine anyT_skipN hF1 (w2 := ((V7.setCell ⟨G, 0, none⟩ (.bool b7)).setCell ⟨G, 1, none⟩ (.slice q7 l7 c7)).setCell ⟨G, 2, none⟩ (.int .i64 f7)) rfl rfl (by kernel_rfl) (by kernel_rfl) rfl (by go_simp; try with_reducible rfl) ?_
        refine anyT_done (by kernel_rfl) ?_ _
        generalize ((V7.setCell ⟨G, 0, none⟩ (.bool b7)).setCell ⟨G, 1, none⟩ (.slice q7 l7 c7)).setCell ⟨G, 2, none⟩ (.int .i64 f7) = V9 at HN9 HB9 ⊢
        clear hKP hS1 hg1 HGb HJb hb1 HKS hgd hv7 hdd hqd r0 r1 r2 rf
        go_wp2_with fail
        exact ⟨⟨k + 1, by omega, by go_num, b7, q7, l7, c7, f7, HN9.out.1, by rw [HSt.out]; exact HN9.out.2, HB9.out⟩, by simp [intOf]; omega⟩
      · obtain rfl : k = n := by omega
        have g0 := cell_h (k := 0) HG.out rfl
        have g1 := cell_h (k := 1) HG.out rfl
        have g2 := cell_h (k := 2) HG.out rfl
        have HZr : Hid (Zb wr (B7 + 1)) := blk1 HR.out HBr.out
        have hZl : B7 + 1 < wr.heap.size := (Array.getElem?_eq_some_iff.1 HZr.out).1
        have HBw := Lib.hid (lowB HB.out.size HB.out HBr.out)
        have hEnd := HEnd.out
        generalize bdS f k m L k = bk at HN hEnd hfk
        go_wp2_with fail
        refine (spos_of wr _ bk HN.out (HT.out.keep HBw.out)).mono ?_
        rintro e9 V7 ⟨v7, rfl, hv7, hb7⟩
        rw [hEnd] at hv7
        obtain ⟨b7, q7, l7, c7, f7, m7, rfl, _, _⟩ := id (Dy.Nm.fields hv7)
        have hZ7 := HZr.out.keep hb7
        have z0 := cell_h (k := 0) hZ7 rfl
        have z1 := cell_h (k := 1) hZ7 rfl
        have z2 := cell_h (k := 2) hZ7 rfl
        have zf := hZ7.fr
        have HQ := Lib.hid (fun W9 h9 => hZ7.laid hv7 w (lowB HBw.out.size HBw.out hb7) (by rw [HB7.out]; omega) (W9 := W9) h9)
        clear hv7 hb7 hZ7 g0 g1 g2 HG HN
        go_wp2_with fail
        generalize h9 : ((V7.setCell ⟨B7 + 1, 0, none⟩ (.bool b7)).setCell ⟨B7 + 1, 1, none⟩ (.slice q7 l7 c7)).setCell ⟨B7 + 1, 2, none⟩ (.int .i64 f7) = W9
        obtain ⟨q1, q2, q3⟩ := HQ.out W9 h9
        have y0 := cell_h (k := 0) q1 rfl
        have y1 := cell_h (k := 1) q1 rfl
        have y2 := cell_h (k := 2) q1 rfl
        exact bodyPost_ret (v := .agg #[.bool b7, .slice q7 l7 c7, .int .i64 f7]) (by simp [results, Tryz.results64, go_sem, y0, y1, y2]) rfl ⟨_, rfl, q2, q3⟩
end Go.Proofs.YtlphlbgbbblnpaaGreatDoor
-- StK: WALKS: strength: quotients with 20 bits, their lower ends; Bound.
namespace Go.Proofs.YtlphlbgbbblnpaaGreatDoor
open Go.RowKit

theorem rLo_eq (ex : Bool) (q : Nat) : Dy.rLo false ex q 20 = Dy.mk (q : Int) (-20) := by
  unfold Dy.rLo
  cases ex
  · have h : Dy.sgn (Dy.mk ((q + 1 : Nat) : Int) (-20) - Dy.mk (q : Int) (-20)) > 0 := by
      rw [mk_sub]; exact (sgn_mkE _ _).2.2 (by push_cast; omega)
    have h2 : ¬(Dy.sgn (Dy.mk ((q + 1 : Nat) : Int) (-20) - Dy.mk (q : Int) (-20)) < 0) := by omega
    exact if_neg h2
  · rfl
theorem odd_split {D m : Nat} {e : Int} {a : Bool} (h : Dy.Canon a m e (Dy.mk (D : Int) 0)) (h0 : D ≠ 0) : a = false ∧ ∃ j : Nat, e = (j : Int) ∧ D = m * 2 ^ j ∧ m % 2 = 1 := by
  obtain ⟨j, k, hk⟩ : ∃ j k, D = 2 ^ j * (2 * k + 1) := by
    have : ∀ N D : Nat, D ≤ N → D ≠ 0 → ∃ j k, D = 2 ^ j * (2 * k + 1) := fun N => by
      induction N with
      | zero => intro D h1 h2; omega
      | succ N ih =>
        intro D h1 h2
        rcases Nat.mod_two_eq_zero_or_one D with h3 | h3
        · obtain ⟨j, k, e⟩ := ih (D / 2) (by omega) (by omega)
          exact ⟨j + 1, k, by rw [Nat.pow_succ, Nat.mul_comm (2 ^ j) 2, Nat.mul_assoc, ← e]; omega⟩
        · exact ⟨0, D / 2, by omega⟩
    exact this D D (Nat.le_refl _) h0
  have h2 : Dy.Canon false (2 * k + 1) (0 + (j : Int)) (Dy.mk (Dy.sg false D) 0) := Dy.canon_build (neg := false) (t := j) (q := k) hk
  have h3 := (h.inj h2).2 rfl
  obtain ⟨rfl, rfl, rfl⟩ := h3
  exact ⟨rfl, j, by omega, by rw [hk, Nat.mul_comm], by omega⟩
theorem quo20 (w : World) (v1 v2 : Value) (R D : Nat) (h1 : Dy.Nm w v1 (Dy.mk (R : Int) 0)) (h2 : Dy.Nm w v2 (Dy.mk (D : Int) 0)) (hR : R < 2 ^ 63) (hD : D < 2 ^ 63) (h0 : D ≠ 0) (he : D % 2 ^ 21 ≠ 0) (hT : Dy.Tab w) :
    Calls Tryz.prog 100 #[v1, v2, .int .i64 20] w (Dy.Ret2 w fun w' v e => e = .int .i64 0 ∧ ∃ ex, Dy.Sp w' v (Dy.rLo false ex (R * 2 ^ 20 / D) 20) (Dy.rHi false ex (R * 2 ^ 20 / D) 20) ∧ ex = decide (R * 2 ^ 20 % D = 0)) := by
  obtain ⟨a1, p1, n1, k1, e1, m1, rfl, hn1, hc1⟩ := h1.fields
  obtain ⟨a2, p2, n2, k2, e2, m2, rfl, hn2, hc2⟩ := h2.fields
  obtain ⟨rfl, j2, rfl, hD2, ho2⟩ := odd_split hc2 h0
  have hj2 : j2 ≤ 20 := by
    rcases Nat.lt_or_ge 20 j2 with h | h
    · exfalso
      apply he
      obtain ⟨t, rfl⟩ : ∃ t, j2 = 21 + t := ⟨j2 - 21, by omega⟩
      rw [hD2, Nat.pow_add, Nat.mul_left_comm]
      exact Nat.mul_mod_right _ _
    · exact h
  have hm2 : m2 ≤ D := by rw [hD2]; exact Nat.le_mul_of_pos_right _ (Nat.two_pow_pos _)
  have hn0 : n2 ≠ 0 := fun e => by
    have := hn2.len_zero.1 e
    omega
  have hA1 : a1 = false ∧ ∃ j1 : Nat, e1 = (j1 : Int) ∧ R = m1 * 2 ^ j1 ∧ j1 ≤ 63 := by
    by_cases hR0 : R = 0
    · subst hR0
      rcases hc1 with ⟨rfl, rfl, rfl, _⟩ | ⟨ho, hx⟩
      · exact ⟨rfl, 0, rfl, by simp, by omega⟩
      · exfalso
        have h9 : Dy.mk ((0 : Nat) : Int) 0 = 0 := rfl
        rw [h9] at hx
        exact Dy.mk_ne_zero (Dy.sg_odd ho) hx.symm
    · obtain ⟨rfl, j1, rfl, hR1, ho1⟩ := odd_split hc1 hR0
      refine ⟨rfl, j1, rfl, hR1, ?_⟩
      rcases Nat.lt_or_ge 63 j1 with h | h
      · exfalso
        have h3 : 2 ^ 63 ≤ 2 ^ j1 := Nat.pow_le_pow_right (by omega) (by omega)
        have h4 : 1 * 2 ^ j1 ≤ m1 * 2 ^ j1 := Nat.mul_le_mul_right _ (by omega)
        omega
      · exact h
  obtain ⟨rfl, j1, rfl, hR1, hj1⟩ := hA1
  have hm1 : m1 ≤ R := by rw [hR1]; exact Nat.le_mul_of_pos_right _ (Nat.two_pow_pos _)
  obtain ⟨s1, hs1⟩ : ∃ s : Nat, j1 + 20 = j2 + s := ⟨j1 + 20 - j2, by omega⟩
  have hq1 : R * 2 ^ 20 = (m1 * 2 ^ s1) * 2 ^ j2 := by rw [hR1, Nat.mul_assoc, ← Nat.pow_add, hs1, Nat.mul_assoc, ← Nat.pow_add, Nat.add_comm j2 s1]
  have hq2 : m2 * 2 ^ 0 = m2 := by simp
  have hM : m1 * 2 ^ s1 < 2 ^ 83 := by
    have h3 : m1 * 2 ^ s1 ≤ R * 2 ^ 20 := by rw [hq1]; exact Nat.le_mul_of_pos_right _ (Nat.two_pow_pos _)
    have h4 : R * 2 ^ 20 < 2 ^ 63 * 2 ^ 20 := Nat.mul_lt_mul_of_pos_right hR (by decide)
    rw [← Nat.pow_add] at h4
    omega
  have hdiv : R * 2 ^ 20 / D = m1 * 2 ^ s1 / (m2 * 2 ^ 0) := by rw [hq1, hD2, hq2, Nat.mul_div_mul_right _ _ (Nat.two_pow_pos _)]
  have hmod : decide (m1 * 2 ^ s1 % (m2 * 2 ^ 0) = 0) = decide (R * 2 ^ 20 % D = 0) := by
    rw [hq1, hD2, hq2, Nat.mul_mod_mul_right, Bool.eq_iff_iff, decide_eq_true_iff, decide_eq_true_iff]
    constructor
    · intro h; rw [h]; simp
    · intro h
      rcases Nat.mul_eq_zero.1 h with h | h
      · exact h
      · exact absurd h (Nat.ne_of_gt (Nat.two_pow_pos _))
  refine (Dy.quo_main w false false p1 p2 n1 k1 n2 k2 j1 j2 20 s1 m1 m2 s1 0 2 hn0 (by omega) (by omega) (by omega) (by decide) (by decide) hn1 hn2 (Dy.len_two (A := 63) (by omega) (by decide)) (Dy.len_two (A := 63) (by omega) (by decide)) (Dy.len_two (A := 83) hM (by decide)) (by decide) (Dy.len_two (A := 63) (by omega) (by decide)) (by rw [hq2]; omega) (by omega) (by decide) (by omega) (by omega) (by omega) (by omega) hT).mono ?_
  rintro e w' ⟨v, e', rfl, ⟨rfl, hs⟩, hb⟩
  rw [← hdiv, hmod] at hs
  exact ⟨v, _, rfl, ⟨rfl, _, hs, rfl⟩, hb⟩

set_option maxHeartbeats 1600000 in
theorem sbits20 (w : World) : Calls Tryz.prog 67 #[.int .i64 20] w fun e w' => e = .returned (.int .i64 20) ∧ w' = w := by
  go_enter Tryz.func67, Tryz.ntmps67
  go_wp2
  go_ret
  exact ⟨rfl, rfl⟩
/-- What a quotient tells, whatever it is. -/
theorem squot_of (w : World) (v1 v2 : Value) (k : Int) (x y x1 x2 : Dyadic) (h1 : Dy.Nm w v1 x1) (h2 : Dy.Nm w v2 x2)
    (hQ : ∀ V, Below w.heap.size w V → Calls Tryz.prog 100 #[v1, v2, .int .i64 k] V (Dy.Ret2 V fun w' v e => e = .int .i64 0 ∧ Dy.Sp w' v x y)) :
    Calls Tryz.prog 65 #[v1, v2, .int .i64 k] w (Dy.Ret w fun w' v => Dy.Sp w' v x y) := by
  have HQ := Lib.hid hQ
  obtain ⟨a1, p1, n1, k1, e1, m1, rfl, _, _⟩ := h1.fields
  obtain ⟨a2, p2, n2, k2, e2, m2, rfl, _, _⟩ := h2.fields
  clear hQ h1 h2
  go_enter Tryz.func65, Tryz.ntmps65
  go_wp2_with fail
  obtain ⟨W, hW⟩ : ∃ W, ((w.alloc (.cells #[.bool a1, .slice p1 n1 k1, .int .i64 e1] 75)).alloc (.cells #[.bool a2, .slice p2 n2 k2, .int .i64 e2] 75)).alloc (.cells #[.bool false, .slice none 0 0, .int .i64 0, .bool false, .slice none 0 0, .int .i64 0] 116) = W := ⟨_, rfl⟩
  rw [hW]
  have hB : Below w.heap.size w W := by rw [← hW]; exact (((Below.refl _ _).alloc (Nat.le_refl _) _).alloc (by simp) _).alloc (by simp; omega) _
  have hR : W.heap[w.heap.size + 1 + 1]? = some (.cells #[.bool false, .slice none 0 0, .int .i64 0, .bool false, .slice none 0 0, .int .i64 0] 116 (0, 0)) := by rw [← hW]; exact al_2 w _ _ _
  have HB := Lib.hid hB
  have HR := Lib.hid hR
  clear hW hB hR
  refine (HQ.out W HB.out).mono ?_
  rintro e W1 ⟨v, ee, rfl, ⟨rfl, hs⟩, hb⟩
  obtain ⟨c1, q1, l1, d1, f1, c2, q2, l2, d2, f2, rfl, hx, hy⟩ := hs
  have hR1 := blk1 HR.out hb
  have hB1 := low_trans HB.out hb
  have hg : w.heap.size + 1 + 1 < W1.heap.size := (Array.getElem?_eq_some_iff.1 hR1).1
  go_upto_region 2 with fail
  obtain ⟨W2, hW2⟩ : ∃ W2, W1.alloc (.cells #[.bool c1, .slice q1 l1 d1, .int .i64 f1, .bool c2, .slice q2 l2 d2, .int .i64 f2] 116) = W2 := ⟨_, rfl⟩
  rw [hW2]
  have hb2 : Below W1.heap.size W1 W2 := by rw [← hW2]; exact (Below.refl _ _).alloc (Nat.le_refl _) _
  have hN2 : W2.heap[W1.heap.size]? = some (.cells #[.bool c1, .slice q1 l1 d1, .int .i64 f1, .bool c2, .slice q2 l2 d2, .int .i64 f2] 116 (0, 0)) := by rw [← hW2]; exact World.alloc_heap_new W1 _
  have hR2 := blk1 hR1 hb2
  have HS2 : Hid (Dy.Sp W2 (.agg #[.bool c1, .slice q1 l1 d1, .int .i64 f1, .bool c2, .slice q2 l2 d2, .int .i64 f2]) x y) := Dy.Sp.keep ⟨c1, q1, l1, d1, f1, c2, q2, l2, d2, f2, rfl, hx, hy⟩ hb2
  have HA := Lib.hid (set6_all (b1 := c1) (q1 := q1) (l1 := l1) (c1 := d1) (f1 := f1) (b2 := c2) (q2 := q2) (l2 := l2) (c2 := d2) (f2 := f2) hR2 (low_trans hB1 hb2) (by omega : w.heap.size ≤ w.heap.size + 1 + 1))
  obtain ⟨nb, hnb⟩ : ∃ nb, W1.heap.size = nb := ⟨_, rfl⟩
  rw [hnb] at hN2
  rw [hnb]
  have z0 := cell_h (k := 0) hR2 rfl
  have z1 := cell_h (k := 1) hR2 rfl
  have z2 := cell_h (k := 2) hR2 rfl
  have z3 := cell_h (k := 3) hR2 rfl
  have z4 := cell_h (k := 4) hR2 rfl
  have z5 := cell_h (k := 5) hR2 rfl
  have zf : ∀ o, W2.frozen? ⟨w.heap.size + 1 + 1, o, none⟩ = false := fun o => by simp [World.frozen?, hR2]
  have u0 := cell_h (k := 0) hN2 rfl
  have u1 := cell_h (k := 1) hN2 rfl
  have u2 := cell_h (k := 2) hN2 rfl
  have u3 := cell_h (k := 3) hN2 rfl
  have u4 := cell_h (k := 4) hN2 rfl
  have u5 := cell_h (k := 5) hN2 rfl
  clear hW2 hb2 hN2 hR2 hx hy hR1 hB1 hnb hb HR HB HQ hg
  go_wp2_with fail
  generalize hW9 : (((((W2.setCell ⟨w.heap.size + 1 + 1, 0, none⟩ (.bool c1)).setCell ⟨w.heap.size + 1 + 1, 1, none⟩ (.slice q1 l1 d1)).setCell ⟨w.heap.size + 1 + 1, 2, none⟩ (.int .i64 f1)).setCell ⟨w.heap.size + 1 + 1, 3, none⟩ (.bool c2)).setCell ⟨w.heap.size + 1 + 1, 4, none⟩ (.slice q2 l2 d2)).setCell ⟨w.heap.size + 1 + 1, 5, none⟩ (.int .i64 f2) = W9
  obtain ⟨hR9, hB9, hS9, _⟩ := HA.out W9 hW9
  have y0 := cell_h (k := 0) hR9 rfl
  have y1 := cell_h (k := 1) hR9 rfl
  have y2 := cell_h (k := 2) hR9 rfl
  have y3 := cell_h (k := 3) hR9 rfl
  have y4 := cell_h (k := 4) hR9 rfl
  have y5 := cell_h (k := 5) hR9 rfl
  exact bodyPost_ret (v := .agg #[.bool c1, .slice q1 l1 d1, .int .i64 f1, .bool c2, .slice q2 l2 d2, .int .i64 f2]) (by simp [results, Tryz.results65, go_sem, y0, y1, y2, y3, y4, y5]) rfl ⟨_, rfl, hS9 _ _ _ HS2.out, hB9⟩

set_option maxRecDepth 100000 in
set_option maxHeartbeats 4000000 in
/-- Bound, for a price that is not below 0. -/
theorem sBound_of (w : World) (q : Option Addr) (n c : Nat) (f : Nat → Int) (C N L : Int) (v : Value) (hj : jsE f n C N = 0) (hL : 0 ≤ L ∧ L ≤ 2199023255552) (hS : Sl w 4 q n f) (hv : Nq w v L) (hT : Dy.Tab w) :
    Calls Tryz.prog 25 #[.slice q n c, .int .i64 C, .int .i64 N, v] w (Dy.Ret2 w fun w' v e => e = .int .i64 0 ∧ Nq w' v (bdI f n C N L 1048576)) := by
  have HJ := Lib.hid hj
  have HS := Lib.hid hS
  have HV := Lib.hid hv
  have HT := Lib.hid hT
  have hn : n ≤ 24 := (jok_of hj).1
  obtain ⟨a, p, l, k0, e0, m0, rfl, _, _⟩ := Dy.Nm.fields hv
  clear hj hS hv hT
  go_enter Tryz.func25, Tryz.ntmps25
  go_wp2_with fail
  obtain ⟨W, hW⟩ : ∃ W, (w.alloc (.cells #[.bool a, .slice p l k0, .int .i64 e0] 75)).alloc (.cells #[.bool false, .slice none 0 0, .int .i64 0] 75) = W := ⟨_, rfl⟩
  rw [hW]
  have hB : Below w.heap.size w W := by rw [← hW]; exact ((Below.refl _ _).alloc (Nat.le_refl _) _).alloc (by simp) _
  have hP : W.heap[w.heap.size]? = some (.cells #[.bool a, .slice p l k0, .int .i64 e0] 75 (0, 0)) := by rw [← hW]; exact al_old (World.alloc_heap_new w _) _
  have hR : Zb W (w.heap.size + 1) := by rw [← hW]; exact al_1 w _ _
  have HB := Lib.hid hB
  have HP := Lib.hid hP
  have HR := Lib.hid hR
  clear hW hB hP hR
  refine (scheck_of W q n c f C N (by unfold maxLen; omega) (HS.out.keep (by decide) HB.out)).mono ?_
  rintro e W1 ⟨rfl, hb⟩
  rw [HJ.out]
  have HB1 := Lib.hid (low_trans HB.out hb)
  have HP1 := Lib.hid (blk1 HP.out hb)
  have HR1 := Lib.hid (HR.out.keep hb)
  clear hb HB HP HR
  have s0 := cell_h (k := 0) HP1.out rfl
  have s1 := cell_h (k := 1) HP1.out rfl
  have s2 := cell_h (k := 2) HP1.out rfl
  go_wp2_with fail
  refine (Dy.sign_nm W1 _ _ (HV.out.keep HB1.out)).mono ?_
  rintro e1 W2 ⟨rfl, hb⟩
  have hs : ¬(Dy.sgn (Dy.mk L (-20)) < 0) := fun e => by have := (sgn_mkE L (-20)).1.1 e; omega
  generalize Dy.sgn (Dy.mk L (-20)) = s at hs ⊢
  have HB2 := Lib.hid (low_trans HB1.out hb)
  have HP2 := Lib.hid (blk1 HP1.out hb)
  have HR2 := Lib.hid (HR1.out.keep hb)
  clear hb HB1 HP1 HR1 s0 s1 s2
  have s0 := cell_h (k := 0) HP2.out rfl
  have s1 := cell_h (k := 1) HP2.out rfl
  have s2 := cell_h (k := 2) HP2.out rfl
  go_wp2_with fail
  refine (sbound_of W2 q n c f C N L _ HJ.out hL (HS.out.keep (by decide) HB2.out) (Nq.keep HV.out HB2.out) (HT.out.keep HB2.out)).mono ?_
  rintro e1 W3 ⟨v3, rfl, hv3, hb⟩
  obtain ⟨b7, q7, l7, c7, f7, m7, rfl, _, _⟩ := id (Dy.Nm.fields hv3)
  have hZ := HR2.out.keep hb
  have z0 := cell_h (k := 0) hZ rfl
  have z1 := cell_h (k := 1) hZ rfl
  have z2 := cell_h (k := 2) hZ rfl
  have zf := hZ.fr
  have HQ := Lib.hid (fun W9 h9 => hZ.laid hv3 w (low_trans HB2.out hb) (by omega) (W9 := W9) h9)
  clear hv3 hb hZ HB2 HP2 HR2 s0 s1 s2
  go_wp2_with fail
  generalize h9 : ((W3.setCell ⟨w.heap.size + 1, 0, none⟩ (.bool b7)).setCell ⟨w.heap.size + 1, 1, none⟩ (.slice q7 l7 c7)).setCell ⟨w.heap.size + 1, 2, none⟩ (.int .i64 f7) = W9
  obtain ⟨q1, q2, q3⟩ := HQ.out W9 h9
  have y0 := cell_h (k := 0) q1 rfl
  have y1 := cell_h (k := 1) q1 rfl
  have y2 := cell_h (k := 2) q1 rfl
  exact bodyPost_ret (v := .tuple #[.agg #[.bool b7, .slice q7 l7 c7, .int .i64 f7], .int .i64 0]) (by simp [results, Tryz.results25, go_sem, y0, y1, y2]) rfl ⟨_, _, rfl, ⟨rfl, q2⟩, q3⟩
end Go.Proofs.YtlphlbgbbblnpaaGreatDoor
