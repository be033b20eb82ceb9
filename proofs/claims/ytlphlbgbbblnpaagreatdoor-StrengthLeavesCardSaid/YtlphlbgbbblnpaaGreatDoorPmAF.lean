/-
  WALKS AND WORDS: PmA PmB PmC PmD PmE PmF of my texts, one behind the other.
-/
import Derived.Test.YtlphlbgbbblnpaaGreatDoorPlCJ
import Derived.Laws.EntriesVeiled
-- PmA: WORDS: welds and calls; WALKS: how far a weld and a call are apart.
namespace Go.Proofs.YtlphlbgbbblnpaaGreatDoor
open Go.RowKit Go.Shelf

/-- How far apart. -/
def dst (g h : Nat → Int) (i k : Nat) : Int := max (g i - h k) (h k - g i)
/-- Places: ints from 0 to 2^30. -/
def Plc (n : Nat) (g : Nat → Int) : Prop := ∀ i, i < n → 0 ≤ g i ∧ g i ≤ 1073741824
theorem dst_bd {n m : Nat} {g h : Nat → Int} (hg : Plc n g) (hh : Plc m h) {i k : Nat} (hi : i < n) (hk : k < m) : 0 ≤ dst g h i k ∧ dst g h i k ≤ 1073741824 := by
  have := hg i hi
  have := hh k hk
  unfold dst
  omega

theorem ret_int {a b : Int} (h : a = b) : Ending.returned (.int .i64 a) = .returned (.int .i64 b) := by rw [h]
/-- The two boxes of distances: welds and calls. -/
structure DsAt (w : World) (wb hb : Nat) (wa ha : Option Addr) (n wc m hc : Nat) (g h : Nat → Int) : Prop where
  c1 : w.cell? ⟨wb, 0, none⟩ = some (.slice wa n wc)
  c2 : w.cell? ⟨hb, 0, none⟩ = some (.slice ha m hc)
  s1 : Sl w 1 wa n g
  s2 : Sl w 1 ha m h
  p1 : Plc n g
  p2 : Plc m h
  l1 : n ≤ 40
  l2 : m ≤ 40

theorem ds_drewN {w : World} {wb hb : Nat} {wa ha : Option Addr} {n wc m hc : Nat} {g h : Nat → Int} (H : DsAt w wb hb wa ha n wc m hc g h) (q : Nat) : DsAt (w.drewN q) wb hb wa ha n wc m hc g h :=
  ⟨H.c1, H.c2, H.s1, H.s2, H.p1, H.p2, H.l1, H.l2⟩

/-- The steps with which an alignment of the first i welds with the first k calls can end. -/
abbrev Stp := Nat × Nat × Int
def stV (s : Stp) : Value := .agg #[.int .i64 (s.1 : Int), .int .i64 (s.2.1 : Int), .int .i64 s.2.2]
def stp1 (L : Int) (i k : Nat) : List Stp := if 0 < i then [(i - 1, k, L)] else []
def stp2 (F : Int) (i k : Nat) : List Stp := if 0 < k then [(i, k - 1, F)] else []
def stp3 (M : Int) (g h : Nat → Int) (i k : Nat) : List Stp := if 0 < i ∧ 0 < k ∧ dst g h (i - 1) (k - 1) ≤ M then [(i - 1, k - 1, dst g h (i - 1) (k - 1))] else []
def stp (L F M : Int) (g h : Nat → Int) (i k : Nat) : List Stp := stp1 L i k ++ stp2 F i k ++ stp3 M g h i k

end Go.Proofs.YtlphlbgbbblnpaaGreatDoor
-- PmB: WALKS: the function that goes through the steps with which an alignment can end.
namespace Go.Proofs.YtlphlbgbbblnpaaGreatDoor
open Go.RowKit Go.Shelf

attribute [local go_sem] Oper.semAt_some

section
variable {F : Fence} {n : Nat} {P : Program} {ops : Array Oper} {Q : Exit → Act → World → Prop} {md : Region.Mode} {S : World → Prop}
/-- A call within a region, where it alone may come up. -/
theorem anyI_call (hF : ∀ f, F.fn f) (hn : F.depth.isSome = true → 1 ≤ n) (i d : Nat) {o : Oper} {fuel : Nat} {listed : Array Bool} {a : Act} {w : World} {f : FuncId} {args : Array Value} {R : Ending → World → Prop} (hi : ops[i]? = some o) (hdst : o.dst = some d) (hd : noDefer ops = true) (hr : Region.ready md ops listed = [i])
    (hw : Region.wanted o (yielded ops a.tmps) = true) (hv : (execOp a.eval o).run P w = .ok (.enter f args) w) (hc : CallsIn F (n - 1) P f args w R)
    (h : ∀ e w', R e w' → ∃ v, e = .returned v ∧ S w' ∧ anyI F n P md ops Q S fuel (listed.setIfInBounds i true) { tmps := a.tmps.setIfInBounds d v, defers := a.defers } w') : anyI F n P md ops Q S (fuel + 1) listed a w := by
  refine anyI_one i hr ?_
  unfold wpOpIn
  simp only [hi, hw, if_true, Oper.wpIn, Oper.semAt_eq _ _ _ (fun c => noDefer_spec hd i o c hi), hv, Oper.uponIn]
  refine ⟨fun f _ => hF f, hn, hc.mono ?_⟩
  intro e w' he
  obtain ⟨v, rfl, hS, hA⟩ := h e w' he
  exact ⟨hS, by rw [put_some hdst]; exact hA⟩
/-- A round within a region, where it alone may come up. -/
theorem anyI_round (hF : ∀ f, F.fn f) (hn : F.depth.isSome = true → 1 ≤ n) (i d : Nat) {o : Oper} {fuel : Nat} {listed : Array Bool} {a : Act} {w : World} {l : Nat} {R : Ending → World → Prop} (hi : ops[i]? = some o) (hdst : o.dst = some d) (hd : noDefer ops = true) (hr : Region.ready md ops listed = [i])
    (hw : Region.wanted o (yielded ops a.tmps) = true) {fn : FuncId} {tmps : Array Value} {assign body : Code} (hv : (execOp a.eval o).run P w = .ok (.round l fn tmps assign body) w) (hc : RoundIn F (n - 1) P l fn tmps assign body w R)
    (h : ∀ e w', R e w' → ∃ v, e = .returned v ∧ S w' ∧ anyI F n P md ops Q S fuel (listed.setIfInBounds i true) { tmps := a.tmps.setIfInBounds d v, defers := a.defers } w') : anyI F n P md ops Q S (fuel + 1) listed a w := by
  refine anyI_one i hr ?_
  unfold wpOpIn
  simp only [hi, hw, if_true, Oper.wpIn, Oper.semAt_eq _ _ _ (fun c => noDefer_spec hd i o c hi), hv, Oper.uponIn]
  refine ⟨fun f _ => hF f, hn, hc.mono ?_⟩
  intro e w' he
  obtain ⟨v, rfl, hS, hA⟩ := h e w' he
  exact ⟨hS, by rw [put_some hdst]; exact hA⟩
end

/-- What a function that goes through steps comes to. -/
def StepsEnd (J : List Stp → World → Prop) (ys : List Stp) (e : Ending) (W : World) : Prop := (∃ v, e = .returned v) ∧ ∃ xs, xs = ys ∧ J xs W

end Go.Proofs.YtlphlbgbbblnpaaGreatDoor
-- PmC: WORDS: the table of prices, the cheapest step; WALKS: a step's price.
namespace Go.Proofs.YtlphlbgbbblnpaaGreatDoor
open Go.RowKit Go.Shelf

attribute [local go_sem] Oper.semAt_some

/-- What a step costs, all told. -/
def pr (T : Nat → Nat → Int) (s : Stp) : Int := T s.1 s.2.1 + s.2.2
def bsf (T : Nat → Nat → Int) (o : Option Stp) (x : Stp) : Option Stp := some (match o with | none => x | some b => if pr T x < pr T b then x else b)
/-- The first one of the cheapest steps. -/
def bestL (T : Nat → Nat → Int) (l : List Stp) : Option Stp := l.foldl (bsf T) none
theorem bestL_snoc (T : Nat → Nat → Int) (l : List Stp) (x : Stp) : bestL T (l ++ [x]) = bsf T (bestL T l) x := by simp [bestL, List.foldl_append]
theorem snoc_ind {α : Type} {p : List α → Prop} (h0 : p []) (h1 : ∀ l x, p l → p (l ++ [x])) (l : List α) : p l := by
  have h : ∀ l : List α, p l.reverse := by
    intro l
    induction l with
    | nil => exact h0
    | cons x l ih => rw [List.reverse_cons]; exact h1 _ _ ih
  have := h l.reverse
  rwa [List.reverse_reverse] at this
theorem bestL_mem (T : Nat → Nat → Int) (l : List Stp) : ∀ (b : Stp), bestL T l = some b → b ∈ l := by
  refine snoc_ind (p := fun l => ∀ (b : Stp), bestL T l = some b → b ∈ l) ?_ ?_ l
  · intro b h; cases h
  · intro l x ih b h
    rw [bestL_snoc] at h
    unfold bsf at h
    cases hb : bestL T l with
    | none => rw [hb] at h; simp at h; simp [h]
    | some c =>
      rw [hb] at h
      simp only [Option.some.injEq] at h
      split at h
      · simp [h]
      · have := ih c hb; rw [h] at this; simp [this]
theorem bestL_some (T : Nat → Nat → Int) (l : List Stp) : (bestL T l).isSome = !l.isEmpty := by
  refine snoc_ind (p := fun l => (bestL T l).isSome = !l.isEmpty) rfl ?_ l
  intro l x _
  rw [bestL_snoc]; simp [bsf]
theorem below_drewN {B : Nat} {w W : World} (h : Below B w W) (q : Nat) : Below B w (W.drewN q) := ⟨h.os, h.tape, h.output, h.size, h.block⟩
def best0 (T : Nat → Nat → Int) (l : List Stp) : Stp := (bestL T l).getD (0, 0, 0)

/-- The first r rows of a table, with the elements T. -/
structure TbAt (w : World) (bt m : Nat) (rb : Nat → Nat) (T : Nat → Nat → Int) (r : Nat) : Prop where
  ct : ∀ i, i < r → w.cell? ⟨bt, i, none⟩ = some (.slice (some ⟨rb i, 0, none⟩) (m + 1) (m + 1))
  cr : ∀ i, i < r → ∀ k, k ≤ m → w.cell? ⟨rb i, k, none⟩ = some (.int .i64 (T i k))
  bd : ∀ i, i < r → ∀ k, k ≤ m → -1125899906842624 ≤ T i k ∧ T i k ≤ 1125899906842624
theorem TbAt.lt {w : World} {bt m : Nat} {rb : Nat → Nat} {T : Nat → Nat → Int} {r : Nat} (h : TbAt w bt m rb T r) (i : Nat) (hi : i < r) : bt < w.heap.size ∧ rb i < w.heap.size :=
  ⟨World.block_lt_of_cell? w _ (h.ct i hi), World.block_lt_of_cell? w _ (h.cr i hi 0 (Nat.zero_le _))⟩
theorem TbAt.keep {w w' : World} {bt m : Nat} {rb : Nat → Nat} {T : Nat → Nat → Int} {r : Nat} (h : TbAt w bt m rb T r) (hb : Below w.heap.size w w') : TbAt w' bt m rb T r :=
  ⟨fun i hi => (hb.cell (p := ⟨bt, i, none⟩) (h.lt i hi).1).trans (h.ct i hi), fun i hi k hk => (hb.cell (p := ⟨rb i, k, none⟩) (h.lt i hi).2).trans (h.cr i hi k hk), h.bd⟩

/-- A step within the table. -/
def StOk (n m r : Nat) (s : Stp) : Prop := s.1 < r ∧ r ≤ n ∧ s.2.1 ≤ m ∧ 0 ≤ s.2.2 ∧ s.2.2 ≤ 4294967296

end Go.Proofs.YtlphlbgbbblnpaaGreatDoor
-- PmD: WALKS: the cheapest step.
namespace Go.Proofs.YtlphlbgbbblnpaaGreatDoor
open Go.RowKit Go.Shelf

attribute [local go_sem] Oper.semAt_some

section
variable {F : Fence} {n : Nat} {P : Program} {ops : Array Oper} {Q : Exit → Act → World → Prop} {md : Region.Mode} {S : World → Prop}
theorem anyI_takeG (hF : ∀ f, F.fn f) (i d : Nat) {oi : Oper} {v : Value} {fuel : Nat} {listed : Array Bool} {a : Act} {w : World} (hi : ops[i]? = some oi) (hdst : oi.dst = some d)
    (hs : Region.noSelect ops = true) (hd : noDefer ops = true) (hf : Region.free md ops listed i = true) (hr : (Region.ready md ops listed).contains i = true)
    (hQ : ∀ c a w, Q (.panic c) (a.put oi.dst v) w → Q (.panic c) a w) (hS : S w) (hy : YieldsIf P ops S oi v a)
    (h : anyI F n P md ops Q S fuel (listed.setIfInBounds i true) { tmps := a.tmps.setIfInBounds d v, defers := a.defers } w) : anyI F n P md ops Q S (fuel + 1) listed a w :=
  anyI_take hF i hi hs hd hf hr hQ hS hy (by rw [put_some hdst]; exact h)
/-- A call at an operation. -/
theorem opI_call (hF : ∀ f, F.fn f) (hn : F.depth.isSome = true → 1 ≤ n) (i d : Nat) {o : Oper} {a : Act} {w : World} {f : FuncId} {args : Array Value} {R : Ending → World → Prop} {K : Act → World → Prop} (hi : ops[i]? = some o) (hdst : o.dst = some d) (hd : noDefer ops = true)
    (hw : Region.wanted o (yielded ops a.tmps) = true) (hv : (execOp a.eval o).run P w = .ok (.enter f args) w) (hc : CallsIn F (n - 1) P f args w R)
    (h : ∀ e w', R e w' → ∃ v, e = .returned v ∧ K { tmps := a.tmps.setIfInBounds d v, defers := a.defers } w') : wpOpIn F n P ops Q i K a w := by
  unfold wpOpIn
  simp only [hi, hw, if_true, Oper.wpIn, Oper.semAt_eq _ _ _ (fun c => noDefer_spec hd i o c hi), hv, Oper.uponIn]
  refine ⟨fun f _ => hF f, hn, hc.mono ?_⟩
  intro e w' he
  obtain ⟨v, rfl, hA⟩ := h e w' he
  show K (a.put o.dst v) w'
  rw [put_some hdst]; exact hA
/-- Two may come up. -/
theorem anyI_two (i j : Nat) {fuel : Nat} {listed : Array Bool} {a : Act} {w : World} (hr : Region.ready md ops listed = [i, j])
    (h1 : wpOpIn F n P ops Q i (fun a' w' => S w' ∧ anyI F n P md ops Q S fuel (listed.setIfInBounds i true) a' w') a w)
    (h2 : wpOpIn F n P ops Q j (fun a' w' => S w' ∧ anyI F n P md ops Q S fuel (listed.setIfInBounds j true) a' w') a w) : anyI F n P md ops Q S (fuel + 1) listed a w :=
  ⟨fun h0 => absurd (hr.symm.trans h0) (by simp), fun k hk => by
    rw [hr] at hk
    rcases (by simpa using hk : k = i ∨ k = j) with rfl | rfl
    · exact h1
    · exact h2⟩
end

/-- What a choice among steps has while it is made: nothing old has changed; its best one; whether there is one; the step at hand. -/
structure Chs (w5 W : World) (B b2 b3 b4 Bx : Nat) (fd : Bool) (x y : Stp) (clo : Value) : Prop where
  bel : Below B w5 W
  fd : W.cell? ⟨b4, 0, none⟩ = some (.bool fd)
  cl : W.cell? ⟨b2, 0, none⟩ = some clo
  x0 : W.cell? ⟨Bx, 0, none⟩ = some (.int .i64 (x.1 : Int))
  x1 : W.cell? ⟨Bx, 1, none⟩ = some (.int .i64 (x.2.1 : Int))
  x2 : W.cell? ⟨Bx, 2, none⟩ = some (.int .i64 x.2.2)
  y0 : W.cell? ⟨b3, 0, none⟩ = some (.int .i64 (y.1 : Int))
  y1 : W.cell? ⟨b3, 1, none⟩ = some (.int .i64 (y.2.1 : Int))
  y2 : W.cell? ⟨b3, 2, none⟩ = some (.int .i64 y.2.2)
theorem Chs.keep {w5 W W' : World} {B b2 b3 b4 Bx : Nat} {fd : Bool} {x y : Stp} {clo : Value} (h : Chs w5 W B b2 b3 b4 Bx fd x y clo) (hb : Below W.heap.size W W') (hB : B ≤ W.heap.size) : Chs w5 W' B b2 b3 b4 Bx fd x y clo :=
  have k : ∀ (b o : Nat) (v : Value), W.cell? ⟨b, o, none⟩ = some v → W'.cell? ⟨b, o, none⟩ = some v := fun b o _ hc => (hb.cell (p := ⟨b, o, none⟩) (World.block_lt_of_cell? W _ hc)).trans hc
  ⟨h.bel.trans (hb.mono hB), k _ _ _ h.fd, k _ _ _ h.cl, k _ _ _ h.x0, k _ _ _ h.x1, k _ _ _ h.x2, k _ _ _ h.y0, k _ _ _ h.y1, k _ _ _ h.y2⟩

theorem al_old {w : World} {k : Nat} {x : Obj} (h : w.heap[k]? = some x) (o : Obj) : (w.alloc o).heap[k]? = some x := (Below.heap_alloc w o k (Array.getElem?_eq_some_iff.1 h).1).trans h
theorem al_1 (w : World) (a b : Obj) : ((w.alloc a).alloc b).heap[w.heap.size + 1]? = some b := by have h := World.alloc_heap_new (w.alloc a) b; rwa [World.size_alloc] at h
theorem al_2 (w : World) (a b c : Obj) : (((w.alloc a).alloc b).alloc c).heap[w.heap.size + 1 + 1]? = some c := by have h := al_1 (w.alloc a) b c; rwa [World.size_alloc] at h
theorem al_3 (w : World) (a b c d : Obj) : ((((w.alloc a).alloc b).alloc c).alloc d).heap[w.heap.size + 1 + 1 + 1]? = some d := by have h := al_2 (w.alloc a) b c d; rwa [World.size_alloc] at h
theorem al_4 (w : World) (a b c d e : Obj) : (((((w.alloc a).alloc b).alloc c).alloc d).alloc e).heap[w.heap.size + 1 + 1 + 1 + 1]? = some e := by have h := al_3 (w.alloc a) b c d e; rwa [World.size_alloc] at h
theorem five_0 (w : World) (a b c d e : Obj) : (((((w.alloc a).alloc b).alloc c).alloc d).alloc e).heap[w.heap.size]? = some a := al_old (al_old (al_old (al_old (World.alloc_heap_new w a) b) c) d) e
theorem five_1 (w : World) (a b c d e : Obj) : (((((w.alloc a).alloc b).alloc c).alloc d).alloc e).heap[w.heap.size + 1]? = some b := al_old (al_old (al_old (al_1 w a b) c) d) e
theorem five_2 (w : World) (a b c d e : Obj) : (((((w.alloc a).alloc b).alloc c).alloc d).alloc e).heap[w.heap.size + 1 + 1]? = some c := al_old (al_old (al_2 w a b c) d) e
theorem five_3 (w : World) (a b c d e : Obj) : (((((w.alloc a).alloc b).alloc c).alloc d).alloc e).heap[w.heap.size + 1 + 1 + 1]? = some d := al_old (al_3 w a b c d) e
theorem five_4 (w : World) (a b c d e : Obj) : (((((w.alloc a).alloc b).alloc c).alloc d).alloc e).heap[w.heap.size + 1 + 1 + 1 + 1]? = some e := al_4 w a b c d e

end Go.Proofs.YtlphlbgbbblnpaaGreatDoor
-- PmE: WALKS: the errors of an alignment's problem; what makes the functions over the steps.
namespace Go.Proofs.YtlphlbgbbblnpaaGreatDoor
open Go.RowKit

/-- The error of a place in a list, and of a list. -/
def plErr (R : Int) (g : Nat → Int) (i : Nat) : Int := if g i < 0 ∨ 1073741824 < g i then 1 else if 0 < i ∧ g i - g (i - 1) < R then 7 else 0
def plChk (R : Int) (n : Nat) (g : Nat → Int) : Int := if 40 < n then 4 else first (plErr R g) n
theorem plc_ok {R : Int} {n : Nat} {g : Nat → Int} (h : plChk R n g = 0) : n ≤ 40 ∧ Plc n g := by
  unfold plChk at h
  split at h
  · omega
  · refine ⟨by omega, fun i hi => ?_⟩
    have := first_all h i hi
    unfold plErr at this
    split at this
    · omega
    · omega

/-- The error of an alignment's problem. -/
def cErr (x : Int) : Int := if x < 0 ∨ 1048576 < x then 1 else 0
def pbChk (n m : Nat) (g h : Nat → Int) (L F M : Int) : Int := if plChk 1 n g ≠ 0 then plChk 1 n g else if plChk 0 m h ≠ 0 then plChk 0 m h else if cErr L ≠ 0 ∨ cErr F ≠ 0 ∨ cErr M ≠ 0 then 1 else 0
/-- A problem without an error. -/
structure PbOk (n m : Nat) (g h : Nat → Int) (L F M : Int) : Prop where
  n40 : n ≤ 40
  m40 : m ≤ 40
  pg : Plc n g
  ph : Plc m h
  l : 0 ≤ L ∧ L ≤ 1048576
  f : 0 ≤ F ∧ F ≤ 1048576
  m : 0 ≤ M ∧ M ≤ 1048576
theorem pb_ok {n m : Nat} {g h : Nat → Int} {L F M : Int} (hk : pbChk n m g h L F M = 0) : PbOk n m g h L F M ∧ plChk 1 n g = 0 ∧ plChk 0 m h = 0 := by
  unfold pbChk at hk
  by_cases h1 : plChk 1 n g = 0
  · rw [if_neg (by simpa using h1)] at hk
    by_cases h2 : plChk 0 m h = 0
    · rw [if_neg (by simpa using h2)] at hk
      split at hk
      · omega
      · rename_i h3
        unfold cErr at h3
        have a := plc_ok h1
        have b := plc_ok h2
        refine ⟨⟨a.1, b.1, a.2, b.2, ?_, ?_, ?_⟩, h1, h2⟩ <;> omega
    · rw [if_pos (by simpa using h2)] at hk; omega
  · rw [if_pos (by simpa using h1)] at hk; omega

end Go.Proofs.YtlphlbgbbblnpaaGreatDoor
-- PmF: WALKS: the functions that tell the steps.
namespace Go.Proofs.YtlphlbgbbblnpaaGreatDoor
open Go.RowKit

theorem cell_h {w : World} {b k : Nat} {cs : Array Value} {t : TypeId} {fz : Nat × Nat} {v : Value} (h : w.heap[b]? = some (.cells cs t fz)) (hv : cs[k]? = some v) : w.cell? ⟨b, k, none⟩ = some v := by
  simp only [World.cell?, h]; exact hv
end Go.Proofs.YtlphlbgbbblnpaaGreatDoor
