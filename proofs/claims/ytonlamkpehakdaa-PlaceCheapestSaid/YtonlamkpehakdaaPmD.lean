/-
  WALKS: the cheapest step.
-/
import Derived.Test.YtonlamkpehakdaaPmC
import Derived.Laws.EntriesVeiled
namespace Go.Proofs.Ytonlamkpehakdaa
open Go.RowKit Go.Shelf

attribute [local go_sem] Oper.semAt_some

section
variable {F : Fence} {n : Nat} {P : Program} {ops : Array Oper} {Q : Exit → Act → World → Prop} {md : Region.Mode} {S : World → Prop}
theorem anyI_takeG (hF : ∀ f, F.fn f) (i d : Nat) {oi : Oper} {v : Value} {fuel : Nat} {listed : Array Bool} {a : Act} {w : World} (hi : ops[i]? = some oi) (hdst : oi.dst = some d)
    (hs : Region.noSelect ops = true) (hd : noDefer ops = true) (hf : Region.free md ops listed i = true) (hr : (Region.ready md ops listed).contains i = true)
    (hQ : ∀ c a w, Q (.panic c) (a.put oi.dst v) w → Q (.panic c) a w) (hS : S w) (hy : YieldsIf P ops S oi v a)
    (h : anyI F n P md ops Q S fuel (listed.setIfInBounds i true) { tmps := a.tmps.setIfInBounds d v, defers := a.defers } w) : anyI F n P md ops Q S (fuel + 1) listed a w :=
  anyI_take hF i hi hs hd hf hr hQ hS hy (by rw [put_some hdst]; exact h)
/-- A call at an operation. -/
theorem opI_call (hF : ∀ f, F.fn f) (hn : F.depth.isSome = true → 1 ≤ n) (i d : Nat) {o : Oper} {a : Act} {w : World} {f : FuncId} {args : Array Value} {R : Ending → World → Prop} {K : Act → World → Prop} (hi : ops[i]? = some o) (hdst : o.dst = some d) (hd : noDefer ops = true)
    (hw : Region.wanted o (yielded ops a.tmps) = true) (hv : (execOp a.eval o).run P w = .ok (.enter f args) w) (hc : CallsIn F (n - 1) P f args w R)
    (h : ∀ e w', R e w' → ∃ v, e = .returned v ∧ K { tmps := a.tmps.setIfInBounds d v, defers := a.defers } w') : wpOpIn F n P ops Q i K a w := by
  unfold wpOpIn
  simp only [hi, hw, if_true, Oper.wpIn, Oper.semAt_eq _ _ _ (fun c => noDefer_spec hd i o c hi), hv, Oper.uponIn]
  refine ⟨fun f _ => hF f, hn, hc.mono ?_⟩
  intro e w' he
  obtain ⟨v, rfl, hA⟩ := h e w' he
  show K (a.put o.dst v) w'
  rw [put_some hdst]; exact hA
/-- Two may come up. -/
theorem anyI_two (i j : Nat) {fuel : Nat} {listed : Array Bool} {a : Act} {w : World} (hr : Region.ready md ops listed = [i, j])
    (h1 : wpOpIn F n P ops Q i (fun a' w' => S w' ∧ anyI F n P md ops Q S fuel (listed.setIfInBounds i true) a' w') a w)
    (h2 : wpOpIn F n P ops Q j (fun a' w' => S w' ∧ anyI F n P md ops Q S fuel (listed.setIfInBounds j true) a' w') a w) : anyI F n P md ops Q S (fuel + 1) listed a w :=
  ⟨fun h0 => absurd (hr.symm.trans h0) (by simp), fun k hk => by
    rw [hr] at hk
    rcases (by simpa using hk : k = i ∨ k = j) with rfl | rfl
    · exact h1
    · exact h2⟩
end

/-- What a choice among steps has while it is made: nothing old has changed; its best one; whether there is one; the step at hand. -/
structure Chs (w5 W : World) (B b2 b3 b4 Bx : Nat) (fd : Bool) (x y : Stp) (clo : Value) : Prop where
  bel : Below B w5 W
  fd : W.cell? ⟨b4, 0, none⟩ = some (.bool fd)
  cl : W.cell? ⟨b2, 0, none⟩ = some clo
  x0 : W.cell? ⟨Bx, 0, none⟩ = some (.int .i64 (x.1 : Int))
  x1 : W.cell? ⟨Bx, 1, none⟩ = some (.int .i64 (x.2.1 : Int))
  x2 : W.cell? ⟨Bx, 2, none⟩ = some (.int .i64 x.2.2)
  y0 : W.cell? ⟨b3, 0, none⟩ = some (.int .i64 (y.1 : Int))
  y1 : W.cell? ⟨b3, 1, none⟩ = some (.int .i64 (y.2.1 : Int))
  y2 : W.cell? ⟨b3, 2, none⟩ = some (.int .i64 y.2.2)
theorem Chs.keep {w5 W W' : World} {B b2 b3 b4 Bx : Nat} {fd : Bool} {x y : Stp} {clo : Value} (h : Chs w5 W B b2 b3 b4 Bx fd x y clo) (hb : Below W.heap.size W W') (hB : B ≤ W.heap.size) : Chs w5 W' B b2 b3 b4 Bx fd x y clo :=
  have k : ∀ (b o : Nat) (v : Value), W.cell? ⟨b, o, none⟩ = some v → W'.cell? ⟨b, o, none⟩ = some v := fun b o _ hc => (hb.cell (p := ⟨b, o, none⟩) (World.block_lt_of_cell? W _ hc)).trans hc
  ⟨h.bel.trans (hb.mono hB), k _ _ _ h.fd, k _ _ _ h.cl, k _ _ _ h.x0, k _ _ _ h.x1, k _ _ _ h.x2, k _ _ _ h.y0, k _ _ _ h.y1, k _ _ _ h.y2⟩

/-- What holds while steps are gone through. -/
structure Cho (w5 W : World) (B b3 b4 : Nat) (T : Nat → Nat → Int) (pre : List Stp) : Prop where
  bel : Below B w5 W
  size : w5.heap.size ≤ W.heap.size
  best : W.heap[b3]? = some (.cells #[.int .i64 ((best0 T pre).1 : Int), .int .i64 ((best0 T pre).2.1 : Int), .int .i64 (best0 T pre).2.2] 147 (0, 0))
  fd : Boxed W b4 4 (.bool (bestL T pre).isSome)
theorem Cho.keep {w5 W W' : World} {B b3 b4 : Nat} {T : Nat → Nat → Int} {pre : List Stp} (h : Cho w5 W B b3 b4 T pre) {C : Nat} (hb : Below C W W') (hB : B ≤ C) (h3 : b3 < C) (h4 : b4 < C) : Cho w5 W' B b3 b4 T pre :=
  ⟨h.bel.trans (hb.mono hB), Nat.le_trans h.size hb.size, (hb.block _ h3).trans h.best, (hb.block _ h4).trans h.fd⟩

theorem StAt.keep {w W : World} {ib kb cb db wb hb : Nat} {wa ha : Option Addr} {n wc m hc : Nat} {g h : Nat → Int} {L F M : Int} {i k : Nat} (H : StAt w ib kb cb db wb hb wa ha n wc m hc g h L F M i k) (hW : Below w.heap.size w W) :
    StAt W ib kb cb db wb hb wa ha n wc m hc g h L F M i k :=
  have k : ∀ (b o : Nat) (v : Value), w.cell? ⟨b, o, none⟩ = some v → W.cell? ⟨b, o, none⟩ = some v := fun b o v hc => (hW.cell (p := ⟨b, o, none⟩) (World.block_lt_of_cell? w _ hc)).trans hc
  ⟨k _ _ _ H.ci, k _ _ _ H.ck, k _ _ _ H.c0, k _ _ _ H.c1, k _ _ _ H.c2, k _ _ _ H.cd, ⟨k _ _ _ H.ds.c1, k _ _ _ H.ds.c2, H.ds.s1.keep (by decide) hW, H.ds.s2.keep (by decide) hW, H.ds.p1, H.ds.p2, H.ds.l1, H.ds.l2⟩, H.hi, H.hk⟩
theorem al_old {w : World} {k : Nat} {x : Obj} (h : w.heap[k]? = some x) (o : Obj) : (w.alloc o).heap[k]? = some x := (Below.heap_alloc w o k (Array.getElem?_eq_some_iff.1 h).1).trans h
theorem al_1 (w : World) (a b : Obj) : ((w.alloc a).alloc b).heap[w.heap.size + 1]? = some b := by have h := World.alloc_heap_new (w.alloc a) b; rwa [World.size_alloc] at h
theorem al_2 (w : World) (a b c : Obj) : (((w.alloc a).alloc b).alloc c).heap[w.heap.size + 1 + 1]? = some c := by have h := al_1 (w.alloc a) b c; rwa [World.size_alloc] at h
theorem al_3 (w : World) (a b c d : Obj) : ((((w.alloc a).alloc b).alloc c).alloc d).heap[w.heap.size + 1 + 1 + 1]? = some d := by have h := al_2 (w.alloc a) b c d; rwa [World.size_alloc] at h
theorem al_4 (w : World) (a b c d e : Obj) : (((((w.alloc a).alloc b).alloc c).alloc d).alloc e).heap[w.heap.size + 1 + 1 + 1 + 1]? = some e := by have h := al_3 (w.alloc a) b c d e; rwa [World.size_alloc] at h
theorem five_0 (w : World) (a b c d e : Obj) : (((((w.alloc a).alloc b).alloc c).alloc d).alloc e).heap[w.heap.size]? = some a := al_old (al_old (al_old (al_old (World.alloc_heap_new w a) b) c) d) e
theorem five_1 (w : World) (a b c d e : Obj) : (((((w.alloc a).alloc b).alloc c).alloc d).alloc e).heap[w.heap.size + 1]? = some b := al_old (al_old (al_old (al_1 w a b) c) d) e
theorem five_2 (w : World) (a b c d e : Obj) : (((((w.alloc a).alloc b).alloc c).alloc d).alloc e).heap[w.heap.size + 1 + 1]? = some c := al_old (al_old (al_2 w a b c) d) e
theorem five_3 (w : World) (a b c d e : Obj) : (((((w.alloc a).alloc b).alloc c).alloc d).alloc e).heap[w.heap.size + 1 + 1 + 1]? = some d := al_old (al_3 w a b c d) e
theorem five_4 (w : World) (a b c d e : Obj) : (((((w.alloc a).alloc b).alloc c).alloc d).alloc e).heap[w.heap.size + 1 + 1 + 1 + 1]? = some e := al_4 w a b c d e

theorem x_step : (Try.prog.info? 147).map (·.size) = some 3 := by kernel_rfl
/-- A step that is cheaper is kept. -/
theorem cho_step {w5 W' w7 : World} {S : Nat} {T : Nat → Nat → Int} {pre : List Stp} {x : Stp} {ok : Stp → Prop} {v3 : Array Value} (hI : Cho w5 W' (S + 3) (S + 1 + 1 + 1) (S + 1 + 1 + 1 + 1) T pre) (hb : Below W'.heap.size W' w7) (_h5 : S + 5 ≤ w5.heap.size) (h6 : w5.heap.size ≤ W'.heap.size) (h7 : w5.heap.size = S + 5)
    (h3 : w7.heap[S + 1 + 1 + 1]? = some (.cells v3 147 (0, 0))) (hbs : bestL T (pre ++ [x]) = some x) (hb0 : best0 T (pre ++ [x]) = x) (hv : v3.size = 3) (hmem : ∀ z, z ∈ pre ++ [x] → ok z) :
    KeepsFrom w5.heap.size W' ((((w7.setCell ⟨S + 1 + 1 + 1, 0, none⟩ (.int .i64 (x.1 : Int))).setCell ⟨S + 1 + 1 + 1, 1, none⟩ (.int .i64 (x.2.1 : Int))).setCell ⟨S + 1 + 1 + 1, 2, none⟩ (.int .i64 x.2.2)).setCell ⟨S + 1 + 1 + 1 + 1, 0, none⟩ (.bool true)) ∧
      Cho w5 ((((w7.setCell ⟨S + 1 + 1 + 1, 0, none⟩ (.int .i64 (x.1 : Int))).setCell ⟨S + 1 + 1 + 1, 1, none⟩ (.int .i64 (x.2.1 : Int))).setCell ⟨S + 1 + 1 + 1, 2, none⟩ (.int .i64 x.2.2)).setCell ⟨S + 1 + 1 + 1 + 1, 0, none⟩ (.bool true)) (S + 3) (S + 1 + 1 + 1) (S + 1 + 1 + 1 + 1) T (pre ++ [x]) ∧ ∀ z, z ∈ pre ++ [x] → ok z := by
  obtain ⟨W8, hW8⟩ : ∃ W8, (((w7.setCell ⟨S + 1 + 1 + 1, 0, none⟩ (.int .i64 (x.1 : Int))).setCell ⟨S + 1 + 1 + 1, 1, none⟩ (.int .i64 (x.2.1 : Int))).setCell ⟨S + 1 + 1 + 1, 2, none⟩ (.int .i64 x.2.2)) = W8 := ⟨_, rfl⟩
  have k8 : ∀ j : Nat, j ≠ S + 1 + 1 + 1 → W8.heap[j]? = w7.heap[j]? := fun j hj => by
    rw [← hW8]
    exact ((Below.heap_setCell _ ⟨S + 1 + 1 + 1, 2, none⟩ _ j hj).trans (Below.heap_setCell _ ⟨S + 1 + 1 + 1, 1, none⟩ _ j hj)).trans (Below.heap_setCell _ ⟨S + 1 + 1 + 1, 0, none⟩ _ j hj)
  have o8 : W8.os = w7.os ∧ W8.tape = w7.tape ∧ W8.output = w7.output ∧ W8.heap.size = w7.heap.size := by rw [← hW8]; exact ⟨rfl, rfl, rfl, by simp [World.setCell]⟩
  have b8 : W8.heap[S + 1 + 1 + 1]? = some (.cells #[.int .i64 (x.1 : Int), .int .i64 (x.2.1 : Int), .int .i64 x.2.2] 147 (0, 0)) := by
    rw [← hW8, heap_set (heap_set (heap_set h3 _) _) _]
    match v3, hv with
    | ⟨[_, _, _]⟩, _ => rfl
  rw [hW8]
  have k9 : ∀ j : Nat, j ≠ S + 1 + 1 + 1 → j ≠ S + 1 + 1 + 1 + 1 → (W8.setCell ⟨S + 1 + 1 + 1 + 1, 0, none⟩ (.bool true)).heap[j]? = w7.heap[j]? := fun j h1 h2 => (Below.heap_setCell _ ⟨S + 1 + 1 + 1 + 1, 0, none⟩ _ j h2).trans (k8 j h1)
  have b9 : (W8.setCell ⟨S + 1 + 1 + 1 + 1, 0, none⟩ (.bool true)).heap[S + 1 + 1 + 1]? = some (.cells #[.int .i64 (x.1 : Int), .int .i64 (x.2.1 : Int), .int .i64 x.2.2] 147 (0, 0)) := (Below.heap_setCell _ ⟨S + 1 + 1 + 1 + 1, 0, none⟩ _ _ (by show S + 1 + 1 + 1 ≠ S + 1 + 1 + 1 + 1; omega)).trans b8
  have f9 : Boxed (W8.setCell ⟨S + 1 + 1 + 1 + 1, 0, none⟩ (.bool true)) (S + 1 + 1 + 1 + 1) 4 (.bool true) := Boxed.set (.bool true) (show Boxed W8 _ _ _ from (k8 _ (by omega)).trans ((hb.block _ (by omega)).trans hI.fd))
  have o9 : (W8.setCell ⟨S + 1 + 1 + 1 + 1, 0, none⟩ (.bool true)).heap.size = w7.heap.size := by rw [← o8.2.2.2]; simp [World.setCell]
  have hs := hb.size
  refine ⟨⟨by omega, fun j o hj ho _ => (k9 j (by omega) (by omega)).trans ((hb.block j (Array.getElem?_eq_some_iff.1 ho).1).trans ho)⟩, ⟨hI.bel.trans ⟨o8.1.trans hb.os, o8.2.1.trans hb.tape, o8.2.2.1.trans hb.output, by omega, fun j hj => (k9 j (by omega) (by omega)).trans (hb.block j (by omega))⟩, by omega, by rw [hb0]; exact b9, by rw [hbs]; exact f9⟩, hmem⟩

set_option maxRecDepth 100000 in
set_option maxHeartbeats 4000000 in
theorem cheapest_in (w : World) (ib kb cb db wb hb' : Nat) (wa ha : Option Addr) (nw wc nh hc : Nat) (g h : Nat → Int) (L F M : Int) (i k : Nat) (bt n nc m r : Nat) (rb : Nat → Nat) (T : Nat → Nat → Int)
    (hA : StAt w ib kb cb db wb hb' wa ha nw wc nh hc g h L F M i k) (hT : TbAt w bt m rb T r) (hok : ∀ s, s ∈ stp L F M g h i k → StOk n m r s) (hn : n ≤ 41) (hm : m ≤ 40) :
    CallsIn Fence.wide 5 Try.prog 77 #[.slice (some ⟨bt, 0, none⟩) n nc, .func (.func 95) #[] #[.pointer (some ⟨ib, 0, none⟩), .pointer (some ⟨kb, 0, none⟩), .pointer (some ⟨cb, 0, none⟩), .pointer (some ⟨db, 0, none⟩)]] w fun e w' =>
      e = .returned (stV (best0 T (stp L F M g h i k))) ∧ Below w.heap.size w w' := by
  refine callsIn_of_wp_marks Try.func77 rfl trivial ?_ rfl
  simp only [Try.ntmps77, List.size_toArray, List.length_cons, List.length_nil, Nat.reduceAdd, Nat.reduceSub, Array.replicate_succ, Array.replicate_zero, List.push_toArray, List.append_toArray, List.nil_append, List.cons_append]
  have HA := Lib.hid hA
  have HT := Lib.hid hT
  have HO := Lib.hid hok
  clear hA hT hok
  gi_wp2
  obtain ⟨W5, hW5⟩ : ∃ W5, (((((w.alloc (.cells #[.slice (some ⟨bt, 0, none⟩) n nc] 41)).alloc (.cells #[.int .i64 0, .int .i64 0, .int .i64 0] 147)).alloc (.cells #[.func (.func 96) #[] #[.pointer (some ⟨w.heap.size, 0, none⟩)]] 167)).alloc (.cells #[.int .i64 0, .int .i64 0, .int .i64 0] 147)).alloc (.cells #[.bool false] 4)) = W5 := ⟨_, rfl⟩
  have hz5 : W5.heap.size = w.heap.size + 5 := by rw [← hW5]; simp
  have hB5 : Below w.heap.size w W5 := by rw [← hW5]; exact (((((Below.refl _ w).alloc (Nat.le_refl _) _).alloc (by simp) _).alloc (by simp; omega) _).alloc (by simp; omega) _).alloc (by simp; omega) _
  have h0 : W5.heap[w.heap.size]? = some (.cells #[.slice (some ⟨bt, 0, none⟩) n nc] 41 (0, 0)) := by rw [← hW5]; exact five_0 w _ _ _ _ _
  have h1 : W5.heap[w.heap.size + 1]? = some (.cells #[.int .i64 0, .int .i64 0, .int .i64 0] 147 (0, 0)) := by rw [← hW5]; exact five_1 w _ _ _ _ _
  have h2 : W5.heap[w.heap.size + 1 + 1]? = some (.cells #[.func (.func 96) #[] #[.pointer (some ⟨w.heap.size, 0, none⟩)]] 167 (0, 0)) := by rw [← hW5]; exact five_2 w _ _ _ _ _
  have h3 : W5.heap[w.heap.size + 1 + 1 + 1]? = some (.cells #[.int .i64 0, .int .i64 0, .int .i64 0] 147 (0, 0)) := by rw [← hW5]; exact five_3 w _ _ _ _ _
  have h4 : W5.heap[w.heap.size + 1 + 1 + 1 + 1]? = some (.cells #[.bool false] 4 (0, 0)) := by rw [← hW5]; exact five_4 w _ _ _ _ _
  rw [hW5]
  clear hW5
  have HZ5 := Lib.hid hz5
  have HB5 := Lib.hid hB5
  have c0 : W5.cell? ⟨w.heap.size, 0, none⟩ = some (.slice (some ⟨bt, 0, none⟩) n nc) := by simp [World.cell?, h0]
  have c2 : W5.cell? ⟨w.heap.size + 1 + 1, 0, none⟩ = some (.func (.func 96) #[] #[.pointer (some ⟨w.heap.size, 0, none⟩)]) := by simp [World.cell?, h2]
  have HC0 := Lib.hid c0
  have HC2 := Lib.hid c2
  have HH1 := Lib.hid h1
  have hCho : Cho W5 W5 (w.heap.size + 3) (w.heap.size + 1 + 1 + 1) (w.heap.size + 1 + 1 + 1 + 1) T [] := ⟨Below.refl _ _, Nat.le_refl _, h3, h4⟩
  have HCho := Lib.hid hCho
  clear hz5 hB5 h0 h1 h2 h3 h4 c0 c2 hCho
  refine rangeFunc_seen rfl (by decide) (gf := 95) (lb := #[.pointer (some ⟨ib, 0, none⟩), .pointer (some ⟨kb, 0, none⟩), .pointer (some ⟨cb, 0, none⟩), .pointer (some ⟨db, 0, none⟩)]) rfl trivial (enters_of Try.func95 (by kernel_rfl) rfl)
    (encs := fun x : Stp => #[stV x]) (fun _ => rfl) (fun pre W' => Cho W5 W' (w.heap.size + 3) (w.heap.size + 1 + 1 + 1) (w.heap.size + 1 + 1 + 1 + 1) T pre ∧ ∀ y, y ∈ pre → y ∈ stp L F M g h i k)
    (fun pre x => x ∈ stp L F M g h i k) (fun xs => xs = stp L F M g h i k) ?own ⟨HCho.out, fun y hy => by cases hy⟩
    (fun x a' W' => ∃ Bx, w.heap.size + 5 ≤ Bx ∧ W'.heap[Bx]? = some (.cells #[.int .i64 (x.1 : Int), .int .i64 (x.2.1 : Int), .int .i64 x.2.2] 147 (0, 0)) ∧
      a' = { tmps := #[.slice (some ⟨bt, 0, none⟩) n nc, .func (.func 95) #[] #[.pointer (some ⟨ib, 0, none⟩), .pointer (some ⟨kb, 0, none⟩), .pointer (some ⟨cb, 0, none⟩), .pointer (some ⟨db, 0, none⟩)], .pointer (some ⟨w.heap.size, 0, none⟩), undef, .pointer (some ⟨w.heap.size + 1, 0, none⟩), .pointer (some ⟨w.heap.size + 1 + 1, 0, none⟩), .pointer (some ⟨w.heap.size + 1 + 1 + 1, 0, none⟩), .pointer (some ⟨w.heap.size + 1 + 1 + 1 + 1, 0, none⟩), .pointer (some ⟨Bx, 0, none⟩), .func (.func 96) #[] #[.pointer (some ⟨w.heap.size, 0, none⟩)], .agg #[.int .i64 0, .int .i64 0, .int .i64 0], .func (.func 95) #[] #[.pointer (some ⟨ib, 0, none⟩), .pointer (some ⟨kb, 0, none⟩), .pointer (some ⟨cb, 0, none⟩), .pointer (some ⟨db, 0, none⟩)], stV x, undef, undef, undef, undef, undef, undef, undef, undef, undef, undef, undef, undef, undef], defers := [] })
    (fun x a' _ X Y row hs hg hr => by
      obtain ⟨Bx, h1, h2, h3⟩ := hs
      exact ⟨Bx, h1, (grownBy_keeps_cells hg (fun r e => (hr r e).2) h2 rfl).trans h2, h3⟩)
    ?sq ?assign ?body ?done
  case own =>
    rw [HZ5.out]
    exact ownFrom_low (fun s W' h => by have := h.1.size; have := HZ5.out; omega) (fun s W' W'' h hb => ⟨h.1.keep hb (by omega) (by omega) (by omega), h.2⟩)
  case sq =>
    intro l J W' hb hJI hJa hY h0
    refine (steps_in 4 l ib kb cb db wb hb' wa ha nw wc nh hc g h L F M i k J W' (fun pre W2 h => ?_) hJa (fun pre x W2 h hx => hY pre x W2 h hx) h0).mono fun e w' h => h
    exact HA.out.keep (HB5.out.trans ((hJI pre W2 h).1.bel.mono (by omega)))
  case assign =>
    rintro l pre x W' K5 hI hG hK5
    have HI := Lib.hid hI
    have HK5 := Lib.hid hK5
    clear hI hK5
    dsimp only [stV]
    gi_wp2
    have hI := HI.out
    have hz := HZ5.out
    have hsz := hI.1.size
    refine HK5.out _ _ ((KeepsOthers.alloc _ _).from _) ⟨hI.1.keep (C := W'.heap.size) ((Below.refl _ _).alloc (Nat.le_refl _) _) (by omega) (by omega) (by omega), hI.2⟩ ⟨W'.heap.size, by omega, World.alloc_heap_new W' _, rfl⟩
  case body =>
    rintro l pre x a' W' hl2 hI hx ⟨Bx, hBx, hbx, rfl⟩
    have hF1 : ∀ f, (Fence.wide.inRound l).fn f := fun _ => trivial
    have hFd : (Fence.wide.inRound l).depth.isSome = true → 1 ≤ 5 - 1 - 1 := fun _ => by decide
    have hz := HZ5.out
    have hsz := hI.1.size
    have hfd := hI.1.fd.cell
    have hclo := (hI.1.bel.cell (p := ⟨w.heap.size + 1 + 1, 0, none⟩) (by show w.heap.size + 1 + 1 < _; omega)).trans HC2.out
    have hS0 : Chs W5 W' (w.heap.size + 3) (w.heap.size + 1 + 1) (w.heap.size + 1 + 1 + 1) (w.heap.size + 1 + 1 + 1 + 1) Bx (bestL T pre).isSome x (best0 T pre) (.func (.func 96) #[] #[.pointer (some ⟨w.heap.size, 0, none⟩)]) :=
      ⟨hI.1.bel, hfd, hclo, by simp [World.cell?, hbx], by simp [World.cell?, hbx], by simp [World.cell?, hbx], by simp [World.cell?, hI.1.best], by simp [World.cell?, hI.1.best], by simp [World.cell?, hI.1.best]⟩
    have HI := Lib.hid hI
    have hsn := bestL_snoc T pre x
    dsimp only [stV]
    clear hI hfd hclo
    cases hbp : bestL T pre with
    | none =>
      rw [hbp] at hS0 hsn
      have hb0 : best0 T pre = (0, 0, 0) := by unfold best0; rw [hbp]; rfl
      have hbs : bestL T (pre ++ [x]) = some x := by rw [hsn]; rfl
      have hb0' : best0 T (pre ++ [x]) = x := by unfold best0; rw [hbs]; rfl
      rw [hb0] at hS0
      have HBS := Lib.hid hbs
      have HB0' := Lib.hid hb0'
      clear hbp hsn hb0 hbs hb0'
      gi_wp2
      refine wpIn_region_I (fun W2 => Chs W5 W2 (w.heap.size + 3) (w.heap.size + 1 + 1) (w.heap.size + 1 + 1 + 1) (w.heap.size + 1 + 1 + 1 + 1) Bx false x (0, 0, 0) (.func (.func 96) #[] #[.pointer (some ⟨w.heap.size, 0, none⟩)])) (by kernel_rfl) ?_
      change anyI _ _ _ _ _ _ _ 11 (Array.replicate 11 false) _ _
      replace hS0 : Chs W5 W'.drew (w.heap.size + 3) (w.heap.size + 1 + 1) (w.heap.size + 1 + 1 + 1) (w.heap.size + 1 + 1 + 1 + 1) Bx false x (0, 0, 0) (.func (.func 96) #[] #[.pointer (some ⟨w.heap.size, 0, none⟩)]) := ⟨hS0.bel.drew, hS0.fd, hS0.cl, hS0.x0, hS0.x1, hS0.x2, hS0.y0, hS0.y1, hS0.y2⟩
      refine anyI_takeG hF1 0 13 (v := ?_) rfl rfl (by kernel_rfl) (by kernel_rfl) (by kernel_rfl) (by kernel_rfl) (fun _ _ _ h => h) hS0 (Or.inl ⟨by rfl, ?_⟩) ?_
      rotate_left
      · intro W2 hSw; obtain ⟨s0, s1, s2, s3, s4, s5, s6, s7, s8⟩ := hSw; go_simp; try with_reducible rfl
      simp only [List.setIfInBounds_toArray, List.set_cons_zero, List.set_cons_succ]
      refine anyI_takeG hF1 1 14 (v := ?_) rfl rfl (by kernel_rfl) (by kernel_rfl) (by kernel_rfl) (by kernel_rfl) (fun _ _ _ h => h) hS0 (Or.inl ⟨by rfl, ?_⟩) ?_
      rotate_left
      · intro W2 hSw; obtain ⟨s0, s1, s2, s3, s4, s5, s6, s7, s8⟩ := hSw; go_simp; try with_reducible rfl
      simp only [List.setIfInBounds_toArray, List.set_cons_zero, List.set_cons_succ]
      refine anyI_takeG hF1 2 15 (v := ?_) rfl rfl (by kernel_rfl) (by kernel_rfl) (by kernel_rfl) (by kernel_rfl) (fun _ _ _ h => h) hS0 (Or.inl ⟨by rfl, ?_⟩) ?_
      rotate_left
      · intro W2 hSw; obtain ⟨s0, s1, s2, s3, s4, s5, s6, s7, s8⟩ := hSw; go_simp; try with_reducible rfl
      simp only [List.setIfInBounds_toArray, List.set_cons_zero, List.set_cons_succ]
      refine anyI_takeG hF1 3 16 (v := undef) rfl rfl (by kernel_rfl) (by kernel_rfl) (by kernel_rfl) (by kernel_rfl) (fun _ _ _ h => h) hS0 (Or.inr ⟨by rfl, rfl⟩) ?_
      simp only [List.setIfInBounds_toArray, List.set_cons_zero, List.set_cons_succ]
      refine anyI_takeG hF1 4 17 (v := undef) rfl rfl (by kernel_rfl) (by kernel_rfl) (by kernel_rfl) (by kernel_rfl) (fun _ _ _ h => h) hS0 (Or.inr ⟨by rfl, rfl⟩) ?_
      simp only [List.setIfInBounds_toArray, List.set_cons_zero, List.set_cons_succ]
      refine anyI_takeG hF1 5 18 (v := undef) rfl rfl (by kernel_rfl) (by kernel_rfl) (by kernel_rfl) (by kernel_rfl) (fun _ _ _ h => h) hS0 (Or.inr ⟨by rfl, rfl⟩) ?_
      simp only [List.setIfInBounds_toArray, List.set_cons_zero, List.set_cons_succ]
      refine anyI_takeG hF1 6 19 (v := undef) rfl rfl (by kernel_rfl) (by kernel_rfl) (by kernel_rfl) (by kernel_rfl) (fun _ _ _ h => h) hS0 (Or.inr ⟨by rfl, rfl⟩) ?_
      simp only [List.setIfInBounds_toArray, List.set_cons_zero, List.set_cons_succ]
      refine anyI_takeG hF1 7 20 (v := undef) rfl rfl (by kernel_rfl) (by kernel_rfl) (by kernel_rfl) (by kernel_rfl) (fun _ _ _ h => h) hS0 (Or.inr ⟨by rfl, rfl⟩) ?_
      simp only [List.setIfInBounds_toArray, List.set_cons_zero, List.set_cons_succ]
      refine anyI_takeG hF1 8 21 (v := undef) rfl rfl (by kernel_rfl) (by kernel_rfl) (by kernel_rfl) (by kernel_rfl) (fun _ _ _ h => h) hS0 (Or.inr ⟨by rfl, rfl⟩) ?_
      simp only [List.setIfInBounds_toArray, List.set_cons_zero, List.set_cons_succ]
      refine anyI_takeG hF1 9 22 (v := undef) rfl rfl (by kernel_rfl) (by kernel_rfl) (by kernel_rfl) (by kernel_rfl) (fun _ _ _ h => h) hS0 (Or.inr ⟨by rfl, rfl⟩) ?_
      simp only [List.setIfInBounds_toArray, List.set_cons_zero, List.set_cons_succ]
      refine anyI_takeG hF1 10 23 (v := ?_) rfl rfl (by kernel_rfl) (by kernel_rfl) (by kernel_rfl) (by kernel_rfl) (fun _ _ _ h => h) hS0 (Or.inl ⟨by rfl, ?_⟩) ?_
      rotate_left
      · intro W2 hSw; obtain ⟨s0, s1, s2, s3, s4, s5, s6, s7, s8⟩ := hSw; go_simp; try with_reducible rfl
      simp only [List.setIfInBounds_toArray, List.set_cons_zero, List.set_cons_succ]
      obtain ⟨w7, hWd⟩ : ∃ w7, W'.drew = w7 := ⟨_, rfl⟩
      have hbd : Below W'.heap.size W' w7 := by rw [← hWd]; exact (Below.refl _ _).drew
      rw [hWd] at hS0 ⊢
      clear hWd
      refine anyI_done (by kernel_rfl) ?_ _
      have s0 := hS0.x0
      have s1 := hS0.x1
      have s2 := hS0.x2
      have s3 := hS0.y0
      have s4 := hS0.y1
      have s5 := hS0.y2
      have s6 := hS0.fd
      have hI := HI.out
      have hb3 := (hbd.block _ (by omega)).trans hI.1.best
      have hb4 := (hbd.block _ (by omega)).trans hI.1.fd
      have z3 : ∀ o, w7.frozen? ⟨w.heap.size + 1 + 1 + 1, o, none⟩ = false := fun o => by simp [World.frozen?, hb3]
      have z4 : w7.frozen? ⟨w.heap.size + 1 + 1 + 1 + 1, 0, none⟩ = false := by simp [World.frozen?, hb4]
      have hmem : ∀ (z : Stp), z ∈ pre ++ [x] → z ∈ stp L F M g h i k := fun z hz => by
        rcases List.mem_append.1 hz with h1 | h1
        · exact hI.2 z h1
        · obtain rfl := List.mem_singleton.1 h1; exact hx
      have Hb3 := Lib.hid hb3
      have HbW := Lib.hid hbd
      have HI' := Lib.hid hI
      clear hb3 hb4 hbd hI
      gi_wp2
      obtain ⟨q1, q2, q3⟩ := cho_step HI'.out.1 HbW.out (by omega) (by omega) (by omega) Hb3.out HBS.out HB0'.out rfl hmem
      exact ⟨by first | exact q1 | (rw [← hz]; exact q1), q2, by first | exact q3 | exact fun a b c h => q3 _ (List.mem_append.2 (h.imp id (fun e => List.mem_singleton.2 e)))⟩
    | some y =>
      rw [hbp] at hS0 hsn
      have hy : y ∈ stp L F M g h i k := HI.out.2 y (bestL_mem T pre y hbp)
      have hb0 : best0 T pre = y := by unfold best0; rw [hbp]; rfl
      rw [hb0] at hS0
      have HBP := Lib.hid hbp
      have HSN := Lib.hid hsn
      have HB0 := Lib.hid hb0
      clear hbp hsn hb0
      gi_wp2
      refine wpIn_region_I (fun W2 => Chs W5 W2 (w.heap.size + 3) (w.heap.size + 1 + 1) (w.heap.size + 1 + 1 + 1) (w.heap.size + 1 + 1 + 1 + 1) Bx true x y (.func (.func 96) #[] #[.pointer (some ⟨w.heap.size, 0, none⟩)])) (by kernel_rfl) ?_
      change anyI _ _ _ _ _ _ _ 11 (Array.replicate 11 false) _ _
      replace hS0 : Chs W5 W'.drew (w.heap.size + 3) (w.heap.size + 1 + 1) (w.heap.size + 1 + 1 + 1) (w.heap.size + 1 + 1 + 1 + 1) Bx true x y (.func (.func 96) #[] #[.pointer (some ⟨w.heap.size, 0, none⟩)]) := ⟨hS0.bel.drew, hS0.fd, hS0.cl, hS0.x0, hS0.x1, hS0.x2, hS0.y0, hS0.y1, hS0.y2⟩
      refine anyI_takeG hF1 0 13 (v := ?_) rfl rfl (by kernel_rfl) (by kernel_rfl) (by kernel_rfl) (by kernel_rfl) (fun _ _ _ h => h) hS0 (Or.inl ⟨by rfl, ?_⟩) ?_
      rotate_left
      · intro W2 hSw; obtain ⟨s0, s1, s2, s3, s4, s5, s6, s7, s8⟩ := hSw; go_simp; try with_reducible rfl
      simp only [List.setIfInBounds_toArray, List.set_cons_zero, List.set_cons_succ]
      refine anyI_takeG hF1 1 14 (v := ?_) rfl rfl (by kernel_rfl) (by kernel_rfl) (by kernel_rfl) (by kernel_rfl) (fun _ _ _ h => h) hS0 (Or.inl ⟨by rfl, ?_⟩) ?_
      rotate_left
      · intro W2 hSw; obtain ⟨s0, s1, s2, s3, s4, s5, s6, s7, s8⟩ := hSw; go_simp; try with_reducible rfl
      simp only [List.setIfInBounds_toArray, List.set_cons_zero, List.set_cons_succ]
      refine anyI_takeG hF1 2 15 (v := ?_) rfl rfl (by kernel_rfl) (by kernel_rfl) (by kernel_rfl) (by kernel_rfl) (fun _ _ _ h => h) hS0 (Or.inl ⟨by rfl, ?_⟩) ?_
      rotate_left
      · intro W2 hSw; obtain ⟨s0, s1, s2, s3, s4, s5, s6, s7, s8⟩ := hSw; go_simp; try with_reducible rfl
      simp only [List.setIfInBounds_toArray, List.set_cons_zero, List.set_cons_succ]
      refine anyI_takeG hF1 3 16 (v := ?_) rfl rfl (by kernel_rfl) (by kernel_rfl) (by kernel_rfl) (by kernel_rfl) (fun _ _ _ h => h) hS0 (Or.inl ⟨by rfl, ?_⟩) ?_
      rotate_left
      · intro W2 hSw; obtain ⟨s0, s1, s2, s3, s4, s5, s6, s7, s8⟩ := hSw; go_simp; try with_reducible rfl
      simp only [List.setIfInBounds_toArray, List.set_cons_zero, List.set_cons_succ]
      refine anyI_takeG hF1 4 17 (v := ?_) rfl rfl (by kernel_rfl) (by kernel_rfl) (by kernel_rfl) (by kernel_rfl) (fun _ _ _ h => h) hS0 (Or.inl ⟨by rfl, ?_⟩) ?_
      rotate_left
      · intro W2 hSw; obtain ⟨s0, s1, s2, s3, s4, s5, s6, s7, s8⟩ := hSw; go_simp; try with_reducible rfl
      simp only [List.setIfInBounds_toArray, List.set_cons_zero, List.set_cons_succ]
      refine anyI_takeG hF1 6 19 (v := ?_) rfl rfl (by kernel_rfl) (by kernel_rfl) (by kernel_rfl) (by kernel_rfl) (fun _ _ _ h => h) hS0 (Or.inl ⟨by rfl, ?_⟩) ?_
      rotate_left
      · intro W2 hSw; obtain ⟨s0, s1, s2, s3, s4, s5, s6, s7, s8⟩ := hSw; go_simp; try with_reducible rfl
      simp only [List.setIfInBounds_toArray, List.set_cons_zero, List.set_cons_succ]
      refine anyI_takeG hF1 7 20 (v := ?_) rfl rfl (by kernel_rfl) (by kernel_rfl) (by kernel_rfl) (by kernel_rfl) (fun _ _ _ h => h) hS0 (Or.inl ⟨by rfl, ?_⟩) ?_
      rotate_left
      · intro W2 hSw; obtain ⟨s0, s1, s2, s3, s4, s5, s6, s7, s8⟩ := hSw; go_simp; try with_reducible rfl
      simp only [List.setIfInBounds_toArray, List.set_cons_zero, List.set_cons_succ]
      have hcP := fun (W2 : World) (q : Stp) (hq : q ∈ stp L F M g h i k) (hW : Below (w.heap.size + 3) W5 W2) => (callsIn_wide (n := 5 - 1 - 1 - 1)).2 (price_of W2 w.heap.size bt n nc m r rb T q ((hW.cell (p := ⟨w.heap.size, 0, none⟩) (by show w.heap.size < _; omega)).trans HC0.out) (HT.out.keep (HB5.out.trans (hW.mono (by omega)))) (HO.out q hq) hn hm)
      have hBx : ∀ W2, Chs W5 W2 (w.heap.size + 3) (w.heap.size + 1 + 1) (w.heap.size + 1 + 1 + 1) (w.heap.size + 1 + 1 + 1 + 1) Bx true x y (.func (.func 96) #[] #[.pointer (some ⟨w.heap.size, 0, none⟩)]) → w.heap.size + 3 ≤ W2.heap.size := fun W2 h => by have := h.bel.size; omega
      dsimp only [stV] at hcP
      obtain ⟨Wd, hWd⟩ : ∃ Wd, W'.drew = Wd := ⟨_, rfl⟩
      have hbd : Below W'.heap.size W' Wd := by rw [← hWd]; exact (Below.refl _ _).drew
      rw [hWd] at hS0 ⊢
      clear hWd
      refine anyI_call hF1 hFd 5 18 rfl rfl (by kernel_rfl) (by kernel_rfl) (by rfl) (by go_simp; try with_reducible rfl) ((hcP Wd x hx hS0.bel).inRound l) ?_
      rintro e w6 ⟨rfl, hb6⟩
      have hS6 := hS0.keep hb6 (hBx _ hS0)
      refine ⟨_, rfl, hS6, ?_⟩
      simp only [List.setIfInBounds_toArray, List.set_cons_zero, List.set_cons_succ]
      refine anyI_call hF1 hFd 8 21 rfl rfl (by kernel_rfl) (by kernel_rfl) (by rfl) (by go_simp; try with_reducible rfl) ((hcP w6 y hy hS6.bel).inRound l) ?_
      rintro e w7 ⟨rfl, hb7⟩
      have hS7 := hS6.keep hb7 (hBx _ hS6)
      refine ⟨_, rfl, hS7, ?_⟩
      simp only [List.setIfInBounds_toArray, List.set_cons_zero, List.set_cons_succ]
      have hb67 : Below Wd.heap.size Wd w7 := hb6.trans (hb7.mono hb6.size)
      clear hS0 hS6 hb6 hb7
      have hS0 := hS7
      clear hS7
      refine anyI_takeG hF1 9 22 (v := ?_) rfl rfl (by kernel_rfl) (by kernel_rfl) (by kernel_rfl) (by kernel_rfl) (fun _ _ _ h => h) hS0 (Or.inl ⟨by rfl, ?_⟩) ?_
      rotate_left
      · intro W2 hSw; obtain ⟨s0, s1, s2, s3, s4, s5, s6, s7, s8⟩ := hSw; go_simp; try with_reducible rfl
      simp only [List.setIfInBounds_toArray, List.set_cons_zero, List.set_cons_succ]
      refine anyI_takeG hF1 10 23 (v := ?_) rfl rfl (by kernel_rfl) (by kernel_rfl) (by kernel_rfl) (by kernel_rfl) (fun _ _ _ h => h) hS0 (Or.inl ⟨by rfl, ?_⟩) ?_
      rotate_left
      · intro W2 hSw; obtain ⟨s0, s1, s2, s3, s4, s5, s6, s7, s8⟩ := hSw; go_simp; try with_reducible rfl
      simp only [List.setIfInBounds_toArray, List.set_cons_zero, List.set_cons_succ]
      refine anyI_done (by kernel_rfl) ?_ _
      have s0 := hS0.x0
      have s1 := hS0.x1
      have s2 := hS0.x2
      have s3 := hS0.y0
      have s4 := hS0.y1
      have s5 := hS0.y2
      have s6 := hS0.fd
      have hI := HI.out
      have hb3 := ((hbd.trans (hb67.mono hbd.size)).block _ (by omega)).trans hI.1.best
      have hb4 := ((hbd.trans (hb67.mono hbd.size)).block _ (by omega)).trans hI.1.fd
      have hsz7 := (hbd.trans (hb67.mono hbd.size)).size
      have hbW := hbd.trans (hb67.mono hbd.size)
      have z3 : ∀ o, w7.frozen? ⟨w.heap.size + 1 + 1 + 1, o, none⟩ = false := fun o => by simp [World.frozen?, hb3]
      have z4 : w7.frozen? ⟨w.heap.size + 1 + 1 + 1 + 1, 0, none⟩ = false := by simp [World.frozen?, hb4]
      have hmem : ∀ (z : Stp), z ∈ pre ++ [x] → z ∈ stp L F M g h i k := fun z hz => by
        rcases List.mem_append.1 hz with h1 | h1
        · exact hI.2 z h1
        · obtain rfl := List.mem_singleton.1 h1; exact hx
      by_cases hlt : pr T x < pr T y
      · have hld : decide (pr T x < pr T y) = true := by simpa using hlt
        have hbs : bestL T (pre ++ [x]) = some x := by rw [HSN.out]; unfold bsf; simp only [if_pos hlt]
        have hb0' : best0 T (pre ++ [x]) = x := by unfold best0; rw [hbs]; rfl
        have HBS := Lib.hid hbs
        have HB0' := Lib.hid hb0'
        have Hb3 := Lib.hid hb3
        have Hb4 := Lib.hid hb4
        have HbW := Lib.hid hbW
        have HI' := Lib.hid hI
        clear hbs hb0' hb3 hb4 hbW hI hbd hb67
        gi_wp2
        exact cho_step HI'.out.1 HbW.out (by omega) (by omega) (by omega) Hb3.out HBS.out HB0'.out rfl hmem
      · have hld : decide (pr T x < pr T y) = false := by simpa using hlt
        have hbs : bestL T (pre ++ [x]) = some y := by rw [HSN.out]; unfold bsf; simp only [if_neg hlt]
        have hb0' : best0 T (pre ++ [x]) = y := by unfold best0; rw [hbs]; rfl
        have HBS := Lib.hid hbs
        have HB0' := Lib.hid hb0'
        have HbW := Lib.hid hbW
        have HI' := Lib.hid hI
        clear hbs hb0' hb3 hb4 hbW hI hbd hb67
        gi_wp2
        refine ⟨⟨HbW.out.size, fun j o hj ho _ => (HbW.out.block j (Array.getElem?_eq_some_iff.1 ho).1).trans ho⟩, ⟨HI'.out.1.bel.trans (HbW.out.mono (by omega)), Nat.le_trans HI'.out.1.size HbW.out.size, ?_, ?_⟩, by first | exact hmem | exact fun a b c h => hmem _ (List.mem_append.2 (h.imp id (fun e => List.mem_singleton.2 e)))⟩
        · rw [HB0'.out, ← HB0.out]; exact (HbW.out.block _ (by omega)).trans HI'.out.1.best
        · rw [HBS.out]; have := (HbW.out.block _ (by omega)).trans HI'.out.1.fd; rw [HBP.out] at this; exact this
  case done =>
    rintro D xs W' hD rfl ⟨hI, hm'⟩ hKD
    have hz := HZ5.out
    have hsz := hI.size
    have hr1 := (hI.bel.block (w.heap.size + 1) (by omega)).trans HH1.out
    have s0 : W'.cell? ⟨w.heap.size + 1 + 1 + 1, 0, none⟩ = some (.int .i64 ((best0 T (stp L F M g h i k)).1 : Int)) := by simp only [World.cell?, hI.best]; rfl
    have s1 : W'.cell? ⟨w.heap.size + 1 + 1 + 1, 1, none⟩ = some (.int .i64 ((best0 T (stp L F M g h i k)).2.1 : Int)) := by simp only [World.cell?, hI.best]; rfl
    have s2 : W'.cell? ⟨w.heap.size + 1 + 1 + 1, 2, none⟩ = some (.int .i64 (best0 T (stp L F M g h i k)).2.2) := by simp only [World.cell?, hI.best]; rfl
    have r0 : W'.cell? ⟨w.heap.size + 1, 0, none⟩ = some (.int .i64 0) := by simp only [World.cell?, hr1]; rfl
    have r1 : W'.cell? ⟨w.heap.size + 1, 1, none⟩ = some (.int .i64 0) := by simp only [World.cell?, hr1]; rfl
    have r2 : W'.cell? ⟨w.heap.size + 1, 2, none⟩ = some (.int .i64 0) := by simp only [World.cell?, hr1]; rfl
    have z1 : ∀ o, W'.frozen? ⟨w.heap.size + 1, o, none⟩ = false := fun o => by simp [World.frozen?, hr1]
    have HBl := Lib.hid hI.bel
    have HR1 := Lib.hid hr1
    have HKD := Lib.hid hKD
    have hv : stV (best0 T (stp L F M g h i k)) = .agg #[.int .i64 ((best0 T (stp L F M g h i k)).1 : Int), .int .i64 ((best0 T (stp L F M g h i k)).2.1 : Int), .int .i64 (best0 T (stp L F M g h i k)).2.2] := rfl
    have HV := Lib.hid hv
    clear hI hm' hr1 hKD hv
    gi_wp2
    obtain ⟨s, hs⟩ : ∃ s, best0 T (stp L F M g h i k) = s := ⟨_, rfl⟩
    rw [hs] at HV
    simp only [hs]
    obtain ⟨W7, hW7⟩ : ∃ W7, ((W'.setCell ⟨w.heap.size + 1, 0, none⟩ (.int .i64 (s.1 : Int))).setCell ⟨w.heap.size + 1, 1, none⟩ (.int .i64 (s.2.1 : Int))).setCell ⟨w.heap.size + 1, 2, none⟩ (.int .i64 s.2.2) = W7 := ⟨_, rfl⟩
    have k7 : ∀ j : Nat, j ≠ w.heap.size + 1 → W7.heap[j]? = W'.heap[j]? := fun j hj => by
      rw [← hW7]
      exact ((Below.heap_setCell _ ⟨w.heap.size + 1, 2, none⟩ _ j hj).trans (Below.heap_setCell _ ⟨w.heap.size + 1, 1, none⟩ _ j hj)).trans (Below.heap_setCell _ ⟨w.heap.size + 1, 0, none⟩ _ j hj)
    have o7 : W7.os = W'.os ∧ W7.tape = W'.tape ∧ W7.output = W'.output ∧ W7.heap.size = W'.heap.size := by rw [← hW7]; exact ⟨rfl, rfl, rfl, by simp [World.setCell]⟩
    have b7 : W7.heap[w.heap.size + 1]? = some (.cells #[.int .i64 (s.1 : Int), .int .i64 (s.2.1 : Int), .int .i64 s.2.2] 147 (0, 0)) := by
      rw [← hW7, heap_set (heap_set (heap_set HR1.out _) _) _]
      rfl
    rw [hW7]
    have hD7 : W7.heap[D]? = some (.deferred (some [])) := (k7 D (by omega)).trans HKD.out
    have hBf : Below w.heap.size w W7 := HB5.out.trans ((HBl.out.mono (by omega)).trans ⟨o7.1, o7.2.1, o7.2.2.1, by omega, fun j hj => k7 j (by omega)⟩)
    refine leaves_mks (B := w.heap.size + 5) [D] W7 ⟨by simp, fun r' hr => ?_⟩ (fun w' hb => ⟨.agg #[.int .i64 (s.1 : Int), .int .i64 (s.2.1 : Int), .int .i64 s.2.2], ?_, ?_, ?_⟩)
    · obtain rfl := List.mem_singleton.1 hr
      exact ⟨by omega, (Array.getElem?_eq_some_iff.1 hD7).1, hD7⟩
    · refine results_cell (s := 4) rfl _ (ad := ⟨w.heap.size + 1, 0, none⟩) rfl ?_
      exact run_loadVar_row w' (w.heap.size + 1) _ _ _ _ _ ((hb.block _ (by omega)).trans b7) Try.underlying147 rfl x_step
    · rfl
    · exact hBf.trans (hb.mono (by omega))

/-- cheapest: the first one of the cheapest steps. -/
theorem cheapest_of (w : World) (ib kb cb db wb hb : Nat) (wa ha : Option Addr) (nw wc nh hc : Nat) (g h : Nat → Int) (L F M : Int) (i k : Nat) (bt n nc m r : Nat) (rb : Nat → Nat) (T : Nat → Nat → Int)
    (hA : StAt w ib kb cb db wb hb wa ha nw wc nh hc g h L F M i k) (hT : TbAt w bt m rb T r) (hok : ∀ s, s ∈ stp L F M g h i k → StOk n m r s) (hn : n ≤ 41) (hm : m ≤ 40) :
    Calls Try.prog 77 #[.slice (some ⟨bt, 0, none⟩) n nc, .func (.func 95) #[] #[.pointer (some ⟨ib, 0, none⟩), .pointer (some ⟨kb, 0, none⟩), .pointer (some ⟨cb, 0, none⟩), .pointer (some ⟨db, 0, none⟩)]] w fun e w' =>
      e = .returned (stV (best0 T (stp L F M g h i k))) ∧ Below w.heap.size w w' :=
  (callsIn_wide (n := 5)).1 (cheapest_in w ib kb cb db wb hb wa ha nw wc nh hc g h L F M i k bt n nc m r rb T hA hT hok hn hm)
end Go.Proofs.Ytonlamkpehakdaa
