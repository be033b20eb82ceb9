/-
  WALKS: the cheapest step.
-/
import Derived.Test.YtmdniebedflpbaaDoorPmC
import Derived.Laws.EntriesVeiled
namespace Go.Proofs.YtmdniebedflpbaaDoor
open Go.RowKit Go.Shelf

attribute [local go_sem] Oper.semAt_some

section
variable {F : Fence} {n : Nat} {P : Program} {ops : Array Oper} {Q : Exit → Act → World → Prop} {md : Region.Mode} {S : World → Prop}
theorem anyI_takeG (hF : ∀ f, F.fn f) (i d : Nat) {oi : Oper} {v : Value} {fuel : Nat} {listed : Array Bool} {a : Act} {w : World} (hi : ops[i]? = some oi) (hdst : oi.dst = some d)
    (hs : Region.noSelect ops = true) (hd : noDefer ops = true) (hf : Region.free md ops listed i = true) (hr : (Region.ready md ops listed).contains i = true)
    (hQ : ∀ c a w, Q (.panic c) (a.put oi.dst v) w → Q (.panic c) a w) (hS : S w) (hy : YieldsIf P ops S oi v a)
    (h : anyI F n P md ops Q S fuel (listed.setIfInBounds i true) { tmps := a.tmps.setIfInBounds d v, defers := a.defers } w) : anyI F n P md ops Q S (fuel + 1) listed a w :=
  anyI_take hF i hi hs hd hf hr hQ hS hy (by rw [put_some hdst]; exact h)
/-- A call at an operation. -/
theorem opI_call (hF : ∀ f, F.fn f) (hn : F.depth.isSome = true → 1 ≤ n) (i d : Nat) {o : Oper} {a : Act} {w : World} {f : FuncId} {args : Array Value} {R : Ending → World → Prop} {K : Act → World → Prop} (hi : ops[i]? = some o) (hdst : o.dst = some d) (hd : noDefer ops = true)
    (hw : Region.wanted o (yielded ops a.tmps) = true) (hv : (execOp a.eval o).run P w = .ok (.enter f args) w) (hc : CallsIn F (n - 1) P f args w R)
    (h : ∀ e w', R e w' → ∃ v, e = .returned v ∧ K { tmps := a.tmps.setIfInBounds d v, defers := a.defers } w') : wpOpIn F n P ops Q i K a w := by
  unfold wpOpIn
  simp only [hi, hw, if_true, Oper.wpIn, Oper.semAt_eq _ _ _ (fun c => noDefer_spec hd i o c hi), hv, Oper.uponIn]
  refine ⟨fun f _ => hF f, hn, hc.mono ?_⟩
  intro e w' he
  obtain ⟨v, rfl, hA⟩ := h e w' he
  show K (a.put o.dst v) w'
  rw [put_some hdst]; exact hA
/-- Two may come up. -/
theorem anyI_two (i j : Nat) {fuel : Nat} {listed : Array Bool} {a : Act} {w : World} (hr : Region.ready md ops listed = [i, j])
    (h1 : wpOpIn F n P ops Q i (fun a' w' => S w' ∧ anyI F n P md ops Q S fuel (listed.setIfInBounds i true) a' w') a w)
    (h2 : wpOpIn F n P ops Q j (fun a' w' => S w' ∧ anyI F n P md ops Q S fuel (listed.setIfInBounds j true) a' w') a w) : anyI F n P md ops Q S (fuel + 1) listed a w :=
  ⟨fun h0 => absurd (hr.symm.trans h0) (by simp), fun k hk => by
    rw [hr] at hk
    rcases (by simpa using hk : k = i ∨ k = j) with rfl | rfl
    · exact h1
    · exact h2⟩
end

/-- What a choice among steps has while it is made: nothing old has changed; its best one; whether there is one; the step at hand. -/
structure Chs (w5 W : World) (B b2 b3 b4 Bx : Nat) (fd : Bool) (x y : Stp) (clo : Value) : Prop where
  bel : Below B w5 W
  fd : W.cell? ⟨b4, 0, none⟩ = some (.bool fd)
  cl : W.cell? ⟨b2, 0, none⟩ = some clo
  x0 : W.cell? ⟨Bx, 0, none⟩ = some (.int .i64 (x.1 : Int))
  x1 : W.cell? ⟨Bx, 1, none⟩ = some (.int .i64 (x.2.1 : Int))
  x2 : W.cell? ⟨Bx, 2, none⟩ = some (.int .i64 x.2.2)
  y0 : W.cell? ⟨b3, 0, none⟩ = some (.int .i64 (y.1 : Int))
  y1 : W.cell? ⟨b3, 1, none⟩ = some (.int .i64 (y.2.1 : Int))
  y2 : W.cell? ⟨b3, 2, none⟩ = some (.int .i64 y.2.2)
theorem Chs.keep {w5 W W' : World} {B b2 b3 b4 Bx : Nat} {fd : Bool} {x y : Stp} {clo : Value} (h : Chs w5 W B b2 b3 b4 Bx fd x y clo) (hb : Below W.heap.size W W') (hB : B ≤ W.heap.size) : Chs w5 W' B b2 b3 b4 Bx fd x y clo :=
  have k : ∀ (b o : Nat) (v : Value), W.cell? ⟨b, o, none⟩ = some v → W'.cell? ⟨b, o, none⟩ = some v := fun b o _ hc => (hb.cell (p := ⟨b, o, none⟩) (World.block_lt_of_cell? W _ hc)).trans hc
  ⟨h.bel.trans (hb.mono hB), k _ _ _ h.fd, k _ _ _ h.cl, k _ _ _ h.x0, k _ _ _ h.x1, k _ _ _ h.x2, k _ _ _ h.y0, k _ _ _ h.y1, k _ _ _ h.y2⟩

theorem al_old {w : World} {k : Nat} {x : Obj} (h : w.heap[k]? = some x) (o : Obj) : (w.alloc o).heap[k]? = some x := (Below.heap_alloc w o k (Array.getElem?_eq_some_iff.1 h).1).trans h
theorem al_1 (w : World) (a b : Obj) : ((w.alloc a).alloc b).heap[w.heap.size + 1]? = some b := by have h := World.alloc_heap_new (w.alloc a) b; rwa [World.size_alloc] at h
theorem al_2 (w : World) (a b c : Obj) : (((w.alloc a).alloc b).alloc c).heap[w.heap.size + 1 + 1]? = some c := by have h := al_1 (w.alloc a) b c; rwa [World.size_alloc] at h
theorem al_3 (w : World) (a b c d : Obj) : ((((w.alloc a).alloc b).alloc c).alloc d).heap[w.heap.size + 1 + 1 + 1]? = some d := by have h := al_2 (w.alloc a) b c d; rwa [World.size_alloc] at h
theorem al_4 (w : World) (a b c d e : Obj) : (((((w.alloc a).alloc b).alloc c).alloc d).alloc e).heap[w.heap.size + 1 + 1 + 1 + 1]? = some e := by have h := al_3 (w.alloc a) b c d e; rwa [World.size_alloc] at h
theorem five_0 (w : World) (a b c d e : Obj) : (((((w.alloc a).alloc b).alloc c).alloc d).alloc e).heap[w.heap.size]? = some a := al_old (al_old (al_old (al_old (World.alloc_heap_new w a) b) c) d) e
theorem five_1 (w : World) (a b c d e : Obj) : (((((w.alloc a).alloc b).alloc c).alloc d).alloc e).heap[w.heap.size + 1]? = some b := al_old (al_old (al_old (al_1 w a b) c) d) e
theorem five_2 (w : World) (a b c d e : Obj) : (((((w.alloc a).alloc b).alloc c).alloc d).alloc e).heap[w.heap.size + 1 + 1]? = some c := al_old (al_old (al_2 w a b c) d) e
theorem five_3 (w : World) (a b c d e : Obj) : (((((w.alloc a).alloc b).alloc c).alloc d).alloc e).heap[w.heap.size + 1 + 1 + 1]? = some d := al_old (al_3 w a b c d) e
theorem five_4 (w : World) (a b c d e : Obj) : (((((w.alloc a).alloc b).alloc c).alloc d).alloc e).heap[w.heap.size + 1 + 1 + 1 + 1]? = some e := al_4 w a b c d e

end Go.Proofs.YtmdniebedflpbaaDoor
