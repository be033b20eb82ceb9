/-
  WALKS: one bound shortens a path (a region that draws its order, within a round).
-/
import Derived.Test.YtmdniebedflpbaaDoorPlD
import Derived.Sort.LoopGhostIn
namespace Go.Proofs.YtmdniebedflpbaaDoor
open Go.RowKit Go.Shelf

attribute [local go_sem] Oper.semAt_some

/-- What stands while a bound is taken: the two boxes that are read. -/
structure Two (W : World) (B3 bp Bx : Nat) (F T : Nat) (M : Int) : Prop where
  b3 : W.cell? ⟨B3, 0, none⟩ = some (.pointer (some ⟨bp, 0, none⟩))
  c0 : W.cell? ⟨Bx, 0, none⟩ = some (.int .i64 (F : Int))
  c1 : W.cell? ⟨Bx, 1, none⟩ = some (.int .i64 (T : Int))
  c2 : W.cell? ⟨Bx, 2, none⟩ = some (.int .i64 M)
theorem Two.set {W : World} {B3 bp Bx F T : Nat} {M : Int} (h : Two W B3 bp Bx F T M) (h3 : B3 ≠ bp) (hx : Bx ≠ bp) (o : Nat) (v : Value) : Two (W.setCell ⟨bp, o, none⟩ v) B3 bp Bx F T M := by
  have hk : ∀ b q, b ≠ bp → (W.setCell ⟨bp, o, none⟩ v).cell? ⟨b, q, none⟩ = W.cell? ⟨b, q, none⟩ := fun b q hb =>
    World.cell?_of_block (a := ⟨b, q, none⟩) (by
      have := Below.heap_setCell W ⟨bp, o, none⟩ v b hb
      exact this)
  exact ⟨(hk _ _ h3).trans h.b3, (hk _ _ hx).trans h.c0, (hk _ _ hx).trans h.c1, (hk _ _ hx).trans h.c2⟩
theorem PtAt.fz {w : World} {b : Nat} {t : TypeId} {p : Pt} (h : PtAt w b t p) (k : Nat) : w.frozen? ⟨b, k, none⟩ = false := by simp [World.frozen?, show w.heap[b]? = _ from h]

section
variable {F : Fence} {n : Nat} {P : Program} {ops : Array Oper} {Q : Exit → Act → World → Prop} {md : Region.Mode} {S : World → Prop}
theorem put_some {a : Act} {d : Nat} {v : Value} {o : Option Tmp} (h : o = some d) : a.put o v = { tmps := a.tmps.setIfInBounds d v, defers := a.defers } := by subst h; rfl
theorem put_none {a : Act} {v : Value} {o : Option Tmp} (h : o = none) : a.put o v = a := by subst h; rfl
/-- anyI_take where the place is told. -/
theorem anyI_takeD (hF : ∀ f, F.fn f) (i d : Nat) {oi : Oper} {v : Value} {fuel : Nat} {listed : Array Bool} {a : Act} {w : World} (hi : ops[i]? = some oi) (hdst : oi.dst = some d)
    (hs : Region.noSelect ops = true) (hd : noDefer ops = true) (hf : Region.free md ops listed i = true) (hr : (Region.ready md ops listed).contains i = true)
    (hQ : ∀ c a w, Q (.panic c) (a.put oi.dst v) w → Q (.panic c) a w) (hS : S w) (hg : oi.guard = none) (hy : ∀ w, S w → (execOp a.eval oi).run P w = .ok (.value v) w)
    (h : anyI F n P md ops Q S fuel (listed.setIfInBounds i true) { tmps := a.tmps.setIfInBounds d v, defers := a.defers } w) : anyI F n P md ops Q S (fuel + 1) listed a w :=
  anyI_take hF i hi hs hd hf hr hQ hS (.inl ⟨by simp [Region.wanted, hg], hy⟩) (by rw [put_some hdst]; exact h)
theorem anyI_valueD (hF : ∀ f, F.fn f) (i d : Nat) {o : Oper} {v : Value} {fuel : Nat} {listed : Array Bool} {a : Act} {w w2 : World} (hi : ops[i]? = some o) (hdst : o.dst = some d) (hd : noDefer ops = true) (hr : Region.ready md ops listed = [i])
    (hg : o.guard = none) (hv : (execOp a.eval o).run P w = .ok (.value v) w2) (hS : S w2)
    (h : anyI F n P md ops Q S fuel (listed.setIfInBounds i true) { tmps := a.tmps.setIfInBounds d v, defers := a.defers } w2) : anyI F n P md ops Q S (fuel + 1) listed a w :=
  anyI_value hF i hi hd hr (by simp [Region.wanted, hg]) hv hS (by rw [put_some hdst]; exact h)
theorem anyI_skipN (hF : ∀ f, F.fn f) (i : Nat) {o : Oper} {fuel : Nat} {listed : Array Bool} {a : Act} {w w2 : World} (hi : ops[i]? = some o) (hdst : o.dst = none) (hd : noDefer ops = true) (hr : Region.ready md ops listed = [i])
    (hg : o.guard = none) (hv : (execOp a.eval o).run P w = .ok .skip w2) (hS : S w2)
    (h : anyI F n P md ops Q S fuel (listed.setIfInBounds i true) a w2) : anyI F n P md ops Q S (fuel + 1) listed a w :=
  anyI_skip hF i hi hd hr (by simp [Region.wanted, hg]) hv hS (by rw [put_none hdst]; exact h)
end
end Go.Proofs.YtmdniebedflpbaaDoor
