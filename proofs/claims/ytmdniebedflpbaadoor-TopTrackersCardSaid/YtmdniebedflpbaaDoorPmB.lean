/-
  WALKS: the function that goes through the steps with which an alignment can end.
-/
import Derived.Test.YtmdniebedflpbaaDoorPmA
namespace Go.Proofs.YtmdniebedflpbaaDoor
open Go.RowKit Go.Shelf

attribute [local go_sem] Oper.semAt_some

section
variable {F : Fence} {n : Nat} {P : Program} {ops : Array Oper} {Q : Exit → Act → World → Prop} {md : Region.Mode} {S : World → Prop}
/-- A call within a region, where it alone may come up. -/
theorem anyI_call (hF : ∀ f, F.fn f) (hn : F.depth.isSome = true → 1 ≤ n) (i d : Nat) {o : Oper} {fuel : Nat} {listed : Array Bool} {a : Act} {w : World} {f : FuncId} {args : Array Value} {R : Ending → World → Prop} (hi : ops[i]? = some o) (hdst : o.dst = some d) (hd : noDefer ops = true) (hr : Region.ready md ops listed = [i])
    (hw : Region.wanted o (yielded ops a.tmps) = true) (hv : (execOp a.eval o).run P w = .ok (.enter f args) w) (hc : CallsIn F (n - 1) P f args w R)
    (h : ∀ e w', R e w' → ∃ v, e = .returned v ∧ S w' ∧ anyI F n P md ops Q S fuel (listed.setIfInBounds i true) { tmps := a.tmps.setIfInBounds d v, defers := a.defers } w') : anyI F n P md ops Q S (fuel + 1) listed a w := by
  refine anyI_one i hr ?_
  unfold wpOpIn
  simp only [hi, hw, if_true, Oper.wpIn, Oper.semAt_eq _ _ _ (fun c => noDefer_spec hd i o c hi), hv, Oper.uponIn]
  refine ⟨fun f _ => hF f, hn, hc.mono ?_⟩
  intro e w' he
  obtain ⟨v, rfl, hS, hA⟩ := h e w' he
  exact ⟨hS, by rw [put_some hdst]; exact hA⟩
/-- A round within a region, where it alone may come up. -/
theorem anyI_round (hF : ∀ f, F.fn f) (hn : F.depth.isSome = true → 1 ≤ n) (i d : Nat) {o : Oper} {fuel : Nat} {listed : Array Bool} {a : Act} {w : World} {l : Nat} {R : Ending → World → Prop} (hi : ops[i]? = some o) (hdst : o.dst = some d) (hd : noDefer ops = true) (hr : Region.ready md ops listed = [i])
    (hw : Region.wanted o (yielded ops a.tmps) = true) {fn : FuncId} {tmps : Array Value} {assign body : Code} (hv : (execOp a.eval o).run P w = .ok (.round l fn tmps assign body) w) (hc : RoundIn F (n - 1) P l fn tmps assign body w R)
    (h : ∀ e w', R e w' → ∃ v, e = .returned v ∧ S w' ∧ anyI F n P md ops Q S fuel (listed.setIfInBounds i true) { tmps := a.tmps.setIfInBounds d v, defers := a.defers } w') : anyI F n P md ops Q S (fuel + 1) listed a w := by
  refine anyI_one i hr ?_
  unfold wpOpIn
  simp only [hi, hw, if_true, Oper.wpIn, Oper.semAt_eq _ _ _ (fun c => noDefer_spec hd i o c hi), hv, Oper.uponIn]
  refine ⟨fun f _ => hF f, hn, hc.mono ?_⟩
  intro e w' he
  obtain ⟨v, rfl, hS, hA⟩ := h e w' he
  exact ⟨hS, by rw [put_some hdst]; exact hA⟩
end

/-- What a function that goes through steps comes to. -/
def StepsEnd (J : List Stp → World → Prop) (ys : List Stp) (e : Ending) (W : World) : Prop := (∃ v, e = .returned v) ∧ ∃ xs, xs = ys ∧ J xs W

end Go.Proofs.YtmdniebedflpbaaDoor
