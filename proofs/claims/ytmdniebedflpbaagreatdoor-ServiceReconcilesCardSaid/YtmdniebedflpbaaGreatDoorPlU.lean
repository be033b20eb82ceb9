/-
  REGIONS in which several operations may come up: calls in their chain, and room that is made at any time among them.
-/
import Derived.Test.YtmdniebedflpbaaGreatDoorPlT
namespace Go.Proofs.YtmdniebedflpbaaGreatDoor
open Go.RowKit Go.Shelf

attribute [local go_sem] Oper.semAt_some

def allP (p : Nat → Prop) : List Nat → Prop
  | [] => True
  | i :: l => p i ∧ allP p l
theorem allP_mem {p : Nat → Prop} : ∀ {l : List Nat}, allP p l → ∀ i ∈ l, p i
  | [], _, i, hi => by cases hi
  | j :: l, h, i, hi => by
    rcases List.mem_cons.1 hi with rfl | hi
    · exact h.1
    · exact allP_mem h.2 i hi
section
variable {F : Fence} {n : Nat} {P : Program} {ops : Array Oper} {Q : Exit → Act → World → Prop} {md : Region.Mode} {S : World → Prop} {t : Nat}
theorem anyT_l (l : List Nat) {fuel : Nat} {listed : Array Bool} {a : Act} {w : World} (hr : Region.ready md ops listed = l) (hne : l ≠ [])
    (h : allP (fun i => wpOpIn F n P ops Q i (fun a' w' => (i = t ∨ S w') ∧ anyT t F n P md ops Q S fuel (listed.setIfInBounds i true) a' w') a w) l) : anyT t F n P md ops Q S (fuel + 1) listed a w :=
  ⟨fun h0 => absurd (hr.symm.trans h0) hne, fun j hj => by rw [hr] at hj; exact allP_mem h j hj⟩
theorem opT_call (hF : ∀ f, F.fn f) (hn : F.depth.isSome = true → 1 ≤ n) (i d : Nat) {o : Oper} {listed : Array Bool} {fuel : Nat} {a : Act} {w : World} {f : FuncId} {args : Array Value} {R : Ending → World → Prop} (hi : ops[i]? = some o) (hdst : o.dst = some d) (hd : noDefer ops = true)
    (hw : Region.wanted o (yielded ops a.tmps) = true) (hv : (execOp a.eval o).run P w = .ok (.enter f args) w) (hc : CallsIn F (n - 1) P f args w R)
    (h : ∀ e w', R e w' → ∃ v, e = .returned v ∧ S w' ∧ anyT t F n P md ops Q S fuel (listed.setIfInBounds i true) { tmps := a.tmps.setIfInBounds d v, defers := a.defers } w') :
    wpOpIn F n P ops Q i (fun a' w' => (i = t ∨ S w') ∧ anyT t F n P md ops Q S fuel (listed.setIfInBounds i true) a' w') a w := by
  unfold wpOpIn
  simp only [hi, hw, if_true, Oper.wpIn, Oper.semAt_eq _ _ _ (fun c => noDefer_spec hd i o c hi), hv, Oper.uponIn]
  refine ⟨fun f _ => hF f, hn, hc.mono ?_⟩
  intro e w' he
  obtain ⟨v, rfl, hS, hA⟩ := h e w' he
  exact ⟨.inr hS, by rw [put_some hdst]; exact hA⟩
theorem opT_val (hF : ∀ f, F.fn f) (i d : Nat) {o : Oper} {listed : Array Bool} {fuel : Nat} {a : Act} {w w2 : World} {v : Value} (hi : ops[i]? = some o) (hdst : o.dst = some d) (hd : noDefer ops = true)
    (hg : o.guard = none) (hv : (execOp a.eval o).run P w = .ok (.value v) w2) (hS : S w2)
    (h : anyT t F n P md ops Q S fuel (listed.setIfInBounds i true) { tmps := a.tmps.setIfInBounds d v, defers := a.defers } w2) :
    wpOpIn F n P ops Q i (fun a' w' => (i = t ∨ S w') ∧ anyT t F n P md ops Q S fuel (listed.setIfInBounds i true) a' w') a w := by
  unfold wpOpIn
  have hw : Region.wanted o (yielded ops a.tmps) = true := by simp [Region.wanted, hg]
  simp only [hi, hw, if_true, Oper.wpIn, Oper.semAt_eq _ _ _ (fun c => noDefer_spec hd i o c hi), hv, Oper.uponIn]
  exact ⟨fun f _ => hF f, .inr hS, by rw [put_some hdst]; exact h⟩
theorem opT_skip (hF : ∀ f, F.fn f) (i : Nat) {o : Oper} {listed : Array Bool} {fuel : Nat} {a : Act} {w w2 : World} (hi : ops[i]? = some o) (hdst : o.dst = none) (hd : noDefer ops = true)
    (hg : o.guard = none) (hv : (execOp a.eval o).run P w = .ok .skip w2) (hS : i = t ∨ S w2)
    (h : anyT t F n P md ops Q S fuel (listed.setIfInBounds i true) a w2) :
    wpOpIn F n P ops Q i (fun a' w' => (i = t ∨ S w') ∧ anyT t F n P md ops Q S fuel (listed.setIfInBounds i true) a' w') a w := by
  unfold wpOpIn
  have hw : Region.wanted o (yielded ops a.tmps) = true := by simp [Region.wanted, hg]
  simp only [hi, hw, if_true, Oper.wpIn, Oper.semAt_eq _ _ _ (fun c => noDefer_spec hd i o c hi), hv, Oper.uponIn]
  exact ⟨fun f _ => hF f, hS, by rw [put_none hdst]; exact h⟩
end
end Go.Proofs.YtmdniebedflpbaaGreatDoor
