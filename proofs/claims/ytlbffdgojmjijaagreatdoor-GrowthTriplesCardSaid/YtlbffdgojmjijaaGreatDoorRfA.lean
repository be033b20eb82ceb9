/-
  LAWS: a loop over an iterator that keeps cells of its own, where the body always goes on: what the caller says speaks of blocks that lay ahead of the loop.
-/
import Derived.Test.YtlbffdgojmjijaaGreatDoorProg
import Derived.WalkKit
import Derived.RangeFuncNested
import Derived.RangeFuncBound
import Derived.RangeFuncCalls
import Derived.RangeFuncLeaves
import Derived.Shelf.Abstract
namespace Go.Proofs.YtlbffdgojmjijaaGreatDoor
open Go.RowKit Go.Shelf

/-- All blocks but R lie as they lay. -/
structure Still (R : Nat) (A B : World) : Prop where
  size : A.heap.size ≤ B.heap.size
  same : ∀ k, k ≠ R → k < A.heap.size → B.heap[k]? = A.heap[k]?
theorem Still.refl (R : Nat) (A : World) : Still R A A := ⟨Nat.le_refl _, fun _ _ _ => rfl⟩
theorem Still.trans {R : Nat} {A B C : World} (h : Still R A B) (k : Still R B C) : Still R A C :=
  ⟨Nat.le_trans h.size k.size, fun i hi hl => (k.same i hi (Nat.lt_of_lt_of_le hl h.size)).trans (h.same i hi hl)⟩
theorem Still.of_below {R : Nat} {A B : World} (h : Below A.heap.size A B) : Still R A B := ⟨h.size, fun k _ hk => h.block k hk⟩
theorem Still.cell {R : Nat} {A B : World} (h : Still R A B) {b o : Nat} {v : Value} (hb : b ≠ R) (hc : A.cell? ⟨b, o, none⟩ = some v) : B.cell? ⟨b, o, none⟩ = some v :=
  (World.cell?_of_block (h.same b hb (World.block_lt_of_cell? _ _ hc))).trans hc
theorem Still.set (R : Nat) (W : World) (o : Nat) (v : Value) : Still R W (W.setCell ⟨R, o, none⟩ v) :=
  ⟨by simp [World.setCell], fun k hk _ => Below.heap_setCell W ⟨R, o, none⟩ v k hk⟩

/-- An iterator that gives all of xs, and may keep cells of its own. -/
def Gives {α : Type} (F : Fence) (n : Nat) (P : Program) (gf : FuncId) (lb : Array Value) (enc : α → Array Value) (R : Nat) (xs : List α) (w : World) : Prop :=
  ∀ (l : Nat) (J : List α → World → Prop) (W : World), Below w.heap.size w W → (∀ s A B, J s A → Below W.heap.size A B → J s B) →
    (∀ pre x post W1, xs = pre ++ x :: post → J pre W1 → W.heap.size ≤ W1.heap.size → YieldAt F (n - 1) P l (enc x) W1 fun e W' => e = .returned (.bool true) ∧ J (pre ++ [x]) W' ∧ Still R W1 W') →
    J [] W → CallsIn F n P gf (#[.func (.yield l) #[] #[]] ++ lb) W fun e W' => (∃ v, e = .returned v) ∧ J xs W'

theorem wp_gives {α : Type} {F : Fence} {n : Nat} {P : Program} {g : Operand} {ps : Array Tmp} {assign body : Code} {Q : Exit → Act → World → Prop} {a : Act} {w : World}
    (hround : F.round = none) (hn : 1 ≤ n) {gf : FuncId} {lb : Array Value} (hg : a.eval g = .func (.func gf) #[] lb) (hF : F.fn gf) (hin : ∀ args w, (callFunc gf args).run P w = .ok (.enter gf args) w)
    {enc : α → Array Value} {R : Nat} {xs : List α} (hgives : Gives F (n - 1) P gf lb enc R xs w) (hsize : ∀ x, (enc x).size = ps.size) (hR : R < w.heap.size)
    (I : List α → World → Prop) (hlow : ∀ s A B, I s A → Below w.heap.size A B → I s B) (hfirst : I [] w)
    (Ax : α → World → Act → World → Prop)
    (hassign : ∀ (l : Nat) (pre : List α) (x : α) (W : World) (K : Act → World → Prop), I pre W → w.heap.size ≤ W.heap.size → (∀ a' W', Below W.heap.size W W' → Ax x W a' W' → K a' W') →
      assign.wpIn (F.inRound l) (n - 1 - 1) P (Exit.then K (fun _ _ _ => False)) { tmps := (ps.zip (enc x)).foldl (fun t (p, v) => t.setIfInBounds p v) a.tmps, defers := [] } W)
    (hbody : ∀ (l : Nat) (pre : List α) (x : α) (post : List α) (a' : Act) (W0 W V : World), xs = pre ++ x :: post → Ax x W0 a' W → (∀ k, k ≠ l → V.heap[k]? = W.heap[k]?) → W.heap.size = V.heap.size → w.heap.size ≤ l → (∃ q, W.heap[l]? = some (.loop q)) → I pre V →
      body.wpIn (F.inRound l) (n - 1 - 1) P (fun e _ V' => match e with | .normal => I (pre ++ [x]) V' ∧ Still R V V' | _ => False) a' V)
    (hdone : ∀ (D : Nat) (W : World), w.heap.size ≤ D → w.heap.size ≤ W.heap.size → I xs W → W.heap[D]? = some (.deferred (some [])) → Q .normal { a with defers := { target := .collected D, args := #[] } :: a.defers } W) :
    (Code.rangeFunc g ps assign body).wpIn F n P Q a w := by
  refine wpIn_rangeFunc fun fn hfn => ?_
  rw [hround]
  obtain ⟨rc, hrc⟩ : ∃ rc : LoopState → Loop, rc = fun st => { state := st, pending := none, fn, tmps := a.tmps, params := ps, assign, body, defers := w.heap.size } := ⟨_, rfl⟩
  obtain ⟨B, hB⟩ : ∃ B, B = (w.alloc (.deferred (some []))).alloc (.loop (rc .ready)) := ⟨_, rfl⟩
  have hBs : B.heap.size = w.heap.size + 2 := by rw [hB]; simp
  have hloop : B.heap[w.heap.size + 1]? = some (.loop (rc .ready)) := by
    have h := World.alloc_heap_new (w.alloc (.deferred (some []))) (.loop (rc .ready))
    rw [hB]; rwa [World.size_alloc] at h
  have hdef : B.heap[w.heap.size]? = some (.deferred (some [])) := by
    rw [hB]; exact (Below.heap_alloc _ _ _ (by simp)).trans (World.alloc_heap_new w _)
  have hbB : Below w.heap.size w B := by rw [hB]; exact ((Below.refl _ w).alloc (Nat.le_refl _) _).alloc (by simp) _
  refine ⟨w.heap.size + 1, [{ target := .collected w.heap.size, args := #[] }], B, { target := .fn (.func gf) lb, args := #[.func (.yield (w.heap.size + 1)) #[] #[]] }, B, gf, #[.func (.yield (w.heap.size + 1)) #[] #[]] ++ lb, B, ?_, ?_, ?_, ?_, fun _ => hn, ?_⟩
  · rw [hB, hrc]; exact run_enterLoop_outer _ _ _ _ _
  · simp only [resolve, hg]; simp [go_sem]
  · intro f' hf'; simp [Target.leads] at hf'; subst hf'; exact hF
  · simp [invoke, go_sem, hin]
  refine (hgives (w.heap.size + 1) (fun pre W => (I pre W ∧ w.heap.size + 2 ≤ W.heap.size) ∧ W.heap[w.heap.size + 1]? = some (.loop (rc .ready)) ∧ W.heap[w.heap.size]? = some (.deferred (some []))) B hbB ?_ ?_
    ⟨⟨hlow _ _ _ hfirst hbB, Nat.le_of_eq hBs.symm⟩, hloop, hdef⟩).mono ?_
  · rintro s A C ⟨⟨h1, h2⟩, h3, h4⟩ hb
    rw [hBs] at hb
    exact ⟨⟨hlow _ _ _ h1 (hb.mono (by omega)), Nat.le_trans h2 hb.size⟩, (hb.block _ (by omega)).trans h3, (hb.block _ (by omega)).trans h4⟩
  · rintro pre x post W hxs ⟨⟨hi, hw⟩, hl, hd⟩ _
    have hy := run_yield (P := P) (args := enc x) hl (by rw [hrc]; exact hsize x)
    rw [hrc] at hy
    refine ⟨fn, _, assign, body, hy, roundIn_of_wpIn hfn (hassign _ pre x W _ hi (by omega) ?_)⟩
    intro a' W' hb' hax
    have hl' : W'.heap[w.heap.size + 1]? = some (.loop (rc .ready)) := (hb'.block _ (Array.getElem?_eq_some_iff.1 hl).1).trans hl
    have hd' : W'.heap[w.heap.size]? = some (.deferred (some [])) := (hb'.block _ (Array.getElem?_eq_some_iff.1 hd).1).trans hd
    have hlt : w.heap.size + 1 < W'.heap.size := (Array.getElem?_eq_some_iff.1 hl').1
    obtain ⟨V, hV⟩ : ∃ V, V = W'.putObj (w.heap.size + 1) (.loop { rc .ready with state := .busy }) := ⟨_, rfl⟩
    have hVo : ∀ k, k ≠ w.heap.size + 1 → V.heap[k]? = W'.heap[k]? := fun k hk => by rw [hV]; exact World.putObj_heap_other hk
    have hVl : V.heap[w.heap.size + 1]? = some (.loop { rc .ready with state := .busy }) := by rw [hV]; exact World.putObj_heap_same hlt
    have hVs : W'.heap.size = V.heap.size := by rw [hV]; simp
    have hVb : Below w.heap.size W' V := by
      rw [hV]; exact ⟨rfl, rfl, rfl, by simp, fun k hk => World.putObj_heap_other (by omega)⟩
    refine ⟨V, by rw [hV]; exact run_beginRound hl' (by rw [hrc]), ?_⟩
    refine wpIn_mono (hbody _ pre x post a' W W' V hxs hax hVo hVs (by omega) ⟨_, hl'⟩ (hlow _ _ _ (hlow _ _ _ hi (hb'.mono (by omega))) hVb)) ?_
    rintro e a3 V' hp
    cases e with
    | normal =>
      obtain ⟨hi', hst⟩ := hp
      have hl3 : V'.heap[w.heap.size + 1]? = some (.loop { rc .ready with state := .busy }) := (hst.same _ (by omega) (by omega)).trans hVl
      have hd3 : V'.heap[w.heap.size]? = some (.deferred (some [])) := ((hst.same _ (by omega) (by omega)).trans (hVo _ (by omega))).trans hd'
      have hend := run_endRound (P := P) none hl3
      have hrec : ({ ({ rc .ready with state := .busy } : Loop) with state := if (none : Option Code).isNone then LoopState.ready else LoopState.done, pending := none } : Loop) = rc .ready := by rw [hrc]; rfl
      rw [hrec] at hend
      have hlt3 : w.heap.size + 1 < V'.heap.size := (Array.getElem?_eq_some_iff.1 hl3).1
      have hb3 : Below w.heap.size V' (V'.putObj (w.heap.size + 1) (.loop (rc .ready))) := ⟨rfl, rfl, rfl, by simp, fun k hk => World.putObj_heap_other (by omega)⟩
      have hsz : W.heap.size ≤ V'.heap.size := Nat.le_trans hb'.size (Nat.le_trans (Nat.le_of_eq hVs) hst.size)
      refine ⟨_, _, hend, rfl, ⟨⟨hlow _ _ _ hi' hb3, by simp; omega⟩, World.putObj_heap_same hlt3, (World.putObj_heap_other (by omega)).trans hd3⟩, by simp; omega, fun k hk hkl => ?_⟩
      by_cases e : k = w.heap.size + 1
      · subst e; rw [World.putObj_heap_same hlt3, hl]
      · rw [World.putObj_heap_other e, hst.same k hk (by have := hb'.size; omega), hVo k e, hb'.block k hkl]
    | ret => exact hp.elim
    | exit id => exact hp.elim
    | goto t => exact hp.elim
    | panic ch => exact hp.elim
    | outgrown => exact hp.elim
  · rintro e W ⟨⟨v, rfl⟩, ⟨hi, hw⟩, hl, hd⟩
    have hb3 : ∀ o, Below w.heap.size W (W.putObj (w.heap.size + 1) o) := fun o => ⟨rfl, rfl, rfl, by simp, fun k hk => World.putObj_heap_other (by omega)⟩
    refine ⟨(rc .ready).pending, _, run_endLoop (P := P) hl (by rw [hrc]; simp), ?_⟩
    rw [show (rc .ready).pending = none by rw [hrc]]
    exact hdone _ _ (Nat.le_refl _) (by simp; omega) (hlow _ _ _ hi (hb3 _)) ((World.putObj_heap_other (by omega)).trans hd)
end Go.Proofs.YtlbffdgojmjijaaGreatDoor
