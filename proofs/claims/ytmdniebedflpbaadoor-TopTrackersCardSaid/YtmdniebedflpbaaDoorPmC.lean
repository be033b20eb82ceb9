/-
  WORDS: the table of prices, the cheapest step; WALKS: a step's price.
-/
import Derived.Test.YtmdniebedflpbaaDoorPmB
namespace Go.Proofs.YtmdniebedflpbaaDoor
open Go.RowKit Go.Shelf

attribute [local go_sem] Oper.semAt_some

/-- What a step costs, all told. -/
def pr (T : Nat → Nat → Int) (s : Stp) : Int := T s.1 s.2.1 + s.2.2
def bsf (T : Nat → Nat → Int) (o : Option Stp) (x : Stp) : Option Stp := some (match o with | none => x | some b => if pr T x < pr T b then x else b)
/-- The first one of the cheapest steps. -/
def bestL (T : Nat → Nat → Int) (l : List Stp) : Option Stp := l.foldl (bsf T) none
theorem bestL_snoc (T : Nat → Nat → Int) (l : List Stp) (x : Stp) : bestL T (l ++ [x]) = bsf T (bestL T l) x := by simp [bestL, List.foldl_append]
theorem snoc_ind {α : Type} {p : List α → Prop} (h0 : p []) (h1 : ∀ l x, p l → p (l ++ [x])) (l : List α) : p l := by
  have h : ∀ l : List α, p l.reverse := by
    intro l
    induction l with
    | nil => exact h0
    | cons x l ih => rw [List.reverse_cons]; exact h1 _ _ ih
  have := h l.reverse
  rwa [List.reverse_reverse] at this
theorem bestL_mem (T : Nat → Nat → Int) (l : List Stp) : ∀ (b : Stp), bestL T l = some b → b ∈ l := by
  refine snoc_ind (p := fun l => ∀ (b : Stp), bestL T l = some b → b ∈ l) ?_ ?_ l
  · intro b h; cases h
  · intro l x ih b h
    rw [bestL_snoc] at h
    unfold bsf at h
    cases hb : bestL T l with
    | none => rw [hb] at h; simp at h; simp [h]
    | some c =>
      rw [hb] at h
      simp only [Option.some.injEq] at h
      split at h
      · simp [h]
      · have := ih c hb; rw [h] at this; simp [this]
theorem bestL_some (T : Nat → Nat → Int) (l : List Stp) : (bestL T l).isSome = !l.isEmpty := by
  refine snoc_ind (p := fun l => (bestL T l).isSome = !l.isEmpty) rfl ?_ l
  intro l x _
  rw [bestL_snoc]; simp [bsf]
theorem below_drewN {B : Nat} {w W : World} (h : Below B w W) (q : Nat) : Below B w (W.drewN q) := ⟨h.os, h.tape, h.output, h.size, h.block⟩
def best0 (T : Nat → Nat → Int) (l : List Stp) : Stp := (bestL T l).getD (0, 0, 0)

/-- The first r rows of a table, with the elements T. -/
structure TbAt (w : World) (bt m : Nat) (rb : Nat → Nat) (T : Nat → Nat → Int) (r : Nat) : Prop where
  ct : ∀ i, i < r → w.cell? ⟨bt, i, none⟩ = some (.slice (some ⟨rb i, 0, none⟩) (m + 1) (m + 1))
  cr : ∀ i, i < r → ∀ k, k ≤ m → w.cell? ⟨rb i, k, none⟩ = some (.int .i64 (T i k))
  bd : ∀ i, i < r → ∀ k, k ≤ m → -1125899906842624 ≤ T i k ∧ T i k ≤ 1125899906842624
theorem TbAt.lt {w : World} {bt m : Nat} {rb : Nat → Nat} {T : Nat → Nat → Int} {r : Nat} (h : TbAt w bt m rb T r) (i : Nat) (hi : i < r) : bt < w.heap.size ∧ rb i < w.heap.size :=
  ⟨World.block_lt_of_cell? w _ (h.ct i hi), World.block_lt_of_cell? w _ (h.cr i hi 0 (Nat.zero_le _))⟩
theorem TbAt.keep {w w' : World} {bt m : Nat} {rb : Nat → Nat} {T : Nat → Nat → Int} {r : Nat} (h : TbAt w bt m rb T r) (hb : Below w.heap.size w w') : TbAt w' bt m rb T r :=
  ⟨fun i hi => (hb.cell (p := ⟨bt, i, none⟩) (h.lt i hi).1).trans (h.ct i hi), fun i hi k hk => (hb.cell (p := ⟨rb i, k, none⟩) (h.lt i hi).2).trans (h.cr i hi k hk), h.bd⟩

/-- A step within the table. -/
def StOk (n m r : Nat) (s : Stp) : Prop := s.1 < r ∧ r ≤ n ∧ s.2.1 ≤ m ∧ 0 ≤ s.2.2 ∧ s.2.2 ≤ 4294967296

end Go.Proofs.YtmdniebedflpbaaDoor
