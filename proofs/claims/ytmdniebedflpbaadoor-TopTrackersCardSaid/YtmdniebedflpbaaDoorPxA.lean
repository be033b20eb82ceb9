/-
  WORDS: chains of bounds; what relaxing finds: mathematics of shortest chains.
-/
import Derived.Test.YtmdniebedflpbaaDoorPlJ
namespace Go.Proofs.YtmdniebedflpbaaDoor

/-- A chain of bounds from u to v, and what it allows. -/
def isWk (f : Nat → Int) (n : Nat) : Nat → Nat → List Nat → Prop
  | u, v, [] => u = v
  | u, v, i :: es => i < n ∧ bF f i = u ∧ isWk f n (bT f i) v es
def wt (f : Nat → Int) : List Nat → Int
  | [] => 0
  | i :: es => bM f i + wt f es
theorem wt_append (f : Nat → Int) : ∀ a b, wt f (a ++ b) = wt f a + wt f b
  | [], b => by simp [wt]
  | i :: a, b => by simp only [List.cons_append, wt, wt_append f a b]; omega
theorem isWk_append {f : Nat → Int} {n : Nat} : ∀ (a b : List Nat) (u v : Nat), isWk f n u v (a ++ b) ↔ ∃ x, isWk f n u x a ∧ isWk f n x v b
  | [], b, u, v => by
    constructor
    · intro h; exact ⟨u, rfl, h⟩
    · rintro ⟨x, rfl, h⟩; exact h
  | i :: a, b, u, v => by
    have ih := isWk_append (f := f) (n := n) a b (bT f i) v
    constructor
    · rintro ⟨h1, h2, h3⟩
      obtain ⟨x, h4, h5⟩ := ih.1 h3
      exact ⟨x, ⟨h1, h2, h4⟩, h5⟩
    · rintro ⟨x, ⟨h1, h2, h4⟩, h5⟩
      exact ⟨h1, h2, ih.2 ⟨x, h4, h5⟩⟩
theorem isWk_end {f : Nat → Int} {n : Nat} : ∀ (a : List Nat) {u x y : Nat}, isWk f n u x a → isWk f n u y a → x = y
  | [], _, _, _, h, h' => by rw [← h, ← h']
  | _ :: a, _, _, _, h, h' => isWk_end a h.2.2 h'.2.2
theorem isWk_snoc {f : Nat → Int} {n u v i : Nat} {es : List Nat} (h : isWk f n u v es) (hi : i < n) (hv : bF f i = v) : isWk f n u (bT f i) (es ++ [i]) :=
  (isWk_append es [i] u (bT f i)).2 ⟨v, h, hi, hv, rfl⟩
theorem isWk_lt {E n : Nat} {f : Nat → Int} (hf : BOk E n f) : ∀ (es : List Nat) {u v : Nat}, u < E → isWk f n u v es → v < E
  | [], _, _, hu, h => by rw [← h]; exact hu
  | _ :: es, _, _, _, h => isWk_lt hf es (bT_eq hf h.1).2 h.2.2

theorem pigeon : ∀ (E : Nat) (g : Nat → Nat), (∀ i, i ≤ E → g i < E) → ∃ i j, i < j ∧ j ≤ E ∧ g i = g j
  | 0, g, h => absurd (h 0 (Nat.le_refl _)) (by omega)
  | E + 1, g, h => by
    by_cases hx : ∃ i, i ≤ E ∧ g i = g (E + 1)
    · obtain ⟨i, hi, e⟩ := hx
      exact ⟨i, E + 1, by omega, Nat.le_refl _, e⟩
    · have hne : ∀ i, i ≤ E → g i ≠ g (E + 1) := fun i hi e => hx ⟨i, hi, e⟩
      have hl := h (E + 1) (Nat.le_refl _)
      obtain ⟨i, j, h1, h2, h3⟩ := pigeon E (fun i => if g i = E then g (E + 1) else g i) (fun i hi => by
        have a := h i (by omega)
        have b := hne i hi
        show (if g i = E then g (E + 1) else g i) < E
        split <;> omega)
      refine ⟨i, j, h1, by omega, ?_⟩
      have a := hne i (by omega)
      have b := hne j (by omega)
      by_cases c1 : g i = E
      · rw [if_pos c1] at h3
        by_cases c2 : g j = E
        · rw [c1, c2]
        · rw [if_neg c2] at h3; exact absurd h3.symm b
      · rw [if_neg c1] at h3
        by_cases c2 : g j = E
        · rw [if_pos c2] at h3; exact absurd h3 a
        · rw [if_neg c2] at h3; exact h3

/-- No chain that goes round allows less than 0. -/
def NoNeg (E n : Nat) (f : Nat → Int) : Prop := ∀ u es, u < E → isWk f n u u es → 0 ≤ wt f es
theorem shorten {E n : Nat} {f : Nat → Int} (hf : BOk E n f) (hn : NoNeg E n f) : ∀ (k : Nat) (es : List Nat) {u v : Nat}, es.length ≤ k → u < E → isWk f n u v es → ∃ es', isWk f n u v es' ∧ wt f es' ≤ wt f es ∧ es'.length < E
  | k, es, u, v, hk, hu, h => by
    by_cases hl : es.length < E
    · exact ⟨es, h, Int.le_refl _, hl⟩
    cases k with
    | zero => have := hf.1; omega
    | succ k =>
      have hsp : ∀ j, ∃ x, j ≤ es.length → isWk f n u x (es.take j) ∧ isWk f n x v (es.drop j) := fun j => by
        have h' := h
        rw [← List.take_append_drop j es] at h'
        obtain ⟨x, h1, h2⟩ := (isWk_append _ _ _ _).1 h'
        exact ⟨x, fun _ => ⟨h1, h2⟩⟩
      obtain ⟨g, hg⟩ := Classical.axiomOfChoice hsp
      obtain ⟨i, j, hij, hjE, e⟩ := pigeon E g (fun i hi => isWk_lt hf _ hu (hg i (by omega)).1)
      have gi := hg i (by omega)
      have gj := hg j (by omega)
      have hm : isWk f n (g i) (g j) ((es.take j).drop i) := by
        have h' := gj.1
        rw [← List.take_append_drop i (es.take j)] at h'
        obtain ⟨x, h1, h2⟩ := (isWk_append _ _ _ _).1 h'
        rw [List.take_take, Nat.min_eq_left (by omega)] at h1
        rw [isWk_end _ gi.1 h1]
        exact h2
      rw [e] at hm
      have h0 := hn _ _ (isWk_lt hf _ hu gj.1) hm
      have hw : wt f es = wt f (es.take i) + wt f ((es.take j).drop i) + wt f (es.drop j) := by
        have e1 : wt f es = wt f (es.take j) + wt f (es.drop j) := by rw [← wt_append, List.take_append_drop]
        have e2 : wt f (es.take j) = wt f (es.take i) + wt f ((es.take j).drop i) := by
          have := wt_append f ((es.take j).take i) ((es.take j).drop i)
          rw [List.take_append_drop, List.take_take, Nat.min_eq_left (by omega)] at this
          exact this
        omega
      have hlen : (es.take i ++ es.drop j).length = i + (es.length - j) := by
        rw [List.length_append, List.length_take, List.length_drop, Nat.min_eq_left (by omega)]
      obtain ⟨es', a1, a2, a3⟩ := shorten hf hn k (es.take i ++ es.drop j) (by rw [hlen]; omega) hu ((isWk_append _ _ _ _).2 ⟨g i, gi.1, by rw [e]; exact gj.2⟩)
      exact ⟨es', a1, by rw [wt_append] at a2; omega, a3⟩
end Go.Proofs.YtmdniebedflpbaaDoor
