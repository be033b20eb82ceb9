/-
  WORDS: what the rounds of relaxing find: the shortest chains, or a clash.
-/
import Derived.Test.YtmdniebedflpbaaDoorPxA
namespace Go.Proofs.YtmdniebedflpbaaDoor

theorem Pt.up_T (f : Nat → Int) (p : Pt) (i : Nat) : (p.up f i).kn (bT f i) = true ∧ (p.up f i).mo (bT f i) = p.mo (bF f i) + bM f i := by
  unfold Pt.up turn
  simp
theorem Pt.up_ne (f : Nat → Int) (p : Pt) (i : Nat) {v : Nat} (h : v ≠ bT f i) : (p.up f i).kn v = p.kn v ∧ (p.up f i).mo v = p.mo v := by
  unfold Pt.up turn
  simp [h]
theorem Pt.sh_yes {f : Nat → Int} {p : Pt} {i : Nat} (h : p.sh f i = true) : p.kn (bF f i) = true ∧ (p.kn (bT f i) = true → p.mo (bF f i) + bM f i < p.mo (bT f i)) := by
  unfold Pt.sh at h
  simp only [Bool.and_eq_true, Bool.or_eq_true, Bool.not_eq_true', decide_eq_true_eq] at h
  refine ⟨h.1, fun hk => ?_⟩
  rcases h.2 with h2 | h2
  · rw [hk] at h2; cases h2
  · exact h2
theorem Pt.sh_no {f : Nat → Int} {p : Pt} {i : Nat} (h : p.sh f i = false) (hk : p.kn (bF f i) = true) : p.kn (bT f i) = true ∧ p.mo (bT f i) ≤ p.mo (bF f i) + bM f i := by
  unfold Pt.sh at h
  rw [hk, Bool.true_and] at h
  simp only [Bool.or_eq_false_iff, Bool.not_eq_false', decide_eq_false_iff_not] at h
  exact ⟨h.1, by omega⟩
theorem Pt.sh_of {f : Nat → Int} {p : Pt} {i : Nat} (h : p.kn (bF f i) = true → p.kn (bT f i) = true ∧ p.mo (bT f i) ≤ p.mo (bF f i) + bM f i) : p.sh f i = false := by
  cases hs : p.sh f i with
  | false => rfl
  | true =>
    obtain ⟨h1, h2⟩ := Pt.sh_yes hs
    obtain ⟨h3, h4⟩ := h h1
    have := h2 h3
    omega

/-- p lies above q: q knows all that p does, and allows no more. -/
def Pt.Abv (p q : Pt) : Prop := ∀ v, p.kn v = true → q.kn v = true ∧ q.mo v ≤ p.mo v
theorem Pt.Abv.refl (p : Pt) : p.Abv p := fun _ h => ⟨h, Int.le_refl _⟩
theorem Pt.Abv.trans {p q r : Pt} (h : p.Abv q) (h' : q.Abv r) : p.Abv r := fun v hv => by
  obtain ⟨a, b⟩ := h v hv
  obtain ⟨c, d⟩ := h' v a
  exact ⟨c, Int.le_trans d b⟩
theorem Pt.Abv.up {f : Nat → Int} {p : Pt} {i : Nat} (h : p.sh f i = true) : p.Abv (p.up f i) := fun v hv => by
  by_cases e : v = bT f i
  · subst e
    have h1 := Pt.up_T f p i
    have h2 := (Pt.sh_yes h).2 hv
    exact ⟨h1.1, by rw [h1.2]; omega⟩
  · have h1 := Pt.up_ne f p i e
    rw [h1.1, h1.2]
    exact ⟨hv, Int.le_refl _⟩
theorem ys_abv (f : Nat → Int) (p : Pt) : ∀ k, p.Abv (p.ups f (ysOf f p k))
  | 0 => Pt.Abv.refl p
  | k + 1 => by
    have ih := ys_abv f p k
    simp only [ysOf]
    by_cases h : (p.ups f (ysOf f p k)).sh f k = true
    · rw [if_pos h, Pt.ups_snoc]
      exact ih.trans (Pt.Abv.up h)
    · rw [if_neg h]; exact ih
/-- Behind a round each bound is kept, with what was there ahead of it. -/
theorem ys_kept (f : Nat → Int) (p : Pt) : ∀ k i, i < k → p.kn (bF f i) = true → (p.ups f (ysOf f p k)).kn (bT f i) = true ∧ (p.ups f (ysOf f p k)).mo (bT f i) ≤ p.mo (bF f i) + bM f i
  | 0, _, h, _ => absurd h (by omega)
  | k + 1, i, hi, hk => by
    have hab := ys_abv f p k
    simp only [ysOf]
    by_cases e : i = k
    · subst e
      obtain ⟨h1, h2⟩ := hab _ hk
      by_cases h : (p.ups f (ysOf f p i)).sh f i = true
      · rw [if_pos h, Pt.ups_snoc]
        have h3 := Pt.up_T f (p.ups f (ysOf f p i)) i
        exact ⟨h3.1, by rw [h3.2]; omega⟩
      · rw [if_neg h]
        have h3 := Pt.sh_no (by simpa using h) h1
        exact ⟨h3.1, by omega⟩
    · have ih := ys_kept f p k i (by omega) hk
      by_cases h : (p.ups f (ysOf f p k)).sh f k = true
      · rw [if_pos h, Pt.ups_snoc]
        obtain ⟨h3, h4⟩ := Pt.Abv.up h _ ih.1
        exact ⟨h3, by omega⟩
      · rw [if_neg h]; exact ih
/-- What is known is a chain's. -/
def Pt.Snd (p : Pt) (f : Nat → Int) (n : Nat) (st : Nat → Prop) : Prop := ∀ v, p.kn v = true → ∃ u es, st u ∧ isWk f n u v es ∧ p.mo v = wt f es
theorem ys_snd {f : Nat → Int} {n : Nat} {st : Nat → Prop} {p : Pt} (h : p.Snd f n st) : ∀ k, k ≤ n → (p.ups f (ysOf f p k)).Snd f n st
  | 0, _ => h
  | k + 1, hk => by
    have ih := ys_snd h k (by omega)
    simp only [ysOf]
    by_cases hs : (p.ups f (ysOf f p k)).sh f k = true
    · rw [if_pos hs, Pt.ups_snoc]
      intro v hv
      by_cases e : v = bT f k
      · subst e
        obtain ⟨u, es, h1, h2, h3⟩ := ih _ (Pt.sh_yes hs).1
        refine ⟨u, es ++ [k], h1, isWk_snoc h2 (by omega) rfl, ?_⟩
        rw [(Pt.up_T f _ k).2, h3, wt_append]
        simp [wt]
      · have h4 := Pt.up_ne f (p.ups f (ysOf f p k)) k e
        rw [h4.1] at hv
        rw [h4.2]
        exact ih v hv
    · rw [if_neg hs]; exact ih
/-- No chain of at most m bounds allows less. -/
def Pt.Cmp (p : Pt) (f : Nat → Int) (n : Nat) (st : Nat → Prop) (m : Nat) : Prop := ∀ u v es, st u → isWk f n u v es → es.length ≤ m → p.kn v = true ∧ p.mo v ≤ wt f es
theorem last_cases (es : List Nat) : es = [] ∨ ∃ a i, es = a ++ [i] := by
  induction es with
  | nil => exact .inl rfl
  | cons x es ih =>
    rcases ih with rfl | ⟨a, i, rfl⟩
    · exact .inr ⟨[], x, rfl⟩
    · exact .inr ⟨x :: a, i, rfl⟩
theorem ys_cmp {f : Nat → Int} {n : Nat} {st : Nat → Prop} {p : Pt} {m : Nat} (h : p.Cmp f n st m) : (p.ups f (ysOf f p n)).Cmp f n st (m + 1) := by
  intro u v es hu hw hl
  rcases last_cases es with rfl | ⟨a, i, rfl⟩
  · obtain ⟨h1, h2⟩ := h u v [] hu hw (by simp)
    obtain ⟨h3, h4⟩ := ys_abv f p n v h1
    exact ⟨h3, by omega⟩
  · obtain ⟨x, h1, h2, h3, h4⟩ := (isWk_append a [i] u v).1 hw
    have h4 : bT f i = v := h4
    subst h3 h4
    rw [List.length_append, List.length_singleton] at hl
    obtain ⟨h5, h6⟩ := h u _ a hu h1 (by omega)
    obtain ⟨h7, h8⟩ := ys_kept f p n i h2 h5
    refine ⟨h7, ?_⟩
    rw [wt_append]
    simp only [wt]
    omega
def Pt.Stable (p : Pt) (f : Nat → Int) (n : Nat) : Prop := ∀ i, i < n → p.kn (bF f i) = true → p.kn (bT f i) = true ∧ p.mo (bT f i) ≤ p.mo (bF f i) + bM f i
theorem Pt.Stable.walk {p : Pt} {f : Nat → Int} {n : Nat} (h : p.Stable f n) : ∀ (es : List Nat) {u v : Nat}, p.kn u = true → isWk f n u v es → p.kn v = true ∧ p.mo v ≤ p.mo u + wt f es
  | [], u, v, hu, hw => by
    have hw : u = v := hw
    subst hw
    exact ⟨hu, by simp [wt]⟩
  | i :: es, u, v, hu, hw => by
    obtain ⟨h1, h2, h3⟩ := hw
    subst h2
    obtain ⟨h4, h5⟩ := h i h1 hu
    obtain ⟨h6, h7⟩ := h.walk es h4 h3
    exact ⟨h6, by simp only [wt]; omega⟩
theorem ys_nil {f : Nat → Int} {p : Pt} : ∀ {k : Nat}, ysOf f p k = [] → ∀ i, i < k → p.sh f i = false
  | 0, _, _, h => absurd h (by omega)
  | k + 1, h, i, hi => by
    simp only [ysOf] at h
    by_cases hs : (p.ups f (ysOf f p k)).sh f k = true
    · rw [if_pos hs] at h; simp at h
    · rw [if_neg hs] at h
      by_cases e : i = k
      · subst e
        rw [h] at hs
        simpa [Pt.ups] using hs
      · exact ys_nil h i (by omega)
theorem ys_nil_of {f : Nat → Int} {p : Pt} : ∀ {k : Nat}, (∀ i, i < k → p.sh f i = false) → ysOf f p k = []
  | 0, _ => rfl
  | k + 1, h => by
    have ih := ys_nil_of (f := f) (p := p) (k := k) (fun i hi => h i (by omega))
    have hk := h k (by omega)
    simp only [ysOf]
    rw [ih, if_neg]
    show ¬(p.ups f []).sh f k = true
    have e : p.ups f [] = p := rfl
    rw [e, hk]
    simp
theorem ys_stable {f : Nat → Int} {p : Pt} {n : Nat} (h : ysOf f p n = []) : p.Stable f n := fun i hi hk => Pt.sh_no (ys_nil h i hi) hk
theorem lastTo_neg {f : Nat → Int} {l : List Nat} : lastTo f l < 0 ↔ l = [] := by
  rcases last_cases l with rfl | ⟨a, i, rfl⟩
  · simp [lastTo_nil]
  · rw [lastTo_snoc]
    constructor
    · intro h; omega
    · intro h; simp at h

/-- A round without a shortening ends it: what is left is stable. -/
theorem rel_stable {f : Nat → Int} {n : Nat} : ∀ (r : Nat) (p : Pt) (s : Int), 1 ≤ r → (relS f n r p s).2 < 0 → (relS f n r p s).1.Stable f n ∧ p.Abv (relS f n r p s).1
  | r + 1, p, s, _, h => by
    simp only [relS] at h ⊢
    by_cases hl : lastTo f (ysOf f p n) < 0
    · rw [if_pos hl]
      have e := lastTo_neg.1 hl
      rw [e]
      exact ⟨ys_stable e, Pt.Abv.refl p⟩
    · rw [if_neg hl] at h ⊢
      cases r with
      | zero => simp only [relS] at h; exact absurd h hl
      | succ r =>
        obtain ⟨h1, h2⟩ := rel_stable (r + 1) _ _ (by omega) h
        exact ⟨h1, (ys_abv f p n).trans h2⟩
/-- Where no round allows less than 0, it ends in time, with the shortest chains. -/
theorem rel_done {E n : Nat} {f : Nat → Int} {st : Nat → Prop} (hf : BOk E n f) (hn : NoNeg E n f) (hst : ∀ u, st u → u < E) : ∀ (r : Nat) (p : Pt) (s : Int) (m : Nat), 1 ≤ r → E ≤ m + r → p.Snd f n st → p.Cmp f n st m →
    (relS f n r p s).2 < 0 ∧ (relS f n r p s).1.Snd f n st ∧ ∀ k, (relS f n r p s).1.Cmp f n st k
  | r + 1, p, s, m, _, hE, hs, hc => by
    simp only [relS]
    by_cases hl : lastTo f (ysOf f p n) < 0
    · rw [if_pos hl]
      have e := lastTo_neg.1 hl
      have hb := ys_stable e
      rw [e]
      refine ⟨by rw [lastTo_nil]; show (-1 : Int) < 0; decide, hs, fun k u v es hu hw _ => ?_⟩
      obtain ⟨h1, h2⟩ := hc u u [] hu rfl (by simp)
      obtain ⟨h3, h4⟩ := hb.walk es h1 hw
      have h2 : p.mo u ≤ 0 := h2
      exact ⟨h3, by show p.mo v ≤ _; omega⟩
    · rw [if_neg hl]
      have hs2 := ys_snd hs n (Nat.le_refl _)
      have hc2 := ys_cmp hc
      cases r with
      | zero =>
        exfalso
        refine hl (lastTo_neg.2 (ys_nil_of fun i hi => Pt.sh_of fun hk => ?_))
        obtain ⟨u, es, h1, h2, h3⟩ := hs _ hk
        obtain ⟨es', h4, h5, h6⟩ := shorten hf hn _ (es ++ [i]) (Nat.le_refl _) (hst u h1) (isWk_snoc h2 hi rfl)
        obtain ⟨h7, h8⟩ := hc u _ es' h1 h4 (by omega)
        rw [wt_append] at h5
        simp only [wt] at h5
        exact ⟨h7, by omega⟩
      | succ r => exact rel_done hf hn hst (r + 1) _ _ (m + 1) (by omega) (by omega) hs2 hc2

/-- The bounds clash just where a chain that goes round allows less than 0. -/
theorem clash_iff {E n : Nat} {f : Nat → Int} (hf : BOk E n f) : clash f n E < 0 ↔ NoNeg E n f := by
  have h1 := hf.1
  constructor
  · intro h u es hu hw
    obtain ⟨h2, h3⟩ := rel_stable E (Pt.all E) (-1) h1.1 h
    have hk : (Pt.all E).kn u = true := by simp [Pt.all, hu]
    obtain ⟨h4, _⟩ := h3 u hk
    have := (h2.walk es h4 hw).2
    omega
  · intro hn
    refine (rel_done hf hn (st := fun u => u < E) (fun _ h => h) E (Pt.all E) (-1) 0 h1.1 (by omega) (fun v hv => ?_) (fun u v es hu hw hl => ?_)).1
    · exact ⟨v, [], by simpa [Pt.all] using hv, rfl, rfl⟩
    · obtain rfl : es = [] := List.eq_nil_of_length_eq_zero (by omega)
      have hw : u = v := hw
      subst hw
      exact ⟨by simpa [Pt.all] using hu, by simp [Pt.all, wt]⟩
/-- The least that a chain from u to v allows. -/
def IsMin (f : Nat → Int) (n u v : Nat) (m : Int) : Prop := (∃ es, isWk f n u v es ∧ m = wt f es) ∧ ∀ es, isWk f n u v es → m ≤ wt f es
theorem IsMin.eq {f : Nat → Int} {n u v : Nat} {m m' : Int} (h : IsMin f n u v m) (h' : IsMin f n u v m') : m = m' := by
  obtain ⟨⟨es, h1, h2⟩, h3⟩ := h
  obtain ⟨⟨es', h1', h2'⟩, h3'⟩ := h'
  have := h3 es' h1'
  have := h3' es h1
  omega
/-- What fromStart finds: what the chains from the event 0 allow. -/
theorem ptU_min {E n : Nat} {f : Nat → Int} (hf : BOk E n f) (hn : NoNeg E n f) (v : Nat) : ((ptU f n E).kn v = true → IsMin f n 0 v ((ptU f n E).mo v)) ∧ ((∃ es, isWk f n 0 v es) → (ptU f n E).kn v = true) := by
  have h1 := hf.1
  obtain ⟨_, h2, h3⟩ := rel_done hf hn (st := fun u => u = 0) (fun u h => by omega) E Pt.start (-1) 0 h1.1 (by omega)
    (fun v hv => by
      by_cases e : v = 0
      · subst e; exact ⟨0, [], rfl, rfl, rfl⟩
      · rw [show Pt.start.kn v = false by unfold Pt.start turn; simp [e]] at hv; cases hv)
    (fun u v es hu hw hl => by
      obtain rfl : es = [] := List.eq_nil_of_length_eq_zero (by omega)
      have hw : u = v := hw
      subst hw
      subst hu
      exact ⟨by simp [Pt.start, turn], by simp [Pt.start, wt]⟩)
  refine ⟨fun hk => ?_, fun ⟨es, hw⟩ => (h3 es.length 0 v es rfl hw (Nat.le_refl _)).1⟩
  obtain ⟨u, es, rfl, h4, h5⟩ := h2 v hk
  exact ⟨⟨es, h4, h5⟩, fun es' hw => (h3 es'.length 0 v es' rfl hw (Nat.le_refl _)).2⟩
end Go.Proofs.YtmdniebedflpbaaDoor
