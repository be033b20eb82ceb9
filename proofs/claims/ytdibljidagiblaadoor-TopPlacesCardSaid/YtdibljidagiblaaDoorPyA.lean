/-
  MATHEMATICS: ways back by the last bounds: each round of them allows less than 0.
-/
import Derived.Test.YtdibljidagiblaaDoorPxC
namespace Go.Proofs.YtdibljidagiblaaDoor

/-- Back by the last bounds: from v along es to u. -/
def Bk (f : Nat → Int) (n : Nat) (p : Pt) : Nat → List Nat → Nat → Prop
  | v, [], u => v = u
  | v, i :: es, u => p.la v = (i : Int) ∧ i < n ∧ bT f i = v ∧ Bk f n p (bF f i) es u
theorem Bk.append {f : Nat → Int} {n : Nat} {p : Pt} : ∀ (a b : List Nat) (v u : Nat), Bk f n p v (a ++ b) u ↔ ∃ x, Bk f n p v a x ∧ Bk f n p x b u
  | [], b, v, u => by
    constructor
    · intro h; exact ⟨v, rfl, h⟩
    · rintro ⟨x, hx, h⟩
      have hx : v = x := hx
      subst hx
      exact h
  | i :: a, b, v, u => by
    have ih := Bk.append (f := f) (n := n) (p := p) a b (bF f i) u
    constructor
    · rintro ⟨h1, h2, h3, h4⟩
      obtain ⟨x, h5, h6⟩ := ih.1 h4
      exact ⟨x, ⟨h1, h2, h3, h5⟩, h6⟩
    · rintro ⟨x, ⟨h1, h2, h3, h5⟩, h6⟩
      exact ⟨h1, h2, h3, ih.2 ⟨x, h5, h6⟩⟩
theorem Bk.det {f : Nat → Int} {n : Nat} {p : Pt} : ∀ (a : List Nat) {v x y : Nat}, Bk f n p v a x → Bk f n p v a y → x = y
  | [], v, x, y, h, h' => by
    have h : v = x := h
    have h' : v = y := h'
    rw [← h, ← h']
  | _ :: a, _, _, _, h, h' => Bk.det a h.2.2.2 h'.2.2.2
theorem Bk.wk {f : Nat → Int} {n : Nat} {p : Pt} : ∀ (es : List Nat) {v u : Nat}, Bk f n p v es u → isWk f n u v es.reverse
  | [], v, u, h => by
    have h : v = u := h
    subst h
    rfl
  | i :: es, v, u, h => by
    obtain ⟨h1, h2, h3, h4⟩ := h
    subst h3
    rw [List.reverse_cons]
    exact isWk_snoc (Bk.wk es h4) h2 rfl
/-- A split of a way back. -/
theorem Bk.split {f : Nat → Int} {n : Nat} {p : Pt} {v u : Nat} {es : List Nat} (h : Bk f n p v es u) (j : Nat) : ∃ x, Bk f n p v (es.take j) x ∧ Bk f n p x (es.drop j) u := by
  rw [← List.take_append_drop j es] at h
  exact (Bk.append _ _ _ _).1 h

/-- Each known event has its last bound, or begins a chain. -/
def Pt.Lnk (p : Pt) (f : Nat → Int) (n : Nat) (root : Nat → Prop) : Prop :=
  ∀ v, p.kn v = true → (p.la v = -1 ∧ root v ∧ p.mo v = 0) ∨ ∃ i, i < n ∧ p.la v = (i : Int) ∧ bT f i = v ∧ p.kn (bF f i) = true ∧ p.mo (bF f i) + bM f i ≤ p.mo v
theorem Pt.up_la (f : Nat → Int) (p : Pt) (i : Nat) : (p.up f i).la (bT f i) = (i : Int) := by
  unfold Pt.up turn
  simp
theorem Pt.up_la_ne (f : Nat → Int) (p : Pt) (i : Nat) {v : Nat} (h : v ≠ bT f i) : (p.up f i).la v = p.la v := by
  unfold Pt.up turn
  simp [h]
theorem Pt.Lnk.up {p : Pt} {f : Nat → Int} {n : Nat} {root : Nat → Prop} (h : p.Lnk f n root) {k : Nat} (hk : k < n) (hs : p.sh f k = true) : (p.up f k).Lnk f n root := by
  intro v hv
  have hT := Pt.up_T f p k
  have hy := Pt.sh_yes hs
  by_cases e : v = bT f k
  · subst e
    refine .inr ⟨k, hk, Pt.up_la f p k, rfl, (Pt.Abv.up hs _ hy.1).1, ?_⟩
    by_cases e2 : bF f k = bT f k
    · rw [e2, hT.2]
      rw [e2] at hy
      have := hy.2 hy.1
      rw [e2]
      omega
    · have := Pt.up_ne f p k e2
      rw [hT.2, this.2]
      omega
  · have h1 := Pt.up_ne f p k e
    rw [h1.1] at hv
    rw [Pt.up_la_ne f p k e, h1.2]
    rcases h v hv with h2 | ⟨i, h2, h3, h4, h5, h6⟩
    · exact .inl h2
    · have h7 := Pt.Abv.up hs _ h5
      exact .inr ⟨i, h2, h3, h4, h7.1, by omega⟩
theorem Bk.mo {p : Pt} {f : Nat → Int} {n : Nat} {root : Nat → Prop} (h : p.Lnk f n root) : ∀ (es : List Nat) {v u : Nat}, p.kn v = true → Bk f n p v es u → p.kn u = true ∧ p.mo u + wt f es ≤ p.mo v
  | [], v, u, hv, hb => by
    have hb : v = u := hb
    subst hb
    exact ⟨hv, by simp [wt]⟩
  | i :: es, v, u, hv, hb => by
    obtain ⟨h1, h2, h3, h4⟩ := hb
    rcases h v hv with ⟨h5, _⟩ | ⟨j, h5, h6, h7, h8, h9⟩
    · rw [h1] at h5; omega
    · obtain rfl : i = j := by rw [h1] at h6; omega
      obtain ⟨a, b⟩ := Bk.mo h es h8 h4
      refine ⟨a, ?_⟩
      simp only [wt]
      omega
/-- All ways back that go round allow less than 0. -/
def Pt.Cyc (p : Pt) (f : Nat → Int) (n : Nat) : Prop := ∀ v es, es ≠ [] → p.kn v = true → Bk f n p v es v → wt f es < 0
theorem Bk.old {p : Pt} {f : Nat → Int} {n k : Nat} : ∀ (es : List Nat) {v u : Nat}, k ∉ es → Bk f n (p.up f k) v es u → Bk f n p v es u
  | [], _, _, _, h => h
  | i :: es, v, u, hk, h => by
    obtain ⟨h1, h2, h3, h4⟩ := h
    have hne : i ≠ k := fun e => hk (by rw [e]; exact List.mem_cons_self)
    refine ⟨?_, h2, h3, Bk.old es (fun hm => hk (List.mem_cons_of_mem _ hm)) h4⟩
    by_cases e : v = bT f k
    · subst e
      rw [Pt.up_la] at h1
      exact absurd (by omega) hne
    · rwa [Pt.up_la_ne f p k e] at h1
theorem split_first {k : Nat} : ∀ (es : List Nat), k ∈ es → ∃ a b, es = a ++ k :: b ∧ k ∉ a
  | [], h => by cases h
  | i :: es, h => by
    by_cases e : i = k
    · subst e; exact ⟨[], es, rfl, by simp⟩
    · obtain ⟨a, b, h1, h2⟩ := split_first es (by
        rcases List.mem_cons.1 h with h | h
        · exact absurd h.symm e
        · exact h)
      refine ⟨i :: a, b, by rw [h1]; rfl, ?_⟩
      intro hm
      rcases List.mem_cons.1 hm with hm | hm
      · exact e hm.symm
      · exact h2 hm
theorem Pt.Cyc.up {p : Pt} {f : Nat → Int} {n : Nat} {root : Nat → Prop} (hl : p.Lnk f n root) (h : p.Cyc f n) {k : Nat} (hk : k < n) (hs : p.sh f k = true) : (p.up f k).Cyc f n := by
  have hlu := hl.up hk hs
  have key : ∀ (m : Nat) (es : List Nat) (v : Nat), es.length ≤ m → es ≠ [] → (p.up f k).kn v = true → Bk f n (p.up f k) v es v → wt f es < 0 := by
    intro m
    induction m with
    | zero => intro es v hm hne _ _; exact absurd (List.eq_nil_of_length_eq_zero (by omega)) hne
    | succ m ih =>
      intro es v hm hne hv hb
      by_cases hin : k ∈ es
      · obtain ⟨a, b, rfl, ha⟩ := split_first es hin
        obtain ⟨x, h1, h2⟩ := (Bk.append _ _ _ _).1 hb
        obtain ⟨h3, h4, h5, h6⟩ := h2
        subst h5
        have hx := (Bk.mo hlu a hv h1).1
        have hkF : (p.up f k).kn (bF f k) = true := (Pt.Abv.up hs _ (Pt.sh_yes hs).1).1
        rw [wt_append]
        simp only [wt]
        by_cases hb2 : k ∈ b
        · obtain ⟨b1, b2, rfl, hb1⟩ := split_first b hb2
          obtain ⟨y, h7, h8⟩ := (Bk.append _ _ _ _).1 h6
          have e := h8.2.2.1
          subst e
          simp only [List.length_append, List.length_cons] at hm
          have c1 := ih (k :: b1) (bT f k) (by simp only [List.length_cons]; omega) (by simp) hx ⟨h3, h4, rfl, h7⟩
          have c2 := ih (a ++ k :: b2) v (by simp only [List.length_append, List.length_cons]; omega) (by simp) hv ((Bk.append _ _ _ _).2 ⟨_, h1, h8⟩)
          simp only [wt, wt_append] at c1 c2 ⊢
          omega
        · have h9 : Bk f n p (bF f k) (b ++ a) (bT f k) := (Bk.append _ _ _ _).2 ⟨v, Bk.old b hb2 h6, Bk.old a ha h1⟩
          have hy := Pt.sh_yes hs
          obtain ⟨g1, g2⟩ := Bk.mo hl _ hy.1 h9
          have := hy.2 g1
          rw [wt_append] at g2
          omega
      · have hb2 := Bk.old es hin hb
        cases es with
        | nil => exact absurd rfl hne
        | cons i es =>
          refine h v _ hne ?_ hb2
          by_cases e : v = bT f k
          · subst e
            have : (p.up f k).la (bT f k) = (i : Int) := hb.1
            rw [Pt.up_la] at this
            exact absurd (by rw [show i = k by omega]; exact List.mem_cons_self) hin
          · rwa [(Pt.up_ne f p k e).1] at hv
  exact fun v es hne hv hb => key es.length es v (Nat.le_refl _) hne hv hb
theorem ys_lnk {f : Nat → Int} {n : Nat} {root : Nat → Prop} {p : Pt} (h : p.Lnk f n root) (hc : p.Cyc f n) : ∀ k, k ≤ n → (p.ups f (ysOf f p k)).Lnk f n root ∧ (p.ups f (ysOf f p k)).Cyc f n
  | 0, _ => ⟨h, hc⟩
  | k + 1, hk => by
    have ih := ys_lnk h hc k (by omega)
    simp only [ysOf]
    by_cases hs : (p.ups f (ysOf f p k)).sh f k = true
    · rw [if_pos hs, Pt.ups_snoc]
      exact ⟨ih.1.up (by omega) hs, Pt.Cyc.up ih.1 ih.2 (by omega) hs⟩
    · rw [if_neg hs]; exact ih
theorem rel_lnk {f : Nat → Int} {n : Nat} {root : Nat → Prop} : ∀ (r : Nat) (p : Pt) (s : Int), p.Lnk f n root → p.Cyc f n → (relS f n r p s).1.Lnk f n root ∧ (relS f n r p s).1.Cyc f n
  | 0, p, s, h, hc => ⟨h, hc⟩
  | r + 1, p, s, h, hc => by
    obtain ⟨h1, h2⟩ := ys_lnk h hc n (Nat.le_refl _)
    simp only [relS]
    split
    · exact ⟨h1, h2⟩
    · exact rel_lnk r _ _ h1 h2
theorem Bk.none {p : Pt} {f : Nat → Int} {n v u i : Nat} {es : List Nat} (hl : p.la v = -1) (h : Bk f n p v (i :: es) u) : False := by
  have := h.1
  rw [hl] at this
  omega
theorem start_lnk (f : Nat → Int) (n : Nat) : Pt.start.Lnk f n (fun v => v = 0) ∧ Pt.start.Cyc f n := by
  have h0 : ∀ v, Pt.start.kn v = true → v = 0 := fun v hv => by
    by_cases e : v = 0
    · exact e
    · rw [show Pt.start.kn v = false by unfold Pt.start turn; simp [e]] at hv; cases hv
  refine ⟨fun v hv => ?_, fun v es hne hv hb => ?_⟩
  · obtain rfl := h0 v hv
    exact .inl ⟨by simp [Pt.start, turn], rfl, rfl⟩
  · obtain rfl := h0 v hv
    cases es with
    | nil => exact absurd rfl hne
    | cons i es => exact (Bk.none (by simp [Pt.start, turn]) hb).elim
theorem all_lnk (f : Nat → Int) (n E : Nat) : (Pt.all E).Lnk f n (fun v => v < E) ∧ (Pt.all E).Cyc f n := by
  have h0 : ∀ v, (Pt.all E).kn v = true → v < E ∧ (Pt.all E).la v = -1 := fun v hv => by
    have hv : v < E := by simpa [Pt.all] using hv
    exact ⟨hv, by simp [Pt.all, hv]⟩
  refine ⟨fun v hv => .inl ⟨(h0 v hv).2, (h0 v hv).1, rfl⟩, fun v es hne hv hb => ?_⟩
  cases es with
  | nil => exact absurd rfl hne
  | cons i es => exact (Bk.none (h0 v hv).2 hb).elim
end Go.Proofs.YtdibljidagiblaaDoor
