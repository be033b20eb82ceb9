/-
  MATHEMATICS: where bounds clash, the way back ends in a round that allows less than 0.
-/
import Derived.Test.YtdibljidagiblaaDoorPyB
namespace Go.Proofs.YtdibljidagiblaaDoor

/-- The round in which the path of each event was last shortened; its last bound comes from one that was shortened a round earlier, or later. -/
def Pt.Lev (p : Pt) (f : Nat → Int) (n : Nat) (L : Nat → Nat) : Prop := ∀ v, 0 < L v → p.kn v = true ∧ ∃ i, i < n ∧ p.la v = (i : Int) ∧ bT f i = v ∧ L v ≤ L (bF f i) + 1
/-- Bounds from events that round r has not shortened are kept. -/
def Pt.Qt (p : Pt) (f : Nat → Int) (n : Nat) (L : Nat → Nat) (r : Nat) : Prop := ∀ k, k < n → p.kn (bF f k) = true → L (bF f k) < r → p.kn (bT f k) = true ∧ p.mo (bT f k) ≤ p.mo (bF f k) + bM f k
/-- The levels in a round. -/
def lvl (f : Nat → Int) (L : Nat → Nat) (r : Nat) (ys : List Nat) (v : Nat) : Nat := if v ∈ ys.map (bT f) then r else L v
theorem lvl_in {f : Nat → Int} {L : Nat → Nat} {r : Nat} {ys : List Nat} {v : Nat} (h : v ∈ ys.map (bT f)) : lvl f L r ys v = r := by unfold lvl; rw [if_pos h]
theorem lvl_out {f : Nat → Int} {L : Nat → Nat} {r : Nat} {ys : List Nat} {v : Nat} (h : v ∉ ys.map (bT f)) : lvl f L r ys v = L v := by unfold lvl; rw [if_neg h]
theorem ups_out {f : Nat → Int} : ∀ (ys : List Nat) (p : Pt) {v : Nat}, v ∉ ys.map (bT f) → (p.ups f ys).kn v = p.kn v ∧ (p.ups f ys).mo v = p.mo v
  | [], _, _, _ => ⟨rfl, rfl⟩
  | i :: ys, p, v, h => by
    rw [List.map_cons, List.mem_cons, not_or] at h
    have h1 := ups_out ys (p.up f i) h.2
    have h2 := Pt.up_ne f p i h.1
    have e : p.ups f (i :: ys) = (p.up f i).ups f ys := rfl
    rw [e, h1.1, h1.2, h2.1, h2.2]
    exact ⟨rfl, rfl⟩
theorem ys_lev {f : Nat → Int} {n : Nat} {p : Pt} {L : Nat → Nat} {r : Nat} (hL : p.Lev f n L) (hQ : p.Qt f n L r) (hr : ∀ v, L v ≤ r) : ∀ k, k ≤ n → (p.ups f (ysOf f p k)).Lev f n (lvl f L (r + 1) (ysOf f p k))
  | 0, _ => by
    have e : lvl f L (r + 1) (ysOf f p 0) = L := by funext v; exact lvl_out (by simp [ysOf])
    rw [e]
    exact hL
  | k + 1, hk => by
    have ih := ys_lev hL hQ hr k (by omega)
    have hab := ys_abv f p k
    simp only [ysOf]
    by_cases hs : (p.ups f (ysOf f p k)).sh f k = true
    · rw [if_pos hs, Pt.ups_snoc]
      generalize hys : ysOf f p k = ys at ih hab hs
      generalize hq : p.ups f ys = q at ih hab hs
      have hy := Pt.sh_yes hs
      have hle : ∀ v, lvl f L (r + 1) ys v ≤ lvl f L (r + 1) (ys ++ [k]) v ∧ lvl f L (r + 1) (ys ++ [k]) v ≤ r + 1 := fun v => by
        have h1 := hr v
        unfold lvl
        by_cases h2 : v ∈ ys.map (bT f)
        · rw [if_pos h2, if_pos (by rw [List.map_append, List.mem_append]; exact .inl h2)]
          exact ⟨Nat.le_refl _, Nat.le_refl _⟩
        · rw [if_neg h2]
          split <;> omega
      have hu : r ≤ lvl f L (r + 1) ys (bF f k) := by
        by_cases h2 : bF f k ∈ ys.map (bT f)
        · rw [lvl_in h2]; omega
        · rw [lvl_out h2]
          refine Decidable.byContradiction fun h3 => ?_
          obtain ⟨h4, h5⟩ := ups_out ys p h2
          rw [hq] at h4 h5
          have h6 := hQ k (by omega) (by rw [← h4]; exact hy.1) (by omega)
          obtain ⟨h7, h8⟩ := hab _ h6.1
          have := hy.2 h7
          omega
      intro v hv
      by_cases e : v = bT f k
      · subst e
        refine ⟨(Pt.up_T f q k).1, k, by omega, Pt.up_la f q k, rfl, ?_⟩
        have h1 := (hle (bT f k)).2
        have h2 := (hle (bF f k)).1
        omega
      · have h0 : lvl f L (r + 1) (ys ++ [k]) v = lvl f L (r + 1) ys v := by
          have hm : v ∈ (ys ++ [k]).map (bT f) ↔ v ∈ ys.map (bT f) := by
            rw [List.map_append, List.mem_append, List.map_singleton, List.mem_singleton]
            exact ⟨fun h => h.elim id (fun h => absurd h e), .inl⟩
          by_cases h2 : v ∈ ys.map (bT f)
          · rw [lvl_in h2, lvl_in (hm.2 h2)]
          · rw [lvl_out h2, lvl_out (fun h => h2 (hm.1 h))]
        rw [h0] at hv ⊢
        obtain ⟨h1, i, h2, h3, h4, h5⟩ := ih v hv
        have h6 := Pt.up_ne f q k e
        refine ⟨by rw [h6.1]; exact h1, i, h2, by rw [Pt.up_la_ne f q k e]; exact h3, h4, ?_⟩
        have h7 := (hle (bF f i)).1
        omega
    · rw [if_neg hs]; exact ih
theorem ys_qt {f : Nat → Int} {n : Nat} {p : Pt} {L : Nat → Nat} {r : Nat} : (p.ups f (ysOf f p n)).Qt f n (lvl f L (r + 1) (ysOf f p n)) (r + 1) := by
  intro k hk hkn hlt
  have h2 : bF f k ∉ (ysOf f p n).map (bT f) := fun h => by rw [lvl_in h] at hlt; omega
  obtain ⟨h4, h5⟩ := ups_out (ysOf f p n) p h2
  rw [h4] at hkn
  rw [h5]
  exact ys_kept f p n k hk hkn
/-- Where the last round has shortened a path, the levels go down to the first. -/
theorem rel_lev {f : Nat → Int} {n : Nat} : ∀ (j : Nat) (p : Pt) (s : Int) (L : Nat → Nat) (r : Nat), 1 ≤ j → p.Lev f n L → p.Qt f n L r → (∀ v, L v ≤ r) → 0 ≤ (relS f n j p s).2 →
    ∃ L' i, (relS f n j p s).1.Lev f n L' ∧ i < n ∧ (relS f n j p s).2 = (bT f i : Int) ∧ L' (bT f i) = r + j
  | j + 1, p, s, L, r, _, hL, hQ, hr, h => by
    simp only [relS] at h ⊢
    by_cases hl : lastTo f (ysOf f p n) < 0
    · rw [if_pos hl] at h
      exact absurd h (by show ¬0 ≤ lastTo f (ysOf f p n); omega)
    · rw [if_neg hl] at h ⊢
      have h1 := ys_lev hL hQ hr n (Nat.le_refl _)
      have h2 := ys_qt (f := f) (n := n) (p := p) (L := L) (r := r)
      have h3 : ∀ v, lvl f L (r + 1) (ysOf f p n) v ≤ r + 1 := fun v => by
        have := hr v
        unfold lvl
        split <;> omega
      cases j with
      | zero =>
        simp only [relS] at h ⊢
        rcases last_cases (ysOf f p n) with e | ⟨a, i, e⟩
        · rw [e] at hl; exact absurd (by rw [lastTo_nil]; decide) hl
        · refine ⟨_, i, h1, ysOf_lt f p n i (by rw [e]; simp), by rw [e, lastTo_snoc], ?_⟩
          refine lvl_in ?_
          rw [e, List.map_append]
          simp
      | succ j =>
        obtain ⟨L', i, g1, g2, g3, g4⟩ := rel_lev (j + 1) _ (lastTo f (ysOf f p n)) _ (r + 1) (by omega) h1 h2 h3 h
        exact ⟨L', i, g1, g2, g3, by rw [g4]; omega⟩
/-- From an event of level m a way back has m bounds. -/
theorem Pt.Lev.way {p : Pt} {f : Nat → Int} {n : Nat} {L : Nat → Nat} (h : p.Lev f n L) : ∀ (m v : Nat), m ≤ L v → ∃ es u, Bk f n p v es u ∧ es.length = m
  | 0, v, _ => ⟨[], v, rfl, rfl⟩
  | m + 1, v, hm => by
    obtain ⟨h1, i, h2, h3, h4, h5⟩ := h v (by omega)
    obtain ⟨es, u, h6, h7⟩ := h.way m (bF f i) (by omega)
    exact ⟨i :: es, u, ⟨h3, h2, h4, h6⟩, by simp [h7]⟩
theorem Bk.rot {p : Pt} {f : Nat → Int} {n : Nat} : ∀ (es : List Nat) {x u : Nat} {c : List Nat}, c ≠ [] → Bk f n p x c x → Bk f n p x es u → ∃ c', c' ≠ [] ∧ Bk f n p u c' u
  | [], x, u, c, hne, hc, hb => by
    have hb : x = u := hb
    subst hb
    exact ⟨c, hne, hc⟩
  | i :: es, x, u, c, hne, hc, hb => by
    cases c with
    | nil => exact absurd rfl hne
    | cons i' c =>
      obtain ⟨a1, a2, a3, a4⟩ := hb
      obtain ⟨b1, b2, b3, b4⟩ := hc
      obtain rfl : i = i' := by rw [a1] at b1; omega
      exact Bk.rot es (c := c ++ [i]) (by simp) ((Bk.append _ _ _ _).2 ⟨x, b4, a1, a2, a3, rfl⟩) a4
/-- The shortest way round. -/
theorem Bk.round {E n : Nat} {f : Nat → Int} {p : Pt} (hf : BOk E n f) {u : Nat} (hu : u < E) : ∀ (m : Nat) (c : List Nat), c.length ≤ m → c ≠ [] → Bk f n p u c u → ∃ es, Ends f n p u es u ∧ es.length ≤ E ∧ (es.map (bF f)).Nodup
  | 0, c, hm, hne, _ => absurd (List.eq_nil_of_length_eq_zero (by omega)) hne
  | m + 1, c, hm, hne, hc => by
    by_cases h1 : ∃ j, 0 < j ∧ j < c.length ∧ Bk f n p u (c.take j) u
    · obtain ⟨j, h2, h3, h4⟩ := h1
      have hlen : (c.take j).length = j := by rw [List.length_take]; omega
      exact Bk.round hf hu m (c.take j) (by omega) (fun e => by rw [e] at hlen; simp at hlen; omega) h4
    · rcases nodup_or (bF f) c with h2 | ⟨a, i, b, j, d, rfl, he⟩
      · by_cases h3 : c.length ≤ E
        · exact ⟨c, ⟨hc, hne, fun j h4 h5 h6 => h1 ⟨j, h4, h5, h6⟩⟩, h3, h2⟩
        · obtain ⟨i, j, x, hij, hj, h4, _, h6⟩ := hc.long hf hu (by omega)
          refine Bk.round hf hu m (c.take i ++ c.drop j) (by simp only [List.length_append, List.length_take, List.length_drop]; omega) (fun e => ?_) ((Bk.append _ _ _ _).2 ⟨x, h4, h6⟩)
          have := congrArg List.length e
          simp only [List.length_append, List.length_take, List.length_drop, List.length_nil] at this
          omega
      · obtain ⟨x, h3, h4⟩ := (Bk.append _ _ _ _).1 hc
        obtain ⟨y, h5, h6⟩ := (Bk.append _ _ _ _).1 h4.2.2.2
        have h7 : Bk f n p u (a ++ i :: d) u := (Bk.append _ _ _ _).2 ⟨x, h3, h4.1, h4.2.1, h4.2.2.1, by rw [he]; exact h6.2.2.2⟩
        refine Bk.round hf hu m (a ++ i :: d) ?_ (by simp) h7
        simp only [List.length_append, List.length_cons] at hm ⊢
        omega
/-- Where bounds clash: the search's way back, as long as there are events, ends in a round that allows less than 0. -/
theorem clash_back {E n : Nat} {f : Nat → Int} (hf : BOk E n f) (h : 0 ≤ clash f n E) :
    ∃ (v : Nat) (es : List Nat) (u : Nat), clash f n E = (v : Int) ∧ v < E ∧ Bk f n (relS f n E (Pt.all E) (-1)).1 v es u ∧ es.length = E ∧ u < E ∧
      ∃ c, Ends f n (relS f n E (Pt.all E) (-1)).1 u c u ∧ c.length ≤ E ∧ (c.map (bF f)).Nodup ∧ wt f c < 0 := by
  have h1 := hf.1
  obtain ⟨L, i, hL, hi, hs, hLE⟩ := rel_lev (f := f) (n := n) E (Pt.all E) (-1) (fun _ => 0) 0 h1.1 (fun v hv => absurd hv (Nat.lt_irrefl 0)) (fun k _ _ hlt => absurd hlt (Nat.lt_irrefl 0)) (fun _ => Nat.le_refl _) h
  obtain ⟨es, u, hb, hlen⟩ := hL.way E (bT f i) (by omega)
  have hv := (bT_eq hf hi).2
  have hu := Bk.lt hf _ hv hb
  obtain ⟨hl, hc⟩ := rel_lnk (f := f) (n := n) E (Pt.all E) (-1) (all_lnk f n E).1 (all_lnk f n E).2
  obtain ⟨i', j', x, hij, hj, h4, h5, h6⟩ := hb.long hf hv (by omega)
  obtain ⟨c', hne, hc'⟩ := Bk.rot _ (c := (es.take j').drop i') (fun e => by
    have := congrArg List.length e
    simp at this
    omega) h5 h6
  obtain ⟨c, g1, g2, g3⟩ := Bk.round hf hu c'.length c' (Nat.le_refl _) hne hc'
  have hkv : (relS f n E (Pt.all E) (-1)).1.kn (bT f i) = true := (hL (bT f i) (by omega)).1
  exact ⟨bT f i, es, u, hs, hv, hb, hlen, hu, c, g1, g2, g3, hc u c g1.2.1 (Bk.mo hl _ hkv hb).1 g1.1⟩
end Go.Proofs.YtdibljidagiblaaDoor
