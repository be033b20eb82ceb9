/-
  WALKS AND WORDS: PyA PyB PyC PyD PyE PyF of my texts, one behind the other.
-/
import Derived.Test.YtmdniebedflpbaaDoorPxC
import Derived.Test.YtmdniebedflpbaaDoorPxD
import Derived.Laws.AppendOwn
import Derived.Test.YtmdniebedflpbaaDoorOwB
-- PyA: MATHEMATICS: ways back by the last bounds: each round of them allows less than 0.
namespace Go.Proofs.YtmdniebedflpbaaDoor

/-- Back by the last bounds: from v along es to u. -/
def Bk (f : Nat → Int) (n : Nat) (p : Pt) : Nat → List Nat → Nat → Prop
  | v, [], u => v = u
  | v, i :: es, u => p.la v = (i : Int) ∧ i < n ∧ bT f i = v ∧ Bk f n p (bF f i) es u
theorem Bk.append {f : Nat → Int} {n : Nat} {p : Pt} : ∀ (a b : List Nat) (v u : Nat), Bk f n p v (a ++ b) u ↔ ∃ x, Bk f n p v a x ∧ Bk f n p x b u
  | [], b, v, u => by
    constructor
    · intro h; exact ⟨v, rfl, h⟩
    · rintro ⟨x, hx, h⟩
      have hx : v = x := hx
      subst hx
      exact h
  | i :: a, b, v, u => by
    have ih := Bk.append (f := f) (n := n) (p := p) a b (bF f i) u
    constructor
    · rintro ⟨h1, h2, h3, h4⟩
      obtain ⟨x, h5, h6⟩ := ih.1 h4
      exact ⟨x, ⟨h1, h2, h3, h5⟩, h6⟩
    · rintro ⟨x, ⟨h1, h2, h3, h5⟩, h6⟩
      exact ⟨h1, h2, h3, ih.2 ⟨x, h5, h6⟩⟩
theorem Bk.det {f : Nat → Int} {n : Nat} {p : Pt} : ∀ (a : List Nat) {v x y : Nat}, Bk f n p v a x → Bk f n p v a y → x = y
  | [], v, x, y, h, h' => by
    have h : v = x := h
    have h' : v = y := h'
    rw [← h, ← h']
  | _ :: a, _, _, _, h, h' => Bk.det a h.2.2.2 h'.2.2.2
theorem Bk.wk {f : Nat → Int} {n : Nat} {p : Pt} : ∀ (es : List Nat) {v u : Nat}, Bk f n p v es u → isWk f n u v es.reverse
  | [], v, u, h => by
    have h : v = u := h
    subst h
    rfl
  | i :: es, v, u, h => by
    obtain ⟨h1, h2, h3, h4⟩ := h
    subst h3
    rw [List.reverse_cons]
    exact isWk_snoc (Bk.wk es h4) h2 rfl
/-- A split of a way back. -/
theorem Bk.split {f : Nat → Int} {n : Nat} {p : Pt} {v u : Nat} {es : List Nat} (h : Bk f n p v es u) (j : Nat) : ∃ x, Bk f n p v (es.take j) x ∧ Bk f n p x (es.drop j) u := by
  rw [← List.take_append_drop j es] at h
  exact (Bk.append _ _ _ _).1 h

/-- Each known event has its last bound, or begins a chain. -/
def Pt.Lnk (p : Pt) (f : Nat → Int) (n : Nat) (root : Nat → Prop) : Prop :=
  ∀ v, p.kn v = true → (p.la v = -1 ∧ root v ∧ p.mo v = 0) ∨ ∃ i, i < n ∧ p.la v = (i : Int) ∧ bT f i = v ∧ p.kn (bF f i) = true ∧ p.mo (bF f i) + bM f i ≤ p.mo v
theorem Pt.up_la (f : Nat → Int) (p : Pt) (i : Nat) : (p.up f i).la (bT f i) = (i : Int) := by
  unfold Pt.up turn
  simp
theorem Pt.up_la_ne (f : Nat → Int) (p : Pt) (i : Nat) {v : Nat} (h : v ≠ bT f i) : (p.up f i).la v = p.la v := by
  unfold Pt.up turn
  simp [h]
theorem Pt.Lnk.up {p : Pt} {f : Nat → Int} {n : Nat} {root : Nat → Prop} (h : p.Lnk f n root) {k : Nat} (hk : k < n) (hs : p.sh f k = true) : (p.up f k).Lnk f n root := by
  intro v hv
  have hT := Pt.up_T f p k
  have hy := Pt.sh_yes hs
  by_cases e : v = bT f k
  · subst e
    refine .inr ⟨k, hk, Pt.up_la f p k, rfl, (Pt.Abv.up hs _ hy.1).1, ?_⟩
    by_cases e2 : bF f k = bT f k
    · rw [e2, hT.2]
      rw [e2] at hy
      have := hy.2 hy.1
      rw [e2]
      omega
    · have := Pt.up_ne f p k e2
      rw [hT.2, this.2]
      omega
  · have h1 := Pt.up_ne f p k e
    rw [h1.1] at hv
    rw [Pt.up_la_ne f p k e, h1.2]
    rcases h v hv with h2 | ⟨i, h2, h3, h4, h5, h6⟩
    · exact .inl h2
    · have h7 := Pt.Abv.up hs _ h5
      exact .inr ⟨i, h2, h3, h4, h7.1, by omega⟩
theorem Bk.mo {p : Pt} {f : Nat → Int} {n : Nat} {root : Nat → Prop} (h : p.Lnk f n root) : ∀ (es : List Nat) {v u : Nat}, p.kn v = true → Bk f n p v es u → p.kn u = true ∧ p.mo u + wt f es ≤ p.mo v
  | [], v, u, hv, hb => by
    have hb : v = u := hb
    subst hb
    exact ⟨hv, by simp [wt]⟩
  | i :: es, v, u, hv, hb => by
    obtain ⟨h1, h2, h3, h4⟩ := hb
    rcases h v hv with ⟨h5, _⟩ | ⟨j, h5, h6, h7, h8, h9⟩
    · rw [h1] at h5; omega
    · obtain rfl : i = j := by rw [h1] at h6; omega
      obtain ⟨a, b⟩ := Bk.mo h es h8 h4
      refine ⟨a, ?_⟩
      simp only [wt]
      omega
/-- All ways back that go round allow less than 0. -/
def Pt.Cyc (p : Pt) (f : Nat → Int) (n : Nat) : Prop := ∀ v es, es ≠ [] → p.kn v = true → Bk f n p v es v → wt f es < 0
theorem Bk.old {p : Pt} {f : Nat → Int} {n k : Nat} : ∀ (es : List Nat) {v u : Nat}, k ∉ es → Bk f n (p.up f k) v es u → Bk f n p v es u
  | [], _, _, _, h => h
  | i :: es, v, u, hk, h => by
    obtain ⟨h1, h2, h3, h4⟩ := h
    have hne : i ≠ k := fun e => hk (by rw [e]; exact List.mem_cons_self)
    refine ⟨?_, h2, h3, Bk.old es (fun hm => hk (List.mem_cons_of_mem _ hm)) h4⟩
    by_cases e : v = bT f k
    · subst e
      rw [Pt.up_la] at h1
      exact absurd (by omega) hne
    · rwa [Pt.up_la_ne f p k e] at h1
theorem split_first {k : Nat} : ∀ (es : List Nat), k ∈ es → ∃ a b, es = a ++ k :: b ∧ k ∉ a
  | [], h => by cases h
  | i :: es, h => by
    by_cases e : i = k
    · subst e; exact ⟨[], es, rfl, by simp⟩
    · obtain ⟨a, b, h1, h2⟩ := split_first es (by
        rcases List.mem_cons.1 h with h | h
        · exact absurd h.symm e
        · exact h)
      refine ⟨i :: a, b, by rw [h1]; rfl, ?_⟩
      intro hm
      rcases List.mem_cons.1 hm with hm | hm
      · exact e hm.symm
      · exact h2 hm
theorem Pt.Cyc.up {p : Pt} {f : Nat → Int} {n : Nat} {root : Nat → Prop} (hl : p.Lnk f n root) (h : p.Cyc f n) {k : Nat} (hk : k < n) (hs : p.sh f k = true) : (p.up f k).Cyc f n := by
  have hlu := hl.up hk hs
  have key : ∀ (m : Nat) (es : List Nat) (v : Nat), es.length ≤ m → es ≠ [] → (p.up f k).kn v = true → Bk f n (p.up f k) v es v → wt f es < 0 := by
    intro m
    induction m with
    | zero => intro es v hm hne _ _; exact absurd (List.eq_nil_of_length_eq_zero (by omega)) hne
    | succ m ih =>
      intro es v hm hne hv hb
      by_cases hin : k ∈ es
      · obtain ⟨a, b, rfl, ha⟩ := split_first es hin
        obtain ⟨x, h1, h2⟩ := (Bk.append _ _ _ _).1 hb
        obtain ⟨h3, h4, h5, h6⟩ := h2
        subst h5
        have hx := (Bk.mo hlu a hv h1).1
        have hkF : (p.up f k).kn (bF f k) = true := (Pt.Abv.up hs _ (Pt.sh_yes hs).1).1
        rw [wt_append]
        simp only [wt]
        by_cases hb2 : k ∈ b
        · obtain ⟨b1, b2, rfl, hb1⟩ := split_first b hb2
          obtain ⟨y, h7, h8⟩ := (Bk.append _ _ _ _).1 h6
          have e := h8.2.2.1
          subst e
          simp only [List.length_append, List.length_cons] at hm
          have c1 := ih (k :: b1) (bT f k) (by simp only [List.length_cons]; omega) (by simp) hx ⟨h3, h4, rfl, h7⟩
          have c2 := ih (a ++ k :: b2) v (by simp only [List.length_append, List.length_cons]; omega) (by simp) hv ((Bk.append _ _ _ _).2 ⟨_, h1, h8⟩)
          simp only [wt, wt_append] at c1 c2 ⊢
          omega
        · have h9 : Bk f n p (bF f k) (b ++ a) (bT f k) := (Bk.append _ _ _ _).2 ⟨v, Bk.old b hb2 h6, Bk.old a ha h1⟩
          have hy := Pt.sh_yes hs
          obtain ⟨g1, g2⟩ := Bk.mo hl _ hy.1 h9
          have := hy.2 g1
          rw [wt_append] at g2
          omega
      · have hb2 := Bk.old es hin hb
        cases es with
        | nil => exact absurd rfl hne
        | cons i es =>
          refine h v _ hne ?_ hb2
          by_cases e : v = bT f k
          · subst e
            have : (p.up f k).la (bT f k) = (i : Int) := hb.1
            rw [Pt.up_la] at this
            exact absurd (by rw [show i = k by omega]; exact List.mem_cons_self) hin
          · rwa [(Pt.up_ne f p k e).1] at hv
  exact fun v es hne hv hb => key es.length es v (Nat.le_refl _) hne hv hb
theorem ys_lnk {f : Nat → Int} {n : Nat} {root : Nat → Prop} {p : Pt} (h : p.Lnk f n root) (hc : p.Cyc f n) : ∀ k, k ≤ n → (p.ups f (ysOf f p k)).Lnk f n root ∧ (p.ups f (ysOf f p k)).Cyc f n
  | 0, _ => ⟨h, hc⟩
  | k + 1, hk => by
    have ih := ys_lnk h hc k (by omega)
    simp only [ysOf]
    by_cases hs : (p.ups f (ysOf f p k)).sh f k = true
    · rw [if_pos hs, Pt.ups_snoc]
      exact ⟨ih.1.up (by omega) hs, Pt.Cyc.up ih.1 ih.2 (by omega) hs⟩
    · rw [if_neg hs]; exact ih
theorem rel_lnk {f : Nat → Int} {n : Nat} {root : Nat → Prop} : ∀ (r : Nat) (p : Pt) (s : Int), p.Lnk f n root → p.Cyc f n → (relS f n r p s).1.Lnk f n root ∧ (relS f n r p s).1.Cyc f n
  | 0, p, s, h, hc => ⟨h, hc⟩
  | r + 1, p, s, h, hc => by
    obtain ⟨h1, h2⟩ := ys_lnk h hc n (Nat.le_refl _)
    simp only [relS]
    split
    · exact ⟨h1, h2⟩
    · exact rel_lnk r _ _ h1 h2
theorem Bk.none {p : Pt} {f : Nat → Int} {n v u i : Nat} {es : List Nat} (hl : p.la v = -1) (h : Bk f n p v (i :: es) u) : False := by
  have := h.1
  rw [hl] at this
  omega
theorem start_lnk (f : Nat → Int) (n : Nat) : Pt.start.Lnk f n (fun v => v = 0) ∧ Pt.start.Cyc f n := by
  have h0 : ∀ v, Pt.start.kn v = true → v = 0 := fun v hv => by
    by_cases e : v = 0
    · exact e
    · rw [show Pt.start.kn v = false by unfold Pt.start turn; simp [e]] at hv; cases hv
  refine ⟨fun v hv => ?_, fun v es hne hv hb => ?_⟩
  · obtain rfl := h0 v hv
    exact .inl ⟨by simp [Pt.start, turn], rfl, rfl⟩
  · obtain rfl := h0 v hv
    cases es with
    | nil => exact absurd rfl hne
    | cons i es => exact (Bk.none (by simp [Pt.start, turn]) hb).elim
theorem all_lnk (f : Nat → Int) (n E : Nat) : (Pt.all E).Lnk f n (fun v => v < E) ∧ (Pt.all E).Cyc f n := by
  have h0 : ∀ v, (Pt.all E).kn v = true → v < E ∧ (Pt.all E).la v = -1 := fun v hv => by
    have hv : v < E := by simpa [Pt.all] using hv
    exact ⟨hv, by simp [Pt.all, hv]⟩
  refine ⟨fun v hv => .inl ⟨(h0 v hv).2, (h0 v hv).1, rfl⟩, fun v es hne hv hb => ?_⟩
  cases es with
  | nil => exact absurd rfl hne
  | cons i es => exact (Bk.none (h0 v hv).2 hb).elim
end Go.Proofs.YtmdniebedflpbaaDoor
-- PyB: MATHEMATICS: where nothing clashes, the way back from a known event is a chain that proves its limit.
namespace Go.Proofs.YtmdniebedflpbaaDoor

theorem Bk.lt {E n : Nat} {f : Nat → Int} {p : Pt} (hf : BOk E n f) : ∀ (es : List Nat) {v u : Nat}, v < E → Bk f n p v es u → u < E
  | [], _, _, hv, h => by
    have h := show _ = _ from h
    omega
  | _ :: es, _, _, _, h => Bk.lt hf es (bF_eq hf h.2.1).2 h.2.2.2
/-- A long way back goes round. -/
theorem Bk.long {E n : Nat} {f : Nat → Int} {p : Pt} (hf : BOk E n f) {es : List Nat} {v u : Nat} (hv : v < E) (hb : Bk f n p v es u) (_hl : E ≤ es.length) :
    ∃ i j x, i < j ∧ j ≤ E ∧ Bk f n p v (es.take i) x ∧ Bk f n p x ((es.take j).drop i) x ∧ Bk f n p x (es.drop j) u := by
  have hsp : ∀ j, ∃ x, Bk f n p v (es.take j) x ∧ Bk f n p x (es.drop j) u := fun j => hb.split j
  obtain ⟨g, hg⟩ := Classical.axiomOfChoice hsp
  obtain ⟨i, j, hij, hjE, e⟩ := pigeon E g (fun i _ => Bk.lt hf _ hv (hg i).1)
  have gi := hg i
  have gj := hg j
  have hm : Bk f n p (g i) ((es.take j).drop i) (g j) := by
    obtain ⟨x, h1, h2⟩ := gj.1.split i
    rw [List.take_take, Nat.min_eq_left (by omega)] at h1
    rw [Bk.det _ gi.1 h1]
    exact h2
  rw [← e] at gj hm
  exact ⟨i, j, g i, hij, hjE, gi.1, hm, gj.2⟩
/-- Where no round allows less than 0, no way back goes round. -/
theorem Bk.noRound {E n : Nat} {f : Nat → Int} {p : Pt} (hn : NoNeg E n f) (hc : p.Cyc f n) {v : Nat} {es : List Nat} (hv : v < E) (hk : p.kn v = true) (hne : es ≠ []) : ¬Bk f n p v es v := fun h => by
  have h1 := hc v es hne hk h
  have h2 := hn v es.reverse hv h.wk
  rw [wt_reverse] at h2
  omega
theorem Bk.short {E n : Nat} {f : Nat → Int} {p : Pt} {root : Nat → Prop} (hf : BOk E n f) (hn : NoNeg E n f) (hl : p.Lnk f n root) (hc : p.Cyc f n) {es : List Nat} {v u : Nat} (hv : v < E) (hk : p.kn v = true) (hb : Bk f n p v es u) : es.length < E := by
  refine Decidable.byContradiction fun hlen => ?_
  obtain ⟨i, j, x, hij, hj, h1, h2, _⟩ := hb.long hf hv (by omega)
  have hx := Bk.lt hf _ hv h1
  have hkx := (Bk.mo hl _ hk h1).1
  refine Bk.noRound hn hc hx hkx ?_ h2
  intro e
  have := congrArg List.length e
  simp at this
  omega
/-- From each known event a way back leads to one that begins a chain. -/
theorem trace_ex {E n : Nat} {f : Nat → Int} {p : Pt} {root : Nat → Prop} (hf : BOk E n f) (hn : NoNeg E n f) (hl : p.Lnk f n root) (hc : p.Cyc f n) {v : Nat} (hv : v < E) (hk : p.kn v = true) :
    ∃ es u, Bk f n p v es u ∧ p.kn u = true ∧ p.la u = -1 ∧ root u ∧ p.mo u = 0 := by
  have key : ∀ m, (∃ es u, Bk f n p v es u ∧ p.kn u = true ∧ p.la u = -1 ∧ root u ∧ p.mo u = 0) ∨ ∃ es u, Bk f n p v es u ∧ p.kn u = true ∧ es.length = m := by
    intro m
    induction m with
    | zero => exact .inr ⟨[], v, rfl, hk, rfl⟩
    | succ m ih =>
      rcases ih with h | ⟨es, u, h1, h2, h3⟩
      · exact .inl h
      · rcases hl u h2 with ⟨h4, h5, h6⟩ | ⟨i, h4, h5, h6, h7, _⟩
        · exact .inl ⟨es, u, h1, h2, h4, h5, h6⟩
        · exact .inr ⟨es ++ [i], bF f i, (Bk.append _ _ _ _).2 ⟨u, h1, h5, h4, h6, rfl⟩, h7, by simp [h3]⟩
  rcases key E with h | ⟨es, u, h1, _, h3⟩
  · exact h
  · have := Bk.short hf hn hl hc hv hk h1
    omega
/-- A list without equal images, or with two. -/
theorem nodup_or (g : Nat → Nat) : ∀ (es : List Nat), (es.map g).Nodup ∨ ∃ c i a j b, es = c ++ i :: (a ++ j :: b) ∧ g i = g j
  | [] => .inl (by simp)
  | i :: es => by
    rcases nodup_or g es with h | ⟨c, i', a, j, b, e, he⟩
    · by_cases hm : g i ∈ es.map g
      · obtain ⟨j, hj, he⟩ := List.mem_map.1 hm
        obtain ⟨a, b, e⟩ := List.append_of_mem hj
        exact .inr ⟨[], i, a, j, b, by rw [e]; rfl, he.symm⟩
      · exact .inl (by rw [List.map_cons]; exact List.nodup_cons.2 ⟨hm, h⟩)
    · exact .inr ⟨i :: c, i', a, j, b, by rw [e]; rfl, he⟩
theorem Bk.nodup {E n : Nat} {f : Nat → Int} {p : Pt} {root : Nat → Prop} (hf : BOk E n f) (hn : NoNeg E n f) (hl : p.Lnk f n root) (hc : p.Cyc f n) {es : List Nat} {v u : Nat} (hv : v < E) (hk : p.kn v = true) (hb : Bk f n p v es u) : (es.map (bF f)).Nodup := by
  rcases nodup_or (bF f) es with h | ⟨c, i, a, j, b, rfl, he⟩
  · exact h
  · exfalso
    obtain ⟨x, h1, h2⟩ := (Bk.append _ _ _ _).1 hb
    have hx := Bk.lt hf _ hv h1
    have hkx := (Bk.mo hl _ hk h1).1
    have h3 : Bk f n p x [i] (bF f i) := ⟨h2.1, h2.2.1, h2.2.2.1, rfl⟩
    obtain ⟨y, h4, h5⟩ := (Bk.append _ _ _ _).1 h2.2.2.2
    have h6 : Bk f n p (bF f i) (a ++ [j]) (bF f i) := (Bk.append _ _ _ _).2 ⟨y, h4, h5.1, h5.2.1, h5.2.2.1, he.symm⟩
    exact Bk.noRound hn hc (bF_eq hf h2.2.1).2 (Bk.mo hl _ hkx h3).1 (by simp) h6

theorem Bk.nodupT {E n : Nat} {f : Nat → Int} {p : Pt} {root : Nat → Prop} (hf : BOk E n f) (hn : NoNeg E n f) (hl : p.Lnk f n root) (hc : p.Cyc f n) {es : List Nat} {v u : Nat} (hv : v < E) (hk : p.kn v = true) (hb : Bk f n p v es u) : (es.map (bT f)).Nodup := by
  rcases nodup_or (bT f) es with h | ⟨c, i, a, j, b, rfl, he⟩
  · exact h
  · exfalso
    obtain ⟨x, h1, h2⟩ := (Bk.append _ _ _ _).1 hb
    have hx := Bk.lt hf _ hv h1
    have hkx := (Bk.mo hl _ hk h1).1
    obtain ⟨y, h4, h5⟩ := (Bk.append _ _ _ _).1 h2.2.2.2
    have e1 : bT f i = x := h2.2.2.1
    have e2 : bT f j = y := h5.2.2.1
    obtain rfl : y = x := by omega
    exact Bk.noRound hn hc hx hkx (es := i :: a) (by simp) ⟨h2.1, h2.2.1, h2.2.2.1, h4⟩

/-- What a way back must be so that the program takes just it: it meets its end nowhere earlier. -/
def Ends (f : Nat → Int) (n : Nat) (p : Pt) (v : Nat) (es : List Nat) (u : Nat) : Prop := Bk f n p v es u ∧ es ≠ [] ∧ ∀ j, 0 < j → j < es.length → ¬Bk f n p v (es.take j) u
/-- The way back from an event that is known ahead of its limit. -/
theorem ptU_back {E n : Nat} {f : Nat → Int} (hf : BOk E n f) (hn : NoNeg E n f) {v : Nat} (hv : v < E) (hk : (ptU f n E).kn v = true) :
    ∃ es, Bk f n (ptU f n E) v es 0 ∧ es.length < E ∧ wt f es = (ptU f n E).mo v ∧ (es.map (bF f)).Nodup ∧ (v ≠ 0 → Ends f n (ptU f n E) v es 0) ∧ (ptU f n E).mo 0 = 0 ∧ (ptU f n E).kn 0 = true ∧ (es.map (bT f)).Nodup := by
  have h1 := hf.1
  obtain ⟨hl, hc⟩ := rel_lnk (f := f) (n := n) E Pt.start (-1) (start_lnk f n).1 (start_lnk f n).2
  obtain ⟨es, u, hb, hku, hlu, hr, hmu⟩ := trace_ex hf hn hl hc hv hk
  have hr : u = 0 := hr
  subst hr
  have hlt := Bk.short hf hn hl hc hv hk hb
  have hle := (Bk.mo hl es hk hb).2
  have hm := (ptU_min hf hn v).1 hk
  have hw := hm.2 _ hb.wk
  rw [wt_reverse] at hw
  refine ⟨es, hb, hlt, ?_, Bk.nodup hf hn hl hc hv hk hb, fun hne => ⟨hb, ?_, ?_⟩, hmu, hku, Bk.nodupT hf hn hl hc hv hk hb⟩
  · have e1 : (ptU f n E).mo v = (relS f n E Pt.start (-1)).1.mo v := rfl
    omega
  · intro e
    subst e
    have hb : v = 0 := hb
    exact hne hb
  · intro j h0 hj hbj
    obtain ⟨x, h2, h3⟩ := hb.split j
    obtain rfl := Bk.det _ hbj h2
    cases hd : es.drop j with
    | nil =>
      have := congrArg List.length hd
      simp at this
      omega
    | cons i b =>
      rw [hd] at h3
      exact Bk.none hlu h3
end Go.Proofs.YtmdniebedflpbaaDoor
-- PyC: MATHEMATICS: where bounds clash, the way back ends in a round that allows less than 0.
namespace Go.Proofs.YtmdniebedflpbaaDoor

/-- The round in which the path of each event was last shortened; its last bound comes from one that was shortened a round earlier, or later. -/
def Pt.Lev (p : Pt) (f : Nat → Int) (n : Nat) (L : Nat → Nat) : Prop := ∀ v, 0 < L v → p.kn v = true ∧ ∃ i, i < n ∧ p.la v = (i : Int) ∧ bT f i = v ∧ L v ≤ L (bF f i) + 1
/-- Bounds from events that round r has not shortened are kept. -/
def Pt.Qt (p : Pt) (f : Nat → Int) (n : Nat) (L : Nat → Nat) (r : Nat) : Prop := ∀ k, k < n → p.kn (bF f k) = true → L (bF f k) < r → p.kn (bT f k) = true ∧ p.mo (bT f k) ≤ p.mo (bF f k) + bM f k
/-- The levels in a round. -/
def lvl (f : Nat → Int) (L : Nat → Nat) (r : Nat) (ys : List Nat) (v : Nat) : Nat := if v ∈ ys.map (bT f) then r else L v
theorem lvl_in {f : Nat → Int} {L : Nat → Nat} {r : Nat} {ys : List Nat} {v : Nat} (h : v ∈ ys.map (bT f)) : lvl f L r ys v = r := by unfold lvl; rw [if_pos h]
theorem lvl_out {f : Nat → Int} {L : Nat → Nat} {r : Nat} {ys : List Nat} {v : Nat} (h : v ∉ ys.map (bT f)) : lvl f L r ys v = L v := by unfold lvl; rw [if_neg h]
theorem ups_out {f : Nat → Int} : ∀ (ys : List Nat) (p : Pt) {v : Nat}, v ∉ ys.map (bT f) → (p.ups f ys).kn v = p.kn v ∧ (p.ups f ys).mo v = p.mo v
  | [], _, _, _ => ⟨rfl, rfl⟩
  | i :: ys, p, v, h => by
    rw [List.map_cons, List.mem_cons, not_or] at h
    have h1 := ups_out ys (p.up f i) h.2
    have h2 := Pt.up_ne f p i h.1
    have e : p.ups f (i :: ys) = (p.up f i).ups f ys := rfl
    rw [e, h1.1, h1.2, h2.1, h2.2]
    exact ⟨rfl, rfl⟩
theorem ys_lev {f : Nat → Int} {n : Nat} {p : Pt} {L : Nat → Nat} {r : Nat} (hL : p.Lev f n L) (hQ : p.Qt f n L r) (hr : ∀ v, L v ≤ r) : ∀ k, k ≤ n → (p.ups f (ysOf f p k)).Lev f n (lvl f L (r + 1) (ysOf f p k))
  | 0, _ => by
    have e : lvl f L (r + 1) (ysOf f p 0) = L := by funext v; exact lvl_out (by simp [ysOf])
    rw [e]
    exact hL
  | k + 1, hk => by
    have ih := ys_lev hL hQ hr k (by omega)
    have hab := ys_abv f p k
    simp only [ysOf]
    by_cases hs : (p.ups f (ysOf f p k)).sh f k = true
    · rw [if_pos hs, Pt.ups_snoc]
      generalize hys : ysOf f p k = ys at ih hab hs
      generalize hq : p.ups f ys = q at ih hab hs
      have hy := Pt.sh_yes hs
      have hle : ∀ v, lvl f L (r + 1) ys v ≤ lvl f L (r + 1) (ys ++ [k]) v ∧ lvl f L (r + 1) (ys ++ [k]) v ≤ r + 1 := fun v => by
        have h1 := hr v
        unfold lvl
        by_cases h2 : v ∈ ys.map (bT f)
        · rw [if_pos h2, if_pos (by rw [List.map_append, List.mem_append]; exact .inl h2)]
          exact ⟨Nat.le_refl _, Nat.le_refl _⟩
        · rw [if_neg h2]
          split <;> omega
      have hu : r ≤ lvl f L (r + 1) ys (bF f k) := by
        by_cases h2 : bF f k ∈ ys.map (bT f)
        · rw [lvl_in h2]; omega
        · rw [lvl_out h2]
          refine Decidable.byContradiction fun h3 => ?_
          obtain ⟨h4, h5⟩ := ups_out ys p h2
          rw [hq] at h4 h5
          have h6 := hQ k (by omega) (by rw [← h4]; exact hy.1) (by omega)
          obtain ⟨h7, h8⟩ := hab _ h6.1
          have := hy.2 h7
          omega
      intro v hv
      by_cases e : v = bT f k
      · subst e
        refine ⟨(Pt.up_T f q k).1, k, by omega, Pt.up_la f q k, rfl, ?_⟩
        have h1 := (hle (bT f k)).2
        have h2 := (hle (bF f k)).1
        omega
      · have h0 : lvl f L (r + 1) (ys ++ [k]) v = lvl f L (r + 1) ys v := by
          have hm : v ∈ (ys ++ [k]).map (bT f) ↔ v ∈ ys.map (bT f) := by
            rw [List.map_append, List.mem_append, List.map_singleton, List.mem_singleton]
            exact ⟨fun h => h.elim id (fun h => absurd h e), .inl⟩
          by_cases h2 : v ∈ ys.map (bT f)
          · rw [lvl_in h2, lvl_in (hm.2 h2)]
          · rw [lvl_out h2, lvl_out (fun h => h2 (hm.1 h))]
        rw [h0] at hv ⊢
        obtain ⟨h1, i, h2, h3, h4, h5⟩ := ih v hv
        have h6 := Pt.up_ne f q k e
        refine ⟨by rw [h6.1]; exact h1, i, h2, by rw [Pt.up_la_ne f q k e]; exact h3, h4, ?_⟩
        have h7 := (hle (bF f i)).1
        omega
    · rw [if_neg hs]; exact ih
theorem ys_qt {f : Nat → Int} {n : Nat} {p : Pt} {L : Nat → Nat} {r : Nat} : (p.ups f (ysOf f p n)).Qt f n (lvl f L (r + 1) (ysOf f p n)) (r + 1) := by
  intro k hk hkn hlt
  have h2 : bF f k ∉ (ysOf f p n).map (bT f) := fun h => by rw [lvl_in h] at hlt; omega
  obtain ⟨h4, h5⟩ := ups_out (ysOf f p n) p h2
  rw [h4] at hkn
  rw [h5]
  exact ys_kept f p n k hk hkn
/-- Where the last round has shortened a path, the levels go down to the first. -/
theorem rel_lev {f : Nat → Int} {n : Nat} : ∀ (j : Nat) (p : Pt) (s : Int) (L : Nat → Nat) (r : Nat), 1 ≤ j → p.Lev f n L → p.Qt f n L r → (∀ v, L v ≤ r) → 0 ≤ (relS f n j p s).2 →
    ∃ L' i, (relS f n j p s).1.Lev f n L' ∧ i < n ∧ (relS f n j p s).2 = (bT f i : Int) ∧ L' (bT f i) = r + j
  | j + 1, p, s, L, r, _, hL, hQ, hr, h => by
    simp only [relS] at h ⊢
    by_cases hl : lastTo f (ysOf f p n) < 0
    · rw [if_pos hl] at h
      exact absurd h (by show ¬0 ≤ lastTo f (ysOf f p n); omega)
    · rw [if_neg hl] at h ⊢
      have h1 := ys_lev hL hQ hr n (Nat.le_refl _)
      have h2 := ys_qt (f := f) (n := n) (p := p) (L := L) (r := r)
      have h3 : ∀ v, lvl f L (r + 1) (ysOf f p n) v ≤ r + 1 := fun v => by
        have := hr v
        unfold lvl
        split <;> omega
      cases j with
      | zero =>
        simp only [relS] at h ⊢
        rcases last_cases (ysOf f p n) with e | ⟨a, i, e⟩
        · rw [e] at hl; exact absurd (by rw [lastTo_nil]; decide) hl
        · refine ⟨_, i, h1, ysOf_lt f p n i (by rw [e]; simp), by rw [e, lastTo_snoc], ?_⟩
          refine lvl_in ?_
          rw [e, List.map_append]
          simp
      | succ j =>
        obtain ⟨L', i, g1, g2, g3, g4⟩ := rel_lev (j + 1) _ (lastTo f (ysOf f p n)) _ (r + 1) (by omega) h1 h2 h3 h
        exact ⟨L', i, g1, g2, g3, by rw [g4]; omega⟩
/-- From an event of level m a way back has m bounds. -/
theorem Pt.Lev.way {p : Pt} {f : Nat → Int} {n : Nat} {L : Nat → Nat} (h : p.Lev f n L) : ∀ (m v : Nat), m ≤ L v → ∃ es u, Bk f n p v es u ∧ es.length = m
  | 0, v, _ => ⟨[], v, rfl, rfl⟩
  | m + 1, v, hm => by
    obtain ⟨h1, i, h2, h3, h4, h5⟩ := h v (by omega)
    obtain ⟨es, u, h6, h7⟩ := h.way m (bF f i) (by omega)
    exact ⟨i :: es, u, ⟨h3, h2, h4, h6⟩, by simp [h7]⟩
theorem Bk.rot {p : Pt} {f : Nat → Int} {n : Nat} : ∀ (es : List Nat) {x u : Nat} {c : List Nat}, c ≠ [] → Bk f n p x c x → Bk f n p x es u → ∃ c', c' ≠ [] ∧ Bk f n p u c' u
  | [], x, u, c, hne, hc, hb => by
    have hb : x = u := hb
    subst hb
    exact ⟨c, hne, hc⟩
  | i :: es, x, u, c, hne, hc, hb => by
    cases c with
    | nil => exact absurd rfl hne
    | cons i' c =>
      obtain ⟨a1, a2, a3, a4⟩ := hb
      obtain ⟨b1, b2, b3, b4⟩ := hc
      obtain rfl : i = i' := by rw [a1] at b1; omega
      exact Bk.rot es (c := c ++ [i]) (by simp) ((Bk.append _ _ _ _).2 ⟨x, b4, a1, a2, a3, rfl⟩) a4
/-- The shortest way round. -/
theorem Bk.round {E n : Nat} {f : Nat → Int} {p : Pt} (hf : BOk E n f) {u : Nat} (hu : u < E) : ∀ (m : Nat) (c : List Nat), c.length ≤ m → c ≠ [] → Bk f n p u c u → ∃ es, Ends f n p u es u ∧ es.length ≤ E ∧ (es.map (bF f)).Nodup
  | 0, c, hm, hne, _ => absurd (List.eq_nil_of_length_eq_zero (by omega)) hne
  | m + 1, c, hm, hne, hc => by
    by_cases h1 : ∃ j, 0 < j ∧ j < c.length ∧ Bk f n p u (c.take j) u
    · obtain ⟨j, h2, h3, h4⟩ := h1
      have hlen : (c.take j).length = j := by rw [List.length_take]; omega
      exact Bk.round hf hu m (c.take j) (by omega) (fun e => by rw [e] at hlen; simp at hlen; omega) h4
    · rcases nodup_or (bF f) c with h2 | ⟨a, i, b, j, d, rfl, he⟩
      · by_cases h3 : c.length ≤ E
        · exact ⟨c, ⟨hc, hne, fun j h4 h5 h6 => h1 ⟨j, h4, h5, h6⟩⟩, h3, h2⟩
        · obtain ⟨i, j, x, hij, hj, h4, _, h6⟩ := hc.long hf hu (by omega)
          refine Bk.round hf hu m (c.take i ++ c.drop j) (by simp only [List.length_append, List.length_take, List.length_drop]; omega) (fun e => ?_) ((Bk.append _ _ _ _).2 ⟨x, h4, h6⟩)
          have := congrArg List.length e
          simp only [List.length_append, List.length_take, List.length_drop, List.length_nil] at this
          omega
      · obtain ⟨x, h3, h4⟩ := (Bk.append _ _ _ _).1 hc
        obtain ⟨y, h5, h6⟩ := (Bk.append _ _ _ _).1 h4.2.2.2
        have h7 : Bk f n p u (a ++ i :: d) u := (Bk.append _ _ _ _).2 ⟨x, h3, h4.1, h4.2.1, h4.2.2.1, by rw [he]; exact h6.2.2.2⟩
        refine Bk.round hf hu m (a ++ i :: d) ?_ (by simp) h7
        simp only [List.length_append, List.length_cons] at hm ⊢
        omega
/-- Where bounds clash: the search's way back, as long as there are events, ends in a round that allows less than 0. -/
theorem clash_back {E n : Nat} {f : Nat → Int} (hf : BOk E n f) (h : 0 ≤ clash f n E) :
    ∃ (v : Nat) (es : List Nat) (u : Nat), clash f n E = (v : Int) ∧ v < E ∧ Bk f n (relS f n E (Pt.all E) (-1)).1 v es u ∧ es.length = E ∧ u < E ∧
      ∃ c, Ends f n (relS f n E (Pt.all E) (-1)).1 u c u ∧ c.length ≤ E ∧ (c.map (bF f)).Nodup ∧ wt f c < 0 := by
  have h1 := hf.1
  obtain ⟨L, i, hL, hi, hs, hLE⟩ := rel_lev (f := f) (n := n) E (Pt.all E) (-1) (fun _ => 0) 0 h1.1 (fun v hv => absurd hv (Nat.lt_irrefl 0)) (fun k _ _ hlt => absurd hlt (Nat.lt_irrefl 0)) (fun _ => Nat.le_refl _) h
  obtain ⟨es, u, hb, hlen⟩ := hL.way E (bT f i) (by omega)
  have hv := (bT_eq hf hi).2
  have hu := Bk.lt hf _ hv hb
  obtain ⟨hl, hc⟩ := rel_lnk (f := f) (n := n) E (Pt.all E) (-1) (all_lnk f n E).1 (all_lnk f n E).2
  obtain ⟨i', j', x, hij, hj, h4, h5, h6⟩ := hb.long hf hv (by omega)
  obtain ⟨c', hne, hc'⟩ := Bk.rot _ (c := (es.take j').drop i') (fun e => by
    have := congrArg List.length e
    simp at this
    omega) h5 h6
  obtain ⟨c, g1, g2, g3⟩ := Bk.round hf hu c'.length c' (Nat.le_refl _) hne hc'
  have hkv : (relS f n E (Pt.all E) (-1)).1.kn (bT f i) = true := (hL (bT f i) (by omega)).1
  exact ⟨bT f i, es, u, hs, hv, hb, hlen, hu, c, g1, g2, g3, hc u c g1.2.1 (Bk.mo hl _ hkv hb).1 g1.1⟩
end Go.Proofs.YtmdniebedflpbaaDoor
-- PyD: WALKS: the errors of a chain; CheckChain (the texts PqC and PqD, for a seat without the rows of PqB); what it tells of a chain from one event to another.
namespace Go.Proofs.YtmdniebedflpbaaDoor
open Go.RowKit

/-- The error of a chain's element; of two that follow each other. -/
def ciAt (n : Nat) (g : Nat → Int) (i : Nat) : Int := if 0 ≤ g i ∧ g i < n then 0 else 1
def coAt (f g : Nat → Int) (i : Nat) : Int := if f ((g (i + 1)).toNat * 3) = f ((g i).toNat * 3 + 1) then 0 else 7
/-- The error of a chain. -/
def chErr (E : Int) (n : Nat) (f : Nat → Int) (m : Nat) (g : Nat → Int) : Int :=
  if bchk E n f ≠ 0 then bchk E n f else if m = 0 ∨ 64 < m then 4 else if first (ciAt n g) m ≠ 0 then first (ciAt n g) m else first (coAt f g) (m - 1)
theorem bchk_n {E : Int} {n : Nat} {f : Nat → Int} (h : bchk E n f = 0) : n ≤ 256 ∧ 1 ≤ E ∧ E ≤ 64 := by
  unfold bchk at h
  by_cases h1 : E < 1 ∨ 64 < E ∨ 256 < n
  · rw [if_pos h1] at h; omega
  · omega

/-- What the first k of a chain add up to. -/
def csum (f g : Nat → Int) : Nat → Int
  | 0 => 0
  | k + 1 => csum f g k + f ((g k).toNat * 3 + 2)
/-- What CheckChain tells. -/
def chR (E : Int) (n : Nat) (f : Nat → Int) (m : Nat) (g : Nat → Int) : Int × Int × Int × Int :=
  if chErr E n f m g ≠ 0 then (0, 0, 0, chErr E n f m g) else (f ((g 0).toNat * 3), f ((g (m - 1)).toNat * 3 + 1), csum f g m, 0)
def ch4 (r : Int × Int × Int × Int) : Value := .tuple #[.int .i64 r.1, .int .i64 r.2.1, .int .i64 r.2.2.1, .int .i64 r.2.2.2]
theorem first_none {p : Nat → Int} : ∀ {n : Nat}, first p n = 0 → ∀ i, i < n → p i = 0
  | 0, _, i, hi => by omega
  | n + 1, h, i, hi => by
    simp only [first] at h
    by_cases h0 : first p n = 0
    · rw [if_pos h0] at h
      by_cases e : i = n
      · subst e; exact h
      · exact first_none h0 i (by omega)
    · rw [if_neg h0] at h; exact absurd h h0
theorem bchk_most {E : Int} {n : Nat} {f : Nat → Int} (h : bchk E n f = 0) {i : Nat} (hi : i < n) : (0 ≤ f (i * 3) ∧ f (i * 3) < E) ∧ (0 ≤ f (i * 3 + 1) ∧ f (i * 3 + 1) < E) ∧ -1073741824 ≤ f (i * 3 + 2) ∧ f (i * 3 + 2) ≤ 1073741824 := by
  have h2 : first (bdAt E f) n = 0 := by
    unfold bchk at h
    by_cases h1 : E < 1 ∨ 64 < E ∨ 256 < n
    · rw [if_pos h1] at h; omega
    · rwa [if_neg h1] at h
  have h3 := first_none h2 i hi
  rcases bd_ways _ _ _ E (f (i * 3)) (f (i * 3 + 1)) (f (i * 3 + 2)) rfl rfl rfl with ⟨_, g⟩ | ⟨_, _, g⟩ | ⟨_, _, _, g⟩ | ⟨g1, g2, g3, _⟩
  · unfold bdAt at h3; omega
  · unfold bdAt at h3; omega
  · unfold bdAt at h3; omega
  · simp only [decide_eq_true_iff] at g1 g2 g3
    exact ⟨g1, g2, g3⟩
/-- A chain without an error. -/
structure ChOk (E : Int) (n : Nat) (f : Nat → Int) (m : Nat) (g : Nat → Int) : Prop where
  bd : bchk E n f = 0
  m1 : 1 ≤ m ∧ m ≤ 64
  ix : ∀ i, i < m → 0 ≤ g i ∧ g i < n
  co : ∀ i, i + 1 < m → f ((g (i + 1)).toNat * 3) = f ((g i).toNat * 3 + 1)
theorem chOk_of {E : Int} {n : Nat} {f : Nat → Int} {m : Nat} {g : Nat → Int} (h : chErr E n f m g = 0) : ChOk E n f m g := by
  unfold chErr at h
  by_cases h1 : bchk E n f = 0
  · rw [if_neg (by simpa using h1)] at h
    by_cases h2 : m = 0 ∨ 64 < m
    · rw [if_pos h2] at h; omega
    · rw [if_neg h2] at h
      by_cases h3 : first (ciAt n g) m = 0
      · rw [if_neg (by simpa using h3)] at h
        refine ⟨h1, by omega, fun i hi => ?_, fun i hi => ?_⟩
        · have := first_none h3 i hi
          unfold ciAt at this
          by_cases k : 0 ≤ g i ∧ g i < n
          · exact k
          · rw [if_neg k] at this; omega
        · have := first_none h i (by omega)
          unfold coAt at this
          by_cases k : f ((g (i + 1)).toNat * 3) = f ((g i).toNat * 3 + 1)
          · exact k
          · rw [if_neg k] at this; omega
      · rw [if_pos (by simpa using h3)] at h; exact absurd h h3
  · rw [if_pos (by simpa using h1)] at h; exact absurd h h1
theorem csum_bd {E : Int} {n : Nat} {f : Nat → Int} {m : Nat} {g : Nat → Int} (h : ChOk E n f m g) : ∀ k, k ≤ m → -1073741824 * (k : Int) ≤ csum f g k ∧ csum f g k ≤ 1073741824 * (k : Int)
  | 0, _ => by simp [csum]
  | k + 1, hk => by
    have ih := csum_bd h k (by omega)
    have hi := h.ix k (by omega)
    have hb := bchk_most h.bd (i := (g k).toNat) (by omega)
    simp only [csum]
    omega

/-- The numbers of a list. -/
def lf (es : List Nat) (j : Nat) : Int := ((es[j]?.getD 0 : Nat) : Int)
theorem lf_cons (i : Nat) (es : List Nat) (j : Nat) : lf (i :: es) (j + 1) = lf es j := rfl
theorem lf_zero (i : Nat) (es : List Nat) : lf (i :: es) 0 = (i : Int) := rfl
theorem isWk_ix {f : Nat → Int} {n : Nat} : ∀ (l : List Nat) {u v : Nat}, isWk f n u v l → ∀ j, j < l.length → 0 ≤ lf l j ∧ lf l j < n
  | [], _, _, _, j, hj => absurd hj (by simp)
  | i :: l, u, v, h, 0, _ => by rw [lf_zero]; have := h.1; omega
  | i :: l, u, v, h, j + 1, hj => by rw [lf_cons]; exact isWk_ix l h.2.2 j (by simpa using hj)
theorem isWk_co {f : Nat → Int} {n : Nat} {E : Nat} (hf : BOk E n f) : ∀ (l : List Nat) {u v : Nat}, isWk f n u v l → ∀ j, j + 1 < l.length → f ((lf l (j + 1)).toNat * 3) = f ((lf l j).toNat * 3 + 1)
  | [], _, _, _, j, hj => absurd hj (by simp)
  | [i], _, _, _, j, hj => absurd hj (by simp)
  | i :: k :: l, u, v, h, 0, _ => by
    rw [lf_cons, lf_zero, lf_zero, Int.toNat_natCast, Int.toNat_natCast, (bF_eq hf h.2.2.1).1, (bT_eq hf h.1).1, h.2.2.2.1]
  | i :: k :: l, u, v, h, j + 1, hj => by
    rw [lf_cons, lf_cons]
    exact isWk_co hf (k :: l) h.2.2 j (by simpa using hj)
theorem csum_wk (f : Nat → Int) : ∀ (l : List Nat) (g : Nat → Int) (k : Nat), (∀ j, j < l.length → g (k + j) = lf l j) → csum f g (k + l.length) = csum f g k + wt f l
  | [], g, k, _ => by simp [wt]
  | i :: l, g, k, h => by
    have h0 := h 0 (by simp)
    rw [lf_zero, Nat.add_zero] at h0
    have ih := csum_wk f l g (k + 1) (fun j hj => by
      have := h (j + 1) (by simpa using hj)
      rw [lf_cons] at this
      rw [← this]
      congr 1
      omega)
    rw [List.length_cons, show k + (l.length + 1) = k + 1 + l.length by omega, ih]
    show csum f g k + f ((g k).toNat * 3 + 2) + wt f l = _
    rw [h0, Int.toNat_natCast]
    simp only [wt, bM]
    omega
theorem lf_last {f : Nat → Int} {n : Nat} {E : Nat} (hf : BOk E n f) : ∀ (l : List Nat) {u v : Nat}, l ≠ [] → isWk f n u v l → f ((lf l (l.length - 1)).toNat * 3 + 1) = (v : Int)
  | [], _, _, h, _ => absurd rfl h
  | [i], u, v, _, h => by
    have h3 : bT f i = v := h.2.2
    show f ((lf [i] 0).toNat * 3 + 1) = _
    rw [lf_zero, Int.toNat_natCast, (bT_eq hf h.1).1, h3]
  | i :: k :: l, u, v, _, h => by
    have := lf_last hf (k :: l) (by simp) h.2.2
    rw [← this]
    rfl
/-- What CheckChain tells of a chain from u to v. -/
theorem chR_wk {E n : Nat} {f : Nat → Int} (hf : BOk E n f) {u v : Nat} {l : List Nat} (hne : l ≠ []) (hl : l.length ≤ 64) (h : isWk f n u v l) : chR (E : Int) n f l.length (lf l) = ((u : Int), (v : Int), wt f l, 0) := by
  have hpos : 1 ≤ l.length := by
    cases l with
    | nil => exact absurd rfl hne
    | cons i l => simp
  have h0 : bchk (E : Int) n f = 0 := bchk_of hf
  have h1 : first (ciAt n (lf l)) l.length = 0 := first_zero fun j hj => by
    unfold ciAt
    rw [if_pos (isWk_ix l h j hj)]
  have h2 : first (coAt f (lf l)) (l.length - 1) = 0 := first_zero fun j hj => by
    unfold coAt
    rw [if_pos (isWk_co hf l h j (by omega))]
  have h3 : chErr (E : Int) n f l.length (lf l) = 0 := by
    unfold chErr
    rw [h0, if_neg (by simp), if_neg (by omega), h1, if_neg (by simp)]
    exact h2
  unfold chR
  rw [h3, if_neg (by simp), lf_last hf l hne h]
  have h4 := csum_wk f l (lf l) 0 (fun j _ => by rw [Nat.zero_add])
  rw [Nat.zero_add] at h4
  rw [h4]
  have h5 : f ((lf l 0).toNat * 3) = (u : Int) := by
    cases l with
    | nil => exact absurd rfl hne
    | cons i l => rw [lf_zero, Int.toNat_natCast, (bF_eq hf h.1).1, h.2.1]
  rw [h5]
  simp [csum]
end Go.Proofs.YtmdniebedflpbaaDoor
-- PyE: WALKS: the way back, as the program takes it; ints turned about.
namespace Go.Proofs.YtmdniebedflpbaaDoor
open Go.RowKit

/-- Numbers, as cells. -/
def lrow (es : List Nat) : List Value := es.map fun (i : Nat) => .int .i64 (i : Int)
theorem lrow_snoc (es : List Nat) (i : Nat) : lrow (es ++ [i]) = lrow es ++ [.int .i64 (i : Int)] := by simp [lrow]
theorem lrow_length (es : List Nat) : (lrow es).length = es.length := by simp [lrow]
theorem lrow_get (es : List Nat) {p : Nat} (h : p < es.length) : (lrow es)[p]? = some (.int .i64 (lf es p)) := by
  simp [lrow, lf, h]
theorem own_form {W : World} {B : Nat} {e : TypeId} {s : Nat} {v : Value} {n : Nat} {xs : List Value} (h : W.ownsRow B e s v n xs) : ∃ x c, v = .slice x n c := by
  rcases h.2 with ⟨rfl, h0⟩ | ⟨g, cap, cur, rfl, _⟩
  · exact ⟨none, 0, by rw [h0]⟩
  · exact ⟨_, _, rfl⟩
theorem own_ln {W : World} {B : Nat} {x : Option Addr} {n c : Nat} {es : List Nat} (h : W.ownsRow B 3 1 (.slice x n c) n (lrow es)) : Sl W 1 x n (lf es) := by
  intro hn
  obtain ⟨m, rfl⟩ : ∃ m, n = m + 1 := ⟨n - 1, by omega⟩
  obtain ⟨g, cap, e⟩ := ownsRow_succ h
  cases e
  have hl : es.length = (m + 1) * 1 := by have := h.1; rw [lrow_length] at this; exact this
  exact ⟨g, 0, rfl, fun i hi => by rw [Nat.zero_add, World.ownsRow.cellAt h i (by omega), lrow_get es (by omega)]⟩
/-- The length of a slice. -/
def sln : Value → Nat
  | .slice _ n _ => n
  | _ => 0
theorem Ends.at {f : Nat → Int} {n : Nat} {p : Pt} {v u : Nat} {es : List Nat} (h : Ends f n p v es u) {j x : Nat} (hj : j < es.length) (hx : Bk f n p v (es.take j) x) :
    ∃ i : Nat, es.take (j + 1) = es.take j ++ [i] ∧ p.la x = (i : Int) ∧ i < n ∧ bT f i = x ∧ Bk f n p v (es.take (j + 1)) (bF f i) ∧ (0 < j → x ≠ u) := by
  obtain ⟨y, h1, h2⟩ := h.1.split j
  obtain rfl := Bk.det _ hx h1
  cases hd : es.drop j with
  | nil =>
    have := congrArg List.length hd
    simp at this
    omega
  | cons i r =>
    rw [hd] at h2
    have e : es.take (j + 1) = es.take j ++ [i] := by
      have h3 : es[j]? = some i := by
        have := congrArg (·[0]?) hd
        simpa using this
      rw [List.take_add_one, h3]
      rfl
    refine ⟨i, e, h2.1, h2.2.1, h2.2.2.1, by rw [e]; exact (Bk.append _ _ _ _).2 ⟨x, hx, h2.1, h2.2.1, h2.2.2.1, rfl⟩, fun h0 hxu => ?_⟩
    subst hxu
    exact h.2.2 j h0 hj hx

set_option maxRecDepth 100000 in
set_option maxHeartbeats 4000000 in
theorem back_of (w : World) (bp : Nat) (p : Pt) (f : Nat → Int) (E n c : Nat) (a : Option Addr) (v u : Nat) (es : List Nat) (hf : BOk E n f) (hv : v < E) (hlen : es.length ≤ 64) (hE : Ends f n p v es u) (hP : PtAt w bp 72 p) (hS : Sl w 3 a n f) :
    Calls Tryd.prog 53 #[.pointer (some ⟨bp, 0, none⟩), .slice a n c, .int .i64 (u : Int), .int .i64 (v : Int)] w fun e W' => ∃ vv, e = .returned vv ∧ W'.ownsRow w.heap.size 3 1 vv es.length (lrow es) ∧ Below w.heap.size w W' := by
  obtain ⟨i0, hi0, hz0, hz1, hz2⟩ := info_parts x_int
  have HF := Lib.hid hf
  have HE := Lib.hid hE
  have HP := Lib.hid hP
  have HS := Lib.hid hS
  have hl := hf.1
  clear hf hE hP hS
  go_enter Tryd.func53, Tryd.ntmps53
  go_wp2_with fail
  go_loopw [9, 10] (fun vc vat wr => ∃ j x : Nat, j ≤ es.length ∧ vat = .int .i64 x ∧ Hid (Bk f n p v (es.take j) x) ∧ Hid (wr.ownsRow w.heap.size 3 1 vc j (lrow (es.take j))) ∧ Hid (Below w.heap.size w wr)) (fun vc _ _ => es.length - sln vc)
  case atStart => exact ⟨0, v, by omega, rfl, rfl, ⟨rfl, .inl ⟨rfl, rfl⟩⟩, Below.refl _ _⟩
  case round =>
    obtain ⟨j, x, hj, rfl, HB, HO, HW⟩ := hrel
    obtain ⟨xa, cap, rfl⟩ := own_form HO.out
    by_cases hlt : j < es.length
    · obtain ⟨i, h1, h2, h3, h4, h5, h6⟩ := HE.out.at hlt HB.out
      have hxE : x < E := Bk.lt HF.out _ hv HB.out
      obtain ⟨b, o, rfl, hI⟩ := HS.out (by omega)
      have hbl := hI.lt (by omega)
      have hpl := HP.out.lt
      have HI := Lib.hid hI
      have c1 := (HP.out.keep HW.out hpl).la (k := x) (by omega)
      rw [h2] at c1
      have H5 := Lib.hid h5
      have H1 := Lib.hid h1
      have H2 := Lib.hid h2
      have hss := HW.out.size
      have hx64 : (x : Int) < 64 := by omega
      have hin : (i : Int) < n := by omega
      have hcs : (j = 0) ∨ (0 < j ∧ ((j : Int) == 0) = false ∧ ((x : Int) != (u : Int)) = true) := by
        rcases Nat.eq_zero_or_pos j with h | h
        · exact .inl h
        · refine .inr ⟨h, by simp; omega, ?_⟩
          have := h6 h
          simp
          omega
      clear hI h5 h1 h2 h4 h6
      rcases hcs with rfl | ⟨hj0, hj1, hj2⟩
      all_goals
        go_wp2_with (at_builtin; refine wpList_append_own _ rfl _ _ 84 rfl w.heap.size 3 i0 (.int .i64 0) 1 8 Tryd.underlying84 hi0 hz0 hz1 hz2 rfl (by decide) _ _ _ rfl (HO.out.alloc _) ⟨wr.heap.size, 0, none⟩ 1 1 [.int .i64 (i : Int)] rfl rfl (cell_one _ _ _) (by simp [Value.oneCell']) (by unfold maxLen; omega) (by omega) (by simp; omega) ?_; intro v' w1 hown' hgrow _; have hB1 : Below w.heap.size w w1 := (HW.out.alloc hss _).grown hgrow (by simp; omega) (fun k hk => (HO.out.lt k hk).1); have HB1 := Lib.hid hB1; have HO1 := Lib.hid hown'; clear hB1 hown' hgrow; have c2 := (HP.out.keep HB1.out hpl).la (k := x) (by omega); rw [H2.out] at c2; have d2 := (HI.out.keep HB1.out hbl) (i * 3) (by omega); rw [(bF_eq HF.out h3).1] at d2)
        obtain ⟨xb, capb, rfl⟩ := own_form HO1.out
        refine ⟨⟨_, bF f i, hlt, rfl, H5.out, ?_, HB1.out⟩, by simp [sln]; omega⟩
        rw [H1.out, lrow_snoc]
        exact HO1.out
    · obtain rfl : j = es.length := by omega
      have hB := HB.out
      rw [List.take_of_length_le (Nat.le_refl _)] at hB
      have hO := HO.out
      rw [List.take_of_length_le (Nat.le_refl _)] at hO
      obtain rfl : x = u := Bk.det _ hB HE.out.1
      have hne : 0 < es.length := List.length_pos_iff.2 HE.out.2.1
      have hj1 : ((es.length : Int) == 0) = false := beq_eq_false_iff_ne.2 (by omega)
      have HO2 := Lib.hid hO
      clear hB hO
      go_wp2_with fail
      exact bodyPost_ret (v := .slice xa es.length cap) (by simp [results, Tryd.f53, go_sem]) rfl ⟨_, rfl, HO2.out, HW.out⟩

/-- A row of n ints, of which i have been exchanged from each end; turned about. -/
def ryG (n i : Nat) (f : Nat → Int) (p : Nat) : Int := if p < n ∧ (p < i ∨ n - i ≤ p) then f (n - 1 - p) else f p
def ryE (n : Nat) (f : Nat → Int) (p : Nat) : Int := if p < n then f (n - 1 - p) else f p
theorem ry_zero (n : Nat) (f : Nat → Int) (p : Nat) : ryG n 0 f p = f p := by unfold ryG; rw [if_neg (by omega)]
theorem ry_done {n i : Nat} (h : n ≤ 2 * i + 1) (f : Nat → Int) (p : Nat) : ryG n i f p = ryE n f p := by
  unfold ryG ryE
  by_cases h1 : p < n
  · rw [if_pos h1]
    by_cases h2 : p < i ∨ n - i ≤ p
    · rw [if_pos ⟨h1, h2⟩]
    · rw [if_neg (by omega)]; congr 1; omega
  · rw [if_neg (by omega), if_neg h1]
theorem ry_at {n i k : Nat} (hk : i + k = n - 1) (hn : 0 < n) (hlt : i < k) (f : Nat → Int) : ryG n i f i = f i ∧ ryG n i f k = f k := by
  unfold ryG
  refine ⟨?_, ?_⟩ <;> rw [if_neg (by omega)]
/-- The first cells are ints, the others whatever. -/
def mxG (n : Nat) (f : Nat → Int) (G : Nat → Value) (p : Nat) : Value := if p < n then .int .i64 (f p) else G p
theorem mx_at {n p : Nat} (f : Nat → Int) (G : Nat → Value) (h : p < n) : mxG n f G p = .int .i64 (f p) := by unfold mxG; rw [if_pos h]
theorem mx_step {n i k : Nat} (hk : i + k = n - 1) (hn : 0 < n) (hlt : i < k) (f : Nat → Int) (G : Nat → Value) (p : Nat) :
    turn (turn (mxG n (ryG n i f) G) i (.int .i64 (f k))) k (.int .i64 (f i)) p = mxG n (ryG n (i + 1) f) G p := by
  unfold turn
  by_cases e1 : p = k
  · rw [if_pos e1, mx_at _ _ (by omega)]; unfold ryG; rw [if_pos (by omega)]; congr 2; omega
  rw [if_neg e1]
  by_cases e0 : p = i
  · rw [if_pos e0, mx_at _ _ (by omega)]; unfold ryG; rw [if_pos (by omega)]; congr 2; omega
  rw [if_neg e0]
  unfold mxG
  by_cases h : p < n
  · rw [if_pos h, if_pos h]
    congr 1
    unfold ryG
    by_cases h : p < n ∧ (p < i ∨ n - i ≤ p)
    · rw [if_pos h, if_pos (by omega)]
    · rw [if_neg h, if_neg (by omega)]
  · rw [if_neg h, if_neg h]
theorem lf_rev (l : List Nat) {p : Nat} (h : p < l.length) : ryE l.length (lf l) p = lf l.reverse p := by
  unfold ryE lf
  rw [if_pos h, List.getElem?_reverse h]
theorem own_mx {w : World} {base b k cap : Nat} {l : List Nat} (h : w.ownsRow base 3 1 (.slice (some ⟨b, 0, none⟩) k cap) k (lrow l)) : k = l.length ∧ base ≤ b ∧ k ≤ cap ∧ cap ≤ maxLen ∧ ∃ G, Blk w b 3 cap (mxG k (lf l) G) := by
  obtain ⟨hl, h⟩ := h
  rw [lrow_length] at hl
  rcases h with ⟨h, _⟩ | ⟨g, cap', cur, hv, h1, h2, h3, h4, h5, h6⟩
  · cases h
  · cases hv
    refine ⟨by omega, h1, h3, h4, fun p => cur[p]!, ?_⟩
    unfold Blk
    rw [h2]
    congr 2
    apply Array.ext_getElem?
    intro p
    by_cases hp : p < cap
    · rw [vrow_get _ hp]
      unfold mxG
      by_cases h7 : p < k
      · rw [if_pos h7]
        have e1 : cur.toList[p]? = (lrow l)[p]? := by rw [← h6, List.getElem?_take, if_pos (by omega)]
        rw [Array.getElem?_toList] at e1
        rw [e1]
        exact lrow_get l (by omega)
      · rw [if_neg h7]
        simp [show p < cur.size by omega]
    · rw [Array.getElem?_eq_none (by omega), Array.getElem?_eq_none (by rw [vrow_size]; omega)]
theorem mx_own {w : World} {base b k cap : Nat} {l : List Nat} {G : Nat → Value} (h : Blk w b 3 cap (mxG k (ryE k (lf l)) G)) (hk : k = l.length) (h1 : base ≤ b) (h3 : k ≤ cap) (h4 : cap ≤ maxLen) :
    w.ownsRow base 3 1 (.slice (some ⟨b, 0, none⟩) k cap) k (lrow l.reverse) := by
  refine ⟨by rw [lrow_length, List.length_reverse, hk, Nat.mul_one], .inr ⟨b, cap, _, rfl, h1, h, h3, h4, by rw [vrow_size, Nat.mul_one], ?_⟩⟩
  apply List.ext_getElem?
  intro p
  rw [List.getElem?_take]
  by_cases hp : p < k
  · rw [if_pos (by omega), Array.getElem?_toList, vrow_get _ (by omega), mx_at _ _ hp, hk, lf_rev l (by omega), lrow_get _ (by rw [List.length_reverse]; omega)]
  · rw [if_neg (by omega), List.getElem?_eq_none (by rw [lrow_length, List.length_reverse]; omega)]
end Go.Proofs.YtmdniebedflpbaaDoor
-- PyF: WALKS: Chain, where nothing clashes.
namespace Go.Proofs.YtmdniebedflpbaaDoor
open Go.RowKit

/-- What Chain tells of an event: nothing, an empty chain, or one from x to y that allows just mo. -/
def ChEnd (w : World) (E n : Nat) (f : Nat → Int) (v x y : Nat) (kn : Bool) (mo : Int) (e : Ending) (w' : World) : Prop :=
  ∃ vv l ev, e = .returned (.tuple #[vv, .int .i64 ev]) ∧ w'.ownsRow w.heap.size 3 1 vv l.length (lrow l) ∧ Below w.heap.size w w' ∧
    ((kn = false ∧ l = [] ∧ ev = 5) ∨ (kn = true ∧ v = 0 ∧ l = [] ∧ ev = 0 ∧ mo = 0) ∨ (kn = true ∧ v ≠ 0 ∧ l ≠ [] ∧ l.length < E ∧ ev = 0 ∧ isWk f n x y l ∧ wt f l = mo ∧ (l.map (bF f)).Nodup))
/-- The way back from an event. -/
theorem back_up {E n : Nat} {f : Nat → Int} (hf : BOk E n f) (hn : NoNeg E n f) {v : Nat} (hv : v < E) (hk : (ptU f n E).kn v = true) :
    (v ≠ 0 → ∃ es, Ends f n (ptU f n E) v es 0 ∧ es.length < E ∧ wt f es = (ptU f n E).mo v ∧ (es.map (bF f)).Nodup ∧ (es.map (bT f)).Nodup) ∧ (v = 0 → (ptU f n E).mo v = 0) := by
  obtain ⟨es, _, h2, h3, h4, h5, h6, _, h8⟩ := ptU_back hf hn hv hk
  exact ⟨fun h => ⟨es, h5 h, h2, h3, h4, h8⟩, fun h => by rw [h]; exact h6⟩
theorem back_down {E n : Nat} {f : Nat → Int} (hf : BOk E n f) (hn : NoNeg E n f) {v : Nat} (hv : v < E) (hk : (ptD f n E).kn v = true) :
    (v ≠ 0 → ∃ es, Ends (tF f) n (ptD f n E) v es 0 ∧ es.length < E ∧ wt (tF f) es = (ptD f n E).mo v ∧ (es.map (bF (tF f))).Nodup ∧ (es.map (bT (tF f))).Nodup) ∧ (v = 0 → (ptD f n E).mo v = 0) :=
  back_up (tF_ok hf) (noNeg_turned hn) hv hk

end Go.Proofs.YtmdniebedflpbaaDoor
