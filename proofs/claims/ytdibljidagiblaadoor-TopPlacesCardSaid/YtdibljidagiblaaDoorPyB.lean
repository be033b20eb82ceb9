/-
  MATHEMATICS: where nothing clashes, the way back from a known event is a chain that proves its limit.
-/
import Derived.Test.YtdibljidagiblaaDoorPyA
namespace Go.Proofs.YtdibljidagiblaaDoor

theorem Bk.lt {E n : Nat} {f : Nat → Int} {p : Pt} (hf : BOk E n f) : ∀ (es : List Nat) {v u : Nat}, v < E → Bk f n p v es u → u < E
  | [], _, _, hv, h => by
    have h := show _ = _ from h
    omega
  | _ :: es, _, _, _, h => Bk.lt hf es (bF_eq hf h.2.1).2 h.2.2.2
/-- A long way back goes round. -/
theorem Bk.long {E n : Nat} {f : Nat → Int} {p : Pt} (hf : BOk E n f) {es : List Nat} {v u : Nat} (hv : v < E) (hb : Bk f n p v es u) (_hl : E ≤ es.length) :
    ∃ i j x, i < j ∧ j ≤ E ∧ Bk f n p v (es.take i) x ∧ Bk f n p x ((es.take j).drop i) x ∧ Bk f n p x (es.drop j) u := by
  have hsp : ∀ j, ∃ x, Bk f n p v (es.take j) x ∧ Bk f n p x (es.drop j) u := fun j => hb.split j
  obtain ⟨g, hg⟩ := Classical.axiomOfChoice hsp
  obtain ⟨i, j, hij, hjE, e⟩ := pigeon E g (fun i _ => Bk.lt hf _ hv (hg i).1)
  have gi := hg i
  have gj := hg j
  have hm : Bk f n p (g i) ((es.take j).drop i) (g j) := by
    obtain ⟨x, h1, h2⟩ := gj.1.split i
    rw [List.take_take, Nat.min_eq_left (by omega)] at h1
    rw [Bk.det _ gi.1 h1]
    exact h2
  rw [← e] at gj hm
  exact ⟨i, j, g i, hij, hjE, gi.1, hm, gj.2⟩
/-- Where no round allows less than 0, no way back goes round. -/
theorem Bk.noRound {E n : Nat} {f : Nat → Int} {p : Pt} (hn : NoNeg E n f) (hc : p.Cyc f n) {v : Nat} {es : List Nat} (hv : v < E) (hk : p.kn v = true) (hne : es ≠ []) : ¬Bk f n p v es v := fun h => by
  have h1 := hc v es hne hk h
  have h2 := hn v es.reverse hv h.wk
  rw [wt_reverse] at h2
  omega
theorem Bk.short {E n : Nat} {f : Nat → Int} {p : Pt} {root : Nat → Prop} (hf : BOk E n f) (hn : NoNeg E n f) (hl : p.Lnk f n root) (hc : p.Cyc f n) {es : List Nat} {v u : Nat} (hv : v < E) (hk : p.kn v = true) (hb : Bk f n p v es u) : es.length < E := by
  refine Decidable.byContradiction fun hlen => ?_
  obtain ⟨i, j, x, hij, hj, h1, h2, _⟩ := hb.long hf hv (by omega)
  have hx := Bk.lt hf _ hv h1
  have hkx := (Bk.mo hl _ hk h1).1
  refine Bk.noRound hn hc hx hkx ?_ h2
  intro e
  have := congrArg List.length e
  simp at this
  omega
/-- From each known event a way back leads to one that begins a chain. -/
theorem trace_ex {E n : Nat} {f : Nat → Int} {p : Pt} {root : Nat → Prop} (hf : BOk E n f) (hn : NoNeg E n f) (hl : p.Lnk f n root) (hc : p.Cyc f n) {v : Nat} (hv : v < E) (hk : p.kn v = true) :
    ∃ es u, Bk f n p v es u ∧ p.kn u = true ∧ p.la u = -1 ∧ root u ∧ p.mo u = 0 := by
  have key : ∀ m, (∃ es u, Bk f n p v es u ∧ p.kn u = true ∧ p.la u = -1 ∧ root u ∧ p.mo u = 0) ∨ ∃ es u, Bk f n p v es u ∧ p.kn u = true ∧ es.length = m := by
    intro m
    induction m with
    | zero => exact .inr ⟨[], v, rfl, hk, rfl⟩
    | succ m ih =>
      rcases ih with h | ⟨es, u, h1, h2, h3⟩
      · exact .inl h
      · rcases hl u h2 with ⟨h4, h5, h6⟩ | ⟨i, h4, h5, h6, h7, _⟩
        · exact .inl ⟨es, u, h1, h2, h4, h5, h6⟩
        · exact .inr ⟨es ++ [i], bF f i, (Bk.append _ _ _ _).2 ⟨u, h1, h5, h4, h6, rfl⟩, h7, by simp [h3]⟩
  rcases key E with h | ⟨es, u, h1, _, h3⟩
  · exact h
  · have := Bk.short hf hn hl hc hv hk h1
    omega
/-- A list without equal images, or with two. -/
theorem nodup_or (g : Nat → Nat) : ∀ (es : List Nat), (es.map g).Nodup ∨ ∃ c i a j b, es = c ++ i :: (a ++ j :: b) ∧ g i = g j
  | [] => .inl (by simp)
  | i :: es => by
    rcases nodup_or g es with h | ⟨c, i', a, j, b, e, he⟩
    · by_cases hm : g i ∈ es.map g
      · obtain ⟨j, hj, he⟩ := List.mem_map.1 hm
        obtain ⟨a, b, e⟩ := List.append_of_mem hj
        exact .inr ⟨[], i, a, j, b, by rw [e]; rfl, he.symm⟩
      · exact .inl (by rw [List.map_cons]; exact List.nodup_cons.2 ⟨hm, h⟩)
    · exact .inr ⟨i :: c, i', a, j, b, by rw [e]; rfl, he⟩
theorem Bk.nodup {E n : Nat} {f : Nat → Int} {p : Pt} {root : Nat → Prop} (hf : BOk E n f) (hn : NoNeg E n f) (hl : p.Lnk f n root) (hc : p.Cyc f n) {es : List Nat} {v u : Nat} (hv : v < E) (hk : p.kn v = true) (hb : Bk f n p v es u) : (es.map (bF f)).Nodup := by
  rcases nodup_or (bF f) es with h | ⟨c, i, a, j, b, rfl, he⟩
  · exact h
  · exfalso
    obtain ⟨x, h1, h2⟩ := (Bk.append _ _ _ _).1 hb
    have hx := Bk.lt hf _ hv h1
    have hkx := (Bk.mo hl _ hk h1).1
    have h3 : Bk f n p x [i] (bF f i) := ⟨h2.1, h2.2.1, h2.2.2.1, rfl⟩
    obtain ⟨y, h4, h5⟩ := (Bk.append _ _ _ _).1 h2.2.2.2
    have h6 : Bk f n p (bF f i) (a ++ [j]) (bF f i) := (Bk.append _ _ _ _).2 ⟨y, h4, h5.1, h5.2.1, h5.2.2.1, he.symm⟩
    exact Bk.noRound hn hc (bF_eq hf h2.2.1).2 (Bk.mo hl _ hkx h3).1 (by simp) h6

theorem Bk.nodupT {E n : Nat} {f : Nat → Int} {p : Pt} {root : Nat → Prop} (hf : BOk E n f) (hn : NoNeg E n f) (hl : p.Lnk f n root) (hc : p.Cyc f n) {es : List Nat} {v u : Nat} (hv : v < E) (hk : p.kn v = true) (hb : Bk f n p v es u) : (es.map (bT f)).Nodup := by
  rcases nodup_or (bT f) es with h | ⟨c, i, a, j, b, rfl, he⟩
  · exact h
  · exfalso
    obtain ⟨x, h1, h2⟩ := (Bk.append _ _ _ _).1 hb
    have hx := Bk.lt hf _ hv h1
    have hkx := (Bk.mo hl _ hk h1).1
    obtain ⟨y, h4, h5⟩ := (Bk.append _ _ _ _).1 h2.2.2.2
    have e1 : bT f i = x := h2.2.2.1
    have e2 : bT f j = y := h5.2.2.1
    obtain rfl : y = x := by omega
    exact Bk.noRound hn hc hx hkx (es := i :: a) (by simp) ⟨h2.1, h2.2.1, h2.2.2.1, h4⟩

/-- What a way back must be so that the program takes just it: it meets its end nowhere earlier. -/
def Ends (f : Nat → Int) (n : Nat) (p : Pt) (v : Nat) (es : List Nat) (u : Nat) : Prop := Bk f n p v es u ∧ es ≠ [] ∧ ∀ j, 0 < j → j < es.length → ¬Bk f n p v (es.take j) u
/-- The way back from an event that is known ahead of its limit. -/
theorem ptU_back {E n : Nat} {f : Nat → Int} (hf : BOk E n f) (hn : NoNeg E n f) {v : Nat} (hv : v < E) (hk : (ptU f n E).kn v = true) :
    ∃ es, Bk f n (ptU f n E) v es 0 ∧ es.length < E ∧ wt f es = (ptU f n E).mo v ∧ (es.map (bF f)).Nodup ∧ (v ≠ 0 → Ends f n (ptU f n E) v es 0) ∧ (ptU f n E).mo 0 = 0 ∧ (ptU f n E).kn 0 = true ∧ (es.map (bT f)).Nodup := by
  have h1 := hf.1
  obtain ⟨hl, hc⟩ := rel_lnk (f := f) (n := n) E Pt.start (-1) (start_lnk f n).1 (start_lnk f n).2
  obtain ⟨es, u, hb, hku, hlu, hr, hmu⟩ := trace_ex hf hn hl hc hv hk
  have hr : u = 0 := hr
  subst hr
  have hlt := Bk.short hf hn hl hc hv hk hb
  have hle := (Bk.mo hl es hk hb).2
  have hm := (ptU_min hf hn v).1 hk
  have hw := hm.2 _ hb.wk
  rw [wt_reverse] at hw
  refine ⟨es, hb, hlt, ?_, Bk.nodup hf hn hl hc hv hk hb, fun hne => ⟨hb, ?_, ?_⟩, hmu, hku, Bk.nodupT hf hn hl hc hv hk hb⟩
  · have e1 : (ptU f n E).mo v = (relS f n E Pt.start (-1)).1.mo v := rfl
    omega
  · intro e
    subst e
    have hb : v = 0 := hb
    exact hne hb
  · intro j h0 hj hbj
    obtain ⟨x, h2, h3⟩ := hb.split j
    obtain rfl := Bk.det _ hbj h2
    cases hd : es.drop j with
    | nil =>
      have := congrArg List.length hd
      simp at this
      omega
    | cons i b =>
      rw [hd] at h3
      exact Bk.none hlu h3
end Go.Proofs.YtdibljidagiblaaDoor
