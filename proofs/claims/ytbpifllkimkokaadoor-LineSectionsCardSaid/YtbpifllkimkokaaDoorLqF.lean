/-
  WORDS: what the sections are: the whole line, alike within, different at their borders.
-/
import Derived.Test.YtbpifllkimkokaaDoorLqE
import Derived.Test.YtbpifllkimkokaaDoorLpF
namespace Go.Proofs.YtbpifllkimkokaaDoor

/-- What a station tells is what the section says. -/
def Tr (f z m : Nat → Int) (n nz nl : Nat) (k : Int) (s : Sec) : Prop := s.it = (itemOf f n k : Nat) ∧ s.cl = clsAt z nz k ∧ s.mo = lmtAt m k nl
theorem tr_secAt (f z m : Nat → Int) (n nz nl : Nat) (k e : Int) : Tr f z m n nz nl k (secAt f z m n nz nl k e) := ⟨rfl, rfl, rfl⟩

/-- Where nothing may change, nothing changes. -/
theorem same_tr {f z m : Nat → Int} {n nz nl : Nat} (h : chk n nz nl f z m = 0) {b x : Int} (hb : 0 ≤ b ∧ b ≤ x) (hx : x < endS f n) (hno : ∀ y, Br f z m n nz nl y → ¬(b < y ∧ y ≤ x)) :
    itemOf f n x = itemOf f n b ∧ clsAt z nz x = clsAt z nz b ∧ lmtAt m x nl = lmtAt m b nl := by
  have hok := chk_ok h
  have hv := hok.2.2.2.1
  have hn : n ≤ 70 := by omega
  refine ⟨?_, ?_, ?_⟩
  · obtain ⟨i, hi, h1, h2⟩ := item_ex (f := f) (n := n) (st := b) ⟨hb.1, by omega⟩
    rw [itemOf_eq hn hv hi h1 h2]
    refine itemOf_eq hn hv hi (by omega) ?_
    by_cases hlt : x < endS f (i + 1)
    · exact hlt
    · have hi2 : i + 1 < n := by
        by_cases e : i + 1 = n
        · rw [e] at hlt; exact absurd hx hlt
        · omega
      exact absurd ⟨h2, by omega⟩ (hno _ (.inl ⟨i + 1, hi2, rfl⟩))
  · have he : ∀ j, j < nz → inZ z x j = inZ z b j := by
      intro j hj
      have hz := zok_of h j hj
      have hz2 := zend_of h j hj
      have n1 := hno (z (j * 3)) (.inr (.inl ⟨j, hj, .inl rfl⟩))
      unfold inZ
      rw [decide_eq_decide]
      by_cases hlt : z (j * 3 + 1) < endS f n
      · have n2 := hno (z (j * 3 + 1)) (.inr (.inl ⟨j, hj, .inr ⟨rfl, hlt⟩⟩))
        omega
      · omega
    unfold clsAt
    have e : (List.range nz).find? (inZ z x) = (List.range nz).find? (inZ z b) := by
      have : ∀ l : List Nat, (∀ j ∈ l, j < nz) → l.find? (inZ z x) = l.find? (inZ z b) := by
        intro l
        induction l with
        | nil => intro _; rfl
        | cons j l ih =>
          intro hl
          simp only [List.find?_cons]
          rw [he j (hl j (by simp)), ih fun k hk => hl k (by simp [hk])]
      exact this _ fun j hj => by simpa using hj
    rw [e]
  · have : ∀ k, k ≤ nl → lmtAt m x k = lmtAt m b k := by
      intro k
      induction k with
      | zero => intro _; rfl
      | succ k ih =>
        intro hk
        have n1 := hno (m (k * 2)) (.inr (.inr ⟨k, by omega, rfl⟩))
        simp only [lmtAt]
        rw [ih (by omega)]
        by_cases h1 : m (k * 2) ≤ b
        · rw [if_pos h1, if_pos (by omega)]
        · rw [if_neg h1, if_neg (by omega)]
    exact this nl (Nat.le_refl _)

/-- Sections, the last one first, are all stations from 0 up to u. -/
def Cov (f z m : Nat → Int) (n nz nl : Nat) : List Sec → Int → Prop
  | [], u => u = 0
  | s :: R, u => s.en = u ∧ (s.fr < s.en ∧ 0 ≤ s.fr) ∧ (∀ k, s.fr ≤ k → k < s.en → Tr f z m n nz nl k s) ∧ (∀ r R', R = r :: R' → alk r s = false) ∧ Cov f z m n nz nl R s.fr

theorem alk_tr {f z m : Nat → Int} {n nz nl : Nat} {s : Sec} {st e : Int} (h : alk s (secAt f z m n nz nl st e) = true) : Tr f z m n nz nl st s := by
  unfold alk at h
  have h1 := of_decide_eq_true h
  exact h1
theorem Tr.same {f z m : Nat → Int} {n nz nl : Nat} {s : Sec} {b x : Int} (h : Tr f z m n nz nl b s) (he : itemOf f n x = itemOf f n b ∧ clsAt z nz x = clsAt z nz b ∧ lmtAt m x nl = lmtAt m b nl) : Tr f z m n nz nl x s := by
  unfold Tr
  rw [he.1, he.2.1, he.2.2]
  exact h

/-- The sections after some stations: the last one is open: it tells up to u. -/
def Opn (f z m : Nat → Int) (n nz nl : Nat) (S : List Sec) (u : Int) : Prop :=
  ∃ S0 s, S = S0 ++ [s] ∧ s.en = endS f n ∧ (s.fr < u ∧ 0 ≤ s.fr) ∧ (∀ k, s.fr ≤ k → k < u → Tr f z m n nz nl k s) ∧ (∀ r R', S0.reverse = r :: R' → alk r s = false) ∧ Cov f z m n nz nl S0.reverse s.fr

theorem opn_step {f z m : Nat → Int} {n nz nl : Nat} (h : chk n nz nl f z m = 0) {S : List Sec} {st u : Int} (hO : Opn f z m n nz nl S st) (hu : st < u ∧ u ≤ endS f n) (h0 : 0 ≤ st)
    (hno : ∀ y, Br f z m n nz nl y → ¬(st < y ∧ y < u)) : Opn f z m n nz nl (pstep f z m n nz nl (endS f n) S st) u := by
  obtain ⟨S0, s, rfl, h1, h2, h3, h4, h5⟩ := hO
  have hsame : ∀ k, st ≤ k → k < u → itemOf f n k = itemOf f n st ∧ clsAt z nz k = clsAt z nz st ∧ lmtAt m k nl = lmtAt m st nl := fun k k1 k2 =>
    same_tr h ⟨h0, k1⟩ (by omega) fun y hy hh => hno y hy ⟨hh.1, by omega⟩
  by_cases ha : alk s (secAt f z m n nz nl st (endS f n)) = true
  · rw [pstep_same ha]
    refine ⟨S0, s, rfl, h1, by omega, fun k k1 k2 => ?_, h4, h5⟩
    by_cases hk : k < st
    · exact h3 k k1 hk
    · exact (alk_tr ha).same (hsame k (by omega) k2)
  · have ha2 : alk s (secAt f z m n nz nl st (endS f n)) = false := by simpa using ha
    rw [pstep_new ha2]
    refine ⟨S0 ++ [s.upTo st], _, rfl, rfl, ⟨hu.1, h0⟩, fun k k1 k2 => (tr_secAt f z m n nz nl st (endS f n)).same (hsame k k1 k2), ?_, ?_⟩
    · intro r R' e
      rw [List.reverse_append] at e
      simp only [List.reverse_cons, List.reverse_nil, List.nil_append, List.cons_append, List.cons.injEq] at e
      rw [← e.1]
      exact ha2
    · rw [List.reverse_append]
      simp only [List.reverse_cons, List.reverse_nil, List.nil_append, List.cons_append]
      exact ⟨rfl, ⟨h2.1, h2.2⟩, fun k k1 k2 => h3 k k1 k2, fun r R' e => h4 r R' e, h5⟩

theorem opn_fold {f z m : Nat → Int} {n nz nl : Nat} (h : chk n nz nl f z m = 0) : ∀ (L : List Int) (S : List Sec) (st : Int), Opn f z m n nz nl S st → (0 ≤ st ∧ st < endS f n) → (∀ y, Br f z m n nz nl y → st ≤ y → y ∈ st :: L) → (st :: L).Pairwise (· < ·) → (∀ x ∈ L, x < endS f n) →
    Opn f z m n nz nl ((st :: L).foldl (pstep f z m n nz nl (endS f n)) S) (endS f n)
  | [], S, st, hO, hst, hm, hp, hl => by
    refine opn_step h hO ⟨hst.2, Int.le_refl _⟩ hst.1 fun y hy hh => ?_
    have := hm y hy (by omega)
    rw [List.mem_singleton] at this
    omega
  | t :: L, S, st, hO, hst, hm, hp, hl => by
    rw [List.foldl_cons]
    have h1 := (List.pairwise_cons.1 hp).1
    have h2 := (List.pairwise_cons.1 hp).2
    have ht : st < t := h1 t (by simp)
    refine opn_fold h L _ t (opn_step h hO ⟨ht, Int.le_of_lt (hl t (by simp))⟩ hst.1 fun y hy hh => ?_) ⟨by omega, hl t (by simp)⟩ (fun y hy hty => ?_) h2 (fun x hx => hl x (by simp [hx]))
    · have h3 := hm y hy (by omega)
      rcases List.mem_cons.1 h3 with e | h3
      · omega
      · rcases List.mem_cons.1 h3 with e | h3
        · omega
        · have := (List.pairwise_cons.1 h2).1 y h3
          omega
    · rcases List.mem_cons.1 (hm y hy (by omega)) with e | h3
      · omega
      · exact h3

theorem secs_cov {f z m : Nat → Int} {n nz nl : Nat} (h : chk n nz nl f z m = 0) : Cov f z m n nz nl (secsOf f z m n nz nl).reverse (endS f n) := by
  have hok := chk_ok h
  have hin := asc_in h
  have hst := ascOf_strict (allBs f z m n nz nl)
  have hmem : ∀ y, Br f z m n nz nl y → y ∈ ascOf (allBs f z m n nz nl) := fun y hy => mem_ascOf.2 (mem_allBs.2 hy)
  have h0 : (0 : Int) ∈ ascOf (allBs f z m n nz nl) := hmem 0 (.inl ⟨0, by omega, rfl⟩)
  unfold secsOf
  generalize ascOf (allBs f z m n nz nl) = B at hin hst hmem h0
  cases B with
  | nil => cases h0
  | cons b B =>
    have hb0 : b = 0 := by
      rcases List.mem_cons.1 h0 with e | h1
      · exact e.symm
      · have h2 := (List.pairwise_cons.1 hst).1 0 h1
        have h3 := hin b (by simp)
        omega
    subst hb0
    have hE := hin 0 (by simp)
    -- the first station
    have hfirst : ∀ u, 0 < u → u ≤ endS f n → (∀ y, Br f z m n nz nl y → ¬(0 < y ∧ y < u)) → Opn f z m n nz nl [secAt f z m n nz nl 0 (endS f n)] u := fun u hu1 hu2 hno =>
      ⟨[], _, rfl, rfl, ⟨hu1, Int.le_refl _⟩, fun k k1 k2 => (tr_secAt f z m n nz nl 0 (endS f n)).same (same_tr h ⟨Int.le_refl _, k1⟩ (by omega) fun y hy hh => hno y hy ⟨hh.1, by omega⟩), (fun r R' e => by cases e), rfl⟩
    have hfin : Opn f z m n nz nl (((0 : Int) :: B).foldl (pstep f z m n nz nl (endS f n)) []) (endS f n) := by
      rw [List.foldl_cons, pstep_nil]
      cases B with
      | nil =>
        refine hfirst _ hE.2 (Int.le_refl _) fun y hy hh => ?_
        have := hmem y hy
        rw [List.mem_singleton] at this
        omega
      | cons t B =>
        have h1 := (List.pairwise_cons.1 hst)
        have ht : 0 < t := h1.1 t (by simp)
        refine opn_fold h B _ t (hfirst t ht (Int.le_of_lt (hin t (by simp)).2) fun y hy hh => ?_) (hin t (by simp)) (fun y hy hty => ?_) h1.2 (fun x hx => (hin x (by simp [hx])).2)
        · rcases List.mem_cons.1 (hmem y hy) with e | h3
          · omega
          · rcases List.mem_cons.1 h3 with e | h3
            · omega
            · have := (List.pairwise_cons.1 h1.2).1 y h3
              omega
        · rcases List.mem_cons.1 (hmem y hy) with e | h3
          · omega
          · exact h3
    obtain ⟨S0, s, e, h1, h2, h3, h4, h5⟩ := hfin
    rw [e, List.reverse_append]
    simp only [List.reverse_cons, List.reverse_nil, List.nil_append, List.cons_append]
    exact ⟨h1, ⟨by omega, h2.2⟩, fun k k1 k2 => h3 k k1 (by omega), h4, h5⟩

/-- What the sections are, by their numbers. -/
structure Secs (f z m : Nat → Int) (n nz nl : Nat) (S : List Sec) (u : Int) : Prop where
  one : ∀ i (hi : i < S.length), ((S[i]'hi).fr < (S[i]'hi).en ∧ 0 ≤ (S[i]'hi).fr ∧ (S[i]'hi).en ≤ u) ∧ ∀ k, (S[i]'hi).fr ≤ k → k < (S[i]'hi).en → Tr f z m n nz nl k (S[i]'hi)
  two : ∀ i (hi : i + 1 < S.length), (S[i + 1]'hi).fr = (S[i]'(by omega)).en ∧ alk (S[i]'(by omega)) (S[i + 1]'hi) = false
  beg : ∀ h : 0 < S.length, (S[0]'h).fr = 0
  fin : ∀ h : 0 < S.length, (S[S.length - 1]'(by omega)).en = u
  non : S = [] → u = 0

theorem cov_secs {f z m : Nat → Int} {n nz nl : Nat} : ∀ (R : List Sec) (u : Int), Cov f z m n nz nl R u → Secs f z m n nz nl R.reverse u
  | [], u, h => ⟨(fun i hi => by cases hi), (fun i hi => by cases hi), (fun h => by cases h), (fun h => by cases h), fun _ => h⟩
  | s :: R, u, ⟨h1, h2, h3, h4, h5⟩ => by
    have ih := cov_secs R s.fr h5
    rw [List.reverse_cons]
    have hlen : (R.reverse ++ [s]).length = R.reverse.length + 1 := by simp
    refine ⟨fun i hi => ?_, fun i hi => ?_, fun h => ?_, fun h => ?_, fun e => by simp at e⟩
    · by_cases hlt : i < R.reverse.length
      · rw [List.getElem_append_left hlt]
        have := ih.one i hlt
        exact ⟨by omega, this.2⟩
      · have e : i = R.reverse.length := by omega
        subst e
        rw [List.getElem_concat_length rfl]
        exact ⟨by omega, h3⟩
    · by_cases hlt : i + 1 < R.reverse.length
      · rw [List.getElem_append_left hlt, List.getElem_append_left (by omega)]
        exact ih.two i hlt
      · have e : i + 1 = R.reverse.length := by omega
        have hpos : 0 < R.reverse.length := by omega
        have h6 := ih.fin hpos
        have e2 : (R.reverse ++ [s])[i + 1]'hi = s := by
          simp only [e]
          exact List.getElem_concat_length rfl _
        rw [e2, List.getElem_append_left (by omega)]
        have e3 : R.reverse[R.reverse.length - 1]'(by omega) = R.reverse[i]'(by omega) := by congr 1; omega
        rw [e3] at h6
        refine ⟨h6.symm, ?_⟩
        cases R with
        | nil => simp at hpos
        | cons r R' =>
          have e4 : (r :: R').reverse[i]'(by omega) = r := by
            simp only [List.reverse_cons]
            have : i = R'.reverse.length := by simp at e; simp; omega
            simp only [this]
            exact List.getElem_concat_length rfl _
          rw [e4]
          exact h4 r R' rfl
    · cases R with
      | nil =>
        have := ih.non rfl
        simpa using this
      | cons r R' =>
        have hpos : 0 < (r :: R').reverse.length := by simp
        rw [List.getElem_append_left hpos]
        exact ih.beg hpos
    · have e : (R.reverse ++ [s]).length - 1 = R.reverse.length := by omega
      have e2 : (R.reverse ++ [s])[(R.reverse ++ [s]).length - 1]'(by omega) = s := by
        simp only [e]
        exact List.getElem_concat_length rfl _
      rw [e2]
      exact h1
theorem secs_of {f z m : Nat → Int} {n nz nl : Nat} (h : chk n nz nl f z m = 0) : Secs f z m n nz nl (secsOf f z m n nz nl) (endS f n) := by
  have := cov_secs _ _ (secs_cov h)
  rwa [List.reverse_reverse] at this
/-- Some section has each station. -/
theorem Secs.has {f z m : Nat → Int} {n nz nl : Nat} {S : List Sec} {u : Int} (h : Secs f z m n nz nl S u) {k : Int} (hk : 0 ≤ k ∧ k < u) : ∃ i, ∃ hi : i < S.length, (S[i]'hi).fr ≤ k ∧ k < (S[i]'hi).en := by
  have hpos : 0 < S.length := by
    cases S with
    | nil => have := h.non rfl; omega
    | cons s S => simp
  have key : ∀ i (hi : i < S.length), k < (S[i]'hi).en → ∃ i, ∃ hi : i < S.length, (S[i]'hi).fr ≤ k ∧ k < (S[i]'hi).en := by
    intro i
    induction i with
    | zero => intro hi hlt; exact ⟨0, hi, by rw [h.beg hi]; exact hk.1, hlt⟩
    | succ i ih =>
      intro hi hlt
      by_cases hf : (S[i + 1]'hi).fr ≤ k
      · exact ⟨i + 1, hi, hf, hlt⟩
      · exact ih (by omega) (by rw [← (h.two i hi).1]; omega)
  exact key (S.length - 1) (by omega) (by rw [h.fin hpos]; exact hk.2)
end Go.Proofs.YtbpifllkimkokaaDoor
