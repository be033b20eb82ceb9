/-
  MATHEMATICS: the reference's distances: by more and more events on the way.
-/
import Derived.Test.YtonlamkpehakdaaPxC
namespace Go.Proofs.Ytonlamkpehakdaa

/-- What some bounds allow between all events, as far as it is known. -/
structure Mx where
  kn : Nat → Nat → Bool
  mo : Nat → Nat → Int
def Mx.put (D : Mx) (i j : Nat) (v : Int) : Mx := ⟨fun a b => if a = i ∧ b = j then true else D.kn a b, fun a b => if a = i ∧ b = j then v else D.mo a b⟩
/-- The lesser one of what is known and v. -/
def Mx.lsr (D : Mx) (i j : Nat) (v : Int) : Int := if D.kn i j = true ∧ D.mo i j ≤ v then D.mo i j else v
def Mx.low (D : Mx) (i j : Nat) (v : Int) : Mx := D.put i j (D.lsr i j v)
theorem Mx.lsr_le (D : Mx) (i j : Nat) (v : Int) : D.lsr i j v ≤ v ∧ (D.kn i j = true → D.lsr i j v ≤ D.mo i j) := by
  unfold Mx.lsr
  by_cases h : D.kn i j = true ∧ D.mo i j ≤ v
  · rw [if_pos h]; exact ⟨h.2, fun _ => Int.le_refl _⟩
  · rw [if_neg h]
    refine ⟨Int.le_refl _, fun hk => ?_⟩
    have : ¬D.mo i j ≤ v := fun h2 => h ⟨hk, h2⟩
    omega
theorem Mx.lsr_or (D : Mx) (i j : Nat) (v : Int) : (D.kn i j = true ∧ D.lsr i j v = D.mo i j) ∨ D.lsr i j v = v := by
  unfold Mx.lsr
  by_cases h : D.kn i j = true ∧ D.mo i j ≤ v
  · rw [if_pos h]; exact .inl ⟨h.1, rfl⟩
  · rw [if_neg h]; exact .inr rfl
/-- All that is known is a chain's. -/
def Mx.Snd (D : Mx) (f : Nat → Int) (n : Nat) : Prop := ∀ a b, D.kn a b = true → ∃ es, isWk f n a b es ∧ D.mo a b = wt f es
def Mx.Le (D : Mx) (B : Int) : Prop := ∀ a b, -B ≤ D.mo a b ∧ D.mo a b ≤ B
/-- No chain whose inner events lie below k allows less. -/
def Mx.Cpl (D : Mx) (f : Nat → Int) (n k : Nat) : Prop := ∀ a b es, isWk f n a b es → (∀ e, e ∈ es.dropLast → bT f e < k) → D.kn a b = true ∧ D.mo a b ≤ wt f es

/-! The start: each event itself, and the bounds -/
def Mx.one : Mx := ⟨fun a b => decide (a = b), fun _ _ => 0⟩
def gM (f : Nat → Int) : Nat → Mx
  | 0 => Mx.one
  | t + 1 => (gM f t).low (bF f t) (bT f t) (bM f t)
theorem gM_snd (f : Nat → Int) (n : Nat) : ∀ t, t ≤ n → (gM f t).Snd f n
  | 0, _ => fun a b h => by
    have h : a = b := by simpa [gM, Mx.one] using h
    subst h
    exact ⟨[], rfl, rfl⟩
  | t + 1, ht => fun a b h => by
    have ih := gM_snd f n t (by omega)
    by_cases e : a = bF f t ∧ b = bT f t
    · obtain ⟨rfl, rfl⟩ := e
      have hm : (gM f (t + 1)).mo (bF f t) (bT f t) = (gM f t).lsr (bF f t) (bT f t) (bM f t) := by simp [gM, Mx.low, Mx.put]
      rw [hm]
      rcases (gM f t).lsr_or (bF f t) (bT f t) (bM f t) with ⟨h1, h2⟩ | h2
      · rw [h2]; exact ih _ _ h1
      · rw [h2]; exact ⟨[t], ⟨by omega, rfl, rfl⟩, by simp [wt]⟩
    · have hk : (gM f (t + 1)).kn a b = (gM f t).kn a b := by simp [gM, Mx.low, Mx.put, e]
      have hm : (gM f (t + 1)).mo a b = (gM f t).mo a b := by simp [gM, Mx.low, Mx.put, e]
      rw [hk] at h
      rw [hm]
      exact ih a b h
theorem gM_le {E n : Nat} {f : Nat → Int} (hf : BOk E n f) : ∀ t, t ≤ n → (gM f t).Le 1073741824
  | 0, _ => fun a b => by simp [gM, Mx.one]
  | t + 1, ht => fun a b => by
    have ih := gM_le hf t (by omega)
    have hb := (hf.2 t (by omega)).2.2
    by_cases e : a = bF f t ∧ b = bT f t
    · obtain ⟨rfl, rfl⟩ := e
      have hm : (gM f (t + 1)).mo (bF f t) (bT f t) = (gM f t).lsr (bF f t) (bT f t) (bM f t) := by simp [gM, Mx.low, Mx.put]
      rw [hm]
      rcases (gM f t).lsr_or (bF f t) (bT f t) (bM f t) with ⟨_, h2⟩ | h2
      · rw [h2]; exact ih _ _
      · rw [h2]; exact hb
    · have hm : (gM f (t + 1)).mo a b = (gM f t).mo a b := by simp [gM, Mx.low, Mx.put, e]
      rw [hm]; exact ih a b
/-- What is known stays known, and is lowered only. -/
def Mx.Abv (D D' : Mx) : Prop := ∀ a b, D.kn a b = true → D'.kn a b = true ∧ D'.mo a b ≤ D.mo a b
theorem Mx.Abv.refl (D : Mx) : D.Abv D := fun _ _ h => ⟨h, Int.le_refl _⟩
theorem Mx.Abv.trans {A B C : Mx} (h : A.Abv B) (h' : B.Abv C) : A.Abv C := fun a b hk => by
  obtain ⟨h1, h2⟩ := h a b hk
  obtain ⟨h3, h4⟩ := h' a b h1
  exact ⟨h3, Int.le_trans h4 h2⟩
theorem Mx.low_abv (D : Mx) (i j : Nat) (v : Int) : D.Abv (D.low i j v) := fun a b hk => by
  by_cases e : a = i ∧ b = j
  · obtain ⟨rfl, rfl⟩ := e
    have h := (D.lsr_le a b v).2 hk
    simp [Mx.low, Mx.put, h]
  · simp [Mx.low, Mx.put, e, hk]
theorem Mx.low_at (D : Mx) (i j : Nat) (v : Int) : (D.low i j v).kn i j = true ∧ (D.low i j v).mo i j ≤ v := by
  have h := (D.lsr_le i j v).1
  simp [Mx.low, Mx.put, h]
theorem gM_abv (f : Nat → Int) (t : Nat) : ∀ s, (gM f t).Abv (gM f (t + s))
  | 0 => Mx.Abv.refl _
  | s + 1 => (gM_abv f t s).trans (Mx.low_abv _ _ _ _)
theorem gM_cpl (f : Nat → Int) (n : Nat) : (gM f n).Cpl f n 0 := fun a b es hw hi => by
  match es, hw, hi with
  | [], hw, _ =>
    have hw : a = b := hw
    subst hw
    have h := gM_abv f 0 n a a (by simp [gM, Mx.one])
    rw [Nat.zero_add] at h
    exact h
  | [i], hw, _ =>
    obtain ⟨h1, h2, h3⟩ := hw
    have h3 : bT f i = b := h3
    subst h2 h3
    obtain ⟨s, rfl⟩ : ∃ s, n = i + 1 + s := ⟨n - (i + 1), by omega⟩
    have h4 : (gM f (i + 1)).kn (bF f i) (bT f i) = true ∧ (gM f (i + 1)).mo (bF f i) (bT f i) ≤ bM f i := Mx.low_at _ _ _ _
    have h5 := gM_abv f (i + 1) s _ _ h4.1
    refine ⟨h5.1, ?_⟩
    simp only [wt]
    omega
  | i :: j :: es, _, hi => exact absurd (hi i (by simp)) (by omega)

/-! One more event on the way -/
def Mx.stp (D : Mx) (k : Nat) : Mx := ⟨fun a b => D.kn a b || (D.kn a k && D.kn k b), fun a b => if (D.kn a k && D.kn k b) = true then D.lsr a b (D.mo a k + D.mo k b) else D.mo a b⟩
def dM (f : Nat → Int) (n : Nat) : Nat → Mx
  | 0 => gM f n
  | k + 1 => (dM f n k).stp k
theorem Mx.stp_snd {D : Mx} {f : Nat → Int} {n : Nat} (h : D.Snd f n) (k : Nat) : (D.stp k).Snd f n := fun a b hk => by
  by_cases e : (D.kn a k && D.kn k b) = true
  · have hm : (D.stp k).mo a b = D.lsr a b (D.mo a k + D.mo k b) := if_pos e
    rw [hm]
    rcases D.lsr_or a b (D.mo a k + D.mo k b) with ⟨h1, h2⟩ | h2
    · rw [h2]; exact h a b h1
    · rw [h2]
      rw [Bool.and_eq_true] at e
      obtain ⟨x, h3, h4⟩ := h a k e.1
      obtain ⟨y, h5, h6⟩ := h k b e.2
      exact ⟨x ++ y, (isWk_append x y a b).2 ⟨k, h3, h5⟩, by rw [wt_append, h4, h6]⟩
  · have hm : (D.stp k).mo a b = D.mo a b := if_neg e
    have hk2 : D.kn a b = true := by
      have hk : (D.kn a b || (D.kn a k && D.kn k b)) = true := hk
      rw [Bool.or_eq_true] at hk
      exact hk.resolve_right e
    rw [hm]
    exact h a b hk2
theorem Mx.stp_le {D : Mx} {B : Int} (h : D.Le B) (k : Nat) : (D.stp k).Le (2 * B) := fun a b => by
  have h1 := h a b
  have h2 := h a k
  have h3 := h k b
  by_cases e : (D.kn a k && D.kn k b) = true
  · have hm : (D.stp k).mo a b = D.lsr a b (D.mo a k + D.mo k b) := if_pos e
    rw [hm]
    rcases D.lsr_or a b (D.mo a k + D.mo k b) with ⟨_, h4⟩ | h4 <;> rw [h4] <;> omega
  · have hm : (D.stp k).mo a b = D.mo a b := if_neg e
    rw [hm]; omega
theorem dM_snd (f : Nat → Int) (n : Nat) : ∀ k, (dM f n k).Snd f n
  | 0 => gM_snd f n n (Nat.le_refl _)
  | k + 1 => Mx.stp_snd (dM_snd f n k) k
theorem dM_le {E n : Nat} {f : Nat → Int} (hf : BOk E n f) : ∀ k, (dM f n k).Le (2 ^ k * 1073741824)
  | 0 => by simpa [dM] using gM_le hf n (Nat.le_refl _)
  | k + 1 => by
    have h := Mx.stp_le (dM_le hf k) k
    have e : (2 : Int) * (2 ^ k * 1073741824) = 2 ^ (k + 1) * 1073741824 := by rw [Int.pow_succ]; omega
    rw [e] at h
    exact h
/-- The event k itself changes nothing: what goes by k from k, or to k. -/
theorem Mx.stp_col {D : Mx} {f : Nat → Int} {n E k : Nat} (h : D.Snd f n) (hn : NoNeg E n f) (hk : k < E) (a : Nat) : (D.stp k).kn a k = D.kn a k ∧ (D.stp k).mo a k = D.mo a k := by
  refine ⟨?_, ?_⟩
  · show (D.kn a k || (D.kn a k && D.kn k k)) = D.kn a k
    cases D.kn a k <;> simp
  · by_cases e : (D.kn a k && D.kn k k) = true
    · have hm : (D.stp k).mo a k = D.lsr a k (D.mo a k + D.mo k k) := if_pos e
      rw [Bool.and_eq_true] at e
      obtain ⟨es, h1, h2⟩ := h k k e.2
      have h3 := hn k es hk h1
      rw [hm]
      unfold Mx.lsr
      rw [if_pos ⟨e.1, by omega⟩]
    · exact if_neg e
theorem Mx.stp_row {D : Mx} {f : Nat → Int} {n E k : Nat} (h : D.Snd f n) (hn : NoNeg E n f) (hk : k < E) (b : Nat) : (D.stp k).kn k b = D.kn k b ∧ (D.stp k).mo k b = D.mo k b := by
  refine ⟨?_, ?_⟩
  · show (D.kn k b || (D.kn k k && D.kn k b)) = D.kn k b
    cases D.kn k b <;> simp
  · by_cases e : (D.kn k k && D.kn k b) = true
    · have hm : (D.stp k).mo k b = D.lsr k b (D.mo k k + D.mo k b) := if_pos e
      rw [Bool.and_eq_true] at e
      obtain ⟨es, h1, h2⟩ := h k k e.1
      have h3 := hn k es hk h1
      rw [hm]
      unfold Mx.lsr
      rw [if_pos ⟨e.2, by omega⟩]
    · exact if_neg e
theorem split_pred (P : Nat → Prop) : ∀ (l : List Nat), (∀ e, e ∈ l → ¬P e) ∨ ∃ a e b, l = a ++ e :: b ∧ P e ∧ ∀ x, x ∈ a → ¬P x
  | [] => .inl (fun e h => by cases h)
  | i :: l => by
    by_cases h : P i
    · exact .inr ⟨[], i, l, rfl, h, fun x hx => by cases hx⟩
    · rcases split_pred P l with h1 | ⟨a, e, b, h1, h2, h3⟩
      · exact .inl fun e he => by
          rcases List.mem_cons.1 he with rfl | he
          · exact h
          · exact h1 e he
      · refine .inr ⟨i :: a, e, b, by rw [h1]; rfl, h2, fun x hx => ?_⟩
        rcases List.mem_cons.1 hx with rfl | hx
        · exact h
        · exact h3 x hx
theorem drop_last (es : List Nat) {a b : List Nat} {e : Nat} (h : es.dropLast = a ++ e :: b) : ∃ c, c ≠ [] ∧ es = a ++ e :: c ∧ c.dropLast = b := by
  rcases last_cases es with rfl | ⟨s, i, rfl⟩
  · simp at h
  · rw [List.dropLast_concat] at h
    exact ⟨b ++ [i], by simp, by rw [h]; simp, by simp⟩
/-- A chain from k: a round, and one that does not come to k again on its way. -/
theorem tail_part {f : Nat → Int} {n k : Nat} : ∀ (m : Nat) (es : List Nat) {b : Nat}, es.length ≤ m → isWk f n k b es → (∀ e, e ∈ es.dropLast → bT f e < k + 1) → ∃ c es', isWk f n k k c ∧ isWk f n k b es' ∧ (∀ e, e ∈ es'.dropLast → bT f e < k) ∧ wt f es = wt f c + wt f es'
  | 0, es, b, hm, hw, _ => by
    obtain rfl : es = [] := List.eq_nil_of_length_eq_zero (by omega)
    exact ⟨[], [], rfl, hw, fun e he => by simp at he, by simp [wt]⟩
  | m + 1, es, b, hm, hw, hi => by
    rcases split_pred (fun e => bT f e = k) es.dropLast with h1 | ⟨x, e, y, h1, h2, h3⟩
    · exact ⟨[], es, rfl, hw, fun e he => by have := hi e he; have := h1 e he; omega, by simp [wt]⟩
    · obtain ⟨c, hc, rfl, hcl⟩ := drop_last es h1
      obtain ⟨z, h4, h5⟩ := (isWk_append x (e :: c) k b).1 hw
      obtain ⟨h6, h7, h8⟩ := h5
      rw [h2] at h8
      obtain ⟨c', es', g1, g2, g3, g4⟩ := tail_part m c (by simp at hm; omega) h8 (fun e' he' => hi e' (by rw [h1, ← hcl]; simp [he']))
      refine ⟨x ++ e :: c', es', (isWk_append _ _ _ _).2 ⟨z, h4, h6, h7, by rw [h2]; exact g1⟩, g2, g3, ?_⟩
      simp only [wt_append, wt]
      omega
theorem Mx.stp_cpl {D : Mx} {f : Nat → Int} {n E k : Nat} (h : D.Cpl f n k) (hn : NoNeg E n f) (hk : k < E) : (D.stp k).Cpl f n (k + 1) := fun a b es hw hi => by
  rcases split_pred (fun e => bT f e = k) es.dropLast with h1 | ⟨x, e, y, h1, h2, h3⟩
  · obtain ⟨h2, h3⟩ := h a b es hw (fun e he => by have := hi e he; have := h1 e he; omega)
    refine ⟨by show (D.kn a b || _) = true; rw [h2]; rfl, ?_⟩
    by_cases e : (D.kn a k && D.kn k b) = true
    · have hm : (D.stp k).mo a b = D.lsr a b (D.mo a k + D.mo k b) := if_pos e
      have := (D.lsr_le a b (D.mo a k + D.mo k b)).2 h2
      rw [hm]; omega
    · have hm : (D.stp k).mo a b = D.mo a b := if_neg e
      rw [hm]; exact h3
  · obtain ⟨c, hc, rfl, hcl⟩ := drop_last es h1
    obtain ⟨z, h4, h5⟩ := (isWk_append x (e :: c) a b).1 hw
    obtain ⟨h6, h7, h8⟩ := h5
    rw [h2] at h8
    obtain ⟨c', es', g1, g2, g3, g4⟩ := tail_part c.length c (Nat.le_refl _) h8 (fun e' he' => hi e' (by rw [h1, ← hcl]; simp [he']))
    have hfst : isWk f n a k (x ++ [e]) := (isWk_append _ _ _ _).2 ⟨z, h4, h6, h7, h2⟩
    obtain ⟨q1, q2⟩ := h a k (x ++ [e]) hfst (fun e' he' => by
      rw [List.dropLast_concat] at he'
      have := hi e' (by rw [h1]; simp [he'])
      have := h3 e' he'
      omega)
    obtain ⟨q3, q4⟩ := h k b es' g2 g3
    have q5 := hn k c' hk g1
    have e0 : (D.kn a k && D.kn k b) = true := by rw [q1, q3]; rfl
    have hm : (D.stp k).mo a b = D.lsr a b (D.mo a k + D.mo k b) := if_pos e0
    have q6 := (D.lsr_le a b (D.mo a k + D.mo k b)).1
    refine ⟨by show (D.kn a b || (D.kn a k && D.kn k b)) = true; rw [e0]; simp, ?_⟩
    rw [hm]
    simp only [wt_append, wt] at q2 ⊢
    omega
theorem dM_cpl {f : Nat → Int} {n E : Nat} (hn : NoNeg E n f) : ∀ k, k ≤ E → (dM f n k).Cpl f n k
  | 0, _ => gM_cpl f n
  | k + 1, hk => Mx.stp_cpl (dM_cpl hn k (by omega)) hn (by omega)
theorem isWk_inner {E n : Nat} {f : Nat → Int} (hf : BOk E n f) : ∀ (es : List Nat) {u v : Nat}, isWk f n u v es → ∀ e, e ∈ es → bT f e < E
  | i :: es, _, _, h, e, he => by
    rcases List.mem_cons.1 he with rfl | he
    · exact (bT_eq hf h.1).2
    · exact isWk_inner hf es h.2.2 e he
/-- What is known of all events on the way: just the least that chains allow. -/
theorem dM_min {E n : Nat} {f : Nat → Int} (hf : BOk E n f) (hn : NoNeg E n f) (a b : Nat) : ((dM f n E).kn a b = true → IsMin f n a b ((dM f n E).mo a b)) ∧ ((∃ es, isWk f n a b es) → (dM f n E).kn a b = true) := by
  have hc := dM_cpl hn E (Nat.le_refl _)
  have hall : ∀ es, isWk f n a b es → (dM f n E).kn a b = true ∧ (dM f n E).mo a b ≤ wt f es := fun es hw => hc a b es hw (fun e he => isWk_inner hf es hw e (List.dropLast_subset _ he))
  refine ⟨fun hk => ?_, fun ⟨es, hw⟩ => (hall es hw).1⟩
  obtain ⟨es, h1, h2⟩ := dM_snd f n E a b hk
  exact ⟨⟨es, h1, h2⟩, fun es' hw => (hall es' hw).2⟩
/-- So they are what the program finds from the event 0, and to it. -/
theorem dM_up {E n : Nat} {f : Nat → Int} (hf : BOk E n f) (hn : NoNeg E n f) (v : Nat) : (dM f n E).kn 0 v = (ptU f n E).kn v ∧ ((ptU f n E).kn v = true → (dM f n E).mo 0 v = (ptU f n E).mo v) := by
  have h1 := dM_min hf hn 0 v
  have h2 := ptU_min hf hn v
  have e : (dM f n E).kn 0 v = (ptU f n E).kn v := by
    rw [Bool.eq_iff_iff]
    constructor
    · intro h
      obtain ⟨⟨es, hw, _⟩, _⟩ := h1.1 h
      exact h2.2 ⟨es, hw⟩
    · intro h
      obtain ⟨⟨es, hw, _⟩, _⟩ := h2.1 h
      exact h1.2 ⟨es, hw⟩
  exact ⟨e, fun h => (h1.1 (e.trans h)).eq (h2.1 h)⟩
theorem dM_down {E n : Nat} {f : Nat → Int} (hf : BOk E n f) (hn : NoNeg E n f) (v : Nat) : (dM f n E).kn v 0 = (ptD f n E).kn v ∧ ((ptD f n E).kn v = true → (dM f n E).mo v 0 = (ptD f n E).mo v) := by
  have h1 := dM_min hf hn v 0
  have h2 := ptD_min hf hn v
  have e : (dM f n E).kn v 0 = (ptD f n E).kn v := by
    rw [Bool.eq_iff_iff]
    constructor
    · intro h
      obtain ⟨⟨es, hw, _⟩, _⟩ := h1.1 h
      exact h2.2 ⟨es, hw⟩
    · intro h
      obtain ⟨⟨es, hw, _⟩, _⟩ := h2.1 h
      exact h1.2 ⟨es, hw⟩
  exact ⟨e, fun h => (h1.1 (e.trans h)).eq (h2.1 h)⟩
end Go.Proofs.Ytonlamkpehakdaa
