/-
  NUMBERS and WORDS: tools that are smaller, bends that are wider; a line's items copied.
-/
import Derived.Test.YtbpifllkimkokaaDoorLnK
import Derived.Test.YtbpifllkimkokaaDoorLnM
import Derived.Test.YtbpifllkimkokaaDoorLnP
namespace Go.Proofs.YtbpifllkimkokaaDoor
open Go.RowKit

theorem firstNot_cases (p : Nat → Bool) (n : Nat) : (firstNot p n = -1 ∧ ∀ j, j < n → p j = true) ∨ (∃ i : Nat, i < n ∧ firstNot p n = (i : Int) ∧ p i = false ∧ ∀ j, j < i → p j = true) := by
  unfold firstNot
  cases h : (List.range n).find? (fun i => !p i) with
  | none =>
    left
    rw [List.find?_eq_none] at h
    refine ⟨rfl, fun j hj => ?_⟩
    have := h j (by simpa using hj)
    simpa using this
  | some i =>
    right
    rw [List.find?_range_eq_some] at h
    obtain ⟨h1, h2, h3⟩ := h
    exact ⟨i, by simpa using h2, rfl, by simpa using h1, fun j hj => by simpa using h3 j hj⟩
/-- What passes more is stopped later. -/
theorem firstNot_mono {p q : Nat → Bool} {n : Nat} (h : ∀ j, j < n → p j = true → q j = true) :
    (firstNot p n = -1 ∧ firstNot q n = -1) ∨ (0 ≤ firstNot p n ∧ firstNot q n = -1) ∨ (0 ≤ firstNot p n ∧ firstNot p n ≤ firstNot q n) := by
  rcases firstNot_cases p n with ⟨h1, h2⟩ | ⟨i, hi, h1, h2, h3⟩
  · exact .inl ⟨h1, firstNot_none fun j hj => h j hj (h2 j hj)⟩
  · rcases firstNot_cases q n with ⟨k1, _⟩ | ⟨j, hj, k1, k2, k3⟩
    · exact .inr (.inl ⟨by omega, k1⟩)
    · refine .inr (.inr ⟨by omega, ?_⟩)
      rcases Nat.lt_or_ge j i with h4 | h4
      · have := h j hj (h3 j h4)
        rw [k2] at this
        cases this
      · omega

theorem sq_mono {a b : Int} (h0 : 0 ≤ a) (h : a ≤ b) : a * a ≤ b * b := Int.mul_le_mul h h h0 (by omega)
/-- A tool that is nowhere greater, and seals no less, passes too. -/
theorem psV_less {K L O W R S T N Q S' T' N' Q' : Int} (hR : K = 1 → O < 2 * R) (hW : 1 ≤ W) (hS : 1 ≤ S' ∧ S' ≤ S) (hT : 1 ≤ T' ∧ T' ≤ T) (hN : N' ≤ N) (hQ : Q ≤ Q') (h : psV K L O W R S T N Q = true) : psV K L O W R S' T' N' Q' = true := by
  unfold psV at h ⊢
  split at h
  · cases h
  · rename_i h1
    rw [if_neg (by omega)]
    split at h
    · rename_i h2
      rw [if_pos h2]
      simp only [decide_eq_true_eq] at h ⊢
      omega
    · rename_i h2
      rw [if_neg h2]
      split at h
      · rename_i h3
        rw [if_pos h3]
        simp only [decide_eq_true_eq] at h ⊢
        have hr := hR h3
        have a1 := sq_mono (a := 2 * R - (O - 2 * W) + 2 * T') (b := 2 * R - (O - 2 * W) + 2 * T) (by omega) (by omega)
        have a2 := sq_mono (a := S') (b := S) (by omega) (by omega)
        omega
      · rename_i h3
        rw [if_neg h3]
/-- A wider bend passes what the narrower one does. -/
theorem psV_wider {K L O W R R' S T N Q : Int} (_hT : 1 ≤ T) (hRR : R ≤ R') (h : psV K L O W R S T N Q = true) : psV K L O W R' S T N Q = true := by
  unfold psV at h ⊢
  split at h
  · cases h
  · rename_i h1
    rw [if_neg h1]
    split at h
    · rename_i h2
      rw [if_pos h2]
      exact h
    · rename_i h2
      rw [if_neg h2]
      split at h
      · rename_i h3
        rw [if_pos h3]
        simp only [decide_eq_true_eq] at h ⊢
        have hb : T ≤ O - 2 * W := by omega
        obtain ⟨d, rfl⟩ : ∃ d, R' = R + d := ⟨R' - R, by omega⟩
        have hd : 0 ≤ d := by omega
        have hm : 0 ≤ d * (O - 2 * W - T) := Int.mul_nonneg hd (by omega)
        have e : (2 * (R + d) + (O - 2 * W)) * (2 * (R + d) + (O - 2 * W)) - ((2 * (R + d) - (O - 2 * W) + 2 * T) * (2 * (R + d) - (O - 2 * W) + 2 * T)) =
          (2 * R + (O - 2 * W)) * (2 * R + (O - 2 * W)) - ((2 * R - (O - 2 * W) + 2 * T) * (2 * R - (O - 2 * W) + 2 * T)) + 8 * (d * (O - 2 * W - T)) := by grind
        omega
      · rename_i h3
        rw [if_neg h3]

/-- The items with wider bends: those ahead of k are done. -/
def wide1 (f : Nat → Int) (d : Int) (j : Nat) : Int := if f (j / 7 * 7) = 1 ∧ j % 7 = 6 then min 67108864 (f j + d) else f j
def wideF (f : Nat → Int) (d : Int) (k j : Nat) : Int := if j < k * 7 then wide1 f d j else f j
theorem irow_congr {f g : Nat → Int} {m : Nat} (h : ∀ j, j < m → f j = g j) : irow f m = irow g m := by
  unfold irow
  exact List.map_congr_left fun j hj => by rw [h j (by simpa using hj)]
theorem irow_set (f : Nat → Int) (m j : Nat) (x : Int) : (irow f m).set j (.int .i64 x) = irow (fun i => if i = j then x else f i) m := by
  apply List.ext_getElem?
  intro i
  rw [List.getElem?_set]
  by_cases hi : i < m
  · rw [irow_at _ hi, irow_at _ hi, irow_length]
    by_cases e : j = i
    · subst e; simp [hi]
    · rw [if_neg e, if_neg (fun e2 => e e2.symm)]
  · have h1 : (irow f m)[i]? = none := List.getElem?_eq_none (by rw [irow_length]; omega)
    have h2 : (irow (fun i => if i = j then x else f i) m)[i]? = none := List.getElem?_eq_none (by rw [irow_length]; omega)
    rw [h1, h2, irow_length]
    split
    · rw [if_neg (by omega)]
    · rfl
theorem wideF_zero (f : Nat → Int) (d : Int) (m : Nat) : irow (wideF f d 0) m = irow f m := irow_congr fun j _ => by unfold wideF; rw [if_neg (by omega)]
theorem wideF_bend (f : Nat → Int) (d : Int) (k m : Nat) (h : f (k * 7) = 1) : irow (fun i => if i = k * 7 + 6 then min 67108864 (f (k * 7 + 6) + d) else wideF f d k i) m = irow (wideF f d (k + 1)) m :=
  irow_congr fun j _ => by
    show (if j = k * 7 + 6 then _ else _) = _
    unfold wideF
    by_cases h1 : j < k * 7
    · rw [if_neg (by omega), if_pos h1, if_pos (by omega)]
    · by_cases h2 : j < (k + 1) * 7
      · rw [if_pos h2, if_neg h1]
        have hq : j / 7 * 7 = k * 7 := by omega
        unfold wide1
        rw [hq]
        by_cases h3 : j = k * 7 + 6
        · rw [if_pos h3, if_pos ⟨h, by omega⟩, h3]
        · rw [if_neg h3, if_neg (by omega)]
      · rw [if_neg (by omega), if_neg h1, if_neg h2]
theorem wideF_other (f : Nat → Int) (d : Int) (k m : Nat) (h : f (k * 7) ≠ 1) : irow (wideF f d k) m = irow (wideF f d (k + 1)) m :=
  irow_congr fun j _ => by
    unfold wideF
    by_cases h1 : j < k * 7
    · rw [if_pos h1, if_pos (by omega)]
    · by_cases h2 : j < (k + 1) * 7
      · rw [if_pos h2, if_neg h1]
        have hq : j / 7 * 7 = k * 7 := by omega
        unfold wide1
        rw [hq, if_neg (by omega)]
      · rw [if_neg h1, if_neg h2]
theorem wideF_all (f : Nat → Int) (d : Int) (n : Nat) : irow (wideF f d n) (n * 7) = irow (wide1 f d) (n * 7) := irow_congr fun j hj => by unfold wideF; rw [if_pos hj]
/-- What item k has behind and ahead of its turn. -/
theorem wideF_at (f : Nat → Int) (d : Int) (k j : Nat) : wideF f d k (k * 7 + j) = f (k * 7 + j) := by unfold wideF; rw [if_neg (by omega)]
theorem wide1_item (f : Nat → Int) (d : Int) (i : Nat) :
    wide1 f d (i * 7) = f (i * 7) ∧ wide1 f d (i * 7 + 1) = f (i * 7 + 1) ∧ wide1 f d (i * 7 + 2) = f (i * 7 + 2) ∧ wide1 f d (i * 7 + 3) = f (i * 7 + 3) ∧ wide1 f d (i * 7 + 4) = f (i * 7 + 4) ∧ wide1 f d (i * 7 + 5) = f (i * 7 + 5) ∧
    wide1 f d (i * 7 + 6) = if f (i * 7) = 1 then min 67108864 (f (i * 7 + 6) + d) else f (i * 7 + 6) := by
  unfold wide1
  refine ⟨?_, ?_, ?_, ?_, ?_, ?_, ?_⟩
  · rw [if_neg (by omega)]
  · rw [if_neg (by omega)]
  · rw [if_neg (by omega)]
  · rw [if_neg (by omega)]
  · rw [if_neg (by omega)]
  · rw [if_neg (by omega)]
  · have e : (i * 7 + 6) / 7 * 7 = i * 7 := by omega
    rw [e]
    by_cases h : f (i * 7) = 1
    · rw [if_pos ⟨h, by omega⟩, if_pos h]
    · rw [if_neg (fun hh => h hh.1), if_neg h]
theorem itErr_wider {K L O W G S R R' : Int} (h : itErr K L O W G S R = 0) (h1 : K = 1 → R ≤ R' ∧ R' ≤ 67108864) (h2 : K ≠ 1 → R' = R) : itErr K L O W G S R' = 0 := by
  unfold itErr at h ⊢
  split at h
  · omega
  · rename_i a1
    rw [if_neg a1]
    split at h
    · omega
    · rename_i a2
      rw [if_neg a2]
      split at h
      · omega
      · rename_i a3
        rw [if_neg (by omega)]
        split at h
        · omega
        · rename_i a4
          rw [if_neg (by omega)]
theorem itAt_wider (f : Nat → Int) (d : Int) (hd : 0 ≤ d) (i : Nat) (h : itAt f i = 0) : itAt (wide1 f d) i = 0 := by
  have hw := wide1_item f d i
  unfold itAt at h ⊢
  rw [hw.1, hw.2.1, hw.2.2.1, hw.2.2.2.1, hw.2.2.2.2.1, hw.2.2.2.2.2.1, hw.2.2.2.2.2.2]
  have hk := itErr_ok h
  refine itErr_wider h (fun hK => ?_) (fun hK => by rw [if_neg hK])
  rw [if_pos hK]
  omega
theorem psAt_wider (f : Nat → Int) (d : Int) (hd : 0 ≤ d) (S T N Q : Int) (hT : 1 ≤ T) (i : Nat) (h0 : itAt f i = 0) (h : psAt f S T N Q i = true) : psAt (wide1 f d) S T N Q i = true := by
  have hw := wide1_item f d i
  have hk := itErr_ok h0
  unfold psAt at h ⊢
  rw [hw.1, hw.2.1, hw.2.2.1, hw.2.2.2.1, hw.2.2.2.2.2.2]
  refine psV_wider hT ?_ h
  split <;> omega
theorem psAt_less (f : Nat → Int) (S T N Q S' T' N' Q' : Int) (hS : 1 ≤ S' ∧ S' ≤ S) (hT : 1 ≤ T' ∧ T' ≤ T) (hN : N' ≤ N) (hQ : Q ≤ Q') (i : Nat) (h0 : itAt f i = 0) (h : psAt f S T N Q i = true) : psAt f S' T' N' Q' i = true := by
  have hk := itErr_ok h0
  exact psV_less (fun hK => hk.2.2.2.2.2.2.2.2.2 hK) hk.2.2.2.1.1 hS hT hN hQ h
theorem chk_wider (f : Nat → Int) (d : Int) (hd : 0 ≤ d) (n : Nat) (z m : Nat → Int) (hn : 1 ≤ n ∧ n ≤ 64) (h : ∀ i, i < n → itAt f i = 0) : chk n 0 0 (wide1 f d) z m = 0 := by
  unfold chk
  have h1 : first (itAt (wide1 f d)) n = 0 := first_zero fun i hi => itAt_wider f d hd i (h i hi)
  rw [if_neg (by omega), if_neg (by rw [h1]; decide), if_neg (by simp [first])]
  rfl
end Go.Proofs.YtbpifllkimkokaaDoor
