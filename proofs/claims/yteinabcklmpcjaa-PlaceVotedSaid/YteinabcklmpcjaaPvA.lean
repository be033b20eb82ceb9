/-
  WORDS: votes of ranges, and the sweep over the places where they begin and end.
-/
import Derived.Test.YteinabcklmpcjaaPlA
namespace Go.Proofs.Yteinabcklmpcjaa
open Go.RowKit

/-- How many of the first n ranges have x. -/
def vts (f : Nat → Int) (x : Int) : Nat → Int
  | 0 => 0
  | n + 1 => vts f x n + if f (n * 2) ≤ x ∧ x ≤ f (n * 2 + 1) then 1 else 0
theorem vts_bd (f : Nat → Int) (x : Int) : ∀ n : Nat, 0 ≤ vts f x n ∧ vts f x n ≤ n
  | 0 => by simp [vts]
  | n + 1 => by have := vts_bd f x n; simp only [vts]; push_cast; split <;> omega

/-- The sum of the first k steps; the state behind the first k turns: where a place was found, one behind its number; the last end, one behind its number. -/
def hSum (T : Nat → Int × Int) : Nat → Int
  | 0 => 0
  | k + 1 => hSum T k + (T k).2
def fnd (T : Nat → Int × Int) (need : Int) : Nat → Nat
  | 0 => 0
  | k + 1 => if fnd T need k = 0 ∧ 0 < (T k).2 ∧ hSum T (k + 1) = need then k + 1 else fnd T need k
def lst (T : Nat → Int × Int) (need : Int) : Nat → Nat
  | 0 => 0
  | k + 1 => if (T k).2 < 0 ∧ hSum T (k + 1) = need - 1 then k + 1 else lst T need k
/-- Steps are 1 or -1. -/
def Unit1 (T : Nat → Int × Int) (N : Nat) : Prop := ∀ k, k < N → (T k).2 = 1 ∨ (T k).2 = -1
theorem fnd_none {T : Nat → Int × Int} {need : Int} {N : Nat} (hu : Unit1 T N) (hn : 1 ≤ need) : ∀ k, k ≤ N → fnd T need k = 0 → ∀ j, j ≤ k → hSum T j < need
  | 0, _, _, j, hj => by
    obtain rfl : j = 0 := by omega
    simp only [hSum]; omega
  | k + 1, hk, h, j, hj => by
    simp only [fnd] at h
    by_cases hc : fnd T need k = 0 ∧ 0 < (T k).2 ∧ hSum T (k + 1) = need
    · rw [if_pos hc] at h; omega
    · rw [if_neg hc] at h
      have ih := fnd_none hu hn k (by omega) h
      by_cases e : j = k + 1
      · subst e
        have h1 := ih k (Nat.le_refl _)
        have h2 := hu k (by omega)
        have h3 : hSum T (k + 1) = hSum T k + (T k).2 := rfl
        by_cases h4 : hSum T (k + 1) = need
        · exact absurd ⟨h, by omega, h4⟩ hc
        · omega
      · exact ih j (by omega)
theorem fnd_some {T : Nat → Int × Int} {need : Int} {N : Nat} (hu : Unit1 T N) (hn : 1 ≤ need) : ∀ k, k ≤ N → ∀ j, fnd T need k = j + 1 → j < k ∧ (T j).2 = 1 ∧ hSum T (j + 1) = need ∧ ∀ i, i ≤ j → hSum T i < need
  | 0, _, j, h => by simp [fnd] at h
  | k + 1, hk, j, h => by
    simp only [fnd] at h
    by_cases hc : fnd T need k = 0 ∧ 0 < (T k).2 ∧ hSum T (k + 1) = need
    · rw [if_pos hc] at h
      obtain rfl : k = j := by omega
      have := hu k (by omega)
      exact ⟨by omega, by omega, hc.2.2, fnd_none hu hn k (by omega) hc.1⟩
    · rw [if_neg hc] at h
      obtain ⟨h1, h2⟩ := fnd_some hu hn k (by omega) j h
      exact ⟨by omega, h2⟩
theorem lst_some {T : Nat → Int × Int} {need : Int} {N : Nat} (hu : Unit1 T N) : ∀ k, k ≤ N → ∀ j, lst T need k = j + 1 → j < k ∧ (T j).2 = -1 ∧ hSum T j = need
  | 0, _, j, h => by simp [lst] at h
  | k + 1, hk, j, h => by
    simp only [lst] at h
    by_cases hc : (T k).2 < 0 ∧ hSum T (k + 1) = need - 1
    · rw [if_pos hc] at h
      obtain rfl : k = j := by omega
      have h2 := hu k (by omega)
      have h3 : hSum T (k + 1) = hSum T k + (T k).2 := rfl
      exact ⟨by omega, by omega, by omega⟩
    · rw [if_neg hc] at h
      obtain ⟨h1, h2⟩ := lst_some hu k (by omega) j h
      exact ⟨by omega, h2⟩
theorem lst_late {T : Nat → Int × Int} {need : Int} {N : Nat} (hu : Unit1 T N) : ∀ k, k ≤ N → ∀ m, m ≤ k → need ≤ hSum T m → need ≤ hSum T k ∨ m < lst T need k
  | 0, _, m, hm, h => by
    obtain rfl : m = 0 := by omega
    exact .inl h
  | k + 1, hk, m, hm, h => by
    simp only [lst]
    by_cases e : m = k + 1
    · subst e; exact .inl h
    · have ih := lst_late hu k (by omega) m (by omega) h
      have h2 := hu k (by omega)
      have h3 : hSum T (k + 1) = hSum T k + (T k).2 := rfl
      by_cases hc : (T k).2 < 0 ∧ hSum T (k + 1) = need - 1
      · rw [if_pos hc]; exact .inr (by omega)
      · rw [if_neg hc]
        rcases ih with ih | ih
        · by_cases h5 : need ≤ hSum T (k + 1)
          · exact .inl h5
          · exact absurd ⟨by omega, by omega⟩ hc
        · exact .inr ih

/-- What the sorted turns have to do with the ranges: behind the first K x of them, all that begin up to x have begun, and just those have ended that end ahead of x. -/
structure Swp (T : Nat → Int × Int) (N n : Nat) (f : Nat → Int) : Prop where
  unit : Unit1 T N
  sum : hSum T N = 0
  cut : ∀ x : Int, ∃ K, K ≤ N ∧ hSum T K = vts f x n ∧ (∀ j, j < K → (T j).1 < x ∨ ((T j).1 = x ∧ (T j).2 = 1)) ∧ ∀ j, K ≤ j → j < N → x < (T j).1 ∨ ((T j).1 = x ∧ (T j).2 = -1)
  lo : ∀ j, j < N → (T j).2 = 1 → ∃ i, i < n ∧ (T j).1 = f (i * 2)
  hi : ∀ j, j < N → (T j).2 = -1 → ∃ i, i < n ∧ (T j).1 = f (i * 2 + 1)
  srt : ∀ i j, i < j → j < N → (T i).1 ≤ (T j).1

theorem hSum_up {T : Nat → Int × Int} : ∀ (d k : Nat), (∀ j, k ≤ j → j < k + d → (T j).2 = 1) → hSum T k ≤ hSum T (k + d)
  | 0, k, _ => Int.le_refl _
  | d + 1, k, h => by
    have ih := hSum_up d k (fun j h1 h2 => h j h1 (by omega))
    have h1 := h (k + d) (by omega) (by omega)
    have h3 : hSum T (k + d + 1) = hSum T (k + d) + (T (k + d)).2 := rfl
    rw [show k + (d + 1) = k + d + 1 by omega]
    omega
theorem hSum_dn {T : Nat → Int × Int} : ∀ (d k : Nat), (∀ j, k ≤ j → j < k + d → (T j).2 = -1) → hSum T (k + d) ≤ hSum T k
  | 0, k, _ => Int.le_refl _
  | d + 1, k, h => by
    have ih := hSum_dn d k (fun j h1 h2 => h j h1 (by omega))
    have h1 := h (k + d) (by omega) (by omega)
    have h3 : hSum T (k + d + 1) = hSum T (k + d) + (T (k + d)).2 := rfl
    rw [show k + (d + 1) = k + d + 1 by omega]
    omega
/-- A beginning: no more than the votes for its place; an end: no more were there. -/
theorem Swp.start {T : Nat → Int × Int} {N n : Nat} {f : Nat → Int} (H : Swp T N n f) {j : Nat} (hj : j < N) (h1 : (T j).2 = 1) : hSum T (j + 1) ≤ vts f (T j).1 n := by
  obtain ⟨K, hK, hs, hb, ha⟩ := H.cut (T j).1
  have hjK : j < K := by
    by_cases h : j < K
    · exact h
    · rcases ha j (by omega) hj with h2 | ⟨_, h2⟩ <;> omega
  rw [← hs, show K = (j + 1) + (K - (j + 1)) by omega]
  refine hSum_up _ _ fun i hi hi2 => ?_
  rcases hb i (by omega) with h2 | ⟨_, h2⟩
  · have := H.srt j i (by omega) (by omega); omega
  · exact h2
theorem Swp.stop {T : Nat → Int × Int} {N n : Nat} {f : Nat → Int} (H : Swp T N n f) {j : Nat} (hj : j < N) (h1 : (T j).2 = -1) : hSum T j ≤ vts f (T j).1 n := by
  obtain ⟨K, hK, hs, hb, ha⟩ := H.cut (T j).1
  have hjK : K ≤ j := by
    by_cases h : K ≤ j
    · exact h
    · rcases hb j (by omega) with h2 | ⟨_, h2⟩ <;> omega
  rw [← hs, show j = K + (j - K) by omega]
  refine hSum_dn _ _ fun i hi hi2 => ?_
  rcases ha i hi (by omega) with h2 | ⟨_, h2⟩
  · have := H.srt i j (by omega) hj; omega
  · exact h2

/-- The least Lo, and the greatest Hi, with enough votes: what Vote tells. -/
structure VoteIs (n : Nat) (f : Nat → Int) (need lo hi : Int) : Prop where
  isLo : ∃ i, i < n ∧ lo = f (i * 2) ∧ need ≤ vts f lo n
  isHi : ∃ i, i < n ∧ hi = f (i * 2 + 1) ∧ need ≤ vts f hi n
  least : ∀ i, i < n → need ≤ vts f (f (i * 2)) n → lo ≤ f (i * 2)
  most : ∀ i, i < n → need ≤ vts f (f (i * 2 + 1)) n → f (i * 2 + 1) ≤ hi
  le : lo ≤ hi
theorem VoteIs.eq {n : Nat} {f : Nat → Int} {need lo hi lo' hi' : Int} (h : VoteIs n f need lo hi) (h' : VoteIs n f need lo' hi') : lo = lo' ∧ hi = hi' := by
  obtain ⟨i, hi1, rfl, hi2⟩ := h.isLo
  obtain ⟨j, hj1, rfl, hj2⟩ := h'.isLo
  obtain ⟨k, hk1, rfl, hk2⟩ := h.isHi
  obtain ⟨m, hm1, rfl, hm2⟩ := h'.isHi
  have a := h.least j hj1 hj2
  have b := h'.least i hi1 hi2
  have c := h.most m hm1 hm2
  have d := h'.most k hk1 hk2
  omega
/-- What the sweep finds. -/
theorem swp_found {T : Nat → Int × Int} {N n : Nat} {f : Nat → Int} {need : Int} (H : Swp T N n f) (hn : 1 ≤ need) {j : Nat} (h : fnd T need N = j + 1) : ∃ m, lst T need N = m + 1 ∧ VoteIs n f need (T j).1 (T m).1 := by
  obtain ⟨h1, h2, h3, h4⟩ := fnd_some H.unit hn N (Nat.le_refl _) j h
  have hs := H.sum
  have h5 : j + 1 < lst T need N := by
    rcases lst_late H.unit N (Nat.le_refl _) (j + 1) (by omega) (need := need) (by omega) with h5 | h5
    · omega
    · exact h5
  obtain ⟨m, hm⟩ : ∃ m, lst T need N = m + 1 := ⟨lst T need N - 1, by omega⟩
  obtain ⟨q1, q2, q3⟩ := lst_some H.unit N (Nat.le_refl _) m hm
  refine ⟨m, hm, ?_, ?_, ?_, ?_, ?_⟩
  · obtain ⟨i, hi, e⟩ := H.lo j h1 h2
    have := H.start h1 h2
    exact ⟨i, hi, e, by omega⟩
  · obtain ⟨i, hi, e⟩ := H.hi m q1 q2
    have := H.stop q1 q2
    exact ⟨i, hi, e, by omega⟩
  · intro i hi hv
    obtain ⟨K, hK, hs2, hb, ha⟩ := H.cut (f (i * 2))
    have hjK : j < K := by
      by_cases hh : j < K
      · exact hh
      · have := h4 K (by omega); omega
    rcases hb j hjK with h6 | ⟨h6, _⟩ <;> omega
  · intro i hi hv
    obtain ⟨K, hK, hs2, hb, ha⟩ := H.cut (f (i * 2 + 1))
    rcases lst_late H.unit N (Nat.le_refl _) K hK (need := need) (by omega) with h6 | h6
    · omega
    · rcases ha m (by omega) q1 with h7 | ⟨h7, _⟩ <;> omega
  · exact H.srt j m (by omega) q1
theorem swp_none {T : Nat → Int × Int} {N n : Nat} {f : Nat → Int} {need : Int} (H : Swp T N n f) (hn : 1 ≤ need) (h : fnd T need N = 0) : ∀ x, vts f x n < need := by
  intro x
  obtain ⟨K, hK, hs, _⟩ := H.cut x
  rw [← hs]
  exact fnd_none H.unit hn N (Nat.le_refl _) h K hK
end Go.Proofs.Yteinabcklmpcjaa
