/-
  WORDS: the least and the greatest place with enough votes; WALKS: the reference's votes.
-/
import Derived.Test.YteinabcklmpcjaaPvF
import Derived.BigQuiet
import Derived.Deep.QuietTactic
namespace Go.Proofs.Yteinabcklmpcjaa
open Go.RowKit

theorem vts_mono {f : Nat → Int} {x y : Int} : ∀ n, (∀ j, j < n → f (j * 2) ≤ x ∧ x ≤ f (j * 2 + 1) → f (j * 2) ≤ y ∧ y ≤ f (j * 2 + 1)) → vts f x n ≤ vts f y n
  | 0, _ => Int.le_refl _
  | n + 1, h => by
    have ih := vts_mono n (fun j hj => h j (by omega))
    have hn := h n (by omega)
    simp only [vts]
    by_cases h1 : f (n * 2) ≤ x ∧ x ≤ f (n * 2 + 1)
    · rw [if_pos h1, if_pos (hn h1)]; omega
    · rw [if_neg h1]; split <;> omega
theorem max_lo {f : Nat → Int} {x : Int} : ∀ n, 1 ≤ vts f x n → ∃ i, i < n ∧ (f (i * 2) ≤ x ∧ x ≤ f (i * 2 + 1)) ∧ ∀ j, j < n → f (j * 2) ≤ x ∧ x ≤ f (j * 2 + 1) → f (j * 2) ≤ f (i * 2)
  | 0, h => by simp [vts] at h
  | n + 1, h => by
    by_cases h0 : 1 ≤ vts f x n
    · obtain ⟨i, hi, hc, hm⟩ := max_lo n h0
      by_cases h1 : (f (n * 2) ≤ x ∧ x ≤ f (n * 2 + 1)) ∧ f (i * 2) < f (n * 2)
      · refine ⟨n, by omega, h1.1, fun j hj hjc => ?_⟩
        by_cases e : j = n
        · subst e; exact Int.le_refl _
        · have := hm j (by omega) hjc; omega
      · refine ⟨i, by omega, hc, fun j hj hjc => ?_⟩
        by_cases e : j = n
        · subst e
          by_cases h2 : f (i * 2) < f (j * 2)
          · exact absurd ⟨hjc, h2⟩ h1
          · omega
        · exact hm j (by omega) hjc
    · have hb := vts_bd f x n
      have h2 : f (n * 2) ≤ x ∧ x ≤ f (n * 2 + 1) := by
        simp only [vts] at h
        by_cases h3 : f (n * 2) ≤ x ∧ x ≤ f (n * 2 + 1)
        · exact h3
        · rw [if_neg h3] at h; omega
      refine ⟨n, by omega, h2, fun j hj hjc => ?_⟩
      by_cases e : j = n
      · subst e; exact Int.le_refl _
      · exfalso
        have : ∀ n, j < n → 1 ≤ vts f x n := by
          intro n
          induction n with
          | zero => intro h; omega
          | succ n ih =>
            intro hjn
            have hb := vts_bd f x n
            simp only [vts]
            by_cases e : j = n
            · subst e; rw [if_pos hjc]; omega
            · have := ih (by omega); split <;> omega
        exact h0 (this n (by omega))
theorem min_hi {f : Nat → Int} {x : Int} : ∀ n, 1 ≤ vts f x n → ∃ i, i < n ∧ (f (i * 2) ≤ x ∧ x ≤ f (i * 2 + 1)) ∧ ∀ j, j < n → f (j * 2) ≤ x ∧ x ≤ f (j * 2 + 1) → f (i * 2 + 1) ≤ f (j * 2 + 1)
  | 0, h => by simp [vts] at h
  | n + 1, h => by
    by_cases h0 : 1 ≤ vts f x n
    · obtain ⟨i, hi, hc, hm⟩ := min_hi n h0
      by_cases h1 : (f (n * 2) ≤ x ∧ x ≤ f (n * 2 + 1)) ∧ f (n * 2 + 1) < f (i * 2 + 1)
      · refine ⟨n, by omega, h1.1, fun j hj hjc => ?_⟩
        by_cases e : j = n
        · subst e; exact Int.le_refl _
        · have := hm j (by omega) hjc; omega
      · refine ⟨i, by omega, hc, fun j hj hjc => ?_⟩
        by_cases e : j = n
        · subst e
          by_cases h2 : f (j * 2 + 1) < f (i * 2 + 1)
          · exact absurd ⟨hjc, h2⟩ h1
          · omega
        · exact hm j (by omega) hjc
    · have hb := vts_bd f x n
      have h2 : f (n * 2) ≤ x ∧ x ≤ f (n * 2 + 1) := by
        simp only [vts] at h
        by_cases h3 : f (n * 2) ≤ x ∧ x ≤ f (n * 2 + 1)
        · exact h3
        · rw [if_neg h3] at h; omega
      refine ⟨n, by omega, h2, fun j hj hjc => ?_⟩
      by_cases e : j = n
      · subst e; exact Int.le_refl _
      · exfalso
        have : ∀ n, j < n → 1 ≤ vts f x n := by
          intro n
          induction n with
          | zero => intro h; omega
          | succ n ih =>
            intro hjn
            have hb := vts_bd f x n
            simp only [vts]
            by_cases e : j = n
            · subst e; rw [if_pos hjc]; omega
            · have := ih (by omega); split <;> omega
        exact h0 (this n (by omega))
/-- A place with enough votes: a range begins at or ahead of it, and one ends at or behind it, with as many. -/
theorem vts_ends {f : Nat → Int} {n : Nat} {need x : Int} (h1 : 1 ≤ need) (h : need ≤ vts f x n) : (∃ i, i < n ∧ f (i * 2) ≤ x ∧ need ≤ vts f (f (i * 2)) n) ∧ ∃ i, i < n ∧ x ≤ f (i * 2 + 1) ∧ need ≤ vts f (f (i * 2 + 1)) n := by
  obtain ⟨i, hi, hc, hm⟩ := max_lo (f := f) (x := x) n (by omega)
  obtain ⟨k, hk, hck, hmk⟩ := min_hi (f := f) (x := x) n (by omega)
  refine ⟨⟨i, hi, hc.1, ?_⟩, ⟨k, hk, hck.2, ?_⟩⟩
  · refine Int.le_trans h (vts_mono n fun j hj hjc => ?_)
    have := hm j hj hjc; omega
  · refine Int.le_trans h (vts_mono n fun j hj hjc => ?_)
    have := hmk j hj hjc; omega

/-- The least Lo, the greatest Hi with enough votes, of the first k ranges. -/
def rlo (f : Nat → Int) (n : Nat) (need : Int) : Nat → Int
  | 0 => 1073741825
  | k + 1 => if need ≤ vts f (f (k * 2)) n then min (rlo f n need k) (f (k * 2)) else rlo f n need k
def rhi (f : Nat → Int) (n : Nat) (need : Int) : Nat → Int
  | 0 => -1073741825
  | k + 1 => if need ≤ vts f (f (k * 2 + 1)) n then max (rhi f n need k) (f (k * 2 + 1)) else rhi f n need k
theorem rlo_spec {f : Nat → Int} {n : Nat} {need : Int} (hb : ∀ i, i < n → f (i * 2) ≤ 1073741824) : ∀ k, k ≤ n → (rlo f n need k = 1073741825 ∧ ∀ i, i < k → vts f (f (i * 2)) n < need) ∨ (∃ i, i < k ∧ rlo f n need k = f (i * 2) ∧ need ≤ vts f (f (i * 2)) n) ∧ ∀ i, i < k → need ≤ vts f (f (i * 2)) n → rlo f n need k ≤ f (i * 2)
  | 0, _ => .inl ⟨rfl, fun i hi => by omega⟩
  | k + 1, hk => by
    have ih := rlo_spec hb k (by omega) (need := need)
    have hbk := hb k (by omega)
    simp only [rlo]
    by_cases hv : need ≤ vts f (f (k * 2)) n
    · rw [if_pos hv]
      rcases ih with ⟨h1, h2⟩ | ⟨⟨i, hi, h1, h2⟩, h3⟩
      · refine .inr ⟨⟨k, by omega, by omega, hv⟩, fun i hi hvi => ?_⟩
        by_cases e : i = k
        · subst e; omega
        · have := h2 i (by omega); omega
      · refine .inr ⟨?_, fun j hj hvj => ?_⟩
        · by_cases h4 : f (i * 2) ≤ f (k * 2)
          · exact ⟨i, by omega, by omega, h2⟩
          · exact ⟨k, by omega, by omega, hv⟩
        · by_cases e : j = k
          · subst e; omega
          · have := h3 j (by omega) hvj; omega
    · rw [if_neg hv]
      rcases ih with ⟨h1, h2⟩ | ⟨⟨i, hi, h1, h2⟩, h3⟩
      · refine .inl ⟨h1, fun i hi => ?_⟩
        by_cases e : i = k
        · subst e; omega
        · exact h2 i (by omega)
      · refine .inr ⟨⟨i, by omega, h1, h2⟩, fun j hj hvj => ?_⟩
        by_cases e : j = k
        · subst e; exact absurd hvj hv
        · exact h3 j (by omega) hvj
theorem rhi_spec {f : Nat → Int} {n : Nat} {need : Int} (hb : ∀ i, i < n → -1073741824 ≤ f (i * 2 + 1)) : ∀ k, k ≤ n → (rhi f n need k = -1073741825 ∧ ∀ i, i < k → vts f (f (i * 2 + 1)) n < need) ∨ (∃ i, i < k ∧ rhi f n need k = f (i * 2 + 1) ∧ need ≤ vts f (f (i * 2 + 1)) n) ∧ ∀ i, i < k → need ≤ vts f (f (i * 2 + 1)) n → f (i * 2 + 1) ≤ rhi f n need k
  | 0, _ => .inl ⟨rfl, fun i hi => by omega⟩
  | k + 1, hk => by
    have ih := rhi_spec hb k (by omega) (need := need)
    have hbk := hb k (by omega)
    simp only [rhi]
    by_cases hv : need ≤ vts f (f (k * 2 + 1)) n
    · rw [if_pos hv]
      rcases ih with ⟨h1, h2⟩ | ⟨⟨i, hi, h1, h2⟩, h3⟩
      · refine .inr ⟨⟨k, by omega, by omega, hv⟩, fun i hi hvi => ?_⟩
        by_cases e : i = k
        · subst e; omega
        · have := h2 i (by omega); omega
      · refine .inr ⟨?_, fun j hj hvj => ?_⟩
        · by_cases h4 : f (k * 2 + 1) ≤ f (i * 2 + 1)
          · exact ⟨i, by omega, by omega, h2⟩
          · exact ⟨k, by omega, by omega, hv⟩
        · by_cases e : j = k
          · subst e; omega
          · have := h3 j (by omega) hvj; omega
    · rw [if_neg hv]
      rcases ih with ⟨h1, h2⟩ | ⟨⟨i, hi, h1, h2⟩, h3⟩
      · refine .inl ⟨h1, fun i hi => ?_⟩
        by_cases e : i = k
        · subst e; omega
        · exact h2 i (by omega)
      · refine .inr ⟨⟨i, by omega, h1, h2⟩, fun j hj hvj => ?_⟩
        by_cases e : j = k
        · subst e; exact absurd hvj hv
        · exact h3 j (by omega) hvj
/-- What the reference tells. -/
theorem ref_vote {n : Nat} {f : Nat → Int} {v : Int} (h0 : voE n f v = 0) : (rhi f n ((n : Int) - v) n < rlo f n ((n : Int) - v) n ∧ VoteOut n f v 0 0 5) ∨ (¬rhi f n ((n : Int) - v) n < rlo f n ((n : Int) - v) n ∧ VoteOut n f v (rlo f n ((n : Int) - v) n) (rhi f n ((n : Int) - v) n) 0) := by
  obtain ⟨h1, h2, h3⟩ := voE_ok h0
  have hl := rlo_spec (f := f) (need := (n : Int) - v) (fun i hi => by have := h3 i hi; omega) n (Nat.le_refl _)
  have hh := rhi_spec (f := f) (need := (n : Int) - v) (fun i hi => by have := h3 i hi; omega) n (Nat.le_refl _)
  by_cases hlt : rhi f n ((n : Int) - v) n < rlo f n ((n : Int) - v) n
  · refine .inl ⟨hlt, .inr (.inl ⟨h0, fun x => ?_, rfl, rfl, rfl⟩)⟩
    by_cases hx : (n : Int) - v ≤ vts f x n
    · exfalso
      obtain ⟨⟨i, hi, hix, hiv⟩, k, hk, hkx, hkv⟩ := vts_ends (by omega) hx
      rcases hl with ⟨_, a⟩ | ⟨_, a⟩
      · have := a i hi; omega
      · have a2 := a i hi hiv
        rcases hh with ⟨_, b⟩ | ⟨_, b⟩
        · have := b k hk; omega
        · have := b k hk hkv; omega
    · omega
  · refine .inr ⟨hlt, .inr (.inr ⟨h0, ?_, rfl⟩)⟩
    rcases hl with ⟨a, _⟩ | ⟨⟨i, hi, a1, a2⟩, a3⟩
    · exfalso
      rcases hh with ⟨b, _⟩ | ⟨⟨k, hk, b1, b2⟩, b3⟩
      · omega
      · have := h3 k hk; omega
    · rcases hh with ⟨b, _⟩ | ⟨⟨k, hk, b1, b2⟩, b3⟩
      · exfalso
        have := h3 i hi; omega
      · exact ⟨⟨i, hi, a1, by rw [a1]; exact a2⟩, ⟨k, hk, b1, by rw [b1]; exact b2⟩, a3, b3, by omega⟩

set_option maxRecDepth 100000 in
set_option maxHeartbeats 4000000 in
theorem votes_of (w : World) (a : Option Addr) (n c : Nat) (f : Nat → Int) (x : Int) (hn : n ≤ 16) (hS : Sl w 2 a n f) :
    Calls Try.prog 65 #[.slice a n c, .int .i64 x] w fun e w' => e = .returned (.int .i64 (vts f x n)) ∧ Below w.heap.size w w' := by
  have HS := Lib.hid hS
  clear hS
  go_enter Try.func65, Try.ntmps65
  go_wp2_with fail
  go_loopw [5, 6] (fun vo vi wr => ∃ i : Nat, i ≤ n ∧ vi = .int .i64 i ∧ vo = .int .i64 (vts f x i) ∧ Hid (Below w.heap.size w wr)) (fun _ vi _ => n - (intOf vi).toNat)
  case atStart => exact ⟨0, by omega, rfl, rfl, Below.refl _ _⟩
  case round =>
    obtain ⟨i, hi, rfl, rfl, HK⟩ := hrel
    have hb := HK.out
    by_cases hlt : i < n
    · obtain ⟨b, o, rfl, hI⟩ := HS.out (by omega)
      have hJ := hI.keep hb (hI.lt (by omega))
      have d0 := hJ (i * 2) (by omega)
      have d1 := hJ.at (i * 2) 1 (by omega)
      have hv : vts f x (i + 1) = vts f x i + if f (i * 2) ≤ x ∧ x ≤ f (i * 2 + 1) then 1 else 0 := rfl
      have hbd := vts_bd f x i
      clear hI hJ
      generalize f (i * 2) = X at d0 hv
      generalize f (i * 2 + 1) = Y at d1 hv
      generalize vts f x i = S at hv hbd ⊢
      by_cases hc : X ≤ x ∧ x ≤ Y
      · rw [if_pos hc] at hv
        have K := Lib.hid (show true = decide (X ≤ x ∧ x ≤ Y) by symm; rw [decide_eq_true_iff]; exact hc)
        have HV := Lib.hid hv
        clear hc hv
        go_wp2_with fail
        go_quiet ((go_at_call 50; with_reducible exact Calls.quiet_of_same (wi_of _ _ _ _ _ K.out)))
        go_wp2_with fail
        exact ⟨⟨i + 1, by omega, by go_num, by rw [HV.out], ⟨hb.os, hb.tape, hb.output, hb.size, hb.block⟩⟩, by simp [intOf]; omega⟩
      · rw [if_neg hc, Int.add_zero] at hv
        have K := Lib.hid (show false = decide (X ≤ x ∧ x ≤ Y) by symm; rw [decide_eq_false_iff_not]; exact hc)
        have HV := Lib.hid hv
        clear hc hv
        go_wp2_with fail
        go_quiet ((go_at_call 50; with_reducible exact Calls.quiet_of_same (wi_of _ _ _ _ _ K.out)))
        go_wp2_with fail
        exact ⟨⟨i + 1, by omega, by go_num, by rw [HV.out], ⟨hb.os, hb.tape, hb.output, hb.size, hb.block⟩⟩, by simp [intOf]; omega⟩
    · obtain rfl : i = n := by omega
      go_wp2_with fail
      go_ret
      exact ⟨rfl, HK.out⟩
end Go.Proofs.Yteinabcklmpcjaa
