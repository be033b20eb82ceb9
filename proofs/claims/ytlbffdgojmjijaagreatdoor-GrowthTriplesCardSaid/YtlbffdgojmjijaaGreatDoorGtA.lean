/-
  WALKS: GrowthTriples: what triples and the indices that no pair has come to.
-/
import Derived.Test.YtlbffdgojmjijaaGreatDoorGsH
namespace Go.Proofs.YtlbffdgojmjijaaGreatDoor
open Go.RowKit

/-- The pairs out of bytes. -/
def bpF (s : Nat → Int) (i : Nat) : Int := s i % 24
def bpok (s : Nat → Int) (n : Nat) : Prop := ∀ i, i < n * 2 → 0 ≤ s i ∧ s i ≤ 255
/-- Whether a pair is among the first n. -/
def hp (f : Nat → Int) (n : Nat) (x y : Int) : Bool := (List.range n).any fun j => decide (f (j * 2) = x) && decide (f (j * 2 + 1) = y)
theorem hp_iff {f : Nat → Int} {n : Nat} {x y : Int} : hp f n x y = true ↔ ∃ j, j < n ∧ f (j * 2) = x ∧ f (j * 2 + 1) = y := by
  unfold hp
  simp only [List.any_eq_true, List.mem_range, Bool.and_eq_true, decide_eq_true_eq]
theorem mem_tri {f g : Nat → Int} {i : Nat} {t : Tri} : ∀ {k : Nat}, t ∈ tri f g i k ↔ ∃ j, j < k ∧ g (j * 2) = f (i * 2 + 1) ∧ t = (f (i * 2), f (i * 2 + 1), g (j * 2 + 1))
  | 0 => by simp [tri]
  | k + 1 => by
    rw [tri, List.mem_append, mem_tri]
    constructor
    · rintro (⟨j, h1, h2⟩ | h)
      · exact ⟨j, by omega, h2⟩
      · by_cases e : g (k * 2) = f (i * 2 + 1)
        · rw [if_pos e, List.mem_singleton] at h
          exact ⟨k, by omega, e, h⟩
        · rw [if_neg e] at h; exact absurd h (by simp)
    · rintro ⟨j, h1, h2, h3⟩
      by_cases e : j = k
      · subst e
        exact .inr (by rw [if_pos h2, List.mem_singleton]; exact h3)
      · exact .inl ⟨j, by omega, h2, h3⟩
theorem mem_tris {f g : Nat → Int} {m : Nat} {t : Tri} : ∀ {n : Nat}, t ∈ tris f g m n ↔ ∃ i, i < n ∧ ∃ j, j < m ∧ g (j * 2) = f (i * 2 + 1) ∧ t = (f (i * 2), f (i * 2 + 1), g (j * 2 + 1))
  | 0 => by simp [tris]
  | n + 1 => by
    rw [tris, List.mem_append, mem_tris, mem_tri]
    constructor
    · rintro (⟨i, h1, h2⟩ | h)
      · exact ⟨i, by omega, h2⟩
      · exact ⟨n, by omega, h⟩
    · rintro ⟨i, h1, h2⟩
      by_cases e : i = n
      · subst e; exact .inr h2
      · exact .inl ⟨i, by omega, h2⟩
theorem tris_iff {f g : Nat → Int} {n m : Nat} {x y z : Int} : (x, y, z) ∈ tris f g m n ↔ hp f n x y = true ∧ hp g m y z = true := by
  rw [mem_tris, hp_iff, hp_iff]
  constructor
  · rintro ⟨i, h1, j, h2, h3, h4⟩
    simp only [Prod.mk.injEq] at h4
    exact ⟨⟨i, h1, h4.1.symm, h4.2.1.symm⟩, j, h2, by rw [h3, h4.2.1], h4.2.2.symm⟩
  · rintro ⟨⟨i, h1, h2, h3⟩, j, h4, h5, h6⟩
    exact ⟨i, h1, j, h4, by rw [h5, h3], by rw [h2, h3, h6]⟩
/-- A triple of a row. -/
theorem tf_succ (t : Tri) (l : List Tri) (i : Nat) : tf (t :: l) (i + 3) = tf l i := by
  unfold tf tints
  rw [List.flatMap_cons]
  show ([t.1, t.2.1, t.2.2] ++ _).getD (i + 3) 0 = _
  simp [List.getD]
theorem tf_at : ∀ (l : List Tri) (k : Nat) (h : k < l.length), tf l (k * 3) = (l[k]).1 ∧ tf l (k * 3 + 1) = (l[k]).2.1 ∧ tf l (k * 3 + 2) = (l[k]).2.2
  | t :: l, 0, _ => ⟨rfl, rfl, rfl⟩
  | t :: l, k + 1, h => by
    have h1 := tf_at l k (by simpa using h)
    rw [show (k + 1) * 3 = k * 3 + 3 by omega, show k * 3 + 3 + 1 = k * 3 + 1 + 3 by omega, show k * 3 + 3 + 2 = k * 3 + 2 + 3 by omega, tf_succ, tf_succ, tf_succ]
    exact h1
theorem hasP_suc (f : Nat → Int) (k side i : Nat) : hasP f (k + 1) side i = (hasP f k side i || decide (f (k * 2 + side) = (i : Int))) := by
  have h0 : first (fvP f side i) (k + 1) = if first (fvP f side i) k = 0 then fvP f side i k else first (fvP f side i) k := rfl
  have h1 : fvP f side i k = if f (k * 2 + side) = (i : Int) then (k : Int) + 1 else 0 := rfl
  unfold hasP
  generalize first (fvP f side i) (k + 1) = A at h0 ⊢
  generalize first (fvP f side i) k = B at h0 ⊢
  rw [h1] at h0
  clear h1
  by_cases h : B = 0
  · rw [if_pos h] at h0
    by_cases h2 : f (k * 2 + side) = (i : Int)
    · rw [if_pos h2] at h0
      have : A ≠ 0 := by omega
      simp [h, h2, this]
    · rw [if_neg h2] at h0
      simp [h, h2, h0]
  · rw [if_neg h] at h0
    subst h0
    simp [h]
theorem hasP_iff {f : Nat → Int} {side i : Nat} : ∀ {k : Nat}, hasP f k side i = true ↔ ∃ j, j < k ∧ f (j * 2 + side) = (i : Int)
  | 0 => by simp [hasP, first]
  | k + 1 => by
    rw [hasP_suc, Bool.or_eq_true, hasP_iff, decide_eq_true_iff]
    constructor
    · rintro (⟨j, h1, h2⟩ | h)
      · exact ⟨j, by omega, h2⟩
      · exact ⟨k, by omega, h⟩
    · rintro ⟨j, h1, h2⟩
      by_cases e : j = k
      · subst e; exact .inr h2
      · exact .inl ⟨j, by omega, h2⟩
theorem lone_more {f : Nat → Int} {k side x : Nat} (h0 : hasP f k side x = false) (hv : f (k * 2 + side) = (x : Int)) : ∀ N, (lone f (k + 1) side N).length + (if x < N then 1 else 0) = (lone f k side N).length
  | 0 => by simp [lone]
  | N + 1 => by
    have ih := lone_more h0 hv N
    rw [lone_succ, lone_succ, List.length_append, List.length_append, hasP_suc, hv]
    by_cases e : x = N
    · subst e
      rw [if_neg (by omega)] at ih
      simp [h0]
      omega
    · have e2 : ¬ (x : Int) = (N : Int) := by omega
      rw [decide_eq_false e2, Bool.or_false]
      have e3 : (if x < N + 1 then 1 else 0) = (if x < N then 1 else 0) := by
        have : x < N + 1 ↔ x < N := by omega
        simp only [this]
      rw [e3]
      generalize (if x < N then 1 else 0) = q at ih ⊢
      generalize (if hasP f k side N = true then ([] : List Nat) else [N]).length = z
      omega
theorem tw_no {f : Nat → Int} {k side : Nat} (hs : side = 0 ∨ side = 1) (h : tw f k = false) {x : Nat} (hx : f (k * 2 + side) = (x : Int)) : hasP f k side x = false := by
  rw [← Bool.not_eq_true, hasP_iff]
  rintro ⟨j, h1, h2⟩
  unfold tw at h
  rw [List.any_eq_false] at h
  have h3 := h j (List.mem_range.2 h1)
  simp only [Bool.or_eq_true, decide_eq_true_eq, not_or] at h3
  rcases hs with rfl | rfl
  · exact h3.1 (h2.trans hx.symm)
  · exact h3.2 (h2.trans hx.symm)
theorem lone_cnt {f : Nat → Int} {side : Nat} (hs : side = 0 ∨ side = 1) : ∀ {n : Nat}, (∀ j, j < n → pErr 24 24 f j = 0) → (lone f n side 24).length + n = 24
  | 0, _ => by
    have : lone f 0 side 24 = List.range 24 := by
      unfold lone
      rw [List.filter_eq_self]
      intro i _
      simp [hasP, first]
    rw [this, List.length_range]
  | n + 1, h => by
    have ih := lone_cnt hs (n := n) (fun j hj => h j (by omega))
    have hn := h n (by omega)
    unfold pErr at hn
    split at hn
    · cases hn
    · rename_i hin
      have hin := Classical.not_not.1 hin
      split at hn
      · cases hn
      · rename_i ht
        have ht : tw f n = false := by simpa using ht
        have hx : ∃ x : Nat, x < 24 ∧ f (n * 2 + side) = (x : Int) := by
          rcases hs with rfl | rfl
          · exact ⟨(f (n * 2)).toNat, by omega, by rw [Nat.add_zero]; omega⟩
          · exact ⟨(f (n * 2 + 1)).toNat, by omega, by omega⟩
        obtain ⟨x, hx1, hx2⟩ := hx
        have h1 := lone_more (tw_no hs ht hx2) hx2 24
        rw [if_pos hx1] at h1
        omega
theorem lone_not {f : Nat → Int} {n side N j : Nat} {x : Nat} (h : x ∈ lone f n side N) (hj : j < n) : f (j * 2 + side) ≠ (x : Int) := by
  intro e
  unfold lone at h
  rw [List.mem_filter] at h
  have h1 : hasP f n side x = true := hasP_iff.2 ⟨j, hj, e⟩
  rw [h1] at h
  exact absurd h.2 (by simp)
/-- The errors of pairs out of bytes. -/
theorem bp_in {s : Nat → Int} (i : Nat) : 0 ≤ bpF s i ∧ bpF s i < 24 := by unfold bpF; omega
theorem pErr_bp (s : Nat → Int) (k : Nat) : pErr 24 24 (bpF s) k = if tw (bpF s) k then 8 else 0 := by
  unfold pErr
  rw [if_neg (fun h => h ⟨⟨(bp_in _).1, (bp_in _).2⟩, (bp_in _).1, (bp_in _).2⟩)]
theorem first_bp (s : Nat → Int) : ∀ n, first (pErr 24 24 (bpF s)) n = 0 ∨ first (pErr 24 24 (bpF s)) n = 8
  | 0 => .inl rfl
  | n + 1 => by
    have ih := first_bp s n
    have h1 := pErr_bp s n
    simp only [first]
    split
    · rw [h1]; split
      · exact .inr rfl
      · exact .inl rfl
    · exact ih
theorem chE_bp (s t : Nat → Int) {n m : Nat} (hn : n ≤ 24) (hm : m ≤ 24) : chE (bpF s) (bpF t) n m = 0 ∨ chE (bpF s) (bpF t) n m = 8 := by
  unfold chE
  rw [if_pos ⟨hn, hm⟩]
  split
  · exact first_bp t m
  · exact first_bp s n
theorem chE_zero {f g : Nat → Int} {n m : Nat} (hn : n ≤ 24) (hm : m ≤ 24) (h : chE f g n m = 0) : first (pErr 24 24 f) n = 0 := by
  unfold chE at h
  rw [if_pos ⟨hn, hm⟩] at h
  split at h
  · assumption
  · rename_i h1; exact absurd h h1
end Go.Proofs.YtlbffdgojmjijaaGreatDoor
