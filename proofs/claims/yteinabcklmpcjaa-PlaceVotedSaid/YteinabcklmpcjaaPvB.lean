/-
  WORDS: turns in their order are a sweep.
-/
import Derived.Test.YteinabcklmpcjaaPvA
namespace Go.Proofs.Yteinabcklmpcjaa
open Go.RowKit

/-- The turns of n ranges. -/
def tb (f : Nat → Int) : Nat → List (Int × Int)
  | 0 => []
  | n + 1 => tb f n ++ [(f (n * 2), 1), (f (n * 2 + 1), -1)]
theorem tb_length (f : Nat → Int) : ∀ n, (tb f n).length = n * 2
  | 0 => rfl
  | n + 1 => by simp only [tb, List.length_append, List.length_cons, List.length_nil]; rw [tb_length f n]; omega
theorem tb_mem {f : Nat → Int} {t : Int × Int} : ∀ {n}, t ∈ tb f n → ∃ i, i < n ∧ (t = (f (i * 2), 1) ∨ t = (f (i * 2 + 1), -1))
  | 0, h => by simp [tb] at h
  | n + 1, h => by
    simp only [tb, List.mem_append, List.mem_cons, List.not_mem_nil, or_false] at h
    rcases h with h | h | h
    · obtain ⟨i, hi, e⟩ := tb_mem h
      exact ⟨i, by omega, e⟩
    · exact ⟨n, by omega, .inl h⟩
    · exact ⟨n, by omega, .inr h⟩

/-- The steps of those turns that p holds of, added up. -/
def sumP (p : Int × Int → Bool) : List (Int × Int) → Int
  | [] => 0
  | t :: l => (if p t = true then t.2 else 0) + sumP p l
theorem sumP_append (p : Int × Int → Bool) : ∀ a b, sumP p (a ++ b) = sumP p a + sumP p b
  | [], b => by simp [sumP]
  | t :: a, b => by simp only [List.cons_append, sumP]; rw [sumP_append p a b]; omega
theorem sumP_perm (p : Int × Int → Bool) {a b : List (Int × Int)} (h : a.Perm b) : sumP p a = sumP p b := by
  induction h with
  | nil => rfl
  | cons x _ ih => simp only [sumP]; rw [ih]
  | swap x y l => simp only [sumP]; omega
  | trans _ _ ih1 ih2 => rw [ih1, ih2]
def T_of (L : List (Int × Int)) (k : Nat) : Int × Int := L.getD k (0, 0)
theorem T_get {L : List (Int × Int)} {k : Nat} (h : k < L.length) : T_of L k = L[k] := by unfold T_of; rw [List.getD_eq_getElem?_getD, List.getElem?_eq_getElem h]; rfl
theorem hSum_take (L : List (Int × Int)) : ∀ k, k ≤ L.length → hSum (T_of L) k = sumP (fun _ => true) (L.take k)
  | 0, _ => by simp [hSum, sumP]
  | k + 1, hk => by
    simp only [hSum]
    rw [hSum_take L k (by omega), T_get (by omega), ← List.take_append_getElem (by omega : k < L.length), sumP_append]
    simp [sumP]
/-- A predicate that holds of all that stand ahead of one that it holds of. -/
theorem prefix_of (p : Int × Int → Bool) : ∀ (L : List (Int × Int)), L.Pairwise (fun a b => p b = true → p a = true) →
    (∀ k, k < L.countP p → ∀ h : k < L.length, p L[k] = true) ∧ (∀ k, L.countP p ≤ k → ∀ h : k < L.length, p L[k] = false) ∧ sumP (fun _ => true) (L.take (L.countP p)) = sumP p L
  | [], _ => ⟨fun k _ h => absurd h (by simp), fun k _ h => absurd h (by simp), by simp [sumP]⟩
  | a :: L, h => by
    rw [List.pairwise_cons] at h
    obtain ⟨h1, h2, h3⟩ := prefix_of p L h.2
    by_cases ha : p a = true
    · rw [List.countP_cons_of_pos ha]
      refine ⟨fun k hk hl => ?_, fun k hk hl => ?_, ?_⟩
      · cases k with
        | zero => exact ha
        | succ k => exact h1 k (by omega) (by simpa using hl)
      · cases k with
        | zero => omega
        | succ k => exact h2 k (by omega) (by simpa using hl)
      · rw [List.take_succ_cons]
        simp only [sumP, if_true]
        rw [h3, if_pos ha]
    · have hn : ∀ b, b ∈ L → p b = false := fun b hb => by
        cases hpb : p b with
        | true => exact absurd (h.1 b hb hpb) ha
        | false => rfl
      have hz : L.countP p = 0 := by
        rw [List.countP_eq_zero]
        intro b hb
        rw [hn b hb]; simp
      have hs : ∀ l : List (Int × Int), (∀ b, b ∈ l → p b = false) → sumP p l = 0 := by
        intro l
        induction l with
        | nil => intro _; rfl
        | cons x l ih => intro hx; simp only [sumP]; rw [ih (fun b hb => hx b (by simp [hb])), hx x (by simp)]; simp
      rw [List.countP_cons_of_neg ha, hz]
      refine ⟨fun k hk hl => by omega, fun k _ hl => ?_, ?_⟩
      · cases k with
        | zero => simpa using ha
        | succ k => exact hn _ (List.getElem_mem _)
      · simp only [List.take_zero, sumP]
        rw [hs L hn, if_neg ha]; rfl

/-- What a turn has up to a place: all that begin there or ahead, and those that end ahead. -/
def early (x : Int) (t : Int × Int) : Bool := decide (t.1 < x ∨ (t.1 = x ∧ t.2 = 1))
theorem sumP_tb (f : Nat → Int) (x : Int) : ∀ n, (∀ i, i < n → f (i * 2) ≤ f (i * 2 + 1)) → sumP (early x) (tb f n) = vts f x n
  | 0, _ => rfl
  | n + 1, h => by
    simp only [tb, vts]
    rw [sumP_append, sumP_tb f x n (fun i hi => h i (by omega))]
    have hn := h n (by omega)
    simp only [sumP, early, decide_eq_true_iff]
    simp only [and_true]
    repeat' split
    all_goals omega
theorem sumP_all (f : Nat → Int) : ∀ n, sumP (fun _ => true) (tb f n) = 0
  | 0 => rfl
  | n + 1 => by simp only [tb]; rw [sumP_append, sumP_all f n]; simp [sumP]

/-- The order of turns. -/
def cmpI (x y : Int) : Int := if x < y then -1 else if y < x then 1 else 0
def turnCmp (x y : Int × Int) : Int := if cmpI x.1 y.1 ≠ 0 then cmpI x.1 y.1 else cmpI y.2 x.2
theorem turnCmp_lt (x y : Int × Int) : turnCmp x y < 0 ↔ x.1 < y.1 ∨ (x.1 = y.1 ∧ y.2 < x.2) := by
  unfold turnCmp cmpI
  by_cases h1 : x.1 < y.1
  · simp [h1]
  · by_cases h2 : y.1 < x.1
    · simp [h1, h2]; omega
    · have h3 : x.1 = y.1 := by omega
      rw [if_neg h1, if_neg h2, if_neg (by simp)]
      by_cases h4 : y.2 < x.2
      · rw [if_pos h4]; exact ⟨fun _ => .inr ⟨h3, h4⟩, fun _ => by decide⟩
      · rw [if_neg h4]
        constructor
        · intro h; split at h <;> omega
        · rintro (h | ⟨_, h⟩) <;> omega

theorem swp_of {f : Nat → Int} {n : Nat} {L : List (Int × Int)} (hf : ∀ i, i < n → f (i * 2) ≤ f (i * 2 + 1)) (hp : L.Perm (tb f n)) (hs : L.Pairwise (fun a b => ¬turnCmp b a < 0)) : Swp (T_of L) L.length n f := by
  have hmem : ∀ k, k < L.length → ∃ i, i < n ∧ (T_of L k = (f (i * 2), 1) ∨ T_of L k = (f (i * 2 + 1), -1)) := fun k hk => by
    rw [T_get hk]
    exact tb_mem (hp.mem_iff.1 (List.getElem_mem hk))
  have hunit : ∀ t, t ∈ L → t.2 = 1 ∨ t.2 = -1 := fun t ht => by
    obtain ⟨i, _, h | h⟩ := tb_mem (hp.mem_iff.1 ht)
    · left; rw [h]
    · right; rw [h]
  refine ⟨fun k hk => ?_, ?_, fun x => ?_, fun j hj h1 => ?_, fun j hj h1 => ?_, fun i j hij hj => ?_⟩
  · rw [T_get hk]; exact hunit _ (List.getElem_mem hk)
  · rw [hSum_take L _ (Nat.le_refl _), List.take_length, sumP_perm _ hp, sumP_all]
  · have hpw : L.Pairwise (fun a b => early x b = true → early x a = true) := by
      refine List.Pairwise.imp_of_mem ?_ hs
      intro a b ha hb hab he
      have ua := hunit a ha
      have ub := hunit b hb
      rw [turnCmp_lt] at hab
      simp only [early, decide_eq_true_iff] at he ⊢
      omega
    obtain ⟨h1, h2, h3⟩ := prefix_of (early x) L hpw
    have hle : L.countP (early x) ≤ L.length := List.countP_le_length
    refine ⟨L.countP (early x), hle, ?_, fun j hj => ?_, fun j hj hjl => ?_⟩
    · rw [hSum_take L _ hle, h3, sumP_perm _ hp, sumP_tb f x n hf]
    · rw [T_get (by omega)]
      have := h1 j hj (by omega)
      simpa only [early, decide_eq_true_iff] using this
    · rw [T_get hjl]
      have := h2 j hj hjl
      have hu := hunit _ (List.getElem_mem hjl)
      simp only [early, decide_eq_false_iff_not] at this
      omega
  · obtain ⟨i, hi, h | h⟩ := hmem j hj
    · exact ⟨i, hi, by rw [h]⟩
    · rw [h] at h1; simp at h1
  · obtain ⟨i, hi, h | h⟩ := hmem j hj
    · rw [h] at h1; simp at h1
    · exact ⟨i, hi, by rw [h]⟩
  · rw [T_get hj, T_get (by omega)]
    have := List.pairwise_iff_getElem.1 hs i j (by omega) hj hij
    rw [turnCmp_lt] at this
    omega
end Go.Proofs.Yteinabcklmpcjaa
