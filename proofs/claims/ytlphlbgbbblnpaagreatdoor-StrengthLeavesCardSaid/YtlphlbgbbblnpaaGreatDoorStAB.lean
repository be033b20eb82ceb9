/-
  WALKS AND WORDS: StA StB of my texts, one behind the other.
-/
import Derived.Lib.Hide
import Derived.Test.YtlphlbgbbblnpaaGreatDoorPlA
-- StA: WORDS: strength: mathematics of plans (what crews can do in their days, the price of a day), of sorting by insertion, of the plan that Greedy makes, and of Newton's steps.
namespace Go.Proofs.YtlphlbgbbblnpaaGreatDoor
def sm : Nat → (Nat → Nat) → Nat
  | 0, _ => 0
  | n + 1, f => sm n f + f n
theorem sm_add (n : Nat) (f g : Nat → Nat) : sm n (fun i => f i + g i) = sm n f + sm n g := by
  induction n with
  | zero => rfl
  | succ n ih => simp only [sm, ih]; omega
theorem sm_zero (n : Nat) : sm n (fun _ => 0) = 0 := by
  induction n with
  | zero => rfl
  | succ n ih => simp only [sm, ih]
theorem sm_le {f g : Nat → Nat} : ∀ {n : Nat}, (∀ i, i < n → f i ≤ g i) → sm n f ≤ sm n g
  | 0, _ => Nat.le_refl _
  | n + 1, h => by
    have h1 := sm_le (n := n) (f := f) (g := g) fun i hi => h i (by omega)
    have h2 := h n (by omega)
    simp only [sm]; omega
theorem sm_congr {f g : Nat → Nat} : ∀ {n : Nat}, (∀ i, i < n → f i = g i) → sm n f = sm n g
  | 0, _ => rfl
  | n + 1, h => by
    have h1 := sm_congr (n := n) (f := f) (g := g) fun i hi => h i (by omega)
    have h2 := h n (by omega)
    simp only [sm]; omega
theorem sm_const (n c : Nat) : sm n (fun _ => c) = n * c := by
  induction n with
  | zero => simp [sm]
  | succ n ih => simp only [sm, ih, Nat.succ_mul]
theorem sm_int (s d : Nat) : ∀ n, sm n (fun t => if s ≤ t ∧ t < s + d then 1 else 0) = min n (s + d) - s
  | 0 => by simp [sm]
  | n + 1 => by
    simp only [sm, sm_int s d n]
    split <;> omega
theorem sm_pick (k x : Nat) : ∀ n, sm n (fun i => if i = k then x else 0) = if k < n then x else 0
  | 0 => by simp [sm]
  | n + 1 => by
    simp only [sm, sm_pick k x n]
    by_cases h : n = k
    · subst h; simp
    · rw [if_neg h]
      by_cases h2 : k < n
      · rw [if_pos h2, if_pos (by omega)]; omega
      · rw [if_neg h2, if_neg (by omega)]
/-- How many of the first p slots keep the crew k busy on the day t. -/
def occ (c s d : Nat → Nat) (p k t : Nat) : Nat := sm p fun i => if k = c i then (if s i ≤ t ∧ t < s i + d i then 1 else 0) else 0
theorem occ_le {c s d : Nat → Nat} {k t : Nat} : ∀ {p : Nat}, (∀ i, i < p → ∀ i', i' < i → c i' = c i → s i' + d i' ≤ s i ∨ s i + d i ≤ s i') → occ c s d p k t ≤ 1
  | 0, _ => by simp [occ, sm]
  | p + 1, h => by
    have h1 := occ_le (k := k) (t := t) (p := p) fun i hi => h i (by omega)
    unfold occ at h1 ⊢
    simp only [sm]
    by_cases hk : k = c p
    · by_cases ht : s p ≤ t ∧ t < s p + d p
      · rw [if_pos hk, if_pos ht]
        have h2 : sm p (fun i => if k = c i then (if s i ≤ t ∧ t < s i + d i then 1 else 0) else 0) = sm p (fun _ => 0) := sm_congr fun i hi => by
          by_cases hi2 : k = c i
          · rw [if_pos hi2, if_neg]
            have := h p (by omega) i hi (by omega)
            omega
          · rw [if_neg hi2]
        rw [h2, sm_zero]; omega
      · rw [if_pos hk, if_neg ht]; omega
    · rw [if_neg hk]; omega
theorem occ_sum {c s d : Nat → Nat} {C n : Nat} : ∀ {p : Nat}, (∀ i, i < p → c i < C ∧ s i + d i ≤ n) → sm C (fun k => sm n fun t => occ c s d p k t) = sm p d
  | 0, _ => by
    have : (fun k => sm n fun t => occ c s d 0 k t) = fun _ => 0 := by
      funext k; simp only [occ, sm]; exact sm_zero n
    rw [this, sm_zero]; rfl
  | p + 1, h => by
    have h1 := occ_sum (C := C) (n := n) (p := p) fun i hi => h i (by omega)
    obtain ⟨h2, h3⟩ := h p (by omega)
    have e : (fun k => sm n fun t => occ c s d (p + 1) k t) = fun k => sm n (fun t => occ c s d p k t) + (if k = c p then d p else 0) := by
      funext k
      have : (fun t => occ c s d (p + 1) k t) = fun t => occ c s d p k t + (if k = c p then (if s p ≤ t ∧ t < s p + d p then 1 else 0) else 0) := rfl
      rw [this, sm_add]
      congr 1
      by_cases hk : k = c p
      · simp only [if_pos hk]
        rw [sm_int]; omega
      · simp only [if_neg hk]; exact sm_zero n
    rw [e, sm_add, h1, sm_pick, if_pos h2]; rfl
/-- Slots of C crews within n days, none of which meets another one of its crew, have together at most C n days. -/
theorem capacity {c s d : Nat → Nat} {C n p : Nat} (h : ∀ i, i < p → c i < C ∧ s i + d i ≤ n) (h2 : ∀ i, i < p → ∀ i', i' < i → c i' = c i → s i' + d i' ≤ s i ∨ s i + d i ≤ s i') : sm p d ≤ C * n := by
  rw [← occ_sum h]
  have h3 : sm C (fun k => sm n fun t => occ c s d p k t) ≤ sm C (fun _ => n) := sm_le fun k _ => by
    have := sm_le (n := n) (f := fun t => occ c s d p k t) (g := fun _ => 1) fun t _ => occ_le h2
    rw [sm_const] at this; omega
  rw [sm_const] at h3
  exact h3
/-- Sums of whole numbers. -/
def si : Nat → (Nat → Int) → Int
  | 0, _ => 0
  | n + 1, f => si n f + f n
theorem si_congr {f g : Nat → Int} : ∀ {n : Nat}, (∀ i, i < n → f i = g i) → si n f = si n g
  | 0, _ => rfl
  | n + 1, h => by
    have h1 := si_congr (n := n) (f := f) (g := g) fun i hi => h i (by omega)
    have h2 := h n (by omega)
    simp only [si]; omega
theorem si_le {f g : Nat → Int} : ∀ {n : Nat}, (∀ i, i < n → f i ≤ g i) → si n f ≤ si n g
  | 0, _ => Int.le_refl _
  | n + 1, h => by
    have h1 := si_le (n := n) (f := f) (g := g) fun i hi => h i (by omega)
    have h2 := h n (by omega)
    simp only [si]; omega
theorem si_add (n : Nat) (f g : Nat → Int) : si n (fun i => f i + g i) = si n f + si n g := by
  induction n with
  | zero => rfl
  | succ n ih => simp only [si, ih]; omega
theorem si_mul (a : Int) (n : Nat) (f : Nat → Int) : si n (fun i => a * f i) = a * si n f := by
  induction n with
  | zero => simp [si]
  | succ n ih => simp only [si, ih, Int.mul_add]
theorem si_nat (f : Nat → Nat) : ∀ n, si n (fun i => (f i : Int)) = (sm n f : Nat)
  | 0 => rfl
  | n + 1 => by simp only [si, sm, si_nat f n]; omega
theorem si_nn {f : Nat → Int} {n : Nat} (h : ∀ i, i < n → 0 ≤ f i) : 0 ≤ si n f := by
  have : si n (fun _ => 0) ≤ si n f := si_le h
  have e : ∀ n, si n (fun _ => 0) = 0 := fun n => by induction n with
    | zero => rfl
    | succ n ih => simp only [si, ih]; rfl
  rw [e] at this; exact this
theorem si_out (g : Nat → Int) (a : Nat) : ∀ {n : Nat}, a < n → si n g = g a + si n (fun j => if j = a then 0 else g j)
  | 0, h => absurd h (by omega)
  | n + 1, h => by
    by_cases ha : a = n
    · subst ha
      simp only [si]
      have := si_congr (n := a) (f := g) (g := fun j => if j = a then 0 else g j) fun i hi => by rw [if_neg (by omega)]
      rw [this]; simp; omega
    · simp only [si]
      have h1 := si_out g a (n := n) (by omega)
      rw [h1, if_neg (by omega)]; omega
/-- Of numbers that are not below 0 some have no greater sum than all. -/
theorem si_some {n : Nat} {j : Nat → Nat} : ∀ {p : Nat} {g : Nat → Int}, (∀ i, i < p → j i < n) → (∀ i, i < p → ∀ i', i' < i → j i' ≠ j i) → (∀ i, i < n → 0 ≤ g i) → si p (fun i => g (j i)) ≤ si n g
  | 0, _, _, _, h => si_nn h
  | p + 1, g, h1, h2, h3 => by
    have ih := si_some (p := p) (g := fun i => if i = j p then 0 else g i) (fun i hi => h1 i (by omega)) (fun i hi => h2 i (by omega)) (fun i hi => by
      show 0 ≤ (if i = j p then 0 else g i)
      split
      · omega
      · exact h3 i hi)
    rw [si_out g (j p) (h1 p (by omega))]
    simp only [si]
    have e : si p (fun i => if j i = j p then 0 else g (j i)) = si p (fun i => g (j i)) := si_congr fun i hi => by rw [if_neg (h2 p (by omega) i hi)]
    rw [e] at ih; omega
/-- What a plan takes away is at most what its crews have as days at a price, and what the jobs bring above it. -/
theorem plan_le {n p C N : Nat} {j c s : Nat → Nat} {R D : Nat → Nat} {L E : Nat} (hj : ∀ i, i < p → j i < n) (hd : ∀ i, i < p → ∀ i', i' < i → j i' ≠ j i) (hc : ∀ i, i < p → c i < C ∧ s i + D (j i) ≤ N) (ho : ∀ i, i < p → ∀ i', i' < i → c i' = c i → s i' + D (j i') ≤ s i ∨ s i + D (j i) ≤ s i') :
    si p (fun i => (R (j i) : Int)) * E ≤ (C * N : Nat) * (L : Int) + si n (fun i => max 0 ((R i : Int) * E - D i * L)) := by
  have h1 : si p (fun i => (R (j i) : Int)) * E = si p (fun i => (E : Int) * R (j i)) := by rw [si_mul, Int.mul_comm]
  have h2 : si p (fun i => (E : Int) * R (j i)) ≤ si p (fun i => (L : Int) * (D (j i) : Int) + max 0 ((R (j i) : Int) * E - D (j i) * L)) := si_le fun i _ => by
    rw [Int.mul_comm (E : Int), Int.mul_comm (L : Int)]; omega
  rw [si_add, si_mul (L : Int), si_nat (fun i => D (j i))] at h2
  have h3 := capacity (c := c) (s := s) (d := fun i => D (j i)) (C := C) (n := N) (p := p) hc ho
  have h4 := si_some (n := n) (j := j) (p := p) (g := fun i => max 0 ((R i : Int) * E - D i * L)) hj hd (fun i _ => by omega)
  have h5 : (L : Int) * ((sm p fun i => D (j i) : Nat) : Int) ≤ ((C * N : Nat) : Int) * (L : Int) := by
    rw [Int.mul_comm]; exact Int.mul_le_mul_of_nonneg_right (by omega) (by omega)
  omega
/-- Newton's step. -/
theorem newton_ge {m X r : Nat} (hX : 0 < X) (h : r * r ≤ m) : r ≤ (X + m / X) / 2 := by
  have h1 : 2 * r - X ≤ m / X := by
    rw [Nat.le_div_iff_mul_le hX]
    by_cases h2 : 2 * r ≤ X
    · rw [Nat.sub_eq_zero_of_le h2]; simp
    · refine Nat.le_trans ?_ h
      obtain ⟨a, rfl⟩ | ⟨a, rfl⟩ : (∃ a, X = r + a) ∨ ∃ a, r = X + a := by
        rcases Nat.le_total r X with h3 | h3
        · exact .inl ⟨X - r, by omega⟩
        · exact .inr ⟨r - X, by omega⟩
      · obtain ⟨b, rfl⟩ : ∃ b, r = a + b := ⟨r - a, by omega⟩
        rw [show 2 * (a + b) - (a + b + a) = b by omega]
        simp only [Nat.mul_add, Nat.add_mul]
        have := Nat.mul_comm a b
        have h0 : 0 ≤ a * a := Nat.zero_le _
        omega
      · rw [show 2 * (X + a) - X = X + 2 * a by omega]
        simp only [Nat.mul_add, Nat.add_mul]
        have := Nat.mul_comm a X
        rw [Nat.mul_assoc]
        have h0 : 0 ≤ a * a := Nat.zero_le _
        omega
  omega
theorem newton_stop {m X : Nat} (hX : 0 < X) (h : X ≤ (X + m / X) / 2) : X * X ≤ m := by
  have h1 : X ≤ m / X := by omega
  rwa [Nat.le_div_iff_mul_le hX] at h1
theorem root_start {m r l : Nat} (hm : m < 2 ^ l) (h : r * r ≤ m) : r ≤ 2 ^ ((l + 1) / 2) := by
  rcases Nat.lt_or_ge (2 ^ ((l + 1) / 2)) r with h1 | h1
  · exfalso
    have h2 : 2 ^ ((l + 1) / 2) * 2 ^ ((l + 1) / 2) ≤ r * r := Nat.mul_le_mul (by omega) (by omega)
    rw [← Nat.pow_add] at h2
    have h3 : 2 ^ l ≤ 2 ^ ((l + 1) / 2 + (l + 1) / 2) := Nat.pow_le_pow_right (by omega) (by omega)
    omega
  · exact h1
/-- Sorting by insertion, of places. -/
def swpd (d : Nat → Nat) (a b : Nat) : Nat → Nat := fun i => if i = a then d b else if i = b then d a else d i
def snkd (lt : Nat → Nat → Bool) : Nat → (Nat → Nat) → Nat → Nat
  | 0, d => d
  | j + 1, d => if lt (d (j + 1)) (d j) = true then snkd lt j (swpd d (j + 1) j) else d
def isort (lt : Nat → Nat → Bool) : Nat → (Nat → Nat) → Nat → Nat
  | 0, d => d
  | n + 1, d => snkd lt n (isort lt n d)
/-- The first n numbers are all below n, each once. -/
def IsP (n : Nat) (d : Nat → Nat) : Prop := (∀ i, i < n → d i < n) ∧ ∀ i, i < n → ∀ i', i' < i → d i' ≠ d i
theorem IsP.swp {n : Nat} {d : Nat → Nat} (h : IsP n d) {a b : Nat} (ha : a < n) (hb : b < n) : IsP n (swpd d a b) := by
  refine ⟨fun i hi => ?_, fun i hi i' hi' => ?_⟩
  · unfold swpd
    split
    · exact h.1 b hb
    · split
      · exact h.1 a ha
      · exact h.1 i hi
  · have hne : ∀ x y, x < n → y < n → x ≠ y → d x ≠ d y := fun x y hx hy hxy => by
      rcases Nat.lt_or_gt_of_ne hxy with h1 | h1
      · exact h.2 y hy x h1
      · exact fun e => h.2 x hx y h1 e.symm
    unfold swpd
    split
    · subst_vars
      split
      · omega
      · split
        · subst_vars; exact hne _ _ hb ha (by omega)
        · exact hne _ _ hb hi (by omega)
    · split
      · subst_vars
        split
        · subst_vars; exact hne _ _ ha hb (by omega)
        · split
          · omega
          · exact hne _ _ ha hi (by omega)
      · split
        · subst_vars; exact hne _ _ (by omega) hb (by omega)
        · split
          · subst_vars; exact hne _ _ (by omega) ha (by omega)
          · exact hne _ _ (by omega) hi (by omega)
theorem IsP.sink {n : Nat} {lt : Nat → Nat → Bool} : ∀ {j : Nat} {d : Nat → Nat}, IsP n d → j < n → IsP n (snkd lt j d)
  | 0, _, h, _ => h
  | j + 1, d, h, hj => by
    simp only [snkd]
    split
    · exact IsP.sink (h.swp hj (by omega)) (by omega)
    · exact h
theorem IsP.isort {n : Nat} {lt : Nat → Nat → Bool} {d : Nat → Nat} (h : IsP n d) : ∀ {k : Nat}, k ≤ n → IsP n (isort lt k d)
  | 0, _ => h
  | k + 1, hk => IsP.sink (IsP.isort h (k := k) (by omega)) (by omega)
theorem isP_id (n : Nat) : IsP n (fun i => i) := ⟨fun i hi => hi, fun i _ i' hi' => by show i' ≠ i; omega⟩
/-- The crew that can begin first: the least index of the least of the days. -/
def bestC (F : Nat → Nat) (r : Nat) : Nat → Nat
  | 0 => 0
  | k + 1 => if max (F k) r < max (F (bestC F r k)) r then k else bestC F r k
theorem bestC_lt (F : Nat → Nat) (r : Nat) : ∀ {k : Nat}, 0 < k → bestC F r k < k
  | 0, h => absurd h (by omega)
  | 1, _ => by simp [bestC]
  | k + 2, _ => by
    have := bestC_lt F r (k := k + 1) (by omega)
    rw [bestC]
    split <;> omega
/-- What Greedy has made of the first k jobs in an order: when its crews are free, and its slots (job, crew, start). -/
def gr (R : Nat → Nat × Nat × Nat × Nat) (o : Nat → Nat) (C N : Nat) : Nat → (Nat → Nat) × List (Nat × Nat × Nat)
  | 0 => (fun _ => 0, [])
  | k + 1 =>
    let g := gr R o C N k
    let j := R (o k)
    let c := bestC g.1 j.2.2.1 C
    let t := max (g.1 c) j.2.2.1
    if t + j.2.1 ≤ min j.2.2.2 N then (fun i => if i = c then t + j.2.1 else g.1 i, g.2 ++ [(o k, c, t)]) else g
/-- A plan that each new slot fits. -/
def Fit (R : Nat → Nat × Nat × Nat × Nat) (C N : Nat) (l : List (Nat × Nat × Nat)) : Prop :=
  (∀ s, s ∈ l → s.2.1 < C ∧ (R s.1).2.2.1 ≤ s.2.2 ∧ s.2.2 + (R s.1).2.1 ≤ min (R s.1).2.2.2 N) ∧
  l.Pairwise fun a b => a.1 ≠ b.1 ∧ (a.2.1 = b.2.1 → a.2.2 + (R a.1).2.1 ≤ b.2.2)
theorem gr_fit {R : Nat → Nat × Nat × Nat × Nat} {o : Nat → Nat} {C N n : Nat} (hC : 0 < C) (ho : IsP n o) : ∀ {k : Nat}, k ≤ n → Fit R C N (gr R o C N k).2 ∧ (∀ s, s ∈ (gr R o C N k).2 → (∃ i, i < k ∧ s.1 = o i) ∧ s.2.2 + (R s.1).2.1 ≤ (gr R o C N k).1 s.2.1) ∧ (∀ i, (gr R o C N k).1 i ≤ N)
  | 0, _ => ⟨⟨fun s h => absurd h (by simp [gr]), by simp [gr]⟩, fun s h => absurd h (by simp [gr]), fun i => by simp [gr]⟩
  | k + 1, hk => by
    obtain ⟨h1, h2, h3⟩ := gr_fit (R := R) (C := C) (N := N) hC ho (k := k) (by omega)
    rw [gr]
    generalize gr R o C N k = g at h1 h2 h3 ⊢
    obtain ⟨F, l⟩ := g
    dsimp only at h1 h2 h3 ⊢
    have hc := bestC_lt F (R (o k)).2.2.1 hC
    generalize bestC F (R (o k)).2.2.1 C = c at hc ⊢
    split
    · rename_i hle
      refine ⟨⟨fun s hs => ?_, ?_⟩, fun s hs => ?_, fun i => ?_⟩
      · rw [List.mem_append] at hs
        rcases hs with hs | hs
        · exact h1.1 s hs
        · simp only [List.mem_singleton] at hs
          subst hs
          exact ⟨hc, Nat.le_max_right _ _, hle⟩
      · rw [List.pairwise_append]
        refine ⟨h1.2, List.pairwise_singleton _ _, fun a ha b hb => ?_⟩
        simp only [List.mem_singleton] at hb
        subst hb
        obtain ⟨⟨i, hi, hi2⟩, h4⟩ := h2 a ha
        refine ⟨fun e => ho.2 k (by omega) i hi (by rw [← hi2]; exact e), fun e => ?_⟩
        dsimp only at e ⊢
        rw [e] at h4
        exact Nat.le_trans h4 (Nat.le_max_left _ _)
      · rw [List.mem_append] at hs
        rcases hs with hs | hs
        · obtain ⟨⟨i, hi, hi2⟩, h4⟩ := h2 s hs
          refine ⟨⟨i, by omega, hi2⟩, ?_⟩
          dsimp only
          split
          · rename_i e
            rw [e] at h4
            have := Nat.le_max_left (F c) (R (o k)).2.2.1
            omega
          · exact h4
        · simp only [List.mem_singleton] at hs
          subst hs
          refine ⟨⟨k, by omega, rfl⟩, ?_⟩
          dsimp only
          rw [if_pos rfl]
          exact Nat.le_refl _
      · dsimp only
        split
        · omega
        · exact h3 i
    · exact ⟨h1, fun s hs => by obtain ⟨⟨i, hi, hi2⟩, h4⟩ := h2 s hs; exact ⟨⟨i, by omega, hi2⟩, h4⟩, h3⟩
theorem gr_len {R : Nat → Nat × Nat × Nat × Nat} {o : Nat → Nat} {C N : Nat} : ∀ k, (gr R o C N k).2.length ≤ k
  | 0 => by simp [gr]
  | k + 1 => by
    have := gr_len (R := R) (o := o) (C := C) (N := N) k
    rw [gr]
    split
    · simp; omega
    · omega
end Go.Proofs.YtlphlbgbbblnpaaGreatDoor
-- StB: WORDS: strength: what the functions of plans return, over the ints of their arguments; an accepted plan leaves no less than the bound; Greedy's plan is accepted.
namespace Go.Proofs.YtlphlbgbbblnpaaGreatDoor
open Go.RowKit

/-- The error of a job (its four ints: Risk, Days, Ready, Due), and of jobs. -/
def jbE (f : Nat → Int) (i : Nat) : Int := if (0 ≤ f (i * 4) ∧ f (i * 4) ≤ 1000000) ∧ (1 ≤ f (i * 4 + 1) ∧ f (i * 4 + 1) ≤ 365) ∧ (0 ≤ f (i * 4 + 2) ∧ f (i * 4 + 2) ≤ 365) ∧ (0 ≤ f (i * 4 + 3) ∧ f (i * 4 + 3) ≤ 365) then 0 else 1
def jsE (f : Nat → Int) (n : Nat) (C N : Int) : Int := if 24 < n then 4 else if (1 ≤ C ∧ C ≤ 4) ∧ 0 ≤ N ∧ N ≤ 365 then first (jbE f) n else 1
def rsk (f : Nat → Int) (n : Nat) : Int := si n fun i => f (i * 4)
/-- The error of a slot (Job, Crew, Start) behind others. -/
def twE (g : Nat → Int) (x : Int) (k : Nat) : Int := if g (k * 3) = x then 8 else 0
def ovE (f g : Nat → Int) (c s d : Int) (k : Nat) : Int := if g (k * 3 + 1) = c ∧ s < g (k * 3 + 2) + f ((g (k * 3)).toNat * 4 + 1) ∧ g (k * 3 + 2) < s + d then 7 else 0
def slE (f g : Nat → Int) (n : Nat) (C N : Int) (i : Nat) : Int :=
  if (0 ≤ g (i * 3) ∧ g (i * 3) < n) ∧ (0 ≤ g (i * 3 + 1) ∧ g (i * 3 + 1) < C) ∧ 0 ≤ g (i * 3 + 2) ∧ g (i * 3 + 2) ≤ N then
    if first (twE g (g (i * 3))) i = 0 then
      if f ((g (i * 3)).toNat * 4 + 2) ≤ g (i * 3 + 2) ∧ g (i * 3 + 2) + f ((g (i * 3)).toNat * 4 + 1) ≤ min (f ((g (i * 3)).toNat * 4 + 3)) N then first (ovE f g (g (i * 3 + 1)) (g (i * 3 + 2)) (f ((g (i * 3)).toNat * 4 + 1))) i else 91
    else 8
  else 1
def lfE (f g : Nat → Int) (n p : Nat) (C N : Int) : Int := first (slE f g n C N) p
def tkn (f g : Nat → Int) (p : Nat) : Int := si p fun i => f ((g (i * 3)).toNat * 4)
/-- The bound at a price of L/E, in parts of E. -/
def bdI (f : Nat → Int) (n : Nat) (C N L E : Int) : Int := max 0 (rsk f n * E - C * N * L - si n fun i => max 0 (f (i * 4) * E - f (i * 4 + 1) * L))

theorem jok_of {f : Nat → Int} {n : Nat} {C N : Int} (h : jsE f n C N = 0) : n ≤ 24 ∧ (1 ≤ C ∧ C ≤ 4) ∧ (0 ≤ N ∧ N ≤ 365) ∧ ∀ i, i < n → (0 ≤ f (i * 4) ∧ f (i * 4) ≤ 1000000) ∧ (1 ≤ f (i * 4 + 1) ∧ f (i * 4 + 1) ≤ 365) ∧ (0 ≤ f (i * 4 + 2) ∧ f (i * 4 + 2) ≤ 365) ∧ (0 ≤ f (i * 4 + 3) ∧ f (i * 4 + 3) ≤ 365) := by
  unfold jsE at h
  split at h
  · omega
  · split at h
    · rename_i h1 h2
      refine ⟨by omega, h2.1, h2.2, fun i hi => ?_⟩
      have h3 := first_all h i hi
      unfold jbE at h3
      split at h3
      · assumption
      · omega
    · omega
/-- What an accepted plan tells. -/
theorem sok_of {f g : Nat → Int} {n p : Nat} {C N : Int} (h : lfE f g n p C N = 0) : ∀ i, i < p → ((0 ≤ g (i * 3) ∧ g (i * 3) < n) ∧ (0 ≤ g (i * 3 + 1) ∧ g (i * 3 + 1) < C) ∧ 0 ≤ g (i * 3 + 2) ∧ g (i * 3 + 2) ≤ N) ∧ (∀ k, k < i → g (k * 3) ≠ g (i * 3)) ∧
    (f ((g (i * 3)).toNat * 4 + 2) ≤ g (i * 3 + 2) ∧ g (i * 3 + 2) + f ((g (i * 3)).toNat * 4 + 1) ≤ min (f ((g (i * 3)).toNat * 4 + 3)) N) ∧
    ∀ k, k < i → ¬(g (k * 3 + 1) = g (i * 3 + 1) ∧ g (i * 3 + 2) < g (k * 3 + 2) + f ((g (k * 3)).toNat * 4 + 1) ∧ g (k * 3 + 2) < g (i * 3 + 2) + f ((g (i * 3)).toNat * 4 + 1)) := by
  intro i hi
  have h1 := first_all h i hi
  unfold slE at h1
  split at h1
  · rename_i h2
    split at h1
    · rename_i h3
      split at h1
      · rename_i h4
        refine ⟨h2, fun k hk e => ?_, h4, fun k hk e => ?_⟩
        · have := first_all h3 k hk
          unfold twE at this
          rw [if_pos e] at this
          omega
        · have := first_all h1 k hk
          unfold ovE at this
          rw [if_pos e] at this
          omega
      · omega
    · omega
  · omega
theorem plan_ge {f g : Nat → Int} {n p : Nat} {C N : Int} (hj : jsE f n C N = 0) (h : lfE f g n p C N = 0) (L E : Nat) : bdI f n C N L E ≤ (rsk f n - tkn f g p) * E ∧ 0 ≤ rsk f n - tkn f g p := by
  obtain ⟨_, hC, hN, hf⟩ := jok_of hj
  have hs := sok_of h
  have hJ : ∀ i, i < p → (g (i * 3)).toNat < n := fun i hi => by have := (hs i hi).1; omega
  have hJd : ∀ i, i < p → ∀ i', i' < i → (g (i' * 3)).toNat ≠ (g (i * 3)).toNat := fun i hi i' hi' e => by
    have h1 := (hs i hi).1
    have h2 := (hs i' (by omega)).1
    exact (hs i hi).2.1 i' hi' (by omega)
  have h1 := si_some (n := n) (j := fun i => (g (i * 3)).toNat) (p := p) (g := fun i => f (i * 4)) hJ hJd (fun i hi => (hf i hi).1.1)
  have h0 : 0 ≤ rsk f n - tkn f g p := by unfold rsk tkn; omega
  refine ⟨?_, h0⟩
  unfold bdI
  have hge : 0 ≤ (rsk f n - tkn f g p) * (E : Int) := Int.mul_nonneg h0 (by omega)
  have h2 := plan_le (n := n) (p := p) (C := C.toNat) (N := N.toNat) (j := fun i => (g (i * 3)).toNat) (c := fun i => (g (i * 3 + 1)).toNat) (s := fun i => (g (i * 3 + 2)).toNat) (R := fun i => (f (i * 4)).toNat) (D := fun i => (f (i * 4 + 1)).toNat) (L := L) (E := E) hJ hJd
    (fun i hi => by
      have a := hs i hi
      have b := hf _ (hJ i hi)
      have := a.2.2.1
      omega)
    (fun i hi i' hi' e => by
      have a := hs i hi
      have a' := hs i' (by omega)
      have b := hf _ (hJ i hi)
      have b' := hf _ (hJ i' (by omega))
      have := a.2.2.2 i' hi'
      omega)
  have e1 : si p (fun i => (((f ((g (i * 3)).toNat * 4)).toNat : Nat) : Int)) = tkn f g p := si_congr fun i hi => by
    have := (hf _ (hJ i hi)).1
    omega
  have e2 : si n (fun i => max 0 ((((f (i * 4)).toNat : Nat) : Int) * E - (((f (i * 4 + 1)).toNat : Nat) : Int) * L)) = si n (fun i => max 0 (f (i * 4) * E - f (i * 4 + 1) * L)) := si_congr fun i hi => by
    have := hf i hi
    rw [show (((f (i * 4)).toNat : Nat) : Int) = f (i * 4) by omega, show (((f (i * 4 + 1)).toNat : Nat) : Int) = f (i * 4 + 1) by omega]
  rw [e1, e2, show (((C.toNat * N.toNat : Nat)) : Int) = C * N by rw [Int.natCast_mul, Int.toNat_of_nonneg (by omega), Int.toNat_of_nonneg (by omega)]] at h2
  rw [Int.sub_mul] at hge ⊢
  omega

/-- The ints of slots. -/
abbrev Tr3 : Type := Nat × Nat × Nat
def sints (l : List Tr3) : List Int := l.flatMap fun t => [(t.1 : Int), (t.2.1 : Int), (t.2.2 : Int)]
def scells (l : List Tr3) : List Value := (sints l).map fun x => .int .i64 x
def sf (l : List Tr3) (i : Nat) : Int := (sints l).getD i 0
theorem sints_len : ∀ l, (sints l).length = l.length * 3
  | [] => rfl
  | t :: l => by
    have := sints_len l
    unfold sints at this ⊢
    rw [List.flatMap_cons, List.length_append, this, List.length_cons]
    simp; omega
theorem scells_app (l k : List Tr3) : scells (l ++ k) = scells l ++ scells k := by unfold scells sints; rw [List.flatMap_append, List.map_append]
theorem scells_one (a b c : Nat) : scells [(a, b, c)] = [.int .i64 (a : Int), .int .i64 (b : Int), .int .i64 (c : Int)] := rfl
theorem sf_succ (t : Tr3) (l : List Tr3) (i : Nat) : sf (t :: l) (i + 3) = sf l i := by
  unfold sf sints
  rw [List.flatMap_cons]
  show ([(t.1 : Int), (t.2.1 : Int), (t.2.2 : Int)] ++ _).getD (i + 3) 0 = _
  simp [List.getD]
theorem sf_at : ∀ (l : List Tr3) (k : Nat) (h : k < l.length), sf l (k * 3) = ((l[k]).1 : Int) ∧ sf l (k * 3 + 1) = ((l[k]).2.1 : Int) ∧ sf l (k * 3 + 2) = ((l[k]).2.2 : Int)
  | t :: l, 0, _ => ⟨rfl, rfl, rfl⟩
  | t :: l, k + 1, h => by
    have h1 := sf_at l k (by simpa using h)
    rw [show (k + 1) * 3 = k * 3 + 3 by omega, show k * 3 + 3 + 1 = k * 3 + 1 + 3 by omega, show k * 3 + 3 + 2 = k * 3 + 2 + 3 by omega, sf_succ, sf_succ, sf_succ]
    exact h1
/-- Jobs as natural numbers. -/
def jbs (f : Nat → Int) (i : Nat) : Nat × Nat × Nat × Nat := ((f (i * 4)).toNat, (f (i * 4 + 1)).toNat, (f (i * 4 + 2)).toNat, (f (i * 4 + 3)).toNat)
theorem fit_ok {f : Nat → Int} {n C N : Nat} {l : List Tr3} (hj : jsE f n C N = 0) (h : Fit (jbs f) C N l) (hn : ∀ s, s ∈ l → s.1 < n) : lfE f (sf l) n l.length C N = 0 := by
  obtain ⟨_, _, _, hf⟩ := jok_of hj
  refine first_zero fun i hi => ?_
  obtain ⟨a1, a2, a3⟩ := sf_at l i hi
  have hm := List.getElem_mem hi
  obtain ⟨b1, b2, b3⟩ := h.1 _ hm
  have b4 := hn _ hm
  have b5 := hf _ b4
  have hp := List.pairwise_iff_getElem.1 h.2
  unfold slE
  rw [a1, a2, a3, Int.toNat_natCast]
  unfold jbs at b2 b3
  dsimp only at b2 b3
  rw [if_pos (by omega), if_pos, if_pos (by omega)]
  · refine first_zero fun k hk => ?_
    obtain ⟨c1, c2, c3⟩ := sf_at l k (by omega)
    have h4 := hp k i (by omega) hi hk
    have b6 := hf _ (hn _ (List.getElem_mem (show k < l.length by omega)))
    unfold ovE
    rw [c1, c2, c3, Int.toNat_natCast, if_neg]
    intro ⟨e1, e2, e3⟩
    have h5 := h4.2 (by omega)
    unfold jbs at h5
    dsimp only at h5
    omega
  · refine first_zero fun k hk => ?_
    obtain ⟨c1, _, _⟩ := sf_at l k (by omega)
    have h4 := hp k i (by omega) hi hk
    unfold twE
    rw [c1, if_neg]
    intro e
    exact h4.1 (by omega)
end Go.Proofs.YtlphlbgbbblnpaaGreatDoor
