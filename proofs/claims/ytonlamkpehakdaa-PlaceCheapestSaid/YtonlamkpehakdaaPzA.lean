/-
  MATHEMATICS: the least cost of alignments.
-/
import Derived.Test.YtonlamkpehakdaaPtA
import Derived.Test.YtonlamkpehakdaaPrE
namespace Go.Proofs.Ytonlamkpehakdaa

theorem prc_wl (L F M : Int) (g h : Nat → Int) (i k : Nat) : prc L F M g h (i + 1) k ≤ prc L F M g h i k + L := by
  by_cases hk : 0 < k
  · by_cases hd : dst g h i (k - 1) ≤ M
    · have := prc_near L F M g h (i := i + 1) (k := k) (by omega) hk hd
      simp only [Nat.add_sub_cancel] at this
      omega
    · have := prc_far L F M g h (i := i + 1) (k := k) (by omega) hk hd
      simp only [Nat.add_sub_cancel] at this
      omega
  · have := prc_i0 L F M g h (i := i + 1) (k := k) (by omega) (by omega)
    simp only [Nat.add_sub_cancel] at this
    omega
theorem prc_cl (L F M : Int) (g h : Nat → Int) (i k : Nat) : prc L F M g h i (k + 1) ≤ prc L F M g h i k + F := by
  by_cases hi : 0 < i
  · by_cases hd : dst g h (i - 1) k ≤ M
    · have := prc_near L F M g h (i := i) (k := k + 1) hi (by omega) hd
      simp only [Nat.add_sub_cancel] at this
      omega
    · have := prc_far L F M g h (i := i) (k := k + 1) hi (by omega) hd
      simp only [Nat.add_sub_cancel] at this
      omega
  · have := prc_0k L F M g h (i := i) (k := k + 1) (by omega) (by omega)
    simp only [Nat.add_sub_cancel] at this
    omega
theorem prc_dl (L F M : Int) (g h : Nat → Int) (i k : Nat) (hd : dst g h i k ≤ M) : prc L F M g h (i + 1) (k + 1) ≤ prc L F M g h i k + dst g h i k := by
  have := prc_near L F M g h (i := i + 1) (k := k + 1) (by omega) (by omega) hd
  simp only [Nat.add_sub_cancel] at this
  omega
/-- The last step of a least cost. -/
theorem prc_or (L F M : Int) (g h : Nat → Int) (i k : Nat) : prc L F M g h (i + 1) (k + 1) = ((i + 1 : Nat) : Int) * L + ((k + 1 : Nat) : Int) * F ∨ prc L F M g h (i + 1) (k + 1) = prc L F M g h i (k + 1) + L ∨ prc L F M g h (i + 1) (k + 1) = prc L F M g h (i + 1) k + F ∨ (dst g h i k ≤ M ∧ prc L F M g h (i + 1) (k + 1) = prc L F M g h i k + dst g h i k) := by
  by_cases hd : dst g h i k ≤ M
  · have := prc_near L F M g h (i := i + 1) (k := k + 1) (by omega) (by omega) hd
    simp only [Nat.add_sub_cancel] at this
    omega
  · have := prc_far L F M g h (i := i + 1) (k := k + 1) (by omega) (by omega) hd
    simp only [Nat.add_sub_cancel] at this
    omega
theorem prc_more (L F M : Int) (g h : Nat → Int) (i k : Nat) : ∀ p q : Nat, prc L F M g h (i + p) (k + q) ≤ prc L F M g h i k + (p : Int) * L + (q : Int) * F
  | 0, 0 => by simp
  | 0, q + 1 => by
    have h1 := prc_more L F M g h i k 0 q
    have h2 := prc_cl L F M g h (i + 0) (k + q)
    rw [show k + (q + 1) = k + q + 1 by omega, add_one_mul']
    omega
  | p + 1, q => by
    have h1 := prc_more L F M g h i k p q
    have h2 := prc_wl L F M g h (i + p) (k + q)
    rw [show i + (p + 1) = i + p + 1 by omega, add_one_mul']
    omega
/-- No alignment costs less. -/
theorem prc_least (L F M : Int) (g h : Nat → Int) : ∀ (m' : Nat) (l : List (Nat × Nat)) (n m : Nat), l.length = m' → (∀ x, x ∈ l → x.1 < n ∧ x.2 < m ∧ dst g h x.1 x.2 ≤ M) → l.Pairwise (fun x y => x.1 < y.1 ∧ x.2 < y.2) →
    prc L F M g h n m ≤ ((n : Int) - l.length) * L + ((m : Int) - l.length) * F + sumD g h l := by
  have last : ∀ (l : List (Nat × Nat)), l = [] ∨ ∃ a x, l = a ++ [x] := fun l => by
    induction l with
    | nil => exact .inl rfl
    | cons x es ih =>
      rcases ih with rfl | ⟨a, i, rfl⟩
      · exact .inr ⟨[], x, rfl⟩
      · exact .inr ⟨x :: a, i, rfl⟩
  intro m'
  induction m' with
  | zero =>
    intro l n m hl _ _
    obtain rfl : l = [] := List.eq_nil_of_length_eq_zero hl
    have := prc_up L F M g h n m
    simp [sumD]
    omega
  | succ m' ih =>
    intro l n m hl hb hp
    rcases last l with rfl | ⟨a, ⟨i, k⟩, rfl⟩
    · simp at hl
    · have h1 := hb (i, k) (by simp)
      have hpa := List.pairwise_append.1 hp
      have ha := ih a i k (by simpa using hl) (fun x hx => by
        have h2 := hpa.2.2 x hx (i, k) (by simp)
        have h3 := hb x (by simp [hx])
        exact ⟨h2.1, h2.2, h3.2.2⟩) hpa.1
      have h4 := prc_dl L F M g h i k h1.2.2
      obtain ⟨p, hp'⟩ : ∃ p, n = i + 1 + p := ⟨n - (i + 1), by omega⟩
      obtain ⟨q, hq'⟩ : ∃ q, m = k + 1 + q := ⟨m - (k + 1), by omega⟩
      have h5 := prc_more L F M g h (i + 1) (k + 1) p q
      rw [← hp', ← hq'] at h5
      rw [sumD_append]
      simp only [List.length_append, List.length_singleton, sumD]
      generalize a.length = len at ha ⊢
      have e1 : ((n : Int) - ((len + 1 : Nat) : Int)) * L = ((i : Int) - len) * L + (p : Int) * L := by
        rw [← Int.add_mul]; congr 1; omega
      have e2 : ((m : Int) - ((len + 1 : Nat) : Int)) * F = ((k : Int) - len) * F + (q : Int) * F := by
        rw [← Int.add_mul]; congr 1; omega
      rw [e1, e2]
      omega
/-- Calls at all welds. -/
theorem prc_diag {n : Nat} {g : Nat → Int} {L F M : Int} (hm : 0 ≤ M) : ∀ i, prc L F M g g i i ≤ 0
  | 0 => by simp [prc, rowZ]
  | i + 1 => by
    have h0 : dst g g i i = 0 := by unfold dst; omega
    have h1 := prc_dl L F M g g i i (by omega)
    have := prc_diag (n := n) (g := g) (L := L) (F := F) hm i
    omega
/-- A call less. -/
def gone (q : Nat) (h : Nat → Int) (j : Nat) : Int := if j < q then h j else h (j + 1)
theorem dst_congr {g h h' : Nat → Int} {i k k' : Nat} (e : h k = h' k') : dst g h i k = dst g h' i k' := by unfold dst; rw [e]
theorem prc_same {L F M : Int} {g h h' : Nat → Int} {q : Nat} (e : ∀ j, j < q → h j = h' j) : ∀ i k, k ≤ q → prc L F M g h i k = prc L F M g h' i k
  | 0, k, _ => by simp [prc]
  | i + 1, 0, _ => by
    have h1 := prc_i0 L F M g h (i := i + 1) (k := 0) (by omega) rfl
    have h2 := prc_i0 L F M g h' (i := i + 1) (k := 0) (by omega) rfl
    have h3 := prc_same (L := L) (F := F) (M := M) (g := g) e i 0 (by omega)
    simp only [Nat.add_sub_cancel] at h1 h2
    omega
  | i + 1, k + 1, hk => by
    have a := prc_same (L := L) (F := F) (M := M) (g := g) e i (k + 1) hk
    have b := prc_same (L := L) (F := F) (M := M) (g := g) e (i + 1) k (by omega)
    have c := prc_same (L := L) (F := F) (M := M) (g := g) e i k (by omega)
    have hd : dst g h i k = dst g h' i k := dst_congr (e k (by omega))
    by_cases hd2 : dst g h i k ≤ M
    · have h1 := prc_near L F M g h (i := i + 1) (k := k + 1) (by omega) (by omega) hd2
      have h2 := prc_near L F M g h' (i := i + 1) (k := k + 1) (by omega) (by omega) (by show dst g h' i k ≤ M; omega)
      simp only [Nat.add_sub_cancel] at h1 h2
      omega
    · have h1 := prc_far L F M g h (i := i + 1) (k := k + 1) (by omega) (by omega) hd2
      have h2 := prc_far L F M g h' (i := i + 1) (k := k + 1) (by omega) (by omega) (by show ¬dst g h' i k ≤ M; omega)
      simp only [Nat.add_sub_cancel] at h1 h2
      omega
theorem prc_gone {L F M : Int} {g h : Nat → Int} {q : Nat} (hL : 0 ≤ L) (hF : 0 ≤ F) : ∀ i k, q ≤ k → prc L F M g (gone q h) i k ≤ prc L F M g h i (k + 1) + L ∧ prc L F M g h i (k + 1) ≤ prc L F M g (gone q h) i k + F := by
  have hsame : ∀ i, prc L F M g h i q = prc L F M g (gone q h) i q := fun i => prc_same (q := q) (fun j hj => by unfold gone; rw [if_pos hj]) i q (Nat.le_refl _)
  have hdn : ∀ i k, 0 ≤ dst g h i k := fun i k => by unfold dst; omega
  intro i
  induction i with
  | zero =>
    intro k _
    simp only [prc]
    rw [rowZ_up, rowZ_up, add_one_mul']
    omega
  | succ i ih =>
    intro k
    induction k with
    | zero =>
      intro hq
      obtain rfl : q = 0 := by omega
      have h1 := hsame (i + 1)
      have h2 := hsame i
      have h3 := prc_cl L F M g h (i + 1) 0
      have h4 := prc_or L F M g h i 0
      have h5 := prc_up L F M g (gone 0 h) (i + 1) 0
      have h6 := (ih 0 hq).1
      have h7 := prc_wl L F M g (gone 0 h) i 0
      have h8 := hdn i 0
      rw [add_one_mul' 0 F] at h4
      refine ⟨?_, by omega⟩
      rcases h4 with h4 | h4 | h4 | ⟨_, h4⟩ <;> omega
    | succ k ihk =>
      intro hq
      by_cases e : q = k + 1
      · subst e
        have h1 := hsame (i + 1)
        have h2 := hsame i
        have h3 := prc_cl L F M g h (i + 1) (k + 1)
        have h4 := prc_or L F M g h i (k + 1)
        have h5 := prc_up L F M g (gone (k + 1) h) (i + 1) (k + 1)
        have h6 := (ih (k + 1) hq).1
        have h7 := prc_wl L F M g (gone (k + 1) h) i (k + 1)
        have h8 := hdn i (k + 1)
        rw [add_one_mul' (k + 1) F] at h4
        refine ⟨?_, by omega⟩
        rcases h4 with h4 | h4 | h4 | ⟨_, h4⟩ <;> omega
      · have hk := ihk (by omega)
        have hi := ih (k + 1) hq
        have hik := ih k (by omega)
        have hd : dst g (gone q h) i k = dst g h i (k + 1) := dst_congr (by unfold gone; rw [if_neg (by omega)])
        have h8 := hdn i (k + 1)
        constructor
        · have h4 := prc_or L F M g h i (k + 1)
          have h5 := prc_up L F M g (gone q h) (i + 1) (k + 1)
          have h6 := prc_wl L F M g (gone q h) i (k + 1)
          have h7 := prc_cl L F M g (gone q h) (i + 1) k
          rw [add_one_mul' (k + 1) F] at h4
          rcases h4 with h4 | h4 | h4 | ⟨h9, h4⟩
          · omega
          · omega
          · omega
          · have := prc_dl L F M g (gone q h) i k (by omega)
            omega
        · have h4 := prc_or L F M g (gone q h) i k
          have h5 := prc_up L F M g h (i + 1) (k + 1 + 1)
          have h6 := prc_wl L F M g h i (k + 1 + 1)
          have h7 := prc_cl L F M g h (i + 1) (k + 1)
          rw [add_one_mul' (k + 1) F] at h5
          rcases h4 with h4 | h4 | h4 | ⟨h9, h4⟩
          · omega
          · omega
          · omega
          · have := prc_dl L F M g h i (k + 1) (by omega)
            omega
/-! How many are missing -/
theorem lone_count : ∀ (n : Nat) (A : List Nat), A.Pairwise (· < ·) → (∀ x, x ∈ A → x < n) → ((List.range n).filter (fun i => !A.contains i)).length + A.length = n
  | 0, A, _, hb => by
    cases A with
    | nil => rfl
    | cons x A => exact absurd (hb x (by simp)) (by omega)
  | n + 1, A, hp, hb => by
    rw [List.range_succ, List.filter_append, List.length_append]
    by_cases hn : n ∈ A
    · obtain ⟨a, b, rfl⟩ := List.append_of_mem hn
      have h1 := List.pairwise_append.1 hp
      have hb0 : b = [] := by
        cases b with
        | nil => rfl
        | cons y b =>
          have h2 := (List.pairwise_cons.1 h1.2.1).1 y (by simp)
          have h3 := hb y (by simp)
          omega
      subst hb0
      have ih := lone_count n a h1.1 (fun x hx => h1.2.2 x hx n (by simp))
      have e1 : (List.range n).filter (fun i => !(a ++ [n]).contains i) = (List.range n).filter (fun i => !a.contains i) := by
        refine List.filter_congr fun x hx => ?_
        have hx : x < n := by simpa using hx
        have : x ≠ n := by omega
        simp [this]
      rw [e1]
      simp at ih ⊢
      omega
    · have ih := lone_count n A hp (fun x hx => by
        have h1 := hb x hx
        have h2 : x ≠ n := fun e => hn (e ▸ hx)
        omega)
      simp at ih
      simp [hn]
      omega
/-- A side of pairs. -/
def side (l : List (Nat × Nat)) (s : Nat) : List Nat := l.map fun x => if s = 0 then x.1 else x.2
theorem hasP_side (l : List (Nat × Nat)) {s : Nat} (hs : s ≤ 1) (i : Nat) : hasP (pcF l) l.length s i = (side l s).contains i := by
  have key : first (fvP (pcF l) s i) l.length ≠ 0 ↔ i ∈ side l s := by
    constructor
    · intro h
      refine Decidable.byContradiction fun hn => h (first_zero fun j hj => ?_)
      unfold fvP
      rw [if_neg]
      intro e
      refine hn ?_
      unfold side
      rcases (by omega : s = 0 ∨ s = 1) with rfl | rfl
      · rw [Nat.add_zero, pcF_0 l hj] at e
        exact List.mem_map.2 ⟨l[j], List.getElem_mem hj, by simp; omega⟩
      · rw [pcF_1 l hj] at e
        exact List.mem_map.2 ⟨l[j], List.getElem_mem hj, by simp; omega⟩
    · intro h h0
      unfold side at h
      obtain ⟨x, hx, e⟩ := List.mem_map.1 h
      obtain ⟨j, hj, rfl⟩ := List.getElem_of_mem hx
      have h1 := first_all h0 j hj
      unfold fvP at h1
      rw [if_pos] at h1
      · omega
      · rcases (by omega : s = 0 ∨ s = 1) with rfl | rfl
        · rw [Nat.add_zero, pcF_0 l hj]; simp at e; omega
        · rw [pcF_1 l hj]; simp at e; omega
  unfold hasP
  rw [Bool.eq_iff_iff, decide_eq_true_iff, key]
  simp
theorem lone_pairs {n m : Nat} {l : List (Nat × Nat)} (hb : ∀ x, x ∈ l → x.1 < n ∧ x.2 < m) (hp : l.Pairwise (fun x y => x.1 < y.1 ∧ x.2 < y.2)) : (lone (pcF l) l.length 0 n).length + l.length = n ∧ (lone (pcF l) l.length 1 m).length + l.length = m := by
  constructor
  · have h := lone_count n (side l 0) (by
      unfold side
      rw [List.pairwise_map]
      exact hp.imp fun h => by simpa using h.1) (fun x hx => by
      obtain ⟨y, hy, rfl⟩ := List.mem_map.1 hx
      exact (hb y hy).1)
    have e : lone (pcF l) l.length 0 n = (List.range n).filter (fun i => !(side l 0).contains i) := by
      unfold lone
      exact List.filter_congr fun i _ => by rw [hasP_side l (by omega)]
    rw [e]
    rw [show (side l 0).length = l.length by simp [side]] at h
    exact h
  · have h := lone_count m (side l 1) (by
      unfold side
      rw [List.pairwise_map]
      exact hp.imp fun h => by simpa using h.2) (fun x hx => by
      obtain ⟨y, hy, rfl⟩ := List.mem_map.1 hx
      exact (hb y hy).2)
    have e : lone (pcF l) l.length 1 m = (List.range m).filter (fun i => !(side l 1).contains i) := by
      unfold lone
      exact List.filter_congr fun i _ => by rw [hasP_side l (by omega)]
    rw [e]
    rw [show (side l 1).length = l.length by simp [side]] at h
    exact h
end Go.Proofs.Ytonlamkpehakdaa
