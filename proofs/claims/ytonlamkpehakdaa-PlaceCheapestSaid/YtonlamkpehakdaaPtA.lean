/-
  WORDS: what the pairs of a cheapest alignment cost.
-/
import Derived.Test.YtonlamkpehakdaaPmJ
import Derived.Test.YtonlamkpehakdaaPsB
import Derived.Test.YtonlamkpehakdaaPsD
namespace Go.Proofs.Ytonlamkpehakdaa
open Go.RowKit

/-- What pairs are apart together. -/
def sumD (g h : Nat → Int) : List (Nat × Nat) → Int
  | [] => 0
  | x :: l => dst g h x.1 x.2 + sumD g h l
theorem sumD_append (g h : Nat → Int) : ∀ (a b : List (Nat × Nat)), sumD g h (a ++ b) = sumD g h a + sumD g h b
  | [], b => by simp [sumD]
  | x :: a, b => by simp only [List.cons_append, sumD]; rw [sumD_append g h a b]; omega
theorem sumD_reverse (g h : Nat → Int) : ∀ (l : List (Nat × Nat)), sumD g h l.reverse = sumD g h l
  | [] => rfl
  | x :: l => by
    rw [List.reverse_cons, sumD_append, sumD_reverse g h l]
    simp only [sumD]
    omega
theorem stp_cases {L F M : Int} {g h : Nat → Int} {i k : Nat} {s : Stp} (hs : s ∈ stp L F M g h (i + 1) (k + 1)) : s = (i, k + 1, L) ∨ s = (i + 1, k, F) ∨ (s = (i, k, dst g h i k) ∧ dst g h i k ≤ M) := by
  unfold stp at hs
  rcases List.mem_append.1 hs with hs | hs
  · rcases List.mem_append.1 hs with hs | hs
    · unfold stp1 at hs
      rw [if_pos (by omega)] at hs
      exact .inl (List.mem_singleton.1 hs)
    · unfold stp2 at hs
      rw [if_pos (by omega)] at hs
      exact .inr (.inl (List.mem_singleton.1 hs))
  · unfold stp3 at hs
    split at hs
    · rename_i hc
      exact .inr (.inr ⟨List.mem_singleton.1 hs, by simpa using hc.2.2⟩)
    · cases hs
/-- The pairs as they are found: each below the ones ahead, near enough, and together as cheap as told. -/
theorem bkP_ok (L F M : Int) (g h : Nat → Int) : ∀ (r i k : Nat), i + k ≤ r →
    (∀ x, x ∈ bkP (prc L F M g h) L F M g h r i k → x.1 < i ∧ x.2 < k ∧ dst g h x.1 x.2 ≤ M) ∧
    (bkP (prc L F M g h) L F M g h r i k).Pairwise (fun x y => y.1 < x.1 ∧ y.2 < x.2) ∧
    prc L F M g h i k = ((i : Int) - (bkP (prc L F M g h) L F M g h r i k).length) * L + ((k : Int) - (bkP (prc L F M g h) L F M g h r i k).length) * F + sumD g h (bkP (prc L F M g h) L F M g h r i k) := by
  have none : ∀ (i k : Nat), ¬(0 < i ∧ 0 < k) → prc L F M g h i k = (i : Int) * L + (k : Int) * F := by
    intro i k hn
    by_cases h0 : i = 0
    · subst h0
      simp only [prc]
      rw [rowZ_up]
      simp
    · obtain rfl : k = 0 := by omega
      clear hn h0
      induction i with
      | zero => simp [prc, rowZ]
      | succ i ih => rw [add_one_mul']; show prc L F M g h i 0 + L = _; rw [ih]; omega
  intro r
  induction r with
  | zero =>
    intro i k hr
    obtain rfl : i = 0 := by omega
    obtain rfl : k = 0 := by omega
    refine ⟨fun x hx => ?_, ?_, ?_⟩
    · simp [bkP] at hx
    · simp [bkP]
    · simp [bkP, sumD, prc, rowZ]
  | succ r ih =>
    intro i k hr
    by_cases hik : 0 < i ∧ 0 < k
    · obtain ⟨i, rfl⟩ : ∃ j, i = j + 1 := ⟨i - 1, by omega⟩
      obtain ⟨k, rfl⟩ : ∃ j, k = j + 1 := ⟨k - 1, by omega⟩
      have hmem := best0_mem (T := prc L F M g h) (stp_ne (L := L) (F := F) (M := M) (g := g) (h := h) (i := i + 1) (k := k + 1) (by omega))
      have hpr := best_prc (L := L) (F := F) (M := M) (g := g) (h := h) (T := prc L F M g h) (i := i + 1) (k := k + 1) (by omega) (fun _ => rfl) (fun _ => rfl) (fun _ _ => rfl)
      have hb : bkP (prc L F M g h) L F M g h (r + 1) (i + 1) (k + 1) = (if (best0 (prc L F M g h) (stp L F M g h (i + 1) (k + 1))).1 < i + 1 ∧ (best0 (prc L F M g h) (stp L F M g h (i + 1) (k + 1))).2.1 < k + 1 then [((best0 (prc L F M g h) (stp L F M g h (i + 1) (k + 1))).1, (best0 (prc L F M g h) (stp L F M g h (i + 1) (k + 1))).2.1)] else []) ++
          bkP (prc L F M g h) L F M g h r (best0 (prc L F M g h) (stp L F M g h (i + 1) (k + 1))).1 (best0 (prc L F M g h) (stp L F M g h (i + 1) (k + 1))).2.1 := by
        show (if 0 < i + 1 ∧ 0 < k + 1 then _ else _) = _
        rw [if_pos ⟨by omega, by omega⟩]
      rw [hb]
      generalize best0 (prc L F M g h) (stp L F M g h (i + 1) (k + 1)) = s at hmem hpr
      rcases stp_cases hmem with rfl | rfl | ⟨rfl, hd⟩
      · dsimp only
        rw [if_neg (by omega), List.nil_append]
        obtain ⟨h1, h2, h3⟩ := ih i (k + 1) (by omega)
        refine ⟨fun x hx => ?_, h2, ?_⟩
        · have := h1 x hx; omega
        · have hpr' : prc L F M g h i (k + 1) + L = prc L F M g h (i + 1) (k + 1) := hpr
          rw [← hpr', h3]
          generalize (bkP (prc L F M g h) L F M g h r i (k + 1)).length = len
          rw [show ((i + 1 : Nat) : Int) - (len : Int) = ((i : Int) - len) + 1 by omega, Int.add_mul _ 1 L, Int.one_mul]
          omega
      · dsimp only
        rw [if_neg (by omega), List.nil_append]
        obtain ⟨h1, h2, h3⟩ := ih (i + 1) k (by omega)
        refine ⟨fun x hx => ?_, h2, ?_⟩
        · have := h1 x hx; omega
        · have hpr' : prc L F M g h (i + 1) k + F = prc L F M g h (i + 1) (k + 1) := hpr
          rw [← hpr', h3]
          generalize (bkP (prc L F M g h) L F M g h r (i + 1) k).length = len
          rw [show ((k + 1 : Nat) : Int) - (len : Int) = ((k : Int) - len) + 1 by omega, Int.add_mul _ 1 F, Int.one_mul]
          omega
      · dsimp only
        rw [if_pos ⟨by omega, by omega⟩]
        obtain ⟨h1, h2, h3⟩ := ih i k (by omega)
        refine ⟨fun x hx => ?_, ?_, ?_⟩
        · rcases List.mem_cons.1 hx with rfl | hx
          · exact ⟨by dsimp only; omega, by dsimp only; omega, hd⟩
          · have := h1 x hx; omega
        · refine List.pairwise_cons.2 ⟨fun y hy => ?_, h2⟩
          have := h1 y hy
          exact ⟨this.1, this.2.1⟩
        · have hpr' : prc L F M g h i k + dst g h i k = prc L F M g h (i + 1) (k + 1) := hpr
          rw [← hpr', h3]
          simp only [List.singleton_append, List.length_cons, sumD]
          generalize (bkP (prc L F M g h) L F M g h r i k).length = len
          rw [show ((i + 1 : Nat) : Int) - ((len + 1 : Nat) : Int) = (i : Int) - len by omega, show ((k + 1 : Nat) : Int) - ((len + 1 : Nat) : Int) = (k : Int) - len by omega]
          omega
    · have hb : bkP (prc L F M g h) L F M g h (r + 1) i k = [] := by
        show (if 0 < i ∧ 0 < k then _ else _) = _
        rw [if_neg hik]
      rw [hb]
      refine ⟨fun x hx => (by cases hx), List.Pairwise.nil, ?_⟩
      rw [none i k hik]
      simp [sumD]
theorem bkP_len (L F M : Int) (g h : Nat → Int) : ∀ (r i k : Nat), (bkP (prc L F M g h) L F M g h r i k).length ≤ i := by
  intro r
  induction r with
  | zero => intro i k; simp [bkP]
  | succ r ih =>
    intro i k
    by_cases hik : 0 < i ∧ 0 < k
    · obtain ⟨i, rfl⟩ : ∃ j, i = j + 1 := ⟨i - 1, by omega⟩
      obtain ⟨k, rfl⟩ : ∃ j, k = j + 1 := ⟨k - 1, by omega⟩
      have hmem := best0_mem (T := prc L F M g h) (stp_ne (L := L) (F := F) (M := M) (g := g) (h := h) (i := i + 1) (k := k + 1) (by omega))
      unfold bkP
      rw [if_pos ⟨by omega, by omega⟩]
      generalize best0 (prc L F M g h) (stp L F M g h (i + 1) (k + 1)) = s at hmem
      rcases stp_cases hmem with rfl | rfl | ⟨rfl, hd⟩
      · have := ih i (k + 1); dsimp only; rw [if_neg (by omega), List.nil_append]; omega
      · have := ih (i + 1) k; dsimp only; rw [if_neg (by omega), List.nil_append]; omega
      · have := ih i k; dsimp only; rw [if_pos ⟨by omega, by omega⟩]; simp only [List.singleton_append, List.length_cons]; omega
    · unfold bkP
      rw [if_neg hik]
      simp

theorem pcF_0 (l : List (Nat × Nat)) {j : Nat} (hj : j < l.length) : pcF l (j * 2) = ((l[j]).1 : Int) := by
  unfold pcF
  rw [if_pos (by omega), show j * 2 / 2 = j by omega, List.getElem?_eq_getElem hj]
  rfl
theorem pcF_1 (l : List (Nat × Nat)) {j : Nat} (hj : j < l.length) : pcF l (j * 2 + 1) = ((l[j]).2 : Int) := by
  unfold pcF
  rw [if_neg (by omega), show (j * 2 + 1) / 2 = j by omega, List.getElem?_eq_getElem hj]
  rfl
theorem coS_sum (g h : Nat → Int) (l : List (Nat × Nat)) : ∀ k, k ≤ l.length → coS g h (pcF l) k = sumD g h (l.take k)
  | 0, _ => by simp [coS, sumD]
  | k + 1, hk => by
    simp only [coS]
    rw [coS_sum g h l k (by omega), pcF_0 l (by omega), pcF_1 l (by omega), Int.toNat_natCast, Int.toNat_natCast, ← List.take_append_getElem (by omega : k < l.length), sumD_append]
    simp [sumD]
theorem coAt_list {n m : Nat} {g h : Nat → Int} {M : Int} {l : List (Nat × Nat)} (hb : ∀ x, x ∈ l → x.1 < n ∧ x.2 < m ∧ dst g h x.1 x.2 ≤ M) (hp : l.Pairwise (fun x y => x.1 < y.1 ∧ x.2 < y.2)) {j : Nat} (hj : j < l.length) : coAt n m g h M (pcF l) j = 0 := by
  have h1 := hb _ (List.getElem_mem hj)
  have h0 : prErr n m (pcF l) j = 0 := by
    rcases pr_ways n m (pcF l) j with ⟨k, _⟩ | ⟨_, k, _⟩ | ⟨_, _, _, e⟩ | ⟨_, _, q, hq, e⟩
    · rw [pcF_0 l hj] at k; omega
    · rw [pcF_1 l hj] at k; omega
    · exact e
    · subst hq
      have h2 := List.pairwise_iff_getElem.1 hp q (q + 1) (by omega) hj (by omega)
      rw [pcF_0 l hj, pcF_1 l hj, pcF_0 l (by omega), pcF_1 l (by omega)] at e
      rcases e with ⟨e, _⟩ | ⟨_, _, e⟩
      · omega
      · exact e
  unfold coAt
  rw [h0, if_neg (by decide), pcF_0 l hj, pcF_1 l hj, Int.toNat_natCast, Int.toNat_natCast, if_neg (by omega)]
/-- The pairs of Align have the cost that it tells. -/
theorem align_cost {n m : Nat} {g h : Nat → Int} {L F M : Int} (hk : pbChk n m g h L F M = 0) {l : List (Nat × Nat)} (hl : l = (bkP (prc L F M g h) L F M g h (n + m) n m).reverse) :
    coE n m g h L F M l.length (pcF l) = 0 ∧ coV n m g h L F M l.length (pcF l) = prc L F M g h n m := by
  obtain ⟨h1, h2, h3⟩ := bkP_ok L F M g h (n + m) n m (Nat.le_refl _)
  have hlen : l.length = (bkP (prc L F M g h) L F M g h (n + m) n m).length := by rw [hl, List.length_reverse]
  have hE : coE n m g h L F M l.length (pcF l) = 0 := by
    unfold coE
    rw [hk, if_neg (by simp)]
    refine first_zero fun j hj => coAt_list (fun x hx => ?_) ?_ hj
    · rw [hl, List.mem_reverse] at hx
      exact h1 x hx
    · rw [hl, List.pairwise_reverse]
      exact h2
  refine ⟨hE, ?_⟩
  unfold coV
  rw [hE, if_neg (by simp), coS_sum g h l l.length (Nat.le_refl _), List.take_length, h3, hlen, hl, sumD_reverse]
end Go.Proofs.Ytonlamkpehakdaa
