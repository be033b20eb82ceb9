/-
  WORDS: the prices of alignments.
-/
import Derived.Test.YtonlamkpehakdaaPmF
namespace Go.Proofs.Ytonlamkpehakdaa
open Go.RowKit

def rowZ (F : Int) : Nat → Int
  | 0 => 0
  | k + 1 => rowZ F k + F
def cheaper (a b : Int) : Int := if b < a then b else a
def rowN (L F M : Int) (d prev : Nat → Int) : Nat → Int
  | 0 => prev 0 + L
  | k + 1 => if d k ≤ M then cheaper (cheaper (prev (k + 1) + L) (rowN L F M d prev k + F)) (prev k + d k) else cheaper (prev (k + 1) + L) (rowN L F M d prev k + F)
/-- The least cost of an alignment of the first i welds with the first k calls. -/
def prc (L F M : Int) (g h : Nat → Int) : Nat → Nat → Int
  | 0 => rowZ F
  | i + 1 => rowN L F M (dst g h i) (prc L F M g h i)
theorem cheaper_le (a b : Int) : cheaper a b ≤ a ∧ cheaper a b ≤ b := by unfold cheaper; split <;> omega
theorem cheaper_ge {a b x : Int} (h1 : x ≤ a) (h2 : x ≤ b) : x ≤ cheaper a b := by unfold cheaper; split <;> omega

theorem rowZ_bd {F : Int} (hf : 0 ≤ F ∧ F ≤ 1048576) : ∀ k, 0 ≤ rowZ F k ∧ rowZ F k ≤ k * 1048576
  | 0 => by simp [rowZ]
  | k + 1 => by have := rowZ_bd hf k; simp only [rowZ]; push_cast; omega
theorem rowN_bd {L F M : Int} (hl : 0 ≤ L ∧ L ≤ 1048576) (hf : 0 ≤ F ∧ F ≤ 1048576) (hm : 0 ≤ M) {d prev : Nat → Int} {m i : Nat} (hd : ∀ k, k < m → 0 ≤ d k) (hp : ∀ k, k ≤ m → 0 ≤ prev k ∧ prev k ≤ (i + k : Nat) * 1048576) :
    ∀ k, k ≤ m → 0 ≤ rowN L F M d prev k ∧ rowN L F M d prev k ≤ (i + 1 + k : Nat) * 1048576
  | 0, _ => by have := hp 0 (by omega); simp only [rowN]; push_cast at this ⊢; omega
  | k + 1, hk => by
    have h1 := rowN_bd hl hf hm hd hp k (by omega)
    have h2 := hp (k + 1) hk
    have h3 := hp k (by omega)
    have h4 := hd k (by omega)
    simp only [rowN]
    have c1 := cheaper_le (prev (k + 1) + L) (rowN L F M d prev k + F)
    have c2 : 0 ≤ cheaper (prev (k + 1) + L) (rowN L F M d prev k + F) := cheaper_ge (by omega) (by omega)
    push_cast at h1 h2 h3 ⊢
    split
    · have c3 := cheaper_le (cheaper (prev (k + 1) + L) (rowN L F M d prev k + F)) (prev k + d k)
      have c4 : 0 ≤ cheaper (cheaper (prev (k + 1) + L) (rowN L F M d prev k + F)) (prev k + d k) := cheaper_ge (by omega) (by omega)
      omega
    · omega
theorem prc_bd {n m : Nat} {g h : Nat → Int} {L F M : Int} (hp : PbOk n m g h L F M) : ∀ i, i ≤ n → ∀ k, k ≤ m → 0 ≤ prc L F M g h i k ∧ prc L F M g h i k ≤ (i + k : Nat) * 1048576
  | 0, _, k, hk => by have := rowZ_bd hp.f k; simp only [prc]; push_cast; omega
  | i + 1, hi, k, hk => by
    have ih := prc_bd hp i (by omega)
    exact rowN_bd hp.l hp.f hp.m.1 (fun k hk => (dst_bd hp.pg hp.ph (by omega) hk).1) ih k hk

/-- The cheapest one of the steps leads to the price. -/
theorem best_prc {L F M : Int} {g h : Nat → Int} {T : Nat → Nat → Int} : ∀ {i k : Nat}, (0 < i ∨ 0 < k) → (0 < i → T (i - 1) k = prc L F M g h (i - 1) k) → (0 < k → T i (k - 1) = prc L F M g h i (k - 1)) → (0 < i → 0 < k → T (i - 1) (k - 1) = prc L F M g h (i - 1) (k - 1)) →
    pr T (best0 T (stp L F M g h i k)) = prc L F M g h i k
  | 0, 0, h, _, _, _ => by omega
  | 0, k + 1, _, _, h2, _ => by
    have e : stp L F M g h 0 (k + 1) = [(0, k, F)] := by simp [stp, stp1, stp2, stp3]
    have : T 0 k = rowZ F k := h2 (by omega)
    rw [e]
    simp only [best0, bestL, List.foldl, bsf, Option.getD, pr, prc, rowZ]
    simpa using this
  | i + 1, 0, _, h1, _, _ => by
    have e : stp L F M g h (i + 1) 0 = [(i, 0, L)] := by simp [stp, stp1, stp2, stp3]
    have := h1 (by omega)
    rw [e]
    simp only [best0, bestL, List.foldl, bsf, Option.getD, pr, prc, rowN]
    simpa using this
  | i + 1, k + 1, _, h1, h2, h3 => by
    have a1 := h1 (by omega)
    have a2 := h2 (by omega)
    have a3 := h3 (by omega) (by omega)
    simp only [Nat.add_sub_cancel] at a1 a2 a3
    by_cases hd : dst g h i k ≤ M
    · have e : stp L F M g h (i + 1) (k + 1) = [(i, k + 1, L), (i + 1, k, F), (i, k, dst g h i k)] := by simp [stp, stp1, stp2, stp3, hd]
      rw [e]
      simp only [best0, bestL, List.foldl, bsf, Option.getD]
      have e2 : prc L F M g h (i + 1) (k + 1) = cheaper (cheaper (prc L F M g h i (k + 1) + L) (prc L F M g h (i + 1) k + F)) (prc L F M g h i k + dst g h i k) := by
        show rowN L F M (dst g h i) (prc L F M g h i) (k + 1) = _
        simp only [rowN, if_pos hd]
        rfl
      rw [e2, ← a1, ← a2, ← a3]
      unfold cheaper pr
      dsimp only
      repeat' split
      all_goals first | rfl | omega
    · have e : stp L F M g h (i + 1) (k + 1) = [(i, k + 1, L), (i + 1, k, F)] := by simp [stp, stp1, stp2, stp3, hd]
      rw [e]
      simp only [best0, bestL, List.foldl, bsf, Option.getD]
      have e2 : prc L F M g h (i + 1) (k + 1) = cheaper (prc L F M g h i (k + 1) + L) (prc L F M g h (i + 1) k + F) := by
        show rowN L F M (dst g h i) (prc L F M g h i) (k + 1) = _
        simp only [rowN, if_neg hd]
        rfl
      rw [e2, ← a1, ← a2]
      unfold cheaper pr
      dsimp only
      repeat' split
      all_goals first | rfl | omega
/-- The steps are within the table. -/
theorem stp_ok {n m : Nat} {g h : Nat → Int} {L F M : Int} (hp : PbOk n m g h L F M) {i k r N : Nat} (hi : i ≤ n) (hk : k ≤ m) (hr : i < r) (hrN : r ≤ N) : ∀ s, s ∈ stp L F M g h i k → StOk N m r s := by
  intro s hs
  unfold stp at hs
  rcases List.mem_append.1 hs with hs | hs
  · rcases List.mem_append.1 hs with hs | hs
    · unfold stp1 at hs
      split at hs
      · obtain rfl := List.mem_singleton.1 hs
        have := hp.l
        exact ⟨by dsimp only; omega, hrN, hk, by dsimp only; omega, by dsimp only; omega⟩
      · cases hs
    · unfold stp2 at hs
      split at hs
      · obtain rfl := List.mem_singleton.1 hs
        have := hp.f
        exact ⟨hr, hrN, by dsimp only; omega, by dsimp only; omega, by dsimp only; omega⟩
      · cases hs
  · unfold stp3 at hs
    split at hs
    · rename_i hc
      obtain rfl := List.mem_singleton.1 hs
      have := dst_bd hp.pg hp.ph (i := i - 1) (k := k - 1) (by omega) (by omega)
      exact ⟨by dsimp only; omega, hrN, by dsimp only; omega, by dsimp only; omega, by dsimp only; omega⟩
    · cases hs
theorem stp_ne {L F M : Int} {g h : Nat → Int} {i k : Nat} (hik : 0 < i ∨ 0 < k) : stp L F M g h i k ≠ [] := by
  unfold stp stp1 stp2
  rcases hik with h | h
  · rw [if_pos h]; simp
  · rw [if_pos h]; simp
theorem best0_mem {T : Nat → Nat → Int} {l : List Stp} (h : l ≠ []) : best0 T l ∈ l := by
  have h1 := bestL_some T l
  cases hb : bestL T l with
  | none => rw [hb] at h1; cases l <;> simp_all
  | some b => unfold best0; rw [hb]; exact bestL_mem T l b hb
end Go.Proofs.Ytonlamkpehakdaa
