/-
  MATHEMATICS: DentDrifts: the line and the ties of the statement are without an error, the misses are small; the sums of what a drift leaves.
-/
import Derived.Test.YtlbffdgojmjijaaDoorDrH
namespace Go.Proofs.YtlbffdgojmjijaaDoor
open Go.RowKit

theorem vsok_of {m : Nat} {f : Nat → Int} (hm : 1 ≤ m ∧ m ≤ 12) (h : ∀ i, i < m * 3 → -300 ≤ f i ∧ f i ≤ 300) : VsOk m f :=
  ⟨by omega, fun i hi j hj => by have := h (i * 3 + j) (by omega); omega⟩
theorem tsok_of {m k : Nat} {f F : Nat → Int} (hf : VsOk m f) (hk : 1 ≤ k ∧ k ≤ 3) (h : TieP m f F k) : TsOk m k F := by
  refine ⟨by omega, fun i hi => (h.1 i hi).1, fun i hi j hj => ?_, h.2⟩
  obtain ⟨h1, h2⟩ := h.1 i hi
  have h3 := h2 j hj
  have h4 := lnS_big hf hj (k := (F (i * 4)).toNat) (by omega)
  omega
theorem ms_small {m k : Nat} {f F : Nat → Int} (h : TieP m f F k) {i : Nat} (hi : i < k) {j : Nat} (hj : j < 3) : -128 ≤ msV f F (i * 3 + j) ∧ msV f F (i * 3 + j) ≤ 127 := by
  unfold msV
  rw [show (i * 3 + j) / 3 = i by omega, show (i * 3 + j) % 3 = j by omega]
  exact (h.1 i hi).2 j hj

/-- The sum of g over the first k. -/
def sumI (g : Nat → Int) : Nat → Int
  | 0 => 0
  | k + 1 => sumI g k + g k
theorem sumI_add (g h : Nat → Int) : ∀ k, sumI (fun i => g i + h i) k = sumI g k + sumI h k
  | 0 => rfl
  | k + 1 => by simp only [sumI, sumI_add g h k]; omega
theorem sumI_mul (c : Int) (g : Nat → Int) : ∀ k, sumI (fun i => c * g i) k = c * sumI g k
  | 0 => by simp [sumI]
  | k + 1 => by simp only [sumI, sumI_mul c g k, Int.mul_add]
theorem sumI_congr {g h : Nat → Int} : ∀ {k}, (∀ i, i < k → g i = h i) → sumI g k = sumI h k
  | 0, _ => rfl
  | k + 1, e => by simp only [sumI]; rw [sumI_congr (fun i hi => e i (by omega)), e k (by omega)]
theorem sumI_nonneg {g : Nat → Int} : ∀ {k}, (∀ i, i < k → 0 ≤ g i) → 0 ≤ sumI g k
  | 0, _ => by simp [sumI]
  | k + 1, h => by
    have h1 := sumI_nonneg (g := g) (k := k) (fun i hi => h i (by omega))
    have h2 := h k (by omega)
    simp only [sumI]; omega
/-- Nothing is left: the sum of s (U x - s D) is 0 where T = g D is the sum of s x, and S = g U the sum of the squares of s. -/
theorem left_zero {s x : Nat → Int} {k : Nat} {g D U : Int} (h1 : sumI (fun i => s i * x i) k = g * D) (h2 : sumI (fun i => s i * s i) k = g * U) : sumI (fun i => s i * (U * x i - s i * D)) k = 0 := by
  have e : sumI (fun i => s i * (U * x i - s i * D)) k = sumI (fun i => U * (s i * x i) + (-D) * (s i * s i)) k := sumI_congr fun i _ => by grind
  rw [e, sumI_add, sumI_mul, sumI_mul, h1, h2]
  grind
/-- No other drift leaves less. -/
theorem mine_le {s x : Nat → Int} {k : Nat} {g D U : Int} (o : Int) (h1 : sumI (fun i => s i * x i) k = g * D) (h2 : sumI (fun i => s i * s i) k = g * U) :
    sumI (fun i => (U * x i - s i * D) * (U * x i - s i * D)) k ≤ sumI (fun i => (U * (x i - s i * o)) * (U * (x i - s i * o))) k := by
  have e : sumI (fun i => (U * (x i - s i * o)) * (U * (x i - s i * o))) k = sumI (fun i => (U * x i - s i * D) * (U * x i - s i * D) + ((2 * (D - U * o)) * (s i * (U * x i - s i * D)) + ((D - U * o) * s i) * ((D - U * o) * s i))) k := sumI_congr fun i _ => by grind
  rw [e, sumI_add, sumI_add, sumI_mul, left_zero h1 h2]
  have h3 : 0 ≤ sumI (fun i => ((D - U * o) * s i) * ((D - U * o) * s i)) k := sumI_nonneg fun i _ => by
    by_cases h : 0 ≤ (D - U * o) * s i
    · exact Int.mul_nonneg h h
    · exact Int.mul_nonneg_of_nonpos_of_nonpos (by omega) (by omega)
  omega
end Go.Proofs.YtlbffdgojmjijaaDoor
