/-
  MATHEMATICS: DentDrifts: the numbers of its loops, and their bounds.
-/
import Derived.Test.YtlbffdgojmjijaaDoorDrI
namespace Go.Proofs.YtlbffdgojmjijaaDoor
open Go.RowKit

theorem mb {a b A B : Int} (ha : -A ≤ a ∧ a ≤ A) (hb : -B ≤ b ∧ b ≤ B) : -(A * B) ≤ a * b ∧ a * b ≤ A * B := by
  have h1 : (a * b).natAbs ≤ A.toNat * B.toNat := by
    rw [Int.natAbs_mul]
    exact Nat.mul_le_mul (by omega) (by omega)
  have h2 : ((A.toNat * B.toNat : Nat) : Int) = A * B := by
    rw [Int.natCast_mul, Int.toNat_of_nonneg (by omega), Int.toNat_of_nonneg (by omega)]
  omega
theorem uv {U x s D o : Int} (hU : 1 ≤ U ∧ U ≤ 432) (hx : -128 ≤ x ∧ x ≤ 127) (hs : 1 ≤ s ∧ s ≤ 12) (hD : -4608 ≤ D ∧ D ≤ 4608) (ho : -128 ≤ o ∧ o ≤ 127) :
    ∃ A B u C E v lu uu vv : Int, U * x = A ∧ s * D = B ∧ A - B = u ∧ s * o = C ∧ x - C = E ∧ U * E = v ∧ s * u = lu ∧ u * u = uu ∧ v * v = vv ∧
      (-55296 ≤ A ∧ A ≤ 55296) ∧ (-55296 ≤ B ∧ B ≤ 55296) ∧ (-110592 ≤ u ∧ u ≤ 110592) ∧ (-1536 ≤ C ∧ C ≤ 1536) ∧ (-1664 ≤ E ∧ E ≤ 1664) ∧ (-718848 ≤ v ∧ v ≤ 718848) ∧ (-1327104 ≤ lu ∧ lu ≤ 1327104) ∧ (0 ≤ uu ∧ uu ≤ 12230590464) ∧ (0 ≤ vv ∧ vv ≤ 516742447104) := by
  have h1 := mb (a := U) (b := x) (A := 432) (B := 128) (by omega) (by omega)
  have h2 := mb (a := s) (b := D) (A := 12) (B := 4608) (by omega) (by omega)
  have h3 := mb (a := s) (b := o) (A := 12) (B := 128) (by omega) (by omega)
  obtain ⟨A, hA⟩ : ∃ A, U * x = A := ⟨_, rfl⟩
  obtain ⟨B, hB⟩ : ∃ A, s * D = A := ⟨_, rfl⟩
  obtain ⟨C, hC⟩ : ∃ A, s * o = A := ⟨_, rfl⟩
  rw [hA] at h1; rw [hB] at h2; rw [hC] at h3
  obtain ⟨u, hu⟩ : ∃ u, A - B = u := ⟨_, rfl⟩
  obtain ⟨E, hE⟩ : ∃ u, x - C = u := ⟨_, rfl⟩
  have h4 := mb (a := U) (b := E) (A := 432) (B := 1664) (by omega) (by omega)
  have h5 := mb (a := s) (b := u) (A := 12) (B := 110592) (by omega) (by omega)
  have h6 := mb (a := u) (b := u) (A := 110592) (B := 110592) (by omega) (by omega)
  obtain ⟨v, hv⟩ : ∃ v, U * E = v := ⟨_, rfl⟩
  rw [hv] at h4
  have h7 := mb (a := v) (b := v) (A := 718848) (B := 718848) (by omega) (by omega)
  have h8 : 0 ≤ u * u := by
    by_cases h : 0 ≤ u
    · exact Int.mul_nonneg h h
    · exact Int.mul_nonneg_of_nonpos_of_nonpos (by omega) (by omega)
  have h9 : 0 ≤ v * v := by
    by_cases h : 0 ≤ v
    · exact Int.mul_nonneg h h
    · exact Int.mul_nonneg_of_nonpos_of_nonpos (by omega) (by omega)
  exact ⟨A, B, u, C, E, v, s * u, u * u, v * v, hA, hB, hu, hC, hE, hv, rfl, rfl, rfl, by omega, by omega, by omega, by omega, by omega, by omega, by omega, by omega, by omega⟩
theorem sumI_bd {g : Nat → Int} {B : Int} {k : Nat} (h : ∀ i, i < k → -B ≤ g i ∧ g i ≤ B) : ∀ i, i ≤ k → -(B * (i : Int)) ≤ sumI g i ∧ sumI g i ≤ B * (i : Int)
  | 0, _ => by simp [sumI]
  | i + 1, hi => by
    have h1 := sumI_bd h i (by omega)
    have h2 := h i (by omega)
    have h3 : B * ((i + 1 : Nat) : Int) = B * (i : Int) + B := by rw [Int.natCast_add, Int.mul_add]; simp
    rw [h3]
    simp only [sumI]
    omega
theorem smD_sum (g : Int → Int → Int → Int → Int) (F M : Nat → Int) : ∀ k, smD g F M k = sumI (fun i => g (F (i * 4)) (M (i * 3)) (M (i * 3 + 1)) (M (i * 3 + 2))) k
  | 0 => rfl
  | k + 1 => by simp only [smD, sumI, smD_sum g F M k]

/-- What the loops of DentDrifts hold: mine, own, and the three sums that are left. -/
structure DrM (k : Nat) (s x y z : Nat → Int) (U D0 D1 D2 o0 o1 o2 : Int) (SM SO S0 S1 S2 : Nat → Int) : Prop where
  z0 : SM 0 = 0 ∧ SO 0 = 0 ∧ S0 0 = 0 ∧ S1 0 = 0 ∧ S2 0 = 0
  mine : ∀ i, SM (i + 1) = SM i + (U * x i - s i * D0) * (U * x i - s i * D0) + (U * y i - s i * D1) * (U * y i - s i * D1) + (U * z i - s i * D2) * (U * z i - s i * D2)
  own : ∀ i, SO (i + 1) = SO i + (U * (x i - s i * o0)) * (U * (x i - s i * o0)) + (U * (y i - s i * o1)) * (U * (y i - s i * o1)) + (U * (z i - s i * o2)) * (U * (z i - s i * o2))
  l0 : ∀ i, S0 (i + 1) = S0 i + s i * (U * x i - s i * D0)
  l1 : ∀ i, S1 (i + 1) = S1 i + s i * (U * y i - s i * D1)
  l2 : ∀ i, S2 (i + 1) = S2 i + s i * (U * z i - s i * D2)
  e0 : S0 k = 0
  e1 : S1 k = 0
  e2 : S2 k = 0
  le : SM k ≤ SO k
theorem drm_of {k : Nat} {s x y z : Nat → Int} {U D0 D1 D2 o0 o1 o2 g : Int} (h0 : sumI (fun i => s i * x i) k = g * D0) (h1 : sumI (fun i => s i * y i) k = g * D1) (h2 : sumI (fun i => s i * z i) k = g * D2) (hU : sumI (fun i => s i * s i) k = g * U) :
    ∃ SM SO S0 S1 S2, DrM k s x y z U D0 D1 D2 o0 o1 o2 SM SO S0 S1 S2 := by
  refine ⟨fun i => sumI (fun j => (U * x j - s j * D0) * (U * x j - s j * D0)) i + sumI (fun j => (U * y j - s j * D1) * (U * y j - s j * D1)) i + sumI (fun j => (U * z j - s j * D2) * (U * z j - s j * D2)) i,
    fun i => sumI (fun j => (U * (x j - s j * o0)) * (U * (x j - s j * o0))) i + sumI (fun j => (U * (y j - s j * o1)) * (U * (y j - s j * o1))) i + sumI (fun j => (U * (z j - s j * o2)) * (U * (z j - s j * o2))) i,
    sumI (fun j => s j * (U * x j - s j * D0)), sumI (fun j => s j * (U * y j - s j * D1)), sumI (fun j => s j * (U * z j - s j * D2)),
    ⟨rfl, rfl, rfl, rfl, rfl⟩, fun i => ?_, fun i => ?_, fun i => rfl, fun i => rfl, fun i => rfl, left_zero h0 hU, left_zero h1 hU, left_zero h2 hU, ?_⟩
  · simp only [sumI]; omega
  · simp only [sumI]; omega
  · have q0 := mine_le o0 h0 hU
    have q1 := mine_le o1 h1 hU
    have q2 := mine_le o2 h2 hU
    omega
theorem DrM.bd {k : Nat} {s x y z : Nat → Int} {U D0 D1 D2 o0 o1 o2 : Int} {SM SO S0 S1 S2 : Nat → Int} (h : DrM k s x y z U D0 D1 D2 o0 o1 o2 SM SO S0 S1 S2) (hU : 1 ≤ U ∧ U ≤ 432) (hD0 : -4608 ≤ D0 ∧ D0 ≤ 4608) (hD1 : -4608 ≤ D1 ∧ D1 ≤ 4608) (hD2 : -4608 ≤ D2 ∧ D2 ≤ 4608) (ho0 : -128 ≤ o0 ∧ o0 ≤ 127) (ho1 : -128 ≤ o1 ∧ o1 ≤ 127) (ho2 : -128 ≤ o2 ∧ o2 ≤ 127)
    (hs : ∀ i, i < k → 1 ≤ s i ∧ s i ≤ 12) (hx : ∀ i, i < k → -128 ≤ x i ∧ x i ≤ 127) (hy : ∀ i, i < k → -128 ≤ y i ∧ y i ≤ 127) (hz : ∀ i, i < k → -128 ≤ z i ∧ z i ≤ 127) :
    ∀ i, i ≤ k → (0 ≤ SM i ∧ SM i ≤ 36691771392 * (i : Int)) ∧ (0 ≤ SO i ∧ SO i ≤ 1550227341312 * (i : Int)) ∧ (-1327104 * (i : Int) ≤ S0 i ∧ S0 i ≤ 1327104 * (i : Int)) ∧ (-1327104 * (i : Int) ≤ S1 i ∧ S1 i ≤ 1327104 * (i : Int)) ∧ (-1327104 * (i : Int) ≤ S2 i ∧ S2 i ≤ 1327104 * (i : Int))
  | 0, _ => by obtain ⟨a, b, c, d, e⟩ := h.z0; rw [a, b, c, d, e]; omega
  | i + 1, hi => by
    have ih := DrM.bd h hU hD0 hD1 hD2 ho0 ho1 ho2 hs hx hy hz i (by omega)
    obtain ⟨A, B, u, C, E, v, lu, uu, vv, a1, a2, a3, a4, a5, a6, a7, a8, a9, b1, b2, b3, b4, b5, b6, b7, b8, b9⟩ := uv hU (hx i (by omega)) (hs i (by omega)) hD0 ho0
    obtain ⟨A', B', u', C', E', v', lu', uu', vv', c1, c2, c3, c4, c5, c6, c7, c8, c9, d1, d2, d3, d4, d5, d6, d7, d8, d9⟩ := uv hU (hy i (by omega)) (hs i (by omega)) hD1 ho1
    obtain ⟨A2, B2, u2, C2, E2, v2, lu2, uu2, vv2, e1, e2, e3, e4, e5, e6, e7, e8, e9, f1, f2, f3, f4, f5, f6, f7, f8, f9⟩ := uv hU (hz i (by omega)) (hs i (by omega)) hD2 ho2
    rw [h.mine, h.own, h.l0, h.l1, h.l2]
    rw [a1, a2, a3, a4, a5, a6, a7, a8, a9, c1, c2, c3, c4, c5, c6, c7, c8, c9, e1, e2, e3, e4, e5, e6, e7, e8, e9]
    push_cast
    omega
end Go.Proofs.YtlbffdgojmjijaaDoor
