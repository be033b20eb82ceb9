/-
  WALKS: the law of distances rolled.
-/
import Derived.BigQuiet
import Derived.BigRegion
import Derived.Test.YtmfdgnjhlhkbbaaPnG
namespace Go.Proofs.Ytmfdgnjhlhkbbaa
open Go.RowKit

theorem fl_le (x : Int) {b : Int} (hb : 1 ≤ b) : b * (x / b) ≤ x := by
  have h := Int.emod_add_mul_ediv x b
  have h1 := Int.emod_nonneg x (show b ≠ 0 by omega)
  omega
theorem le_ce (x : Int) {b : Int} (hb : 1 ≤ b) : x ≤ b * ce x b := by
  have h := fl_le (-x) hb
  unfold ce
  rw [Int.mul_neg]; omega
theorem ce_mono {x y b : Int} (hb : 1 ≤ b) (h : x ≤ y) : ce x b ≤ ce y b := by
  have := Int.ediv_le_ediv (c := b) (by omega) (show -y ≤ -x by omega)
  unfold ce; omega
theorem fl_of_le {x b e : Int} (hb : 1 ≤ b) (h : x ≤ b * e) : x / b ≤ e := by
  have := Int.ediv_le_ediv (c := b) (by omega) h
  rwa [Int.mul_ediv_cancel_left _ (by omega)] at this
theorem ce_of_le {x b e : Int} (hb : 1 ≤ b) (h : b * e ≤ x) : e ≤ ce x b := by
  have := fl_of_le (x := -x) (b := b) (e := -e) hb (by rw [Int.mul_neg]; omega)
  unfold ce; omega

/-- What is asked of a distance rolled. -/
theorem rolled_math {n lo ex hi lo' hi' : Int} (hn : 1 ≤ n ∧ n ≤ 65536) (h : 0 ≤ lo' ∧ lo' ≤ lo ∧ lo ≤ ex ∧ ex ≤ hi ∧ hi ≤ hi' ∧ hi' ≤ 200000) :
    ∃ R H L' H', (odo n lo hi = (R, H, 0) ∧ odo n lo' hi' = (L', H', 0)) ∧ (1000 * R ≤ n * ex ∧ n * ex ≤ 1000 * H ∧ L' ≤ R ∧ H ≤ H' ∧ 0 ≤ R ∧ H ≤ 13107200 ∧ R ≤ 13107200 ∧ 0 ≤ L' ∧ H' ≤ 13107200 ∧ 0 ≤ n * ex ∧ n * ex ≤ 13107200000) ∧
      ∃ C D, cal n R H = (C, D, 0) ∧ C ≤ ex ∧ ex ≤ D ∧ 0 ≤ C ∧ D ≤ 13107200000 := by
  have e1 := odo_ok (t := n) (lo := lo) (hi := hi) (by omega) (by omega)
  have e2 := odo_ok (t := n) (lo := lo') (hi := hi') (by omega) (by omega)
  have m1 : n * lo' ≤ n * lo := Int.mul_le_mul_of_nonneg_left h.2.1 (by omega)
  have m2 : n * lo ≤ n * ex := Int.mul_le_mul_of_nonneg_left h.2.2.1 (by omega)
  have m3 : n * ex ≤ n * hi := Int.mul_le_mul_of_nonneg_left h.2.2.2.1 (by omega)
  have m4 : n * hi ≤ n * hi' := Int.mul_le_mul_of_nonneg_left h.2.2.2.2.1 (by omega)
  have m5 : n * hi' ≤ 65536 * 200000 := Int.mul_le_mul hn.2 h.2.2.2.2.2 (by omega) (by omega)
  have m0 : 0 ≤ n * lo' := Int.mul_nonneg (by omega) h.1
  have d1 := fl_le (n * lo) (b := 1000) (by decide)
  have d2 := le_ce (n * hi) (b := 1000) (by decide)
  have d3 := Int.ediv_le_ediv (c := 1000) (by decide) m1
  have d4 := ce_mono (b := 1000) (by decide) m4
  have b1 : 0 ≤ n * lo' / 1000 := Int.ediv_nonneg m0 (by decide)
  have b2 : ce (n * hi') 1000 ≤ 13107200 := by unfold ce; omega
  have b3 : n * lo / 1000 ≤ ce (n * hi) 1000 := by unfold ce; omega
  refine ⟨_, _, _, _, ⟨e1, e2⟩, ⟨by omega, by omega, d3, d4, by omega, by omega, by omega, b1, b2, by omega, by omega⟩, ?_⟩
  have hr : rgErr (n * lo / 1000) (ce (n * hi) 1000) 0 1073741824 = 0 := by
    rcases rg_ways (n * lo / 1000) (ce (n * hi) 1000) 0 1073741824 with ⟨_, g⟩ | ⟨_, g⟩ | ⟨_, g⟩
    · omega
    · omega
    · exact g
  refine ⟨_, _, cal_ok (by omega) hr, fl_of_le (by omega) (by omega), ce_of_le (by omega) (by omega), Int.ediv_nonneg (by omega) (by omega), ?_⟩
  have k := Int.ediv_le_ediv (c := n) (by omega) (show n * (-13107200000) ≤ -(1000 * ce (n * hi) 1000) by
    have : 1 * 13107200000 ≤ n * 13107200000 := Int.mul_le_mul_of_nonneg_right hn.1 (by decide)
    rw [Int.mul_neg]; omega)
  rw [Int.mul_ediv_cancel_left _ (by omega)] at k
  unfold ce at k ⊢; omega

/-- What is asked of a place passed. -/
theorem passed_math {A e l t v u h : Int} (hA : -536870912 ≤ A ∧ A ≤ 536870912) (h1 : -32768 ≤ e ∧ e ≤ t ∧ t ≤ l ∧ l ≤ 98301) (h2 : 0 ≤ u ∧ u ≤ v ∧ v ≤ h ∧ h ≤ 29997) :
    ∃ L H, pas A e l u h = (L, H, 0) ∧ 1000 * L ≤ 1000 * A + v * t ∧ 1000 * A + v * t ≤ 1000 * H ∧ (-1073741824 ≤ L ∧ L ≤ 1073741824) ∧ (-1073741824 ≤ H ∧ H ≤ 1073741824) ∧ -34359738368 ≤ v * t ∧ v * t ≤ 34359738368 := by
  have hb : isPl A = true := by unfold isPl; rw [decide_eq_true_iff]; omega
  have hz := pasE_zero (at_ := A) (alo := e) (ahi := l) (slo := u) (shi := h) hb (by omega) (by omega)
  have m1 := mul_bd2 (a := e) (b := u) (by omega) (by omega)
  have m2 := mul_bd2 (a := e) (b := h) (by omega) (by omega)
  have m3 := mul_bd2 (a := l) (b := u) (by omega) (by omega)
  have m4 := mul_bd2 (a := l) (b := h) (by omega) (by omega)
  have m5 := mul_bd2 (a := t) (b := v) (by omega) (by omega)
  rw [Int.mul_comm] at m5
  have k1 : v * e ≤ v * t := Int.mul_le_mul_of_nonneg_left h1.2.1 (by omega)
  have k2 : v * t ≤ v * l := Int.mul_le_mul_of_nonneg_left h1.2.2.1 (by omega)
  have k3 : min (e * u) (e * h) ≤ v * e := by
    by_cases hs : 0 ≤ e
    · have : e * u ≤ e * v := Int.mul_le_mul_of_nonneg_left h2.2.1 hs
      rw [Int.mul_comm v e]; omega
    · have : (-e) * v ≤ (-e) * h := Int.mul_le_mul_of_nonneg_left h2.2.2.1 (by omega)
      rw [Int.neg_mul, Int.neg_mul] at this
      rw [Int.mul_comm v e]; omega
  have k4 : v * l ≤ max (l * u) (l * h) := by
    by_cases hs : 0 ≤ l
    · have : l * v ≤ l * h := Int.mul_le_mul_of_nonneg_left h2.2.2.1 hs
      rw [Int.mul_comm v l]; omega
    · have : (-l) * u ≤ (-l) * v := Int.mul_le_mul_of_nonneg_left h2.2.1 (by omega)
      rw [Int.neg_mul, Int.neg_mul] at this
      rw [Int.mul_comm v l]; omega
  obtain ⟨mn, hmn⟩ : ∃ x, min (e * u) (e * h) = x := ⟨_, rfl⟩
  obtain ⟨mx, hmx⟩ : ∃ x, max (l * u) (l * h) = x := ⟨_, rfl⟩
  have q1 : -34359738368 ≤ mn ∧ mn ≤ 34359738368 := by omega
  have q2 : -34359738368 ≤ mx ∧ mx ≤ 34359738368 := by omega
  have d1 := div_bd2 q1
  have d2 := div_bd2 q2
  have f1 := fl_le mn (b := 1000) (by decide)
  have f2 := le_ce mx (b := 1000) (by decide)
  rw [hmn] at k3
  rw [hmx] at k4
  have p1 : isPl (A + mn / 1000) = true := by unfold isPl; rw [decide_eq_true_iff]; omega
  have p2 : isPl (A + ce mx 1000) = true := by unfold isPl; rw [decide_eq_true_iff]; omega
  refine ⟨A + mn / 1000, A + ce mx 1000, ?_, by omega, by omega, by omega, by omega, m5.1, m5.2⟩
  unfold pas
  rw [hz, if_neg (by decide), hmn, hmx, p1, p2, if_neg (by simp)]
end Go.Proofs.Ytmfdgnjhlhkbbaa
