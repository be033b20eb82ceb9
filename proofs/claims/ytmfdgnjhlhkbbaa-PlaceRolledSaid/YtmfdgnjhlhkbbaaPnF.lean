/-
  WALKS: the reference of Passed.
-/
import Derived.Test.YtmfdgnjhlhkbbaaPnE
namespace Go.Proofs.Ytmfdgnjhlhkbbaa
open Go.RowKit

theorem isPl_t {x : Int} (h : isPl x = true) : -1073741824 ≤ x ∧ x ≤ 1073741824 := by simpa [isPl] using h
theorem pasE_pl {at_ alo ahi slo shi : Int} (h : isPl at_ = false) : pasE at_ alo ahi slo shi = 1 := by unfold pasE; rw [if_pos (.inl h)]
theorem pasE_bad {at_ alo ahi slo shi : Int} (h : alo < -1048576 ∨ 1048576 < alo ∨ ahi < -1048576 ∨ 1048576 < ahi ∨ slo < 0 ∨ 32768 < slo ∨ shi < 0 ∨ 32768 < shi) : pasE at_ alo ahi slo shi = 1 := by
  unfold pasE
  by_cases h1 : isPl at_ = false ∨ rgErr slo shi 0 32768 = 1
  · rw [if_pos h1]
  · rw [if_neg h1]
    have h2 : rgErr alo ahi (-1048576) 1048576 = 1 := by
      rcases rg_ways slo shi 0 32768 with ⟨_, g⟩ | ⟨_, g⟩ | ⟨_, g⟩
      · exact absurd (.inr g) h1
      all_goals
        rcases rg_ways alo ahi (-1048576) 1048576 with ⟨_, g'⟩ | ⟨_, g'⟩ | ⟨_, g'⟩
        · exact g'
        · omega
        · omega
    rw [h2]; rfl
theorem pasE_ord {at_ alo ahi slo shi : Int} (hp : isPl at_ = true) (h : (-1048576 ≤ alo ∧ alo ≤ 1048576) ∧ (-1048576 ≤ ahi ∧ ahi ≤ 1048576) ∧ (0 ≤ slo ∧ slo ≤ 32768) ∧ (0 ≤ shi ∧ shi ≤ 32768)) (h2 : ahi < alo ∨ shi < slo) : pasE at_ alo ahi slo shi = 7 := by
  unfold pasE
  have h1 : ¬(isPl at_ = false ∨ rgErr slo shi 0 32768 = 1) := by
    rw [hp]
    rcases rg_ways slo shi 0 32768 with ⟨_, g⟩ | ⟨_, g⟩ | ⟨_, g⟩
    · omega
    · rw [g]; simp
    · rw [g]; simp
  rw [if_neg h1]
  rcases rg_ways alo ahi (-1048576) 1048576 with ⟨_, g⟩ | ⟨_, g⟩ | ⟨_, g⟩
  · omega
  · rw [g]; rfl
  · rw [g]
    rcases rg_ways slo shi 0 32768 with ⟨_, g'⟩ | ⟨_, g'⟩ | ⟨_, g'⟩
    · omega
    · rw [g']; rfl
    · omega
theorem pasE_zero {at_ alo ahi slo shi : Int} (hp : isPl at_ = true) (h : (-1048576 ≤ alo ∧ alo ≤ 1048576) ∧ (-1048576 ≤ ahi ∧ ahi ≤ 1048576) ∧ (0 ≤ slo ∧ slo ≤ 32768) ∧ (0 ≤ shi ∧ shi ≤ 32768)) (h2 : alo ≤ ahi ∧ slo ≤ shi) : pasE at_ alo ahi slo shi = 0 := by
  unfold pasE
  rcases rg_ways slo shi 0 32768 with ⟨_, g⟩ | ⟨_, g⟩ | ⟨_, g⟩
  · omega
  · omega
  rcases rg_ways alo ahi (-1048576) 1048576 with ⟨_, g'⟩ | ⟨_, g'⟩ | ⟨_, g'⟩
  · omega
  · omega
  rw [g, g', hp]; rfl
theorem pas_err {at_ alo ahi slo shi r : Int} (h : pasE at_ alo ahi slo shi = r) (hr : r ≠ 0) : pas at_ alo ahi slo shi = (0, 0, r) := by
  unfold pas; rw [h, if_pos hr]

set_option maxRecDepth 100000 in
set_option maxHeartbeats 4000000 in
theorem rpassed_of (w : World) (at_ alo ahi slo shi : Int) :
    Calls Try.prog 27 #[.int .i64 at_, .agg #[.int .i64 alo, .int .i64 ahi], .agg #[.int .i64 slo, .int .i64 shi]] w fun e w' => e = .returned (resV (pas at_ alo ahi slo shi)) ∧ Below w.heap.size w w' := by
  cases hb : isPl at_ with
  | false =>
    rw [pas_err (pasE_pl hb) (by decide)]
    have HP := Lib.hid hb
    clear hb
    go_enter Try.func27, Try.ntmps27
    go_wp2_with (go_at_call 66; refine (rpl_of _ _).mono ?_; rintro e w' ⟨rfl, rfl⟩; rw [HP.out])
    exact bodyPost_ret (v := resV (0, 0, 1)) (by simp [results, Try.f27, go_sem, resV]) rfl ⟨rfl, (((Below.refl _ w).alloc (Nat.le_refl _) _).alloc (by simp) _).alloc (by simp; omega) _⟩
  | true =>
  have HP := Lib.hid hb
  have hat := isPl_t hb
  by_cases h1 : alo < -1048576 ∨ 1048576 < alo ∨ ahi < -1048576 ∨ 1048576 < ahi ∨ slo < 0 ∨ 32768 < slo ∨ shi < 0 ∨ 32768 < shi
  · rw [pas_err (pasE_bad h1) (by decide)]
    have h2 : (alo < -1048576 ∨ 1048576 < alo) ∨ ((-1048576 ≤ alo ∧ alo ≤ 1048576) ∧ (ahi < -1048576 ∨ 1048576 < ahi)) ∨ ((-1048576 ≤ alo ∧ alo ≤ 1048576) ∧ (-1048576 ≤ ahi ∧ ahi ≤ 1048576) ∧ (slo < 0 ∨ 32768 < slo)) ∨ ((-1048576 ≤ alo ∧ alo ≤ 1048576) ∧ (-1048576 ≤ ahi ∧ ahi ≤ 1048576) ∧ (0 ≤ slo ∧ slo ≤ 32768) ∧ (shi < 0 ∨ 32768 < shi)) := by omega
    clear h1 hb hat
    rcases h2 with h1 | ⟨h1, h2⟩ | ⟨h1, h2, h3⟩ | ⟨h1, h2, h3, h4⟩
    all_goals
      go_enter Try.func27, Try.ntmps27
      go_wp2_with first | (go_at_call 61; first | (refine (wi_of true _ _ _ _ (by symm; rw [decide_eq_true_iff]; omega)).mono ?_; rintro e w' ⟨rfl, rfl⟩) | (refine (wi_of false _ _ _ _ (by symm; rw [decide_eq_false_iff_not]; omega)).mono ?_; rintro e w' ⟨rfl, rfl⟩)) | (go_at_call 66; refine (rpl_of _ _).mono ?_; rintro e w' ⟨rfl, rfl⟩; first | rw [HP.out] | rw [HP1'.out] | rw [HP2'.out])
      exact bodyPost_ret (v := resV (0, 0, 1)) (by simp [results, Try.f27, go_sem, resV]) rfl ⟨rfl, (((Below.refl _ w).alloc (Nat.le_refl _) _).alloc (by simp) _).alloc (by simp; omega) _⟩
  have hk : (-1048576 ≤ alo ∧ alo ≤ 1048576) ∧ (-1048576 ≤ ahi ∧ ahi ≤ 1048576) ∧ (0 ≤ slo ∧ slo ≤ 32768) ∧ (0 ≤ shi ∧ shi ≤ 32768) := by omega
  clear h1
  by_cases h2 : ahi < alo ∨ shi < slo
  · rw [pas_err (pasE_ord hb hk h2) (by decide)]
    clear hb hat
    have h3 : ahi < alo ∨ (alo ≤ ahi ∧ shi < slo) := by omega
    clear h2
    rcases h3 with h3 | ⟨h3, h4⟩
    all_goals
      go_enter Try.func27, Try.ntmps27
      go_wp2_with first | (go_at_call 61; first | (refine (wi_of true _ _ _ _ (by symm; rw [decide_eq_true_iff]; omega)).mono ?_; rintro e w' ⟨rfl, rfl⟩) | (refine (wi_of false _ _ _ _ (by symm; rw [decide_eq_false_iff_not]; omega)).mono ?_; rintro e w' ⟨rfl, rfl⟩)) | (go_at_call 66; refine (rpl_of _ _).mono ?_; rintro e w' ⟨rfl, rfl⟩; first | rw [HP.out] | rw [HP1'.out] | rw [HP2'.out])
      exact bodyPost_ret (v := resV (0, 0, 7)) (by simp [results, Try.f27, go_sem, resV]) rfl ⟨rfl, (((Below.refl _ w).alloc (Nat.le_refl _) _).alloc (by simp) _).alloc (by simp; omega) _⟩
  have h3 : alo ≤ ahi ∧ slo ≤ shi := by omega
  clear h2
  have hE : pas at_ alo ahi slo shi = if isPl (at_ + min (alo * slo) (alo * shi) / 1000) = false ∨ isPl (at_ + ce (max (ahi * slo) (ahi * shi)) 1000) = false then (0, 0, 1) else (at_ + min (alo * slo) (alo * shi) / 1000, at_ + ce (max (ahi * slo) (ahi * shi)) 1000, 0) := by
    unfold pas; rw [pasE_zero hb hk h3]; rfl
  have HE := Lib.hid hE
  clear hE hb
  obtain ⟨k1, k2, k3, k4⟩ := hk
  obtain ⟨k5, k6⟩ := h3
  have m1 := mul_bd2 (a := alo) (b := slo) (by omega) (by omega)
  have m2 := mul_bd2 (a := alo) (b := shi) (by omega) (by omega)
  have m3 := mul_bd2 (a := ahi) (b := slo) (by omega) (by omega)
  have m4 := mul_bd2 (a := ahi) (b := shi) (by omega) (by omega)
  obtain ⟨p1, hp1⟩ : ∃ p, alo * slo = p := ⟨_, rfl⟩
  obtain ⟨p2, hp2⟩ : ∃ p, alo * shi = p := ⟨_, rfl⟩
  obtain ⟨p3, hp3⟩ : ∃ p, ahi * slo = p := ⟨_, rfl⟩
  obtain ⟨p4, hp4⟩ : ∃ p, ahi * shi = p := ⟨_, rfl⟩
  have w1 : IntKind.i64.wrap (alo * slo) = p1 := (IntWalk.i64_in _ (by omega)).trans hp1
  have w2 : IntKind.i64.wrap (alo * shi) = p2 := (IntWalk.i64_in _ (by omega)).trans hp2
  have w3 : IntKind.i64.wrap (ahi * slo) = p3 := (IntWalk.i64_in _ (by omega)).trans hp3
  have w4' : IntKind.i64.wrap (ahi * shi) = p4 := (IntWalk.i64_in _ (by omega)).trans hp4
  rw [hp1, hp2, hp3, hp4] at HE
  rw [hp1] at m1
  rw [hp2] at m2
  rw [hp3] at m3
  rw [hp4] at m4
  have hmn : ∃ mn, (p1 ≤ p2 ∧ mn = p1 ∨ p2 < p1 ∧ mn = p2) ∧ min p1 p2 = mn := ⟨_, by omega, rfl⟩
  have hmx : ∃ mx, (p4 ≤ p3 ∧ mx = p3 ∨ p3 < p4 ∧ mx = p4) ∧ max p3 p4 = mx := ⟨_, by omega, rfl⟩
  obtain ⟨mn, hmn, e1⟩ := hmn
  obtain ⟨mx, hmx, e2⟩ := hmx
  have hm1 : -34359738368 ≤ mn ∧ mn ≤ 34359738368 := by omega
  have hm2 : -34359738368 ≤ mx ∧ mx ≤ 34359738368 := by omega
  have d1 := div_bd2 hm1
  have d2 := div_bd2 hm2
  rw [e1, e2] at HE
  clear hp1 hp2 hp3 hp4 e1 e2 m1 m2 m3 m4
  have q1 : IntKind.i64.wrap (at_ + mn / 1000) = at_ + mn / 1000 := IntWalk.i64_in _ (by omega)
  have q2 : IntKind.i64.wrap (at_ + ce mx 1000) = at_ + ce mx 1000 := IntWalk.i64_in _ (by omega)
  rcases hmn with ⟨n1, rfl⟩ | ⟨n1, rfl⟩
  all_goals
    rcases hmx with ⟨n2, rfl⟩ | ⟨n2, rfl⟩
    all_goals
      have HP1 := Lib.hid hm1
      have HP2 := Lib.hid hm2
      cases hb1 : isPl (at_ + mn / 1000) with
      | false =>
        rw [hb1] at HE
        have HP1' := Lib.hid hb1
        clear hb1
        go_enter Try.func27, Try.ntmps27
        go_wp2_with first | (go_at_call 61; first | (refine (wi_of true _ _ _ _ (by symm; rw [decide_eq_true_iff]; omega)).mono ?_; rintro e w' ⟨rfl, rfl⟩) | (refine (wi_of false _ _ _ _ (by symm; rw [decide_eq_false_iff_not]; omega)).mono ?_; rintro e w' ⟨rfl, rfl⟩)) | (go_at_call 66; refine (rpl_of _ _).mono ?_; rintro e w' ⟨rfl, rfl⟩; first | rw [HP.out] | rw [HP1'.out] | rw [HP2'.out]) | (go_at_call 64; refine (rfloor_of _ mn 1000 (by decide) (by decide) (by omega)).mono ?_; rintro e w' ⟨rfl, rfl⟩) | (go_at_call 65; refine (rceil_of _ mx 1000 (by decide) (by decide) (by omega)).mono ?_; rintro e w' ⟨rfl, rfl⟩)
        rw [if_pos (by simp)] at HE
        exact bodyPost_ret (v := resV (0, 0, 1)) (by simp [results, Try.f27, go_sem, resV]) rfl ⟨by rw [HE.out], (((((Below.refl _ w).alloc (Nat.le_refl _) _).alloc (by simp) _).alloc (by simp; omega) _).alloc (by simp; omega) _)⟩
      | true =>
        rw [hb1] at HE
        have HP1' := Lib.hid hb1
        clear hb1
        cases hb2 : isPl (at_ + ce mx 1000) with
        | false =>
          rw [hb2] at HE
          have HP2' := Lib.hid hb2
          clear hb2
          go_enter Try.func27, Try.ntmps27
          go_wp2_with first | (go_at_call 61; first | (refine (wi_of true _ _ _ _ (by symm; rw [decide_eq_true_iff]; omega)).mono ?_; rintro e w' ⟨rfl, rfl⟩) | (refine (wi_of false _ _ _ _ (by symm; rw [decide_eq_false_iff_not]; omega)).mono ?_; rintro e w' ⟨rfl, rfl⟩)) | (go_at_call 66; refine (rpl_of _ _).mono ?_; rintro e w' ⟨rfl, rfl⟩; first | rw [HP.out] | rw [HP1'.out] | rw [HP2'.out]) | (go_at_call 64; refine (rfloor_of _ mn 1000 (by decide) (by decide) (by omega)).mono ?_; rintro e w' ⟨rfl, rfl⟩) | (go_at_call 65; refine (rceil_of _ mx 1000 (by decide) (by decide) (by omega)).mono ?_; rintro e w' ⟨rfl, rfl⟩)
          rw [if_pos (by simp)] at HE
          exact bodyPost_ret (v := resV (0, 0, 1)) (by simp [results, Try.f27, go_sem, resV]) rfl ⟨by rw [HE.out], (((((Below.refl _ w).alloc (Nat.le_refl _) _).alloc (by simp) _).alloc (by simp; omega) _).alloc (by simp; omega) _)⟩
        | true =>
          rw [hb2] at HE
          have HP2' := Lib.hid hb2
          clear hb2
          go_enter Try.func27, Try.ntmps27
          go_wp2_with first | (go_at_call 61; first | (refine (wi_of true _ _ _ _ (by symm; rw [decide_eq_true_iff]; omega)).mono ?_; rintro e w' ⟨rfl, rfl⟩) | (refine (wi_of false _ _ _ _ (by symm; rw [decide_eq_false_iff_not]; omega)).mono ?_; rintro e w' ⟨rfl, rfl⟩)) | (go_at_call 66; refine (rpl_of _ _).mono ?_; rintro e w' ⟨rfl, rfl⟩; first | rw [HP.out] | rw [HP1'.out] | rw [HP2'.out]) | (go_at_call 64; refine (rfloor_of _ mn 1000 (by decide) (by decide) (by omega)).mono ?_; rintro e w' ⟨rfl, rfl⟩) | (go_at_call 65; refine (rceil_of _ mx 1000 (by decide) (by decide) (by omega)).mono ?_; rintro e w' ⟨rfl, rfl⟩)
          rw [if_neg (by simp)] at HE
          exact bodyPost_ret (v := resV (at_ + mn / 1000, at_ + ce mx 1000, 0)) (by simp [results, Try.f27, go_sem, resV]) rfl ⟨by rw [HE.out], (((((Below.refl _ w).alloc (Nat.le_refl _) _).alloc (by simp) _).alloc (by simp; omega) _).alloc (by simp; omega) _)⟩
end Go.Proofs.Ytmfdgnjhlhkbbaa
