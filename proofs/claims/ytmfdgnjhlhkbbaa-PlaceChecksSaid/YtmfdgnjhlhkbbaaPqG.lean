/-
  WALKS: the reference's Fits.
-/
import Derived.Test.YtmfdgnjhlhkbbaaPqF
namespace Go.Proofs.Ytmfdgnjhlhkbbaa
open Go.RowKit

set_option maxRecDepth 100000 in
set_option maxHeartbeats 4000000 in
theorem rfits_of (w : World) (E : Int) (a b : Option Addr) (n c m d : Nat) (f g : Nat → Int) (hn0 : n ≤ 9223372036854775807) (hm : m ≤ 9223372036854775807) (hS : Sl w 3 a n f) (hG : Sl w 1 b m g) :
    Calls Try.prog 41 #[.int .i64 E, .slice a n c, .slice b m d] w fun e' w' => e' = .returned (ft2 (fitR E n f m g)) ∧ Below w.heap.size w w' := by
  by_cases h0 : bchk E n f = 0
  · have hn := bchk_n h0
    have H0 := Lib.hid h0
    by_cases h1 : (m : Int) = E
    · subst h1
      have hE : fitR m n f m g = if first (fpAt g) m ≠ 0 then (0, 1) else (first (fvAt f g) n - 1, 0) := by unfold fitR; rw [if_neg (by simpa using h0), if_neg (by simp)]
      obtain ⟨r, hr⟩ : ∃ r, fitR m n f m g = r := ⟨_, rfl⟩
      rw [hr] at hE ⊢
      have HE := Lib.hid hE
      clear hE hr h0
      have HG := Lib.hid hG
      have HS := Lib.hid hS
      clear hG hS
      go_enter Try.func41, Try.ntmps41
      go_wp2_with (go_at_call 38; refine (rcheck_of _ _ a n c f hn0 HS.out).mono ?_; rintro e w9 ⟨rfl, hw9⟩; rw [hw9]; clear hw9 w9; rw [H0.out])
      go_loopw [9] (fun vi wr => ∃ i : Nat, i ≤ m ∧ vi = .int .i64 i ∧ Hid (∀ j, j < i → fpAt g j = 0) ∧ Hid (wr = w)) (fun vi _ => m - (intOf vi).toNat)
      case atStart => exact ⟨0, by omega, rfl, fun j hj => by omega, rfl⟩
      case round =>
        obtain ⟨i, hi, rfl, HI, HW⟩ := hrel
        by_cases hlt : i < m
        · obtain ⟨bb, o, rfl, hI⟩ := HG.out (by omega)
          have hI2 : Ints wr bb o (m * 1) g := by rw [HW.out]; exact hI
          have d0 := hI2 i (by omega)
          have hf : fpAt g i = if isPl (g i) = true then 0 else 1 := rfl
          clear hI hI2
          generalize g i = X at d0 hf ⊢
          obtain ⟨q, hq⟩ : ∃ q, isPl X = q := ⟨_, rfl⟩
          rw [hq] at hf
          have HQ := Lib.hid hq
          have HF := Lib.hid hf
          clear hq hf
          cases q with
          | true =>
            go_wp2_with (go_at_call 66; refine (rpl_of _ _).mono ?_; rintro e w9 ⟨rfl, hw9⟩; rw [hw9]; clear hw9 w9; rw [HQ.out])
            have hf : fpAt g i = 0 := by simpa using HF.out
            exact ⟨⟨i + 1, by omega, by go_num, (fun j hj => by
              by_cases ej : j = i
              · subst ej; exact hf
              · exact HI.out j (by omega)), HW.out⟩, by simp [intOf]; omega⟩
          | false =>
            go_wp2_with (go_at_call 66; refine (rpl_of _ _).mono ?_; rintro e w9 ⟨rfl, hw9⟩; rw [hw9]; clear hw9 w9; rw [HQ.out])
            have hf : fpAt g i = 1 := by simpa using HF.out
            have hE := HE.out
            rw [first_at HI.out (by rw [hf]; decide) hlt, hf, if_pos (by decide)] at hE
            exact bodyPost_ret (v := ft2 (0, 1)) (by simp [results, Try.f41, go_sem, ft2]) rfl ⟨by rw [hE], by rw [HW.out]; exact Below.refl _ _⟩
        · obtain rfl : i = m := by omega
          have hE := HE.out
          rw [first_zero HI.out, if_neg (by simp)] at hE
          have HE2 := Lib.hid hE
          have hg : ∀ j, j < i → -1073741824 ≤ g j ∧ g j ≤ 1073741824 := fun j hj => by
            have := HI.out j hj
            unfold fpAt at this
            by_cases h : isPl (g j) = true
            · have h2 : -1073741824 ≤ g j ∧ g j ≤ 1073741824 := by simpa [isPl] using h
              exact h2
            · rw [if_neg h] at this; exact absurd this (by decide)
          have Hg := Lib.hid hg
          clear hE hg
          go_wp2_with fail
          go_loopw [10] (fun vi wr' => ∃ k : Nat, k ≤ n ∧ vi = .int .i64 k ∧ Hid (∀ j, j < k → fvAt f g j = 0) ∧ Hid (Below w.heap.size w wr')) (fun vi _ => n - (intOf vi).toNat)
          case atStart => exact ⟨0, by omega, rfl, fun j hj => by omega, by rw [HW.out]; exact Below.refl _ _⟩
          case round =>
            obtain ⟨k, hk, rfl, HI3, HB3⟩ := hrel
            by_cases hlt2 : k < n
            · obtain ⟨b3, o3, rfl, hI3⟩ := HS.out (by omega)
              obtain ⟨h1, h2, h3⟩ := bchk_most H0.out hlt2
              obtain ⟨b2, o2, rfl, hI2⟩ := HG.out (by omega)
              have hJ := hI2.keep HB3.out (hI2.lt (by omega))
              have hJ3 := hI3.keep HB3.out (hI3.lt (by omega))
              have d0 := hJ3 (k * 3) (by omega)
              have d1 := hJ3.at (k * 3) 1 (by omega)
              have d2 := hJ3.at (k * 3) 2 (by omega)
              obtain ⟨x, hx⟩ : ∃ x : Nat, f (k * 3) = (x : Int) := ⟨(f (k * 3)).toNat, by omega⟩
              obtain ⟨y, hy⟩ : ∃ y : Nat, f (k * 3 + 1) = (y : Int) := ⟨(f (k * 3 + 1)).toNat, by omega⟩
              have hv : fvAt f g k = if f (k * 3 + 2) < g y - g x then (k : Int) + 1 else 0 := by unfold fvAt; rw [hx, hy, Int.toNat_natCast, Int.toNat_natCast]
              rw [hx] at d0 h1
              rw [hy] at d1 h2
              have hxn : x < i := by omega
              have hyn : y < i := by omega
              have e1 := hJ x (by omega)
              have e2 := hJ y (by omega)
              have gx := Hg.out x hxn
              have gy := Hg.out y hyn
              clear hI2 hI3 hJ hJ3 hx hy h1 h2 h3
              generalize f (k * 3 + 2) = M at d2 hv ⊢
              generalize g x = X at e1 gx hv ⊢
              generalize g y = Y at e2 gy hv ⊢
              by_cases hM : M < Y - X
              · rw [if_pos hM] at hv
                have HV := Lib.hid hv
                clear hv
                go_wp2_with fail
                go_quiet (fail)
                go_wp2_with fail
                have hb := HB3.out
                have hE := HE2.out
                rw [first_at HI3.out (by rw [HV.out]; omega) hlt2, HV.out, show (k : Int) + 1 - 1 = k by omega] at hE
                exact bodyPost_ret (v := ft2 ((k : Int), 0)) (by simp [results, Try.f41, go_sem, ft2]) rfl ⟨by rw [hE], ⟨hb.os, hb.tape, hb.output, hb.size, hb.block⟩⟩
              · rw [if_neg hM] at hv
                have HV := Lib.hid hv
                have hM2 : Y - X ≤ M := by omega
                clear hv hM
                go_wp2_with fail
                go_quiet (fail)
                go_wp2_with fail
                have hb := HB3.out
                exact ⟨⟨k + 1, by omega, by go_num, (fun j hj => by
                  by_cases ej : j = k
                  · subst ej; exact HV.out
                  · exact HI3.out j (by omega)), ⟨hb.os, hb.tape, hb.output, hb.size, hb.block⟩⟩, by simp [intOf]; omega⟩
            · obtain rfl : k = n := by omega
              have hE := HE2.out
              rw [first_zero HI3.out] at hE
              have HE3 := Lib.hid hE
              clear hE
              go_wp2_with fail
              exact bodyPost_ret (v := ft2 (-1, 0)) (by simp [results, Try.f41, go_sem, ft2]) rfl ⟨by rw [HE3.out]; rfl, HB3.out⟩
    · have hE : fitR E n f m g = (0, 4) := by unfold fitR; rw [if_neg (by simpa using h0), if_pos h1]
      rw [hE]
      have hb1 : ((m : Int) == E) = false := by simpa using h1
      have hb2 : ((m : Int) != E) = true := by simpa using h1
      clear hE h0 hG h1
      go_enter Try.func41, Try.ntmps41
      go_wp2_with (go_at_call 38; refine (rcheck_of _ E a n c f hn0 hS).mono ?_; rintro e w9 ⟨rfl, hw9⟩; rw [hw9]; clear hw9 w9; rw [H0.out])
      exact bodyPost_ret (v := ft2 (0, 4)) (by simp [results, Try.f41, go_sem, ft2]) rfl ⟨rfl, Below.refl _ _⟩
  · have hE : fitR E n f m g = (0, bchk E n f) := by unfold fitR; rw [if_pos (by simpa using h0)]
    rw [hE]
    have hne : (bchk E n f == 0) = false := by simpa using h0
    have hne2 : (bchk E n f != 0) = true := by simpa using h0
    clear hE h0 hG
    go_enter Try.func41, Try.ntmps41
    go_wp2_with (go_at_call 38; refine (rcheck_of _ E a n c f hn0 hS).mono ?_; rintro e w9 ⟨rfl, hw9⟩; rw [hw9]; clear hw9 w9)
    exact bodyPost_ret (v := ft2 (0, bchk E n f)) (by simp [results, Try.f41, go_sem, ft2]) rfl ⟨rfl, Below.refl _ _⟩
end Go.Proofs.Ytmfdgnjhlhkbbaa
