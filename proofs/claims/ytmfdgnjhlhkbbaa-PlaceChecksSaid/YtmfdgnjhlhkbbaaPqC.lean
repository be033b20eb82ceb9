/-
  WALKS: the errors of a chain.
-/
import Derived.Test.YtmfdgnjhlhkbbaaPqA
import Derived.Test.YtmfdgnjhlhkbbaaPqB
namespace Go.Proofs.Ytmfdgnjhlhkbbaa
open Go.RowKit

/-- The error of a chain's element; of two that follow each other. -/
def ciAt (n : Nat) (g : Nat → Int) (i : Nat) : Int := if 0 ≤ g i ∧ g i < n then 0 else 1
def coAt (f g : Nat → Int) (i : Nat) : Int := if f ((g (i + 1)).toNat * 3) = f ((g i).toNat * 3 + 1) then 0 else 7
/-- The error of a chain. -/
def chErr (E : Int) (n : Nat) (f : Nat → Int) (m : Nat) (g : Nat → Int) : Int :=
  if bchk E n f ≠ 0 then bchk E n f else if m = 0 ∨ 64 < m then 4 else if first (ciAt n g) m ≠ 0 then first (ciAt n g) m else first (coAt f g) (m - 1)
theorem bchk_n {E : Int} {n : Nat} {f : Nat → Int} (h : bchk E n f = 0) : n ≤ 256 ∧ 1 ≤ E ∧ E ≤ 64 := by
  unfold bchk at h
  by_cases h1 : E < 1 ∨ 64 < E ∨ 256 < n
  · rw [if_pos h1] at h; omega
  · omega

set_option maxRecDepth 100000 in
set_option maxHeartbeats 4000000 in
theorem checkChain_of (w : World) (E : Int) (a b : Option Addr) (n c m d : Nat) (f g : Nat → Int) (hm : m ≤ 9223372036854775807) (hS : Sl w 3 a n f) (hG : Sl w 1 b m g) :
    Calls Try.prog 75 #[.int .i64 E, .slice a n c, .slice b m d] w fun e' w' => e' = .returned (.int .i64 (chErr E n f m g)) ∧ Below w.heap.size w w' := by
  by_cases h0 : bchk E n f = 0
  · have hn := bchk_n h0
    have H0 := Lib.hid h0
    by_cases h1 : m = 0
    · have hE : chErr E n f m g = 4 := by unfold chErr; rw [if_neg (by simpa using h0), if_pos (.inl h1)]
      rw [hE]
      subst h1
      clear hE h0 hG
      go_enter Try.func75, Try.ntmps75
      go_wp2_with (go_at_call 37; refine (check_of _ E a n c f hS).mono ?_; rintro e w2 ⟨rfl, hB⟩; rw [H0.out])
      go_ret
      exact ⟨rfl, hB⟩
    by_cases h2 : 64 < m
    · have hE : chErr E n f m g = 4 := by unfold chErr; rw [if_neg (by simpa using h0), if_pos (.inr h2)]
      rw [hE]
      clear hE h0 hG
      go_enter Try.func75, Try.ntmps75
      go_wp2_with (go_at_call 37; refine (check_of _ E a n c f hS).mono ?_; rintro e w2 ⟨rfl, hB⟩; rw [H0.out])
      go_ret
      exact ⟨rfl, hB⟩
    have hE : chErr E n f m g = if first (ciAt n g) m ≠ 0 then first (ciAt n g) m else first (coAt f g) (m - 1) := by unfold chErr; rw [if_neg (by simpa using h0), if_neg (by omega)]
    obtain ⟨V, hV⟩ : ∃ V, chErr E n f m g = V := ⟨_, rfl⟩
    rw [hV] at hE ⊢
    have HV := Lib.hid hE
    have hm0 : ((m : Int) == 0) = false := by simpa using h1
    have hm1 : 1 ≤ m ∧ m ≤ 64 := by omega
    clear hE h0 hV h1 h2
    have HG := Lib.hid hG
    have HS := Lib.hid hS
    clear hG hS
    go_enter Try.func75, Try.ntmps75
    go_wp2_with (go_at_call 37; refine (check_of _ E a n c f HS.out).mono ?_; rintro e w2 ⟨rfl, hB⟩; rw [H0.out])
    have HB2 := Lib.hid hB
    clear hB
    go_loopw [27] (fun vi wr => ∃ i : Nat, i ≤ m ∧ vi = .int .i64 i ∧ Hid (∀ j, j < i → ciAt n g j = 0) ∧ Hid (wr = w2)) (fun vi _ => m - (intOf vi).toNat)
    case atStart => exact ⟨0, by omega, rfl, fun j hj => by omega, rfl⟩
    case round =>
      obtain ⟨i, hi, rfl, HI, HW⟩ := hrel
      by_cases hlt : i < m
      · obtain ⟨bb, o, rfl, hI⟩ := HG.out (by omega)
        have hI2 : Ints wr bb o (m * 1) g := by rw [HW.out]; exact hI.keep HB2.out (hI.lt (by omega))
        have d0 := hI2 i (by omega)
        clear hI hI2
        have HE : Hid (ciAt n g i = if 0 ≤ g i ∧ g i < n then 0 else 1) := rfl
        obtain ⟨R, hR⟩ : ∃ R, ciAt n g i = R := ⟨_, rfl⟩
        have HF : Hid (R ≠ 0 → first (ciAt n g) m = R) := fun hne => by rw [← hR]; exact first_at HI.out (by rw [hR]; exact hne) hlt
        generalize g i = X at HE d0 ⊢
        rw [hR] at HE
        have HR := Lib.hid hR
        clear hR
        by_cases hx : 0 ≤ X ∧ X < n
        · have hR0 : R = 0 := by have := HE.out; rw [if_pos hx] at this; exact this
          subst hR0
          go_wp2_with (go_at_call 62; refine (idx_of true _ _ _ (by symm; rw [decide_eq_true_iff]; omega)).mono ?_; rintro e w9 ⟨rfl, hw9⟩; rw [hw9]; clear hw9 w9)
          exact ⟨⟨i + 1, by omega, by go_num, (fun j hj => by
            by_cases ej : j = i
            · subst ej; exact HR.out
            · exact HI.out j (by omega)), HW.out⟩, by simp [intOf]; omega⟩
        · have hR0 : R = 1 := by have := HE.out; rw [if_neg hx] at this; exact this
          subst hR0
          go_wp2_with (go_at_call 62; refine (idx_of false _ _ _ (by symm; rw [decide_eq_false_iff_not]; exact hx)).mono ?_; rintro e w9 ⟨rfl, hw9⟩; rw [hw9]; clear hw9 w9)
          go_ret
          refine ⟨?_, by rw [HW.out]; exact HB2.out⟩
          have hv := HV.out
          rw [HF.out (by decide), if_pos (by decide)] at hv
          rw [hv]; rfl
      · obtain rfl : i = m := by omega
        have hC : ∀ j, j < i → 0 ≤ g j ∧ g j < n := fun j hj => by
          have := HI.out j hj
          unfold ciAt at this
          by_cases h : 0 ≤ g j ∧ g j < n
          · exact h
          · rw [if_neg h] at this; exact absurd this (by decide)
        have HC := Lib.hid hC
        have H1 : Hid (first (ciAt n g) i = 0) := first_zero HI.out
        clear hC
        have hV2 : V = first (coAt f g) (i - 1) := by have hv := HV.out; rw [H1.out, if_neg (by simp)] at hv; exact hv
        have HV2 := Lib.hid hV2
        clear hV2
        go_wp2_with fail
        go_loopw [10] (fun vi wr' => ∃ k : Nat, k + 1 ≤ i ∧ vi = .int .i64 ((k : Int) + 1) ∧ Hid (∀ j, j < k → coAt f g j = 0) ∧ Hid (Below w.heap.size w wr')) (fun vi _ => i + 1 - (intOf vi).toNat)
        case atStart => exact ⟨0, by omega, rfl, fun j hj => by omega, by rw [HW.out]; exact HB2.out⟩
        case round =>
          obtain ⟨k, hk, rfl, HI3, HB3⟩ := hrel
          by_cases hlt2 : k + 1 < i
          · obtain ⟨b2, o2, rfl, hI2⟩ := HG.out (by omega)
            have c1 := HC.out k (by omega)
            have c2 := HC.out (k + 1) (by omega)
            obtain ⟨b3, o3, rfl, hI3⟩ := HS.out (by omega)
            have hJ := hI2.keep HB3.out (hI2.lt (by omega))
            have hJ3 := hI3.keep HB3.out (hI3.lt (by omega))
            have d1 := hJ k (by omega)
            have d2 := hJ (k + 1) (by omega)
            obtain ⟨x, hx⟩ : ∃ x : Nat, g k = (x : Int) := ⟨(g k).toNat, by omega⟩
            obtain ⟨y, hy⟩ : ∃ y : Nat, g (k + 1) = (y : Int) := ⟨(g (k + 1)).toNat, by omega⟩
            have hCo : coAt f g k = if f (y * 3) = f (x * 3 + 1) then 0 else 7 := by unfold coAt; rw [hx, hy, Int.toNat_natCast, Int.toNat_natCast]
            rw [hx] at d1 c1
            rw [hy] at d2 c2
            have hxn : x < n := by omega
            have hyn : y < n := by omega
            have e1 := hJ3.at (x * 3) 1 (by omega)
            have e2 := hJ3 (y * 3) (by omega)
            obtain ⟨R, hR⟩ : ∃ R, coAt f g k = R := ⟨_, rfl⟩
            have HF : Hid (R ≠ 0 → V = R) := fun hne => by rw [HV2.out, ← hR]; exact first_at HI3.out (by rw [hR]; exact hne) (by omega)
            rw [hR] at hCo
            have HR := Lib.hid hR
            clear hR hI2 hI3 hJ hJ3 hx hy c1 c2
            generalize f (y * 3) = Y at hCo e2 ⊢
            generalize f (x * 3 + 1) = X at hCo e1 ⊢
            by_cases hxy : Y = X
            · rw [if_pos hxy] at hCo
              subst hxy hCo
              go_wp2_with fail
              go_quiet (fail)
              go_wp2_with fail
              have hb := HB3.out
              exact ⟨⟨k + 1, by omega, by go_num, (fun j hj => by
                by_cases ej : j = k
                · subst ej; exact HR.out
                · exact HI3.out j (by omega)), ⟨hb.os, hb.tape, hb.output, hb.size, hb.block⟩⟩, by simp [intOf]; omega⟩
            · rw [if_neg hxy] at hCo
              have hb1 : (Y == X) = false := by simpa using hxy
              have hb2 : (Y != X) = true := by simpa using hxy
              subst hCo
              clear hxy
              go_wp2_with fail
              go_quiet (fail)
              go_wp2_with fail
              go_ret
              have hb := HB3.out
              exact ⟨by rw [HF.out (by decide)]; rfl, ⟨hb.os, hb.tape, hb.output, hb.size, hb.block⟩⟩
          · have hki : i - 1 = k := by omega
            have hlt3 : ¬((k : Int) + 1 < i) := by omega
            go_wp2
            go_ret
            refine ⟨?_, HB3.out⟩
            rw [HV2.out, hki, first_zero HI3.out]; rfl
  · have hE : chErr E n f m g = bchk E n f := by unfold chErr; rw [if_pos (by simpa using h0)]
    rw [hE]
    have hne : (bchk E n f == 0) = false := by simpa using h0
    have hne2 : (bchk E n f != 0) = true := by simpa using h0
    clear hE h0 hG
    go_enter Try.func75, Try.ntmps75
    go_wp2_with (go_at_call 37; refine (check_of _ E a n c f hS).mono ?_; rintro e w2 ⟨rfl, hB⟩)
    go_ret
    exact ⟨rfl, hB⟩
end Go.Proofs.Ytmfdgnjhlhkbbaa
