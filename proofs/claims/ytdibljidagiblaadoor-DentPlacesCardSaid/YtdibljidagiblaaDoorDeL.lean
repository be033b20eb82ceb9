/-
  WALKS: the reference's OnWeld, and the law of DentPlaces.
-/
import Derived.Test.YtdibljidagiblaaDoorDeK
import Derived.Test.YtdibljidagiblaaDoorDeH
namespace Go.Proofs.YtdibljidagiblaaDoor
open Go.RowKit

set_option maxRecDepth 100000 in
set_option maxHeartbeats 8000000 in
theorem ronweld_of (w : World) (a : Option Addr) (n c : Nat) (g : Nat → Int) (f t b : Int) (hn : n ≤ 70) (hS : Sl w 1 a n g) :
    Calls Tryd.prog 25 #[.slice a n c, .int .i64 f, .int .i64 t, .int .i64 b] w fun e w' => e = .returned (.tuple #[.int .i64 (owR f t b n g).1, .int .i64 (owR f t b n g).2]) ∧ w' = w := by
  have HS := Lib.hid hS
  obtain ⟨v, hv⟩ : ∃ v, owR f t b n g = v := ⟨_, rfl⟩
  rw [hv]
  have HV := Lib.hid hv
  clear hS hv
  go_enter Tryd.func25, Tryd.ntmps25
  by_cases h1 : 64 < n
  · have hv : v = (0, 4) := by rw [← HV.out, owR, if_pos h1]
    subst hv
    clear HV
    go_wp2_with fail
    go_ret2
    exact ⟨rfl, rfl⟩
  have HV1 : Hid (v = if ¬(0 ≤ f ∧ f ≤ 1073741824) ∨ ¬(0 ≤ t ∧ t ≤ 1073741824) ∨ ¬(0 ≤ b ∧ b ≤ 1073741824) then (0, 1) else if t < f then (0, 7) else (owV (f - b) (t + b) g n, 0)) := by rw [← HV.out, owR, if_neg h1]; exact Lib.hid rfl
  clear HV
  by_cases hc : ¬(0 ≤ f ∧ f ≤ 1073741824) ∨ ¬(0 ≤ t ∧ t ≤ 1073741824) ∨ ¬(0 ≤ b ∧ b ≤ 1073741824)
  · have hv : v = (0, 1) := by rw [HV1.out, if_pos hc]
    subst hv
    clear HV1
    go_wp2_with fail
    by_cases h2 : 0 ≤ f ∧ f ≤ 1073741824
    · refine (bet7_yes _ f 0 1073741824 h2).mono ?_
      rintro e w9 ⟨rfl, rfl⟩
      go_wp2_with fail
      by_cases h3 : 0 ≤ t ∧ t ≤ 1073741824
      · refine (bet7_yes _ t 0 1073741824 h3).mono ?_
        rintro e w9 ⟨rfl, rfl⟩
        go_wp2_with fail
        refine (bet7_no _ b 0 1073741824 (by omega)).mono ?_
        rintro e w9 ⟨rfl, rfl⟩
        go_wp2_with fail
        go_ret2
        exact ⟨rfl, rfl⟩
      · refine (bet7_no _ t 0 1073741824 h3).mono ?_
        rintro e w9 ⟨rfl, rfl⟩
        go_wp2_with fail
        go_ret2
        exact ⟨rfl, rfl⟩
    · refine (bet7_no _ f 0 1073741824 h2).mono ?_
      rintro e w9 ⟨rfl, rfl⟩
      go_wp2_with fail
      go_ret2
      exact ⟨rfl, rfl⟩
  have HV2 : Hid (v = if t < f then (0, 7) else (owV (f - b) (t + b) g n, 0)) := by rw [HV1.out, if_neg hc]; exact Lib.hid rfl
  have h2 : (0 ≤ f ∧ f ≤ 1073741824) ∧ (0 ≤ t ∧ t ≤ 1073741824) ∧ 0 ≤ b ∧ b ≤ 1073741824 := by omega
  clear HV1 hc
  by_cases h3 : t < f
  · have hv : v = (0, 7) := by rw [HV2.out, if_pos h3]
    subst hv
    clear HV2
    go_wp2_with fail
    refine (bet7_yes _ f 0 1073741824 h2.1).mono ?_
    rintro e w9 ⟨rfl, rfl⟩
    go_wp2_with fail
    refine (bet7_yes _ t 0 1073741824 h2.2.1).mono ?_
    rintro e w9 ⟨rfl, rfl⟩
    go_wp2_with fail
    refine (bet7_yes _ b 0 1073741824 h2.2.2).mono ?_
    rintro e w9 ⟨rfl, rfl⟩
    go_wp2_with fail
    go_ret2
    exact ⟨rfl, rfl⟩
  · have hv : v = (owV (f - b) (t + b) g n, 0) := by rw [HV2.out, if_neg h3]
    subst hv
    clear HV2
    have e1 : IntKind.i64.wrap (f - b) = f - b := IntWalk.i64_in _ (by omega)
    have e2 : IntKind.i64.wrap (t + b) = t + b := IntWalk.i64_in _ (by omega)
    go_wp2_with fail
    refine (bet7_yes _ f 0 1073741824 h2.1).mono ?_
    rintro e w9 ⟨rfl, rfl⟩
    go_wp2_with fail
    refine (bet7_yes _ t 0 1073741824 h2.2.1).mono ?_
    rintro e w9 ⟨rfl, rfl⟩
    go_wp2_with fail
    refine (bet7_yes _ b 0 1073741824 h2.2.2).mono ?_
    rintro e w9 ⟨rfl, rfl⟩
    go_wp2_with fail
    go_loopw [10] (fun vi wr => ∃ i : Nat, i ≤ n ∧ vi = .int .i64 i ∧ Hid (∀ j, j < i → owAt (f - b) (t + b) g j = 0) ∧ wr = w9) (fun vi _ => n - (intOf vi).toNat)
    case atStart => exact ⟨0, by omega, rfl, fun j hj => by omega, rfl⟩
    case round =>
      obtain ⟨i, hi, rfl, HI, rfl⟩ := hrel
      by_cases hlt : i < n
      · obtain ⟨b3, o3, rfl, hI3⟩ := HS.out (by omega)
        have d0 := hI3 i (by omega)
        have hv : owAt (f - b) (t + b) g i = if f - b ≤ g i ∧ g i ≤ t + b then (i : Int) + 1 else 0 := rfl
        generalize g i = x at d0 hv
        have HV := Lib.hid hv
        clear hI3 hv
        by_cases hin : f - b ≤ x ∧ x ≤ t + b
        · have HH : Hid (f - b ≤ x ∧ x ≤ t + b) := hin
          clear hin
          go_wp2_with fail
          refine (bet7_yes _ x (f - b) (t + b) HH.out).mono ?_
          rintro e w9 ⟨rfl, rfl⟩
          have HE : Hid (owV (f - b) (t + b) g n = (i : Int)) := by
            have hv : owAt (f - b) (t + b) g i = (i : Int) + 1 := by rw [HV.out, if_pos HH.out]
            exact Lib.hid (by rw [owV, first_at HI.out (by rw [hv]; omega) hlt, hv, show (i : Int) + 1 - 1 = i by omega])
          go_wp2_with fail
          go_ret2
          exact ⟨by rw [HE.out]; rfl, rfl⟩
        · have HH : Hid (¬(f - b ≤ x ∧ x ≤ t + b)) := hin
          clear hin
          go_wp2_with fail
          refine (bet7_no _ x (f - b) (t + b) HH.out).mono ?_
          rintro e w9 ⟨rfl, rfl⟩
          go_wp2_with fail
          have hv : owAt (f - b) (t + b) g i = 0 := by rw [HV.out, if_neg HH.out]
          exact ⟨⟨i + 1, by omega, by go_num, (fun j hj => by
            by_cases ej : j = i
            · subst ej; exact hv
            · exact HI.out j (by omega)), by first | rfl | trivial⟩, by simp [intOf]; omega⟩
      · obtain rfl : i = n := by omega
        have HE : Hid (owV (f - b) (t + b) g i = -1) := Lib.hid (by rw [owV, first_zero HI.out]; rfl)
        go_wp2_with fail
        go_ret2
        exact ⟨by rw [HE.out]; rfl, rfl⟩
end Go.Proofs.YtdibljidagiblaaDoor
