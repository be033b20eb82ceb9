/-
  WALKS: the errors of an alignment's problem; what makes the functions over the steps.
-/
import Derived.Test.YtdibljidagiblaaDoorPmD
namespace Go.Proofs.YtdibljidagiblaaDoor
open Go.RowKit

/-- The error of a place in a list, and of a list. -/
def plErr (R : Int) (g : Nat → Int) (i : Nat) : Int := if g i < 0 ∨ 1073741824 < g i then 1 else if 0 < i ∧ g i - g (i - 1) < R then 7 else 0
def plChk (R : Int) (n : Nat) (g : Nat → Int) : Int := if 40 < n then 4 else first (plErr R g) n
theorem plc_ok {R : Int} {n : Nat} {g : Nat → Int} (h : plChk R n g = 0) : n ≤ 40 ∧ Plc n g := by
  unfold plChk at h
  split at h
  · omega
  · refine ⟨by omega, fun i hi => ?_⟩
    have := first_all h i hi
    unfold plErr at this
    split at this
    · omega
    · omega

set_option maxRecDepth 100000 in
set_option maxHeartbeats 4000000 in
theorem checkPlaces_of (w : World) (R : Int) (hR : 0 ≤ R ∧ R ≤ 1) (a : Option Addr) (n c : Nat) (g : Nat → Int) (hS : Sl w 1 a n g) (hI64 : I64s g n) :
    Calls Tryd.prog 57 #[.slice a n c, .int .i64 R] w fun e w' => e = .returned (.int .i64 (plChk R n g)) ∧ w' = w := by
  have HS := Lib.hid hS
  have HI := Lib.hid hI64
  clear hS hI64
  by_cases h40 : 40 < n
  · have hE : plChk R n g = 4 := by unfold plChk; rw [if_pos h40]
    rw [hE]
    go_enter Tryd.func57, Tryd.ntmps57
    go_wp2
    go_ret
    exact ⟨rfl, rfl⟩
  have hE : plChk R n g = first (plErr R g) n := by unfold plChk; rw [if_neg h40]
  rw [hE]
  clear hE
  go_enter Tryd.func57, Tryd.ntmps57
  go_wp2
  go_loop [12] (fun vi => ∃ i : Nat, i ≤ n ∧ vi = .int .i64 i ∧ Hid (∀ j, j < i → plErr R g j = 0)) (fun vi => n - (intOf vi).toNat)
  case atStart => exact ⟨0, by omega, rfl, fun j hj => by omega⟩
  case round =>
    obtain ⟨i, hi, rfl, HZ⟩ := hrel
    by_cases hlt : i < n
    · obtain ⟨b, o, rfl, hI⟩ := HS.out (by omega)
      have d0 := hI i (by omega)
      have b0 := HI.out i hlt
      have HE : Hid (plErr R g i = if g i < 0 ∨ 1073741824 < g i then 1 else if 0 < i ∧ g i - g (i - 1) < R then 7 else 0) := rfl
      have HF : Hid (plErr R g i ≠ 0 → first (plErr R g) n = plErr R g i) := fun hne => first_at HZ.out hne hlt
      by_cases h1 : g i < 0
      · rw [if_pos (.inl h1)] at HE
        have HE' := Lib.hid (HF.out (by rw [HE.out]; decide)); rw [HE.out] at HE'
        clear HE HF hI
        generalize g i = x at *
        go_wp2
        go_ret
        exact ⟨by rw [HE'.out]; rfl, rfl⟩
      by_cases h2 : 1073741824 < g i
      · rw [if_pos (.inr h2)] at HE
        have HE' := Lib.hid (HF.out (by rw [HE.out]; decide)); rw [HE.out] at HE'
        clear HE HF hI
        generalize g i = x at *
        go_wp2
        go_ret
        exact ⟨by rw [HE'.out]; rfl, rfl⟩
      rw [if_neg (by omega)] at HE
      by_cases h3 : 0 < i
      · have d1 := hI (i - 1) (by omega)
        have hp := HZ.out (i - 1) (by omega)
        have hpb : 0 ≤ g (i - 1) ∧ g (i - 1) ≤ 1073741824 := by
          unfold plErr at hp
          split at hp
          · omega
          · omega
        have hi1 : ((i - 1 : Nat) : Int) = (i : Int) - 1 := by omega
        have hpos : (0 : Int) < i := by omega
        have hw1 : IntKind.i64.wrap ((i : Int) - 1) = (i : Int) - 1 := IntWalk.i64_in _ (by omega)
        have ht1 : ((i : Int) - 1).toNat = i - 1 := by omega
        have hin : (i : Int) - 1 < n := by omega
        have hi0 : 0 ≤ (i : Int) - 1 := by omega
        clear hp
        by_cases h4 : g i - g (i - 1) < R
        · rw [if_pos ⟨h3, h4⟩] at HE
          have HE' := Lib.hid (HF.out (by rw [HE.out]; decide)); rw [HE.out] at HE'
          clear HE HF hI
          generalize g i = x at *
          generalize g (i - 1) = y at *
          go_wp2
          go_ret
          exact ⟨by rw [HE'.out]; rfl, rfl⟩
        · rw [if_neg (by omega)] at HE
          have HZ' : Hid (∀ j, j < i + 1 → plErr R g j = 0) := fun j hj => by
            by_cases ej : j = i
            · subst ej; exact HE.out
            · exact HZ.out j (by omega)
          clear HE HF hI
          generalize g i = x at d0 b0 h1 h2 h4
          generalize g (i - 1) = y at d1 hpb h4
          go_wp2
          go_round
          case rel => exact ⟨i + 1, by omega, by go_num, HZ'⟩
          case measure => simp [intOf]; omega
      · obtain rfl : i = 0 := by omega
        rw [if_neg (by omega)] at HE
        have HZ' : Hid (∀ j, j < 0 + 1 → plErr R g j = 0) := fun j hj => by
          obtain rfl : j = 0 := by omega
          exact HE.out
        clear HE HF hI
        rw [Nat.add_zero] at d0
        generalize g 0 = x at d0 b0 h1 h2
        go_wp2
        go_round
        case rel => exact ⟨0 + 1, by omega, by go_num, HZ'⟩
        case measure => simp [intOf]; omega
    · obtain rfl : i = n := by omega
      go_wp2
      go_ret
      exact ⟨by rw [first_zero HZ.out]; rfl, rfl⟩

/-- The error of an alignment's problem. -/
def cErr (x : Int) : Int := if x < 0 ∨ 1048576 < x then 1 else 0
def pbChk (n m : Nat) (g h : Nat → Int) (L F M : Int) : Int := if plChk 1 n g ≠ 0 then plChk 1 n g else if plChk 0 m h ≠ 0 then plChk 0 m h else if cErr L ≠ 0 ∨ cErr F ≠ 0 ∨ cErr M ≠ 0 then 1 else 0
/-- A problem without an error. -/
structure PbOk (n m : Nat) (g h : Nat → Int) (L F M : Int) : Prop where
  n40 : n ≤ 40
  m40 : m ≤ 40
  pg : Plc n g
  ph : Plc m h
  l : 0 ≤ L ∧ L ≤ 1048576
  f : 0 ≤ F ∧ F ≤ 1048576
  m : 0 ≤ M ∧ M ≤ 1048576
theorem pb_ok {n m : Nat} {g h : Nat → Int} {L F M : Int} (hk : pbChk n m g h L F M = 0) : PbOk n m g h L F M ∧ plChk 1 n g = 0 ∧ plChk 0 m h = 0 := by
  unfold pbChk at hk
  by_cases h1 : plChk 1 n g = 0
  · rw [if_neg (by simpa using h1)] at hk
    by_cases h2 : plChk 0 m h = 0
    · rw [if_neg (by simpa using h2)] at hk
      split at hk
      · omega
      · rename_i h3
        unfold cErr at h3
        have a := plc_ok h1
        have b := plc_ok h2
        refine ⟨⟨a.1, b.1, a.2, b.2, ?_, ?_, ?_⟩, h1, h2⟩ <;> omega
    · rw [if_pos (by simpa using h2)] at hk; omega
  · rw [if_pos (by simpa using h1)] at hk; omega

end Go.Proofs.YtdibljidagiblaaDoor
