/-
  WALKS: short and equal; the law of the welds and calls without a pair.
-/
import Derived.Test.YteinabcklmpcjaaPmL
import Derived.Test.YteinabcklmpcjaaPrF
import Derived.Test.YteinabcklmpcjaaPrJ
namespace Go.Proofs.Yteinabcklmpcjaa
open Go.RowKit

/-- Whether a list has at most 12 elements, or too many; whether all of some have. -/
def shB (n : Nat) : Bool := decide (¬(12 < n ∧ n ≤ 40) ∧ n ≤ 50)
def shAll (ns : Nat → Nat) : Nat → Bool
  | 0 => true
  | k + 1 => shAll ns k && shB (ns k)
theorem shAll_false {ns : Nat → Nat} {i : Nat} (h : shB (ns i) = false) : ∀ {k}, i < k → shAll ns k = false
  | 0, hi => by omega
  | k + 1, hi => by
    by_cases e : i = k
    · subst e; simp [shAll, h]
    · simp [shAll, shAll_false h (k := k) (by omega)]
theorem shAll_true {ns : Nat → Nat} : ∀ {k}, (∀ i, i < k → shB (ns i) = true) → shAll ns k = true
  | 0, _ => rfl
  | k + 1, h => by simp [shAll, shAll_true (k := k) (fun i hi => h i (by omega)), h k (by omega)]

set_option maxRecDepth 100000 in
set_option maxHeartbeats 4000000 in
theorem short_of (w : World) (B k c : Nat) (ns : Nat → Nat) (hk : k ≤ 1000) (hc : ∀ i, i < k → ∃ a d, w.cell? ⟨B, i, none⟩ = some (.slice a (ns i) d)) :
    Calls Try.prog 15 #[.slice (some ⟨B, 0, none⟩) k c] w fun e w' => e = .returned (.bool (shAll ns k)) ∧ w' = w := by
  have HC := Lib.hid hc
  clear hc
  obtain ⟨R, hR⟩ : ∃ R, shAll ns k = R := ⟨_, rfl⟩
  rw [hR]
  have HR := Lib.hid hR
  clear hR
  go_enter Try.func15, Try.ntmps15
  go_wp2_with fail
  go_loop [7] (fun vi => ∃ i : Nat, i ≤ k ∧ vi = .int .i64 i ∧ Hid (∀ j, j < i → shB (ns j) = true)) (fun vi => k - (intOf vi).toNat)
  case atStart => exact ⟨0, by omega, rfl, fun j hj => by omega⟩
  case round =>
    obtain ⟨i, hi, rfl, HI⟩ := hrel
    by_cases hlt : i < k
    · obtain ⟨a, d, hcell⟩ := HC.out i hlt
      have hw : (12 < ns i ∧ ns i ≤ 40 ∧ R = false) ∨ (12 < ns i ∧ ¬ns i ≤ 40 ∧ 50 < ns i ∧ R = false) ∨ (¬12 < ns i ∧ shB (ns i) = true) ∨ (12 < ns i ∧ ¬ns i ≤ 40 ∧ ¬50 < ns i ∧ shB (ns i) = true) := by
        have hf : shB (ns i) = false → R = false := fun h => by rw [← HR.out]; exact shAll_false h hlt
        by_cases h1 : 12 < ns i
        · by_cases h2 : ns i ≤ 40
          · exact .inl ⟨h1, h2, hf (by unfold shB; rw [decide_eq_false_iff_not]; omega)⟩
          · by_cases h3 : 50 < ns i
            · exact .inr (.inl ⟨h1, h2, h3, hf (by unfold shB; rw [decide_eq_false_iff_not]; omega)⟩)
            · exact .inr (.inr (.inr ⟨h1, h2, h3, by unfold shB; rw [decide_eq_true_iff]; omega⟩))
        · exact .inr (.inr (.inl ⟨h1, by unfold shB; rw [decide_eq_true_iff]; omega⟩))
      obtain ⟨m, hm⟩ : ∃ m, ns i = m := ⟨_, rfl⟩
      have HM := Lib.hid hm
      rw [hm] at hcell hw
      clear hm
      rcases hw with ⟨h1, h2, rfl⟩ | ⟨h1, h2, h3, rfl⟩ | ⟨h1, h2⟩ | ⟨h1, h2, h3, h4⟩
      · go_wp2_with fail
        go_ret
        exact ⟨rfl, rfl⟩
      · go_wp2_with fail
        go_ret
        exact ⟨rfl, rfl⟩
      · have H2 := Lib.hid h2
        clear h2
        go_wp2_with fail
        go_round
        case rel => exact ⟨i + 1, by omega, by go_num, (fun j hj => by
          by_cases ej : j = i
          · subst ej; rw [HM.out]; exact H2.out
          · exact HI.out j (by omega))⟩
        case measure => simp [intOf]; omega
      · have H2 := Lib.hid h4
        clear h4
        go_wp2_with fail
        go_round
        case rel => exact ⟨i + 1, by omega, by go_num, (fun j hj => by
          by_cases ej : j = i
          · subst ej; rw [HM.out]; exact H2.out
          · exact HI.out j (by omega))⟩
        case measure => simp [intOf]; omega
    · obtain rfl : i = k := by omega
      have h := HR.out
      rw [shAll_true HI.out] at h
      subst h
      go_wp2
      go_ret
      exact ⟨rfl, rfl⟩

set_option maxRecDepth 100000 in
set_option maxHeartbeats 4000000 in
theorem equal_of (w : World) (a b : Option Addr) (n c c' : Nat) (f : Nat → Int) (hn : n ≤ 1000) (hA : Sl w 1 a n f) (hB : Sl w 1 b n f) :
    Calls Try.prog 21 #[.slice a n c, .slice b n c'] w fun e W' => e = .returned (.bool true) ∧ Below w.heap.size w W' := by
  have HA := Lib.hid hA
  have HB := Lib.hid hB
  clear hA hB
  go_enter Try.func21, Try.ntmps21
  go_wp2_with fail
  go_loopw [13] (fun i wr => ∃ k : Nat, k ≤ n ∧ i = .int .i64 k ∧ Hid (Below w.heap.size w wr)) (fun i _ => n - (intOf i).toNat)
  case atStart => exact ⟨0, by omega, rfl, Below.refl _ _⟩
  case round =>
    obtain ⟨k, hk, rfl, HK⟩ := hrel
    by_cases hlt : k < n
    · obtain ⟨p, o, rfl, hI⟩ := HA.out (by omega)
      obtain ⟨p', o', rfl, hI'⟩ := HB.out (by omega)
      have hJ := hI.keep HK.out (hI.lt (by omega))
      have hJ' := hI'.keep HK.out (hI'.lt (by omega))
      have d0 := hJ k (by omega)
      have e0 := hJ' k (by omega)
      clear hI hI' hJ hJ'
      go_wp2_with fail
      go_quiet (fail)
      go_wp2_with fail
      have hb := HK.out
      exact ⟨⟨k + 1, by omega, by go_num, ⟨hb.os, hb.tape, hb.output, hb.size, hb.block⟩⟩, by simp [intOf]; omega⟩
    · obtain rfl : k = n := by omega
      go_wp2
      go_ret
      exact ⟨rfl, HK.out⟩
end Go.Proofs.Yteinabcklmpcjaa
