/-
  WALKS: strength: the error of jobs; the order by risk; sorting by insertion; ordered; soonest.
-/
import Derived.Test.YtlphlbgbbblnpaaGreatDoorStC
namespace Go.Proofs.YtlphlbgbbblnpaaGreatDoor
open Go.RowKit

theorem jsE_bad {f : Nat → Int} {n i : Nat} {C N : Int} (hn : n ≤ 24) (hC : (1 ≤ C ∧ C ≤ 4) ∧ 0 ≤ N ∧ N ≤ 365) (hz : ∀ j, j < i → jbE f j = 0) (hi : i < n) (hb : ¬((0 ≤ f (i * 4) ∧ f (i * 4) ≤ 1000000) ∧ (1 ≤ f (i * 4 + 1) ∧ f (i * 4 + 1) ≤ 365) ∧ (0 ≤ f (i * 4 + 2) ∧ f (i * 4 + 2) ≤ 365) ∧ (0 ≤ f (i * 4 + 3) ∧ f (i * 4 + 3) ≤ 365))) : jsE f n C N = 1 := by
  have e : jbE f i = 1 := by unfold jbE; rw [if_neg hb]
  unfold jsE
  rw [if_neg (by omega), if_pos hC, first_at hz (by rw [e]; decide) hi, e]
set_option maxRecDepth 100000 in
set_option maxHeartbeats 4000000 in
theorem scheck_of (w : World) (a : Option Addr) (n c : Nat) (f : Nat → Int) (C N : Int) (hn : n ≤ maxLen) (hS : Sl w 4 a n f) :
    Calls Tryz.prog 55 #[.slice a n c, .int .i64 C, .int .i64 N] w fun e w' => e = .returned (.int .i64 (jsE f n C N)) ∧ Below w.heap.size w w' := by
  have HS := Lib.hid hS
  have hmx : maxLen = 9223372036854775807 := rfl
  have hn2 : (n : Int) ≤ 9223372036854775807 := by omega
  have HI : Hid (∀ b w x lo hi, b = decide (lo ≤ x ∧ x ≤ hi) → Calls Tryz.prog 51 #[.int .i64 x, .int .i64 lo, .int .i64 hi] w fun e w' => e = .returned (.bool b) ∧ w' = w) := fun b w x lo hi h => swithin_of b w x lo hi h
  clear hS hmx hn
  by_cases h1 : 24 < n
  · have e : jsE f n C N = 4 := by unfold jsE; rw [if_pos h1]
    rw [e]
    clear e
    go_enter Tryz.func55, Tryz.ntmps55
    go_wp2_with fail
    go_ret
    exact ⟨rfl, Below.refl _ _⟩
  go_enter Tryz.func55, Tryz.ntmps55
  go_wp2_with fail
  by_cases h2 : 1 ≤ C ∧ C ≤ 4
  rotate_left
  · refine (HI.out false _ _ _ _ (by symm; rw [decide_eq_false_iff_not]; exact h2)).mono ?_
    rintro e w9 ⟨rfl, rfl⟩
    have HE : Hid (jsE f n C N = 1) := by unfold jsE; rw [if_neg h1, if_neg (fun e => h2 e.1)]; exact Lib.hid rfl
    go_wp2_with fail
    rw [HE.out]
    go_ret
    exact ⟨rfl, Below.refl _ _⟩
  refine (HI.out true _ _ _ _ (by symm; rw [decide_eq_true_iff]; exact h2)).mono ?_
  rintro e w9 ⟨rfl, rfl⟩
  go_wp2_with fail
  by_cases h3 : 0 ≤ N ∧ N ≤ 365
  rotate_left
  · refine (HI.out false _ _ _ _ (by symm; rw [decide_eq_false_iff_not]; exact h3)).mono ?_
    rintro e w9 ⟨rfl, rfl⟩
    have HE : Hid (jsE f n C N = 1) := by unfold jsE; rw [if_neg h1, if_neg (fun e => h3 e.2)]; exact Lib.hid rfl
    go_wp2_with fail
    rw [HE.out]
    go_ret
    exact ⟨rfl, Below.refl _ _⟩
  refine (HI.out true _ _ _ _ (by symm; rw [decide_eq_true_iff]; exact h3)).mono ?_
  rintro e w9 ⟨rfl, rfl⟩
  go_wp2_with fail
  go_loopw [22] (fun vi wr => ∃ i : Nat, i ≤ n ∧ vi = .int .i64 i ∧ Hid (∀ j, j < i → jbE f j = 0) ∧ Hid (Below w9.heap.size w9 wr)) (fun vi _ => n - (intOf vi).toNat)
  case atStart => exact ⟨0, by omega, rfl, fun j hj => by omega, Below.refl _ _⟩
  case round =>
    obtain ⟨i, hi, rfl, HZ, HB⟩ := hrel
    by_cases hlt : i < n
    · obtain ⟨b, o, rfl, hI⟩ := HS.out (by omega)
      have hJ := hI.keep HB.out (hI.lt (by omega))
      have d0 := hJ (i * 4) (by omega)
      have d1 := hJ.at (i * 4) 1 (by omega)
      have d2 := hJ.at (i * 4) 2 (by omega)
      have d3 := hJ.at (i * 4) 3 (by omega)
      have HX := Lib.hid (fun hb => jsE_bad (f := f) (n := n) (i := i) (C := C) (N := N) (by omega) ⟨h2, h3⟩ HZ.out hlt hb)
      have HX0 : Hid ((0 ≤ f (i * 4) ∧ f (i * 4) ≤ 1000000) ∧ (1 ≤ f (i * 4 + 1) ∧ f (i * 4 + 1) ≤ 365) ∧ (0 ≤ f (i * 4 + 2) ∧ f (i * 4 + 2) ≤ 365) ∧ (0 ≤ f (i * 4 + 3) ∧ f (i * 4 + 3) ≤ 365) → jbE f i = 0) := fun h => by unfold jbE; rw [if_pos h]
      generalize f (i * 4) = x0 at d0 HX HX0
      generalize f (i * 4 + 1) = x1 at d1 HX HX0
      generalize f (i * 4 + 2) = x2 at d2 HX HX0
      generalize f (i * 4 + 3) = x3 at d3 HX HX0
      clear hI hJ
      go_upto_region 8 with fail
      have hB4 := (HB.out.alloc HB.out.size (.cells #[.int .i64 x0, .int .i64 x1, .int .i64 x2, .int .i64 x3] 66))
      have a4 := World.alloc_heap_new wr (.cells #[.int .i64 x0, .int .i64 x1, .int .i64 x2, .int .i64 x3] 66)
      generalize wr.alloc (.cells #[.int .i64 x0, .int .i64 x1, .int .i64 x2, .int .i64 x3] 66) = W4 at hB4 a4 ⊢
      have s0 := cell_h (k := 0) a4 rfl
      have s1 := cell_h (k := 1) a4 rfl
      have s2 := cell_h (k := 2) a4 rfl
      have s3 := cell_h (k := 3) a4 rfl
      have HB4 := Lib.hid hB4
      clear hB4 a4 d0 d1 d2 d3
      go_wp2_with fail
      by_cases k0 : 0 ≤ x0 ∧ x0 ≤ 1000000
      rotate_left
      · refine (HI.out false _ _ _ _ (by symm; rw [decide_eq_false_iff_not]; exact k0)).mono ?_
        rintro e w8 ⟨rfl, rfl⟩
        have HE : Hid (jsE f n C N = 1) := HX.out fun e => k0 e.1
        go_wp2_with fail
        rw [HE.out]
        go_ret
        exact ⟨rfl, HB4.out⟩
      refine (HI.out true _ _ _ _ (by symm; rw [decide_eq_true_iff]; exact k0)).mono ?_
      rintro e w8 ⟨rfl, rfl⟩
      go_wp2_with fail
      by_cases k1 : 1 ≤ x1 ∧ x1 ≤ 365
      rotate_left
      · refine (HI.out false _ _ _ _ (by symm; rw [decide_eq_false_iff_not]; exact k1)).mono ?_
        rintro e w8 ⟨rfl, rfl⟩
        have HE : Hid (jsE f n C N = 1) := HX.out fun e => k1 e.2.1
        go_wp2_with fail
        rw [HE.out]
        go_ret
        exact ⟨rfl, HB4.out⟩
      refine (HI.out true _ _ _ _ (by symm; rw [decide_eq_true_iff]; exact k1)).mono ?_
      rintro e w8 ⟨rfl, rfl⟩
      go_wp2_with fail
      by_cases k2 : 0 ≤ x2 ∧ x2 ≤ 365
      rotate_left
      · refine (HI.out false _ _ _ _ (by symm; rw [decide_eq_false_iff_not]; exact k2)).mono ?_
        rintro e w8 ⟨rfl, rfl⟩
        have HE : Hid (jsE f n C N = 1) := HX.out fun e => k2 e.2.2.1
        go_wp2_with fail
        rw [HE.out]
        go_ret
        exact ⟨rfl, HB4.out⟩
      refine (HI.out true _ _ _ _ (by symm; rw [decide_eq_true_iff]; exact k2)).mono ?_
      rintro e w8 ⟨rfl, rfl⟩
      go_wp2_with fail
      by_cases k3 : 0 ≤ x3 ∧ x3 ≤ 365
      rotate_left
      · refine (HI.out false _ _ _ _ (by symm; rw [decide_eq_false_iff_not]; exact k3)).mono ?_
        rintro e w8 ⟨rfl, rfl⟩
        have HE : Hid (jsE f n C N = 1) := HX.out fun e => k3 e.2.2.2
        go_wp2_with fail
        rw [HE.out]
        go_ret
        exact ⟨rfl, HB4.out⟩
      refine (HI.out true _ _ _ _ (by symm; rw [decide_eq_true_iff]; exact k3)).mono ?_
      rintro e w8 ⟨rfl, rfl⟩
      go_wp2_with fail
      exact ⟨⟨i + 1, by omega, by go_num, (fun j hj => by
        by_cases ej : j = i
        · subst ej; exact HX0.out ⟨k0, k1, k2, k3⟩
        · exact HZ.out j (by omega)), HB4.out⟩, by simp [intOf]; omega⟩
    · obtain rfl : i = n := by omega
      have HE : Hid (jsE f i C N = 0) := by unfold jsE; rw [if_neg h1, if_pos ⟨h2, h3⟩, first_zero HZ.out]; exact Lib.hid rfl
      go_wp2_with fail
      rw [HE.out]
      go_ret
      exact ⟨rfl, HB.out⟩

/-- Products of risks and days compare as risks in a day. -/
def lessR (f : Nat → Int) (a b : Nat) : Bool := decide (f (b * 4) * f (a * 4 + 1) < f (a * 4) * f (b * 4 + 1))
def cmpR (f : Nat → Int) (a b : Nat) : Int := cmpI (f (b * 4) * f (a * 4 + 1)) (f (a * 4) * f (b * 4 + 1))
theorem cmpR_less (f : Nat → Int) (a b : Nat) : decide (cmpR f a b < 0) = lessR f a b := by
  unfold cmpR cmpI lessR
  rw [Bool.eq_iff_iff, decide_eq_true_iff, decide_eq_true_iff]
  split
  · constructor <;> intro <;> omega
  · split
    · constructor <;> intro <;> omega
    · constructor <;> intro <;> omega
theorem mul_fits {x y : Int} (h0 : 0 ≤ x ∧ x ≤ 1000000) (h1 : 1 ≤ y ∧ y ≤ 365) : 0 ≤ x * y ∧ x * y ≤ 365000000 := by
  refine ⟨Int.mul_nonneg h0.1 (by omega), ?_⟩
  have h2 : x * y ≤ 1000000 * y := Int.mul_le_mul_of_nonneg_right h0.2 (by omega)
  omega
set_option maxRecDepth 100000 in
set_option maxHeartbeats 4000000 in
theorem by_risk (w : World) (jb : Nat) (q : Option Addr) (n c a b : Nat) (f : Nat → Int) (hc : w.cell? ⟨jb, 0, none⟩ = some (.slice q n c)) (hn : n ≤ 24) (hf : ∀ i, i < n → (0 ≤ f (i * 4) ∧ f (i * 4) ≤ 1000000) ∧ 1 ≤ f (i * 4 + 1) ∧ f (i * 4 + 1) ≤ 365) (ha : a < n) (hb : b < n) (hS : Sl w 4 q n f) :
    Calls Tryz.prog 56 #[.int .i64 (a : Int), .int .i64 (b : Int), .pointer (some ⟨jb, 0, none⟩)] w fun e w' => e = .returned (.int .i64 (cmpR f a b)) ∧ ∃ q, w' = w.drewN q := by
  obtain ⟨b3, o3, rfl, hI⟩ := hS (by omega)
  have d0 := hI (a * 4) (by omega)
  have d1 := hI.at (a * 4) 1 (by omega)
  have d2 := hI (b * 4) (by omega)
  have d3 := hI.at (b * 4) 1 (by omega)
  have h1 := hf a ha
  have h2 := hf b hb
  have m1 := mul_fits h2.1 h1.2
  have m2 := mul_fits h1.1 h2.2
  have e : cmpR f a b = cmpI (f (b * 4) * f (a * 4 + 1)) (f (a * 4) * f (b * 4 + 1)) := rfl
  rw [e]
  clear hI h1 h2 hf e
  generalize f (a * 4) = x0 at *
  generalize f (a * 4 + 1) = x1 at *
  generalize f (b * 4) = y0 at *
  generalize f (b * 4 + 1) = y1 at *
  obtain ⟨p1, hp1⟩ : ∃ p, y0 * x1 = p := ⟨_, rfl⟩
  obtain ⟨p2, hp2⟩ : ∃ p, x0 * y1 = p := ⟨_, rfl⟩
  rw [hp1] at m1
  rw [hp2] at m2
  have HC : ∀ W : World, Calls Tryz.prog 57 #[.int .i64 p1, .int .i64 p2] W fun e w' => e = .returned (.int .i64 (cmpI p1 p2)) ∧ w' = W := fun W => scmp_of W p1 p2
  rw [hp1, hp2]
  go_enter Tryz.func56, Tryz.ntmps56
  go_upto_region 1 with fail
  go_quiet ((go_at_call 57; with_reducible exact Calls.quiet_of_same (HC _)))
  go_wp2_with fail
  go_ret
  exact ⟨rfl, _, rfl⟩
end Go.Proofs.YtlphlbgbbblnpaaGreatDoor
