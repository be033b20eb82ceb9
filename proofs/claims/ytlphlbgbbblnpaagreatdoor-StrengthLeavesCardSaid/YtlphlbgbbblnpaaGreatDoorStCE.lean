/-
  WALKS AND WORDS: StC StD StE of my texts, one behind the other.
-/
import Derived.Test.YtlphlbgbbblnpaaGreatDoorStAB
import Derived.Test.YtlphlbgbbblnpaaGreatDoorPmAF
import Derived.LoopN
import Derived.Deep.RegionHeld3
import Derived.Deep.DeepCutAuto
import Derived.StillTailTactics
import Derived.Test.YtlphlbgbbblnpaaGreatDoorDyA
-- StC: WALKS: strength: isWithin, isIndex, the days of a job's end, the sum of risks, the error of jobs, cmp.Compare.
namespace Go.Proofs.YtlphlbgbbblnpaaGreatDoor
open Go.RowKit

theorem low_trans {w V W : World} (h : Below w.heap.size w V) (hb : Below V.heap.size V W) : Below w.heap.size w W := h.trans (hb.mono h.size)

set_option maxHeartbeats 1000000 in
theorem swithin_of (b : Bool) (w : World) (x lo hi : Int) (h : b = decide (lo ≤ x ∧ x ≤ hi)) :
    Calls Tryz.prog 51 #[.int .i64 x, .int .i64 lo, .int .i64 hi] w fun e w' => e = .returned (.bool b) ∧ w' = w := by
  go_enter Tryz.func51, Tryz.ntmps51
  by_cases h1 : lo ≤ x
  · by_cases h2 : x ≤ hi
    · obtain rfl : b = true := by rw [h, decide_eq_true_iff]; omega
      clear h
      go_wp2
      go_ret
      refine ⟨?_, rfl⟩
      first | rfl | (congr 2; simp; omega)
    · obtain rfl : b = false := by rw [h, decide_eq_false_iff_not]; omega
      clear h
      go_wp2
      go_ret
      refine ⟨?_, rfl⟩
      first | rfl | (congr 2; simp; omega)
  · obtain rfl : b = false := by rw [h, decide_eq_false_iff_not]; omega
    clear h
    go_wp2
    go_ret
    exact ⟨rfl, rfl⟩
set_option maxHeartbeats 1000000 in
theorem sindex_of (b : Bool) (w : World) (x n : Int) (h : b = decide (0 ≤ x ∧ x < n)) :
    Calls Tryz.prog 62 #[.int .i64 x, .int .i64 n] w fun e w' => e = .returned (.bool b) ∧ w' = w := by
  go_enter Tryz.func62, Tryz.ntmps62
  by_cases h1 : 0 ≤ x
  · by_cases h2 : x < n
    · obtain rfl : b = true := by rw [h, decide_eq_true_iff]; omega
      clear h
      go_wp2
      go_ret
      refine ⟨?_, rfl⟩
      first | rfl | (congr 2; simp; omega)
    · obtain rfl : b = false := by rw [h, decide_eq_false_iff_not]; omega
      clear h
      go_wp2
      go_ret
      refine ⟨?_, rfl⟩
      first | rfl | (congr 2; simp; omega)
  · obtain rfl : b = false := by rw [h, decide_eq_false_iff_not]; omega
    clear h
    go_wp2
    go_ret
    exact ⟨rfl, rfl⟩

/-- Signs of comparisons. -/
def cmpI (x y : Int) : Int := if x < y then -1 else if y < x then 1 else 0
set_option maxHeartbeats 1000000 in
theorem scmp_of (w : World) (x y : Int) : Calls Tryz.prog 57 #[.int .i64 x, .int .i64 y] w fun e w' => e = .returned (.int .i64 (cmpI x y)) ∧ w' = w := by
  have hnan : ∀ (W : World) (z : Int), Calls Tryz.prog 96 #[.int .i64 z] W fun e w' => e = .returned (.bool false) ∧ w' = W := fun W z => by
    go_enter Tryz.func96, Tryz.ntmps96
    go_wp2
    go_ret
    refine ⟨?_, rfl⟩
    first | rfl | simp
  rcases (by omega : x < y ∨ (¬x < y ∧ y < x) ∨ (¬x < y ∧ ¬y < x)) with h | ⟨h1, h⟩ | ⟨h1, h⟩
  · have e : cmpI x y = -1 := by unfold cmpI; rw [if_pos h]
    rw [e]
    go_enter Tryz.func57, Tryz.ntmps57
    go_wp2_with (go_at_call 96; refine (hnan _ _).mono ?_; rintro e w' ⟨rfl, rfl⟩)
    go_ret
    exact ⟨rfl, rfl⟩
  · have e : cmpI x y = 1 := by unfold cmpI; rw [if_neg h1, if_pos h]
    rw [e]
    go_enter Tryz.func57, Tryz.ntmps57
    go_wp2_with (go_at_call 96; refine (hnan _ _).mono ?_; rintro e w' ⟨rfl, rfl⟩)
    go_ret
    exact ⟨rfl, rfl⟩
  · have e : cmpI x y = 0 := by unfold cmpI; rw [if_neg h1, if_neg h]
    rw [e]
    go_enter Tryz.func57, Tryz.ntmps57
    go_wp2_with (go_at_call 96; refine (hnan _ _).mono ?_; rintro e w' ⟨rfl, rfl⟩)
    go_ret
    exact ⟨rfl, rfl⟩

set_option maxHeartbeats 1000000 in
theorem send_of (w : World) (a b c d n : Int) : Calls Tryz.prog 60 #[.agg #[.int .i64 a, .int .i64 b, .int .i64 c, .int .i64 d], .int .i64 n] w fun e w' => e = .returned (.int .i64 (min d n)) ∧ w' = w.alloc (.cells #[.int .i64 a, .int .i64 b, .int .i64 c, .int .i64 d] 66) := by
  rcases (by omega : n < d ∧ min d n = n ∨ ¬(n < d) ∧ min d n = d) with ⟨h, e⟩ | ⟨h, e⟩
  all_goals
    rw [e]
    go_enter Tryz.func60, Tryz.ntmps60
    go_wp2
    go_ret
    exact ⟨rfl, rfl⟩

set_option maxRecDepth 100000 in
set_option maxHeartbeats 4000000 in
theorem srisk_of (w : World) (a : Option Addr) (n c : Nat) (f : Nat → Int) (hn : n ≤ 24) (hf : ∀ i, i < n → 0 ≤ f (i * 4) ∧ f (i * 4) ≤ 1000000) (hS : Sl w 4 a n f) :
    Calls Tryz.prog 61 #[.slice a n c] w fun e w' => e = .returned (.int .i64 (rsk f n)) ∧ Below w.heap.size w w' := by
  have HS := Lib.hid hS
  have HF := Lib.hid hf
  clear hS hf
  go_enter Tryz.func61, Tryz.ntmps61
  go_wp2_with fail
  go_loopw [3, 8] (fun vs vi wr => ∃ i : Nat, i ≤ n ∧ vi = .int .i64 i ∧ vs = .int .i64 (si i fun i => f (i * 4)) ∧ Hid (0 ≤ si i (fun i => f (i * 4)) ∧ si i (fun i => f (i * 4)) ≤ 1000000 * i) ∧ Hid (Below w.heap.size w wr)) (fun _ vi _ => n - (intOf vi).toNat)
  case atStart => exact ⟨0, by omega, rfl, rfl, Lib.hid (by simp [si]), Below.refl _ _⟩
  case round =>
    obtain ⟨i, hi, rfl, rfl, HI, HB⟩ := hrel
    by_cases hlt : i < n
    · obtain ⟨b, o, rfl, hI⟩ := HS.out (by omega)
      have hJ := hI.keep HB.out (hI.lt (by omega))
      have d0 := hJ (i * 4) (by omega)
      have d1 := hJ.at (i * 4) 1 (by omega)
      have d2 := hJ.at (i * 4) 2 (by omega)
      have d3 := hJ.at (i * 4) 3 (by omega)
      have hb := HI.out
      have hF := HF.out i hlt
      have hs : si (i + 1) (fun i => f (i * 4)) = si i (fun i => f (i * 4)) + f (i * 4) := rfl
      generalize si i (fun i => f (i * 4)) = s at hb hs HI ⊢
      have HSs := Lib.hid hs
      clear hI hJ hs
      go_wp2_with fail
      exact ⟨⟨i + 1, by omega, by go_num, by rw [HSs.out], Lib.hid (by rw [HSs.out]; omega), HB.out.alloc HB.out.size _⟩, by simp [intOf]; omega⟩
    · obtain rfl : i = n := by omega
      go_wp2_with fail
      go_ret
      exact ⟨rfl, HB.out⟩
end Go.Proofs.YtlphlbgbbblnpaaGreatDoor
-- StD: WALKS: strength: the error of jobs; the order by risk; sorting by insertion; ordered; soonest.
namespace Go.Proofs.YtlphlbgbbblnpaaGreatDoor
open Go.RowKit

theorem jsE_bad {f : Nat → Int} {n i : Nat} {C N : Int} (hn : n ≤ 24) (hC : (1 ≤ C ∧ C ≤ 4) ∧ 0 ≤ N ∧ N ≤ 365) (hz : ∀ j, j < i → jbE f j = 0) (hi : i < n) (hb : ¬((0 ≤ f (i * 4) ∧ f (i * 4) ≤ 1000000) ∧ (1 ≤ f (i * 4 + 1) ∧ f (i * 4 + 1) ≤ 365) ∧ (0 ≤ f (i * 4 + 2) ∧ f (i * 4 + 2) ≤ 365) ∧ (0 ≤ f (i * 4 + 3) ∧ f (i * 4 + 3) ≤ 365))) : jsE f n C N = 1 := by
  have e : jbE f i = 1 := by unfold jbE; rw [if_neg hb]
  unfold jsE
  rw [if_neg (by omega), if_pos hC, first_at hz (by rw [e]; decide) hi, e]
set_option maxRecDepth 100000 in
set_option maxHeartbeats 4000000 in
theorem scheck_of (w : World) (a : Option Addr) (n c : Nat) (f : Nat → Int) (C N : Int) (hn : n ≤ maxLen) (hS : Sl w 4 a n f) :
    Calls Tryz.prog 55 #[.slice a n c, .int .i64 C, .int .i64 N] w fun e w' => e = .returned (.int .i64 (jsE f n C N)) ∧ Below w.heap.size w w' := by
  have HS := Lib.hid hS
  have hmx : maxLen = 9223372036854775807 := rfl
  have hn2 : (n : Int) ≤ 9223372036854775807 := by omega
  have HI : Hid (∀ b w x lo hi, b = decide (lo ≤ x ∧ x ≤ hi) → Calls Tryz.prog 51 #[.int .i64 x, .int .i64 lo, .int .i64 hi] w fun e w' => e = .returned (.bool b) ∧ w' = w) := fun b w x lo hi h => swithin_of b w x lo hi h
  clear hS hmx hn
  by_cases h1 : 24 < n
  · have e : jsE f n C N = 4 := by unfold jsE; rw [if_pos h1]
    rw [e]
    clear e
    go_enter Tryz.func55, Tryz.ntmps55
    go_wp2_with fail
    go_ret
    exact ⟨rfl, Below.refl _ _⟩
  go_enter Tryz.func55, Tryz.ntmps55
  go_wp2_with fail
  by_cases h2 : 1 ≤ C ∧ C ≤ 4
  rotate_left
  · refine (HI.out false _ _ _ _ (by symm; rw [decide_eq_false_iff_not]; exact h2)).mono ?_
    rintro e w9 ⟨rfl, rfl⟩
    have HE : Hid (jsE f n C N = 1) := by unfold jsE; rw [if_neg h1, if_neg (fun e => h2 e.1)]; exact Lib.hid rfl
    go_wp2_with fail
    rw [HE.out]
    go_ret
    exact ⟨rfl, Below.refl _ _⟩
  refine (HI.out true _ _ _ _ (by symm; rw [decide_eq_true_iff]; exact h2)).mono ?_
  rintro e w9 ⟨rfl, rfl⟩
  go_wp2_with fail
  by_cases h3 : 0 ≤ N ∧ N ≤ 365
  rotate_left
  · refine (HI.out false _ _ _ _ (by symm; rw [decide_eq_false_iff_not]; exact h3)).mono ?_
    rintro e w9 ⟨rfl, rfl⟩
    have HE : Hid (jsE f n C N = 1) := by unfold jsE; rw [if_neg h1, if_neg (fun e => h3 e.2)]; exact Lib.hid rfl
    go_wp2_with fail
    rw [HE.out]
    go_ret
    exact ⟨rfl, Below.refl _ _⟩
  refine (HI.out true _ _ _ _ (by symm; rw [decide_eq_true_iff]; exact h3)).mono ?_
  rintro e w9 ⟨rfl, rfl⟩
  go_wp2_with fail
  go_loopw [22] (fun vi wr => ∃ i : Nat, i ≤ n ∧ vi = .int .i64 i ∧ Hid (∀ j, j < i → jbE f j = 0) ∧ Hid (Below w9.heap.size w9 wr)) (fun vi _ => n - (intOf vi).toNat)
  case atStart => exact ⟨0, by omega, rfl, fun j hj => by omega, Below.refl _ _⟩
  case round =>
    obtain ⟨i, hi, rfl, HZ, HB⟩ := hrel
    by_cases hlt : i < n
    · obtain ⟨b, o, rfl, hI⟩ := HS.out (by omega)
      have hJ := hI.keep HB.out (hI.lt (by omega))
      have d0 := hJ (i * 4) (by omega)
      have d1 := hJ.at (i * 4) 1 (by omega)
      have d2 := hJ.at (i * 4) 2 (by omega)
      have d3 := hJ.at (i * 4) 3 (by omega)
      have HX := Lib.hid (fun hb => jsE_bad (f := f) (n := n) (i := i) (C := C) (N := N) (by omega) ⟨h2, h3⟩ HZ.out hlt hb)
      have HX0 : Hid ((0 ≤ f (i * 4) ∧ f (i * 4) ≤ 1000000) ∧ (1 ≤ f (i * 4 + 1) ∧ f (i * 4 + 1) ≤ 365) ∧ (0 ≤ f (i * 4 + 2) ∧ f (i * 4 + 2) ≤ 365) ∧ (0 ≤ f (i * 4 + 3) ∧ f (i * 4 + 3) ≤ 365) → jbE f i = 0) := fun h => by unfold jbE; rw [if_pos h]
      generalize f (i * 4) = x0 at d0 HX HX0
      generalize f (i * 4 + 1) = x1 at d1 HX HX0
      generalize f (i * 4 + 2) = x2 at d2 HX HX0
      generalize f (i * 4 + 3) = x3 at d3 HX HX0
      clear hI hJ
      go_upto_region 8 with fail
      have hB4 := (HB.out.alloc HB.out.size (.cells #[.int .i64 x0, .int .i64 x1, .int .i64 x2, .int .i64 x3] 66))
      have a4 := World.alloc_heap_new wr (.cells #[.int .i64 x0, .int .i64 x1, .int .i64 x2, .int .i64 x3] 66)
      generalize wr.alloc (.cells #[.int .i64 x0, .int .i64 x1, .int .i64 x2, .int .i64 x3] 66) = W4 at hB4 a4 ⊢
      have s0 := cell_h (k := 0) a4 rfl
      have s1 := cell_h (k := 1) a4 rfl
      have s2 := cell_h (k := 2) a4 rfl
      have s3 := cell_h (k := 3) a4 rfl
      have HB4 := Lib.hid hB4
      clear hB4 a4 d0 d1 d2 d3
      go_wp2_with fail
      by_cases k0 : 0 ≤ x0 ∧ x0 ≤ 1000000
      rotate_left
      · refine (HI.out false _ _ _ _ (by symm; rw [decide_eq_false_iff_not]; exact k0)).mono ?_
        rintro e w8 ⟨rfl, rfl⟩
        have HE : Hid (jsE f n C N = 1) := HX.out fun e => k0 e.1
        go_wp2_with fail
        rw [HE.out]
        go_ret
        exact ⟨rfl, HB4.out⟩
      refine (HI.out true _ _ _ _ (by symm; rw [decide_eq_true_iff]; exact k0)).mono ?_
      rintro e w8 ⟨rfl, rfl⟩
      go_wp2_with fail
      by_cases k1 : 1 ≤ x1 ∧ x1 ≤ 365
      rotate_left
      · refine (HI.out false _ _ _ _ (by symm; rw [decide_eq_false_iff_not]; exact k1)).mono ?_
        rintro e w8 ⟨rfl, rfl⟩
        have HE : Hid (jsE f n C N = 1) := HX.out fun e => k1 e.2.1
        go_wp2_with fail
        rw [HE.out]
        go_ret
        exact ⟨rfl, HB4.out⟩
      refine (HI.out true _ _ _ _ (by symm; rw [decide_eq_true_iff]; exact k1)).mono ?_
      rintro e w8 ⟨rfl, rfl⟩
      go_wp2_with fail
      by_cases k2 : 0 ≤ x2 ∧ x2 ≤ 365
      rotate_left
      · refine (HI.out false _ _ _ _ (by symm; rw [decide_eq_false_iff_not]; exact k2)).mono ?_
        rintro e w8 ⟨rfl, rfl⟩
        have HE : Hid (jsE f n C N = 1) := HX.out fun e => k2 e.2.2.1
        go_wp2_with fail
        rw [HE.out]
        go_ret
        exact ⟨rfl, HB4.out⟩
      refine (HI.out true _ _ _ _ (by symm; rw [decide_eq_true_iff]; exact k2)).mono ?_
      rintro e w8 ⟨rfl, rfl⟩
      go_wp2_with fail
      by_cases k3 : 0 ≤ x3 ∧ x3 ≤ 365
      rotate_left
      · refine (HI.out false _ _ _ _ (by symm; rw [decide_eq_false_iff_not]; exact k3)).mono ?_
        rintro e w8 ⟨rfl, rfl⟩
        have HE : Hid (jsE f n C N = 1) := HX.out fun e => k3 e.2.2.2
        go_wp2_with fail
        rw [HE.out]
        go_ret
        exact ⟨rfl, HB4.out⟩
      refine (HI.out true _ _ _ _ (by symm; rw [decide_eq_true_iff]; exact k3)).mono ?_
      rintro e w8 ⟨rfl, rfl⟩
      go_wp2_with fail
      exact ⟨⟨i + 1, by omega, by go_num, (fun j hj => by
        by_cases ej : j = i
        · subst ej; exact HX0.out ⟨k0, k1, k2, k3⟩
        · exact HZ.out j (by omega)), HB4.out⟩, by simp [intOf]; omega⟩
    · obtain rfl : i = n := by omega
      have HE : Hid (jsE f i C N = 0) := by unfold jsE; rw [if_neg h1, if_pos ⟨h2, h3⟩, first_zero HZ.out]; exact Lib.hid rfl
      go_wp2_with fail
      rw [HE.out]
      go_ret
      exact ⟨rfl, HB.out⟩

/-- Products of risks and days compare as risks in a day. -/
def lessR (f : Nat → Int) (a b : Nat) : Bool := decide (f (b * 4) * f (a * 4 + 1) < f (a * 4) * f (b * 4 + 1))
def cmpR (f : Nat → Int) (a b : Nat) : Int := cmpI (f (b * 4) * f (a * 4 + 1)) (f (a * 4) * f (b * 4 + 1))
theorem cmpR_less (f : Nat → Int) (a b : Nat) : decide (cmpR f a b < 0) = lessR f a b := by
  unfold cmpR cmpI lessR
  rw [Bool.eq_iff_iff, decide_eq_true_iff, decide_eq_true_iff]
  split
  · constructor <;> intro <;> omega
  · split
    · constructor <;> intro <;> omega
    · constructor <;> intro <;> omega
theorem mul_fits {x y : Int} (h0 : 0 ≤ x ∧ x ≤ 1000000) (h1 : 1 ≤ y ∧ y ≤ 365) : 0 ≤ x * y ∧ x * y ≤ 365000000 := by
  refine ⟨Int.mul_nonneg h0.1 (by omega), ?_⟩
  have h2 : x * y ≤ 1000000 * y := Int.mul_le_mul_of_nonneg_right h0.2 (by omega)
  omega
set_option maxRecDepth 100000 in
set_option maxHeartbeats 4000000 in
theorem by_risk (w : World) (jb : Nat) (q : Option Addr) (n c a b : Nat) (f : Nat → Int) (hc : w.cell? ⟨jb, 0, none⟩ = some (.slice q n c)) (hn : n ≤ 24) (hf : ∀ i, i < n → (0 ≤ f (i * 4) ∧ f (i * 4) ≤ 1000000) ∧ 1 ≤ f (i * 4 + 1) ∧ f (i * 4 + 1) ≤ 365) (ha : a < n) (hb : b < n) (hS : Sl w 4 q n f) :
    Calls Tryz.prog 56 #[.int .i64 (a : Int), .int .i64 (b : Int), .pointer (some ⟨jb, 0, none⟩)] w fun e w' => e = .returned (.int .i64 (cmpR f a b)) ∧ ∃ q, w' = w.drewN q := by
  obtain ⟨b3, o3, rfl, hI⟩ := hS (by omega)
  have d0 := hI (a * 4) (by omega)
  have d1 := hI.at (a * 4) 1 (by omega)
  have d2 := hI (b * 4) (by omega)
  have d3 := hI.at (b * 4) 1 (by omega)
  have h1 := hf a ha
  have h2 := hf b hb
  have m1 := mul_fits h2.1 h1.2
  have m2 := mul_fits h1.1 h2.2
  have e : cmpR f a b = cmpI (f (b * 4) * f (a * 4 + 1)) (f (a * 4) * f (b * 4 + 1)) := rfl
  rw [e]
  clear hI h1 h2 hf e
  generalize f (a * 4) = x0 at *
  generalize f (a * 4 + 1) = x1 at *
  generalize f (b * 4) = y0 at *
  generalize f (b * 4 + 1) = y1 at *
  obtain ⟨p1, hp1⟩ : ∃ p, y0 * x1 = p := ⟨_, rfl⟩
  obtain ⟨p2, hp2⟩ : ∃ p, x0 * y1 = p := ⟨_, rfl⟩
  rw [hp1] at m1
  rw [hp2] at m2
  have HC : ∀ W : World, Calls Tryz.prog 57 #[.int .i64 p1, .int .i64 p2] W fun e w' => e = .returned (.int .i64 (cmpI p1 p2)) ∧ w' = W := fun W => scmp_of W p1 p2
  rw [hp1, hp2]
  go_enter Tryz.func56, Tryz.ntmps56
  go_upto_region 1 with fail
  go_quiet ((go_at_call 57; with_reducible exact Calls.quiet_of_same (HC _)))
  go_wp2_with fail
  go_ret
  exact ⟨rfl, _, rfl⟩
end Go.Proofs.YtlphlbgbbblnpaaGreatDoor
-- StE: WALKS: strength: sorting by insertion; ordered; the crew that can begin first.
namespace Go.Proofs.YtlphlbgbbblnpaaGreatDoor
open Go.RowKit

/-- The jobs where a closure looks for them. -/
structure JAt (w : World) (jb : Nat) (q : Option Addr) (n c : Nat) (f : Nat → Int) : Prop where
  cl : w.cell? ⟨jb, 0, none⟩ = some (.slice q n c)
  sl : Sl w 4 q n f
theorem JAt.keep {w W : World} {jb : Nat} {q : Option Addr} {n c : Nat} {f : Nat → Int} (h : JAt w jb q n c f) (hb : Below w.heap.size w W) : JAt W jb q n c f :=
  ⟨(hb.cell (p := ⟨jb, 0, none⟩) (World.block_lt_of_cell? w _ h.cl)).trans h.cl, h.sl.keep (by decide) hb⟩
def ixG (d : Nat → Nat) : Nat → Value := fun i => .int .i64 ((d i : Nat) : Int)
theorem ixG_swap (d : Nat → Nat) (k i : Nat) : turn (turn (ixG d) (k + 1) (.int .i64 ((d k : Nat) : Int))) k (.int .i64 ((d (k + 1) : Nat) : Int)) i = ixG (swpd d (k + 1) k) i ∧ turn (turn (ixG d) k (.int .i64 ((d (k + 1) : Nat) : Int))) (k + 1) (.int .i64 ((d k : Nat) : Int)) i = ixG (swpd d (k + 1) k) i := by
  unfold turn ixG swpd
  by_cases h1 : i = k + 1
  · subst h1
    simp
  · by_cases h2 : i = k
    · subst h2
      simp
    · simp [h1, h2]
def JOk (f : Nat → Int) (n : Nat) : Prop := ∀ i, i < n → (0 ≤ f (i * 4) ∧ f (i * 4) ≤ 1000000) ∧ 1 ≤ f (i * 4 + 1) ∧ f (i * 4 + 1) ≤ 365

set_option maxRecDepth 100000 in
set_option maxHeartbeats 8000000 in
theorem insort_of (w : World) (g n cap jb c : Nat) (q : Option Addr) (f : Nat → Int) (d : Nat → Nat) (hn : n ≤ 24) (hf : JOk f n) (hK : ∀ W, Below g w W → JAt W jb q n c f) (hR : Blk w g 3 n (ixG d)) (hP : IsP n d) :
    Calls Tryz.prog 169 #[.slice (some ⟨g, 0, none⟩) n cap, .int .i64 0, .int .i64 (n : Int), .func (.func 56) #[] #[.pointer (some ⟨jb, 0, none⟩)]] w fun e w' => (∃ v, e = .returned v) ∧ Blk w' g 3 n (ixG (isort (lessR f) n d)) ∧ Below g w w' := by
  have HK := Lib.hid hK
  have HF := Lib.hid hf
  have HR := Lib.hid hR
  have HP := Lib.hid hP
  clear hK hf hR hP
  go_enter Tryz.func169, Tryz.ntmps169
  go_wp2_with fail
  go_loopw [8] (fun vi wr => ∃ i : Nat, 1 ≤ i ∧ (i ≤ n ∨ i = 1) ∧ vi = .int .i64 i ∧ Hid (Blk wr g 3 n (ixG (isort (lessR f) i d))) ∧ Hid (Below g w wr)) (fun vi _ => n - (intOf vi).toNat)
  case atStart => exact ⟨1, by omega, .inr rfl, rfl, HR.out, Below.refl _ _⟩
  case round =>
    obtain ⟨i, hi1, hi, rfl, HT, HB⟩ := hrel
    by_cases hlt : i < n
    · have HPi := Lib.hid (HP.out.isort (lt := lessR f) (k := i) (by omega))
      have HS : Hid (isort (lessR f) (i + 1) d = snkd (lessR f) i (isort (lessR f) i d)) := Lib.hid rfl
      obtain ⟨dn, hdn⟩ : ∃ x, isort (lessR f) (i + 1) d = x := ⟨_, rfl⟩
      rw [hdn] at HS
      have HDn := Lib.hid hdn
      clear hdn
      generalize isort (lessR f) i d = d0 at HT HPi HS
      go_wp2_with fail
      go_loopw [9] (fun vj w1 => ∃ (j : Nat) (d1 : Nat → Nat), j ≤ i ∧ vj = .int .i64 j ∧ Hid (Blk w1 g 3 n (ixG d1)) ∧ Hid (Below g w w1) ∧ Hid (IsP n d1) ∧ Hid (dn = snkd (lessR f) j d1)) (fun vj _ => (intOf vj).toNat)
      case atStart => exact ⟨i, d0, Nat.le_refl _, rfl, HT.out, HB.out, HPi.out, HS.out⟩
      case round =>
        obtain ⟨j, d1, hj, rfl, HT1, HB1, HP1, HS1⟩ := hrel
        cases j with
        | zero =>
          have e : dn = d1 := HS1.out
          rw [show (((0 : Nat) : Int)) = 0 from rfl]
          have h0 : decide ((0 : Int) > 0) = false := rfl
          go_upto_region 4 with fail
          go_quiet (fail)
          go_wp2_with fail
          exact ⟨⟨i + 1, by omega, .inl (by omega), by go_num, by rw [HDn.out, e]; exact HT1.out.keep ((Dy.Quiet.of wr nq).below (wr.heap.size)) HT1.out.lt, HB1.out.trans ((Dy.Quiet.of wr nq).below _)⟩, by simp [intOf]; omega⟩
        | succ k =>
          have hkn : k + 1 < n := by omega
          have b0 := HP1.out.1 k (by omega)
          have b1 := HP1.out.1 (k + 1) hkn
          have cA := HT1.out.cell (k := k) (by omega)
          have cB := HT1.out.cell (k := k + 1) hkn
          have hz := fun o => HT1.out.fz o
          have e1 : snkd (lessR f) (k + 1) d1 = if lessR f (d1 (k + 1)) (d1 k) = true then snkd (lessR f) k (swpd d1 (k + 1) k) else d1 := rfl
          have HPs := Lib.hid (HP1.out.swp (a := k + 1) (b := k) hkn (by omega))
          have hJ := HK.out wr HB1.out
          have HC : Hid (∀ m, Calls Tryz.prog 56 #[.int .i64 ((d1 (k + 1) : Nat) : Int), .int .i64 ((d1 k : Nat) : Int), .pointer (some ⟨jb, 0, none⟩)] (wr.drewN m) fun e w' => e = .returned (.int .i64 (cmpR f (d1 (k + 1)) (d1 k))) ∧ ∃ q, w' = (wr.drewN m).drewN q) := fun m =>
            have h2 := hJ.keep ((Dy.Quiet.of wr m).below _)
            by_risk (wr.drewN m) jb q n c (d1 (k + 1)) (d1 k) f h2.cl hn HF.out b1 b0 h2.sl
          have hL := cmpR_less f (d1 (k + 1)) (d1 k)
          have HSe := Lib.hid (HS1.out.trans e1)
          unfold ixG at cA cB
          generalize cmpR f (d1 (k + 1)) (d1 k) = cv at HC hL
          generalize lessR f (d1 (k + 1)) (d1 k) = lb at HSe hL
          have HG : Hid (∀ W : World, Blk W g 3 n (ixG d1) → Blk ((W.setCell ⟨g, k + 1, none⟩ (.int .i64 ((d1 k : Nat) : Int))).setCell ⟨g, k, none⟩ (.int .i64 ((d1 (k + 1) : Nat) : Int))) g 3 n (ixG (swpd d1 (k + 1) k)) ∧ Blk ((W.setCell ⟨g, k, none⟩ (.int .i64 ((d1 (k + 1) : Nat) : Int))).setCell ⟨g, k + 1, none⟩ (.int .i64 ((d1 k : Nat) : Int))) g 3 n (ixG (swpd d1 (k + 1) k))) := fun W hW =>
            ⟨((hW.set (k + 1) (.int .i64 ((d1 k : Nat) : Int))).set k (.int .i64 ((d1 (k + 1) : Nat) : Int))).congr fun i _ => (ixG_swap d1 k i).1, ((hW.set k (.int .i64 ((d1 (k + 1) : Nat) : Int))).set (k + 1) (.int .i64 ((d1 k : Nat) : Int))).congr fun i _ => (ixG_swap d1 k i).2⟩
          have hgl := HT1.out.lt
          clear e1 HS1 HS HPi HT hJ HP1
          generalize swpd d1 (k + 1) k = ds at HG HSe HPs
          have HX1 : Hid (∀ W : World, W.cell? ⟨g, k, none⟩ = some (.int .i64 ((d1 k : Nat) : Int)) → True) := fun _ _ => trivial
          generalize d1 (k + 1) = x1 at cB HC HG b1
          generalize d1 k = x0 at cA HC HG b0
          clear HX1
          rw [Int.natCast_add, show ((1 : Nat) : Int) = 1 from rfl]
          have hk0 : decide ((k : Int) + 1 > 0) = true := by rw [decide_eq_true_iff]; omega
          have hk1 : (k : Int) + 1 - 1 = k := by omega
          cases lb with
          | true =>
            go_upto_region 4 with fail
            go_quiet ((go_at_call 56; with_reducible exact Calls.quiet_of (HC.out _)))
            have hB2 : Below g w (wr.drewN nq) := HB1.out.trans ((Dy.Quiet.of wr nq).below _)
            have hT2 : Blk (wr.drewN nq) g 3 n (ixG d1) := HT1.out.keep ((Dy.Quiet.of wr nq).below (wr.heap.size)) HT1.out.lt
            have cA2 : (wr.drewN nq).cell? ⟨g, k, none⟩ = some (.int .i64 (x0 : Int)) := by simpa using cA
            have cB2 : (wr.drewN nq).cell? ⟨g, k + 1, none⟩ = some (.int .i64 (x1 : Int)) := by simpa using cB
            clear cA cB HT1 HB1 hz
            generalize wr.drewN nq = W at hB2 hT2 cA2 cB2 ⊢
            have HB2 := Lib.hid hB2
            have HE := Lib.hid (HG.out W hT2)
            have hz := fun o => hT2.fz o
            clear hB2 hT2
            go_upto_region 6 with fail
            go_region
            all_goals
              go_wp2_with fail
              refine ⟨⟨k, ds, by omega, ?_, ?_, ?_, HPs.out, by rw [HSe.out]; rfl⟩, by simp [intOf]⟩
              · first | rfl | (congr 1)
              · first | exact HE.out.1 | exact HE.out.2
              · first
                  | exact (HB2.out.setCell (p := ⟨g, k + 1, none⟩) (Nat.le_refl g) _).setCell (p := ⟨g, k, none⟩) (Nat.le_refl g) _
                  | exact (HB2.out.setCell (p := ⟨g, k, none⟩) (Nat.le_refl g) _).setCell (p := ⟨g, k + 1, none⟩) (Nat.le_refl g) _
                  | exact ((HB2.out.setCell (p := ⟨g, k + 1, none⟩) (Nat.le_refl g) _).setCell (p := ⟨g, k, none⟩) (Nat.le_refl g) _).drew
                  | exact ((HB2.out.setCell (p := ⟨g, k, none⟩) (Nat.le_refl g) _).setCell (p := ⟨g, k + 1, none⟩) (Nat.le_refl g) _).drew
          | false =>
            go_upto_region 4 with fail
            go_quiet ((go_at_call 56; with_reducible exact Calls.quiet_of (HC.out _)))
            have e : dn = d1 := by have := HSe.out; rwa [if_neg (by decide)] at this
            go_wp2_with fail
            exact ⟨⟨i + 1, by omega, .inl (by omega), by go_num, by rw [HDn.out, e]; exact HT1.out.keep ((Dy.Quiet.of wr nq).below (wr.heap.size)) HT1.out.lt, HB1.out.trans ((Dy.Quiet.of wr nq).below _)⟩, by simp [intOf]; omega⟩
    · have hin : isort (lessR f) i d = isort (lessR f) n d := by
        rcases hi with h | h
        · have e : i = n := Nat.le_antisymm h (Nat.le_of_not_lt hlt)
          rw [e]
        · subst h
          have h2 : n ≤ 1 := Nat.le_of_not_lt hlt
          rcases Nat.lt_or_ge 0 n with h3 | h3
          · rw [Nat.le_antisymm h2 h3]
          · rw [Nat.le_antisymm h3 (Nat.zero_le n)]
            rfl
      rw [hin] at HT
      go_wp2_with fail
      go_end0
      exact ⟨⟨_, rfl⟩, HT.out, HB.out⟩

set_option maxRecDepth 100000 in
set_option maxHeartbeats 4000000 in
theorem stable_of (w : World) (g n cap jb c : Nat) (q : Option Addr) (f : Nat → Int) (d : Nat → Nat) (hn : n ≤ 19) (hf : JOk f n) (hK : ∀ W, Below g w W → JAt W jb q n c f) (hR : Blk w g 3 n (ixG d)) (hP : IsP n d) :
    Calls Tryz.prog 97 #[.slice (some ⟨g, 0, none⟩) n cap, .func (.func 56) #[] #[.pointer (some ⟨jb, 0, none⟩)]] w fun e w' => (∃ v, e = .returned v) ∧ Blk w' g 3 n (ixG (isort (lessR f) n d)) ∧ Below g w w' := by
  have HC : Hid (Calls Tryz.prog 169 #[.slice (some ⟨g, 0, none⟩) n cap, .int .i64 0, .int .i64 (n : Int), .func (.func 56) #[] #[.pointer (some ⟨jb, 0, none⟩)]] w fun e w' => (∃ v, e = .returned v) ∧ Blk w' g 3 n (ixG (isort (lessR f) n d)) ∧ Below g w w') := insort_of w g n cap jb c q f d (by omega) hf hK hR hP
  clear hf hK hR hP
  go_enter Tryz.func97, Tryz.ntmps97
  go_wp2_with fail
  have HS : Calls Tryz.prog 138 #[.slice (some ⟨g, 0, none⟩) n cap, .int .i64 (n : Int), .func (.func 56) #[] #[.pointer (some ⟨jb, 0, none⟩)]] w fun e w' => (∃ v, e = .returned v) ∧ Blk w' g 3 n (ixG (isort (lessR f) n d)) ∧ Below g w w' := by
    go_enter Tryz.func138, Tryz.ntmps138
    go_wp2_with fail
    refine wp_loop_rounds 1 ?_
    rw [rounds_succ]
    go_wp2_with fail
    refine HC.out.mono ?_
    rintro e w' ⟨⟨v, rfl⟩, hT, hB⟩
    have HT := Lib.hid hT
    have HB := Lib.hid hB
    clear hT hB
    go_wp2_with fail
    refine wp_loop_rounds 1 ?_
    rw [rounds_succ]
    go_wp2_with fail
    go_end0
    exact ⟨⟨_, rfl⟩, HT.out, HB.out⟩
  refine HS.mono ?_
  rintro e w' ⟨⟨v, rfl⟩, hT, hB⟩
  have HT := Lib.hid hT
  have HB := Lib.hid hB
  clear hT hB
  go_wp2_with fail
  go_end0
  exact ⟨⟨_, rfl⟩, HT.out, HB.out⟩

/-- Indices laid, k of them. -/
def idG (k i : Nat) : Value := if i < k then .int .i64 ((i : Nat) : Int) else .int .i64 0
theorem idG_step (k i : Nat) : turn (idG k) k (.int .i64 ((k : Nat) : Int)) i = idG (k + 1) i := by
  unfold turn idG
  by_cases h : i = k
  · subst h; simp
  · rw [if_neg h]
    by_cases h2 : i < k
    · rw [if_pos h2, if_pos (by omega)]
    · rw [if_neg h2, if_neg (by omega)]
theorem x_intS : (Tryz.prog.info? 3).map (fun i => (i.zero, i.size, i.bytes)) = some (some (.int .i64 0), 1, 8) := by kernel_rfl
set_option maxRecDepth 100000 in
set_option maxHeartbeats 4000000 in
theorem ordered_of (w : World) (n jb c : Nat) (q : Option Addr) (f : Nat → Int) (hn : n ≤ 19) (hf : JOk f n) (hJ : JAt w jb q n c f) :
    Calls Tryz.prog 58 #[.int .i64 (n : Int), .func (.func 56) #[] #[.pointer (some ⟨jb, 0, none⟩)]] w fun e w' => ∃ g, e = .returned (.slice (some ⟨g, 0, none⟩) n n) ∧ w.heap.size ≤ g ∧ Blk w' g 3 n (ixG (isort (lessR f) n fun i => i)) ∧ Below w.heap.size w w' := by
  have HJ := Lib.hid hJ
  have HF := Lib.hid hf
  clear hJ hf
  go_enter Tryz.func58, Tryz.ntmps58
  go_wp2_with (at_make; refine wp_makeB _ rfl _ _ 33 3 rfl Tryz.underlying33 x_intS rfl (by decide) _ _ n rfl rfl (by push_cast; rfl) (by push_cast; rfl) (by omega) (by decide) ?_)
  obtain ⟨W, hW⟩ : ∃ W, w.alloc (.cells (vrow n (zc (.int .i64 0) 1)) 3) = W := ⟨_, rfl⟩
  rw [hW]
  have hb : Below w.heap.size w W := by rw [← hW]; exact (Below.refl _ _).alloc (Nat.le_refl _) _
  have hr : Blk W w.heap.size 3 n (idG 0) := by
    rw [← hW]
    refine (Blk.new w _ _ _).congr fun i _ => ?_
    unfold idG zc
    rw [if_neg (by omega), Nat.mod_one]
    rfl
  have HB := Lib.hid hb
  have HR := Lib.hid hr
  clear hW hb hr
  obtain ⟨g, hg⟩ : ∃ g, w.heap.size = g := ⟨_, rfl⟩
  rw [hg] at HR
  have HGe := Lib.hid hg
  rw [hg]
  have HBg : Hid (Below g w W) := by rw [← hg]; exact HB.out
  clear HB
  go_loopw [11] (fun vk wr => ∃ k : Nat, k ≤ n ∧ vk = .int .i64 k ∧ Hid (Blk wr g 3 n (idG k)) ∧ Hid (Below g w wr)) (fun vk _ => n - (intOf vk).toNat)
  case atStart => exact ⟨0, by omega, rfl, HR.out, HBg.out⟩
  case round =>
    obtain ⟨k, hk, rfl, HT, HB⟩ := hrel
    by_cases hlt : k < n
    · have hz := fun o => HT.out.fz o
      have cA := HT.out.cell hlt
      have HT2 := Lib.hid ((HT.out.set k (.int .i64 ((k : Nat) : Int))).congr fun i _ => idG_step k i)
      have HB2 : Hid (Below g w (wr.setCell ⟨g, k, none⟩ (.int .i64 ((k : Nat) : Int)))) := HB.out.setCell (p := ⟨g, k, none⟩) (Nat.le_refl g) _
      go_wp2_with fail
      exact ⟨⟨k + 1, by omega, by go_num, HT2.out, HB2.out⟩, by simp [intOf]; omega⟩
    · obtain rfl : k = n := by omega
      have hK : ∀ W, Below g wr W → JAt W jb q k c f := fun W hW => HJ.out.keep (by rw [HGe.out]; exact HB.out.trans hW)
      have hR : Blk wr g 3 k (ixG fun i => i) := HT.out.congr fun i hi => by unfold idG ixG; rw [if_pos hi]
      have HC := Lib.hid (stable_of wr g k k jb c q f (fun i => i) hn HF.out hK hR (isP_id k))
      clear hK hR
      go_wp2_with fail
      refine HC.out.mono ?_
      rintro e w' ⟨⟨v, rfl⟩, hT, hB⟩
      have HT3 := Lib.hid hT
      have HB3 := Lib.hid (HB.out.trans hB)
      clear hT hB
      go_wp2_with fail
      go_ret
      exact ⟨g, rfl, by rw [HGe.out]; exact Nat.le_refl _, HT3.out, by rw [HGe.out]; exact HB3.out⟩
end Go.Proofs.YtlphlbgbbblnpaaGreatDoor
