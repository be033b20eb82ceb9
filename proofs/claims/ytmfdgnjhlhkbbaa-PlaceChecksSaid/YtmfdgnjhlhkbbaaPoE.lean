/-
  WALKS: the comparison of bounds; Forward in one form.
-/
import Derived.Test.YtmfdgnjhlhkbbaaPoD
namespace Go.Proofs.Ytmfdgnjhlhkbbaa
open Go.RowKit

set_option maxRecDepth 100000 in
set_option maxHeartbeats 4000000 in
theorem bounds_same (w : World) (a b : Option Addr) (n c c' : Nat) (f : Nat → Int) (hn : n ≤ 1000) (hA : Sl w 3 a n f) (hB : Sl w 3 b n f) :
    Calls Try.prog 24 #[.slice a n c, .slice b n c'] w fun e W' => e = .returned (.bool true) ∧ Below w.heap.size w W' := by
  have HA := Lib.hid hA
  have HB := Lib.hid hB
  clear hA hB
  go_enter Try.func24, Try.ntmps24
  go_wp2_with fail
  go_loopw [13] (fun i wr => ∃ k : Nat, k ≤ n ∧ i = .int .i64 k ∧ Hid (Below w.heap.size w wr)) (fun i _ => n - (intOf i).toNat)
  case atStart => exact ⟨0, by omega, rfl, Below.refl _ _⟩
  case round =>
    obtain ⟨k, hk, rfl, HK⟩ := hrel
    by_cases hlt : k < n
    · obtain ⟨p, o, rfl, hI⟩ := HA.out (by omega)
      obtain ⟨p', o', rfl, hI'⟩ := HB.out (by omega)
      have hJ := hI.keep HK.out (hI.lt (by omega))
      have hJ' := hI'.keep HK.out (hI'.lt (by omega))
      have d0 := hJ (k * 3) (by omega)
      have d1 := hJ.at (k * 3) 1 (by omega)
      have d2 := hJ.at (k * 3) 2 (by omega)
      have e0 := hJ' (k * 3) (by omega)
      have e1 := hJ'.at (k * 3) 1 (by omega)
      have e2 := hJ'.at (k * 3) 2 (by omega)
      clear hI hI' hJ hJ'
      go_wp2_with fail
      go_quiet (fail)
      go_wp2_with fail
      have hb := HK.out
      exact ⟨⟨k + 1, by omega, by go_num, ⟨hb.os, hb.tape, hb.output, hb.size, hb.block⟩⟩, by simp [intOf]; omega⟩
    · obtain rfl : k = n := by omega
      go_wp2
      go_ret
      exact ⟨rfl, HK.out⟩

/-- The error and the count of Forward. -/
def fwE (n : Int) : Int := if n < 1 ∨ 64 < n then 4 else 0
def fwN (n : Int) : Nat := if n < 1 ∨ 64 < n then 0 else (n - 1).toNat
def FwEnd (n : Int) (w : World) (e : Ending) (W : World) : Prop := ∃ x c, e = .returned (.tuple #[.slice x (fwN n) c, .int .i64 (fwE n)]) ∧ Sl W 3 x (fwN n) fwF ∧ Below w.heap.size w W
theorem fwN_le (n : Int) : fwN n ≤ 63 := by unfold fwN; split <;> omega
theorem forward_of (w : World) (n : Int) : Calls Try.prog 20 #[.int .i64 n] w (FwEnd n w) := by
  by_cases h : n < 1 ∨ 64 < n
  · refine (forward_bad w n h).mono ?_
    rintro e w' ⟨rfl, rfl⟩
    refine ⟨none, 0, ?_, ?_, Below.refl _ _⟩
    · unfold fwN fwE; rw [if_pos h, if_pos h]
    · unfold fwN; rw [if_pos h]; exact fun h => absurd h (by decide)
  · obtain ⟨m, rfl⟩ : ∃ m : Nat, n = (m : Int) + 1 := ⟨(n - 1).toNat, by omega⟩
    have hN : fwN ((m : Int) + 1) = m := by unfold fwN; rw [if_neg h]; omega
    have hE : fwE ((m : Int) + 1) = 0 := by unfold fwE; rw [if_neg h]
    refine (forward_ok w m (by omega)).mono ?_
    rintro e w' ⟨rfl, hI, hb⟩
    refine ⟨some ⟨w.heap.size, 0, none⟩, m, by rw [hN, hE], ?_, hb⟩
    rw [hN]
    exact fun _ => ⟨w.heap.size, 0, rfl, hI⟩
theorem rforward_of (w : World) (n : Int) : Calls Try.prog 21 #[.int .i64 n] w (FwEnd n w) := by
  by_cases h : n < 1 ∨ 64 < n
  · refine (rforward_bad w n h).mono ?_
    rintro e w' ⟨rfl, rfl⟩
    refine ⟨none, 0, ?_, ?_, Below.refl _ _⟩
    · unfold fwN fwE; rw [if_pos h, if_pos h]
    · unfold fwN; rw [if_pos h]; exact fun h => absurd h (by decide)
  · obtain ⟨m, rfl⟩ : ∃ m : Nat, n = (m : Int) + 1 := ⟨(n - 1).toNat, by omega⟩
    have hN : fwN ((m : Int) + 1) = m := by unfold fwN; rw [if_neg h]; omega
    have hE : fwE ((m : Int) + 1) = 0 := by unfold fwE; rw [if_neg h]
    refine (rforward_ok w m (by omega)).mono ?_
    rintro e w' ⟨v, rfl, hO, hb⟩
    cases m with
    | zero =>
      rcases hO.2 with ⟨rfl, _⟩ | ⟨g, cap, cur, rfl, _⟩
      · exact ⟨none, 0, by rw [hN, hE], by rw [hN]; exact fun h => absurd h (by decide), hb⟩
      · exact ⟨some ⟨g, 0, none⟩, cap, by rw [hN, hE], by rw [hN]; exact fun h => absurd h (by decide), hb⟩
    | succ m =>
      obtain ⟨g, cap, rfl⟩ := ownsRow_succ hO
      refine ⟨some ⟨g, 0, none⟩, cap, by rw [hN, hE], ?_, hb⟩
      rw [hN]
      refine fun _ => ⟨g, 0, rfl, fun i hi => ?_⟩
      rw [Nat.zero_add, World.ownsRow.cellAt hO i hi, fwL_get hi]

set_option maxRecDepth 100000 in
set_option maxHeartbeats 4000000 in
theorem sources_of (w : World) (n a b lo hi : Int) :
    Calls Try.prog 4 #[.int .i64 n, .int .i64 a, .int .i64 b, .agg #[.int .i64 lo, .int .i64 hi]] w fun e W' => e = .returned (.bool true) ∧ Below w.heap.size w W' := by
  have a0 := World.alloc_heap_new w (.cells #[.int .i64 lo, .int .i64 hi] 27)
  have hB := (Below.refl w.heap.size w).alloc (Nat.le_refl _) (.cells #[.int .i64 lo, .int .i64 hi] 27)
  have hn1 := fwN_le n
  have hn2 : btN a b lo hi ≤ 2 := by unfold btN; split <;> omega
  have C1 := Lib.hid (fun w => forward_of w n)
  have C2 := Lib.hid (fun w => rforward_of w n)
  have C3 := Lib.hid (fun w => between_of w a b lo hi)
  have C4 := Lib.hid (fun w => rbetween_of w a b lo hi)
  unfold FwEnd at C1 C2
  unfold BtEnd at C3 C4
  generalize fwN n = N1 at C1 C2 hn1
  generalize fwE n = E1 at C1 C2
  generalize btN a b lo hi = N2 at C3 C4 hn2
  generalize btE a b lo hi = E2 at C3 C4
  go_enter Try.func4, Try.ntmps4
  go_wp2_with fail
  refine (C1.out _).mono ?_
  rintro e W1 ⟨x1, c1, rfl, hS1, hB1⟩
  replace a0 := (hB1.block _ (Array.getElem?_eq_some_iff.1 a0).1).trans a0
  replace hB := hB.trans (hB1.mono hB.size)
  have HS1 := Lib.hid hS1
  have HB := Lib.hid hB
  have HA := Lib.hid a0
  clear hS1 hB1 hB a0
  go_wp2_with fail
  refine (C2.out _).mono ?_
  rintro e W2 ⟨x2, c2, rfl, hS2, hB2⟩
  have a0 := (hB2.block _ (Array.getElem?_eq_some_iff.1 HA.out).1).trans HA.out
  have HS1' := Lib.hid (HS1.out.keep (by decide) hB2)
  have HS2 := Lib.hid hS2
  have HB' := Lib.hid (HB.out.trans (hB2.mono HB.out.size))
  have g0 : W2.cell? ⟨w.heap.size, 0, none⟩ = some (.int .i64 lo) := cell_h a0 rfl
  have g1 : W2.cell? ⟨w.heap.size, 1, none⟩ = some (.int .i64 hi) := cell_h a0 rfl
  have HA2 := Lib.hid a0
  clear hS2 hB2 HB HS1 HA a0
  go_wp2_with fail
  refine (C3.out _).mono ?_
  rintro e W3 ⟨x3, c3, rfl, hS3, hB3⟩
  have a0 := (hB3.block _ (Array.getElem?_eq_some_iff.1 HA2.out).1).trans HA2.out
  have HS1 := Lib.hid (HS1'.out.keep (by decide) hB3)
  have HS2' := Lib.hid (HS2.out.keep (by decide) hB3)
  have HS3 := Lib.hid hS3
  have HB := Lib.hid (HB'.out.trans (hB3.mono HB'.out.size))
  clear g0 g1
  have g0 : W3.cell? ⟨w.heap.size, 0, none⟩ = some (.int .i64 lo) := cell_h a0 rfl
  have g1 : W3.cell? ⟨w.heap.size, 1, none⟩ = some (.int .i64 hi) := cell_h a0 rfl
  clear hS3 hB3 HB' HS1' HS2 HA2 a0
  go_wp2_with fail
  refine (C4.out _).mono ?_
  rintro e W4 ⟨x4, c4, rfl, hS4, hB4⟩
  have HS1' := Lib.hid (HS1.out.keep (by decide) hB4)
  have HS2 := Lib.hid (HS2'.out.keep (by decide) hB4)
  have HS3' := Lib.hid (HS3.out.keep (by decide) hB4)
  have HS4 := Lib.hid hS4
  have HB' := Lib.hid (HB.out.trans (hB4.mono HB.out.size))
  clear hS4 hB4 HB HS1 HS2' HS3 g0 g1
  go_wp2_with fail
  refine (bounds_same W4 x1 x2 N1 c1 c2 fwF (by omega) HS1'.out HS2.out).mono ?_
  rintro e W5 ⟨rfl, hB5⟩
  have HS3 := Lib.hid (HS3'.out.keep (by decide) hB5)
  have HS4' := Lib.hid (HS4.out.keep (by decide) hB5)
  have HB := Lib.hid (HB'.out.trans (hB5.mono HB'.out.size))
  clear hB5 HB' HS1' HS2 HS3' HS4
  go_wp2_with fail
  refine (bounds_same W5 x3 x4 N2 c3 c4 _ (by omega) HS3.out HS4'.out).mono ?_
  rintro e W6 ⟨rfl, hB6⟩
  have HB' := Lib.hid (HB.out.trans (hB6.mono HB.out.size))
  clear hB6 HB HS3 HS4'
  go_wp2_with fail
  refine (awake_of W6).mono ?_
  rintro e W7 ⟨rfl, hB7⟩
  have HB := Lib.hid (HB'.out.trans (hB7.mono HB'.out.size))
  clear hB7 HB'
  go_wp2_with fail
  go_ret
  exact ⟨rfl, HB.out⟩
end Go.Proofs.Ytmfdgnjhlhkbbaa
