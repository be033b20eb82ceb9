/-
  WALKS: strength: isWithin, isIndex, the days of a job's end, the sum of risks, the error of jobs, cmp.Compare.
-/
import Derived.Test.YtlphlbgbbblnpaaGreatDoorStB
import Derived.Test.YtlphlbgbbblnpaaGreatDoorPmAF
import Derived.LoopN
import Derived.Deep.RegionHeld3
import Derived.Deep.DeepCutAuto
import Derived.StillTailTactics
namespace Go.Proofs.YtlphlbgbbblnpaaGreatDoor
open Go.RowKit

theorem low_trans {w V W : World} (h : Below w.heap.size w V) (hb : Below V.heap.size V W) : Below w.heap.size w W := h.trans (hb.mono h.size)

set_option maxHeartbeats 1000000 in
theorem swithin_of (b : Bool) (w : World) (x lo hi : Int) (h : b = decide (lo ≤ x ∧ x ≤ hi)) :
    Calls Tryz.prog 51 #[.int .i64 x, .int .i64 lo, .int .i64 hi] w fun e w' => e = .returned (.bool b) ∧ w' = w := by
  go_enter Tryz.func51, Tryz.ntmps51
  by_cases h1 : lo ≤ x
  · by_cases h2 : x ≤ hi
    · obtain rfl : b = true := by rw [h, decide_eq_true_iff]; omega
      clear h
      go_wp2
      go_ret
      refine ⟨?_, rfl⟩
      first | rfl | (congr 2; simp; omega)
    · obtain rfl : b = false := by rw [h, decide_eq_false_iff_not]; omega
      clear h
      go_wp2
      go_ret
      refine ⟨?_, rfl⟩
      first | rfl | (congr 2; simp; omega)
  · obtain rfl : b = false := by rw [h, decide_eq_false_iff_not]; omega
    clear h
    go_wp2
    go_ret
    exact ⟨rfl, rfl⟩
set_option maxHeartbeats 1000000 in
theorem sindex_of (b : Bool) (w : World) (x n : Int) (h : b = decide (0 ≤ x ∧ x < n)) :
    Calls Tryz.prog 62 #[.int .i64 x, .int .i64 n] w fun e w' => e = .returned (.bool b) ∧ w' = w := by
  go_enter Tryz.func62, Tryz.ntmps62
  by_cases h1 : 0 ≤ x
  · by_cases h2 : x < n
    · obtain rfl : b = true := by rw [h, decide_eq_true_iff]; omega
      clear h
      go_wp2
      go_ret
      refine ⟨?_, rfl⟩
      first | rfl | (congr 2; simp; omega)
    · obtain rfl : b = false := by rw [h, decide_eq_false_iff_not]; omega
      clear h
      go_wp2
      go_ret
      refine ⟨?_, rfl⟩
      first | rfl | (congr 2; simp; omega)
  · obtain rfl : b = false := by rw [h, decide_eq_false_iff_not]; omega
    clear h
    go_wp2
    go_ret
    exact ⟨rfl, rfl⟩

/-- Signs of comparisons. -/
def cmpI (x y : Int) : Int := if x < y then -1 else if y < x then 1 else 0
set_option maxHeartbeats 1000000 in
theorem scmp_of (w : World) (x y : Int) : Calls Tryz.prog 57 #[.int .i64 x, .int .i64 y] w fun e w' => e = .returned (.int .i64 (cmpI x y)) ∧ w' = w := by
  have hnan : ∀ (W : World) (z : Int), Calls Tryz.prog 96 #[.int .i64 z] W fun e w' => e = .returned (.bool false) ∧ w' = W := fun W z => by
    go_enter Tryz.func96, Tryz.ntmps96
    go_wp2
    go_ret
    refine ⟨?_, rfl⟩
    first | rfl | simp
  rcases (by omega : x < y ∨ (¬x < y ∧ y < x) ∨ (¬x < y ∧ ¬y < x)) with h | ⟨h1, h⟩ | ⟨h1, h⟩
  · have e : cmpI x y = -1 := by unfold cmpI; rw [if_pos h]
    rw [e]
    go_enter Tryz.func57, Tryz.ntmps57
    go_wp2_with (go_at_call 96; refine (hnan _ _).mono ?_; rintro e w' ⟨rfl, rfl⟩)
    go_ret
    exact ⟨rfl, rfl⟩
  · have e : cmpI x y = 1 := by unfold cmpI; rw [if_neg h1, if_pos h]
    rw [e]
    go_enter Tryz.func57, Tryz.ntmps57
    go_wp2_with (go_at_call 96; refine (hnan _ _).mono ?_; rintro e w' ⟨rfl, rfl⟩)
    go_ret
    exact ⟨rfl, rfl⟩
  · have e : cmpI x y = 0 := by unfold cmpI; rw [if_neg h1, if_neg h]
    rw [e]
    go_enter Tryz.func57, Tryz.ntmps57
    go_wp2_with (go_at_call 96; refine (hnan _ _).mono ?_; rintro e w' ⟨rfl, rfl⟩)
    go_ret
    exact ⟨rfl, rfl⟩

set_option maxHeartbeats 1000000 in
theorem send_of (w : World) (a b c d n : Int) : Calls Tryz.prog 60 #[.agg #[.int .i64 a, .int .i64 b, .int .i64 c, .int .i64 d], .int .i64 n] w fun e w' => e = .returned (.int .i64 (min d n)) ∧ w' = w.alloc (.cells #[.int .i64 a, .int .i64 b, .int .i64 c, .int .i64 d] 66) := by
  rcases (by omega : n < d ∧ min d n = n ∨ ¬(n < d) ∧ min d n = d) with ⟨h, e⟩ | ⟨h, e⟩
  all_goals
    rw [e]
    go_enter Tryz.func60, Tryz.ntmps60
    go_wp2
    go_ret
    exact ⟨rfl, rfl⟩

set_option maxRecDepth 100000 in
set_option maxHeartbeats 4000000 in
theorem srisk_of (w : World) (a : Option Addr) (n c : Nat) (f : Nat → Int) (hn : n ≤ 24) (hf : ∀ i, i < n → 0 ≤ f (i * 4) ∧ f (i * 4) ≤ 1000000) (hS : Sl w 4 a n f) :
    Calls Tryz.prog 61 #[.slice a n c] w fun e w' => e = .returned (.int .i64 (rsk f n)) ∧ Below w.heap.size w w' := by
  have HS := Lib.hid hS
  have HF := Lib.hid hf
  clear hS hf
  go_enter Tryz.func61, Tryz.ntmps61
  go_wp2_with fail
  go_loopw [3, 8] (fun vs vi wr => ∃ i : Nat, i ≤ n ∧ vi = .int .i64 i ∧ vs = .int .i64 (si i fun i => f (i * 4)) ∧ Hid (0 ≤ si i (fun i => f (i * 4)) ∧ si i (fun i => f (i * 4)) ≤ 1000000 * i) ∧ Hid (Below w.heap.size w wr)) (fun _ vi _ => n - (intOf vi).toNat)
  case atStart => exact ⟨0, by omega, rfl, rfl, Lib.hid (by simp [si]), Below.refl _ _⟩
  case round =>
    obtain ⟨i, hi, rfl, rfl, HI, HB⟩ := hrel
    by_cases hlt : i < n
    · obtain ⟨b, o, rfl, hI⟩ := HS.out (by omega)
      have hJ := hI.keep HB.out (hI.lt (by omega))
      have d0 := hJ (i * 4) (by omega)
      have d1 := hJ.at (i * 4) 1 (by omega)
      have d2 := hJ.at (i * 4) 2 (by omega)
      have d3 := hJ.at (i * 4) 3 (by omega)
      have hb := HI.out
      have hF := HF.out i hlt
      have hs : si (i + 1) (fun i => f (i * 4)) = si i (fun i => f (i * 4)) + f (i * 4) := rfl
      generalize si i (fun i => f (i * 4)) = s at hb hs HI ⊢
      have HSs := Lib.hid hs
      clear hI hJ hs
      go_wp2_with fail
      exact ⟨⟨i + 1, by omega, by go_num, by rw [HSs.out], Lib.hid (by rw [HSs.out]; omega), HB.out.alloc HB.out.size _⟩, by simp [intOf]; omega⟩
    · obtain rfl : i = n := by omega
      go_wp2_with fail
      go_ret
      exact ⟨rfl, HB.out⟩
end Go.Proofs.YtlphlbgbbblnpaaGreatDoor
