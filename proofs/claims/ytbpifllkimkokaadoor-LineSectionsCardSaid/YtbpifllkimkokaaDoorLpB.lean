/-
  WALKS: the reference's Station, Nearest, Within.
-/
import Derived.Test.YtbpifllkimkokaaDoorLpA
import Derived.Deep.QuietTactic
namespace Go.Proofs.YtbpifllkimkokaaDoor
open Go.RowKit

set_option maxRecDepth 8000 in
set_option maxHeartbeats 1600000 in
/-- Station of a place in an item. -/
theorem rstation_yes (a za la : Option Addr) (n c zn zc ln lc : Nat) (f : Nat → Int) (i : Nat) (o : Int) (hl : n ≤ 70) (hv : ∀ i, i < n → itAt f i = 0) (hi : i < n) (ho : 0 ≤ o ∧ o < f (i * 7 + 1)) (w : World) (hS : Sl w 7 a n f) :
    Calls Tryd.prog 23 #[.agg #[.slice a n c, .slice za zn zc, .slice la ln lc], .int .i64 i, .int .i64 o] w fun e W' => e = .returned (.tuple #[.int .i64 (endS f i + o), .int .i64 0]) ∧ Below w.heap.size w W' := by
  have HST : Hid (∀ W', Below w.heap.size w W' → Calls Tryd.prog 21 #[.agg #[.slice a n c, .slice za zn zc, .slice la ln lc]] W' fun e W3 => (∃ v, e = .returned v ∧ W3.ownsRow W'.heap.size 3 1 v (n + 1) (irow (endS f) (n + 1))) ∧ Below W'.heap.size W' W3) :=
    fun W' hb => rstarts_of a za la n c zn zc ln lc f hl hv W' (hS.keep (by omega) hb)
  have hstp : 0 ≤ endS f i ∧ endS f i ≤ 1174405120 ∧ 1 ≤ f (i * 7 + 1) ∧ f (i * 7 + 1) ≤ 16777216 := endS_step hl hv hi
  have e1 : IntKind.i64.wrap ((n : Int) - 1) = (n : Int) - 1 := IntWalk.i64_in _ (by omega)
  have e2 : IntKind.i64.wrap (f (i * 7 + 1) - 1) = f (i * 7 + 1) - 1 := IntWalk.i64_in _ (by omega)
  have e3 : IntKind.i64.wrap (endS f i + o) = endS f i + o := IntWalk.i64_in _ (by omega)
  have HB1 : Hid (true = decide (0 ≤ (i : Int) ∧ (i : Int) ≤ (n : Int) - 1)) := by show true = _; simp; omega
  have HB2 : Hid (true = decide (0 ≤ o ∧ o ≤ f (i * 7 + 1) - 1)) := by show true = _; simp; omega
  obtain ⟨b, p, rfl, hI⟩ := hS (by omega)
  have hlb := hI.lt (by omega)
  have HI := Lib.hid hI
  clear hS hv hI
  go_enter Tryd.func23, Tryd.ntmps23
  go_wp2_with fail
  obtain ⟨W, hW⟩ : ∃ W, W = w.alloc (.cells #[.slice (some ⟨b, p, none⟩) n c, .slice za zn zc, .slice la ln lc] 31) := ⟨_, rfl⟩
  have hBW : Hid (Below w.heap.size w W) := by rw [hW]; exact (Below.refl _ _).alloc (Nat.le_refl _) _
  have hX : W.cell? ⟨w.heap.size, 0, none⟩ = some (.slice (some ⟨b, p, none⟩) n c) ∧ W.cell? ⟨w.heap.size, 1, none⟩ = some (.slice za zn zc) ∧ W.cell? ⟨w.heap.size, 2, none⟩ = some (.slice la ln lc) := by
    rw [hW]; exact ⟨by go_simp, by go_simp, by go_simp⟩
  rw [← hW]
  clear hW
  obtain ⟨x0, x1, x2⟩ := hX
  have d1 := (HI.out.keep hBW.out hlb).at (i * 7) 1 (by omega)
  have b1 : (0 : Int) ≤ (i : Int) := by omega
  have b2 : (i : Int) < (n : Int) := by omega
  have b3 : (i : Int) < (n : Int) + 1 := by omega
  refine (rbetw true _ _ _ _ HB1.out).mono ?_
  rintro e' w' ⟨rfl, rfl⟩
  go_wp2_with fail
  refine (rbetw true _ _ _ _ HB2.out).mono ?_
  rintro e' w2 ⟨rfl, rfl⟩
  go_wp2_with fail
  refine (HST.out _ hBW.out).mono ?_
  rintro e' w3 ⟨⟨v, rfl, hown⟩, hb3⟩
  have HB3 : Hid (Below w.heap.size w w3) := hBW.out.trans (hb3.mono hBW.out.size)
  clear hb3 x0 x1 x2 d1
  obtain ⟨g, cap, rfl⟩ := ownsRow_succ hown
  have d0 : w3.cell? ⟨g, i, none⟩ = some (.int .i64 (endS f i)) := by rw [World.ownsRow.cellAt hown i (by omega), irow_at _ (by omega)]
  clear hown
  go_wp2_with fail
  go_ret2
  exact ⟨rfl, HB3.out⟩

set_option maxRecDepth 8000 in
set_option maxHeartbeats 1600000 in
/-- Station of no place. -/
theorem rstation_no (a za la : Option Addr) (n c zn zc ln lc : Nat) (f : Nat → Int) (I : Int) (o : Int) (hl : 1 ≤ n ∧ n ≤ 70) (hv : ∀ i, i < n → itAt f i = 0) (hno : ∀ i : Nat, i < n → I = (i : Int) → ¬(0 ≤ o ∧ o < f (i * 7 + 1))) (w : World) (hS : Sl w 7 a n f) :
    Calls Tryd.prog 23 #[.agg #[.slice a n c, .slice za zn zc, .slice la ln lc], .int .i64 I, .int .i64 o] w fun e W' => e = .returned (.tuple #[.int .i64 0, .int .i64 1]) ∧ Below w.heap.size w W' := by
  have e1 : IntKind.i64.wrap ((n : Int) - 1) = (n : Int) - 1 := IntWalk.i64_in _ (by omega)
  obtain ⟨W, hW⟩ : ∃ W, W = w.alloc (.cells #[.slice a n c, .slice za zn zc, .slice la ln lc] 31) := ⟨_, rfl⟩
  have hBW : Hid (Below w.heap.size w W) := by rw [hW]; exact (Below.refl _ _).alloc (Nat.le_refl _) _
  have hX : W.cell? ⟨w.heap.size, 0, none⟩ = some (.slice a n c) ∧ W.cell? ⟨w.heap.size, 1, none⟩ = some (.slice za zn zc) ∧ W.cell? ⟨w.heap.size, 2, none⟩ = some (.slice la ln lc) := by
    rw [hW]; exact ⟨by go_simp, by go_simp, by go_simp⟩
  have HW := Lib.hid hW
  have HX := Lib.hid hX
  clear hW hX
  by_cases hi : 0 ≤ I ∧ I ≤ (n : Int) - 1
  · obtain ⟨i, rfl⟩ := Int.eq_ofNat_of_zero_le hi.1
    have hin : i < n := by omega
    have hstp : 0 ≤ endS f i ∧ endS f i ≤ 1174405120 ∧ 1 ≤ f (i * 7 + 1) ∧ f (i * 7 + 1) ≤ 16777216 := endS_step hl.2 hv hin
    have e2 : IntKind.i64.wrap (f (i * 7 + 1) - 1) = f (i * 7 + 1) - 1 := IntWalk.i64_in _ (by omega)
    have HB1 : Hid (true = decide (0 ≤ (i : Int) ∧ (i : Int) ≤ (n : Int) - 1)) := by show true = _; simp; omega
    have HB2 : Hid (false = decide (0 ≤ o ∧ o ≤ f (i * 7 + 1) - 1)) := by
      have := hno i hin rfl
      show false = _; symm; rw [decide_eq_false_iff_not]; omega
    obtain ⟨b, p, rfl, hI⟩ := hS (by omega)
    have hlb := hI.lt (by omega)
    have d1 := (hI.keep hBW.out hlb).at (i * 7) 1 (by omega)
    have b1 : (0 : Int) ≤ (i : Int) := by omega
    have b2 : (i : Int) < (n : Int) := by omega
    clear hS hv hI hno hi
    go_enter Tryd.func23, Tryd.ntmps23
    go_wp2_with fail
    rw [← HW.out]
    obtain ⟨x0, x1, x2⟩ := HX.out
    refine (rbetw true _ _ _ _ HB1.out).mono ?_
    rintro e' w' ⟨rfl, rfl⟩
    go_wp2_with fail
    refine (rbetw false _ _ _ _ HB2.out).mono ?_
    rintro e' w2 ⟨rfl, rfl⟩
    go_wp2_with fail
    go_ret2
    exact ⟨rfl, hBW.out⟩
  · have HB1 : Hid (false = decide (0 ≤ I ∧ I ≤ (n : Int) - 1)) := by show false = _; symm; rw [decide_eq_false_iff_not]; exact hi
    clear hS hv hno hi
    go_enter Tryd.func23, Tryd.ntmps23
    go_wp2_with fail
    rw [← HW.out]
    obtain ⟨x0, x1, x2⟩ := HX.out
    refine (rbetw false _ _ _ _ HB1.out).mono ?_
    rintro e' w' ⟨rfl, rfl⟩
    go_wp2_with fail
    go_ret2
    exact ⟨rfl, hBW.out⟩
end Go.Proofs.YtbpifllkimkokaaDoor
