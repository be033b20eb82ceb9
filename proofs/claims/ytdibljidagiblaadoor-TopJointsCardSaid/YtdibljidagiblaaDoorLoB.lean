/-
  WALKS: the error of a station; At.
-/
import Derived.Test.YtdibljidagiblaaDoorLoA
import Derived.OwnWalk
namespace Go.Proofs.YtdibljidagiblaaDoor.Ln
open Go.RowKit Go.Shelf

set_option maxRecDepth 8000 in
set_option maxHeartbeats 3200000 in
/-- A line without an error, a station of it. -/
theorem checkStation_of (w : World) (a za la : Option Addr) (n c nz zc nl lc : Nat) (f z m : Nat → Int) (st : Int) (hst : 0 ≤ st ∧ st < endS f n) (h : chk n nz nl f z m = 0) (hS : Sl w 7 a n f) (hZ : Sl w 3 za nz z) (hL : Sl w 2 la nl m) :
    Calls Tryd.prog 55 #[.agg #[.slice a n c, .slice za nz zc, .slice la nl lc], .int .i64 st] w fun e' w' => e' = .returned (.int .i64 0) ∧ Below w.heap.size w w' := by
  have HCK : Hid (∀ w', Below w.heap.size w w' → Calls Tryd.prog 92 #[.agg #[.slice a n c, .slice za nz zc, .slice la nl lc]] w' fun e' w2 => e' = .returned (.int .i64 0) ∧ Below w'.heap.size w' w2) :=
    fun w' hb => by
      have := check_of w' a za la n c nz zc nl lc f z m (hS.keep (by omega) hb) (hZ.keep (by omega) hb) (hL.keep (by omega) hb)
      rwa [h] at this
  have hok := chk_ok h
  have HV : Hid (∀ i, i < n → itAt f i = 0) := hok.2.2.2.1
  have hn : n ≤ 64 := hok.1.2
  have HEN : Hid (∀ W', Below w.heap.size w W' → Calls Tryd.prog 94 #[.agg #[.slice a n c, .slice za nz zc, .slice la nl lc]] W' fun e W3 => e = .returned (.int .i64 (endS f n)) ∧ Below W'.heap.size W' W3) :=
    fun W' hb => endOf_of a za la n c nz zc nl lc f (by omega) HV.out W' (hS.keep (by omega) hb)
  have hE := endS_le (f := f) (n := n) HV.out
  have hw1 : IntKind.i64.wrap (endS f n - 1) = endS f n - 1 := IntWalk.i64_in _ (by omega)
  have HBT : Hid (true = decide (0 ≤ st ∧ st ≤ endS f n - 1)) := by show true = _; simp; omega
  clear hok h hS hZ hL
  go_enter Tryd.func55, Tryd.ntmps55
  go_wp2_with fail
  obtain ⟨W, hW⟩ : ∃ W, W = w.alloc (.cells #[.slice a n c, .slice za nz zc, .slice la nl lc] 55) := ⟨_, rfl⟩
  have hBW : Hid (Below w.heap.size w W) := by rw [hW]; exact (Below.refl _ _).alloc (Nat.le_refl _) _
  have hsz : W.heap.size = w.heap.size + 1 := by rw [hW]; simp
  have HX : Hid (W.cell? ⟨w.heap.size, 0, none⟩ = some (.slice a n c) ∧ W.cell? ⟨w.heap.size, 1, none⟩ = some (.slice za nz zc) ∧ W.cell? ⟨w.heap.size, 2, none⟩ = some (.slice la nl lc)) := by
    rw [hW]; exact ⟨by go_simp, by go_simp, by go_simp⟩
  rw [← hW]
  clear hW
  refine (HCK.out W hBW.out).mono ?_
  rintro e' w2 ⟨rfl, hb2⟩
  have HB2 : Hid (Below w.heap.size w w2) := hBW.out.trans (hb2.mono hBW.out.size)
  obtain ⟨x0, x1, x2⟩ := three_keep HX.out hb2
  clear hb2
  go_wp2_with fail
  refine (HEN.out w2 HB2.out).mono ?_
  rintro e' w3 ⟨rfl, hb3⟩
  have HB3 : Hid (Below w.heap.size w w3) := HB2.out.trans (hb3.mono HB2.out.size)
  clear hb3 x0 x1 x2
  go_wp2_with (go_at_call 95; refine (betw true _ _ _ _ HBT.out).mono ?_; rintro e' w' ⟨rfl, rfl⟩)
  go_ret
  exact ⟨rfl, HB3.out⟩

set_option maxRecDepth 8000 in
set_option maxHeartbeats 3200000 in
/-- At: the item at a station of a line without an error. -/
theorem at_of (w : World) (a za la : Option Addr) (n c nz zc nl lc : Nat) (f z m : Nat → Int) (st : Int) (hst : 0 ≤ st ∧ st < endS f n) (h : chk n nz nl f z m = 0) (hS : Sl w 7 a n f) (hZ : Sl w 3 za nz z) (hL : Sl w 2 la nl m) :
    Calls Tryd.prog 20 #[.agg #[.slice a n c, .slice za nz zc, .slice la nl lc], .int .i64 st] w fun e' w' => (∃ i : Nat, i < n ∧ endS f i ≤ st ∧ st < endS f (i + 1) ∧ e' = .returned (.tuple #[.int .i64 i, .int .i64 (st - endS f i), .int .i64 0])) ∧ Below w.heap.size w w' := by
  have hok := chk_ok h
  have HV : Hid (∀ i, i < n → itAt f i = 0) := hok.2.2.2.1
  have hn : n ≤ 64 := hok.1.2
  have HCS : Hid (∀ w', Below w.heap.size w w' → Calls Tryd.prog 55 #[.agg #[.slice a n c, .slice za nz zc, .slice la nl lc], .int .i64 st] w' fun e' w2 => e' = .returned (.int .i64 0) ∧ Below w'.heap.size w' w2) :=
    fun w' hb => checkStation_of w' a za la n c nz zc nl lc f z m st hst h (hS.keep (by omega) hb) (hZ.keep (by omega) hb) (hL.keep (by omega) hb)
  have HIA : Hid (∀ w', Below w.heap.size w w' → Calls Tryd.prog 56 #[.agg #[.slice a n c, .slice za nz zc, .slice la nl lc], .int .i64 st] w' fun e W' => (∃ i : Nat, i < n ∧ endS f i ≤ st ∧ st < endS f (i + 1) ∧ e = .returned (.tuple #[.int .i64 i, .int .i64 (st - endS f i)])) ∧ Below w'.heap.size w' W') :=
    fun w' hb => itemAt_of a za la n c nz zc nl lc f st (by omega) HV.out hst w' (hS.keep (by omega) hb)
  clear hok h hS hZ hL
  go_enter Tryd.func20, Tryd.ntmps20
  go_wp2_with fail
  obtain ⟨W, hW⟩ : ∃ W, W = w.alloc (.cells #[.slice a n c, .slice za nz zc, .slice la nl lc] 55) := ⟨_, rfl⟩
  have hBW : Hid (Below w.heap.size w W) := by rw [hW]; exact (Below.refl _ _).alloc (Nat.le_refl _) _
  have hsz : W.heap.size = w.heap.size + 1 := by rw [hW]; simp
  have HX : Hid (W.cell? ⟨w.heap.size, 0, none⟩ = some (.slice a n c) ∧ W.cell? ⟨w.heap.size, 1, none⟩ = some (.slice za nz zc) ∧ W.cell? ⟨w.heap.size, 2, none⟩ = some (.slice la nl lc)) := by
    rw [hW]; exact ⟨by go_simp, by go_simp, by go_simp⟩
  rw [← hW]
  clear hW
  refine (HCS.out W hBW.out).mono ?_
  rintro e' w2 ⟨rfl, hb2⟩
  have HB2 : Hid (Below w.heap.size w w2) := hBW.out.trans (hb2.mono hBW.out.size)
  obtain ⟨x0, x1, x2⟩ := three_keep HX.out hb2
  clear hb2
  go_wp2_with fail
  refine (HIA.out w2 HB2.out).mono ?_
  rintro e' w3 ⟨⟨i, hi, hi1, hi2, rfl⟩, hb3⟩
  have HB3 : Hid (Below w.heap.size w w3) := HB2.out.trans (hb3.mono HB2.out.size)
  clear hb3 x0 x1 x2
  go_wp2_with fail
  go_ret3
  exact ⟨⟨i, hi, hi1, hi2, rfl⟩, HB3.out⟩
end Go.Proofs.YtdibljidagiblaaDoor.Ln
