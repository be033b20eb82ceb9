/-
  WALKS: Nearest of a line without an error; LineThere.
-/
import Derived.Test.YtdibljidagiblaaDoorLoD
import Derived.Test.YtdibljidagiblaaDoorLoB
import Derived.Test.YtdibljidagiblaaDoorShelf
import Derived.Test.YtdibljidagiblaaDoorLnA
import Derived.Test.YtdibljidagiblaaDoorLnP
import Derived.Test.YtdibljidagiblaaDoorLnGK
import Derived.Test.YtdibljidagiblaaDoorLnM
namespace Go.Proofs.YtdibljidagiblaaDoor.Ln
open Go.RowKit

/-- Nearest on a line of two items or more. -/
theorem nearest_of (w : World) (a za la : Option Addr) (n c nz zc nl lc : Nat) (f z m : Nat → Int) (st : Int) (hst : 0 ≤ st ∧ st < endS f n) (h2 : 2 ≤ n) (h : chk n nz nl f z m = 0) (hS : Sl w 7 a n f) (hZ : Sl w 3 za nz z) (hL : Sl w 2 la nl m) :
    Calls Tryd.prog 22 #[.agg #[.slice a n c, .slice za nz zc, .slice la nl lc], .int .i64 st] w fun e' w' => (∃ k : Nat, 1 ≤ k ∧ k < n ∧ Near f st n k ∧
      e' = .returned (.tuple #[.int .i64 k, .int .i64 (st - endS f k), .int .i64 0])) ∧ Below w.heap.size w w' := by
  have hok := chk_ok h
  exact (callsIn_wide (n := 3)).1 (nearest_in 3 (Nat.le_refl _) a za la n c nz zc nl lc f st (by omega) hok.2.2.2.1 hst h2 w hS fun w' hb =>
    checkStation_of w' a za la n c nz zc nl lc f z m st hst h (hS.keep (by omega) hb) (hZ.keep (by omega) hb) (hL.keep (by omega) hb))

set_option maxRecDepth 8000 in
set_option maxHeartbeats 3200000 in
/-- Nearest on a line of one item. -/
theorem nearest1_of (w : World) (a za la : Option Addr) (c nz zc nl lc : Nat) (f z m : Nat → Int) (st : Int) (hst : 0 ≤ st ∧ st < endS f 1) (h : chk 1 nz nl f z m = 0) (hS : Sl w 7 a 1 f) (hZ : Sl w 3 za nz z) (hL : Sl w 2 la nl m) :
    Calls Tryd.prog 22 #[.agg #[.slice a 1 c, .slice za nz zc, .slice la nl lc], .int .i64 st] w fun e' w' => e' = .returned (.tuple #[.int .i64 0, .int .i64 0, .int .i64 5]) ∧ Below w.heap.size w w' := by
  have HCS : Hid (∀ w', Below w.heap.size w w' → Calls Tryd.prog 55 #[.agg #[.slice a 1 c, .slice za nz zc, .slice la nl lc], .int .i64 st] w' fun e' w2 => e' = .returned (.int .i64 0) ∧ Below w'.heap.size w' w2) :=
    fun w' hb => checkStation_of w' a za la 1 c nz zc nl lc f z m st hst h (hS.keep (by omega) hb) (hZ.keep (by omega) hb) (hL.keep (by omega) hb)
  clear h hS hZ hL hst
  go_enter Tryd.func22, Tryd.ntmps22
  go_wp2_with fail
  obtain ⟨W, hW⟩ : ∃ W, W = (((w.alloc (.cells #[.slice a 1 c, .slice za nz zc, .slice la nl lc] 55)).alloc (.cells #[.int .i64 st] 3)).alloc (.cells #[.int .i64 0] 3)).alloc (.cells #[.int .i64 0] 3) := ⟨_, rfl⟩
  have hBW : Hid (Below w.heap.size w W) := by rw [hW]; exact ((((Below.refl _ w).alloc (Nat.le_refl _) _).alloc (by simp) _).alloc (by simp; omega) _).alloc (by simp; omega) _
  have hsz : W.heap.size = w.heap.size + 4 := by rw [hW]; simp
  have HX : Hid (W.cell? ⟨w.heap.size, 0, none⟩ = some (.slice a 1 c) ∧ W.cell? ⟨w.heap.size, 1, none⟩ = some (.slice za nz zc) ∧ W.cell? ⟨w.heap.size, 2, none⟩ = some (.slice la nl lc)) := by
    rw [hW]; exact ⟨by go_simp, by go_simp, by go_simp⟩
  have HY : Hid (Boxed W (w.heap.size + 1 + 1) 3 (.int .i64 0) ∧ Boxed W (w.heap.size + 1 + 1 + 1) 3 (.int .i64 0)) := by
    have q2 := (Boxed.new ((w.alloc (.cells #[.slice a 1 c, .slice za nz zc, .slice la nl lc] 55)).alloc (.cells #[.int .i64 st] 3)) 3 (.int .i64 0)).alloc (.cells #[.int .i64 0] 3)
    have q3 := Boxed.new (((w.alloc (.cells #[.slice a 1 c, .slice za nz zc, .slice la nl lc] 55)).alloc (.cells #[.int .i64 st] 3)).alloc (.cells #[.int .i64 0] 3)) 3 (.int .i64 0)
    simp only [World.size_alloc] at q2 q3
    rw [hW]; exact ⟨q2, q3⟩
  rw [← hW]
  clear hW
  refine (HCS.out W hBW.out).mono ?_
  rintro e' w2 ⟨rfl, hb2⟩
  have HB2 : Hid (Below w.heap.size w w2) := hBW.out.trans (hb2.mono hBW.out.size)
  obtain ⟨x0, x1, x2⟩ := three_keep HX.out hb2
  have b2 : Boxed w2 (w.heap.size + 1 + 1) 3 (.int .i64 0) := (hb2.block _ HY.out.1.lt).trans HY.out.1
  have b3 : Boxed w2 (w.heap.size + 1 + 1 + 1) 3 (.int .i64 0) := (hb2.block _ HY.out.2.lt).trans HY.out.2
  have cA := b2.cell
  have cB := b3.cell
  have fA := b2.frozen
  have fB := b3.frozen
  clear hb2
  go_wp2_with fail
  have q := two_set (.int .i64 0) (.int .i64 0) b2 b3 (by omega)
  have hc4 := q.1.cell
  have hc5 := q.2.cell
  have hB2 := (HB2.out.setCell (p := ⟨w.heap.size + 1 + 1, 0, none⟩) (show w.heap.size ≤ w.heap.size + 1 + 1 by omega) (.int .i64 0)).setCell (p := ⟨w.heap.size + 1 + 1 + 1, 0, none⟩) (show w.heap.size ≤ w.heap.size + 1 + 1 + 1 by omega) (.int .i64 0)
  refine bodyPost_ret (v := .tuple #[.int .i64 0, .int .i64 0, .int .i64 5]) ?_ rfl ⟨rfl, hB2⟩
  simp [results, Tryd.f22, go_sem, hc4, hc5]
end Go.Proofs.YtdibljidagiblaaDoor.Ln
