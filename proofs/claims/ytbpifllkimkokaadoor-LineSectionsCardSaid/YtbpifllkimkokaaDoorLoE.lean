/-
  WALKS: a station of a line by a number; the index of Starts.
-/
import Derived.Test.YtbpifllkimkokaaDoorLoB
import Derived.Test.YtbpifllkimkokaaDoorLnU
namespace Go.Proofs.YtbpifllkimkokaaDoor
open Go.RowKit

set_option maxRecDepth 8000 in
set_option maxHeartbeats 3200000 in
/-- inside: the number's rest by the line's end. -/
theorem inside_of (w : World) (a za la : Option Addr) (n c nz zc nl lc : Nat) (f z m : Nat → Int) (v : Int) (hv : 0 ≤ v ∧ v ≤ 4294967295) (h : chk n nz nl f z m = 0) (hS : Sl w 7 a n f) (hZ : Sl w 3 za nz z) (hL : Sl w 2 la nl m) :
    Calls Tryd.prog 37 #[.agg #[.slice a n c, .slice za nz zc, .slice la nl lc], .int .u32 v] w fun e' w' => e' = .returned (.int .i64 (v % endS f n)) ∧ Below w.heap.size w w' := by
  have hok := chk_ok h
  have HV : Hid (∀ i, i < n → itAt f i = 0) := hok.2.2.2.1
  have hn : 1 ≤ n ∧ n ≤ 64 := hok.1
  have hE := endS_le (f := f) (n := n) HV.out
  have hE1 : 1 ≤ endS f n := by
    obtain ⟨k, rfl⟩ : ∃ k, n = k + 1 := ⟨n - 1, by omega⟩
    have := endS_step (f := f) (n := k + 1) (k := k) (by omega) HV.out (by omega)
    show 1 ≤ endS f k + f (k * 7 + 1)
    omega
  have q1 : ((n : Int) + 1 == 0) = false := by rw [beq_eq_false_iff_ne]; omega
  have q2 : decide (endS f n < 1) = false := by simp; omega
  have HST : Hid (∀ w', Below w.heap.size w w' → Calls Tryd.prog 14 #[.agg #[.slice a n c, .slice za nz zc, .slice la nl lc]] w' (StP 0 n f w')) := fun w' hb => by
    have := starts_of w' a za la n c nz zc nl lc f z m (hS.keep (by omega) hb) (hZ.keep (by omega) hb) (hL.keep (by omega) hb)
    rwa [h] at this
  clear hok h hS hZ hL
  go_enter Tryd.func37, Tryd.ntmps37
  go_wp2_with fail
  obtain ⟨W, hW⟩ : ∃ W, W = w.alloc (.cells #[.slice a n c, .slice za nz zc, .slice la nl lc] 26) := ⟨_, rfl⟩
  have hBW : Hid (Below w.heap.size w W) := by rw [hW]; exact (Below.refl _ _).alloc (Nat.le_refl _) _
  rw [← hW]
  clear hW
  refine (HST.out W hBW.out).mono ?_
  rintro e' w2 ⟨hb2, ⟨h0, _⟩ | ⟨_, v2, rfl, hown⟩⟩
  · exact absurd rfl h0
  have HB2 : Hid (Below w.heap.size w w2) := hBW.out.trans (hb2.mono hBW.out.size)
  obtain ⟨g, cap, rfl⟩ := ownsRow_succ hown
  have hc : w2.cell? ⟨g, n, none⟩ = some (.int .i64 (endS f n)) := by
    have := World.ownsRow.cellAt hown n (by omega)
    rw [this, irow_at _ (by omega)]
  clear hown hb2
  go_wp2_with fail
  go_ret
  exact ⟨rfl, HB2.out⟩
end Go.Proofs.YtbpifllkimkokaaDoor
