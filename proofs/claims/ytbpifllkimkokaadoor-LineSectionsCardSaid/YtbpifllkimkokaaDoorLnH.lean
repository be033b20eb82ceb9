/-
  WALKS: the end and the error of a line, by the reference.
-/
import Derived.Test.YtbpifllkimkokaaDoorLnG
import Derived.Deep.RegionHeld3
namespace Go.Proofs.YtbpifllkimkokaaDoor
open Go.RowKit

set_option maxRecDepth 8000 in
set_option maxHeartbeats 1600000 in
theorem rend_of (a za la : Option Addr) (n c zn zc ln lc : Nat) (f : Nat → Int) (hl : n ≤ 70) (hv : ∀ i, i < n → itAt f i = 0) (w : World) (hS : Sl w 7 a n f) :
    Calls Tryd.prog 65 #[.agg #[.slice a n c, .slice za zn zc, .slice la ln lc]] w fun e W' => e = .returned (.int .i64 (endS f n)) ∧ Below w.heap.size w W' := by
  have HS := Lib.hid hS
  have HV := Lib.hid hv
  clear hS hv
  go_enter Tryd.func65, Tryd.ntmps65
  go_wp2
  obtain ⟨W, hW⟩ : ∃ W, W = w.alloc (.cells #[.slice a n c, .slice za zn zc, .slice la ln lc] 31) := ⟨_, rfl⟩
  have hBW : Hid (Below w.heap.size w W) := by rw [hW]; exact (Below.refl _ _).alloc (Nat.le_refl _) _
  have x0 : W.cell? ⟨w.heap.size, 0, none⟩ = some (.slice a n c) := by rw [hW]; go_simp
  rw [← hW]
  clear hW
  go_loopw [3, 4] (fun vs vi wr => ∃ i : Nat, i ≤ n ∧ vi = .int .i64 i ∧ vs = .int .i64 (endS f i) ∧ wr = W) (fun _ vi _ => n - (intOf vi).toNat)
  case atStart => exact ⟨0, by omega, rfl, rfl, rfl⟩
  case round =>
    obtain ⟨i, hi, rfl, rfl, rfl⟩ := hrel
    by_cases hlt : i < n
    · obtain ⟨b, o, rfl, hI⟩ := HS.out (by omega)
      have hI2 := hI.keep hBW.out (hI.lt (by omega))
      have d1 := hI2.at (i * 7) 1 (by omega)
      have hst : 0 ≤ endS f i ∧ endS f i ≤ 1174405120 ∧ 1 ≤ f (i * 7 + 1) ∧ f (i * 7 + 1) ≤ 16777216 := endS_step hl HV.out hlt
      clear hI hI2
      go_wp2
      exact ⟨⟨i + 1, by omega, by go_num, rfl, trivial⟩, by simp [intOf]; omega⟩
    · obtain rfl : i = n := by omega
      go_wp2
      go_ret
      exact ⟨rfl, hBW.out⟩
end Go.Proofs.YtbpifllkimkokaaDoor
