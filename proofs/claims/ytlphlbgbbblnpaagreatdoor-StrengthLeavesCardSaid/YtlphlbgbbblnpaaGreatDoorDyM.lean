/-
  WALKS: the texts of 300 and of 700.
-/
import Derived.Test.YtlphlbgbbblnpaaGreatDoorDyK
import Derived.BigRegion
import Derived.Deep.RegionHeld3
import Derived.Deep.DeepCutAuto
namespace Go.Proofs.YtlphlbgbbblnpaaGreatDoor.Dy
open Go.RowKit

/-- The table of the powers of ten: what the texts below look at. -/
def Pow (w : World) : Prop := w.cell? ⟨3, 2, none⟩ = some (.int .u64 100) ∧ w.cell? ⟨3, 3, none⟩ = some (.int .u64 1000)
theorem Pow.keep {w w' : World} (h : Pow w) (hb : Below w.heap.size w w') : Pow w' :=
  ⟨(hb.cell (World.block_lt_of_cell? w _ h.1)).trans h.1, (hb.cell (World.block_lt_of_cell? w _ h.2)).trans h.2⟩
theorem len_300 (w : World) : Calls Tryz.prog 205 #[.int .u64 300] w fun e w' => e = .returned (.int .i64 9) ∧ w' = w := by
  go_enter Tryz.func205, Tryz.ntmps205
  go_wp2
  go_ret
  refine ⟨?_, rfl⟩
  show Ending.returned (Value.int .i64 (wrap64 (8 + wrap64 (Lib.len8 1)))) = _
  rw [show wrap64 (8 + wrap64 (Lib.len8 1)) = 9 by decide +kernel]
theorem len_700 (w : World) : Calls Tryz.prog 205 #[.int .u64 700] w fun e w' => e = .returned (.int .i64 10) ∧ w' = w := by
  go_enter Tryz.func205, Tryz.ntmps205
  go_wp2
  go_ret
  refine ⟨?_, rfl⟩
  show Ending.returned (Value.int .i64 (wrap64 (8 + wrap64 (Lib.len8 2)))) = _
  rw [show wrap64 (8 + wrap64 (Lib.len8 2)) = 10 by decide +kernel]
theorem log_9 (w : World) : Calls Tryz.prog 206 #[.int .i64 9] w fun e w' => e = .returned (.int .i64 2) ∧ w' = w := by
  go_enter Tryz.func206, Tryz.ntmps206
  go_wp2
  go_ret
  exact ⟨rfl, rfl⟩
theorem log_10 (w : World) : Calls Tryz.prog 206 #[.int .i64 10] w fun e w' => e = .returned (.int .i64 3) ∧ w' = w := by
  go_enter Tryz.func206, Tryz.ntmps206
  go_wp2
  go_ret
  exact ⟨rfl, rfl⟩
theorem bool2_of (w : World) (b : Bool) : Calls Tryz.prog 207 #[.bool b] w fun e w' => e = .returned (.int .i64 (if b then 1 else 0)) ∧ w' = w := by
  go_enter Tryz.func207, Tryz.ntmps207
  cases b
  · go_wp2
    go_ret
    exact ⟨rfl, rfl⟩
  · go_wp2
    go_ret
    exact ⟨rfl, rfl⟩
theorem digits_300 (w : World) (hP : Pow w) : Calls Tryz.prog 196 #[.int .u64 300] w fun e w' => e = .returned (.int .i64 3) ∧ w' = w := by
  have h2 := hP.1
  go_enter Tryz.func196, Tryz.ntmps196
  go_wp2_with fail
  refine (len_300 w).mono ?_
  rintro e w' ⟨rfl, rfl⟩
  go_wp2_with fail
  refine (log_9 _).mono ?_
  rintro e w' ⟨rfl, rfl⟩
  go_wp2_with fail
  refine (bool2_of _ _).mono ?_
  rintro e w' ⟨rfl, rfl⟩
  go_wp2_with fail
  go_ret
  exact ⟨rfl, rfl⟩
theorem digits_700 (w : World) (hP : Pow w) : Calls Tryz.prog 196 #[.int .u64 700] w fun e w' => e = .returned (.int .i64 3) ∧ w' = w := by
  have h2 := hP.2
  go_enter Tryz.func196, Tryz.ntmps196
  go_wp2_with fail
  refine (len_700 w).mono ?_
  rintro e w' ⟨rfl, rfl⟩
  go_wp2_with fail
  refine (log_10 _).mono ?_
  rintro e w' ⟨rfl, rfl⟩
  go_wp2_with fail
  refine (bool2_of _ _).mono ?_
  rintro e w' ⟨rfl, rfl⟩
  go_wp2_with fail
  go_ret
  exact ⟨rfl, rfl⟩
set_option maxRecDepth 100000 in
set_option maxHeartbeats 8000000 in
theorem base10_300 (w : World) (g B : Nat) (a0 a1 a2 : Value) (h0 : w.cell? ⟨g, 0, none⟩ = some a0) (h1 : w.cell? ⟨g, 1, none⟩ = some a1) (h2 : w.cell? ⟨g, 2, none⟩ = some a2) (hf : ∀ o, w.frozen? ⟨g, o, none⟩ = false) (c : Nat) (hB : B ≤ g) :
    Calls Tryz.prog 197 #[.slice (some ⟨g, 0, none⟩) 3 c, .int .u64 300] w fun e w' => e = .returned (.tuple #[]) ∧ w'.cell? ⟨g, 0, none⟩ = some (.int .u8 51) ∧ w'.cell? ⟨g, 1, none⟩ = some (.int .u8 48) ∧ w'.cell? ⟨g, 2, none⟩ = some (.int .u8 48) ∧ Below B w w' := by
  go_enter Tryz.func197, Tryz.ntmps197
  go_wp2_with fail
  refine wp_loop_rounds 1 ?_
  rw [rounds_succ]
  have f0 := hf 0
  have f1 := hf 1
  have f2 := hf 2
  go_upto_region 23 with fail
  go_region
  all_goals
    generalize hW : World.drew _ = W
    have c1 : W.cell? ⟨g, 1, none⟩ = some (.int .u8 48) := by
      rw [← hW]
      first
        | exact (World.cell?_setCell_same _ _ _ ((World.cell?_setCell_other _ _ _ _ (by simp)).trans h1)).trans (by kernel_rfl)
        | exact (World.cell?_setCell_other _ _ _ _ (by simp)).trans ((World.cell?_setCell_same _ _ _ h1).trans (by kernel_rfl))
    have c2 : W.cell? ⟨g, 2, none⟩ = some (.int .u8 48) := by
      rw [← hW]
      first
        | exact (World.cell?_setCell_same _ _ _ ((World.cell?_setCell_other _ _ _ _ (by simp)).trans h2)).trans (by kernel_rfl)
        | exact (World.cell?_setCell_other _ _ _ _ (by simp)).trans ((World.cell?_setCell_same _ _ _ h2).trans (by kernel_rfl))
    have c0 : W.cell? ⟨g, 0, none⟩ = some a0 := by
      rw [← hW]
      exact (World.cell?_setCell_other _ _ _ _ (by simp)).trans ((World.cell?_setCell_other _ _ _ _ (by simp)).trans h0)
    have g0 : W.frozen? ⟨g, 0, none⟩ = false := by
      rw [← hW]
      have := hf 0
      simpa using this
    have HB : Hid (Below B w W) := by
      rw [← hW]
      exact (((Below.refl _ _).setCell hB _).setCell hB _).drew
    clear hW h0 h1 h2 f0 f1 f2 hf
    go_wp2_with fail
    refine bodyPost_end (results_none rfl _ _ _) rfl ⟨rfl, ?_, ?_, ?_, ?_⟩
    · exact (World.cell?_setCell_same _ _ _ c0).trans (by kernel_rfl)
    · exact (World.cell?_setCell_other _ _ _ _ (by simp)).trans c1
    · exact (World.cell?_setCell_other _ _ _ _ (by simp)).trans c2
    · exact HB.out.setCell hB _
set_option maxRecDepth 100000 in
set_option maxHeartbeats 8000000 in
theorem base10_700 (w : World) (g B : Nat) (a0 a1 a2 : Value) (h0 : w.cell? ⟨g, 0, none⟩ = some a0) (h1 : w.cell? ⟨g, 1, none⟩ = some a1) (h2 : w.cell? ⟨g, 2, none⟩ = some a2) (hf : ∀ o, w.frozen? ⟨g, o, none⟩ = false) (c : Nat) (hB : B ≤ g) :
    Calls Tryz.prog 197 #[.slice (some ⟨g, 0, none⟩) 3 c, .int .u64 700] w fun e w' => e = .returned (.tuple #[]) ∧ w'.cell? ⟨g, 0, none⟩ = some (.int .u8 55) ∧ w'.cell? ⟨g, 1, none⟩ = some (.int .u8 48) ∧ w'.cell? ⟨g, 2, none⟩ = some (.int .u8 48) ∧ Below B w w' := by
  go_enter Tryz.func197, Tryz.ntmps197
  go_wp2_with fail
  refine wp_loop_rounds 1 ?_
  rw [rounds_succ]
  have f0 := hf 0
  have f1 := hf 1
  have f2 := hf 2
  go_upto_region 23 with fail
  go_region
  all_goals
    generalize hW : World.drew _ = W
    have c1 : W.cell? ⟨g, 1, none⟩ = some (.int .u8 48) := by
      rw [← hW]
      first
        | exact (World.cell?_setCell_same _ _ _ ((World.cell?_setCell_other _ _ _ _ (by simp)).trans h1)).trans (by kernel_rfl)
        | exact (World.cell?_setCell_other _ _ _ _ (by simp)).trans ((World.cell?_setCell_same _ _ _ h1).trans (by kernel_rfl))
    have c2 : W.cell? ⟨g, 2, none⟩ = some (.int .u8 48) := by
      rw [← hW]
      first
        | exact (World.cell?_setCell_same _ _ _ ((World.cell?_setCell_other _ _ _ _ (by simp)).trans h2)).trans (by kernel_rfl)
        | exact (World.cell?_setCell_other _ _ _ _ (by simp)).trans ((World.cell?_setCell_same _ _ _ h2).trans (by kernel_rfl))
    have c0 : W.cell? ⟨g, 0, none⟩ = some a0 := by
      rw [← hW]
      exact (World.cell?_setCell_other _ _ _ _ (by simp)).trans ((World.cell?_setCell_other _ _ _ _ (by simp)).trans h0)
    have g0 : W.frozen? ⟨g, 0, none⟩ = false := by
      rw [← hW]
      have := hf 0
      simpa using this
    have HB : Hid (Below B w W) := by
      rw [← hW]
      exact (((Below.refl _ _).setCell hB _).setCell hB _).drew
    clear hW h0 h1 h2 f0 f1 f2 hf
    go_wp2_with fail
    refine bodyPost_end (results_none rfl _ _ _) rfl ⟨rfl, ?_, ?_, ?_, ?_⟩
    · exact (World.cell?_setCell_same _ _ _ c0).trans (by kernel_rfl)
    · exact (World.cell?_setCell_other _ _ _ _ (by simp)).trans c1
    · exact (World.cell?_setCell_other _ _ _ _ (by simp)).trans c2
    · exact HB.out.setCell hB _
end Go.Proofs.YtlphlbgbbblnpaaGreatDoor.Dy
