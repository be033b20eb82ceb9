/-
  WALKS: the examples that every statement of the layer ends with.
-/
import Derived.Test.YtonlamkpehakdaaPmK
namespace Go.Proofs.Ytonlamkpehakdaa
open Go.RowKit

/-- The bounds of the example; its welds and calls. -/
def exF (i : Nat) : Int := [0, 1, 10, 1, 0, -8, 1, 2, 5, 2, 1, 0].getD i 0
def exW (i : Nat) : Int := [0, 1000, 2000].getD i 0
def exC (i : Nat) : Int := [10, 1995, 2500].getD i 0
theorem exF_ok : BOk 3 4 exF := ⟨by decide, by decide⟩
theorem exF_clash : clash exF 4 3 < 0 := by decide +kernel
theorem ex_up : (ptU exF 4 3).mo 2 = 15 ∧ (ptU exF 4 3).kn 2 = true := by decide +kernel
theorem ex_down : (ptD exF 4 3).mo 2 = -8 ∧ (ptD exF 4 3).kn 2 = true := by decide +kernel
theorem ex_pb : pbChk 3 3 exW exC 300 200 100 = 0 := by decide +kernel
theorem ex_prc : prc 300 200 100 exW exC 3 3 = 515 := by decide +kernel
theorem ex_pairs : (bkP (prc 300 200 100 exW exC) 300 200 100 exW exC 6 3 3).length = 2 := by decide +kernel

set_option maxRecDepth 100000 in
set_option maxHeartbeats 8000000 in
theorem awake_of (w : World) : Calls Try.prog 16 #[] w fun e w' => e = .returned (.bool true) ∧ Below w.heap.size w w' := by
  go_enter Try.func16, Try.ntmps16
  go_wp2_with fail
  obtain ⟨w1, hw1⟩ : ∃ w1, w.alloc (.cells #[.int .i64 0, .int .i64 1, .int .i64 10, .int .i64 1, .int .i64 0, .int .i64 (-8), .int .i64 1, .int .i64 2, .int .i64 5, .int .i64 2, .int .i64 1, .int .i64 0] 98) = w1 := ⟨_, rfl⟩
  have hB1 : Below w.heap.size w w1 := by rw [← hw1]; exact (Below.refl _ w).alloc (Nat.le_refl _) _
  have hS1 : Sl w1 3 (some ⟨w.heap.size, 0, none⟩) 4 exF := fun _ => ⟨w.heap.size, 0, rfl, by
    have hb : Blk w1 w.heap.size 98 12 (fun i => .int .i64 (exF i)) := by rw [← hw1]; exact Blk.new w _ 12 (fun i => .int .i64 (exF i))
    exact hb.ints⟩
  rw [hw1]
  clear hw1
  refine (limits_ok w1 exF 3 4 4 (some ⟨w.heap.size, 0, none⟩) exF_ok hS1 exF_clash).mono ?_
  rintro e w2 ⟨B, rfl, hBl, hLm, hB2⟩
  have l0 := hLm.cell (k := 2 * 4) (by decide)
  have l1 := hLm.cell (k := 2 * 4 + 1) (by decide)
  have l2 := hLm.cell (k := 2 * 4 + 2) (by decide)
  have l3 := hLm.cell (k := 2 * 4 + 3) (by decide)
  rw [lmV_0, ex_down.1] at l0
  rw [lmV_1, ex_up.1] at l1
  rw [lmV_2, ex_down.2] at l2
  rw [lmV_3, ex_up.2] at l3
  have hlt := hLm.lt
  have HB2 := Lib.hid (hB1.trans (hB2.mono hB1.size))
  clear hB1 hS1 hB2 hLm hBl
  go_wp2_with fail
  obtain ⟨w3, hw3⟩ : ∃ w3, (w2.alloc (.cells #[.int .i64 0, .int .i64 1000, .int .i64 2000] 3)).alloc (.cells #[.int .i64 10, .int .i64 1995, .int .i64 2500] 3) = w3 := ⟨_, rfl⟩
  have hB3 : Below w2.heap.size w2 w3 := by rw [← hw3]; exact ((Below.refl _ _).alloc (Nat.le_refl _) _).alloc (by simp) _
  have hW : Sl w3 1 (some ⟨w2.heap.size, 0, none⟩) 3 exW := fun _ => ⟨w2.heap.size, 0, rfl, by
    have hb : Blk w3 w2.heap.size 3 3 (fun i => .int .i64 (exW i)) := by rw [← hw3]; exact (Blk.new w2 _ 3 (fun i => .int .i64 (exW i))).alloc _
    exact hb.ints⟩
  have hC : Sl w3 1 (some ⟨w2.heap.size + 1, 0, none⟩) 3 exC := fun _ => ⟨w2.heap.size + 1, 0, rfl, by
    have hb : Blk w3 (w2.heap.size + 1) 3 3 (fun i => .int .i64 (exC i)) := by
      rw [← hw3]
      have := Blk.new (w2.alloc (.cells #[.int .i64 0, .int .i64 1000, .int .i64 2000] 3)) 3 3 (fun i => .int .i64 (exC i))
      rw [World.size_alloc] at this
      exact this
    exact hb.ints⟩
  rw [hw3]
  clear hw3
  refine (align_ok w3 (some ⟨w2.heap.size, 0, none⟩) (some ⟨w2.heap.size + 1, 0, none⟩) 3 3 3 3 exW exC 300 200 100 hW hC (by unfold I64s; decide) (by unfold I64s; decide) ex_pb).mono ?_
  rintro e w4 ⟨v, rfl, hO, hB4⟩
  rw [ex_prc]
  have hlen : (bkP (prc 300 200 100 exW exC) 300 200 100 exW exC (3 + 3) 3 3).length = 2 := ex_pairs
  rw [hlen] at hO
  obtain ⟨g', cap', rfl⟩ := ownsRow_succ hO
  have hB34 := hB3.trans (hB4.mono hB3.size)
  have m0 : w4.cell? ⟨B, 8, none⟩ = some (.int .i64 8) := (hB34.cell (p := ⟨B, 8, none⟩) hlt).trans l0
  have m1 : w4.cell? ⟨B, 9, none⟩ = some (.int .i64 15) := (hB34.cell (p := ⟨B, 9, none⟩) hlt).trans l1
  have m2 : w4.cell? ⟨B, 10, none⟩ = some (.bool true) := (hB34.cell (p := ⟨B, 10, none⟩) hlt).trans l2
  have m3 : w4.cell? ⟨B, 11, none⟩ = some (.bool true) := (hB34.cell (p := ⟨B, 11, none⟩) hlt).trans l3
  have HBf := Lib.hid (HB2.out.trans (hB34.mono HB2.out.size))
  clear hO hB34 hB3 hB4 hW hC l0 l1 l2 l3 hlt HB2
  go_wp2_with fail
  go_ret
  exact ⟨rfl, HBf.out⟩
end Go.Proofs.Ytonlamkpehakdaa
