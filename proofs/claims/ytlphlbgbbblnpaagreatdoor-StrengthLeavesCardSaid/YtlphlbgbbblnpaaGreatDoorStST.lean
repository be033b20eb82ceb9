/-
  WALKS AND WORDS: StS StT of my texts, one behind the other.
-/
import Derived.Test.YtlphlbgbbblnpaaGreatDoorStCE
import Derived.BigQuiet
import Derived.Test.YtlphlbgbbblnpaaGreatDoorStPR
-- StS: WALKS: strength: the checks of a pipe, of a profile of one step, of its loss: for the example of chapter 9.
namespace Go.Proofs.YtlphlbgbbblnpaaGreatDoor
open Go.RowKit

def pipV : Value := .agg #[.int .i64 1000, .int .i64 10000, .int .i64 400000]
set_option maxRecDepth 100000 in
set_option maxHeartbeats 4000000 in
theorem spipe_of (w : World) : Calls Tryz.prog 124 #[.agg #[.int .i64 1000, .int .i64 10000, .int .i64 400000]] w fun e w' => e = .returned (.int .i64 0) ∧ Below w.heap.size w w' := by
  have HI : Hid (∀ w x lo hi, (lo ≤ x ∧ x ≤ hi) → Calls Tryz.prog 51 #[.int .i64 x, .int .i64 lo, .int .i64 hi] w fun e w' => e = .returned (.bool true) ∧ w' = w) := fun w x lo hi h => swithin_of true w x lo hi (by symm; rw [decide_eq_true_iff]; exact h)
  have hB := (Below.refl w.heap.size w).alloc (Nat.le_refl _) (.cells #[.int .i64 1000, .int .i64 10000, .int .i64 400000] 114)
  go_enter Tryz.func124, Tryz.ntmps124
  go_wp2_with (go_at_call 51; refine (HI.out _ _ _ _ (by decide)).mono ?_; rintro e w9 ⟨rfl, hw9⟩; subst w9)
  go_ret
  exact ⟨rfl, hB⟩
set_option maxRecDepth 100000 in
set_option maxHeartbeats 4000000 in
theorem splace_of (w : World) (x : Int) (h : 0 ≤ x ∧ x ≤ 2147483648) : Calls Tryz.prog 162 #[.int .i64 x] w fun e w' => e = .returned (.bool true) ∧ w' = w := by
  go_enter Tryz.func162, Tryz.ntmps162
  go_wp2_with (go_at_call 51; refine (swithin_of true _ _ _ _ (by symm; rw [decide_eq_true_iff]; exact h)).mono ?_; rintro e w9 ⟨rfl, hw9⟩; subst w9)
  go_ret
  exact ⟨rfl, rfl⟩
set_option maxRecDepth 100000 in
set_option maxHeartbeats 4000000 in
theorem sextent_of (w : World) (b c : Nat) (h0 : w.cell? ⟨b, 0, none⟩ = some (.int .i64 0)) (h1 : w.cell? ⟨b, 1, none⟩ = some (.int .i64 100)) :
    Calls Tryz.prog 128 #[.slice (some ⟨b, 0, none⟩) 1 c] w fun e w' => e = .returned (.int .i64 100) ∧ Below w.heap.size w w' := by
  go_enter Tryz.func128, Tryz.ntmps128
  go_upto_region 1 with fail
  go_quiet (fail)
  go_wp2_with fail
  exact bodyPost_ret (v := .int .i64 100) (by simp [results, Tryz.f128, go_sem]) rfl ⟨rfl, (fun (hb : Below w.heap.size w w) => ⟨hb.os, hb.tape, hb.output, hb.size, hb.block⟩) (Below.refl _ _)⟩
set_option maxRecDepth 100000 in
set_option maxHeartbeats 4000000 in
theorem sprof_of (w : World) (b c : Nat) (h0 : w.cell? ⟨b, 0, none⟩ = some (.int .i64 0)) (h1 : w.cell? ⟨b, 1, none⟩ = some (.int .i64 100)) (h2 : w.cell? ⟨b, 2, none⟩ = some (.int .i64 0)) :
    Calls Tryz.prog 125 #[.slice (some ⟨b, 0, none⟩) 1 c] w fun e w' => e = .returned (.int .i64 0) ∧ Below w.heap.size w w' := by
  have HI : Hid (∀ w x lo hi, (lo ≤ x ∧ x ≤ hi) → Calls Tryz.prog 51 #[.int .i64 x, .int .i64 lo, .int .i64 hi] w fun e w' => e = .returned (.bool true) ∧ w' = w) := fun w x lo hi h => swithin_of true w x lo hi (by symm; rw [decide_eq_true_iff]; exact h)
  have H0 := Lib.hid h0
  have H1 := Lib.hid h1
  have H2 := Lib.hid h2
  have hlt := World.block_lt_of_cell? w _ h0
  have HL := Lib.hid hlt
  clear h0 h1 h2 hlt
  go_enter Tryz.func125, Tryz.ntmps125
  go_wp2_with (go_at_call 51; refine (HI.out _ _ _ _ (by decide)).mono ?_; rintro e w9 ⟨rfl, hw9⟩; subst w9)
  go_loopw [11] (fun vi wr => ∃ i : Nat, i ≤ 1 ∧ vi = .int .i64 i ∧ Hid (Below w.heap.size w wr)) (fun vi _ => 1 - (intOf vi).toNat)
  case atStart => exact ⟨0, by omega, rfl, Below.refl _ _⟩
  case round =>
    obtain ⟨i, hi, rfl, HB⟩ := hrel
    have d0 := (HB.out.cell (p := ⟨b, 0, none⟩) HL.out).trans H0.out
    have d1 := (HB.out.cell (p := ⟨b, 1, none⟩) HL.out).trans H1.out
    have d2 := (HB.out.cell (p := ⟨b, 2, none⟩) HL.out).trans H2.out
    rcases (by omega : i = 0 ∨ i = 1) with rfl | rfl
    · go_upto_region 6 with fail
      have hB4 := (HB.out.alloc HB.out.size (.cells #[.int .i64 0, .int .i64 100, .int .i64 0] 120))
      have a4 := World.alloc_heap_new wr (.cells #[.int .i64 0, .int .i64 100, .int .i64 0] 120)
      generalize wr.alloc (.cells #[.int .i64 0, .int .i64 100, .int .i64 0] 120) = W4 at hB4 a4 ⊢
      have s0 : W4.cell? ⟨wr.heap.size, 0, none⟩ = some (.int .i64 0) := cell_h a4 rfl
      have s1 : W4.cell? ⟨wr.heap.size, 1, none⟩ = some (.int .i64 100) := cell_h a4 rfl
      have s2 : W4.cell? ⟨wr.heap.size, 2, none⟩ = some (.int .i64 0) := cell_h a4 rfl
      have HB4 := Lib.hid hB4
      clear hB4 a4 d0 d1 d2
      go_upto_region 8 with (go_at_call 162; refine (splace_of _ _ (by decide)).mono ?_; rintro e w9 ⟨rfl, hw9⟩; subst w9)
      go_quiet (fail)
      go_wp2_with (go_at_call 51; refine (HI.out _ _ _ _ (by decide)).mono ?_; rintro e w9 ⟨rfl, hw9⟩; subst w9)
      have hb := HB4.out
      exact ⟨⟨1, by omega, rfl, Lib.hid ⟨hb.os, hb.tape, hb.output, hb.size, hb.block⟩⟩, by simp [intOf]⟩
    · go_wp2_with (go_at_call 128; refine (sextent_of _ b c d0 d1).mono ?_; rintro e w9 ⟨rfl, hB9⟩)
      go_ret
      exact ⟨rfl, low_trans HB.out hB9⟩
end Go.Proofs.YtlphlbgbbblnpaaGreatDoor
-- StT: WALKS: strength: the loss of a profile of one step; checkLoss: for the example of chapter 9.
namespace Go.Proofs.YtlphlbgbbblnpaaGreatDoor
open Go.RowKit

/-- A block that holds the example's pipe. -/
def PipB (W : World) (p : Nat) : Prop := W.heap[p]? = some (.cells #[.int .i64 1000, .int .i64 10000, .int .i64 400000] 114 (0, 0))
theorem PipB.cells {W : World} {p : Nat} (h : PipB W p) : W.cell? ⟨p, 0, none⟩ = some (.int .i64 1000) ∧ W.cell? ⟨p, 1, none⟩ = some (.int .i64 10000) ∧ W.cell? ⟨p, 2, none⟩ = some (.int .i64 400000) := ⟨cell_h h rfl, cell_h h rfl, cell_h h rfl⟩
theorem PipB.new (W : World) : PipB (W.alloc (.cells #[.int .i64 1000, .int .i64 10000, .int .i64 400000] 114)) W.heap.size := World.alloc_heap_new W _
theorem PipB.lt {W : World} {p : Nat} (h : PipB W p) : p < W.heap.size := World.block_lt_of_cell? W ⟨p, 0, none⟩ h.cells.1
theorem PipB.keep {W V : World} {p : Nat} (h : PipB W p) (hB : Below W.heap.size W V) : PipB V p := blk1 h hB

/-- A block that begins with the example's step. -/
structure StpB (W : World) (b : Nat) : Prop where
  c0 : W.cell? ⟨b, 0, none⟩ = some (.int .i64 0)
  c1 : W.cell? ⟨b, 1, none⟩ = some (.int .i64 100)
  c2 : W.cell? ⟨b, 2, none⟩ = some (.int .i64 0)
theorem StpB.lt {W : World} {b : Nat} (h : StpB W b) : b < W.heap.size := World.block_lt_of_cell? W ⟨b, 0, none⟩ h.c0
theorem StpB.keep {W V : World} {b : Nat} (h : StpB W b) (hB : Below W.heap.size W V) : StpB V b :=
  ⟨(hB.cell (p := ⟨b, 0, none⟩) h.lt).trans h.c0, (hB.cell (p := ⟨b, 1, none⟩) h.lt).trans h.c1, (hB.cell (p := ⟨b, 2, none⟩) h.lt).trans h.c2⟩

set_option maxRecDepth 100000 in
set_option maxHeartbeats 4000000 in
theorem sloss1_of (w : World) (p : Nat) (hp : PipB w p) :
    Calls Tryz.prog 127 #[.agg #[.int .i64 0, .int .i64 100, .int .i64 0], .pointer (some ⟨p, 0, none⟩)] w fun e w' => e = .returned (.bool false) ∧ Below w.heap.size w w' := by
  have hB := (Below.refl w.heap.size w).alloc (Nat.le_refl _) (.cells #[.int .i64 0, .int .i64 100, .int .i64 0] 120)
  have a0 := World.alloc_heap_new w (.cells #[.int .i64 0, .int .i64 100, .int .i64 0] 120)
  have c1 := (hp.keep hB).cells.2.1
  go_enter Tryz.func127, Tryz.ntmps127
  go_wp2_with fail
  generalize w.alloc (.cells #[.int .i64 0, .int .i64 100, .int .i64 0] 120) = W at a0 hB c1 ⊢
  have s2 : W.cell? ⟨w.heap.size, 2, none⟩ = some (.int .i64 0) := cell_h a0 rfl
  have HB := Lib.hid hB
  clear hB a0 hp
  go_wp2_with fail
  have hb := HB.out
  exact bodyPost_ret (v := .bool false) (by simp [results, Tryz.f127, go_sem]) rfl ⟨rfl, ⟨hb.os, hb.tape, hb.output, hb.size, hb.block⟩⟩
set_option maxRecDepth 100000 in
set_option maxHeartbeats 4000000 in
theorem sixf_of (w : World) (p b c : Nat) (hp : PipB w p) (hb : StpB w b) :
    Calls Tryz.prog 163 #[.slice (some ⟨b, 0, none⟩) 1 c, .func (.func 127) #[] #[.pointer (some ⟨p, 0, none⟩)]] w fun e w' => e = .returned (.int .i64 (-1)) ∧ Below w.heap.size w w' := by
  have HP := Lib.hid hp
  have HS := Lib.hid hb
  clear hp hb
  go_enter Tryz.func163, Tryz.ntmps163
  go_wp2_with fail
  go_loopw [8] (fun vi wr => ∃ i : Nat, i ≤ 1 ∧ vi = .int .i64 i ∧ Hid (Below w.heap.size w wr)) (fun vi _ => 1 - (intOf vi).toNat)
  case atStart => exact ⟨0, by omega, rfl, Below.refl _ _⟩
  case round =>
    obtain ⟨i, hi, rfl, HB⟩ := hrel
    obtain ⟨d0, d1, d2⟩ := HS.out.keep HB.out
    have HC := Lib.hid (sloss1_of wr p (HP.out.keep HB.out))
    rcases (by omega : i = 0 ∨ i = 1) with rfl | rfl
    · go_wp2_with (go_at_call 127; refine HC.out.mono ?_; rintro e w9 ⟨rfl, hB9⟩)
      exact ⟨⟨1, by omega, rfl, Lib.hid (HB.out.trans (hB9.mono HB.out.size))⟩, by simp [intOf]⟩
    · go_wp2_with fail
      go_ret
      exact ⟨rfl, HB.out⟩
set_option maxRecDepth 100000 in
set_option maxHeartbeats 4000000 in
theorem sctn_of (w : World) (p b c : Nat) (hp : PipB w p) (hb : StpB w b) :
    Calls Tryz.prog 126 #[.slice (some ⟨b, 0, none⟩) 1 c, .func (.func 127) #[] #[.pointer (some ⟨p, 0, none⟩)]] w fun e w' => e = .returned (.bool false) ∧ Below w.heap.size w w' := by
  have HC := Lib.hid (sixf_of w p b c hp hb)
  clear hp hb
  go_enter Tryz.func126, Tryz.ntmps126
  go_wp2_with (go_at_call 163; refine HC.out.mono ?_; rintro e w9 ⟨rfl, hB9⟩)
  exact bodyPost_ret (v := .bool false) (by simp [results, Tryz.f126, go_sem]) rfl ⟨rfl, hB9⟩
set_option maxRecDepth 100000 in
set_option maxHeartbeats 4000000 in
theorem sloss_of (w : World) (b c : Nat) (hb : StpB w b) :
    Calls Tryz.prog 89 #[.agg #[.int .i64 1000, .int .i64 10000, .int .i64 400000], .slice (some ⟨b, 0, none⟩) 1 c] w fun e w' => e = .returned (.int .i64 0) ∧ Below w.heap.size w w' := by
  have HS := Lib.hid hb
  clear hb
  go_enter Tryz.func89, Tryz.ntmps89
  go_wp2_with fail
  have hB := (Below.refl w.heap.size w).alloc (Nat.le_refl _) (.cells #[.int .i64 1000, .int .i64 10000, .int .i64 400000] 114)
  have hP := PipB.new w
  generalize w.alloc (.cells #[.int .i64 1000, .int .i64 10000, .int .i64 400000] 114) = W at hB hP ⊢
  have HB := Lib.hid hB
  have HP := Lib.hid hP
  obtain ⟨s0, s1, s2⟩ := hP.cells
  clear hB hP
  go_wp2_with fail
  refine (spipe_of _).mono ?_
  rintro e w9 ⟨rfl, hB9⟩
  have HB9 := Lib.hid hB9
  clear hB9
  go_wp2_with fail
  have hS9 := HS.out.keep (low_trans HB.out HB9.out)
  refine (sprof_of _ b c hS9.c0 hS9.c1 hS9.c2).mono ?_
  rintro e w8 ⟨rfl, hB8⟩
  have HB8 := Lib.hid hB8
  have HS9 := Lib.hid hS9
  clear hB8 hS9
  go_wp2_with fail
  refine (sctn_of _ w.heap.size b c ((HP.out.keep HB9.out).keep HB8.out) (HS9.out.keep HB8.out)).mono ?_
  rintro e w7 ⟨rfl, hB7⟩
  have HB7 := Lib.hid hB7
  clear hB7
  go_wp2_with fail
  go_ret
  exact ⟨rfl, low_trans HB.out (low_trans HB9.out (low_trans HB8.out HB7.out))⟩
end Go.Proofs.YtlphlbgbbblnpaaGreatDoor
