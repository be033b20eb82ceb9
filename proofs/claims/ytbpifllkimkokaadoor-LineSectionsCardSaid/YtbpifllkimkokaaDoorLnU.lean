/-
  WALKS: the example that each statement of layer 2 checks.
-/
import Derived.Test.YtbpifllkimkokaaDoorLnS
namespace Go.Proofs.YtbpifllkimkokaaDoor
open Go.RowKit

/-- The variables that a call of the example reads. -/
def Glob (w : World) : Prop := Txt w ∧ w.cell? ⟨1, 2, none⟩ = some (.int .i64 359000)
theorem Glob.keep {w w' : World} (h : Glob w) (hb : Below w.heap.size w w') : Glob w' :=
  ⟨h.1.keep hb, (hb.cell (p := ⟨1, 2, none⟩) (World.block_lt_of_cell? w _ h.2)).trans h.2⟩

theorem yield2_of (w : World) (h : w.cell? ⟨1, 2, none⟩ = some (.int .i64 359000)) :
    Calls Tryd.prog 55 #[.int .i64 2] w fun e w' => e = .returned (.tuple #[.int .i64 359000, .int .i64 0]) ∧ w' = w := by
  go_enter Tryd.func55, Tryd.ntmps55
  go_wp2_with (go_at_call 62; refine (betw true _ _ _ _ (by decide)).mono ?_; rintro e w' ⟨rfl, rfl⟩)
  go_ret2
  exact ⟨rfl, rfl⟩

/-- The example's two pipes. -/
def exF (i : Nat) : Int := [0, 12000, 610000, 10000, 2, 90, 0, 0, 500, 610000, 9000, 1, 0, 0].getD i 0
def exN (_ : Nat) : Int := 0
theorem ex_chk : chk 2 0 0 exF exN exN = 0 := by decide
theorem ex_i64 : I64s exF (2 * 7) := by
  intro i hi
  rcases (by omega : i = 0 ∨ i = 1 ∨ i = 2 ∨ i = 3 ∨ i = 4 ∨ i = 5 ∨ i = 6 ∨ i = 7 ∨ i = 8 ∨ i = 9 ∨ i = 10 ∨ i = 11 ∨ i = 12 ∨ i = 13) with rfl | rfl | rfl | rfl | rfl | rfl | rfl | rfl | rfl | rfl | rfl | rfl | rfl | rfl <;> decide
/-- pipe 12000 610000 10000 2 90, pipe 500 610000 9000 1 0 -/
def exT : List UInt8 := [112, 105, 112, 101, 32, 49, 50, 48, 48, 48, 32, 54, 49, 48, 48, 48, 48, 32, 49, 48, 48, 48, 48, 32, 50, 32, 57, 48, 10, 112, 105, 112, 101, 32, 53, 48, 48, 32, 54, 49, 48, 48, 48, 48, 32, 57, 48, 48, 48, 32, 49, 32, 48, 10]
theorem ex_text : itemsT exF 2 ++ zonesT exN 0 ++ limitsT exN 0 = exT := by
  simp [itemsT, zonesT, limitsT, lineT, numsT, wordB, numN, exF, exT, Lib.itoa, Lib.decDigits]

set_option maxRecDepth 100000 in
set_option maxHeartbeats 3200000 in
theorem awake_of (w : World) (hG : Glob w) :
    Calls Tryd.prog 13 #[] w fun e w' => e = .returned (.bool true) ∧ Below w.heap.size w w' := by
  have HG := Lib.hid hG
  clear hG
  go_enter Tryd.func13, Tryd.ntmps13
  go_wp2_with fail
  obtain ⟨W, hW⟩ : ∃ W, W = (w.alloc (.cells #[.int .i64 0, .int .i64 12000, .int .i64 610000, .int .i64 10000, .int .i64 2, .int .i64 90, .int .i64 0, .int .i64 0, .int .i64 500, .int .i64 610000, .int .i64 9000, .int .i64 1, .int .i64 0, .int .i64 0] 72)).alloc (.cells #[.slice (some ⟨w.heap.size, 0, none⟩) 2 2, .slice none 0 0, .slice none 0 0] 26) := ⟨_, rfl⟩
  have hBW : Hid (Below w.heap.size w W) := by rw [hW]; exact ((Below.refl _ _).alloc (Nat.le_refl _) _).alloc (by simp) _
  have hsz : W.heap.size = w.heap.size + 2 := by rw [hW]; simp
  have hh : W.heap[w.heap.size]? = some (.cells #[.int .i64 0, .int .i64 12000, .int .i64 610000, .int .i64 10000, .int .i64 2, .int .i64 90, .int .i64 0, .int .i64 0, .int .i64 500, .int .i64 610000, .int .i64 9000, .int .i64 1, .int .i64 0, .int .i64 0] 72 (0, 0)) := by
    rw [hW]; exact (Below.heap_alloc _ _ _ (by simp)).trans (World.alloc_heap_new w _)
  have hI : Ints W w.heap.size 0 (2 * 7) exF := by
    intro i hi
    rw [Nat.zero_add]
    simp only [World.cell?, hh]
    rcases (by omega : i = 0 ∨ i = 1 ∨ i = 2 ∨ i = 3 ∨ i = 4 ∨ i = 5 ∨ i = 6 ∨ i = 7 ∨ i = 8 ∨ i = 9 ∨ i = 10 ∨ i = 11 ∨ i = 12 ∨ i = 13) with rfl | rfl | rfl | rfl | rfl | rfl | rfl | rfl | rfl | rfl | rfl | rfl | rfl | rfl <;> rfl
  have HS : Hid (Sl W 7 (some ⟨w.heap.size, 0, none⟩) 2 exF) := fun _ => ⟨w.heap.size, 0, rfl, hI⟩
  have HZ : Hid (∀ W', Sl W' 3 none 0 exN ∧ Sl W' 2 none 0 exN) := fun W' => ⟨fun h => absurd h (by decide), fun h => absurd h (by decide)⟩
  have x0 : W.cell? ⟨w.heap.size + 1, 0, none⟩ = some (.slice (some ⟨w.heap.size, 0, none⟩) 2 2) := by rw [hW]; go_simp
  have x1 : W.cell? ⟨w.heap.size + 1, 1, none⟩ = some (.slice none 0 0) := by rw [hW]; go_simp
  have x2 : W.cell? ⟨w.heap.size + 1, 2, none⟩ = some (.slice none 0 0) := by rw [hW]; go_simp
  rw [← hW]
  clear hW hh hI
  have hC := starts_of W (some ⟨w.heap.size, 0, none⟩) none none 2 2 0 0 0 0 exF exN exN HS.out (HZ.out W).1 (HZ.out W).2
  rw [ex_chk] at hC
  have HX : Hid (W.cell? ⟨w.heap.size + 1, 0, none⟩ = some (.slice (some ⟨w.heap.size, 0, none⟩) 2 2) ∧ W.cell? ⟨w.heap.size + 1, 1, none⟩ = some (.slice none 0 0) ∧ W.cell? ⟨w.heap.size + 1, 2, none⟩ = some (.slice none 0 0)) := ⟨x0, x1, x2⟩
  clear x0 x1 x2
  refine hC.mono ?_
  rintro e' W2 ⟨hb2, ⟨h0, _⟩ | ⟨_, v, rfl, hown⟩⟩
  · exact absurd rfl h0
  obtain ⟨g, cap, rfl⟩ := ownsRow_succ hown
  have HO := Lib.hid hown
  obtain ⟨x0, x1, x2⟩ := three_keep HX.out hb2
  have HB2 : Hid (Below w.heap.size w W2) := hBW.out.trans (hb2.mono (by omega))
  have hT := text_of W2 (some ⟨w.heap.size, 0, none⟩) none none 2 2 0 0 0 0 exF exN exN (HS.out.keep (by omega) hb2) (HZ.out W2).1 (HZ.out W2).2 ex_i64 (fun i hi => by omega) (fun i hi => by omega) (HG.out.keep HB2.out).1
  rw [ex_chk, ex_text] at hT
  have HT := Lib.hid hT
  have hs2 := hb2.size
  clear hC hown hb2 hT
  go_wp2_with fail
  refine HT.out.mono ?_
  rintro e' W3 ⟨hb3, ⟨h0, _⟩ | ⟨_, rfl⟩⟩
  · exact absurd rfl h0
  have HB3 : Hid (Below w.heap.size w W3) := HB2.out.trans (hb3.mono (by omega))
  have hc : W3.cell? ⟨g, 1, none⟩ = some (.int .i64 12000) := by
    have h1 := own_below HO.out hb3
    have := World.ownsRow.cellAt h1 1 (by decide)
    rw [this]; rfl
  have hy := (HG.out.keep HB3.out).2
  clear hb3 x0 x1 x2
  go_wp2_with fail
  refine (yield2_of W3 hy).mono ?_
  rintro e' w' ⟨rfl, rfl⟩
  clear hy
  go_wp2_with fail
  go_ret
  exact ⟨rfl, HB3.out⟩
end Go.Proofs.YtbpifllkimkokaaDoor
