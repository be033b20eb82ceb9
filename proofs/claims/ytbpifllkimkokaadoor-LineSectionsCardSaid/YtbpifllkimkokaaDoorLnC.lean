/-
  WALKS: the error of an item, by the reference.
-/
import Derived.Test.YtbpifllkimkokaaDoorLnB
namespace Go.Proofs.YtbpifllkimkokaaDoor
open Go.RowKit

set_option maxRecDepth 8000 in
set_option maxHeartbeats 3200000 in
theorem ritem_err (w : World) (K L O W G S R : Int) :
    Calls Tryd.prog 64 #[.agg #[.int .i64 K, .int .i64 L, .int .i64 O, .int .i64 W, .int .i64 G, .int .i64 S, .int .i64 R]] w fun e w' => e = .returned (.int .i64 (itErr K L O W G S R)) ∧ Below w.heap.size w w' := by
  obtain ⟨b1, h1⟩ : ∃ b : Bool, b = decide (0 ≤ K ∧ K ≤ 2) := ⟨_, rfl⟩
  obtain ⟨b2, h2⟩ : ∃ b : Bool, b = decide (1 ≤ L ∧ L ≤ 16777216) := ⟨_, rfl⟩
  obtain ⟨b3, h3⟩ : ∃ b : Bool, b = decide (1 ≤ O ∧ O ≤ 2097152) := ⟨_, rfl⟩
  obtain ⟨b4, h4⟩ : ∃ b : Bool, b = decide (1 ≤ W ∧ W ≤ 131072) := ⟨_, rfl⟩
  obtain ⟨b5, h5⟩ : ∃ b : Bool, b = decide (0 ≤ G ∧ G ≤ 7) := ⟨_, rfl⟩
  obtain ⟨b6, h6⟩ : ∃ b : Bool, b = decide (0 ≤ S ∧ S ≤ 359) := ⟨_, rfl⟩
  obtain ⟨b7, h7⟩ : ∃ b : Bool, b = decide (1 ≤ R ∧ R ≤ 67108864) := ⟨_, rfl⟩
  have HW := item_ways b1 b2 b3 b4 b5 b6 b7 K L O W G S R h1 h2 h3 h4 h5 h6 h7
  have H1 := Lib.hid h1
  have H2 := Lib.hid h2
  have H3 := Lib.hid h3
  have H4 := Lib.hid h4
  have H5 := Lib.hid h5
  have H6 := Lib.hid h6
  have H7 := Lib.hid h7
  clear h1 h2 h3 h4 h5 h6 h7
  generalize hE : itErr K L O W G S R = E at HW ⊢
  clear hE
  rcases HW with ⟨rfl, rfl⟩ | ⟨rfl, rfl, rfl⟩ | ⟨rfl, rfl, rfl, rfl⟩ | ⟨rfl, rfl, rfl, rfl, rfl⟩ | ⟨rfl, rfl, rfl, rfl, hO, hW, ⟨rfl, rfl⟩ | ⟨rfl, rfl, rfl⟩ | ⟨rfl, rfl, rfl, rfl, rfl⟩ | ⟨rfl, rfl, hK, hR, rfl⟩ | ⟨rfl, rfl, rfl, rfl, hB, rfl⟩ | ⟨rfl, rfl, hK, rfl, hB, rfl⟩ | ⟨rfl, rfl, rfl, rfl, hR, hB, hC, rfl⟩ | ⟨rfl, rfl, rfl, rfl, hR, hB, hC, rfl⟩ | ⟨rfl, rfl, hK, rfl, hB, rfl⟩⟩
  all_goals (try have k1 : (K == 1) = false := by simpa using hK)
  all_goals (try have k2 : (K != 1) = true := by simpa using hK)
  all_goals (try have k3 : (R != 0) = true := by simpa using hR)
  all_goals
    go_enter Tryd.func64, Tryd.ntmps64
    go_wp2_with (first
      | (go_at_call 66; refine (rbetw _ _ _ _ _ (by first | exact H1.out | exact H2.out | exact H3.out | exact H4.out | exact H5.out | exact H6.out | exact H7.out)).mono ?_; rintro e w' ⟨rfl, rfl⟩)
      | (go_at_call 99; refine (rbore_of _ _ _ _ _ _ _ _ hO hW).mono ?_; rintro e w2 ⟨rfl, hb2⟩; have c0 := fun i => hb2.cell (p := ⟨w.heap.size, i, none⟩) (by simp)))
  all_goals
    go_ret
    first
      | exact ⟨rfl, (Below.refl _ _).alloc (Nat.le_refl _) _⟩
      | exact ⟨rfl, ((Below.refl _ _).alloc (Nat.le_refl _) _).trans (hb2.mono (by simp))⟩
end Go.Proofs.YtbpifllkimkokaaDoor
