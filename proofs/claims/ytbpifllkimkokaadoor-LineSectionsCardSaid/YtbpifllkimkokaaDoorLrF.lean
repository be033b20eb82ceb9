/-
  WALKS: the pressure that is allowed, as a fraction, by the program and by the reference.
-/
import Derived.Test.YtbpifllkimkokaaDoorLrE
import Derived.Test.YtbpifllkimkokaaDoorLnU
import Derived.Deep.RegionHeld3
import Derived.Deep.QuietTactic
namespace Go.Proofs.YtbpifllkimkokaaDoor
open Go.RowKit

def ylN (k : Nat) : Int := [290000, 317000, 359000, 386000, 414000, 448000, 483000, 552000].getD k 0
def fcN (k : Nat) : Int := [72, 60, 50, 40].getD k 0
theorem ylN_bd {k : Nat} (h : k < 8) : 290000 ≤ ylN k ∧ ylN k ≤ 552000 := by
  rcases (show k = 0 ∨ k = 1 ∨ k = 2 ∨ k = 3 ∨ k = 4 ∨ k = 5 ∨ k = 6 ∨ k = 7 by omega) with rfl | rfl | rfl | rfl | rfl | rfl | rfl | rfl <;> decide
theorem fcN_bd {k : Nat} (h : k < 4) : 40 ≤ fcN k ∧ fcN k ≤ 72 := by
  rcases (show k = 0 ∨ k = 1 ∨ k = 2 ∨ k = 3 by omega) with rfl | rfl | rfl | rfl <;> decide
/-- The tables of yield strengths and of factors. -/
def Tabs (w : World) : Prop := (∀ k, k < 8 → w.cell? ⟨1, k, none⟩ = some (.int .i64 (ylN k))) ∧ ∀ k, k < 4 → w.cell? ⟨2, k, none⟩ = some (.int .i64 (fcN k))
theorem Tabs.keep {w w' : World} (h : Tabs w) (hb : Below w.heap.size w w') : Tabs w' :=
  ⟨fun k hk => (hb.cell (World.block_lt_of_cell? w _ (h.1 k hk))).trans (h.1 k hk), fun k hk => (hb.cell (World.block_lt_of_cell? w _ (h.2 k hk))).trans (h.2 k hk)⟩
/-- What is allowed, as a fraction: above. -/
def alwA (wl : Int) (g c : Nat) : Int := 2 * wl * ylN g * fcN c
theorem alw_bd {wl : Int} {g c : Nat} (hw : 1 ≤ wl ∧ wl ≤ 131072) (hg : g < 8) (hc : c < 4) : (0 ≤ 2 * wl * ylN g ∧ 2 * wl * ylN g ≤ 144703488000) ∧ 0 ≤ alwA wl g c ∧ alwA wl g c ≤ 10418651136000 := by
  have hy := ylN_bd hg
  have hf := fcN_bd hc
  have h1 : 0 ≤ 2 * wl * ylN g := Int.mul_nonneg (by omega) (by omega)
  have h2 : 2 * wl * ylN g ≤ 262144 * 552000 := Int.mul_le_mul (by omega) hy.2 (by omega) (by omega)
  have h3 : 0 ≤ 2 * wl * ylN g * fcN c := Int.mul_nonneg h1 (by omega)
  have h4 : 2 * wl * ylN g * fcN c ≤ 144703488000 * 72 := Int.mul_le_mul (by omega) hf.2 (by omega) (by omega)
  unfold alwA
  omega

set_option maxRecDepth 8000 in
set_option maxHeartbeats 1600000 in
theorem allowed_of (w : World) (K L O W S R : Int) (g c : Nat) (hT : Tabs w) (hO : 1 ≤ O ∧ O ≤ 2097152) (hW : 1 ≤ W ∧ W ≤ 131072) (hg : g < 8) (hc : c < 4) :
    Calls Tryd.prog 72 #[.agg #[.int .i64 K, .int .i64 L, .int .i64 O, .int .i64 W, .int .i64 g, .int .i64 S, .int .i64 R], .int .i64 ((c : Int) + 1)] w fun e w' => e = .returned (.tuple #[.int .i64 (alwA W g c), .int .i64 (100 * O)]) ∧ Below w.heap.size w w' := by
  have hb := alw_bd hW hg hc
  have hfin : Hid (alwA W g c = 2 * W * ylN g * fcN c) := rfl
  have e1 : IntKind.i64.wrap (2 * W) = 2 * W := IntWalk.i64_in _ (by omega)
  have e2 : IntKind.i64.wrap (2 * W * ylN g) = 2 * W * ylN g := IntWalk.i64_in _ (by omega)
  have e3 : IntKind.i64.wrap (2 * W * ylN g * fcN c) = alwA W g c := IntWalk.i64_in _ (by unfold alwA at hb; omega)
  have e4 : IntKind.i64.wrap (100 * O) = 100 * O := IntWalk.i64_in _ (by omega)
  have e5 : IntKind.i64.wrap ((c : Int) + 1 - 1) = (c : Int) := by rw [IntWalk.i64_in _ (by omega)]; omega
  have e6 : IntKind.i64.wrap (c : Int) = (c : Int) := IntWalk.i64_in _ (by omega)
  have b0 : (0 : Int) ≤ (g : Int) := by omega
  have b1 : (g : Int) < 8 := by omega
  have b2 : (0 : Int) ≤ (c : Int) := by omega
  have b3 : (c : Int) < 4 := by omega
  obtain ⟨W2, hW2⟩ : ∃ W2, W2 = w.alloc (.cells #[.int .i64 K, .int .i64 L, .int .i64 O, .int .i64 W, .int .i64 g, .int .i64 S, .int .i64 R] 72) := ⟨_, rfl⟩
  have hBW : Hid (Below w.heap.size w W2) := by rw [hW2]; exact (Below.refl _ _).alloc (Nat.le_refl _) _
  have c2 : W2.cell? ⟨w.heap.size, 2, none⟩ = some (.int .i64 O) := by rw [hW2]; go_simp
  have c3 : W2.cell? ⟨w.heap.size, 3, none⟩ = some (.int .i64 W) := by rw [hW2]; go_simp
  have c4 : W2.cell? ⟨w.heap.size, 4, none⟩ = some (.int .i64 g) := by rw [hW2]; go_simp
  have y1 := (hT.keep hBW.out).1 g hg
  have y2 := (hT.keep hBW.out).2 c hc
  have HW2 := Lib.hid hW2
  clear hW2 hT hb
  go_enter Tryd.func72, Tryd.ntmps72
  go_wp2_with fail
  rw [← HW2.out]
  go_quiet (fail)
  go_wp2
  go_ret2
  exact ⟨rfl, hBW.out.trans ⟨rfl, rfl, rfl, Nat.le_refl _, fun _ _ => rfl⟩⟩

set_option maxRecDepth 8000 in
set_option maxHeartbeats 1600000 in
theorem rYield_of (w : World) (g : Nat) (hg : g < 8) : Calls Tryd.prog 102 #[.int .i64 g] w fun e w' => e = .returned (.tuple #[.int .i64 (ylN g), .int .i64 0]) ∧ Below w.heap.size w w' := by
  have HBT : Hid (true = decide (0 ≤ (g : Int) ∧ (g : Int) ≤ 7)) := by show true = _; symm; rw [decide_eq_true_eq]; omega
  rcases (show g = 0 ∨ g = 1 ∨ g = 2 ∨ g = 3 ∨ g = 4 ∨ g = 5 ∨ g = 6 ∨ g = 7 by omega) with rfl | rfl | rfl | rfl | rfl | rfl | rfl | rfl
  all_goals
    go_enter Tryd.func102, Tryd.ntmps102
    go_wp2_with (go_at_call 66; refine (rbetw true _ _ _ _ (by decide)).mono ?_; rintro e' w' ⟨rfl, rfl⟩)
    go_ret2
    exact ⟨rfl, (Below.refl _ _).alloc (Nat.le_refl _) _⟩

set_option maxRecDepth 8000 in
set_option maxHeartbeats 3200000 in
theorem rallowed_of (w : World) (K L O W S R : Int) (g c : Nat) (hO : 1 ≤ O ∧ O ≤ 2097152) (hW : 1 ≤ W ∧ W ≤ 131072) (hg : g < 8) (hc : c < 4) :
    Calls Tryd.prog 75 #[.agg #[.int .i64 K, .int .i64 L, .int .i64 O, .int .i64 W, .int .i64 g, .int .i64 S, .int .i64 R], .int .i64 ((c : Int) + 1)] w fun e w' => e = .returned (.tuple #[.int .i64 (alwA W g c), .int .i64 (100 * O)]) ∧ Below w.heap.size w w' := by
  have hb := alw_bd hW hg hc
  have HY : Hid (∀ w', Calls Tryd.prog 102 #[.int .i64 g] w' fun e w2 => e = .returned (.tuple #[.int .i64 (ylN g), .int .i64 0]) ∧ Below w'.heap.size w' w2) := fun w' => rYield_of w' g hg
  have e1 : IntKind.i64.wrap (2 * W) = 2 * W := IntWalk.i64_in _ (by omega)
  have e2 : IntKind.i64.wrap (2 * W * ylN g) = 2 * W * ylN g := IntWalk.i64_in _ (by omega)
  have e3 : IntKind.i64.wrap (2 * W * ylN g * fcN c) = alwA W g c := IntWalk.i64_in _ (by unfold alwA at hb; omega)
  have e4 : IntKind.i64.wrap (100 * O) = 100 * O := IntWalk.i64_in _ (by omega)
  obtain ⟨W2, hW2⟩ : ∃ W2, W2 = w.alloc (.cells #[.int .i64 K, .int .i64 L, .int .i64 O, .int .i64 W, .int .i64 g, .int .i64 S, .int .i64 R] 101) := ⟨_, rfl⟩
  have hBW : Hid (Below w.heap.size w W2) := by rw [hW2]; exact (Below.refl _ _).alloc (Nat.le_refl _) _
  have c2 : W2.cell? ⟨w.heap.size, 2, none⟩ = some (.int .i64 O) := by rw [hW2]; go_simp
  have c3 : W2.cell? ⟨w.heap.size, 3, none⟩ = some (.int .i64 W) := by rw [hW2]; go_simp
  have c4 : W2.cell? ⟨w.heap.size, 4, none⟩ = some (.int .i64 g) := by rw [hW2]; go_simp
  have HW2 := Lib.hid hW2
  clear hW2 hb
  go_enter Tryd.func75, Tryd.ntmps75
  go_wp2_with fail
  rw [← HW2.out]
  refine (HY.out W2).mono ?_
  rintro e' w3 ⟨rfl, hb3⟩
  have HB3 : Hid (Below w.heap.size w w3) := hBW.out.trans (hb3.mono hBW.out.size)
  have d2 := (hb3.cell (World.block_lt_of_cell? W2 _ c2)).trans c2
  have d3 := (hb3.cell (World.block_lt_of_cell? W2 _ c3)).trans c3
  clear hb3 c2 c3 c4
  have HS2 : Hid (w.heap.size ≤ w3.heap.size) := HB3.out.size
  have hcc : c = 0 ∨ c = 1 ∨ c = 2 ∨ c = 3 := by omega
  clear hc
  rcases hcc with rfl | rfl | rfl | rfl
  all_goals
    have f0 : fcN 0 = 72 := rfl
    have f1 : fcN 1 = 60 := rfl
    have f2 : fcN 2 = 50 := rfl
    have f3 : fcN 3 = 40 := rfl
    simp only [f0, f1, f2, f3] at e3
    clear f0 f1 f2 f3
    have q0 : IntKind.i64.wrap 0 = 0 := by decide
    have q1 : IntKind.i64.wrap 1 = 1 := by decide
    have q2 : IntKind.i64.wrap 2 = 2 := by decide
    have q3 : IntKind.i64.wrap 3 = 3 := by decide
    have n2 : (w3.alloc (.cells #[.int .i64 72, .int .i64 60, .int .i64 50, .int .i64 40] 3)).cell? ⟨w.heap.size, 2, none⟩ = some (.int .i64 O) := (((Below.refl w3.heap.size w3).alloc (Nat.le_refl _) _).cell (World.block_lt_of_cell? w3 _ d2)).trans d2
    have n3 : (w3.alloc (.cells #[.int .i64 72, .int .i64 60, .int .i64 50, .int .i64 40] 3)).cell? ⟨w.heap.size, 3, none⟩ = some (.int .i64 W) := (((Below.refl w3.heap.size w3).alloc (Nat.le_refl _) _).cell (World.block_lt_of_cell? w3 _ d3)).trans d3
    go_wp2_with fail
    go_region
    all_goals
      go_wp2
      go_ret2
      exact ⟨rfl, by first | exact (HB3.out.alloc HS2.out _).drew | exact HB3.out.drew.alloc HS2.out _⟩
end Go.Proofs.YtbpifllkimkokaaDoor
