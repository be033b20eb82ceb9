/-
  WALKS: minus; checkTies of ties without an error.
-/
import Derived.Test.YtlbffdgojmjijaaDoorDeF1
import Derived.Test.YtlbffdgojmjijaaDoorDyG
import Derived.Deep.RegionHeld3
import Derived.Deep.DeepCutAuto
import Derived.StillTailTactics
namespace Go.Proofs.YtlbffdgojmjijaaDoor
open Go.RowKit

def TwoV (g : Nat) (x y z a b c : Int) (w : World) : Prop :=
  w.cell? ⟨g, 0, none⟩ = some (.int .i64 x) ∧ w.cell? ⟨g, 1, none⟩ = some (.int .i64 y) ∧ w.cell? ⟨g, 2, none⟩ = some (.int .i64 z) ∧
  w.cell? ⟨g + 1, 0, none⟩ = some (.int .i64 a) ∧ w.cell? ⟨g + 1, 1, none⟩ = some (.int .i64 b) ∧ w.cell? ⟨g + 1, 2, none⟩ = some (.int .i64 c)
theorem TwoV.held {g : Nat} {x y z a b c : Int} {w w' : World} (h : TwoV g x y z a b c w) (hb : Below (g + 1 + 1) w w') :
    (w'.cell? ⟨g, 0, none⟩ = some (.int .i64 x) ∧ w'.cell? ⟨g, 1, none⟩ = some (.int .i64 y) ∧ w'.cell? ⟨g, 2, none⟩ = some (.int .i64 z) ∧
    w'.cell? ⟨g + 1, 0, none⟩ = some (.int .i64 a) ∧ w'.cell? ⟨g + 1, 1, none⟩ = some (.int .i64 b) ∧ w'.cell? ⟨g + 1, 2, none⟩ = some (.int .i64 c)) ∧ Below (g + 1 + 1) w w' := by
  obtain ⟨h1, h2, h3, h4, h5, h6⟩ := h
  exact ⟨⟨(hb.cell (p := ⟨g, 0, none⟩) (by simp; omega)).trans h1, (hb.cell (p := ⟨g, 1, none⟩) (by simp; omega)).trans h2, (hb.cell (p := ⟨g, 2, none⟩) (by simp; omega)).trans h3, (hb.cell (p := ⟨g + 1, 0, none⟩) (by simp)).trans h4, (hb.cell (p := ⟨g + 1, 1, none⟩) (by simp)).trans h5, (hb.cell (p := ⟨g + 1, 2, none⟩) (by simp)).trans h6⟩, hb⟩
theorem TwoV.held3 {g : Nat} {x y z a b c : Int} {w w' : World} (h : TwoV g x y z a b c w) (hb : Below w.heap.size w w') (hz : g + 1 + 1 < w.heap.size) {p q r : Value} :
    ((((w'.setCell ⟨g + 1 + 1, 0, none⟩ p).setCell ⟨g + 1 + 1, 1, none⟩ q).setCell ⟨g + 1 + 1, 2, none⟩ r).cell? ⟨g, 0, none⟩ = some (.int .i64 x) ∧ (((w'.setCell ⟨g + 1 + 1, 0, none⟩ p).setCell ⟨g + 1 + 1, 1, none⟩ q).setCell ⟨g + 1 + 1, 2, none⟩ r).cell? ⟨g, 1, none⟩ = some (.int .i64 y) ∧ (((w'.setCell ⟨g + 1 + 1, 0, none⟩ p).setCell ⟨g + 1 + 1, 1, none⟩ q).setCell ⟨g + 1 + 1, 2, none⟩ r).cell? ⟨g, 2, none⟩ = some (.int .i64 z) ∧
    (((w'.setCell ⟨g + 1 + 1, 0, none⟩ p).setCell ⟨g + 1 + 1, 1, none⟩ q).setCell ⟨g + 1 + 1, 2, none⟩ r).cell? ⟨g + 1, 0, none⟩ = some (.int .i64 a) ∧ (((w'.setCell ⟨g + 1 + 1, 0, none⟩ p).setCell ⟨g + 1 + 1, 1, none⟩ q).setCell ⟨g + 1 + 1, 2, none⟩ r).cell? ⟨g + 1, 1, none⟩ = some (.int .i64 b) ∧ (((w'.setCell ⟨g + 1 + 1, 0, none⟩ p).setCell ⟨g + 1 + 1, 1, none⟩ q).setCell ⟨g + 1 + 1, 2, none⟩ r).cell? ⟨g + 1, 2, none⟩ = some (.int .i64 c)) ∧ Below (g + 1 + 1) w (((w'.setCell ⟨g + 1 + 1, 0, none⟩ p).setCell ⟨g + 1 + 1, 1, none⟩ q).setCell ⟨g + 1 + 1, 2, none⟩ r) :=
  TwoV.held h ((((Below.mono (B' := g + 1 + 1) hb (by omega)).setCell (Nat.le_refl _) _).setCell (Nat.le_refl _) _).setCell (Nat.le_refl _) _)
theorem boxesV {w W : World} {x y z a b c : Int}
    (hW : W = ((w.alloc (.cells #[.int .i64 x, .int .i64 y, .int .i64 z] 36)).alloc (.cells #[.int .i64 a, .int .i64 b, .int .i64 c] 36)).alloc (.cells #[.int .i64 0, .int .i64 0, .int .i64 0] 36)) :
    TwoV w.heap.size x y z a b c W ∧ W.heap.size = w.heap.size + 1 + 1 + 1 ∧ Below w.heap.size w W ∧
    (W.cell? ⟨w.heap.size + 1 + 1, 0, none⟩ = some (.int .i64 0) ∧ W.cell? ⟨w.heap.size + 1 + 1, 1, none⟩ = some (.int .i64 0) ∧ W.cell? ⟨w.heap.size + 1 + 1, 2, none⟩ = some (.int .i64 0)) ∧
    (∀ o, W.frozen? ⟨w.heap.size + 1 + 1, o, none⟩ = false) := by
  subst hW
  refine ⟨⟨by go_simp, by go_simp, by go_simp, by go_simp, by go_simp, by go_simp⟩, by simp, (((Below.refl _ _).alloc (Nat.le_refl _) _).alloc (by simp) _).alloc (by simp; omega) _, ⟨by go_simp, by go_simp, by go_simp⟩, fun o => by go_simp⟩
set_option maxRecDepth 100000 in
set_option maxHeartbeats 4000000 in
theorem minus_of (w : World) (x y z a b c : Int) (hx : Big x) (hy : Big y) (hz : Big z) (ha : Big a) (hb : Big b) (hc : Big c) :
    Calls Tryd.prog 20 #[.agg #[.int .i64 x, .int .i64 y, .int .i64 z], .agg #[.int .i64 a, .int .i64 b, .int .i64 c]] w fun e w' => e = .returned (.agg #[.int .i64 (x - a), .int .i64 (y - b), .int .i64 (z - c)]) ∧ Below w.heap.size w w' := by
  unfold Big at ha hb hc
  have hT : ∀ W, Calls Tryd.prog 44 #[.agg #[.int .i64 a, .int .i64 b, .int .i64 c], .int .i64 (-1)] W fun e w' => e = .returned (.agg #[.int .i64 (-1 * a), .int .i64 (-1 * b), .int .i64 (-1 * c)]) ∧ Below W.heap.size W w' := fun W => times_of W (-1) a b c (by unfold Big; omega) (by unfold Big; omega) (by unfold Big; omega)
  obtain ⟨A, hA⟩ : ∃ A, -1 * a = A := ⟨_, rfl⟩
  obtain ⟨B, hB⟩ : ∃ B, -1 * b = B := ⟨_, rfl⟩
  obtain ⟨C, hC⟩ : ∃ C, -1 * c = C := ⟨_, rfl⟩
  rw [hA, hB, hC] at hT
  have HT := Lib.hid hT
  have HP : Hid (∀ W, Calls Tryd.prog 43 #[.agg #[.int .i64 x, .int .i64 y, .int .i64 z], .agg #[.int .i64 A, .int .i64 B, .int .i64 C]] W fun e w' => e = .returned (.agg #[.int .i64 (x + A), .int .i64 (y + B), .int .i64 (z + C)]) ∧ Below W.heap.size W w') := fun W => plus_of W x y z _ _ _ hx hy hz (by unfold Big; omega) (by unfold Big; omega) (by unfold Big; omega)
  rw [show x + A = x - a by omega, show y + B = y - b by omega, show z + C = z - c by omega] at HP
  clear hT hA hB hC
  generalize x - a = X at HP ⊢
  generalize y - b = Y at HP ⊢
  generalize z - c = Z at HP ⊢
  clear hx hy hz ha hb hc
  go_enter Tryd.func20, Tryd.ntmps20
  go_wp2_with fail
  obtain ⟨W, hW⟩ : ∃ W, W = ((w.alloc (.cells #[.int .i64 x, .int .i64 y, .int .i64 z] 36)).alloc (.cells #[.int .i64 a, .int .i64 b, .int .i64 c] 36)).alloc (.cells #[.int .i64 0, .int .i64 0, .int .i64 0] 36) := ⟨_, rfl⟩
  rw [← hW]
  obtain ⟨hTwo, hsz, hB0, ⟨r0, r1, r2⟩, hfr⟩ := boxesV hW
  have HS : Hid (Below w.heap.size w W) := hB0
  have hS0 : TwoV w.heap.size x y z a b c W ∧ Below (w.heap.size + 1 + 1) W W := ⟨hTwo, Below.refl _ _⟩
  have hz : w.heap.size + 1 + 1 < W.heap.size := by omega
  unfold TwoV at hS0
  have HC := Lib.hid (HT.out W.drew)
  clear hW hsz hB0 hTwo HT
  go_region_held3 (fun W' => (W'.cell? ⟨w.heap.size, 0, none⟩ = some (.int .i64 x) ∧ W'.cell? ⟨w.heap.size, 1, none⟩ = some (.int .i64 y) ∧ W'.cell? ⟨w.heap.size, 2, none⟩ = some (.int .i64 z) ∧
    W'.cell? ⟨w.heap.size + 1, 0, none⟩ = some (.int .i64 a) ∧ W'.cell? ⟨w.heap.size + 1, 1, none⟩ = some (.int .i64 b) ∧ W'.cell? ⟨w.heap.size + 1, 2, none⟩ = some (.int .i64 c)) ∧ Below (w.heap.size + 1 + 1) W W')
    (first | (exact ⟨hS0.1, hS0.2.drew⟩) | (exact TwoV.held hS0.1 (Below.mono (B := W.heap.size) (by assumption) (by omega))) | (exact TwoV.held3 hS0.1 hB4 hz))
    (first
      | (go_at_call 44; refine HC.out.mono ?_; rintro e3 W1 ⟨rfl, hb3⟩; (have hB3 : Below W.heap.size W W1 := (Below.refl _ _).drew.trans hb3))
      | (go_at_call 43; refine (HP.out _).mono ?_; rintro e4 W2 ⟨rfl, hb4⟩; (have hB4 : Below W.heap.size W W2 := hB3.trans (hb4.mono hB3.size)); obtain ⟨hcc, hff⟩ := Dy.bcell hB4))
  have HB : Hid (Below w.heap.size w W2) := HS.out.trans (hB4.mono (by omega))
  clear hb3 hB3 hb4 hB4
  go_wp2_with fail
  refine bodyPost_ret (v := .agg #[.int .i64 X, .int .i64 Y, .int .i64 Z]) (by simp [results, Tryd.results20, go_sem, hcc, hz, r0, r1, r2]) rfl ⟨rfl, ?_⟩
  exact ((HB.out.setCell (by simp; omega) _).setCell (by simp; omega) _).setCell (by simp; omega) _
end Go.Proofs.YtlbffdgojmjijaaDoor
