/-
  WALKS: Odometer, Calibrate.
-/
import Derived.Test.YtdibljidagiblaaDoorPnA
namespace Go.Proofs.YtdibljidagiblaaDoor
open Go.RowKit

/-- What Odometer and Calibrate tell: both ends and the error. -/
def odo (t lo hi : Int) : Int × Int × Int := if t < 0 ∨ 1048576 < t then (0, 0, 1) else if rgErr lo hi 0 1000000 ≠ 0 then (0, 0, rgErr lo hi 0 1000000) else (t * lo / 1000, ce (t * hi) 1000, 0)
def cal (t lo hi : Int) : Int × Int × Int := if t = 0 then (0, 0, 3) else if t < 0 ∨ 1048576 < t then (0, 0, 1) else if rgErr lo hi 0 1073741824 ≠ 0 then (0, 0, rgErr lo hi 0 1073741824) else (1000 * lo / t, ce (1000 * hi) t, 0)
def resV (r : Int × Int × Int) : Value := .tuple #[.agg #[.int .i64 r.1, .int .i64 r.2.1], .int .i64 r.2.2]
theorem mul_bd {a b A B : Int} (ha : 0 ≤ a ∧ a ≤ A) (hb : 0 ≤ b ∧ b ≤ B) : 0 ≤ a * b ∧ a * b ≤ A * B :=
  ⟨Int.mul_nonneg ha.1 hb.1, Int.mul_le_mul ha.2 hb.2 hb.1 (by omega)⟩

set_option maxRecDepth 100000 in
set_option maxHeartbeats 4000000 in
theorem odometer_of (w : World) (t lo hi : Int) :
    Calls Tryd.prog 11 #[.int .i64 t, .agg #[.int .i64 lo, .int .i64 hi]] w fun e w' => e = .returned (resV (odo t lo hi)) ∧ Below w.heap.size w w' := by
  by_cases h1 : t < 0
  · have hE : odo t lo hi = (0, 0, 1) := by unfold odo; rw [if_pos (.inl h1)]
    rw [hE]
    clear hE
    go_enter Tryd.func11, Tryd.ntmps11
    go_wp2_with fail
    exact bodyPost_ret (v := resV (0, 0, 1)) (by simp [results, Tryd.f11, go_sem, resV]) rfl ⟨rfl, ((Below.refl _ w).alloc (Nat.le_refl _) _).alloc (by simp) _⟩
  by_cases h2 : 1048576 < t
  · have hE : odo t lo hi = (0, 0, 1) := by unfold odo; rw [if_pos (.inr h2)]
    rw [hE]
    clear hE
    go_enter Tryd.func11, Tryd.ntmps11
    go_wp2_with fail
    exact bodyPost_ret (v := resV (0, 0, 1)) (by simp [results, Tryd.f11, go_sem, resV]) rfl ⟨rfl, ((Below.refl _ w).alloc (Nat.le_refl _) _).alloc (by simp) _⟩
  by_cases h3 : rgErr lo hi 0 1000000 = 0
  · have hE : odo t lo hi = (t * lo / 1000, ce (t * hi) 1000, 0) := by unfold odo; rw [if_neg (by omega), if_neg (by simpa using h3)]
    have hr : 0 ≤ lo ∧ lo ≤ 1000000 ∧ 0 ≤ hi ∧ hi ≤ 1000000 := by
      rcases rg_ways lo hi 0 1000000 with ⟨_, h⟩ | ⟨_, h⟩ | ⟨h, _⟩ <;> omega
    have b1 := mul_bd (a := t) (b := lo) (A := 1048576) (B := 1000000) (by omega) (by omega)
    have b2 := mul_bd (a := t) (b := hi) (A := 1048576) (B := 1000000) (by omega) (by omega)
    have w1 : IntKind.i64.wrap (t * lo) = t * lo := IntWalk.i64_in _ (by omega)
    have w2 : IntKind.i64.wrap (t * hi) = t * hi := IntWalk.i64_in _ (by omega)
    have HR := Lib.hid h3
    rw [hE]
    clear hE h3 hr
    go_enter Tryd.func11, Tryd.ntmps11
    go_wp2_with fail
    refine (checkRange_of _ lo hi 0 1000000).mono ?_
    rintro e w' ⟨rfl, rfl⟩
    rw [HR.out]
    go_wp2_with fail
    have a1 := al_old (al_1 w (.cells #[.int .i64 lo, .int .i64 hi] 32) (.cells #[.int .i64 0, .int .i64 0] 32)) (.cells #[.int .i64 lo, .int .i64 hi] 32)
    have hB3 : Below w.heap.size w (((w.alloc (.cells #[.int .i64 lo, .int .i64 hi] 32)).alloc (.cells #[.int .i64 0, .int .i64 0] 32)).alloc (.cells #[.int .i64 lo, .int .i64 hi] 32)) := (((Below.refl _ w).alloc (Nat.le_refl _) _).alloc (by simp) _).alloc (by simp; omega) _
    generalize ((w.alloc (.cells #[.int .i64 lo, .int .i64 hi] 32)).alloc (.cells #[.int .i64 0, .int .i64 0] 32)).alloc (.cells #[.int .i64 lo, .int .i64 hi] 32) = W3 at a1 hB3 ⊢
    refine (outward_of W3 (t * lo) (t * hi) 1000 (by decide) (by decide) (by omega) (by omega)).mono ?_
    rintro e w4 ⟨rfl, hB4⟩
    have a4 := (hB4.block _ (Array.getElem?_eq_some_iff.1 a1).1).trans a1
    have c0 : w4.cell? ⟨w.heap.size + 1, 0, none⟩ = some (.int .i64 0) := cell_h a4 rfl
    have c1 : w4.cell? ⟨w.heap.size + 1, 1, none⟩ = some (.int .i64 0) := cell_h a4 rfl
    have z : ∀ o, w4.frozen? ⟨w.heap.size + 1, o, none⟩ = false := fun o => by simp [World.frozen?, a4]
    have HB := Lib.hid (hB3.trans (hB4.mono hB3.size))
    clear a1 a4 hB3 hB4 b1 b2 w1 w2
    go_wp2_with fail
    exact bodyPost_ret (v := resV (t * lo / 1000, ce (t * hi) 1000, 0)) (by simp [results, Tryd.f11, go_sem, resV, c0, c1]) rfl ⟨rfl, (HB.out.setCell (p := ⟨w.heap.size + 1, 0, none⟩) (by show w.heap.size ≤ w.heap.size + 1; omega) _).setCell (p := ⟨w.heap.size + 1, 1, none⟩) (by show w.heap.size ≤ w.heap.size + 1; omega) _⟩
  · have hE : odo t lo hi = (0, 0, rgErr lo hi 0 1000000) := by unfold odo; rw [if_neg (by omega), if_pos (by simpa using h3)]
    rw [hE]
    clear hE
    have hne : (rgErr lo hi 0 1000000 == 0) = false := by simpa using h3
    have hne2 : (rgErr lo hi 0 1000000 != 0) = true := by simpa using h3
    clear h3
    go_enter Tryd.func11, Tryd.ntmps11
    go_wp2_with fail
    refine (checkRange_of _ lo hi 0 1000000).mono ?_
    rintro e w' ⟨rfl, rfl⟩
    go_wp2_with fail
    exact bodyPost_ret (v := resV (0, 0, rgErr lo hi 0 1000000)) (by simp [results, Tryd.f11, go_sem, resV]) rfl ⟨rfl, (((Below.refl _ w).alloc (Nat.le_refl _) _).alloc (by simp) _).alloc (by simp; omega) _⟩
end Go.Proofs.YtdibljidagiblaaDoor
