/-
  WALKS: the text of a span out of the texts of its ends.
-/
import Derived.Test.YtlphlbgbbblnpaaGreatDoorDyK
import Derived.Test.YtlphlbgbbblnpaaGreatDoorDyJ
namespace Go.Proofs.YtlphlbgbbblnpaaGreatDoor.Dy
open Go.RowKit

theorem span_keep {W W' : World} {b : Nat} {a0 a1 a2 x y z : Value} (h : W.cell? ⟨b, 0, none⟩ = some a0 ∧ W.cell? ⟨b, 1, none⟩ = some a1 ∧ W.cell? ⟨b, 2, none⟩ = some a2 ∧ W.cell? ⟨b, 3, none⟩ = some x ∧ W.cell? ⟨b, 4, none⟩ = some y ∧ W.cell? ⟨b, 5, none⟩ = some z) (hb : Below W.heap.size W W') (hl : b < W.heap.size) :
    W'.cell? ⟨b, 0, none⟩ = some a0 ∧ W'.cell? ⟨b, 1, none⟩ = some a1 ∧ W'.cell? ⟨b, 2, none⟩ = some a2 ∧ W'.cell? ⟨b, 3, none⟩ = some x ∧ W'.cell? ⟨b, 4, none⟩ = some y ∧ W'.cell? ⟨b, 5, none⟩ = some z := by
  have e : ∀ o, W'.cell? ⟨b, o, none⟩ = W.cell? ⟨b, o, none⟩ := fun o => hb.cell (p := ⟨b, o, none⟩) hl
  simp only [e]
  exact h
set_option maxRecDepth 8000 in
set_option maxHeartbeats 1600000 in
theorem span_text (w : World) (b1 b2 : Bool) (p1 p2 : Option Addr) (n1 c1 n2 c2 : Nat) (f1 f2 : Int) (s1 s2 : ByteArray) (hz1 : s1.size ≤ 1000) (hz2 : s2.size ≤ 1000)
    (hC : ∀ W, Below w.heap.size w W → Calls Tryz.prog 83 #[.agg #[.bool b1, .slice p1 n1 c1, .int .i64 f1]] W (Ret W fun _ v => v = .string s1))
    (hD : ∀ W, Below w.heap.size w W → Calls Tryz.prog 83 #[.agg #[.bool b2, .slice p2 n2 c2, .int .i64 f2]] W (Ret W fun _ v => v = .string s2)) :
    Calls Tryz.prog 42 #[.agg #[.bool b1, .slice p1 n1 c1, .int .i64 f1, .bool b2, .slice p2 n2 c2, .int .i64 f2]] w
      (Ret w fun _ v => v = .string ((((⟨#[91]⟩ ++ s1) ++ ⟨#[44]⟩) ++ s2) ++ ⟨#[93]⟩)) := by
  have q1 : (⟨#[91]⟩ : ByteArray).size = 1 := rfl
  have q2 : (⟨#[44]⟩ : ByteArray).size = 1 := rfl
  have q3 : (⟨#[93]⟩ : ByteArray).size = 1 := rfl
  have hA1 : ∀ W', (Op.stringOp .add ⟨#[91]⟩ s1).run Tryz.prog W' = .ok (.string (⟨#[91]⟩ ++ s1)) W' := fun W' => run_string_add_sum W' _ _ (by omega)
  have hA2 : ∀ W', (Op.stringOp .add (⟨#[91]⟩ ++ s1) ⟨#[44]⟩).run Tryz.prog W' = .ok (.string ((⟨#[91]⟩ ++ s1) ++ ⟨#[44]⟩)) W' := fun W' => run_string_add_sum W' _ _ (by rw [ByteArray.size_append]; omega)
  have hA3 : ∀ W', (Op.stringOp .add ((⟨#[91]⟩ ++ s1) ++ ⟨#[44]⟩) s2).run Tryz.prog W' = .ok (.string (((⟨#[91]⟩ ++ s1) ++ ⟨#[44]⟩) ++ s2)) W' := fun W' => run_string_add_sum W' _ _ (by rw [ByteArray.size_append, ByteArray.size_append]; omega)
  have hA4 : ∀ W', (Op.stringOp .add (((⟨#[91]⟩ ++ s1) ++ ⟨#[44]⟩) ++ s2) ⟨#[93]⟩).run Tryz.prog W' = .ok (.string ((((⟨#[91]⟩ ++ s1) ++ ⟨#[44]⟩) ++ s2) ++ ⟨#[93]⟩)) W' := fun W' => run_string_add_sum W' _ _ (by rw [ByteArray.size_append, ByteArray.size_append, ByteArray.size_append]; omega)
  clear q1 q2 q3 hz1 hz2
  have HC0 := Lib.hid hC
  have HD0 := Lib.hid hD
  clear hC hD
  go_enter Tryz.func42, Tryz.ntmps42
  go_wp2_with fail
  obtain ⟨W, hW⟩ : ∃ W, W = w.alloc (.cells #[.bool b1, .slice p1 n1 c1, .int .i64 f1, .bool b2, .slice p2 n2 c2, .int .i64 f2] 116) := ⟨_, rfl⟩
  rw [← hW]
  have hB0 : Below w.heap.size w W := by rw [hW]; exact (Below.refl _ _).alloc (Nat.le_refl _) _
  have hsz : W.heap.size = w.heap.size + 1 := by rw [hW]; simp
  have x0 : W.cell? ⟨w.heap.size, 0, none⟩ = some (.bool b1) := by rw [hW]; go_simp
  have x1 : W.cell? ⟨w.heap.size, 1, none⟩ = some (.slice p1 n1 c1) := by rw [hW]; go_simp
  have x2 : W.cell? ⟨w.heap.size, 2, none⟩ = some (.int .i64 f1) := by rw [hW]; go_simp
  have x3 : W.cell? ⟨w.heap.size, 3, none⟩ = some (.bool b2) := by rw [hW]; go_simp
  have x4 : W.cell? ⟨w.heap.size, 4, none⟩ = some (.slice p2 n2 c2) := by rw [hW]; go_simp
  have x5 : W.cell? ⟨w.heap.size, 5, none⟩ = some (.int .i64 f2) := by rw [hW]; go_simp
  have hz : w.heap.size < W.heap.size := by omega
  have HB0 := Lib.hid hB0
  clear hW hsz hB0
  have hD : Below W.heap.size W W.drew := (Below.refl _ _).drew
  have hHold : W.cell? ⟨w.heap.size, 0, none⟩ = some (.bool b1) ∧ W.cell? ⟨w.heap.size, 1, none⟩ = some (.slice p1 n1 c1) ∧ W.cell? ⟨w.heap.size, 2, none⟩ = some (.int .i64 f1) ∧ W.cell? ⟨w.heap.size, 3, none⟩ = some (.bool b2) ∧ W.cell? ⟨w.heap.size, 4, none⟩ = some (.slice p2 n2 c2) ∧ W.cell? ⟨w.heap.size, 5, none⟩ = some (.int .i64 f2) := ⟨x0, x1, x2, x3, x4, x5⟩
  have hHoldD := span_keep hHold hD hz
  have HWd : Hid (Below w.heap.size w W.drew) := HB0.out.trans (hD.mono HB0.out.size)
  have HC := Lib.hid (HC0.out W.drew HWd.out)
  clear hD
  go_region_held3 (fun W' => W'.cell? ⟨w.heap.size, 0, none⟩ = some (.bool b1) ∧ W'.cell? ⟨w.heap.size, 1, none⟩ = some (.slice p1 n1 c1) ∧ W'.cell? ⟨w.heap.size, 2, none⟩ = some (.int .i64 f1) ∧ W'.cell? ⟨w.heap.size, 3, none⟩ = some (.bool b2) ∧ W'.cell? ⟨w.heap.size, 4, none⟩ = some (.slice p2 n2 c2) ∧ W'.cell? ⟨w.heap.size, 5, none⟩ = some (.int .i64 f2))
    (with_reducible assumption)
    (first
      | (go_at_call_of 83 (Value.agg #[.bool b1, .slice p1 n1 c1, .int .i64 f1]); refine HC.out.mono ?_; rintro e3 w3 ⟨v3, rfl, rfl, hb3⟩; (have hK3 := span_keep hHoldD hb3 hz); (have HW3 : Hid (Below w.heap.size w w3) := HWd.out.trans (hb3.mono HWd.out.size)); (have hz3 : w.heap.size < w3.heap.size := Nat.lt_of_lt_of_le hz hb3.size))
      | (go_at_call 83; refine (HD0.out w3 HW3.out).mono ?_; rintro e4 w4 ⟨v4, rfl, rfl, hb4⟩; (have hK4 := span_keep hK3 hb4 hz3); (have HW4 : Hid (Below w.heap.size w w4) := HW3.out.trans (hb4.mono HW3.out.size))))
  all_goals
    have HZ := Lib.hid (HW4.out)
    clear hA1 hA2 hA3 hA4
    go_wp2
    go_ret
    exact ⟨_, rfl, rfl, HZ.out⟩
end Go.Proofs.YtlphlbgbbblnpaaGreatDoor.Dy
