/-
  WALKS: growth: sort.Search on the document's example.
-/
import Derived.Test.YtlbffdgojmjijaaGreatDoorGrX
namespace Go.Proofs.YtlbffdgojmjijaaGreatDoor
open Go.RowKit

set_option maxHeartbeats 4000000 in
theorem passes2_of (w : World) (Q P L : Nat) (a3 a4 a6 : Bool) (p3 p4 p6 : Option Addr) (n3 k3 n4 k4 n6 k6 : Nat) (e3 e4 e6 : Int) (hq : w.cell? ⟨Q, 0, none⟩ = some (.func (Fn.func 57) #[] #[.pointer (some ⟨P, 0, none⟩), .pointer (some ⟨L, 0, none⟩)])) (h : DaW w P L a3 a4 a6 p3 p4 p6 n3 k3 n4 k4 n6 k6 e3 e4 e6) (d : Int) (hd : 0 ≤ d ∧ d ≤ 50000) (b : Bool) (hb : b = decide (1000 < d + 1)) (hT : Dy.Tab w) :
    Calls Tryz.prog 60 #[.int .i64 d, .pointer (some ⟨Q, 0, none⟩)] w fun e w' => e = .returned (.bool b) ∧ Below w.heap.size w w' := by
  have HC : Hid (Calls Tryz.prog 57 #[.int .i64 (d + 1), .pointer (some ⟨P, 0, none⟩), .pointer (some ⟨L, 0, none⟩)] w fun e w' => e = .returned (.bool b) ∧ Below w.heap.size w w') := passes_of w P L a3 a4 a6 p3 p4 p6 n3 k3 n4 k4 n6 k6 e3 e4 e6 h (d + 1) (by omega) b hb hT
  have w1 : IntKind.i64.wrap (d + 1) = d + 1 := IntWalk.i64_in _ (by omega)
  clear h hT hb
  go_enter Tryz.func60, Tryz.ntmps60
  go_wp2_with fail
  refine HC.out.mono ?_
  rintro e W ⟨rfl, hB⟩
  have HB := Lib.hid hB
  clear hB
  go_wp2_with fail
  go_ret
  exact ⟨rfl, HB.out⟩
set_option maxRecDepth 100000 in
set_option maxHeartbeats 8000000 in
theorem search_ex (w : World) (Q P L : Nat) (a3 a4 a6 : Bool) (p3 p4 p6 : Option Addr) (n3 k3 n4 k4 n6 k6 : Nat) (e3 e4 e6 : Int) (hq : w.cell? ⟨Q, 0, none⟩ = some (.func (Fn.func 57) #[] #[.pointer (some ⟨P, 0, none⟩), .pointer (some ⟨L, 0, none⟩)])) (h : DaW w P L a3 a4 a6 p3 p4 p6 n3 k3 n4 k4 n6 k6 e3 e4 e6) (hT : Dy.Tab w) :
    Calls Tryz.prog 59 #[.int .i64 36500, .func (Fn.func 60) #[] #[.pointer (some ⟨Q, 0, none⟩)]] w fun e w' => e = .returned (.int .i64 1000) ∧ Below w.heap.size w w' := by
  have HC : Hid (∀ V, Below w.heap.size w V → ∀ d : Int, 0 ≤ d ∧ d ≤ 50000 → ∀ b, b = decide (1000 < d + 1) → Calls Tryz.prog 60 #[.int .i64 d, .pointer (some ⟨Q, 0, none⟩)] V fun e w' => e = .returned (.bool b) ∧ Below V.heap.size V w') := fun V hV d hd b hb => passes2_of V Q P L a3 a4 a6 p3 p4 p6 n3 k3 n4 k4 n6 k6 e3 e4 e6 ((hV.cell (World.block_lt_of_cell? _ _ hq)).trans hq) (h.keep hV) d hd b hb (hT.keep hV)
  clear hq h hT
  go_enter Tryz.func59, Tryz.ntmps59
  go_wp2_with fail
  go_loopw [5, 6] (fun vi vj wr => ∃ i j : Int, (0 ≤ i ∧ i ≤ 1000 ∧ 1000 ≤ j ∧ j ≤ 36500) ∧ vi = .int .i64 i ∧ vj = .int .i64 j ∧ Hid (Below w.heap.size w wr)) (fun vi vj _ => (intOf vj - intOf vi).toNat)
  case atStart => exact ⟨0, 36500, by omega, rfl, rfl, Below.refl _ _⟩
  case round =>
    obtain ⟨i, j, hij, rfl, rfl, HB⟩ := hrel
    have w1 : IntKind.i64.wrap (i + j) = i + j := IntWalk.i64_in _ (by omega)
    by_cases hlt : i < j
    · go_wp2_with fail
      obtain ⟨m, hm⟩ : ∃ m, (i + j) / 2 = m := ⟨_, rfl⟩
      have hm2 : i ≤ m ∧ m < j := by omega
      rw [hm]
      clear hm
      by_cases h1 : 1000 < m + 1
      · refine (HC.out wr HB.out m (by omega) true (by symm; rw [decide_eq_true_iff]; exact h1)).mono ?_
        rintro e W ⟨rfl, hB⟩
        have HBn := Lib.hid (low_trans HB.out hB)
        clear hB
        go_wp2_with fail
        exact ⟨⟨i, m, by omega, rfl, rfl, HBn.out⟩, by simp [intOf]; omega⟩
      · refine (HC.out wr HB.out m (by omega) false (by symm; rw [decide_eq_false_iff_not]; exact h1)).mono ?_
        rintro e W ⟨rfl, hB⟩
        have HBn := Lib.hid (low_trans HB.out hB)
        have w2 : IntKind.i64.wrap (m + 1) = m + 1 := IntWalk.i64_in _ (by omega)
        clear hB
        go_wp2_with fail
        exact ⟨⟨m + 1, j, by omega, rfl, rfl, HBn.out⟩, by simp [intOf]; omega⟩
    · obtain rfl : i = 1000 := by omega
      obtain rfl : j = 1000 := by omega
      go_wp2_with fail
      go_ret
      exact ⟨rfl, HB.out⟩
end Go.Proofs.YtlbffdgojmjijaaGreatDoor
