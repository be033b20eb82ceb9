/-
  WALKS: the example that each statement of layer 7 checks.
-/
import Derived.Test.YtlbffdgojmjijaaDoorDeF1
import Derived.Test.YtlbffdgojmjijaaDoorDeD
import Derived.Test.YtlbffdgojmjijaaDoorDyL
namespace Go.Proofs.YtlbffdgojmjijaaDoor
open Go.RowKit

def exL (i : Nat) : Int := [2, 0, 0, 0, 3, 0].getD i 0
theorem exL_ok : VsOk 2 exL := ⟨by omega, fun i hi j hj => by
  rcases (by omega : i = 0 ∨ i = 1) with rfl | rfl <;> rcases (by omega : j = 0 ∨ j = 1 ∨ j = 2) with rfl | rfl | rfl <;> decide⟩
theorem txt44 : ((((⟨#[91]⟩ ++ Dy.digit 4) ++ ⟨#[44]⟩) ++ Dy.digit 4) ++ ⟨#[93]⟩ : ByteArray) = ⟨#[91, 52, 44, 52, 93]⟩ := by decide

set_option maxRecDepth 100000 in
set_option maxHeartbeats 4000000 in
theorem awake7_of (w : World) (hT : Dy.Tab w) : Calls Tryd.prog 8 #[] w fun e w' => e = .returned (.bool true) ∧ Below w.heap.size w w' := by
  have HT := Lib.hid hT
  clear hT
  go_enter Tryd.func8, Tryd.ntmps8
  go_wp2_with fail
  obtain ⟨W, hW⟩ : ∃ W, W = w.alloc (.cells #[.int .i64 0, .int .i64 (-4), .int .i64 (-4), .int .i64 0] 3) := ⟨_, rfl⟩
  rw [← hW]
  have hB : Below w.heap.size w W := by rw [hW]; exact (Below.refl _ _).alloc (Nat.le_refl _) _
  have hA : W.heap[w.heap.size]? = some (.cells #[.int .i64 0, .int .i64 (-4), .int .i64 (-4), .int .i64 0] 3 (0, 0)) := by rw [hW]; exact World.alloc_heap_new w _
  have HS : Hid (Sl W 1 (some ⟨w.heap.size, 0, none⟩) 4 exP) := fun _ => ⟨w.heap.size, 0, rfl, fun i hi => by
    rw [Nat.zero_add]
    simp only [World.cell?, hA]
    rcases (by omega : i = 0 ∨ i = 1 ∨ i = 2 ∨ i = 3) with rfl | rfl | rfl | rfl <;> rfl⟩
  have HB := Lib.hid hB
  clear hW hB hA
  refine (chord_ex W _ 4 HS.out (HT.out.keep HB.out)).mono ?_
  rintro e W1 ⟨v, rfl, ⟨p1, n1, c1, p2, n2, c2, rfl, hn1, hn2⟩, hB1⟩
  have HN1 := Lib.hid hn1
  have HN2 := Lib.hid hn2
  have HB1 := Lib.hid (HB.out.trans (hB1.mono HB.out.size))
  clear hn1 hn2 hB1 HS
  go_wp2_with fail
  obtain ⟨W2, hW2⟩ : ∃ W2, W2 = (W1.alloc (.cells #[.bool false, .slice p1 n1 c1, .int .i64 2, .bool false, .slice p2 n2 c2, .int .i64 2] 62)).alloc (.cells #[.int .i64 2, .int .i64 0, .int .i64 0, .int .i64 0, .int .i64 3, .int .i64 0] 36) := ⟨_, rfl⟩
  rw [← hW2]
  have hB2 : Below W1.heap.size W1 W2 := by rw [hW2]; exact ((Below.refl _ _).alloc (Nat.le_refl _) _).alloc (by simp) _
  have hA2 : W2.heap[W1.heap.size]? = some (.cells #[.bool false, .slice p1 n1 c1, .int .i64 2, .bool false, .slice p2 n2 c2, .int .i64 2] 62 (0, 0)) := by rw [hW2]; exact al_old (World.alloc_heap_new W1 _) _
  have hA3 : W2.heap[W1.heap.size + 1]? = some (.cells #[.int .i64 2, .int .i64 0, .int .i64 0, .int .i64 0, .int .i64 3, .int .i64 0] 36 (0, 0)) := by rw [hW2]; exact al_1 W1 _ _
  have HL : Hid (Sl W2 3 (some ⟨W1.heap.size + 1, 0, none⟩) 2 exL) := fun _ => ⟨W1.heap.size + 1, 0, rfl, fun i hi => by
    rw [Nat.zero_add]
    simp only [World.cell?, hA3]
    rcases (by omega : i = 0 ∨ i = 1 ∨ i = 2 ∨ i = 3 ∨ i = 4 ∨ i = 5) with rfl | rfl | rfl | rfl | rfl | rfl <;> rfl⟩
  have HB2 := Lib.hid hB2
  have HA2 := Lib.hid hA2
  clear hW2 hB2 hA2 hA3
  refine (line_of2 W2 _ 2 2 exL exL_ok HL.out).mono ?_
  rintro e W3 ⟨G, rfl, hG0, hG, hB3⟩
  have HG := Lib.hid hG
  have HB13 : Hid (Below W1.heap.size W1 W3) := HB2.out.trans (hB3.mono HB2.out.size)
  have HA3 := Lib.hid ((hB3.block _ (Array.getElem?_eq_some_iff.1 HA2.out).1).trans HA2.out)
  have s0 : W3.cell? ⟨W1.heap.size, 0, none⟩ = some (.bool false) := cell_h HA3.out rfl
  have s1 : W3.cell? ⟨W1.heap.size, 1, none⟩ = some (.slice p1 n1 c1) := cell_h HA3.out rfl
  have s2 : W3.cell? ⟨W1.heap.size, 2, none⟩ = some (.int .i64 2) := cell_h HA3.out rfl
  have s3 : W3.cell? ⟨W1.heap.size, 3, none⟩ = some (.bool false) := cell_h HA3.out rfl
  have s4 : W3.cell? ⟨W1.heap.size, 4, none⟩ = some (.slice p2 n2 c2) := cell_h HA3.out rfl
  have s5 : W3.cell? ⟨W1.heap.size, 5, none⟩ = some (.int .i64 2) := cell_h HA3.out rfl
  clear hG hB3 HL HA2
  go_wp2_with fail
  refine (Dy.span_text W3 false false p1 p2 n1 c1 n2 c2 2 2 (Dy.digit 4) (Dy.digit 4) (by decide) (by decide)
    (fun W hW => Dy.text_int W p1 n1 c1 1 2 4 ((HN1.out.keep HB13.out).keep hW) (by decide) (by decide) (by decide) (by decide))
    (fun W hW => Dy.text_int W p2 n2 c2 1 2 4 ((HN2.out.keep HB13.out).keep hW) (by decide) (by decide) (by decide) (by decide))).mono ?_
  rintro e W4 ⟨v4, rfl, rfl, hB4⟩
  rw [txt44]
  have hG4 := HG.out.keep hB4 HG.out.lt
  have d0 : W4.cell? ⟨G, 6, none⟩ = some (.int .i64 2) := hG4.cell (k := 6) (by omega)
  have d1 : W4.cell? ⟨G, 7, none⟩ = some (.int .i64 3) := hG4.cell (k := 7) (by omega)
  have d2 : W4.cell? ⟨G, 8, none⟩ = some (.int .i64 0) := hG4.cell (k := 8) (by omega)
  have HB4 := Lib.hid (HB1.out.trans ((HB13.out.trans (hB4.mono HB13.out.size)).mono HB1.out.size))
  clear hB4 hG4 s0 s1 s2 s3 s4 s5
  go_wp2_with fail
  go_ret
  exact ⟨rfl, HB4.out⟩
end Go.Proofs.YtlbffdgojmjijaaDoor
