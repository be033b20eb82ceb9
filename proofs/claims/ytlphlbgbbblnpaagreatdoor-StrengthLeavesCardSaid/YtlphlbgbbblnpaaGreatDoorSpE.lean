/-
  WALKS: the example that each statement of layer 9 checks.
-/
import Derived.Test.YtlphlbgbbblnpaaGreatDoorStZ
import Derived.Test.YtlphlbgbbblnpaaGreatDoorStY
import Derived.Test.YtlphlbgbbblnpaaGreatDoorStF
import Derived.Test.YtlphlbgbbblnpaaGreatDoorStWM
namespace Go.Proofs.YtlphlbgbbblnpaaGreatDoor
open Go.RowKit

def j9 (i : Nat) : Int := ([6, 2, 0, 3, 4, 2, 0, 3, 3, 1, 0, 3] : List Int).getD i 0
theorem j9_ok : jsE j9 3 1 3 = 0 := by decide +kernel
theorem j9_gr : grl j9 3 1 3 = [(0, 0, 0), (2, 0, 2)] := by decide +kernel
set_option maxRecDepth 100000 in
set_option maxHeartbeats 16000000 in
theorem awake9_of (w : World) (hT : Dy.Tab w) (hP : Dy.Pow w) : Calls Tryz.prog 14 #[] w fun e w' => e = .returned (.bool true) ∧ Below w.heap.size w w' := by
  have HT := Lib.hid hT
  have HP := Lib.hid hP
  clear hT hP
  go_enter Tryz.func14, Tryz.ntmps14
  go_wp2_with fail
  obtain ⟨W, hW⟩ : ∃ W, ((w.alloc (.cells #[.int .i64 1000, .int .i64 10000, .int .i64 400000] 114)).alloc (.cells #[.int .i64 0, .int .i64 100, .int .i64 0] 120)) = W := ⟨_, rfl⟩
  rw [hW]
  have hB : Below w.heap.size w W := by rw [← hW]; exact ((Below.refl _ _).alloc (Nat.le_refl _) _).alloc (by simp) _
  have hR : W.heap[w.heap.size + 1]? = some (.cells #[.int .i64 0, .int .i64 100, .int .i64 0] 120 (0, 0)) := by rw [← hW]; exact al_1 w _ _
  have hSt : StpB W (w.heap.size + 1) := ⟨cell_h hR rfl, cell_h hR rfl, cell_h hR rfl⟩
  have HB := Lib.hid hB
  clear hW hB hR
  refine (sFailure_of W (w.heap.size + 1) hSt (HT.out.keep HB.out)).mono ?_
  rintro e V1 ⟨v, ee, rfl, ⟨rfl, hs⟩, hb⟩
  have HS := Lib.hid hs
  obtain ⟨b1, q1, l1, c1, f1, b2, q2, l2, c2, f2, rfl, _, _⟩ := id hs
  replace HB := Lib.hid (low_trans HB.out hb)
  clear hb hs hSt
  go_upto_region 3 with fail
  obtain ⟨W5, hW5⟩ : ∃ W, V1.alloc (.cells #[.bool b1, .slice q1 l1 c1, .int .i64 f1, .bool b2, .slice q2 l2 c2, .int .i64 f2] 116) = W := ⟨_, rfl⟩
  rw [hW5]
  have hb : Below V1.heap.size V1 W5 := by rw [← hW5]; exact (Below.refl _ _).alloc (Nat.le_refl _) _
  have HZ : Hid (W5.heap[V1.heap.size]? = some (.cells #[.bool b1, .slice q1 l1 c1, .int .i64 f1, .bool b2, .slice q2 l2 c2, .int .i64 f2] 116 (0, 0))) := by rw [← hW5]; exact World.alloc_heap_new V1 _
  replace HS := Lib.hid (SpI.keep HS.out hb)
  replace HB := Lib.hid (low_trans HB.out hb)
  obtain ⟨nb, hnb⟩ : ∃ nb, V1.heap.size = nb := ⟨_, rfl⟩
  rw [hnb] at HZ
  rw [hnb]
  clear hb hW5 hnb
  go_wp2_with fail
  have ha := (Below.refl W5.heap.size W5).alloc (Nat.le_refl _) (.cells #[.int .i64 6, .int .i64 2, .int .i64 0, .int .i64 3, .int .i64 4, .int .i64 2, .int .i64 0, .int .i64 3, .int .i64 3, .int .i64 1, .int .i64 0, .int .i64 3] 66)
  have hN := World.alloc_heap_new W5 (.cells #[.int .i64 6, .int .i64 2, .int .i64 0, .int .i64 3, .int .i64 4, .int .i64 2, .int .i64 0, .int .i64 3, .int .i64 3, .int .i64 1, .int .i64 0, .int .i64 3] 66)
  generalize W5.alloc (.cells #[.int .i64 6, .int .i64 2, .int .i64 0, .int .i64 3, .int .i64 4, .int .i64 2, .int .i64 0, .int .i64 3, .int .i64 3, .int .i64 1, .int .i64 0, .int .i64 3] 66) = W6 at *
  replace HS := Lib.hid (SpI.keep HS.out ha)
  replace HB := Lib.hid (low_trans HB.out ha)
  replace HZ := Lib.hid (blk1 HZ.out ha)
  have hSl : Sl W6 4 (some ⟨W5.heap.size, 0, none⟩) 3 j9 := fun _ => ⟨_, 0, rfl, fun i hi => by
    rw [Nat.zero_add]
    rcases (by omega : i = 0 ∨ i = 1 ∨ i = 2 ∨ i = 3 ∨ i = 4 ∨ i = 5 ∨ i = 6 ∨ i = 7 ∨ i = 8 ∨ i = 9 ∨ i = 10 ∨ i = 11) with rfl | rfl | rfl | rfl | rfl | rfl | rfl | rfl | rfl | rfl | rfl | rfl <;> exact cell_h hN rfl⟩
  have HG := greedy_of W6 (some ⟨W5.heap.size, 0, none⟩) 3 3 j9 1 3 (by decide) j9_ok hSl
  rw [j9_gr] at HG
  clear ha hN hSl
  refine HG.mono ?_
  rintro e V3 ⟨x, k, rfl, hk, hsl, hb⟩
  replace HS := Lib.hid (SpI.keep HS.out hb)
  replace HB := Lib.hid (low_trans HB.out hb)
  replace HZ := Lib.hid (blk1 HZ.out hb)
  obtain ⟨b4, o4, rfl, hI⟩ := hsl (by decide)
  have HI := Lib.hid hI
  have hk2 : 2 ≤ k := hk
  have s0 := cell_h (k := 0) HZ.out rfl
  have s1 := cell_h (k := 1) HZ.out rfl
  have s2 := cell_h (k := 2) HZ.out rfl
  have s3 := cell_h (k := 3) HZ.out rfl
  have s4 := cell_h (k := 4) HZ.out rfl
  have s5 := cell_h (k := 5) HZ.out rfl
  clear hb HG hsl hI hk
  obtain ⟨x1, x2, x3, x4, x5, y1, y2, y3, y4, y5, ev, hx, hy⟩ := HS.out
  have ex1 : Dy.mk 8000 0 = Dy.mk ((125 : Nat) : Int) 6 := Dy.mk_shift 125 0 6
  simp only [Value.agg.injEq, Array.mk.injEq, List.cons.injEq, Value.bool.injEq, Value.slice.injEq, Value.int.injEq, and_true, true_and] at ev
  obtain ⟨rfl, ⟨rfl, rfl, rfl⟩, rfl, rfl, ⟨rfl, rfl, rfl⟩, rfl⟩ := ev
  rw [ex1] at hx hy
  obtain ⟨_, _, _, _, _, m1, eq1, hn1, hc1⟩ := hx.fields
  obtain ⟨_, _, _, _, _, m2, eq2, hn2, hc2⟩ := hy.fields
  cases eq1
  cases eq2
  obtain ⟨rfl, rfl, rfl⟩ := Dy.canon_odd hc1 (by decide)
  obtain ⟨rfl, rfl, rfl⟩ := Dy.canon_odd hc2 (by decide)
  have HN1 := Lib.hid hn1
  have HN2 := Lib.hid hn2
  clear hx hy hn1 hn2 hc1 hc2 ex1 HS
  go_wp2_with fail
  refine (Dy.span_text V3 false false _ _ _ _ _ _ 6 6 ⟨#[56, 48, 48, 48]⟩ ⟨#[56, 48, 48, 48]⟩ (by decide) (by decide)
    (fun W hW => Dy.text_of4 ⟨#[56, 48, 48, 48]⟩ W _ _ _ 125 6 8000 (HN1.out.keep hW) (by decide) (by decide) (by decide) (by decide) (HP.out.keep (low_trans HB.out hW)) (fun V hV => Dy.format_8000 V hV))
    (fun W hW => Dy.text_of4 ⟨#[56, 48, 48, 48]⟩ W _ _ _ 125 6 8000 (HN2.out.keep hW) (by decide) (by decide) (by decide) (by decide) (HP.out.keep (low_trans HB.out hW)) (fun V hV => Dy.format_8000 V hV))).mono ?_
  rintro e w12 ⟨v12, rfl, rfl, hb⟩
  rw [txt8000]
  have HB12 := Lib.hid (low_trans HB.out hb)
  have hJ := (HI.out).keep hb (HI.out.lt (by decide))
  have d3 : w12.cell? ⟨b4, o4 + 3, none⟩ = some (.int .i64 2) := hJ 3 (by decide)
  have d4 : w12.cell? ⟨b4, o4 + 3 + 1, none⟩ = some (.int .i64 0) := hJ.at 3 1 (by decide)
  have d5 : w12.cell? ⟨b4, o4 + 3 + 2, none⟩ = some (.int .i64 2) := hJ.at 3 2 (by decide)
  clear hb s0 s1 s2 s3 s4 s5 HI HZ hJ
  go_wp2_with fail
  go_ret
  exact ⟨rfl, HB12.out⟩
end Go.Proofs.YtlphlbgbbblnpaaGreatDoor
