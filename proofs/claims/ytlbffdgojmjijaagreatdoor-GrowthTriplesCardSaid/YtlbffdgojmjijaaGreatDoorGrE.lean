/-
  WALKS: the example that each statement of layer 8 checks.
-/
import Derived.Test.YtlbffdgojmjijaaGreatDoorGrY
import Derived.Test.YtlbffdgojmjijaaGreatDoorDyL
namespace Go.Proofs.YtlbffdgojmjijaaGreatDoor
open Go.RowKit

theorem txt37 : ((((⟨#[91]⟩ ++ ⟨#[51, 48, 48]⟩) ++ ⟨#[44]⟩) ++ ⟨#[55, 48, 48]⟩) ++ ⟨#[93]⟩ : ByteArray) = ⟨#[91, 51, 48, 48, 44, 55, 48, 48, 93]⟩ := by decide
set_option maxRecDepth 100000 in
set_option maxHeartbeats 8000000 in
theorem awake8_of (w : World) (hT : Dy.Tab w) (hP : Dy.Pow w) : Calls Tryz.prog 8 #[] w fun e w' => e = .returned (.bool true) ∧ Below w.heap.size w w' := by
  have HT := Lib.hid hT
  have HP := Lib.hid hP
  clear hT hP
  have har : arV 10 710 = 20 := by decide
  have HAr := gAround_yes w 10 710 ⟨by omega, by omega⟩
  rw [har] at HAr
  have HAr := Lib.hid HAr
  clear har
  go_enter Tryz.func8, Tryz.ntmps8
  go_wp2_with fail
  refine HAr.out.mono ?_
  rintro e w1 ⟨rfl, rfl⟩
  clear HAr
  go_wp2_with fail
  refine (found_of _ 0 0 900 1100).mono ?_
  rintro e w2 ⟨rfl, hb⟩
  have HB2 := Lib.hid hb
  clear hb
  go_wp2_with fail
  refine (found_of _ 0 0 1400 1600).mono ?_
  rintro e w3 ⟨rfl, hb⟩
  have HB3 := Lib.hid (low_trans HB2.out hb)
  clear hb HB2
  go_wp2_with fail
  refine (rate_ex _ (HT.out.keep HB3.out)).mono ?_
  rintro e w4 ⟨v4, e4, rfl, ⟨rfl, hv4⟩, hb⟩
  have HV4 : Hid (SpI w4 v4 300 700) := hv4
  obtain ⟨b1, q1, l1, c1, f1, b2, q2, l2, c2, f2, rfl, _, _⟩ := hv4
  have HB4 := Lib.hid (low_trans HB3.out hb)
  clear hb HB3
  go_upto_region 3 with fail
  obtain ⟨W5, hW5⟩ : ∃ W, w4.alloc (.cells #[.bool b1, .slice q1 l1 c1, .int .i64 f1, .bool b2, .slice q2 l2 c2, .int .i64 f2] 69) = W := ⟨_, rfl⟩
  rw [hW5]
  have hb : Below w4.heap.size w4 W5 := by rw [← hW5]; exact (Below.refl _ _).alloc (Nat.le_refl _) _
  have HS5 : Hid (W5.heap[w4.heap.size]? = some (.cells #[.bool b1, .slice q1 l1 c1, .int .i64 f1, .bool b2, .slice q2 l2 c2, .int .i64 f2] 69 (0, 0))) := by rw [← hW5]; exact World.alloc_heap_new w4 _
  have HV5 := Lib.hid (SpI.keep HV4.out hb)
  have HB5 := Lib.hid (low_trans HB4.out hb)
  clear hb hW5 HV4 HB4
  go_wp2_with fail
  refine (Dy.int_nm _ 1000 (by unfold Dy.I64; omega) (HT.out.keep HB5.out)).mono ?_
  rintro e w6 ⟨v6, rfl, hv6, hb⟩
  have HN6 := Lib.hid hv6
  obtain ⟨a6, p6, n6, k6, e6, m6, rfl, _, _⟩ := hv6.fields
  have HB6 := Lib.hid (low_trans HB5.out hb)
  have HS6 := Lib.hid (blk1 HS5.out hb)
  have HV6 := Lib.hid (SpI.keep HV5.out hb)
  clear hb hv6 HB5 HS5 HV5
  go_wp2_with fail
  refine (Dy.only_nm w6 _ _ HN6.out).mono ?_
  rintro e w7 ⟨v7, rfl, hv7, hb⟩
  have HR7 : Hid (SpI w7 v7 1000 1000) := hv7
  obtain ⟨a7, p7, n7, k7, e7, a8, p8, n8, k8, e8, rfl, _, _⟩ := hv7
  have HB7 := Lib.hid (low_trans HB6.out hb)
  have HS7 := Lib.hid (blk1 HS6.out hb)
  have HV7 := Lib.hid (SpI.keep HV6.out hb)
  clear hb HB6 HS6 HV6 HN6
  go_wp2_with fail
  refine (Dy.int_nm _ 365 (by unfold Dy.I64; omega) (HT.out.keep HB7.out)).mono ?_
  rintro e w8 ⟨v8, rfl, hv8, hb⟩
  have HN8 := Lib.hid hv8
  obtain ⟨a9, p9, n9, k9, e9, m9, rfl, _, _⟩ := hv8.fields
  have HB8 := Lib.hid (low_trans HB7.out hb)
  have HS8 := Lib.hid (blk1 HS7.out hb)
  have HV8 := Lib.hid (SpI.keep HV7.out hb)
  have HR8 := Lib.hid (SpI.keep HR7.out hb)
  clear hb hv8 HB7 HS7 HV7 HR7
  go_wp2_with fail
  refine (Dy.only_nm w8 _ _ HN8.out).mono ?_
  rintro e w9 ⟨v9, rfl, hv9, hb⟩
  have HQ9 : Hid (SpI w9 v9 365 365) := hv9
  obtain ⟨a10, p10, n10, k10, e10, a11, p11, n11, k11, e11, rfl, _, _⟩ := hv9
  have HB9 := Lib.hid (low_trans HB8.out hb)
  have HS9 := Lib.hid (blk1 HS8.out hb)
  have HV9 := Lib.hid (SpI.keep HV8.out hb)
  have HR9 := Lib.hid (SpI.keep HR8.out hb)
  clear hb HB8 HS8 HV8 HN8 HR8
  go_wp2_with fail
  refine (Dy.int_nm _ 2000 (by unfold Dy.I64; omega) (HT.out.keep HB9.out)).mono ?_
  rintro e w10 ⟨v10, rfl, hv10, hb⟩
  have HN10 := Lib.hid hv10
  obtain ⟨a12, p12, n12, k12, e12, m12, rfl, _, _⟩ := hv10.fields
  have HB10 := Lib.hid (low_trans HB9.out hb)
  have HS10 := Lib.hid (blk1 HS9.out hb)
  have HV10 := Lib.hid (SpI.keep HV9.out hb)
  have HR10 := Lib.hid (SpI.keep HR9.out hb)
  have HQ10 := Lib.hid (SpI.keep HQ9.out hb)
  clear hb hv10 HB9 HS9 HV9 HR9 HQ9
  go_wp2_with fail
  refine (days_ex w10 a7 a8 a10 a11 a12 p7 p8 p10 p11 p12 n7 k7 n8 k8 n10 k10 n11 k11 n12 k12 e7 e8 e10 e11 e12 HR10.out HQ10.out HN10.out (HT.out.keep HB10.out)).mono ?_
  rintro e w11 ⟨rfl, hb⟩
  have HB11 := Lib.hid (low_trans HB10.out hb)
  have hS11 := blk1 HS10.out hb
  have HV11 := Lib.hid (SpI.keep HV10.out hb)
  have s0 := cell_h (k := 0) hS11 rfl
  have s1 := cell_h (k := 1) hS11 rfl
  have s2 := cell_h (k := 2) hS11 rfl
  have s3 := cell_h (k := 3) hS11 rfl
  have s4 := cell_h (k := 4) hS11 rfl
  have s5 := cell_h (k := 5) hS11 rfl
  clear hb hS11 HB10 HS10 HV10 HR10 HQ10 HN10
  obtain ⟨x1, x2, x3, x4, x5, y1, y2, y3, y4, y5, ev, hx, hy⟩ := HV11.out
  have ex1 : Dy.mk 300 0 = Dy.mk ((75 : Nat) : Int) 2 := Dy.mk_shift 75 0 2
  have ey1 : Dy.mk 700 0 = Dy.mk ((175 : Nat) : Int) 2 := Dy.mk_shift 175 0 2
  simp only [Value.agg.injEq, Array.mk.injEq, List.cons.injEq, Value.bool.injEq, Value.slice.injEq, Value.int.injEq, and_true, true_and] at ev
  obtain ⟨rfl, ⟨rfl, rfl, rfl⟩, rfl, rfl, ⟨rfl, rfl, rfl⟩, rfl⟩ := ev
  rw [ex1] at hx
  rw [ey1] at hy
  obtain ⟨_, _, _, _, _, m1, eq1, hn1, hc1⟩ := hx.fields
  obtain ⟨_, _, _, _, _, m2, eq2, hn2, hc2⟩ := hy.fields
  cases eq1
  cases eq2
  obtain ⟨rfl, rfl, rfl⟩ := Dy.canon_odd hc1 (by decide)
  obtain ⟨rfl, rfl, rfl⟩ := Dy.canon_odd hc2 (by decide)
  have HN1 := Lib.hid hn1
  have HN2 := Lib.hid hn2
  clear hx hy hn1 hn2 hc1 hc2 ex1 ey1 HV11
  go_wp2_with fail
  refine (Dy.span_text w11 false false _ _ _ _ _ _ 2 2 ⟨#[51, 48, 48]⟩ ⟨#[55, 48, 48]⟩ (by decide) (by decide)
    (fun W hW => Dy.text_of3 ⟨#[51, 48, 48]⟩ W _ _ _ 75 2 300 (HN1.out.keep hW) (by decide) (by decide) (by decide) (by decide) (HP.out.keep (low_trans HB11.out hW)) (fun V hV => Dy.format_300 V hV))
    (fun W hW => Dy.text_of3 ⟨#[55, 48, 48]⟩ W _ _ _ 175 2 700 (HN2.out.keep hW) (by decide) (by decide) (by decide) (by decide) (HP.out.keep (low_trans HB11.out hW)) (fun V hV => Dy.format_700 V hV))).mono ?_
  rintro e w12 ⟨v12, rfl, rfl, hb⟩
  rw [txt37]
  have HB12 := Lib.hid (low_trans HB11.out hb)
  clear hb s0 s1 s2 s3 s4 s5
  go_wp2_with fail
  go_ret
  exact ⟨rfl, HB12.out⟩
end Go.Proofs.YtlbffdgojmjijaaGreatDoor
