/-
  WALKS: the example that every statement about the service ends with.
-/
import Derived.Test.YtmdniebedflpbaaGreatDoorVuK
import Derived.Test.YtmdniebedflpbaaGreatDoorVsI
namespace Go.Proofs.YtmdniebedflpbaaGreatDoor
open Go.RowKit

theorem step_ex1 : (Tp.mk false false false false false 0 0 0).step 4 = (⟨false, false, true, false, false, 0, 0, 0⟩, 0) := by rfl
theorem step_ex2 : (Tp.mk false false true false false 0 0 0).step 8 = (⟨false, false, true, false, true, 0, 0, 0⟩, 0) := by rfl
theorem route_ex : (Tp.mk true false false false false 3 3 0).rt = ([1, 4, 6, 12, 12, 12, 7, 8], 0) := by rfl

set_option maxRecDepth 100000 in
set_option maxHeartbeats 16000000 in
theorem awake10_of (w : World) (hG : Gl w) : Calls Tryz.prog 18 #[] w fun e w' => e = .returned (.bool true) ∧ Below w.heap.size w w' := by
  have HS1 : Hid (∀ W, Calls Tryz.prog 9 #[.agg #[.bool false, .bool false, .bool false, .bool false, .bool false, .int .i64 0, .int .i64 0, .int .i64 0], .int .i64 4] W fun e w' => e = .returned (.tuple #[.agg #[.bool false, .bool false, .bool true, .bool false, .bool false, .int .i64 0, .int .i64 0, .int .i64 0], .int .i64 0]) ∧ Below W.heap.size W w') := fun W => by
    have q := step_of W ⟨false, false, false, false, false, 0, 0, 0⟩ 4
    rw [step_ex1] at q
    exact q
  have HS2 : Hid (∀ W, Calls Tryz.prog 9 #[.agg #[.bool false, .bool false, .bool true, .bool false, .bool false, .int .i64 0, .int .i64 0, .int .i64 0], .int .i64 8] W fun e w' => e = .returned (.tuple #[.agg #[.bool false, .bool false, .bool true, .bool false, .bool true, .int .i64 0, .int .i64 0, .int .i64 0], .int .i64 0]) ∧ Below W.heap.size W w') := fun W => by
    have q := step_of W ⟨false, false, true, false, false, 0, 0, 0⟩ 8
    rw [step_ex2] at q
    exact q
  have HR : Hid (∀ W, Calls Tryz.prog 11 #[.agg #[.bool true, .bool false, .bool false, .bool false, .bool false, .int .i64 3, .int .i64 3, .int .i64 0]] W fun e w' => ∃ v : Value, ∃ g cap, v = .slice (some ⟨g, 0, none⟩) 8 cap ∧ e = .returned (.tuple #[v, .int .i64 0]) ∧ Below W.heap.size W w') := fun W => by
    have q := route_of W ⟨true, false, false, false, false, 3, 3, 0⟩
    rw [route_ex] at q
    refine q.mono ?_
    rintro e w' ⟨v, he, hO, hB⟩
    obtain ⟨g, cap, hv⟩ := ownsRow_succ hO
    exact ⟨v, g, cap, hv, he, hB⟩
  have HD : Hid (∀ W, Calls Tryz.prog 23 #[.int .u64 1, .string ⟨#[]⟩] W fun e w' => e = .returned (.int .u64 1) ∧ w' = W) := fun W => digest_of W 1 (by decide) ⟨#[]⟩ (by decide)
  have HN : Hid (∀ W, Calls Tryz.prog 42 #[] W fun e w' => e = .returned (.pointer (some ⟨W.heap.size, 0, none⟩)) ∧ BkE w' W.heap.size (.slice none 0 0) ∧ Below W.heap.size W w') := fun W => new_of W
  have HG := Lib.hid hG
  clear hG
  go_enter Tryz.func18, Tryz.ntmps18
  go_wp2_with fail
  refine (HS1.out _).mono ?_
  rintro e V ⟨rfl, hB⟩
  have HB := Lib.hid hB
  clear hB HS1
  go_upto_region 2 with fail
  obtain ⟨W, hW⟩ : ∃ W, V.alloc (.cells #[.bool false, .bool false, .bool true, .bool false, .bool false, .int .i64 0, .int .i64 0, .int .i64 0] 23) = W := ⟨_, rfl⟩
  rw [hW]
  obtain ⟨hB1, hH⟩ := Tp.new V (.mk false false true false false 0 0 0) _ hW
  have HB1 := Lib.hid (low_trans HB.out hB1)
  have s0 := cell_h (k := 0) hH rfl
  have s1 := cell_h (k := 1) hH rfl
  have s2 := cell_h (k := 2) hH rfl
  have s3 := cell_h (k := 3) hH rfl
  have s4 := cell_h (k := 4) hH rfl
  have s5 := cell_h (k := 5) hH rfl
  have s6 := cell_h (k := 6) hH rfl
  have s7 := cell_h (k := 7) hH rfl
  have HH := Lib.hid hH
  have hlt := (Array.getElem?_eq_some_iff.1 hH).1
  have hbs := HB.out.size
  clear hW hB1 hH HB
  go_wp2_with fail
  refine (HS2.out _).mono ?_
  rintro e V2 ⟨rfl, hB⟩
  have HB2 := Lib.hid (low_trans HB1.out hB)
  have hH2 := (hB.block _ hlt).trans HH.out
  have HH2 := Lib.hid hH2
  clear s0 s1 s2 s3 s4 s5 s6 s7 hB HS2 HH HB1 hlt
  have s0 := cell_h (k := 0) hH2 rfl
  have s1 := cell_h (k := 1) hH2 rfl
  have s2 := cell_h (k := 2) hH2 rfl
  have s3 := cell_h (k := 3) hH2 rfl
  have s4 := cell_h (k := 4) hH2 rfl
  have s5 := cell_h (k := 5) hH2 rfl
  have s6 := cell_h (k := 6) hH2 rfl
  have s7 := cell_h (k := 7) hH2 rfl
  have f0 := fz_h hH2
  clear hH2
  go_upto_region 3 with fail
  have hH3 := eight_set (v0 := .bool false) (v1 := .bool false) (v2 := .bool true) (v3 := .bool false) (v4 := .bool true) (v5 := .int .i64 0) (v6 := .int .i64 0) (v7 := .int .i64 0) HH2.out
  have hB3 : Below w.heap.size w ((((((((V2.setCell ⟨V.heap.size, 0, none⟩ (.bool false)).setCell ⟨V.heap.size, 1, none⟩ (.bool false)).setCell ⟨V.heap.size, 2, none⟩ (.bool true)).setCell ⟨V.heap.size, 3, none⟩ (.bool false)).setCell ⟨V.heap.size, 4, none⟩ (.bool true)).setCell ⟨V.heap.size, 5, none⟩ (.int .i64 0)).setCell ⟨V.heap.size, 6, none⟩ (.int .i64 0)).setCell ⟨V.heap.size, 7, none⟩ (.int .i64 0)) := by
    iterate 8 refine Below.setCell ?_ hbs _
    exact HB2.out
  generalize (((((((V2.setCell ⟨V.heap.size, 0, none⟩ (.bool false)).setCell ⟨V.heap.size, 1, none⟩ (.bool false)).setCell ⟨V.heap.size, 2, none⟩ (.bool true)).setCell ⟨V.heap.size, 3, none⟩ (.bool false)).setCell ⟨V.heap.size, 4, none⟩ (.bool true)).setCell ⟨V.heap.size, 5, none⟩ (.int .i64 0)).setCell ⟨V.heap.size, 6, none⟩ (.int .i64 0)).setCell ⟨V.heap.size, 7, none⟩ (.int .i64 0) = W3 at hH3 hB3 ⊢
  have HB3 := Lib.hid hB3
  have HH3 := Lib.hid hH3
  have hlt := (Array.getElem?_eq_some_iff.1 hH3).1
  clear hH3 hB3 HB2 HH2 s0 s1 s2 s3 s4 s5 s6 s7 f0 hbs
  go_wp2_with fail
  refine (HR.out _).mono ?_
  rintro e V4 ⟨v, g, cap, rfl, rfl, hB⟩
  have hH4 := (hB.block _ hlt).trans HH3.out
  have HB4 := Lib.hid (low_trans HB3.out hB)
  have s2 := cell_h (k := 2) hH4 rfl
  have s4 := cell_h (k := 4) hH4 rfl
  clear hB HR HH3 HB3 hlt hH4
  go_wp2_with fail
  refine (HD.out _).mono ?_
  rintro e w9 ⟨rfl, rfl⟩
  clear HD
  go_wp2_with fail
  refine (HN.out _).mono ?_
  rintro e V5 ⟨rfl, hk, hB⟩
  have hA := answer_hand V5 _ hk (HG.out.keep (low_trans HB4.out hB))
  have HA := Lib.hid hA
  have HB5 := Lib.hid (low_trans HB4.out hB)
  have hb4 := HB4.out.size
  clear hA hk hB HN HG
  go_wp2_with fail
  refine HA.out.mono ?_
  rintro e V6 ⟨rfl, hX⟩
  have HB6 := Lib.hid (HB5.out.trans (below_of_x (hX.mono HB5.out.size) hb4))
  clear hX HA HB5
  go_wp2_with fail
  go_ret
  exact ⟨rfl, HB6.out⟩
end Go.Proofs.YtmdniebedflpbaaGreatDoor
