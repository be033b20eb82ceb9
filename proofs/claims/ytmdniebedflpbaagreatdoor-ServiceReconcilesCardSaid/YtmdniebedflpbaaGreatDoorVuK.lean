/-
  WALKS: the example that every statement about the service ends with.
-/
import Derived.Test.YtmdniebedflpbaaGreatDoorVuJ
namespace Go.Proofs.YtmdniebedflpbaaGreatDoor
open Go.RowKit

set_option maxRecDepth 100000 in
set_option maxHeartbeats 8000000 in
theorem reply_hand (w : World) (b : Nat) (hb : BkE w b (.slice none 0 0)) (hG : Gl w) :
    Calls Tryz.prog 99 #[.pointer (some ⟨b, 0, none⟩), .string ⟨#[104, 97, 110, 100, 32, 97, 110, 110, 32, 114, 117, 110]⟩] w fun e w' => e = .returned (.tuple #[.string ⟨#[111, 107]⟩, .int .i64 0]) ∧ BelowX w.heap.size b w w' := by
  have HS := Lib.hid (split_ln w hG)
  have F1 : Hid (∀ W, Gl W → Calls Tryz.prog 131 #[.string ⟨#[105, 116, 101, 109, 115]⟩, .slice (some ⟨w.heap.size, 0, none⟩) 3 3] W fun e w' => e = .returned (.bool false) ∧ Below W.heap.size W w') := fun W h => form_more W ⟨#[105, 116, 101, 109, 115]⟩ ⟨#[105, 116, 101, 109, 115]⟩ 1 [⟨#[105, 116, 101, 109, 115]⟩] (some ⟨w.heap.size, 0, none⟩) 3 (by decide) (by decide +kernel) (by decide +kernel) (by decide) rfl (by first | decide +kernel | simp | rfl) h
  have F2 : Hid (∀ W, Gl W → Calls Tryz.prog 131 #[.string ⟨#[116, 114, 97, 99, 101, 32, 82, 69, 80, 79, 82, 84]⟩, .slice (some ⟨w.heap.size, 0, none⟩) 3 3] W fun e w' => e = .returned (.bool false) ∧ Below W.heap.size W w') := fun W h => form_more W ⟨#[116, 114, 97, 99, 101, 32, 82, 69, 80, 79, 82, 84]⟩ ⟨#[82, 69, 80, 79, 82, 84]⟩ 2 [⟨#[116, 114, 97, 99, 101]⟩, ⟨#[82, 69, 80, 79, 82, 84]⟩] (some ⟨w.heap.size, 0, none⟩) 3 (by decide) (by decide +kernel) (by decide +kernel) (by decide) rfl (by first | decide +kernel | simp | rfl) h
  have F3 : Hid (∀ W, Gl W → Calls Tryz.prog 131 #[.string ⟨#[115, 117, 115, 112, 101, 99, 116, 115]⟩, .slice (some ⟨w.heap.size, 0, none⟩) 3 3] W fun e w' => e = .returned (.bool false) ∧ Below W.heap.size W w') := fun W h => form_more W ⟨#[115, 117, 115, 112, 101, 99, 116, 115]⟩ ⟨#[115, 117, 115, 112, 101, 99, 116, 115]⟩ 1 [⟨#[115, 117, 115, 112, 101, 99, 116, 115]⟩] (some ⟨w.heap.size, 0, none⟩) 3 (by decide) (by decide +kernel) (by decide +kernel) (by decide) rfl (by first | decide +kernel | simp | rfl) h
  have F4 : Hid (∀ W, Gl W → Calls Tryz.prog 131 #[.string ⟨#[115, 104, 111, 119, 32, 73, 84, 69, 77]⟩, .slice (some ⟨w.heap.size, 0, none⟩) 3 3] W fun e w' => e = .returned (.bool false) ∧ Below W.heap.size W w') := fun W h => form_more W ⟨#[115, 104, 111, 119, 32, 73, 84, 69, 77]⟩ ⟨#[73, 84, 69, 77]⟩ 2 [⟨#[115, 104, 111, 119]⟩, ⟨#[73, 84, 69, 77]⟩] (some ⟨w.heap.size, 0, none⟩) 3 (by decide) (by decide +kernel) (by decide +kernel) (by decide) rfl (by first | decide +kernel | simp | rfl) h
  have HK := Lib.hid hb
  have HG := Lib.hid hG
  clear hb hG
  go_enter Tryz.func99, Tryz.ntmps99
  go_wp2_with fail
  refine HS.out.mono ?_
  rintro e V ⟨rfl, _, hB⟩
  have HB := Lib.hid hB
  have HG1 := Lib.hid (HG.out.keep hB)
  have HK1 := Lib.hid (HK.out.keep hB)
  clear hB HS HG HK
  go_wp2_with fail
  refine (F1.out _ HG1.out).mono ?_
  rintro e V1 ⟨rfl, hB⟩
  have HB1 := Lib.hid (low_trans HB.out hB)
  have HG1x := Lib.hid (HG1.out.keep hB)
  have HK1x := Lib.hid (HK1.out.keep hB)
  clear hB HB HG1 HK1 F1
  go_wp2_with fail
  refine (F2.out _ HG1x.out).mono ?_
  rintro e V2 ⟨rfl, hB⟩
  have HB2 := Lib.hid (low_trans HB1.out hB)
  have HG2x := Lib.hid (HG1x.out.keep hB)
  have HK2x := Lib.hid (HK1x.out.keep hB)
  clear hB HB1 HG1x HK1x F2
  go_wp2_with fail
  refine (F3.out _ HG2x.out).mono ?_
  rintro e V3 ⟨rfl, hB⟩
  have HB3 := Lib.hid (low_trans HB2.out hB)
  have HG3x := Lib.hid (HG2x.out.keep hB)
  have HK3x := Lib.hid (HK2x.out.keep hB)
  clear hB HB2 HG2x HK2x F3
  go_wp2_with fail
  refine (F4.out _ HG3x.out).mono ?_
  rintro e V4 ⟨rfl, hB⟩
  have HB4 := Lib.hid (low_trans HB3.out hB)
  have HG4x := Lib.hid (HG3x.out.keep hB)
  have HK4x := Lib.hid (HK3x.out.keep hB)
  clear hB HB3 HG3x HK3x F4
  go_wp2_with fail
  refine (do_hand _ b HK4x.out HG4x.out).mono ?_
  rintro e V5 ⟨rfl, hX⟩
  have HX := Lib.hid ((BelowX.of (X := b) HB4.out).trans (hX.mono HB4.out.size))
  clear hX HB4 HG4x HK4x
  go_wp2_with fail
  exact bodyPost_ret (v := .tuple #[.string ⟨#[111, 107]⟩, .int .i64 0]) (by simp [results, Tryz.f99, go_sem]) rfl ⟨rfl, HX.out⟩

set_option maxRecDepth 100000 in
set_option maxHeartbeats 8000000 in
theorem answer_hand (w : World) (b : Nat) (hb : BkE w b (.slice none 0 0)) (hG : Gl w) :
    Calls Tryz.prog 35 #[.pointer (some ⟨b, 0, none⟩), .string ⟨#[104, 97, 110, 100, 32, 97, 110, 110, 32, 114, 117, 110]⟩] w fun e w' => e = .returned (.string ⟨#[111, 107]⟩) ∧ BelowX w.heap.size b w w' := by
  have h1 : Calls Tryz.prog 77 #[.pointer (some ⟨b, 0, none⟩), .string ⟨#[104, 97, 110, 100, 32, 97, 110, 110, 32, 114, 117, 110]⟩] w fun e w' => e = .returned (.tuple #[.string ⟨#[111, 107]⟩, .int .i64 0]) ∧ BelowX w.heap.size b w w' := by
    have HR := Lib.hid (reply_hand w b hb hG)
    clear hb hG
    go_enter Tryz.func77, Tryz.ntmps77
    go_wp2_with fail
    refine HR.out.mono ?_
    rintro e V ⟨rfl, hX⟩
    have HX := Lib.hid hX
    clear hX HR
    go_wp2_with fail
    exact bodyPost_ret (v := .tuple #[.string ⟨#[111, 107]⟩, .int .i64 0]) (by simp [results, Tryz.f77, go_sem]) rfl ⟨rfl, HX.out⟩
  have H1 := Lib.hid h1
  clear h1 hb hG
  go_enter Tryz.func35, Tryz.ntmps35
  go_wp2_with fail
  refine H1.out.mono ?_
  rintro e V ⟨rfl, hX⟩
  have HX := Lib.hid hX
  clear hX H1
  go_wp2_with fail
  go_ret
  exact ⟨rfl, HX.out⟩

set_option maxRecDepth 100000 in
set_option maxHeartbeats 4000000 in
theorem new_of (w : World) : Calls Tryz.prog 42 #[] w fun e w' => e = .returned (.pointer (some ⟨w.heap.size, 0, none⟩)) ∧ BkE w' w.heap.size (.slice none 0 0) ∧ Below w.heap.size w w' := by
  go_enter Tryz.func42, Tryz.ntmps42
  go_wp2_with fail
  go_ret
  exact ⟨rfl, new_heap w _, (Below.refl _ _).alloc (Nat.le_refl _) _⟩
end Go.Proofs.YtmdniebedflpbaaGreatDoor
