/-
  WALKS: the law of ServiceNone.
-/
import Derived.Test.YtmdniebedflpbaaGreatDoorVqB
namespace Go.Proofs.YtmdniebedflpbaaGreatDoor
open Go.RowKit

set_option maxRecDepth 100000 in
set_option maxHeartbeats 16000000 in
theorem serviceNone_law (w : World) (s : ByteArray) (hs : s.size < 4294967281) (hG : Gl w) :
    Calls Tryz.prog 8 #[.string s] w fun e w' => e = .returned (.bool true) ∧ Below w.heap.size w w' := by
  have HA : Hid (∀ W, Below w.heap.size w W → Calls Tryz.prog 18 #[] W fun e w' => e = .returned (.bool true) ∧ Below W.heap.size W w') := fun W hW => awake10_of W (hG.keep hW)
  have HAn : Hid (∀ W, Below w.heap.size w W → Calls Tryz.prog 35 #[.pointer none, .string s] W fun e w' => e = .returned (.string ⟨#[101, 114, 114, 111, 114, 32, 49]⟩) ∧ Below W.heap.size W w') := fun W hW => answer_nil W s hs (hG.keep hW)
  clear hG
  go_enter Tryz.func8, Tryz.ntmps8
  go_wp2_with fail
  refine (item_nil _ s).mono ?_
  rintro e V1 ⟨rfl, hB⟩
  have HB1 := Lib.hid (hB)
  clear hB
  go_upto_region 3 with fail
  have HB0 := Lib.hid (HB1.out.alloc HB1.out.size (.cells #[.string ⟨#[]⟩, .int .i64 0, .int .i64 0, .int .i64 0, .slice none 0 0, .string ⟨#[]⟩, .string ⟨#[]⟩, .string ⟨#[]⟩] 71))
  generalize World.alloc V1 (.cells #[.string ⟨#[]⟩, .int .i64 0, .int .i64 0, .int .i64 0, .slice none 0 0, .string ⟨#[]⟩, .string ⟨#[]⟩, .string ⟨#[]⟩] 71) = W1 at HB0 ⊢
  clear HB1
  go_wp2_with fail
  refine (trace_nil _ s).mono ?_
  rintro e V2 ⟨rfl, hB⟩
  have HB2 := Lib.hid (low_trans HB0.out hB)
  clear hB HB0
  go_wp2_with fail
  refine (papers_nil _ s).mono ?_
  rintro e V3 ⟨rfl, hB⟩
  have HB3 := Lib.hid (low_trans HB2.out hB)
  clear hB HB2
  go_wp2_with fail
  refine (run_nil _ s).mono ?_
  rintro e V4 ⟨rfl, hB⟩
  have HB4 := Lib.hid (low_trans HB3.out hB)
  clear hB HB3
  go_wp2_with fail
  refine (do_nil _ s).mono ?_
  rintro e V5 ⟨rfl, hB⟩
  have HB5 := Lib.hid (low_trans HB4.out hB)
  clear hB HB4
  go_wp2_with fail
  refine (HAn.out _ HB5.out).mono ?_
  rintro e V6 ⟨rfl, hB⟩
  have HB6 := Lib.hid (low_trans HB5.out hB)
  clear hB HB5
  go_wp2_with fail
  refine (hands_of _ none (.inl rfl)).mono ?_
  rintro e V7 ⟨rfl, hB⟩
  have HB7 := Lib.hid (low_trans HB6.out hB)
  clear hB HB6
  go_wp2_with fail
  refine (blocks_of _ none (.inl rfl)).mono ?_
  rintro e V8 ⟨rfl, hB⟩
  have HB8 := Lib.hid (low_trans HB7.out hB)
  clear hB HB7
  go_wp2_with fail
  refine (items_of _ none (.inl rfl)).mono ?_
  rintro e V9 ⟨rfl, hB⟩
  have HB9 := Lib.hid (low_trans HB8.out hB)
  clear hB HB8
  go_wp2_with fail
  refine (reports_of _ none (.inl rfl)).mono ?_
  rintro e V10 ⟨rfl, hB⟩
  have HB10 := Lib.hid (low_trans HB9.out hB)
  clear hB HB9
  go_wp2_with fail
  refine (suspects_nil _).mono ?_
  rintro e V11 ⟨rfl, hB⟩
  have HB11 := Lib.hid (low_trans HB10.out hB)
  clear hB HB10
  go_wp2_with fail
  refine (ledger_of _ none (.inl rfl)).mono ?_
  rintro e V12 ⟨rfl, hB⟩
  have HB12 := Lib.hid (low_trans HB11.out hB)
  clear hB HB11
  go_wp2_with fail
  refine (new_of _).mono ?_
  rintro e V13 ⟨rfl, hK, hB⟩
  have HB13 := Lib.hid (low_trans HB12.out hB)
  have HK13 := Lib.hid hK
  generalize V12.heap.size = b at HK13 ⊢
  clear hB hK HB12
  go_wp2_with fail
  refine (hands_of _ (some ⟨b, 0, none⟩) (.inr ⟨b, rfl, HK13.out⟩)).mono ?_
  rintro e V14 ⟨rfl, hB⟩
  have HB14 := Lib.hid (low_trans HB13.out hB)
  have HK14 := Lib.hid (HK13.out.keep hB)
  clear hB HK13 HB13
  go_wp2_with fail
  refine (blocks_of _ (some ⟨b, 0, none⟩) (.inr ⟨b, rfl, HK14.out⟩)).mono ?_
  rintro e V15 ⟨rfl, hB⟩
  have HB15 := Lib.hid (low_trans HB14.out hB)
  have HK15 := Lib.hid (HK14.out.keep hB)
  clear hB HK14 HB14
  go_wp2_with fail
  refine (items_of _ (some ⟨b, 0, none⟩) (.inr ⟨b, rfl, HK15.out⟩)).mono ?_
  rintro e V16 ⟨rfl, hB⟩
  have HB16 := Lib.hid (low_trans HB15.out hB)
  have HK16 := Lib.hid (HK15.out.keep hB)
  clear hB HK15 HB15
  go_wp2_with fail
  refine (reports_of _ (some ⟨b, 0, none⟩) (.inr ⟨b, rfl, HK16.out⟩)).mono ?_
  rintro e V17 ⟨rfl, hB⟩
  have HB17 := Lib.hid (low_trans HB16.out hB)
  have HK17 := Lib.hid (HK16.out.keep hB)
  clear hB HK16 HB16
  go_wp2_with fail
  refine (ledger_of _ (some ⟨b, 0, none⟩) (.inr ⟨b, rfl, HK17.out⟩)).mono ?_
  rintro e V18 ⟨rfl, hB⟩
  have HB18 := Lib.hid (low_trans HB17.out hB)
  have HK18 := Lib.hid (HK17.out.keep hB)
  clear hB HK17 HB17
  go_wp2_with fail
  refine (same_nn _).mono ?_
  rintro e V19 ⟨rfl, hB⟩
  have HB19 := Lib.hid (low_trans HB18.out hB)
  have HK19 := Lib.hid (HK18.out.keep hB)
  clear hB HK18 HB18
  go_wp2_with fail
  refine (same_nb _ b).mono ?_
  rintro e V20 ⟨rfl, hB⟩
  have HB20 := Lib.hid (low_trans HB19.out hB)
  have HK20 := Lib.hid (HK19.out.keep hB)
  clear hB HK19 HB19
  go_wp2_with fail
  refine (same_bn _ b).mono ?_
  rintro e V21 ⟨rfl, hB⟩
  have HB21 := Lib.hid (low_trans HB20.out hB)
  have HK21 := Lib.hid (HK20.out.keep hB)
  clear hB HK20 HB20
  go_wp2_with fail
  refine (new_of _).mono ?_
  rintro e V22 ⟨rfl, hK, hB⟩
  have HB22 := Lib.hid (low_trans HB21.out hB)
  have HK22 := Lib.hid (HK21.out.keep hB)
  have HC22 := Lib.hid hK
  generalize V21.heap.size = c at HC22 ⊢
  clear hB hK HB21 HK21
  go_wp2_with fail
  refine (same_bb _ b c HK22.out HC22.out).mono ?_
  rintro e V23 ⟨rfl, hB⟩
  have HB23 := Lib.hid (low_trans HB22.out hB)
  clear hB HB22
  go_wp2_with fail
  refine (HA.out _ HB23.out).mono ?_
  rintro e V24 ⟨rfl, hB⟩
  have HB24 := Lib.hid (low_trans HB23.out hB)
  clear hB HB23
  go_wp2_with fail
  go_ret
  exact ⟨rfl, HB24.out⟩
end Go.Proofs.YtmdniebedflpbaaGreatDoor
