/-
  WALKS: the law of DentPlaces.
-/
import Derived.Test.YtdibljidagiblaaDoorDeL
namespace Go.Proofs.YtdibljidagiblaaDoor
open Go.RowKit

set_option maxRecDepth 100000 in
set_option maxHeartbeats 4000000 in
theorem dentPlaces_law (w : World) (a : Option Addr) (n c : Nat) (g : Nat → Int) (f t b m l r u v : Int) (hn : n ≤ maxLen) (hS : Sl w 1 a n g) (_hg : I64s g n)
    (_hf : -9223372036854775808 ≤ f ∧ f ≤ 9223372036854775807) (_ht : -9223372036854775808 ≤ t ∧ t ≤ 9223372036854775807) (_hb : -9223372036854775808 ≤ b ∧ b ≤ 9223372036854775807) (_hm : -9223372036854775808 ≤ m ∧ m ≤ 9223372036854775807) (_hl : -9223372036854775808 ≤ l ∧ l ≤ 9223372036854775807) (_hr : -9223372036854775808 ≤ r ∧ r ≤ 9223372036854775807) (_hu : -9223372036854775808 ≤ u ∧ u ≤ 9223372036854775807) (_hv : -9223372036854775808 ≤ v ∧ v ≤ 9223372036854775807) (hT : Dy.Tab w) :
    Calls Tryd.prog 5 #[.slice a n c, .int .i64 f, .int .i64 t, .int .i64 b, .int .i64 m, .int .i64 l, .int .i64 r, .int .i64 u, .int .i64 v] w fun e w' => e = .returned (.bool true) ∧ Below w.heap.size w w' := by
  have hmx : maxLen = 9223372036854775807 := rfl
  have HK : Hid (∀ W, Below w.heap.size w W → Calls Tryd.prog 23 #[] W fun e w' => e = .returned (.bool true) ∧ Below W.heap.size W w') := fun W hW => awake7_of W (hT.keep hW)
  have HS := Lib.hid hS
  clear hT hS _hg _hf _ht _hb _hm _hl _hr _hu _hv
  go_enter Tryd.func5, Tryd.ntmps5
  go_wp2_with fail
  refine (HK.out w (Below.refl _ _)).mono ?_
  rintro e w1 ⟨rfl, hB1⟩
  have HB1 := Lib.hid hB1
  clear hB1
  by_cases hc : 70 < n
  · go_wp2_with fail
    refine (HK.out w1 HB1.out).mono ?_
    rintro e w2 ⟨rfl, hB2⟩
    have HB2 := Lib.hid (HB1.out.trans (hB2.mono HB1.out.size))
    clear hB2
    go_wp2_with fail
    go_ret
    exact ⟨rfl, HB2.out⟩
  have hn70 : n ≤ 70 := by omega
  have HO1 : Hid (∀ W, Below w.heap.size w W → Calls Tryd.prog 24 #[.slice a n c, .int .i64 f, .int .i64 t, .int .i64 b] W fun e w' => e = .returned (.tuple #[.int .i64 (owR f t b n g).1, .int .i64 (owR f t b n g).2]) ∧ Below W.heap.size W w') := fun W hW => onweld_of W a n c g f t b hn70 (HS.out.keep (by decide) hW)
  have HO2 : Hid (∀ W, Below w.heap.size w W → Calls Tryd.prog 25 #[.slice a n c, .int .i64 f, .int .i64 t, .int .i64 b] W fun e w' => e = .returned (.tuple #[.int .i64 (owR f t b n g).1, .int .i64 (owR f t b n g).2]) ∧ w' = W) := fun W hW => ronweld_of W a n c g f t b hn70 (HS.out.keep (by decide) hW)
  generalize (owR f t b n g).1 = x at HO1 HO2
  generalize (owR f t b n g).2 = y at HO1 HO2
  obtain ⟨cc, cx, hc1, hc2⟩ := clock_both m l r
  obtain ⟨rc, rx, hr1, hr2⟩ := restr_both u v
  have HC1 := Lib.hid hc1
  have HC2 := Lib.hid hc2
  have HR1 := Lib.hid hr1
  have HR2 := Lib.hid hr2
  clear hc1 hc2 hr1 hr2
  go_wp2_with fail
  refine (HO1.out w1 HB1.out).mono ?_
  rintro e w2 ⟨rfl, hB2⟩
  have HB2 := Lib.hid (HB1.out.trans (hB2.mono HB1.out.size))
  clear hB2
  go_wp2_with fail
  refine (HO2.out w2 HB2.out).mono ?_
  rintro e w3 ⟨rfl, rfl⟩
  go_wp2_with fail
  refine (HC1.out _).mono ?_
  rintro e w3 ⟨rfl, rfl⟩
  go_wp2_with fail
  refine (HC2.out _).mono ?_
  rintro e w3 ⟨rfl, rfl⟩
  go_wp2_with fail
  refine (HR1.out _).mono ?_
  rintro e w3 ⟨rfl, rfl⟩
  go_wp2_with fail
  refine (HR2.out _).mono ?_
  rintro e w3 ⟨rfl, rfl⟩
  clear HK HS HO1 HO2 HC1 HC2 HR1 HR2
  go_wp2_with fail
  go_ret
  exact ⟨by simp, HB2.out⟩
end Go.Proofs.YtdibljidagiblaaDoor
