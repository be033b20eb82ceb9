/-
  WALKS: the law of chains' and places' checks.
-/
import Derived.Test.YtmfdgnjhlhkbbaaPqG
namespace Go.Proofs.Ytmfdgnjhlhkbbaa
open Go.RowKit

set_option maxRecDepth 100000 in
set_option maxHeartbeats 4000000 in
theorem checks_of (w : World) (E : Int) (a b b' : Option Addr) (n c m d m' d' : Nat) (f g g' : Nat → Int) (hn : n ≤ 9223372036854775807) (hm : m ≤ 9223372036854775807) (hm' : m' ≤ 9223372036854775807) (hS : Sl w 3 a n f) (hG : Sl w 1 b m g) (hG' : Sl w 1 b' m' g') :
    Calls Try.prog 9 #[.int .i64 E, .slice a n c, .slice b m d, .slice b' m' d'] w fun e w' => e = .returned (.bool true) ∧ Below w.heap.size w w' := by
  cases hf : fewB E n with
  | false =>
    clear hS hG hG'
    go_enter Try.func9, Try.ntmps9
    go_wp2_with fail
    refine (few_no w E a n c hf hn).mono ?_
    rintro e w9 ⟨rfl, hw9⟩
    rw [hw9]
    clear hw9 w9
    go_wp2_with fail
    refine (awake_of w).mono ?_
    rintro e w2 ⟨rfl, hB⟩
    have HB := Lib.hid hB
    clear hB
    go_wp2_with fail
    go_ret
    exact ⟨rfl, HB.out⟩
  | true =>
    by_cases h80 : 80 < m ∨ (m ≤ 80 ∧ 80 < m')
    · rcases h80 with h80 | ⟨h80, h81⟩
      all_goals
        have C1 := Lib.hid (few_ok w E a n c f hf hS)
        clear hS hG hG'
        go_enter Try.func9, Try.ntmps9
        go_wp2_with fail
        refine C1.out.mono ?_
        rintro e w2 ⟨x, c', rfl, _, hB⟩
        have HB := Lib.hid hB
        clear hB C1
        go_wp2_with fail
        refine (awake_of w2).mono ?_
        rintro e w3 ⟨rfl, hB3⟩
        have HB3 := Lib.hid (HB.out.trans (hB3.mono HB.out.size))
        clear hB3 HB
        go_wp2_with fail
        go_ret
        exact ⟨rfl, HB3.out⟩
    · have h81 : m ≤ 80 ∧ m' ≤ 80 := by omega
      clear h80
      have C1 := Lib.hid (few_ok w E a n c f hf hS)
      have C2 := fun (W : World) (x : Sl W 3 a n f) (y : Sl W 1 b m g) => chain_of W E a b n c m d f g hm x y
      have C3 := fun (W : World) (q : Option Addr) (c' : Nat) (x : Sl W 3 q n f) (y : Sl W 1 b m g) => rchain_of W E q b n c' m d f g hn hm x y
      have C4 := fun (W : World) (x : Sl W 3 a n f) (y : Sl W 1 b' m' g') => fits_of W E a b' n c m' d' f g' hm' x y
      have C5 := fun (W : World) (q : Option Addr) (c' : Nat) (x : Sl W 3 q n f) (y : Sl W 1 b' m' g') => rfits_of W E q b' n c' m' d' f g' hn hm' x y
      generalize chR E n f m g = r at C2 C3
      obtain ⟨r1, r2, r3, r4⟩ := r
      generalize fitR E n f m' g' = s at C4 C5
      obtain ⟨s1, s2⟩ := s
      simp only [ch4] at C2 C3
      simp only [ft2] at C4 C5
      have D2 := Lib.hid C2
      have D3 := Lib.hid C3
      have D4 := Lib.hid C4
      have D5 := Lib.hid C5
      have HS := Lib.hid hS
      have HG := Lib.hid hG
      have HG' := Lib.hid hG'
      clear C2 C3 C4 C5 hS hG hG'
      go_enter Try.func9, Try.ntmps9
      go_wp2_with fail
      refine C1.out.mono ?_
      rintro e w2 ⟨q, c', rfl, hq, hB⟩
      have HB := Lib.hid hB
      have HQ := Lib.hid hq
      clear hB hq C1
      go_wp2_with fail
      refine (D2.out w2 (HS.out.keep (by decide) HB.out) (HG.out.keep (by decide) HB.out)).mono ?_
      rintro e w3 ⟨rfl, hB3⟩
      have HB3 := Lib.hid (HB.out.trans (hB3.mono HB.out.size))
      have HQ3 := Lib.hid (HQ.out.keep (by decide) hB3)
      clear hB3 HB HQ
      go_wp2_with fail
      refine (D3.out w3 q c' HQ3.out (HG.out.keep (by decide) HB3.out)).mono ?_
      rintro e w4 ⟨rfl, hB4⟩
      have HB4 := Lib.hid (HB3.out.trans (hB4.mono HB3.out.size))
      have HQ4 := Lib.hid (HQ3.out.keep (by decide) hB4)
      clear hB4 HB3 HQ3
      go_wp2_with fail
      refine (D4.out w4 (HS.out.keep (by decide) HB4.out) (HG'.out.keep (by decide) HB4.out)).mono ?_
      rintro e w5 ⟨rfl, hB5⟩
      have HB5 := Lib.hid (HB4.out.trans (hB5.mono HB4.out.size))
      have HQ5 := Lib.hid (HQ4.out.keep (by decide) hB5)
      clear hB5 HB4 HQ4
      go_wp2_with fail
      refine (D5.out w5 q c' HQ5.out (HG'.out.keep (by decide) HB5.out)).mono ?_
      rintro e w6 ⟨rfl, hB6⟩
      have HB6 := Lib.hid (HB5.out.trans (hB6.mono HB5.out.size))
      clear hB6 HB5 HQ5
      go_wp2_with fail
      refine (awake_of w6).mono ?_
      rintro e w7 ⟨rfl, hB7⟩
      have HB7 := Lib.hid (HB6.out.trans (hB7.mono HB6.out.size))
      clear hB7 HB6
      go_wp2_with fail
      go_ret
      exact ⟨rfl, HB7.out⟩
end Go.Proofs.Ytmfdgnjhlhkbbaa
