/-
  WALKS: the law of clashes.
-/
import Derived.Test.YtonlamkpehakdaaPyK
import Derived.Test.YtonlamkpehakdaaPxF
namespace Go.Proofs.Ytonlamkpehakdaa
open Go.RowKit

set_option maxRecDepth 100000 in
set_option maxHeartbeats 8000000 in
theorem clashes_of (w : World) (E : Int) (a : Option Addr) (n c : Nat) (f : Nat → Int) (hn : n ≤ 9223372036854775807) (hS : Sl w 3 a n f) :
    Calls Try.prog 8 #[.int .i64 E, .slice a n c] w fun e w' => e = .returned (.bool true) ∧ Below w.heap.size w w' := by
  cases hf : fewB E n with
  | false =>
    clear hS
    go_enter Try.func8, Try.ntmps8
    go_wp2_with fail
    refine (few_no w E a n c hf hn).mono ?_
    rintro e w9 ⟨rfl, hw9⟩
    rw [hw9]
    clear hw9 w9
    go_wp2_with fail
    refine (awake_of w).mono ?_
    rintro e w2 ⟨rfl, hB⟩
    have HB := Lib.hid hB
    clear hB
    go_wp2_with fail
    go_ret
    exact ⟨rfl, HB.out⟩
  | true =>
    have C1 := Lib.hid (few_ok w E a n c f hf hS)
    have HS := Lib.hid hS
    clear hS
    by_cases he : bchk E n f = 0
    · obtain ⟨hb, hE⟩ := bok_of he
      obtain ⟨N, hN⟩ : ∃ N : Nat, E.toNat = N := ⟨_, rfl⟩
      rw [hN] at hb hE
      subst hE
      have HBk := Lib.hid hb
      have HE := Lib.hid he
      clear hb he hN hf
      by_cases hc : clash f n N < 0
      · have HC := Lib.hid hc
        have hd : decide (0 ≤ clash f n N) = false := decide_eq_false (by omega)
        have HD := Lib.hid hd
        clear hc hd
        go_enter Try.func8, Try.ntmps8
        go_wp2_with fail
        refine C1.out.mono ?_
        rintro e w2 ⟨x, c', rfl, hS2, hB⟩
        have HB := Lib.hid hB
        have HS2 := Lib.hid hS2
        clear hB hS2 C1
        go_wp2_with fail
        refine (clash_none w2 f N n c a HBk.out (HS.out.keep (by decide) HB.out) HC.out).mono ?_
        rintro e w3 ⟨rfl, hB3⟩
        have HB3 := Lib.hid (HB.out.trans (hB3.mono HB.out.size))
        have HS3 := Lib.hid (HS2.out.keep (by decide) hB3)
        clear hB3
        go_wp2_with fail
        refine (rcheck_of w3 N x n c' f hn HS3.out).mono ?_
        rintro e w9 ⟨rfl, hw9⟩
        rw [hw9, HE.out]
        clear hw9 w9
        go_wp2_with fail
        refine (rclash_of w3 f N n c' x HBk.out HS3.out).mono ?_
        rintro e w4 ⟨rfl, hB4⟩
        rw [HD.out]
        have HB4 := Lib.hid (HB3.out.trans (hB4.mono HB3.out.size))
        clear hB4
        go_wp2_with fail
        refine (awake_of w4).mono ?_
        rintro e w5 ⟨rfl, hB5⟩
        have HB5 := Lib.hid (HB4.out.trans (hB5.mono HB4.out.size))
        clear hB5
        go_wp2_with fail
        go_ret
        exact ⟨rfl, HB5.out⟩
      · have hc : 0 ≤ clash f n N := by omega
        have HC := Lib.hid hc
        have hd : decide (0 ≤ clash f n N) = true := decide_eq_true hc
        have HD := Lib.hid hd
        clear hc hd
        go_enter Try.func8, Try.ntmps8
        go_wp2_with fail
        refine C1.out.mono ?_
        rintro e w2 ⟨x, c', rfl, hS2, hB⟩
        have HB := Lib.hid hB
        have HS2 := Lib.hid hS2
        clear hB hS2 C1
        go_wp2_with fail
        refine (clash_found w2 f N n c a HBk.out (HS.out.keep (by decide) HB.out) HC.out).mono ?_
        rintro e w3 ⟨vv, l, rfl, hR, hO3, hB3⟩
        obtain ⟨xl, cl, rfl⟩ := own_form hO3
        obtain ⟨h1, h2, h3, h4, u, h5, h6⟩ := hR
        have hf1 := HBk.out.1
        have HB3 := Lib.hid (HB.out.trans (hB3.mono HB.out.size))
        have HS3 := Lib.hid (HS2.out.keep (by decide) hB3)
        have HL3 := Lib.hid (own_ln hO3)
        have HR := Lib.hid (And.intro h1 (And.intro h4 h6))
        have hR := chR_wk HBk.out h1 (by omega) h6
        have HCh := Lib.hid hR
        obtain ⟨M, hM⟩ : ∃ M, wt f l = M := ⟨_, rfl⟩
        rw [hM] at h3 HCh
        have HM := Lib.hid hM
        have hl64 : l.length ≤ 64 := by omega
        clear hB3 hO3 h1 h4 h6 hR hM hf1
        go_wp2_with fail
        refine (rcheck_of w3 N x n c' f hn HS3.out).mono ?_
        rintro e w9 ⟨rfl, hw9⟩
        rw [hw9, HE.out]
        clear hw9 w9
        go_wp2_with fail
        refine (rclash_of w3 f N n c' x HBk.out HS3.out).mono ?_
        rintro e w4 ⟨rfl, hB4⟩
        rw [HD.out]
        have HB4 := Lib.hid (HB3.out.trans (hB4.mono HB3.out.size))
        have HS4 := Lib.hid (HS3.out.keep (by decide) hB4)
        have HL4 := Lib.hid (HL3.out.keep (by decide) hB4)
        clear hB4
        go_wp2_with fail
        refine (rchain_of w4 (N : Int) x xl n c' l.length cl f (lf l) hn (by omega) HS4.out HL4.out).mono ?_
        rintro e w5 ⟨rfl, hB5⟩
        rw [HCh.out]
        dsimp only [ch4]
        have HB5 := Lib.hid (HB4.out.trans (hB5.mono HB4.out.size))
        have HS5 := Lib.hid (HS4.out.keep (by decide) hB5)
        have HL5 := Lib.hid (HL4.out.keep (by decide) hB5)
        clear hB5
        go_wp2_with fail
        refine (proves_of w5 f N n c' cl x xl u u l M HBk.out HR.out.1 hl64 HR.out.2.2 HM.out HR.out.2.1 HS5.out HL5.out).mono ?_
        rintro e w6 ⟨rfl, hB6⟩
        have HB6 := Lib.hid (HB5.out.trans (hB6.mono HB5.out.size))
        clear hB6
        go_wp2_with fail
        refine (awake_of w6).mono ?_
        rintro e w7 ⟨rfl, hB7⟩
        have HB7 := Lib.hid (HB6.out.trans (hB7.mono HB6.out.size))
        clear hB7
        go_wp2_with fail
        go_ret
        exact ⟨rfl, HB7.out⟩
    · have HE := Lib.hid he
      have hne : (bchk E n f == 0) = false := by simpa using he
      have hne2 : (bchk E n f != 0) = true := by simpa using he
      clear he hf
      go_enter Try.func8, Try.ntmps8
      go_wp2_with fail
      refine C1.out.mono ?_
      rintro e w2 ⟨x, c', rfl, hS2, hB⟩
      have HB := Lib.hid hB
      have HS2 := Lib.hid hS2
      clear hB hS2 C1
      go_wp2_with fail
      refine (clash_err w2 f E n c a (HS.out.keep (by decide) HB.out) HE.out).mono ?_
      rintro e w3 ⟨rfl, hB3⟩
      have HB3 := Lib.hid (HB.out.trans (hB3.mono HB.out.size))
      have HS3 := Lib.hid (HS2.out.keep (by decide) hB3)
      clear hB3
      go_wp2_with fail
      refine (rcheck_of w3 E x n c' f hn HS3.out).mono ?_
      rintro e w9 ⟨rfl, hw9⟩
      rw [hw9]
      clear hw9 w9
      go_wp2_with fail
      refine (awake_of w3).mono ?_
      rintro e w5 ⟨rfl, hB5⟩
      have HB5 := Lib.hid (HB3.out.trans (hB5.mono HB3.out.size))
      clear hB5
      go_wp2_with fail
      go_ret
      exact ⟨rfl, HB5.out⟩
end Go.Proofs.Ytonlamkpehakdaa
