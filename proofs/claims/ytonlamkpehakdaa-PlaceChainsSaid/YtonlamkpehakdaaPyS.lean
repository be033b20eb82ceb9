/-
  WALKS: Chain, with its errors; the law of chains.
-/
import Derived.Test.YtonlamkpehakdaaPyQ
import Derived.Test.YtonlamkpehakdaaPyF
namespace Go.Proofs.Ytonlamkpehakdaa
open Go.RowKit

/-- The errors of Chain. -/
def BadC (E : Int) (n : Nat) (f : Nat → Int) (v : Int) (r : Int) : Prop := (bchk E n f ≠ 0 ∧ r = bchk E n f) ∨ (bchk E n f = 0 ∧ (v < 0 ∨ (0 ≤ v ∧ E ≤ v)) ∧ r = 1) ∨ (bchk E n f = 0 ∧ 0 ≤ v ∧ v < E ∧ 0 ≤ clash f n E.toNat ∧ r = 40)
set_option maxRecDepth 100000 in
set_option maxHeartbeats 4000000 in
theorem chain_bad (w : World) (f : Nat → Int) (E v : Int) (n c : Nat) (a : Option Addr) (up : Bool) (hS : Sl w 3 a n f) (r : Int) (hr : BadC E n f v r) :
    Calls Try.prog 39 #[.int .i64 E, .slice a n c, .int .i64 v, .bool up] w fun e W' => e = .returned (.tuple #[.slice none 0 0, .int .i64 r]) ∧ Below w.heap.size w W' := by
  have HS := Lib.hid hS
  clear hS
  rcases hr with ⟨he, rfl⟩ | ⟨he, hv, rfl⟩ | ⟨he, hv, hvE, hc, rfl⟩
  · have hne : (bchk E n f == 0) = false := by simpa using he
    have hne2 : (bchk E n f != 0) = true := by simpa using he
    clear he
    go_enter Try.func39, Try.ntmps39
    go_wp2_with (go_at_call 32; refine (check_of _ E a n c f HS.out).mono ?_; rintro e w2 ⟨rfl, hB⟩)
    exact bodyPost_ret (v := .tuple #[.slice none 0 0, .int .i64 (bchk E n f)]) (by simp [results, Try.f39, go_sem]) rfl ⟨rfl, hB⟩
  · have H0 := Lib.hid he
    have hi : false = decide (0 ≤ v ∧ v < E) := by symm; rw [decide_eq_false_iff_not]; omega
    have HI := Lib.hid hi
    clear he hi hv
    go_enter Try.func39, Try.ntmps39
    go_wp2_with fail
    refine (check_of w E a n c f HS.out).mono ?_
    rintro e w1 ⟨rfl, hB1⟩
    rw [H0.out]
    have HB1 := Lib.hid hB1
    clear hB1
    go_wp2_with fail
    refine (idx_of false w1 v E HI.out).mono ?_
    rintro e w9 ⟨rfl, hw9⟩
    rw [hw9]
    clear hw9 w9
    go_wp2_with fail
    exact bodyPost_ret (v := .tuple #[.slice none 0 0, .int .i64 1]) (by simp [results, Try.f39, go_sem]) rfl ⟨rfl, HB1.out⟩
  · have H0 := Lib.hid he
    have HI := Lib.hid (show true = decide (0 ≤ v ∧ v < E) by symm; rw [decide_eq_true_iff]; omega)
    have HC := Lib.hid (show BadB E n f 40 from ⟨by decide, .inr ⟨he, hc, rfl⟩⟩)
    clear he hv hvE hc
    go_enter Try.func39, Try.ntmps39
    go_wp2_with fail
    refine (check_of w E a n c f HS.out).mono ?_
    rintro e w1 ⟨rfl, hB1⟩
    rw [H0.out]
    have HB1 := Lib.hid hB1
    clear hB1
    go_wp2_with fail
    refine (idx_of true w1 v E HI.out).mono ?_
    rintro e w9 ⟨rfl, hw9⟩
    rw [hw9]
    clear hw9 w9
    go_wp2_with fail
    refine (checkClash_bad w1 f E n c a (HS.out.keep (by decide) HB1.out) 40 HC.out).mono ?_
    rintro e w2 ⟨rfl, hB2⟩
    have HB2 := Lib.hid (HB1.out.trans (hB2.mono HB1.out.size))
    clear hB2
    go_wp2_with fail
    exact bodyPost_ret (v := .tuple #[.slice none 0 0, .int .i64 40]) (by simp [results, Try.f39, go_sem]) rfl ⟨rfl, HB2.out⟩
set_option maxRecDepth 100000 in
set_option maxHeartbeats 4000000 in
/-- An empty chain from an event to itself. -/
theorem proves_nil (w : World) (E x : Int) (n c d : Nat) (a b : Option Addr) :
    Calls Try.prog 38 #[.int .i64 E, .slice a n c, .slice b 0 d, .int .i64 x, .int .i64 x, .int .i64 0] w fun e W' => e = .returned (.bool true) ∧ W' = w := by
  go_enter Try.func38, Try.ntmps38
  go_wp2_with fail
  go_ret
  exact ⟨rfl, rfl⟩

set_option maxRecDepth 100000 in
set_option maxHeartbeats 8000000 in
theorem chains_up (w : World) (N v : Nat) (a : Option Addr) (n c : Nat) (f : Nat → Int) (hn : n ≤ 9223372036854775807) (hS : Sl w 3 a n f) (hf : fewB (N : Int) n = true) (hb : BOk N n f) (hc : clash f n N < 0) (hv : v < N) :
    Calls Try.prog 9 #[.int .i64 (N : Int), .slice a n c, .int .i64 (v : Int), .bool true] w fun e w' => e = .returned (.bool true) ∧ Below w.heap.size w w' := by
  have C1 := Lib.hid (few_ok w N a n c f hf hS)
  have HS := Lib.hid hS
  have h12 : N ≤ 12 := by
    unfold fewB at hf
    rw [decide_eq_true_iff] at hf
    have := hb.1
    omega
  have HBk := Lib.hid hb
  have HE := Lib.hid (bchk_of hb)
  have HC := Lib.hid hc
  have hDl := ptD_le hb v
  clear hb hf hc hS
  have hvN : (v : Int) < N := by omega
  have hv0 : (0 : Int) ≤ v := by omega
  go_enter Try.func9, Try.ntmps9
  go_wp2_with fail
  refine C1.out.mono ?_
  rintro e w2 ⟨x, c', rfl, hS2, hB⟩
  have HB := Lib.hid hB
  have HS2 := Lib.hid hS2
  clear hB hS2 C1
  go_wp2_with fail
  refine (chain_up w2 f N n c v a HBk.out hv (HS.out.keep (by decide) HB.out) HC.out).mono ?_
  rintro e w3 ⟨vv, l, ev, rfl, hO3, hB3, hway⟩
  obtain ⟨xl, cl, rfl⟩ := own_form hO3
  have HB3 := Lib.hid (HB.out.trans (hB3.mono HB.out.size))
  have HS3 := Lib.hid (HS2.out.keep (by decide) hB3)
  have HL3 := Lib.hid (own_ln hO3)
  have HWay := Lib.hid hway
  clear hB3 hO3 hway
  go_wp2_with fail
  refine (rcheck_of w3 N x n c' f hn HS3.out).mono ?_
  rintro e w9 ⟨rfl, hw9⟩
  rw [hw9, HE.out]
  clear hw9 w9
  go_wp2_with fail
  refine (rlimits_ok w3 f N n c' x HBk.out h12 hn HS3.out HC.out).mono ?_
  rintro e w4 ⟨b2, rfl, hb2, hL2, hB4⟩
  have HB4 := Lib.hid (HB3.out.trans (hB4.mono HB3.out.size))
  have HS4 := Lib.hid (HS3.out.keep (by decide) hB4)
  have HL4 := Lib.hid (HL3.out.keep (by decide) hB4)
  have e0 := hL2.cell (k := v * 4) (by omega)
  have e1 := hL2.cell (k := v * 4 + 1) (by omega)
  have e2 := hL2.cell (k := v * 4 + 2) (by omega)
  have e3 := hL2.cell (k := v * 4 + 3) (by omega)
  rw [lmV_0] at e0
  rw [lmV_1] at e1
  rw [lmV_2] at e2
  rw [lmV_3] at e3
  have hway := HWay.out
  generalize (ptU f n N).mo v = um at e1 hway
  generalize (ptU f n N).kn v = uk at e3 hway
  generalize (ptD f n N).mo v = dm at e0 hway hDl
  generalize (ptD f n N).kn v = dk at e2 hway
  have wd : IntKind.i64.wrap (- -dm) = dm := by rw [Int.neg_neg]; exact IntWalk.i64_in _ (by omega)
  have wd2 : IntKind.i64.wrap dm = dm := IntWalk.i64_in _ (by omega)
  have hLs := hL2.lt
  clear hB4 hL2 hb2 HWay hDl
  rcases hway with ⟨rfl, rfl, rfl⟩ | ⟨rfl, rfl, rfl, rfl, rfl⟩ | ⟨rfl, hv1, h1, h2, rfl, h3, h4, h5⟩
  · go_wp2_with fail
    refine (awake_of _).mono ?_
    rintro e w7 ⟨rfl, hB7⟩
    have HB7 := Lib.hid ((HB4.out.alloc HB4.out.size _).trans (hB7.mono (HB4.out.alloc HB4.out.size _).size))
    clear hB7
    go_wp2_with fail
    go_ret
    exact ⟨rfl, HB7.out⟩
  · go_wp2_with fail
    refine (proves_nil _ (N : Int) 0 n c' cl x xl).mono ?_
    rintro e w9 ⟨rfl, hw9⟩
    rw [hw9]
    clear hw9 w9
    go_wp2_with fail
    refine (awake_of _).mono ?_
    rintro e w7 ⟨rfl, hB7⟩
    have HB7 := Lib.hid ((HB4.out.alloc HB4.out.size _).trans (hB7.mono (HB4.out.alloc HB4.out.size _).size))
    clear hB7
    go_wp2_with fail
    go_ret
    exact ⟨rfl, HB7.out⟩
  · have hv2 : ((v : Int) == 0) = false := beq_eq_false_iff_ne.2 (by omega)
    have hNN := HBk.out.1
    have HP := Lib.hid (And.intro h1 (And.intro h3 (And.intro h4 h5)))
    have hl64 : l.length ≤ 64 := by omega
    clear h1 h3 h4 h5 h2 hNN
    go_wp2_with fail
    refine (proves_of _ f N n c' cl x xl 0 v l um HBk.out HP.out.1 hl64 HP.out.2.1 HP.out.2.2.1 HP.out.2.2.2 (HS4.out.keep (by decide) ((Below.refl _ w4).alloc (Nat.le_refl _) _)) (HL4.out.keep (by decide) ((Below.refl _ w4).alloc (Nat.le_refl _) _))).mono ?_
    rintro e w6 ⟨rfl, hB6⟩
    have HB6 := Lib.hid ((HB4.out.alloc HB4.out.size _).trans (hB6.mono (HB4.out.alloc HB4.out.size _).size))
    clear hB6
    go_wp2_with fail
    refine (awake_of w6).mono ?_
    rintro e w7 ⟨rfl, hB7⟩
    have HB7 := Lib.hid (HB6.out.trans (hB7.mono HB6.out.size))
    clear hB7
    go_wp2_with fail
    go_ret
    exact ⟨rfl, HB7.out⟩

set_option maxRecDepth 100000 in
set_option maxHeartbeats 8000000 in
theorem chains_down (w : World) (N v : Nat) (a : Option Addr) (n c : Nat) (f : Nat → Int) (hn : n ≤ 9223372036854775807) (hS : Sl w 3 a n f) (hf : fewB (N : Int) n = true) (hb : BOk N n f) (hc : clash f n N < 0) (hv : v < N) :
    Calls Try.prog 9 #[.int .i64 (N : Int), .slice a n c, .int .i64 (v : Int), .bool false] w fun e w' => e = .returned (.bool true) ∧ Below w.heap.size w w' := by
  have C1 := Lib.hid (few_ok w N a n c f hf hS)
  have HS := Lib.hid hS
  have h12 : N ≤ 12 := by
    unfold fewB at hf
    rw [decide_eq_true_iff] at hf
    have := hb.1
    omega
  have HBk := Lib.hid hb
  have HE := Lib.hid (bchk_of hb)
  have HC := Lib.hid hc
  have hDl := ptD_le hb v
  clear hb hf hc hS
  have hvN : (v : Int) < N := by omega
  have hv0 : (0 : Int) ≤ v := by omega
  go_enter Try.func9, Try.ntmps9
  go_wp2_with fail
  refine C1.out.mono ?_
  rintro e w2 ⟨x, c', rfl, hS2, hB⟩
  have HB := Lib.hid hB
  have HS2 := Lib.hid hS2
  clear hB hS2 C1
  go_wp2_with fail
  refine (chain_down w2 f N n c v a HBk.out hv (HS.out.keep (by decide) HB.out) HC.out).mono ?_
  rintro e w3 ⟨vv, l, ev, rfl, hO3, hB3, hway⟩
  obtain ⟨xl, cl, rfl⟩ := own_form hO3
  have HB3 := Lib.hid (HB.out.trans (hB3.mono HB.out.size))
  have HS3 := Lib.hid (HS2.out.keep (by decide) hB3)
  have HL3 := Lib.hid (own_ln hO3)
  have HWay := Lib.hid hway
  clear hB3 hO3 hway
  go_wp2_with fail
  refine (rcheck_of w3 N x n c' f hn HS3.out).mono ?_
  rintro e w9 ⟨rfl, hw9⟩
  rw [hw9, HE.out]
  clear hw9 w9
  go_wp2_with fail
  refine (rlimits_ok w3 f N n c' x HBk.out h12 hn HS3.out HC.out).mono ?_
  rintro e w4 ⟨b2, rfl, hb2, hL2, hB4⟩
  have HB4 := Lib.hid (HB3.out.trans (hB4.mono HB3.out.size))
  have HS4 := Lib.hid (HS3.out.keep (by decide) hB4)
  have HL4 := Lib.hid (HL3.out.keep (by decide) hB4)
  have e0 := hL2.cell (k := v * 4) (by omega)
  have e1 := hL2.cell (k := v * 4 + 1) (by omega)
  have e2 := hL2.cell (k := v * 4 + 2) (by omega)
  have e3 := hL2.cell (k := v * 4 + 3) (by omega)
  rw [lmV_0] at e0
  rw [lmV_1] at e1
  rw [lmV_2] at e2
  rw [lmV_3] at e3
  have hway := HWay.out
  generalize (ptU f n N).mo v = um at e1 hway
  generalize (ptU f n N).kn v = uk at e3 hway
  generalize (ptD f n N).mo v = dm at e0 hway hDl
  generalize (ptD f n N).kn v = dk at e2 hway
  have wd : IntKind.i64.wrap (- -dm) = dm := by rw [Int.neg_neg]; exact IntWalk.i64_in _ (by omega)
  have wd2 : IntKind.i64.wrap dm = dm := IntWalk.i64_in _ (by omega)
  have hLs := hL2.lt
  clear hB4 hL2 hb2 HWay hDl
  rcases hway with ⟨rfl, rfl, rfl⟩ | ⟨rfl, rfl, rfl, rfl, rfl⟩ | ⟨rfl, hv1, h1, h2, rfl, h3, h4, h5⟩
  · go_wp2_with fail
    refine (awake_of _).mono ?_
    rintro e w7 ⟨rfl, hB7⟩
    have HB7 := Lib.hid ((HB4.out.alloc HB4.out.size _).trans (hB7.mono (HB4.out.alloc HB4.out.size _).size))
    clear hB7
    go_wp2_with fail
    go_ret
    exact ⟨rfl, HB7.out⟩
  · go_wp2_with fail
    refine (proves_nil _ (N : Int) 0 n c' cl x xl).mono ?_
    rintro e w9 ⟨rfl, hw9⟩
    rw [hw9]
    clear hw9 w9
    go_wp2_with fail
    refine (awake_of _).mono ?_
    rintro e w7 ⟨rfl, hB7⟩
    have HB7 := Lib.hid ((HB4.out.alloc HB4.out.size _).trans (hB7.mono (HB4.out.alloc HB4.out.size _).size))
    clear hB7
    go_wp2_with fail
    go_ret
    exact ⟨rfl, HB7.out⟩
  · have hv2 : ((v : Int) == 0) = false := beq_eq_false_iff_ne.2 (by omega)
    have hNN := HBk.out.1
    have HP := Lib.hid (And.intro h1 (And.intro h3 (And.intro h4 h5)))
    have hl64 : l.length ≤ 64 := by omega
    clear h1 h3 h4 h5 h2 hNN
    go_wp2_with fail
    refine (proves_of _ f N n c' cl x xl v 0 l dm HBk.out HP.out.1 hl64 HP.out.2.1 HP.out.2.2.1 HP.out.2.2.2 (HS4.out.keep (by decide) ((Below.refl _ w4).alloc (Nat.le_refl _) _)) (HL4.out.keep (by decide) ((Below.refl _ w4).alloc (Nat.le_refl _) _))).mono ?_
    rintro e w6 ⟨rfl, hB6⟩
    have HB6 := Lib.hid ((HB4.out.alloc HB4.out.size _).trans (hB6.mono (HB4.out.alloc HB4.out.size _).size))
    clear hB6
    go_wp2_with fail
    refine (awake_of w6).mono ?_
    rintro e w7 ⟨rfl, hB7⟩
    have HB7 := Lib.hid (HB6.out.trans (hB7.mono HB6.out.size))
    clear hB7
    go_wp2_with fail
    go_ret
    exact ⟨rfl, HB7.out⟩

set_option maxRecDepth 100000 in
set_option maxHeartbeats 8000000 in
theorem chains_law (w : World) (E v : Int) (up : Bool) (a : Option Addr) (n c : Nat) (f : Nat → Int) (hn : n ≤ 9223372036854775807) (hS : Sl w 3 a n f) :
    Calls Try.prog 9 #[.int .i64 E, .slice a n c, .int .i64 v, .bool up] w fun e w' => e = .returned (.bool true) ∧ Below w.heap.size w w' := by
  cases hf : fewB E n with
  | false =>
    clear hS
    go_enter Try.func9, Try.ntmps9
    go_wp2_with fail
    refine (few_no w E a n c hf hn).mono ?_
    rintro e w9 ⟨rfl, hw9⟩
    rw [hw9]
    clear hw9 w9
    go_wp2_with fail
    refine (awake_of w).mono ?_
    rintro e w2 ⟨rfl, hB⟩
    have HB := Lib.hid hB
    clear hB
    go_wp2_with fail
    go_ret
    exact ⟨rfl, HB.out⟩
  | true =>
    by_cases hok : bchk E n f = 0 ∧ (0 ≤ v ∧ v < E) ∧ clash f n E.toNat < 0
    · obtain ⟨he, ⟨hv0, hvE⟩, hc⟩ := hok
      obtain ⟨hb, hE⟩ := bok_of he
      obtain ⟨N, hN⟩ : ∃ N : Nat, E.toNat = N := ⟨_, rfl⟩
      rw [hN] at hb hE hc
      subst hE
      obtain ⟨k, rfl⟩ : ∃ k : Nat, v = k := ⟨v.toNat, by omega⟩
      cases up
      · exact chains_down w N k a n c f hn hS hf hb hc (by omega)
      · exact chains_up w N k a n c f hn hS hf hb hc (by omega)
    · have C1 := Lib.hid (few_ok w E a n c f hf hS)
      have HS := Lib.hid hS
      clear hS hf
      by_cases he : bchk E n f = 0
      · have HE := Lib.hid he
        by_cases hv : 0 ≤ v ∧ v < E
        · have hc : 0 ≤ clash f n E.toNat := by
            have : ¬clash f n E.toNat < 0 := fun h => hok ⟨he, hv, h⟩
            omega
          have HR := Lib.hid (show BadC E n f v 40 from .inr (.inr ⟨he, hv.1, hv.2, hc, rfl⟩))
          have HRB := Lib.hid (show BadB E n f 40 from ⟨by decide, .inr ⟨he, hc, rfl⟩⟩)
          obtain ⟨hv1, hv2⟩ := hv
          clear hc hok he
          go_enter Try.func9, Try.ntmps9
          go_wp2_with fail
          refine C1.out.mono ?_
          rintro e w2 ⟨x, c', rfl, hS2, hB⟩
          have HB := Lib.hid hB
          have HS2 := Lib.hid hS2
          clear hB hS2 C1
          go_wp2_with fail
          refine (chain_bad w2 f E v n c a up (HS.out.keep (by decide) HB.out) 40 HR.out).mono ?_
          rintro e w3 ⟨rfl, hB3⟩
          have HB3 := Lib.hid (HB.out.trans (hB3.mono HB.out.size))
          have HS3 := Lib.hid (HS2.out.keep (by decide) hB3)
          clear hB3
          go_wp2_with fail
          refine (rcheck_of w3 E x n c' f hn HS3.out).mono ?_
          rintro e w9 ⟨rfl, hw9⟩
          rw [hw9, HE.out]
          clear hw9 w9
          go_wp2_with fail
          refine (rlimits_bad w3 f E n c' x hn HS3.out 40 HRB.out).mono ?_
          rintro e w4 ⟨rfl, hB4⟩
          have HB4 := Lib.hid (HB3.out.trans (hB4.mono HB3.out.size))
          clear hB4
          go_wp2_with fail
          refine (awake_of w4).mono ?_
          rintro e w7 ⟨rfl, hB7⟩
          have HB7 := Lib.hid (HB4.out.trans (hB7.mono HB4.out.size))
          clear hB7
          go_wp2_with fail
          go_ret
          exact ⟨rfl, HB7.out⟩
        · have hv3 : v < 0 ∨ (0 ≤ v ∧ E ≤ v) := by omega
          have HR := Lib.hid (show BadC E n f v 1 from .inr (.inl ⟨he, hv3, rfl⟩))
          clear hok he hv
          rcases hv3 with hv3 | ⟨hv3, hv4⟩
          all_goals
            go_enter Try.func9, Try.ntmps9
            go_wp2_with fail
            refine C1.out.mono ?_
            rintro e w2 ⟨x, c', rfl, hS2, hB⟩
            have HB := Lib.hid hB
            have HS2 := Lib.hid hS2
            clear hB hS2 C1
            go_wp2_with fail
            refine (chain_bad w2 f E v n c a up (HS.out.keep (by decide) HB.out) 1 HR.out).mono ?_
            rintro e w3 ⟨rfl, hB3⟩
            have HB3 := Lib.hid (HB.out.trans (hB3.mono HB.out.size))
            have HS3 := Lib.hid (HS2.out.keep (by decide) hB3)
            clear hB3
            go_wp2_with fail
            refine (rcheck_of w3 E x n c' f hn HS3.out).mono ?_
            rintro e w9 ⟨rfl, hw9⟩
            rw [hw9, HE.out]
            clear hw9 w9
            go_wp2_with fail
            refine (awake_of w3).mono ?_
            rintro e w7 ⟨rfl, hB7⟩
            have HB7 := Lib.hid (HB3.out.trans (hB7.mono HB3.out.size))
            clear hB7
            go_wp2_with fail
            go_ret
            exact ⟨rfl, HB7.out⟩
      · have HR := Lib.hid (show BadC E n f v (bchk E n f) from .inl ⟨he, rfl⟩)
        have hne : (bchk E n f == 0) = false := by simpa using he
        have hne2 : (bchk E n f != 0) = true := by simpa using he
        clear hok he
        go_enter Try.func9, Try.ntmps9
        go_wp2_with fail
        refine C1.out.mono ?_
        rintro e w2 ⟨x, c', rfl, hS2, hB⟩
        have HB := Lib.hid hB
        have HS2 := Lib.hid hS2
        clear hB hS2 C1
        go_wp2_with fail
        refine (chain_bad w2 f E v n c a up (HS.out.keep (by decide) HB.out) _ HR.out).mono ?_
        rintro e w3 ⟨rfl, hB3⟩
        have HB3 := Lib.hid (HB.out.trans (hB3.mono HB.out.size))
        have HS3 := Lib.hid (HS2.out.keep (by decide) hB3)
        clear hB3
        go_wp2_with fail
        refine (rcheck_of w3 E x n c' f hn HS3.out).mono ?_
        rintro e w9 ⟨rfl, hw9⟩
        rw [hw9]
        clear hw9 w9
        go_wp2_with fail
        refine (awake_of w3).mono ?_
        rintro e w7 ⟨rfl, hB7⟩
        have HB7 := Lib.hid (HB3.out.trans (hB7.mono HB3.out.size))
        clear hB7
        go_wp2_with fail
        go_ret
        exact ⟨rfl, HB7.out⟩
end Go.Proofs.Ytonlamkpehakdaa
