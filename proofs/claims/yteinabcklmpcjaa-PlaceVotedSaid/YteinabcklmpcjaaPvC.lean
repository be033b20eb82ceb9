/-
  WALKS: the error of a vote; the order of turns.
-/
import Derived.Test.YteinabcklmpcjaaPmH
import Derived.Test.YteinabcklmpcjaaPrA
import Derived.Test.YteinabcklmpcjaaPvB
import Derived.StillTailTactics
namespace Go.Proofs.Yteinabcklmpcjaa
open Go.RowKit

/-- The error of a range; of the arguments of Vote. -/
def vgAt (f : Nat → Int) (i : Nat) : Int := rgErr (f (i * 2)) (f (i * 2 + 1)) (-1073741824) 1073741824
def voE (n : Nat) (f : Nat → Int) (wr : Int) : Int := if n < 1 ∨ 16 < n then 4 else if first (vgAt f) n ≠ 0 then first (vgAt f) n else if 0 ≤ wr ∧ wr < n then 0 else 1

set_option maxRecDepth 100000 in
set_option maxHeartbeats 4000000 in
theorem checkVote_of (w : World) (a : Option Addr) (n c : Nat) (f : Nat → Int) (v : Int) (hn : n ≤ maxLen) (hS : Sl w 2 a n f) :
    Calls Try.prog 63 #[.slice a n c, .int .i64 v] w fun e w' => e = .returned (.int .i64 (voE n f v)) ∧ Below w.heap.size w w' := by
  have HS := Lib.hid hS
  have hmx : maxLen = 9223372036854775807 := rfl
  clear hS
  by_cases h1 : n < 1 ∨ 16 < n
  · have hE : voE n f v = 4 := by unfold voE; rw [if_pos h1]
    rw [hE]
    clear hE
    rcases (by omega : n = 0 ∨ (0 < n ∧ 16 < n)) with rfl | ⟨h2, h3⟩
    · go_enter Try.func63, Try.ntmps63
      go_wp2_with fail
      go_ret
      exact ⟨rfl, Below.refl _ _⟩
    · go_enter Try.func63, Try.ntmps63
      go_wp2_with fail
      go_ret
      exact ⟨rfl, Below.refl _ _⟩
  have hn1 : 1 ≤ n ∧ n ≤ 16 := by omega
  have hE : voE n f v = if first (vgAt f) n ≠ 0 then first (vgAt f) n else if 0 ≤ v ∧ v < n then 0 else 1 := by unfold voE; rw [if_neg h1]
  obtain ⟨V, hV⟩ : ∃ V, voE n f v = V := ⟨_, rfl⟩
  rw [hV] at hE ⊢
  have HE := Lib.hid hE
  clear hE hV h1 hmx hn
  go_enter Try.func63, Try.ntmps63
  go_wp2_with fail
  go_loopw [18] (fun vi wr => ∃ i : Nat, i ≤ n ∧ vi = .int .i64 i ∧ Hid (∀ j, j < i → vgAt f j = 0) ∧ Hid (Below w.heap.size w wr)) (fun vi _ => n - (intOf vi).toNat)
  case atStart => exact ⟨0, by omega, rfl, fun j hj => by omega, Below.refl _ _⟩
  case round =>
    obtain ⟨i, hi, rfl, HI, HB⟩ := hrel
    by_cases hlt : i < n
    · obtain ⟨b, o, rfl, hI⟩ := HS.out (by omega)
      have hJ := hI.keep HB.out (hI.lt (by omega))
      have d0 := hJ (i * 2) (by omega)
      have d1 := hJ.at (i * 2) 1 (by omega)
      have hv : vgAt f i = rgErr (f (i * 2)) (f (i * 2 + 1)) (-1073741824) 1073741824 := rfl
      clear hI hJ
      generalize f (i * 2) = X at d0 hv
      generalize f (i * 2 + 1) = Y at d1 hv
      obtain ⟨R, hR⟩ : ∃ R, rgErr X Y (-1073741824) 1073741824 = R := ⟨_, rfl⟩
      rw [hR] at hv
      have HR := Lib.hid hR
      have HV := Lib.hid hv
      have HF : Hid (R ≠ 0 → V = R) := fun hne => by
        have h2 := first_at (g := vgAt f) HI.out (by rw [hv]; exact hne) hlt
        rw [HE.out, h2, hv, if_pos hne]
      have hB4 := (HB.out.alloc HB.out.size (.cells #[.int .i64 X, .int .i64 Y] 25))
      have a4 := World.alloc_heap_new wr (.cells #[.int .i64 X, .int .i64 Y] 25)
      clear hR hv
      by_cases h0 : R = 0
      · subst h0
        go_wp2_with fail
        generalize wr.alloc (.cells #[.int .i64 X, .int .i64 Y] 25) = W4 at hB4 a4 ⊢
        refine (checkRange_of W4 X Y _ _).mono ?_
        rintro e W5 ⟨rfl, hw5⟩
        rw [HR.out]
        have HB5 := Lib.hid (hB4.alloc hB4.size (.cells #[.int .i64 X, .int .i64 Y] 25))
        rw [← hw5] at HB5
        clear hw5 hB4 a4
        go_wp2_with fail
        exact ⟨⟨i + 1, by omega, by go_num, (fun j hj => by
          by_cases ej : j = i
          · subst ej; exact HV.out
          · exact HI.out j (by omega)), HB5.out⟩, by simp [intOf]; omega⟩
      · have hne : (R == 0) = false := by simpa using h0
        have hne2 : (R != 0) = true := by simpa using h0
        have HN := Lib.hid h0
        clear h0
        go_wp2_with fail
        generalize wr.alloc (.cells #[.int .i64 X, .int .i64 Y] 25) = W4 at hB4 a4 ⊢
        refine (checkRange_of W4 X Y _ _).mono ?_
        rintro e W5 ⟨rfl, hw5⟩
        rw [HR.out]
        have HB5 := Lib.hid (hB4.alloc hB4.size (.cells #[.int .i64 X, .int .i64 Y] 25))
        rw [← hw5] at HB5
        clear hw5 hB4 a4
        go_wp2_with fail
        go_ret
        exact ⟨by rw [HF.out HN.out]; rfl, HB5.out⟩
    · obtain rfl : i = n := by omega
      have hv := HE.out
      rw [first_zero HI.out, if_neg (by simp)] at hv
      by_cases hr : 0 ≤ v ∧ v < i
      · rw [if_pos hr] at hv
        subst hv
        go_wp2_with (go_at_call 70; refine (idx_of true _ _ _ (by symm; rw [decide_eq_true_iff]; exact hr)).mono ?_; rintro e w9 ⟨rfl, hw9⟩; rw [hw9]; clear hw9 w9)
        go_ret
        exact ⟨rfl, HB.out⟩
      · rw [if_neg hr] at hv
        subst hv
        go_wp2_with (go_at_call 70; refine (idx_of false _ _ _ (by symm; rw [decide_eq_false_iff_not]; exact hr)).mono ?_; rintro e w9 ⟨rfl, hw9⟩; rw [hw9]; clear hw9 w9)
        go_ret
        exact ⟨rfl, HB.out⟩

set_option maxRecDepth 100000 in
theorem isNaN_of (w : World) (x : Int) : Calls Try.prog 98 #[.int .i64 x] w fun e w' => e = .returned (.bool false) ∧ w' = w := by
  go_enter Try.func98, Try.ntmps98
  go_wp2_with fail
  go_ret
  exact ⟨by simp, rfl⟩
set_option maxRecDepth 100000 in
theorem compare_of (w : World) (x y : Int) : Calls Try.prog 91 #[.int .i64 x, .int .i64 y] w fun e w' => e = .returned (.int .i64 (cmpI x y)) ∧ w' = w := by
  have hc : (x < y ∧ cmpI x y = -1) ∨ (¬x < y ∧ y < x ∧ cmpI x y = 1) ∨ (¬x < y ∧ ¬y < x ∧ cmpI x y = 0) := by
    unfold cmpI
    by_cases h1 : x < y
    · exact .inl ⟨h1, by rw [if_pos h1]⟩
    · by_cases h2 : y < x
      · exact .inr (.inl ⟨h1, h2, by rw [if_neg h1, if_pos h2]⟩)
      · exact .inr (.inr ⟨h1, h2, by rw [if_neg h1, if_neg h2]⟩)
  generalize cmpI x y = R at hc ⊢
  rcases hc with ⟨h1, rfl⟩ | ⟨h1, h2, rfl⟩ | ⟨h1, h2, rfl⟩
  all_goals
    go_enter Try.func91, Try.ntmps91
    go_wp2_with (go_at_call 98; refine (isNaN_of _ _).mono ?_; rintro e w9 ⟨rfl, hw9⟩; rw [hw9]; clear hw9 w9)
    go_ret
    exact ⟨rfl, rfl⟩
set_option maxRecDepth 100000 in
theorem or_of (w : World) (B : Nat) (x y : Int) (h0 : w.cell? ⟨B, 0, none⟩ = some (.int .i64 x)) (h1 : w.cell? ⟨B, 1, none⟩ = some (.int .i64 y)) : Calls Try.prog 90 #[.slice (some ⟨B, 0, none⟩) 2 2] w fun e w' => e = .returned (.int .i64 (if x ≠ 0 then x else y)) ∧ w' = w := by
  by_cases hx : x = 0
  · subst hx
    rw [if_neg (by simp)]
    by_cases hy : y = 0
    · subst hy
      go_enter Try.func90, Try.ntmps90
      go_wp2_with fail
      refine wp_loop_rounds 3 ?_
      rw [rounds_succ]
      go_wp2_with fail
      rw [rounds_succ]
      go_wp2_with fail
      rw [rounds_succ]
      go_wp2_with fail
      go_ret
      exact ⟨rfl, rfl⟩
    · have hb : (y == 0) = false := by simpa using hy
      have hb2 : (y != 0) = true := by simpa using hy
      clear hy
      go_enter Try.func90, Try.ntmps90
      go_wp2_with fail
      refine wp_loop_rounds 3 ?_
      rw [rounds_succ]
      go_wp2_with fail
      rw [rounds_succ]
      go_wp2_with fail
      go_ret
      exact ⟨rfl, rfl⟩
  · rw [if_pos hx]
    have hb : (x == 0) = false := by simpa using hx
    have hb2 : (x != 0) = true := by simpa using hx
    clear hx
    go_enter Try.func90, Try.ntmps90
    go_wp2_with fail
    refine wp_loop_rounds 3 ?_
    rw [rounds_succ]
    go_wp2_with fail
    go_ret
    exact ⟨rfl, rfl⟩
end Go.Proofs.Yteinabcklmpcjaa
