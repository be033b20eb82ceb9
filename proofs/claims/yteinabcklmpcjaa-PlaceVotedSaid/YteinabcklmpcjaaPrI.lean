/-
  WALKS: the reference's line and Upstream.
-/
import Derived.Test.YteinabcklmpcjaaPrG
namespace Go.Proofs.Yteinabcklmpcjaa
open Go.RowKit

theorem pl_ways (R : Int) (g : Nat → Int) (i : Nat) : (¬(0 ≤ g i ∧ g i ≤ 1073741824) ∧ plErr R g i = 1) ∨ ((0 ≤ g i ∧ g i ≤ 1073741824) ∧ i = 0 ∧ plErr R g i = 0) ∨
    ((0 ≤ g i ∧ g i ≤ 1073741824) ∧ ∃ j, i = j + 1 ∧ ((g i - g j < R ∧ plErr R g i = 7) ∨ (¬g i - g j < R ∧ plErr R g i = 0))) := by
  unfold plErr
  by_cases h : g i < 0 ∨ 1073741824 < g i
  · exact .inl ⟨by omega, by rw [if_pos h]⟩
  · rw [if_neg h]
    by_cases h0 : i = 0
    · exact .inr (.inl ⟨by omega, h0, by rw [if_neg (by omega)]⟩)
    · obtain ⟨j, rfl⟩ : ∃ j, i = j + 1 := ⟨i - 1, by omega⟩
      rw [Nat.add_sub_cancel]
      refine .inr (.inr ⟨by omega, j, rfl, ?_⟩)
      by_cases h2 : g (j + 1) - g j < R
      · exact .inl ⟨h2, by rw [if_pos ⟨by omega, h2⟩]⟩
      · exact .inr ⟨h2, by rw [if_neg (by omega)]⟩

set_option maxRecDepth 100000 in
set_option maxHeartbeats 4000000 in
theorem line_of (w : World) (q : Bool) (R : Int) (hR : R = if q = true then 0 else 1) (a : Option Addr) (n c : Nat) (g : Nat → Int) (hS : Sl w 1 a n g) :
    Calls Try.prog 56 #[.slice a n c, .bool q] w fun e w' => e = .returned (.int .i64 (plChk R n g)) ∧ Below w.heap.size w w' := by
  have HS := Lib.hid hS
  clear hS
  by_cases h40 : 40 < n
  · have hE : plChk R n g = 4 := by unfold plChk; rw [if_pos h40]
    rw [hE]
    go_enter Try.func56, Try.ntmps56
    go_wp2
    go_ret
    exact ⟨rfl, Below.refl _ _⟩
  have hE : plChk R n g = first (plErr R g) n := by unfold plChk; rw [if_neg h40]
  rw [hE]
  obtain ⟨V, hV⟩ : ∃ V, first (plErr R g) n = V := ⟨_, rfl⟩
  rw [hV]
  have HV := Lib.hid hV
  clear hE hV
  go_enter Try.func56, Try.ntmps56
  go_wp2_with fail
  go_loopw [5] (fun vi wr => ∃ i : Nat, i ≤ n ∧ vi = .int .i64 i ∧ Hid (∀ j, j < i → plErr R g j = 0) ∧ Hid (Below w.heap.size w wr)) (fun vi _ => n - (intOf vi).toNat)
  case atStart => exact ⟨0, by omega, rfl, fun j hj => by omega, Below.refl _ _⟩
  case round =>
    obtain ⟨i, hi, rfl, HI, HB⟩ := hrel
    have hb := HB.out
    by_cases hlt : i < n
    · obtain ⟨b, o, rfl, hI⟩ := HS.out (by omega)
      have hJ := hI.keep HB.out (hI.lt (by omega))
      have d0 := hJ i (by omega)
      have hW := pl_ways R g i
      obtain ⟨E, hE⟩ : ∃ E, plErr R g i = E := ⟨_, rfl⟩
      rw [hE] at hW
      have HF : Hid (E ≠ 0 → V = E) := fun hne => by rw [← HV.out, ← hE]; exact first_at HI.out (by rw [hE]; exact hne) hlt
      have HE := Lib.hid hE
      have HJ := Lib.hid hJ
      clear hI hJ hE
      generalize g i = X at d0 hW
      rcases hW with ⟨k1, rfl⟩ | ⟨k1, h0, rfl⟩ | ⟨k1, j, hj, hV⟩
      · have K1 := Lib.hid (show false = decide (0 ≤ X ∧ X ≤ 1073741824) by symm; rw [decide_eq_false_iff_not]; exact k1)
        clear k1 hb
        go_wp2_with (go_at_call 50; refine (wi_of _ _ _ _ _ K1.out).mono ?_; rintro e' w' ⟨rfl, hw⟩; rw [hw]; clear hw w')
        go_ret
        exact ⟨by rw [HF.out (by decide)]; rfl, HB.out⟩
      · have K1 := Lib.hid (show true = decide (0 ≤ X ∧ X ≤ 1073741824) by symm; rw [decide_eq_true_iff]; exact k1)
        have hg : decide (0 < i) = false := by rw [decide_eq_false_iff_not]; omega
        clear k1 h0
        go_wp2_with (go_at_call 50; refine (wi_of _ _ _ _ _ K1.out).mono ?_; rintro e' w' ⟨rfl, hw⟩; rw [hw]; clear hw w')
        go_quiet (fail)
        go_wp2_with fail
        exact ⟨⟨i + 1, by omega, by go_num, (fun j hj => by
          by_cases ej : j = i
          · subst ej; exact HE.out
          · exact HI.out j (by omega)), ⟨hb.os, hb.tape, hb.output, hb.size, hb.block⟩⟩, by simp [intOf]; omega⟩
      · obtain ⟨Y, hY⟩ : ∃ Y, g j = Y := ⟨_, rfl⟩
        have d1 := HJ.out j (by omega)
        rw [hY] at hV d1
        obtain rfl : j = i - 1 := by omega
        have K1 := Lib.hid (show true = decide (0 ≤ X ∧ X ≤ 1073741824) by symm; rw [decide_eq_true_iff]; exact k1)
        have hg : decide (0 < i) = true := by rw [decide_eq_true_iff]; omega
        have hpos : (0 : Int) < i := by omega
        have hw1 : IntKind.i64.wrap ((i : Int) - 1) = (i : Int) - 1 := IntWalk.i64_in _ (by omega)
        have ht1 : ((i : Int) - 1).toNat = i - 1 := by omega
        have hin : (i : Int) - 1 < n := by omega
        have hi0 : 0 ≤ (i : Int) - 1 := by omega
        have hc : (X < Y ∧ E = 7) ∨ (¬X < Y ∧ X = Y ∧ q = false ∧ E = 7) ∨ (¬X < Y ∧ X = Y ∧ q = true ∧ E = 0) ∨ (¬X < Y ∧ X ≠ Y ∧ E = 0) := by
          cases q
          · rw [if_neg (by decide)] at hR; subst hR
            by_cases e1 : X < Y
            · exact .inl ⟨e1, by omega⟩
            · by_cases e2 : X = Y
              · exact .inr (.inl ⟨e1, e2, rfl, by omega⟩)
              · exact .inr (.inr (.inr ⟨e1, e2, by omega⟩))
          · rw [if_pos rfl] at hR; subst hR
            by_cases e1 : X < Y
            · exact .inl ⟨e1, by omega⟩
            · by_cases e2 : X = Y
              · exact .inr (.inr (.inl ⟨e1, e2, rfl, by omega⟩))
              · exact .inr (.inr (.inr ⟨e1, e2, by omega⟩))
        clear k1 hj hY hV
        rcases hc with ⟨e1, rfl⟩ | ⟨e1, e2, rfl, rfl⟩ | ⟨e1, e2, rfl, rfl⟩ | ⟨e1, e2, rfl⟩
        · go_wp2_with (go_at_call 50; refine (wi_of _ _ _ _ _ K1.out).mono ?_; rintro e' w' ⟨rfl, hw⟩; rw [hw]; clear hw w')
          go_quiet (fail)
          go_wp2_with fail
          go_ret
          exact ⟨by rw [HF.out (by decide)]; rfl, ⟨hb.os, hb.tape, hb.output, hb.size, hb.block⟩⟩
        · have e3 : decide (X < Y) = false := by rw [decide_eq_false_iff_not]; exact e1
          subst e2
          clear e1
          go_wp2_with (go_at_call 50; refine (wi_of _ _ _ _ _ K1.out).mono ?_; rintro e' w' ⟨rfl, hw⟩; rw [hw]; clear hw w')
          go_quiet (fail)
          go_wp2_with fail
          go_ret
          exact ⟨by rw [HF.out (by decide)]; rfl, ⟨hb.os, hb.tape, hb.output, hb.size, hb.block⟩⟩
        · have e3 : decide (X < Y) = false := by rw [decide_eq_false_iff_not]; exact e1
          subst e2
          clear e1
          go_wp2_with (go_at_call 50; refine (wi_of _ _ _ _ _ K1.out).mono ?_; rintro e' w' ⟨rfl, hw⟩; rw [hw]; clear hw w')
          go_quiet (fail)
          go_wp2_with fail
          exact ⟨⟨i + 1, by omega, by go_num, (fun j hj => by
            by_cases ej : j = i
            · subst ej; exact HE.out
            · exact HI.out j (by omega)), ⟨hb.os, hb.tape, hb.output, hb.size, hb.block⟩⟩, by simp [intOf]; omega⟩
        · have e3 : decide (X < Y) = false := by rw [decide_eq_false_iff_not]; exact e1
          have e4 : (X == Y) = false := by simpa using e2
          clear e1 e2
          go_wp2_with (go_at_call 50; refine (wi_of _ _ _ _ _ K1.out).mono ?_; rintro e' w' ⟨rfl, hw⟩; rw [hw]; clear hw w')
          go_quiet (fail)
          go_wp2_with fail
          exact ⟨⟨i + 1, by omega, by go_num, (fun j hj => by
            by_cases ej : j = i
            · subst ej; exact HE.out
            · exact HI.out j (by omega)), ⟨hb.os, hb.tape, hb.output, hb.size, hb.block⟩⟩, by simp [intOf]; omega⟩
    · obtain rfl : i = n := by omega
      go_wp2_with fail
      go_ret
      exact ⟨by rw [← HV.out, first_zero HI.out]; rfl, HB.out⟩
end Go.Proofs.Yteinabcklmpcjaa
