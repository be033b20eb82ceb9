/-
  WALKS: the reference's Upstream.
-/
import Derived.Test.YteinabcklmpcjaaPrI
namespace Go.Proofs.Yteinabcklmpcjaa
open Go.RowKit

theorem cnt_all {g : Nat → Int} {n : Nat} {x : Int} (hr : ∀ j, j < n → ∀ i, i < j → g i < g j) {i : Nat} (hi : i < n) (h : g i ≤ x) : cnt g i x = i := by
  have key : ∀ k, k ≤ i → cnt g k x = k := by
    intro k
    induction k with
    | zero => intro _; rfl
    | succ k ih =>
      intro hk
      have := hr i hi k (by omega)
      rw [cnt_succ, ih (by omega), if_pos (by omega)]
  exact key i (Nat.le_refl _)

set_option maxRecDepth 100000 in
set_option maxHeartbeats 4000000 in
theorem rupstream_of (w : World) (a : Option Addr) (n c : Nat) (g : Nat → Int) (lo hi : Int) (hS : Sl w 1 a n g) :
    Calls Try.prog 20 #[.slice a n c, .agg #[.int .i64 lo, .int .i64 hi]] w fun e w' => e = .returned (up3 (upR n g lo hi)) ∧ Below w.heap.size w w' := by
  have a1 := World.alloc_heap_new w (.cells #[.int .i64 lo, .int .i64 hi] 25)
  have hB : Below w.heap.size w (w.alloc (.cells #[.int .i64 lo, .int .i64 hi] 25)) := (Below.refl _ w).alloc (Nat.le_refl _) _
  have hS2 := hS.keep (by decide) hB
  obtain ⟨r, hrr⟩ : ∃ r, upR n g lo hi = r := ⟨_, rfl⟩
  rw [hrr]
  have HRR := Lib.hid hrr
  clear hrr hS
  go_enter Try.func20, Try.ntmps20
  go_wp2_with fail
  generalize w.alloc (.cells #[.int .i64 lo, .int .i64 hi] 25) = W at a1 hB hS2 ⊢
  refine (line_of W false 1 rfl a n c g hS2).mono ?_
  rintro e W2 ⟨rfl, hB2⟩
  replace a1 := (hB2.block _ (Array.getElem?_eq_some_iff.1 a1).1).trans a1
  replace hS2 := hS2.keep (by decide) hB2
  replace hB := hB.trans (hB2.mono hB.size)
  have y0 : W2.cell? ⟨w.heap.size, 0, none⟩ = some (.int .i64 lo) := cell_h a1 rfl
  have y1 : W2.cell? ⟨w.heap.size, 1, none⟩ = some (.int .i64 hi) := cell_h a1 rfl
  have HB := Lib.hid hB
  have HS := Lib.hid hS2
  have A1 := Lib.hid a1
  clear hB hS2 a1 hB2
  by_cases h1 : plChk 1 n g = 0
  · by_cases h2 : rgErr lo hi (-1073741824) 1073741824 = 0
    · have hE : upR n g lo hi = ((cnt g n lo : Int) - 1, (cnt g n hi : Int) - 1, 0) := by unfold upR; rw [if_neg (by simpa using h1), if_neg (by simpa using h2)]
      rw [HRR.out] at hE
      have HE := Lib.hid hE
      rw [h1]
      have hr := plc_rise h1
      have hn := (plc_ok h1).1
      have H2 := Lib.hid h2
      have HR := Lib.hid hr
      clear hE h1 h2 hr
      go_wp2_with fail
      refine (wrong_of W2 lo hi _ _).mono ?_
      rintro e w9 ⟨rfl, hw9⟩
      rw [H2.out]
      have b1 := al_old A1.out (.cells #[.int .i64 lo, .int .i64 hi] 25)
      have hB2 := HB.out.alloc HB.out.size (.cells #[.int .i64 lo, .int .i64 hi] 25)
      have hS2 := HS.out.keep (by decide) ((Below.refl _ W2).alloc (Nat.le_refl _) (.cells #[.int .i64 lo, .int .i64 hi] 25))
      rw [← hw9] at b1 hB2 hS2
      clear hw9 y0 y1
      have y0 : w9.cell? ⟨w.heap.size, 0, none⟩ = some (.int .i64 lo) := cell_h b1 rfl
      have y1 : w9.cell? ⟨w.heap.size, 1, none⟩ = some (.int .i64 hi) := cell_h b1 rfl
      have Y0 := Lib.hid y0
      have Y1 := Lib.hid y1
      have HB2 := Lib.hid hB2
      have HS2 := Lib.hid hS2
      clear b1 hB2 hS2 y0 y1
      go_wp2_with fail
      go_loopw [9, 10, 11] (fun va vb vi wr => ∃ i : Nat, i ≤ n ∧ vi = .int .i64 i ∧ va = .int .i64 ((cnt g i lo : Int) - 1) ∧ vb = .int .i64 ((cnt g i hi : Int) - 1) ∧ Hid (Below w9.heap.size w9 wr)) (fun _ _ vi _ => n - (intOf vi).toNat)
      case atStart => exact ⟨0, by omega, rfl, rfl, rfl, Below.refl _ _⟩
      case round =>
        obtain ⟨i, hi', rfl, rfl, rfl, HB3⟩ := hrel
        have hb := HB3.out
        by_cases hlt : i < n
        · obtain ⟨b, o, rfl, hI⟩ := HS2.out (by omega)
          have hJ := hI.keep hb (hI.lt (by omega))
          have d0 := hJ i (by omega)
          have y0 : wr.cell? ⟨w.heap.size, 0, none⟩ = some (.int .i64 lo) := (hb.cell (p := ⟨w.heap.size, 0, none⟩) (World.block_lt_of_cell? w9 _ Y0.out)).trans Y0.out
          have y1 : wr.cell? ⟨w.heap.size, 1, none⟩ = some (.int .i64 hi) := (hb.cell (p := ⟨w.heap.size, 1, none⟩) (World.block_lt_of_cell? w9 _ Y1.out)).trans Y1.out
          have hc1 : (g i ≤ lo ∧ (i : Int) = (cnt g (i + 1) lo : Int) - 1) ∨ (¬g i ≤ lo ∧ (cnt g i lo : Int) - 1 = (cnt g (i + 1) lo : Int) - 1) := by
            by_cases h : g i ≤ lo
            · exact .inl ⟨h, by rw [cnt_succ, if_pos h, cnt_all HR.out hlt h]; omega⟩
            · exact .inr ⟨h, by rw [cnt_succ, if_neg h]; omega⟩
          have hc2 : (g i ≤ hi ∧ (i : Int) = (cnt g (i + 1) hi : Int) - 1) ∨ (¬g i ≤ hi ∧ (cnt g i hi : Int) - 1 = (cnt g (i + 1) hi : Int) - 1) := by
            by_cases h : g i ≤ hi
            · exact .inl ⟨h, by rw [cnt_succ, if_pos h, cnt_all HR.out hlt h]; omega⟩
            · exact .inr ⟨h, by rw [cnt_succ, if_neg h]; omega⟩
          have HJ := Lib.hid hJ
          clear hI hJ hb
          generalize g i = X at d0 hc1 hc2
          generalize (cnt g i lo : Int) - 1 = P at hc1 ⊢
          generalize (cnt g i hi : Int) - 1 = S at hc2 ⊢
          rcases hc1 with ⟨k1, q1⟩ | ⟨k1, q1⟩
          all_goals
            have Q1 := Lib.hid q1
            clear q1
            rcases hc2 with ⟨k2, q2⟩ | ⟨k2, q2⟩
            all_goals
              have Q2 := Lib.hid q2
              clear q2
              go_wp2_with fail
              go_quiet (fail)
              go_wp2_with fail
              go_quiet (fail)
              go_wp2_with fail
              have hb := HB3.out
              exact ⟨⟨i + 1, by omega, by go_num, congrArg (Value.int .i64) Q1.out, congrArg (Value.int .i64) Q2.out, ⟨hb.os, hb.tape, hb.output, hb.size, hb.block⟩⟩, by simp [intOf]; omega⟩
        · obtain rfl : i = n := by omega
          go_wp2_with fail
          exact bodyPost_ret (v := up3 ((cnt g i lo : Int) - 1, (cnt g i hi : Int) - 1, 0)) (by simp [results, Try.f20, go_sem, up3]) rfl ⟨by rw [HE.out], HB2.out.trans (HB3.out.mono HB2.out.size)⟩
    · have hE : upR n g lo hi = (0, 0, rgErr lo hi (-1073741824) 1073741824) := by unfold upR; rw [if_neg (by simpa using h1), if_pos (by simpa using h2)]
      rw [HRR.out] at hE
      have HE := Lib.hid hE
      rw [h1]
      have hne : (rgErr lo hi (-1073741824) 1073741824 == 0) = false := by simpa using h2
      have hne2 : (rgErr lo hi (-1073741824) 1073741824 != 0) = true := by simpa using h2
      clear hE h1 h2
      go_wp2_with fail
      refine (wrong_of W2 lo hi _ _).mono ?_
      rintro e w9 ⟨rfl, hw9⟩
      have hB2 := HB.out.alloc HB.out.size (.cells #[.int .i64 lo, .int .i64 hi] 25)
      rw [← hw9] at hB2
      clear hw9
      generalize rgErr lo hi (-1073741824) 1073741824 = R at hne hne2 HE ⊢
      go_wp2_with fail
      exact bodyPost_ret (v := up3 (0, 0, R)) (by simp [results, Try.f20, go_sem, up3]) rfl ⟨by rw [HE.out], hB2⟩
  · have hE : upR n g lo hi = (0, 0, plChk 1 n g) := by unfold upR; rw [if_pos (by simpa using h1)]
    rw [HRR.out] at hE
    have HE := Lib.hid hE
    have hne : (plChk 1 n g == 0) = false := by simpa using h1
    have hne2 : (plChk 1 n g != 0) = true := by simpa using h1
    clear hE h1
    generalize plChk 1 n g = R at hne hne2 HE ⊢
    go_wp2_with fail
    exact bodyPost_ret (v := up3 (0, 0, R)) (by simp [results, Try.f20, go_sem, up3]) rfl ⟨by rw [HE.out], HB.out⟩
end Go.Proofs.Yteinabcklmpcjaa
