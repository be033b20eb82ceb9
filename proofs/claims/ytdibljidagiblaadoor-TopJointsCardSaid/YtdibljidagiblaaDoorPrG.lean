/-
  WALKS: Upstream, in the program.
-/
import Derived.Test.YtdibljidagiblaaDoorPmF
import Derived.Test.YtdibljidagiblaaDoorPrA
import Derived.Test.YtdibljidagiblaaDoorShelf
import Derived.BigQuiet
import Derived.Deep.QuietTactic
namespace Go.Proofs.YtdibljidagiblaaDoor
open Go.RowKit

/-- How many of the first n are not above x; what Upstream tells. -/
def cnt (g : Nat → Int) (n : Nat) (x : Int) : Nat := ((List.range n).map g).countP (fun z => decide (z < x + 1))
def upR (n : Nat) (g : Nat → Int) (lo hi : Int) : Int × Int × Int :=
  if plChk 1 n g ≠ 0 then (0, 0, plChk 1 n g) else if rgErr lo hi (-1073741824) 1073741824 ≠ 0 then (0, 0, rgErr lo hi (-1073741824) 1073741824) else ((cnt g n lo : Int) - 1, (cnt g n hi : Int) - 1, 0)
def up3 (r : Int × Int × Int) : Value := .tuple #[.int .i64 r.1, .int .i64 r.2.1, .int .i64 r.2.2]
theorem cnt_le (g : Nat → Int) (n : Nat) (x : Int) : cnt g n x ≤ n := by
  have := List.countP_le_length (p := fun z => decide (z < x + 1)) (l := (List.range n).map g)
  simpa [cnt] using this
theorem cnt_succ (g : Nat → Int) (n : Nat) (x : Int) : cnt g (n + 1) x = cnt g n x + if g n ≤ x then 1 else 0 := by
  unfold cnt
  rw [List.range_succ, List.map_append, List.countP_append]
  congr 1
  simp only [List.map_cons, List.map_nil, List.countP_cons, List.countP_nil]
  by_cases h : g n ≤ x
  · rw [if_pos h, if_pos (by simp; omega)]
  · rw [if_neg h, if_neg (by simp; omega)]
/-- Welds rise. -/
theorem plc_rise {n : Nat} {g : Nat → Int} (h : plChk 1 n g = 0) : ∀ j, j < n → ∀ i, i < j → g i < g j := by
  have h1 : first (plErr 1 g) n = 0 := by
    unfold plChk at h
    by_cases h40 : 40 < n
    · rw [if_pos h40] at h; exact absurd h (by decide)
    · rwa [if_neg h40] at h
  intro j
  induction j with
  | zero => intro _ i hi; omega
  | succ j ih =>
    intro hj i hi
    have h2 := first_all h1 (j + 1) hj
    have h3 : g j < g (j + 1) := by
      unfold plErr at h2
      split at h2
      · omega
      · split at h2
        · omega
        · rename_i hb; rw [Nat.add_sub_cancel] at hb; omega
    by_cases e : i = j
    · subst e; exact h3
    · have := ih (by omega) i (by omega); omega

set_option maxRecDepth 100000 in
set_option maxHeartbeats 4000000 in
theorem bs_of (w : World) (a : Option Addr) (n c : Nat) (g : Nat → Int) (x : Int) (hS : Sl w 1 a n g) (hn : n ≤ 40) (hr : ∀ j, j < n → ∀ i, i < j → g i < g j) :
    Calls Tryd.prog 59 #[.slice a n c, .int .i64 x] w fun e w' => (∃ b, e = .returned (.tuple #[.int .i64 (((List.range n).map g).countP (fun z => decide (z < x)) : Nat), .bool b])) ∧ ∃ q, w' = w.drewN q := by
  cases n with
  | zero =>
    go_enter Tryd.func59, Tryd.ntmps59
    go_wp2_with fail
    refine wp_loop_rounds 2 ?_
    rw [rounds_succ]
    go_wp2_with fail
    exact bodyPost_ret (v := .tuple #[.int .i64 0, .bool false]) (by simp [results, Tryd.f59, go_sem]) rfl ⟨⟨false, rfl⟩, 0, rfl⟩
  | succ m =>
    obtain ⟨b, o, rfl, hI⟩ := hS (by omega)
    have hl : ((List.range (m + 1)).map g).length = m + 1 := by simp
    have ht : ((List.range (m + 1)).map g).take (m + 1) = (List.range (m + 1)).map g := List.take_of_length_le (by simp)
    refine (Tryd.slices_BinarySearch_int b o (m + 1) c ((List.range (m + 1)).map g) x w (by rw [hl]; omega) (by omega) (fun j hj => ?_) ?_).mono ?_
    · rw [hl] at hj
      rw [hI j (by omega)]
      simp [hj]
    · rw [ht, List.pairwise_map]
      refine List.Pairwise.imp_of_mem ?_ List.pairwise_lt_range
      intro i j hi hj hij
      have := hr j (by simpa using hj) i hij
      omega
    · rintro e w' ⟨rfl, hq⟩
      rw [ht]
      exact ⟨⟨_, rfl⟩, hq⟩

set_option maxRecDepth 100000 in
set_option maxHeartbeats 4000000 in
theorem upstream1_of (w : World) (p : Nat) (a : Option Addr) (n c : Nat) (g : Nat → Int) (x : Int) (hp : w.cell? ⟨p, 0, none⟩ = some (.slice a n c)) (hS : Sl w 1 a n g) (hn : n ≤ 40) (hr : ∀ j, j < n → ∀ i, i < j → g i < g j) (hx : -1073741824 ≤ x ∧ x ≤ 1073741824) :
    Calls Tryd.prog 58 #[.int .i64 x, .pointer (some ⟨p, 0, none⟩)] w fun e w' => e = .returned (.int .i64 ((cnt g n x : Int) - 1)) ∧ ∃ q, w' = w.drewN q := by
  have hC := bs_of w a n c g (x + 1) hS hn hr
  have hc := cnt_le g n x
  unfold cnt at hc ⊢
  generalize ((List.range n).map g).countP (fun z => decide (z < x + 1)) = C at hC hc ⊢
  have HC := Lib.hid hC
  clear hC hS hr
  go_enter Tryd.func58, Tryd.ntmps58
  go_wp2_with (go_at_call 59; refine HC.out.mono ?_; rintro e w9 ⟨⟨bb, rfl⟩, hq9⟩)
  obtain ⟨q, rfl⟩ := hq9
  exact bodyPost_ret (v := .int .i64 ((C : Int) - 1)) (by simp [results, Tryd.f58, go_sem]) rfl ⟨rfl, q, rfl⟩

set_option maxRecDepth 100000 in
set_option maxHeartbeats 4000000 in
theorem upstream_of (w : World) (a : Option Addr) (n c : Nat) (g : Nat → Int) (lo hi : Int) (hS : Sl w 1 a n g) (hI : I64s g n) :
    Calls Tryd.prog 21 #[.slice a n c, .agg #[.int .i64 lo, .int .i64 hi]] w fun e w' => e = .returned (up3 (upR n g lo hi)) ∧ Below w.heap.size w w' := by
  have a0 := al_old (World.alloc_heap_new w (.cells #[.slice a n c] 26)) (.cells #[.int .i64 lo, .int .i64 hi] 32)
  have a1 := al_1 w (.cells #[.slice a n c] 26) (.cells #[.int .i64 lo, .int .i64 hi] 32)
  have hB : Below w.heap.size w ((w.alloc (.cells #[.slice a n c] 26)).alloc (.cells #[.int .i64 lo, .int .i64 hi] 32)) := ((Below.refl _ w).alloc (Nat.le_refl _) _).alloc (by simp) _
  have hS2 := hS.keep (by decide) hB
  have HI := Lib.hid hI
  obtain ⟨r, hrr⟩ : ∃ r, upR n g lo hi = r := ⟨_, rfl⟩
  rw [hrr]
  have HRR := Lib.hid hrr
  clear hrr
  go_enter Tryd.func21, Tryd.ntmps21
  go_wp2_with fail
  generalize (w.alloc (.cells #[.slice a n c] 26)).alloc (.cells #[.int .i64 lo, .int .i64 hi] 32) = W at a0 a1 hB hS2 ⊢
  clear hS hI
  refine (checkPlaces_of W 1 (by decide) a n c g hS2 HI.out).mono ?_
  rintro e w9 ⟨rfl, hw9⟩
  rw [hw9]
  clear hw9 w9
  have x0 : W.cell? ⟨w.heap.size, 0, none⟩ = some (.slice a n c) := cell_h a0 rfl
  have y0 : W.cell? ⟨w.heap.size + 1, 0, none⟩ = some (.int .i64 lo) := cell_h a1 rfl
  have y1 : W.cell? ⟨w.heap.size + 1, 1, none⟩ = some (.int .i64 hi) := cell_h a1 rfl
  have HB := Lib.hid hB
  have HS := Lib.hid hS2
  have A0 := Lib.hid a0
  have A1 := Lib.hid a1
  clear hB hS2 a0 a1
  by_cases h1 : plChk 1 n g = 0
  · by_cases h2 : rgErr lo hi (-1073741824) 1073741824 = 0
    · have hE : upR n g lo hi = ((cnt g n lo : Int) - 1, (cnt g n hi : Int) - 1, 0) := by unfold upR; rw [if_neg (by simpa using h1), if_neg (by simpa using h2)]
      rw [HRR.out] at hE
      have HE := Lib.hid hE
      rw [h1]
      have hr := plc_rise h1
      have hn := (plc_ok h1).1
      have hrg : -1073741824 ≤ lo ∧ lo ≤ 1073741824 ∧ -1073741824 ≤ hi ∧ hi ≤ 1073741824 := by
        rcases rg_ways lo hi (-1073741824) 1073741824 with ⟨_, g⟩ | ⟨_, g⟩ | ⟨g, _⟩ <;> omega
      have H2 := Lib.hid h2
      have HR := Lib.hid hr
      clear hE h1 h2 hr
      go_wp2_with fail
      refine (checkRange_of W lo hi _ _).mono ?_
      rintro e w9 ⟨rfl, hw9⟩
      rw [H2.out]
      have b0 := al_old A0.out (.cells #[.int .i64 lo, .int .i64 hi] 32)
      have b1 := al_old A1.out (.cells #[.int .i64 lo, .int .i64 hi] 32)
      have hB2 := HB.out.alloc HB.out.size (.cells #[.int .i64 lo, .int .i64 hi] 32)
      have hS2 := HS.out.keep (by decide) ((Below.refl _ W).alloc (Nat.le_refl _) (.cells #[.int .i64 lo, .int .i64 hi] 32))
      rw [← hw9] at b0 b1 hB2 hS2
      clear hw9 x0 y0 y1
      have x0 : w9.cell? ⟨w.heap.size, 0, none⟩ = some (.slice a n c) := cell_h b0 rfl
      have y0 : w9.cell? ⟨w.heap.size + 1, 0, none⟩ = some (.int .i64 lo) := cell_h b1 rfl
      have y1 : w9.cell? ⟨w.heap.size + 1, 1, none⟩ = some (.int .i64 hi) := cell_h b1 rfl
      have HB2 := Lib.hid hB2
      have HC1 : Hid (∀ q, Calls Tryd.prog 58 #[.int .i64 lo, .pointer (some ⟨w.heap.size, 0, none⟩)] (w9.drewN q) fun e w' => e = .returned (.int .i64 ((cnt g n lo : Int) - 1)) ∧ ∃ q', w' = (w9.drewN q).drewN q') := fun q => upstream1_of (w9.drewN q) w.heap.size a n c g lo x0 hS2 hn HR.out (by omega)
      have HC2 : Hid (∀ q, Calls Tryd.prog 58 #[.int .i64 hi, .pointer (some ⟨w.heap.size, 0, none⟩)] (w9.drewN q) fun e w' => e = .returned (.int .i64 ((cnt g n hi : Int) - 1)) ∧ ∃ q', w' = (w9.drewN q).drewN q') := fun q => upstream1_of (w9.drewN q) w.heap.size a n c g hi x0 hS2 hn HR.out (by omega)
      generalize cnt g n lo = C1 at HC1 HE
      generalize cnt g n hi = C2 at HC2 HE
      clear b0 b1 hB2 hS2
      go_wp2_with fail
      go_quiet (first | (go_at_call 58; with_reducible exact Calls.quiet_of (HC1.out _)) | (go_at_call 58; with_reducible exact Calls.quiet_of (HC2.out _)))
      go_wp2_with fail
      have hb := HB2.out
      exact bodyPost_ret (v := up3 ((C1 : Int) - 1, (C2 : Int) - 1, 0)) (by simp [results, Tryd.f21, go_sem, up3]) rfl ⟨by rw [HE.out], ⟨hb.os, hb.tape, hb.output, hb.size, hb.block⟩⟩
    · have hE : upR n g lo hi = (0, 0, rgErr lo hi (-1073741824) 1073741824) := by unfold upR; rw [if_neg (by simpa using h1), if_pos (by simpa using h2)]
      rw [HRR.out] at hE
      have HE := Lib.hid hE
      rw [h1]
      have hne : (rgErr lo hi (-1073741824) 1073741824 == 0) = false := by simpa using h2
      have hne2 : (rgErr lo hi (-1073741824) 1073741824 != 0) = true := by simpa using h2
      clear hE h1 h2
      go_wp2_with fail
      refine (checkRange_of W lo hi _ _).mono ?_
      rintro e w9 ⟨rfl, hw9⟩
      have hB2 := HB.out.alloc HB.out.size (.cells #[.int .i64 lo, .int .i64 hi] 32)
      rw [← hw9] at hB2
      clear hw9
      generalize rgErr lo hi (-1073741824) 1073741824 = R at hne hne2 HE ⊢
      go_wp2_with fail
      exact bodyPost_ret (v := up3 (0, 0, R)) (by simp [results, Tryd.f21, go_sem, up3]) rfl ⟨by rw [HE.out], hB2⟩
  · have hE : upR n g lo hi = (0, 0, plChk 1 n g) := by unfold upR; rw [if_pos (by simpa using h1)]
    rw [HRR.out] at hE
    have HE := Lib.hid hE
    have hne : (plChk 1 n g == 0) = false := by simpa using h1
    have hne2 : (plChk 1 n g != 0) = true := by simpa using h1
    clear hE h1
    generalize plChk 1 n g = R at hne hne2 HE ⊢
    go_wp2_with fail
    exact bodyPost_ret (v := up3 (0, 0, R)) (by simp [results, Tryd.f21, go_sem, up3]) rfl ⟨by rw [HE.out], HB.out⟩
end Go.Proofs.YtdibljidagiblaaDoor
