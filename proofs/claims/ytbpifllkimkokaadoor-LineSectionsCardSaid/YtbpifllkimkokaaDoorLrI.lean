/-
  WALKS: LineSections, the whole statement.
-/
import Derived.Test.YtbpifllkimkokaaDoorLrH
import Derived.Test.YtbpifllkimkokaaDoorLnN
import Derived.Test.YtbpifllkimkokaaDoorLpF
namespace Go.Proofs.YtbpifllkimkokaaDoor
open Go.RowKit

set_option maxRecDepth 8000 in
set_option maxHeartbeats 1600000 in
/-- slices.Equal of two empty slices. -/
theorem equal_none (w : World) (a1 a2 : Option Addr) (c1 c2 : Nat) :
    Calls Tryd.prog 20 #[.slice a1 0 c1, .slice a2 0 c2] w fun e w' => e = .returned (.bool true) ∧ Below w.heap.size w w' := by
  go_enter Tryd.func20, Tryd.ntmps20
  go_wp2
  go_loopw [13] (fun vi wr => vi = .int .i64 0 ∧ wr = w) (fun _ _ => 0)
  case atStart => exact ⟨rfl, rfl⟩
  case round =>
    obtain ⟨rfl, rfl⟩ := hrel
    go_wp2
    go_ret
    exact ⟨rfl, Below.refl _ _⟩
/-- slices.Equal of two slices of the same list. -/
theorem equal_rows (w : World) (B1 B2 : Nat) (a1 a2 : Option Addr) (c1 c2 : Nat) (L : List Int) (n : Nat) (hn : L.length = n) (hl : n ≤ 1000) (h1 : RowL w B1 (.slice a1 n c1) L) (h2 : RowL w B2 (.slice a2 n c2) L) :
    Calls Tryd.prog 20 #[.slice a1 n c1, .slice a2 n c2] w fun e w' => e = .returned (.bool true) ∧ Below w.heap.size w w' := by
  subst hn
  by_cases h0 : L.length = 0
  · rw [h0]
    exact equal_none w a1 a2 c1 c2
  · obtain ⟨g1, k1, e1⟩ := h1.form (by omega)
    obtain ⟨g2, k2, e2⟩ := h2.form (by omega)
    obtain rfl : a1 = some ⟨g1, 0, none⟩ := (Value.slice.inj e1).1
    obtain rfl : a2 = some ⟨g2, 0, none⟩ := (Value.slice.inj e2).1
    refine equal_ints w g1 g2 0 0 L.length c1 c2 (fun i => L.getD i 0) (by omega) (fun i hi => ?_) (fun i hi => ?_)
    · rw [Nat.zero_add, h1.cell i hi]; simp [List.getD, hi]
    · rw [Nat.zero_add, h2.cell i hi]; simp [List.getD, hi]

set_option maxRecDepth 100000 in
set_option maxHeartbeats 3200000 in
theorem sectionsLaw_no (w : World) (a za la : Option Addr) (n c nz zc nl lc : Nat) (f z m : Nat → Int) (S : Int) (h : 70 < n ∨ 70 < nz ∨ 70 < nl) (hc : n ≤ maxLen ∧ nz ≤ maxLen ∧ nl ≤ maxLen) (hG : Glob w) :
    Calls Tryd.prog 4 #[.agg #[.slice a n c, .slice za nz zc, .slice la nl lc], .int .i64 S] w fun e w' => e = .returned (.bool true) ∧ Below w.heap.size w w' := by
  have HM : Hid (∀ w', Calls Tryd.prog 12 #[.agg #[.slice a n c, .slice za nz zc, .slice la nl lc]] w' (MdP false n nz nl f z m w')) := fun w' => model_no w' a za la n c nz zc nl lc f z m h hc
  have HA : Hid (∀ w', Below w.heap.size w w' → Calls Tryd.prog 13 #[] w' fun e w2 => e = .returned (.bool true) ∧ Below w'.heap.size w' w2) := fun w' hb => awake_of w' (hG.keep hb)
  clear h hc hG
  go_enter Tryd.func4, Tryd.ntmps4
  go_wp2_with fail
  obtain ⟨W, hW⟩ : ∃ W, W = w.alloc (.cells #[.slice a n c, .slice za nz zc, .slice la nl lc] 26) := ⟨_, rfl⟩
  have hBW : Hid (Below w.heap.size w W) := by rw [hW]; exact (Below.refl _ _).alloc (Nat.le_refl _) _
  rw [← hW]
  clear hW
  refine (HM.out W).mono ?_
  rintro e' w2 ⟨hb2, ⟨_, rfl⟩ | ⟨h0, _⟩⟩
  · have HB2 : Hid (Below w.heap.size w w2) := hBW.out.trans (hb2.mono hBW.out.size)
    have hA2 := HA.out (w2.alloc (.cells #[.slice none 0 0, .slice none 0 0, .slice none 0 0] 31)) (HB2.out.alloc HB2.out.size _)
    have HA2 := Lib.hid hA2
    clear hb2 hA2
    go_wp2_with fail
    refine HA2.out.mono ?_
    rintro e' w3 ⟨rfl, hb3⟩
    have HB3 : Hid (Below w.heap.size w w3) := (HB2.out.alloc HB2.out.size _).trans (hb3.mono (by have := HB2.out.size; simp; omega))
    clear hb3 HA2
    go_wp2_with fail
    refine (HA.out w3 HB3.out).mono ?_
    rintro e' w4 ⟨rfl, hb4⟩
    have HB4 : Hid (Below w.heap.size w w4) := HB3.out.trans (hb4.mono HB3.out.size)
    clear hb4
    go_wp2
    go_ret
    exact ⟨rfl, HB4.out⟩
  · cases h0

set_option maxRecDepth 100000 in
set_option maxHeartbeats 6400000 in
theorem sectionsLaw_bad (w : World) (a za la : Option Addr) (n c nz zc nl lc : Nat) (f z m : Nat → Int) (S : Int) (h : n ≤ 70 ∧ nz ≤ 70 ∧ nl ≤ 70) (hS : Sl w 7 a n f) (hZ : Sl w 3 za nz z) (hL : Sl w 2 la nl m) (hG : Glob w) (hT : Tabs w) (hE : chk n nz nl f z m ≠ 0) :
    Calls Tryd.prog 4 #[.agg #[.slice a n c, .slice za nz zc, .slice la nl lc], .int .i64 S] w fun e w' => e = .returned (.bool true) ∧ Below w.heap.size w w' := by
  have HM : Hid (∀ w', Below w.heap.size w w' → Calls Tryd.prog 12 #[.agg #[.slice a n c, .slice za nz zc, .slice la nl lc]] w' (MdP true n nz nl f z m w')) := fun w' hb => model_yes w' a za la n c nz zc nl lc f z m h (hS.keep (by omega) hb) (hZ.keep (by omega) hb) (hL.keep (by omega) hb)
  have HA : Hid (∀ w', Below w.heap.size w w' → Calls Tryd.prog 13 #[] w' fun e w2 => e = .returned (.bool true) ∧ Below w'.heap.size w' w2) := fun w' hb => awake_of w' (hG.keep hb)
  have HCK : Hid (∀ w' a' c' za' zc' la' lc', Sl w' 7 a' n f → Sl w' 3 za' nz z → Sl w' 2 la' nl m → Calls Tryd.prog 19 #[.agg #[.slice a' n c', .slice za' nz zc', .slice la' nl lc']] w' fun e w2 => e = .returned (.int .i64 (chk n nz nl f z m)) ∧ Below w'.heap.size w' w2) :=
    fun w' a' c' za' zc' la' lc' h1 h2 h3 => rcheck_of w' a' za' la' n c' nz zc' nl lc' f z m h1 h2 h3
  have HCL : Hid (∀ w', Below w.heap.size w w' → Calls Tryd.prog 26 #[.agg #[.slice a n c, .slice za nz zc, .slice la nl lc], .int .i64 S] w' (ValP (stE (chk n nz nl f z m) (decide (0 ≤ S ∧ S < endS f n))) (clsAt z nz S) w')) := fun w' hb =>
    ClassAt_of w' a za la n c nz zc nl lc f z m S (hS.keep (by omega) hb) (hZ.keep (by omega) hb) (hL.keep (by omega) hb)
  have HLI : Hid (∀ w', Below w.heap.size w w' → Calls Tryd.prog 27 #[.agg #[.slice a n c, .slice za nz zc, .slice la nl lc], .int .i64 S] w' (ValP (stE (chk n nz nl f z m) (decide (0 ≤ S ∧ S < endS f n))) (lmtAt m S nl) w')) := fun w' hb =>
    LimitAt_of w' a za la n c nz zc nl lc f z m S (hS.keep (by omega) hb) (hZ.keep (by omega) hb) (hL.keep (by omega) hb)
  have HSE : Hid (∀ w', Below w.heap.size w w' → Calls Tryd.prog 28 #[.agg #[.slice a n c, .slice za nz zc, .slice la nl lc]] w' (SeP (chk n nz nl f z m) (secsOf f z m n nz nl) w')) := fun w' hb =>
    sections_of w' a za la n c nz zc nl lc f z m (hS.keep (by omega) hb) (hZ.keep (by omega) hb) (hL.keep (by omega) hb)
  have HWE : Hid (∀ w', Below w.heap.size w w' → Calls Tryd.prog 29 #[.agg #[.slice a n c, .slice za nz zc, .slice la nl lc]] w' (WeP (chk n nz nl f z m) (wkL f (secsOf f z m n nz nl) (secsOf f z m n nz nl).length) w')) := fun w' hb =>
    weak_of w' (hT.keep hb) a za la n c nz zc nl lc f z m (hS.keep (by omega) hb) (hZ.keep (by omega) hb) (hL.keep (by omega) hb)
  rw [stE_bad hE] at HCL HLI
  clear h hG hS hZ hL hT
  generalize chk n nz nl f z m = E at HCK HCL HLI HSE HWE hE
  unfold ValP at HCL HLI
  rw [if_neg hE] at HCL HLI
  have e2 : (E == 0) = false := by simpa using hE
  have e3 : (E != 0) = true := by simpa using hE
  have HE := Lib.hid hE
  clear hE
  go_enter Tryd.func4, Tryd.ntmps4
  go_wp2_with fail
  obtain ⟨W, hW⟩ : ∃ W, W = w.alloc (.cells #[.slice a n c, .slice za nz zc, .slice la nl lc] 26) := ⟨_, rfl⟩
  have hBW : Hid (Below w.heap.size w W) := by rw [hW]; exact (Below.refl _ _).alloc (Nat.le_refl _) _
  have HX : Hid (W.cell? ⟨w.heap.size, 0, none⟩ = some (.slice a n c) ∧ W.cell? ⟨w.heap.size, 1, none⟩ = some (.slice za nz zc) ∧ W.cell? ⟨w.heap.size, 2, none⟩ = some (.slice la nl lc)) := by
    rw [hW]; exact ⟨by go_simp, by go_simp, by go_simp⟩
  rw [← hW]
  clear hW
  refine (HM.out W hBW.out).mono ?_
  rintro e' w2 ⟨hb2, ⟨h0, _⟩ | ⟨_, a', c', za', zc', la', lc', rfl, hS2, hZ2, hL2⟩⟩
  · cases h0
  obtain ⟨W2, hW2⟩ : ∃ W2, W2 = w2.alloc (.cells #[.slice a' n c', .slice za' nz zc', .slice la' nl lc'] 31) := ⟨_, rfl⟩
  have hbA : Below w2.heap.size w2 W2 := by rw [hW2]; exact (Below.refl _ _).alloc (Nat.le_refl _) _
  have HB0 : Hid (Below w.heap.size w W2) := hBW.out.trans ((hb2.trans (hbA.mono hb2.size)).mono hBW.out.size)
  have HD0 : Hid (Below W2.heap.size W2 W2) := Below.refl _ _
  have HX0 := Lib.hid (three_keep HX.out (hb2.trans (hbA.mono hb2.size)))
  have HS2 : Hid (Sl W2 7 a' n f ∧ Sl W2 3 za' nz z ∧ Sl W2 2 la' nl m) := ⟨hS2.keep (by omega) hbA, hZ2.keep (by omega) hbA, hL2.keep (by omega) hbA⟩
  have HY : Hid (W2.cell? ⟨w2.heap.size, 0, none⟩ = some (.slice a' n c') ∧ W2.cell? ⟨w2.heap.size, 1, none⟩ = some (.slice za' nz zc') ∧ W2.cell? ⟨w2.heap.size, 2, none⟩ = some (.slice la' nl lc')) := by
    rw [hW2]; exact ⟨by go_simp, by go_simp, by go_simp⟩
  clear hb2 hbA hS2 hZ2 hL2
  go_wp2_with fail
  rw [← hW2]
  clear hW2
  refine (HA.out W2 HB0.out).mono ?_
  rintro e' u1 ⟨rfl, hb⟩
  have HB1 : Hid (Below w.heap.size w u1) := HB0.out.trans (hb.mono HB0.out.size)
  have HD1 : Hid (Below W2.heap.size W2 u1) := HD0.out.trans (hb.mono HD0.out.size)
  have HX1 := Lib.hid (three_keep HX0.out hb)
  clear hb
  (try clear x0 x1 x2)
  obtain ⟨x0, x1, x2⟩ := HX1.out
  go_wp2_with fail
  refine (HCL.out u1 HB1.out).mono ?_
  rintro e' u2 ⟨rfl, hb⟩
  have HB2 : Hid (Below w.heap.size w u2) := HB1.out.trans (hb.mono HB1.out.size)
  have HD2 : Hid (Below W2.heap.size W2 u2) := HD1.out.trans (hb.mono HD1.out.size)
  have HX2 := Lib.hid (three_keep HX1.out hb)
  clear hb
  (try clear x0 x1 x2)
  obtain ⟨x0, x1, x2⟩ := HX2.out
  go_wp2_with fail
  refine (HLI.out u2 HB2.out).mono ?_
  rintro e' u3 ⟨rfl, hb⟩
  have HB3 : Hid (Below w.heap.size w u3) := HB2.out.trans (hb.mono HB2.out.size)
  have HD3 : Hid (Below W2.heap.size W2 u3) := HD2.out.trans (hb.mono HD2.out.size)
  have HX3 := Lib.hid (three_keep HX2.out hb)
  clear hb
  (try clear x0 x1 x2)
  obtain ⟨x0, x1, x2⟩ := HX3.out
  go_wp2_with fail
  refine (HSE.out u3 HB3.out).mono ?_
  rintro e' u4 ⟨hb, ⟨_, rfl⟩ | ⟨h0, _⟩⟩
  rotate_left
  · exact absurd h0 HE.out
  have HB4 : Hid (Below w.heap.size w u4) := HB3.out.trans (hb.mono HB3.out.size)
  have HD4 : Hid (Below W2.heap.size W2 u4) := HD3.out.trans (hb.mono HD3.out.size)
  have HX4 := Lib.hid (three_keep HX3.out hb)
  clear hb
  (try clear x0 x1 x2)
  obtain ⟨x0, x1, x2⟩ := HX4.out
  go_wp2_with fail
  refine (HWE.out u4 HB4.out).mono ?_
  rintro e' u5 ⟨hb, ⟨_, rfl⟩ | ⟨h0, _⟩⟩
  rotate_left
  · exact absurd h0 HE.out
  have HB5 : Hid (Below w.heap.size w u5) := HB4.out.trans (hb.mono HB4.out.size)
  have HD5 : Hid (Below W2.heap.size W2 u5) := HD4.out.trans (hb.mono HD4.out.size)
  have HX5 := Lib.hid (three_keep HX4.out hb)
  clear hb x0 x1 x2
  obtain ⟨y0, y1, y2⟩ := three_keep HY.out HD5.out
  go_wp2_with fail
  refine (HCK.out u5 a' c' za' zc' la' lc' (HS2.out.1.keep (by omega) HD5.out) (HS2.out.2.1.keep (by omega) HD5.out) (HS2.out.2.2.keep (by omega) HD5.out)).mono ?_
  rintro e' u6 ⟨rfl, hb⟩
  have HB6 : Hid (Below w.heap.size w u6) := HB5.out.trans (hb.mono HB5.out.size)
  clear hb y0 y1 y2
  go_wp2
  go_ret
  exact ⟨by simp, HB6.out⟩

set_option maxRecDepth 100000 in
set_option maxHeartbeats 6400000 in
theorem sectionsLaw_ok (w : World) (a za la : Option Addr) (n c nz zc nl lc : Nat) (f z m : Nat → Int) (S : Int) (h : n ≤ 70 ∧ nz ≤ 70 ∧ nl ≤ 70) (hS : Sl w 7 a n f) (hZ : Sl w 3 za nz z) (hL : Sl w 2 la nl m) (hG : Glob w) (hT : Tabs w) (hE : chk n nz nl f z m = 0) :
    Calls Tryd.prog 4 #[.agg #[.slice a n c, .slice za nz zc, .slice la nl lc], .int .i64 S] w fun e w' => e = .returned (.bool true) ∧ Below w.heap.size w w' := by
  have HM : Hid (∀ w', Below w.heap.size w w' → Calls Tryd.prog 12 #[.agg #[.slice a n c, .slice za nz zc, .slice la nl lc]] w' (MdP true n nz nl f z m w')) := fun w' hb => model_yes w' a za la n c nz zc nl lc f z m h (hS.keep (by omega) hb) (hZ.keep (by omega) hb) (hL.keep (by omega) hb)
  have HA : Hid (∀ w', Below w.heap.size w w' → Calls Tryd.prog 13 #[] w' fun e w2 => e = .returned (.bool true) ∧ Below w'.heap.size w' w2) := fun w' hb => awake_of w' (hG.keep hb)
  have HCK : Hid (∀ w' a' c' za' zc' la' lc', Sl w' 7 a' n f → Sl w' 3 za' nz z → Sl w' 2 la' nl m → Calls Tryd.prog 19 #[.agg #[.slice a' n c', .slice za' nz zc', .slice la' nl lc']] w' fun e w2 => e = .returned (.int .i64 (chk n nz nl f z m)) ∧ Below w'.heap.size w' w2) :=
    fun w' a' c' za' zc' la' lc' h1 h2 h3 => rcheck_of w' a' za' la' n c' nz zc' nl lc' f z m h1 h2 h3
  have HCL : Hid (∀ w', Below w.heap.size w w' → Calls Tryd.prog 26 #[.agg #[.slice a n c, .slice za nz zc, .slice la nl lc], .int .i64 S] w' (ValP (stE (chk n nz nl f z m) (decide (0 ≤ S ∧ S < endS f n))) (clsAt z nz S) w')) := fun w' hb =>
    ClassAt_of w' a za la n c nz zc nl lc f z m S (hS.keep (by omega) hb) (hZ.keep (by omega) hb) (hL.keep (by omega) hb)
  have HLI : Hid (∀ w', Below w.heap.size w w' → Calls Tryd.prog 27 #[.agg #[.slice a n c, .slice za nz zc, .slice la nl lc], .int .i64 S] w' (ValP (stE (chk n nz nl f z m) (decide (0 ≤ S ∧ S < endS f n))) (lmtAt m S nl) w')) := fun w' hb =>
    LimitAt_of w' a za la n c nz zc nl lc f z m S (hS.keep (by omega) hb) (hZ.keep (by omega) hb) (hL.keep (by omega) hb)
  have HSE : Hid (∀ w', Below w.heap.size w w' → Calls Tryd.prog 28 #[.agg #[.slice a n c, .slice za nz zc, .slice la nl lc]] w' (SeP (chk n nz nl f z m) (secsOf f z m n nz nl) w')) := fun w' hb =>
    sections_of w' a za la n c nz zc nl lc f z m (hS.keep (by omega) hb) (hZ.keep (by omega) hb) (hL.keep (by omega) hb)
  have HWE : Hid (∀ w', Below w.heap.size w w' → Calls Tryd.prog 29 #[.agg #[.slice a n c, .slice za nz zc, .slice la nl lc]] w' (WeP (chk n nz nl f z m) (wkL f (secsOf f z m n nz nl) (secsOf f z m n nz nl).length) w')) := fun w' hb =>
    weak_of w' (hT.keep hb) a za la n c nz zc nl lc f z m (hS.keep (by omega) hb) (hZ.keep (by omega) hb) (hL.keep (by omega) hb)
  have hok := chk_ok hE
  have hn : n ≤ 64 := hok.1.2
  have HRC : Hid (∀ w' a' c' za' zc' la' lc', Sl w' 7 a' n f → Sl w' 3 za' nz z → Sl w' 2 la' nl m → Calls Tryd.prog 30 #[.agg #[.slice a' n c', .slice za' nz zc', .slice la' nl lc'], .int .i64 S] w' (ValP (stE (chk n nz nl f z m) (decide (0 ≤ S ∧ S < endS f n))) (clsAt z nz S) w')) :=
    fun w' a' c' za' zc' la' lc' h1 h2 h3 => by rw [hE]; exact rClassAt_of w' a' za' la' n c' nz zc' nl lc' f z S (by omega) hok.2.2.2.1 hok.2.1 (zok_of hE) h1 h2
  have HRL : Hid (∀ w' a' c' za' zc' la' lc', Sl w' 7 a' n f → Sl w' 3 za' nz z → Sl w' 2 la' nl m → Calls Tryd.prog 31 #[.agg #[.slice a' n c', .slice za' nz zc', .slice la' nl lc'], .int .i64 S] w' (ValP (stE (chk n nz nl f z m) (decide (0 ≤ S ∧ S < endS f n))) (lmtAt m S nl) w')) :=
    fun w' a' c' za' zc' la' lc' h1 h2 h3 => by rw [hE]; exact rLimitAt_of w' a' za' la' n c' nz zc' nl lc' f m S (by omega) hok.2.2.2.1 hok.2.2.1 h1 h3
  have HRS : Hid (∀ w' a' c' za' zc' la' lc', Sl w' 7 a' n f → Sl w' 3 za' nz z → Sl w' 2 la' nl m → Calls Tryd.prog 32 #[.agg #[.slice a' n c', .slice za' nz zc', .slice la' nl lc']] w' fun e w2 => (∃ v, e = .returned v ∧ RowR w2 w'.heap.size v (secsOf f z m n nz nl)) ∧ Below w'.heap.size w' w2) :=
    fun w' a' c' za' zc' la' lc' h1 h2 h3 => rsections_of w' a' za' la' n c' nz zc' nl lc' f z m hE h1 h2 h3
  have HRW : Hid (∀ w' a' c' za' zc' la' lc', Sl w' 7 a' n f → Sl w' 3 za' nz z → Sl w' 2 la' nl m → Calls Tryd.prog 33 #[.agg #[.slice a' n c', .slice za' nz zc', .slice la' nl lc']] w' fun e w2 => (∃ v, e = .returned v ∧ RowL w2 w'.heap.size v (wkL f (secsOf f z m n nz nl) (secsOf f z m n nz nl).length)) ∧ Below w'.heap.size w' w2) :=
    fun w' a' c' za' zc' la' lc' h1 h2 h3 => rweak_of w' a' za' la' n c' nz zc' nl lc' f z m hE h1 h2 h3
  have hsl := secs_le hE
  have hwl := wkL_length f (secsOf f z m n nz nl) (secsOf f z m n nz nl).length
  generalize wkL f (secsOf f z m n nz nl) (secsOf f z m n nz nl).length = WL at HWE HRW hwl
  generalize secsOf f z m n nz nl = SL at HSE HRS hsl hwl
  unfold ValP at HCL HLI HRC HRL
  generalize stE (chk n nz nl f z m) (decide (0 ≤ S ∧ S < endS f n)) = v1 at HCL HLI HRC HRL
  generalize (if v1 = 0 then clsAt z nz S else 0) = r1 at HCL HRC
  generalize (if v1 = 0 then lmtAt m S nl else 0) = r2 at HLI HRL
  rw [hE] at HCK HSE HWE
  obtain ⟨kW, hkW⟩ : ∃ k, WL.length = k := ⟨_, rfl⟩
  obtain ⟨kS, hkS⟩ : ∃ k, SL.length = k := ⟨_, rfl⟩
  have hkW2 : kW ≤ 256 := by omega
  have hkS2 : kS ≤ 256 := by omega
  have HKW := Lib.hid hkW
  have HKS := Lib.hid hkS
  clear h hG hS hZ hL hT hok hE hsl hwl hkW hkS
  go_enter Tryd.func4, Tryd.ntmps4
  go_wp2_with fail
  obtain ⟨W, hW⟩ : ∃ W, W = w.alloc (.cells #[.slice a n c, .slice za nz zc, .slice la nl lc] 26) := ⟨_, rfl⟩
  have hBW : Hid (Below w.heap.size w W) := by rw [hW]; exact (Below.refl _ _).alloc (Nat.le_refl _) _
  have HX : Hid (W.cell? ⟨w.heap.size, 0, none⟩ = some (.slice a n c) ∧ W.cell? ⟨w.heap.size, 1, none⟩ = some (.slice za nz zc) ∧ W.cell? ⟨w.heap.size, 2, none⟩ = some (.slice la nl lc)) := by
    rw [hW]; exact ⟨by go_simp, by go_simp, by go_simp⟩
  rw [← hW]
  clear hW
  refine (HM.out W hBW.out).mono ?_
  rintro e' w2 ⟨hb2, ⟨h0, _⟩ | ⟨_, a', c', za', zc', la', lc', rfl, hS2, hZ2, hL2⟩⟩
  · cases h0
  obtain ⟨W2, hW2⟩ : ∃ W2, W2 = w2.alloc (.cells #[.slice a' n c', .slice za' nz zc', .slice la' nl lc'] 31) := ⟨_, rfl⟩
  have hbA : Below w2.heap.size w2 W2 := by rw [hW2]; exact (Below.refl _ _).alloc (Nat.le_refl _) _
  have HB0 : Hid (Below w.heap.size w W2) := hBW.out.trans ((hb2.trans (hbA.mono hb2.size)).mono hBW.out.size)
  have HD0 : Hid (Below W2.heap.size W2 W2) := Below.refl _ _
  have HX0 := Lib.hid (three_keep HX.out (hb2.trans (hbA.mono hb2.size)))
  have HS2 : Hid (Sl W2 7 a' n f ∧ Sl W2 3 za' nz z ∧ Sl W2 2 la' nl m) := ⟨hS2.keep (by omega) hbA, hZ2.keep (by omega) hbA, hL2.keep (by omega) hbA⟩
  have HY : Hid (W2.cell? ⟨w2.heap.size, 0, none⟩ = some (.slice a' n c') ∧ W2.cell? ⟨w2.heap.size, 1, none⟩ = some (.slice za' nz zc') ∧ W2.cell? ⟨w2.heap.size, 2, none⟩ = some (.slice la' nl lc')) := by
    rw [hW2]; exact ⟨by go_simp, by go_simp, by go_simp⟩
  clear hb2 hbA hS2 hZ2 hL2
  go_wp2_with fail
  rw [← hW2]
  clear hW2
  refine (HA.out W2 HB0.out).mono ?_
  rintro e' u1 ⟨rfl, hb⟩
  have HB1 : Hid (Below w.heap.size w u1) := HB0.out.trans (hb.mono HB0.out.size)
  have HD1 : Hid (Below W2.heap.size W2 u1) := HD0.out.trans (hb.mono HD0.out.size)
  have HX1 := Lib.hid (three_keep HX0.out hb)
  clear hb
  (try clear x0 x1 x2)
  obtain ⟨x0, x1, x2⟩ := HX1.out
  go_wp2_with fail
  refine (HCL.out u1 HB1.out).mono ?_
  rintro e' u2 ⟨rfl, hb⟩
  have HB2 : Hid (Below w.heap.size w u2) := HB1.out.trans (hb.mono HB1.out.size)
  have HD2 : Hid (Below W2.heap.size W2 u2) := HD1.out.trans (hb.mono HD1.out.size)
  have HX2 := Lib.hid (three_keep HX1.out hb)
  clear hb
  (try clear x0 x1 x2)
  obtain ⟨x0, x1, x2⟩ := HX2.out
  go_wp2_with fail
  refine (HLI.out u2 HB2.out).mono ?_
  rintro e' u3 ⟨rfl, hb⟩
  have HB3 : Hid (Below w.heap.size w u3) := HB2.out.trans (hb.mono HB2.out.size)
  have HD3 : Hid (Below W2.heap.size W2 u3) := HD2.out.trans (hb.mono HD2.out.size)
  have HX3 := Lib.hid (three_keep HX2.out hb)
  clear hb
  (try clear x0 x1 x2)
  obtain ⟨x0, x1, x2⟩ := HX3.out
  go_wp2_with fail
  refine (HSE.out u3 HB3.out).mono ?_
  rintro e' u4 ⟨hb, ⟨h0, _⟩ | ⟨_, v, rfl, hrow⟩⟩
  · exact absurd rfl h0
  have HB4 : Hid (Below w.heap.size w u4) := HB3.out.trans (hb.mono HB3.out.size)
  have HD4 : Hid (Below W2.heap.size W2 u4) := HD3.out.trans (hb.mono HD3.out.size)
  have HX4 := Lib.hid (three_keep HX3.out hb)
  obtain ⟨aS, cS, rfl⟩ : ∃ a3 k3, v = .slice a3 kS k3 := by rw [← HKS.out]; exact own_slice hrow
  have HRow4 := Lib.hid hrow
  clear hrow
  clear hb
  (try clear x0 x1 x2)
  obtain ⟨x0, x1, x2⟩ := HX4.out
  go_wp2_with fail
  refine (HWE.out u4 HB4.out).mono ?_
  rintro e' u5 ⟨hb, ⟨h0, _⟩ | ⟨_, v, rfl, hrow⟩⟩
  · exact absurd rfl h0
  have HB5 : Hid (Below w.heap.size w u5) := HB4.out.trans (hb.mono HB4.out.size)
  have HD5 : Hid (Below W2.heap.size W2 u5) := HD4.out.trans (hb.mono HD4.out.size)
  have HX5 := Lib.hid (three_keep HX4.out hb)
  obtain ⟨aW, cW, rfl⟩ : ∃ a3 k3, v = .slice a3 kW k3 := by rw [← HKW.out]; exact own_slice hrow
  have HWow5 := Lib.hid hrow
  have HRow5 := Lib.hid (HRow4.out.below hb)
  clear hrow hb x0 x1 x2
  obtain ⟨y0, y1, y2⟩ := three_keep HY.out HD5.out
  go_wp2_with fail
  refine (HCK.out u5 a' c' za' zc' la' lc' (HS2.out.1.keep (by omega) HD5.out) (HS2.out.2.1.keep (by omega) HD5.out) (HS2.out.2.2.keep (by omega) HD5.out)).mono ?_
  rintro e' u6 ⟨rfl, hb⟩
  have HB6 : Hid (Below w.heap.size w u6) := HB5.out.trans (hb.mono HB5.out.size)
  have HD6 : Hid (Below W2.heap.size W2 u6) := HD5.out.trans (hb.mono HD5.out.size)
  have HRow6 := Lib.hid (HRow5.out.below hb)
  have HWow6 := Lib.hid (HWow5.out.below hb)
  clear hb
  (try clear y0 y1 y2)
  obtain ⟨y0, y1, y2⟩ := three_keep HY.out HD6.out
  go_wp2_with fail
  refine (HRC.out u6 a' c' za' zc' la' lc' (HS2.out.1.keep (by omega) HD6.out) (HS2.out.2.1.keep (by omega) HD6.out) (HS2.out.2.2.keep (by omega) HD6.out)).mono ?_
  rintro e' u7 ⟨rfl, hb⟩
  have HB7 : Hid (Below w.heap.size w u7) := HB6.out.trans (hb.mono HB6.out.size)
  have HD7 : Hid (Below W2.heap.size W2 u7) := HD6.out.trans (hb.mono HD6.out.size)
  have HRow7 := Lib.hid (HRow6.out.below hb)
  have HWow7 := Lib.hid (HWow6.out.below hb)
  clear hb
  (try clear y0 y1 y2)
  obtain ⟨y0, y1, y2⟩ := three_keep HY.out HD7.out
  go_wp2_with fail
  refine (HRL.out u7 a' c' za' zc' la' lc' (HS2.out.1.keep (by omega) HD7.out) (HS2.out.2.1.keep (by omega) HD7.out) (HS2.out.2.2.keep (by omega) HD7.out)).mono ?_
  rintro e' u8 ⟨rfl, hb⟩
  have HB8 : Hid (Below w.heap.size w u8) := HB7.out.trans (hb.mono HB7.out.size)
  have HD8 : Hid (Below W2.heap.size W2 u8) := HD7.out.trans (hb.mono HD7.out.size)
  have HRow8 := Lib.hid (HRow7.out.below hb)
  have HWow8 := Lib.hid (HWow7.out.below hb)
  clear hb
  (try clear y0 y1 y2)
  obtain ⟨y0, y1, y2⟩ := three_keep HY.out HD8.out
  go_wp2_with fail
  refine (HRS.out u8 a' c' za' zc' la' lc' (HS2.out.1.keep (by omega) HD8.out) (HS2.out.2.1.keep (by omega) HD8.out) (HS2.out.2.2.keep (by omega) HD8.out)).mono ?_
  rintro e' u9 ⟨⟨v, rfl, hrow⟩, hb⟩
  have HB9 : Hid (Below w.heap.size w u9) := HB8.out.trans (hb.mono HB8.out.size)
  have HD9 : Hid (Below W2.heap.size W2 u9) := HD8.out.trans (hb.mono HD8.out.size)
  have HRow9 := Lib.hid (HRow8.out.below hb)
  have HWow9 := Lib.hid (HWow8.out.below hb)
  obtain ⟨aR, cR, rfl⟩ : ∃ a3 k3, v = .slice a3 kS k3 := by rw [← HKS.out]; exact own_slice hrow
  have HRr9 := Lib.hid hrow
  clear hrow
  clear hb
  (try clear y0 y1 y2)
  obtain ⟨y0, y1, y2⟩ := three_keep HY.out HD9.out
  go_wp2_with fail
  refine (HRW.out u9 a' c' za' zc' la' lc' (HS2.out.1.keep (by omega) HD9.out) (HS2.out.2.1.keep (by omega) HD9.out) (HS2.out.2.2.keep (by omega) HD9.out)).mono ?_
  rintro e' u10 ⟨⟨v, rfl, hrow⟩, hb⟩
  have HB10 : Hid (Below w.heap.size w u10) := HB9.out.trans (hb.mono HB9.out.size)
  have HD10 : Hid (Below W2.heap.size W2 u10) := HD9.out.trans (hb.mono HD9.out.size)
  have HRow10 := Lib.hid (HRow9.out.below hb)
  have HWow10 := Lib.hid (HWow9.out.below hb)
  obtain ⟨aV, cV, rfl⟩ : ∃ a3 k3, v = .slice a3 kW k3 := by rw [← HKW.out]; exact own_slice hrow
  have HRr10 := Lib.hid (HRr9.out.below hb)
  have HVow10 := Lib.hid hrow
  clear hrow
  clear hb
  (try clear y0 y1 y2)
  obtain ⟨y0, y1, y2⟩ := three_keep HY.out HD10.out
  go_wp2_with fail
  refine (equal_rows u10 _ _ aW aV cW cV WL kW HKW.out (by omega) HWow10.out HVow10.out).mono ?_
  rintro e' u11 ⟨rfl, hb⟩
  have HB11 : Hid (Below w.heap.size w u11) := HB10.out.trans (hb.mono HB10.out.size)
  have HD11 : Hid (Below W2.heap.size W2 u11) := HD10.out.trans (hb.mono HD10.out.size)
  have HRow11 := Lib.hid (HRow10.out.below hb)
  have HWow11 := Lib.hid (HWow10.out.below hb)
  have HRr11 := Lib.hid (HRr10.out.below hb)
  clear hb
  (try clear y0 y1 y2)
  obtain ⟨y0, y1, y2⟩ := three_keep HY.out HD11.out
  go_wp2_with fail
  go_loopw [152] (fun vi wr => ∃ j : Nat, j ≤ kS ∧ vi = .int .i64 j ∧ Hid (∃ q, wr = u11.drewN q)) (fun vi _ => kS - (intOf vi).toNat)
  case atStart => exact ⟨0, by omega, rfl, 0, by simp [World.drewN]⟩
  case round =>
    obtain ⟨j, hj, rfl, HQ⟩ := hrel
    clear HM HA HCK HWE HRW HSE HRS HCL HRC HLI HRL
    by_cases hlt : j < kS
    · obtain ⟨gS, cS2, hv⟩ := RowS.form HRow11.out (by have := HKS.out; omega)
      obtain rfl : aS = some ⟨gS, 0, none⟩ := (Value.slice.inj (hv.trans (by rw [HKS.out]))).1
      obtain ⟨gR, cR2, hv2⟩ := RowR.form HRr11.out (by have := HKS.out; omega)
      obtain rfl : aR = some ⟨gR, 0, none⟩ := (Value.slice.inj (hv2.trans (by rw [HKS.out]))).1
      have hjl : j < SL.length := by have := HKS.out; omega
      have hRS : RowS u11 u3.heap.size (.slice (some ⟨gS, 0, none⟩) SL.length cS) SL := by rw [HKS.out]; exact HRow11.out
      have hRR : RowR u11 u8.heap.size (.slice (some ⟨gR, 0, none⟩) SL.length cR) SL := by rw [HKS.out]; exact HRr11.out
      obtain ⟨s0, s1, s2, s3, s4⟩ := rowS_five hRS j hjl
      obtain ⟨r0, r1', r2', r3, r4⟩ := hRR.five j hjl
      generalize SL[j]'hjl = s at s0 s1 s2 s3 s4 r0 r1' r2' r3 r4
      have t0 : (0 : Int) ≤ (j : Int) := by omega
      have t1 : (j : Int) < (kS : Int) := by omega
      clear HRow4 HRow5 HRow6 HRow7 HRow8 HRow9 HRow10 HRr9 HRr10 HRow11 HRr11 hRS hRR HKS hjl hv hv2
      obtain ⟨q, rfl⟩ := HQ.out
      go_wp2_with fail
      go_quiet (fail)
      go_wp2
      exact ⟨⟨j + 1, by omega, by go_num, q + nq, rfl⟩, by simp [intOf]; omega⟩
    · obtain rfl : j = kS := by omega
      have hbq := drewN_below HQ.out w.heap.size
      have t1 : ¬ (j : Int) < (j : Int) := by omega
      go_wp2
      go_ret
      exact ⟨rfl, HB11.out.trans (drewN_below HQ.out _)⟩
end Go.Proofs.YtbpifllkimkokaaDoor
