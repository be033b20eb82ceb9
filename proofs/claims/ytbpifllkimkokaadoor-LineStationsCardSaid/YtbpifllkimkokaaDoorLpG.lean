/-
  WALKS: LineStations, the whole statement.
-/
import Derived.Test.YtbpifllkimkokaaDoorLpF
import Derived.Test.YtbpifllkimkokaaDoorLnN
import Derived.Test.YtbpifllkimkokaaDoorLnU
namespace Go.Proofs.YtbpifllkimkokaaDoor
open Go.RowKit

set_option maxRecDepth 100000 in
set_option maxHeartbeats 3200000 in
theorem stationsLaw_no (w : World) (a za la : Option Addr) (n c nz zc nl lc : Nat) (f z m : Nat → Int) (S I O T : Int) (h : 70 < n ∨ 70 < nz ∨ 70 < nl) (hc : n ≤ maxLen ∧ nz ≤ maxLen ∧ nl ≤ maxLen) (hG : Glob w) :
    Calls Tryd.prog 3 #[.agg #[.slice a n c, .slice za nz zc, .slice la nl lc], .int .i64 S, .int .i64 I, .int .i64 O, .int .i64 T] w fun e w' => e = .returned (.bool true) ∧ Below w.heap.size w w' := by
  have HM : Hid (∀ w', Calls Tryd.prog 12 #[.agg #[.slice a n c, .slice za nz zc, .slice la nl lc]] w' (MdP false n nz nl f z m w')) := fun w' => model_no w' a za la n c nz zc nl lc f z m h hc
  have HA : Hid (∀ w', Below w.heap.size w w' → Calls Tryd.prog 13 #[] w' fun e w2 => e = .returned (.bool true) ∧ Below w'.heap.size w' w2) := fun w' hb => awake_of w' (hG.keep hb)
  clear h hc hG
  go_enter Tryd.func3, Tryd.ntmps3
  go_wp2_with fail
  obtain ⟨W, hW⟩ : ∃ W, W = w.alloc (.cells #[.slice a n c, .slice za nz zc, .slice la nl lc] 26) := ⟨_, rfl⟩
  have hBW : Hid (Below w.heap.size w W) := by rw [hW]; exact (Below.refl _ _).alloc (Nat.le_refl _) _
  rw [← hW]
  clear hW
  refine (HM.out W).mono ?_
  rintro e' w2 ⟨hb2, ⟨_, rfl⟩ | ⟨h0, _⟩⟩
  · have HB2 : Hid (Below w.heap.size w w2) := hBW.out.trans (hb2.mono hBW.out.size)
    have hA2 := HA.out (w2.alloc (.cells #[.slice none 0 0, .slice none 0 0, .slice none 0 0] 31)) (HB2.out.alloc HB2.out.size _)
    have HA2 := Lib.hid hA2
    clear hb2 hA2
    go_wp2_with fail
    refine HA2.out.mono ?_
    rintro e' w3 ⟨rfl, hb3⟩
    have HB3 : Hid (Below w.heap.size w w3) := (HB2.out.alloc HB2.out.size _).trans (hb3.mono (by have := HB2.out.size; simp; omega))
    clear hb3 HA2
    go_wp2_with fail
    refine (HA.out w3 HB3.out).mono ?_
    rintro e' w4 ⟨rfl, hb4⟩
    have HB4 : Hid (Below w.heap.size w w4) := HB3.out.trans (hb4.mono HB3.out.size)
    clear hb4
    go_wp2
    go_ret
    exact ⟨rfl, HB4.out⟩
  · cases h0

set_option maxRecDepth 100000 in
set_option maxHeartbeats 6400000 in
theorem stationsLaw_bad (w : World) (a za la : Option Addr) (n c nz zc nl lc : Nat) (f z m : Nat → Int) (S I O T : Int) (h : n ≤ 70 ∧ nz ≤ 70 ∧ nl ≤ 70) (hS : Sl w 7 a n f) (hZ : Sl w 3 za nz z) (hL : Sl w 2 la nl m) (hG : Glob w) (hE : chk n nz nl f z m ≠ 0) :
    Calls Tryd.prog 3 #[.agg #[.slice a n c, .slice za nz zc, .slice la nl lc], .int .i64 S, .int .i64 I, .int .i64 O, .int .i64 T] w fun e w' => e = .returned (.bool true) ∧ Below w.heap.size w w' := by
  have HM : Hid (∀ w', Below w.heap.size w w' → Calls Tryd.prog 12 #[.agg #[.slice a n c, .slice za nz zc, .slice la nl lc]] w' (MdP true n nz nl f z m w')) := fun w' hb => model_yes w' a za la n c nz zc nl lc f z m h (hS.keep (by omega) hb) (hZ.keep (by omega) hb) (hL.keep (by omega) hb)
  have HA : Hid (∀ w', Below w.heap.size w w' → Calls Tryd.prog 13 #[] w' fun e w2 => e = .returned (.bool true) ∧ Below w'.heap.size w' w2) := fun w' hb => awake_of w' (hG.keep hb)
  have HCK : Hid (∀ w' a' c' za' zc' la' lc', Sl w' 7 a' n f → Sl w' 3 za' nz z → Sl w' 2 la' nl m → Calls Tryd.prog 19 #[.agg #[.slice a' n c', .slice za' nz zc', .slice la' nl lc']] w' fun e w2 => e = .returned (.int .i64 (chk n nz nl f z m)) ∧ Below w'.heap.size w' w2) :=
    fun w' a' c' za' zc' la' lc' h1 h2 h3 => rcheck_of w' a' za' la' n c' nz zc' nl lc' f z m h1 h2 h3
  have HSS : Hid (∀ w', Below w.heap.size w w' → Calls Tryd.prog 14 #[.agg #[.slice a n c, .slice za nz zc, .slice la nl lc]] w' (StP (chk n nz nl f z m) n f w')) := fun w' hb =>
    starts_of w' a za la n c nz zc nl lc f z m (hS.keep (by omega) hb) (hZ.keep (by omega) hb) (hL.keep (by omega) hb)
  have HAT : Hid (∀ w', Below w.heap.size w w' → Calls Tryd.prog 15 #[.agg #[.slice a n c, .slice za nz zc, .slice la nl lc], .int .i64 S] w' fun e' w2 => e' = .returned (.tuple #[.int .i64 0, .int .i64 0, .int .i64 (chk n nz nl f z m)]) ∧ Below w'.heap.size w' w2) := fun w' hb =>
    at_no w' _ S _ _ _ _ rfl hE fun w3 hb3 => by
      have := checkStationAll_of w3 a za la n c nz zc nl lc f z m S (hS.keep (by omega) (hb.trans (hb3.mono hb.size))) (hZ.keep (by omega) (hb.trans (hb3.mono hb.size))) (hL.keep (by omega) (hb.trans (hb3.mono hb.size)))
      rwa [stE_bad hE] at this
  have HSA : Hid (∀ w', Below w.heap.size w w' → Calls Tryd.prog 16 #[.agg #[.slice a n c, .slice za nz zc, .slice la nl lc], .int .i64 I, .int .i64 O] w' fun e' w2 => e' = .returned (.tuple #[.int .i64 0, .int .i64 (chk n nz nl f z m)]) ∧ Below w'.heap.size w' w2) := fun w' hb =>
    station_bad w' _ I O _ _ _ _ rfl hE fun w3 hb3 => check_of w3 a za la n c nz zc nl lc f z m (hS.keep (by omega) (hb.trans (hb3.mono hb.size))) (hZ.keep (by omega) (hb.trans (hb3.mono hb.size))) (hL.keep (by omega) (hb.trans (hb3.mono hb.size)))
  have HNE : Hid (∀ w', Below w.heap.size w w' → Calls Tryd.prog 17 #[.agg #[.slice a n c, .slice za nz zc, .slice la nl lc], .int .i64 S] w' fun e' w2 => e' = .returned (.tuple #[.int .i64 0, .int .i64 0, .int .i64 (chk n nz nl f z m)]) ∧ Below w'.heap.size w' w2) := fun w' hb =>
    nearest_no w' _ S _ _ _ _ rfl hE fun w3 hb3 => by
      have := checkStationAll_of w3 a za la n c nz zc nl lc f z m S (hS.keep (by omega) (hb.trans (hb3.mono hb.size))) (hZ.keep (by omega) (hb.trans (hb3.mono hb.size))) (hL.keep (by omega) (hb.trans (hb3.mono hb.size)))
      rwa [stE_bad hE] at this
  have HWI : Hid (∀ w', Below w.heap.size w w' → Calls Tryd.prog 18 #[.agg #[.slice a n c, .slice za nz zc, .slice la nl lc], .int .i64 S, .int .i64 T] w' fun e' w2 => e' = .returned (.tuple #[.int .i64 0, .int .i64 0, .int .i64 (chk n nz nl f z m)]) ∧ Below w'.heap.size w' w2) := fun w' hb =>
    (lwithin_of w' a za la n c nz zc nl lc f z m S T (hS.keep (by omega) hb) (hZ.keep (by omega) hb) (hL.keep (by omega) hb)).mono fun e' w2 h => by
      rcases h with ⟨_, h1, h2⟩ | ⟨h0, _⟩
      · exact ⟨h1, h2⟩
      · exact absurd h0 hE
  clear h hG hS hZ hL
  generalize chk n nz nl f z m = E at HCK HSS HAT HSA HNE HWI hE
  have e2 : (E == 0) = false := by simpa using hE
  have e3 : (E != 0) = true := by simpa using hE
  have HE := Lib.hid hE
  clear hE
  go_enter Tryd.func3, Tryd.ntmps3
  go_wp2_with fail
  obtain ⟨W, hW⟩ : ∃ W, W = w.alloc (.cells #[.slice a n c, .slice za nz zc, .slice la nl lc] 26) := ⟨_, rfl⟩
  have hBW : Hid (Below w.heap.size w W) := by rw [hW]; exact (Below.refl _ _).alloc (Nat.le_refl _) _
  have HX : Hid (W.cell? ⟨w.heap.size, 0, none⟩ = some (.slice a n c) ∧ W.cell? ⟨w.heap.size, 1, none⟩ = some (.slice za nz zc) ∧ W.cell? ⟨w.heap.size, 2, none⟩ = some (.slice la nl lc)) := by
    rw [hW]; exact ⟨by go_simp, by go_simp, by go_simp⟩
  rw [← hW]
  clear hW
  refine (HM.out W hBW.out).mono ?_
  rintro e' w2 ⟨hb2, ⟨h0, _⟩ | ⟨_, a', c', za', zc', la', lc', rfl, hS2, hZ2, hL2⟩⟩
  · cases h0
  obtain ⟨W2, hW2⟩ : ∃ W2, W2 = w2.alloc (.cells #[.slice a' n c', .slice za' nz zc', .slice la' nl lc'] 31) := ⟨_, rfl⟩
  have hbA : Below w2.heap.size w2 W2 := by rw [hW2]; exact (Below.refl _ _).alloc (Nat.le_refl _) _
  have HB0 : Hid (Below w.heap.size w W2) := hBW.out.trans ((hb2.trans (hbA.mono hb2.size)).mono hBW.out.size)
  have HD0 : Hid (Below W2.heap.size W2 W2) := Below.refl _ _
  have HX0 := Lib.hid (three_keep HX.out (hb2.trans (hbA.mono hb2.size)))
  have HS2 : Hid (Sl W2 7 a' n f ∧ Sl W2 3 za' nz z ∧ Sl W2 2 la' nl m) := ⟨hS2.keep (by omega) hbA, hZ2.keep (by omega) hbA, hL2.keep (by omega) hbA⟩
  have HY : Hid (W2.cell? ⟨w2.heap.size, 0, none⟩ = some (.slice a' n c') ∧ W2.cell? ⟨w2.heap.size, 1, none⟩ = some (.slice za' nz zc') ∧ W2.cell? ⟨w2.heap.size, 2, none⟩ = some (.slice la' nl lc')) := by
    rw [hW2]; exact ⟨by go_simp, by go_simp, by go_simp⟩
  clear hb2 hbA hS2 hZ2 hL2
  go_wp2_with fail
  rw [← hW2]
  clear hW2
  refine (HA.out W2 HB0.out).mono ?_
  rintro e' u1 ⟨rfl, hb⟩
  have HB1 : Hid (Below w.heap.size w u1) := HB0.out.trans (hb.mono HB0.out.size)
  have HD1 : Hid (Below W2.heap.size W2 u1) := HD0.out.trans (hb.mono HD0.out.size)
  have HX1 := Lib.hid (three_keep HX0.out hb)
  obtain ⟨x0, x1, x2⟩ := HX1.out
  clear hb
  go_wp2_with fail
  refine (HSS.out u1 HB1.out).mono ?_
  rintro e' u2 ⟨hb, ⟨_, rfl⟩ | ⟨h0, _⟩⟩
  rotate_left
  · exact absurd h0 HE.out
  have HB2 : Hid (Below w.heap.size w u2) := HB1.out.trans (hb.mono HB1.out.size)
  have HD2 : Hid (Below W2.heap.size W2 u2) := HD1.out.trans (hb.mono HD1.out.size)
  have HX2 := Lib.hid (three_keep HX1.out hb)
  clear hb x0 x1 x2
  obtain ⟨x0, x1, x2⟩ := HX2.out
  go_wp2_with fail
  refine (HAT.out u2 HB2.out).mono ?_
  rintro e' u3 ⟨rfl, hb⟩
  have HB3 : Hid (Below w.heap.size w u3) := HB2.out.trans (hb.mono HB2.out.size)
  have HD3 : Hid (Below W2.heap.size W2 u3) := HD2.out.trans (hb.mono HD2.out.size)
  have HX3 := Lib.hid (three_keep HX2.out hb)
  clear hb x0 x1 x2
  obtain ⟨x0, x1, x2⟩ := HX3.out
  go_wp2_with fail
  refine (HSA.out u3 HB3.out).mono ?_
  rintro e' u4 ⟨rfl, hb⟩
  have HB4 : Hid (Below w.heap.size w u4) := HB3.out.trans (hb.mono HB3.out.size)
  have HD4 : Hid (Below W2.heap.size W2 u4) := HD3.out.trans (hb.mono HD3.out.size)
  have HX4 := Lib.hid (three_keep HX3.out hb)
  clear hb x0 x1 x2
  obtain ⟨x0, x1, x2⟩ := HX4.out
  go_wp2_with fail
  refine (HNE.out u4 HB4.out).mono ?_
  rintro e' u5 ⟨rfl, hb⟩
  have HB5 : Hid (Below w.heap.size w u5) := HB4.out.trans (hb.mono HB4.out.size)
  have HD5 : Hid (Below W2.heap.size W2 u5) := HD4.out.trans (hb.mono HD4.out.size)
  have HX5 := Lib.hid (three_keep HX4.out hb)
  clear hb x0 x1 x2
  obtain ⟨x0, x1, x2⟩ := HX5.out
  go_wp2_with fail
  refine (HWI.out u5 HB5.out).mono ?_
  rintro e' u6 ⟨rfl, hb⟩
  have HB6 : Hid (Below w.heap.size w u6) := HB5.out.trans (hb.mono HB5.out.size)
  have HD6 : Hid (Below W2.heap.size W2 u6) := HD5.out.trans (hb.mono HD5.out.size)
  have HX6 := Lib.hid (three_keep HX5.out hb)
  clear hb x0 x1 x2
  obtain ⟨y0, y1, y2⟩ := three_keep HY.out HD6.out
  go_wp2_with fail
  refine (HCK.out u6 a' c' za' zc' la' lc' (HS2.out.1.keep (by omega) HD6.out) (HS2.out.2.1.keep (by omega) HD6.out) (HS2.out.2.2.keep (by omega) HD6.out)).mono ?_
  rintro e' u7 ⟨rfl, hb⟩
  have HB7 : Hid (Below w.heap.size w u7) := HB6.out.trans (hb.mono HB6.out.size)
  clear hb y0 y1 y2
  go_wp2
  go_ret
  exact ⟨by simp, HB7.out⟩

set_option maxRecDepth 100000 in
set_option maxHeartbeats 6400000 in
theorem stationsLaw_ok (w : World) (a za la : Option Addr) (n c nz zc nl lc : Nat) (f z m : Nat → Int) (S I O T : Int) (h : n ≤ 70 ∧ nz ≤ 70 ∧ nl ≤ 70) (hS : Sl w 7 a n f) (hZ : Sl w 3 za nz z) (hL : Sl w 2 la nl m) (hG : Glob w) (hE : chk n nz nl f z m = 0) :
    Calls Tryd.prog 3 #[.agg #[.slice a n c, .slice za nz zc, .slice la nl lc], .int .i64 S, .int .i64 I, .int .i64 O, .int .i64 T] w fun e w' => e = .returned (.bool true) ∧ Below w.heap.size w w' := by
  have HM : Hid (∀ w', Below w.heap.size w w' → Calls Tryd.prog 12 #[.agg #[.slice a n c, .slice za nz zc, .slice la nl lc]] w' (MdP true n nz nl f z m w')) := fun w' hb => model_yes w' a za la n c nz zc nl lc f z m h (hS.keep (by omega) hb) (hZ.keep (by omega) hb) (hL.keep (by omega) hb)
  have HA : Hid (∀ w', Below w.heap.size w w' → Calls Tryd.prog 13 #[] w' fun e w2 => e = .returned (.bool true) ∧ Below w'.heap.size w' w2) := fun w' hb => awake_of w' (hG.keep hb)
  have HCK : Hid (∀ w' a' c' za' zc' la' lc', Sl w' 7 a' n f → Sl w' 3 za' nz z → Sl w' 2 la' nl m → Calls Tryd.prog 19 #[.agg #[.slice a' n c', .slice za' nz zc', .slice la' nl lc']] w' fun e w2 => e = .returned (.int .i64 (chk n nz nl f z m)) ∧ Below w'.heap.size w' w2) :=
    fun w' a' c' za' zc' la' lc' h1 h2 h3 => rcheck_of w' a' za' la' n c' nz zc' nl lc' f z m h1 h2 h3
  have HSS : Hid (∀ w', Below w.heap.size w w' → Calls Tryd.prog 14 #[.agg #[.slice a n c, .slice za nz zc, .slice la nl lc]] w' (StP (chk n nz nl f z m) n f w')) := fun w' hb =>
    starts_of w' a za la n c nz zc nl lc f z m (hS.keep (by omega) hb) (hZ.keep (by omega) hb) (hL.keep (by omega) hb)
  obtain ⟨p1, p2, p3, hP, hP'⟩ := at_both f z m n nz nl S hE
  obtain ⟨q1, q2, hQ, hQ'⟩ := station_both f z m n nz nl I O hE
  obtain ⟨r1, r2, r3, hR, hR'⟩ := nearest_both f z m n nz nl S hE
  obtain ⟨s1, s2, s3, hW, hW'⟩ := within_both f z m n nz nl S T hE
  have hok := chk_ok hE
  have HV : Hid (∀ i, i < n → itAt f i = 0) := hok.2.2.2.1
  have hn : 1 ≤ n ∧ n ≤ 64 := hok.1
  have HAT : Hid (∀ w', Below w.heap.size w w' → Calls Tryd.prog 15 #[.agg #[.slice a n c, .slice za nz zc, .slice la nl lc], .int .i64 S] w' fun e' w2 => e' = .returned (.tuple #[.int .i64 p1, .int .i64 p2, .int .i64 p3]) ∧ Below w'.heap.size w' w2) := fun w' hb =>
    hP w' a za la c zc lc (hS.keep (by omega) hb) (hZ.keep (by omega) hb) (hL.keep (by omega) hb)
  have HSA : Hid (∀ w', Below w.heap.size w w' → Calls Tryd.prog 16 #[.agg #[.slice a n c, .slice za nz zc, .slice la nl lc], .int .i64 I, .int .i64 O] w' fun e' w2 => e' = .returned (.tuple #[.int .i64 q1, .int .i64 q2]) ∧ Below w'.heap.size w' w2) := fun w' hb =>
    hQ w' a za la c zc lc (hS.keep (by omega) hb) (hZ.keep (by omega) hb) (hL.keep (by omega) hb)
  have HNE : Hid (∀ w', Below w.heap.size w w' → Calls Tryd.prog 17 #[.agg #[.slice a n c, .slice za nz zc, .slice la nl lc], .int .i64 S] w' fun e' w2 => e' = .returned (.tuple #[.int .i64 r1, .int .i64 r2, .int .i64 r3]) ∧ Below w'.heap.size w' w2) := fun w' hb =>
    hR w' a za la c zc lc (hS.keep (by omega) hb) (hZ.keep (by omega) hb) (hL.keep (by omega) hb)
  have HWI : Hid (∀ w', Below w.heap.size w w' → Calls Tryd.prog 18 #[.agg #[.slice a n c, .slice za nz zc, .slice la nl lc], .int .i64 S, .int .i64 T] w' fun e' w2 => e' = .returned (.tuple #[.int .i64 s1, .int .i64 s2, .int .i64 s3]) ∧ Below w'.heap.size w' w2) := fun w' hb =>
    hW w' a za la c zc lc (hS.keep (by omega) hb) (hZ.keep (by omega) hb) (hL.keep (by omega) hb)
  have HPr := Lib.hid hP'
  have HQr := Lib.hid hQ'
  have HRr := Lib.hid hR'
  have HWr := Lib.hid hW'
  clear h hG hS hZ hL hP hQ hR hW hP' hQ' hR' hW' hok
  rw [hE] at HCK HSS
  clear hE
  go_enter Tryd.func3, Tryd.ntmps3
  go_wp2_with fail
  obtain ⟨W, hW⟩ : ∃ W, W = w.alloc (.cells #[.slice a n c, .slice za nz zc, .slice la nl lc] 26) := ⟨_, rfl⟩
  have hBW : Hid (Below w.heap.size w W) := by rw [hW]; exact (Below.refl _ _).alloc (Nat.le_refl _) _
  have HX : Hid (W.cell? ⟨w.heap.size, 0, none⟩ = some (.slice a n c) ∧ W.cell? ⟨w.heap.size, 1, none⟩ = some (.slice za nz zc) ∧ W.cell? ⟨w.heap.size, 2, none⟩ = some (.slice la nl lc)) := by
    rw [hW]; exact ⟨by go_simp, by go_simp, by go_simp⟩
  rw [← hW]
  clear hW
  refine (HM.out W hBW.out).mono ?_
  rintro e' w2 ⟨hb2, ⟨h0, _⟩ | ⟨_, a', c', za', zc', la', lc', rfl, hS2, hZ2, hL2⟩⟩
  · cases h0
  obtain ⟨W2, hW2⟩ : ∃ W2, W2 = w2.alloc (.cells #[.slice a' n c', .slice za' nz zc', .slice la' nl lc'] 31) := ⟨_, rfl⟩
  have hbA : Below w2.heap.size w2 W2 := by rw [hW2]; exact (Below.refl _ _).alloc (Nat.le_refl _) _
  have HB0 : Hid (Below w.heap.size w W2) := hBW.out.trans ((hb2.trans (hbA.mono hb2.size)).mono hBW.out.size)
  have HD0 : Hid (Below W2.heap.size W2 W2) := Below.refl _ _
  have HX0 := Lib.hid (three_keep HX.out (hb2.trans (hbA.mono hb2.size)))
  have HS2 : Hid (Sl W2 7 a' n f ∧ Sl W2 3 za' nz z ∧ Sl W2 2 la' nl m) := ⟨hS2.keep (by omega) hbA, hZ2.keep (by omega) hbA, hL2.keep (by omega) hbA⟩
  have HY : Hid (W2.cell? ⟨w2.heap.size, 0, none⟩ = some (.slice a' n c') ∧ W2.cell? ⟨w2.heap.size, 1, none⟩ = some (.slice za' nz zc') ∧ W2.cell? ⟨w2.heap.size, 2, none⟩ = some (.slice la' nl lc')) := by
    rw [hW2]; exact ⟨by go_simp, by go_simp, by go_simp⟩
  clear hb2 hbA hS2 hZ2 hL2
  go_wp2_with fail
  rw [← hW2]
  clear hW2
  refine (HA.out W2 HB0.out).mono ?_
  rintro e' u1 ⟨rfl, hb⟩
  have HB1 : Hid (Below w.heap.size w u1) := HB0.out.trans (hb.mono HB0.out.size)
  have HD1 : Hid (Below W2.heap.size W2 u1) := HD0.out.trans (hb.mono HD0.out.size)
  have HX1 := Lib.hid (three_keep HX0.out hb)
  obtain ⟨x0, x1, x2⟩ := HX1.out
  clear hb
  go_wp2_with fail
  refine (HSS.out u1 HB1.out).mono ?_
  rintro e' u2 ⟨hb, ⟨h0, _⟩ | ⟨_, v, rfl, hown⟩⟩
  · exact absurd rfl h0
  have HB2 : Hid (Below w.heap.size w u2) := HB1.out.trans (hb.mono HB1.out.size)
  have HD2 : Hid (Below W2.heap.size W2 u2) := HD1.out.trans (hb.mono HD1.out.size)
  have HX2 := Lib.hid (three_keep HX1.out hb)
  obtain ⟨g, cap, rfl⟩ := ownsRow_succ hown
  have HO2 := Lib.hid hown
  have hgl : g < u2.heap.size := (hown.lt g rfl).2
  clear hb hown x0 x1 x2
  obtain ⟨x0, x1, x2⟩ := HX2.out
  have HF2 : Hid (Below u2.heap.size u2 u2) := Below.refl _ _
  go_wp2_with fail
  refine (HAT.out u2 HB2.out).mono ?_
  rintro e' u3 ⟨rfl, hb⟩
  have HB3 : Hid (Below w.heap.size w u3) := HB2.out.trans (hb.mono HB2.out.size)
  have HD3 : Hid (Below W2.heap.size W2 u3) := HD2.out.trans (hb.mono HD2.out.size)
  have HX3 := Lib.hid (three_keep HX2.out hb)
  have HF3 : Hid (Below u2.heap.size u2 u3) := HF2.out.trans (hb.mono HF2.out.size)
  clear hb x0 x1 x2
  obtain ⟨x0, x1, x2⟩ := HX3.out
  go_wp2_with fail
  refine (HSA.out u3 HB3.out).mono ?_
  rintro e' u4 ⟨rfl, hb⟩
  have HB4 : Hid (Below w.heap.size w u4) := HB3.out.trans (hb.mono HB3.out.size)
  have HD4 : Hid (Below W2.heap.size W2 u4) := HD3.out.trans (hb.mono HD3.out.size)
  have HX4 := Lib.hid (three_keep HX3.out hb)
  have HF4 : Hid (Below u2.heap.size u2 u4) := HF3.out.trans (hb.mono HF3.out.size)
  clear hb x0 x1 x2
  obtain ⟨x0, x1, x2⟩ := HX4.out
  go_wp2_with fail
  refine (HNE.out u4 HB4.out).mono ?_
  rintro e' u5 ⟨rfl, hb⟩
  have HB5 : Hid (Below w.heap.size w u5) := HB4.out.trans (hb.mono HB4.out.size)
  have HD5 : Hid (Below W2.heap.size W2 u5) := HD4.out.trans (hb.mono HD4.out.size)
  have HX5 := Lib.hid (three_keep HX4.out hb)
  have HF5 : Hid (Below u2.heap.size u2 u5) := HF4.out.trans (hb.mono HF4.out.size)
  clear hb x0 x1 x2
  obtain ⟨x0, x1, x2⟩ := HX5.out
  go_wp2_with fail
  refine (HWI.out u5 HB5.out).mono ?_
  rintro e' u6 ⟨rfl, hb⟩
  have HB6 : Hid (Below w.heap.size w u6) := HB5.out.trans (hb.mono HB5.out.size)
  have HD6 : Hid (Below W2.heap.size W2 u6) := HD5.out.trans (hb.mono HD5.out.size)
  have HX6 := Lib.hid (three_keep HX5.out hb)
  have HF6 : Hid (Below u2.heap.size u2 u6) := HF5.out.trans (hb.mono HF5.out.size)
  clear hb x0 x1 x2
  obtain ⟨y0, y1, y2⟩ := three_keep HY.out HD6.out
  go_wp2_with fail
  refine (HCK.out u6 a' c' za' zc' la' lc' (HS2.out.1.keep (by omega) HD6.out) (HS2.out.2.1.keep (by omega) HD6.out) (HS2.out.2.2.keep (by omega) HD6.out)).mono ?_
  rintro e' u7 ⟨rfl, hb⟩
  have HB7 : Hid (Below w.heap.size w u7) := HB6.out.trans (hb.mono HB6.out.size)
  have HD7 : Hid (Below W2.heap.size W2 u7) := HD6.out.trans (hb.mono HD6.out.size)
  have HF7 : Hid (Below u2.heap.size u2 u7) := HF6.out.trans (hb.mono HF6.out.size)
  clear hb y0 y1 y2
  obtain ⟨y0, y1, y2⟩ := three_keep HY.out HD7.out
  go_wp2_with fail
  refine (rstarts_of a' za' la' n c' nz zc' nl lc' f (by omega) HV.out u7 (HS2.out.1.keep (by omega) HD7.out)).mono ?_
  rintro e' u8 ⟨⟨v8, rfl, hown8⟩, hb⟩
  have HB8 : Hid (Below w.heap.size w u8) := HB7.out.trans (hb.mono HB7.out.size)
  have HD8 : Hid (Below W2.heap.size W2 u8) := HD7.out.trans (hb.mono HD7.out.size)
  have HF8 : Hid (Below u2.heap.size u2 u8) := HF7.out.trans (hb.mono HF7.out.size)
  obtain ⟨g8, cap8, rfl⟩ := ownsRow_succ hown8
  have HO8 := Lib.hid hown8
  clear hb hown8 y0 y1 y2
  go_wp2_with fail
  refine (equal_ints u8 g g8 0 0 (n + 1) cap cap8 (endS f) (by omega) (fun i hi => ?_) (fun i hi => ?_)).mono ?_
  · rw [Nat.zero_add]
    refine (HF8.out.cell (p := ⟨g, i, none⟩) hgl).trans ?_
    rw [World.ownsRow.cellAt HO2.out i (by omega), irow_at _ (by omega)]
  · rw [Nat.zero_add, World.ownsRow.cellAt HO8.out i (by omega), irow_at _ (by omega)]
  rintro e' u9 ⟨rfl, hb⟩
  have HB9 : Hid (Below w.heap.size w u9) := HB8.out.trans (hb.mono HB8.out.size)
  have HD9 : Hid (Below W2.heap.size W2 u9) := HD8.out.trans (hb.mono HD8.out.size)
  have HF9 : Hid (Below u2.heap.size u2 u9) := HF8.out.trans (hb.mono HF8.out.size)
  clear hb
  obtain ⟨y0, y1, y2⟩ := three_keep HY.out HD9.out
  go_wp2_with fail
  refine (HPr.out u9 a' za' la' c' zc' lc' (HS2.out.1.keep (by omega) HD9.out)).mono ?_
  rintro e' u10 ⟨rfl, hb⟩
  have HB10 : Hid (Below w.heap.size w u10) := HB9.out.trans (hb.mono HB9.out.size)
  have HD10 : Hid (Below W2.heap.size W2 u10) := HD9.out.trans (hb.mono HD9.out.size)
  have HF10 : Hid (Below u2.heap.size u2 u10) := HF9.out.trans (hb.mono HF9.out.size)
  clear hb y0 y1 y2
  obtain ⟨y0, y1, y2⟩ := three_keep HY.out HD10.out
  go_wp2_with fail
  refine (HQr.out u10 a' za' la' c' zc' lc' (HS2.out.1.keep (by omega) HD10.out)).mono ?_
  rintro e' u11 ⟨rfl, hb⟩
  have HB11 : Hid (Below w.heap.size w u11) := HB10.out.trans (hb.mono HB10.out.size)
  have HD11 : Hid (Below W2.heap.size W2 u11) := HD10.out.trans (hb.mono HD10.out.size)
  have HF11 : Hid (Below u2.heap.size u2 u11) := HF10.out.trans (hb.mono HF10.out.size)
  clear hb y0 y1 y2
  obtain ⟨y0, y1, y2⟩ := three_keep HY.out HD11.out
  go_wp2_with fail
  refine (HRr.out u11 a' za' la' c' zc' lc' (HS2.out.1.keep (by omega) HD11.out)).mono ?_
  rintro e' u12 ⟨rfl, hb⟩
  have HB12 : Hid (Below w.heap.size w u12) := HB11.out.trans (hb.mono HB11.out.size)
  have HD12 : Hid (Below W2.heap.size W2 u12) := HD11.out.trans (hb.mono HD11.out.size)
  have HF12 : Hid (Below u2.heap.size u2 u12) := HF11.out.trans (hb.mono HF11.out.size)
  clear hb y0 y1 y2
  obtain ⟨y0, y1, y2⟩ := three_keep HY.out HD12.out
  go_wp2_with fail
  refine (HWr.out u12 a' za' la' c' zc' lc' (HS2.out.1.keep (by omega) HD12.out)).mono ?_
  rintro e' u13 ⟨rfl, hb⟩
  have HB13 : Hid (Below w.heap.size w u13) := HB12.out.trans (hb.mono HB12.out.size)
  have HD13 : Hid (Below W2.heap.size W2 u13) := HD12.out.trans (hb.mono HD12.out.size)
  have HF13 : Hid (Below u2.heap.size u2 u13) := HF12.out.trans (hb.mono HF12.out.size)
  clear hb y0 y1 y2
  go_wp2
  go_ret
  exact ⟨by simp, HB13.out⟩
end Go.Proofs.YtbpifllkimkokaaDoor
