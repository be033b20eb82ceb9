/-
  WALKS: the reference's Starts, At, Station.
-/
import Derived.Test.YtbpifllkimkokaaDoorLnP
import Derived.Test.YtbpifllkimkokaaDoorLnI
import Derived.StillTailTactics
import Derived.Deep.RegionLaw
import Derived.Maps.AppendAt
namespace Go.Proofs.YtbpifllkimkokaaDoor
open Go.RowKit

set_option maxRecDepth 8000 in
set_option maxHeartbeats 1600000 in
theorem rstarts_of (a za la : Option Addr) (n c zn zc ln lc : Nat) (f : Nat → Int) (hl : n ≤ 70) (hv : ∀ i, i < n → itAt f i = 0) (w : World) (hS : Sl w 7 a n f) :
    Calls Tryd.prog 21 #[.agg #[.slice a n c, .slice za zn zc, .slice la ln lc]] w fun e W' => (∃ v, e = .returned v ∧ W'.ownsRow w.heap.size 3 1 v (n + 1) (irow (endS f) (n + 1))) ∧ Below w.heap.size w W' := by
  obtain ⟨i0, hi0, hz0, hz1, hz2⟩ := info_parts x_infoInt
  have HS := Lib.hid hS
  have HV := Lib.hid hv
  clear hS hv
  go_enter Tryd.func21, Tryd.ntmps21
  go_wp2
  obtain ⟨W, hW⟩ : ∃ W, W = w.alloc (.cells #[.slice a n c, .slice za zn zc, .slice la ln lc] 31) := ⟨_, rfl⟩
  have hBW : Hid (Below w.heap.size w W) := by rw [hW]; exact (Below.refl _ _).alloc (Nat.le_refl _) _
  have hsz : W.heap.size = w.heap.size + 1 := by rw [hW]; simp
  have x0 : W.cell? ⟨w.heap.size, 0, none⟩ = some (.slice a n c) := by rw [hW]; go_simp
  rw [← hW]
  clear hW
  have hL0 := World.ownsRow_lit (base := w.heap.size + 1) (e := 3) (size := 1) W #[.int .i64 0] 1 (by omega) (by decide) rfl
  rw [hsz] at hL0
  have hL1 : Below (w.heap.size + 1) W (W.alloc (.cells #[.int .i64 0] 3)) := (Below.refl _ _).alloc (by omega) _
  go_loopw [3, 4] (fun vo vi wr => ∃ i : Nat, i ≤ n ∧ vi = .int .i64 i ∧ Hid (wr.ownsRow (w.heap.size + 1) 3 1 vo (i + 1) (irow (endS f) (i + 1))) ∧ Hid (Below (w.heap.size + 1) W wr)) (fun _ vi _ => n - (intOf vi).toNat)
  case atStart => exact ⟨0, by omega, rfl, hL0, hL1⟩
  case round =>
    obtain ⟨i, hi, rfl, HO, HB⟩ := hrel
    have HBW : Hid (Below w.heap.size w wr) := hBW.out.trans (HB.out.mono (by omega))
    have y0 := (HB.out.cell (p := ⟨w.heap.size, 0, none⟩) (by show w.heap.size < w.heap.size + 1; omega)).trans x0
    have hss : w.heap.size + 1 ≤ wr.heap.size := by have := HB.out.size; omega
    by_cases hlt : i < n
    · obtain ⟨b, o, rfl, hI⟩ := HS.out (by omega)
      have hI2 := hI.keep HBW.out (hI.lt (by omega))
      have d1 := hI2.at (i * 7) 1 (by omega)
      have hst : 0 ≤ endS f i ∧ endS f i ≤ 1174405120 ∧ 1 ≤ f (i * 7 + 1) ∧ f (i * 7 + 1) ≤ 16777216 := endS_step hl HV.out hlt
      obtain ⟨g, cap, rfl⟩ := ownsRow_succ HO.out
      have dg : wr.cell? ⟨g, i, none⟩ = some (.int .i64 (endS f i)) := by
        rw [World.ownsRow.cellAt HO.out i (by omega), irow_at _ (by omega)]
      have e1 : IntKind.i64.wrap (endS f i + f (i * 7 + 1)) = endS f (i + 1) := IntWalk.i64_in _ (by omega)
      have b1 : (0 : Int) ≤ (i : Int) := by omega
      have b2 : (i : Int) < (i : Int) + 1 := by omega
      have b3 : (i : Int) < (n : Int) := by omega
      clear hI hI2
      go_wp2_with fail
      go_region_law ((refine step_append_lies _ rfl (.tmp 13) (.tmp 25) 35 rfl (w.heap.size + 1) 3 i0 (.int .i64 0) 1 8 Tryd.underlying35 hi0 hz0 hz1 hz2 rfl (by decide) (.slice (some ⟨g, 0, none⟩) (i + 1) cap) (i + 1) (irow (endS f) (i + 1)) (by simp [Act.eval]) (HO.out.alloc _) ⟨wr.heap.size, 0, none⟩ 1 1 [.int .i64 (endS f (i + 1))] (by simp [Act.eval]) rfl (cell_one_new _ _ _) (by simp [Value.oneCell']) (by decide) (by unfold maxLen; omega) (by omega) (by simp; omega) _ rfl ?_; intro g2 cap2 w3 hown3 hg3 hat3 hlt3))
      all_goals
        have HO3 : Hid (w3.ownsRow (w.heap.size + 1) 3 1 (.slice (some ⟨g2, 0, none⟩) (i + 1 + 1) cap2) (i + 1 + 1) (irow (endS f) (i + 1 + 1))) := by rw [irow_succ (endS f) (i + 1)]; exact hown3
        have HB3 : Hid (Below (w.heap.size + 1) W w3) := ((HB.out.alloc hss _).drew).grown hg3 (by simp; omega) (fun k hk => (HO.out.lt k hk).1)
        clear hown3 hg3 hat3 hlt3
        go_wp2
        exact ⟨⟨i + 1, by omega, by go_num, HO3.out, HB3.out⟩, by simp [intOf]; omega⟩
    · obtain rfl : i = n := by omega
      go_wp2
      go_ret
      exact ⟨⟨_, rfl, own_base HO.out (by omega)⟩, HBW.out⟩

set_option maxRecDepth 8000 in
set_option maxHeartbeats 1600000 in
/-- of: whether a station is of a line. -/
theorem rof_of (a za la : Option Addr) (n c zn zc ln lc : Nat) (f : Nat → Int) (st : Int) (hl : n ≤ 70) (hv : ∀ i, i < n → itAt f i = 0) (w : World) (hS : Sl w 7 a n f) :
    Calls Tryd.prog 67 #[.agg #[.slice a n c, .slice za zn zc, .slice la ln lc], .int .i64 st] w fun e W' => e = .returned (.bool (decide (0 ≤ st ∧ st < endS f n))) ∧ Below w.heap.size w W' := by
  have HEN : Hid (∀ W', Below w.heap.size w W' → Calls Tryd.prog 65 #[.agg #[.slice a n c, .slice za zn zc, .slice la ln lc]] W' fun e W3 => e = .returned (.int .i64 (endS f n)) ∧ Below W'.heap.size W' W3) :=
    fun W' hb => rend_of a za la n c zn zc ln lc f hl hv W' (hS.keep (by omega) hb)
  have hE := endS_le (f := f) (n := n) hv
  have hw1 : IntKind.i64.wrap (endS f n - 1) = endS f n - 1 := IntWalk.i64_in _ (by omega)
  have HBT : Hid (decide (0 ≤ st ∧ st < endS f n) = decide (0 ≤ st ∧ st ≤ endS f n - 1)) := by show _ = _; rw [decide_eq_decide]; omega
  generalize decide (0 ≤ st ∧ st < endS f n) = B at HBT ⊢
  clear hS hv
  go_enter Tryd.func67, Tryd.ntmps67
  go_wp2_with fail
  obtain ⟨W, hW⟩ : ∃ W, W = w.alloc (.cells #[.slice a n c, .slice za zn zc, .slice la ln lc] 31) := ⟨_, rfl⟩
  have hBW : Hid (Below w.heap.size w W) := by rw [hW]; exact (Below.refl _ _).alloc (Nat.le_refl _) _
  rw [← hW]
  clear hW
  refine (HEN.out W hBW.out).mono ?_
  rintro e' w2 ⟨rfl, hb2⟩
  have HB2 : Hid (Below w.heap.size w w2) := hBW.out.trans (hb2.mono hBW.out.size)
  clear hb2
  go_wp2_with (go_at_call 66; refine (rbetw B _ _ _ _ HBT.out).mono ?_; rintro e' w' ⟨rfl, rfl⟩)
  go_ret
  exact ⟨rfl, HB2.out⟩

set_option maxRecDepth 8000 in
set_option maxHeartbeats 1600000 in
/-- At of a station that is not of the line. -/
theorem rat_no (a za la : Option Addr) (n c zn zc ln lc : Nat) (f : Nat → Int) (st : Int) (hl : n ≤ 70) (hv : ∀ i, i < n → itAt f i = 0) (hst : ¬(0 ≤ st ∧ st < endS f n)) (w : World) (hS : Sl w 7 a n f) :
    Calls Tryd.prog 22 #[.agg #[.slice a n c, .slice za zn zc, .slice la ln lc], .int .i64 st] w fun e W' => e = .returned (.tuple #[.int .i64 0, .int .i64 0, .int .i64 1]) ∧ Below w.heap.size w W' := by
  have HOF : Hid (∀ W', Below w.heap.size w W' → Calls Tryd.prog 67 #[.agg #[.slice a n c, .slice za zn zc, .slice la ln lc], .int .i64 st] W' fun e W3 => e = .returned (.bool false) ∧ Below W'.heap.size W' W3) := fun W' hb => by
    have := rof_of a za la n c zn zc ln lc f st hl hv W' (hS.keep (by omega) hb)
    rwa [decide_eq_false hst] at this
  clear hS hv hst
  go_enter Tryd.func22, Tryd.ntmps22
  go_wp2_with fail
  obtain ⟨W, hW⟩ : ∃ W, W = w.alloc (.cells #[.slice a n c, .slice za zn zc, .slice la ln lc] 31) := ⟨_, rfl⟩
  have hBW : Hid (Below w.heap.size w W) := by rw [hW]; exact (Below.refl _ _).alloc (Nat.le_refl _) _
  rw [← hW]
  clear hW
  refine (HOF.out W hBW.out).mono ?_
  rintro e' w2 ⟨rfl, hb2⟩
  have HB2 : Hid (Below w.heap.size w w2) := hBW.out.trans (hb2.mono hBW.out.size)
  clear hb2
  go_wp2
  go_ret3
  exact ⟨rfl, HB2.out⟩

set_option maxRecDepth 8000 in
set_option maxHeartbeats 1600000 in
/-- At of a station of the line. -/
theorem rat_yes (a za la : Option Addr) (n c zn zc ln lc : Nat) (f : Nat → Int) (st : Int) (hl : n ≤ 70) (hv : ∀ i, i < n → itAt f i = 0) (hst : 0 ≤ st ∧ st < endS f n) (w : World) (hS : Sl w 7 a n f) :
    Calls Tryd.prog 22 #[.agg #[.slice a n c, .slice za zn zc, .slice la ln lc], .int .i64 st] w fun e W' => (∃ i : Nat, i < n ∧ endS f i ≤ st ∧ st < endS f (i + 1) ∧ e = .returned (.tuple #[.int .i64 i, .int .i64 (st - endS f i), .int .i64 0])) ∧ Below w.heap.size w W' := by
  have HOF : Hid (∀ W', Below w.heap.size w W' → Calls Tryd.prog 67 #[.agg #[.slice a n c, .slice za zn zc, .slice la ln lc], .int .i64 st] W' fun e W3 => e = .returned (.bool true) ∧ Below W'.heap.size W' W3) := fun W' hb => by
    have := rof_of a za la n c zn zc ln lc f st hl hv W' (hS.keep (by omega) hb)
    rwa [decide_eq_true hst] at this
  have HST : Hid (∀ W', Below w.heap.size w W' → Calls Tryd.prog 21 #[.agg #[.slice a n c, .slice za zn zc, .slice la ln lc]] W' fun e W3 => (∃ v, e = .returned v ∧ W3.ownsRow W'.heap.size 3 1 v (n + 1) (irow (endS f) (n + 1))) ∧ Below W'.heap.size W' W3) :=
    fun W' hb => rstarts_of a za la n c zn zc ln lc f hl hv W' (hS.keep (by omega) hb)
  have HV := Lib.hid hv
  clear hS hv
  go_enter Tryd.func22, Tryd.ntmps22
  go_wp2_with fail
  obtain ⟨W, hW⟩ : ∃ W, W = w.alloc (.cells #[.slice a n c, .slice za zn zc, .slice la ln lc] 31) := ⟨_, rfl⟩
  have hBW : Hid (Below w.heap.size w W) := by rw [hW]; exact (Below.refl _ _).alloc (Nat.le_refl _) _
  have HX : Hid (W.cell? ⟨w.heap.size, 0, none⟩ = some (.slice a n c) ∧ W.cell? ⟨w.heap.size, 1, none⟩ = some (.slice za zn zc) ∧ W.cell? ⟨w.heap.size, 2, none⟩ = some (.slice la ln lc)) := by
    rw [hW]; exact ⟨by go_simp, by go_simp, by go_simp⟩
  rw [← hW]
  clear hW
  refine (HOF.out W hBW.out).mono ?_
  rintro e' w2 ⟨rfl, hb2⟩
  have HB2 : Hid (Below w.heap.size w w2) := hBW.out.trans (hb2.mono hBW.out.size)
  have HX2 := Lib.hid (three_keep HX.out hb2)
  obtain ⟨x0, x1, x2⟩ := HX2.out
  clear hb2
  go_wp2_with fail
  refine (HST.out w2 HB2.out).mono ?_
  rintro e' w3 ⟨⟨v, rfl, hown⟩, hb3⟩
  have HB3 : Hid (Below w.heap.size w w3) := HB2.out.trans (hb3.mono HB2.out.size)
  have HX3 := Lib.hid (three_keep HX2.out hb3)
  clear hb3 x0 x1 x2
  obtain ⟨x0, x1, x2⟩ := HX3.out
  obtain ⟨g, cap, rfl⟩ := ownsRow_succ hown
  have HO := Lib.hid hown
  clear hown
  go_wp2
  go_loopw [8] (fun vi wr => ∃ i : Nat, i ≤ n ∧ vi = .int .i64 i ∧ endS f i ≤ st ∧ wr = w3) (fun vi _ => n - (intOf vi).toNat)
  case atStart => exact ⟨0, by omega, rfl, hst.1, rfl⟩
  case round =>
    obtain ⟨i, hi, rfl, hle, rfl⟩ := hrel
    by_cases hlt : i < n
    · have hstp : 0 ≤ endS f i ∧ endS f i ≤ 1174405120 ∧ 1 ≤ f (i * 7 + 1) ∧ f (i * 7 + 1) ≤ 16777216 := endS_step hl HV.out hlt
      have hE := endS_le (f := f) (n := n) HV.out
      have d0 : wr.cell? ⟨g, i, none⟩ = some (.int .i64 (endS f i)) := by rw [World.ownsRow.cellAt HO.out i (by omega), irow_at _ (by omega)]
      have d1 : wr.cell? ⟨g, i + 1, none⟩ = some (.int .i64 (endS f (i + 1))) := by rw [World.ownsRow.cellAt HO.out (i + 1) (by omega), irow_at _ (by omega)]
      have e1 : IntKind.i64.wrap (st - endS f i) = st - endS f i := IntWalk.i64_in _ (by omega)
      have b1 : (0 : Int) ≤ (i : Int) := by omega
      have b2 : (i : Int) < (n : Int) + 1 := by omega
      by_cases hin : st < endS f (i + 1)
      · have q1 : decide (st < endS f (i + 1)) = true := by simpa using hin
        go_wp2
        go_quiet (fail)
        go_wp2
        go_ret3
        exact ⟨⟨i, hlt, hle, hin, rfl⟩, HB3.out.trans ⟨rfl, rfl, rfl, Nat.le_refl _, fun _ _ => rfl⟩⟩
      · have q1 : decide (st < endS f (i + 1)) = false := by simpa using hin
        go_wp2
        exact ⟨⟨i + 1, by omega, by go_num, by omega, trivial⟩, by simp [intOf]; omega⟩
    · exfalso
      obtain rfl : i = n := by omega
      omega
end Go.Proofs.YtbpifllkimkokaaDoor
