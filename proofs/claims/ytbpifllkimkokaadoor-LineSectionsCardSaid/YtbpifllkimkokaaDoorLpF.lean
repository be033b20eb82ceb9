/-
  WALKS: slices.Equal of ints; what the program and the reference both tell of stations.
-/
import Derived.Test.YtbpifllkimkokaaDoorLpE
import Derived.Test.YtbpifllkimkokaaDoorLoG
import Derived.Deep.QuietTactic
namespace Go.Proofs.YtbpifllkimkokaaDoor
open Go.RowKit

set_option maxRecDepth 8000 in
set_option maxHeartbeats 1600000 in
/-- slices.Equal of two slices that hold the same ints. -/
theorem equal_ints (w : World) (g1 g2 o1 o2 n c1 c2 : Nat) (h : Nat → Int) (hn : n ≤ 1000000) (h1 : ∀ i, i < n → w.cell? ⟨g1, o1 + i, none⟩ = some (.int .i64 (h i))) (h2 : ∀ i, i < n → w.cell? ⟨g2, o2 + i, none⟩ = some (.int .i64 (h i))) :
    Calls Tryd.prog 20 #[.slice (some ⟨g1, o1, none⟩) n c1, .slice (some ⟨g2, o2, none⟩) n c2] w fun e w' => e = .returned (.bool true) ∧ Below w.heap.size w w' := by
  have H1 := Lib.hid h1
  have H2 := Lib.hid h2
  clear h1 h2
  go_enter Tryd.func20, Tryd.ntmps20
  go_wp2
  go_loopw [13] (fun vi wr => ∃ i : Nat, i ≤ n ∧ vi = .int .i64 i ∧ Hid (∃ q, wr = w.drewN q)) (fun vi _ => n - (intOf vi).toNat)
  case atStart => exact ⟨0, by omega, rfl, ⟨0, rfl⟩⟩
  case round =>
    obtain ⟨i, hi, rfl, HQ⟩ := hrel
    by_cases hlt : i < n
    · have d1 := ((drewN_below HQ.out w.heap.size).cell (p := ⟨g1, o1 + i, none⟩) (World.block_lt_of_cell? w _ (H1.out i hlt))).trans (H1.out i hlt)
      have d2 := ((drewN_below HQ.out w.heap.size).cell (p := ⟨g2, o2 + i, none⟩) (World.block_lt_of_cell? w _ (H2.out i hlt))).trans (H2.out i hlt)
      have b1 : (0 : Int) ≤ (i : Int) := by omega
      have b2 : (i : Int) < (n : Int) := by omega
      go_wp2
      go_quiet (fail)
      go_wp2
      exact ⟨⟨i + 1, by omega, by go_num, drewN_more HQ.out _⟩, by simp [intOf]; omega⟩
    · obtain rfl : i = n := by omega
      go_wp2
      go_ret
      exact ⟨rfl, drewN_below HQ.out _⟩

/-- The item that has a station. -/
theorem item_ex {f : Nat → Int} {st : Int} : ∀ {n : Nat}, (0 ≤ st ∧ st < endS f n) → ∃ i, i < n ∧ endS f i ≤ st ∧ st < endS f (i + 1)
  | 0, h => by simp only [endS] at h; omega
  | n + 1, h => by
    by_cases hlt : st < endS f n
    · obtain ⟨i, h1, h2⟩ := item_ex ⟨h.1, hlt⟩
      exact ⟨i, by omega, h2⟩
    · exact ⟨n, by omega, by omega, h.2⟩

/-- What both Ats return. -/
theorem at_both (f z m : Nat → Int) (n nz nl : Nat) (st : Int) (h : chk n nz nl f z m = 0) : ∃ x y e : Int,
    (∀ (w : World) a za la c zc lc, Sl w 7 a n f → Sl w 3 za nz z → Sl w 2 la nl m → Calls Tryd.prog 15 #[.agg #[.slice a n c, .slice za nz zc, .slice la nl lc], .int .i64 st] w fun e' w' => e' = .returned (.tuple #[.int .i64 x, .int .i64 y, .int .i64 e]) ∧ Below w.heap.size w w') ∧
    (∀ (w : World) a za la c zc lc, Sl w 7 a n f → Calls Tryd.prog 22 #[.agg #[.slice a n c, .slice za nz zc, .slice la nl lc], .int .i64 st] w fun e' w' => e' = .returned (.tuple #[.int .i64 x, .int .i64 y, .int .i64 e]) ∧ Below w.heap.size w w') := by
  have hok := chk_ok h
  have hn : n ≤ 70 := by omega
  have hv := hok.2.2.2.1
  by_cases hst : 0 ≤ st ∧ st < endS f n
  · obtain ⟨i, hi, h1, h2⟩ := item_ex hst
    refine ⟨i, st - endS f i, 0, fun w a za la c zc lc hS hZ hL => ?_, fun w a za la c zc lc hS => ?_⟩
    · refine (at_of w a za la n c nz zc nl lc f z m st hst h hS hZ hL).mono ?_
      rintro e' w' ⟨⟨j, hj, h3, h4, rfl⟩, hb⟩
      obtain rfl := one_item hn hv hi hj h1 h2 h3 h4
      exact ⟨rfl, hb⟩
    · refine (rat_yes a za la n c nz zc nl lc f st hn hv hst w hS).mono ?_
      rintro e' w' ⟨⟨j, hj, h3, h4, rfl⟩, hb⟩
      obtain rfl := one_item hn hv hi hj h1 h2 h3 h4
      exact ⟨rfl, hb⟩
  · refine ⟨0, 0, 1, fun w a za la c zc lc hS hZ hL => ?_, fun w a za la c zc lc hS => rat_no a za la n c nz zc nl lc f st hn hv hst w hS⟩
    refine at_no w _ st 1 _ _ _ rfl (by decide) fun w' hb => ?_
    have := checkStationAll_of w' a za la n c nz zc nl lc f z m st (hS.keep (by omega) hb) (hZ.keep (by omega) hb) (hL.keep (by omega) hb)
    rwa [h, decide_eq_false hst, stE_no] at this

/-- What both Stations return. -/
theorem station_both (f z m : Nat → Int) (n nz nl : Nat) (I o : Int) (h : chk n nz nl f z m = 0) : ∃ x e : Int,
    (∀ (w : World) a za la c zc lc, Sl w 7 a n f → Sl w 3 za nz z → Sl w 2 la nl m → Calls Tryd.prog 16 #[.agg #[.slice a n c, .slice za nz zc, .slice la nl lc], .int .i64 I, .int .i64 o] w fun e' w' => e' = .returned (.tuple #[.int .i64 x, .int .i64 e]) ∧ Below w.heap.size w w') ∧
    (∀ (w : World) a za la c zc lc, Sl w 7 a n f → Calls Tryd.prog 23 #[.agg #[.slice a n c, .slice za nz zc, .slice la nl lc], .int .i64 I, .int .i64 o] w fun e' w' => e' = .returned (.tuple #[.int .i64 x, .int .i64 e]) ∧ Below w.heap.size w w') := by
  have hok := chk_ok h
  have hn : n ≤ 70 := by omega
  have hv := hok.2.2.2.1
  by_cases hp : ∃ i : Nat, i < n ∧ I = (i : Int) ∧ 0 ≤ o ∧ o < f (i * 7 + 1)
  · obtain ⟨i, hi, rfl, ho⟩ := hp
    exact ⟨endS f i + o, 0, fun w a za la c zc lc hS hZ hL => station_of w a za la n c nz zc nl lc f z m i o hi ho h hS hZ hL, fun w a za la c zc lc hS => rstation_yes a za la n c nz zc nl lc f i o hn hv hi ho w hS⟩
  · have hno : ∀ i : Nat, i < n → I = (i : Int) → ¬(0 ≤ o ∧ o < f (i * 7 + 1)) := fun i hi he ho => hp ⟨i, hi, he, ho⟩
    refine ⟨0, 1, fun w a za la c zc lc hS hZ hL => ?_, fun w a za la c zc lc hS => rstation_no a za la n c nz zc nl lc f I o ⟨by omega, hn⟩ hv hno w hS⟩
    refine (callsIn_wide (n := 3)).1 (station_none_in 3 (Nat.le_refl _) a za la n c nz zc nl lc f I o hn hv hno w hS fun w' hb => ?_)
    have := check_of w' a za la n c nz zc nl lc f z m (hS.keep (by omega) hb) (hZ.keep (by omega) hb) (hL.keep (by omega) hb)
    rwa [h] at this

/-- What both Nearests return. -/
theorem nearest_both (f z m : Nat → Int) (n nz nl : Nat) (st : Int) (h : chk n nz nl f z m = 0) : ∃ x y e : Int,
    (∀ (w : World) a za la c zc lc, Sl w 7 a n f → Sl w 3 za nz z → Sl w 2 la nl m → Calls Tryd.prog 17 #[.agg #[.slice a n c, .slice za nz zc, .slice la nl lc], .int .i64 st] w fun e' w' => e' = .returned (.tuple #[.int .i64 x, .int .i64 y, .int .i64 e]) ∧ Below w.heap.size w w') ∧
    (∀ (w : World) a za la c zc lc, Sl w 7 a n f → Calls Tryd.prog 24 #[.agg #[.slice a n c, .slice za nz zc, .slice la nl lc], .int .i64 st] w fun e' w' => e' = .returned (.tuple #[.int .i64 x, .int .i64 y, .int .i64 e]) ∧ Below w.heap.size w w') := by
  have hok := chk_ok h
  have hn : 1 ≤ n ∧ n ≤ 70 := by omega
  have hv := hok.2.2.2.1
  by_cases hst : 0 ≤ st ∧ st < endS f n
  · by_cases h1 : n = 1
    · subst h1
      refine ⟨0, 0, 5, fun w a za la c zc lc hS hZ hL => nearest1_of w a za la c nz zc nl lc f z m st hst h hS hZ hL, fun w a za la c zc lc hS => ?_⟩
      refine (rnearest_yes a za la 1 c nz zc nl lc f st hn hv hst w hS).mono ?_
      rintro e' w' ⟨⟨_, rfl⟩ | ⟨k, hk1, hk2, _⟩, hb⟩
      · exact ⟨rfl, hb⟩
      · omega
    · obtain ⟨k, hk1, hk2, _, hk⟩ := nfold_upto f st n n (Nat.le_refl _) (by omega)
      refine ⟨k, st - endS f k, 0, fun w a za la c zc lc hS hZ hL => ?_, fun w a za la c zc lc hS => ?_⟩
      · refine (nearest_of w a za la n c nz zc nl lc f z m st hst (by omega) h hS hZ hL).mono ?_
        rintro e' w' ⟨⟨j, hj1, hj2, hj, rfl⟩, hb⟩
        obtain rfl := hk.one hj ⟨hk1, hk2⟩ ⟨hj1, hj2⟩
        exact ⟨rfl, hb⟩
      · refine (rnearest_yes a za la n c nz zc nl lc f st hn hv hst w hS).mono ?_
        rintro e' w' ⟨⟨e1, _⟩ | ⟨j, hj1, hj2, hj, rfl⟩, hb⟩
        · exact absurd e1 h1
        · obtain rfl := hk.one hj ⟨hk1, hk2⟩ ⟨hj1, hj2⟩
          exact ⟨rfl, hb⟩
  · refine ⟨0, 0, 1, fun w a za la c zc lc hS hZ hL => ?_, fun w a za la c zc lc hS => rnearest_no a za la n c nz zc nl lc f st hn.2 hv hst w hS⟩
    refine nearest_no w _ st 1 _ _ _ rfl (by decide) fun w' hb => ?_
    have := checkStationAll_of w' a za la n c nz zc nl lc f z m st (hS.keep (by omega) hb) (hZ.keep (by omega) hb) (hL.keep (by omega) hb)
    rwa [h, decide_eq_false hst, stE_no] at this

/-- Within's ending is one for each line and stations. -/
theorem wiP_one {f : Nat → Int} {n : Nat} (st to : Int) (hl : n ≤ 70) (hv : ∀ i, i < n → itAt f i = 0) : ∃ x y e : Int, ∀ w e' w', WiP f n st to w e' w' → e' = .returned (.tuple #[.int .i64 x, .int .i64 y, .int .i64 e]) ∧ Below w.heap.size w w' := by
  by_cases hin : (0 ≤ st ∧ st < endS f n) ∧ (0 ≤ to ∧ to < endS f n)
  · by_cases hlt : to < st
    · refine ⟨0, 0, 7, ?_⟩
      rintro w e' w' ⟨⟨h, _⟩ | ⟨_, _, rfl⟩ | ⟨_, h, _⟩, hb⟩
      · exact absurd hin h
      · exact ⟨rfl, hb⟩
      · omega
    · obtain ⟨i, hi, h1, h2⟩ := item_ex hin.1
      obtain ⟨j, hj, h3, h4⟩ := item_ex hin.2
      refine ⟨i, j, 0, ?_⟩
      rintro w e' w' ⟨⟨h, _⟩ | ⟨_, h, _⟩ | ⟨_, _, i2, j2, ⟨a1, a2, a3⟩, ⟨b1, b2, b3⟩, rfl⟩, hb⟩
      · exact absurd hin h
      · omega
      · obtain rfl := one_item hl hv hi a1 h1 h2 a2 a3
        obtain rfl := one_item hl hv hj b1 h3 h4 b2 b3
        exact ⟨rfl, hb⟩
  · refine ⟨0, 0, 1, ?_⟩
    rintro w e' w' ⟨⟨_, rfl⟩ | ⟨h, _⟩ | ⟨h, _⟩, hb⟩
    · exact ⟨rfl, hb⟩
    · exact absurd h hin
    · exact absurd h hin

/-- What both Withins return. -/
theorem within_both (f z m : Nat → Int) (n nz nl : Nat) (st to : Int) (h : chk n nz nl f z m = 0) : ∃ x y e : Int,
    (∀ (w : World) a za la c zc lc, Sl w 7 a n f → Sl w 3 za nz z → Sl w 2 la nl m → Calls Tryd.prog 18 #[.agg #[.slice a n c, .slice za nz zc, .slice la nl lc], .int .i64 st, .int .i64 to] w fun e' w' => e' = .returned (.tuple #[.int .i64 x, .int .i64 y, .int .i64 e]) ∧ Below w.heap.size w w') ∧
    (∀ (w : World) a za la c zc lc, Sl w 7 a n f → Calls Tryd.prog 25 #[.agg #[.slice a n c, .slice za nz zc, .slice la nl lc], .int .i64 st, .int .i64 to] w fun e' w' => e' = .returned (.tuple #[.int .i64 x, .int .i64 y, .int .i64 e]) ∧ Below w.heap.size w w') := by
  have hok := chk_ok h
  have hn : n ≤ 70 := by omega
  have hv := hok.2.2.2.1
  obtain ⟨x, y, e, hxy⟩ := wiP_one (f := f) (n := n) st to hn hv
  refine ⟨x, y, e, fun w a za la c zc lc hS hZ hL => ?_, fun w a za la c zc lc hS => ?_⟩
  · refine (lwithin_of w a za la n c nz zc nl lc f z m st to hS hZ hL).mono ?_
    rintro e' w' (⟨h1, _⟩ | ⟨_, h1⟩)
    · exact absurd h h1
    · exact hxy _ _ _ h1
  · exact (rwithin_of a za la n c nz zc nl lc f st to hn hv w hS).mono fun e' w' h1 => hxy _ _ _ h1
end Go.Proofs.YtbpifllkimkokaaDoor
