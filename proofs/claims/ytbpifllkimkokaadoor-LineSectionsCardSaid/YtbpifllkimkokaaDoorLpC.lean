/-
  WALKS: the reference's Nearest and Within.
-/
import Derived.Test.YtbpifllkimkokaaDoorLpB
import Derived.Test.YtbpifllkimkokaaDoorLoD
namespace Go.Proofs.YtbpifllkimkokaaDoor
open Go.RowKit

theorem Near.two (f : Nat → Int) (st : Int) : Near f st 2 1 := ⟨fun m h1 h2 => by obtain rfl : m = 1 := by omega
                                                                                  exact Int.le_refl _, fun m h1 h2 => by omega⟩
theorem Near.succ_lt {f : Nat → Int} {st : Int} {i j : Nat} (h : Near f st i j) (hl : max (st - endS f i) (-(st - endS f i)) < max (st - endS f j) (-(st - endS f j))) : Near f st (i + 1) i :=
  ⟨fun m h1 h2 => by
    by_cases e : m = i
    · subst e; exact Int.le_refl _
    · exact Int.le_trans (Int.le_of_lt hl) (h.1 m h1 (by omega)), fun m h1 h2 => Int.lt_of_lt_of_le hl (h.1 m h1 h2)⟩
theorem Near.succ_ge {f : Nat → Int} {st : Int} {i j : Nat} (h : Near f st i j) (hl : ¬ max (st - endS f i) (-(st - endS f i)) < max (st - endS f j) (-(st - endS f j))) : Near f st (i + 1) j :=
  ⟨fun m h1 h2 => by
    by_cases e : m = i
    · subst e; exact Int.not_lt.1 hl
    · exact h.1 m h1 (by omega), h.2⟩

theorem rfar_of (w : World) (n : Int) (h : -2147483648 ≤ n ∧ n ≤ 2147483648) : Calls Tryd.prog 68 #[.int .i64 n] w fun e w' => e = .returned (.int .i64 (max n (-n))) ∧ w' = w := by
  have h1 : IntKind.i64.wrap (-n) = -n := IntWalk.i64_in _ (by omega)
  go_enter Tryd.func68, Tryd.ntmps68
  go_wp2
  · go_ret
    refine ⟨?_, rfl⟩
    rw [show max n (-n) = -n by omega]; rfl
  · go_ret
    refine ⟨?_, rfl⟩
    rw [show max n (-n) = n by omega]; rfl

set_option maxRecDepth 8000 in
set_option maxHeartbeats 1600000 in
/-- Nearest of a station that is not of the line. -/
theorem rnearest_no (a za la : Option Addr) (n c zn zc ln lc : Nat) (f : Nat → Int) (st : Int) (hl : n ≤ 70) (hv : ∀ i, i < n → itAt f i = 0) (hst : ¬(0 ≤ st ∧ st < endS f n)) (w : World) (hS : Sl w 7 a n f) :
    Calls Tryd.prog 24 #[.agg #[.slice a n c, .slice za zn zc, .slice la ln lc], .int .i64 st] w fun e W' => e = .returned (.tuple #[.int .i64 0, .int .i64 0, .int .i64 1]) ∧ Below w.heap.size w W' := by
  have HOF : Hid (∀ W', Below w.heap.size w W' → Calls Tryd.prog 67 #[.agg #[.slice a n c, .slice za zn zc, .slice la ln lc], .int .i64 st] W' fun e W3 => e = .returned (.bool false) ∧ Below W'.heap.size W' W3) := fun W' hb => by
    have := rof_of a za la n c zn zc ln lc f st hl hv W' (hS.keep (by omega) hb)
    rwa [decide_eq_false hst] at this
  clear hS hv hst
  go_enter Tryd.func24, Tryd.ntmps24
  go_wp2_with fail
  obtain ⟨W, hW⟩ : ∃ W, W = w.alloc (.cells #[.slice a n c, .slice za zn zc, .slice la ln lc] 31) := ⟨_, rfl⟩
  have hBW : Hid (Below w.heap.size w W) := by rw [hW]; exact (Below.refl _ _).alloc (Nat.le_refl _) _
  rw [← hW]
  clear hW
  refine (HOF.out W hBW.out).mono ?_
  rintro e' w2 ⟨rfl, hb2⟩
  have HB2 : Hid (Below w.heap.size w w2) := hBW.out.trans (hb2.mono hBW.out.size)
  clear hb2
  go_wp2
  go_ret3
  exact ⟨rfl, HB2.out⟩

theorem drewN_more {w wr : World} (h : ∃ q, wr = w.drewN q) (m : Nat) : ∃ q, wr.drewN m = w.drewN q := by
  obtain ⟨q, rfl⟩ := h
  exact ⟨q + m, World.drewN_drewN _ _ _⟩
theorem drewN_below {w wr : World} (h : ∃ q, wr = w.drewN q) (B : Nat) : Below B w wr := by
  obtain ⟨q, rfl⟩ := h
  exact ⟨rfl, rfl, rfl, Nat.le_refl _, fun _ _ => rfl⟩
/-- What Nearest hands back of a station of the line. -/
def NrP (f : Nat → Int) (st : Int) (n : Nat) (w : World) (e : Ending) (w' : World) : Prop :=
  ((n = 1 ∧ e = .returned (.tuple #[.int .i64 0, .int .i64 0, .int .i64 5])) ∨ (∃ k : Nat, 1 ≤ k ∧ k < n ∧ Near f st n k ∧ e = .returned (.tuple #[.int .i64 k, .int .i64 (st - endS f k), .int .i64 0]))) ∧ Below w.heap.size w w'

set_option maxRecDepth 8000 in
set_option maxHeartbeats 3200000 in
theorem rnearest_yes (a za la : Option Addr) (n c zn zc ln lc : Nat) (f : Nat → Int) (st : Int) (hn : 1 ≤ n ∧ n ≤ 70) (hv : ∀ i, i < n → itAt f i = 0) (hst : 0 ≤ st ∧ st < endS f n) (w : World) (hS : Sl w 7 a n f) :
    Calls Tryd.prog 24 #[.agg #[.slice a n c, .slice za zn zc, .slice la ln lc], .int .i64 st] w (NrP f st n w) := by
  have HOF : Hid (∀ W', Below w.heap.size w W' → Calls Tryd.prog 67 #[.agg #[.slice a n c, .slice za zn zc, .slice la ln lc], .int .i64 st] W' fun e W3 => e = .returned (.bool true) ∧ Below W'.heap.size W' W3) := fun W' hb => by
    have := rof_of a za la n c zn zc ln lc f st hn.2 hv W' (hS.keep (by omega) hb)
    rwa [decide_eq_true hst] at this
  have HST : Hid (∀ W', Below w.heap.size w W' → Calls Tryd.prog 21 #[.agg #[.slice a n c, .slice za zn zc, .slice la ln lc]] W' fun e W3 => (∃ v, e = .returned v ∧ W3.ownsRow W'.heap.size 3 1 v (n + 1) (irow (endS f) (n + 1))) ∧ Below W'.heap.size W' W3) :=
    fun W' hb => rstarts_of a za la n c zn zc ln lc f hn.2 hv W' (hS.keep (by omega) hb)
  have HV := Lib.hid hv
  clear hS hv
  go_enter Tryd.func24, Tryd.ntmps24
  go_wp2_with fail
  obtain ⟨W, hW⟩ : ∃ W, W = w.alloc (.cells #[.slice a n c, .slice za zn zc, .slice la ln lc] 31) := ⟨_, rfl⟩
  have hBW : Hid (Below w.heap.size w W) := by rw [hW]; exact (Below.refl _ _).alloc (Nat.le_refl _) _
  have HX : Hid (W.cell? ⟨w.heap.size, 0, none⟩ = some (.slice a n c) ∧ W.cell? ⟨w.heap.size, 1, none⟩ = some (.slice za zn zc) ∧ W.cell? ⟨w.heap.size, 2, none⟩ = some (.slice la ln lc)) := by
    rw [hW]; exact ⟨by go_simp, by go_simp, by go_simp⟩
  rw [← hW]
  clear hW
  refine (HOF.out W hBW.out).mono ?_
  rintro e' w2 ⟨rfl, hb2⟩
  have HB2 : Hid (Below w.heap.size w w2) := hBW.out.trans (hb2.mono hBW.out.size)
  have HX2 := Lib.hid (three_keep HX.out hb2)
  obtain ⟨x0, x1, x2⟩ := HX2.out
  clear hb2
  go_wp2_with fail
  refine (HST.out w2 HB2.out).mono ?_
  rintro e' w3 ⟨⟨v, rfl, hown⟩, hb3⟩
  have HB3 : Hid (Below w.heap.size w w3) := HB2.out.trans (hb3.mono HB2.out.size)
  have HX3 := Lib.hid (three_keep HX2.out hb3)
  clear hb3 x0 x1 x2
  obtain ⟨g, cap, rfl⟩ := ownsRow_succ hown
  have HO : Hid (∀ k, k ≤ n → w3.cell? ⟨g, k, none⟩ = some (.int .i64 (endS f k))) := fun k hk => by rw [World.ownsRow.cellAt hown k (by omega), irow_at _ (by omega)]
  clear hown
  go_wp2
  go_loopw [8, 9] (fun vb vi wr => ∃ i j : Nat, (1 ≤ i ∧ i ≤ n) ∧ vi = .int .i64 i ∧ vb = .int .i64 j ∧ ((i = 1 ∧ j = 0) ∨ (2 ≤ i ∧ (1 ≤ j ∧ j < i) ∧ Near f st i j)) ∧ Hid (∃ q, wr = w3.drewN q)) (fun _ vi _ => n - (intOf vi).toNat)
  case atStart => exact ⟨1, 0, ⟨by omega, by omega⟩, rfl, rfl, .inl ⟨rfl, rfl⟩, ⟨0, rfl⟩⟩
  case round =>
    obtain ⟨i, j, hi, rfl, rfl, hcase, HQ⟩ := hrel
    have hbq := drewN_below HQ.out w3.heap.size
    obtain ⟨x0, x1, x2⟩ := three_keep HX3.out hbq
    have HC : Hid (∀ k, k ≤ n → wr.cell? ⟨g, k, none⟩ = some (.int .i64 (endS f k))) := fun k hk => (hbq.cell (p := ⟨g, k, none⟩) (World.block_lt_of_cell? w3 _ (HO.out k hk))).trans (HO.out k hk)
    clear hbq
    by_cases hlt : i < n
    · have hE := endS_le (f := f) (n := n) HV.out
      have hsi := endS_step hn.2 HV.out hlt
      have hb1 : (0 : Int) ≤ (i : Int) := by omega
      have hb2 : (i : Int) < (n : Int) + 1 := by omega
      rcases hcase with ⟨h1, h2⟩ | ⟨h1, h2, hnr⟩
      · subst h1
        subst h2
        go_wp2
        go_quiet (fail)
        go_wp2
        exact ⟨⟨2, 1, ⟨by omega, by omega⟩, rfl, rfl, .inr ⟨by omega, ⟨by omega, by omega⟩, Near.two f st⟩, drewN_more HQ.out _⟩, by simp [intOf]; omega⟩
      · have hsj := endS_step (k := j) hn.2 HV.out (by omega)
        have di := HC.out i (by omega)
        have dj := HC.out j (by omega)
        have hb3 : (0 : Int) ≤ (j : Int) := by omega
        have hb4 : (j : Int) < (n : Int) + 1 := by omega
        have q0 : ((j : Int) == 0) = false := by rw [beq_eq_false_iff_ne]; omega
        have e1 : IntKind.i64.wrap (st - endS f i) = st - endS f i := IntWalk.i64_in _ (by omega)
        have e2 : IntKind.i64.wrap (st - endS f j) = st - endS f j := IntWalk.i64_in _ (by omega)
        by_cases hl : max (st - endS f i) (-(st - endS f i)) < max (st - endS f j) (-(st - endS f j))
        · have HN2 := Lib.hid (hnr.succ_lt hl)
          have ql : decide (max (st - endS f i) (-(st - endS f i)) < max (st - endS f j) (-(st - endS f j))) = true := by simpa using hl
          clear hnr hl
          go_wp2
          go_quiet (first | (go_at_call 68; exact Calls.quiet_of_same (rfar_of _ _ (by omega))))
          go_wp2
          exact ⟨⟨i + 1, i, ⟨by omega, by omega⟩, by go_num, rfl, .inr ⟨by omega, ⟨by omega, by omega⟩, HN2.out⟩, drewN_more HQ.out _⟩, by simp [intOf]; omega⟩
        · have HN2 := Lib.hid (hnr.succ_ge hl)
          have ql : decide (max (st - endS f i) (-(st - endS f i)) < max (st - endS f j) (-(st - endS f j))) = false := by simpa using hl
          clear hnr hl
          go_wp2
          go_quiet (first | (go_at_call 68; exact Calls.quiet_of_same (rfar_of _ _ (by omega))))
          go_wp2
          exact ⟨⟨i + 1, j, ⟨by omega, by omega⟩, by go_num, rfl, .inr ⟨by omega, ⟨by omega, by omega⟩, HN2.out⟩, drewN_more HQ.out _⟩, by simp [intOf]; omega⟩
    · obtain rfl : i = n := by omega
      have hE := endS_le (f := f) (n := i) HV.out
      rcases hcase with ⟨h1, h2⟩ | ⟨h1, h2, hnr⟩
      · subst h1
        subst h2
        go_wp2
        go_ret3
        exact ⟨.inl ⟨rfl, rfl⟩, HB3.out.trans (drewN_below HQ.out _)⟩
      · have hsj := endS_step (k := j) hn.2 HV.out (by omega)
        have dj := HC.out j (by omega)
        have hb3 : (0 : Int) ≤ (j : Int) := by omega
        have hb4 : (j : Int) < (i : Int) + 1 := by omega
        have q0 : ((j : Int) == 0) = false := by rw [beq_eq_false_iff_ne]; omega
        have e2 : IntKind.i64.wrap (st - endS f j) = st - endS f j := IntWalk.i64_in _ (by omega)
        have HN2 := Lib.hid hnr
        clear hnr
        go_wp2
        go_quiet (fail)
        go_wp2
        go_ret3
        exact ⟨.inr ⟨j, h2.1, h2.2, HN2.out, rfl⟩, HB3.out.trans (drewN_below (drewN_more HQ.out _) _)⟩

/-- What Within hands back. -/
def WiP (f : Nat → Int) (n : Nat) (st to : Int) (w : World) (e : Ending) (w' : World) : Prop :=
  ((¬((0 ≤ st ∧ st < endS f n) ∧ (0 ≤ to ∧ to < endS f n)) ∧ e = .returned (.tuple #[.int .i64 0, .int .i64 0, .int .i64 1])) ∨
   (((0 ≤ st ∧ st < endS f n) ∧ (0 ≤ to ∧ to < endS f n)) ∧ to < st ∧ e = .returned (.tuple #[.int .i64 0, .int .i64 0, .int .i64 7])) ∨
   (((0 ≤ st ∧ st < endS f n) ∧ (0 ≤ to ∧ to < endS f n)) ∧ st ≤ to ∧ ∃ i j : Nat, (i < n ∧ endS f i ≤ st ∧ st < endS f (i + 1)) ∧ (j < n ∧ endS f j ≤ to ∧ to < endS f (j + 1)) ∧ e = .returned (.tuple #[.int .i64 i, .int .i64 j, .int .i64 0]))) ∧ Below w.heap.size w w'

set_option maxRecDepth 8000 in
set_option maxHeartbeats 3200000 in
theorem rwithin_of (a za la : Option Addr) (n c zn zc ln lc : Nat) (f : Nat → Int) (st to : Int) (hn : n ≤ 70) (hv : ∀ i, i < n → itAt f i = 0) (w : World) (hS : Sl w 7 a n f) :
    Calls Tryd.prog 25 #[.agg #[.slice a n c, .slice za zn zc, .slice la ln lc], .int .i64 st, .int .i64 to] w (WiP f n st to w) := by
  have HOF : Hid (∀ W' s, Below w.heap.size w W' → Calls Tryd.prog 67 #[.agg #[.slice a n c, .slice za zn zc, .slice la ln lc], .int .i64 s] W' fun e W3 => e = .returned (.bool (decide (0 ≤ s ∧ s < endS f n))) ∧ Below W'.heap.size W' W3) := fun W' s hb =>
    rof_of a za la n c zn zc ln lc f s hn hv W' (hS.keep (by omega) hb)
  have HAT : Hid (∀ W' s, Below w.heap.size w W' → (0 ≤ s ∧ s < endS f n) → Calls Tryd.prog 22 #[.agg #[.slice a n c, .slice za zn zc, .slice la ln lc], .int .i64 s] W' fun e W3 => (∃ i : Nat, i < n ∧ endS f i ≤ s ∧ s < endS f (i + 1) ∧ e = .returned (.tuple #[.int .i64 i, .int .i64 (s - endS f i), .int .i64 0])) ∧ Below W'.heap.size W' W3) := fun W' s hb hs =>
    rat_yes a za la n c zn zc ln lc f s hn hv hs W' (hS.keep (by omega) hb)
  clear hS hv
  obtain ⟨b1, h1⟩ : ∃ b, b = decide (0 ≤ st ∧ st < endS f n) := ⟨_, rfl⟩
  obtain ⟨b2, h2⟩ : ∃ b, b = decide (0 ≤ to ∧ to < endS f n) := ⟨_, rfl⟩
  have H1 := Lib.hid h1
  have H2 := Lib.hid h2
  have HC1 : Hid (∀ W', Below w.heap.size w W' → Calls Tryd.prog 67 #[.agg #[.slice a n c, .slice za zn zc, .slice la ln lc], .int .i64 st] W' fun e W3 => e = .returned (.bool b1) ∧ Below W'.heap.size W' W3) := fun W' hb => by rw [h1]; exact HOF.out W' st hb
  have HC2 : Hid (∀ W', Below w.heap.size w W' → Calls Tryd.prog 67 #[.agg #[.slice a n c, .slice za zn zc, .slice la ln lc], .int .i64 to] W' fun e W3 => e = .returned (.bool b2) ∧ Below W'.heap.size W' W3) := fun W' hb => by rw [h2]; exact HOF.out W' to hb
  clear h1 h2 HOF
  obtain ⟨W, hW⟩ : ∃ W, W = w.alloc (.cells #[.slice a n c, .slice za zn zc, .slice la ln lc] 31) := ⟨_, rfl⟩
  have hBW : Hid (Below w.heap.size w W) := by rw [hW]; exact (Below.refl _ _).alloc (Nat.le_refl _) _
  have HX : Hid (W.cell? ⟨w.heap.size, 0, none⟩ = some (.slice a n c) ∧ W.cell? ⟨w.heap.size, 1, none⟩ = some (.slice za zn zc) ∧ W.cell? ⟨w.heap.size, 2, none⟩ = some (.slice la ln lc)) := by
    rw [hW]; exact ⟨by go_simp, by go_simp, by go_simp⟩
  have HW := Lib.hid hW
  clear hW
  cases b1
  · go_enter Tryd.func25, Tryd.ntmps25
    go_wp2_with fail
    rw [← HW.out]
    refine (HC1.out W hBW.out).mono ?_
    rintro e' w2 ⟨rfl, hb2⟩
    have HB2 : Hid (Below w.heap.size w w2) := hBW.out.trans (hb2.mono hBW.out.size)
    clear hb2
    go_wp2
    go_ret3
    have := of_decide_eq_false H1.out.symm
    exact ⟨.inl ⟨fun h => this h.1, rfl⟩, HB2.out⟩
  · cases b2
    · go_enter Tryd.func25, Tryd.ntmps25
      go_wp2_with fail
      rw [← HW.out]
      refine (HC1.out W hBW.out).mono ?_
      rintro e' w2 ⟨rfl, hb2⟩
      have HB2 : Hid (Below w.heap.size w w2) := hBW.out.trans (hb2.mono hBW.out.size)
      obtain ⟨x0, x1, x2⟩ := three_keep HX.out hb2
      clear hb2
      go_wp2_with fail
      refine (HC2.out w2 HB2.out).mono ?_
      rintro e' w3 ⟨rfl, hb3⟩
      have HB3 : Hid (Below w.heap.size w w3) := HB2.out.trans (hb3.mono HB2.out.size)
      clear hb3 x0 x1 x2
      go_wp2
      go_ret3
      have := of_decide_eq_false H2.out.symm
      exact ⟨.inl ⟨fun h => this h.2, rfl⟩, HB3.out⟩
    · have h1 := of_decide_eq_true H1.out.symm
      have h2 := of_decide_eq_true H2.out.symm
      by_cases hle : to < st
      · have q : decide (to < st) = true := by simpa using hle
        go_enter Tryd.func25, Tryd.ntmps25
        go_wp2_with fail
        rw [← HW.out]
        refine (HC1.out W hBW.out).mono ?_
        rintro e' w2 ⟨rfl, hb2⟩
        have HB2 : Hid (Below w.heap.size w w2) := hBW.out.trans (hb2.mono hBW.out.size)
        obtain ⟨x0, x1, x2⟩ := three_keep HX.out hb2
        clear hb2
        go_wp2_with fail
        refine (HC2.out w2 HB2.out).mono ?_
        rintro e' w3 ⟨rfl, hb3⟩
        have HB3 : Hid (Below w.heap.size w w3) := HB2.out.trans (hb3.mono HB2.out.size)
        clear hb3 x0 x1 x2
        go_wp2
        go_ret3
        exact ⟨.inr (.inl ⟨⟨h1, h2⟩, hle, rfl⟩), HB3.out⟩
      · have q : decide (to < st) = false := by simpa using hle
        go_enter Tryd.func25, Tryd.ntmps25
        go_wp2_with fail
        rw [← HW.out]
        refine (HC1.out W hBW.out).mono ?_
        rintro e' w2 ⟨rfl, hb2⟩
        have HB2 : Hid (Below w.heap.size w w2) := hBW.out.trans (hb2.mono hBW.out.size)
        have HX2 := Lib.hid (three_keep HX.out hb2)
        obtain ⟨x0, x1, x2⟩ := HX2.out
        clear hb2
        go_wp2_with fail
        refine (HC2.out w2 HB2.out).mono ?_
        rintro e' w3 ⟨rfl, hb3⟩
        have HB3 : Hid (Below w.heap.size w w3) := HB2.out.trans (hb3.mono HB2.out.size)
        have HX3 := Lib.hid (three_keep HX2.out hb3)
        clear hb3 x0 x1 x2
        obtain ⟨x0, x1, x2⟩ := HX3.out
        go_wp2_with fail
        refine (HAT.out w3 st HB3.out h1).mono ?_
        rintro e' w4 ⟨⟨i, hi1, hi2, hi3, rfl⟩, hb4⟩
        have HB4 : Hid (Below w.heap.size w w4) := HB3.out.trans (hb4.mono HB3.out.size)
        have HX4 := Lib.hid (three_keep HX3.out hb4)
        clear hb4 x0 x1 x2
        obtain ⟨x0, x1, x2⟩ := HX4.out
        go_wp2_with fail
        refine (HAT.out w4 to HB4.out h2).mono ?_
        rintro e' w5 ⟨⟨j, hj1, hj2, hj3, rfl⟩, hb5⟩
        have HB5 : Hid (Below w.heap.size w w5) := HB4.out.trans (hb5.mono HB4.out.size)
        clear hb5 x0 x1 x2
        go_wp2
        go_ret3
        exact ⟨.inr (.inr ⟨⟨h1, h2⟩, by omega, i, j, ⟨hi1, hi2, hi3⟩, ⟨hj1, hj2, hj3⟩, rfl⟩), HB5.out⟩
end Go.Proofs.YtbpifllkimkokaaDoor
