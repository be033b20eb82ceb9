/-
  WALKS: the program's stations in general: their errors, too.
-/
import Derived.Test.YtbpifllkimkokaaDoorLpC
import Derived.Test.YtbpifllkimkokaaDoorLoF
import Derived.StillTailTactics
import Derived.LoopN
namespace Go.Proofs.YtbpifllkimkokaaDoor
open Go.RowKit Go.Shelf

/-- The error of a station: E: that of the line, B: whether the station is of the line. -/
def stE (E : Int) (B : Bool) : Int := if E ≠ 0 then E else if B = true then 0 else 1
theorem stE_bad {E : Int} {B : Bool} (h : E ≠ 0) : stE E B = E := by simp [stE, h]
theorem stE_yes : stE 0 true = 0 := rfl
theorem stE_no : stE 0 false = 1 := rfl

set_option maxRecDepth 8000 in
set_option maxHeartbeats 3200000 in
theorem checkStationAll_of (w : World) (a za la : Option Addr) (n c nz zc nl lc : Nat) (f z m : Nat → Int) (st : Int) (hS : Sl w 7 a n f) (hZ : Sl w 3 za nz z) (hL : Sl w 2 la nl m) :
    Calls Tryd.prog 59 #[.agg #[.slice a n c, .slice za nz zc, .slice la nl lc], .int .i64 st] w fun e' w' => e' = .returned (.int .i64 (stE (chk n nz nl f z m) (decide (0 ≤ st ∧ st < endS f n)))) ∧ Below w.heap.size w w' := by
  by_cases h : chk n nz nl f z m = 0
  · by_cases hst : 0 ≤ st ∧ st < endS f n
    · rw [h, decide_eq_true hst, stE_yes]
      exact checkStation_of w a za la n c nz zc nl lc f z m st hst h hS hZ hL
    · rw [h, decide_eq_false hst, stE_no]
      have HCK : Hid (∀ w', Below w.heap.size w w' → Calls Tryd.prog 56 #[.agg #[.slice a n c, .slice za nz zc, .slice la nl lc]] w' fun e' w2 => e' = .returned (.int .i64 0) ∧ Below w'.heap.size w' w2) :=
        fun w' hb => by
          have := check_of w' a za la n c nz zc nl lc f z m (hS.keep (by omega) hb) (hZ.keep (by omega) hb) (hL.keep (by omega) hb)
          rwa [h] at this
      have hok := chk_ok h
      have HV : Hid (∀ i, i < n → itAt f i = 0) := hok.2.2.2.1
      have hn : n ≤ 64 := hok.1.2
      have HEN : Hid (∀ W', Below w.heap.size w W' → Calls Tryd.prog 58 #[.agg #[.slice a n c, .slice za nz zc, .slice la nl lc]] W' fun e W3 => e = .returned (.int .i64 (endS f n)) ∧ Below W'.heap.size W' W3) :=
        fun W' hb => endOf_of a za la n c nz zc nl lc f (by omega) HV.out W' (hS.keep (by omega) hb)
      have hE := endS_le (f := f) (n := n) HV.out
      have hw1 : IntKind.i64.wrap (endS f n - 1) = endS f n - 1 := IntWalk.i64_in _ (by omega)
      have HBT : Hid (false = decide (0 ≤ st ∧ st ≤ endS f n - 1)) := by show false = _; symm; rw [decide_eq_false_iff_not]; omega
      clear hok h hS hZ hL hst
      go_enter Tryd.func59, Tryd.ntmps59
      go_wp2_with fail
      obtain ⟨W, hW⟩ : ∃ W, W = w.alloc (.cells #[.slice a n c, .slice za nz zc, .slice la nl lc] 26) := ⟨_, rfl⟩
      have hBW : Hid (Below w.heap.size w W) := by rw [hW]; exact (Below.refl _ _).alloc (Nat.le_refl _) _
      have HX : Hid (W.cell? ⟨w.heap.size, 0, none⟩ = some (.slice a n c) ∧ W.cell? ⟨w.heap.size, 1, none⟩ = some (.slice za nz zc) ∧ W.cell? ⟨w.heap.size, 2, none⟩ = some (.slice la nl lc)) := by
        rw [hW]; exact ⟨by go_simp, by go_simp, by go_simp⟩
      rw [← hW]
      clear hW
      refine (HCK.out W hBW.out).mono ?_
      rintro e' w2 ⟨rfl, hb2⟩
      have HB2 : Hid (Below w.heap.size w w2) := hBW.out.trans (hb2.mono hBW.out.size)
      obtain ⟨x0, x1, x2⟩ := three_keep HX.out hb2
      clear hb2
      go_wp2_with fail
      refine (HEN.out w2 HB2.out).mono ?_
      rintro e' w3 ⟨rfl, hb3⟩
      have HB3 : Hid (Below w.heap.size w w3) := HB2.out.trans (hb3.mono HB2.out.size)
      clear hb3 x0 x1 x2
      go_wp2_with (go_at_call 62; refine (betw false _ _ _ _ HBT.out).mono ?_; rintro e' w' ⟨rfl, rfl⟩)
      go_ret
      exact ⟨rfl, HB3.out⟩
  · rw [stE_bad h]
    have HCK : Hid (∀ w', Below w.heap.size w w' → Calls Tryd.prog 56 #[.agg #[.slice a n c, .slice za nz zc, .slice la nl lc]] w' fun e' w2 => e' = .returned (.int .i64 (chk n nz nl f z m)) ∧ Below w'.heap.size w' w2) :=
      fun w' hb => check_of w' a za la n c nz zc nl lc f z m (hS.keep (by omega) hb) (hZ.keep (by omega) hb) (hL.keep (by omega) hb)
    clear hS hZ hL
    generalize chk n nz nl f z m = E at HCK h ⊢
    have e2 : (E == 0) = false := by simpa using h
    have e3 : (E != 0) = true := by simpa using h
    clear h
    go_enter Tryd.func59, Tryd.ntmps59
    go_wp2_with fail
    obtain ⟨W, hW⟩ : ∃ W, W = w.alloc (.cells #[.slice a n c, .slice za nz zc, .slice la nl lc] 26) := ⟨_, rfl⟩
    have hBW : Hid (Below w.heap.size w W) := by rw [hW]; exact (Below.refl _ _).alloc (Nat.le_refl _) _
    rw [← hW]
    clear hW
    refine (HCK.out W hBW.out).mono ?_
    rintro e' w2 ⟨rfl, hb2⟩
    have HB2 : Hid (Below w.heap.size w w2) := hBW.out.trans (hb2.mono hBW.out.size)
    clear hb2
    go_wp2
    go_ret
    exact ⟨rfl, HB2.out⟩

set_option maxRecDepth 8000 in
set_option maxHeartbeats 3200000 in
/-- At with an error. -/
theorem at_no (w : World) (l0 : Value) (st v : Int) (x0 x1 x2 : Value) (hl : l0 = .agg #[x0, x1, x2]) (hv : v ≠ 0)
    (hC : ∀ w', Below w.heap.size w w' → Calls Tryd.prog 59 #[l0, .int .i64 st] w' fun e' w2 => e' = .returned (.int .i64 v) ∧ Below w'.heap.size w' w2) :
    Calls Tryd.prog 15 #[l0, .int .i64 st] w fun e' w' => e' = .returned (.tuple #[.int .i64 0, .int .i64 0, .int .i64 v]) ∧ Below w.heap.size w w' := by
  subst hl
  have HC := Lib.hid hC
  have e2 : (v == 0) = false := by simpa using hv
  have e3 : (v != 0) = true := by simpa using hv
  clear hC hv
  go_enter Tryd.func15, Tryd.ntmps15
  go_wp2_with fail
  obtain ⟨W, hW⟩ : ∃ W, W = w.alloc (.cells #[x0, x1, x2] 26) := ⟨_, rfl⟩
  have hBW : Hid (Below w.heap.size w W) := by rw [hW]; exact (Below.refl _ _).alloc (Nat.le_refl _) _
  rw [← hW]
  clear hW
  refine (HC.out W hBW.out).mono ?_
  rintro e' w2 ⟨rfl, hb2⟩
  have HB2 : Hid (Below w.heap.size w w2) := hBW.out.trans (hb2.mono hBW.out.size)
  clear hb2
  go_wp2
  go_ret3
  exact ⟨rfl, HB2.out⟩

set_option maxRecDepth 8000 in
set_option maxHeartbeats 3200000 in
/-- Nearest with an error of the station. -/
theorem nearest_no (w : World) (l0 : Value) (st v : Int) (x0 x1 x2 : Value) (hl : l0 = .agg #[x0, x1, x2]) (hv : v ≠ 0)
    (hC : ∀ w', Below w.heap.size w w' → Calls Tryd.prog 59 #[l0, .int .i64 st] w' fun e' w2 => e' = .returned (.int .i64 v) ∧ Below w'.heap.size w' w2) :
    Calls Tryd.prog 17 #[l0, .int .i64 st] w fun e' w' => e' = .returned (.tuple #[.int .i64 0, .int .i64 0, .int .i64 v]) ∧ Below w.heap.size w w' := by
  subst hl
  have HC := Lib.hid hC
  have e2 : (v == 0) = false := by simpa using hv
  have e3 : (v != 0) = true := by simpa using hv
  clear hC hv
  go_enter Tryd.func17, Tryd.ntmps17
  go_wp2_with fail
  obtain ⟨W, hW⟩ : ∃ W, W = (((w.alloc (.cells #[x0, x1, x2] 26)).alloc (.cells #[.int .i64 st] 3)).alloc (.cells #[.int .i64 0] 3)).alloc (.cells #[.int .i64 0] 3) := ⟨_, rfl⟩
  have hBW : Hid (Below w.heap.size w W) := by rw [hW]; exact ((((Below.refl _ w).alloc (Nat.le_refl _) _).alloc (by simp) _).alloc (by simp; omega) _).alloc (by simp; omega) _
  have HY : Hid (Boxed W (w.heap.size + 1 + 1) 3 (.int .i64 0) ∧ Boxed W (w.heap.size + 1 + 1 + 1) 3 (.int .i64 0)) := by
    have q2 := (Boxed.new ((w.alloc (.cells #[x0, x1, x2] 26)).alloc (.cells #[.int .i64 st] 3)) 3 (.int .i64 0)).alloc (.cells #[.int .i64 0] 3)
    have q3 := Boxed.new (((w.alloc (.cells #[x0, x1, x2] 26)).alloc (.cells #[.int .i64 st] 3)).alloc (.cells #[.int .i64 0] 3)) 3 (.int .i64 0)
    simp only [World.size_alloc] at q2 q3
    rw [hW]; exact ⟨q2, q3⟩
  rw [← hW]
  clear hW
  refine (HC.out W hBW.out).mono ?_
  rintro e' w2 ⟨rfl, hb2⟩
  have HB2 : Hid (Below w.heap.size w w2) := hBW.out.trans (hb2.mono hBW.out.size)
  have b2 : Boxed w2 (w.heap.size + 1 + 1) 3 (.int .i64 0) := (hb2.block _ HY.out.1.lt).trans HY.out.1
  have b3 : Boxed w2 (w.heap.size + 1 + 1 + 1) 3 (.int .i64 0) := (hb2.block _ HY.out.2.lt).trans HY.out.2
  have cA := b2.cell
  have cB := b3.cell
  have fA := b2.frozen
  have fB := b3.frozen
  clear hb2
  go_wp2_with fail
  have q := two_set (.int .i64 0) (.int .i64 0) b2 b3 (by omega)
  have hc4 := q.1.cell
  have hc5 := q.2.cell
  have hB2 := (HB2.out.setCell (p := ⟨w.heap.size + 1 + 1, 0, none⟩) (show w.heap.size ≤ w.heap.size + 1 + 1 by omega) (.int .i64 0)).setCell (p := ⟨w.heap.size + 1 + 1 + 1, 0, none⟩) (show w.heap.size ≤ w.heap.size + 1 + 1 + 1 by omega) (.int .i64 0)
  refine bodyPost_ret (v := .tuple #[.int .i64 0, .int .i64 0, .int .i64 v]) ?_ rfl ⟨rfl, hB2⟩
  simp [results, Tryd.f17, go_sem, hc4, hc5]

set_option maxRecDepth 8000 in
set_option maxHeartbeats 3200000 in
/-- Station with an error of the line. -/
theorem station_bad (w : World) (l0 : Value) (I o v : Int) (x0 x1 x2 : Value) (hl : l0 = .agg #[x0, x1, x2]) (hv : v ≠ 0)
    (hC : ∀ w', Below w.heap.size w w' → Calls Tryd.prog 56 #[l0] w' fun e' w2 => e' = .returned (.int .i64 v) ∧ Below w'.heap.size w' w2) :
    Calls Tryd.prog 16 #[l0, .int .i64 I, .int .i64 o] w fun e' w' => e' = .returned (.tuple #[.int .i64 0, .int .i64 v]) ∧ Below w.heap.size w w' := by
  subst hl
  have HC := Lib.hid hC
  have e2 : (v == 0) = false := by simpa using hv
  have e3 : (v != 0) = true := by simpa using hv
  clear hC hv
  go_enter Tryd.func16, Tryd.ntmps16
  go_wp2_with fail
  obtain ⟨W, hW⟩ : ∃ W, W = ((((w.alloc (.cells #[x0, x1, x2] 26)).alloc (.cells #[.int .i64 I] 3)).alloc (.cells #[.int .i64 o] 3)).alloc (.cells #[.int .i64 0] 3)).alloc (.cells #[.int .i64 0] 36) := ⟨_, rfl⟩
  have hBW : Hid (Below w.heap.size w W) := by rw [hW]; exact (((((Below.refl _ w).alloc (Nat.le_refl _) _).alloc (by simp) _).alloc (by simp; omega) _).alloc (by simp; omega) _).alloc (by simp; omega) _
  have HY : Hid (Boxed W (w.heap.size + 1 + 1 + 1) 3 (.int .i64 0) ∧ Boxed W (w.heap.size + 1 + 1 + 1 + 1) 36 (.int .i64 0)) := by
    have q3 := (Boxed.new (((w.alloc (.cells #[x0, x1, x2] 26)).alloc (.cells #[.int .i64 I] 3)).alloc (.cells #[.int .i64 o] 3)) 3 (.int .i64 0)).alloc (.cells #[.int .i64 0] 36)
    have q4 := Boxed.new ((((w.alloc (.cells #[x0, x1, x2] 26)).alloc (.cells #[.int .i64 I] 3)).alloc (.cells #[.int .i64 o] 3)).alloc (.cells #[.int .i64 0] 3)) 36 (.int .i64 0)
    simp only [World.size_alloc] at q3 q4
    rw [hW]; exact ⟨q3, q4⟩
  rw [← hW]
  clear hW
  refine (HC.out W hBW.out).mono ?_
  rintro e' w2 ⟨rfl, hb2⟩
  have HB2 : Hid (Below w.heap.size w w2) := hBW.out.trans (hb2.mono hBW.out.size)
  have b2 : Boxed w2 (w.heap.size + 1 + 1 + 1) 3 (.int .i64 0) := (hb2.block _ HY.out.1.lt).trans HY.out.1
  have b3 : Boxed w2 (w.heap.size + 1 + 1 + 1 + 1) 36 (.int .i64 0) := (hb2.block _ HY.out.2.lt).trans HY.out.2
  have cA := b2.cell
  have cB := b3.cell
  have fA := b2.frozen
  have fB := b3.frozen
  clear hb2
  go_wp2_with fail
  have q1 := b2.set (.int .i64 0)
  have hc4 := (q1.other (by omega : w.heap.size + 1 + 1 + 1 ≠ w.heap.size + 1 + 1 + 1 + 1) (.int .i64 v)).cell
  have hc5 := ((b3.other (by omega : w.heap.size + 1 + 1 + 1 + 1 ≠ w.heap.size + 1 + 1 + 1) (.int .i64 0)).set (.int .i64 v)).cell
  have hB2 := (HB2.out.setCell (p := ⟨w.heap.size + 1 + 1 + 1, 0, none⟩) (show w.heap.size ≤ w.heap.size + 1 + 1 + 1 by omega) (.int .i64 0)).setCell (p := ⟨w.heap.size + 1 + 1 + 1 + 1, 0, none⟩) (show w.heap.size ≤ w.heap.size + 1 + 1 + 1 + 1 by omega) (.int .i64 v)
  refine bodyPost_ret (v := .tuple #[.int .i64 0, .int .i64 v]) ?_ rfl ⟨rfl, hB2⟩
  simp [results, Tryd.f16, go_sem, hc4, hc5]

/-- What Within hands back of any line: E: the line's error. -/
def LwP (E : Int) (f : Nat → Int) (n : Nat) (st to : Int) (w : World) (e : Ending) (w' : World) : Prop :=
  (E ≠ 0 ∧ e = .returned (.tuple #[.int .i64 0, .int .i64 0, .int .i64 E]) ∧ Below w.heap.size w w') ∨ (E = 0 ∧ WiP f n st to w e w')

set_option maxRecDepth 8000 in
set_option maxHeartbeats 3200000 in
/-- Within, of any line and stations. -/
theorem lwithin_of (w : World) (a za la : Option Addr) (n c nz zc nl lc : Nat) (f z m : Nat → Int) (st to : Int) (hS : Sl w 7 a n f) (hZ : Sl w 3 za nz z) (hL : Sl w 2 la nl m) :
    Calls Tryd.prog 18 #[.agg #[.slice a n c, .slice za nz zc, .slice la nl lc], .int .i64 st, .int .i64 to] w (LwP (chk n nz nl f z m) f n st to w) := by
  have HCS : Hid (∀ w' s, Below w.heap.size w w' → Calls Tryd.prog 59 #[.agg #[.slice a n c, .slice za nz zc, .slice la nl lc], .int .i64 s] w' fun e' w2 => e' = .returned (.int .i64 (stE (chk n nz nl f z m) (decide (0 ≤ s ∧ s < endS f n)))) ∧ Below w'.heap.size w' w2) :=
    fun w' s hb => checkStationAll_of w' a za la n c nz zc nl lc f z m s (hS.keep (by omega) hb) (hZ.keep (by omega) hb) (hL.keep (by omega) hb)
  have HIA : Hid (chk n nz nl f z m = 0 → ∀ w' s, Below w.heap.size w w' → (0 ≤ s ∧ s < endS f n) → Calls Tryd.prog 60 #[.agg #[.slice a n c, .slice za nz zc, .slice la nl lc], .int .i64 s] w' fun e W' => (∃ i : Nat, i < n ∧ endS f i ≤ s ∧ s < endS f (i + 1) ∧ e = .returned (.tuple #[.int .i64 i, .int .i64 (s - endS f i)])) ∧ Below w'.heap.size w' W') :=
    fun h w' s hb hs => itemAt_of a za la n c nz zc nl lc f s (by have := (chk_ok h).1.2; omega) (chk_ok h).2.2.2.1 hs w' (hS.keep (by omega) hb)
  clear hS hZ hL
  generalize chk n nz nl f z m = E at HCS HIA ⊢
  obtain ⟨v1, h1⟩ : ∃ v, v = stE E (decide (0 ≤ st ∧ st < endS f n)) := ⟨_, rfl⟩
  obtain ⟨v2, h2⟩ : ∃ v, v = stE E (decide (0 ≤ to ∧ to < endS f n)) := ⟨_, rfl⟩
  have HC1 : Hid (∀ w', Below w.heap.size w w' → Calls Tryd.prog 59 #[.agg #[.slice a n c, .slice za nz zc, .slice la nl lc], .int .i64 st] w' fun e' w2 => e' = .returned (.int .i64 v1) ∧ Below w'.heap.size w' w2) := fun w' hb => by rw [h1]; exact HCS.out w' st hb
  have HC2 : Hid (∀ w', Below w.heap.size w w' → Calls Tryd.prog 59 #[.agg #[.slice a n c, .slice za nz zc, .slice la nl lc], .int .i64 to] w' fun e' w2 => e' = .returned (.int .i64 v2) ∧ Below w'.heap.size w' w2) := fun w' hb => by rw [h2]; exact HCS.out w' to hb
  have H1 := Lib.hid h1
  have H2 := Lib.hid h2
  clear h1 h2 HCS
  have i0 : ∀ w, (Instr.index 122 (.agg #[.int .i64 st, .int .i64 to]) (.int .i64 0)).run Tryd.prog w = .ok (.int .i64 st) w := fun _ => by kernel_rfl
  have i1 : ∀ w, (Instr.index 122 (.agg #[.int .i64 st, .int .i64 to]) (.int .i64 1)).run Tryd.prog w = .ok (.int .i64 to) w := fun _ => by kernel_rfl
  obtain ⟨W, hW⟩ : ∃ W, W = w.alloc (.cells #[.slice a n c, .slice za nz zc, .slice la nl lc] 26) := ⟨_, rfl⟩
  have hBW : Hid (Below w.heap.size w W) := by rw [hW]; exact (Below.refl _ _).alloc (Nat.le_refl _) _
  have HX : Hid (W.cell? ⟨w.heap.size, 0, none⟩ = some (.slice a n c) ∧ W.cell? ⟨w.heap.size, 1, none⟩ = some (.slice za nz zc) ∧ W.cell? ⟨w.heap.size, 2, none⟩ = some (.slice la nl lc)) := by
    rw [hW]; exact ⟨by go_simp, by go_simp, by go_simp⟩
  have HW := Lib.hid hW
  clear hW
  go_enter Tryd.func18, Tryd.ntmps18
  go_wp2_with fail
  rw [← HW.out]
  by_cases hv1 : v1 = 0
  · subst hv1
    by_cases hv2 : v2 = 0
    · subst hv2
      have hE : E = 0 := by
        have := H1.out; unfold stE at this; split at this
        · exact this.symm
        · omega
      subst hE
      have hb1 : 0 ≤ st ∧ st < endS f n := by
        have := H1.out
        by_cases h : 0 ≤ st ∧ st < endS f n
        · exact h
        · rw [decide_eq_false h, stE_no] at this; cases this
      have hb2 : 0 ≤ to ∧ to < endS f n := by
        have := H2.out
        by_cases h : 0 ≤ to ∧ to < endS f n
        · exact h
        · rw [decide_eq_false h, stE_no] at this; cases this
      refine wp_loop_rounds 3 ?_
      rw [rounds_succ]
      obtain ⟨x0, x1, x2⟩ := HX.out
      go_wp2_with fail
      refine (HC1.out W hBW.out).mono ?_
      rintro e' w2 ⟨rfl, hb3⟩
      have HB2 : Hid (Below w.heap.size w w2) := hBW.out.trans (hb3.mono hBW.out.size)
      have HX2 := Lib.hid (three_keep HX.out hb3)
      clear hb3 x0 x1 x2
      obtain ⟨x0, x1, x2⟩ := HX2.out
      go_wp2
      (try simp only [Exit.inBlock, Exit.then])
      rw [rounds_succ]
      go_wp2_with fail
      refine (HC2.out w2 HB2.out).mono ?_
      rintro e' w3 ⟨rfl, hb3⟩
      have HB3 : Hid (Below w.heap.size w w3) := HB2.out.trans (hb3.mono HB2.out.size)
      have HX3 := Lib.hid (three_keep HX2.out hb3)
      clear hb3 x0 x1 x2
      obtain ⟨x0, x1, x2⟩ := HX3.out
      go_wp2
      (try simp only [Exit.inBlock, Exit.then])
      rw [rounds_succ]
      by_cases hle : to < st
      · have q : decide (to < st) = true := by simpa using hle
        go_wp2
        (try simp only [Exit.inBlock, Exit.then])
        go_wp2
        go_ret3
        exact .inr ⟨rfl, ⟨.inr (.inl ⟨⟨hb1, hb2⟩, hle, rfl⟩), HB3.out⟩⟩
      · have q : decide (to < st) = false := by simpa using hle
        go_wp2_with fail
        (try simp only [Exit.inBlock, Exit.then])
        go_wp2_with fail
        refine (HIA.out (by trivial) w3 st HB3.out hb1).mono ?_
        rintro e' w4 ⟨⟨i, hi1, hi2, hi3, rfl⟩, hb4⟩
        have HB4 : Hid (Below w.heap.size w w4) := HB3.out.trans (hb4.mono HB3.out.size)
        have HX4 := Lib.hid (three_keep HX3.out hb4)
        clear hb4 x0 x1 x2
        obtain ⟨x0, x1, x2⟩ := HX4.out
        go_wp2_with fail
        refine (HIA.out (by trivial) w4 to HB4.out hb2).mono ?_
        rintro e' w5 ⟨⟨j, hj1, hj2, hj3, rfl⟩, hb5⟩
        have HB5 : Hid (Below w.heap.size w w5) := HB4.out.trans (hb5.mono HB4.out.size)
        clear hb5 x0 x1 x2
        go_wp2
        go_ret3
        exact .inr ⟨rfl, ⟨.inr (.inr ⟨⟨hb1, hb2⟩, by omega, i, j, ⟨hi1, hi2, hi3⟩, ⟨hj1, hj2, hj3⟩, rfl⟩), HB5.out⟩⟩
    · have hE : E = 0 := by
        have := H1.out; unfold stE at this; split at this
        · exact this.symm
        · omega
      subst hE
      have hb2 : ¬(0 ≤ to ∧ to < endS f n) := fun h => hv2 (by have := H2.out; rw [decide_eq_true h, stE_yes] at this; exact this)
      have hv : v2 = 1 := by have := H2.out; rw [decide_eq_false hb2, stE_no] at this; exact this
      subst hv
      refine wp_loop_rounds 2 ?_
      rw [rounds_succ]
      obtain ⟨x0, x1, x2⟩ := HX.out
      go_wp2_with fail
      refine (HC1.out W hBW.out).mono ?_
      rintro e' w2 ⟨rfl, hb3⟩
      have HB2 : Hid (Below w.heap.size w w2) := hBW.out.trans (hb3.mono hBW.out.size)
      have HX2 := Lib.hid (three_keep HX.out hb3)
      clear hb3 x0 x1 x2
      obtain ⟨x0, x1, x2⟩ := HX2.out
      go_wp2
      (try simp only [Exit.inBlock, Exit.then])
      rw [rounds_succ]
      go_wp2_with fail
      refine (HC2.out w2 HB2.out).mono ?_
      rintro e' w3 ⟨rfl, hb3⟩
      have HB3 : Hid (Below w.heap.size w w3) := HB2.out.trans (hb3.mono HB2.out.size)
      clear hb3 x0 x1 x2
      go_wp2
      (try simp only [Exit.inBlock, Exit.then])
      go_ret3
      exact .inr ⟨rfl, ⟨.inl ⟨fun h => hb2 h.2, rfl⟩, HB3.out⟩⟩
  · have e2 : (v1 == 0) = false := by simpa using hv1
    have e3 : (v1 != 0) = true := by simpa using hv1
    have hfin : (E ≠ 0 ∧ v1 = E) ∨ (E = 0 ∧ ¬(0 ≤ st ∧ st < endS f n) ∧ v1 = 1) := by
      by_cases hE : E = 0
      · subst hE
        have hb : ¬(0 ≤ st ∧ st < endS f n) := fun h => hv1 (by have := H1.out; rw [decide_eq_true h, stE_yes] at this; exact this)
        exact .inr ⟨rfl, hb, by have := H1.out; rw [decide_eq_false hb, stE_no] at this; exact this⟩
      · exact .inl ⟨hE, by have := H1.out; rw [stE_bad hE] at this; exact this⟩
    have HF := Lib.hid hfin
    clear hfin hv1
    refine wp_loop_rounds 1 ?_
    rw [rounds_succ]
    obtain ⟨x0, x1, x2⟩ := HX.out
    go_wp2_with fail
    refine (HC1.out W hBW.out).mono ?_
    rintro e' w2 ⟨rfl, hb3⟩
    have HB2 : Hid (Below w.heap.size w w2) := hBW.out.trans (hb3.mono hBW.out.size)
    clear hb3 x0 x1 x2
    go_wp2
    (try simp only [Exit.inBlock, Exit.then])
    go_ret3
    rcases HF.out with ⟨hE, rfl⟩ | ⟨rfl, hb, rfl⟩
    · exact .inl ⟨hE, rfl, HB2.out⟩
    · exact .inr ⟨rfl, ⟨.inl ⟨fun h => hb h.1, rfl⟩, HB2.out⟩⟩
end Go.Proofs.YtbpifllkimkokaaDoor
