/-
  WALKS: the class and the limit at a station, by the program and by the reference.
-/
import Derived.Test.YtbpifllkimkokaaDoorLpD
import Derived.Deep.QuietTactic
namespace Go.Proofs.YtbpifllkimkokaaDoor
open Go.RowKit

/-- Whether zone j has a station. -/
def inZ (z : Nat → Int) (st : Int) (j : Nat) : Bool := decide (z (j * 3) ≤ st ∧ st ≤ z (j * 3 + 1) - 1)
/-- The class at a station. -/
def clsAt (z : Nat → Int) (nz : Nat) (st : Int) : Int := match (List.range nz).find? (inZ z st) with | some j => z (j * 3 + 2) | none => 1
theorem clsAt_some {z : Nat → Int} {nz j : Nat} {st : Int} (hj : j < nz) (h : ∀ k, k < j → inZ z st k = false) (hp : inZ z st j = true) : clsAt z nz st = z (j * 3 + 2) := by
  unfold clsAt
  have e : (List.range nz).find? (inZ z st) = some j := by
    rw [List.find?_range_eq_some]
    exact ⟨hp, by simpa using hj, fun k hk => by simp [h k hk]⟩
  rw [e]
theorem clsAt_none {z : Nat → Int} {nz : Nat} {st : Int} (h : ∀ k, k < nz → inZ z st k = false) : clsAt z nz st = 1 := by
  unfold clsAt
  have e : (List.range nz).find? (inZ z st) = none := by
    rw [List.find?_eq_none]
    intro x hx
    simp [h x (by simpa using hx)]
  rw [e]
/-- The limit at a station. -/
def lmtAt (m : Nat → Int) (st : Int) : Nat → Int
  | 0 => 0
  | k + 1 => if m (k * 2) ≤ st then m (k * 2 + 1) else lmtAt m st k
/-- Zones without an error. -/
def ZOk (z : Nat → Int) (nz : Nat) : Prop := ∀ j, j < nz → (0 ≤ z (j * 3) ∧ z (j * 3) < z (j * 3 + 1)) ∧ z (j * 3 + 1) ≤ 2000000000 ∧ (1 ≤ z (j * 3 + 2) ∧ z (j * 3 + 2) ≤ 4)
theorem zok_of {n nz nl : Nat} {f z m : Nat → Int} (h : chk n nz nl f z m = 0) : ZOk z nz := fun j hj => by
  have hok := chk_ok h
  have h1 := hok.2.2.2.2.1 j hj
  have hE := endS_le (f := f) (n := n) hok.2.2.2.1
  have hn := hok.1.2
  have hb : 0 ≤ z (j * 3) ∧ z (j * 3 + 1) ≤ endS f n ∧ z (j * 3) < z (j * 3 + 1) ∧ 1 ≤ z (j * 3 + 2) ∧ z (j * 3 + 2) ≤ 4 := by
    unfold znAt znErr at h1
    split at h1
    · omega
    · split at h1
      · omega
      · omega
  omega

set_option maxRecDepth 8000 in
set_option maxHeartbeats 1600000 in
theorem classAt_of (w : World) (a za la : Option Addr) (n c nz zc nl lc : Nat) (z : Nat → Int) (st : Int) (hnz : nz ≤ 64) (hz : ZOk z nz) (hZ : Sl w 3 za nz z) :
    Calls Tryd.prog 69 #[.agg #[.slice a n c, .slice za nz zc, .slice la nl lc], .int .i64 st] w fun e w' => e = .returned (.int .i64 (clsAt z nz st)) ∧ Below w.heap.size w w' := by
  have HZ := Lib.hid hZ
  have HK := Lib.hid hz
  clear hZ hz
  obtain ⟨r, hr⟩ : ∃ r, r = clsAt z nz st := ⟨_, rfl⟩
  rw [← hr]
  have HR := Lib.hid hr
  clear hr
  go_enter Tryd.func69, Tryd.ntmps69
  go_wp2
  obtain ⟨W, hW⟩ : ∃ W, W = w.alloc (.cells #[.slice a n c, .slice za nz zc, .slice la nl lc] 26) := ⟨_, rfl⟩
  have hBW : Hid (Below w.heap.size w W) := by rw [hW]; exact (Below.refl _ _).alloc (Nat.le_refl _) _
  rw [← hW]
  clear hW
  go_loopw [10] (fun vi wr => ∃ i : Nat, i ≤ nz ∧ vi = .int .i64 i ∧ Hid (∀ k, k < i → inZ z st k = false) ∧ Hid (Below w.heap.size w wr)) (fun vi _ => nz - (intOf vi).toNat)
  case atStart => exact ⟨0, by omega, rfl, fun k hk => by omega, hBW.out⟩
  case round =>
    obtain ⟨i, hi, rfl, HN, HB⟩ := hrel
    by_cases hlt : i < nz
    · obtain ⟨b, o, rfl, hI⟩ := HZ.out (by omega)
      have hI2 := hI.keep HB.out (hI.lt (by omega))
      have hk := HK.out i hlt
      have d0 := hI2 (i * 3) (by omega)
      have d1 := hI2.at (i * 3) 1 (by omega)
      have d2 := hI2.at (i * 3) 2 (by omega)
      have e1 : IntKind.i64.wrap (z (i * 3 + 1) - 1) = z (i * 3 + 1) - 1 := IntWalk.i64_in _ (by omega)
      have hss := HB.out.size
      clear hI hI2
      by_cases hin : inZ z st i = true
      · have HBT : Hid (true = decide (z (i * 3) ≤ st ∧ st ≤ z (i * 3 + 1) - 1)) := hin.symm
        have HV : Hid (r = z (i * 3 + 2)) := by show _ = _; rw [HR.out]; exact clsAt_some hlt HN.out hin
        clear hin
        go_wp2_with (go_at_call 62; refine (betw true _ _ _ _ HBT.out).mono ?_; rintro e' w' ⟨rfl, rfl⟩)
        go_ret
        exact ⟨by rw [HV.out]; rfl, HB.out.alloc hss _⟩
      · have hin2 : inZ z st i = false := by simpa using hin
        have HBT : Hid (false = decide (z (i * 3) ≤ st ∧ st ≤ z (i * 3 + 1) - 1)) := hin2.symm
        have HN2 : Hid (∀ k, k < i + 1 → inZ z st k = false) := fun k hk => by
          by_cases e : k = i
          · subst e; exact hin2
          · exact HN.out k (by omega)
        clear hin hin2
        go_wp2_with (go_at_call 62; refine (betw false _ _ _ _ HBT.out).mono ?_; rintro e' w' ⟨rfl, rfl⟩)
        exact ⟨⟨i + 1, by omega, by go_num, HN2.out, HB.out.alloc hss _⟩, by simp [intOf]; omega⟩
    · obtain rfl : i = nz := by omega
      have HV : Hid (r = 1) := by show _ = _; rw [HR.out]; exact clsAt_none HN.out
      go_wp2
      go_ret
      exact ⟨by rw [HV.out]; rfl, HB.out⟩

set_option maxRecDepth 8000 in
set_option maxHeartbeats 1600000 in
theorem limitAt_of (w : World) (a za la : Option Addr) (n c nz zc nl lc : Nat) (m : Nat → Int) (st : Int) (hnl : nl ≤ 64) (hL : Sl w 2 la nl m) :
    Calls Tryd.prog 70 #[.agg #[.slice a n c, .slice za nz zc, .slice la nl lc], .int .i64 st] w fun e w' => e = .returned (.int .i64 (lmtAt m st nl)) ∧ Below w.heap.size w w' := by
  have HL := Lib.hid hL
  clear hL
  go_enter Tryd.func70, Tryd.ntmps70
  go_wp2
  obtain ⟨W, hW⟩ : ∃ W, W = w.alloc (.cells #[.slice a n c, .slice za nz zc, .slice la nl lc] 26) := ⟨_, rfl⟩
  have hBW : Hid (Below w.heap.size w W) := by rw [hW]; exact (Below.refl _ _).alloc (Nat.le_refl _) _
  rw [← hW]
  clear hW
  go_loopw [5, 11] (fun vs vi wr => ∃ i : Nat, i ≤ nl ∧ vi = .int .i64 i ∧ vs = .int .i64 (lmtAt m st i) ∧ Hid (Below w.heap.size w wr)) (fun _ vi _ => nl - (intOf vi).toNat)
  case atStart => exact ⟨0, by omega, rfl, rfl, hBW.out⟩
  case round =>
    obtain ⟨i, hi, rfl, rfl, HB⟩ := hrel
    by_cases hlt : i < nl
    · obtain ⟨b, o, rfl, hI⟩ := HL.out (by omega)
      have hI2 := hI.keep HB.out (hI.lt (by omega))
      have d0 := hI2 (i * 2) (by omega)
      have d1 := hI2.at (i * 2) 1 (by omega)
      have hss := HB.out.size
      clear hI hI2
      by_cases hin : m (i * 2) ≤ st
      · have q : decide (m (i * 2) ≤ st) = true := by simpa using hin
        have HV : Hid (lmtAt m st (i + 1) = m (i * 2 + 1)) := by show _ = _; simp [lmtAt, hin]
        clear hin
        go_wp2
        exact ⟨⟨i + 1, by omega, by go_num, by rw [HV.out], HB.out.alloc hss _⟩, by simp [intOf]; omega⟩
      · have q : decide (m (i * 2) ≤ st) = false := by simpa using hin
        have HV : Hid (lmtAt m st (i + 1) = lmtAt m st i) := by show _ = _; simp [lmtAt, hin]
        clear hin
        go_wp2
        exact ⟨⟨i + 1, by omega, by go_num, by rw [HV.out], HB.out.alloc hss _⟩, by simp [intOf]; omega⟩
    · obtain rfl : i = nl := by omega
      go_wp2
      go_ret
      exact ⟨rfl, HB.out⟩

/-- What ClassAt, LimitAt return: v: the error of the station, x: the value. -/
def ValP (v x : Int) (w : World) (e : Ending) (w' : World) : Prop := e = .returned (.tuple #[.int .i64 (if v = 0 then x else 0), .int .i64 v]) ∧ Below w.heap.size w w'

set_option maxRecDepth 8000 in
set_option maxHeartbeats 3200000 in
theorem ClassAt_of (w : World) (a za la : Option Addr) (n c nz zc nl lc : Nat) (f z m : Nat → Int) (st : Int) (hS : Sl w 7 a n f) (hZ : Sl w 3 za nz z) (hL : Sl w 2 la nl m) :
    Calls Tryd.prog 26 #[.agg #[.slice a n c, .slice za nz zc, .slice la nl lc], .int .i64 st] w (ValP (stE (chk n nz nl f z m) (decide (0 ≤ st ∧ st < endS f n))) (clsAt z nz st) w) := by
  have HCS : Hid (∀ w', Below w.heap.size w w' → Calls Tryd.prog 59 #[.agg #[.slice a n c, .slice za nz zc, .slice la nl lc], .int .i64 st] w' fun e' w2 => e' = .returned (.int .i64 (stE (chk n nz nl f z m) (decide (0 ≤ st ∧ st < endS f n)))) ∧ Below w'.heap.size w' w2) :=
    fun w' hb => checkStationAll_of w' a za la n c nz zc nl lc f z m st (hS.keep (by omega) hb) (hZ.keep (by omega) hb) (hL.keep (by omega) hb)
  have HCL : Hid (stE (chk n nz nl f z m) (decide (0 ≤ st ∧ st < endS f n)) = 0 → ∀ w', Below w.heap.size w w' → Calls Tryd.prog 69 #[.agg #[.slice a n c, .slice za nz zc, .slice la nl lc], .int .i64 st] w' fun e' w2 => e' = .returned (.int .i64 (clsAt z nz st)) ∧ Below w'.heap.size w' w2) :=
    fun h w' hb => by
      have hc : chk n nz nl f z m = 0 := by
        by_cases hc : chk n nz nl f z m = 0
        · exact hc
        · rw [stE_bad hc] at h; exact h
      exact classAt_of w' a za la n c nz zc nl lc z st (chk_ok hc).2.1 (zok_of hc) (hZ.keep (by omega) hb)
  clear hS hZ hL
  generalize stE (chk n nz nl f z m) (decide (0 ≤ st ∧ st < endS f n)) = v at HCS HCL ⊢
  generalize clsAt z nz st = r at HCL ⊢
  obtain ⟨W, hW⟩ : ∃ W, W = w.alloc (.cells #[.slice a n c, .slice za nz zc, .slice la nl lc] 26) := ⟨_, rfl⟩
  have hBW : Hid (Below w.heap.size w W) := by rw [hW]; exact (Below.refl _ _).alloc (Nat.le_refl _) _
  have HX : Hid (W.cell? ⟨w.heap.size, 0, none⟩ = some (.slice a n c) ∧ W.cell? ⟨w.heap.size, 1, none⟩ = some (.slice za nz zc) ∧ W.cell? ⟨w.heap.size, 2, none⟩ = some (.slice la nl lc)) := by
    rw [hW]; exact ⟨by go_simp, by go_simp, by go_simp⟩
  have HW := Lib.hid hW
  clear hW
  go_enter Tryd.func26, Tryd.ntmps26
  go_wp2_with fail
  rw [← HW.out]
  refine (HCS.out W hBW.out).mono ?_
  rintro e' w2 ⟨rfl, hb2⟩
  have HB2 : Hid (Below w.heap.size w w2) := hBW.out.trans (hb2.mono hBW.out.size)
  obtain ⟨x0, x1, x2⟩ := three_keep HX.out hb2
  clear hb2
  by_cases hv : v = 0
  · subst hv
    have HC2 := HCL.out rfl
    have HC2 := Lib.hid HC2
    go_wp2_with fail
    refine (HC2.out w2 HB2.out).mono ?_
    rintro e' w3 ⟨rfl, hb3⟩
    have HB3 : Hid (Below w.heap.size w w3) := HB2.out.trans (hb3.mono HB2.out.size)
    clear hb3 x0 x1 x2
    go_wp2
    go_ret2
    exact ⟨rfl, HB3.out⟩
  · have e2 : (v == 0) = false := by simpa using hv
    have e3 : (v != 0) = true := by simpa using hv
    have HV := Lib.hid hv
    clear hv x0 x1 x2
    go_wp2
    go_ret2
    exact ⟨by rw [if_neg HV.out]; rfl, HB2.out⟩

set_option maxRecDepth 8000 in
set_option maxHeartbeats 3200000 in
theorem LimitAt_of (w : World) (a za la : Option Addr) (n c nz zc nl lc : Nat) (f z m : Nat → Int) (st : Int) (hS : Sl w 7 a n f) (hZ : Sl w 3 za nz z) (hL : Sl w 2 la nl m) :
    Calls Tryd.prog 27 #[.agg #[.slice a n c, .slice za nz zc, .slice la nl lc], .int .i64 st] w (ValP (stE (chk n nz nl f z m) (decide (0 ≤ st ∧ st < endS f n))) (lmtAt m st nl) w) := by
  have HCS : Hid (∀ w', Below w.heap.size w w' → Calls Tryd.prog 59 #[.agg #[.slice a n c, .slice za nz zc, .slice la nl lc], .int .i64 st] w' fun e' w2 => e' = .returned (.int .i64 (stE (chk n nz nl f z m) (decide (0 ≤ st ∧ st < endS f n)))) ∧ Below w'.heap.size w' w2) :=
    fun w' hb => checkStationAll_of w' a za la n c nz zc nl lc f z m st (hS.keep (by omega) hb) (hZ.keep (by omega) hb) (hL.keep (by omega) hb)
  have HCL : Hid (stE (chk n nz nl f z m) (decide (0 ≤ st ∧ st < endS f n)) = 0 → ∀ w', Below w.heap.size w w' → Calls Tryd.prog 70 #[.agg #[.slice a n c, .slice za nz zc, .slice la nl lc], .int .i64 st] w' fun e' w2 => e' = .returned (.int .i64 (lmtAt m st nl)) ∧ Below w'.heap.size w' w2) :=
    fun h w' hb => by
      have hc : chk n nz nl f z m = 0 := by
        by_cases hc : chk n nz nl f z m = 0
        · exact hc
        · rw [stE_bad hc] at h; exact h
      exact limitAt_of w' a za la n c nz zc nl lc m st (chk_ok hc).2.2.1 (hL.keep (by omega) hb)
  clear hS hZ hL
  generalize stE (chk n nz nl f z m) (decide (0 ≤ st ∧ st < endS f n)) = v at HCS HCL ⊢
  generalize lmtAt m st nl = r at HCL ⊢
  obtain ⟨W, hW⟩ : ∃ W, W = w.alloc (.cells #[.slice a n c, .slice za nz zc, .slice la nl lc] 26) := ⟨_, rfl⟩
  have hBW : Hid (Below w.heap.size w W) := by rw [hW]; exact (Below.refl _ _).alloc (Nat.le_refl _) _
  have HX : Hid (W.cell? ⟨w.heap.size, 0, none⟩ = some (.slice a n c) ∧ W.cell? ⟨w.heap.size, 1, none⟩ = some (.slice za nz zc) ∧ W.cell? ⟨w.heap.size, 2, none⟩ = some (.slice la nl lc)) := by
    rw [hW]; exact ⟨by go_simp, by go_simp, by go_simp⟩
  have HW := Lib.hid hW
  clear hW
  go_enter Tryd.func27, Tryd.ntmps27
  go_wp2_with fail
  rw [← HW.out]
  refine (HCS.out W hBW.out).mono ?_
  rintro e' w2 ⟨rfl, hb2⟩
  have HB2 : Hid (Below w.heap.size w w2) := hBW.out.trans (hb2.mono hBW.out.size)
  obtain ⟨x0, x1, x2⟩ := three_keep HX.out hb2
  clear hb2
  by_cases hv : v = 0
  · subst hv
    have HC2 := HCL.out rfl
    have HC2 := Lib.hid HC2
    go_wp2_with fail
    refine (HC2.out w2 HB2.out).mono ?_
    rintro e' w3 ⟨rfl, hb3⟩
    have HB3 : Hid (Below w.heap.size w w3) := HB2.out.trans (hb3.mono HB2.out.size)
    clear hb3 x0 x1 x2
    go_wp2
    go_ret2
    exact ⟨rfl, HB3.out⟩
  · have e2 : (v == 0) = false := by simpa using hv
    have e3 : (v != 0) = true := by simpa using hv
    have HV := Lib.hid hv
    clear hv x0 x1 x2
    go_wp2
    go_ret2
    exact ⟨by rw [if_neg HV.out]; rfl, HB2.out⟩
end Go.Proofs.YtbpifllkimkokaaDoor
