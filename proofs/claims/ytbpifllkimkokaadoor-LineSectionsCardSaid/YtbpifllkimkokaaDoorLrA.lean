/-
  WALKS: the reference's ClassAt and LimitAt.
-/
import Derived.Test.YtbpifllkimkokaaDoorLqC
import Derived.Test.YtbpifllkimkokaaDoorLpC
import Derived.Deep.QuietTactic
namespace Go.Proofs.YtbpifllkimkokaaDoor
open Go.RowKit

set_option maxRecDepth 8000 in
set_option maxHeartbeats 1600000 in
theorem rClassAt_of (w : World) (a za la : Option Addr) (n c nz zc nl lc : Nat) (f z : Nat → Int) (st : Int) (hn : n ≤ 70) (hv : ∀ i, i < n → itAt f i = 0) (hnz : nz ≤ 64) (hz : ZOk z nz) (hS : Sl w 7 a n f) (hZ : Sl w 3 za nz z) :
    Calls Tryd.prog 30 #[.agg #[.slice a n c, .slice za nz zc, .slice la nl lc], .int .i64 st] w (ValP (stE 0 (decide (0 ≤ st ∧ st < endS f n))) (clsAt z nz st) w) := by
  have HOF : Hid (∀ W', Below w.heap.size w W' → Calls Tryd.prog 67 #[.agg #[.slice a n c, .slice za nz zc, .slice la nl lc], .int .i64 st] W' fun e W3 => e = .returned (.bool (decide (0 ≤ st ∧ st < endS f n))) ∧ Below W'.heap.size W' W3) := fun W' hb =>
    rof_of a za la n c nz zc nl lc f st hn hv W' (hS.keep (by omega) hb)
  have HZ := Lib.hid hZ
  have HK := Lib.hid hz
  clear hS hZ hz hv
  obtain ⟨r, hr⟩ : ∃ r, r = clsAt z nz st := ⟨_, rfl⟩
  rw [← hr]
  have HR := Lib.hid hr
  clear hr
  generalize decide (0 ≤ st ∧ st < endS f n) = B at HOF ⊢
  obtain ⟨W, hW⟩ : ∃ W, W = w.alloc (.cells #[.slice a n c, .slice za nz zc, .slice la nl lc] 31) := ⟨_, rfl⟩
  have hBW : Hid (Below w.heap.size w W) := by rw [hW]; exact (Below.refl _ _).alloc (Nat.le_refl _) _
  have HX : Hid (W.cell? ⟨w.heap.size, 0, none⟩ = some (.slice a n c) ∧ W.cell? ⟨w.heap.size, 1, none⟩ = some (.slice za nz zc) ∧ W.cell? ⟨w.heap.size, 2, none⟩ = some (.slice la nl lc)) := by
    rw [hW]; exact ⟨by go_simp, by go_simp, by go_simp⟩
  have HW := Lib.hid hW
  clear hW
  go_enter Tryd.func30, Tryd.ntmps30
  go_wp2_with fail
  rw [← HW.out]
  refine (HOF.out W hBW.out).mono ?_
  rintro e' w2 ⟨rfl, hb2⟩
  have HB2 : Hid (Below w.heap.size w w2) := hBW.out.trans (hb2.mono hBW.out.size)
  have HX2 := Lib.hid (three_keep HX.out hb2)
  clear hb2
  cases B
  · go_wp2
    go_ret2
    exact ⟨rfl, HB2.out⟩
  · go_wp2_with fail
    go_loopw [6] (fun vi wr => ∃ i : Nat, i ≤ nz ∧ vi = .int .i64 i ∧ Hid (∀ k, k < i → inZ z st k = false) ∧ Hid (∃ q, wr = w2.drewN q)) (fun vi _ => nz - (intOf vi).toNat)
    case atStart => exact ⟨0, by omega, rfl, fun k hk => by omega, ⟨0, rfl⟩⟩
    case round =>
      obtain ⟨i, hi, rfl, HN, HQ⟩ := hrel
      have hbq := drewN_below HQ.out w2.heap.size
      obtain ⟨x0, x1, x2⟩ := three_keep HX2.out hbq
      by_cases hlt : i < nz
      · obtain ⟨b, o, rfl, hI⟩ := HZ.out (by omega)
        have hI2 := hI.keep (HB2.out.trans (hbq.mono HB2.out.size)) (hI.lt (by omega))
        have hk := HK.out i hlt
        have d0 := hI2 (i * 3) (by omega)
        have d1 := hI2.at (i * 3) 1 (by omega)
        have d2 := hI2.at (i * 3) 2 (by omega)
        have e1 : IntKind.i64.wrap (z (i * 3 + 1) - 1) = z (i * 3 + 1) - 1 := IntWalk.i64_in _ (by omega)
        have b1 : (0 : Int) ≤ (i : Int) := by omega
        have b2 : (i : Int) < (nz : Int) := by omega
        clear hI hI2 hbq
        by_cases hin : inZ z st i = true
        · have HBT : Hid (true = decide (z (i * 3) ≤ st ∧ st ≤ z (i * 3 + 1) - 1)) := hin.symm
          have HV : Hid (r = z (i * 3 + 2)) := by show _ = _; rw [HR.out]; exact clsAt_some hlt HN.out hin
          clear hin
          go_wp2
          go_quiet (first | (go_at_call 66; exact Calls.quiet_of_same (rbetw true _ _ _ _ HBT.out)))
          go_wp2
          go_ret2
          exact ⟨by rw [HV.out]; rfl, HB2.out.trans (drewN_below (drewN_more HQ.out _) _)⟩
        · have hin2 : inZ z st i = false := by simpa using hin
          have HBT : Hid (false = decide (z (i * 3) ≤ st ∧ st ≤ z (i * 3 + 1) - 1)) := hin2.symm
          have HN2 : Hid (∀ k, k < i + 1 → inZ z st k = false) := fun k hk => by
            by_cases e : k = i
            · subst e; exact hin2
            · exact HN.out k (by omega)
          clear hin hin2
          go_wp2
          go_quiet (first | (go_at_call 66; exact Calls.quiet_of_same (rbetw false _ _ _ _ HBT.out)))
          go_wp2
          exact ⟨⟨i + 1, by omega, by go_num, HN2.out, drewN_more HQ.out _⟩, by simp [intOf]; omega⟩
      · obtain rfl : i = nz := by omega
        have HV : Hid (r = 1) := by show _ = _; rw [HR.out]; exact clsAt_none HN.out
        clear hbq
        go_wp2
        go_ret2
        exact ⟨by rw [HV.out]; rfl, HB2.out.trans (drewN_below HQ.out _)⟩

set_option maxRecDepth 8000 in
set_option maxHeartbeats 1600000 in
theorem rLimitAt_of (w : World) (a za la : Option Addr) (n c nz zc nl lc : Nat) (f m : Nat → Int) (st : Int) (hn : n ≤ 70) (hv : ∀ i, i < n → itAt f i = 0) (hnl : nl ≤ 64) (hS : Sl w 7 a n f) (hL : Sl w 2 la nl m) :
    Calls Tryd.prog 31 #[.agg #[.slice a n c, .slice za nz zc, .slice la nl lc], .int .i64 st] w (ValP (stE 0 (decide (0 ≤ st ∧ st < endS f n))) (lmtAt m st nl) w) := by
  have HOF : Hid (∀ W', Below w.heap.size w W' → Calls Tryd.prog 67 #[.agg #[.slice a n c, .slice za nz zc, .slice la nl lc], .int .i64 st] W' fun e W3 => e = .returned (.bool (decide (0 ≤ st ∧ st < endS f n))) ∧ Below W'.heap.size W' W3) := fun W' hb =>
    rof_of a za la n c nz zc nl lc f st hn hv W' (hS.keep (by omega) hb)
  have HL := Lib.hid hL
  clear hS hL hv
  generalize decide (0 ≤ st ∧ st < endS f n) = B at HOF ⊢
  obtain ⟨W, hW⟩ : ∃ W, W = w.alloc (.cells #[.slice a n c, .slice za nz zc, .slice la nl lc] 31) := ⟨_, rfl⟩
  have hBW : Hid (Below w.heap.size w W) := by rw [hW]; exact (Below.refl _ _).alloc (Nat.le_refl _) _
  have HX : Hid (W.cell? ⟨w.heap.size, 0, none⟩ = some (.slice a n c) ∧ W.cell? ⟨w.heap.size, 1, none⟩ = some (.slice za nz zc) ∧ W.cell? ⟨w.heap.size, 2, none⟩ = some (.slice la nl lc)) := by
    rw [hW]; exact ⟨by go_simp, by go_simp, by go_simp⟩
  have HW := Lib.hid hW
  clear hW
  go_enter Tryd.func31, Tryd.ntmps31
  go_wp2_with fail
  rw [← HW.out]
  refine (HOF.out W hBW.out).mono ?_
  rintro e' w2 ⟨rfl, hb2⟩
  have HB2 : Hid (Below w.heap.size w w2) := hBW.out.trans (hb2.mono hBW.out.size)
  have HX2 := Lib.hid (three_keep HX.out hb2)
  clear hb2
  cases B
  · go_wp2
    go_ret2
    exact ⟨rfl, HB2.out⟩
  · go_wp2_with fail
    go_loopw [6, 7] (fun vs vi wr => ∃ i : Nat, i ≤ nl ∧ vi = .int .i64 i ∧ vs = .int .i64 (lmtAt m st i) ∧ wr = w2) (fun _ vi _ => nl - (intOf vi).toNat)
    case atStart => exact ⟨0, by omega, rfl, rfl, rfl⟩
    case round =>
      obtain ⟨i, hi, rfl, rfl, rfl⟩ := hrel
      obtain ⟨x0, x1, x2⟩ := HX2.out
      by_cases hlt : i < nl
      · obtain ⟨b, o, rfl, hI⟩ := HL.out (by omega)
        have hI2 := hI.keep HB2.out (hI.lt (by omega))
        have d0 := hI2 (i * 2) (by omega)
        have d1 := hI2.at (i * 2) 1 (by omega)
        have b1 : (0 : Int) ≤ (i : Int) := by omega
        have b2 : (i : Int) < (nl : Int) := by omega
        clear hI hI2
        by_cases hin : m (i * 2) ≤ st
        · have q : decide (m (i * 2) ≤ st) = true := by simpa using hin
          have HV : Hid (lmtAt m st (i + 1) = m (i * 2 + 1)) := by show _ = _; simp [lmtAt, hin]
          clear hin
          go_wp2
          exact ⟨⟨i + 1, by omega, by go_num, by rw [HV.out], trivial⟩, by simp [intOf]; omega⟩
        · have q : decide (m (i * 2) ≤ st) = false := by simpa using hin
          have HV : Hid (lmtAt m st (i + 1) = lmtAt m st i) := by show _ = _; simp [lmtAt, hin]
          clear hin
          go_wp2
          exact ⟨⟨i + 1, by omega, by go_num, by rw [HV.out], trivial⟩, by simp [intOf]; omega⟩
      · obtain rfl : i = nl := by omega
        go_wp2
        go_ret2
        exact ⟨rfl, HB2.out⟩
end Go.Proofs.YtbpifllkimkokaaDoor
