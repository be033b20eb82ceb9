/-
  WALKS: LineThere.
-/
import Derived.Test.YtbpifllkimkokaaDoorLoF
namespace Go.Proofs.YtbpifllkimkokaaDoor
open Go.RowKit

theorem endS_mono {f : Nat → Int} {n : Nat} (hl : n ≤ 70) (hv : ∀ i, i < n → itAt f i = 0) : ∀ {i j : Nat}, i ≤ j → j ≤ n → endS f i ≤ endS f j := by
  intro i j hij hj
  induction hij with
  | refl => exact Int.le_refl _
  | @step k hk ih =>
    have := endS_step (f := f) (n := n) (k := k) hl hv (by omega)
    have h2 := ih (by omega)
    show endS f i ≤ endS f k + f (k * 7 + 1)
    omega
/-- Only one item has a station. -/
theorem one_item {f : Nat → Int} {n : Nat} (hl : n ≤ 70) (hv : ∀ i, i < n → itAt f i = 0) {i j : Nat} (hi : i < n) (hj : j < n) {s : Int} (h1 : endS f i ≤ s) (h2 : s < endS f (i + 1)) (h3 : endS f j ≤ s) (h4 : s < endS f (j + 1)) : i = j := by
  rcases Nat.lt_trichotomy i j with h | h | h
  · have := endS_mono hl hv (i := i + 1) (j := j) (by omega) (by omega); omega
  · exact h
  · have := endS_mono hl hv (i := j + 1) (j := i) (by omega) (by omega); omega

set_option maxRecDepth 100000 in
set_option maxHeartbeats 3200000 in
theorem thereLaw_no (w : World) (a za la : Option Addr) (n c nz zc nl lc : Nat) (N M K : Int) (hG : Glob w)
    (hR : ∀ w', Below w.heap.size w w' → Calls Tryd.prog 36 #[.agg #[.slice a n c, .slice za nz zc, .slice la nl lc]] w' fun e w2 => e = .returned (.bool false) ∧ Below w'.heap.size w' w2) :
    Calls Tryd.prog 6 #[.agg #[.slice a n c, .slice za nz zc, .slice la nl lc], .int .u32 N, .int .u32 M, .int .u8 K] w fun e w' => e = .returned (.bool true) ∧ Below w.heap.size w w' := by
  have HR := Lib.hid hR
  have HA : Hid (∀ w', Below w.heap.size w w' → Calls Tryd.prog 13 #[] w' fun e w2 => e = .returned (.bool true) ∧ Below w'.heap.size w' w2) := fun w' hb => awake_of w' (hG.keep hb)
  clear hR hG
  go_enter Tryd.func6, Tryd.ntmps6
  go_wp2_with fail
  obtain ⟨W, hW⟩ : ∃ W, W = w.alloc (.cells #[.slice a n c, .slice za nz zc, .slice la nl lc] 26) := ⟨_, rfl⟩
  have hBW : Hid (Below w.heap.size w W) := by rw [hW]; exact (Below.refl _ _).alloc (Nat.le_refl _) _
  have HX : Hid (W.cell? ⟨w.heap.size, 0, none⟩ = some (.slice a n c) ∧ W.cell? ⟨w.heap.size, 1, none⟩ = some (.slice za nz zc) ∧ W.cell? ⟨w.heap.size, 2, none⟩ = some (.slice la nl lc)) := by
    rw [hW]; exact ⟨by go_simp, by go_simp, by go_simp⟩
  rw [← hW]
  clear hW
  refine (HA.out W hBW.out).mono ?_
  rintro e' w2 ⟨rfl, hb2⟩
  have HB2 : Hid (Below w.heap.size w w2) := hBW.out.trans (hb2.mono hBW.out.size)
  obtain ⟨x0, x1, x2⟩ := three_keep HX.out hb2
  clear hb2
  go_wp2_with fail
  refine (HR.out w2 HB2.out).mono ?_
  rintro e' w3 ⟨rfl, hb3⟩
  have HB3 : Hid (Below w.heap.size w w3) := HB2.out.trans (hb3.mono HB2.out.size)
  clear hb3 x0 x1 x2
  go_wp2_with fail
  refine (HA.out w3 HB3.out).mono ?_
  rintro e' w4 ⟨rfl, hb4⟩
  have HB4 : Hid (Below w.heap.size w w4) := HB3.out.trans (hb4.mono HB3.out.size)
  clear hb4
  go_wp2
  go_ret
  exact ⟨rfl, HB4.out⟩

set_option maxRecDepth 100000 in
set_option maxHeartbeats 6400000 in
theorem thereLaw_yes (w : World) (a za la : Option Addr) (n c nz zc nl lc : Nat) (f z m : Nat → Int) (N M K : Int) (hG : Glob w) (h : (n ≤ 12 ∧ nz ≤ 12 ∧ nl ≤ 12) ∧ chk n nz nl f z m = 0)
    (hS : Sl w 7 a n f) (hZ : Sl w 3 za nz z) (hL : Sl w 2 la nl m) (hN : 0 ≤ N ∧ N ≤ 4294967295) (hM : 0 ≤ M ∧ M ≤ 4294967295) (hK : 0 ≤ K ∧ K ≤ 255) :
    Calls Tryd.prog 6 #[.agg #[.slice a n c, .slice za nz zc, .slice la nl lc], .int .u32 N, .int .u32 M, .int .u8 K] w fun e w' => e = .returned (.bool true) ∧ Below w.heap.size w w' := by
  have HR : Hid (∀ w', Below w.heap.size w w' → Calls Tryd.prog 36 #[.agg #[.slice a n c, .slice za nz zc, .slice la nl lc]] w' fun e w2 => e = .returned (.bool true) ∧ Below w'.heap.size w' w2) := fun w' hb => by
    have := right_near w' a za la n c nz zc nl lc f z m (by omega) (hS.keep (by omega) hb) (hZ.keep (by omega) hb) (hL.keep (by omega) hb)
    rwa [show decide ((n ≤ 12 ∧ nz ≤ 12 ∧ nl ≤ 12) ∧ chk n nz nl f z m = 0) = true by simpa using h] at this
  have HA : Hid (∀ w', Below w.heap.size w w' → Calls Tryd.prog 13 #[] w' fun e w2 => e = .returned (.bool true) ∧ Below w'.heap.size w' w2) := fun w' hb => awake_of w' (hG.keep hb)
  have HIN : Hid (∀ w', Below w.heap.size w w' → Calls Tryd.prog 37 #[.agg #[.slice a n c, .slice za nz zc, .slice la nl lc], .int .u32 N] w' fun e' w2 => e' = .returned (.int .i64 (N % endS f n)) ∧ Below w'.heap.size w' w2) :=
    fun w' hb => inside_of w' a za la n c nz zc nl lc f z m N hN h.2 (hS.keep (by omega) hb) (hZ.keep (by omega) hb) (hL.keep (by omega) hb)
  have HAT : Hid (∀ w' st, Below w.heap.size w w' → 0 ≤ st ∧ st < endS f n → Calls Tryd.prog 15 #[.agg #[.slice a n c, .slice za nz zc, .slice la nl lc], .int .i64 st] w' fun e' w2 => (∃ i : Nat, i < n ∧ endS f i ≤ st ∧ st < endS f (i + 1) ∧ e' = .returned (.tuple #[.int .i64 i, .int .i64 (st - endS f i), .int .i64 0])) ∧ Below w'.heap.size w' w2) :=
    fun w' st hb hst => at_of w' a za la n c nz zc nl lc f z m st hst h.2 (hS.keep (by omega) hb) (hZ.keep (by omega) hb) (hL.keep (by omega) hb)
  have HSA : Hid (∀ w' (i : Nat) o, Below w.heap.size w w' → i < n → 0 ≤ o ∧ o < f (i * 7 + 1) → Calls Tryd.prog 16 #[.agg #[.slice a n c, .slice za nz zc, .slice la nl lc], .int .i64 i, .int .i64 o] w' fun e' w2 => e' = .returned (.tuple #[.int .i64 (endS f i + o), .int .i64 0]) ∧ Below w'.heap.size w' w2) :=
    fun w' i o hb hi ho => station_of w' a za la n c nz zc nl lc f z m i o hi ho h.2 (hS.keep (by omega) hb) (hZ.keep (by omega) hb) (hL.keep (by omega) hb)
  have HNE : Hid (∀ w' st, Below w.heap.size w w' → 0 ≤ st ∧ st < endS f n → 2 ≤ n → Calls Tryd.prog 17 #[.agg #[.slice a n c, .slice za nz zc, .slice la nl lc], .int .i64 st] w' fun e' w2 => (∃ k : Nat, 1 ≤ k ∧ k < n ∧ Near f st n k ∧
      e' = .returned (.tuple #[.int .i64 k, .int .i64 (st - endS f k), .int .i64 0])) ∧ Below w'.heap.size w' w2) :=
    fun w' st hb hst h2 => nearest_of w' a za la n c nz zc nl lc f z m st hst h2 h.2 (hS.keep (by omega) hb) (hZ.keep (by omega) hb) (hL.keep (by omega) hb)
  have HN1 : Hid (∀ w' st, Below w.heap.size w w' → 0 ≤ st ∧ st < endS f n → n = 1 → Calls Tryd.prog 17 #[.agg #[.slice a n c, .slice za nz zc, .slice la nl lc], .int .i64 st] w' fun e' w2 => e' = .returned (.tuple #[.int .i64 0, .int .i64 0, .int .i64 5]) ∧ Below w'.heap.size w' w2) :=
    fun w' st hb hst h2 => by subst h2; exact nearest1_of w' a za la c nz zc nl lc f z m st hst h.2 (hS.keep (by omega) hb) (hZ.keep (by omega) hb) (hL.keep (by omega) hb)
  have HST : Hid (∀ w', Below w.heap.size w w' → Calls Tryd.prog 14 #[.agg #[.slice a n c, .slice za nz zc, .slice la nl lc]] w' (StP 0 n f w')) := fun w' hb => by
    have := starts_of w' a za la n c nz zc nl lc f z m (hS.keep (by omega) hb) (hZ.keep (by omega) hb) (hL.keep (by omega) hb)
    rwa [h.2] at this
  have hok := chk_ok h.2
  have hn : 1 ≤ n ∧ n ≤ 12 := ⟨hok.1.1, h.1.1⟩
  have HV : Hid (∀ i, i < n → itAt f i = 0) := hok.2.2.2.1
  have HS := Lib.hid hS
  have hE := endS_le (f := f) (n := n) HV.out
  have hE1 : 1 ≤ endS f n := by
    obtain ⟨k, rfl⟩ : ∃ k, n = k + 1 := ⟨n - 1, by omega⟩
    have := endS_step (f := f) (n := k + 1) (k := k) (by omega) HV.out (by omega)
    show 1 ≤ endS f k + f (k * 7 + 1)
    omega
  obtain ⟨b, o, rfl, _⟩ := hS (by omega)
  clear h hG hS hZ hL hok
  -- the station
  have hat : 0 ≤ N % endS f n ∧ N % endS f n < endS f n := ⟨Int.emod_nonneg _ (by omega), Int.emod_lt_of_pos _ (by omega)⟩
  generalize N % endS f n = st at HIN hat
  -- the place
  obtain ⟨i, hi⟩ : ∃ i : Nat, (i : Int) = K % (n : Int) := ⟨(K % (n : Int)).toNat, Int.toNat_of_nonneg (Int.emod_nonneg _ (by omega))⟩
  have hin : i < n := by have := Int.emod_lt_of_pos K (show (0 : Int) < (n : Int) by omega); omega
  have hsi := endS_step (f := f) (n := n) (k := i) (by omega) HV.out hin
  obtain ⟨p, hp⟩ : ∃ p, p = M % f (i * 7 + 1) := ⟨_, rfl⟩
  have hp2 : 0 ≤ p ∧ p < f (i * 7 + 1) := by rw [hp]; exact ⟨Int.emod_nonneg _ (by omega), Int.emod_lt_of_pos _ (by omega)⟩
  have HP := Lib.hid hp.symm
  have HI := Lib.hid hi.symm
  clear hp hi
  go_enter Tryd.func6, Tryd.ntmps6
  go_wp2_with fail
  obtain ⟨W, hW⟩ : ∃ W, W = w.alloc (.cells #[.slice (some ⟨b, o, none⟩) n c, .slice za nz zc, .slice la nl lc] 26) := ⟨_, rfl⟩
  have hBW : Hid (Below w.heap.size w W) := by rw [hW]; exact (Below.refl _ _).alloc (Nat.le_refl _) _
  have HX : Hid (W.cell? ⟨w.heap.size, 0, none⟩ = some (.slice (some ⟨b, o, none⟩) n c) ∧ W.cell? ⟨w.heap.size, 1, none⟩ = some (.slice za nz zc) ∧ W.cell? ⟨w.heap.size, 2, none⟩ = some (.slice la nl lc)) := by
    rw [hW]; exact ⟨by go_simp, by go_simp, by go_simp⟩
  rw [← hW]
  clear hW
  refine (HA.out W hBW.out).mono ?_
  rintro e' w2 ⟨rfl, hb2⟩
  have HB2 : Hid (Below w.heap.size w w2) := hBW.out.trans (hb2.mono hBW.out.size)
  have HX2 := Lib.hid (three_keep HX.out hb2)
  clear hb2
  obtain ⟨x0, x1, x2⟩ := HX2.out
  go_wp2_with fail
  refine (HR.out w2 HB2.out).mono ?_
  rintro e' w3 ⟨rfl, hb3⟩
  have HB3 : Hid (Below w.heap.size w w3) := HB2.out.trans (hb3.mono HB2.out.size)
  have HX3 := Lib.hid (three_keep HX2.out hb3)
  clear hb3 x0 x1 x2
  obtain ⟨x0, x1, x2⟩ := HX3.out
  go_wp2_with fail
  refine (HIN.out w3 HB3.out).mono ?_
  rintro e' w4 ⟨rfl, hb4⟩
  have HB4 : Hid (Below w.heap.size w w4) := HB3.out.trans (hb4.mono HB3.out.size)
  have HX4 := Lib.hid (three_keep HX3.out hb4)
  clear hb4 x0 x1 x2
  obtain ⟨x0, x1, x2⟩ := HX4.out
  go_wp2_with fail
  refine (HAT.out w4 st HB4.out hat).mono ?_
  rintro e' w5 ⟨⟨j, hj, hj1, hj2, rfl⟩, hb5⟩
  have HB5 : Hid (Below w.heap.size w w5) := HB4.out.trans (hb5.mono HB4.out.size)
  have HX5 := Lib.hid (three_keep HX4.out hb5)
  clear hb5 x0 x1 x2
  obtain ⟨x0, x1, x2⟩ := HX5.out
  go_wp2_with fail
  refine (HSA.out w5 j (st - endS f j) HB5.out hj ⟨by omega, by have : endS f (j + 1) = endS f j + f (j * 7 + 1) := rfl; omega⟩).mono ?_
  rintro e' w6 ⟨rfl, hb6⟩
  have HB6 : Hid (Below w.heap.size w w6) := HB5.out.trans (hb6.mono HB5.out.size)
  have HX6 := Lib.hid (three_keep HX5.out hb6)
  clear hb6 x0 x1 x2
  obtain ⟨x0, x1, x2⟩ := HX6.out
  have e1 : endS f j + (st - endS f j) = st := by omega
  rw [e1]
  have d1 : w6.cell? ⟨b, o + i * 7 + 1, none⟩ = some (.int .i64 (f (i * 7 + 1))) := by
    obtain ⟨b2, o2, e, hI⟩ := (HS.out.keep (by omega) HB6.out) (by omega)
    cases e
    exact hI.at (i * 7) 1 (by omega)
  have eI := HI.out
  have eP := HP.out
  go_wp2_with fail
  refine (HSA.out w6 i p HB6.out hin hp2).mono ?_
  rintro e' w7 ⟨rfl, hb7⟩
  have HB7 : Hid (Below w.heap.size w w7) := HB6.out.trans (hb7.mono HB6.out.size)
  have HX7 := Lib.hid (three_keep HX6.out hb7)
  clear hb7 x0 x1 x2 d1
  obtain ⟨x0, x1, x2⟩ := HX7.out
  have hm1 : endS f (i + 1) = endS f i + f (i * 7 + 1) := rfl
  have hm2 := endS_mono (f := f) (n := n) (by omega) HV.out (i := i + 1) (j := n) (by omega) (Nat.le_refl _)
  have hsp : 0 ≤ endS f i + p ∧ endS f i + p < endS f n := by omega
  go_wp2_with fail
  refine (HAT.out w7 (endS f i + p) HB7.out hsp).mono ?_
  rintro e' w8 ⟨⟨j2, hj2', hj3, hj4, rfl⟩, hb8⟩
  obtain rfl : j2 = i := one_item (f := f) (n := n) (by omega) HV.out hj2' hin hj3 hj4 (by omega) (by omega)
  have HB8 : Hid (Below w.heap.size w w8) := HB7.out.trans (hb8.mono HB7.out.size)
  have HX8 := Lib.hid (three_keep HX7.out hb8)
  clear hb8 x0 x1 x2
  obtain ⟨x0, x1, x2⟩ := HX8.out
  have e2 : endS f j2 + p - endS f j2 = p := by omega
  rw [e2]
  go_wp2_with fail
  rcases (show n = 1 ∨ 2 ≤ n by omega) with h1 | h2
  · refine (HN1.out w8 st HB8.out hat h1).mono ?_
    rintro e' w9 ⟨rfl, hb9⟩
    have HB9 : Hid (Below w.heap.size w w9) := HB8.out.trans (hb9.mono HB8.out.size)
    have HX9 := Lib.hid (three_keep HX8.out hb9)
    clear hb9 x0 x1 x2
    obtain ⟨x0, x1, x2⟩ := HX9.out
    have q : ((n : Int) == 1) = true := by rw [beq_iff_eq]; omega
    clear h1
    go_wp2
    go_ret
    exact ⟨rfl, HB9.out⟩
  · refine (HNE.out w8 st HB8.out hat h2).mono ?_
    rintro e' w9 ⟨⟨k, hk1, hk2, hkm, rfl⟩, hb9⟩
    have HB9 : Hid (Below w.heap.size w w9) := HB8.out.trans (hb9.mono HB8.out.size)
    have HX9 := Lib.hid (three_keep HX8.out hb9)
    clear hb9 x0 x1 x2
    obtain ⟨x0, x1, x2⟩ := HX9.out
    have q : ((n : Int) == 1) = false := by rw [beq_eq_false_iff_ne]; omega
    go_wp2_with fail
    refine (HST.out w9 HB9.out).mono ?_
    rintro e' w10 ⟨hb10, ⟨h0, _⟩ | ⟨_, v, rfl, hown⟩⟩
    · exact absurd rfl h0
    have HB10 : Hid (Below w.heap.size w w10) := HB9.out.trans (hb10.mono HB9.out.size)
    have HX10 := Lib.hid (three_keep HX9.out hb10)
    clear hb10 x0 x1 x2
    obtain ⟨x0, x1, x2⟩ := HX10.out
    obtain ⟨g, cap, rfl⟩ := ownsRow_succ hown
    obtain ⟨t, ht⟩ : ∃ t : Nat, (t : Int) = 1 + K % ((n : Int) - 1) := ⟨(1 + K % ((n : Int) - 1)).toNat, Int.toNat_of_nonneg (by have := Int.emod_nonneg K (show (n : Int) - 1 ≠ 0 by omega); omega)⟩
    have ht1 : 1 ≤ t ∧ t < n := by
      have a1 := Int.emod_nonneg K (show (n : Int) - 1 ≠ 0 by omega)
      have a2 := Int.emod_lt_of_pos K (show (0 : Int) < (n : Int) - 1 by omega)
      omega
    have y1 : w10.cell? ⟨g, k, none⟩ = some (.int .i64 (endS f k)) := by
      rw [World.ownsRow.cellAt hown k (by omega), irow_at _ (by omega)]
    have y2 : w10.cell? ⟨g, t, none⟩ = some (.int .i64 (endS f t)) := by
      rw [World.ownsRow.cellAt hown t (by omega), irow_at _ (by omega)]
    have hle := hkm.1 t ht1.1 ht1.2
    have b1 := endS_step (f := f) (n := n) (k := k) (by omega) HV.out hk2
    have b2 := endS_step (f := f) (n := n) (k := t) (by omega) HV.out ht1.2
    have w1 : IntKind.i64.wrap (st - endS f k) = st - endS f k := IntWalk.i64_in _ (by omega)
    have w2' : IntKind.i64.wrap (st - endS f t) = st - endS f t := IntWalk.i64_in _ (by omega)
    have w3' : IntKind.i64.wrap (-(st - endS f k)) = -(st - endS f k) := IntWalk.i64_in _ (by omega)
    have w4' : IntKind.i64.wrap (-(st - endS f t)) = -(st - endS f t) := IntWalk.i64_in _ (by omega)
    have eT : 1 + K % ((n : Int) - 1) = t := ht.symm
    have q2 : decide ((k : Int) < 1) = false := by simp; omega
    have q3 : decide ((n : Int) ≤ (k : Int)) = false := by simp; omega
    clear hown ht hkm
    go_wp2_with fail
    go_ret
    exact ⟨rfl, HB10.out⟩
end Go.Proofs.YtbpifllkimkokaaDoor
