/-
  WALKS: the law of distances rolled.
-/
import Derived.Test.YtmfdgnjhlhkbbaaPoA
namespace Go.Proofs.Ytmfdgnjhlhkbbaa
open Go.RowKit

/-- The greater one, not looked into. -/
def imax (x y : Int) : Int := if y > x then y else x
theorem imax_le (x y : Int) : (y ≤ x ∧ imax x y = x) ∨ (x < y ∧ imax x y = y) := by unfold imax; split <;> omega
theorem run_imax {P : Program} {w : World} (ts : Array TypeId) (t : TypeId) (k k' : IntKind) (x y : Int) : (Builtin.max_ ts t #[.int k x, .int k' y]).run P w = .ok (.int k (imax x y)) w := run_max_int2 _ ts t k k' x y
attribute [-go_sem] run_max_int2
attribute [local go_sem] run_imax

set_option maxRecDepth 100000 in
set_option maxHeartbeats 4000000 in
theorem span_of (w : World) (n x : Int) (h : -1000000 ≤ n ∧ n ≤ 1000000) (h2 : -1000000 ≤ x ∧ x ≤ 1000000) :
    Calls Try.prog 18 #[.int .i64 n, .int .i64 x] w fun e w' => e = .returned (.agg #[.int .i64 n, .int .i64 (n + x)]) ∧ Below w.heap.size w w' := by
  go_enter Try.func18, Try.ntmps18
  go_wp2_with fail
  exact bodyPost_ret (v := .agg #[.int .i64 n, .int .i64 (n + x)]) (by simp [results, Try.f18, go_sem]) rfl ⟨rfl, (Below.refl _ _).alloc (Nat.le_refl _) _⟩

set_option maxRecDepth 100000 in
set_option maxHeartbeats 4000000 in
theorem rolled_of (w : World) (k s0 s1 s2 wd at_ a0 a1 a2 u0 u1 u2 : Int) (hk : 0 ≤ k ∧ k ≤ 65535) (hs0 : 0 ≤ s0 ∧ s0 ≤ 65535) (hs1 : 0 ≤ s1 ∧ s1 ≤ 65535) (hs2 : 0 ≤ s2 ∧ s2 ≤ 65535) (hwd : 0 ≤ wd ∧ wd ≤ 255)
    (hat : -2147483648 ≤ at_ ∧ at_ ≤ 2147483647) (ha0 : -32768 ≤ a0 ∧ a0 ≤ 32767) (ha1 : -32768 ≤ a1 ∧ a1 ≤ 32767) (ha2 : -32768 ≤ a2 ∧ a2 ≤ 32767) (hu0 : 0 ≤ u0 ∧ u0 ≤ 65535) (hu1 : 0 ≤ u1 ∧ u1 ≤ 65535) (hu2 : 0 ≤ u2 ∧ u2 ≤ 65535) :
    Calls Try.prog 3 #[.int .u16 k, .agg #[.int .u16 s0, .int .u16 s1, .int .u16 s2], .int .u8 wd, .int .i32 at_, .agg #[.int .i16 a0, .int .i16 a1, .int .i16 a2], .agg #[.int .u16 u0, .int .u16 u1, .int .u16 u2]] w fun e w' => e = .returned (.bool true) ∧ Below w.heap.size w w' := by
  obtain ⟨lw, elw⟩ : ∃ m, imax 0 (s0 - wd) = m := ⟨_, rfl⟩
  have hlw := imax_le 0 (s0 - wd)
  rw [elw] at hlw
  obtain ⟨Rl, Rh, Wl, Wh, ⟨e1, e2⟩, hq, Cl, Ch, e3, hc⟩ := rolled_math (n := 1 + k) (lo := s0) (ex := s0 + s1) (hi := s0 + s1 + s2) (lo' := lw) (hi' := s0 + s1 + s2 + wd) (by omega) (by omega)
  obtain ⟨m1, em1⟩ : ∃ m, imax a1 0 = m := ⟨_, rfl⟩
  have hm1 := imax_le a1 0
  rw [em1] at hm1
  obtain ⟨m2, em2⟩ : ∃ m, imax a2 0 = m := ⟨_, rfl⟩
  have hm2 := imax_le a2 0
  rw [em2] at hm2
  have hAb : -536870912 ≤ at_.tdiv 4 ∧ at_.tdiv 4 ≤ 536870912 := by
    by_cases h : 0 ≤ at_
    · rw [Int.tdiv_eq_ediv_of_nonneg h]; omega
    · rcases t_neg (x := at_) (b := 4) (by omega) (by decide) with ⟨_, g⟩ | ⟨_, g⟩ <;> omega
  obtain ⟨A, hA⟩ : ∃ A, at_.tdiv 4 = A := ⟨_, rfl⟩
  have hAw : IntKind.i64.wrap (at_.tdiv 4) = A := (IntWalk.i64_in _ (by omega)).trans hA
  rw [hA] at hAb
  obtain ⟨Pl, Ph, e4, hp⟩ := passed_math (A := A) (e := a0) (l := a0 + m1 + m2) (t := a0 + m1) (v := u0 % 10000 + u1 % 10000) (u := u0 % 10000) (h := u0 % 10000 + (u1 % 10000 + u2 % 10000)) hAb (by omega) (by omega)
  have c1 := fun w => odometer_of w (1 + k) s0 (s0 + s1 + s2)
  have c2 := fun w => odometer_of w (1 + k) lw (s0 + s1 + s2 + wd)
  have c3 := fun w => calibrate_of w (1 + k) Rl Rh
  have c4 := fun w => span_of w (u0 % 10000) (u1 % 10000 + u2 % 10000) (by omega) (by omega)
  have c5 := fun w => passed_of w A a0 (a0 + m1 + m2) (u0 % 10000) (u0 % 10000 + (u1 % 10000 + u2 % 10000))
  simp only [e1, e2, e3, e4, resV] at c1 c2 c3 c5
  obtain ⟨pe, hpe⟩ : ∃ p, (1 + k) * (s0 + s1) = p := ⟨_, rfl⟩
  have w1 : IntKind.i64.wrap ((1 + k) * (s0 + s1)) = pe := (IntWalk.i64_in _ (by omega)).trans hpe
  obtain ⟨pv, hpv⟩ : ∃ p, (u0 % 10000 + u1 % 10000) * (a0 + m1) = p := ⟨_, rfl⟩
  have w2 : IntKind.i64.wrap ((u0 % 10000 + u1 % 10000) * (a0 + m1)) = pv := (IntWalk.i64_in _ (by omega)).trans hpv
  rw [hpe] at hq
  rw [hpv] at hp
  have hmb : (0 ≤ m1 ∧ m1 ≤ 32767) ∧ 0 ≤ m2 ∧ m2 ≤ 32767 ∧ 0 ≤ lw ∧ lw ≤ 65535 := by omega
  clear hlw hm1 hm2
  have Hhq := Lib.hid hq
  have Hhc := Lib.hid hc
  have Hhp := Lib.hid hp
  have HhAb := Lib.hid hAb
  have Hhat := Lib.hid hat
  have Hha := Lib.hid (And.intro ha0 (And.intro ha1 ha2))
  have Hhu := Lib.hid (And.intro hu0 (And.intro hu1 hu2))
  have Hw2 := Lib.hid w2
  clear hq hc hp hAb hat ha0 ha1 ha2 hu0 hu1 hu2 w2
  have C1 := Lib.hid c1
  have C2 := Lib.hid c2
  have C3 := Lib.hid c3
  have C4 := Lib.hid c4
  have C5 := Lib.hid c5
  have HAw := Lib.hid hAw
  clear c1 c2 c3 c4 c5 e1 e2 e3 e4 hA hpe hpv hAw
  have b0 := al_old (al_old (World.alloc_heap_new w (.cells #[.int .u16 s0, .int .u16 s1, .int .u16 s2] 23)) (.cells #[.int .i16 a0, .int .i16 a1, .int .i16 a2] 25)) (.cells #[.int .u16 u0, .int .u16 u1, .int .u16 u2] 23)
  have b1 := al_old (al_1 w (.cells #[.int .u16 s0, .int .u16 s1, .int .u16 s2] 23) (.cells #[.int .i16 a0, .int .i16 a1, .int .i16 a2] 25)) (.cells #[.int .u16 u0, .int .u16 u1, .int .u16 u2] 23)
  have b2 := al_2 w (.cells #[.int .u16 s0, .int .u16 s1, .int .u16 s2] 23) (.cells #[.int .i16 a0, .int .i16 a1, .int .i16 a2] 25) (.cells #[.int .u16 u0, .int .u16 u1, .int .u16 u2] 23)
  have hB : Below w.heap.size w (((w.alloc (.cells #[.int .u16 s0, .int .u16 s1, .int .u16 s2] 23)).alloc (.cells #[.int .i16 a0, .int .i16 a1, .int .i16 a2] 25)).alloc (.cells #[.int .u16 u0, .int .u16 u1, .int .u16 u2] 23)) := (((Below.refl _ w).alloc (Nat.le_refl _) _).alloc (by simp) _).alloc (by simp; omega) _
  go_enter Try.func3, Try.ntmps3
  go_wp2_with fail
  generalize ((w.alloc (.cells #[.int .u16 s0, .int .u16 s1, .int .u16 s2] 23)).alloc (.cells #[.int .i16 a0, .int .i16 a1, .int .i16 a2] 25)).alloc (.cells #[.int .u16 u0, .int .u16 u1, .int .u16 u2] 23) = V0 at b0 b1 b2 hB ⊢
  have x0 : V0.cell? ⟨w.heap.size, 0, none⟩ = some (.int .u16 s0) := cell_h b0 rfl
  have x1 : V0.cell? ⟨w.heap.size, 1, none⟩ = some (.int .u16 s1) := cell_h b0 rfl
  have x2 : V0.cell? ⟨w.heap.size, 2, none⟩ = some (.int .u16 s2) := cell_h b0 rfl
  go_quiet (fail)
  go_wp2_with fail
  clear x0 x1 x2
  replace b0 : (V0.drewN nq).heap[w.heap.size]? = _ := b0
  replace b1 : (V0.drewN nq).heap[w.heap.size + 1]? = _ := b1
  replace b2 : (V0.drewN nq).heap[w.heap.size + 1 + 1]? = _ := b2
  replace hB : Below w.heap.size w (V0.drewN nq) := ⟨hB.os, hB.tape, hB.output, hB.size, hB.block⟩
  refine (C1.out _).mono ?_
  rintro e W1 ⟨rfl, hB1⟩
  replace b0 := (hB1.block _ (Array.getElem?_eq_some_iff.1 b0).1).trans b0
  replace b1 := (hB1.block _ (Array.getElem?_eq_some_iff.1 b1).1).trans b1
  replace b2 := (hB1.block _ (Array.getElem?_eq_some_iff.1 b2).1).trans b2
  replace hB := hB.trans (hB1.mono hB.size)
  clear hB1
  have Hb0 := Lib.hid b0
  have Hb1 := Lib.hid b1
  have Hb2 := Lib.hid b2
  have HhB := Lib.hid hB
  clear b0 b1 b2 hB
  go_wp2_with fail
  have b0 := Hb0.out
  have b1 := Hb1.out
  have b2 := Hb2.out
  have hB := HhB.out
  clear Hb0 Hb1 Hb2 HhB
  replace b0 := al_old b0 (.cells #[.int .i64 Rl, .int .i64 Rh] 27)
  replace b1 := al_old b1 (.cells #[.int .i64 Rl, .int .i64 Rh] 27)
  replace b2 := al_old b2 (.cells #[.int .i64 Rl, .int .i64 Rh] 27)
  have d1 := World.alloc_heap_new W1 (.cells #[.int .i64 Rl, .int .i64 Rh] 27)
  replace hB := hB.alloc hB.size (.cells #[.int .i64 Rl, .int .i64 Rh] 27)
  generalize hV : W1.alloc (.cells #[.int .i64 Rl, .int .i64 Rh] 27) = V1 at b0 b1 b2 hB d1 ⊢
  clear hV
  refine (C2.out _).mono ?_
  rintro e W2 ⟨rfl, hB2⟩
  replace b0 := (hB2.block _ (Array.getElem?_eq_some_iff.1 b0).1).trans b0
  replace b1 := (hB2.block _ (Array.getElem?_eq_some_iff.1 b1).1).trans b1
  replace b2 := (hB2.block _ (Array.getElem?_eq_some_iff.1 b2).1).trans b2
  replace d1 := (hB2.block _ (Array.getElem?_eq_some_iff.1 d1).1).trans d1
  replace hB := hB.trans (hB2.mono hB.size)
  clear hB2
  have x0 : ∀ X, (W2.alloc X).cell? ⟨W1.heap.size, 0, none⟩ = some (.int .i64 Rl) := fun X => cell_h (al_old d1 X) rfl
  have x1 : ∀ X, (W2.alloc X).cell? ⟨W1.heap.size, 1, none⟩ = some (.int .i64 Rh) := fun X => cell_h (al_old d1 X) rfl
  have Hb0 := Lib.hid b0
  have Hb1 := Lib.hid b1
  have Hb2 := Lib.hid b2
  have HhB := Lib.hid hB
  have Hd1 := Lib.hid d1
  clear b0 b1 b2 hB d1
  have Hs := Lib.hid (And.intro hs0 (And.intro hs1 (And.intro hs2 hwd)))
  clear hs0 hs1 hs2 hwd elw
  have hq := Hhq.out
  go_wp2_with fail
  clear hq
  clear x0 x1
  have b0 := Hb0.out
  have b1 := Hb1.out
  have b2 := Hb2.out
  have hB := HhB.out
  have d1 := Hd1.out
  clear Hb0 Hb1 Hb2 HhB Hd1
  replace b0 := al_old b0 (.cells #[.int .i64 Wl, .int .i64 Wh] 27)
  replace b1 := al_old b1 (.cells #[.int .i64 Wl, .int .i64 Wh] 27)
  replace b2 := al_old b2 (.cells #[.int .i64 Wl, .int .i64 Wh] 27)
  replace d1 := al_old d1 (.cells #[.int .i64 Wl, .int .i64 Wh] 27)
  have d2 := World.alloc_heap_new W2 (.cells #[.int .i64 Wl, .int .i64 Wh] 27)
  replace hB := hB.alloc hB.size (.cells #[.int .i64 Wl, .int .i64 Wh] 27)
  generalize hV : W2.alloc (.cells #[.int .i64 Wl, .int .i64 Wh] 27) = V2 at b0 b1 b2 hB d1 d2 ⊢
  clear hV
  refine (C3.out _).mono ?_
  rintro e W3 ⟨rfl, hB3⟩
  replace b0 := (hB3.block _ (Array.getElem?_eq_some_iff.1 b0).1).trans b0
  replace b1 := (hB3.block _ (Array.getElem?_eq_some_iff.1 b1).1).trans b1
  replace b2 := (hB3.block _ (Array.getElem?_eq_some_iff.1 b2).1).trans b2
  replace d1 := (hB3.block _ (Array.getElem?_eq_some_iff.1 d1).1).trans d1
  replace d2 := (hB3.block _ (Array.getElem?_eq_some_iff.1 d2).1).trans d2
  replace hB := hB.trans (hB3.mono hB.size)
  clear hB3
  clear d1 d2
  have Hb0 := Lib.hid b0
  have Hb1 := Lib.hid b1
  have Hb2 := Lib.hid b2
  have HhB := Lib.hid hB
  clear b0 b1 b2 hB
  have hc := Hhc.out
  go_wp2_with fail
  clear hc
  have b0 := Hb0.out
  have b1 := Hb1.out
  have b2 := Hb2.out
  have hB := HhB.out
  clear Hb0 Hb1 Hb2 HhB
  replace b0 := al_old b0 (.cells #[.int .i64 Cl, .int .i64 Ch] 27)
  replace b1 := al_old b1 (.cells #[.int .i64 Cl, .int .i64 Ch] 27)
  replace b2 := al_old b2 (.cells #[.int .i64 Cl, .int .i64 Ch] 27)
  have d3 := World.alloc_heap_new W3 (.cells #[.int .i64 Cl, .int .i64 Ch] 27)
  replace hB := hB.alloc hB.size (.cells #[.int .i64 Cl, .int .i64 Ch] 27)
  generalize hV : W3.alloc (.cells #[.int .i64 Cl, .int .i64 Ch] 27) = V3 at b0 b1 b2 hB d3 ⊢
  clear hV
  clear d3
  have x0 : V3.cell? ⟨w.heap.size + 1, 0, none⟩ = some (.int .i16 a0) := cell_h b1 rfl
  have x1 : V3.cell? ⟨w.heap.size + 1, 1, none⟩ = some (.int .i16 a1) := cell_h b1 rfl
  have x2 : V3.cell? ⟨w.heap.size + 1, 2, none⟩ = some (.int .i16 a2) := cell_h b1 rfl
  have y0 : V3.cell? ⟨w.heap.size + 1 + 1, 0, none⟩ = some (.int .u16 u0) := cell_h b2 rfl
  have y1 : V3.cell? ⟨w.heap.size + 1 + 1, 1, none⟩ = some (.int .u16 u1) := cell_h b2 rfl
  have y2 : V3.cell? ⟨w.heap.size + 1 + 1, 2, none⟩ = some (.int .u16 u2) := cell_h b2 rfl
  have HB3 := Lib.hid hB
  clear b0 b1 b2 hB
  obtain ⟨ha0, ha1, ha2⟩ := Hha.out
  obtain ⟨hu0, hu1, hu2⟩ := Hhu.out
  have hat := Hhat.out
  have hAb := HhAb.out
  have hAw := HAw.out
  have w2 := Hw2.out
  go_quiet (fail)
  go_wp2_with fail
  have h3 : Below w.heap.size w (V3.drewN nq) := by have h := HB3.out; exact ⟨h.os, h.tape, h.output, h.size, h.block⟩
  refine (C4.out _).mono ?_
  rintro e W4 ⟨rfl, hB4⟩
  have HB4 := Lib.hid (h3.trans (hB4.mono h3.size))
  clear h3 hB4 x0 x1 x2 y0 y1 y2 HB3 em1 em2
  go_wp2_with fail
  refine (C5.out _).mono ?_
  rintro e W5 ⟨rfl, hB5⟩
  have hB := (HB4.out.trans (hB5.mono HB4.out.size)).alloc (HB4.out.trans (hB5.mono HB4.out.size)).size (.cells #[.int .i64 Pl, .int .i64 Ph] 27)
  have HB5 := Lib.hid hB
  clear hB hB5 HB4
  have hp := Hhp.out
  go_wp2_with fail
  refine (awake_of _).mono ?_
  rintro e W6 ⟨rfl, hB6⟩
  have HB6 := Lib.hid (HB5.out.trans (hB6.mono HB5.out.size))
  clear hB6 HB5
  go_wp2_with fail
  go_ret
  exact ⟨rfl, HB6.out⟩
end Go.Proofs.Ytmfdgnjhlhkbbaa
