/-
  WALKS: the law of ServiceTraps.
-/
import Derived.Test.YtmdniebedflpbaaGreatDoorVsM
import Derived.Test.YtmdniebedflpbaaGreatDoorVsG
import Derived.Test.YtmdniebedflpbaaGreatDoorVsJ
import Derived.Test.YtmdniebedflpbaaGreatDoorShelf
namespace Go.Proofs.YtmdniebedflpbaaGreatDoor
open Go.RowKit

/-- A block of a type that holds a trap. -/
def Bt (W : World) (b : Nat) (T : TypeId) (t : Tp) : Prop := W.heap[b]? = some (.cells #[.bool t.m, .bool t.k, .bool t.v, .bool t.u, .bool t.d, .int .i64 t.p, .int .i64 t.g, .int .i64 t.i] T (0, 0))
theorem Bt.keep {W W' : World} {b : Nat} {T : TypeId} {t : Tp} (h : Bt W b T t) (hb : Below W.heap.size W W') : Bt W' b T t := (hb.block _ (Array.getElem?_eq_some_iff.1 h).1).trans h
theorem Bt.al {W : World} {b : Nat} {T : TypeId} {t : Tp} (h : Bt W b T t) (o : Obj) : Bt (W.alloc o) b T t := al_old h o
theorem stepK_of (t u : Tp) (c r : Int) (h : t.step c = (u, r)) (W : World) :
    Calls Tryz.prog 9 #[.agg #[.bool t.m, .bool t.k, .bool t.v, .bool t.u, .bool t.d, .int .i64 t.p, .int .i64 t.g, .int .i64 t.i], .int .i64 c] W fun e w' => e = .returned (.tuple #[.agg #[.bool u.m, .bool u.k, .bool u.v, .bool u.u, .bool u.d, .int .i64 u.p, .int .i64 u.g, .int .i64 u.i], .int .i64 r]) ∧ Below W.heap.size W w' := by
  have q := step_of W t c
  rw [h] at q
  exact q
theorem rstepK_of (t u : Tp) (c r : Int) (h : t.step c = (u, r)) (W : World) :
    Calls Tryz.prog 10 #[.agg #[.bool t.m, .bool t.k, .bool t.v, .bool t.u, .bool t.d, .int .i64 t.p, .int .i64 t.g, .int .i64 t.i], .int .i64 c] W fun e w' => e = .returned (.tuple #[.agg #[.bool u.m, .bool u.k, .bool u.v, .bool u.u, .bool u.d, .int .i64 u.p, .int .i64 u.g, .int .i64 u.i], .int .i64 r]) ∧ Below W.heap.size W w' := by
  have q := rstep_of W t c
  rw [h] at q
  exact q
theorem routeK_of (t : Tp) (R : List Int) (r : Int) (h : t.rt = (R, r)) (W : World) :
    Calls Tryz.prog 11 #[.agg #[.bool t.m, .bool t.k, .bool t.v, .bool t.u, .bool t.d, .int .i64 t.p, .int .i64 t.g, .int .i64 t.i]] W fun e W' => ∃ x c, e = .returned (.tuple #[.slice x R.length c, .int .i64 r]) ∧ SlO W' 0 x R.length (fun i => R.getD i 0) ∧ Below W.heap.size W W' := by
  refine (route_of W t).mono ?_
  rintro e W' ⟨v, rfl, hO, hB⟩
  rw [h] at hO ⊢
  obtain ⟨x, c, rfl, hS⟩ := own_irw hO
  refine ⟨x, c, rfl, fun hn => ?_, hB⟩
  obtain ⟨b, o, e, _, hc⟩ := hS hn
  exact ⟨b, o, e, Nat.zero_le _, hc⟩
theorem rrouteK_of (t : Tp) (R : List Int) (r : Int) (h : t.rt = (R, r)) (W : World) :
    Calls Tryz.prog 12 #[.agg #[.bool t.m, .bool t.k, .bool t.v, .bool t.u, .bool t.d, .int .i64 t.p, .int .i64 t.g, .int .i64 t.i]] W fun e W' => ∃ x c, e = .returned (.tuple #[.slice x R.length c, .int .i64 r]) ∧ SlO W' 0 x R.length (fun i => R.getD i 0) ∧ Below W.heap.size W W' := by
  refine (rroute_of W t).mono ?_
  rintro e W' ⟨v, rfl, hO, hB⟩
  rw [h] at hO ⊢
  obtain ⟨x, c, rfl, hS⟩ := own_irw hO
  refine ⟨x, c, rfl, fun hn => ?_, hB⟩
  obtain ⟨b, o, e, _, hc⟩ := hS hn
  exact ⟨b, o, e, Nat.zero_le _, hc⟩
theorem Tp.rt_len (t : Tp) : t.rt.1.length ≤ 16 := by
  cases h : t.safe
  · rcases t.rt_ways with ⟨_, _, e⟩ | ⟨_, _, _, e⟩ | ⟨_, _, h2, _⟩ | ⟨_, _, h2, _⟩
    · rw [e]; decide
    · rw [e]; decide
    · exact absurd (h2.symm.trans h) (by decide)
    · exact absurd (h2.symm.trans h) (by decide)
  · exact (Tp.route_fine h).2.1
/-- slices.Equal of a list with itself. -/
theorem eqK (R : List Int) (hR : R.length ≤ 16) (W : World) (x1 x2 : Option Addr) (c1 c2 : Nat) (h1 : SlO W 0 x1 R.length (fun i => R.getD i 0)) (h2 : SlO W 0 x2 R.length (fun i => R.getD i 0)) :
    Calls Tryz.prog 17 #[.slice x1 R.length c1, .slice x2 R.length c2] W fun e w' => e = .returned (.bool true) ∧ Below W.heap.size W w' := by
  by_cases hn : R.length = 0
  · have q := Tryz.slices_Equal_int_empty x1 x2 c1 R.length c2 W (by omega)
    rw [hn] at q ⊢
    refine q.mono ?_
    rintro e w' ⟨rfl, rfl⟩
    exact ⟨rfl, Below.refl _ _⟩
  · obtain ⟨b1, o1, rfl, _, hc1⟩ := h1 (by omega)
    obtain ⟨b2, o2, rfl, _, hc2⟩ := h2 (by omega)
    refine (Tryz.slices_Equal_int b1 o1 R.length c1 b2 o2 R.length c2 R R W (Nat.le_refl _) (Nat.le_refl _) (by omega) (by omega) hc1 hc2).mono ?_
    rintro e w' ⟨rfl, q, rfl⟩
    exact ⟨by simp, rfl, rfl, rfl, Nat.le_refl _, fun _ _ => rfl⟩

set_option maxRecDepth 100000 in
set_option maxHeartbeats 16000000 in
theorem serviceTraps_law (w : World) (t : Tp) (c : Int) (hG : Gl w) :
    Calls Tryz.prog 3 #[t.val, .int .i64 c] w fun e w' => e = .returned (.bool true) ∧ Below w.heap.size w w' := by
  have HA : Hid (∀ W, Below w.heap.size w W → Calls Tryz.prog 18 #[] W fun e w' => e = .returned (.bool true) ∧ Below W.heap.size W w') := fun W hW => awake10_of W (hG.keep hW)
  clear hG
  have HC1 : Hid (∀ W, Calls Tryz.prog 13 #[.agg #[.bool t.m, .bool t.k, .bool t.v, .bool t.u, .bool t.d, .int .i64 t.p, .int .i64 t.g, .int .i64 t.i]] W fun e w' => e = .returned (.int .i64 t.err) ∧ Below W.heap.size W w') := fun W => checkTrap_of W t
  have HC2 : Hid (∀ W, Calls Tryz.prog 14 #[.agg #[.bool t.m, .bool t.k, .bool t.v, .bool t.u, .bool t.d, .int .i64 t.p, .int .i64 t.g, .int .i64 t.i]] W fun e w' => e = .returned (.int .i64 t.err) ∧ Below W.heap.size W w') := fun W => rcheckTrap_of W t
  have HS1 : Hid (∀ W, Calls Tryz.prog 15 #[.agg #[.bool t.m, .bool t.k, .bool t.v, .bool t.u, .bool t.d, .int .i64 t.p, .int .i64 t.g, .int .i64 t.i]] W fun e w' => e = .returned (.bool t.safe) ∧ Below W.heap.size W w') := fun W => safe_of W t
  have HS2 : Hid (∀ W, Calls Tryz.prog 16 #[.agg #[.bool t.m, .bool t.k, .bool t.v, .bool t.u, .bool t.d, .int .i64 t.p, .int .i64 t.g, .int .i64 t.i]] W fun e w' => e = .returned (.bool t.safe) ∧ Below W.heap.size W w') := fun W => rsafe_of W t
  obtain ⟨e0, he0⟩ : ∃ e0, t.err = e0 := ⟨_, rfl⟩
  rw [he0] at HC1 HC2
  obtain ⟨s0, hs0⟩ : ∃ s0, t.safe = s0 := ⟨_, rfl⟩
  rw [hs0] at HS1 HS2
  obtain ⟨⟨u, r⟩, hst⟩ : ∃ x, t.step c = x := ⟨_, rfl⟩
  have hRl := t.rt_len
  obtain ⟨⟨R, g⟩, hrt⟩ : ∃ x, t.rt = x := ⟨_, rfl⟩
  rw [hrt] at hRl
  have HP1 := Lib.hid (fun W => stepK_of t u c r hst W)
  have HP2 := Lib.hid (fun W => rstepK_of t u c r hst W)
  have HR1 := Lib.hid (fun W => routeK_of t R g hrt W)
  have HR2 := Lib.hid (fun W => rrouteK_of t R g hrt W)
  clear he0 hs0 hst hrt
  dsimp only [Tp.val]
  go_enter Tryz.func3, Tryz.ntmps3
  go_upto_region 2 with fail
  have hB := ((Below.refl w.heap.size w).alloc (Nat.le_refl _) (.cells #[.bool t.m, .bool t.k, .bool t.v, .bool t.u, .bool t.d, .int .i64 t.p, .int .i64 t.g, .int .i64 t.i] 23)).alloc (by simp) (.cells #[.bool t.m, .bool t.k, .bool t.v, .bool t.u, .bool t.d, .int .i64 t.p, .int .i64 t.g, .int .i64 t.i] 24)
  have h1 : Bt _ w.heap.size 23 t := al_old (new_heap w (.cells #[.bool t.m, .bool t.k, .bool t.v, .bool t.u, .bool t.d, .int .i64 t.p, .int .i64 t.g, .int .i64 t.i] 23)) (.cells #[.bool t.m, .bool t.k, .bool t.v, .bool t.u, .bool t.d, .int .i64 t.p, .int .i64 t.g, .int .i64 t.i] 24)
  have h2 : Bt _ (w.heap.size + 1) 24 t := al_1 w (.cells #[.bool t.m, .bool t.k, .bool t.v, .bool t.u, .bool t.d, .int .i64 t.p, .int .i64 t.g, .int .i64 t.i] 23) (.cells #[.bool t.m, .bool t.k, .bool t.v, .bool t.u, .bool t.d, .int .i64 t.p, .int .i64 t.g, .int .i64 t.i] 24)
  generalize (w.alloc (.cells #[.bool t.m, .bool t.k, .bool t.v, .bool t.u, .bool t.d, .int .i64 t.p, .int .i64 t.g, .int .i64 t.i] 23)).alloc (.cells #[.bool t.m, .bool t.k, .bool t.v, .bool t.u, .bool t.d, .int .i64 t.p, .int .i64 t.g, .int .i64 t.i] 24) = W1 at hB h1 h2 ⊢
  obtain ⟨b2, hb2⟩ : ∃ b2, w.heap.size + 1 = b2 := ⟨_, rfl⟩
  rw [hb2] at h2 ⊢
  have hb2l : w.heap.size < b2 := by omega
  have K1_1 := Lib.hid h1
  have K2_1 := Lib.hid h2
  have HB_1 := Lib.hid hB
  clear hB h1 h2 hb2
  have s0 := cell_h (k := 0) K1_1.out rfl
  have s1 := cell_h (k := 1) K1_1.out rfl
  have s2 := cell_h (k := 2) K1_1.out rfl
  have s3 := cell_h (k := 3) K1_1.out rfl
  have s4 := cell_h (k := 4) K1_1.out rfl
  have s5 := cell_h (k := 5) K1_1.out rfl
  have s6 := cell_h (k := 6) K1_1.out rfl
  have s7 := cell_h (k := 7) K1_1.out rfl
  go_wp2_with fail
  refine (HP1.out _).mono ?_
  rintro e V2 ⟨rfl, hB⟩
  have K1_2 := Lib.hid (K1_1.out.keep hB)
  have K2_2 := Lib.hid (K2_1.out.keep hB)
  have HB_2 := Lib.hid (low_trans HB_1.out hB)
  clear hB HP1 K1_1 K2_1 HB_1 s0 s1 s2 s3 s4 s5 s6 s7
  go_upto_region 3 with fail
  have hn : Bt (World.alloc V2 (.cells #[.bool u.m, .bool u.k, .bool u.v, .bool u.u, .bool u.d, .int .i64 u.p, .int .i64 u.g, .int .i64 u.i] 23)) V2.heap.size 23 u := new_heap _ _
  have K1_3 := Lib.hid (K1_2.out.al (.cells #[.bool u.m, .bool u.k, .bool u.v, .bool u.u, .bool u.d, .int .i64 u.p, .int .i64 u.g, .int .i64 u.i] 23))
  have K2_3 := Lib.hid (K2_2.out.al (.cells #[.bool u.m, .bool u.k, .bool u.v, .bool u.u, .bool u.d, .int .i64 u.p, .int .i64 u.g, .int .i64 u.i] 23))
  have HB_3 := Lib.hid (HB_2.out.alloc HB_2.out.size (.cells #[.bool u.m, .bool u.k, .bool u.v, .bool u.u, .bool u.d, .int .i64 u.p, .int .i64 u.g, .int .i64 u.i] 23))
  generalize World.alloc V2 (.cells #[.bool u.m, .bool u.k, .bool u.v, .bool u.u, .bool u.d, .int .i64 u.p, .int .i64 u.g, .int .i64 u.i] 23) = V3 at hn HB_3 K1_3 K2_3 ⊢
  obtain ⟨b3, hb3⟩ : ∃ b3, V2.heap.size = b3 := ⟨_, rfl⟩
  rw [hb3] at hn ⊢
  have K3_3 := Lib.hid hn
  clear hn hb3 HB_2 K1_2 K2_2
  have s0 := cell_h (k := 0) K2_3.out rfl
  have s1 := cell_h (k := 1) K2_3.out rfl
  have s2 := cell_h (k := 2) K2_3.out rfl
  have s3 := cell_h (k := 3) K2_3.out rfl
  have s4 := cell_h (k := 4) K2_3.out rfl
  have s5 := cell_h (k := 5) K2_3.out rfl
  have s6 := cell_h (k := 6) K2_3.out rfl
  have s7 := cell_h (k := 7) K2_3.out rfl
  go_wp2_with fail
  refine (HP2.out _).mono ?_
  rintro e V4 ⟨rfl, hB⟩
  have K1_4 := Lib.hid (K1_3.out.keep hB)
  have K2_4 := Lib.hid (K2_3.out.keep hB)
  have K3_4 := Lib.hid (K3_3.out.keep hB)
  have HB_4 := Lib.hid (low_trans HB_3.out hB)
  clear hB HP2 K1_3 K2_3 K3_3 HB_3 s0 s1 s2 s3 s4 s5 s6 s7
  go_upto_region 4 with fail
  have hn : Bt (World.alloc V4 (.cells #[.bool u.m, .bool u.k, .bool u.v, .bool u.u, .bool u.d, .int .i64 u.p, .int .i64 u.g, .int .i64 u.i] 24)) V4.heap.size 24 u := new_heap _ _
  have K1_5 := Lib.hid (K1_4.out.al (.cells #[.bool u.m, .bool u.k, .bool u.v, .bool u.u, .bool u.d, .int .i64 u.p, .int .i64 u.g, .int .i64 u.i] 24))
  have K2_5 := Lib.hid (K2_4.out.al (.cells #[.bool u.m, .bool u.k, .bool u.v, .bool u.u, .bool u.d, .int .i64 u.p, .int .i64 u.g, .int .i64 u.i] 24))
  have K3_5 := Lib.hid (K3_4.out.al (.cells #[.bool u.m, .bool u.k, .bool u.v, .bool u.u, .bool u.d, .int .i64 u.p, .int .i64 u.g, .int .i64 u.i] 24))
  have HB_5 := Lib.hid (HB_4.out.alloc HB_4.out.size (.cells #[.bool u.m, .bool u.k, .bool u.v, .bool u.u, .bool u.d, .int .i64 u.p, .int .i64 u.g, .int .i64 u.i] 24))
  generalize World.alloc V4 (.cells #[.bool u.m, .bool u.k, .bool u.v, .bool u.u, .bool u.d, .int .i64 u.p, .int .i64 u.g, .int .i64 u.i] 24) = V5 at hn HB_5 K1_5 K2_5 K3_5 ⊢
  obtain ⟨b4, hb4⟩ : ∃ b4, V4.heap.size = b4 := ⟨_, rfl⟩
  rw [hb4] at hn ⊢
  have K4_5 := Lib.hid hn
  clear hn hb4 HB_4 K1_4 K2_4 K3_4
  have s0 := cell_h (k := 0) K1_5.out rfl
  have s1 := cell_h (k := 1) K1_5.out rfl
  have s2 := cell_h (k := 2) K1_5.out rfl
  have s3 := cell_h (k := 3) K1_5.out rfl
  have s4 := cell_h (k := 4) K1_5.out rfl
  have s5 := cell_h (k := 5) K1_5.out rfl
  have s6 := cell_h (k := 6) K1_5.out rfl
  have s7 := cell_h (k := 7) K1_5.out rfl
  go_wp2_with fail
  refine (HR1.out _).mono ?_
  rintro e V6 ⟨x1, c1, rfl, hs1, hB⟩
  have K1_6 := Lib.hid (K1_5.out.keep hB)
  have K2_6 := Lib.hid (K2_5.out.keep hB)
  have K3_6 := Lib.hid (K3_5.out.keep hB)
  have K4_6 := Lib.hid (K4_5.out.keep hB)
  have HB_6 := Lib.hid (low_trans HB_5.out hB)
  clear hB HR1 K1_5 K2_5 K3_5 K4_5 HB_5 s0 s1 s2 s3 s4 s5 s6 s7
  have HL1 := Lib.hid hs1
  clear hs1
  have s0 := cell_h (k := 0) K2_6.out rfl
  have s1 := cell_h (k := 1) K2_6.out rfl
  have s2 := cell_h (k := 2) K2_6.out rfl
  have s3 := cell_h (k := 3) K2_6.out rfl
  have s4 := cell_h (k := 4) K2_6.out rfl
  have s5 := cell_h (k := 5) K2_6.out rfl
  have s6 := cell_h (k := 6) K2_6.out rfl
  have s7 := cell_h (k := 7) K2_6.out rfl
  go_wp2_with fail
  refine (HR2.out _).mono ?_
  rintro e V7 ⟨x2, c2, rfl, hs2, hB⟩
  have K1_7 := Lib.hid (K1_6.out.keep hB)
  have K2_7 := Lib.hid (K2_6.out.keep hB)
  have K3_7 := Lib.hid (K3_6.out.keep hB)
  have K4_7 := Lib.hid (K4_6.out.keep hB)
  have HB_7 := Lib.hid (low_trans HB_6.out hB)
  have hB7 := hB
  clear hB HR2 K1_6 K2_6 K3_6 K4_6 HB_6 s0 s1 s2 s3 s4 s5 s6 s7
  have HL2 := Lib.hid hs2
  have HL3 := Lib.hid (HL1.out.keep hB7)
  clear hs2 HL1
  clear hB7
  go_upto_region 6 with fail
  have K1c0 := cell_h (k := 0) K1_7.out rfl
  have K1c1 := cell_h (k := 1) K1_7.out rfl
  have K1c2 := cell_h (k := 2) K1_7.out rfl
  have K1c3 := cell_h (k := 3) K1_7.out rfl
  have K1c4 := cell_h (k := 4) K1_7.out rfl
  have K1c5 := cell_h (k := 5) K1_7.out rfl
  have K1c6 := cell_h (k := 6) K1_7.out rfl
  have K1c7 := cell_h (k := 7) K1_7.out rfl
  have K2c0 := cell_h (k := 0) K2_7.out rfl
  have K2c1 := cell_h (k := 1) K2_7.out rfl
  have K2c2 := cell_h (k := 2) K2_7.out rfl
  have K2c3 := cell_h (k := 3) K2_7.out rfl
  have K2c4 := cell_h (k := 4) K2_7.out rfl
  have K2c5 := cell_h (k := 5) K2_7.out rfl
  have K2c6 := cell_h (k := 6) K2_7.out rfl
  have K2c7 := cell_h (k := 7) K2_7.out rfl
  have K3c0 := cell_h (k := 0) K3_7.out rfl
  have K3c1 := cell_h (k := 1) K3_7.out rfl
  have K3c2 := cell_h (k := 2) K3_7.out rfl
  have K3c3 := cell_h (k := 3) K3_7.out rfl
  have K3c4 := cell_h (k := 4) K3_7.out rfl
  have K3c5 := cell_h (k := 5) K3_7.out rfl
  have K3c6 := cell_h (k := 6) K3_7.out rfl
  have K3c7 := cell_h (k := 7) K3_7.out rfl
  have K4c0 := cell_h (k := 0) K4_7.out rfl
  have K4c1 := cell_h (k := 1) K4_7.out rfl
  have K4c2 := cell_h (k := 2) K4_7.out rfl
  have K4c3 := cell_h (k := 3) K4_7.out rfl
  have K4c4 := cell_h (k := 4) K4_7.out rfl
  have K4c5 := cell_h (k := 5) K4_7.out rfl
  have K4c6 := cell_h (k := 6) K4_7.out rfl
  have K4c7 := cell_h (k := 7) K4_7.out rfl
  have q1 : (e0 == e0) = true := beq_self_eq_true e0
  have q2 : decide (e0 = e0) = true := decide_eq_true rfl
  have q3 : (s0 == s0) = true := by cases s0 <;> rfl
  have q5 : (r == r) = true := beq_self_eq_true r
  have q7 : (g == g) = true := beq_self_eq_true g
  have L1_7 := HL3
  have L2_7 := HL2
  go_region_held3 (fun W' => W'.cell? ⟨w.heap.size, 0, none⟩ = some (.bool t.m) ∧ W'.cell? ⟨w.heap.size, 1, none⟩ = some (.bool t.k) ∧ W'.cell? ⟨w.heap.size, 2, none⟩ = some (.bool t.v) ∧ W'.cell? ⟨w.heap.size, 3, none⟩ = some (.bool t.u) ∧ W'.cell? ⟨w.heap.size, 4, none⟩ = some (.bool t.d) ∧ W'.cell? ⟨w.heap.size, 5, none⟩ = some (.int .i64 t.p) ∧ W'.cell? ⟨w.heap.size, 6, none⟩ = some (.int .i64 t.g) ∧ W'.cell? ⟨w.heap.size, 7, none⟩ = some (.int .i64 t.i) ∧ W'.cell? ⟨b2, 0, none⟩ = some (.bool t.m) ∧ W'.cell? ⟨b2, 1, none⟩ = some (.bool t.k) ∧ W'.cell? ⟨b2, 2, none⟩ = some (.bool t.v) ∧ W'.cell? ⟨b2, 3, none⟩ = some (.bool t.u) ∧ W'.cell? ⟨b2, 4, none⟩ = some (.bool t.d) ∧ W'.cell? ⟨b2, 5, none⟩ = some (.int .i64 t.p) ∧ W'.cell? ⟨b2, 6, none⟩ = some (.int .i64 t.g) ∧ W'.cell? ⟨b2, 7, none⟩ = some (.int .i64 t.i) ∧ W'.cell? ⟨b3, 0, none⟩ = some (.bool u.m) ∧ W'.cell? ⟨b3, 1, none⟩ = some (.bool u.k) ∧ W'.cell? ⟨b3, 2, none⟩ = some (.bool u.v) ∧ W'.cell? ⟨b3, 3, none⟩ = some (.bool u.u) ∧ W'.cell? ⟨b3, 4, none⟩ = some (.bool u.d) ∧ W'.cell? ⟨b3, 5, none⟩ = some (.int .i64 u.p) ∧ W'.cell? ⟨b3, 6, none⟩ = some (.int .i64 u.g) ∧ W'.cell? ⟨b3, 7, none⟩ = some (.int .i64 u.i) ∧ W'.cell? ⟨b4, 0, none⟩ = some (.bool u.m) ∧ W'.cell? ⟨b4, 1, none⟩ = some (.bool u.k) ∧ W'.cell? ⟨b4, 2, none⟩ = some (.bool u.v) ∧ W'.cell? ⟨b4, 3, none⟩ = some (.bool u.u) ∧ W'.cell? ⟨b4, 4, none⟩ = some (.bool u.d) ∧ W'.cell? ⟨b4, 5, none⟩ = some (.int .i64 u.p) ∧ W'.cell? ⟨b4, 6, none⟩ = some (.int .i64 u.g) ∧ W'.cell? ⟨b4, 7, none⟩ = some (.int .i64 u.i)) (first | (with_reducible assumption) | go_keep) ((first | (go_at_call 13; refine (HC1.out _).mono ?_; rintro e Va ⟨rfl, hB⟩; have HB_a := Lib.hid (low_trans (by first | exact HB_7.out | exact HB_7.out.drew) hB); have K1_a := Lib.hid (Bt.keep (by exact K1_7.out) hB); have K2_a := Lib.hid (Bt.keep (by exact K2_7.out) hB); have K3_a := Lib.hid (Bt.keep (by exact K3_7.out) hB); have K4_a := Lib.hid (Bt.keep (by exact K4_7.out) hB); have L1_a := Lib.hid (SlO.keep (by exact L1_7.out) hB); have L2_a := Lib.hid (SlO.keep (by exact L2_7.out) hB); clear K1c0 K1c1 K1c2 K1c3 K1c4 K1c5 K1c6 K1c7 K2c0 K2c1 K2c2 K2c3 K2c4 K2c5 K2c6 K2c7 K3c0 K3c1 K3c2 K3c3 K3c4 K3c5 K3c6 K3c7 K4c0 K4c1 K4c2 K4c3 K4c4 K4c5 K4c6 K4c7; have K1c0 := cell_h (k := 0) K1_a.out rfl; have K1c1 := cell_h (k := 1) K1_a.out rfl; have K1c2 := cell_h (k := 2) K1_a.out rfl; have K1c3 := cell_h (k := 3) K1_a.out rfl; have K1c4 := cell_h (k := 4) K1_a.out rfl; have K1c5 := cell_h (k := 5) K1_a.out rfl; have K1c6 := cell_h (k := 6) K1_a.out rfl; have K1c7 := cell_h (k := 7) K1_a.out rfl; have K2c0 := cell_h (k := 0) K2_a.out rfl; have K2c1 := cell_h (k := 1) K2_a.out rfl; have K2c2 := cell_h (k := 2) K2_a.out rfl; have K2c3 := cell_h (k := 3) K2_a.out rfl; have K2c4 := cell_h (k := 4) K2_a.out rfl; have K2c5 := cell_h (k := 5) K2_a.out rfl; have K2c6 := cell_h (k := 6) K2_a.out rfl; have K2c7 := cell_h (k := 7) K2_a.out rfl; have K3c0 := cell_h (k := 0) K3_a.out rfl; have K3c1 := cell_h (k := 1) K3_a.out rfl; have K3c2 := cell_h (k := 2) K3_a.out rfl; have K3c3 := cell_h (k := 3) K3_a.out rfl; have K3c4 := cell_h (k := 4) K3_a.out rfl; have K3c5 := cell_h (k := 5) K3_a.out rfl; have K3c6 := cell_h (k := 6) K3_a.out rfl; have K3c7 := cell_h (k := 7) K3_a.out rfl; have K4c0 := cell_h (k := 0) K4_a.out rfl; have K4c1 := cell_h (k := 1) K4_a.out rfl; have K4c2 := cell_h (k := 2) K4_a.out rfl; have K4c3 := cell_h (k := 3) K4_a.out rfl; have K4c4 := cell_h (k := 4) K4_a.out rfl; have K4c5 := cell_h (k := 5) K4_a.out rfl; have K4c6 := cell_h (k := 6) K4_a.out rfl; have K4c7 := cell_h (k := 7) K4_a.out rfl; clear hB) | (go_at_call 14; refine (HC2.out _).mono ?_; rintro e Vb ⟨rfl, hB⟩; have HB_b := Lib.hid (low_trans (by first | exact HB_a.out | exact HB_a.out.drew) hB); have K1_b := Lib.hid (Bt.keep (by exact K1_a.out) hB); have K2_b := Lib.hid (Bt.keep (by exact K2_a.out) hB); have K3_b := Lib.hid (Bt.keep (by exact K3_a.out) hB); have K4_b := Lib.hid (Bt.keep (by exact K4_a.out) hB); have L1_b := Lib.hid (SlO.keep (by exact L1_a.out) hB); have L2_b := Lib.hid (SlO.keep (by exact L2_a.out) hB); clear K1c0 K1c1 K1c2 K1c3 K1c4 K1c5 K1c6 K1c7 K2c0 K2c1 K2c2 K2c3 K2c4 K2c5 K2c6 K2c7 K3c0 K3c1 K3c2 K3c3 K3c4 K3c5 K3c6 K3c7 K4c0 K4c1 K4c2 K4c3 K4c4 K4c5 K4c6 K4c7; have K1c0 := cell_h (k := 0) K1_b.out rfl; have K1c1 := cell_h (k := 1) K1_b.out rfl; have K1c2 := cell_h (k := 2) K1_b.out rfl; have K1c3 := cell_h (k := 3) K1_b.out rfl; have K1c4 := cell_h (k := 4) K1_b.out rfl; have K1c5 := cell_h (k := 5) K1_b.out rfl; have K1c6 := cell_h (k := 6) K1_b.out rfl; have K1c7 := cell_h (k := 7) K1_b.out rfl; have K2c0 := cell_h (k := 0) K2_b.out rfl; have K2c1 := cell_h (k := 1) K2_b.out rfl; have K2c2 := cell_h (k := 2) K2_b.out rfl; have K2c3 := cell_h (k := 3) K2_b.out rfl; have K2c4 := cell_h (k := 4) K2_b.out rfl; have K2c5 := cell_h (k := 5) K2_b.out rfl; have K2c6 := cell_h (k := 6) K2_b.out rfl; have K2c7 := cell_h (k := 7) K2_b.out rfl; have K3c0 := cell_h (k := 0) K3_b.out rfl; have K3c1 := cell_h (k := 1) K3_b.out rfl; have K3c2 := cell_h (k := 2) K3_b.out rfl; have K3c3 := cell_h (k := 3) K3_b.out rfl; have K3c4 := cell_h (k := 4) K3_b.out rfl; have K3c5 := cell_h (k := 5) K3_b.out rfl; have K3c6 := cell_h (k := 6) K3_b.out rfl; have K3c7 := cell_h (k := 7) K3_b.out rfl; have K4c0 := cell_h (k := 0) K4_b.out rfl; have K4c1 := cell_h (k := 1) K4_b.out rfl; have K4c2 := cell_h (k := 2) K4_b.out rfl; have K4c3 := cell_h (k := 3) K4_b.out rfl; have K4c4 := cell_h (k := 4) K4_b.out rfl; have K4c5 := cell_h (k := 5) K4_b.out rfl; have K4c6 := cell_h (k := 6) K4_b.out rfl; have K4c7 := cell_h (k := 7) K4_b.out rfl; clear hB) | (go_at_call 15; refine (HS1.out _).mono ?_; rintro e Vc ⟨rfl, hB⟩; have HB_c := Lib.hid (low_trans (by first | exact HB_b.out | exact HB_b.out.drew) hB); have K1_c := Lib.hid (Bt.keep (by exact K1_b.out) hB); have K2_c := Lib.hid (Bt.keep (by exact K2_b.out) hB); have K3_c := Lib.hid (Bt.keep (by exact K3_b.out) hB); have K4_c := Lib.hid (Bt.keep (by exact K4_b.out) hB); have L1_c := Lib.hid (SlO.keep (by exact L1_b.out) hB); have L2_c := Lib.hid (SlO.keep (by exact L2_b.out) hB); clear K1c0 K1c1 K1c2 K1c3 K1c4 K1c5 K1c6 K1c7 K2c0 K2c1 K2c2 K2c3 K2c4 K2c5 K2c6 K2c7 K3c0 K3c1 K3c2 K3c3 K3c4 K3c5 K3c6 K3c7 K4c0 K4c1 K4c2 K4c3 K4c4 K4c5 K4c6 K4c7; have K1c0 := cell_h (k := 0) K1_c.out rfl; have K1c1 := cell_h (k := 1) K1_c.out rfl; have K1c2 := cell_h (k := 2) K1_c.out rfl; have K1c3 := cell_h (k := 3) K1_c.out rfl; have K1c4 := cell_h (k := 4) K1_c.out rfl; have K1c5 := cell_h (k := 5) K1_c.out rfl; have K1c6 := cell_h (k := 6) K1_c.out rfl; have K1c7 := cell_h (k := 7) K1_c.out rfl; have K2c0 := cell_h (k := 0) K2_c.out rfl; have K2c1 := cell_h (k := 1) K2_c.out rfl; have K2c2 := cell_h (k := 2) K2_c.out rfl; have K2c3 := cell_h (k := 3) K2_c.out rfl; have K2c4 := cell_h (k := 4) K2_c.out rfl; have K2c5 := cell_h (k := 5) K2_c.out rfl; have K2c6 := cell_h (k := 6) K2_c.out rfl; have K2c7 := cell_h (k := 7) K2_c.out rfl; have K3c0 := cell_h (k := 0) K3_c.out rfl; have K3c1 := cell_h (k := 1) K3_c.out rfl; have K3c2 := cell_h (k := 2) K3_c.out rfl; have K3c3 := cell_h (k := 3) K3_c.out rfl; have K3c4 := cell_h (k := 4) K3_c.out rfl; have K3c5 := cell_h (k := 5) K3_c.out rfl; have K3c6 := cell_h (k := 6) K3_c.out rfl; have K3c7 := cell_h (k := 7) K3_c.out rfl; have K4c0 := cell_h (k := 0) K4_c.out rfl; have K4c1 := cell_h (k := 1) K4_c.out rfl; have K4c2 := cell_h (k := 2) K4_c.out rfl; have K4c3 := cell_h (k := 3) K4_c.out rfl; have K4c4 := cell_h (k := 4) K4_c.out rfl; have K4c5 := cell_h (k := 5) K4_c.out rfl; have K4c6 := cell_h (k := 6) K4_c.out rfl; have K4c7 := cell_h (k := 7) K4_c.out rfl; clear hB) | (go_at_call 16; refine (HS2.out _).mono ?_; rintro e Vd ⟨rfl, hB⟩; have HB_d := Lib.hid (low_trans (by first | exact HB_c.out | exact HB_c.out.drew) hB); have K1_d := Lib.hid (Bt.keep (by exact K1_c.out) hB); have K2_d := Lib.hid (Bt.keep (by exact K2_c.out) hB); have K3_d := Lib.hid (Bt.keep (by exact K3_c.out) hB); have K4_d := Lib.hid (Bt.keep (by exact K4_c.out) hB); have L1_d := Lib.hid (SlO.keep (by exact L1_c.out) hB); have L2_d := Lib.hid (SlO.keep (by exact L2_c.out) hB); clear K1c0 K1c1 K1c2 K1c3 K1c4 K1c5 K1c6 K1c7 K2c0 K2c1 K2c2 K2c3 K2c4 K2c5 K2c6 K2c7 K3c0 K3c1 K3c2 K3c3 K3c4 K3c5 K3c6 K3c7 K4c0 K4c1 K4c2 K4c3 K4c4 K4c5 K4c6 K4c7; have K1c0 := cell_h (k := 0) K1_d.out rfl; have K1c1 := cell_h (k := 1) K1_d.out rfl; have K1c2 := cell_h (k := 2) K1_d.out rfl; have K1c3 := cell_h (k := 3) K1_d.out rfl; have K1c4 := cell_h (k := 4) K1_d.out rfl; have K1c5 := cell_h (k := 5) K1_d.out rfl; have K1c6 := cell_h (k := 6) K1_d.out rfl; have K1c7 := cell_h (k := 7) K1_d.out rfl; have K2c0 := cell_h (k := 0) K2_d.out rfl; have K2c1 := cell_h (k := 1) K2_d.out rfl; have K2c2 := cell_h (k := 2) K2_d.out rfl; have K2c3 := cell_h (k := 3) K2_d.out rfl; have K2c4 := cell_h (k := 4) K2_d.out rfl; have K2c5 := cell_h (k := 5) K2_d.out rfl; have K2c6 := cell_h (k := 6) K2_d.out rfl; have K2c7 := cell_h (k := 7) K2_d.out rfl; have K3c0 := cell_h (k := 0) K3_d.out rfl; have K3c1 := cell_h (k := 1) K3_d.out rfl; have K3c2 := cell_h (k := 2) K3_d.out rfl; have K3c3 := cell_h (k := 3) K3_d.out rfl; have K3c4 := cell_h (k := 4) K3_d.out rfl; have K3c5 := cell_h (k := 5) K3_d.out rfl; have K3c6 := cell_h (k := 6) K3_d.out rfl; have K3c7 := cell_h (k := 7) K3_d.out rfl; have K4c0 := cell_h (k := 0) K4_d.out rfl; have K4c1 := cell_h (k := 1) K4_d.out rfl; have K4c2 := cell_h (k := 2) K4_d.out rfl; have K4c3 := cell_h (k := 3) K4_d.out rfl; have K4c4 := cell_h (k := 4) K4_d.out rfl; have K4c5 := cell_h (k := 5) K4_d.out rfl; have K4c6 := cell_h (k := 6) K4_d.out rfl; have K4c7 := cell_h (k := 7) K4_d.out rfl; clear hB) | (go_at_call 17; refine (eqK R hRl _ _ _ _ _ (by exact L1_d.out) (by exact L2_d.out)).mono ?_; rintro e Ve ⟨rfl, hB⟩; have HB_e := Lib.hid (low_trans (by first | exact HB_d.out | exact HB_d.out.drew) hB); have K1_e := Lib.hid (Bt.keep (by exact K1_d.out) hB); have K2_e := Lib.hid (Bt.keep (by exact K2_d.out) hB); have K3_e := Lib.hid (Bt.keep (by exact K3_d.out) hB); have K4_e := Lib.hid (Bt.keep (by exact K4_d.out) hB); have L1_e := Lib.hid (SlO.keep (by exact L1_d.out) hB); have L2_e := Lib.hid (SlO.keep (by exact L2_d.out) hB); clear K1c0 K1c1 K1c2 K1c3 K1c4 K1c5 K1c6 K1c7 K2c0 K2c1 K2c2 K2c3 K2c4 K2c5 K2c6 K2c7 K3c0 K3c1 K3c2 K3c3 K3c4 K3c5 K3c6 K3c7 K4c0 K4c1 K4c2 K4c3 K4c4 K4c5 K4c6 K4c7; have K1c0 := cell_h (k := 0) K1_e.out rfl; have K1c1 := cell_h (k := 1) K1_e.out rfl; have K1c2 := cell_h (k := 2) K1_e.out rfl; have K1c3 := cell_h (k := 3) K1_e.out rfl; have K1c4 := cell_h (k := 4) K1_e.out rfl; have K1c5 := cell_h (k := 5) K1_e.out rfl; have K1c6 := cell_h (k := 6) K1_e.out rfl; have K1c7 := cell_h (k := 7) K1_e.out rfl; have K2c0 := cell_h (k := 0) K2_e.out rfl; have K2c1 := cell_h (k := 1) K2_e.out rfl; have K2c2 := cell_h (k := 2) K2_e.out rfl; have K2c3 := cell_h (k := 3) K2_e.out rfl; have K2c4 := cell_h (k := 4) K2_e.out rfl; have K2c5 := cell_h (k := 5) K2_e.out rfl; have K2c6 := cell_h (k := 6) K2_e.out rfl; have K2c7 := cell_h (k := 7) K2_e.out rfl; have K3c0 := cell_h (k := 0) K3_e.out rfl; have K3c1 := cell_h (k := 1) K3_e.out rfl; have K3c2 := cell_h (k := 2) K3_e.out rfl; have K3c3 := cell_h (k := 3) K3_e.out rfl; have K3c4 := cell_h (k := 4) K3_e.out rfl; have K3c5 := cell_h (k := 5) K3_e.out rfl; have K3c6 := cell_h (k := 6) K3_e.out rfl; have K3c7 := cell_h (k := 7) K3_e.out rfl; have K4c0 := cell_h (k := 0) K4_e.out rfl; have K4c1 := cell_h (k := 1) K4_e.out rfl; have K4c2 := cell_h (k := 2) K4_e.out rfl; have K4c3 := cell_h (k := 3) K4_e.out rfl; have K4c4 := cell_h (k := 4) K4_e.out rfl; have K4c5 := cell_h (k := 5) K4_e.out rfl; have K4c6 := cell_h (k := 6) K4_e.out rfl; have K4c7 := cell_h (k := 7) K4_e.out rfl; clear hB) | (go_at_call 18; refine (HA.out _ (by first | exact HB_e.out | exact HB_e.out.drew)).mono ?_; rintro e Vf ⟨rfl, hB⟩; have HB_f := Lib.hid (low_trans (by first | exact HB_e.out | exact HB_e.out.drew) hB); have K1_f := Lib.hid (Bt.keep (by exact K1_e.out) hB); have K2_f := Lib.hid (Bt.keep (by exact K2_e.out) hB); have K3_f := Lib.hid (Bt.keep (by exact K3_e.out) hB); have K4_f := Lib.hid (Bt.keep (by exact K4_e.out) hB); have L1_f := Lib.hid (SlO.keep (by exact L1_e.out) hB); have L2_f := Lib.hid (SlO.keep (by exact L2_e.out) hB); clear K1c0 K1c1 K1c2 K1c3 K1c4 K1c5 K1c6 K1c7 K2c0 K2c1 K2c2 K2c3 K2c4 K2c5 K2c6 K2c7 K3c0 K3c1 K3c2 K3c3 K3c4 K3c5 K3c6 K3c7 K4c0 K4c1 K4c2 K4c3 K4c4 K4c5 K4c6 K4c7; have K1c0 := cell_h (k := 0) K1_f.out rfl; have K1c1 := cell_h (k := 1) K1_f.out rfl; have K1c2 := cell_h (k := 2) K1_f.out rfl; have K1c3 := cell_h (k := 3) K1_f.out rfl; have K1c4 := cell_h (k := 4) K1_f.out rfl; have K1c5 := cell_h (k := 5) K1_f.out rfl; have K1c6 := cell_h (k := 6) K1_f.out rfl; have K1c7 := cell_h (k := 7) K1_f.out rfl; have K2c0 := cell_h (k := 0) K2_f.out rfl; have K2c1 := cell_h (k := 1) K2_f.out rfl; have K2c2 := cell_h (k := 2) K2_f.out rfl; have K2c3 := cell_h (k := 3) K2_f.out rfl; have K2c4 := cell_h (k := 4) K2_f.out rfl; have K2c5 := cell_h (k := 5) K2_f.out rfl; have K2c6 := cell_h (k := 6) K2_f.out rfl; have K2c7 := cell_h (k := 7) K2_f.out rfl; have K3c0 := cell_h (k := 0) K3_f.out rfl; have K3c1 := cell_h (k := 1) K3_f.out rfl; have K3c2 := cell_h (k := 2) K3_f.out rfl; have K3c3 := cell_h (k := 3) K3_f.out rfl; have K3c4 := cell_h (k := 4) K3_f.out rfl; have K3c5 := cell_h (k := 5) K3_f.out rfl; have K3c6 := cell_h (k := 6) K3_f.out rfl; have K3c7 := cell_h (k := 7) K3_f.out rfl; have K4c0 := cell_h (k := 0) K4_f.out rfl; have K4c1 := cell_h (k := 1) K4_f.out rfl; have K4c2 := cell_h (k := 2) K4_f.out rfl; have K4c3 := cell_h (k := 3) K4_f.out rfl; have K4c4 := cell_h (k := 4) K4_f.out rfl; have K4c5 := cell_h (k := 5) K4_f.out rfl; have K4c6 := cell_h (k := 6) K4_f.out rfl; have K4c7 := cell_h (k := 7) K4_f.out rfl; clear hB)))
  all_goals
    go_wp2_with fail
    go_ret
    exact ⟨rfl, by first | exact HB_f.out | exact HB_f.out.drew⟩
end Go.Proofs.YtmdniebedflpbaaGreatDoor
