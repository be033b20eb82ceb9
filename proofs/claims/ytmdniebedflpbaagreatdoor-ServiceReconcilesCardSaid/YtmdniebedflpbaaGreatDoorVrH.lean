/-
  WALKS: the law of ServiceReconciles.
-/
import Derived.Test.YtmdniebedflpbaaGreatDoorVrE
import Derived.Test.YtmdniebedflpbaaGreatDoorVrG
namespace Go.Proofs.YtmdniebedflpbaaGreatDoor
open Go.RowKit

theorem rc_mem {D : Nat → Nat → Int} {n m : Nat} {near : Int} {i k : Nat} (h : (i, k) ∈ rcU D n m near n) : 0 < n ∧ 0 < m := by
  obtain ⟨h1, h2, _⟩ := mem_rcU.1 h
  dsimp only at h1 h2
  simp only [isP, Bool.and_eq_true, decide_eq_true_eq] at h2
  refine ⟨by omega, ?_⟩
  rcases Nat.eq_zero_or_pos m with rfl | hm
  · exact absurd h2.1.1 (show ¬ (0 : Int) ≤ -1 by decide)
  · exact hm

set_option maxRecDepth 100000 in
set_option maxHeartbeats 16000000 in
theorem serviceReconciles_law (w : World) (a b' : Option Addr) (n m ca cb : Nat) (f h : Nat → Int) (near more : Int) (hn : n ≤ maxLen) (hm : m ≤ maxLen) (hSa : Sl w 6 a n f) (hSb : Sl w 6 b' m h) (hna : a = none → n = 0 ∧ ca = 0) (hnb : b' = none → m = 0 ∧ cb = 0) (hmore : 0 ≤ more ∧ more ≤ 65535) (hG : Gl w) :
    Calls Tryz.prog 7 #[.slice a n ca, .slice b' m cb, .int .i64 near, .int .u16 more] w fun e w' => e = .returned (.bool true) ∧ Below w.heap.size w w' := by
  have hmx : maxLen = 9223372036854775807 := rfl
  have HA : Hid (∀ W, Below w.heap.size w W → Calls Tryz.prog 18 #[] W fun e w' => e = .returned (.bool true) ∧ Below W.heap.size W w') := fun W hW => awake10_of W (hG.keep hW)
  have HW0 : Hid (Below w.heap.size w w) := Below.refl _ _
  clear hG
  by_cases h1 : 30 < n
  · have h2 : (30 : Int) < (n : Int) := by omega
    go_enter Tryz.func7, Tryz.ntmps7
    go_wp2_with fail
    refine (HA.out _ HW0.out).mono ?_
    rintro e V ⟨rfl, hB⟩
    have HB := Lib.hid hB
    clear hB HA HW0
    go_wp2_with fail
    go_ret
    exact ⟨rfl, HB.out⟩
  have h1' : ¬ (30 : Int) < (n : Int) := by omega
  by_cases h2 : 30 < m
  · have h3 : (30 : Int) < (m : Int) := by omega
    go_enter Tryz.func7, Tryz.ntmps7
    go_wp2_with fail
    refine (HA.out _ HW0.out).mono ?_
    rintro e V ⟨rfl, hB⟩
    have HB := Lib.hid hB
    clear hB HA HW0
    go_wp2_with fail
    go_ret
    exact ⟨rfl, HB.out⟩
  have h2' : ¬ (30 : Int) < (m : Int) := by omega
  obtain ⟨L, E, hW⟩ := rcW_some n m f h near
  have HR1 : Hid (Calls Tryz.prog 25 #[.slice a n ca, .slice b' m cb, .int .i64 near] w (RcEnd w L E)) := rec_of w a b' n m ca cb f h near L E hn hm hSa hSb hW
  have HR2 : Hid (∀ W, Below w.heap.size w W → Calls Tryz.prog 26 #[.slice a n ca, .slice b' m cb, .int .i64 near] W (RcEnd W L E)) := fun W hb => rrec_of W a b' n m ca cb f h near L E hn hm (hSa.keep (by decide) hb) (hSb.keep (by decide) hb) hna hnb hW
  have hLl : L.length ≤ 1000 := by
    rcases hW with ⟨_, rfl, _⟩ | ⟨_, _, _, rfl, _⟩ | ⟨_, _, _, _, _, rfl, _⟩ | ⟨h24, _, _, _, _, rfl, _⟩
    · simp
    · simp
    · simp
    · have := len_rcU (fun i k => dst (Fd.at f i) (Fd.at h k)) n m near n
      omega
  have HWR := Lib.hid hW
  have HSa := Lib.hid hSa
  have HSb := Lib.hid hSb
  obtain ⟨ll, hll⟩ : ∃ z, L.length = z := ⟨_, rfl⟩
  rw [hll] at hLl
  have HLL := Lib.hid hll
  clear hW hSa hSb hna hnb hll
  go_enter Tryz.func7, Tryz.ntmps7
  go_wp2_with fail
  refine HR1.out.mono ?_
  rintro e V1 ⟨v1, rfl, hO, hB⟩
  obtain ⟨a1, c1, rfl, hP⟩ := own_ps hO
  rw [HLL.out]
  have P1 := Lib.hid hP
  have HB1 := Lib.hid hB
  clear hO hP hB HR1 HW0
  go_wp2_with fail
  refine (HR2.out _ HB1.out).mono ?_
  rintro e V2 ⟨v2, rfl, hO, hB⟩
  obtain ⟨a2, c2, rfl, hP⟩ := own_ps hO
  rw [HLL.out]
  have P2 := Lib.hid hP
  have P1' := Lib.hid (P1.out.keep hB)
  have HB2 := Lib.hid (low_trans HB1.out hB)
  clear hO hP hB HR2 HB1 P1
  have hee : (E == E) = true := beq_self_eq_true E
  go_wp2_with fail
  refine (eqps_of _ a1 a2 c1 c2 ll L HLL.out hLl P1'.out P2.out).mono ?_
  rintro e V3 ⟨rfl, hB⟩
  have P3 := Lib.hid (P1'.out.keep hB)
  have HB3 := Lib.hid (low_trans HB2.out hB)
  clear hB HB2 P1' P2 hee
  by_cases hE : E = 0
  rotate_left
  · have hE2 : (E == 0) = false := by simpa using hE
    go_wp2_with fail
    refine (HA.out _ HB3.out).mono ?_
    rintro e V ⟨rfl, hB⟩
    have HB := Lib.hid (low_trans HB3.out hB)
    clear hB HA HB3
    go_wp2_with fail
    go_ret
    exact ⟨rfl, HB.out⟩
  subst hE
  by_cases hnr : 1099511627776 < near
  · go_wp2_with fail
    refine (HA.out _ HB3.out).mono ?_
    rintro e V ⟨rfl, hB⟩
    have HB := Lib.hid (low_trans HB3.out hB)
    clear hB HA HB3
    go_wp2_with fail
    go_ret
    exact ⟨rfl, HB.out⟩
  obtain ⟨hn24, hm24, hfa, hfb, hpos, hL⟩ : n ≤ 24 ∧ m ≤ 24 ∧ allOk n f ∧ allOk m h ∧ 0 ≤ near ∧ L = rcU (fun i k => dst (Fd.at f i) (Fd.at h k)) n m near n := by
    rcases HWR.out with ⟨_, _, h⟩ | ⟨_, _, _, _, h⟩ | ⟨_, _, _, _, _, _, h⟩ | ⟨g1, g2, g3, g4, g5, g6, _⟩
    · exact absurd h (by decide)
    · exact absurd h (by decide)
    · exact absurd h (by decide)
    · exact ⟨g1, g2, g3, g4, g5, g6⟩
  clear HWR
  have HR3 : Hid (∀ W, Below w.heap.size w W → Calls Tryz.prog 25 #[.slice a n ca, .slice b' m cb, .int .i64 (near + more)] W (RcEnd W (rcU (fun i k => dst (Fd.at f i) (Fd.at h k)) n m (near + more) n) 0)) := fun W hb => rec_of W a b' n m ca cb f h (near + more) _ 0 hn hm (HSa.out.keep (by decide) hb) (HSb.out.keep (by decide) hb) (.inr (.inr (.inr ⟨hn24, hm24, hfa, hfb, by omega, rfl, rfl⟩)))
  have hsw : (fun i k => dst (Fd.at h i) (Fd.at f k)) = fun x y => (fun i k => dst (Fd.at f i) (Fd.at h k)) y x := by
    funext i k
    exact dst_comm _ _
  have HR4 : Hid (∀ W, Below w.heap.size w W → Calls Tryz.prog 25 #[.slice b' m cb, .slice a n ca, .int .i64 near] W (RcEnd W (rcU (fun x y => (fun i k => dst (Fd.at f i) (Fd.at h k)) y x) m n near m) 0)) := fun W hb => rec_of W b' a m n cb ca h f near _ 0 hm hn (HSb.out.keep (by decide) hb) (HSa.out.keep (by decide) hb) (.inr (.inr (.inr ⟨hm24, hn24, hfb, hfa, hpos, by rw [← hsw], rfl⟩)))
  obtain ⟨D, hD⟩ : ∃ D, (fun i k => dst (Fd.at f i) (Fd.at h k)) = D := ⟨_, rfl⟩
  rw [hD] at HR3 HR4 hL
  clear hsw hD
  have HDS : Hid (∀ W, Below w.heap.size w W → 0 < n → 0 < m → Calls Tryz.prog 29 #[.slice a n ca, .slice b' m cb] W fun e W' => (∃ r : Bool, e = .returned (.bool r)) ∧ Below W.heap.size W W') := fun W hb g1 g2 => distances_of W a b' n m ca cb f h g1 g2 hn24 hm24 (HSa.out.keep (by decide) hb) (HSb.out.keep (by decide) hb) hfa hfb
  have HL := Lib.hid hL
  clear hL hfa hfb
  have HWI : Hid (near ≤ near + more) := Lib.hid (by omega)
  have q1 : IntKind.i64.wrap more = more := IntWalk.i64_in _ (by omega)
  have q2 : IntKind.i64.wrap (near + more) = near + more := IntWalk.i64_in _ (by omega)
  go_wp2_with fail
  refine (HR3.out _ HB3.out).mono ?_
  rintro e V4 ⟨v4, rfl, hO, hB⟩
  obtain ⟨a4, c4, rfl, hP⟩ := own_ps hO
  have hl4 := len_rcU D n m (near + more) n
  have HWD : Hid (∀ p ∈ L, p ∈ rcU D n m (near + more) n) := fun p hp => rc_wide HWI.out (by rw [HL.out] at hp; exact hp)
  obtain ⟨L4, hL4⟩ : ∃ z, rcU D n m (near + more) n = z := ⟨_, rfl⟩
  rw [hL4] at hP hl4 HWD ⊢
  obtain ⟨l4, hll4⟩ : ∃ z, L4.length = z := ⟨_, rfl⟩
  rw [hll4] at hl4 ⊢
  have HLL4 := Lib.hid hll4
  have P4 := Lib.hid hP
  have P3' := Lib.hid (P3.out.keep hB)
  have HB4 := Lib.hid (low_trans HB3.out hB)
  clear hO hP hB HR3 HB3 P3 hL4 hll4 q1 q2
  go_wp2_with fail
  go_loopw [15, 72] (fun v15 v72 wr => ∃ j : Nat, j ≤ ll ∧ v72 = .int .i64 (j : Int) ∧ Hid (Below V4.heap.size V4 wr)) (fun _ v72 _ => ll - (intOf v72).toNat)
  case atStart => exact ⟨0, by omega, rfl, Lib.hid (Below.refl _ _)⟩
  case round =>
    obtain ⟨j, hj, rfl, HK⟩ := hrel
    by_cases hlt : j < ll
    · have hjl : (j : Int) < (ll : Int) := by omega
      have hwi : IntKind.i64.wrap ((j : Int) + 1) = (j : Int) + 1 := IntWalk.i64_in _ (by omega)
      obtain ⟨g, rfl, hg⟩ := P3'.out.keep HK.out (by rw [HLL.out]; omega)
      obtain ⟨⟨i, k⟩, hp⟩ : ∃ p, L[j]? = some p := ⟨_, List.getElem?_eq_getElem (by rw [HLL.out]; omega)⟩
      obtain ⟨d0, d1⟩ := hg j _ hp
      have HM := Lib.hid (HWD.out _ (List.mem_of_getElem? hp))
      clear hg hp
      dsimp only at d0 d1
      go_upto_region 15 with fail
      have k0 := new_heap wr (.cells #[.int .i64 (i : Int), .int .i64 (k : Int)] 64)
      have HK1 := Lib.hid (HK.out.alloc HK.out.size (.cells #[.int .i64 (i : Int), .int .i64 (k : Int)] 64))
      generalize wr.alloc (.cells #[.int .i64 (i : Int), .int .i64 (k : Int)] 64) = W1 at k0 HK1 ⊢
      generalize wr.heap.size = g15 at k0 ⊢
      have s0 : W1.cell? ⟨g15, 0, none⟩ = some (.int .i64 (i : Int)) := cell_h (k := 0) k0 rfl
      have s1 : W1.cell? ⟨g15, 1, none⟩ = some (.int .i64 (k : Int)) := cell_h (k := 1) k0 rfl
      clear k0 d0 d1 HK
      go_wp2_with fail
      refine (contains_of _ a4 c4 l4 L4 i k HLL4.out (by omega) (P4.out.keep HK1.out) HM.out).mono ?_
      rintro e W2 ⟨rfl, hB⟩
      have HK2 := Lib.hid (low_trans HK1.out hB)
      clear hB HK1 s0 s1
      go_wp2_with fail
      exact ⟨⟨j + 1, by omega, by go_num, HK2⟩, by simp [intOf]; omega⟩
    · have hjl : ¬ (j : Int) < (ll : Int) := by omega
      have P5 := Lib.hid (P3'.out.keep HK.out)
      have HB5 := Lib.hid (low_trans HB4.out HK.out)
      clear HK P3' HB4 P4
      go_wp2_with fail
      refine (HR4.out _ HB5.out).mono ?_
      rintro e V6 ⟨v6, rfl, hO, hB⟩
      obtain ⟨a6, c6, rfl, hP⟩ := own_ps hO
      have hl6 : (rcU (fun x y => D y x) m n near m).length = ll := by rw [rc_len, ← HL.out, HLL.out]
      have HSW : Hid (∀ i k, (i, k) ∈ L → (k, i) ∈ rcU (fun x y => D y x) m n near m) := fun i k hp => rc_swap (by rw [HL.out] at hp; exact hp)
      rw [hl6]
      obtain ⟨L6, hL6⟩ : ∃ z, rcU (fun x y => D y x) m n near m = z := ⟨_, rfl⟩
      rw [hL6] at hP hl6 HSW
      have P6 := Lib.hid hP
      have P7 := Lib.hid (P5.out.keep hB)
      have HB6 := Lib.hid (low_trans HB5.out hB)
      have HL6 := Lib.hid hl6
      clear hO hP hB HR4 HB5 P5 hL6 hl6 hlt hj
      have hqq : ((ll : Int) != (ll : Int)) = false := by simp
      go_wp2_with fail
      go_loopw [18, 104] (fun v18 v104 wr => ∃ j : Nat, j ≤ ll ∧ v104 = .int .i64 (j : Int) ∧ Hid (Below V6.heap.size V6 wr)) (fun _ v104 _ => ll - (intOf v104).toNat)
      case atStart => exact ⟨0, by omega, rfl, Lib.hid (Below.refl _ _)⟩
      case round =>
        obtain ⟨j, hj, rfl, HK⟩ := hrel
        by_cases hlt : j < ll
        · have hjl : (j : Int) < (ll : Int) := by omega
          have hwi : IntKind.i64.wrap ((j : Int) + 1) = (j : Int) + 1 := IntWalk.i64_in _ (by omega)
          obtain ⟨g, rfl, hg⟩ := P7.out.keep HK.out (by rw [HLL.out]; omega)
          obtain ⟨⟨i, k⟩, hp⟩ : ∃ p, L[j]? = some p := ⟨_, List.getElem?_eq_getElem (by rw [HLL.out]; omega)⟩
          obtain ⟨d0, d1⟩ := hg j _ hp
          have hmem := List.mem_of_getElem? hp
          have HM := Lib.hid (HSW.out _ _ hmem)
          have hnm := rc_mem (by rw [HL.out] at hmem; exact hmem)
          clear hg hp hmem
          dsimp only at d0 d1
          go_upto_region 24 with fail
          have k0 := new_heap wr (.cells #[.int .i64 (i : Int), .int .i64 (k : Int)] 64)
          have HK1 := Lib.hid (HK.out.alloc HK.out.size (.cells #[.int .i64 (i : Int), .int .i64 (k : Int)] 64))
          generalize wr.alloc (.cells #[.int .i64 (i : Int), .int .i64 (k : Int)] 64) = W1 at k0 HK1 ⊢
          generalize wr.heap.size = g18 at k0 ⊢
          have K0 := Lib.hid k0
          clear k0 d0 d1 HK
          go_wp2_with fail
          refine (HDS.out _ (low_trans HB6.out HK1.out) hnm.1 hnm.2).mono ?_
          rintro e W2 ⟨⟨r, rfl⟩, hB⟩
          have HK2 := Lib.hid (low_trans HK1.out hB)
          have k1 := (hB.block _ (Array.getElem?_eq_some_iff.1 K0.out).1).trans K0.out
          have s0 : W2.cell? ⟨g18, 0, none⟩ = some (.int .i64 (i : Int)) := cell_h (k := 0) k1 rfl
          have s1 : W2.cell? ⟨g18, 1, none⟩ = some (.int .i64 (k : Int)) := cell_h (k := 1) k1 rfl
          clear hB HK1 K0 k1
          cases r with
          | true =>
            go_wp2_with fail
            refine (contains_of _ a6 c6 ll L6 k i HL6.out hLl (P6.out.keep HK2.out) HM.out).mono ?_
            rintro e W3 ⟨rfl, hB⟩
            have HK3 := Lib.hid (low_trans HK2.out hB)
            clear hB HK2 s0 s1
            go_wp2_with fail
            exact ⟨⟨j + 1, by omega, by go_num, HK3⟩, by simp [intOf]; omega⟩
          | false =>
            clear s0 s1
            go_wp2_with fail
            exact ⟨⟨j + 1, by omega, by go_num, HK2⟩, by simp [intOf]; omega⟩
        · have hjl : ¬ (j : Int) < (ll : Int) := by omega
          have HB7 := Lib.hid (low_trans HB6.out HK.out)
          clear HK HB6
          go_wp2_with fail
          refine (HA.out _ HB7.out).mono ?_
          rintro e V ⟨rfl, hB⟩
          have HB := Lib.hid (low_trans HB7.out hB)
          clear hB HA HB7
          go_wp2_with fail
          go_ret
          exact ⟨rfl, HB.out⟩
end Go.Proofs.YtmdniebedflpbaaGreatDoor
