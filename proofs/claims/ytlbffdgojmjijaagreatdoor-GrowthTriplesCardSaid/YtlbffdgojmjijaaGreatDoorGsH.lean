/-
  WALKS: the law of GrowthChains.
-/
import Derived.Test.YtlbffdgojmjijaaGreatDoorGsG
import Derived.Test.YtlbffdgojmjijaaGreatDoorGrE
import Derived.DeepKeys
namespace Go.Proofs.YtlbffdgojmjijaaGreatDoor
open Go.RowKit

theorem eq_tri (w : World) (a b c : Int) : Sem.run Tryz.prog (Op.equalIn 10000 54 (.agg #[.int .i64 a, .int .i64 b, .int .i64 c]) (.agg #[.int .i64 a, .int .i64 b, .int .i64 c])) w = .ok true w := by
  obtain ⟨i0, hi, _, _, _⟩ := info_parts x_intv
  have p0 : ∀ v, (part 3 #[.int .i64 a, .int .i64 b, .int .i64 c] 0).run Tryz.prog v = .ok (.int .i64 a) v := fun _ => by kernel_rfl
  have p1 : ∀ v, (part 3 #[.int .i64 a, .int .i64 b, .int .i64 c] 1).run Tryz.prog v = .ok (.int .i64 b) v := fun _ => by kernel_rfl
  have p2 : ∀ v, (part 3 #[.int .i64 a, .int .i64 b, .int .i64 c] 2).run Tryz.prog v = .ok (.int .i64 c) v := fun _ => by kernel_rfl
  have q : ∀ v x, (Op.equalIn 9999 3 (.int .i64 x) (.int .i64 x)).run Tryz.prog v = .ok true v := fun v x => by
    rw [show (9999 : Nat) = 9998 + 1 from rfl, run_equalIn_int v 9998 3 .i64 .i64 x x Tryz.underlying3, beq_self_eq_true]
  rw [show (10000 : Nat) = 9999 + 1 from rfl, run_equalIn_array w 9999 #[.int .i64 a, .int .i64 b, .int .i64 c] #[.int .i64 a, .int .i64 b, .int .i64 c] Tryz.underlying54 hi]
  rw [show List.range 3 = [0, 1, 2] from rfl]
  rw [show Tryz.prog.cellsOf 3 = 1 by kernel_rfl]
  simp [Op.eqItems, p0, p1, p2, q]

set_option maxRecDepth 100000 in
set_option maxHeartbeats 4000000 in
theorem hequal_of (w : World) (a b : Option Addr) (n c d : Nat) (f : Nat → Int) (hn : n ≤ 4611686018427387903) (hS : Sl w 1 a n f) (hT : Sl w 1 b n f) :
    Calls Tryz.prog 21 #[.slice a n c, .slice b n d] w fun e w' => e = .returned (.bool true) ∧ Below w.heap.size w w' := by
  have HS := Lib.hid hS
  have HT := Lib.hid hT
  clear hS hT
  go_enter Tryz.func21, Tryz.ntmps21
  go_wp2_with fail
  go_loopw [13] (fun vk wr => ∃ k : Nat, k ≤ n ∧ vk = .int .i64 k ∧ Hid (Below w.heap.size w wr)) (fun vk _ => n - (intOf vk).toNat)
  case atStart => exact ⟨0, by omega, rfl, Below.refl _ _⟩
  case round =>
    obtain ⟨k, hk, rfl, HB⟩ := hrel
    by_cases hlt : k < n
    · obtain ⟨b1, o1, rfl, h1⟩ := HS.out (by omega)
      obtain ⟨b2, o2, rfl, h2⟩ := HT.out (by omega)
      have d1 := h1.keep HB.out (h1.lt (by omega)) k (by omega)
      have d2 := h2.keep HB.out (h2.lt (by omega)) k (by omega)
      have hkn : (k : Int) < (n : Int) := by omega
      clear h1 h2
      generalize f k = z at d1 d2
      go_upto_region 6 with fail
      go_quiet (fail)
      have HB2 : Hid (Below w.heap.size w (wr.drewN nq)) := below_drewN HB.out nq
      go_wp2_with fail
      exact ⟨⟨k + 1, by omega, by go_num, HB2.out⟩, by simp [intOf]; omega⟩
    · obtain rfl : k = n := by omega
      go_wp2
      go_ret
      exact ⟨rfl, HB.out⟩

set_option maxRecDepth 100000 in
set_option maxHeartbeats 8000000 in
theorem growthChains_law (w : World) (p q : Int) (a b : Option Addr) (n m ca cb : Nat) (f g : Nat → Int) (hn : n ≤ maxLen) (hm : m ≤ maxLen) (hF : Sl w 2 a n f) (hG : Sl w 2 b m g) (hT : Dy.Tab w) (hP : Dy.Pow w) :
    Calls Tryz.prog 5 #[.int .i64 p, .int .i64 q, .slice a n ca, .slice b m cb] w fun e w' => e = .returned (.bool true) ∧ Below w.heap.size w w' := by
  have HK : Hid (∀ V, Below w.heap.size w V → Calls Tryz.prog 8 #[] V fun e w' => e = .returned (.bool true) ∧ Below V.heap.size V w') := fun V hV => awake8_of V (hT.keep hV) (hP.keep hV)
  have HF := Lib.hid hF
  have HG := Lib.hid hG
  clear hT hP hF hG
  have hn2 : (n : Int) ≤ 9223372036854775807 := by unfold maxLen at hn; omega
  have hm2 : (m : Int) ≤ 9223372036854775807 := by unfold maxLen at hm; omega
  by_cases hg : n ≤ 40 ∧ m ≤ 40
  rotate_left
  · rcases (by omega : 40 < n ∨ (n ≤ 40 ∧ 40 < m)) with h | ⟨h1, h2⟩
    all_goals
      go_enter Tryz.func5, Tryz.ntmps5
      go_wp2_with fail
      refine (HK.out w (Below.refl _ _)).mono ?_
      rintro e W3 ⟨rfl, hb⟩
      have HB3 := Lib.hid hb
      clear hb
      go_wp2_with fail
      go_ret
      exact ⟨rfl, HB3.out⟩
  obtain ⟨h1, h2⟩ := hg
  go_enter Tryz.func5, Tryz.ntmps5
  go_wp2_with fail
  refine (gAlone_of w p q a n ca f h1 HF.out).mono ?_
  rintro e W1 ⟨x1, c1, y1, d1, rfl, hx, hy, hb⟩
  have HB1 := Lib.hid hb
  have HX1 := Lib.hid hx
  have HY1 := Lib.hid hy
  clear hx hy hb
  go_wp2_with fail
  refine (hAlone_of W1 p q a n ca f h1 (HF.out.keep (by decide) HB1.out)).mono ?_
  rintro e W2 ⟨x2, c2, y2, d2, rfl, hx, hy, hb⟩
  have HB2 := Lib.hid (low_trans HB1.out hb)
  have HX1' := Lib.hid (sl_keep1 HX1.out hb)
  have HY1' := Lib.hid (sl_keep1 HY1.out hb)
  have HX2 := Lib.hid hx
  have HY2 := Lib.hid hy
  clear hx hy hb HX1 HY1 HB1
  have hl0 : (als (alE p q f n) f n 0 p).length ≤ 24 := by
    unfold als
    split
    · rename_i h0
      have := lone_len f n 0 p.toNat
      unfold alE at h0
      split at h0
      · omega
      · omega
    · simp
  have hl1 : (als (alE p q f n) f n 1 q).length ≤ 24 := by
    unfold als
    split
    · rename_i h0
      have := lone_len f n 1 q.toNat
      unfold alE at h0
      split at h0
      · omega
      · omega
    · simp
  generalize alE p q f n = E1 at *
  generalize als E1 f n 0 p = l0 at *
  generalize als E1 f n 1 q = l1 at *
  go_wp2_with fail
  refine (hequal_of W2 x1 x2 l0.length c1 c2 _ (by omega) HX1'.out HX2.out).mono ?_
  rintro e W3 ⟨rfl, hb⟩
  have HB3 := Lib.hid (low_trans HB2.out hb)
  have HY3 := Lib.hid (sl_keep1 HY1'.out hb)
  have HY4 := Lib.hid (sl_keep1 HY2.out hb)
  clear hb HB2 HX1' HX2 HY1' HY2
  go_wp2_with fail
  refine (hequal_of W3 y1 y2 l1.length d1 d2 _ (by omega) HY3.out HY4.out).mono ?_
  rintro e W4 ⟨rfl, hb⟩
  have HB4 := Lib.hid (low_trans HB3.out hb)
  clear hb HB3 HY3 HY4
  go_wp2_with fail
  refine (gChain_of W4 a b n m ca cb f g h1 h2 (HF.out.keep (by decide) HB4.out) (HG.out.keep (by decide) HB4.out)).mono ?_
  rintro e W5 ⟨x3, c3, rfl, hx, hb⟩
  have HB5 := Lib.hid (low_trans HB4.out hb)
  have HX5 := Lib.hid hx
  clear hx hb HB4
  go_wp2_with fail
  refine (hChain_of W5 a b n m ca cb f g h1 h2 (HF.out.keep (by decide) HB5.out) (HG.out.keep (by decide) HB5.out)).mono ?_
  rintro e W6 ⟨x4, c4, rfl, hx, hb⟩
  have HB6 := Lib.hid (low_trans HB5.out hb)
  have HX6 := Lib.hid (HX5.out.keep (by decide) hb)
  have HY6 := Lib.hid hx
  have hl2 : (chT f g n m).length ≤ 576 := by
    unfold chT
    split
    · rename_i h0
      unfold chE at h0
      split at h0
      · rename_i h24
        have := tris_len f g m h24.2 n
        omega
      · omega
    · simp
  clear hx hb HB5 HX5
  generalize chE f g n m = E2 at *
  generalize chT f g n m = l2 at *
  go_wp2_with fail
  generalize hwq : W6 = Wq at *
  clear hwq
  go_loopw [82] (fun vk wr => ∃ k : Nat, k ≤ l2.length ∧ vk = .int .i64 k ∧ Hid (Below Wq.heap.size Wq wr)) (fun vk _ => l2.length - (intOf vk).toNat)
  case atStart => exact ⟨0, by omega, rfl, Below.refl _ _⟩
  case round =>
    obtain ⟨k, hk, rfl, HB⟩ := hrel
    by_cases hlt : k < l2.length
    · obtain ⟨b1, o1, rfl, j1⟩ := HX6.out (by omega)
      obtain ⟨b2, o2, rfl, j2⟩ := HY6.out (by omega)
      have k1 := j1.keep HB.out (j1.lt (by omega))
      have k2 := j2.keep HB.out (j2.lt (by omega))
      have d0 := k1 (k * 3) (by omega)
      have d1 := k1.at (k * 3) 1 (by omega)
      have d2 := k1.at (k * 3) 2 (by omega)
      have e0 := k2 (k * 3) (by omega)
      have e1 := k2.at (k * 3) 1 (by omega)
      have e2 := k2.at (k * 3) 2 (by omega)
      have hkn : (k : Int) < (l2.length : Int) := by omega
      clear j1 j2 k1 k2
      generalize tf l2 (k * 3) = z0 at d0 e0
      generalize tf l2 (k * 3 + 1) = z1 at d1 e1
      generalize tf l2 (k * 3 + 2) = z2 at d2 e2
      have heq := fun V => eq_tri V z0 z1 z2
      go_upto_region 14 with fail
      go_quiet (fail)
      have HB2 : Hid (Below Wq.heap.size Wq (wr.drewN nq)) := below_drewN HB.out nq
      go_wp2_with fail
      exact ⟨⟨k + 1, by omega, by go_num, HB2.out⟩, by simp [intOf]; omega⟩
    · obtain rfl : k = l2.length := by omega
      have HB7 := Lib.hid (HB6.out.trans (HB.out.mono HB6.out.size))
      go_wp2_with fail
      refine (HK.out wr HB7.out).mono ?_
      rintro e W8 ⟨rfl, hb⟩
      have HB8 := Lib.hid (low_trans HB7.out hb)
      clear hb
      go_wp2_with fail
      go_ret
      exact ⟨rfl, HB8.out⟩
end Go.Proofs.YtlbffdgojmjijaaGreatDoor
