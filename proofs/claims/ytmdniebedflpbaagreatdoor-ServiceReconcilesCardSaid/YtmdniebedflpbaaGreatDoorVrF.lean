/-
  WORDS: slices of pairs; WALKS: slices.Equal, slices.Contains of them.
-/
import Derived.Test.YtmdniebedflpbaaGreatDoorVrD
import Derived.Test.YtmdniebedflpbaaGreatDoorVuL
namespace Go.Proofs.YtmdniebedflpbaaGreatDoor
open Go.RowKit

theorem eqi (v : World) (x y : Int) : (Op.equalIn 9999 3 (.int .i64 x) (.int .i64 y)).run Tryz.prog v = .ok (decide (x = y)) v := by
  rw [show (9999 : Nat) = 9998 + 1 from rfl, run_equalIn_int v 9998 3 .i64 .i64 x y Tryz.underlying3]
  rfl
theorem eq_pair (w : World) (a b a' b' : Int) : Sem.run Tryz.prog (Op.equalIn 10000 64 (.agg #[.int .i64 a, .int .i64 b]) (.agg #[.int .i64 a', .int .i64 b'])) w = .ok (decide (a = a') && decide (b = b')) w := by
  obtain ⟨i0, hi, _, _, _⟩ := info_parts x_int
  have p0 : ∀ v a b, (part 3 #[.int .i64 a, .int .i64 b] 0).run Tryz.prog v = .ok (.int .i64 a) v := fun _ _ _ => by kernel_rfl
  have p1 : ∀ v a b, (part 3 #[.int .i64 a, .int .i64 b] 1).run Tryz.prog v = .ok (.int .i64 b) v := fun _ _ _ => by kernel_rfl
  rw [show (10000 : Nat) = 9999 + 1 from rfl, run_equalIn_array w 9999 #[.int .i64 a, .int .i64 b] #[.int .i64 a', .int .i64 b'] Tryz.underlying64 hi]
  rw [show List.range 2 = [0, 1] from rfl, show Tryz.prog.cellsOf 3 = 1 by kernel_rfl]
  by_cases h1 : a = a' <;> by_cases h2 : b = b' <;> simp [Op.eqItems, p0, p1, eqi, h1, h2]
/-- A list of pairs that lies at an address. -/
def Ps (W : World) (a : Option Addr) (L : List (Nat × Nat)) : Prop := 0 < L.length → ∃ g, a = some ⟨g, 0, none⟩ ∧ ∀ j p, L[j]? = some p → W.cell? ⟨g, j * 2, none⟩ = some (.int .i64 (p.1 : Int)) ∧ W.cell? ⟨g, j * 2 + 1, none⟩ = some (.int .i64 (p.2 : Int))
theorem Ps.keep {W W' : World} {a : Option Addr} {L : List (Nat × Nat)} (h : Ps W a L) (hb : Below W.heap.size W W') : Ps W' a L := by
  intro hl
  obtain ⟨g, rfl, hc⟩ := h hl
  refine ⟨g, rfl, fun j p hp => ?_⟩
  obtain ⟨c0, c1⟩ := hc j p hp
  exact ⟨(hb.cell (p := ⟨g, j * 2, none⟩) (World.block_lt_of_cell? _ _ c0)).trans c0, (hb.cell (p := ⟨g, j * 2 + 1, none⟩) (World.block_lt_of_cell? _ _ c1)).trans c1⟩
theorem prw_get : ∀ (L : List (Nat × Nat)) (j : Nat) (p : Nat × Nat), L[j]? = some p → (prw L)[j * 2]? = some (.int .i64 (p.1 : Int)) ∧ (prw L)[j * 2 + 1]? = some (.int .i64 (p.2 : Int))
  | [], j, p, h => by simp at h
  | q :: L, 0, p, h => by
    obtain rfl : q = p := by simpa using h
    exact ⟨rfl, rfl⟩
  | q :: L, j + 1, p, h => by
    have := prw_get L j p (by simpa using h)
    have e : prw (q :: L) = .int .i64 (q.1 : Int) :: .int .i64 (q.2 : Int) :: prw L := rfl
    rw [e, show (j + 1) * 2 = j * 2 + 1 + 1 by omega, show j * 2 + 1 + 1 + 1 = (j * 2 + 1) + 1 + 1 from rfl]
    simpa using this
theorem own_ps {W : World} {B : Nat} {v : Value} {L : List (Nat × Nat)} (h : W.ownsRow B 64 2 v L.length (prw L)) : ∃ a c, v = .slice a L.length c ∧ Ps W a L := by
  have hh := h
  obtain ⟨hl, h⟩ := h
  rcases h with ⟨rfl, h0⟩ | ⟨g, cap, cur, rfl, _, _, _, _, _, _⟩
  · rw [h0]
    exact ⟨none, 0, rfl, fun h => by omega⟩
  · refine ⟨_, _, rfl, fun _ => ⟨g, rfl, fun j p hp => ?_⟩⟩
    obtain ⟨c0, c1⟩ := prw_get L j p hp
    have d0 := hh.cells (g := g) rfl _ _ c0
    have d1 := hh.cells (g := g) rfl _ _ c1
    rw [show ∀ j, (⟨g, 0, none⟩ : Addr).add j = ⟨g, j, none⟩ from fun j => by unfold Addr.add; split <;> simp_all] at d0 d1
    exact ⟨d0, d1⟩

set_option maxRecDepth 100000 in
set_option maxHeartbeats 8000000 in
theorem eqps_of (w : World) (a b : Option Addr) (c d n : Nat) (L : List (Nat × Nat)) (hn : L.length = n) (hl : n ≤ 1000) (hA : Ps w a L) (hB : Ps w b L) :
    Calls Tryz.prog 27 #[.slice a n c, .slice b n d] w fun e W => e = .returned (.bool true) ∧ Below w.heap.size w W := by
  have HA := Lib.hid hA
  have HB := Lib.hid hB
  clear hA hB
  go_enter Tryz.func27, Tryz.ntmps27
  go_wp2_with fail
  go_loopw [5, 13] (fun v5 v13 wr => ∃ j : Nat, j ≤ n ∧ v13 = .int .i64 (j : Int) ∧ Hid (Below w.heap.size w wr)) (fun _ v13 _ => n - (intOf v13).toNat)
  case atStart => exact ⟨0, by omega, rfl, Lib.hid (Below.refl _ _)⟩
  case round =>
    obtain ⟨j, hj, rfl, HW⟩ := hrel
    by_cases hlt : j < n
    · have hjn : (j : Int) < (n : Int) := by omega
      have hwi : IntKind.i64.wrap ((j : Int) + 1) = (j : Int) + 1 := IntWalk.i64_in _ (by omega)
      obtain ⟨g, rfl, hg⟩ := HA.out.keep HW.out (by omega)
      obtain ⟨g2, rfl, hg2⟩ := HB.out.keep HW.out (by omega)
      obtain ⟨p, hp⟩ : ∃ p, L[j]? = some p := ⟨_, List.getElem?_eq_getElem (by omega)⟩
      obtain ⟨c0, c1⟩ := hg j p hp
      obtain ⟨d0, d1⟩ := hg2 j p hp
      have heq := fun V => eq_pair V p.1 p.2 p.1 p.2
      have q1 : decide ((p.1 : Int) = p.1) = true := decide_eq_true rfl
      have q2 : decide ((p.2 : Int) = p.2) = true := decide_eq_true rfl
      clear hg hg2 hp
      go_upto_region 6 with fail
      go_quiet (fail)
      have HWq := Lib.hid (below_drewN HW.out nq)
      generalize wr.drewN nq = Wq at HWq ⊢
      clear c0 c1 d0 d1 HW
      go_wp2_with fail
      exact ⟨⟨j + 1, by omega, by go_num, HWq⟩, by simp [intOf]; omega⟩
    · obtain rfl : j = n := by omega
      go_wp2_with fail
      go_ret
      exact ⟨rfl, HW.out⟩

set_option maxRecDepth 100000 in
set_option maxHeartbeats 8000000 in
theorem index_of (w : World) (a : Option Addr) (c n : Nat) (L : List (Nat × Nat)) (i k : Nat) (hn : L.length = n) (hl : n ≤ 1000) (hA : Ps w a L) (hm : (i, k) ∈ L) :
    Calls Tryz.prog 61 #[.slice a n c, .agg #[.int .i64 (i : Int), .int .i64 (k : Int)]] w fun e W => (∃ r : Nat, e = .returned (.int .i64 (r : Int))) ∧ Below w.heap.size w W := by
  have HA := Lib.hid hA
  have HM := Lib.hid hm
  clear hA hm
  go_enter Tryz.func61, Tryz.ntmps61
  go_upto_region 1 with fail
  have k0 := new_heap w (.cells #[.int .i64 (i : Int), .int .i64 (k : Int)] 64)
  have hb := (Below.refl w.heap.size w).alloc (Nat.le_refl _) (.cells #[.int .i64 (i : Int), .int .i64 (k : Int)] 64)
  generalize w.alloc (.cells #[.int .i64 (i : Int), .int .i64 (k : Int)] 64) = W0 at k0 hb ⊢
  have K0 := Lib.hid k0
  have HB0 := Lib.hid hb
  clear k0 hb
  go_wp2_with fail
  go_loopw [5, 8] (fun v5 v8 wr => ∃ j : Nat, j ≤ n ∧ v8 = .int .i64 (j : Int) ∧ Hid ((i, k) ∉ L.take j) ∧ Hid (wr.heap[w.heap.size]? = some (.cells #[.int .i64 (i : Int), .int .i64 (k : Int)] 64 (0, 0))) ∧ Hid (Below w.heap.size w wr)) (fun _ v8 _ => n - (intOf v8).toNat)
  case atStart => exact ⟨0, by omega, rfl, Lib.hid (by simp), K0, HB0⟩
  case round =>
    obtain ⟨j, hj, rfl, HT, K, HW⟩ := hrel
    by_cases hlt : j < n
    · have hjn : (j : Int) < (n : Int) := by omega
      have hwi : IntKind.i64.wrap ((j : Int) + 1) = (j : Int) + 1 := IntWalk.i64_in _ (by omega)
      obtain ⟨g, rfl, hg⟩ := HA.out.keep HW.out (by omega)
      obtain ⟨p, hp⟩ : ∃ p, L[j]? = some p := ⟨_, List.getElem?_eq_getElem (by omega)⟩
      obtain ⟨c0, c1⟩ := hg j p hp
      have s0 : wr.cell? ⟨w.heap.size, 0, none⟩ = some (.int .i64 (i : Int)) := cell_h (k := 0) K.out rfl
      have s1 : wr.cell? ⟨w.heap.size, 1, none⟩ = some (.int .i64 (k : Int)) := cell_h (k := 1) K.out rfl
      have heq := fun V => eq_pair V i k p.1 p.2
      have HP := Lib.hid hp
      clear hg hp
      obtain ⟨bb, hbb⟩ : ∃ bb, (decide ((i : Int) = p.1) && decide ((k : Int) = p.2)) = bb := ⟨_, rfl⟩
      have HBB := Lib.hid hbb
      simp only [hbb] at heq
      clear hbb
      go_upto_region 4 with fail
      go_quiet (fail)
      have HWq := Lib.hid (below_drewN HW.out nq)
      have Kq : Hid ((wr.drewN nq).heap[w.heap.size]? = some (.cells #[.int .i64 (i : Int), .int .i64 (k : Int)] 64 (0, 0))) := K.out
      generalize wr.drewN nq = Wq at HWq Kq ⊢
      clear c0 c1 s0 s1 HW K heq
      cases bb with
      | true =>
        go_wp2_with fail
        (try simp only [Exit.inBlock, Exit.then])
        first | go_ret | go_ret2
        exact ⟨⟨j, rfl⟩, HWq.out⟩
      | false =>
        go_wp2_with fail
        exact ⟨⟨j + 1, by omega, by go_num, Lib.hid (by
          rw [List.take_add_one, HP.out]
          intro h
          rcases List.mem_append.1 h with h | h
          · exact HT.out h
          · obtain rfl : (i, k) = p := by simpa using h
            have := HBB.out
            simp at this), Kq, HWq⟩, by simp [intOf]; omega⟩
    · have e : L.take j = L := List.take_of_length_le (by omega)
      exact absurd HM.out (by rw [← e]; exact HT.out)

set_option maxRecDepth 100000 in
set_option maxHeartbeats 8000000 in
theorem contains_of (w : World) (a : Option Addr) (c n : Nat) (L : List (Nat × Nat)) (i k : Nat) (hn : L.length = n) (hl : n ≤ 1000) (hA : Ps w a L) (hm : (i, k) ∈ L) :
    Calls Tryz.prog 28 #[.slice a n c, .agg #[.int .i64 (i : Int), .int .i64 (k : Int)]] w fun e W => e = .returned (.bool true) ∧ Below w.heap.size w W := by
  have HA := Lib.hid hA
  have HI : Hid (∀ W, Below w.heap.size w W → Calls Tryz.prog 61 #[.slice a n c, .agg #[.int .i64 (i : Int), .int .i64 (k : Int)]] W fun e W' => (∃ r : Nat, e = .returned (.int .i64 (r : Int))) ∧ Below W.heap.size W W') := fun W hW => index_of W a c n L i k hn hl (HA.out.keep hW) hm
  clear hA hm
  go_enter Tryz.func28, Tryz.ntmps28
  go_upto_region 1 with fail
  have k0 := new_heap w (.cells #[.int .i64 (i : Int), .int .i64 (k : Int)] 64)
  have hb := (Below.refl w.heap.size w).alloc (Nat.le_refl _) (.cells #[.int .i64 (i : Int), .int .i64 (k : Int)] 64)
  generalize w.alloc (.cells #[.int .i64 (i : Int), .int .i64 (k : Int)] 64) = W0 at k0 hb ⊢
  have s0 : W0.cell? ⟨w.heap.size, 0, none⟩ = some (.int .i64 (i : Int)) := cell_h (k := 0) k0 rfl
  have s1 : W0.cell? ⟨w.heap.size, 1, none⟩ = some (.int .i64 (k : Int)) := cell_h (k := 1) k0 rfl
  have HB0 := Lib.hid hb
  clear k0 hb
  go_wp2_with fail
  refine (HI.out _ HB0.out).mono ?_
  rintro e V ⟨⟨r, rfl⟩, hB⟩
  have HB1 := Lib.hid (low_trans HB0.out hB)
  clear hB HB0 s0 s1 HI
  have hr : (r : Int) ≥ 0 := by omega
  go_wp2_with fail
  go_ret
  exact ⟨rfl, HB1.out⟩
end Go.Proofs.YtmdniebedflpbaaGreatDoor
