/-
  WALKS: the places of a line, one behind the other.
-/
import Derived.Test.YtlbffdgojmjijaaDoorDeA
import Derived.Test.YtlbffdgojmjijaaDoorRfA
import Derived.OwnWalkIn
import Derived.TacticsInMore
import Derived.LoopNIn
import Derived.LoopIn
namespace Go.Proofs.YtlbffdgojmjijaaDoor
open Go.RowKit Go.Shelf

attribute [local go_sem] Oper.semAt_some

/-- The sums of the components number j of the first k steps. -/
def lnS (f : Nat → Int) (j : Nat) : Nat → Int
  | 0 => 0
  | k + 1 => lnS f j k + f (k * 3 + j)
/-- Steps without an error. -/
def VsOk (n : Nat) (f : Nat → Int) : Prop := (1 ≤ n ∧ n ≤ 64) ∧ ∀ i, i < n → ∀ j, j < 3 → -1048576 ≤ f (i * 3 + j) ∧ f (i * 3 + j) ≤ 1048576
theorem lnS_bd {n : Nat} {f : Nat → Int} (h : VsOk n f) {j : Nat} (hj : j < 3) : ∀ k, k ≤ n → -(1048576 * (k : Int)) ≤ lnS f j k ∧ lnS f j k ≤ 1048576 * (k : Int)
  | 0, _ => by simp [lnS]
  | k + 1, hk => by
    have h1 := lnS_bd h hj k (by omega)
    have h2 := h.2 k (by omega) j hj
    simp only [lnS]
    push_cast
    omega
theorem lnS_big {n : Nat} {f : Nat → Int} (h : VsOk n f) {j : Nat} (hj : j < 3) {k : Nat} (hk : k ≤ n) : -67108864 ≤ lnS f j k ∧ lnS f j k ≤ 67108864 := by
  have h1 := lnS_bd h hj k hk
  have h2 := h.1
  omega
/-- The place behind k steps, as a value. -/
def lnV (f : Nat → Int) (k : Nat) : Value := .agg #[.int .i64 (lnS f 0 k), .int .i64 (lnS f 1 k), .int .i64 (lnS f 2 k)]
theorem Still.low {R : Nat} {W A B : World} (h : Still R W A) (hb : Below W.heap.size A B) : Still R W B :=
  ⟨Nat.le_trans h.size hb.size, fun k hk hkl => (hb.block k hkl).trans (h.same k hk hkl)⟩
theorem range_next (k m : Nat) : List.range (k + (m + 1)) = List.range k ++ k :: (List.range m).map (k + 1 + ·) := by
  rw [List.range_add, List.range_succ_eq_map]
  simp only [List.map_cons, List.map_map, Nat.add_zero]
  congr 2
  refine List.map_congr_left fun i _ => ?_
  show k + (i + 1) = k + 1 + i
  omega

set_option maxRecDepth 100000 in
set_option maxHeartbeats 4000000 in
theorem places_gives (m : Nat) (hm : 2 ≤ m) (Bs R : Nat) (a : Option Addr) (n c : Nat) (f : Nat → Int) (h : VsOk n f) (w : World) (hBs : w.cell? ⟨Bs, 0, none⟩ = some (.slice a n c)) (hS : Sl w 3 a n f) (hR : Bs ≠ R) (hRa : ∀ b o, a = some ⟨b, o, none⟩ → b ≠ R) (hRw : R < w.heap.size) :
    Gives Fence.wide m Tryd.prog 45 #[.pointer (some ⟨Bs, 0, none⟩)] (fun k : Nat => #[.int .i64 (k : Int), lnV f k]) R (List.range (n + 1)) w := by
  intro l J W hW hJ hY hJ0
  have hro : Fence.wide.round = none := rfl
  have fp : Fence.wide.fn 43 := trivial
  obtain ⟨b, o, rfl, hI⟩ := hS (by have := h.1; omega)
  have hbs := (hW.cell (p := ⟨Bs, 0, none⟩) (World.block_lt_of_cell? _ _ hBs)).trans hBs
  have hIW := hI.keep hW (hI.lt (by have := h.1; omega))
  have hbR := hRa b o rfl
  have HY := Lib.hid hY
  have HJ := Lib.hid hJ
  have HOk := Lib.hid h
  have HI := Lib.hid hIW
  have hRW : R < W.heap.size := Nat.lt_of_lt_of_le hRw hW.size
  have hn := h.1
  clear hY hJ h hS hBs hI hIW hRa
  refine callsIn_of_wp Tryd.func45 rfl trivial ?_ hro
  simp only [Tryd.ntmps45, List.size_toArray, List.length_cons, List.length_nil, Nat.reduceAdd, Nat.reduceSub, Array.replicate_succ, Array.replicate_zero, List.push_toArray, List.append_toArray, List.nil_append, List.cons_append]
  have hBl : Bs < W.heap.size := World.block_lt_of_cell? _ _ hbs
  have hbl : b < W.heap.size := HI.out.lt (by omega)
  gi_wp2
  generalize hW0 : W.alloc (.cells #[.int .i64 0, .int .i64 0, .int .i64 0] 36) = W0
  have hb0 : Below W.heap.size W W0 := by rw [← hW0]; exact (Below.refl _ _).alloc (Nat.le_refl _) _
  have hX0 : W0.heap[W.heap.size]? = some (.cells #[.int .i64 0, .int .i64 0, .int .i64 0] 36 (0, 0)) := by rw [← hW0]; exact World.alloc_heap_new W _
  have HJ0 : Hid (J (List.range 0) W0) := HJ.out _ _ _ hJ0 hb0
  have HB0 := Lib.hid hb0
  have HX0 := Lib.hid hX0
  clear hW0 hb0 hX0 hJ0
  gi_loopw [8] (fun vi wr => ∃ k : Nat, k ≤ n ∧ vi = .int .i64 k ∧ Hid (J (List.range k) wr) ∧ Hid (Still R W wr) ∧ Hid (wr.heap[W.heap.size]? = some (.cells #[.int .i64 (lnS f 0 k), .int .i64 (lnS f 1 k), .int .i64 (lnS f 2 k)] 36 (0, 0)))) (fun vi _ => n - (intOf vi).toNat)
  case atStart => exact ⟨0, Nat.zero_le _, rfl, HJ0, Still.of_below HB0.out, HX0⟩
  case round =>
    obtain ⟨k, hk, rfl, HJk, HSt, HX⟩ := hrel
    have hXl : W.heap.size < wr.heap.size := (Array.getElem?_eq_some_iff.1 HX.out).1
    have x0 : wr.cell? ⟨W.heap.size, 0, none⟩ = some (.int .i64 (lnS f 0 k)) := cell_h HX.out rfl
    have x1 : wr.cell? ⟨W.heap.size, 1, none⟩ = some (.int .i64 (lnS f 1 k)) := cell_h HX.out rfl
    have x2 : wr.cell? ⟨W.heap.size, 2, none⟩ = some (.int .i64 (lnS f 2 k)) := cell_h HX.out rfl
    clear HJ0 HB0 HX0
    by_cases hlt : k < n
    · have d0 := HSt.out.cell hbR (HI.out (k * 3) (by omega))
      have d1 := HSt.out.cell hbR (HI.out.at (k * 3) 1 (by omega))
      have d2 := HSt.out.cell hbR (HI.out.at (k * 3) 2 (by omega))
      have hkn : (k : Int) < (n : Int) := by omega
      have hbw : b < wr.heap.size := Nat.lt_trans hbl hXl
      have hb1 : Below wr.heap.size wr (wr.alloc (.cells #[.int .i64 (f (k * 3)), .int .i64 (f (k * 3 + 1)), .int .i64 (f (k * 3 + 2))] 36)) := (Below.refl _ _).alloc (Nat.le_refl _) _
      have hxs : List.range (n + 1) = List.range k ++ k :: (List.range (n - k)).map (k + 1 + ·) := by
        have := range_next k (n - k)
        rwa [show k + (n - k + 1) = n + 1 by omega] at this
      obtain ⟨fn, tmps, assign, body, hy, hRn⟩ := HY.out (List.range k) k _ _ hxs (HJ.out _ _ _ HJk.out (hb1.mono (Nat.le_of_lt hXl))) (Nat.le_trans (Nat.le_of_lt hXl) hb1.size)
      dsimp only [lnV] at hy
      have HSt1 := Lib.hid (HSt.out.low (hb1.mono (Nat.le_of_lt hXl)))
      have HX1 := Lib.hid ((hb1.block _ hXl).trans HX.out)
      have hC1 := World.alloc_heap_new wr (.cells #[.int .i64 (f (k * 3)), .int .i64 (f (k * 3 + 1)), .int .i64 (f (k * 3 + 2))] 36)
      have HC1 := Lib.hid hC1
      have g0 := lnS_big HOk.out (j := 0) (by omega) hk
      have g1 := lnS_big HOk.out (j := 1) (by omega) hk
      have g2 := lnS_big HOk.out (j := 2) (by omega) hk
      have q0 := HOk.out.2 k hlt 0 (by omega)
      have q1 := HOk.out.2 k hlt 1 (by omega)
      have q2 := HOk.out.2 k hlt 2 (by omega)
      rw [Nat.add_zero] at q0
      have HPl : Hid (∀ V, CallsIn Fence.wide (m - 1) Tryd.prog 43 #[.agg #[.int .i64 (lnS f 0 k), .int .i64 (lnS f 1 k), .int .i64 (lnS f 2 k)], .agg #[.int .i64 (f (k * 3)), .int .i64 (f (k * 3 + 1)), .int .i64 (f (k * 3 + 2))]] V fun e w' => e = .returned (.agg #[.int .i64 (lnS f 0 (k + 1)), .int .i64 (lnS f 1 (k + 1)), .int .i64 (lnS f 2 (k + 1))]) ∧ Below V.heap.size V w') := fun V =>
        callsIn_wide.2 (plus_of V _ _ _ _ _ _ (by unfold Big; omega) (by unfold Big; omega) (by unfold Big; omega) (by unfold Big; omega) (by unfold Big; omega) (by unfold Big; omega))
      clear g0 g1 g2 q0 q1 q2 hC1 hb1 hxs HJk HSt HX
      gi_wp2
      refine ⟨fun _ => by omega, hRn.mono ?_⟩
      rintro e W3 ⟨rfl, hJ3, hs3⟩
      have hl1 : W.heap.size < (wr.alloc (.cells #[.int .i64 (f (k * 3)), .int .i64 (f (k * 3 + 1)), .int .i64 (f (k * 3 + 2))] 36)).heap.size := by simp; omega
      have HX3 := Lib.hid ((hs3.same W.heap.size (by omega) hl1).trans HX1.out)
      have HC3 := Lib.hid ((hs3.same wr.heap.size (by omega) (by simp)).trans HC1.out)
      have HSt3 := Lib.hid (HSt1.out.trans hs3)
      have hXl3 : W.heap.size < W3.heap.size := Nat.lt_of_lt_of_le hl1 hs3.size
      have HJ3 := Lib.hid hJ3
      have z0 : W3.cell? ⟨W.heap.size, 0, none⟩ = some (.int .i64 (lnS f 0 k)) := cell_h HX3.out rfl
      have z1 : W3.cell? ⟨W.heap.size, 1, none⟩ = some (.int .i64 (lnS f 1 k)) := cell_h HX3.out rfl
      have z2 : W3.cell? ⟨W.heap.size, 2, none⟩ = some (.int .i64 (lnS f 2 k)) := cell_h HX3.out rfl
      have s0 : W3.cell? ⟨wr.heap.size, 0, none⟩ = some (.int .i64 (f (k * 3))) := cell_h HC3.out rfl
      have s1 : W3.cell? ⟨wr.heap.size, 1, none⟩ = some (.int .i64 (f (k * 3 + 1))) := cell_h HC3.out rfl
      have s2 : W3.cell? ⟨wr.heap.size, 2, none⟩ = some (.int .i64 (f (k * 3 + 2))) := cell_h HC3.out rfl
      clear hJ3 hs3 hl1 HX1 HC1 HSt1 x0 x1 x2 d0 d1 d2 hy hRn
      gi_wp2_with fail
      refine ⟨fun _ => by omega, (HPl.out W3).mono ?_⟩
      rintro e W4 ⟨rfl, hb4⟩
      have HX4 := Lib.hid ((hb4.block _ hXl3).trans HX3.out)
      have y0 : W4.cell? ⟨W.heap.size, 0, none⟩ = some (.int .i64 (lnS f 0 k)) := cell_h HX4.out rfl
      have y1 : W4.cell? ⟨W.heap.size, 1, none⟩ = some (.int .i64 (lnS f 1 k)) := cell_h HX4.out rfl
      have y2 : W4.cell? ⟨W.heap.size, 2, none⟩ = some (.int .i64 (lnS f 2 k)) := cell_h HX4.out rfl
      have yf : ∀ o, W4.frozen? ⟨W.heap.size, o, none⟩ = false := fun o => by simp [World.frozen?, HX4.out]
      have HB4 : Hid (Below W.heap.size W3 W4) := hb4.mono (Nat.le_of_lt hXl3)
      clear z0 z1 z2 s0 s1 s2 hb4 HX3 HC3 HPl
      gi_wp2
      have hB5 := ((HB4.out.setCell (p := ⟨W.heap.size, 0, none⟩) (Nat.le_refl _) (.int .i64 (lnS f 0 (k + 1)))).setCell (p := ⟨W.heap.size, 1, none⟩) (Nat.le_refl _) (.int .i64 (lnS f 1 (k + 1)))).setCell (p := ⟨W.heap.size, 2, none⟩) (Nat.le_refl _) (.int .i64 (lnS f 2 (k + 1)))
      go_roundw
      case rel =>
        refine ⟨k + 1, by omega, by go_num, ?_, HSt3.out.low hB5, ?_⟩
        · have := HJ.out _ _ _ HJ3.out hB5
          rwa [← List.range_succ] at this
        · exact (heap_set (heap_set (heap_set HX4.out _) _) _)
      case measure => simp [intOf]; omega
    · obtain rfl : k = n := by omega
      have hbs2 := HSt.out.cell hR hbs
      have hxs : List.range (k + 1) = List.range k ++ k :: [] := List.range_succ
      obtain ⟨fn, tmps, assign, body, hy, hRn⟩ := HY.out (List.range k) k [] _ hxs HJk.out (Nat.le_of_lt hXl)
      dsimp only [lnV] at hy
      clear hxs
      gi_wp2
      refine ⟨fun _ => by omega, hRn.mono ?_⟩
      rintro e W3 ⟨rfl, hJ3, hs3⟩
      rw [← List.range_succ] at hJ3
      have HJ3 := Lib.hid hJ3
      clear hJ3 hs3 hy hRn
      gi_wp2
      go_end0
      exact ⟨⟨_, rfl⟩, HJ3.out⟩
end Go.Proofs.YtlbffdgojmjijaaDoor
