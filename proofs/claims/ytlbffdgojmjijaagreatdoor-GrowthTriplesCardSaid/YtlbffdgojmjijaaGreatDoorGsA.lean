/-
  WALKS: growth: the iterator over pairs of indices.
-/
import Derived.Test.YtlbffdgojmjijaaGreatDoorRfB
import Derived.Test.YtlbffdgojmjijaaGreatDoorGrU
import Derived.Test.YtlbffdgojmjijaaGreatDoorPlCJ
import Derived.OwnWalkIn
import Derived.TacticsInMore
import Derived.LoopNIn
import Derived.LoopIn
import Derived.RegionIn
namespace Go.Proofs.YtlbffdgojmjijaaGreatDoor
open Go.RowKit Go.Shelf

attribute [local go_sem] Oper.semAt_some

theorem Still.low {R : Nat} {W A B : World} (h : Still R W A) (hb : Below W.heap.size A B) : Still R W B :=
  ⟨Nat.le_trans h.size hb.size, fun k hk hkl => (hb.block k hkl).trans (h.same k hk hkl)⟩
theorem range_next (k m : Nat) : List.range (k + (m + 1)) = List.range k ++ k :: (List.range m).map (k + 1 + ·) := by
  rw [List.range_add, List.range_succ_eq_map]
  simp only [List.map_cons, List.map_map, Nat.add_zero]
  congr 2
  refine List.map_congr_left fun i _ => ?_
  show k + (i + 1) = k + 1 + i
  omega
/-- An index of pair k is that of a pair ahead. -/
def tw (f : Nat → Int) (k : Nat) : Bool := (List.range k).any fun j => decide (f (j * 2) = f (k * 2)) || decide (f (j * 2 + 1) = f (k * 2 + 1))
/-- The error of pair k, where those ahead have none. -/
def pErr (p q : Int) (f : Nat → Int) (k : Nat) : Int := if ¬((0 ≤ f (k * 2) ∧ f (k * 2) < p) ∧ 0 ≤ f (k * 2 + 1) ∧ f (k * 2 + 1) < q) then 1 else if tw f k then 8 else 0
/-- How many pairs the iterator gives: up to the first with an error. -/
def wkN (e : Nat → Int) : Nat → Nat
  | 0 => 0
  | n + 1 => if first e n = 0 then n + 1 else wkN e n
theorem wk_lt {e : Nat → Int} {k : Nat} (h : ∀ i, i < k → e i = 0) : ∀ {n : Nat}, k < n → k < wkN e n
  | 0, h0 => by omega
  | n + 1, h0 => by
    unfold wkN
    by_cases e0 : first e n = 0
    · rw [if_pos e0]; omega
    · rw [if_neg e0]
      by_cases e1 : k = n
      · subst e1; exact absurd (first_zero h) e0
      · exact wk_lt h (by omega)
theorem wk_end {e : Nat → Int} {k : Nat} (h : ∀ i, i < k → e i = 0) (hk : e k ≠ 0) : ∀ {n : Nat}, k < n → wkN e n = k + 1
  | 0, h0 => by omega
  | n + 1, h0 => by
    unfold wkN
    by_cases e0 : first e n = 0
    · rw [if_pos e0]
      by_cases e1 : k = n
      · omega
      · exact absurd (first_all e0 k (by omega)) hk
    · rw [if_neg e0]
      by_cases e1 : k = n
      · subst e1; exact absurd (first_zero h) e0
      · exact wk_end h hk (by omega)
theorem wk_all {e : Nat → Int} {n : Nat} (h : ∀ i, i < n → e i = 0) : wkN e n = n := by
  cases n with
  | zero => rfl
  | succ n => unfold wkN; rw [if_pos (first_zero fun i hi => h i (by omega))]
/-- What is taken behind the first k pairs: cell i is index i % 24 of side i / 24. -/
def tkB (f : Nat → Int) (k i : Nat) : Bool := (List.range k).any fun j => decide (f (j * 2 + i / 24) = ((i % 24 : Nat) : Int))
def tkv (f : Nat → Int) (k i : Nat) : Value := .bool (tkB f k i)
theorem tkB_zero (f : Nat → Int) (i : Nat) : tkB f 0 i = false := rfl
theorem tkB_step {f : Nat → Int} {k u v : Nat} (hu : f (k * 2) = (u : Int)) (hv : f (k * 2 + 1) = (v : Int)) (h1 : u < 24) (h2 : v < 24) (i : Nat) (hi : i < 48) :
    tkB f (k + 1) i = (tkB f k i || decide (i = u) || decide (i = 24 + v)) := by
  unfold tkB
  rw [List.range_succ, List.any_append]
  simp only [List.any_cons, List.any_nil, Bool.or_false]
  rw [Bool.or_assoc]
  congr 1
  rcases (by omega : i / 24 = 0 ∨ i / 24 = 1) with h | h
  · rw [h, Nat.add_zero, hu, Bool.eq_iff_iff]
    simp only [decide_eq_true_iff, Bool.or_eq_true]
    omega
  · rw [h, hv, Bool.eq_iff_iff]
    simp only [decide_eq_true_iff, Bool.or_eq_true]
    omega
theorem tw_of {f : Nat → Int} {k u v : Nat} (hu : f (k * 2) = (u : Int)) (hv : f (k * 2 + 1) = (v : Int)) (h1 : u < 24) (h2 : v < 24) : tw f k = (tkB f k u || tkB f k (24 + v)) := by
  unfold tw tkB
  rw [Bool.eq_iff_iff]
  simp only [List.any_eq_true, Bool.or_eq_true, decide_eq_true_iff, hu, hv, show u / 24 = 0 by omega, show u % 24 = u by omega, show (24 + v) / 24 = 1 by omega, show (24 + v) % 24 = v by omega, Nat.add_zero]
  constructor
  · rintro ⟨j, hj, h | h⟩
    · exact .inl ⟨j, hj, h⟩
    · exact .inr ⟨j, hj, h⟩
  · rintro (⟨j, hj, h⟩ | ⟨j, hj, h⟩)
    · exact ⟨j, hj, .inl h⟩
    · exact ⟨j, hj, .inr h⟩
set_option maxHeartbeats 1000000 in
theorem gwalkIt_of (w : World) (a : Option Addr) (n c : Nat) (p q : Int) : Calls Tryz.prog 42 #[.slice a n c, .int .i64 p, .int .i64 q] w fun e w' => e = .returned (.func (.func 66) #[] #[.pointer (some ⟨w.heap.size, 0, none⟩), .pointer (some ⟨w.heap.size + 1, 0, none⟩), .pointer (some ⟨w.heap.size + 1 + 1, 0, none⟩)]) ∧ w' = ((w.alloc (.cells #[.slice a n c] 38)).alloc (.cells #[.int .i64 p] 3)).alloc (.cells #[.int .i64 q] 3) := by
  go_enter Tryz.func42, Tryz.ntmps42
  go_wp2
  go_ret
  exact ⟨rfl, rfl⟩
set_option maxRecDepth 100000 in
set_option maxHeartbeats 8000000 in
theorem gwalk_gives (m : Nat) (hm : 2 ≤ m) (R B0 B1 B2 : Nat) (a : Option Addr) (n c : Nat) (f : Nat → Int) (p q : Int) (hp : 0 ≤ p ∧ p ≤ 24) (hq : 0 ≤ q ∧ q ≤ 24) (hn : n ≤ maxLen) (w : World)
    (c0 : w.cell? ⟨B0, 0, none⟩ = some (.slice a n c)) (c1 : w.cell? ⟨B1, 0, none⟩ = some (.int .i64 p)) (c2 : w.cell? ⟨B2, 0, none⟩ = some (.int .i64 q)) (hS : Sl w 2 a n f) (hR0 : B0 ≠ R) (hR1 : B1 ≠ R) (hR2 : B2 ≠ R) (hRa : 0 < n → ∀ b o, a = some ⟨b, o, none⟩ → b ≠ R) (hRw : R < w.heap.size) :
    GivesS Fence.wide m Tryz.prog 66 #[.pointer (some ⟨B0, 0, none⟩), .pointer (some ⟨B1, 0, none⟩), .pointer (some ⟨B2, 0, none⟩)] (fun k : Nat => #[.agg #[.int .i64 (f (k * 2)), .int .i64 (f (k * 2 + 1))], .int .i64 (pErr p q f k)]) R (List.range (wkN (pErr p q f) n)) w := by
  intro l J Jx W hW hJ hJx hY hJ0
  have hro : Fence.wide.round = none := rfl
  have HY := Lib.hid hY
  have HJ := Lib.hid hJ
  have HS := Lib.hid (hS.keep (by decide) hW)
  have k0 := (hW.cell (p := ⟨B0, 0, none⟩) (World.block_lt_of_cell? _ _ c0)).trans c0
  have k1 := (hW.cell (p := ⟨B1, 0, none⟩) (World.block_lt_of_cell? _ _ c1)).trans c1
  have k2 := (hW.cell (p := ⟨B2, 0, none⟩) (World.block_lt_of_cell? _ _ c2)).trans c2
  have hRW : R < W.heap.size := Nat.lt_of_lt_of_le hRw hW.size
  have hn2 : (n : Int) ≤ 9223372036854775807 := by unfold maxLen at hn; omega
  have HIx : Hid (∀ b V x n, b = decide (0 ≤ x ∧ x < n) → CallsIn Fence.wide (m - 1) Tryz.prog 64 #[.int .i64 x, .int .i64 n] V fun e w' => e = .returned (.bool b) ∧ w' = V) := fun b V x n h => callsIn_wide.2 (gix_of b V x n h)
  have fp : Fence.wide.fn 64 := trivial
  have hBl0 : B0 < W.heap.size := World.block_lt_of_cell? _ _ k0
  have hBl1 : B1 < W.heap.size := World.block_lt_of_cell? _ _ k1
  have hBl2 : B2 < W.heap.size := World.block_lt_of_cell? _ _ k2
  clear hY hJ hJx hS c0 c1 c2 hW
  refine callsIn_of_wp Tryz.func66 rfl trivial ?_ hro
  simp only [Tryz.ntmps66, List.size_toArray, List.length_cons, List.length_nil, Nat.reduceAdd, Nat.reduceSub, Array.replicate_succ, Array.replicate_zero, List.push_toArray, List.append_toArray, List.nil_append, List.cons_append]
  gi_wp2
  generalize hW0 : W.alloc (.cells #[.bool false, .bool false, .bool false, .bool false, .bool false, .bool false, .bool false, .bool false, .bool false, .bool false, .bool false, .bool false, .bool false, .bool false, .bool false, .bool false, .bool false, .bool false, .bool false, .bool false, .bool false, .bool false, .bool false, .bool false, .bool false, .bool false, .bool false, .bool false, .bool false, .bool false, .bool false, .bool false, .bool false, .bool false, .bool false, .bool false, .bool false, .bool false, .bool false, .bool false, .bool false, .bool false, .bool false, .bool false, .bool false, .bool false, .bool false, .bool false] 112) = W0
  have hb0 : Below W.heap.size W W0 := by rw [← hW0]; exact (Below.refl _ _).alloc (Nat.le_refl _) _
  have hT0 : Blk W0 W.heap.size 112 48 (tkv f 0) := by rw [← hW0]; exact World.alloc_heap_new W _
  have HJ0 : Hid (J (List.range 0) W0) := HJ.out _ _ _ hJ0 hb0
  have HB0 := Lib.hid hb0
  have HT0 := Lib.hid hT0
  clear hW0 hb0 hT0 hJ0
  gi_loopw [10] (fun vi wr => ∃ k : Nat, k ≤ n ∧ vi = .int .i64 k ∧ Hid (∀ i, i < k → pErr p q f i = 0) ∧ Hid (J (List.range k) wr) ∧ Hid (Still R W wr) ∧ Hid (Blk wr W.heap.size 112 48 (tkv f k))) (fun vi _ => n - (intOf vi).toNat)
  case atStart => exact ⟨0, Nat.zero_le _, rfl, fun i hi => by omega, HJ0, Still.of_below HB0.out, HT0⟩
  case round =>
    obtain ⟨k, hk, rfl, HZ, HJk, HSt, HT⟩ := hrel
    have hTl : W.heap.size < wr.heap.size := HT.out.lt
    clear HJ0 HB0 HT0
    by_cases hlt : k < n
    · obtain ⟨b, o, rfl, hI⟩ := HS.out (by omega)
      have hbR := hRa (by omega) b o rfl
      have d0 := HSt.out.cell hbR (hI (k * 2) (by omega))
      have d1 := HSt.out.cell hbR (hI.at (k * 2) 1 (by omega))
      have hbw : b < wr.heap.size := Nat.lt_trans (hI.lt (by omega)) hTl
      have hkn : (k : Int) < (n : Int) := by omega
      have e0 := HSt.out.cell hR0 k0
      have e1 := HSt.out.cell hR1 k1
      have e2 := HSt.out.cell hR2 k2
      obtain ⟨E, hE⟩ : ∃ E, pErr p q f k = E := ⟨_, rfl⟩
      have hxs : List.range (wkN (pErr p q f) n) = List.range k ++ k :: (List.range (wkN (pErr p q f) n - k - 1)).map (k + 1 + ·) := by
        have h1 := wk_lt HZ.out hlt
        have := range_next k (wkN (pErr p q f) n - k - 1)
        rwa [show k + (wkN (pErr p q f) n - k - 1 + 1) = wkN (pErr p q f) n by omega] at this
      have HXS := Lib.hid hxs
      clear hI hxs
      generalize hu : f (k * 2) = x0 at d0
      generalize hv : f (k * 2 + 1) = x1 at d1
      have hl1 : B1 < wr.heap.size := World.block_lt_of_cell? _ _ e1
      have hl2 : B2 < wr.heap.size := World.block_lt_of_cell? _ _ e2
      gi_wp2
      generalize hW1 : wr.alloc (.cells #[.int .i64 x0, .int .i64 x1] 60) = W1
      have hb1 : Below wr.heap.size wr W1 := by rw [← hW1]; exact (Below.refl _ _).alloc (Nat.le_refl _) _
      have hG1 : W1.heap[wr.heap.size]? = some (.cells #[.int .i64 x0, .int .i64 x1] 60 (0, 0)) := by rw [← hW1]; exact World.alloc_heap_new wr _
      have HJ1 : Hid (J (List.range k) W1) := HJ.out _ _ _ HJk.out (hb1.mono (Nat.le_of_lt hTl))
      have HT1 := Lib.hid (HT.out.keep hb1 hTl)
      have HSt1 := Lib.hid (HSt.out.low (hb1.mono (Nat.le_of_lt hTl)))
      have s0 := cell_h (k := 0) hG1 rfl
      have s1 := cell_h (k := 1) hG1 rfl
      have f1 := (hb1.cell (p := ⟨B1, 0, none⟩) hl1).trans e1
      have f2 := (hb1.cell (p := ⟨B2, 0, none⟩) hl2).trans e2
      have HG1 := Lib.hid hG1
      have hsz : W.heap.size ≤ W1.heap.size := Nat.le_trans (Nat.le_of_lt hTl) hb1.size
      have hGT : ¬(wr.heap.size = W.heap.size) := by omega
      have HYk := HY.out (List.range k) k _ W1 HXS.out HJ1.out hsz
      rw [hu, hv] at HYk
      have HYk := Lib.hid HYk
      clear hW1 hb1 hG1 HT HSt HJk d0 d1 e0 e1 e2
      by_cases g0 : 0 ≤ x0 ∧ x0 < p
      rotate_left
      · refine ⟨fun _ => by omega, (HIx.out false W1 _ _ (by symm; rw [decide_eq_false_iff_not]; exact g0)).mono ?_⟩
        rintro e w9 ⟨rfl, rfl⟩
        have hEv : pErr p q f k = 1 := by unfold pErr; rw [hu, hv, if_pos (fun e => g0 e.1)]
        have hyk := HYk.out
        rw [hEv] at hyk
        obtain ⟨fn, tmps, assign, body, hy, hRn⟩ := hyk
        (try dsimp only at hy)
        have hwk := wk_end HZ.out (by rw [hEv]; decide) hlt
        clear HYk
        gi_wp2
        refine ⟨fun _ => by omega, hRn.mono ?_⟩
        rintro e W3 (⟨rfl, hJ3, hs3⟩ | ⟨rfl, hJx3⟩)
        · have HJe : Hid (J (List.range (wkN (pErr p q f) n)) W3) := by rw [hwk, List.range_succ]; exact Lib.hid hJ3
          clear hJ3 hs3 hy hRn
          gi_wp2
          refine bodyPost_ret (results_none rfl _ _ _) rfl ?_
          exact ⟨⟨_, rfl⟩, .inl HJe.out⟩
        · have HJe := Lib.hid hJx3
          clear hJx3 hy hRn
          gi_wp2
          refine bodyPost_ret (results_none rfl _ _ _) rfl ?_
          exact ⟨⟨_, rfl⟩, .inr ⟨_, _, _, HXS.out, HJe.out⟩⟩
      refine ⟨fun _ => by omega, (HIx.out true W1 _ _ (by symm; rw [decide_eq_true_iff]; exact g0)).mono ?_⟩
      rintro e w9 ⟨rfl, rfl⟩
      gi_wp2
      by_cases g1 : 0 ≤ x1 ∧ x1 < q
      rotate_left
      · refine ⟨fun _ => by omega, (HIx.out false _ _ _ (by symm; rw [decide_eq_false_iff_not]; exact g1)).mono ?_⟩
        rintro e w8 ⟨rfl, rfl⟩
        have hEv : pErr p q f k = 1 := by unfold pErr; rw [hu, hv, if_pos (fun e => g1 e.2)]
        have hyk := HYk.out
        rw [hEv] at hyk
        obtain ⟨fn, tmps, assign, body, hy, hRn⟩ := hyk
        (try dsimp only at hy)
        have hwk := wk_end HZ.out (by rw [hEv]; decide) hlt
        clear HYk
        gi_wp2
        refine ⟨fun _ => by omega, hRn.mono ?_⟩
        rintro e W3 (⟨rfl, hJ3, hs3⟩ | ⟨rfl, hJx3⟩)
        · have HJe : Hid (J (List.range (wkN (pErr p q f) n)) W3) := by rw [hwk, List.range_succ]; exact Lib.hid hJ3
          clear hJ3 hs3 hy hRn
          gi_wp2
          refine bodyPost_ret (results_none rfl _ _ _) rfl ?_
          exact ⟨⟨_, rfl⟩, .inl HJe.out⟩
        · have HJe := Lib.hid hJx3
          clear hJx3 hy hRn
          gi_wp2
          refine bodyPost_ret (results_none rfl _ _ _) rfl ?_
          exact ⟨⟨_, rfl⟩, .inr ⟨_, _, _, HXS.out, HJe.out⟩⟩
      refine ⟨fun _ => by omega, (HIx.out true _ _ _ (by symm; rw [decide_eq_true_iff]; exact g1)).mono ?_⟩
      rintro e w8 ⟨rfl, rfl⟩
      obtain ⟨u, rfl⟩ := Int.eq_ofNat_of_zero_le g0.1
      obtain ⟨v, rfl⟩ := Int.eq_ofNat_of_zero_le g1.1
      have hu24 : u < 24 := by omega
      have hv24 : v < 24 := by omega
      have hui : (0 : Int) ≤ (u : Int) ∧ (u : Int) < 24 := by omega
      have hvi : (0 : Int) ≤ (v : Int) ∧ (v : Int) < 24 := by omega
      have t0 : w8.cell? ⟨W.heap.size, u, none⟩ = some (.bool (tkB f k u)) := HT1.out.cell (by omega)
      have t1 : w8.cell? ⟨W.heap.size, 24 + v, none⟩ = some (.bool (tkB f k (24 + v))) := HT1.out.cell (by omega)
      have HTW : Hid (tw f k = (tkB f k u || tkB f k (24 + v))) := tw_of hu hv hu24 hv24
      have HNE : Hid (¬¬((0 ≤ f (k * 2) ∧ f (k * 2) < p) ∧ 0 ≤ f (k * 2 + 1) ∧ f (k * 2 + 1) < q)) := by rw [hu, hv]; exact Lib.hid (fun e => e ⟨g0, g1⟩)
      have HTC : Hid (∀ i, i < 48 → turn (turn (tkv f k) u (.bool true)) (24 + v) (.bool true) i = tkv f (k + 1) i ∧ turn (turn (tkv f k) (24 + v) (.bool true)) u (.bool true) i = tkv f (k + 1) i) := fun i hi => by
        unfold turn tkv
        rw [tkB_step hu hv hu24 hv24 i hi]
        by_cases i1 : i = u
        · subst i1; simp
        · by_cases i2 : i = 24 + v
          · subst i2; simp
          · simp [i1, i2]
      have tf := HT1.out.fz
      generalize hb0 : tkB f k u = z0 at t0 HTW
      generalize hb1 : tkB f k (24 + v) = z1 at t1 HTW
      cases z0
      rotate_left
      · have HTW2 : tw f k = true := by rw [HTW.out]; rfl
        have hEv : pErr p q f k = 8 := by unfold pErr; rw [if_neg HNE.out, if_pos HTW2]
        have hyk := HYk.out
        rw [hEv] at hyk
        obtain ⟨fn, tmps, assign, body, hy, hRn⟩ := hyk
        (try dsimp only at hy)
        have hwk := wk_end HZ.out (by rw [hEv]; decide) hlt
        clear HYk
        gi_wp2
        refine ⟨fun _ => by omega, hRn.mono ?_⟩
        rintro e W3 (⟨rfl, hJ3, hs3⟩ | ⟨rfl, hJx3⟩)
        · have HJe : Hid (J (List.range (wkN (pErr p q f) n)) W3) := by rw [hwk, List.range_succ]; exact Lib.hid hJ3
          clear hJ3 hs3 hy hRn
          gi_wp2
          refine bodyPost_ret (results_none rfl _ _ _) rfl ?_
          exact ⟨⟨_, rfl⟩, .inl HJe.out⟩
        · have HJe := Lib.hid hJx3
          clear hJx3 hy hRn
          gi_wp2
          refine bodyPost_ret (results_none rfl _ _ _) rfl ?_
          exact ⟨⟨_, rfl⟩, .inr ⟨_, _, _, HXS.out, HJe.out⟩⟩
      cases z1
      rotate_left
      · have HTW2 : tw f k = true := by rw [HTW.out]; rfl
        have hEv : pErr p q f k = 8 := by unfold pErr; rw [if_neg HNE.out, if_pos HTW2]
        have hyk := HYk.out
        rw [hEv] at hyk
        obtain ⟨fn, tmps, assign, body, hy, hRn⟩ := hyk
        (try dsimp only at hy)
        have hwk := wk_end HZ.out (by rw [hEv]; decide) hlt
        clear HYk
        gi_wp2
        refine ⟨fun _ => by omega, hRn.mono ?_⟩
        rintro e W3 (⟨rfl, hJ3, hs3⟩ | ⟨rfl, hJx3⟩)
        · have HJe : Hid (J (List.range (wkN (pErr p q f) n)) W3) := by rw [hwk, List.range_succ]; exact Lib.hid hJ3
          clear hJ3 hs3 hy hRn
          gi_wp2
          refine bodyPost_ret (results_none rfl _ _ _) rfl ?_
          exact ⟨⟨_, rfl⟩, .inl HJe.out⟩
        · have HJe := Lib.hid hJx3
          clear hJx3 hy hRn
          gi_wp2
          refine bodyPost_ret (results_none rfl _ _ _) rfl ?_
          exact ⟨⟨_, rfl⟩, .inr ⟨_, _, _, HXS.out, HJe.out⟩⟩
      have hEv : pErr p q f k = 0 := by unfold pErr; rw [if_neg HNE.out, if_neg (by rw [HTW.out]; simp)]
      gi_wp2
      gi_region
      all_goals
        have hB2 : Below W.heap.size w8 ((w8.setCell ⟨W.heap.size, u, none⟩ (.bool true)).setCell ⟨W.heap.size, 24 + v, none⟩ (.bool true)).drew := (((Below.refl W.heap.size w8).setCell (p := ⟨W.heap.size, u, none⟩) (Nat.le_refl _) (.bool true)).setCell (p := ⟨W.heap.size, 24 + v, none⟩) (Nat.le_refl _) (.bool true)).drew
        have hT2 : Blk ((w8.setCell ⟨W.heap.size, u, none⟩ (.bool true)).setCell ⟨W.heap.size, 24 + v, none⟩ (.bool true)).drew W.heap.size 112 48 (tkv f (k + 1)) := ((HT1.out.set u _).set (24 + v) _).congr (fun i hi => (HTC.out i hi).1)
        have hG2 : ((w8.setCell ⟨W.heap.size, u, none⟩ (.bool true)).setCell ⟨W.heap.size, 24 + v, none⟩ (.bool true)).drew.heap[wr.heap.size]? = some (.cells #[.int .i64 (u : Int), .int .i64 (v : Int)] 60 (0, 0)) :=
          ((Below.heap_setCell (w8.setCell ⟨W.heap.size, u, none⟩ (.bool true)) ⟨W.heap.size, 24 + v, none⟩ (.bool true) wr.heap.size (by exact hGT)).trans (Below.heap_setCell w8 ⟨W.heap.size, u, none⟩ (.bool true) wr.heap.size (by exact hGT))).trans HG1.out
        have hsz2 : W.heap.size ≤ ((w8.setCell ⟨W.heap.size, u, none⟩ (.bool true)).setCell ⟨W.heap.size, 24 + v, none⟩ (.bool true)).drew.heap.size := Nat.le_trans hsz hB2.size
        generalize ((w8.setCell ⟨W.heap.size, u, none⟩ (.bool true)).setCell ⟨W.heap.size, 24 + v, none⟩ (.bool true)).drew = W2 at hB2 hT2 hG2 hsz2 ⊢
        have HJ2 : Hid (J (List.range k) W2) := HJ.out _ _ _ HJ1.out hB2
        have HSt2 := Lib.hid (HSt1.out.low hB2)
        have HT2 := Lib.hid hT2
        have hyk := HY.out (List.range k) k _ W2 HXS.out HJ2.out hsz2
        rw [hu, hv, hEv] at hyk
        obtain ⟨fn, tmps, assign, body, hy, hRn⟩ := hyk
        (try dsimp only at hy)
        have s0 := cell_h (k := 0) hG2 rfl
        have s1 := cell_h (k := 1) hG2 rfl
        have hTl2 : W.heap.size < W2.heap.size := hT2.lt
        clear HYk hB2 hT2 hG2 t0 t1 tf HJ1 HSt1 HT1 HG1
        gi_wp2
        refine ⟨fun _ => by omega, hRn.mono ?_⟩
        rintro e W3 (⟨rfl, hJ3, hs3⟩ | ⟨rfl, hJx3⟩)
        · have HT3 : Hid (Blk W3 W.heap.size 112 48 (tkv f (k + 1))) := (hs3.same _ (by omega) hTl2).trans HT2.out
          have HSt3 := Lib.hid (HSt2.out.trans hs3)
          have HJ3 : Hid (J (List.range (k + 1)) W3) := by rw [List.range_succ]; exact Lib.hid hJ3
          clear hJ3 hs3 hy hRn
          gi_wp2
          go_roundw
          case rel =>
            exact ⟨k + 1, by omega, by go_num, fun i hi => by
              rcases Nat.lt_or_ge i k with h | h
              · exact HZ.out i h
              · obtain rfl : i = k := by omega
                exact hEv, HJ3.out, HSt3.out, HT3.out⟩
          case measure => simp [intOf]; omega
        · have HJe := Lib.hid hJx3
          clear hJx3 hy hRn
          gi_wp2
          refine bodyPost_ret (results_none rfl _ _ _) rfl ?_
          exact ⟨⟨_, rfl⟩, .inr ⟨_, _, _, HXS.out, HJe.out⟩⟩
    · obtain rfl : k = n := by omega
      have hx := wk_all HZ.out
      have HJe : Hid (J (List.range (wkN (pErr p q f) k)) wr) := by rw [hx]; exact HJk
      gi_wp2
      go_end0
      exact ⟨⟨_, rfl⟩, .inl HJe.out⟩
end Go.Proofs.YtlbffdgojmjijaaGreatDoor
