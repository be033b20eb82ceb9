/-
  WALKS: growth: the indices that no pair has, in the program.
-/
import Derived.Test.YtlbffdgojmjijaaGreatDoorOwB
import Derived.Test.YtlbffdgojmjijaaGreatDoorPmAF
import Derived.Test.YtlbffdgojmjijaaGreatDoorPlCJ
import Derived.Test.YtlbffdgojmjijaaGreatDoorGrU
import Derived.BigQuiet
import Derived.RangeFuncBox
import Derived.OwnWalk
import Derived.Laws.AppendOwn
namespace Go.Proofs.YtlbffdgojmjijaaGreatDoor
open Go.RowKit

theorem x_intv : (Tryz.prog.info? 3).map (fun i => (i.zero, i.size, i.bytes)) = some (some (.int .i64 0), 1, 8) := by kernel_rfl
theorem own_below {w W : World} {base : Nat} {e : TypeId} {size : Nat} {v : Value} {k : Nat} {xs : List Value} (h : w.ownsRow base e size v k xs) (hb : Below w.heap.size w W) : W.ownsRow base e size v k xs := by
  obtain ⟨hl, h⟩ := h
  refine ⟨hl, ?_⟩
  rcases h with h | ⟨g, cap, cur, h0, h1, h2, h3⟩
  · exact .inl h
  · exact .inr ⟨g, cap, cur, h0, h1, (hb.block _ (Array.getElem?_eq_some_iff.1 h2).1).trans h2, h3⟩
/-- Whether one of the first m pairs has i on a side; the indices below n that none has; as cells. -/
def fvP (f : Nat → Int) (side i k : Nat) : Int := if f (k * 2 + side) = (i : Int) then (k : Int) + 1 else 0
def hasP (f : Nat → Int) (m side i : Nat) : Bool := decide (first (fvP f side i) m ≠ 0)
def lone (f : Nat → Int) (m side n : Nat) : List Nat := (List.range n).filter fun i => !hasP f m side i
def nrow (l : List Nat) : List Value := l.map fun (i : Nat) => .int .i64 (i : Int)
theorem lone_succ (f : Nat → Int) (m side n : Nat) : lone f m side (n + 1) = lone f m side n ++ if hasP f m side n = true then [] else [n] := by
  unfold lone
  rw [List.range_succ, List.filter_append]
  cases h : hasP f m side n <;> simp [h]
theorem lone_len (f : Nat → Int) (m side n : Nat) : (lone f m side n).length ≤ n := by
  have := List.length_filter_le (fun i => !hasP f m side i) (List.range n)
  simpa [lone] using this
theorem fvP_nn (f : Nat → Int) (side i : Nat) : ∀ m, 0 ≤ first (fvP f side i) m
  | 0 => by simp [first]
  | m + 1 => by
    have := fvP_nn f side i m
    simp only [first]
    split
    · unfold fvP; split <;> omega
    · exact this
/-- A row of its own of such indices is a slice of them. -/
theorem own_Sl1 {W : World} {B : Nat} {e : TypeId} {v : Value} {l : List Nat} (h : W.ownsRow B e 1 v l.length (nrow l)) : ∃ x c, v = .slice x l.length c ∧ Sl W 1 x l.length (fun i => (l.getD i 0 : Nat)) := by
  cases l with
  | nil =>
    rcases h.2 with ⟨rfl, _⟩ | ⟨g, cap, cur, rfl, _⟩
    · exact ⟨none, 0, rfl, fun h => absurd h (by decide)⟩
    · exact ⟨some ⟨g, 0, none⟩, cap, rfl, fun h => absurd h (by decide)⟩
  | cons a l =>
    obtain ⟨g, cap, rfl⟩ := ownsRow_succ h
    refine ⟨some ⟨g, 0, none⟩, cap, rfl, fun _ => ⟨g, 0, rfl, fun i hi => ?_⟩⟩
    rw [Nat.mul_one] at hi
    rw [Nat.zero_add, World.ownsRow.cellAt h i (by rw [Nat.mul_one]; exact hi)]
    unfold nrow
    rw [List.getElem?_map]
    simp only [List.getD, List.getElem?_eq_getElem hi]
    rfl
theorem cells_one (W : World) (a : Value) (t : TypeId) : ∀ (j : Nat) (u : Value), [a][j]? = some u → (W.alloc (.cells #[a] t)).cell? ((⟨W.heap.size, 0, none⟩ : Addr).add j) = some u := by
  intro j u h
  have hh := World.alloc_heap_new W (.cells #[a] t)
  match j, h with
  | 0, h => rw [show (⟨W.heap.size, 0, none⟩ : Addr).add 0 = ⟨W.heap.size, 0, none⟩ by simp [Addr.add], cell_h hh rfl]; simpa using h

set_option maxRecDepth 100000 in
set_option maxHeartbeats 4000000 in
theorem alone1_of (w : World) (X Y : Int) (sb ib side i : Nat) (Z : Int) (hz : (side = 0 ∧ Z = X) ∨ (side = 1 ∧ Z = Y)) (hs : w.cell? ⟨sb, 0, none⟩ = some (.int .i64 (side : Int))) (hi : w.cell? ⟨ib, 0, none⟩ = some (.int .i64 (i : Int))) :
    Calls Tryz.prog 72 #[.agg #[.int .i64 X, .int .i64 Y], .pointer (some ⟨sb, 0, none⟩), .pointer (some ⟨ib, 0, none⟩)] w fun e w' => e = .returned (.bool (decide (Z = (i : Int)))) ∧ Below w.heap.size w w' := by
  have a0 := World.alloc_heap_new w (.cells #[.int .i64 X, .int .i64 Y] 60)
  have hB := (Below.refl w.heap.size w).alloc (Nat.le_refl _) (.cells #[.int .i64 X, .int .i64 Y] 60)
  have hs2 := (hB.cell (p := ⟨sb, 0, none⟩) (World.block_lt_of_cell? w _ hs)).trans hs
  have hi2 := (hB.cell (p := ⟨ib, 0, none⟩) (World.block_lt_of_cell? w _ hi)).trans hi
  rcases hz with ⟨rfl, rfl⟩ | ⟨rfl, rfl⟩
  all_goals
    go_enter Tryz.func72, Tryz.ntmps72
    go_wp2_with fail
    generalize w.alloc (.cells #[.int .i64 _, .int .i64 _] 60) = W at hB a0 hs2 hi2 ⊢
    have s0 := cell_h (k := 0) a0 rfl
    have s1 := cell_h (k := 1) a0 rfl
    have HB := Lib.hid hB
    clear hB hs hi a0
    go_quiet (fail)
    go_wp2_with fail
    have hb := HB.out
    exact bodyPost_ret (v := .bool (Z == (i : Int))) (by simp [results, Tryz.f72, go_sem]) rfl ⟨by rw [show (Z == (i : Int)) = decide (Z = (i : Int)) from rfl], ⟨hb.os, hb.tape, hb.output, hb.size, hb.block⟩⟩

set_option maxRecDepth 100000 in
set_option maxHeartbeats 4000000 in
theorem ixp_of (w : World) (sb ib side i m c : Nat) (a : Option Addr) (f : Nat → Int) (hside : side ≤ 1) (hm : m ≤ 4611686018427387903) (hs : w.cell? ⟨sb, 0, none⟩ = some (.int .i64 (side : Int))) (hi : w.cell? ⟨ib, 0, none⟩ = some (.int .i64 (i : Int))) (hS : Sl w 2 a m f) :
    Calls Tryz.prog 87 #[.slice a m c, .func (.func 72) #[] #[.pointer (some ⟨sb, 0, none⟩), .pointer (some ⟨ib, 0, none⟩)]] w fun e w' => e = .returned (.int .i64 (first (fvP f side i) m - 1)) ∧ Below w.heap.size w w' := by
  have HS := Lib.hid hS
  have Hs := Lib.hid hs
  have Hi := Lib.hid hi
  clear hS hs hi
  go_enter Tryz.func87, Tryz.ntmps87
  go_wp2_with fail
  go_loopw [8] (fun vk wr => ∃ k : Nat, k ≤ m ∧ vk = .int .i64 k ∧ Hid (∀ j, j < k → fvP f side i j = 0) ∧ Hid (Below w.heap.size w wr)) (fun vk _ => m - (intOf vk).toNat)
  case atStart => exact ⟨0, by omega, rfl, fun j hj => by omega, Below.refl _ _⟩
  case round =>
    obtain ⟨k, hk, rfl, HI, HB⟩ := hrel
    by_cases hlt : k < m
    · obtain ⟨b3, o3, rfl, hI3⟩ := HS.out (by omega)
      have hJ3 := hI3.keep HB.out (hI3.lt (by omega))
      have d0 := hJ3 (k * 2) (by omega)
      have d1 := hJ3.at (k * 2) 1 (by omega)
      have hz : (side = 0 ∧ f (k * 2 + side) = f (k * 2)) ∨ (side = 1 ∧ f (k * 2 + side) = f (k * 2 + 1)) := by
        rcases (by omega : side = 0 ∨ side = 1) with rfl | rfl
        · exact .inl ⟨rfl, rfl⟩
        · exact .inr ⟨rfl, rfl⟩
      have hs2 := (HB.out.cell (p := ⟨sb, 0, none⟩) (World.block_lt_of_cell? w _ Hs.out)).trans Hs.out
      have hi2 := (HB.out.cell (p := ⟨ib, 0, none⟩) (World.block_lt_of_cell? w _ Hi.out)).trans Hi.out
      have hC := alone1_of wr (f (k * 2)) (f (k * 2 + 1)) sb ib side i _ hz hs2 hi2
      have hv : fvP f side i k = if f (k * 2 + side) = (i : Int) then (k : Int) + 1 else 0 := rfl
      obtain ⟨bb, hbb⟩ : ∃ bb, decide (f (k * 2 + side) = (i : Int)) = bb := ⟨_, rfl⟩
      rw [hbb] at hC
      have hv2 : fvP f side i k = if bb = true then (k : Int) + 1 else 0 := by rw [hv, ← hbb]; simp only [decide_eq_true_iff]
      have HV := Lib.hid hv2
      have HC := Lib.hid hC
      clear hI3 hJ3 hz hs2 hi2 hC hv hbb hv2
      generalize f (k * 2) = X at d0 HC ⊢
      generalize f (k * 2 + 1) = Y at d1 HC ⊢
      cases bb with
      | true =>
        go_wp2_with (go_at_call 72; refine HC.out.mono ?_; rintro e w9 ⟨rfl, hB9⟩)
        have hv : fvP f side i k = (k : Int) + 1 := by simpa using HV.out
        exact bodyPost_ret (v := .int .i64 (k : Int)) (by simp [results, Tryz.f87, go_sem]) rfl ⟨by rw [first_at HI.out (by rw [hv]; omega) hlt, hv, show (k : Int) + 1 - 1 = k by omega], HB.out.trans (hB9.mono HB.out.size)⟩
      | false =>
        go_wp2_with (go_at_call 72; refine HC.out.mono ?_; rintro e w9 ⟨rfl, hB9⟩)
        have hv : fvP f side i k = 0 := by simpa using HV.out
        exact ⟨⟨k + 1, by omega, by go_num, (fun j hj => by
          by_cases ej : j = k
          · subst ej; exact hv
          · exact HI.out j (by omega)), HB.out.trans (hB9.mono HB.out.size)⟩, by simp [intOf]; omega⟩
    · obtain rfl : k = m := by omega
      go_wp2
      go_ret
      exact ⟨by rw [first_zero HI.out]; rfl, HB.out⟩

set_option maxRecDepth 100000 in
set_option maxHeartbeats 4000000 in
theorem ctn_of (w : World) (sb ib side i m c : Nat) (a : Option Addr) (f : Nat → Int) (hside : side ≤ 1) (hm : m ≤ 4611686018427387903) (hs : w.cell? ⟨sb, 0, none⟩ = some (.int .i64 (side : Int))) (hi : w.cell? ⟨ib, 0, none⟩ = some (.int .i64 (i : Int))) (hS : Sl w 2 a m f) :
    Calls Tryz.prog 71 #[.slice a m c, .func (.func 72) #[] #[.pointer (some ⟨sb, 0, none⟩), .pointer (some ⟨ib, 0, none⟩)]] w fun e w' => e = .returned (.bool (hasP f m side i)) ∧ Below w.heap.size w w' := by
  have hC := ixp_of w sb ib side i m c a f hside hm hs hi hS
  have hn := fvP_nn f side i m
  have hE : hasP f m side i = decide (0 ≤ first (fvP f side i) m - 1) := by
    unfold hasP
    by_cases h : first (fvP f side i) m = 0
    · rw [h]; rfl
    · rw [decide_eq_true h]; symm; rw [decide_eq_true_iff]; omega
  rw [hE]
  have HC := Lib.hid hC
  clear hC hs hi hS hE
  generalize first (fvP f side i) m - 1 = V at HC ⊢
  go_enter Tryz.func71, Tryz.ntmps71
  go_wp2_with (go_at_call 87; refine HC.out.mono ?_; rintro e w9 ⟨rfl, hB9⟩)
  exact bodyPost_ret (v := .bool (decide (0 ≤ V))) (by simp [results, Tryz.f71, go_sem]) rfl ⟨rfl, hB9⟩

set_option maxRecDepth 100000 in
set_option maxHeartbeats 4000000 in
theorem alone_of (w : World) (n side m c : Nat) (a : Option Addr) (f : Nat → Int) (hn : n ≤ 40) (hside : side ≤ 1) (hm : m ≤ 4611686018427387903) (hS : Sl w 2 a m f) :
    Calls Tryz.prog 49 #[.int .i64 n, .slice a m c, .int .i64 (side : Int)] w fun e w' => ∃ x c', e = .returned (.slice x (lone f m side n).length c') ∧ Sl w' 1 x (lone f m side n).length (fun i => ((lone f m side n).getD i 0 : Nat)) ∧ Below w.heap.size w w' := by
  obtain ⟨i0, hi, hz0, hz1, hz2⟩ := info_parts x_intv
  have b0 := Boxed.new w 3 (.int .i64 (side : Int))
  have hB0 := (Below.refl w.heap.size w).alloc (Nat.le_refl _) (.cells #[.int .i64 (side : Int)] 3)
  have HS := Lib.hid (hS.keep (by decide) hB0)
  clear hS
  go_enter Tryz.func49, Tryz.ntmps49
  go_wp2_with fail
  obtain ⟨W0, hW0⟩ : ∃ W0, w.alloc (.cells #[.int .i64 (side : Int)] 3) = W0 := ⟨_, rfl⟩
  have HZ : Hid (W0.heap.size = w.heap.size + 1) := by rw [← hW0]; exact World.size_alloc _ _
  rw [hW0] at b0 hB0 HS
  have HB0 := Lib.hid hB0
  have Hb0 := Lib.hid b0
  have HW0 := Lib.hid hW0
  clear hB0 b0 hW0
  rw [HW0.out]
  go_loopw [7, 10] (fun v i wr => ∃ k : Nat, k ≤ n ∧ i = .int .i64 k ∧ Hid (wr.ownsRow W0.heap.size 3 1 v (lone f m side k).length (nrow (lone f m side k))) ∧ Hid (Below W0.heap.size W0 wr)) (fun _ i _ => n - (intOf i).toNat)
  case atStart => exact ⟨0, by omega, rfl, ⟨rfl, .inl ⟨rfl, rfl⟩⟩, Below.refl _ _⟩
  case round =>
    obtain ⟨k, hk, rfl, HR, HB⟩ := hrel
    by_cases hlt : k < n
    · have b1 := Boxed.new wr 3 (.int .i64 (k : Int))
      have hB1 := (Below.refl wr.heap.size wr).alloc (Nat.le_refl _) (.cells #[.int .i64 (k : Int)] 3)
      have c0 := Hb0.out.cell
      have hl0 := Hb0.out.lt
      have c1 := (HB.out.cell (p := ⟨w.heap.size, 0, none⟩) hl0).trans c0
      have c2 := (hB1.cell (p := ⟨w.heap.size, 0, none⟩) (World.block_lt_of_cell? wr _ c1)).trans c1
      have hC := ctn_of _ w.heap.size wr.heap.size side k m c a f hside hm c2 b1.cell ((HS.out.keep (by decide) HB.out).keep (by decide) hB1)
      have HL := Lib.hid (lone_succ f m side k)
      have HLn := Lib.hid (lone_len f m side k)
      generalize hasP f m side k = q at hC HL
      have HC := Lib.hid hC
      clear c0 hl0 c1 c2 hC hB1 b1
      go_wp2_with fail
      refine HC.out.mono ?_
      rintro e w2 ⟨rfl, hB2⟩
      obtain ⟨W1, hW1⟩ : ∃ W1, wr.alloc (.cells #[.int .i64 (k : Int)] 3) = W1 := ⟨_, rfl⟩
      have hB1 : Below wr.heap.size wr W1 := by rw [← hW1]; exact (Below.refl wr.heap.size wr).alloc (Nat.le_refl _) _
      have b1 : Boxed W1 wr.heap.size 3 (.int .i64 (k : Int)) := by rw [← hW1]; exact Boxed.new wr 3 (.int .i64 (k : Int))
      rw [hW1] at hB2
      have hB12 := hB1.trans (hB2.mono hB1.size)
      have x1 : w2.cell? ⟨wr.heap.size, 0, none⟩ = some (.int .i64 (k : Int)) := (hB2.cell (p := ⟨wr.heap.size, 0, none⟩) b1.lt).trans b1.cell
      have hR2 := own_below HR.out hB12
      have HB2 := Lib.hid (HB.out.trans (hB12.mono HB.out.size))
      have HR2 := Lib.hid hR2
      clear hB1 b1 hW1 hB2 hB12 hR2 HC HR HB
      cases q with
      | true =>
        go_wp2_with fail
        refine ⟨⟨k + 1, by omega, by go_num, ?_, HB2.out⟩, by simp [intOf]; omega⟩
        have hL := HL.out
        simp only [if_true, List.append_nil] at hL
        rw [hL]
        exact HR2.out
      | false =>
        have hLn := HLn.out
        have hsz := HB2.out.size
        go_wp2_with (at_builtin; refine wpList_append_own _ rfl _ _ 39 rfl W0.heap.size 3 i0 (.int .i64 0) 1 8 Tryz.underlying39 hi hz0 hz1 hz2 rfl (by decide) _ (lone f m side k).length _ rfl (HR2.out.alloc _) ⟨w2.heap.size, 0, none⟩ 1 1 [.int .i64 (k : Int)] rfl rfl (cells_one w2 (.int .i64 (k : Int)) 3) (by simp [Value.oneCell']) (by unfold maxLen; omega) (by omega) (by simp; omega) ?_; intro v' w3 hown' hgrow _)
        refine ⟨⟨k + 1, by omega, by go_num, ?_, (HB2.out.alloc HB2.out.size _).grown hgrow (by have := HB2.out.size; simp; omega) (fun j hj => (HR2.out.lt j hj).1)⟩, by simp [intOf]; omega⟩
        have hL := HL.out
        simp only [Bool.false_eq_true, if_false] at hL
        rw [hL, List.length_append, List.length_singleton]
        unfold nrow at hown' ⊢
        rw [List.map_append]
        exact hown'
    · obtain rfl : k = n := by omega
      go_wp2
      obtain ⟨x, c', rfl, hx⟩ := own_Sl1 HR.out
      refine bodyPost_ret (v := .slice x (lone f m side k).length c') (by simp [results, Tryz.f49, go_sem]) rfl ?_
      exact ⟨x, c', rfl, hx, HB0.out.trans (HB.out.mono HB0.out.size)⟩
end Go.Proofs.YtlbffdgojmjijaaGreatDoor
