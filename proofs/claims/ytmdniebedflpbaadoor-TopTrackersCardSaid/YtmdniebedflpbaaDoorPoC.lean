/-
  WALKS: Forward, of the program and of the reference.
-/
import Derived.RangeFuncBox
import Derived.Test.YtmdniebedflpbaaDoorPnC
namespace Go.Proofs.YtmdniebedflpbaaDoor
open Go.RowKit

/-- The bounds of Forward, as ints. -/
def fwF (i : Nat) : Int := if i % 3 = 0 then ((i / 3 : Nat) : Int) + 1 else if i % 3 = 1 then ((i / 3 : Nat) : Int) else 0
theorem fwF_0 (k : Nat) : fwF (k * 3) = (k : Int) + 1 := by unfold fwF; rw [if_pos (by omega), show k * 3 / 3 = k by omega]
theorem fwF_1 (k : Nat) : fwF (k * 3 + 1) = (k : Int) := by unfold fwF; rw [if_neg (by omega), if_pos (by omega), show (k * 3 + 1) / 3 = k by omega]
theorem fwF_2 (k : Nat) : fwF (k * 3 + 2) = 0 := by unfold fwF; rw [if_neg (by omega), if_neg (by omega)]
def fwG (k : Nat) (i : Nat) : Value := if i < k * 3 then .int .i64 (fwF i) else .int .i64 0
theorem fwG_step (k : Nat) (i : Nat) : turn (turn (turn (fwG k) (k * 3) (.int .i64 ((k : Int) + 1))) (k * 3 + 1) (.int .i64 (k : Int))) (k * 3 + 2) (.int .i64 0) i = fwG (k + 1) i := by
  unfold turn fwG
  by_cases e2 : i = k * 3 + 2
  · subst e2; rw [if_pos rfl, if_pos (by omega), fwF_2]
  · by_cases e1 : i = k * 3 + 1
    · subst e1; rw [if_neg (by omega), if_pos rfl, if_pos (by omega), fwF_1]
    · by_cases e0 : i = k * 3
      · subst e0; rw [if_neg (by omega), if_neg (by omega), if_pos rfl, if_pos (by omega), fwF_0]
      · rw [if_neg e2, if_neg e1, if_neg e0]
        by_cases h : i < k * 3
        · rw [if_pos h, if_pos (by omega)]
        · rw [if_neg h, if_neg (by omega)]

set_option maxRecDepth 100000 in
set_option maxHeartbeats 4000000 in
theorem forward_bad (w : World) (n : Int) (h : n < 1 ∨ 64 < n) :
    Calls Tryd.prog 7 #[.int .i64 n] w fun e W' => e = .returned (.tuple #[.slice none 0 0, .int .i64 4]) ∧ W' = w := by
  have h2 : n < 1 ∨ (1 ≤ n ∧ 64 < n) := by omega
  clear h
  rcases h2 with h | ⟨h1, h2⟩
  all_goals
    go_enter Tryd.func7, Tryd.ntmps7
    go_wp2
    exact bodyPost_ret (v := .tuple #[.slice none 0 0, .int .i64 4]) (by simp [results, Tryd.f7, go_sem]) rfl ⟨rfl, rfl⟩
set_option maxRecDepth 100000 in
set_option maxHeartbeats 4000000 in
theorem forward_ok (w : World) (m : Nat) (hm : m ≤ 63) :
    Calls Tryd.prog 7 #[.int .i64 ((m : Int) + 1)] w fun e W' =>
      e = .returned (.tuple #[.slice (some ⟨w.heap.size, 0, none⟩) m m, .int .i64 0]) ∧ Ints W' w.heap.size 0 (m * 3) fwF ∧ Below w.heap.size w W' := by
  go_enter Tryd.func7, Tryd.ntmps7
  go_wp2_with (at_make; refine wp_makeB _ rfl _ _ 34 62 rfl Tryd.underlying34 x_bound rfl (by decide) _ _ m rfl rfl (by omega) (by omega) (by omega) (by decide) ?_)
  obtain ⟨W, hW⟩ : ∃ W, w.alloc (.cells (vrow (m * 3) (zc (.agg #[.int .i64 0, .int .i64 0, .int .i64 0]) 3)) 62) = W := ⟨_, rfl⟩
  have hB : Below w.heap.size w W := by rw [← hW]; exact (Below.refl _ w).alloc (Nat.le_refl _) _
  have hK : Blk W w.heap.size 62 (m * 3) (fwG 0) := by
    rw [← hW]
    refine (Blk.new w _ _ _).congr fun i _ => ?_
    unfold fwG zc
    rw [if_neg (by omega)]
    have : i % 3 = 0 ∨ i % 3 = 1 ∨ i % 3 = 2 := by omega
    rcases this with h | h | h <;> rw [h] <;> rfl
  rw [hW]
  clear hW
  go_loopw [17] (fun i wr => ∃ k : Nat, k ≤ m ∧ i = .int .i64 k ∧ Hid (Blk wr w.heap.size 62 (m * 3) (fwG k)) ∧ Hid (Below w.heap.size w wr)) (fun i _ => m - (intOf i).toNat)
  case atStart => exact ⟨0, by omega, rfl, hK, hB⟩
  case round =>
    obtain ⟨k, hk, rfl, HK, HB⟩ := hrel
    clear hK hB
    by_cases hlt : k < m
    · have g0 := HK.out.cell (k := k * 3) (by omega)
      have g1 := HK.out.cell (k := k * 3 + 1) (by omega)
      have g2 := HK.out.cell (k := k * 3 + 2) (by omega)
      have z0 := HK.out.fz (k * 3)
      have z1 := HK.out.fz (k * 3 + 1)
      have z2 := HK.out.fz (k * 3 + 2)
      go_wp2
      have hb3 := ((HB.out.setCell (p := ⟨w.heap.size, k * 3, none⟩) (Nat.le_refl _) (.int .i64 ((k : Int) + 1))).setCell (p := ⟨w.heap.size, k * 3 + 1, none⟩) (Nat.le_refl _) (.int .i64 (k : Int))).setCell (p := ⟨w.heap.size, k * 3 + 2, none⟩) (Nat.le_refl _) (.int .i64 0)
      exact ⟨⟨k + 1, by omega, by go_num, (((HK.out.set _ _).set _ _).set _ _).congr (fun i _ => fwG_step k i), hb3⟩, by simp [intOf]; omega⟩
    · obtain rfl : k = m := by omega
      go_wp2
      refine bodyPost_ret (v := .tuple #[.slice (some ⟨w.heap.size, 0, none⟩) k k, .int .i64 0]) (by simp [results, Tryd.f7, go_sem]) rfl ?_
      refine ⟨rfl, (HK.out.congr (g' := fun i => .int .i64 (fwF i)) fun i hi => ?_).ints, HB.out⟩
      unfold fwG; rw [if_pos hi]

/-- The bounds of Forward, as cells. -/
def fwL (k : Nat) : List Value := (List.range (k * 3)).map fun i => .int .i64 (fwF i)
theorem fwL_succ (k : Nat) : fwL (k + 1) = fwL k ++ [.int .i64 ((k : Int) + 1), .int .i64 (k : Int), .int .i64 0] := by
  unfold fwL
  rw [show (k + 1) * 3 = k * 3 + 3 by omega, List.range_add, List.map_append, ← fwF_0 k, ← fwF_1 k, ← fwF_2 k]
  rfl
theorem fwL_length (k : Nat) : (fwL k).length = k * 3 := by simp [fwL]
theorem fwL_get {k i : Nat} (h : i < k * 3) : (fwL k)[i]? = some (.int .i64 (fwF i)) := by simp [fwL, h]
theorem cells_three (W : World) (a b c : Value) (t : TypeId) : ∀ (j : Nat) (u : Value), [a, b, c][j]? = some u → (W.alloc (.cells #[a, b, c] t)).cell? ((⟨W.heap.size, 0, none⟩ : Addr).add j) = some u := by
  intro j u h
  have hh := World.alloc_heap_new W (.cells #[a, b, c] t)
  match j, h with
  | 0, h => rw [show (⟨W.heap.size, 0, none⟩ : Addr).add 0 = ⟨W.heap.size, 0, none⟩ by simp [Addr.add], cell_h hh rfl]; simpa using h
  | 1, h => rw [show (⟨W.heap.size, 0, none⟩ : Addr).add 1 = ⟨W.heap.size, 1, none⟩ by simp [Addr.add], cell_h hh rfl]; simpa using h
  | 2, h => rw [show (⟨W.heap.size, 0, none⟩ : Addr).add 2 = ⟨W.heap.size, 2, none⟩ by simp [Addr.add], cell_h hh rfl]; simpa using h

end Go.Proofs.YtmdniebedflpbaaDoor
