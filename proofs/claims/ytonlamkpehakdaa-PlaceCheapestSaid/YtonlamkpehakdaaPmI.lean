/-
  WALKS: pairs are turned about.
-/
import Derived.Test.YtonlamkpehakdaaPmH
import Derived.BigRegion
import Derived.RegionTactic
import Derived.ChangeAlike
namespace Go.Proofs.Ytonlamkpehakdaa
open Go.RowKit

/-- A row of n pairs of ints, of which i have been exchanged from each end. -/
def rvG (n i : Nat) (f : Nat → Int) (p : Nat) : Int := if p / 2 < n ∧ (p / 2 < i ∨ n - i ≤ p / 2) then f ((n - 1 - p / 2) * 2 + p % 2) else f p
/-- A row of n pairs of ints, turned about. -/
def rvE (n : Nat) (f : Nat → Int) (p : Nat) : Int := if p / 2 < n then f ((n - 1 - p / 2) * 2 + p % 2) else f p
theorem rv_zero (n : Nat) (f : Nat → Int) (p : Nat) : rvG n 0 f p = f p := by unfold rvG; rw [if_neg (by omega)]
theorem rv_done {n i : Nat} (h : n ≤ 2 * i + 1) (f : Nat → Int) (p : Nat) : rvG n i f p = rvE n f p := by
  unfold rvG rvE
  by_cases h1 : p / 2 < n
  · rw [if_pos h1]
    by_cases h2 : p / 2 < i ∨ n - i ≤ p / 2
    · rw [if_pos ⟨h1, h2⟩]
    · rw [if_neg (by omega)]; congr 1; omega
  · rw [if_neg (by omega), if_neg h1]
theorem rv_at {n i k : Nat} (hk : i + k = n - 1) (hn : 0 < n) (hlt : i < k) (f : Nat → Int) : rvG n i f (i * 2) = f (i * 2) ∧ rvG n i f (i * 2 + 1) = f (i * 2 + 1) ∧ rvG n i f (k * 2) = f (k * 2) ∧ rvG n i f (k * 2 + 1) = f (k * 2 + 1) := by
  unfold rvG
  refine ⟨?_, ?_, ?_, ?_⟩ <;> rw [if_neg (by omega)]
theorem rv_step {n i k : Nat} (hk : i + k = n - 1) (hn : 0 < n) (hlt : i < k) (f : Nat → Int) (p : Nat) :
    turn (turn (turn (turn (fun p => Value.int .i64 (rvG n i f p)) (i * 2) (.int .i64 (f (k * 2)))) (i * 2 + 1) (.int .i64 (f (k * 2 + 1)))) (k * 2) (.int .i64 (f (i * 2)))) (k * 2 + 1) (.int .i64 (f (i * 2 + 1))) p = .int .i64 (rvG n (i + 1) f p) := by
  unfold turn
  by_cases e3 : p = k * 2 + 1
  · rw [if_pos e3]; unfold rvG; rw [if_pos (by omega)]; congr 2; omega
  rw [if_neg e3]
  by_cases e2 : p = k * 2
  · rw [if_pos e2]; unfold rvG; rw [if_pos (by omega)]; congr 2; omega
  rw [if_neg e2]
  by_cases e1 : p = i * 2 + 1
  · rw [if_pos e1]; unfold rvG; rw [if_pos (by omega)]; congr 2; omega
  rw [if_neg e1]
  by_cases e0 : p = i * 2
  · rw [if_pos e0]; unfold rvG; rw [if_pos (by omega)]; congr 2; omega
  rw [if_neg e0]
  show Value.int .i64 (rvG n i f p) = _
  congr 1
  unfold rvG
  by_cases h : p / 2 < n ∧ (p / 2 < i ∨ n - i ≤ p / 2)
  · rw [if_pos h, if_pos (by omega)]
  · rw [if_neg h, if_neg (by omega)]

/-- The first cells are ints, the others whatever. -/
def mixG (n : Nat) (f : Nat → Int) (G : Nat → Value) (p : Nat) : Value := if p < n * 2 then .int .i64 (f p) else G p
theorem mix_at {n p : Nat} (f : Nat → Int) (G : Nat → Value) (h : p < n * 2) : mixG n f G p = .int .i64 (f p) := by unfold mixG; rw [if_pos h]
theorem mix_step {n i k : Nat} (hk : i + k = n - 1) (hn : 0 < n) (hlt : i < k) (f : Nat → Int) (G : Nat → Value) (p : Nat) :
    turn (turn (turn (turn (mixG n (rvG n i f) G) (i * 2) (.int .i64 (f (k * 2)))) (i * 2 + 1) (.int .i64 (f (k * 2 + 1)))) (k * 2) (.int .i64 (f (i * 2)))) (k * 2 + 1) (.int .i64 (f (i * 2 + 1))) p = mixG n (rvG n (i + 1) f) G p := by
  by_cases h : p < n * 2
  · rw [mix_at _ _ h, ← rv_step hk hn hlt f p]
    unfold turn
    split
    · rfl
    · split
      · rfl
      · split
        · rfl
        · split
          · rfl
          · exact mix_at _ _ h
  · unfold turn
    rw [if_neg (by omega), if_neg (by omega), if_neg (by omega), if_neg (by omega)]
    unfold mixG
    rw [if_neg h, if_neg h]
def RevEnd (w : World) (b n N : Nat) (f : Nat → Int) (G : Nat → Value) (e : Ending) (w' : World) : Prop := (∃ v, e = .returned v) ∧ Blk w' b 107 N (mixG n (rvE n f) G) ∧ BelowX w.heap.size b w w'
set_option maxRecDepth 100000 in
set_option maxHeartbeats 4000000 in
theorem rev_of (w : World) (b n c N : Nat) (f : Nat → Int) (G : Nat → Value) (hB : Blk w b 107 N (mixG n f G)) (hN : n * 2 ≤ N) (hn : n ≤ 1000) :
    Calls Try.prog 78 #[.slice (some ⟨b, 0, none⟩) n c] w (RevEnd w b n N f G) := by
  have HB := Lib.hid hB
  clear hB
  go_enter Try.func78, Try.ntmps78
  go_wp2
  go_loopw [2, 3] (fun vi vj wr => ∃ (i : Nat) (j : Int), vi = .int .i64 i ∧ vj = .int .i64 j ∧ j < n ∧ (i : Int) ≤ j + 2 ∧ -1 ≤ j ∧ (i : Int) + j = (n : Int) - 1 ∧ Hid (Blk wr b 107 N (mixG n (rvG n i f) G)) ∧ Hid (BelowX w.heap.size b w wr)) (fun _ vj _ => (intOf vj + 1).toNat)
  case atStart => exact ⟨0, (n : Int) - 1, rfl, by rfl, by omega, by omega, by omega, by omega, HB.out.congr fun p _ => by (unfold mixG; rw [rv_zero]), BelowX.refl _ _ _⟩
  case round =>
    obtain ⟨i, j, rfl, rfl, h1, h0, h2, h3, HF, HX⟩ := hrel
    by_cases hlt : (i : Int) < j
    · obtain ⟨k, rfl⟩ : ∃ k : Nat, j = k := ⟨j.toNat, by omega⟩
      have hik : i < k := by omega
      have hkn : k < n := by omega
      have i1 : (i : Int) < n := by omega
      obtain ⟨v0, v1, v2, v3⟩ := rv_at (n := n) (i := i) (k := k) (by omega) (by omega) hik f
      have c0 := HF.out.cell (k := i * 2) (by omega)
      have c1 := HF.out.cell (k := i * 2 + 1) (by omega)
      have c2 := HF.out.cell (k := k * 2) (by omega)
      have c3 := HF.out.cell (k := k * 2 + 1) (by omega)
      rw [mix_at _ _ (by omega), v0] at c0
      rw [mix_at _ _ (by omega), v1] at c1
      rw [mix_at _ _ (by omega), v2] at c2
      rw [mix_at _ _ (by omega), v3] at c3
      have z := HF.out.fz
      have hst : Blk ((((wr.setCell ⟨b, i * 2, none⟩ (.int .i64 (f (k * 2)))).setCell ⟨b, i * 2 + 1, none⟩ (.int .i64 (f (k * 2 + 1)))).setCell ⟨b, k * 2, none⟩ (.int .i64 (f (i * 2)))).setCell ⟨b, k * 2 + 1, none⟩ (.int .i64 (f (i * 2 + 1)))) b 107 N (mixG n (rvG n (i + 1) f) G) :=
        ((((HF.out.set (i * 2) (.int .i64 (f (k * 2)))).set (i * 2 + 1) (.int .i64 (f (k * 2 + 1)))).set (k * 2) (.int .i64 (f (i * 2)))).set (k * 2 + 1) (.int .i64 (f (i * 2 + 1)))).congr fun p _ => mix_step (by omega) (by omega) hik f G p
      have HSt := Lib.hid hst
      clear hst v0 v1 v2 v3
      generalize f (i * 2) = x0 at *
      generalize f (i * 2 + 1) = x1 at *
      generalize f (k * 2) = x2 at *
      generalize f (k * 2 + 1) = x3 at *
      go_wp2
      go_region
      all_goals go_wp2
      have hX4 := HX.out.trans ((((BelowX.set w.heap.size b (i * 2) wr (.int .i64 x2)).trans (BelowX.set w.heap.size b (i * 2 + 1) _ (.int .i64 x3))).trans (BelowX.set w.heap.size b (k * 2) _ (.int .i64 x0))).trans (BelowX.set w.heap.size b (k * 2 + 1) _ (.int .i64 x1)))
      exact ⟨⟨i + 1, (k : Int) - 1, by go_num, rfl, by omega, by omega, by omega, by omega, HSt.out, ⟨hX4.os, hX4.tape, hX4.output, hX4.size, hX4.block⟩⟩, by simp [intOf] <;> omega⟩
    · go_wp2
      go_end0
      exact ⟨⟨_, rfl⟩, HF.out.congr fun p _ => by (unfold mixG; rw [rv_done (by omega)]), HX.out⟩
theorem rev_nil (w : World) : Calls Try.prog 78 #[.slice none 0 0] w fun e w' => (∃ v, e = .returned v) ∧ w' = w := by
  go_enter Try.func78, Try.ntmps78
  go_wp2
  refine wp_loop_rounds 1 ?_
  rw [rounds_succ]
  go_wp2
  go_end0
  exact ⟨⟨_, rfl⟩, rfl⟩
end Go.Proofs.Ytonlamkpehakdaa
