/-
  WALKS: places from steps.
-/
import Derived.Test.YtonlamkpehakdaaPxC
import Derived.Test.YtonlamkpehakdaaPmL
import Derived.StillTailTactics
namespace Go.Proofs.Ytonlamkpehakdaa
open Go.RowKit

/-- A slice of numbers of 16 bits. -/
def Sh (w : World) (a : Option Addr) (n : Nat) (s : Nat → Int) : Prop := 0 < n → ∃ b o, a = some ⟨b, o, none⟩ ∧ ∀ i, i < n → w.cell? ⟨b, o + i, none⟩ = some (.int .u16 (s i))
theorem cell_lt {w : World} {b o : Nat} {v : Value} (h : w.cell? ⟨b, o, none⟩ = some v) : b < w.heap.size := by
  unfold World.cell? at h
  cases e : w.heap[b]? with
  | none => simp [e] at h
  | some x => exact (Array.getElem?_eq_some_iff.1 e).1
theorem Sh.cell {w w' : World} {a : Option Addr} {n : Nat} {s : Nat → Int} (h : Sh w a n s) (hb : Below w.heap.size w w') {i : Nat} (hi : i < n) : ∃ b o, a = some ⟨b, o, none⟩ ∧ w'.cell? ⟨b, o + i, none⟩ = some (.int .u16 (s i)) := by
  obtain ⟨b, o, rfl, hc⟩ := h (by omega)
  exact ⟨b, o, rfl, (hb.cell (p := ⟨b, o + i, none⟩) (cell_lt (hc i hi))).trans (hc i hi)⟩

/-- The places. -/
def plS (s : Nat → Int) : Nat → Int
  | 0 => 0
  | k + 1 => plS s k + s k
theorem plS_bd {s : Nat → Int} {n : Nat} (hs : ∀ i, i < n → 0 ≤ s i ∧ s i ≤ 65535) : ∀ k, k ≤ n → 0 ≤ plS s k ∧ plS s k ≤ k * 65535
  | 0, _ => by simp [plS]
  | k + 1, hk => by
    have := plS_bd hs k (by omega)
    have := hs k (by omega)
    simp only [plS]
    push_cast
    omega
/-- Ints, as cells. -/
def jrow (p : Nat → Int) (n : Nat) : List Value := (List.range n).map fun i => .int .i64 (p i)
theorem jrow_succ (p : Nat → Int) (n : Nat) : jrow p (n + 1) = jrow p n ++ [.int .i64 (p n)] := by
  unfold jrow
  rw [List.range_succ, List.map_append]
  rfl
theorem jrow_get (p : Nat → Int) {n i : Nat} (h : i < n) : (jrow p n)[i]? = some (.int .i64 (p i)) := by simp [jrow, h]
theorem x_int : (Try.prog.info? 3).map (fun i => (i.zero, i.size, i.bytes)) = some (some (.int .i64 0), 1, 8) := by kernel_rfl
theorem cell_one (w : World) (v : Value) (t : TypeId) : ∀ j u, [v][j]? = some u → (w.alloc (.cells #[v] t)).cell? ((⟨w.heap.size, 0, none⟩ : Addr).add j) = some u := by
  intro j u h
  have e : j = 0 := by
    cases j with
    | zero => rfl
    | succ j => simp at h
  subst e
  simp only [List.getElem?_cons_zero] at h
  rw [← h]
  exact cell_h (World.alloc_heap_new w (.cells #[v] t)) rfl

set_option maxRecDepth 100000 in
set_option maxHeartbeats 4000000 in
theorem truly_of (w : World) (a : Option Addr) (n c : Nat) (s : Nat → Int) (hn : n ≤ 9) (hs : ∀ i, i < n → 0 ≤ s i ∧ s i ≤ 65535) (hS : Sh w a n s) :
    Calls Try.prog 43 #[.slice a n c] w fun e W' => ∃ g cap, e = .returned (.slice (some ⟨g, 0, none⟩) (n + 1) cap) ∧ W'.ownsRow w.heap.size 3 1 (.slice (some ⟨g, 0, none⟩) (n + 1) cap) (n + 1) (jrow (plS s) (n + 1)) ∧ Below w.heap.size w W' := by
  obtain ⟨i0, hi0, hz0, hz1, hz2⟩ := info_parts x_int
  have HS := Lib.hid hS
  have HT := Lib.hid hs
  have hL0 := World.ownsRow_lit (base := w.heap.size) (e := 3) (size := 1) w #[.int .i64 0] 1 (by omega) (by decide) rfl
  have HL0 : Hid ((w.alloc (.cells #[.int .i64 0] 3)).ownsRow w.heap.size 3 1 (.slice (some ⟨w.heap.size, 0, none⟩) 1 1) 1 (jrow (plS s) 1)) := hL0
  have HB0 : Hid (Below w.heap.size w (w.alloc (.cells #[.int .i64 0] 3))) := (Below.refl _ w).alloc (Nat.le_refl _) _
  clear hS hs hL0
  go_enter Try.func43, Try.ntmps43
  go_wp2_with fail
  go_loopw [3, 9] (fun vo vi wr => ∃ k : Nat, k ≤ n ∧ vi = .int .i64 k ∧ Hid (wr.ownsRow w.heap.size 3 1 vo (k + 1) (jrow (plS s) (k + 1))) ∧ Hid (Below w.heap.size w wr)) (fun _ vi _ => n - (intOf vi).toNat)
  case atStart => exact ⟨0, by omega, rfl, HL0.out, HB0.out⟩
  case round =>
    obtain ⟨k, hk, rfl, HO, HB⟩ := hrel
    obtain ⟨g, cap, rfl⟩ := ownsRow_succ HO.out
    by_cases hlt : k < n
    · obtain ⟨b, o, rfl, d0⟩ := HS.out.cell HB.out hlt
      have dg : wr.cell? ⟨g, k, none⟩ = some (.int .i64 (plS s k)) := by
        rw [World.ownsRow.cellAt HO.out k (by omega), jrow_get _ (by omega)]
      have hb1 := plS_bd HT.out k hk
      have hb2 := HT.out k hlt
      have e0 : IntKind.i64.wrap (s k) = s k := IntWalk.i64_in _ (by omega)
      have e1 : IntKind.i64.wrap (plS s k + s k) = plS s (k + 1) := IntWalk.i64_in _ (by omega)
      have hss := HB.out.size
      go_wp2_with (at_builtin; refine wpList_append_own _ rfl _ _ 23 rfl w.heap.size 3 i0 (.int .i64 0) 1 8 Try.underlying23 hi0 hz0 hz1 hz2 rfl (by decide) _ (k + 1) _ rfl (HO.out.alloc _) ⟨wr.heap.size, 0, none⟩ 1 1 [.int .i64 (plS s (k + 1))] rfl rfl (cell_one _ _ _) (by simp [Value.oneCell']) (by unfold maxLen; omega) (by omega) (by simp; omega) ?_; intro v' w1 hown' hgrow _)
      exact ⟨⟨k + 1, by omega, by go_num, by rw [jrow_succ _ (k + 1)]; exact hown', (HB.out.alloc hss _).grown hgrow (by simp; omega) (fun j hj => (HO.out.lt j hj).1)⟩, by simp [intOf]; omega⟩
    · obtain rfl : k = n := by omega
      go_wp2_with fail
      exact bodyPost_ret (v := .slice (some ⟨g, 0, none⟩) (k + 1) cap) (by simp [results, Try.f43, go_sem]) rfl ⟨g, cap, rfl, HO.out, HB.out⟩
end Go.Proofs.Ytonlamkpehakdaa
