/-
  WALKS: the steps of the statements DentCloses and DentDrifts.
-/
import Derived.Test.YtlbffdgojmjijaaDoorDrE
import Derived.Test.YtlbffdgojmjijaaDoorLnM
import Derived.Deep.AppendLies
namespace Go.Proofs.YtlbffdgojmjijaaDoor
open Go.RowKit

/-- A slice of triples of small numbers. -/
def St (w : World) (a : Option Addr) (n : Nat) (s : Nat → Int) : Prop := 0 < n → ∃ b o, a = some ⟨b, o, none⟩ ∧ ∀ i, i < n * 3 → w.cell? ⟨b, o + i, none⟩ = some (.int .i8 (s i))
def wF (s : Nat → Int) (i : Nat) : Int := if i % 3 = 0 then 100 + s i else s i
theorem wF0 (s : Nat → Int) (k : Nat) : wF s (k * 3) = 100 + s (k * 3) := by unfold wF; rw [if_pos (by omega)]
theorem wF1 (s : Nat → Int) (k : Nat) : wF s (k * 3 + 1) = s (k * 3 + 1) := by unfold wF; rw [if_neg (by omega)]
theorem wF2 (s : Nat → Int) (k : Nat) : wF s (k * 3 + 2) = s (k * 3 + 2) := by unfold wF; rw [if_neg (by omega)]
set_option maxRecDepth 100000 in
set_option maxHeartbeats 4000000 in
theorem way_of (w : World) (a : Option Addr) (n c : Nat) (s : Nat → Int) (hn : n ≤ maxLen) (hs : ∀ i, i < n * 3 → -128 ≤ s i ∧ s i ≤ 127) (hS : St w a n s) :
    Calls Tryd.prog 6 #[.slice a n c] w fun e W' => ∃ x m c' f, e = .returned (.slice x m c') ∧ Sl W' 3 x m f ∧ (1 ≤ m ∧ m ≤ 12) ∧ (∀ i, i < m * 3 → -300 ≤ f i ∧ f i ≤ 300) ∧ Below w.heap.size w W' := by
  have hmx : maxLen = 9223372036854775807 := rfl
  obtain ⟨i0, hi0, hz0, hz1, hz2⟩ := info_parts x_vec
  have HI0 : Hid (Tryd.prog.info? 36 = some i0 ∧ i0.zero = some (.agg #[.int .i64 0, .int .i64 0, .int .i64 0]) ∧ i0.size = 3 ∧ i0.bytes = 24) := ⟨hi0, hz0, hz1, hz2⟩
  have HS := Lib.hid hS
  have HSb := Lib.hid hs
  clear hS hs hi0 hz0 hz1 hz2
  go_enter Tryd.func6, Tryd.ntmps6
  go_wp2_with fail
  have HR0 : Hid (w.ownsRow w.heap.size 36 3 (.slice none 0 0) 0 (Ln.irow (wF s) (0 * 3))) := Ln.own_nil w _ _ 3 (wF s)
  go_loopw [3, 8] (fun vo vi wr => ∃ k m : Nat, k ≤ n ∧ vi = .int .i64 k ∧ m ≤ 12 ∧ (k < 12 → m = k) ∧ (12 ≤ k → m = 12) ∧ m ≤ n ∧ Hid (wr.ownsRow w.heap.size 36 3 vo m (Ln.irow (wF s) (m * 3))) ∧ Hid (Below w.heap.size w wr)) (fun _ vi _ => n - (intOf vi).toNat)
  case atStart => exact ⟨0, 0, by omega, rfl, by omega, fun _ => rfl, fun h => absurd h (by omega), by omega, HR0, Below.refl _ _⟩
  case round =>
    obtain ⟨k, m, hk, rfl, hm, hm1, hm2, hmn, HR, HB⟩ := hrel
    have hss := HB.out.size
    obtain ⟨xa, cx, rfl⟩ := Ln.own_slice HR.out
    by_cases hlt : k < n
    · obtain ⟨b, o, rfl, hc⟩ := HS.out (by omega)
      have hbl : b < w.heap.size := World.block_lt_of_cell? _ _ (hc (k * 3) (by omega))
      have d0 := (HB.out.cell (p := ⟨b, o + k * 3, none⟩) hbl).trans (hc (k * 3) (by omega))
      have d1 := (HB.out.cell (p := ⟨b, o + (k * 3 + 1), none⟩) hbl).trans (hc (k * 3 + 1) (by omega))
      have d2 := (HB.out.cell (p := ⟨b, o + (k * 3 + 2), none⟩) hbl).trans (hc (k * 3 + 2) (by omega))
      rw [← Nat.add_assoc] at d1 d2
      clear hc
      by_cases h12 : k < 12
      · obtain rfl := hm1 h12
        have q0 := HSb.out (m * 3) (by omega)
        have q1 := HSb.out (m * 3 + 1) (by omega)
        have q2 := HSb.out (m * 3 + 2) (by omega)
        have HIr : Hid (Ln.irow (wF s) (m * 3) ++ [.int .i64 (100 + s (m * 3)), .int .i64 (s (m * 3 + 1)), .int .i64 (s (m * 3 + 2))] = Ln.irow (wF s) ((m + 1) * 3)) := by
          rw [Ln.irow3, wF0, wF1, wF2]; exact Lib.hid rfl
        generalize s (m * 3) = x0 at d0 q0 HIr
        generalize s (m * 3 + 1) = x1 at d1 q1 HIr
        generalize s (m * 3 + 2) = x2 at d2 q2 HIr
        have e0 : IntKind.i64.wrap (100 + x0) = 100 + x0 := IntWalk.i64_in _ (by omega)
        clear hm1 hm2
        have HNew := Lib.hid (World.news_of_block (al_1 wr (.cells #[.int .i8 x0, .int .i8 x1, .int .i8 x2] 45) (.cells #[.int .i64 (100 + x0), .int .i64 x1, .int .i64 x2] 36)))
        go_wp2_with (at_builtin; refine wpList_append_own _ rfl _ _ 24 rfl w.heap.size 36 i0 (.agg #[.int .i64 0, .int .i64 0, .int .i64 0]) 3 24 Tryd.underlying24 HI0.out.1 HI0.out.2.1 HI0.out.2.2.1 HI0.out.2.2.2 rfl (by decide) _ m _ rfl ((HR.out.alloc _).alloc _) ⟨wr.heap.size + 1, 0, none⟩ 1 1 [.int .i64 (100 + x0), .int .i64 x1, .int .i64 x2] rfl rfl HNew.out (by simp [Value.oneCell']) (by unfold maxLen; omega) (by omega) (by simp; omega) ?_; intro v4 W4 hown4 hgrow4 _; have HO4 := Lib.hid hown4; have HB4 : Hid (Below w.heap.size w W4) := ((HB.out.alloc (by omega) _).alloc (by simp; omega) _).grown hgrow4 (by simp; omega) (fun j hj => by have := (HR.out.lt j hj).1; omega); clear hown4 hgrow4)
        rw [HIr.out] at HO4
        exact ⟨⟨m + 1, m + 1, by omega, by go_num, by omega, fun _ => rfl, fun h => by omega, by omega, HO4, HB4⟩, by simp [intOf]; omega⟩
      · obtain rfl := hm2 (by omega)
        go_wp2_with fail
        exact ⟨⟨k + 1, 12, by omega, by go_num, by omega, fun h => absurd h (by omega), fun _ => rfl, hmn, HR.out.alloc _, HB.out.alloc hss _⟩, by simp [intOf]; omega⟩
    · obtain rfl : k = n := by omega
      by_cases h0 : m = 0
      · subst h0
        go_wp2_with fail
        go_ret
        have hA := World.alloc_heap_new wr (.cells #[.int .i64 5, .int .i64 0, .int .i64 0] 36)
        refine ⟨_, 1, 1, fun i => if i = 0 then 5 else 0, rfl, fun _ => ⟨wr.heap.size, 0, rfl, fun i hi => ?_⟩, by omega, fun i hi => by dsimp only; split <;> omega, HB.out.alloc hss _⟩
        rw [Nat.zero_add]
        simp only [World.cell?, hA]
        rcases (by omega : i = 0 ∨ i = 1 ∨ i = 2) with rfl | rfl | rfl <;> rfl
      · have em : (m : Int) ≤ 12 ∧ 1 ≤ (m : Int) := by omega
        go_wp2_with fail
        go_ret
        obtain ⟨x', c', hv, _, hSl, _⟩ := Ln.own_sl HR.out
        cases hv
        refine ⟨_, m, _, wF s, rfl, hSl, by omega, fun i hi => ?_, HB.out⟩
        have := HSb.out i (by omega)
        unfold wF
        split <;> omega
end Go.Proofs.YtlbffdgojmjijaaDoor
