/-
  WALKS: the law of votes.
-/
import Derived.Test.YteinabcklmpcjaaPvH
import Derived.Test.YteinabcklmpcjaaPsF
namespace Go.Proofs.Yteinabcklmpcjaa
open Go.RowKit

set_option maxRecDepth 100000 in
set_option maxHeartbeats 4000000 in
theorem votes_law (w : World) (a : Option Addr) (n c : Nat) (f : Nat → Int) (v : Int) (hn : n ≤ maxLen) (hS : Sl w 2 a n f) :
    Calls Try.prog 5 #[.slice a n c, .int .i64 v] w fun e w' => e = .returned (.bool true) ∧ Below w.heap.size w w' := by
  have hmx : maxLen = 9223372036854775807 := rfl
  by_cases h1 : 20 < n
  · clear hS hn hmx
    go_enter Try.func5, Try.ntmps5
    go_wp2_with fail
    refine (awake_of w).mono ?_
    rintro e w2 ⟨rfl, hB⟩
    have HB := Lib.hid hB
    clear hB
    go_wp2_with fail
    go_ret
    exact ⟨rfl, HB.out⟩
  have C1 := Lib.hid (vote_of w a n c f v hn hS)
  have C2 : Hid (∀ W : World, Sl W 2 a n f → Calls Try.prog 27 #[.slice a n c, .int .i64 v] W fun e w' => ∃ lo hi er, e = .returned (resW lo hi er) ∧ VoteOut n f v lo hi er ∧ Below W.heap.size W w') := fun W h => rvote_of W a n c f v hn h
  have HS := Lib.hid hS
  have hn20 : n ≤ 20 := by omega
  clear hS hn hmx h1
  go_enter Try.func5, Try.ntmps5
  go_wp2_with fail
  refine C1.out.mono ?_
  rintro e W1 ⟨lo, hi, er, rfl, hO, hB1⟩
  have hB2 : Below w.heap.size w (W1.alloc (.cells #[.int .i64 lo, .int .i64 hi] 25)) := hB1.alloc hB1.size _
  have a2 := World.alloc_heap_new W1 (.cells #[.int .i64 lo, .int .i64 hi] 25)
  have S2 := Lib.hid (HS.out.keep (by decide) hB2)
  have HB2 := Lib.hid hB2
  have HA2 := Lib.hid a2
  have HO := Lib.hid hO
  clear hB1 hB2 a2 hO C1
  dsimp only [resW]
  go_wp2_with fail
  generalize W1.alloc (.cells #[.int .i64 lo, .int .i64 hi] 25) = W2 at S2 HB2 HA2 ⊢
  generalize W1.heap.size = B1 at HA2 ⊢
  refine (C2.out W2 S2.out).mono ?_
  rintro e W3 ⟨lo', hi', er', rfl, hO', hB3⟩
  obtain ⟨rfl, rfl, rfl⟩ := HO.out.eq hO'
  have hB4 : Below w.heap.size w (W3.alloc (.cells #[.int .i64 lo, .int .i64 hi] 25)) := (HB2.out.trans (hB3.mono HB2.out.size)).alloc (Nat.le_trans HB2.out.size hB3.size) _
  have a4 := World.alloc_heap_new W3 (.cells #[.int .i64 lo, .int .i64 hi] 25)
  have b4 := al_old ((hB3.block _ (Array.getElem?_eq_some_iff.1 HA2.out).1).trans HA2.out) (.cells #[.int .i64 lo, .int .i64 hi] 25)
  have HB4 := Lib.hid hB4
  have p0 : (W3.alloc (.cells #[.int .i64 lo, .int .i64 hi] 25)).cell? ⟨W3.heap.size, 0, none⟩ = some (.int .i64 lo) := cell_h a4 rfl
  have p1 : (W3.alloc (.cells #[.int .i64 lo, .int .i64 hi] 25)).cell? ⟨W3.heap.size, 1, none⟩ = some (.int .i64 hi) := cell_h a4 rfl
  have r0 : (W3.alloc (.cells #[.int .i64 lo, .int .i64 hi] 25)).cell? ⟨B1, 0, none⟩ = some (.int .i64 lo) := cell_h b4 rfl
  have r1 : (W3.alloc (.cells #[.int .i64 lo, .int .i64 hi] 25)).cell? ⟨B1, 1, none⟩ = some (.int .i64 hi) := cell_h b4 rfl
  clear hB3 hB4 a4 b4 hO' HO S2 HA2 HB2 C2
  dsimp only [resW]
  go_wp2_with fail
  refine (awake_of _).mono ?_
  rintro e W6 ⟨rfl, hB6⟩
  have HB6 := Lib.hid (HB4.out.trans (hB6.mono HB4.out.size))
  clear hB6
  go_wp2_with fail
  go_ret
  exact ⟨rfl, HB6.out⟩
end Go.Proofs.Yteinabcklmpcjaa
