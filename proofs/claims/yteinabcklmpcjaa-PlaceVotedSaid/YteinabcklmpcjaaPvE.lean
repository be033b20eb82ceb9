/-
  WALKS: turns in their order.
-/
import Derived.Test.YteinabcklmpcjaaPvS
namespace Go.Proofs.Yteinabcklmpcjaa
open Go.RowKit

/-- What turns tells: the turns in their order. -/
def TurnEnd (n : Nat) (f : Nat → Int) (w : World) (e : Ending) (W : World) : Prop :=
  ∃ b c L, e = .returned (.slice (some ⟨b, 0, none⟩) (n * 2) c) ∧ L.Perm (tb f n) ∧ L.Pairwise (fun a b => ¬turnCmp b a < 0) ∧
    (∀ k, k < n * 2 → W.cell? ⟨b, k * 2, none⟩ = some (.int .i64 (T_of L k).1) ∧ W.cell? ⟨b, k * 2 + 1, none⟩ = some (.int .i64 (T_of L k).2)) ∧ w.heap.size ≤ b ∧ b < W.heap.size ∧ Below w.heap.size w W

set_option maxRecDepth 100000 in
set_option maxHeartbeats 4000000 in
theorem turns_of (w : World) (a : Option Addr) (n c : Nat) (f : Nat → Int) (hn : 1 ≤ n ∧ n ≤ 16) (hS : Sl w 2 a n f) :
    Calls Try.prog 64 #[.slice a n c] w (TurnEnd n f w) := by
  obtain ⟨i0, hi, hz0, hz1, hz2⟩ := info_parts x_turn
  have HS := Lib.hid hS
  clear hS
  go_enter Try.func64, Try.ntmps64
  go_wp2_with fail
  go_loopw [3, 8] (fun v i wr => ∃ k : Nat, k ≤ n ∧ i = .int .i64 k ∧ Hid (wr.ownsRow w.heap.size 124 2 v (k * 2) (tcells (tb f k))) ∧ Hid (Below w.heap.size w wr)) (fun _ i _ => n - (intOf i).toNat)
  case atStart => exact ⟨0, by omega, rfl, ⟨rfl, .inl ⟨rfl, rfl⟩⟩, Below.refl _ _⟩
  case round =>
    obtain ⟨k, hk, rfl, HR, HB⟩ := hrel
    by_cases hlt : k < n
    · obtain ⟨b, o, rfl, hI⟩ := HS.out (by omega)
      have hI2 := hI.keep HB.out (hI.lt (by omega))
      have d0 := hI2 (k * 2) (by omega)
      have d1 := hI2.at (k * 2) 1 (by omega)
      have hL : tcells (tb f (k + 1)) = tcells (tb f k) ++ [.int .i64 (f (k * 2)), .int .i64 1, .int .i64 (f (k * 2 + 1)), .int .i64 (-1)] := by
        simp only [tb]; rw [tcells_append]; rfl
      clear hI hI2
      generalize f (k * 2) = X at d0 hL
      generalize f (k * 2 + 1) = Y at d1 hL
      have HL := Lib.hid hL
      have hsz := HB.out.size
      clear hL
      go_wp2_with (at_builtin; refine wpList_append_own _ rfl _ _ 121 rfl w.heap.size 124 i0 (.agg #[.int .i64 0, .int .i64 0]) 2 16 Try.underlying121 hi hz0 hz1 hz2 rfl (by decide) _ (k * 2) _ rfl ((HR.out.alloc _).alloc _) ⟨wr.heap.size + 1, 0, none⟩ 2 2 [.int .i64 X, .int .i64 1, .int .i64 Y, .int .i64 (-1)] rfl rfl (by have := cells_four (wr.alloc (.cells #[.int .i64 X, .int .i64 Y] 25)) (.int .i64 X) (.int .i64 1) (.int .i64 Y) (.int .i64 (-1)) 124; rwa [World.size_alloc] at this) (by simp [Value.oneCell']) (by unfold maxLen; omega) (by omega) (by simp; omega) ?_; intro v' w1 hown' hgrow _)
      refine ⟨⟨k + 1, by omega, by go_num, ?_, ((HB.out.alloc HB.out.size _).alloc (by have := HB.out.size; simp; omega) _).grown hgrow (by have := HB.out.size; simp; omega) (fun j hj => (HR.out.lt j hj).1)⟩, by simp [intOf]; omega⟩
      rw [HL.out, show (k + 1) * 2 = k * 2 + 2 by omega]
      exact hown'
    · obtain rfl : k = n := by omega
      have hv : ∃ g cap, u3 = .slice (some ⟨g, 0, none⟩) (k * 2) cap := by
        have hO := HR.out
        obtain ⟨j, hj⟩ : ∃ j, k * 2 = j + 1 := ⟨k * 2 - 1, by omega⟩
        rw [hj] at hO ⊢
        exact ownsRow_succ hO
      obtain ⟨g, cap, rfl⟩ := hv
      go_wp2_with fail
      have hlen := tb_length f k
      have hc := sort_turns wr g cap w.heap.size (tb f k) (by rw [hlen]; exact HR.out) (by omega) HB.out.size
      rw [hlen] at hc
      refine hc.mono ?_
      rintro e W2 ⟨rfl, L, hp, hs, hT, hg, hg2, hB2⟩
      have HB2 := Lib.hid (HB.out.trans hB2)
      have HX : Hid (L.Perm (tb f k) ∧ L.Pairwise (fun a b => ¬turnCmp b a < 0)) := ⟨hp, hs⟩
      have HT := Lib.hid hT
      clear hp hs hT hB2
      go_wp2_with fail
      exact bodyPost_ret (v := .slice (some ⟨g, 0, none⟩) (k * 2) cap) (by simp [results, Try.f64, go_sem]) rfl ⟨g, cap, L, rfl, HX.out.1, HX.out.2.imp (fun h => by omega), HT.out, hg, hg2, HB2.out⟩
end Go.Proofs.Yteinabcklmpcjaa
