/-
  WALKS: the ties of the statements DentCloses and DentDrifts.
-/
import Derived.Test.YtlbffdgojmjijaaDoorDrF
import Derived.Deep.RegionLaw
namespace Go.Proofs.YtlbffdgojmjijaaDoor
open Go.RowKit

theorem x_tie4 : (Tryd.prog.info? 38).map (fun i => (i.zero, i.size, i.bytes)) = some (some (.agg #[.int .i64 0, .int .i64 0, .int .i64 0, .int .i64 0]), 4, 32) := by kernel_rfl
/-- F with the four numbers of one more tie. -/
def tie4 (F : Nat → Int) (k : Nat) (S X Y Z : Int) : Nat → Int := turn (turn (turn (turn F (k * 4) S) (k * 4 + 1) X) (k * 4 + 2) Y) (k * 4 + 3) Z
theorem tie4_low {F : Nat → Int} {k : Nat} {S X Y Z : Int} {i : Nat} (h : i < k * 4) : tie4 F k S X Y Z i = F i := by
  unfold tie4 turn
  rw [if_neg (by omega), if_neg (by omega), if_neg (by omega), if_neg (by omega)]
theorem tie4_at (F : Nat → Int) (k : Nat) (S X Y Z : Int) : tie4 F k S X Y Z (k * 4) = S ∧ tie4 F k S X Y Z (k * 4 + 1) = X ∧ tie4 F k S X Y Z (k * 4 + 2) = Y ∧ tie4 F k S X Y Z (k * 4 + 3) = Z := by
  unfold tie4 turn
  refine ⟨?_, ?_, ?_, ?_⟩
  · rw [if_neg (by omega), if_neg (by omega), if_neg (by omega), if_pos rfl]
  · rw [if_neg (by omega), if_neg (by omega), if_pos rfl]
  · rw [if_neg (by omega), if_pos rfl]
  · rw [if_pos rfl]
theorem tie4_row (F : Nat → Int) (k : Nat) (S X Y Z : Int) : Ln.irow (tie4 F k S X Y Z) ((k + 1) * 4) = Ln.irow F (k * 4) ++ [.int .i64 S, .int .i64 X, .int .i64 Y, .int .i64 Z] := by
  obtain ⟨h0, h1, h2, h3⟩ := tie4_at F k S X Y Z
  rw [show (k + 1) * 4 = k * 4 + 1 + 1 + 1 + 1 by omega]
  simp only [Ln.irow_succ, List.append_assoc, List.cons_append, List.nil_append, h0, h1, h2, h3]
  congr 1
  unfold Ln.irow
  exact List.map_congr_left fun i hi => by rw [tie4_low (List.mem_range.1 hi)]

theorem step_tie {ops : Array Oper} {o : Oper} {a : Act} {W : World} {K : Act → World → Prop} {Q : Exit → Act → World → Prop} {E : Prop} (hgd : o.guard = none) (s x : Operand)
    (ho : o.op = .call { callee := .builtin .append, args := #[s, x], argTypes := #[26, 26] })
    {B : Nat} {v1 : Value} {k : Nat} {F : Nat → Int} {S X Y Z : Int} {L1 : Nat} (hs : a.eval s = v1) (hx : a.eval x = .slice (some ⟨L1, 0, none⟩) 1 1)
    (hown : W.ownsRow B 38 4 v1 k (Ln.irow F (k * 4))) (hL : W.heap[L1]? = some (.cells #[.int .i64 S, .int .i64 X, .int .i64 Y, .int .i64 Z] 38 (0, 0))) (hk : k ≤ 8) (hB : B ≤ W.heap.size)
    (h : ∀ g cap w', w'.ownsRow B 38 4 (.slice (some ⟨g, 0, none⟩) (k + 1) cap) (k + 1) (Ln.irow (tie4 F k S X Y Z) ((k + 1) * 4)) → W.grownBy w' v1.ownBlock → K (a.put o.dst (.slice (some ⟨g, 0, none⟩) (k + 1) cap)) w') :
    if Region.wanted o (yielded ops a.tmps) = true then Oper.wp Tryd.prog o a W K Q else E := by
  obtain ⟨i0, hi0, hz0, hz1, hz2⟩ := info_parts x_tie4
  refine step_append_lies W hgd s x 26 ho B 38 i0 (.agg #[.int .i64 0, .int .i64 0, .int .i64 0, .int .i64 0]) 4 32 Tryd.underlying26 hi0 hz0 hz1 hz2 rfl (by decide) v1 k (Ln.irow F (k * 4)) hs hown ⟨L1, 0, none⟩ 1 1 [.int .i64 S, .int .i64 X, .int .i64 Y, .int .i64 Z] hx rfl (World.news_of_block hL) (by simp [Value.oneCell']) (by decide) (by unfold maxLen; omega) (by omega) hB _ rfl ?_
  intro g cap w' h1 h2 _ _
  refine h g cap w' ?_ h2
  rw [tie4_row]
  exact h1

theorem grown_cell {W w' : World} {own : Option Nat} (gr : W.grownBy w' own) {p : Addr} (hp : p.block < W.heap.size) (hne : some p.block ≠ own) : w'.cell? p = W.cell? p := by
  simp only [World.cell?, gr.block _ hp hne]
/-- The first k ties of a line of m steps f: near to the line, one behind the other. -/
def TieP (m : Nat) (f F : Nat → Int) (k : Nat) : Prop :=
  (∀ j, j < k → (1 ≤ F (j * 4) ∧ F (j * 4) ≤ m) ∧ ∀ q, q < 3 → -128 ≤ F (j * 4 + (q + 1)) - lnS f q (F (j * 4)).toNat ∧ F (j * 4 + (q + 1)) - lnS f q (F (j * 4)).toNat ≤ 127) ∧ ∀ j, j + 1 < k → F (j * 4) < F ((j + 1) * 4)
theorem TieP.more {m : Nat} {f F : Nat → Int} {k : Nat} (h : TieP m f F k) {S : Nat} {x0 x1 x2 : Int} {last : Nat} (hl : 0 < k → F ((k - 1) * 4) = (last : Int)) (hS : last < S ∧ S ≤ m) (h0 : -128 ≤ x0 ∧ x0 ≤ 127) (h1 : -128 ≤ x1 ∧ x1 ≤ 127) (h2 : -128 ≤ x2 ∧ x2 ≤ 127) :
    TieP m f (tie4 F k S (lnS f 0 S + x0) (lnS f 1 S + x1) (lnS f 2 S + x2)) (k + 1) := by
  obtain ⟨a0, a1, a2, a3⟩ := tie4_at F k S (lnS f 0 S + x0) (lnS f 1 S + x1) (lnS f 2 S + x2)
  refine ⟨fun j hj => ?_, fun j hj => ?_⟩
  · by_cases e : j = k
    · subst e
      refine ⟨by rw [a0]; omega, fun q hq => ?_⟩
      rw [a0, Int.toNat_natCast]
      rcases (by omega : q = 0 ∨ q = 1 ∨ q = 2) with rfl | rfl | rfl
      · rw [a1]; omega
      · rw [a2]; omega
      · rw [a3]; omega
    · obtain ⟨b1, b2⟩ := h.1 j (by omega)
      refine ⟨by rw [tie4_low (by omega)]; exact b1, fun q hq => ?_⟩
      rw [tie4_low (by omega), tie4_low (by omega)]
      exact b2 q hq
  · by_cases e : j + 1 = k
    · subst e
      rw [a0, tie4_low (by omega)]
      have := hl (by omega)
      rw [Nat.add_sub_cancel] at this
      omega
    · rw [tie4_low (by omega), tie4_low (by omega)]
      exact h.2 j (by omega)
end Go.Proofs.YtlbffdgojmjijaaDoor
