/-
  WALKS: two appends of one statement, as steps of a region that draws its order.
-/
import Derived.Test.YteinabcklmpcjaaPvL
import Derived.Test.YteinabcklmpcjaaPvH
import Derived.Deep.RegionLaw
import Derived.Deep.AppendLies
namespace Go.Proofs.Yteinabcklmpcjaa
open Go.RowKit

theorem x_range : (Try.prog.info? 25).map (fun i => (i.zero, i.size, i.bytes)) = some (some (.agg #[.int .i64 0, .int .i64 0]), 2, 16) := by kernel_rfl

theorem run_append_nothing {P : Program} (w : World) (t ty e : TypeId) (i : TypeInfo) (ht : P.underlying t = some (.slice e)) (hi : P.info? e = some i) (b : Addr) (n cap : Nat) (hr : n ≤ cap) :
    (Builtin.append_ #[t, t] ty #[.slice (some b) n cap, .slice none 0 0]).run P w = .ok (.slice (some b) n cap) w := by
  simp [Builtin.append_, run_underlying ht, sizeOf, typeInfo, hi, Builtin.lenOf, Builtin.firstCells, storeCells, hr]

theorem rcl_one (f : Nat → Int) (n : Nat) : ∀ u ∈ rcl f n, u.oneCell' = true := by
  intro u hu
  unfold rcl at hu
  obtain ⟨j, _, rfl⟩ := List.mem_map.1 hu
  rfl

/-- Onto the row of ranges: one more. -/
theorem step_rng {ops : Array Oper} {o : Oper} {a : Act} {W : World} {K : Act → World → Prop} {Q : Exit → Act → World → Prop} {E : Prop} (hgd : o.guard = none) (s x : Operand)
    (ho : o.op = .call { callee := .builtin .append, args := #[s, x], argTypes := #[46, 46] })
    {B : Nat} {v1 : Value} {k : Nat} {f : Nat → Int} {Lo Hi : Int} {L1 : Nat} (hs : a.eval s = v1) (hx : a.eval x = .slice (some ⟨L1, 0, none⟩) 1 1)
    (hown : W.ownsRow B 25 2 v1 k (rcl f k)) (hL : W.heap[L1]? = some (.cells #[.int .i64 Lo, .int .i64 Hi] 25 (0, 0))) (hlo : Lo = f (k * 2)) (hhi : Hi = f (k * 2 + 1)) (hk : k ≤ 8) (hB : B ≤ W.heap.size)
    (h : ∀ g cap w', w'.ownsRow B 25 2 (.slice (some ⟨g, 0, none⟩) (k + 1) cap) (k + 1) (rcl f (k + 1)) → W.grownBy w' v1.ownBlock → (v1.ownBlock = some g ∨ g = W.heap.size) → g < w'.heap.size → K (a.put o.dst (.slice (some ⟨g, 0, none⟩) (k + 1) cap)) w') :
    if Region.wanted o (yielded ops a.tmps) = true then Oper.wp Try.prog o a W K Q else E := by
  obtain ⟨i0, hi0, hz0, hz1, hz2⟩ := info_parts x_range
  refine step_append_lies W hgd s x 46 ho B 25 i0 (.agg #[.int .i64 0, .int .i64 0]) 2 16 Try.underlying46 hi0 hz0 hz1 hz2 rfl (by decide) v1 k (rcl f k) hs hown ⟨L1, 0, none⟩ 1 1 [.int .i64 Lo, .int .i64 Hi] hx rfl (World.news_of_block hL) (by simp [Value.oneCell']) (by decide) (by unfold maxLen; omega) (by omega) hB _ rfl ?_
  intro g cap w' h1 h2 h3 h4
  refine h g cap w' ?_ h2 h3 h4
  rw [rcl_succ, ← hlo, ← hhi]
  exact h1

/-- Onto a row of one range: the turned ones. -/
theorem step_turn {ops : Array Oper} {o : Oper} {a : Act} {W : World} {K : Act → World → Prop} {Q : Exit → Act → World → Prop} {E : Prop} (hgd : o.guard = none) (s x : Operand)
    (ho : o.op = .call { callee := .builtin .append, args := #[s, x], argTypes := #[46, 46] })
    {B : Nat} {v2 : Value} {k : Nat} {f : Nat → Int} {Lo Hi : Int} {L2 : Nat} (hs : a.eval s = .slice (some ⟨L2, 0, none⟩) 1 1) (hx : a.eval x = v2)
    (hown : W.ownsRow B 25 2 v2 k (rcl (rvF f k) k)) (hnil : k = 0 → v2 = .slice none 0 0) (hL : W.heap[L2]? = some (.cells #[.int .i64 Lo, .int .i64 Hi] 25 (0, 0))) (hlo : Lo = f (k * 2)) (hhi : Hi = f (k * 2 + 1)) (hk : k ≤ 8) (hB : B ≤ L2)
    (h : ∀ g cap w', w'.ownsRow B 25 2 (.slice (some ⟨g, 0, none⟩) (k + 1) cap) (k + 1) (rcl (rvF f (k + 1)) (k + 1)) → W.grownBy w' (some L2) → (L2 = g ∨ g = W.heap.size) → g < w'.heap.size → K (a.put o.dst (.slice (some ⟨g, 0, none⟩) (k + 1) cap)) w') :
    if Region.wanted o (yielded ops a.tmps) = true then Oper.wp Try.prog o a W K Q else E := by
  obtain ⟨i0, hi0, hz0, hz1, hz2⟩ := info_parts x_range
  have hlt := (Array.getElem?_eq_some_iff.1 hL).1
  have hlit : W.ownsRow B 25 2 (.slice (some ⟨L2, 0, none⟩) 1 1) 1 [.int .i64 Lo, .int .i64 Hi] := ⟨rfl, .inr ⟨L2, 1, _, rfl, hB, hL, Nat.le_refl _, by decide, rfl, rfl⟩⟩
  have hrow : rcl (rvF f (k + 1)) (k + 1) = [.int .i64 Lo, .int .i64 Hi] ++ rcl (rvF f k) k := by rw [rcl_rv, hlo, hhi]
  cases k with
  | zero =>
    have hw : Region.wanted o (yielded ops a.tmps) = true := by simp [Region.wanted, hgd]
    rw [if_pos hw]
    have hrun := run_append_nothing (P := Try.prog) W 46 o.type 25 i0 Try.underlying46 hi0 ⟨L2, 0, none⟩ 1 1 (Nat.le_refl _)
    unfold Oper.wp
    simp [execOp, ho, resolve, invoke, builtin, hs, hx, hnil rfl, hrun, Result.andThen]
    exact h L2 1 W (by rw [hrow]; exact hlit) (World.grownBy.refl W _) (.inl rfl) hlt
  | succ k =>
    obtain ⟨g2, cap2, rfl⟩ := ownsRow_succ hown
    refine step_append_lies W hgd s x 46 ho B 25 i0 (.agg #[.int .i64 0, .int .i64 0]) 2 16 Try.underlying46 hi0 hz0 hz1 hz2 rfl (by decide) _ 1 [.int .i64 Lo, .int .i64 Hi] hs hlit ⟨g2, 0, none⟩ (k + 1) cap2 (rcl (rvF f (k + 1)) (k + 1)) hx (rcl_length _ _) (hown.cells rfl) (rcl_one _ _) (by omega) (by unfold maxLen; omega) (by omega) (by omega) _ rfl ?_
    intro g cap w' h1 h2 h3 h4
    rw [Nat.add_comm 1 (k + 1)] at h1 ⊢
    refine h g cap w' (by rw [hrow]; exact h1) h2 (h3.imp (fun e => by simpa [Value.ownBlock] using e) id) h4
end Go.Proofs.Yteinabcklmpcjaa
