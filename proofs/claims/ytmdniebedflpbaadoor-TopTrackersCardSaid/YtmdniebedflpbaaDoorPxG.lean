/-
  WALKS: an append of bounds as a step; what PlaceHolds compares.
-/
import Derived.Test.YtmdniebedflpbaaDoorPxF
import Derived.Deep.RegionLaw
import Derived.Deep.AppendLies
namespace Go.Proofs.YtmdniebedflpbaaDoor
open Go.RowKit

theorem run_append_0 {P : Program} (w : World) (t ty e : TypeId) (i : TypeInfo) (ht : P.underlying t = some (.slice e)) (hi : P.info? e = some i) (b : Addr) (n cap : Nat) (hr : n ≤ cap) :
    (Builtin.append_ #[t, t] ty #[.slice (some b) n cap, .slice none 0 0]).run P w = .ok (.slice (some b) n cap) w := by
  simp [Builtin.append_, run_underlying ht, sizeOf, typeInfo, hi, Builtin.lenOf, Builtin.firstCells, storeCells, hr]

theorem brow_ints (f : Nat → Int) (n : Nat) : ∀ u ∈ brow f n, u.oneCell' = true := by
  intro u hu
  unfold brow at hu
  obtain ⟨j, _, rfl⟩ := List.mem_map.1 hu
  rfl
/-- Onto bounds of one's own: others. -/
theorem step_cat {ops : Array Oper} {o : Oper} {a : Act} {W : World} {K : Act → World → Prop} {Q : Exit → Act → World → Prop} {E : Prop} (hgd : o.guard = none) (s x : Operand)
    (ho : o.op = .call { callee := .builtin .append, args := #[s, x], argTypes := #[34, 34] })
    {B B2 g0 cap0 : Nat} {v2 : Value} {k b kb : Nat} {F G : Nat → Int} (hkb : kb = k + b) (hs : a.eval s = .slice (some ⟨g0, 0, none⟩) k cap0) (hx : a.eval x = v2)
    (hown : W.ownsRow B 62 3 (.slice (some ⟨g0, 0, none⟩) k cap0) k (brow F k)) (hrow : W.ownsRow B2 62 3 v2 b (brow G b)) (hz : b = 0 → v2 = .slice none 0 0) (hk : k ≤ 100) (hb : b ≤ 100) (hB : B ≤ W.heap.size)
    (h : ∀ g cap w', w'.ownsRow B 62 3 (.slice (some ⟨g, 0, none⟩) kb cap) kb (brow (cat F k G) kb) → W.grownBy w' (some g0) → (g0 = g ∨ g = W.heap.size) → K (a.put o.dst (.slice (some ⟨g, 0, none⟩) kb cap)) w') :
    if Region.wanted o (yielded ops a.tmps) = true then Oper.wp Tryd.prog o a W K Q else E := by
  subst hkb
  obtain ⟨i0, hi0, hz0, hz1, hz2⟩ := info_parts x_bd3
  have hcat := brow_cat F k G b
  cases b with
  | zero =>
    have hw : Region.wanted o (yielded ops a.tmps) = true := by simp [Region.wanted, hgd]
    rw [if_pos hw]
    have hcap : k ≤ cap0 := by
      rcases hown.2 with ⟨e, _⟩ | ⟨_, cap, _, e, _, _, hc, _⟩
      · cases e
      · cases e; exact hc
    have hrun := run_append_0 (P := Tryd.prog) W 34 o.type 62 i0 Tryd.underlying34 hi0 ⟨g0, 0, none⟩ k cap0 hcap
    unfold Oper.wp
    simp [execOp, ho, resolve, invoke, builtin, hs, hx, hz rfl, hrun, Result.andThen]
    refine h g0 cap0 W ?_ (World.grownBy.refl W _) (.inl rfl)
    rw [hcat, show brow G 0 = [] from rfl, List.append_nil]
    exact hown
  | succ b =>
    obtain ⟨g2, cap2, rfl⟩ := ownsRow_succ hrow
    refine step_append_lies W hgd s x 34 ho B 62 i0 (.agg #[.int .i64 0, .int .i64 0, .int .i64 0]) 3 24 Tryd.underlying34 hi0 hz0 hz1 hz2 rfl (by decide) _ k (brow F k) hs hown ⟨g2, 0, none⟩ (b + 1) cap2 (brow G (b + 1)) hx (brow_length _ _) (hrow.cells rfl) (brow_ints _ _) (by omega) (by unfold maxLen; omega) (by omega) hB _ rfl ?_
    intro g cap w' h1 h2 h3 h4
    exact h g cap w' (by rw [hcat]; exact h1) h2 (h3.imp (fun e => by simpa [Value.ownBlock] using e) id)

/-- What the limits of true bounds are, and of more of them. -/
theorem holds_lim {N n n' : Nat} {pl F F' : Nat → Int} (h : TrueB N pl n F) (h' : TrueB N pl n' F') (h1 : 1 ≤ N ∧ N ≤ 64) (hn : n ≤ n') (hn' : n' ≤ 256) (he : ∀ i, i < n * 3 → F' i = F i) (hp0 : pl 0 = 0) (k : Nat) :
    ((ptD F n N).kn k = true → -(ptD F n N).mo k ≤ pl k ∧ (ptD F' n' N).kn k = true ∧ -(ptD F n N).mo k ≤ -(ptD F' n' N).mo k) ∧
    ((ptU F n N).kn k = true → pl k ≤ (ptU F n N).mo k ∧ (ptU F' n' N).kn k = true ∧ (ptU F' n' N).mo k ≤ (ptU F n N).mo k) := by
  have hb := h.bok h1 (by omega)
  have hb' := h'.bok h1 hn'
  have u := ptU_min hb h.keeps.noNeg k
  have u' := ptU_min hb' h'.keeps.noNeg k
  have d := ptD_min hb h.keeps.noNeg k
  have d' := ptD_min hb' h'.keeps.noNeg k
  refine ⟨fun hk => ?_, fun hk => ?_⟩
  · have m := d.1 hk
    have a := h.keeps.min m
    obtain ⟨⟨es, hw, _⟩, _⟩ := m
    have hk' := d'.2 ⟨es, (isWk_more hn he es hw).1⟩
    have := IsMin.more hn he (d.1 hk) (d'.1 hk')
    exact ⟨by omega, hk', by omega⟩
  · have m := u.1 hk
    have a := h.keeps.min m
    obtain ⟨⟨es, hw, _⟩, _⟩ := m
    have hk' := u'.2 ⟨es, (isWk_more hn he es hw).1⟩
    have := IsMin.more hn he (u.1 hk) (u'.1 hk')
    exact ⟨by omega, hk', by omega⟩
theorem true_noclash {N n : Nat} {pl F : Nat → Int} (h : TrueB N pl n F) (h1 : 1 ≤ N ∧ N ≤ 64) (hn : n ≤ 256) : clash F n N < 0 := (clash_iff (h.bok h1 hn)).2 h.keeps.noNeg
end Go.Proofs.YtmdniebedflpbaaDoor
