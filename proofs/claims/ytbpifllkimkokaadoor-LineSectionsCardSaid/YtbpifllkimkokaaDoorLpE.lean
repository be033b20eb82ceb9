/-
  WALKS: Station of no place; slices.Equal of ints.
-/
import Derived.Test.YtbpifllkimkokaaDoorLpD
import Derived.RegionIn
namespace Go.Proofs.YtbpifllkimkokaaDoor
open Go.RowKit Go.Shelf

attribute [local go_sem] Oper.semAt_some

set_option maxRecDepth 100000 in
set_option maxHeartbeats 4000000 in
/-- Station: of no place of a line without an error. -/
theorem station_none_in (n : Nat) (hn : 3 ≤ n) (a za la : Option Addr) (len c zn zc ln lc : Nat) (f : Nat → Int) (I : Int) (o : Int) (hl : len ≤ 70) (hv : ∀ i, i < len → itAt f i = 0)
    (hno : ∀ i : Nat, i < len → I = (i : Int) → ¬(0 ≤ o ∧ o < f (i * 7 + 1))) (w : World) (hS : Sl w 7 a len f)
    (hCK : ∀ w', Below w.heap.size w w' → Calls Tryd.prog 56 #[.agg #[.slice a len c, .slice za zn zc, .slice la ln lc]] w' fun e' w2 => e' = .returned (.int .i64 0) ∧ Below w'.heap.size w' w2) :
    CallsIn Fence.wide n Tryd.prog 16 #[.agg #[.slice a len c, .slice za zn zc, .slice la ln lc], .int .i64 I, .int .i64 o] w fun e W' => e = .returned (.tuple #[.int .i64 0, .int .i64 1]) ∧ Below w.heap.size w W' := by
  have h1 : 1 ≤ n := by omega
  have hro : Fence.wide.round = none := rfl
  have fw : Fence.wide.fn 61 := trivial
  have fb : Fence.wide.fn 62 := trivial
  refine callsIn_of_wp_marks Tryd.func16 rfl trivial ?_ hro
  simp only [Tryd.ntmps16, List.size_toArray, List.length_cons, List.length_nil, Nat.reduceAdd, Nat.reduceSub, Array.replicate_succ, Array.replicate_zero, List.push_toArray, List.append_toArray, List.nil_append, List.cons_append]
  have HS := Lib.hid hS
  have HV := Lib.hid hv
  have HCK := Lib.hid hCK
  clear hS hv hCK
  gi_wp2_with fail
  obtain ⟨W, hW⟩ : ∃ W, W = ((((w.alloc (.cells #[.slice a len c, .slice za zn zc, .slice la ln lc] 26)).alloc (.cells #[.int .i64 I] 3)).alloc (.cells #[.int .i64 o] 3)).alloc (.cells #[.int .i64 0] 3)).alloc (.cells #[.int .i64 0] 36) := ⟨_, rfl⟩
  have hBW : Hid (Below w.heap.size w W) := by rw [hW]; exact (((((Below.refl _ w).alloc (Nat.le_refl _) _).alloc (by simp) _).alloc (by simp; omega) _).alloc (by simp; omega) _).alloc (by simp; omega) _
  have hsz : W.heap.size = w.heap.size + 5 := by rw [hW]; simp
  have HX : Hid (W.cell? ⟨w.heap.size, 0, none⟩ = some (.slice a len c) ∧ W.cell? ⟨w.heap.size, 1, none⟩ = some (.slice za zn zc) ∧ W.cell? ⟨w.heap.size, 2, none⟩ = some (.slice la ln lc)) := by
    rw [hW]; exact ⟨by go_simp, by go_simp, by go_simp⟩
  have HY : Hid (Boxed W (w.heap.size + 1) 3 (.int .i64 I) ∧ Boxed W (w.heap.size + 1 + 1) 3 (.int .i64 o) ∧ Boxed W (w.heap.size + 1 + 1 + 1) 3 (.int .i64 0) ∧ Boxed W (w.heap.size + 1 + 1 + 1 + 1) 36 (.int .i64 0)) := by
    have q1 := (((Boxed.new (w.alloc (.cells #[.slice a len c, .slice za zn zc, .slice la ln lc] 26)) 3 (.int .i64 I)).alloc (.cells #[.int .i64 o] 3)).alloc (.cells #[.int .i64 0] 3)).alloc (.cells #[.int .i64 0] 36)
    have q2 := ((Boxed.new ((w.alloc (.cells #[.slice a len c, .slice za zn zc, .slice la ln lc] 26)).alloc (.cells #[.int .i64 I] 3)) 3 (.int .i64 o)).alloc (.cells #[.int .i64 0] 3)).alloc (.cells #[.int .i64 0] 36)
    have q3 := (Boxed.new (((w.alloc (.cells #[.slice a len c, .slice za zn zc, .slice la ln lc] 26)).alloc (.cells #[.int .i64 I] 3)).alloc (.cells #[.int .i64 o] 3)) 3 (.int .i64 0)).alloc (.cells #[.int .i64 0] 36)
    have q4 := Boxed.new ((((w.alloc (.cells #[.slice a len c, .slice za zn zc, .slice la ln lc] 26)).alloc (.cells #[.int .i64 I] 3)).alloc (.cells #[.int .i64 o] 3)).alloc (.cells #[.int .i64 0] 3)) 36 (.int .i64 0)
    simp only [World.size_alloc] at q1 q2 q3 q4
    rw [hW]; exact ⟨q1, q2, q3, q4⟩
  rw [← hW]
  clear hW
  refine ⟨trivial, (callsIn_wide.2 (HCK.out W hBW.out)).mono ?_⟩
  rintro e' w2 ⟨rfl, hb2⟩
  have HB2 : Hid (Below w.heap.size w w2) := hBW.out.trans (hb2.mono hBW.out.size)
  obtain ⟨x0, x1, x2⟩ := three_keep HX.out hb2
  have hsz2 : w.heap.size + 5 ≤ w2.heap.size := hsz ▸ hb2.size
  have HY2 : Hid (Boxed w2 (w.heap.size + 1) 3 (.int .i64 I) ∧ Boxed w2 (w.heap.size + 1 + 1) 3 (.int .i64 o) ∧ Boxed w2 (w.heap.size + 1 + 1 + 1) 3 (.int .i64 0) ∧ Boxed w2 (w.heap.size + 1 + 1 + 1 + 1) 36 (.int .i64 0)) :=
    ⟨(hb2.block _ HY.out.1.lt).trans HY.out.1, (hb2.block _ HY.out.2.1.lt).trans HY.out.2.1, (hb2.block _ HY.out.2.2.1.lt).trans HY.out.2.2.1, (hb2.block _ HY.out.2.2.2.lt).trans HY.out.2.2.2⟩
  clear hb2
  gi_wp2_with (gi_at_call 61; refine (walkIter_in Fence.wide (n - 1) trivial hro _ _ _ _).mono ?_; rintro e w' ⟨rfl, rfl⟩)
  obtain ⟨W0, hW0⟩ : ∃ W0, w2.alloc (.cells #[.slice a len c, .slice za zn zc, .slice la ln lc] 26) = W0 := ⟨_, rfl⟩
  have hB0 : Below w.heap.size w W0 := by rw [← hW0]; exact HB2.out.alloc HB2.out.size _
  have hsz0 : W0.heap.size = w2.heap.size + 1 := by rw [← hW0]; simp
  have HY0 : Hid (Boxed W0 (w.heap.size + 1) 3 (.int .i64 I) ∧ Boxed W0 (w.heap.size + 1 + 1) 3 (.int .i64 o) ∧ Boxed W0 (w.heap.size + 1 + 1 + 1) 3 (.int .i64 0) ∧ Boxed W0 (w.heap.size + 1 + 1 + 1 + 1) 36 (.int .i64 0)) := by
    rw [← hW0]; exact ⟨HY2.out.1.alloc _, HY2.out.2.1.alloc _, HY2.out.2.2.1.alloc _, HY2.out.2.2.2.alloc _⟩
  have cI : W0.cell? ⟨w2.heap.size, 0, none⟩ = some (.slice a len c) := by
    have hh := World.alloc_heap_new w2 (.cells #[.slice a len c, .slice za zn zc, .slice la ln lc] 26)
    rw [hW0] at hh
    simp [World.cell?, hh]
  rw [hW0]
  clear hW0 x0 x1 x2
  have hXa : ∀ b o, 0 < len → a = some ⟨b, o, none⟩ → b ≠ w.heap.size + 1 + 1 := by
    intro b o hp e
    obtain ⟨b2, o2, e2, hI⟩ := HS.out hp
    rw [e] at e2
    cases e2
    have := hI.lt (by omega)
    omega
  refine wpIn_rangeFunc_ownH hro h1 (gf := 98) (lb := #[.pointer (some ⟨w2.heap.size, 0, none⟩)]) rfl trivial (enters_of Tryd.func98 (by kernel_rfl) rfl)
    (walk_stops Fence.wide (n - 1) trivial hro (by omega) (w2.heap.size) (w.heap.size + 1 + 1) a len c f hl HV.out W0 (by omega) cI (HS.out.keep (by omega) hB0) (by omega) hXa) (fun h k => h.trans k) (kpX_b) (Below.refl _ _) (fun _ => rfl)
    (fun pre W => (Boxed W (w.heap.size + 1) 3 (.int .i64 I) ∧ Boxed W (w.heap.size + 1 + 1) 3 (.int .i64 o) ∧ Boxed W (w.heap.size + 1 + 1 + 1) 3 (.int .i64 0) ∧ Boxed W (w.heap.size + 1 + 1 + 1 + 1) 36 (.int .i64 0)) ∧ Below w.heap.size w W)
    (fun _ _ _ => False)
    (OwnFrom.and (fun s A B row h hg hr => ⟨boxed_from h.1 hg hr, boxed_from h.2.1 hg hr, boxed_from h.2.2.1 hg hr, boxed_from h.2.2.2 hg hr⟩) (ownFrom_below (Nat.le_refl _) (by omega)))
    (fun _ _ _ _ _ hs _ _ => hs)
    ⟨HY0.out, hB0⟩
    (fun x a' W => ∃ Bx, w.heap.size + 1 + 1 + 1 + 1 < Bx ∧ W.heap[Bx]? = some (.cells #[.int .i64 (f (x.1 * 7)), .int .i64 (f (x.1 * 7 + 1)), .int .i64 (f (x.1 * 7 + 2)), .int .i64 (f (x.1 * 7 + 3)), .int .i64 (f (x.1 * 7 + 4)), .int .i64 (f (x.1 * 7 + 5)), .int .i64 (f (x.1 * 7 + 6)), .int .i64 (endS f x.1)] 119 (0, 0)) ∧
      a' = { tmps := #[.agg #[.slice a len c, .slice za zn zc, .slice la ln lc], .int .i64 I, .int .i64 o, .pointer (some ⟨w.heap.size, 0, none⟩), .pointer (some ⟨w.heap.size + 1, 0, none⟩), .pointer (some ⟨w.heap.size + 1 + 1, 0, none⟩), .pointer (some ⟨w.heap.size + 1 + 1 + 1, 0, none⟩), .pointer (some ⟨w.heap.size + 1 + 1 + 1 + 1, 0, none⟩), .int .i64 0, .int .i64 (x.1 : Int), .pointer (some ⟨Bx, 0, none⟩), .agg #[.slice a len c, .slice za zn zc, .slice la ln lc], .int .i64 0, .int .i64 0, .bool false, undef, .agg #[.slice a len c, .slice za zn zc, .slice la ln lc], .func (.func 98) #[] #[.pointer (some ⟨w2.heap.size, 0, none⟩)], .int .i64 (x.1 : Int), plV f x.1, undef, undef, undef, undef, undef, undef, undef, undef, undef, undef, undef, undef, undef, undef, undef], defers := [] })
    (fun x a' _ X Y row hs hg hr => by
      obtain ⟨Bx, h1, h2, h3⟩ := hs
      exact ⟨Bx, h1, (grownBy_keeps_cells hg (fun r e => (hr r e).2) h2 rfl).trans h2, h3⟩)
    ?assign ?body ?done ?stop
  case assign =>
    rintro l pre x W K ⟨⟨b1, b2, b3, b4⟩, hB1⟩ hK
    dsimp only [plV] at hK ⊢
    gi_wp2
    exact hK _ _ ((KeepsOthers.alloc _ _).from _) ((KpX.refl _ _).alloc _) ⟨⟨b1.alloc _, b2.alloc _, b3.alloc _, b4.alloc _⟩, hB1.alloc hB1.size _⟩ ⟨W.heap.size, b4.lt, World.alloc_heap_new W _, rfl⟩
  case body =>
    rintro l pre x a' W hl2 _ ⟨⟨b1, b2, b3, b4⟩, hB1⟩ ⟨Bx, hBx, bX, rfl⟩ hlt
    have fbl : (Fence.wide.inRound l).fn 62 := trivial
    have hst2 := endS_step hl HV.out x.2
    have c1 : W.cell? ⟨Bx, 1, none⟩ = some (.int .i64 (f (x.1 * 7 + 1))) := by simp [World.cell?, bX]
    have cS := b1.cell
    have cT := b2.cell
    by_cases hxi : (x.1 : Int) = I
    · have e0 : ((x.1 : Int) == I) = true := by simpa using hxi
      have e1 : IntKind.i64.wrap (f (x.1 * 7 + 1) - 1) = f (x.1 * 7 + 1) - 1 := IntWalk.i64_in _ (by omega)
      have HBT : Hid (false = decide (0 ≤ o ∧ o ≤ f (x.1 * 7 + 1) - 1)) := by
        have := hno x.1 x.2 hxi.symm
        show false = _; symm; rw [decide_eq_false_iff_not]; omega
      clear hxi
      gi_wp2_with fail
      refine ⟨fun _ => by omega, (CallsIn.inRound l ((callsIn_wide (n := n - 1 - 1 - 1)).2 (betw false _ _ _ _ HBT.out))).mono ?_⟩
      rintro e' w' ⟨rfl, rfl⟩
      gi_wp2
      exact ⟨(KeepsOthers.refl _).from _, KpX.refl _ _, ⟨b1, b2, b3, b4⟩, hB1⟩
    · have e0 : ((x.1 : Int) == I) = false := by rw [beq_eq_false_iff_ne]; exact hxi
      clear hxi
      gi_wp2
      exact ⟨(KeepsOthers.refl _).from _, KpX.refl _ _, ⟨b1, b2, b3, b4⟩, hB1⟩
  case done =>
    rintro D zs W hD rfl ⟨⟨b1, b2, b3, b4⟩, hB1⟩ hK
    have cA := b3.cell
    have cB := b4.cell
    have fA := b3.frozen
    have fB := b4.frozen
    gi_wp2
    have q1 := (b3.set (.int .i64 0)).other (by omega : w.heap.size + 1 + 1 + 1 ≠ w.heap.size + 1 + 1 + 1 + 1) (.int .i64 1)
    have q2 := (b4.other (by omega : w.heap.size + 1 + 1 + 1 + 1 ≠ w.heap.size + 1 + 1 + 1) (.int .i64 0)).set (.int .i64 1)
    have hK' := ((KeepsOthers.setCell W ⟨w.heap.size + 1 + 1 + 1, 0, none⟩ (.int .i64 0)).trans (KeepsOthers.setCell _ ⟨w.heap.size + 1 + 1 + 1 + 1, 0, none⟩ (.int .i64 1))).same D _ hK rfl
    have hB2 := (hB1.setCell (p := ⟨w.heap.size + 1 + 1 + 1, 0, none⟩) (show w.heap.size ≤ w.heap.size + 1 + 1 + 1 by omega) (.int .i64 0)).setCell (p := ⟨w.heap.size + 1 + 1 + 1 + 1, 0, none⟩) (show w.heap.size ≤ w.heap.size + 1 + 1 + 1 + 1 by omega) (.int .i64 1)
    refine ⟨by simp, .inl ⟨_, _, rfl, run_takeDeferred hK', ?_⟩⟩
    have hc4 := cell_kept q1.cell (grownBy_putObj' _ D (.deferred none)) (fun r e => by cases e; exact ⟨_, hK', rfl⟩)
    have hc5 := cell_kept q2.cell (grownBy_putObj' _ D (.deferred none)) (fun r e => by cases e; exact ⟨_, hK', rfl⟩)
    refine ⟨_, ?_, rfl, hB2.trans (belowK_b (w := w) (Nat.le_refl _) _ D _ _ (by omega) hK' rfl rfl)⟩
    simp [results, Tryd.f16, go_sem, hc4, hc5]
  case stop =>
    rintro D c pre W _ _ h _
    exact h.elim

end Go.Proofs.YtbpifllkimkokaaDoor
