/-
  WALKS: the item at a station, by the program.
-/
import Derived.Test.YtdibljidagiblaaDoorLnP
import Derived.RegionIn
namespace Go.Proofs.YtdibljidagiblaaDoor.Ln
open Go.RowKit Go.Shelf

attribute [local go_sem] Oper.semAt_some

theorem boxed_from {n₀ B : Nat} {t : TypeId} {v : Value} {A C : World} {row : Option Nat} (h : Boxed A B t v) (hg : A.grownBy C row) (hr : ∀ r, row = some r → n₀ ≤ r ∧ ∃ o : Obj, A.heap[r]? = some o ∧ o.isCells = false) : Boxed C B t v :=
  Own.from (boxed_own B t (fun _ : Unit => v)) n₀ () A C row h hg hr

/-- The number of the last item that has come, and its start. -/
def lastIx {n : Nat} (pre : List (Ixs n)) : Int := match pre.getLast? with | none => 0 | some x => (x.1 : Int)
def lastSt (f : Nat → Int) {n : Nat} (pre : List (Ixs n)) : Int := match pre.getLast? with | none => 0 | some x => endS f x.1
theorem lastIx_snoc {n : Nat} (pre : List (Ixs n)) (x : Ixs n) : lastIx (pre ++ [x]) = (x.1 : Int) := by simp [lastIx]
theorem lastSt_snoc (f : Nat → Int) {n : Nat} (pre : List (Ixs n)) (x : Ixs n) : lastSt f (pre ++ [x]) = endS f x.1 := by simp [lastSt]
/-- No item that has come ends behind the station; but the last one does. -/
def NoneYet (f : Nat → Int) (st : Int) {n : Nat} (pre : List (Ixs n)) : Prop := ∀ y ∈ pre, endS f (y.1 + 1) ≤ st
def LastHas (f : Nat → Int) (st : Int) {n : Nat} (pre : List (Ixs n)) : Prop := NoneYet f st pre.dropLast ∧ st < lastEnd f pre ∧ pre ≠ []

theorem last_has {f : Nat → Int} {st : Int} {n : Nat} (h0 : 0 ≤ st) : ∀ {k : Nat}, k ≤ n → LastHas f st (upto n k) →
    ∃ j, j < n ∧ endS f j ≤ st ∧ st < endS f (j + 1) ∧ lastIx (upto n k) = (j : Int) ∧ lastSt f (upto n k) = endS f j
  | 0, _, h => (h.2.2 rfl).elim
  | j + 1, hk, h => by
    have hj : j < n := by omega
    rw [upto_succ hj] at h ⊢
    obtain ⟨h1, h2, _⟩ := h
    rw [List.dropLast_concat] at h1
    rw [lastEnd_snoc] at h2
    refine ⟨j, hj, ?_, h2, lastIx_snoc _ _, lastSt_snoc _ _ _⟩
    cases j with
    | zero => exact h0
    | succ m =>
      rw [upto_succ (show m < n by omega)] at h1
      exact h1 ⟨m, by omega⟩ (List.mem_append.2 (.inr (by simp)))
theorem none_all {f : Nat → Int} {st : Int} {n : Nat} (h : NoneYet f st (upto n n)) (hn : 1 ≤ n) : endS f n ≤ st := by
  obtain ⟨m, rfl⟩ : ∃ m, n = m + 1 := ⟨n - 1, by omega⟩
  rw [upto_succ (Nat.lt_succ_self m)] at h
  exact h ⟨m, _⟩ (List.mem_append.2 (.inr (List.mem_singleton.2 rfl)))
/-- Two boxes are stored into, in either order. -/
theorem two_set {W : World} {p q : Nat} {t : TypeId} {u u' : Value} (v v' : Value) (hp : Boxed W p t u) (hq : Boxed W q t u') (hpq : p ≠ q) :
    Boxed ((W.setCell ⟨p, 0, none⟩ v).setCell ⟨q, 0, none⟩ v') p t v ∧ Boxed ((W.setCell ⟨p, 0, none⟩ v).setCell ⟨q, 0, none⟩ v') q t v' :=
  ⟨(hp.set v).other hpq v', (hq.other (fun e => hpq e.symm) v).set v'⟩
theorem Boxed.drew' {W : World} {p : Nat} {t : TypeId} {u : Value} (h : Boxed W p t u) : Boxed W.drew p t u := h

set_option maxRecDepth 100000 in
set_option maxHeartbeats 4000000 in
theorem itemAt_in (F : Fence) (n : Nat) (h52 : F.fn 56) (h55 : F.fn 60) (h79 : F.fn 98) (hro : F.round = none) (hn : 3 ≤ n) (a za la : Option Addr) (len c zn zc ln lc : Nat) (f : Nat → Int) (st : Int) (hl : len ≤ 70) (hv : ∀ i, i < len → itAt f i = 0)
    (hst : 0 ≤ st ∧ st < endS f len) (w : World) (hS : Sl w 7 a len f) :
    CallsIn F n Tryd.prog 56 #[.agg #[.slice a len c, .slice za zn zc, .slice la ln lc], .int .i64 st] w fun e W' => (∃ i : Nat, i < len ∧ endS f i ≤ st ∧ st < endS f (i + 1) ∧ e = .returned (.tuple #[.int .i64 i, .int .i64 (st - endS f i)])) ∧ Below w.heap.size w W' := by
  have h1 : 1 ≤ n := by omega
  refine callsIn_of_wp_marks Tryd.func56 rfl h52 ?_ hro
  simp only [Tryd.ntmps56, List.size_toArray, List.length_cons, List.length_nil, Nat.reduceAdd, Nat.reduceSub, Array.replicate_succ, Array.replicate_zero, List.push_toArray, List.append_toArray, List.nil_append, List.cons_append]
  have HS := Lib.hid hS
  have HV := Lib.hid hv
  clear hS hv
  gi_wp2_with (gi_at_call 60; refine (walkIter_in F (n - 1) h55 hro _ _ _ _).mono ?_; rintro e w' ⟨rfl, rfl⟩)
  obtain ⟨W0, hW0⟩ : ∃ W0, (((((w.alloc (.cells #[.slice a len c, .slice za zn zc, .slice la ln lc] 55)).alloc (.cells #[.int .i64 st] 3)).alloc (.cells #[.int .i64 0] 3)).alloc (.cells #[.int .i64 0] 3)).alloc (.cells #[.slice a len c, .slice za zn zc, .slice la ln lc] 55)) = W0 := ⟨_, rfl⟩
  have hB0 : Below w.heap.size w W0 := by rw [← hW0]; exact (((((Below.refl _ w).alloc (Nat.le_refl _) _).alloc (by simp) _).alloc (by simp; omega) _).alloc (by simp; omega) _).alloc (by simp; omega) _
  have hsz : W0.heap.size = w.heap.size + 5 := by rw [← hW0]; simp
  have bS : Boxed W0 (w.heap.size + 1) 3 (.int .i64 st) := by
    have := (((Boxed.new (w.alloc (.cells #[.slice a len c, .slice za zn zc, .slice la ln lc] 55)) 3 (.int .i64 st)).alloc (.cells #[.int .i64 0] 3)).alloc (.cells #[.int .i64 0] 3)).alloc (.cells #[.slice a len c, .slice za zn zc, .slice la ln lc] 55)
    rw [World.size_alloc] at this
    rw [← hW0]; exact this
  have bI : Boxed W0 (w.heap.size + 1 + 1) 3 (.int .i64 0) := by
    have := ((Boxed.new ((w.alloc (.cells #[.slice a len c, .slice za zn zc, .slice la ln lc] 55)).alloc (.cells #[.int .i64 st] 3)) 3 (.int .i64 0)).alloc (.cells #[.int .i64 0] 3)).alloc (.cells #[.slice a len c, .slice za zn zc, .slice la ln lc] 55)
    simp only [World.size_alloc] at this
    rw [← hW0]; exact this
  have bO : Boxed W0 (w.heap.size + 1 + 1 + 1) 3 (.int .i64 0) := by
    have := (Boxed.new (((w.alloc (.cells #[.slice a len c, .slice za zn zc, .slice la ln lc] 55)).alloc (.cells #[.int .i64 st] 3)).alloc (.cells #[.int .i64 0] 3)) 3 (.int .i64 0)).alloc (.cells #[.slice a len c, .slice za zn zc, .slice la ln lc] 55)
    simp only [World.size_alloc] at this
    rw [← hW0]; exact this
  have cI : W0.cell? ⟨w.heap.size + 1 + 1 + 1 + 1, 0, none⟩ = some (.slice a len c) := by
    have hh := World.alloc_heap_new ((((w.alloc (.cells #[.slice a len c, .slice za zn zc, .slice la ln lc] 55)).alloc (.cells #[.int .i64 st] 3)).alloc (.cells #[.int .i64 0] 3)).alloc (.cells #[.int .i64 0] 3)) (.cells #[.slice a len c, .slice za zn zc, .slice la ln lc] 55)
    rw [hW0] at hh
    simp only [World.size_alloc] at hh
    simp [World.cell?, hh]
  rw [hW0]
  clear hW0
  have hXa : ∀ b o, 0 < len → a = some ⟨b, o, none⟩ → b ≠ w.heap.size + 1 + 1 := by
    intro b o hp e
    obtain ⟨b2, o2, e2, hI⟩ := HS.out hp
    rw [e] at e2
    cases e2
    have := hI.lt (by omega)
    omega
  refine wpIn_rangeFunc_ownH hro h1 (gf := 98) (lb := #[.pointer (some ⟨w.heap.size + 1 + 1 + 1 + 1, 0, none⟩)]) rfl h79 (enters_of Tryd.func98 (by kernel_rfl) rfl)
    (walk_stops F (n - 1) h79 hro (by omega) (w.heap.size + 1 + 1 + 1 + 1) (w.heap.size + 1 + 1) a len c f hl HV.out W0 (by omega) cI (HS.out.keep (by omega) hB0) (by omega) hXa) (fun h k => h.trans k) (kpX_b) (Below.refl _ _) (fun _ => rfl)
    (fun pre W => (NoneYet f st pre ∧ Boxed W (w.heap.size + 1) 3 (.int .i64 st) ∧ Boxed W (w.heap.size + 1 + 1) 3 (.int .i64 0) ∧ Boxed W (w.heap.size + 1 + 1 + 1) 3 (.int .i64 0)) ∧ Below w.heap.size w W)
    (fun c pre W => ((c = .ret ∧ LastHas f st pre) ∧ Boxed W (w.heap.size + 1 + 1) 3 (.int .i64 (lastIx pre)) ∧ Boxed W (w.heap.size + 1 + 1 + 1) 3 (.int .i64 (st - lastSt f pre))) ∧ Below w.heap.size w W)
    (OwnFrom.and (fun s A B row h hg hr => ⟨h.1, boxed_from h.2.1 hg hr, boxed_from h.2.2.1 hg hr, boxed_from h.2.2.2 hg hr⟩) (ownFrom_below (Nat.le_refl _) (by omega)))
    (fun c => OwnFrom.and (fun s A B row h hg hr => ⟨h.1, boxed_from h.2.1 hg hr, boxed_from h.2.2 hg hr⟩) (ownFrom_below (Nat.le_refl _) (by omega)))
    ⟨⟨fun y hy => by simp at hy, bS, bI, bO⟩, hB0⟩
    (fun x a' W => ∃ Bx, w.heap.size + 1 + 1 + 1 < Bx ∧ W.heap[Bx]? = some (.cells #[.int .i64 (f (x.1 * 7)), .int .i64 (f (x.1 * 7 + 1)), .int .i64 (f (x.1 * 7 + 2)), .int .i64 (f (x.1 * 7 + 3)), .int .i64 (f (x.1 * 7 + 4)), .int .i64 (f (x.1 * 7 + 5)), .int .i64 (f (x.1 * 7 + 6)), .int .i64 (endS f x.1)] 136 (0, 0)) ∧
      a' = { tmps := #[.agg #[.slice a len c, .slice za zn zc, .slice la ln lc], .int .i64 st, .pointer (some ⟨w.heap.size, 0, none⟩), .pointer (some ⟨w.heap.size + 1, 0, none⟩), .pointer (some ⟨w.heap.size + 1 + 1, 0, none⟩), .pointer (some ⟨w.heap.size + 1 + 1 + 1, 0, none⟩), .int .i64 (x.1 : Int), .pointer (some ⟨Bx, 0, none⟩), .agg #[.slice a len c, .slice za zn zc, .slice la ln lc], .func (.func 98) #[] #[.pointer (some ⟨w.heap.size + 1 + 1 + 1 + 1, 0, none⟩)], .int .i64 (x.1 : Int), plV f x.1, undef, undef, undef, undef, undef, undef, undef, undef, undef, undef, undef, undef, undef], defers := [] })
    (fun x a' _ X Y row hs hg hr => by
      obtain ⟨Bx, h1, h2, h3⟩ := hs
      exact ⟨Bx, h1, (grownBy_keeps_cells hg (fun r e => (hr r e).2) h2 rfl).trans h2, h3⟩)
    ?assign ?body ?done ?stop
  case assign =>
    rintro l pre x W K ⟨⟨hP, b1, b2, b3⟩, hB1⟩ hK
    dsimp only [plV] at hK ⊢
    gi_wp2
    have h4 := b3.lt
    exact hK _ _ ((KeepsOthers.alloc _ _).from _) ((KpX.refl _ _).alloc _) ⟨⟨hP, b1.alloc _, b2.alloc _, b3.alloc _⟩, hB1.alloc hB1.size _⟩ ⟨W.heap.size, by omega, World.alloc_heap_new W _, rfl⟩
  case body =>
    rintro l pre x a' W hl2 _ ⟨⟨hP, b1, b2, b3⟩, hB1⟩ ⟨Bx, hBx, bX, rfl⟩ hlt
    have hst2 := endS_step hl HV.out x.2
    have hs3 : endS f (x.1 + 1) = endS f x.1 + f (x.1 * 7 + 1) := rfl
    have cS := b1.cell
    have cA := b2.cell
    have cB := b3.cell
    have fA := b2.frozen
    have fB := b3.frozen
    have c1 : W.cell? ⟨Bx, 1, none⟩ = some (.int .i64 (f (x.1 * 7 + 1))) := by simp [World.cell?, bX]
    have c7 : W.cell? ⟨Bx, 7, none⟩ = some (.int .i64 (endS f x.1)) := by simp [World.cell?, bX]
    have e0 : decide (st < endS f x.1 + f (x.1 * 7 + 1)) = decide (st < endS f (x.1 + 1)) := by rw [hs3]
    have e1 : IntKind.i64.wrap (st - endS f x.1) = st - endS f x.1 := IntWalk.i64_in _ (by have := endS_le (f := f) (n := len) HV.out; omega)
    have hAB := two_set (.int .i64 (x.1 : Int)) (.int .i64 (st - endS f x.1)) b2 b3 (by omega)
    have hBA := two_set (.int .i64 (st - endS f x.1)) (.int .i64 (x.1 : Int)) b3 b2 (by omega)
    have hLast : st < endS f (x.1 + 1) → LastHas f st (pre ++ [x]) := fun h => ⟨by rw [List.dropLast_concat]; exact hP, by rw [lastEnd_snoc]; exact h, by simp⟩
    have hBl1 : ∀ v v', Below w.heap.size w ((W.setCell ⟨w.heap.size + 1 + 1, 0, none⟩ v).setCell ⟨w.heap.size + 1 + 1 + 1, 0, none⟩ v').drew := fun v v' =>
      ((hB1.setCell (p := ⟨w.heap.size + 1 + 1, 0, none⟩) (show w.heap.size ≤ w.heap.size + 1 + 1 by omega) v).setCell (p := ⟨w.heap.size + 1 + 1 + 1, 0, none⟩) (show w.heap.size ≤ w.heap.size + 1 + 1 + 1 by omega) v').drew
    have hBl2 : ∀ v v', Below w.heap.size w ((W.setCell ⟨w.heap.size + 1 + 1 + 1, 0, none⟩ v).setCell ⟨w.heap.size + 1 + 1, 0, none⟩ v').drew := fun v v' =>
      ((hB1.setCell (p := ⟨w.heap.size + 1 + 1 + 1, 0, none⟩) (show w.heap.size ≤ w.heap.size + 1 + 1 + 1 by omega) v).setCell (p := ⟨w.heap.size + 1 + 1, 0, none⟩) (show w.heap.size ≤ w.heap.size + 1 + 1 by omega) v').drew
    gi_wp2
    · gi_region
      all_goals gi_wp2
      all_goals try rw [e1]
      all_goals refine ⟨((((KeepsOthers.setCell _ _ _).trans (KeepsOthers.setCell _ _ _)).trans (KeepsOthers.drew _)).from _), ⟨⟨rfl, ?_⟩, ?_, ?_⟩, ?_⟩
      all_goals first
        | exact hLast (by assumption)
        | (rw [lastIx_snoc]; first | exact hAB.1 | exact hBA.2)
        | (rw [lastSt_snoc]; first | exact hAB.2 | exact hBA.1)
        | exact hBl1 _ _
        | exact hBl2 _ _
    · rename_i hx
      refine ⟨(KeepsOthers.refl _).from _, KpX.refl _ _, ⟨fun y hy => ?_, b1, b2, b3⟩, hB1⟩
      rcases List.mem_append.1 hy with hy | hy
      · exact hP y hy
      · obtain rfl := List.mem_singleton.1 hy
        omega
  case done =>
    rintro D zs W hD rfl ⟨⟨hP, b1, b2, b3⟩, hB1⟩ hK
    have hz : endS f 0 = 0 := rfl
    have hp : 1 ≤ len := by
      rcases Nat.eq_zero_or_pos len with h | h
      · subst h; omega
      · exact h
    have := none_all hP hp
    omega
  case stop =>
    rintro D c pre W hD hpre ⟨⟨⟨rfl, hin⟩, b2, b3⟩, hB⟩ hK
    gi_wp2
    refine ⟨by simp, .inl ⟨_, _, rfl, run_takeDeferred hK, ?_⟩⟩
    obtain ⟨k, hk, rfl⟩ := hpre
    obtain ⟨j, hj, hj1, hj2, ej, es⟩ := last_has hst.1 hk hin
    rw [ej] at b2
    rw [es] at b3
    have hc4 := cell_kept b2.cell (grownBy_putObj' _ D (.deferred none)) (fun r e => by cases e; exact ⟨_, hK, rfl⟩)
    have hc5 := cell_kept b3.cell (grownBy_putObj' _ D (.deferred none)) (fun r e => by cases e; exact ⟨_, hK, rfl⟩)
    refine ⟨_, ?_, ⟨j, hj, hj1, hj2, rfl⟩, hB.trans (belowK_b (w := w) (Nat.le_refl _) W D _ _ (by omega) hK rfl rfl)⟩
    simp [results, Tryd.f56, go_sem, hc4, hc5]

/-- The item at a station of the line. -/
theorem itemAt_of (a za la : Option Addr) (len c zn zc ln lc : Nat) (f : Nat → Int) (st : Int) (hl : len ≤ 70) (hv : ∀ i, i < len → itAt f i = 0)
    (hst : 0 ≤ st ∧ st < endS f len) (w : World) (hS : Sl w 7 a len f) :
    Calls Tryd.prog 56 #[.agg #[.slice a len c, .slice za zn zc, .slice la ln lc], .int .i64 st] w fun e W' => (∃ i : Nat, i < len ∧ endS f i ≤ st ∧ st < endS f (i + 1) ∧ e = .returned (.tuple #[.int .i64 i, .int .i64 (st - endS f i)])) ∧ Below w.heap.size w W' :=
  (callsIn_wide (n := 3)).1 (itemAt_in Fence.wide 3 trivial trivial trivial rfl (Nat.le_refl _) a za la len c zn zc ln lc f st hl hv hst w hS)
end Go.Proofs.YtdibljidagiblaaDoor.Ln
