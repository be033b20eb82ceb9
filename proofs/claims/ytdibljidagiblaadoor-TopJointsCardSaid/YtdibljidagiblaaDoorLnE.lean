/-
  WALKS: the iterator over the items with their starts; the end of a line.
-/
import Derived.Test.YtdibljidagiblaaDoorLnA
import Derived.RangeFuncNested
import Derived.RangeFuncBound
import Derived.RangeFuncCalls
import Derived.RangeFuncLeaves
import Derived.Shelf.Abstract
import Derived.OwnWalkIn
import Derived.TacticsInMore
import Derived.LoopNIn
import Derived.LoopIn
namespace Go.Proofs.YtdibljidagiblaaDoor.Ln
open Go.RowKit Go.Shelf

attribute [local go_sem] Oper.semAt_some

/-- Every block of cells but X stands as it stood. -/
structure KpX (X : Nat) (W W' : World) : Prop where
  size : W.heap.size ≤ W'.heap.size
  same : ∀ k o, k ≠ X → W.heap[k]? = some o → o.isCells = true → W'.heap[k]? = some o
theorem KpX.refl (X : Nat) (W : World) : KpX X W W := ⟨Nat.le_refl _, fun _ _ _ h _ => h⟩
theorem KpX.trans {X : Nat} {A B C : World} (h : KpX X A B) (k : KpX X B C) : KpX X A C :=
  ⟨Nat.le_trans h.size k.size, fun i o hi ho hc => k.same i o hi (h.same i o hi ho hc) hc⟩
theorem KpX.alloc {X : Nat} {A B : World} (h : KpX X A B) (o : Obj) : KpX X A (B.alloc o) :=
  h.trans ⟨by simp, fun k o' _ hk _ => (Below.heap_alloc B o k (Array.getElem?_eq_some_iff.1 hk).1).trans hk⟩
theorem KpX.cell {X : Nat} {W W' : World} (h : KpX X W W') {b o : Nat} {v : Value} (hb : b ≠ X) (hc : W.cell? ⟨b, o, none⟩ = some v) : W'.cell? ⟨b, o, none⟩ = some v := by
  obtain ⟨ob, ho, hcl⟩ := cells_of_cell hc
  exact (World.cell?_of_block ((h.same b ob hb ho hcl).trans ho.symm)).trans hc
theorem KpX.set (X : Nat) (W : World) (v : Value) : KpX X W (W.setCell ⟨X, 0, none⟩ v) :=
  ⟨by simp [World.setCell], fun k o hk ho _ => (Below.heap_setCell W ⟨X, 0, none⟩ v k hk).trans ho⟩
theorem kpX_b {X : Nat} {w : World} (W : World) (l : Nat) (o o' : Obj) (_ : w.heap.size ≤ l) (h : W.heap[l]? = some o) (hc : o.isCells = false) (_ : o.isWalk = false) : KpX X W (W.putObj l o') :=
  ⟨by simp, fun k ob _ hk hcl => by
    by_cases e : k = l
    · subst e; rw [h] at hk; cases hk; rw [hc] at hcl; cases hcl
    · exact (World.putObj_heap_other e).trans hk⟩

/-- Item i with its start, as a value. -/
def plV (f : Nat → Int) (i : Nat) : Value :=
  .agg #[.int .i64 (f (i * 7)), .int .i64 (f (i * 7 + 1)), .int .i64 (f (i * 7 + 2)), .int .i64 (f (i * 7 + 3)), .int .i64 (f (i * 7 + 4)), .int .i64 (f (i * 7 + 5)), .int .i64 (f (i * 7 + 6)), .int .i64 (endS f i)]
/-- The indices below n. -/
abbrev Ixs (n : Nat) := { i : Nat // i < n }
def upto (n k : Nat) : List (Ixs n) := (List.range k).filterMap fun i => if h : i < n then some ⟨i, h⟩ else none
theorem upto_succ {n k : Nat} (h : k < n) : upto n (k + 1) = upto n k ++ [⟨k, h⟩] := by
  simp [upto, List.range_succ, h]
theorem upto_length {n : Nat} : ∀ {k : Nat}, k ≤ n → (upto n k).length = k
  | 0, _ => rfl
  | k + 1, h => by rw [upto_succ (by omega), List.length_append, upto_length (by omega)]; rfl
theorem endS_step {f : Nat → Int} {n k : Nat} (hn : n ≤ 70) (hv : ∀ i, i < n → itAt f i = 0) (hk : k < n) :
    0 ≤ endS f k ∧ endS f k ≤ 1174405120 ∧ 1 ≤ f (k * 7 + 1) ∧ f (k * 7 + 1) ≤ 16777216 := by
  have h1 := endS_le (f := f) (n := k) fun i hi => hv i (by omega)
  have h2 := (itErr_ok (hv k hk)).2.1
  omega
theorem upto_zero (n : Nat) : upto n 0 = [] := rfl

set_option maxRecDepth 100000 in
set_option maxHeartbeats 2000000 in
theorem walk1_in (F : Fence) (n : Nat) (h79 : F.fn 98) (hro : F.round = none) (hn : 1 ≤ n) (l Bs X : Nat) (a : Option Addr) (len c : Nat) (f : Nat → Int) (hl : len ≤ 70) (hv : ∀ i, i < len → itAt f i = 0)
    (J Jx : List (Ixs len) → World → Prop) (W : World) (hJa : AbidesFrom W.heap.size J)
    (hY : ∀ pre x W, J pre W → pre.length < len → YieldAt F (n - 1) Tryd.prog l #[.int .i64 (x.1 : Int), plV f x.1] W fun e W' =>
      (e = .returned (.bool true) ∧ J (pre ++ [x]) W' ∧ KpX X W W') ∨ (e = .returned (.bool false) ∧ Jx (pre ++ [x]) W'))
    (hB0 : W.cell? ⟨Bs, 0, none⟩ = some (.slice a len c)) (hS : Sl W 7 a len f) (hX : X < W.heap.size) (hXa : ∀ b o, 0 < len → a = some ⟨b, o, none⟩ → b ≠ X) (h0 : J [] W) :
    CallsIn F n Tryd.prog 98 #[.func (.yield l) #[] #[], .pointer (some ⟨Bs, 0, none⟩)] W fun e W' => (∃ v, e = .returned v) ∧
      ((∃ ys, ys = upto len len ∧ J ys W') ∨ (∃ pre, (∃ k, k ≤ len ∧ pre = upto len k) ∧ Jx pre W')) := by
  refine callsIn_of_wp Tryd.func98 rfl h79 ?_ hro
  simp only [Tryd.ntmps98, List.size_toArray, List.length_cons, List.length_nil, Nat.reduceAdd, Nat.reduceSub, Array.replicate_succ, Array.replicate_zero, List.push_toArray, List.append_toArray, List.nil_append, List.cons_append]
  gi_wp2
  gi_loopw [3, 9] (fun s i wr => ∃ k : Nat, k ≤ len ∧ s = .int .i64 (endS f k) ∧ i = .int .i64 k ∧ J (upto len k) wr ∧ KpX X W wr)
    (fun _ i _ => len - (intOf i).toNat)
  case atStart => exact ⟨0, Nat.zero_le _, rfl, rfl, h0, KpX.refl _ _⟩
  case round =>
    obtain ⟨k, hk, rfl, rfl, hJs, hkp⟩ := hrel
    by_cases hlt : k < len
    · obtain ⟨b, o, rfl, hI⟩ := hS (by omega)
      have hbX := hXa b o (by omega) rfl
      have hBX : X < wr.heap.size := Nat.lt_of_lt_of_le hX hkp.size
      have hst := endS_step hl hv hlt
      have hJ4 := hJa (upto len k) wr _ none hJs (World.grownBy_alloc wr (.cells #[.int .i64 (f (k * 7)), .int .i64 (f (k * 7 + 1)), .int .i64 (f (k * 7 + 2)), .int .i64 (f (k * 7 + 3)), .int .i64 (f (k * 7 + 4)), .int .i64 (f (k * 7 + 5)), .int .i64 (f (k * 7 + 6))] 123) none) (fun r e => by cases e)
      obtain ⟨fn, tmps, assign, body, hy, hR⟩ := hY _ ⟨k, hlt⟩ _ hJ4 (by rw [upto_length hk]; exact hlt)
      dsimp only [plV] at hy
      have d0 := hkp.cell hbX (hI (k * 7) (by omega))
      have d1 := hkp.cell hbX (hI.at (k * 7) 1 (by omega))
      have d2 := hkp.cell hbX (hI.at (k * 7) 2 (by omega))
      have d3 := hkp.cell hbX (hI.at (k * 7) 3 (by omega))
      have d4 := hkp.cell hbX (hI.at (k * 7) 4 (by omega))
      have d5 := hkp.cell hbX (hI.at (k * 7) 5 (by omega))
      have d6 := hkp.cell hbX (hI.at (k * 7) 6 (by omega))
      gi_wp2
      refine hR.mono ?_
      rintro e W3 (⟨rfl, hJ3, hk3⟩ | ⟨rfl, hJx3⟩)
      · have hc3 : W3.cell? ⟨wr.heap.size, 1, none⟩ = some (.int .i64 (f (k * 7 + 1))) := hk3.cell (by omega) (by go_simp)
        gi_wp2
        go_roundw
        case rel => exact ⟨k + 1, by omega, rfl, by simp, by rw [upto_succ hlt]; exact hJ3, (hkp.alloc _).trans hk3⟩
        case measure => simp [intOf]; omega
      · gi_wp2
        refine bodyPost_ret (results_none rfl _ _ _) rfl ?_
        exact ⟨⟨_, rfl⟩, .inr ⟨_, ⟨k + 1, by omega, (upto_succ hlt).symm⟩, hJx3⟩⟩
    · obtain rfl : k = len := by omega
      gi_wp2
      go_end0
      exact ⟨⟨_, rfl⟩, .inl ⟨_, rfl, hJs⟩⟩

set_option maxHeartbeats 1000000 in
theorem walkIter_in (F : Fence) (n : Nat) (h55 : F.fn 60) (hro : F.round = none) (v0 v1 v2 : Value) (w : World) :
    CallsIn F n Tryd.prog 60 #[.agg #[v0, v1, v2]] w fun e w' => e = .returned (.func (.func 98) #[] #[.pointer (some ⟨w.heap.size, 0, none⟩)]) ∧ w' = w.alloc (.cells #[v0, v1, v2] 55) := by
  refine callsIn_of_wp Tryd.func60 rfl h55 ?_ hro
  simp only [Tryd.ntmps60, List.size_toArray, List.length_cons, List.length_nil, Nat.reduceAdd, Nat.reduceSub, Array.replicate_succ, Array.replicate_zero, List.push_toArray, List.append_toArray, List.nil_append, List.cons_append]
  gi_wp2
  go_ret
  exact ⟨rfl, rfl⟩

theorem walk_stops (F : Fence) (n : Nat) (h79 : F.fn 98) (hro : F.round = none) (hn : 1 ≤ n) (Bs X : Nat) (a : Option Addr) (len c : Nat) (f : Nat → Int) (hl : len ≤ 70) (hv : ∀ i, i < len → itAt f i = 0) (w : World) (hBs : Bs < w.heap.size)
    (hc : w.cell? ⟨Bs, 0, none⟩ = some (.slice a len c)) (hS : Sl w 7 a len f) (hX : X < w.heap.size) (hXa : ∀ b o, 0 < len → a = some ⟨b, o, none⟩ → b ≠ X) :
    SeqStopsK F n Tryd.prog 98 #[.pointer (some ⟨Bs, 0, none⟩)] (fun x : Ixs len => #[Value.int .i64 (x.1 : Int), plV f x.1]) (KpX X) (fun ys => ys = upto len len)
      (fun pre => ∃ k, k ≤ len ∧ pre = upto len k) len w := fun l J Jx W hW hJa _ hY h0 =>
  walk1_in F n h79 hro hn l Bs X a len c f hl hv J Jx W hJa hY ((hW.cell (p := ⟨Bs, 0, none⟩) hBs).trans hc) (hS.keep (by omega) hW) (Nat.lt_of_lt_of_le hX hW.size) hXa h0

/-- The end behind the items that have come. -/
def lastEnd (f : Nat → Int) {n : Nat} (pre : List (Ixs n)) : Int := match pre.getLast? with | none => 0 | some x => endS f (x.1 + 1)
theorem lastEnd_nil (f : Nat → Int) (n : Nat) : lastEnd f ([] : List (Ixs n)) = 0 := rfl
theorem lastEnd_snoc (f : Nat → Int) {n : Nat} (pre : List (Ixs n)) (x : Ixs n) : lastEnd f (pre ++ [x]) = endS f (x.1 + 1) := by simp [lastEnd]
theorem lastEnd_all (f : Nat → Int) (n : Nat) : ∀ k, k ≤ n → lastEnd f (upto n k) = endS f k
  | 0, _ => rfl
  | k + 1, h => by rw [upto_succ (by omega), lastEnd_snoc]

set_option maxRecDepth 100000 in
set_option maxHeartbeats 4000000 in
theorem endOf_in (F : Fence) (n : Nat) (h52 : F.fn 94) (h55 : F.fn 60) (h79 : F.fn 98) (hro : F.round = none) (hn : 3 ≤ n) (a za la : Option Addr) (len c zn zc ln lc : Nat) (f : Nat → Int) (hl : len ≤ 70) (hv : ∀ i, i < len → itAt f i = 0)
    (w : World) (hS : Sl w 7 a len f) :
    CallsIn F n Tryd.prog 94 #[.agg #[.slice a len c, .slice za zn zc, .slice la ln lc]] w fun e W' => e = .returned (.int .i64 (endS f len)) ∧ Below w.heap.size w W' := by
  have h1 : 1 ≤ n := by omega
  refine callsIn_of_wp_marks Tryd.func94 rfl h52 ?_ hro
  simp only [Tryd.ntmps94, List.size_toArray, List.length_cons, List.length_nil, Nat.reduceAdd, Nat.reduceSub, Array.replicate_succ, Array.replicate_zero, List.push_toArray, List.append_toArray, List.nil_append, List.cons_append]
  have HS := Lib.hid hS
  have HV := Lib.hid hv
  clear hS hv
  gi_wp2_with (gi_at_call 60; refine (walkIter_in F (n - 1) h55 hro _ _ _ _).mono ?_; rintro e w' ⟨rfl, rfl⟩)
  obtain ⟨W0, hW0⟩ : ∃ W0, ((w.alloc (.cells #[.slice a len c, .slice za zn zc, .slice la ln lc] 55)).alloc (.cells #[.int .i64 0] 3)).alloc (.cells #[.slice a len c, .slice za zn zc, .slice la ln lc] 55) = W0 := ⟨_, rfl⟩
  have hB0 : Below w.heap.size w W0 := by rw [← hW0]; exact (((Below.refl _ w).alloc (Nat.le_refl _) _).alloc (by simp) _).alloc (by simp; omega) _
  have hsz : W0.heap.size = w.heap.size + 3 := by rw [← hW0]; simp
  have bE : Boxed W0 (w.heap.size + 1) 3 (.int .i64 0) := by
    have := (Boxed.new (w.alloc (.cells #[.slice a len c, .slice za zn zc, .slice la ln lc] 55)) 3 (.int .i64 0)).alloc (.cells #[.slice a len c, .slice za zn zc, .slice la ln lc] 55)
    rw [World.size_alloc] at this
    rw [← hW0]; exact this
  have cI : W0.cell? ⟨w.heap.size + 1 + 1, 0, none⟩ = some (.slice a len c) := by
    have hh := World.alloc_heap_new ((w.alloc (.cells #[.slice a len c, .slice za zn zc, .slice la ln lc] 55)).alloc (.cells #[.int .i64 0] 3)) (.cells #[.slice a len c, .slice za zn zc, .slice la ln lc] 55)
    rw [hW0] at hh
    simp only [World.size_alloc] at hh
    simp [World.cell?, hh]
  rw [hW0]
  clear hW0
  have hXa : ∀ b o, 0 < len → a = some ⟨b, o, none⟩ → b ≠ w.heap.size + 1 := by
    intro b o hp e
    obtain ⟨b2, o2, e2, hI⟩ := HS.out hp
    rw [e] at e2
    cases e2
    have := hI.lt (by omega)
    omega
  refine wpIn_rangeFunc_ownH hro h1 (gf := 98) (lb := #[.pointer (some ⟨w.heap.size + 1 + 1, 0, none⟩)]) rfl h79 (enters_of Tryd.func98 (by kernel_rfl) rfl)
    (walk_stops F (n - 1) h79 hro (by omega) (w.heap.size + 1 + 1) (w.heap.size + 1) a len c f hl HV.out W0 (by omega) cI (HS.out.keep (by omega) hB0) (by omega) hXa) (fun h k => h.trans k) (kpX_b) (Below.refl _ _) (fun _ => rfl)
    (fun pre W => Boxed W (w.heap.size + 1) 3 (.int .i64 (lastEnd f pre)) ∧ Below w.heap.size w W)
    (fun _ _ _ => False)
    (OwnFrom.and (Own.from (boxed_own _ _ _) _) (ownFrom_below (Nat.le_refl _) (by omega)))
    (fun _ _ _ _ _ hs _ _ => hs)
    ⟨bE, hB0⟩
    (fun x a' W => ∃ Bx, w.heap.size + 1 < Bx ∧ W.heap[Bx]? = some (.cells #[.int .i64 (f (x.1 * 7)), .int .i64 (f (x.1 * 7 + 1)), .int .i64 (f (x.1 * 7 + 2)), .int .i64 (f (x.1 * 7 + 3)), .int .i64 (f (x.1 * 7 + 4)), .int .i64 (f (x.1 * 7 + 5)), .int .i64 (f (x.1 * 7 + 6)), .int .i64 (endS f x.1)] 136 (0, 0)) ∧
      a' = { tmps := #[.agg #[.slice a len c, .slice za zn zc, .slice la ln lc], .pointer (some ⟨w.heap.size, 0, none⟩), .int .i64 0, .pointer (some ⟨w.heap.size + 1, 0, none⟩), undef, .pointer (some ⟨Bx, 0, none⟩), .agg #[.slice a len c, .slice za zn zc, .slice la ln lc], .func (.func 98) #[] #[.pointer (some ⟨w.heap.size + 1 + 1, 0, none⟩)], .int .i64 (x.1 : Int), plV f x.1, undef, undef, undef, undef, undef, undef, undef], defers := [] })
    (fun x a' _ X Y row hs hg hr => by
      obtain ⟨Bx, h1, h2, h3⟩ := hs
      exact ⟨Bx, h1, (grownBy_keeps_cells hg (fun r e => (hr r e).2) h2 rfl).trans h2, h3⟩)
    ?assign ?body ?done ?stop
  case assign =>
    rintro l pre x W K ⟨bE1, hB1⟩ hK
    dsimp only [plV] at hK ⊢
    gi_wp2
    exact hK _ _ ((KeepsOthers.alloc _ _).from _) ((KpX.refl _ _).alloc _) ⟨bE1.alloc _, hB1.alloc hB1.size _⟩ ⟨W.heap.size, bE1.lt, World.alloc_heap_new W _, rfl⟩
  case body =>
    rintro l pre x a' W hl2 _ ⟨bE1, hB1⟩ ⟨Bx, hBx, bX, rfl⟩ hlt
    have cE := bE1.cell
    have fE := bE1.frozen
    have hst := endS_step hl HV.out x.2
    have c1 : W.cell? ⟨Bx, 1, none⟩ = some (.int .i64 (f (x.1 * 7 + 1))) := by simp [World.cell?, bX]
    have c7 : W.cell? ⟨Bx, 7, none⟩ = some (.int .i64 (endS f x.1)) := by simp [World.cell?, bX]
    gi_wp2
    exact ⟨(KeepsOthers.setCell _ _ _).from _, KpX.set _ _ _, ⟨by rw [lastEnd_snoc]; exact bE1.set _, hB1.setCell (p := ⟨w.heap.size + 1, 0, none⟩) (by simp) _⟩⟩
  case done =>
    rintro D zs W hD rfl ⟨bE1, hB1⟩ hK
    have cS := bE1.cell
    rw [lastEnd_all f len len (Nat.le_refl _)] at cS
    gi_wp2
    refine ⟨by simp, .inl ⟨_, _, rfl, run_takeDeferred hK, ?_⟩⟩
    exact ⟨_, results_tmp rfl _ _ _, rfl, hB1.trans (belowK_b (w := w) (Nat.le_refl _) W D _ _ (by omega) hK rfl rfl)⟩
  case stop =>
    rintro D c pre W _ _ h _
    exact h.elim

/-- The end of a line whose items have no error. -/
theorem endOf_of (a za la : Option Addr) (len c zn zc ln lc : Nat) (f : Nat → Int) (hl : len ≤ 70) (hv : ∀ i, i < len → itAt f i = 0) (w : World) (hS : Sl w 7 a len f) :
    Calls Tryd.prog 94 #[.agg #[.slice a len c, .slice za zn zc, .slice la ln lc]] w fun e W' => e = .returned (.int .i64 (endS f len)) ∧ Below w.heap.size w W' :=
  (callsIn_wide (n := 3)).1 (endOf_in Fence.wide 3 trivial trivial trivial rfl (Nat.le_refl _) a za la len c zn zc ln lc f hl hv w hS)
end Go.Proofs.YtdibljidagiblaaDoor.Ln
