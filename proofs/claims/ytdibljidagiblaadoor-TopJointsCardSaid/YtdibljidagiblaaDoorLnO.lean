/-
  WALKS: the iterator over the items, against bodies that make rows of ints; the starts of the items.
-/
import Derived.Test.YtdibljidagiblaaDoorLnM
import Derived.RangeFuncBox
namespace Go.Proofs.YtdibljidagiblaaDoor.Ln
open Go.RowKit Go.Shelf

attribute [local go_sem] Oper.semAt_some

/-- Every block of cells stands as it stood, but X, and rows of ints from N on. -/
structure KpR (N X : Nat) (W W' : World) : Prop where
  size : W.heap.size ≤ W'.heap.size
  same : ∀ k o, k ≠ X → W.heap[k]? = some o → o.isCells = true → (k < N ∨ ∀ c fz, o ≠ .cells c 3 fz) → W'.heap[k]? = some o
theorem KpR.refl (N X : Nat) (W : World) : KpR N X W W := ⟨Nat.le_refl _, fun _ _ _ h _ _ => h⟩
theorem KpR.trans {N X : Nat} {A B C : World} (h : KpR N X A B) (k : KpR N X B C) : KpR N X A C :=
  ⟨Nat.le_trans h.size k.size, fun i o hi ho hc ht => k.same i o hi (h.same i o hi ho hc ht) hc ht⟩
theorem KpR.alloc {N X : Nat} {A B : World} (h : KpR N X A B) (o : Obj) : KpR N X A (B.alloc o) :=
  h.trans ⟨by simp, fun k o' _ hk _ _ => (Below.heap_alloc B o k (Array.getElem?_eq_some_iff.1 hk).1).trans hk⟩
theorem KpR.drew {N X : Nat} {A B : World} (h : KpR N X A B) : KpR N X A B.drew := h.trans ⟨Nat.le_refl _, fun _ _ _ hk _ _ => hk⟩
theorem KpR.cell {N X : Nat} {W W' : World} (h : KpR N X W W') {b o : Nat} {v : Value} (hb : b ≠ X) (hN : b < N) (hc : W.cell? ⟨b, o, none⟩ = some v) : W'.cell? ⟨b, o, none⟩ = some v := by
  obtain ⟨ob, ho, hcl⟩ := cells_of_cell hc
  exact (World.cell?_of_block ((h.same b ob hb ho hcl (.inl hN)).trans ho.symm)).trans hc
theorem KpR.set (N X : Nat) (W : World) (v : Value) : KpR N X W (W.setCell ⟨X, 0, none⟩ v) :=
  ⟨by simp [World.setCell], fun k o hk ho _ _ => (Below.heap_setCell W ⟨X, 0, none⟩ v k hk).trans ho⟩
theorem kpR_b {N X : Nat} {w : World} (W : World) (l : Nat) (o o' : Obj) (_ : w.heap.size ≤ l) (h : W.heap[l]? = some o) (hc : o.isCells = false) (_ : o.isWalk = false) : KpR N X W (W.putObj l o') :=
  ⟨by simp, fun k ob _ hk hcl _ => by
    by_cases e : k = l
    · subst e; rw [h] at hk; cases hk; rw [hc] at hcl; cases hcl
    · exact (World.putObj_heap_other e).trans hk⟩
theorem KpR.appended {N X : Nat} {W w1 : World} {size : Nat} {v v' : Value} {k : Nat} {xs : List Value} {tmp : Obj} (hrow : W.ownsRow N 3 size v k xs) (hgrow : (W.alloc tmp).grownBy w1 v.ownBlock) : KpR N X W (w1.setCell ⟨X, 0, none⟩ v') := by
  refine ((KpR.refl N X W).alloc tmp).trans (KpR.trans ⟨hgrow.size, fun i o hi ho hc ht => ?_⟩ (KpR.set N X w1 v'))
  refine (hgrow.block i (Array.getElem?_eq_some_iff.1 ho).1 (fun e => ?_)).trans ho
  rcases (hrow.alloc tmp).2 with ⟨rfl, _⟩ | ⟨g, cap, cur, rfl, hb, hg, _⟩
  · simp [Value.ownBlock] at e
  · obtain rfl : i = g := by simpa [Value.ownBlock] using e
    rw [hg] at ho
    cases ho
    rcases ht with h | h
    · omega
    · exact h _ _ rfl

set_option maxRecDepth 100000 in
set_option maxHeartbeats 2000000 in
theorem walkR1_in (F : Fence) (n : Nat) (h79 : F.fn 98) (hro : F.round = none) (hn : 1 ≤ n) (l Bs N X : Nat) (a : Option Addr) (len c : Nat) (f : Nat → Int) (hl : len ≤ 70) (hv : ∀ i, i < len → itAt f i = 0)
    (J Jx : List (Ixs len) → World → Prop) (W : World) (hJa : AbidesFrom W.heap.size J)
    (hY : ∀ pre x W, J pre W → pre.length < len → YieldAt F (n - 1) Tryd.prog l #[.int .i64 (x.1 : Int), plV f x.1] W fun e W' =>
      (e = .returned (.bool true) ∧ J (pre ++ [x]) W' ∧ KpR N X W W') ∨ (e = .returned (.bool false) ∧ Jx (pre ++ [x]) W'))
    (hB0 : W.cell? ⟨Bs, 0, none⟩ = some (.slice a len c)) (hS : Sl W 7 a len f) (hX : X < W.heap.size) (hXa : ∀ b o, 0 < len → a = some ⟨b, o, none⟩ → b ≠ X ∧ b < N) (h0 : J [] W) :
    CallsIn F n Tryd.prog 98 #[.func (.yield l) #[] #[], .pointer (some ⟨Bs, 0, none⟩)] W fun e W' => (∃ v, e = .returned v) ∧
      ((∃ ys, ys = upto len len ∧ J ys W') ∨ (∃ pre, (∃ k, k ≤ len ∧ pre = upto len k) ∧ Jx pre W')) := by
  refine callsIn_of_wp Tryd.func98 rfl h79 ?_ hro
  simp only [Tryd.ntmps98, List.size_toArray, List.length_cons, List.length_nil, Nat.reduceAdd, Nat.reduceSub, Array.replicate_succ, Array.replicate_zero, List.push_toArray, List.append_toArray, List.nil_append, List.cons_append]
  gi_wp2
  gi_loopw [3, 9] (fun s i wr => ∃ k : Nat, k ≤ len ∧ s = .int .i64 (endS f k) ∧ i = .int .i64 k ∧ J (upto len k) wr ∧ KpR N X W wr)
    (fun _ i _ => len - (intOf i).toNat)
  case atStart => exact ⟨0, Nat.zero_le _, rfl, rfl, h0, KpR.refl _ _ _⟩
  case round =>
    obtain ⟨k, hk, rfl, rfl, hJs, hkp⟩ := hrel
    by_cases hlt : k < len
    · obtain ⟨b, o, rfl, hI⟩ := hS (by omega)
      have hbX := hXa b o (by omega) rfl
      have hBX : X < wr.heap.size := Nat.lt_of_lt_of_le hX hkp.size
      have hst := endS_step hl hv hlt
      have hJ4 := hJa (upto len k) wr _ none hJs (World.grownBy_alloc wr (.cells #[.int .i64 (f (k * 7)), .int .i64 (f (k * 7 + 1)), .int .i64 (f (k * 7 + 2)), .int .i64 (f (k * 7 + 3)), .int .i64 (f (k * 7 + 4)), .int .i64 (f (k * 7 + 5)), .int .i64 (f (k * 7 + 6))] 123) none) (fun r e => by cases e)
      obtain ⟨fn, tmps, assign, body, hy, hR⟩ := hY _ ⟨k, hlt⟩ _ hJ4 (by rw [upto_length hk]; exact hlt)
      dsimp only [plV] at hy
      have d0 := hkp.cell hbX.1 hbX.2 (hI (k * 7) (by omega))
      have d1 := hkp.cell hbX.1 hbX.2 (hI.at (k * 7) 1 (by omega))
      have d2 := hkp.cell hbX.1 hbX.2 (hI.at (k * 7) 2 (by omega))
      have d3 := hkp.cell hbX.1 hbX.2 (hI.at (k * 7) 3 (by omega))
      have d4 := hkp.cell hbX.1 hbX.2 (hI.at (k * 7) 4 (by omega))
      have d5 := hkp.cell hbX.1 hbX.2 (hI.at (k * 7) 5 (by omega))
      have d6 := hkp.cell hbX.1 hbX.2 (hI.at (k * 7) 6 (by omega))
      gi_wp2
      refine hR.mono ?_
      rintro e W3 (⟨rfl, hJ3, hk3⟩ | ⟨rfl, hJx3⟩)
      · have hc3 : W3.cell? ⟨wr.heap.size, 1, none⟩ = some (.int .i64 (f (k * 7 + 1))) := by
          have hh := hk3.same wr.heap.size _ (by omega) (World.alloc_heap_new wr _) rfl (.inr (fun c fz e => by cases e))
          simp [World.cell?, hh]
        gi_wp2
        go_roundw
        case rel => exact ⟨k + 1, by omega, rfl, by simp, by rw [upto_succ hlt]; exact hJ3, (hkp.alloc _).trans hk3⟩
        case measure => simp [intOf]; omega
      · gi_wp2
        refine bodyPost_ret (results_none rfl _ _ _) rfl ?_
        exact ⟨⟨_, rfl⟩, .inr ⟨_, ⟨k + 1, by omega, (upto_succ hlt).symm⟩, hJx3⟩⟩
    · obtain rfl : k = len := by omega
      gi_wp2
      go_end0
      exact ⟨⟨_, rfl⟩, .inl ⟨_, rfl, hJs⟩⟩

theorem walkR_stops (F : Fence) (n : Nat) (h79 : F.fn 98) (hro : F.round = none) (hn : 1 ≤ n) (Bs N X : Nat) (a : Option Addr) (len c : Nat) (f : Nat → Int) (hl : len ≤ 70) (hv : ∀ i, i < len → itAt f i = 0) (w : World) (hBs : Bs < w.heap.size)
    (hc : w.cell? ⟨Bs, 0, none⟩ = some (.slice a len c)) (hS : Sl w 7 a len f) (hX : X < w.heap.size) (hXa : ∀ b o, 0 < len → a = some ⟨b, o, none⟩ → b ≠ X ∧ b < N) :
    SeqStopsK F n Tryd.prog 98 #[.pointer (some ⟨Bs, 0, none⟩)] (fun x : Ixs len => #[Value.int .i64 (x.1 : Int), plV f x.1]) (KpR N X) (fun ys => ys = upto len len)
      (fun pre => ∃ k, k ≤ len ∧ pre = upto len k) len w := fun l J Jx W hW hJa _ hY h0 =>
  walkR1_in F n h79 hro hn l Bs N X a len c f hl hv J Jx W hJa hY ((hW.cell (p := ⟨Bs, 0, none⟩) hBs).trans hc) (hS.keep (by omega) hW) (Nat.lt_of_lt_of_le hX hW.size) hXa h0

/-- The starts of the items that have come. -/
def stRow (f : Nat → Int) {n : Nat} (pre : List (Ixs n)) : List Value := pre.map fun x => .int .i64 (endS f x.1)
theorem stRow_snoc (f : Nat → Int) {n : Nat} (pre : List (Ixs n)) (x : Ixs n) : stRow f (pre ++ [x]) = stRow f pre ++ [.int .i64 (endS f x.1)] := by simp [stRow]
theorem stRow_upto (f : Nat → Int) (n : Nat) : ∀ k, k ≤ n → stRow f (upto n k) = irow (endS f) k
  | 0, _ => rfl
  | k + 1, h => by rw [upto_succ (by omega), stRow_snoc, stRow_upto f n k (by omega), irow_succ]

theorem x_infoInt : (Tryd.prog.info? 3).map (fun i => (i.zero, i.size, i.bytes)) = some (some (.int .i64 0), 1, 8) := by kernel_rfl

set_option maxRecDepth 100000 in
set_option maxHeartbeats 4000000 in
theorem startsOf_in (F : Fence) (n : Nat) (h52 : F.fn 93) (h55 : F.fn 60) (h79 : F.fn 98) (hro : F.round = none) (hn : 3 ≤ n) (a za la : Option Addr) (len c zn zc ln lc : Nat) (f : Nat → Int) (hl : len ≤ 70) (hv : ∀ i, i < len → itAt f i = 0)
    (w : World) (hS : Sl w 7 a len f) :
    CallsIn F n Tryd.prog 93 #[.agg #[.slice a len c, .slice za zn zc, .slice la ln lc]] w fun e W' => ∃ v, e = .returned v ∧ W'.ownsRow w.heap.size 3 1 v len (irow (endS f) len) ∧ Below w.heap.size w W' := by
  have h1 : 1 ≤ n := by omega
  obtain ⟨i0, hi, hz0, hz1, hz2⟩ := info_parts x_infoInt
  refine callsIn_of_wp_marks Tryd.func93 rfl h52 ?_ hro
  simp only [Tryd.ntmps93, List.size_toArray, List.length_cons, List.length_nil, Nat.reduceAdd, Nat.reduceSub, Array.replicate_succ, Array.replicate_zero, List.push_toArray, List.append_toArray, List.nil_append, List.cons_append]
  have HS := Lib.hid hS
  have HV := Lib.hid hv
  clear hS hv
  gi_wp2_with (gi_at_call 60; refine (walkIter_in F (n - 1) h55 hro _ _ _ _).mono ?_; rintro e w' ⟨rfl, rfl⟩)
  obtain ⟨W0, hW0⟩ : ∃ W0, ((w.alloc (.cells #[.slice a len c, .slice za zn zc, .slice la ln lc] 55)).alloc (.cells #[.slice none 0 0] 26)).alloc (.cells #[.slice a len c, .slice za zn zc, .slice la ln lc] 55) = W0 := ⟨_, rfl⟩
  have hB0 : Below w.heap.size w W0 := by rw [← hW0]; exact (((Below.refl _ w).alloc (Nat.le_refl _) _).alloc (by simp) _).alloc (by simp; omega) _
  have hsz : W0.heap.size = w.heap.size + 3 := by rw [← hW0]; simp
  have bE : Boxed W0 (w.heap.size + 1) 26 (.slice none 0 0) := by
    have := (Boxed.new (w.alloc (.cells #[.slice a len c, .slice za zn zc, .slice la ln lc] 55)) 26 (.slice none 0 0)).alloc (.cells #[.slice a len c, .slice za zn zc, .slice la ln lc] 55)
    rw [World.size_alloc] at this
    rw [← hW0]; exact this
  have cI : W0.cell? ⟨w.heap.size + 1 + 1, 0, none⟩ = some (.slice a len c) := by
    have hh := World.alloc_heap_new ((w.alloc (.cells #[.slice a len c, .slice za zn zc, .slice la ln lc] 55)).alloc (.cells #[.slice none 0 0] 26)) (.cells #[.slice a len c, .slice za zn zc, .slice la ln lc] 55)
    rw [hW0] at hh
    simp only [World.size_alloc] at hh
    simp [World.cell?, hh]
  rw [hW0]
  clear hW0
  have hXa : ∀ b o, 0 < len → a = some ⟨b, o, none⟩ → b ≠ w.heap.size + 1 ∧ b < w.heap.size := by
    intro b o hp e
    obtain ⟨b2, o2, e2, hI⟩ := HS.out hp
    rw [e] at e2
    cases e2
    have := hI.lt (by omega)
    omega
  refine wpIn_rangeFunc_ownH hro h1 (gf := 98) (lb := #[.pointer (some ⟨w.heap.size + 1 + 1, 0, none⟩)]) rfl h79 (enters_of Tryd.func98 (by kernel_rfl) rfl)
    (walkR_stops F (n - 1) h79 hro (by omega) (w.heap.size + 1 + 1) w.heap.size (w.heap.size + 1) a len c f hl HV.out W0 (by omega) cI (HS.out.keep (by omega) hB0) (by omega) hXa) (fun h k => h.trans k) (kpR_b) (Below.refl _ _) (fun _ => rfl)
    (fun (pre : List (Ixs len)) W => (∃ v, Boxed W (w.heap.size + 1) 26 v ∧ W.ownsRow w.heap.size 3 1 v pre.length (stRow f pre) ∧ True) ∧ Below w.heap.size w W)
    (fun _ _ _ => False)
    (OwnFrom.and (Own.from (holdsRow_own w.heap.size (w.heap.size + 1) 26 3 1 (fun (pre : List (Ixs len)) => pre.length) (fun pre => stRow f pre) (fun _ _ => True)) _) (ownFrom_below (Nat.le_refl _) (by omega)))
    (fun _ _ _ _ _ hs _ _ => hs)
    ⟨⟨_, bE, ⟨by simp [stRow], .inl ⟨rfl, rfl⟩⟩, trivial⟩, hB0⟩
    (fun x a' W => ∃ Bx, w.heap.size + 1 < Bx ∧ W.heap[Bx]? = some (.cells #[.int .i64 (f (x.1 * 7)), .int .i64 (f (x.1 * 7 + 1)), .int .i64 (f (x.1 * 7 + 2)), .int .i64 (f (x.1 * 7 + 3)), .int .i64 (f (x.1 * 7 + 4)), .int .i64 (f (x.1 * 7 + 5)), .int .i64 (f (x.1 * 7 + 6)), .int .i64 (endS f x.1)] 136 (0, 0)) ∧
      a' = { tmps := #[.agg #[.slice a len c, .slice za zn zc, .slice la ln lc], .pointer (some ⟨w.heap.size, 0, none⟩), .slice none 0 0, .pointer (some ⟨w.heap.size + 1, 0, none⟩), undef, .pointer (some ⟨Bx, 0, none⟩), .agg #[.slice a len c, .slice za zn zc, .slice la ln lc], .func (.func 98) #[] #[.pointer (some ⟨w.heap.size + 1 + 1, 0, none⟩)], .int .i64 (x.1 : Int), plV f x.1, undef, undef, undef, undef, undef, undef], defers := [] })
    (fun x a' _ X Y row hs hg hr => by
      obtain ⟨Bx, h1, h2, h3⟩ := hs
      exact ⟨Bx, h1, (grownBy_keeps_cells hg (fun r e => (hr r e).2) h2 rfl).trans h2, h3⟩)
    ?assign ?body ?done ?stop
  case assign =>
    rintro l pre x W K ⟨⟨v, bE1, hrow, _⟩, hB1⟩ hK
    dsimp only [plV] at hK ⊢
    gi_wp2
    exact hK _ _ ((KeepsOthers.alloc _ _).from _) ((KpR.refl _ _ _).alloc _) ⟨⟨v, bE1.alloc _, hrow.alloc _, trivial⟩, hB1.alloc hB1.size _⟩ ⟨W.heap.size, bE1.lt, World.alloc_heap_new W _, rfl⟩
  case body =>
    rintro l pre x a' W hl2 _ ⟨⟨v, bE1, hrow, _⟩, hB1⟩ ⟨Bx, hBx, bX, rfl⟩ hlt
    have cE := bE1.cell
    have fE := bE1.frozen
    have hst := endS_step hl HV.out x.2
    have c7 : W.cell? ⟨Bx, 7, none⟩ = some (.int .i64 (endS f x.1)) := by simp [World.cell?, bX]
    gi_wp2_with (gi_at_builtin; refine wpListIn_append_own _ rfl _ _ 26 rfl w.heap.size 3 i0 (.int .i64 0) 1 8 Tryd.underlying26 hi hz0 hz1 hz2 rfl (by decide) _ _ _ rfl (hrow.alloc _) ⟨W.heap.size, 0, none⟩ 1 1 [.int .i64 (endS f x.1)] rfl rfl (cell_one_new _ _ _) (by simp [Value.oneCell']) (by unfold maxLen; omega) (by omega) (by have := hB1.size; simp; omega) ?_; intro v' w1 hown' hgrow _; obtain ⟨g', cap', rfl⟩ := ownsRow_succ hown'; obtain ⟨hv1, hv2, hr2, hk2, hb2⟩ := bE1.appended (by decide) hrow hB1.size (by omega) hown' hgrow; have hkr := KpR.appended (X := w.heap.size + 1) (v' := .slice (some ⟨g', 0, none⟩) (pre.length + 1) cap') hrow hgrow; have hc1 := hv1.cell; have hf1 := hv1.frozen)
    exact ⟨hk2.from _, hkr, ⟨_, hv2, by rw [stRow_snoc, List.length_append]; simpa using hr2, trivial⟩, hB1.trans hb2⟩
  case done =>
    rintro D zs W hD rfl ⟨⟨v, bE1, hrow, _⟩, hB1⟩ hK
    have cS := bE1.cell
    gi_wp2
    refine ⟨by simp, .inl ⟨_, _, rfl, run_takeDeferred hK, ?_⟩⟩
    refine ⟨_, results_tmp rfl _ _ _, v, rfl, ?_, hB1.trans (belowK_b (w := w) (Nat.le_refl _) W D _ _ (by omega) hK rfl rfl)⟩
    rw [upto_length (Nat.le_refl _), stRow_upto f len len (Nat.le_refl _)] at hrow
    exact ownsRow_putObj hrow _ hK rfl
  case stop =>
    rintro D c pre W _ _ h _
    exact h.elim

/-- The starts of the items of a line whose items have no error. -/
theorem startsOf_of (a za la : Option Addr) (len c zn zc ln lc : Nat) (f : Nat → Int) (hl : len ≤ 70) (hv : ∀ i, i < len → itAt f i = 0) (w : World) (hS : Sl w 7 a len f) :
    Calls Tryd.prog 93 #[.agg #[.slice a len c, .slice za zn zc, .slice la ln lc]] w fun e W' => ∃ v, e = .returned v ∧ W'.ownsRow w.heap.size 3 1 v len (irow (endS f) len) ∧ Below w.heap.size w W' :=
  (callsIn_wide (n := 3)).1 (startsOf_in Fence.wide 3 trivial trivial trivial rfl (Nat.le_refl _) a za la len c zn zc ln lc f hl hv w hS)
end Go.Proofs.YtdibljidagiblaaDoor.Ln
