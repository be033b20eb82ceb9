/-
  WALKS: Nearest.
-/
import Derived.Test.YtdibljidagiblaaDoorLoC
import Derived.Stop.RegionWithIn
namespace Go.Proofs.YtdibljidagiblaaDoor.Ln
open Go.RowKit Go.Shelf

attribute [local go_sem] Oper.semAt_some

/-- The nearest weld after one more item; after all that have come. -/
def nstep (f : Nat → Int) (st : Int) (acc : Int × Int) (i : Nat) : Int × Int :=
  if i = 1 ∨ (1 < i ∧ max (st - endS f i) (-(st - endS f i)) < max acc.2 (-acc.2)) then ((i : Int), st - endS f i) else acc
def nfold (f : Nat → Int) (st : Int) {n : Nat} (pre : List (Ixs n)) : Int × Int := pre.foldl (fun a x => nstep f st a x.1) (0, 0)
theorem nfold_snoc (f : Nat → Int) (st : Int) {n : Nat} (pre : List (Ixs n)) (x : Ixs n) : nfold f st (pre ++ [x]) = nstep f st (nfold f st pre) x.1 := by simp [nfold]
/-- Weld j is the first of those below k that are nearest to a station. -/
def Near (f : Nat → Int) (st : Int) (k j : Nat) : Prop :=
  (∀ m, 1 ≤ m → m < k → max (st - endS f j) (-(st - endS f j)) ≤ max (st - endS f m) (-(st - endS f m))) ∧ ∀ m, 1 ≤ m → m < j → max (st - endS f j) (-(st - endS f j)) < max (st - endS f m) (-(st - endS f m))
theorem Near.one {f : Nat → Int} {st : Int} {k i j : Nat} (hi : Near f st k i) (hj : Near f st k j) (hi1 : 1 ≤ i ∧ i < k) (hj1 : 1 ≤ j ∧ j < k) : i = j := by
  rcases Nat.lt_trichotomy i j with h | h | h
  · have h1 := hj.2 i hi1.1 h; have h2 := hi.1 j hj1.1 hj1.2; exact absurd h1 (Int.not_lt.2 h2)
  · exact h
  · have h1 := hi.2 j hj1.1 h; have h2 := hj.1 i hi1.1 hi1.2; exact absurd h1 (Int.not_lt.2 h2)
theorem nfold_upto (f : Nat → Int) (st : Int) (n : Nat) : ∀ k, k ≤ n → 2 ≤ k →
    ∃ j : Nat, 1 ≤ j ∧ j < k ∧ nfold f st (upto n k) = ((j : Int), st - endS f j) ∧ Near f st k j
  | 0, _, h => by omega
  | 1, _, h => by omega
  | 2, hk, _ => by
    refine ⟨1, by omega, by omega, ?_, fun m h1 h2 => ?_, fun m h1 h2 => by omega⟩
    · rw [upto_succ (show 1 < n by omega), nfold_snoc]; simp [nstep]
    · obtain rfl : m = 1 := by omega
      exact Int.le_refl _
  | k + 3, hk, _ => by
    obtain ⟨j, h1, h2, e, hm, hs⟩ := nfold_upto f st n (k + 2) (by omega) (by omega)
    rw [upto_succ (show k + 2 < n by omega), nfold_snoc, e]
    by_cases hl : max (st - endS f (k + 2)) (-(st - endS f (k + 2))) < max (st - endS f j) (-(st - endS f j))
    · refine ⟨k + 2, by omega, by omega, ?_, fun m h3 h4 => ?_, fun m h3 h4 => Int.lt_of_lt_of_le hl (hm m h3 h4)⟩
      · unfold nstep; rw [if_pos (.inr ⟨by show 1 < k + 2; omega, hl⟩)]
      · by_cases e2 : m = k + 2
        · subst e2; exact Int.le_refl _
        · exact Int.le_trans (Int.le_of_lt hl) (hm m h3 (by omega))
    · refine ⟨j, h1, by omega, ?_, fun m h3 h4 => ?_, hs⟩
      · unfold nstep; rw [if_neg (by intro h; rcases h with h | h; · simp at h
                                     · exact hl h.2)]
      · by_cases e2 : m = k + 2
        · subst e2; exact Int.not_lt.1 hl
        · exact hm m h3 (by omega)
theorem KpR.setInt {N X : Nat} {W : World} {k : Nat} {u : Value} (v : Value) (hk : N ≤ k) (hb : Boxed W k 3 u) : KpR N X W (W.setCell ⟨k, 0, none⟩ v) :=
  ⟨by simp [World.setCell], fun j o _ ho _ ht => by
    by_cases e : j = k
    · subst e
      rw [show W.heap[j]? = _ from hb] at ho
      cases ho
      rcases ht with h | h
      · omega
      · exact absurd rfl (h _ _)
    · exact (Below.heap_setCell W ⟨k, 0, none⟩ v j e).trans ho⟩
/-- Two stores into boxes of ints, in this order. -/
theorem two_kp {N X : Nat} {W : World} {p q : Nat} {u u' : Value} (v v' : Value) (hp : Boxed W p 3 u) (hq : Boxed W q 3 u') (hpq : p ≠ q) (h1 : N ≤ p) (h2 : N ≤ q) :
    KpR N X W ((W.setCell ⟨p, 0, none⟩ v).setCell ⟨q, 0, none⟩ v').drew :=
  ((KpR.setInt v h1 hp).trans (KpR.setInt v' h2 (hq.other (fun e => hpq e.symm) v))).drew

theorem abs_of (w : World) (n : Int) (h : -2147483648 ≤ n ∧ n ≤ 2147483648) : Calls Tryd.prog 61 #[.int .i64 n] w fun e w' => e = .returned (.int .i64 (max n (-n))) ∧ w' = w := by
  have h1 : IntKind.i64.wrap (-n) = -n := IntWalk.i64_in _ (by omega)
  go_enter Tryd.func61, Tryd.ntmps61
  go_wp2
  · go_ret
    refine ⟨?_, rfl⟩
    rw [show max n (-n) = -n by omega]; rfl
  · go_ret
    refine ⟨?_, rfl⟩
    rw [show max n (-n) = n by omega]; rfl

set_option maxRecDepth 100000 in
set_option maxHeartbeats 4000000 in
theorem nearest_in (n : Nat) (hn : 3 ≤ n) (a za la : Option Addr) (len c zn zc ln lc : Nat) (f : Nat → Int) (st : Int) (hl : len ≤ 70) (hv : ∀ i, i < len → itAt f i = 0)
    (hst : 0 ≤ st ∧ st < endS f len) (h2 : 2 ≤ len) (w : World) (hS : Sl w 7 a len f)
    (hCK : ∀ w', Below w.heap.size w w' → Calls Tryd.prog 55 #[.agg #[.slice a len c, .slice za zn zc, .slice la ln lc], .int .i64 st] w' fun e' w2 => e' = .returned (.int .i64 0) ∧ Below w'.heap.size w' w2) :
    CallsIn Fence.wide n Tryd.prog 22 #[.agg #[.slice a len c, .slice za zn zc, .slice la ln lc], .int .i64 st] w fun e W' => (∃ k : Nat, 1 ≤ k ∧ k < len ∧ Near f st len k ∧ e = .returned (.tuple #[.int .i64 k, .int .i64 (st - endS f k), .int .i64 0])) ∧ Below w.heap.size w W' := by
  have h1 : 1 ≤ n := by omega
  have hro : Fence.wide.round = none := rfl
  have fw : Fence.wide.fn 60 := trivial
  refine callsIn_of_wp_marks Tryd.func22 rfl trivial ?_ hro
  simp only [Tryd.ntmps22, List.size_toArray, List.length_cons, List.length_nil, Nat.reduceAdd, Nat.reduceSub, Array.replicate_succ, Array.replicate_zero, List.push_toArray, List.append_toArray, List.nil_append, List.cons_append]
  have HS := Lib.hid hS
  have HV := Lib.hid hv
  have HCK := Lib.hid hCK
  clear hS hv hCK
  gi_wp2_with fail
  obtain ⟨W, hW⟩ : ∃ W, W = (((w.alloc (.cells #[.slice a len c, .slice za zn zc, .slice la ln lc] 55)).alloc (.cells #[.int .i64 st] 3)).alloc (.cells #[.int .i64 0] 3)).alloc (.cells #[.int .i64 0] 3) := ⟨_, rfl⟩
  have hBW : Hid (Below w.heap.size w W) := by rw [hW]; exact ((((Below.refl _ w).alloc (Nat.le_refl _) _).alloc (by simp) _).alloc (by simp; omega) _).alloc (by simp; omega) _
  have hsz : W.heap.size = w.heap.size + 4 := by rw [hW]; simp
  have HX : Hid (W.cell? ⟨w.heap.size, 0, none⟩ = some (.slice a len c) ∧ W.cell? ⟨w.heap.size, 1, none⟩ = some (.slice za zn zc) ∧ W.cell? ⟨w.heap.size, 2, none⟩ = some (.slice la ln lc)) := by
    rw [hW]; exact ⟨by go_simp, by go_simp, by go_simp⟩
  have HY : Hid (Boxed W (w.heap.size + 1) 3 (.int .i64 st) ∧ Boxed W (w.heap.size + 1 + 1) 3 (.int .i64 0) ∧ Boxed W (w.heap.size + 1 + 1 + 1) 3 (.int .i64 0)) := by
    have q1 := ((Boxed.new (w.alloc (.cells #[.slice a len c, .slice za zn zc, .slice la ln lc] 55)) 3 (.int .i64 st)).alloc (.cells #[.int .i64 0] 3)).alloc (.cells #[.int .i64 0] 3)
    have q2 := (Boxed.new ((w.alloc (.cells #[.slice a len c, .slice za zn zc, .slice la ln lc] 55)).alloc (.cells #[.int .i64 st] 3)) 3 (.int .i64 0)).alloc (.cells #[.int .i64 0] 3)
    have q3 := Boxed.new (((w.alloc (.cells #[.slice a len c, .slice za zn zc, .slice la ln lc] 55)).alloc (.cells #[.int .i64 st] 3)).alloc (.cells #[.int .i64 0] 3)) 3 (.int .i64 0)
    simp only [World.size_alloc] at q1 q2 q3
    rw [hW]; exact ⟨q1, q2, q3⟩
  rw [← hW]
  clear hW
  refine ⟨trivial, (callsIn_wide.2 (HCK.out W hBW.out)).mono ?_⟩
  rintro e' w2 ⟨rfl, hb2⟩
  have HB2 : Hid (Below w.heap.size w w2) := hBW.out.trans (hb2.mono hBW.out.size)
  obtain ⟨x0, x1, x2⟩ := three_keep HX.out hb2
  have hsz2 : w.heap.size + 4 ≤ w2.heap.size := hsz ▸ hb2.size
  have HY2 : Hid (Boxed w2 (w.heap.size + 1) 3 (.int .i64 st) ∧ Boxed w2 (w.heap.size + 1 + 1) 3 (.int .i64 0) ∧ Boxed w2 (w.heap.size + 1 + 1 + 1) 3 (.int .i64 0)) :=
    ⟨(hb2.block _ HY.out.1.lt).trans HY.out.1, (hb2.block _ HY.out.2.1.lt).trans HY.out.2.1, (hb2.block _ HY.out.2.2.lt).trans HY.out.2.2⟩
  have HN1 : Hid (((len : Int) == 1) = false) := by show _ = false; rw [beq_eq_false_iff_ne]; omega
  clear hb2
  have hn1 := HN1.out
  gi_wp2_with (gi_at_call 60; refine (walkIter_in Fence.wide (n - 1) trivial hro _ _ _ _).mono ?_; rintro e w' ⟨rfl, rfl⟩)
  obtain ⟨W0, hW0⟩ : ∃ W0, w2.alloc (.cells #[.slice a len c, .slice za zn zc, .slice la ln lc] 55) = W0 := ⟨_, rfl⟩
  have hB0 : Below w.heap.size w W0 := by rw [← hW0]; exact HB2.out.alloc HB2.out.size _
  have hsz0 : W0.heap.size = w2.heap.size + 1 := by rw [← hW0]; simp
  have HY0 : Hid (Boxed W0 (w.heap.size + 1) 3 (.int .i64 st) ∧ Boxed W0 (w.heap.size + 1 + 1) 3 (.int .i64 0) ∧ Boxed W0 (w.heap.size + 1 + 1 + 1) 3 (.int .i64 0)) := by
    rw [← hW0]; exact ⟨HY2.out.1.alloc _, HY2.out.2.1.alloc _, HY2.out.2.2.alloc _⟩
  have cI : W0.cell? ⟨w2.heap.size, 0, none⟩ = some (.slice a len c) := by
    have hh := World.alloc_heap_new w2 (.cells #[.slice a len c, .slice za zn zc, .slice la ln lc] 55)
    rw [hW0] at hh
    simp [World.cell?, hh]
  rw [hW0]
  clear hW0 x0 x1 x2
  have hXa : ∀ b o, 0 < len → a = some ⟨b, o, none⟩ → b ≠ w.heap.size + 1 + 1 ∧ b < w.heap.size := by
    intro b o hp e
    obtain ⟨b2, o2, e2, hI⟩ := HS.out hp
    rw [e] at e2
    cases e2
    have := hI.lt (by omega)
    omega
  refine wpIn_rangeFunc_ownH hro h1 (gf := 98) (lb := #[.pointer (some ⟨w2.heap.size, 0, none⟩)]) rfl trivial (enters_of Tryd.func98 (by kernel_rfl) rfl)
    (walkR_stops Fence.wide (n - 1) trivial hro (by omega) (w2.heap.size) w.heap.size (w.heap.size + 1 + 1) a len c f hl HV.out W0 (by omega) cI (HS.out.keep (by omega) hB0) (by omega) hXa) (fun h k => h.trans k) (kpR_b) (Below.refl _ _) (fun _ => rfl)
    (fun pre W => (Boxed W (w.heap.size + 1) 3 (.int .i64 st) ∧ Boxed W (w.heap.size + 1 + 1) 3 (.int .i64 (nfold f st pre).1) ∧ Boxed W (w.heap.size + 1 + 1 + 1) 3 (.int .i64 (nfold f st pre).2) ∧ (-2000000000 ≤ (nfold f st pre).2 ∧ (nfold f st pre).2 ≤ 2000000000)) ∧ Below w.heap.size w W)
    (fun _ _ _ => False)
    (OwnFrom.and (fun s A B row h hg hr => ⟨boxed_from h.1 hg hr, boxed_from h.2.1 hg hr, boxed_from h.2.2.1 hg hr, h.2.2.2⟩) (ownFrom_below (Nat.le_refl _) (by omega)))
    (fun _ _ _ _ _ hs _ _ => hs)
    ⟨⟨HY0.out.1, HY0.out.2.1, HY0.out.2.2, by show (-2000000000 : Int) ≤ 0; omega, by show (0 : Int) ≤ 2000000000; omega⟩, hB0⟩
    (fun x a' W => ∃ Bx, w.heap.size + 1 + 1 + 1 < Bx ∧ W.heap[Bx]? = some (.cells #[.int .i64 (f (x.1 * 7)), .int .i64 (f (x.1 * 7 + 1)), .int .i64 (f (x.1 * 7 + 2)), .int .i64 (f (x.1 * 7 + 3)), .int .i64 (f (x.1 * 7 + 4)), .int .i64 (f (x.1 * 7 + 5)), .int .i64 (f (x.1 * 7 + 6)), .int .i64 (endS f x.1)] 136 (0, 0)) ∧
      a' = { tmps := #[.agg #[.slice a len c, .slice za zn zc, .slice la ln lc], .int .i64 st, .pointer (some ⟨w.heap.size, 0, none⟩), .pointer (some ⟨w.heap.size + 1, 0, none⟩), .pointer (some ⟨w.heap.size + 1 + 1, 0, none⟩), .pointer (some ⟨w.heap.size + 1 + 1 + 1, 0, none⟩), .int .i64 0, .int .i64 0, .int .i64 (x.1 : Int), .pointer (some ⟨Bx, 0, none⟩), .agg #[.slice a len c, .slice za zn zc, .slice la ln lc], .int .i64 st, .int .i64 0, .int .i64 0, .bool false, undef, .pointer (some ⟨w.heap.size, 0, none⟩), .slice a len c, .int .i64 (len : Int), .bool false, .agg #[.slice a len c, .slice za zn zc, .slice la ln lc], .func (.func 98) #[] #[.pointer (some ⟨w2.heap.size, 0, none⟩)], .int .i64 (x.1 : Int), plV f x.1, undef, undef, undef, undef, undef, undef, undef, undef, undef, undef, undef, undef, undef, undef, undef, undef, undef, undef, undef, undef, undef, undef, undef], defers := [] })
    (fun x a' _ X Y row hs hg hr => by
      obtain ⟨Bx, h1, h2, h3⟩ := hs
      exact ⟨Bx, h1, (grownBy_keeps_cells hg (fun r e => (hr r e).2) h2 rfl).trans h2, h3⟩)
    ?assign ?body ?done ?stop
  case assign =>
    rintro l pre x W K ⟨⟨b1, b2, b3, hbd⟩, hB1⟩ hK
    dsimp only [plV] at hK ⊢
    gi_wp2
    exact hK _ _ ((KeepsOthers.alloc _ _).from _) ((KpR.refl _ _ _).alloc _) ⟨⟨b1.alloc _, b2.alloc _, b3.alloc _, hbd⟩, hB1.alloc hB1.size _⟩ ⟨W.heap.size, b3.lt, World.alloc_heap_new W _, rfl⟩
  case body =>
    rintro l pre x a' W hl2 _ ⟨⟨b1, b2, b3, hbd⟩, hB1⟩ ⟨Bx, hBx, bX, rfl⟩ hlt
    have fa : (Fence.wide.inRound l).fn 61 := trivial
    have fa2 : Fence.wide.fn 61 := trivial
    have hd0 : Fence.wide.depth = none := rfl
    have hst2 := endS_step hl HV.out x.2
    have hE := endS_le (f := f) (n := len) HV.out
    have c7 : W.cell? ⟨Bx, 7, none⟩ = some (.int .i64 (endS f x.1)) := by simp [World.cell?, bX]
    have b1' : Boxed (W.drew) (w.heap.size + 1) 3 (.int .i64 st) := b1
    have cS : W.cell? ⟨w.heap.size + 1, 0, none⟩ = some (.int .i64 st) := b1.cell
    have cB : W.cell? ⟨w.heap.size + 1 + 1 + 1, 0, none⟩ = some (.int .i64 (nfold f st pre).2) := b3.cell
    have e1 : IntKind.i64.wrap (st - endS f x.1) = st - endS f x.1 := IntWalk.i64_in _ (by omega)
    have cA : W.cell? ⟨w.heap.size + 1 + 1, 0, none⟩ = some (.int .i64 (nfold f st pre).1) := b2.cell
    have fA := b2.frozen
    have fB := b3.frozen
    have fA' : W.drew.frozen? ⟨w.heap.size + 1 + 1, 0, none⟩ = false := fA
    have hkAB := (two_kp (N := w.heap.size) (X := w.heap.size + 1 + 1) (.int .i64 (x.1 : Int)) (.int .i64 (st - endS f x.1)) b2 b3 (by omega) (by omega) (by omega)).drew
    have hkBA := (two_kp (N := w.heap.size) (X := w.heap.size + 1 + 1) (.int .i64 (st - endS f x.1)) (.int .i64 (x.1 : Int)) b3 b2 (by omega) (by omega) (by omega)).drew
    have hAB := two_set (.int .i64 (x.1 : Int)) (.int .i64 (st - endS f x.1)) b2 b3 (by omega)
    have hBA := two_set (.int .i64 (st - endS f x.1)) (.int .i64 (x.1 : Int)) b3 b2 (by omega)
    have hAB1 := Boxed.drew' (Boxed.drew' hAB.1)
    have hAB2 := Boxed.drew' (Boxed.drew' hAB.2)
    have hBA1 := Boxed.drew' (Boxed.drew' hBA.1)
    have hBA2 := Boxed.drew' (Boxed.drew' hBA.2)
    have hs1 : ∀ v v', Boxed (((W.setCell ⟨w.heap.size + 1 + 1, 0, none⟩ v).setCell ⟨w.heap.size + 1 + 1 + 1, 0, none⟩ v').drew.drew) (w.heap.size + 1) 3 (.int .i64 st) := fun v v' => (b1.other (by omega) v).other (by omega) v'
    have hs2 : ∀ v v', Boxed (((W.setCell ⟨w.heap.size + 1 + 1 + 1, 0, none⟩ v).setCell ⟨w.heap.size + 1 + 1, 0, none⟩ v').drew.drew) (w.heap.size + 1) 3 (.int .i64 st) := fun v v' => (b1.other (by omega) v).other (by omega) v'
    have hBl1 : ∀ v v', Below w.heap.size w ((W.setCell ⟨w.heap.size + 1 + 1, 0, none⟩ v).setCell ⟨w.heap.size + 1 + 1 + 1, 0, none⟩ v').drew.drew := fun v v' =>
      (((hB1.setCell (p := ⟨w.heap.size + 1 + 1, 0, none⟩) (show w.heap.size ≤ w.heap.size + 1 + 1 by omega) v).setCell (p := ⟨w.heap.size + 1 + 1 + 1, 0, none⟩) (show w.heap.size ≤ w.heap.size + 1 + 1 + 1 by omega) v').drew).drew
    have hBl2 : ∀ v v', Below w.heap.size w ((W.setCell ⟨w.heap.size + 1 + 1 + 1, 0, none⟩ v).setCell ⟨w.heap.size + 1 + 1, 0, none⟩ v').drew.drew := fun v v' =>
      (((hB1.setCell (p := ⟨w.heap.size + 1 + 1 + 1, 0, none⟩) (show w.heap.size ≤ w.heap.size + 1 + 1 + 1 by omega) v).setCell (p := ⟨w.heap.size + 1 + 1, 0, none⟩) (show w.heap.size ≤ w.heap.size + 1 + 1 by omega) v').drew).drew
    have b2' : Boxed W.drew (w.heap.size + 1 + 1) 3 (.int .i64 (nfold f st pre).1) := b2
    have b3' : Boxed W.drew (w.heap.size + 1 + 1 + 1) 3 (.int .i64 (nfold f st pre).2) := b3
    clear b1 b2 b3 hB0
    have hu : (undef : Value) = .tuple #[] := rfl
    rcases (show x.1 = 0 ∨ x.1 = 1 ∨ 1 < x.1 by omega) with hx0 | hx1 | hx2
    · have e2 : ((x.1 : Int) == 1) = false := by rw [beq_eq_false_iff_ne]; omega
      have e4 : decide ((1 : Int) < (x.1 : Int)) = false := by simp; omega
      have hfold : nfold f st (pre ++ [x]) = nfold f st pre := by rw [nfold_snoc]; unfold nstep; rw [if_neg (by omega)]
      clear hx0
      gi_wp2
      rename_i Q1 K1 hK1
      have HK : K1 { tmps := #[.agg #[.slice a len c, .slice za zn zc, .slice la ln lc], .int .i64 st, .pointer (some ⟨w.heap.size, 0, none⟩), .pointer (some ⟨w.heap.size + 1, 0, none⟩), .pointer (some ⟨w.heap.size + 1 + 1, 0, none⟩), .pointer (some ⟨w.heap.size + 1 + 1 + 1, 0, none⟩), .int .i64 0, .int .i64 0, .int .i64 (x.1 : Int), .pointer (some ⟨Bx, 0, none⟩), .agg #[.slice a len c, .slice za zn zc, .slice la ln lc], .int .i64 st, .int .i64 0, .int .i64 0, .bool false, undef, .pointer (some ⟨w.heap.size, 0, none⟩), .slice a len c, .int .i64 (len : Int), .bool false, .agg #[.slice a len c, .slice za zn zc, .slice la ln lc], .func (.func 98) #[] #[.pointer (some ⟨w2.heap.size, 0, none⟩)], .int .i64 (x.1 : Int), plV f x.1, .int .i64 (x.1 : Int), .bool false, .bool false, .int .i64 (x.1 : Int), .bool false, .bool false, undef, undef, undef, undef, undef, undef, undef, undef, .bool false, .bool false, undef, undef, undef, undef, undef, undef, undef], defers := [] } W.drew := by
        refine hK1 _ _ ?_
        gi_wp2
        exact ⟨(KeepsOthers.drew _).from _, (KpR.refl _ _ _).drew, ⟨b1', by rw [hfold]; exact b2', by rw [hfold]; exact b3', by rw [hfold]; exact hbd⟩, hB1.drew⟩
      clear hK1
      clear_value Q1
      as_aux_lemma =>
        gi_region
        all_goals exact HK
    · have e2 : ((x.1 : Int) == 1) = true := by rw [beq_iff_eq]; omega
      have hfold : nfold f st (pre ++ [x]) = ((x.1 : Int), st - endS f x.1) := by rw [nfold_snoc]; unfold nstep; rw [if_pos (.inl hx1)]
      clear hx1
      gi_wp2
      rename_i Q1 K1 hK1
      have HK : K1 { tmps := #[.agg #[.slice a len c, .slice za zn zc, .slice la ln lc], .int .i64 st, .pointer (some ⟨w.heap.size, 0, none⟩), .pointer (some ⟨w.heap.size + 1, 0, none⟩), .pointer (some ⟨w.heap.size + 1 + 1, 0, none⟩), .pointer (some ⟨w.heap.size + 1 + 1 + 1, 0, none⟩), .int .i64 0, .int .i64 0, .int .i64 (x.1 : Int), .pointer (some ⟨Bx, 0, none⟩), .agg #[.slice a len c, .slice za zn zc, .slice la ln lc], .int .i64 st, .int .i64 0, .int .i64 0, .bool false, undef, .pointer (some ⟨w.heap.size, 0, none⟩), .slice a len c, .int .i64 (len : Int), .bool false, .agg #[.slice a len c, .slice za zn zc, .slice la ln lc], .func (.func 98) #[] #[.pointer (some ⟨w2.heap.size, 0, none⟩)], .int .i64 (x.1 : Int), plV f x.1, .int .i64 (x.1 : Int), .bool true, .bool true, undef, undef, undef, undef, undef, undef, undef, undef, undef, undef, undef, undef, .bool true, undef, undef, undef, undef, undef, undef, undef], defers := [] } W.drew := by
        refine hK1 _ _ ?_
        gi_wp2
        gi_region
        all_goals gi_wp2
        all_goals try rw [e1]
        all_goals refine ⟨(((((KeepsOthers.setCell _ _ _).trans (KeepsOthers.setCell _ _ _)).trans (KeepsOthers.drew _)).trans (KeepsOthers.drew _)).from _), ?_, ⟨?_, ?_, ?_, ?_⟩, ?_⟩
        all_goals first
          | with_reducible exact hkAB
          | with_reducible exact hkBA
          | with_reducible exact hs1 _ _
          | with_reducible exact hs2 _ _
          | with_reducible exact hBl1 _ _
          | with_reducible exact hBl2 _ _
          | (simp only [hfold]; with_reducible first | exact hAB1 | exact hAB2 | exact hBA1 | exact hBA2)
          | (simp only [hfold]; exact ⟨by omega, by omega⟩)
      clear hK1
      clear_value Q1
      as_aux_lemma =>
        gi_region
        all_goals exact HK
    · have e2 : ((x.1 : Int) == 1) = false := by rw [beq_eq_false_iff_ne]; omega
      have e4 : decide ((1 : Int) < (x.1 : Int)) = true := by simp; omega
      have HX2 := Lib.hid hx2
      clear hx2
      by_cases hless : max (st - endS f x.1) (-(st - endS f x.1)) < max (nfold f st pre).2 (-(nfold f st pre).2)
      · have e5 : decide (max (st - endS f x.1) (-(st - endS f x.1)) < max (nfold f st pre).2 (-(nfold f st pre).2)) = true := by simpa using hless
        have hfold : nfold f st (pre ++ [x]) = ((x.1 : Int), st - endS f x.1) := by rw [nfold_snoc]; unfold nstep; rw [if_pos (.inr ⟨HX2.out, hless⟩)]
        clear hless
        gi_wp2
        rename_i Q1 K1 hK1
        have HK : K1 { tmps := #[.agg #[.slice a len c, .slice za zn zc, .slice la ln lc], .int .i64 st, .pointer (some ⟨w.heap.size, 0, none⟩), .pointer (some ⟨w.heap.size + 1, 0, none⟩), .pointer (some ⟨w.heap.size + 1 + 1, 0, none⟩), .pointer (some ⟨w.heap.size + 1 + 1 + 1, 0, none⟩), .int .i64 0, .int .i64 0, .int .i64 (x.1 : Int), .pointer (some ⟨Bx, 0, none⟩), .agg #[.slice a len c, .slice za zn zc, .slice la ln lc], .int .i64 st, .int .i64 0, .int .i64 0, .bool false, undef, .pointer (some ⟨w.heap.size, 0, none⟩), .slice a len c, .int .i64 (len : Int), .bool false, .agg #[.slice a len c, .slice za zn zc, .slice la ln lc], .func (.func 98) #[] #[.pointer (some ⟨w2.heap.size, 0, none⟩)], .int .i64 (x.1 : Int), plV f x.1, .int .i64 (x.1 : Int), .bool false, .bool false, .int .i64 (x.1 : Int), .bool true, .bool true, .int .i64 st, .pointer (some ⟨Bx, 7, none⟩), .int .i64 (endS f x.1), .int .i64 (st - endS f x.1), .int .i64 (max (st - endS f x.1) (-(st - endS f x.1))), .int .i64 (nfold f st pre).2, .int .i64 (max (nfold f st pre).2 (-(nfold f st pre).2)), .bool true, .bool true, .bool true, undef, undef, undef, undef, undef, undef, undef], defers := [] } W.drew := by
          refine hK1 _ _ ?_
          gi_wp2
          gi_region
          all_goals gi_wp2
          all_goals try rw [e1]
          all_goals refine ⟨(((((KeepsOthers.setCell _ _ _).trans (KeepsOthers.setCell _ _ _)).trans (KeepsOthers.drew _)).trans (KeepsOthers.drew _)).from _), ?_, ⟨?_, ?_, ?_, ?_⟩, ?_⟩
          all_goals first
            | with_reducible exact hkAB
            | with_reducible exact hkBA
            | with_reducible exact hs1 _ _
            | with_reducible exact hs2 _ _
            | with_reducible exact hBl1 _ _
            | with_reducible exact hBl2 _ _
            | (simp only [hfold]; with_reducible first | exact hAB1 | exact hAB2 | exact hBA1 | exact hBA2)
            | (simp only [hfold]; exact ⟨by omega, by omega⟩)
        clear hK1
        clear_value Q1
        as_aux_lemma =>
          gi_region_with (gi_at_call 61; refine (CallsIn.inRound l ((callsIn_wide (n := n - 1 - 1 - 1)).2 (abs_of _ _ (by omega)))).mono ?_; rintro e w' ⟨rfl, rfl⟩)
          all_goals exact HK
      · have e5 : decide (max (st - endS f x.1) (-(st - endS f x.1)) < max (nfold f st pre).2 (-(nfold f st pre).2)) = false := by simpa using hless
        have hfold : nfold f st (pre ++ [x]) = nfold f st pre := by rw [nfold_snoc]; unfold nstep; rw [if_neg (by intro h; rcases h with h | h; · have := HX2.out; omega
                                                                                                                  · exact hless h.2)]
        clear hless
        gi_wp2
        rename_i Q1 K1 hK1
        have HK : K1 { tmps := #[.agg #[.slice a len c, .slice za zn zc, .slice la ln lc], .int .i64 st, .pointer (some ⟨w.heap.size, 0, none⟩), .pointer (some ⟨w.heap.size + 1, 0, none⟩), .pointer (some ⟨w.heap.size + 1 + 1, 0, none⟩), .pointer (some ⟨w.heap.size + 1 + 1 + 1, 0, none⟩), .int .i64 0, .int .i64 0, .int .i64 (x.1 : Int), .pointer (some ⟨Bx, 0, none⟩), .agg #[.slice a len c, .slice za zn zc, .slice la ln lc], .int .i64 st, .int .i64 0, .int .i64 0, .bool false, undef, .pointer (some ⟨w.heap.size, 0, none⟩), .slice a len c, .int .i64 (len : Int), .bool false, .agg #[.slice a len c, .slice za zn zc, .slice la ln lc], .func (.func 98) #[] #[.pointer (some ⟨w2.heap.size, 0, none⟩)], .int .i64 (x.1 : Int), plV f x.1, .int .i64 (x.1 : Int), .bool false, .bool false, .int .i64 (x.1 : Int), .bool true, .bool true, .int .i64 st, .pointer (some ⟨Bx, 7, none⟩), .int .i64 (endS f x.1), .int .i64 (st - endS f x.1), .int .i64 (max (st - endS f x.1) (-(st - endS f x.1))), .int .i64 (nfold f st pre).2, .int .i64 (max (nfold f st pre).2 (-(nfold f st pre).2)), .bool false, .bool false, .bool false, undef, undef, undef, undef, undef, undef, undef], defers := [] } W.drew := by
          refine hK1 _ _ ?_
          gi_wp2
          exact ⟨(KeepsOthers.drew _).from _, (KpR.refl _ _ _).drew, ⟨b1', by rw [hfold]; exact b2', by rw [hfold]; exact b3', by rw [hfold]; exact hbd⟩, hB1.drew⟩
        clear hK1
        clear_value Q1
        as_aux_lemma =>
          gi_region_with (gi_at_call 61; refine (CallsIn.inRound l ((callsIn_wide (n := n - 1 - 1 - 1)).2 (abs_of _ _ (by omega)))).mono ?_; rintro e w' ⟨rfl, rfl⟩)
          all_goals exact HK
  case done =>
    rintro D zs W hD rfl ⟨⟨b1, b2, b3, hbd⟩, hB1⟩ hK
    obtain ⟨j, hj1, hj2, ej, hjm⟩ := nfold_upto f st len len (Nat.le_refl _) h2
    rw [ej] at b2 b3
    have cA := b2.cell
    have cB := b3.cell
    have fA := b2.frozen
    have fB := b3.frozen
    gi_wp2
    gi_region
    have q := two_set (.int .i64 (j : Int)) (.int .i64 (st - endS f j)) b2 b3 (by omega)
    have hK' := (((KeepsOthers.setCell W ⟨w.heap.size + 1 + 1, 0, none⟩ (.int .i64 (j : Int))).trans (KeepsOthers.setCell _ ⟨w.heap.size + 1 + 1 + 1, 0, none⟩ (.int .i64 (st - endS f j)))).trans (KeepsOthers.drew _)).same D _ hK rfl
    have hB2 := ((hB1.setCell (p := ⟨w.heap.size + 1 + 1, 0, none⟩) (show w.heap.size ≤ w.heap.size + 1 + 1 by omega) (.int .i64 (j : Int))).setCell (p := ⟨w.heap.size + 1 + 1 + 1, 0, none⟩) (show w.heap.size ≤ w.heap.size + 1 + 1 + 1 by omega) (.int .i64 (st - endS f j))).drew
    gi_wp2
    refine ⟨by simp, .inl ⟨_, _, rfl, run_takeDeferred hK', ?_⟩⟩
    have hc4 := cell_kept (Boxed.drew' q.1).cell (grownBy_putObj' _ D (.deferred none)) (fun r e => by cases e; exact ⟨_, hK', rfl⟩)
    have hc5 := cell_kept (Boxed.drew' q.2).cell (grownBy_putObj' _ D (.deferred none)) (fun r e => by cases e; exact ⟨_, hK', rfl⟩)
    refine ⟨_, ?_, ⟨j, hj1, hj2, hjm, rfl⟩, hB2.trans (belowK_b (w := w) (Nat.le_refl _) _ D _ _ (by omega) hK' rfl rfl)⟩
    simp [results, Tryd.f22, go_sem, hc4, hc5]
  case stop =>
    rintro D c pre W _ _ h _
    exact h.elim
end Go.Proofs.YtdibljidagiblaaDoor.Ln
