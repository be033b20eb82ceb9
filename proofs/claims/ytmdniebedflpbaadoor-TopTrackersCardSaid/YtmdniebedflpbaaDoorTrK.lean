/-
  WALKS: the law of TopTrackers.
-/
import Derived.Test.YtmdniebedflpbaaDoorTrA
import Derived.Test.YtmdniebedflpbaaDoorDyK
import Derived.BigQuiet
import Derived.BigRegion
import Derived.StillTailTactics
import Derived.Deep.QuietTactic
import Derived.Deep.RegionHeld3
import Derived.Deep.DeepCutAuto
namespace Go.Proofs.YtmdniebedflpbaaDoor
open Go.RowKit

theorem x_tg : (Tryd.prog.info? 26).map (fun i => (i.zero, i.size, i.bytes)) = some (some (.agg #[.int .i64 0, .int .i64 0, .int .i64 0, .int .i64 0]), 4, 32) := by kernel_rfl
theorem cell_two {W : World} {q b o : Nat} {x y v : Value} (hne : b ≠ q) (h : W.cell? ⟨b, o, none⟩ = some v) : ((W.setCell ⟨q, 0, none⟩ x).setCell ⟨q, 1, none⟩ y).cell? ⟨b, o, none⟩ = some v := by
  have e : ∀ j, (⟨q, j, none⟩ : Addr) ≠ ⟨b, o, none⟩ := fun j e => by injection e with e; exact hne e.symm
  exact (World.cell?_setCell_other _ _ _ _ (e 1)).trans ((World.cell?_setCell_other _ _ _ _ (e 0)).trans h)
theorem cell_two0 {W : World} {q : Nat} {x y u : Value} (h : W.cell? ⟨q, 0, none⟩ = some u) : ((W.setCell ⟨q, 0, none⟩ x).setCell ⟨q, 1, none⟩ y).cell? ⟨q, 0, none⟩ = some x :=
  (World.cell?_setCell_other _ _ _ _ (by simp)).trans (World.cell?_setCell_same _ _ _ h)
theorem cell_two1 {W : World} {q : Nat} {x y u : Value} (h : W.cell? ⟨q, 1, none⟩ = some u) : ((W.setCell ⟨q, 0, none⟩ x).setCell ⟨q, 1, none⟩ y).cell? ⟨q, 1, none⟩ = some y :=
  World.cell?_setCell_same _ _ _ ((World.cell?_setCell_other _ _ _ _ (by simp)).trans h)
theorem own_lt {W : World} {B e sz m g n cap : Nat} {xs : List Value} (h : W.ownsRow B e sz (.slice (some ⟨g, 0, none⟩) n cap) m xs) : g < W.heap.size := by
  rcases h.2 with ⟨hn, _⟩ | ⟨g', cap', cur, hv, hg, hc, hr⟩
  · cases hn
  · cases hv
    exact (Array.getElem?_eq_some_iff.1 hc).1
theorem low_two {w W : World} {B q : Nat} (h : Below B w W) (hq : B ≤ q) (x y : Value) : Below B w ((W.setCell ⟨q, 0, none⟩ x).setCell ⟨q, 1, none⟩ y) := ⟨h.os, h.tape, h.output, by simpa [World.setCell] using h.size, fun k hk => by
  rw [← h.block k hk]
  simp [World.setCell, Array.getElem?_modify, show q ≠ k by omega]⟩
theorem row_two {W : World} {B e sz m g q n cap : Nat} {x y : Value} {xs : List Value} (h : W.ownsRow B e sz (.slice (some ⟨g, 0, none⟩) n cap) m xs) (hq : g ≠ q) : ((W.setCell ⟨q, 0, none⟩ x).setCell ⟨q, 1, none⟩ y).ownsRow B e sz (.slice (some ⟨g, 0, none⟩) n cap) m xs := by
  refine ⟨h.1, ?_⟩
  rcases h.2 with hn | ⟨g', cap', cur, hv, hg, hc, hr⟩
  · exact .inl hn
  · cases hv
    refine .inr ⟨g, cap, cur, rfl, hg, ?_, hr⟩
    simp [World.setCell, Array.getElem?_modify, Ne.symm hq, hc]
/-- What the loop over the reports keeps. -/
structure Tz (w W : World) (N : Nat) (pl : Nat → Int) (k : Nat) (vl : Value) : Prop where
  bds : ∃ g cap cnt F, vl = .slice (some ⟨g, 0, none⟩) cnt cap ∧ cnt ≤ 8 + k * 2 ∧ TrueB N pl cnt F ∧ (∀ j, j ≤ k → Wy F cnt j) ∧ W.ownsRow w.heap.size 62 3 vl cnt (brow F cnt)
  below : Below w.heap.size w W
/-- A telegram is like itself. -/
theorem eq_tg (w : World) (t : Tg) : Sem.run Tryd.prog (Op.equalIn 10000 26 (.agg #[.int .i64 t.a, .int .i64 t.b, .int .i64 t.c, .int .i64 t.d]) (.agg #[.int .i64 t.a, .int .i64 t.b, .int .i64 t.c, .int .i64 t.d])) w = .ok true w := by
  obtain ⟨a, b, c, d⟩ := t
  have q : ∀ v x, (Op.equalIn 9999 3 (.int .i64 x) (.int .i64 x)).run Tryd.prog v = .ok true v := fun v x => by
    rw [show (9999 : Nat) = 9998 + 1 from rfl, run_equalIn_int v 9998 3 .i64 .i64 x x Tryd.underlying3, beq_self_eq_true]
  rw [show (10000 : Nat) = 9999 + 1 from rfl, run_equalIn_struct w 9999 26 _ _ (by rw [Program.fieldsOf, Tryd.underlying26]) (by kernel_rfl)]
  have p0 : ∀ v a b c d, (part 3 #[.int .i64 a, .int .i64 b, .int .i64 c, .int .i64 d] 0).run Tryd.prog v = .ok (.int .i64 a) v := fun _ _ _ _ _ => by kernel_rfl
  have p1 : ∀ v a b c d, (part 3 #[.int .i64 a, .int .i64 b, .int .i64 c, .int .i64 d] 1).run Tryd.prog v = .ok (.int .i64 b) v := fun _ _ _ _ _ => by kernel_rfl
  have p2 : ∀ v a b c d, (part 3 #[.int .i64 a, .int .i64 b, .int .i64 c, .int .i64 d] 2).run Tryd.prog v = .ok (.int .i64 c) v := fun _ _ _ _ _ => by kernel_rfl
  have p3 : ∀ v a b c d, (part 3 #[.int .i64 a, .int .i64 b, .int .i64 c, .int .i64 d] 3).run Tryd.prog v = .ok (.int .i64 d) v := fun _ _ _ _ _ => by kernel_rfl
  rw [Program.fieldsOf, Tryd.underlying26]
  simp [Op.eqFields, p0, p1, p2, p3, q]
theorem step_tg {ops : Array Oper} {o : Oper} {a : Act} {W : World} {K : Act → World → Prop} {Q : Exit → Act → World → Prop} {E : Prop} (hgd : o.guard = none) (s x : Operand)
    (ho : o.op = .call { callee := .builtin .append, args := #[s, x], argTypes := #[27, 27] })
    {B : Nat} {v1 : Value} {k : Nat} {T : Nat → Tg} {S X Y Z : Int} {L1 : Nat} (hs : a.eval s = v1) (hx : a.eval x = .slice (some ⟨L1, 0, none⟩) 1 1)
    (hown : W.ownsRow B 26 4 v1 k (trow T k)) (hL : W.heap[L1]? = some (.cells #[.int .i64 S, .int .i64 X, .int .i64 Y, .int .i64 Z] 26 (0, 0))) (hT : T k = ⟨S, X, Y, Z⟩) (hk : k ≤ 9) (hB : B ≤ W.heap.size)
    (h : ∀ g cap w', w'.ownsRow B 26 4 (.slice (some ⟨g, 0, none⟩) (k + 1) cap) (k + 1) (trow T (k + 1)) → W.grownBy w' v1.ownBlock → K (a.put o.dst (.slice (some ⟨g, 0, none⟩) (k + 1) cap)) w') :
    if Region.wanted o (yielded ops a.tmps) = true then Oper.wp Tryd.prog o a W K Q else E := by
  obtain ⟨i0, hi0, hz0, hz1, hz2⟩ := info_parts x_tg
  refine step_append_lies W hgd s x 27 ho B 26 i0 (.agg #[.int .i64 0, .int .i64 0, .int .i64 0, .int .i64 0]) 4 32 Tryd.underlying27 hi0 hz0 hz1 hz2 rfl (by decide) v1 k (trow T k) hs hown ⟨L1, 0, none⟩ 1 1 [.int .i64 S, .int .i64 X, .int .i64 Y, .int .i64 Z] hx rfl (World.news_of_block hL) (by simp [Value.oneCell']) (by decide) (by unfold maxLen; omega) (by omega) hB _ rfl ?_
  intro g cap w' h1 h2 _ _
  refine h g cap w' ?_ h2
  rw [trow, hT]
  exact h1
theorem grown_cell {W w' : World} {own : Option Nat} (gr : W.grownBy w' own) {p : Addr} (hp : p.block < W.heap.size) (hne : some p.block ≠ own) : w'.cell? p = W.cell? p := by
  simp only [World.cell?, gr.block _ hp hne]

set_option maxRecDepth 100000 in
set_option maxHeartbeats 16000000 in
theorem topTrackers_law (w : World) (a a' : Option Addr) (n m c c' : Nat) (s v : Nat → Int) (x0 x1 : Int)
    (hn : n ≤ maxLen) (hm : m ≤ maxLen) (hs : ∀ i, i < n → 0 ≤ s i ∧ s i ≤ 255) (hv : ∀ i, i < m → 0 ≤ v i ∧ v i ≤ 255) (hS : S8 w a n s) (hV : S8 w a' m v) (h0 : 0 ≤ x0 ∧ x0 ≤ 255) (h1 : 0 ≤ x1 ∧ x1 ≤ 255) (hT : Dy.Tab w) :
    Calls Tryd.prog 3 #[.slice a n c, .slice a' m c', .agg #[.int .u8 x0, .int .u8 x1]] w fun e w' => e = .returned (.bool true) ∧ Below w.heap.size w w' := by
  have hmx : maxLen = 9223372036854775807 := rfl
  have HT := Lib.hid hT
  have HA : Hid (∀ W, Below w.heap.size w W → Calls Tryd.prog 4 #[] W fun e w' => e = .returned (.bool true) ∧ Below W.heap.size W w') := fun W hW => Dy.adds_of W (HT.out.keep hW)
  clear hT
  obtain ⟨N, hN⟩ : ∃ N : Nat, min n m = N := ⟨_, rfl⟩
  have hNi : min (n : Int) (m : Int) = (N : Int) := by omega
  by_cases hc : N < 1 ∨ 8 < N
  · clear hs hS HT
    rcases (by omega : N = 0 ∨ (1 ≤ N ∧ 8 < N)) with h2 | ⟨h2, h3⟩
    all_goals
      clear hc
      go_enter Tryd.func3, Tryd.ntmps3
      go_wp2_with fail
      refine (HA.out _ ((Below.refl _ _).alloc (Nat.le_refl _) _)).mono ?_
      rintro e w2 ⟨rfl, hB2⟩
      have HB2 := Lib.hid (((Below.refl _ w).alloc (Nat.le_refl _) (.cells #[.int .u8 x0, .int .u8 x1] 23)).trans (hB2.mono (by simp)))
      clear hB2
      go_wp2_with fail
      go_ret
      exact ⟨rfl, HB2.out⟩
  have hN1 : 1 ≤ N ∧ N ≤ 8 := by omega
  have hs' : ∀ i, i < N → 0 ≤ s i ∧ s i ≤ 255 := fun i hi => hs i (by omega)
  have hv' : ∀ i, i < N → 0 ≤ v i ∧ v i ≤ 255 := fun i hi => hv i (by omega)
  have HS := Lib.hid hS
  have HV := Lib.hid hV
  have HSb := Lib.hid hs'
  have HVb := Lib.hid hv'
  have HTb := Lib.hid (tlg_bd hs' hv')
  have HTo := Lib.hid (tlg_ok hN1.2 hs' hv')
  have HT0 : Hid (tlg s v 0 = ⟨1, 0, 0, 1000⟩) := rfl
  have HTs : Hid (∀ k : Nat, tlg s v (k + 1) = ⟨(k : Int) + 2, (tlg s v k).b + 1000 * s k, (tlg s v k).c + s k * v k, 900⟩) := fun _ => rfl
  generalize tlg s v = T at HTb HTo HT0 HTs
  have hNn : N ≤ n ∧ N ≤ m := by omega
  clear hs hS hv hV hs' hv' hc hN
  go_enter Tryd.func3, Tryd.ntmps3
  go_wp2_with fail
  generalize hW1 : w.alloc (.cells #[.int .u8 x0, .int .u8 x1] 23) = W1
  have hB1 : Below w.heap.size w W1 := by rw [← hW1]; exact (Below.refl _ _).alloc (Nat.le_refl _) _
  have hA1 : W1.heap[w.heap.size]? = some (.cells #[.int .u8 x0, .int .u8 x1] 23 (0, 0)) := by rw [← hW1]; exact World.alloc_heap_new w _
  have hsz : W1.heap.size = w.heap.size + 1 := by rw [← hW1]; simp
  rw [← hsz]
  have HX : Hid (∀ W, Below W1.heap.size W1 W → W.cell? ⟨w.heap.size, 0, none⟩ = some (.int .u8 x0) ∧ W.cell? ⟨w.heap.size, 1, none⟩ = some (.int .u8 x1)) := fun W hW => by
    have h := (hW.block _ (Array.getElem?_eq_some_iff.1 hA1).1).trans hA1
    exact ⟨cell_h h rfl, cell_h h rfl⟩
  have hL0 := World.ownsRow_lit (base := W1.heap.size) (e := 26) (size := 4) W1 #[.int .i64 1, .int .i64 0, .int .i64 0, .int .i64 1000] 1 (Nat.le_refl _) (by decide) rfl
  have HL0 : Hid ((W1.alloc (.cells #[.int .i64 1, .int .i64 0, .int .i64 0, .int .i64 1000] 26)).ownsRow W1.heap.size 26 4 (.slice (some ⟨W1.heap.size, 0, none⟩) 1 1) (0 + 1) (trow T (0 + 1))) := by
    rw [show trow T (0 + 1) = [.int .i64 1, .int .i64 0, .int .i64 0, .int .i64 1000] by rw [trow, HT0.out]; rfl]
    exact hL0
  have HB1 := Lib.hid hB1
  have HSZ := Lib.hid hsz
  have hB2 : Below W1.heap.size W1 (W1.alloc (.cells #[.int .i64 1, .int .i64 0, .int .i64 0, .int .i64 1000] 26)) := (Below.refl _ _).alloc (Nat.le_refl _) _
  clear hW1 hA1 hsz hB1 hL0
  generalize hW2 : W1.alloc (.cells #[.int .i64 1, .int .i64 0, .int .i64 0, .int .i64 1000] 26) = W2 at HL0 hB2
  clear hW2
  have HB2 := Lib.hid hB2
  clear hB2
  go_loopw [8, 45] (fun v8 v45 wr => ∃ k : Nat, k ≤ N ∧ v45 = .int .i64 k ∧ Hid (wr.ownsRow W1.heap.size 26 4 v8 (k + 1) (trow T (k + 1))) ∧ Hid (Below W1.heap.size W1 wr)) (fun _ v45 _ => N - (intOf v45).toNat)
  case atStart => exact ⟨0, by omega, rfl, HL0, HB2⟩
  case round =>
    obtain ⟨k, hk, rfl, HO, HB⟩ := hrel
    clear HL0 HB2
    obtain ⟨g, cap, rfl⟩ := ownsRow_succ HO.out
    by_cases hlt : k < N
    · have hss := HB.out.size
      obtain ⟨b, o, rfl, d0⟩ := HS.out.cell (HB1.out.trans (HB.out.mono (by rw [HSZ.out]; omega))) (show k < n by omega)
      obtain ⟨b', o', rfl, d0'⟩ := HV.out.cell (HB1.out.trans (HB.out.mono (by rw [HSZ.out]; omega))) (show k < m by omega)
      obtain ⟨t0, t1, t2, t3⟩ := trow_cells (j := k) HO.out (by omega)
      have q1 := HSb.out k hlt
      have q2 := HVb.out k hlt
      obtain ⟨_, q3, q4, _⟩ := HTb.out k hk
      have q5 := mul_bd q1 q2
      have hki : (k : Int) < (n : Int) := by omega
      have hki2 : (k : Int) < (m : Int) := by omega
      have hkN : (k : Int) < (N : Int) := by omega
      have hkk : (k : Int) < (k : Int) + 1 := by omega
      have HTk := HTs.out k
      generalize hTT : T k = tk at t0 t1 t2 t3 q3 q4 HTk
      clear hTT
      obtain ⟨Y, hY⟩ : ∃ Y, s k * v k = Y := ⟨_, rfl⟩
      have e0 : IntKind.i64.wrap (s k) = s k := IntWalk.i64_in _ (by omega)
      have e1 : IntKind.i64.wrap (v k) = v k := IntWalk.i64_in _ (by omega)
      have e2 : IntKind.i64.wrap (1000 * s k) = 1000 * s k := IntWalk.i64_in _ (by omega)
      have e3 : IntKind.i64.wrap (tk.b + 1000 * s k) = tk.b + 1000 * s k := IntWalk.i64_in _ (by omega)
      have e4 : IntKind.i64.wrap (s k * v k) = Y := by rw [hY] at q5 ⊢; exact IntWalk.i64_in _ (by omega)
      have e5 : IntKind.i64.wrap (tk.c + Y) = tk.c + Y := by rw [hY] at q5; exact IntWalk.i64_in _ (by omega)
      have e6 : IntKind.i64.wrap ((k : Int) + 2) = (k : Int) + 2 := IntWalk.i64_in _ (by omega)
      have e7 : IntKind.i64.wrap ((k : Int) + 1) = (k : Int) + 1 := IntWalk.i64_in _ (by omega)
      rw [hY] at HTk
      have HRow : Hid (T (k + 1) = ⟨(k : Int) + 2, tk.b + 1000 * s k, tk.c + Y, 900⟩) := Lib.hid HTk
      have hgw := HO.out.lt g rfl
      have hSZ := HSZ.out
      have hbw : b < w.heap.size := by
        obtain ⟨x, y, e, hc⟩ := HS.out (by omega)
        cases e
        exact cell_lt (hc 0 (by omega))
      have hbw' : b' < w.heap.size := by
        obtain ⟨x, y, e, hc⟩ := HV.out (by omega)
        cases e
        exact cell_lt (hc 0 (by omega))
      have nb : some b ≠ some g := fun e => by injection e with e; omega
      have nb' : some b' ≠ some g := fun e => by injection e with e; omega
      clear hY q5 HTk hSZ
      go_upto_region 9 with fail
      have hB4 : Below wr.heap.size wr (wr.alloc (.cells #[.int .i64 tk.a, .int .i64 tk.b, .int .i64 tk.c, .int .i64 tk.d] 26)) := (Below.refl _ _).alloc (Nat.le_refl _) _
      have K4 : Tb (wr.alloc (.cells #[.int .i64 tk.a, .int .i64 tk.b, .int .i64 tk.c, .int .i64 tk.d] 26)) wr.heap.size 26 tk := new_heap _ _
      generalize wr.alloc (.cells #[.int .i64 tk.a, .int .i64 tk.b, .int .i64 tk.c, .int .i64 tk.d] 26) = W4 at hB4 K4 ⊢
      have HO4 := Lib.hid (row_keep HO.out hB4)
      have HB4 := Lib.hid (HB.out.trans (hB4.mono hss))
      have c1 := cell_h (k := 1) K4 rfl
      have c2 := cell_h (k := 2) K4 rfl
      replace d0 := (hB4.cell (p := ⟨b, o + k, none⟩) (cell_lt d0)).trans d0
      replace d0' := (hB4.cell (p := ⟨b', o' + k, none⟩) (cell_lt d0')).trans d0'
      have hgl := HO.out.lt g rfl
      have hK4 := hB4.size
      have hbl := cell_lt d0
      have hbl' := cell_lt d0'
      have hp4 := K4.lt
      obtain ⟨p, hp⟩ : ∃ p, wr.heap.size = p := ⟨_, rfl⟩
      rw [hp] at c1 c2 hgl hss hp4 ⊢
      have np : some p ≠ some g := fun e => by injection e with e; omega
      clear t0 t1 t2 t3 HO HB K4 hB4
      go_region_held3 (fun W' => W'.cell? ⟨p, 1, none⟩ = some (.int .i64 tk.b) ∧ W'.cell? ⟨p, 2, none⟩ = some (.int .i64 tk.c) ∧ W'.cell? ⟨b, o + k, none⟩ = some (.int .u8 (s k)) ∧ W'.cell? ⟨b', o' + k, none⟩ = some (.int .u8 (v k))) (go_keep)
        ((refine step_tg (by rfl) (.tmp 52) (.tmp 79) (by rfl) (B := W1.heap.size) (k := k + 1) (T := T) (S := (k : Int) + 2) (X := tk.b + 1000 * s k) (Y := tk.c + Y) (Z := 900) (by rfl) (by rfl) (by first | exact HO4.out | exact HO4.out.alloc _ | exact (HO4.out.alloc _).alloc _) (by first | exact World.alloc_heap_new _ _ | exact al_old (World.alloc_heap_new _ _) _ | exact al_1 _ _ _) HRow.out (by omega) (by first | omega | (simp; done) | (simp; omega)) ?_
          intro g6 cap6 w6 o6 gr6
          have HO6 := Lib.hid o6
          have f0 : w6.cell? ⟨p, 1, none⟩ = some (.int .i64 tk.b) := (grown_cell gr6 (p := ⟨p, 1, none⟩) (by simp; omega) np).trans (((Below.refl _ _).alloc (Nat.le_refl _) _).cell (p := ⟨p, 1, none⟩) hp4 |>.trans c1)
          have f1 : w6.cell? ⟨p, 2, none⟩ = some (.int .i64 tk.c) := (grown_cell gr6 (p := ⟨p, 2, none⟩) (by simp; omega) np).trans (((Below.refl _ _).alloc (Nat.le_refl _) _).cell (p := ⟨p, 2, none⟩) hp4 |>.trans c2)
          have f2 : w6.cell? ⟨b, o + k, none⟩ = some (.int .u8 (s k)) := (grown_cell gr6 (p := ⟨b, o + k, none⟩) (by simp; omega) nb).trans (((Below.refl _ _).alloc (Nat.le_refl _) _).cell (p := ⟨b, o + k, none⟩) hbl |>.trans d0)
          have f3 : w6.cell? ⟨b', o' + k, none⟩ = some (.int .u8 (v k)) := (grown_cell gr6 (p := ⟨b', o' + k, none⟩) (by simp; omega) nb').trans (((Below.refl _ _).alloc (Nat.le_refl _) _).cell (p := ⟨b', o' + k, none⟩) hbl' |>.trans d0')
          have HB6 : Hid (Below W1.heap.size W1 w6) := Below.grown (by first | exact HB4.out.drew.alloc HB4.out.size _ | exact HB4.out.alloc HB4.out.size _) gr6 (by first | omega | (simp; done) | (simp; omega)) (fun j hj => (HO4.out.lt j hj).1)
          clear o6 gr6))
      all_goals
        go_wp2_with fail
        exact ⟨⟨k + 1, by omega, by go_num, HO6, HB6⟩, by simp [intOf]; omega⟩
    · obtain rfl : k = N := by omega
      obtain ⟨Ws, hWs⟩ : ∃ Ws, wr = Ws := ⟨_, rfl⟩
      rw [hWs] at HO HB ⊢
      clear hWs
      have hss := HB.out.size
      have HR0 : Hid (Ws.ownsRow Ws.heap.size 26 4 (.slice none 0 0) 0 (trow T 0)) := World.ownsRow_nil _ _ _ _
      have HQ0 : Hid (Below Ws.heap.size Ws Ws) := Below.refl _ _
      go_wp2_with fail
      go_loopw [11, 84] (fun v11 v84 wr => ∃ j : Nat, j ≤ k + 1 ∧ v84 = .int .i64 j ∧ Hid (wr.ownsRow Ws.heap.size 26 4 v11 j (trow T j)) ∧ Hid (Below Ws.heap.size Ws wr)) (fun _ v84 _ => k + 1 - (intOf v84).toNat)
      case atStart => exact ⟨0, by omega, rfl, HR0, HQ0⟩
      case round =>
        obtain ⟨j, hj, rfl, HR, HQ⟩ := hrel
        clear HR0 HQ0
        by_cases hlt2 : j < k + 1
        · have hjk : (j : Int) < (k : Int) + 1 := by omega
          have hjk2 : (j : Int) ≤ (k : Int) + 1 := by omega
          have hq := HQ.out.size
          have HOq := Lib.hid (row_keep HO.out HQ.out)
          obtain ⟨t0, t1, t2, t3⟩ := trow_cells (j := j) HOq.out (by omega)
          have hok := HTo.out j (by omega)
          have HRow : Hid (trow T (j + 1) = trow T j ++ tgc (T j)) := rfl
          generalize T j = tk at t0 t1 t2 t3 hok HRow
          have hpk : tk.pk = (tk.tp, 0) := if_pos hok
          have hpl := tk.tp_len
          have HP : Hid (∀ W, Calls Tryd.prog 5 #[.agg #[.int .i64 tk.a, .int .i64 tk.b, .int .i64 tk.c, .int .i64 tk.d]] W fun e W' => e = .returned (.tuple #[.agg (u8a tk.tp), .int .i64 0]) ∧ Below W.heap.size W W') := Lib.hid (fun W => by have h := pack_of W tk; rw [hpk] at h; exact h)
          have HU : Hid (∀ W, Calls Tryd.prog 6 #[.agg (u8a tk.tp)] W fun e W' => e = .returned (.tuple #[.agg #[.int .i64 tk.a, .int .i64 tk.b, .int .i64 tk.c, .int .i64 tk.d], .int .i64 0]) ∧ Below W.heap.size W W') := Lib.hid (fun W => by have h := unpack_of W tk.tp hpl tk.tp_lt; rw [tk.up hok] at h; exact h)
          generalize tk.tp = X at HP HU hpl
          clear hpk hok
          go_upto_region 15 with fail
          have hB4 : Below wr.heap.size wr (wr.alloc (.cells #[.int .i64 tk.a, .int .i64 tk.b, .int .i64 tk.c, .int .i64 tk.d] 26)) := (Below.refl _ _).alloc (Nat.le_refl _) _
          have K4 : Tb (wr.alloc (.cells #[.int .i64 tk.a, .int .i64 tk.b, .int .i64 tk.c, .int .i64 tk.d] 26)) wr.heap.size 26 tk := new_heap _ _
          generalize wr.alloc (.cells #[.int .i64 tk.a, .int .i64 tk.b, .int .i64 tk.c, .int .i64 tk.d] 26) = V1 at hB4 K4 ⊢
          have HR1 := Lib.hid (row_keep HR.out hB4)
          have HQ1 := Lib.hid (HQ.out.trans (hB4.mono hq))
          obtain ⟨p, hp⟩ : ∃ p, wr.heap.size = p := ⟨_, rfl⟩
          rw [hp] at K4 ⊢
          have K1 := Lib.hid K4
          clear hB4 K4 hp HR HQ hq HOq t0 t1 t2 t3
          have s0 := cell_h (k := 0) K1.out rfl
          have s1 := cell_h (k := 1) K1.out rfl
          have s2 := cell_h (k := 2) K1.out rfl
          have s3 := cell_h (k := 3) K1.out rfl
          go_wp2_with fail
          refine (HP.out _).mono ?_
          rintro e V2 ⟨rfl, hB⟩
          have K2 := Lib.hid (K1.out.keep hB)
          have HR2 := Lib.hid (row_keep HR1.out hB)
          have HQ2 := Lib.hid (low_trans HQ1.out hB)
          clear hB HP K1 HR1 HQ1 s0 s1 s2 s3
          have kn : Ba (World.alloc V2 (.cells #[.int .u8 0, .int .u8 0, .int .u8 0, .int .u8 0, .int .u8 0, .int .u8 0, .int .u8 0, .int .u8 0, .int .u8 0, .int .u8 0, .int .u8 0, .int .u8 0, .int .u8 0, .int .u8 0, .int .u8 0, .int .u8 0, .int .u8 0, .int .u8 0, .int .u8 0, .int .u8 0, .int .u8 0, .int .u8 0, .int .u8 0, .int .u8 0] 28)) V2.heap.size z24 := new_heap _ _
          have KN := Lib.hid kn
          clear kn
          go_upto_region 16 with (refine Ba.wpStore (L := X) KN.out z24_len hpl rfl _ _ rfl rfl rfl ?_)
          clear KN
          rw [← zero24]
          have hB : Below V2.heap.size V2 ((World.alloc V2 (.cells (u8a z24) 28)).setRow V2.heap.size (u8a X)) := low_alr (Below.refl _ _) _ _
          have kn : Ba ((World.alloc V2 (.cells (u8a z24) 28)).setRow V2.heap.size (u8a X)) V2.heap.size X := Ba.newr _ _ _
          generalize ((World.alloc V2 (.cells (u8a z24) 28)).setRow V2.heap.size (u8a X)) = V3 at kn hB ⊢
          have K3 := Lib.hid (K2.out.keep hB)
          have HR3 := Lib.hid (row_keep HR2.out hB)
          have HQ3 := Lib.hid (low_trans HQ2.out hB)
          clear hB K2 HR2 HQ2
          generalize V2.heap.size = b9 at kn ⊢
          have N3 := Lib.hid kn
          clear kn
          go_wp2_with (refine Ba.wpLoad N3.out hpl rfl _ rfl rfl ?_)
          refine (HU.out _).mono ?_
          rintro e V4 ⟨rfl, hB⟩
          have K4 := Lib.hid (K3.out.keep hB)
          have HR4 := Lib.hid (row_keep HR3.out hB)
          have HQ4 := Lib.hid (low_trans HQ3.out hB)
          clear hB HU K3 HR3 HQ3 N3 hpl
          go_upto_region 17 with fail
          have hB : Below V4.heap.size V4 (World.alloc V4 (.cells #[.int .i64 tk.a, .int .i64 tk.b, .int .i64 tk.c, .int .i64 tk.d] 26)) := (Below.refl _ _).alloc (Nat.le_refl _) _
          have kn : Tb (World.alloc V4 (.cells #[.int .i64 tk.a, .int .i64 tk.b, .int .i64 tk.c, .int .i64 tk.d] 26)) V4.heap.size 26 tk := new_heap _ _
          generalize World.alloc V4 (.cells #[.int .i64 tk.a, .int .i64 tk.b, .int .i64 tk.c, .int .i64 tk.d] 26) = V5 at kn hB ⊢
          have K5 := Lib.hid (K4.out.keep hB)
          have HR5 := Lib.hid (row_keep HR4.out hB)
          have HQ5 := Lib.hid (low_trans HQ4.out hB)
          clear hB K4 HR4 HQ4
          generalize V4.heap.size = b11 at kn ⊢
          have N5 := Lib.hid kn
          clear kn
          have s0 := cell_h (k := 0) K5.out rfl
          have s1 := cell_h (k := 1) K5.out rfl
          have s2 := cell_h (k := 2) K5.out rfl
          have s3 := cell_h (k := 3) K5.out rfl
          have r0 := cell_h (k := 0) N5.out rfl
          have r1 := cell_h (k := 1) N5.out rfl
          have r2 := cell_h (k := 2) N5.out rfl
          have r3 := cell_h (k := 3) N5.out rfl
          have hs5 := HQ5.out.size
          have heq := eq_tg V5 tk
          obtain ⟨i0, hi0, hz0, hz1, hz2⟩ := info_parts x_tg
          have HI0 : Hid (Tryd.prog.info? 26 = some i0 ∧ i0.zero = some (.agg #[.int .i64 0, .int .i64 0, .int .i64 0, .int .i64 0]) ∧ i0.size = 4 ∧ i0.bytes = 32) := ⟨hi0, hz0, hz1, hz2⟩
          clear hi0 hz0 hz1 hz2
          go_wp2_with (at_builtin; refine wpList_append_own _ rfl _ _ 27 rfl Ws.heap.size 26 i0 (.agg #[.int .i64 0, .int .i64 0, .int .i64 0, .int .i64 0]) 4 32 Tryd.underlying27 HI0.out.1 HI0.out.2.1 HI0.out.2.2.1 HI0.out.2.2.2 rfl (by decide) _ j _ rfl (HR5.out.alloc _) ⟨V5.heap.size, 0, none⟩ 1 1 (tgc tk) rfl rfl (World.news_of_block (World.alloc_heap_new _ _)) (by simp [Value.oneCell', tgc]) (by unfold maxLen; omega) (by omega) (by simp; omega) ?_; intro v6 W6 hown6 hgrow6 _; have HO6 : Hid (W6.ownsRow Ws.heap.size 26 4 v6 (j + 1) (trow T (j + 1))) := (by rw [HRow.out]; exact hown6); have HB6 : Hid (Below Ws.heap.size Ws W6) := (HQ5.out.alloc hs5 _).grown hgrow6 (by simp; omega) (fun j hj => (HR5.out.lt j hj).1); clear hown6 hgrow6 HR5 HQ5)
          exact ⟨⟨j + 1, by omega, by go_num, HO6, HB6⟩, by simp [intOf]; omega⟩
        · obtain rfl : j = k + 1 := by omega
          obtain ⟨gr, capr, rfl⟩ := ownsRow_succ HR.out
          have hBt := HB.out.trans (HQ.out.mono hss)
          obtain ⟨Wt, hWt⟩ : ∃ Wt, wr = Wt := ⟨_, rfl⟩
          rw [hWt] at HR hBt ⊢
          have HBt := Lib.hid hBt
          have hst := hBt.size
          clear hWt hBt HO HB HQ
          have ek : IntKind.i64.wrap ((k : Int) + 1) = (k : Int) + 1 := IntWalk.i64_in _ (by omega)
          go_wp2_with fail
          refine (forward_row Wt k (by omega)).mono ?_
          rintro e W3 ⟨g3, cap3, rfl, hO3, hB3⟩
          have hmono : ∀ i, i < k → (T i).c ≤ (T (i + 1)).c := fun i hi => by
            have e := HTs.out i
            rw [e]
            have := Int.mul_nonneg (HSb.out i hi).1 (HVb.out i hi).1
            show (T i).c ≤ (T i).c + s i * v i
            omega
          have HK3 : Hid (Tz Wt W3 (k + 1) (fun q => (T q).c) 0 (.slice (some ⟨g3, 0, none⟩) k cap3)) := ⟨⟨_, _, k, fwF, rfl, by omega, fw_true hmono (Nat.le_refl _), fun j hj => by
            obtain rfl : j = 0 := by omega
            exact Wy.zero _ _, hO3⟩, hB3⟩
          have HRW := Lib.hid (fun W (h : Below Wt.heap.size Wt W) => row_keep HR.out h)
          have hgr := HR.out.lt gr rfl
          clear hO3 hB3 hmono HR
          go_wp2_with fail
          go_loopw [18, 123] (fun v18 v123 wr => ∃ i : Nat, i ≤ k ∧ v123 = .int .i64 i ∧ Hid (Tz Wt wr (k + 1) (fun q => (T q).c) i v18)) (fun _ v123 _ => k - (intOf v123).toNat)
          case atStart => exact ⟨0, by omega, rfl, HK3⟩
          case round =>
            obtain ⟨i, hi, rfl, HK⟩ := hrel
            clear HK3
            obtain ⟨gb, capb, cnt, F, rfl, hcnt, hTr, hWy, hOb⟩ := HK.out.bds
            have HB := Lib.hid HK.out.below
            have HOb := Lib.hid hOb
            have HTr := Lib.hid hTr
            have HWy := Lib.hid hWy
            clear hOb hTr hWy HK
            by_cases hlt3 : i < k
            · have hR := HRW.out wr HB.out
              obtain ⟨_, t1, t2, _⟩ := trow_cells (j := i) hR (by omega)
              obtain ⟨_, j1, j2, _⟩ := trow_cells (j := i + 1) hR (by omega)
              obtain ⟨b', o', rfl, d0⟩ := HV.out.cell (HB1.out.trans ((HBt.out.trans (HB.out.mono hst)).mono (by rw [HSZ.out]; omega))) (show i < m by omega)
              obtain ⟨x0c, x1c⟩ := HX.out wr (HBt.out.trans (HB.out.mono hst))
              have q1 := HSb.out i hlt3
              have q2 := HVb.out i hlt3
              obtain ⟨_, q3, q4, _⟩ := HTb.out i (by omega)
              have HTi := HTs.out i
              have q5 := mul_bd q1 q2
              obtain ⟨L, H, hpas, hL1, hL2, hL3, hL4⟩ := pas_true (p := (T i).c) (show 0 ≤ (T i).c ∧ (T i).c ≤ 600000 by omega) q1 q2 h0 h1
              obtain ⟨y1, hy1⟩ : ∃ y, (T (i + 1)).b = y := ⟨_, rfl⟩
              obtain ⟨y2, hy2⟩ : ∃ y, (T (i + 1)).c = y := ⟨_, rfl⟩
              obtain ⟨z1, hz1⟩ : ∃ y, (T i).b = y := ⟨_, rfl⟩
              obtain ⟨z2, hz2⟩ : ∃ y, (T i).c = y := ⟨_, rfl⟩
              obtain ⟨D, hD⟩ : ∃ D, 1000 * s i = D := ⟨_, rfl⟩
              obtain ⟨Y, hY⟩ : ∃ Y, s i * v i = Y := ⟨_, rfl⟩
              obtain ⟨vi, hvi⟩ : ∃ y, v i = y := ⟨_, rfl⟩
              have hy1e : y1 = z1 + D := by rw [← hy1, HTi, ← hz1, ← hD]
              have hy2e : y2 = z2 + Y := by rw [← hy2, HTi, ← hz2, ← hY]
              rw [hy1] at j1
              rw [hy2] at j2
              rw [hz1] at t1 q3
              rw [hz2] at t2 q4 hpas hL1 hL2
              rw [hY] at hL1 hL2 q5
              rw [hvi] at d0 q2 hpas
              rw [hD] at hpas
              clear HTi hY
              have hki : (i : Int) < (k : Int) := by omega
              have hki1 : (i : Int) + 1 < (k : Int) + 1 := by omega
              have hki2 : (i : Int) < (k : Int) + 1 := by omega
              have hki3 : (i : Int) < (m : Int) := by omega
              have f0 : IntKind.i64.wrap ((i : Int) + 1) = (i : Int) + 1 := IntWalk.i64_in _ (by omega)
              have f1 : IntKind.i64.wrap (y1 - z1) = D := by rw [hy1e, show z1 + D - z1 = D by omega]; exact IntWalk.i64_in _ (by omega)
              have f2 : IntKind.i64.wrap vi = vi := IntWalk.i64_in _ (by omega)
              have HTrN : Hid (TrueB (k + 1) (fun q => (T q).c) (cnt + 2) (cat F cnt (btF (i : Int) ((i + 1 : Nat) : Int) (L - z2) (H - z2)))) := HTr.out.cat (bt_true (by omega) (by omega) (by show _ ∧ _ ≤ (T (i + 1)).c - (T i).c; rw [hy2, hz2]; omega) (by show (T (i + 1)).c - (T i).c ≤ _ ∧ _; rw [hy2, hz2]; omega))
              have HWyN : Hid (∀ j, j ≤ i + 1 → Wy (cat F cnt (btF (i : Int) ((i + 1 : Nat) : Int) (L - z2) (H - z2))) (cnt + 2) j) := fun j hj => by
                by_cases e : j = i + 1
                · subst e; exact (HWy.out i (Nat.le_refl _)).next
                · exact (HWy.out j (by omega)).more
              clear hy1 hz1 hy1e hvi q3 HTr HWy
              go_upto_region 27 with fail
              go_quiet (fail)
              have HBd := Lib.hid (below_drewN HB.out nq)
              have HOd : Hid ((wr.drewN nq).ownsRow Wt.heap.size 62 3 (.slice (some ⟨gb, 0, none⟩) cnt capb) cnt (brow F cnt)) := HOb.out
              have cz : (wr.drewN nq).cell? ⟨gr, i * 4 + 2, none⟩ = some (.int .i64 z2) := t2
              have cy : (wr.drewN nq).cell? ⟨gr, (i + 1) * 4 + 2, none⟩ = some (.int .i64 y2) := j2
              have cx0 : (wr.drewN nq).cell? ⟨w.heap.size, 0, none⟩ = some (.int .u8 x0) := x0c
              have cx1 : (wr.drewN nq).cell? ⟨w.heap.size, 1, none⟩ = some (.int .u8 x1) := x1c
              generalize wr.drewN nq = Wd at HBd HOd cz cy cx0 cx1 ⊢
              have CY := Lib.hid cy
              clear HB HOb hR t1 t2 j1 j2 d0 x0c x1c cy f1 f2
              have g0 : IntKind.i64.wrap x0 = x0 := IntWalk.i64_in _ (by omega)
              have g1 : IntKind.i64.wrap x1 = x1 := IntWalk.i64_in _ (by omega)
              have g2 : IntKind.i64.wrap (D - x0) = D - x0 := IntWalk.i64_in _ (by omega)
              have g3 : IntKind.i64.wrap (D + x0) = D + x0 := IntWalk.i64_in _ (by omega)
              have g4 : IntKind.i64.wrap (vi - x1) = vi - x1 := IntWalk.i64_in _ (by omega)
              have g5 : IntKind.i64.wrap (vi + x1) = vi + x1 := IntWalk.i64_in _ (by omega)
              have HPa : Hid (∀ W, Calls Tryd.prog 8 #[.int .i64 z2, .agg #[.int .i64 (D - x0), .int .i64 (D + x0)], .agg #[.int .i64 (max (vi - x1) 0), .int .i64 (vi + x1)]] W fun e W' => e = .returned (.tuple #[.agg #[.int .i64 L, .int .i64 H], .int .i64 0]) ∧ Below W.heap.size W W') := Lib.hid (fun W => by have h := passed_of W z2 (D - x0) (D + x0) (max (vi - x1) 0) (vi + x1); rw [hpas] at h; exact h)
              clear hpas
              have NG := Lib.hid (show gr ≠ Wd.heap.size from Nat.ne_of_lt (World.block_lt_of_cell? _ _ cz))
              have NW := Lib.hid (show w.heap.size ≠ Wd.heap.size from Nat.ne_of_lt (World.block_lt_of_cell? _ _ cx0))
              go_upto_region 28 with fail
              go_region_held3 (fun W' => W'.cell? ⟨gr, i * 4 + 2, none⟩ = some (.int .i64 z2) ∧ W'.cell? ⟨w.heap.size, 0, none⟩ = some (.int .u8 x0) ∧ W'.cell? ⟨w.heap.size, 1, none⟩ = some (.int .u8 x1)) (first | go_keep | exact ⟨cell_two NG.out u0, cell_two NW.out u1, cell_two NW.out u2⟩ | exact cell_two NG.out u0 | exact cell_two NW.out u1 | exact cell_two NW.out u2)
                (first | (go_at_call 8; refine (HPa.out _).mono ?_; rintro e W5 ⟨rfl, hB5⟩; have u0 : W5.cell? ⟨gr, i * 4 + 2, none⟩ = some (.int .i64 z2) := (hB5.cell (p := ⟨gr, i * 4 + 2, none⟩) (World.block_lt_of_cell? _ _ cz)).trans cz; have u1 : W5.cell? ⟨w.heap.size, 0, none⟩ = some (.int .u8 x0) := (hB5.cell (p := ⟨w.heap.size, 0, none⟩) (World.block_lt_of_cell? _ _ cx0)).trans cx0; have u2 : W5.cell? ⟨w.heap.size, 1, none⟩ = some (.int .u8 x1) := (hB5.cell (p := ⟨w.heap.size, 1, none⟩) (World.block_lt_of_cell? _ _ cx1)).trans cx1; have HB5 : Hid (Below Wt.heap.size Wt W5) := HBd.out.drew.trans (hB5.mono HBd.out.size); have HO5 := Lib.hid (row_keep HOd.out.drew hB5); have HC5 := Lib.hid ((hB5.cell (World.block_lt_of_cell? _ _ CY.out)).trans CY.out)) | (go_at_call 8; refine (HPa.out _).mono ?_; rintro e W5 ⟨rfl, hB5⟩; have hal : Below Wd.drew.heap.size Wd.drew (Wd.drew.alloc (.cells #[.int .i64 0, .int .i64 0] 38)) := (Below.refl Wd.drew.heap.size Wd.drew).alloc (Nat.le_refl _) _; have hB6 := hal.trans (hB5.mono hal.size); have u0 : W5.cell? ⟨gr, i * 4 + 2, none⟩ = some (.int .i64 z2) := (hB6.cell (p := ⟨gr, i * 4 + 2, none⟩) (World.block_lt_of_cell? _ _ cz)).trans cz; have u1 : W5.cell? ⟨w.heap.size, 0, none⟩ = some (.int .u8 x0) := (hB6.cell (p := ⟨w.heap.size, 0, none⟩) (World.block_lt_of_cell? _ _ cx0)).trans cx0; have u2 : W5.cell? ⟨w.heap.size, 1, none⟩ = some (.int .u8 x1) := (hB6.cell (p := ⟨w.heap.size, 1, none⟩) (World.block_lt_of_cell? _ _ cx1)).trans cx1; have z5 : W5.heap[Wd.heap.size]? = some (.cells #[.int .i64 0, .int .i64 0] 38 (0, 0)) := (hB5.block _ (by simp)).trans (World.alloc_heap_new _ _); have z0 : W5.cell? ⟨Wd.heap.size, 0, none⟩ = some (.int .i64 0) := cell_h z5 rfl; have z1 : W5.cell? ⟨Wd.heap.size, 1, none⟩ = some (.int .i64 0) := cell_h z5 rfl; have y0 : W5.frozen? ⟨Wd.heap.size, 0, none⟩ = false := (by simp [World.frozen?, z5]); have y1 : W5.frozen? ⟨Wd.heap.size, 1, none⟩ = false := (by simp [World.frozen?, z5]); have HB5 : Hid (Below Wt.heap.size Wt W5) := HBd.out.drew.trans (hB6.mono HBd.out.size); have HO5 := Lib.hid (row_keep HOd.out.drew hB6); have HC5 := Lib.hid ((hB6.cell (World.block_lt_of_cell? _ _ CY.out)).trans CY.out)))
              all_goals first
                | (with_reducible change Exit.then _ _ _ _ (W5.alloc (.cells #[.int .i64 L, .int .i64 H] 38))
                   have hal : Below W5.heap.size W5 (W5.alloc (.cells #[.int .i64 L, .int .i64 H] 38)) := (Below.refl _ _).alloc (Nat.le_refl _) _
                   have hnew := World.alloc_heap_new W5 (.cells #[.int .i64 L, .int .i64 H] 38)
                   generalize W5.alloc (.cells #[.int .i64 L, .int .i64 H] 38) = Wx at hal hnew ⊢
                   have HB6 := Lib.hid (HB5.out.trans (hal.mono HB5.out.size))
                   have HO6 := Lib.hid (row_keep HO5.out hal)
                   have HC6 := Lib.hid ((hal.cell (World.block_lt_of_cell? _ _ HC5.out)).trans HC5.out)
                   have CZ6 := Lib.hid ((hal.cell (World.block_lt_of_cell? _ _ u0)).trans u0)
                   have l0 : Wx.cell? ⟨W5.heap.size, 0, none⟩ = some (.int .i64 L) := cell_h hnew rfl
                   have l1 : Wx.cell? ⟨W5.heap.size, 1, none⟩ = some (.int .i64 H) := cell_h hnew rfl
                   generalize W5.heap.size = q at l0 l1 ⊢
                   clear hal hnew HB5 HO5 HC5 u0 u1 u2)
                | (have hq5 : Wt.heap.size ≤ Wd.heap.size := HBd.out.size
                   have hgq : gb ≠ Wd.heap.size := Nat.ne_of_lt (own_lt HOd.out)
                   have hyq : gr ≠ Wd.heap.size := NG.out
                   have HB6 := Lib.hid (low_two HB5.out hq5 (.int .i64 L) (.int .i64 H))
                   have HO6 := Lib.hid (row_two (x := .int .i64 L) (y := .int .i64 H) HO5.out hgq)
                   have HC6 := Lib.hid (cell_two (x := .int .i64 L) (y := .int .i64 H) hyq HC5.out)
                   have CZ6 := Lib.hid (cell_two (x := .int .i64 L) (y := .int .i64 H) hyq u0)
                   have l0 := cell_two0 (x := .int .i64 L) (y := .int .i64 H) z0
                   have l1 := cell_two1 (x := .int .i64 L) (y := .int .i64 H) z1
                   change Exit.then _ _ _ _ ((W5.setCell ⟨Wd.heap.size, 0, none⟩ (.int .i64 L)).setCell ⟨Wd.heap.size, 1, none⟩ (.int .i64 H))
                   obtain ⟨Wx, hWx⟩ : ∃ Wx, (W5.setCell ⟨Wd.heap.size, 0, none⟩ (.int .i64 L)).setCell ⟨Wd.heap.size, 1, none⟩ (.int .i64 H) = Wx := ⟨_, rfl⟩
                   rw [hWx] at HB6 HO6 HC6 CZ6 l0 l1 ⊢
                   clear hq5 hgq hyq hWx
                   obtain ⟨q, hq⟩ : ∃ q, Wd.heap.size = q := ⟨_, rfl⟩
                   rw [hq] at l0 l1 ⊢
                   clear hq
                   clear HB5 HO5 HC5 u0 u1 u2 z0 z1 z5 y0 y1)
              all_goals
                have cz6 := CZ6.out
                clear HBd HOd CY CZ6 HPa NG NW
                have m0 : IntKind.i64.wrap (L - z2) = L - z2 := IntWalk.i64_in _ (by omega)
                have m1 : IntKind.i64.wrap (H - z2) = H - z2 := IntWalk.i64_in _ (by omega)
                have HBt : Hid (∀ W, Calls Tryd.prog 9 #[.int .i64 (i : Int), .int .i64 ((i : Int) + 1), .agg #[.int .i64 (L - z2), .int .i64 (H - z2)]] W fun e W' => ∃ x o c, e = .returned (.tuple #[.slice (some ⟨x, o, none⟩) 2 c, .int .i64 0]) ∧ (∀ (j : Nat) (u : Value), (brow (btF (i : Int) ((i + 1 : Nat) : Int) (L - z2) (H - z2)) 2)[j]? = some u → W'.cell? ((⟨x, o, none⟩ : Addr).add j) = some u) ∧ Below W.heap.size W W') := fun W => between_ok W i (i + 1) _ _ (by omega) (by omega) (by omega)
                have HGs : Hid (brow F cnt ++ brow (btF (i : Int) ((i + 1 : Nat) : Int) (L - z2) (H - z2)) 2 = brow (cat F cnt (btF (i : Int) ((i + 1 : Nat) : Int) (L - z2) (H - z2))) (cnt + 2)) := (brow_cat _ _ _ _).symm
                have b1 : y2 ≤ H := by omega
                have b2 : L ≤ y2 := by omega
                clear hy2e hy2 hz2
                generalize cat F cnt (btF (i : Int) ((i + 1 : Nat) : Int) (L - z2) (H - z2)) = F9 at HTrN HWyN HGs
                generalize btF (i : Int) ((i + 1 : Nat) : Int) (L - z2) (H - z2) = G9 at HBt HGs
                have t1 : decide (y2 < L) = false := decide_eq_false (by omega)
                have t2 : decide (H < y2) = false := decide_eq_false (by omega)
                obtain ⟨ib, hib, hbz0, hbz1, hbz2⟩ := info_parts x_bd3
                have HIB : Hid (Tryd.prog.info? 62 = some ib ∧ ib.zero = some (.agg #[.int .i64 0, .int .i64 0, .int .i64 0]) ∧ ib.size = 3 ∧ ib.bytes = 24) := ⟨hib, hbz0, hbz1, hbz2⟩
                clear hib hbz0 hbz1 hbz2
                go_upto_region 29 with fail
                go_region_held3 (fun W' => W'.cell? ⟨gr, i * 4 + 2, none⟩ = some (.int .i64 z2) ∧ W'.cell? ⟨q, 0, none⟩ = some (.int .i64 L) ∧ W'.cell? ⟨q, 1, none⟩ = some (.int .i64 H)) (first | (with_reducible assumption) | go_keep)
                  ((go_at_call 9; refine (HBt.out _).mono ?_; rintro e W9 ⟨x9, o9, c9, rfl, hcl9, hB9⟩; have v0 : W9.cell? ⟨gr, i * 4 + 2, none⟩ = some (.int .i64 z2) := (hB9.cell (p := ⟨gr, i * 4 + 2, none⟩) (World.block_lt_of_cell? _ _ cz6)).trans cz6; have v1 : W9.cell? ⟨q, 0, none⟩ = some (.int .i64 L) := (hB9.cell (p := ⟨q, 0, none⟩) (World.block_lt_of_cell? _ _ l0)).trans l0; have v2 : W9.cell? ⟨q, 1, none⟩ = some (.int .i64 H) := (hB9.cell (p := ⟨q, 1, none⟩) (World.block_lt_of_cell? _ _ l1)).trans l1))
                have HO9 := Lib.hid (row_keep HO6.out.drew hB9)
                have HB9 := Lib.hid (HB6.out.drew.trans (hB9.mono HB6.out.drew.size))
                have cy9 : W9.cell? ⟨gr, (i + 1) * 4 + 2, none⟩ = some (.int .i64 y2) := (hB9.cell (p := ⟨gr, (i + 1) * 4 + 2, none⟩) (World.block_lt_of_cell? _ _ HC6.out)).trans HC6.out
                have HCl9 := Lib.hid hcl9
                clear hcl9 hB9 HO6 HB6 HC6 cz6 l0 l1 HBt v0
                go_upto_region 30 with fail
                go_quiet (fail)
                have HBn := Lib.hid (below_drewN HB9.out nq)
                have HOn : Hid ((W9.drewN nq).ownsRow Wt.heap.size 62 3 (.slice (some ⟨gb, 0, none⟩) cnt capb) cnt (brow F cnt)) := HO9.out
                have HCn : Hid (∀ (j : Nat) (u : Value), (brow G9 2)[j]? = some u → (W9.drewN nq).cell? ((⟨x9, o9, none⟩ : Addr).add j) = some u) := HCl9.out
                generalize W9.drewN nq = Wn at HBn HOn HCn ⊢
                have hsn := HBn.out.size
                clear HB9 HO9 HCl9 cy9 v1 v2 t1 t2
                go_wp2_with (at_builtin; refine wpList_append_own _ rfl _ _ 34 rfl Wt.heap.size 62 ib (.agg #[.int .i64 0, .int .i64 0, .int .i64 0]) 3 24 Tryd.underlying34 HIB.out.1 HIB.out.2.1 HIB.out.2.2.1 HIB.out.2.2.2 rfl (by decide) _ cnt _ rfl HOn.out ⟨x9, o9, none⟩ 2 c9 (brow G9 2) rfl (brow_length _ _) HCn.out (brow_ints _ _) (by unfold maxLen; omega) (by omega) hsn ?_; intro v10 W10 hown10 hgrow10 _; have HO10 : Hid (W10.ownsRow Wt.heap.size 62 3 v10 (cnt + 2) (brow F9 (cnt + 2))) := (by rw [← HGs.out]; exact hown10); have HB10 : Hid (Below Wt.heap.size Wt W10) := HBn.out.grown hgrow10 hsn (fun j hj => (HOn.out.lt j hj).1); obtain ⟨g10, cap10, rfl⟩ := ownsRow_succ hown10; clear hown10 hgrow10)
                exact ⟨⟨i + 1, by omega, by go_num, ⟨⟨g10, cap10, cnt + 2, F9, rfl, by omega, HTrN.out, HWyN.out, HO10.out⟩, HB10.out⟩⟩, by simp [intOf]; omega⟩
            · obtain rfl : i = k := by omega
              have HL : Hid (Sl wr 3 (some ⟨gb, 0, none⟩) cnt F) := by
                obtain ⟨x, c', e1, h⟩ := brow_own HOb.out
                cases e1
                exact h
              have hN64 : 1 ≤ i + 1 ∧ i + 1 ≤ 64 := by omega
              have hcn : cnt ≤ 256 := by omega
              have HBk := Lib.hid (HTr.out.bok hN64 hcn)
              have HNc := Lib.hid (true_noclash HTr.out hN64 hcn)
              have HT00 : Hid ((fun q => (T q).c) 0 = 0) := Lib.hid (by show (T 0).c = 0; rw [HT0.out])
              have hwt := HB.out.size
              clear HOb HX HSb HVb HS HV HTs
              go_wp2_with fail
              refine (limits_ok wr F (i + 1) cnt capb (some ⟨gb, 0, none⟩) HBk.out HL.out HNc.out).mono ?_
              rintro e V3 ⟨B, rfl, hb, hLm, hb3⟩
              have HV3 := Lib.hid (HB.out.trans (hb3.mono hwt))
              have HLm := Lib.hid hLm
              have hBV : B < V3.heap.size := hLm.lt
              have hv3 := HV3.out.size
              have HW3 : Hid (Below V3.heap.size V3 V3) := Below.refl _ _
              clear hb3 HL HB hLm hb
              go_wp2_with fail
              go_loopw [249] (fun v249 vr => ∃ j : Nat, j ≤ i + 1 ∧ v249 = .int .i64 j ∧ Hid (Below V3.heap.size V3 vr)) (fun v249 _ => i + 1 - (intOf v249).toNat)
              case atStart => exact ⟨0, by omega, rfl, HW3⟩
              case round =>
                obtain ⟨j, hj, rfl, HR⟩ := hrel
                by_cases hlt4 : j < i + 1
                · have hjE : j < i + 1 := hlt4
                  have hjn : (j : Int) < (i : Int) + 1 := by omega
                  have hjn2 : (j : Int) ≤ (i : Int) + 1 := by omega
                  have hBK := HLm.out.keep HR.out hBV
                  have e0 := hBK.cell (k := j * 4) (by omega)
                  have e1 := hBK.cell (k := j * 4 + 1) (by omega)
                  have e2 := hBK.cell (k := j * 4 + 2) (by omega)
                  have e3 := hBK.cell (k := j * 4 + 3) (by omega)
                  rw [lmV_0] at e0
                  rw [lmV_1] at e1
                  rw [lmV_2] at e2
                  rw [lmV_3] at e3
                  have hu := (ptU_min HBk.out HTr.out.keeps.noNeg j).2 (HWy.out j (by omega)).1
                  have hd := (ptD_min HBk.out HTr.out.keeps.noNeg j).2 (HWy.out j (by omega)).2
                  have hin := holds_lim HTr.out HTr.out hN64 (Nat.le_refl _) hcn (fun _ _ => rfl) HT00.out j
                  have hl1 := (hin.1 hd).1
                  have hl2 := (hin.2 hu).1
                  rw [hu] at e3
                  rw [hd] at e2
                  have hlow := HV3.out.trans (HR.out.mono hv3)
                  obtain ⟨_, _, d0, _⟩ := trow_cells (j := j) (HRW.out wr hlow) (by omega)
                  obtain ⟨_, _, hpb, _⟩ := HTb.out j (by omega)
                  have hde := ptD_le HBk.out j
                  generalize (ptU F cnt (i + 1)).mo j = H1 at e1 hl2
                  generalize (ptD F cnt (i + 1)).mo j = M1 at e0 hl1 hde
                  replace hl1 : -M1 ≤ (T j).c := hl1
                  replace hl2 : (T j).c ≤ H1 := hl2
                  generalize hP : (T j).c = P at d0 hl1 hl2 hpb
                  have t1 : decide (P < -M1) = false := decide_eq_false (by omega)
                  have t2 : decide (H1 < P) = false := decide_eq_false (by omega)
                  clear hu hd hin hBK hl1 hl2 hpb hde hlow
                  have hB4 : Below wr.heap.size wr (wr.alloc (.cells #[.int .i64 (-M1), .int .i64 H1, .bool true, .bool true] 46)) := (Below.refl _ _).alloc (Nat.le_refl _) _
                  have a4 := World.alloc_heap_new wr (.cells #[.int .i64 (-M1), .int .i64 H1, .bool true, .bool true] 46)
                  have d4 := (hB4.cell (p := ⟨gr, j * 4 + 2, none⟩) (World.block_lt_of_cell? _ _ d0)).trans d0
                  have hj0 : (0 : Int) ≤ (j : Int) := by omega
                  have HLast : Hid (∀ wz, Hid (Below V3.heap.size V3 wz) → (∃ j' : Nat, j' ≤ i + 1 ∧ (.int .i64 ((j : Int) + 1) : Value) = .int .i64 j' ∧ Hid (Below V3.heap.size V3 wz))) := fun wz hz => ⟨j + 1, by omega, by go_num, hz⟩
                  go_wp2_with fail
                  generalize wr.alloc (.cells #[.int .i64 (-M1), .int .i64 H1, .bool true, .bool true] 46) = W4 at hB4 a4 d4 ⊢
                  have c0 : W4.cell? ⟨wr.heap.size, 0, none⟩ = some (.int .i64 (-M1)) := cell_h a4 rfl
                  have c1 : W4.cell? ⟨wr.heap.size, 1, none⟩ = some (.int .i64 H1) := cell_h a4 rfl
                  have c2 : W4.cell? ⟨wr.heap.size, 2, none⟩ = some (.bool true) := cell_h a4 rfl
                  have c3 : W4.cell? ⟨wr.heap.size, 3, none⟩ = some (.bool true) := cell_h a4 rfl
                  have HB4 := Lib.hid (HR.out.trans (hB4.mono HR.out.size))
                  clear hB4 a4 d0 e0 e1 e2 e3
                  go_quiet (fail)
                  have HB5 : Hid (Below V3.heap.size V3 (W4.drewN nq)) := ⟨HB4.out.os, HB4.out.tape, HB4.out.output, HB4.out.size, HB4.out.block⟩
                  clear c0 c1 c2 c3 d4 HB4 t1 t2
                  generalize W4.drewN nq = W5 at HB5 ⊢
                  go_wp2_with fail
                  exact ⟨HLast.out _ HB5, by first | (simp [intOf]; omega) | simp [intOf]⟩
                · obtain rfl : j = i + 1 := by omega
                  have hv := HBt.out.trans ((HV3.out.trans (HR.out.mono hv3)).mono hst)
                  have hw := HB1.out.trans (hv.mono (by rw [HSZ.out]; omega))
                  have HWz := Lib.hid hw
                  clear hv hw
                  go_wp2_with fail
                  refine (HA.out _ HWz.out).mono ?_
                  rintro e V6 ⟨rfl, hB6⟩
                  have HB6 := Lib.hid (HWz.out.trans (hB6.mono HWz.out.size))
                  clear hB6
                  go_wp2_with fail
                  go_ret
                  exact ⟨rfl, HB6.out⟩
end Go.Proofs.YtmdniebedflpbaaDoor
