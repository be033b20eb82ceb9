/-
  WALKS: the law of ServiceDoors.
-/
import Derived.Test.YtmdniebedflpbaaGreatDoorVsL
import Derived.Test.YtmdniebedflpbaaGreatDoorVuL
namespace Go.Proofs.YtmdniebedflpbaaGreatDoor
open Go.RowKit

/-- A list of ints at addresses above B. -/
def SlO (W : World) (B : Nat) (x : Option Addr) (n : Nat) (f : Nat → Int) : Prop := 0 < n → ∃ b o, x = some ⟨b, o, none⟩ ∧ B ≤ b ∧ ∀ i, i < n → W.cell? ⟨b, o + i, none⟩ = some (.int .i64 (f i))
theorem SlO.keep {W W' : World} {B n : Nat} {x : Option Addr} {f : Nat → Int} (h : SlO W B x n f) (hb : Below W.heap.size W W') : SlO W' B x n f := by
  intro hn
  obtain ⟨b, o, e, hg, hc⟩ := h hn
  exact ⟨b, o, e, hg, fun i hi => (hb.cell (World.block_lt_of_cell? _ _ (hc i hi))).trans (hc i hi)⟩
theorem SlO.set {W : World} {B n : Nat} {x : Option Addr} {f : Nat → Int} (h : SlO W B x n f) {b : Nat} (hb : b < B) (k : Nat) (v : Value) : SlO (W.setCell ⟨b, k, none⟩ v) B x n f := by
  intro hn
  obtain ⟨g, o, e, hg, hc⟩ := h hn
  exact ⟨g, o, e, hg, fun i hi => by rw [World.cell?_setCell_other _ _ _ _ (by intro e; have := congrArg Addr.block e; simp at this; omega)]; exact hc i hi⟩
theorem SlO.set8 {W : World} {B n b : Nat} {x : Option Addr} {f : Nat → Int} {v0 v1 v2 v3 v4 v5 v6 v7 : Value} (hb : b < B) (h : Hid (SlO W B x n f)) : Hid (SlO ((((((((W.setCell ⟨b, 0, none⟩ v0).setCell ⟨b, 1, none⟩ v1).setCell ⟨b, 2, none⟩ v2).setCell ⟨b, 3, none⟩ v3).setCell ⟨b, 4, none⟩ v4).setCell ⟨b, 5, none⟩ v5).setCell ⟨b, 6, none⟩ v6).setCell ⟨b, 7, none⟩ v7) B x n f) :=
  Lib.hid ((((((((h.out.set hb _ _).set hb _ _).set hb _ _).set hb _ _).set hb _ _).set hb _ _).set hb _ _).set hb _ _)
/-- A row of one's own of ints is such a list. -/
theorem own_irw {W : World} {B : Nat} {e : TypeId} {v : Value} {l : List Int} (h : W.ownsRow B e 1 v l.length (irw l)) : ∃ x c, v = .slice x l.length c ∧ SlO W B x l.length (fun i => l.getD i 0) := by
  rcases h.2 with ⟨rfl, h0⟩ | ⟨g, cap, cur, rfl, hg, hc⟩
  · exact ⟨none, 0, by rw [h0], fun hn => by omega⟩
  · refine ⟨some ⟨g, 0, none⟩, cap, rfl, fun _ => ⟨g, 0, rfl, hg, fun i hi => ?_⟩⟩
    rw [Nat.zero_add, World.ownsRow.cellAt h i (by rw [Nat.mul_one]; exact hi)]
    unfold irw
    rw [List.getElem?_map]
    simp only [List.getD, List.getElem?_eq_getElem hi]
    rfl
def intNat : Value → Nat
  | .int _ z => z.toNat
  | _ => 0
/-- A block that holds a trap. -/
def Bx (W : World) (b : Nat) (t : Tp) : Prop := W.heap[b]? = some (.cells #[.bool t.m, .bool t.k, .bool t.v, .bool t.u, .bool t.d, .int .i64 t.p, .int .i64 t.g, .int .i64 t.i] 23 (0, 0))
theorem Bx.keep {W W' : World} {b : Nat} {t : Tp} (h : Bx W b t) (hb : Below W.heap.size W W') : Bx W' b t := (hb.block _ (Array.getElem?_eq_some_iff.1 h).1).trans h
theorem Bx.lt {W : World} {b : Nat} {t : Tp} (h : Bx W b t) : b < W.heap.size := (Array.getElem?_eq_some_iff.1 h).1

theorem Bx.set8 {W : World} {b : Nat} {t u : Tp} {m k v o d : Bool} {p g i : Int} (h : Hid (Bx W b t)) (hu : Hid (u = ⟨m, k, v, o, d, p, g, i⟩)) : Hid (Bx ((((((((W.setCell ⟨b, 0, none⟩ (.bool m)).setCell ⟨b, 1, none⟩ (.bool k)).setCell ⟨b, 2, none⟩ (.bool v)).setCell ⟨b, 3, none⟩ (.bool o)).setCell ⟨b, 4, none⟩ (.bool d)).setCell ⟨b, 5, none⟩ (.int .i64 p)).setCell ⟨b, 6, none⟩ (.int .i64 g)).setCell ⟨b, 7, none⟩ (.int .i64 i)) b u) := Lib.hid (by rw [hu.out]; exact eight_set h.out)
theorem low8 {w W : World} {v0 v1 v2 v3 v4 v5 v6 v7 : Value} (h : Hid (Below w.heap.size w W)) : Hid (Below w.heap.size w ((((((((W.setCell ⟨w.heap.size, 0, none⟩ v0).setCell ⟨w.heap.size, 1, none⟩ v1).setCell ⟨w.heap.size, 2, none⟩ v2).setCell ⟨w.heap.size, 3, none⟩ v3).setCell ⟨w.heap.size, 4, none⟩ v4).setCell ⟨w.heap.size, 5, none⟩ v5).setCell ⟨w.heap.size, 6, none⟩ v6).setCell ⟨w.heap.size, 7, none⟩ v7)) := Lib.hid (by
  iterate 8 refine Below.setCell ?_ (by simp) _
  exact h.out)

/-- Step, its trap and its result in letters. -/
theorem stepL_of (t : Tp) (c : Int) (m' k' v' u' d' : Bool) (p' g' i' r : Int) (h : t.step c = (⟨m', k', v', u', d', p', g', i'⟩, r)) (W : World) :
    Calls Tryz.prog 9 #[.agg #[.bool t.m, .bool t.k, .bool t.v, .bool t.u, .bool t.d, .int .i64 t.p, .int .i64 t.g, .int .i64 t.i], .int .i64 c] W fun e w' => e = .returned (.tuple #[.agg #[.bool m', .bool k', .bool v', .bool u', .bool d', .int .i64 p', .int .i64 g', .int .i64 i'], .int .i64 r]) ∧ Below W.heap.size W w' := by
  have q := step_of W t c
  rw [h] at q
  exact q

set_option maxRecDepth 100000 in
set_option maxHeartbeats 16000000 in
theorem serviceDoors_law (w : World) (t0 : Tp) (a : Option Addr) (n c : Nat) (f : Nat → Int) (hn : n ≤ maxLen) (hS : Sl w 1 a n f) (hG : Gl w) :
    Calls Tryz.prog 4 #[t0.val, .slice a n c] w fun e w' => e = .returned (.bool true) ∧ Below w.heap.size w w' := by
  have hmx : maxLen = 9223372036854775807 := rfl
  have HA : Hid (∀ W, Below w.heap.size w W → Calls Tryz.prog 18 #[] W fun e w' => e = .returned (.bool true) ∧ Below W.heap.size W w') := fun W hW => awake10_of W (hG.keep hW)
  clear hG
  have HC : Hid (∀ (t : Tp) W, Calls Tryz.prog 15 #[.agg #[.bool t.m, .bool t.k, .bool t.v, .bool t.u, .bool t.d, .int .i64 t.p, .int .i64 t.g, .int .i64 t.i]] W fun e w' => e = .returned (.bool t.safe) ∧ Below W.heap.size W w') := fun t W => safe_of W t
  obtain ⟨s0, hs0⟩ : ∃ s0, t0.safe = s0 := ⟨_, rfl⟩
  have HS0 : Hid (∀ W, Calls Tryz.prog 15 #[.agg #[.bool t0.m, .bool t0.k, .bool t0.v, .bool t0.u, .bool t0.d, .int .i64 t0.p, .int .i64 t0.g, .int .i64 t0.i]] W fun e w' => e = .returned (.bool s0) ∧ Below W.heap.size W w') := fun W => by rw [← hs0]; exact HC.out t0 W
  dsimp only [Tp.val]
  cases s0
  · go_enter Tryz.func4, Tryz.ntmps4
    go_wp2_with fail
    refine (HS0.out _).mono ?_
    rintro e V ⟨rfl, hB⟩
    have HB := Lib.hid (low_trans ((Below.refl _ w).alloc (Nat.le_refl _) _) hB)
    clear hB HS0
    go_wp2_with fail
    refine (HA.out _ HB.out).mono ?_
    rintro e V2 ⟨rfl, hB⟩
    have HB2 := Lib.hid (low_trans HB.out hB)
    clear hB HA HB
    go_wp2_with fail
    go_ret
    exact ⟨rfl, HB2.out⟩
  by_cases h300 : 300 < n
  · go_enter Tryz.func4, Tryz.ntmps4
    go_wp2_with fail
    refine (HS0.out _).mono ?_
    rintro e V ⟨rfl, hB⟩
    have HB := Lib.hid (low_trans ((Below.refl _ w).alloc (Nat.le_refl _) _) hB)
    clear hB HS0
    go_wp2_with fail
    refine (HA.out _ HB.out).mono ?_
    rintro e V2 ⟨rfl, hB⟩
    have HB2 := Lib.hid (low_trans HB.out hB)
    clear hB HA HB
    go_wp2_with fail
    go_ret
    exact ⟨rfl, HB2.out⟩
  go_enter Tryz.func4, Tryz.ntmps4
  go_upto_region 1 with fail
  obtain ⟨W, hW⟩ : ∃ W, w.alloc (.cells #[.bool t0.m, .bool t0.k, .bool t0.v, .bool t0.u, .bool t0.d, .int .i64 t0.p, .int .i64 t0.g, .int .i64 t0.i] 23) = W := ⟨_, rfl⟩
  rw [hW]
  obtain ⟨hB, hH⟩ := Tp.new w t0 _ hW
  have H0 : Hid (Bx W w.heap.size t0) := hH
  have HB := Lib.hid hB
  have s0 := cell_h (k := 0) hH rfl
  have s1 := cell_h (k := 1) hH rfl
  have s2 := cell_h (k := 2) hH rfl
  have s3 := cell_h (k := 3) hH rfl
  have s4 := cell_h (k := 4) hH rfl
  have s5 := cell_h (k := 5) hH rfl
  have s6 := cell_h (k := 6) hH rfl
  have s7 := cell_h (k := 7) hH rfl
  clear hB hH hW
  go_wp2_with fail
  refine (HS0.out _).mono ?_
  rintro e V ⟨rfl, hB⟩
  have HB1 := Lib.hid (low_trans HB.out hB)
  have H1 := Lib.hid (H0.out.keep hB)
  clear hB HS0 HB H0 s0 s1 s2 s3 s4 s5 s6 s7
  have hSV := hS.keep (by decide) HB1.out
  go_wp2_with fail
  go_loopw [24] (fun vi wr => ∃ (j : Nat) (t : Tp), j ≤ n ∧ vi = .int .i64 (j : Int) ∧ Hid (t.safe = true) ∧ Hid (Bx wr w.heap.size t) ∧ Hid (Below w.heap.size w wr)) (fun vi _ => n - intNat vi)
  case atStart => exact ⟨0, t0, by omega, rfl, Lib.hid hs0, H1, HB1⟩
  case round =>
    obtain ⟨j, t, hj, rfl, HT, HX, HL⟩ := hrel
    by_cases hjn : j < n
    · obtain ⟨b, o, rfl, hI⟩ := hS.keep (by decide) HL.out (by omega)
      have hc := hI j (by omega)
      obtain ⟨x, hx⟩ : ∃ x, f j = x := ⟨_, rfl⟩
      rw [hx] at hc
      have hk := Tp.step_keeps t x HT.out
      obtain ⟨r, hr⟩ : ∃ r, t.step x = r := ⟨_, rfl⟩
      rw [hr] at hk
      obtain ⟨⟨m', k', v', u', d', p', g', i'⟩, e'⟩ := r
      dsimp only at hk
      have HSt := Lib.hid (fun W => stepL_of t x m' k' v' u' d' p' g' i' e' hr W)
      have HK := Lib.hid hk
      have HX0 := HX.out
      have s0 := cell_h (k := 0) HX0 rfl
      have s1 := cell_h (k := 1) HX0 rfl
      have s2 := cell_h (k := 2) HX0 rfl
      have s3 := cell_h (k := 3) HX0 rfl
      have s4 := cell_h (k := 4) HX0 rfl
      have s5 := cell_h (k := 5) HX0 rfl
      have s6 := cell_h (k := 6) HX0 rfl
      have s7 := cell_h (k := 7) HX0 rfl
      clear hI hr hk HX0 hS hSV
      go_wp2_with fail
      refine (HSt.out _).mono ?_
      rintro e V2 ⟨rfl, hB⟩
      have HX2 := Lib.hid (HX.out.keep hB)
      have HL2 := Lib.hid (low_trans HL.out hB)
      clear hB HSt HX HL s0 s1 s2 s3 s4 s5 s6 s7 hc
      rcases HK.out with he | ⟨rfl, hs, hd, hi⟩
      · clear HK
        go_upto_region 7 with fail
        obtain ⟨W3, hW3⟩ : ∃ W3, V2.alloc (.cells #[.bool m', .bool k', .bool v', .bool u', .bool d', .int .i64 p', .int .i64 g', .int .i64 i'] 23) = W3 := ⟨_, rfl⟩
        rw [hW3]
        obtain ⟨hB3, hH3⟩ := Tp.new V2 ⟨m', k', v', u', d', p', g', i'⟩ _ hW3
        have HX3 := Lib.hid (HX2.out.keep hB3)
        have HL3 := Lib.hid (low_trans HL2.out hB3)
        clear hW3 hB3 hH3 HX2 HL2
        rcases he with rfl | rfl
        all_goals
          go_wp2_with fail
          exact ⟨⟨j + 1, t, by omega, rfl, HT, HX3, HL3⟩, by simp [intNat]; omega⟩
      · clear HK
        go_upto_region 7 with fail
        obtain ⟨W3, hW3⟩ : ∃ W3, V2.alloc (.cells #[.bool m', .bool k', .bool v', .bool u', .bool d', .int .i64 p', .int .i64 g', .int .i64 i'] 23) = W3 := ⟨_, rfl⟩
        rw [hW3]
        obtain ⟨hB3, hH3⟩ := Tp.new V2 ⟨m', k', v', u', d', p', g', i'⟩ _ hW3
        have HX3 := Lib.hid (HX2.out.keep hB3)
        have HL3 := Lib.hid (low_trans HL2.out hB3)
        have HY3 : Hid (Bx W3 V2.heap.size ⟨m', k', v', u', d', p', g', i'⟩) := hH3
        have hlt := HX2.out.lt
        generalize V2.heap.size = bu at HY3 hlt ⊢
        clear hW3 hB3 hH3 HX2 HL2
        have HSu := HC.out ⟨m', k', v', u', d', p', g', i'⟩
        rw [hs] at HSu
        have HSU := Lib.hid HSu
        clear HSu
        obtain ⟨tu, htu⟩ : ∃ tu, tu = Tp.mk m' k' v' u' d' p' g' i' := ⟨_, rfl⟩
        have HSF : Hid (tu.safe = true) := Lib.hid (by rw [htu]; exact hs)
        have HTU := Lib.hid htu
        clear hs htu
        have HX30 := HX3.out
        have HY30 := HY3.out
        have s0 := cell_h (k := 0) HY30 rfl
        have s1 := cell_h (k := 1) HY30 rfl
        have s2 := cell_h (k := 2) HY30 rfl
        have s3 := cell_h (k := 3) HY30 rfl
        have s4 := cell_h (k := 4) HY30 rfl
        have s5 := cell_h (k := 5) HY30 rfl
        have s6 := cell_h (k := 6) HY30 rfl
        have s7 := cell_h (k := 7) HY30 rfl
        clear HX30 HY30
        dsimp only at s0 s1 s2 s3 s4 s5 s6 s7
        go_wp2_with fail
        refine (HSU.out _).mono ?_
        rintro e V4 ⟨rfl, hB⟩
        have HX4 := Lib.hid (HX3.out.keep hB)
        have HY4 := Lib.hid (HY3.out.keep hB)
        have HL4 := Lib.hid (low_trans HL3.out hB)
        clear hB HSU HX3 HY3 HL3 s0 s1 s2 s3 s4 s5 s6 s7
        obtain ⟨m, k, v, u, d, p, g, i⟩ := t
        have HX40 := HX4.out
        have HY40 := HY4.out
        have r0 := cell_h (k := 0) HX40 rfl
        have r1 := cell_h (k := 1) HX40 rfl
        have r2 := cell_h (k := 2) HX40 rfl
        have r3 := cell_h (k := 3) HX40 rfl
        have r4 := cell_h (k := 4) HX40 rfl
        have r5 := cell_h (k := 5) HX40 rfl
        have r6 := cell_h (k := 6) HX40 rfl
        have r7 := cell_h (k := 7) HX40 rfl
        have s0 := cell_h (k := 0) HY40 rfl
        have s1 := cell_h (k := 1) HY40 rfl
        have s2 := cell_h (k := 2) HY40 rfl
        have s3 := cell_h (k := 3) HY40 rfl
        have s4 := cell_h (k := 4) HY40 rfl
        have s5 := cell_h (k := 5) HY40 rfl
        have s6 := cell_h (k := 6) HY40 rfl
        have s7 := cell_h (k := 7) HY40 rfl
        dsimp only at s0 s1 s2 s3 s4 s5 s6 s7 r0 r1 r2 r3 r4 r5 r6 r7 hi hd
        have f0 := fz_h HX40
        clear HX40 HY40
        have HE : (d' = true ∧ m' = false ∧ k' = false ∧ u' = false ∧ v' = true ∧ p' = 0 ∧ g' = 0 ∧ ((i' = 2 ∧ i = 2) ∨ ((i' == 2) = false ∧ (i == 2) = false))) ∨ (d' = false ∧ ((i' = 2 ∧ i = 2) ∨ ((i' == 2) = false ∧ (i == 2) = false) ∨ (d = false ∧ i' = 2 ∧ (i == 2) = false) ∨ (d = false ∧ (i' == 2) = false ∧ i = 2))) := by
          clear s0 s1 s2 s3 s4 s5 s6 s7 r0 r1 r2 r3 r4 r5 r6 r7 f0
          by_cases x1 : i' = 2 <;> by_cases x2 : i = 2 <;> cases d' <;> simp_all [Tp.shut]
        clear hi hd
        rcases HE with ⟨rfl, rfl, rfl, rfl, rfl, rfl, rfl, ⟨rfl, rfl⟩ | ⟨x1, x2⟩⟩ | ⟨rfl, ⟨rfl, rfl⟩ | ⟨x1, x2⟩ | ⟨rfl, rfl, x2⟩ | ⟨rfl, x1, rfl⟩⟩
        all_goals
          go_upto_region 13 with fail
          clear HA HC HT HY4 r0 r1 r2 r3 r4 r5 r6 r7 s0 s1 s2 s3 s4 s5 s6 s7 f0
          go_wp2_with fail
          exact ⟨⟨j + 1, tu, by omega, rfl, HSF, Bx.set8 HX4 HTU, low8 HL4⟩, by simp [intNat]; omega⟩
    · obtain rfl : j = n := by omega
      clear hS hSV
      have hrf := Tp.route_fine HT.out
      have hat := Tp.fine_at _ _ hrf.2.2
      have HR : Hid (∀ W, Calls Tryz.prog 11 #[.agg #[.bool t.m, .bool t.k, .bool t.v, .bool t.u, .bool t.d, .int .i64 t.p, .int .i64 t.g, .int .i64 t.i]] W fun e W' => ∃ x c, e = .returned (.tuple #[.slice x t.rt.1.length c, .int .i64 0]) ∧ SlO W' W.heap.size x t.rt.1.length (fun i => t.rt.1.getD i 0) ∧ Below W.heap.size W W') := fun W => by
        refine (route_of W t).mono ?_
        rintro e W' ⟨v, rfl, hO, hB⟩
        obtain ⟨x, c, rfl, hS⟩ := own_irw hO
        exact ⟨x, c, by rw [hrf.1], hS, hB⟩
      obtain ⟨R, hR⟩ : ∃ R, t.rt.1 = R := ⟨_, rfl⟩
      rw [hR] at HR hrf hat
      have hln := hrf.2.1
      have HAT := Lib.hid hat
      obtain ⟨N, hN⟩ : ∃ N, R.length = N := ⟨_, rfl⟩
      rw [hN] at HR hln
      clear hrf hat hR HT
      have HX0 := HX.out
      have s0 := cell_h (k := 0) HX0 rfl
      have s1 := cell_h (k := 1) HX0 rfl
      have s2 := cell_h (k := 2) HX0 rfl
      have s3 := cell_h (k := 3) HX0 rfl
      have s4 := cell_h (k := 4) HX0 rfl
      have s5 := cell_h (k := 5) HX0 rfl
      have s6 := cell_h (k := 6) HX0 rfl
      have s7 := cell_h (k := 7) HX0 rfl
      clear HX0
      go_wp2_with fail
      refine (HR.out _).mono ?_
      rintro e V5 ⟨xr, cr, rfl, hSl, hB⟩
      have HX5 := Lib.hid (HX.out.keep hB)
      have HL5 := Lib.hid (low_trans HL.out hB)
      have hbw := HX.out.lt
      have HSl := Lib.hid hSl
      generalize wr.heap.size = B5 at HSl hbw
      clear hB HR HX HL s0 s1 s2 s3 s4 s5 s6 s7 hSl
      go_wp2_with fail
      go_loopw [109] (fun vi wr => ∃ q : Nat, q ≤ N ∧ vi = .int .i64 (q : Int) ∧ Hid (Bx wr w.heap.size (Tp.go (R.take q) t)) ∧ Hid (Below w.heap.size w wr) ∧ Hid (SlO wr B5 xr N (fun i => R.getD i 0))) (fun vi _ => N - intNat vi)
      case atStart => exact ⟨0, by omega, rfl, HX5, HL5, HSl⟩
      case round =>
        obtain ⟨q, hq, rfl, HXq, HLq, HVq⟩ := hrel
        by_cases hqn : q < N
        · obtain ⟨b, o, rfl, hg, hI⟩ := HVq.out (by omega)
          have hc := hI q hqn
          have he := HAT.out.1 q (by omega)
          have hgo := Tp.go_take R t q (by omega)
          obtain ⟨tq, htq⟩ : ∃ tq, Tp.go (R.take q) t = tq := ⟨_, rfl⟩
          rw [htq] at he hgo HXq
          obtain ⟨x, hx⟩ : ∃ x, R.getD q 0 = x := ⟨_, rfl⟩
          rw [hx] at he hgo
          dsimp only at hc
          rw [hx] at hc
          obtain ⟨r, hr⟩ : ∃ r, tq.step x = r := ⟨_, rfl⟩
          rw [hr] at he hgo
          obtain ⟨⟨m', k', v', u', d', p', g', i'⟩, e'⟩ := r
          dsimp only at he hgo
          subst he
          have HTU := Lib.hid hgo
          have HSt := Lib.hid (fun W => stepL_of tq x m' k' v' u' d' p' g' i' 0 hr W)
          have HX0 := HXq.out
          have s0 := cell_h (k := 0) HX0 rfl
          have s1 := cell_h (k := 1) HX0 rfl
          have s2 := cell_h (k := 2) HX0 rfl
          have s3 := cell_h (k := 3) HX0 rfl
          have s4 := cell_h (k := 4) HX0 rfl
          have s5 := cell_h (k := 5) HX0 rfl
          have s6 := cell_h (k := 6) HX0 rfl
          have s7 := cell_h (k := 7) HX0 rfl
          clear hI hr hgo HX0 hx htq hg
          go_wp2_with fail
          refine (HSt.out _).mono ?_
          rintro e V6 ⟨rfl, hB⟩
          have HX6 := Lib.hid (HXq.out.keep hB)
          have HL6 := Lib.hid (low_trans HLq.out hB)
          have HV6 := Lib.hid (HVq.out.keep hB)
          clear hB HSt HXq HLq HVq s0 s1 s2 s3 s4 s5 s6 s7 hc
          have HX0 := HX6.out
          have r0 := cell_h (k := 0) HX0 rfl
          have r1 := cell_h (k := 1) HX0 rfl
          have r2 := cell_h (k := 2) HX0 rfl
          have r3 := cell_h (k := 3) HX0 rfl
          have r4 := cell_h (k := 4) HX0 rfl
          have r5 := cell_h (k := 5) HX0 rfl
          have r6 := cell_h (k := 6) HX0 rfl
          have r7 := cell_h (k := 7) HX0 rfl
          have f0 := fz_h HX0
          clear HX0
          go_upto_region 21 with fail
          clear r0 r1 r2 r3 r4 r5 r6 r7 f0
          go_wp2_with fail
          exact ⟨⟨q + 1, by omega, rfl, Bx.set8 HX6 HTU, low8 HL6, SlO.set8 hbw HV6⟩, by simp [intNat]; omega⟩
        · obtain rfl : q = N := by omega
          have hend := HAT.out.2
          have hgo : Tp.go (R.take q) t = Tp.go R t := by rw [← hN, List.take_length]
          rw [hgo] at HXq
          obtain ⟨tz, htz⟩ : ∃ tz, Tp.go R t = tz := ⟨_, rfl⟩
          rw [htz] at hend HXq
          have HSz := HC.out tz
          rw [hend.2] at HSz
          have HSZ := Lib.hid HSz
          have HD := Lib.hid hend.1
          clear HSz hend hgo htz HAT
          have HX0 := HXq.out
          have s0 := cell_h (k := 0) HX0 rfl
          have s1 := cell_h (k := 1) HX0 rfl
          have s2 := cell_h (k := 2) HX0 rfl
          have s3 := cell_h (k := 3) HX0 rfl
          have s4 := cell_h (k := 4) HX0 rfl
          have s5 := cell_h (k := 5) HX0 rfl
          have s6 := cell_h (k := 6) HX0 rfl
          have s7 := cell_h (k := 7) HX0 rfl
          rw [HD.out] at s4 HSZ
          clear HX0
          go_wp2_with fail
          refine (HSZ.out _).mono ?_
          rintro e V7 ⟨rfl, hB⟩
          have HL7 := Lib.hid (low_trans HLq.out hB)
          clear hB HSZ HLq HXq s0 s1 s2 s3 s4 s5 s6 s7
          go_wp2_with fail
          refine (HA.out _ HL7.out).mono ?_
          rintro e V8 ⟨rfl, hB⟩
          have HL8 := Lib.hid (low_trans HL7.out hB)
          clear hB HA HL7
          go_wp2_with fail
          go_ret
          exact ⟨rfl, HL8.out⟩
end Go.Proofs.YtmdniebedflpbaaGreatDoor
