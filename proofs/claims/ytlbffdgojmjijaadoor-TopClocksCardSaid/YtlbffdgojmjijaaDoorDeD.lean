/-
  WALKS: the chord of the document's example.
-/
import Derived.Test.YtlbffdgojmjijaaDoorDeB
import Derived.LoopN
namespace Go.Proofs.YtlbffdgojmjijaaDoor
open Go.RowKit

def exP (i : Nat) : Int := [0, -4, -4, 0].getD i 0
theorem exP_ok : PrOk 4 exP := ⟨by omega, fun i hi => by
  rcases (by omega : i = 0 ∨ i = 1 ∨ i = 2 ∨ i = 3) with rfl | rfl | rfl | rfl <;> decide⟩
theorem exP_max : gmax (dF exP 3) 4 = 1 := by decide
theorem exP_at : dF exP 3 1 = 12 := by decide
theorem mk12 : Dy.mk 12 0 = Dy.mk ((3 : Nat) : Int) 2 := by
  have := Dy.mk_shift 3 0 2
  exact this
theorem mk64 : Dy.mk (Dy.sg false 64) (-4) = Dy.mk ((1 : Nat) : Int) 2 := by
  have := Dy.mk_shift 1 (-4) 6
  exact this
/-- A span of the number 4 alone. -/
def Sp4 (w : World) (v : Value) : Prop := ∃ p1 n1 c1 p2 n2 c2, v = .agg #[.bool false, .slice p1 n1 c1, .int .i64 2, .bool false, .slice p2 n2 c2, .int .i64 2] ∧ Dy.Nt w (.slice p1 n1 c1) 1 ∧ Dy.Nt w (.slice p2 n2 c2) 1
theorem nodig_of {W : World} {g : Nat} {a1 a2 : Bool} {p1 p2 : Option Addr} {n1 k1 n2 k2 : Nat} {e1 e2 : Int} {t : TypeId} {fz : Nat × Nat} (h : W.heap[g]? = some (.cells #[.bool a1, .slice p1 n1 k1, .int .i64 e1, .bool a2, .slice p2 n2 k2, .int .i64 e2] t fz)) : Dy.NoDig W g := by
  intro o x hc
  simp only [World.cell?, h] at hc
  match o, hc with
  | 0, hc => simp at hc
  | 1, hc => simp at hc
  | 2, hc => simp at hc
  | 3, hc => simp at hc
  | 4, hc => simp at hc
  | 5, hc => simp at hc
  | o + 6, hc => simp at hc
theorem nt_set6 {W : World} {v : Value} {m : Nat} (h : Dy.Nt W v m) {g : Nat} (hd : Dy.NoDig W g) {a1 a2 : Bool} {p1 p2 : Option Addr} {n1 k1 n2 k2 : Nat} {e1 e2 : Int} {i1 i2 i3 i4 i5 i6 : Nat} :
    Dy.Nt ((((((W.setCell ⟨g, i1, none⟩ (.bool a1)).setCell ⟨g, i2, none⟩ (.slice p1 n1 k1)).setCell ⟨g, i3, none⟩ (.int .i64 e1)).setCell ⟨g, i4, none⟩ (.bool a2)).setCell ⟨g, i5, none⟩ (.slice p2 n2 k2)).setCell ⟨g, i6, none⟩ (.int .i64 e2)) v m :=
  (((((h.set hd).set hd.setBool).set hd.setBool.setSlice).set hd.setBool.setSlice.setInt).set hd.setBool.setSlice.setInt.setBool).set hd.setBool.setSlice.setInt.setBool.setSlice
theorem set6_heap {W : World} {g : Nat} {t : TypeId} {a0 a1 a2 a3 a4 a5 v0 v1 v2 v3 v4 v5 : Value} (h : W.heap[g]? = some (.cells #[a0, a1, a2, a3, a4, a5] t (0, 0))) :
    ((((((W.setCell ⟨g, 0, none⟩ v0).setCell ⟨g, 1, none⟩ v1).setCell ⟨g, 2, none⟩ v2).setCell ⟨g, 3, none⟩ v3).setCell ⟨g, 4, none⟩ v4).setCell ⟨g, 5, none⟩ v5).heap[g]? = some (.cells #[v0, v1, v2, v3, v4, v5] t (0, 0)) := by
  rw [heap_set (heap_set (heap_set (heap_set (heap_set (heap_set h v0) v1) v2) v3) v4) v5]
  rfl
theorem quo_ex (w : World) (p1 p2 : Option Addr) (n1 k1 n2 k2 : Nat) (h1 : Dy.Nt w (.slice p1 n1 k1) 3) (h2 : Dy.Nt w (.slice p2 n2 k2) 3) (hT : Dy.Tab w) :
    Calls Tryd.prog 41 #[.agg #[.bool false, .slice p1 n1 k1, .int .i64 2], .agg #[.bool false, .slice p2 n2 k2, .int .i64 0], .int .i64 4] w (Dy.Ret2 w fun w' v e => e = .int .i64 0 ∧ Sp4 w' v) := by
  have hn0 : n2 ≠ 0 := fun e => by
    have := h2.len_zero.1 e
    omega
  refine (Dy.quo_main w false false p1 p2 n1 k1 n2 k2 2 0 4 6 3 3 6 0 1 hn0 (by decide) (by decide) (by decide) (by decide) (by decide) h1 h2 (Dy.len_two (A := 2) (by decide) (by decide)) (Dy.len_two (A := 2) (by decide) (by decide)) (Dy.len_two (A := 8) (by decide) (by decide)) (by decide) (Dy.len_two (A := 2) (by decide) (by decide)) (by decide) (by decide) (by decide) (by decide) (by decide) (by decide) (by decide) hT).mono ?_
  rintro e w' ⟨v, e', rfl, ⟨rfl, hs⟩, hb⟩
  refine ⟨v, _, rfl, ⟨rfl, ?_⟩, hb⟩
  obtain ⟨b1, q1, l1, c1, f1, b2, q2, l2, c2, f2, rfl, hx, hy⟩ := hs
  have hd : decide (3 * 2 ^ 6 % (3 * 2 ^ 0) = 0) = true := by decide
  have hq : 3 * 2 ^ 6 / (3 * 2 ^ 0) = 64 := by decide
  rw [hd, hq] at hx hy
  have h4 : Dy.rLo (false != false) true 64 4 = Dy.mk ((1 : Nat) : Int) 2 := mk64
  have h5 : Dy.rHi (false != false) true 64 4 = Dy.mk ((1 : Nat) : Int) 2 := mk64
  rw [h4] at hx
  rw [h5] at hy
  obtain ⟨n1', a1, e1, m1, ee1, g1, cx⟩ := hx
  obtain ⟨n2', a2, e2, m2, ee2, g2, cy⟩ := hy
  cases ee1
  cases ee2
  obtain ⟨rfl, rfl, rfl⟩ := Dy.canon_odd cx (by decide)
  obtain ⟨rfl, rfl, rfl⟩ := Dy.canon_odd cy (by decide)
  exact ⟨_, _, _, _, _, _, rfl, g1, g2⟩

set_option maxRecDepth 100000 in
set_option maxHeartbeats 800000 in
theorem chord_ex (w : World) (a : Option Addr) (c : Nat) (hS : Sl w 1 a 4 exP) (hT : Dy.Tab w) :
    Calls Tryd.prog 18 #[.slice a 4 c, .int .i64 4] w fun e w' => ∃ v, e = .returned (.tuple #[v, .int .i64 1, .int .i64 0]) ∧ Sp4 w' v ∧ Below w.heap.size w w' := by
  have HT := Lib.hid hT
  have HS := Lib.hid hS
  clear hT hS
  go_enter Tryd.func18, Tryd.ntmps18
  go_wp2_with fail
  refine (prof_ok _ a 4 c exP (HS.out.keep (by decide) (((Below.refl _ w).alloc (Nat.le_refl _) _).alloc (by simp) _)) exP_ok).mono ?_
  rintro e w1 ⟨rfl, rfl⟩
  obtain ⟨W, hW⟩ : ∃ W, W = (w.alloc (.cells #[.slice a 4 c] 65)).alloc (.cells #[.bool false, .slice none 0 0, .int .i64 0, .bool false, .slice none 0 0, .int .i64 0] 62) := ⟨_, rfl⟩
  rw [← hW]
  have hB0 : Below w.heap.size w W := by rw [hW]; exact ((Below.refl _ _).alloc (Nat.le_refl _) _).alloc (by simp) _
  have hsz : W.heap.size = w.heap.size + 2 := by rw [hW]; simp
  have x0 : W.cell? ⟨w.heap.size, 0, none⟩ = some (.slice a 4 c) := by rw [hW]; go_simp
  have hA1 : W.heap[w.heap.size + 1]? = some (.cells #[.bool false, .slice none 0 0, .int .i64 0, .bool false, .slice none 0 0, .int .i64 0] 62 (0, 0)) := by rw [hW]; exact al_1 w _ _
  clear hW
  go_wp2_with fail
  generalize hW2 : W.alloc (.cells #[.int .i64 3] 3) = W2
  have hB2 : Below W.heap.size W W2 := by rw [← hW2]; exact (Below.refl _ _).alloc (Nat.le_refl _) _
  have x2 : W2.cell? ⟨W.heap.size, 0, none⟩ = some (.int .i64 3) := by rw [← hW2]; exact cell_h (World.alloc_heap_new W _) rfl
  have y0 : W2.cell? ⟨w.heap.size, 0, none⟩ = some (.slice a 4 c) := (hB2.cell (p := ⟨w.heap.size, 0, none⟩) (World.block_lt_of_cell? _ _ x0)).trans x0
  have hA2 : W2.heap[w.heap.size + 1]? = some (.cells #[.bool false, .slice none 0 0, .int .i64 0, .bool false, .slice none 0 0, .int .i64 0] 62 (0, 0)) := (hB2.block _ (Array.getElem?_eq_some_iff.1 hA1).1).trans hA1
  have HB2 : Hid (Below w.heap.size w W2) := hB0.trans (hB2.mono (by omega))
  have hS2 := Lib.hid (HS.out.keep (by decide) HB2.out)
  have hs2 : w.heap.size + 2 < W2.heap.size := by rw [← hsz]; exact World.block_lt_of_cell? _ _ x2
  have HA2 := Lib.hid hA2
  rw [hsz] at x2
  clear hW2 hB2 x0 hA1 hB0 hA2
  refine (greatest_of W2 w.heap.size (w.heap.size + 2) 3 c a exP y0 x2 hS2.out exP_ok).mono ?_
  rintro e W3 ⟨rfl, hB3⟩
  rw [exP_max]
  have x3 := (hB3.cell (p := ⟨w.heap.size + 2, 0, none⟩) hs2).trans x2
  have y3 := (hB3.cell (p := ⟨w.heap.size, 0, none⟩) (World.block_lt_of_cell? _ _ y0)).trans y0
  have HA3 := Lib.hid ((hB3.block _ (Array.getElem?_eq_some_iff.1 HA2.out).1).trans HA2.out)
  have HS3 := Lib.hid (hS2.out.keep (by decide) hB3)
  have HB3 : Hid (Below w.heap.size w W3) := HB2.out.trans (hB3.mono HB2.out.size)
  clear hB3 x2 y0 HA2 hS2 HB2 hs2
  go_wp2_with fail
  have HBd : Hid (Below w.heap.size w W3.drew) := HB3.out.drew
  have HAd : Hid (W3.drew.heap[w.heap.size + 1]? = some (.cells #[.bool false, .slice none 0 0, .int .i64 0, .bool false, .slice none 0 0, .int .i64 0] 62 (0, 0))) := HA3.out
  have xd : W3.drew.cell? ⟨w.heap.size + 2, 0, none⟩ = some (.int .i64 3) := x3
  have hsd : w.heap.size + 2 < W3.drew.heap.size := World.block_lt_of_cell? _ _ x3
  have HC1 := Lib.hid (deep_of W3.drew w.heap.size (w.heap.size + 2) 3 c 1 a exP y3 x3 (HS3.out) exP_ok (by decide))
  rw [exP_at] at HC1
  clear x3 y3
  go_region_held3 (fun W' => W'.cell? ⟨w.heap.size + 2, 0, none⟩ = some (.int .i64 3)) (first | (with_reducible assumption) | go_keep)
    (first
      | (go_at_call 39; refine HC1.out.mono ?_; rintro e W4 ⟨rfl, hB4⟩; have x4 : W4.cell? ⟨w.heap.size + 2, 0, none⟩ = some (.int .i64 3) := (hB4.cell (p := ⟨w.heap.size + 2, 0, none⟩) hsd).trans xd; have HB4 : Hid (Below w.heap.size w W4) := HBd.out.trans (hB4.mono HBd.out.size); have HA4 : Hid (W4.heap[w.heap.size + 1]? = some (.cells #[.bool false, .slice none 0 0, .int .i64 0, .bool false, .slice none 0 0, .int .i64 0] 62 (0, 0))) := (hB4.block _ (Array.getElem?_eq_some_iff.1 HAd.out).1).trans HAd.out; have hs4 : w.heap.size + 2 < W4.heap.size := Nat.lt_of_lt_of_le hsd hB4.size)
      | (go_at_call_of 42 (Value.int IntKind.i64 12); refine (Dy.number_of W4 12 (by unfold Dy.I64; omega) (HT.out.keep HB4.out)).mono ?_; rintro e W5 ⟨v5, rfl, hv5, hB5⟩; have x5 : W5.cell? ⟨w.heap.size + 2, 0, none⟩ = some (.int .i64 3) := (hB5.cell (p := ⟨w.heap.size + 2, 0, none⟩) hs4).trans x4; have HB5 : Hid (Below w.heap.size w W5) := HB4.out.trans (hB5.mono HB4.out.size); have HA5 : Hid (W5.heap[w.heap.size + 1]? = some (.cells #[.bool false, .slice none 0 0, .int .i64 0, .bool false, .slice none 0 0, .int .i64 0] 62 (0, 0))) := (hB5.block _ (Array.getElem?_eq_some_iff.1 HA4.out).1).trans HA4.out; have hs5 : w.heap.size + 2 < W5.heap.size := Nat.lt_of_lt_of_le hs4 hB5.size; rw [mk12] at hv5; obtain ⟨n5, l5, e5, m5, rfl, hn5, hc5⟩ := hv5; obtain ⟨p5, k5, q5, rfl⟩ := hn5.slice; obtain ⟨rfl, rfl, rfl⟩ := Dy.canon_odd hc5 (by decide))
      | (go_at_call 42; refine (Dy.number_of W5 3 (by unfold Dy.I64; omega) (HT.out.keep HB5.out)).mono ?_; rintro e W6 ⟨v6, rfl, hv6, hB6⟩; have x6 : W6.cell? ⟨w.heap.size + 2, 0, none⟩ = some (.int .i64 3) := (hB6.cell (p := ⟨w.heap.size + 2, 0, none⟩) hs5).trans x5; have HB6 : Hid (Below w.heap.size w W6) := HB5.out.trans (hB6.mono HB5.out.size); have HA6 : Hid (W6.heap[w.heap.size + 1]? = some (.cells #[.bool false, .slice none 0 0, .int .i64 0, .bool false, .slice none 0 0, .int .i64 0] 62 (0, 0))) := (hB6.block _ (Array.getElem?_eq_some_iff.1 HA5.out).1).trans HA5.out; have hs6 : w.heap.size + 2 < W6.heap.size := Nat.lt_of_lt_of_le hs5 hB6.size; have hn56 := hn5.keep hB6; obtain ⟨n6, l6, e6, m6, rfl, hn6, hc6⟩ := hv6; obtain ⟨p6, k6, q6, rfl⟩ := hn6.slice; obtain ⟨rfl, rfl, rfl⟩ := Dy.canon_odd (n := 3) hc6 (by decide))
      | (go_at_call 41; refine (quo_ex W6 p5 p6 k5 q5 k6 q6 hn56 hn6 (HT.out.keep HB6.out)).mono ?_; rintro e W7 ⟨v7, e7, rfl, ⟨rfl, hs7⟩, hB7⟩; have x7 : W7.cell? ⟨w.heap.size + 2, 0, none⟩ = some (.int .i64 3) := (hB7.cell (p := ⟨w.heap.size + 2, 0, none⟩) hs6).trans x6; have HB7 : Hid (Below w.heap.size w W7) := HB6.out.trans (hB7.mono HB6.out.size); have HA7 : Hid (W7.heap[w.heap.size + 1]? = some (.cells #[.bool false, .slice none 0 0, .int .i64 0, .bool false, .slice none 0 0, .int .i64 0] 62 (0, 0))) := (hB7.block _ (Array.getElem?_eq_some_iff.1 HA6.out).1).trans HA6.out; obtain ⟨p1, n1, c1, p2, n2, c2, rfl, ht1, ht2⟩ := hs7; have z0 := cell_h (k := 0) HA7.out rfl; have z1 := cell_h (k := 1) HA7.out rfl; have z2 := cell_h (k := 2) HA7.out rfl; have z3 := cell_h (k := 3) HA7.out rfl; have z4 := cell_h (k := 4) HA7.out rfl; have z5 := cell_h (k := 5) HA7.out rfl; have zf : ∀ o, W7.frozen? ⟨w.heap.size + 1, o, none⟩ = false := fun o => by simp [World.frozen?, HA7.out]))
  all_goals
    have HN7 : Hid (Dy.NoDig W7 (w.heap.size + 1)) := nodig_of HA7.out
    have HT1 := Lib.hid ht1
    have HT2 := Lib.hid ht2
    clear ht1 ht2 hn5 hn6 hn56 hc5 hc6 hB4 hB5 hB6 hB7 hs4 hs5 hs6 hsd xd x4 x5 x6 x7
    have HA8 := set6_heap (v0 := .bool false) (v1 := .slice p1 n1 c1) (v2 := .int .i64 2) (v3 := .bool false) (v4 := .slice p2 n2 c2) (v5 := .int .i64 2) HA7.out
    have HT8 := nt_set6 (a1 := false) (p1 := p1) (n1 := n1) (k1 := c1) (e1 := 2) (a2 := false) (p2 := p2) (n2 := n2) (k2 := c2) (e2 := 2) (i1 := 0) (i2 := 1) (i3 := 2) (i4 := 3) (i5 := 4) (i6 := 5) HT1.out HN7.out
    have HU8 := nt_set6 (a1 := false) (p1 := p1) (n1 := n1) (k1 := c1) (e1 := 2) (a2 := false) (p2 := p2) (n2 := n2) (k2 := c2) (e2 := 2) (i1 := 0) (i2 := 1) (i3 := 2) (i4 := 3) (i5 := 4) (i6 := 5) HT2.out HN7.out
    have HB8 : Below w.heap.size w ((((((W7.setCell ⟨w.heap.size + 1, 0, none⟩ (.bool false)).setCell ⟨w.heap.size + 1, 1, none⟩ (.slice p1 n1 c1)).setCell ⟨w.heap.size + 1, 2, none⟩ (.int .i64 2)).setCell ⟨w.heap.size + 1, 3, none⟩ (.bool false)).setCell ⟨w.heap.size + 1, 4, none⟩ (.slice p2 n2 c2)).setCell ⟨w.heap.size + 1, 5, none⟩ (.int .i64 2)) := Dy.below_set3 (Dy.below_set3 HB7.out (by omega)) (by omega)
    clear z0 z1 z2 z3 z4 z5 zf
    generalize (((((W7.setCell ⟨w.heap.size + 1, 0, none⟩ (.bool false)).setCell ⟨w.heap.size + 1, 1, none⟩ (.slice p1 n1 c1)).setCell ⟨w.heap.size + 1, 2, none⟩ (.int .i64 2)).setCell ⟨w.heap.size + 1, 3, none⟩ (.bool false)).setCell ⟨w.heap.size + 1, 4, none⟩ (.slice p2 n2 c2)).setCell ⟨w.heap.size + 1, 5, none⟩ (.int .i64 2) = W8 at HA8 HT8 HU8 HB8 ⊢
    have z0 := cell_h (k := 0) HA8 rfl
    have z1 := cell_h (k := 1) HA8 rfl
    have z2 := cell_h (k := 2) HA8 rfl
    have z3 := cell_h (k := 3) HA8 rfl
    have z4 := cell_h (k := 4) HA8 rfl
    have z5 := cell_h (k := 5) HA8 rfl
    have zf : ∀ o, W8.frozen? ⟨w.heap.size + 1, o, none⟩ = false := fun o => by simp [World.frozen?, HA8]
    have HN8 : Dy.NoDig W8 (w.heap.size + 1) := nodig_of HA8
    have HA9 := Lib.hid (set6_heap (v0 := .bool false) (v1 := .slice p1 n1 c1) (v2 := .int .i64 2) (v3 := .bool false) (v4 := .slice p2 n2 c2) (v5 := .int .i64 2) HA8)
    have HT9 := Lib.hid (nt_set6 (a1 := false) (p1 := p1) (n1 := n1) (k1 := c1) (e1 := 2) (a2 := false) (p2 := p2) (n2 := n2) (k2 := c2) (e2 := 2) (i1 := 0) (i2 := 1) (i3 := 2) (i4 := 3) (i5 := 4) (i6 := 5) HT8 HN8)
    have HU9 := Lib.hid (nt_set6 (a1 := false) (p1 := p1) (n1 := n1) (k1 := c1) (e1 := 2) (a2 := false) (p2 := p2) (n2 := n2) (k2 := c2) (e2 := 2) (i1 := 0) (i2 := 1) (i3 := 2) (i4 := 3) (i5 := 4) (i6 := 5) HU8 HN8)
    have HB9 : Hid (Below w.heap.size w ((((((W8.setCell ⟨w.heap.size + 1, 0, none⟩ (.bool false)).setCell ⟨w.heap.size + 1, 1, none⟩ (.slice p1 n1 c1)).setCell ⟨w.heap.size + 1, 2, none⟩ (.int .i64 2)).setCell ⟨w.heap.size + 1, 3, none⟩ (.bool false)).setCell ⟨w.heap.size + 1, 4, none⟩ (.slice p2 n2 c2)).setCell ⟨w.heap.size + 1, 5, none⟩ (.int .i64 2))) := Dy.below_set3 (Dy.below_set3 HB8 (by omega)) (by omega)
    clear HA8 HT8 HU8 HB8 HN8
    go_wp2_with fail
    generalize (((((W8.setCell ⟨w.heap.size + 1, 0, none⟩ (.bool false)).setCell ⟨w.heap.size + 1, 1, none⟩ (.slice p1 n1 c1)).setCell ⟨w.heap.size + 1, 2, none⟩ (.int .i64 2)).setCell ⟨w.heap.size + 1, 3, none⟩ (.bool false)).setCell ⟨w.heap.size + 1, 4, none⟩ (.slice p2 n2 c2)).setCell ⟨w.heap.size + 1, 5, none⟩ (.int .i64 2) = W9 at HA9 HT9 HU9 HB9 ⊢
    have y0 := cell_h (k := 0) HA9.out rfl
    have y1 := cell_h (k := 1) HA9.out rfl
    have y2 := cell_h (k := 2) HA9.out rfl
    have y3 := cell_h (k := 3) HA9.out rfl
    have y4 := cell_h (k := 4) HA9.out rfl
    have y5 := cell_h (k := 5) HA9.out rfl
    exact bodyPost_ret (v := .tuple #[.agg #[.bool false, .slice p1 n1 c1, .int .i64 2, .bool false, .slice p2 n2 c2, .int .i64 2], .int .i64 1, .int .i64 0]) (by simp [results, Tryd.results18, go_sem, y0, y1, y2, y3, y4, y5]) rfl ⟨_, rfl, ⟨p1, n1, c1, p2, n2, c2, rfl, HT9.out, HU9.out⟩, HB9.out⟩
end Go.Proofs.YtlbffdgojmjijaaDoor
