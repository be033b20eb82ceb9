/-
  WALKS: the law of the welds and calls without a pair.
-/
import Derived.Test.YteinabcklmpcjaaPrK
namespace Go.Proofs.Yteinabcklmpcjaa
open Go.RowKit

theorem mis_len (N M : Int) (n : Nat) (f : Nat → Int) : (misW N M n f).length ≤ 40 ∧ (misC N M n f).length ≤ 40 := by
  unfold misW misC
  by_cases h : misE N M n f = 0
  · rw [if_neg (by simpa using h), if_neg (by simpa using h)]
    have h2 := mis_ways N M n f
    have h3 := lone_len f n 0 N.toNat
    have h4 := lone_len f n 1 M.toNat
    rcases h2 with ⟨_, h2⟩ | ⟨a, b, ha, hb, hc, hd, _⟩ <;> omega
  · rw [if_pos h, if_pos h]; simp
theorem one_list {w : World} {B n d : Nat} {b : Option Addr} (h : w.cell? ⟨B, 0, none⟩ = some (.slice b n d)) : ∀ i, i < 1 → ∃ a e, w.cell? ⟨B, i, none⟩ = some (.slice a ((fun _ => n) i) e) := fun i hi => by
  obtain rfl : i = 0 := by omega
  exact ⟨b, d, h⟩
set_option maxRecDepth 100000 in
set_option maxHeartbeats 4000000 in
theorem missing_law (w : World) (N M lo hi : Int) (a b : Option Addr) (m c n d : Nat) (f g : Nat → Int) (hm : m ≤ maxLen) (hS : Sl w 2 a m f) (hG : Sl w 1 b n g) (hI : I64s g n) :
    Calls Try.prog 3 #[.int .i64 N, .int .i64 M, .slice a m c, .slice b n d, .agg #[.int .i64 lo, .int .i64 hi]] w fun e w' => e = .returned (.bool true) ∧ Below w.heap.size w w' := by
  have hmx : maxLen = 9223372036854775807 := rfl
  have a0 := World.alloc_heap_new w (.cells #[.int .i64 lo, .int .i64 hi] 25)
  have hB : Below w.heap.size w (w.alloc (.cells #[.int .i64 lo, .int .i64 hi] 25)) := (Below.refl _ w).alloc (Nat.le_refl _) _
  have hS0 := hS.keep (by decide) hB
  have hG0 := hG.keep (by decide) hB
  clear hS hG
  by_cases h50 : 50 < m
  · clear hS0 hG0 a0 hI
    go_enter Try.func3, Try.ntmps3
    go_wp2_with fail
    generalize w.alloc (.cells #[.int .i64 lo, .int .i64 hi] 25) = W at hB ⊢
    refine (awake_of W).mono ?_
    rintro e w2 ⟨rfl, hB2⟩
    have HB := Lib.hid (hB.trans (hB2.mono hB.size))
    clear hB2 hB
    go_wp2_with fail
    go_ret
    exact ⟨rfl, HB.out⟩
  have hg : decide ((50 : Int) < (m : Int)) = false := by rw [decide_eq_false_iff_not]; omega
  cases hsh : shB n with
  | false =>
    clear hS0 hG0 a0 hI
    have hc2 : shAll (fun _ => n) 1 = false := by simp [shAll, hsh]
    have HC2 := Lib.hid hc2
    clear hc2 hsh
    go_enter Try.func3, Try.ntmps3
    go_wp2_with fail
    obtain ⟨W, hW⟩ : ∃ W, (w.alloc (.cells #[.int .i64 lo, .int .i64 hi] 25)).alloc (.cells #[.slice b n d] 23) = W := ⟨_, rfl⟩
    have hB1 : Below w.heap.size w W := by rw [← hW]; exact hB.alloc hB.size _
    have hcell : W.cell? ⟨w.heap.size + 1, 0, none⟩ = some (.slice b n d) := by rw [← hW]; exact cell_h (al_1 w _ _) rfl
    rw [hW]
    have HB1 := Lib.hid hB1
    clear hW hB hB1
    refine (short_of W (w.heap.size + 1) 1 1 (fun _ => n) (by decide) (one_list hcell)).mono ?_
    rintro e w2 ⟨rfl, hw2⟩
    rw [hw2, HC2.out]
    clear hw2 hcell
    go_wp2_with fail
    refine (awake_of W).mono ?_
    rintro e w2 ⟨rfl, hB2⟩
    have HB := Lib.hid (HB1.out.trans (hB2.mono HB1.out.size))
    clear hB2
    go_wp2_with fail
    go_ret
    exact ⟨rfl, HB.out⟩
  | true =>
    have hn50 : n ≤ 50 := by unfold shB at hsh; rw [decide_eq_true_iff] at hsh; exact hsh.2
    have hc2 : shAll (fun _ => n) 1 = true := by simp [shAll, hsh]
    have HC2 := Lib.hid hc2
    have hlen := mis_len N M m f
    have C1 := Lib.hid (fun (W : World) (x : Sl W 2 a m f) => missing_of W N M m c a f (by omega) x)
    have C2 := Lib.hid (fun (W : World) (x : Sl W 2 a m f) => rmissing_of W N M m c a f (by omega) x)
    have C3 := Lib.hid (fun (W : World) (x : Sl W 1 b n g) => upstream_of W b n d g lo hi x hI)
    have C4 := Lib.hid (fun (W : World) (x : Sl W 1 b n g) => rupstream_of W b n d g lo hi x)
    unfold MisEnd at C1 C2
    generalize misW N M m f = L1 at C1 C2 hlen
    generalize misC N M m f = L2 at C1 C2 hlen
    generalize misE N M m f = E at C1 C2
    generalize upR n g lo hi = r at C3 C4
    obtain ⟨r1, r2, r3⟩ := r
    unfold up3 at C3 C4
    clear hc2 hsh hI hmx hm h50
    go_enter Try.func3, Try.ntmps3
    go_wp2_with fail
    obtain ⟨W, hW⟩ : ∃ W, (w.alloc (.cells #[.int .i64 lo, .int .i64 hi] 25)).alloc (.cells #[.slice b n d] 23) = W := ⟨_, rfl⟩
    have hBa : Below (w.alloc (.cells #[.int .i64 lo, .int .i64 hi] 25)).heap.size (w.alloc (.cells #[.int .i64 lo, .int .i64 hi] 25)) W := by rw [← hW]; exact (Below.refl _ _).alloc (Nat.le_refl _) _
    have hB1 : Below w.heap.size w W := hB.trans (hBa.mono hB.size)
    have hcell : W.cell? ⟨w.heap.size + 1, 0, none⟩ = some (.slice b n d) := by rw [← hW]; exact cell_h (al_1 w _ _) rfl
    have h0 : W.heap[w.heap.size]? = some (.cells #[.int .i64 lo, .int .i64 hi] 25 (0, 0)) := by rw [← hW]; exact al_old a0 _
    have hS1 := hS0.keep (by decide) hBa
    have hG1 := hG0.keep (by decide) hBa
    rw [hW]
    have HB1 := Lib.hid hB1
    have H0 := Lib.hid h0
    have HS1 := Lib.hid hS1
    have HG1 := Lib.hid hG1
    clear hW hB hB1 hBa h0 a0 hS0 hG0 hS1 hG1
    refine (short_of W (w.heap.size + 1) 1 1 (fun _ => n) (by decide) (one_list hcell)).mono ?_
    rintro e w2 ⟨rfl, hw2⟩
    rw [hw2, HC2.out]
    clear hw2 hcell
    go_wp2_with fail
    refine (C1.out W HS1.out).mono ?_
    rintro e W1 ⟨x1, c1, y1, d1, rfl, hX1, hY1, hB1⟩
    have HX1 := Lib.hid hX1
    have HY1 := Lib.hid hY1
    have HB2 := Lib.hid (HB1.out.trans (hB1.mono HB1.out.size))
    have HS2 := Lib.hid (HS1.out.keep (by decide) hB1)
    have HG2 := Lib.hid (HG1.out.keep (by decide) hB1)
    have H02 := Lib.hid ((hB1.block _ (Array.getElem?_eq_some_iff.1 H0.out).1).trans H0.out)
    clear hX1 hY1 hB1 HB1 HS1 HG1 H0
    go_wp2_with fail
    refine (C2.out W1 HS2.out).mono ?_
    rintro e W2 ⟨x2, c2, y2, d2, rfl, hX2, hY2, hB2⟩
    have HX2 := Lib.hid hX2
    have HY2 := Lib.hid hY2
    have HX1' := Lib.hid (HX1.out.keep (by decide) hB2)
    have HY1' := Lib.hid (HY1.out.keep (by decide) hB2)
    have HB3 := Lib.hid (HB2.out.trans (hB2.mono HB2.out.size))
    have HG3 := Lib.hid (HG2.out.keep (by decide) hB2)
    have h0 := (hB2.block _ (Array.getElem?_eq_some_iff.1 H02.out).1).trans H02.out
    have q0 : W2.cell? ⟨w.heap.size, 0, none⟩ = some (.int .i64 lo) := cell_h h0 rfl
    have q1 : W2.cell? ⟨w.heap.size, 1, none⟩ = some (.int .i64 hi) := cell_h h0 rfl
    have H03 := Lib.hid h0
    clear hX2 hY2 hB2 HB2 HS2 HG2 H02 HX1 HY1 h0
    go_wp2_with fail
    refine (C3.out W2 HG3.out).mono ?_
    rintro e W3 ⟨rfl, hB3⟩
    have HX1 := Lib.hid (HX1'.out.keep (by decide) hB3)
    have HY1 := Lib.hid (HY1'.out.keep (by decide) hB3)
    have HX2' := Lib.hid (HX2.out.keep (by decide) hB3)
    have HY2' := Lib.hid (HY2.out.keep (by decide) hB3)
    have HB4 := Lib.hid (HB3.out.trans (hB3.mono HB3.out.size))
    have HG4 := Lib.hid (HG3.out.keep (by decide) hB3)
    have h0 := (hB3.block _ (Array.getElem?_eq_some_iff.1 H03.out).1).trans H03.out
    clear q0 q1
    have q0 : W3.cell? ⟨w.heap.size, 0, none⟩ = some (.int .i64 lo) := cell_h h0 rfl
    have q1 : W3.cell? ⟨w.heap.size, 1, none⟩ = some (.int .i64 hi) := cell_h h0 rfl
    clear hB3 HB3 HG3 H03 HX1' HY1' HX2 HY2 h0
    go_wp2_with fail
    refine (C4.out W3 HG4.out).mono ?_
    rintro e W4 ⟨rfl, hB4⟩
    have HX1' := Lib.hid (HX1.out.keep (by decide) hB4)
    have HY1' := Lib.hid (HY1.out.keep (by decide) hB4)
    have HX2 := Lib.hid (HX2'.out.keep (by decide) hB4)
    have HY2 := Lib.hid (HY2'.out.keep (by decide) hB4)
    have HB5 := Lib.hid (HB4.out.trans (hB4.mono HB4.out.size))
    clear hB4 HB4 HG4 HX1 HY1 HX2' HY2' q0 q1
    go_wp2_with fail
    refine (equal_of W4 x1 x2 L1.length c1 c2 (nf L1) (by omega) HX1'.out HX2.out).mono ?_
    rintro e W5 ⟨rfl, hB5⟩
    have HY1 := Lib.hid (HY1'.out.keep (by decide) hB5)
    have HY2' := Lib.hid (HY2.out.keep (by decide) hB5)
    have HB6 := Lib.hid (HB5.out.trans (hB5.mono HB5.out.size))
    clear hB5 HB5 HX1' HX2 HY1' HY2
    go_wp2_with fail
    refine (equal_of W5 y1 y2 L2.length d1 d2 (nf L2) (by omega) HY1.out HY2'.out).mono ?_
    rintro e W6 ⟨rfl, hB6⟩
    have HB7 := Lib.hid (HB6.out.trans (hB6.mono HB6.out.size))
    clear hB6 HB6 HY1 HY2'
    go_wp2_with fail
    refine (awake_of W6).mono ?_
    rintro e W7 ⟨rfl, hB7⟩
    have HB := Lib.hid (HB7.out.trans (hB7.mono HB7.out.size))
    clear hB7 HB7
    go_wp2_with fail
    go_ret
    exact ⟨rfl, HB.out⟩
end Go.Proofs.Yteinabcklmpcjaa
