/-
  WALKS AND WORDS: Text1 TextI of my texts, one behind the other.
-/
import Derived.Test.YtmdniebedflpbaaDoorDyI
import Derived.LoopN
import Derived.Test.YtmdniebedflpbaaDoorDyH
-- Text1: WALKS: texts of numbers of one decimal digit: FormatUint, Reverse and Join of one string.
namespace Go.Proofs.YtmdniebedflpbaaDoor.Dy
open Go.RowKit

/-- The text of a decimal digit. -/
def digit (d : Nat) : ByteArray := ⟨#[UInt8.ofNat (48 + d)]⟩

theorem small_digit (w : World) (d : Nat) (hd : d ≤ 9) :
    Calls Tryd.prog 66 #[.int .i64 (d : Int)] w fun e w' => e = .returned (.string (digit d)) ∧ w' = w := by
  rcases (by omega : d = 0 ∨ d = 1 ∨ d = 2 ∨ d = 3 ∨ d = 4 ∨ d = 5 ∨ d = 6 ∨ d = 7 ∨ d = 8 ∨ d = 9) with rfl | rfl | rfl | rfl | rfl | rfl | rfl | rfl | rfl | rfl <;>
  · go_enter Tryd.func66, Tryd.ntmps66
    go_wp2
    go_ret
    exact ⟨rfl, rfl⟩

theorem format_inner (w : World) (d : Nat) (hd : d ≤ 9) :
    Calls Tryd.prog 57 #[.int .u64 (d : Int), .int .i64 10] w fun e w' => e = .returned (.string (digit d)) ∧ w' = w := by
  go_enter Tryd.func57, Tryd.ntmps57
  go_wp2_with fail
  refine (small_digit w d hd).mono ?_
  rintro e w' ⟨rfl, rfl⟩
  go_wp2
  go_ret
  exact ⟨rfl, rfl⟩

theorem format_digit (w : World) (d : Nat) (hd : d ≤ 9) :
    Calls Tryd.prog 47 #[.int .u64 (d : Int), .int .i64 10] w fun e w' => e = .returned (.string (digit d)) ∧ w' = w := by
  go_enter Tryd.func47, Tryd.ntmps47
  go_wp2_with fail
  refine (format_inner w d hd).mono ?_
  rintro e w' ⟨rfl, rfl⟩
  go_wp2
  go_ret
  exact ⟨rfl, rfl⟩

theorem reverse_one (w : World) (a : Option Addr) (c : Nat) :
    Calls Tryd.prog 51 #[.slice a 1 c] w fun e w' => e = .returned (.tuple #[]) ∧ w' = w := by
  go_enter Tryd.func51, Tryd.ntmps51
  go_wp2
  refine wp_loop_rounds 1 ?_
  rw [rounds_succ]
  go_wp2
  (try simp only [Exit.inBlock, Exit.then])
  exact bodyPost_end (results_none rfl _ _ _) rfl ⟨rfl, rfl⟩

theorem join_one (w : World) (b o c : Nat) (s : ByteArray) (h : w.cell? ⟨b, o, none⟩ = some (.string s)) :
    Calls Tryd.prog 52 #[.slice (some ⟨b, o, none⟩) 1 c, .string ⟨#[]⟩] w fun e w' => e = .returned (.string s) ∧ w' = w := by
  go_enter Tryd.func52, Tryd.ntmps52
  go_wp2
  go_ret
  exact ⟨rfl, rfl⟩

theorem digit_len {m : Nat} (h : m ≤ 9) (L : Nat) : Len m (L + 1) := by
  unfold Len
  have : base ^ 1 ≤ base ^ (L + 1) := Nat.pow_le_pow_right (by decide) (by omega)
  have h2 : (10 : Nat) ≤ base ^ 1 := by decide
  omega

theorem len_ten {L : Nat} (hL : 0 < L) : Len 10000000000000000000 L :=
  Nat.lt_of_lt_of_le (by decide : 10000000000000000000 < base ^ 1) (Nat.pow_le_pow_right (by decide) hL)
set_option maxRecDepth 8000 in
theorem decimal_digit (w : World) (p : Option Addr) (n c m : Nat) (h : Nt w (.slice p n c) m) (h0 : m ≠ 0) (h9 : m ≤ 9) :
    Calls Tryd.prog 33 #[.slice p n c] w (Ret w fun _ v => v = .string (digit m)) := by
  rcases h with ⟨hx, _⟩ | ⟨b, o, n, k, f, hx, hn, hk, hr, hs, hl, rfl⟩
  · exact absurd ‹_› h0
  injection hx with hx1 hx2 hx3
  subst hx1 hx2 hx3
  have hm := digit_len h9 0
  have hnL : n ≤ 1 := by
    have := Nt.of_row hn hk hr hs hl
    have h1 : Len (val f n) 1 := hm
    exact len_le hn hl h1
  obtain rfl : n = 1 := by omega
  have hv0 : val f 1 = f 0 := by simp [val]
  rw [hv0] at h0 h9 ⊢
  clear hm hl hs hn hnL hv0
  have H := Lib.hid hr
  clear hr
  go_enter Tryd.func33, Tryd.ntmps33
  go_wp2_with fail
  refine (clone_row w b o 1 c f (by omega) H.out).mono ?_
  rintro e w1 ⟨g, cap, rfl, hg, hcap, hW1, hR1, hb1⟩
  have hc1 := hR1 0 (by omega)
  have hw1 : w1.cell? ⟨g, 0, none⟩ = some (.int .u64 (f 0 : Int)) := hc1
  have hN1 : Nt w1 (.slice (some ⟨g, 0, none⟩) 1 cap) (f 0) := by
    have h := Nt.of_row (w := w1) (b := g) (o := 0) (n := 1) (cap := cap) (f := f) (by omega) hcap hR1 (fun i hi => by
      obtain rfl : i = 0 := by omega
      have : (10 : Nat) ≤ base := by decide
      omega) h0
    have e : val f 1 = f 0 := by simp [val]
    rwa [e] at h
  have HN1 := Lib.hid hN1
  have HB1 := Lib.hid hb1
  clear hN1 hb1 hc1 hW1 hR1 hcap
  go_wp2
  refine wp_loop_rounds 1 ?_
  rw [rounds_succ]
  go_wp2_with fail
  refine (natural_nt w1 10000000000000000000 (by decide)).mono ?_
  rintro e w2 ⟨v2, rfl, hv2, hb2⟩
  have hL0 := digit_len h9 999999999999
  have hb : (10 : Nat) ≤ base := by decide
  go_wp2_with fail
  refine (compare_nt w2 _ v2 (f 0) 10000000000000000000 (HN1.out.keep hb2) hv2 hL0 (len_ten (by omega))).mono ?_
  rintro e w3 ⟨rfl, hq3⟩
  have hcmp : cmpN (f 0) 10000000000000000000 = -1 := by unfold cmpN; rw [if_pos (by omega)]
  rw [hcmp]
  have hb3 : Below w1.heap.size w1 w3 := hb2.trans ((hq3.below _).mono hb2.size)
  have hmod : f 0 % base = f 0 := Nat.mod_eq_of_lt (by omega)
  have HN3 : Hid (Nt w3 (.slice (some ⟨g, 0, none⟩) 1 cap) (f 0)) := HN1.out.keep hb3
  have HB3 : Hid (Below w.heap.size w w3) := HB1.out.trans (hb3.mono HB1.out.size)
  clear hb2 hq3 hb3 hv2
  go_wp2_with fail
  refine (word_nt w3 _ (f 0) HN3.out hL0).mono ?_
  rintro e w4 ⟨rfl, rfl⟩
  rw [hmod]
  go_wp2_with fail
  refine (format_digit w4 (f 0) h9).mono ?_
  rintro e w5 ⟨rfl, rfl⟩
  clear hmod hcmp hb hL0 h0 HN1 HN3
  go_wp2_with fail
  generalize (Question.appendCap 1 0 9).cut (w5.tape w5.drawn (Question.appendCap 1 0 9)) = cap2
  obtain ⟨W, hW⟩ : ∃ W, W = ((w5.alloc (.cells #[.string (digit (f 0))] 9)).alloc (.cells (#[.string (digit (f 0))] ++ Builtin.zeroCells #[.string ⟨#[]⟩] (cap2 - 1)) 9)).drew := ⟨_, rfl⟩
  rw [← hW]
  have hBW : Hid (Below w.heap.size w W) := by rw [hW]; exact ((HB3.out.alloc HB3.out.size _).alloc (by simp; have := HB3.out.size; omega) _).drew
  have hcW : W.cell? ⟨w5.heap.size + 1, 0, none⟩ = some (.string (digit (f 0))) := by
    rw [hW]
    show ((w5.alloc (.cells #[.string (digit (f 0))] 9)).alloc (.cells (#[.string (digit (f 0))] ++ Builtin.zeroCells #[.string ⟨#[]⟩] (cap2 - 1)) 9)).cell? _ = _
    rw [show w5.heap.size + 1 = (w5.alloc (.cells #[.string (digit (f 0))] 9)).heap.size by simp, cell_of_row _ _ _ _ _ _ (heap_alloc_new _ _)]
    rw [Array.getElem?_append_left (by simp)]
    rfl
  clear hW
  refine (reverse_one W _ cap2).mono ?_
  rintro e w6 ⟨rfl, rfl⟩
  go_wp2_with fail
  refine (join_one w6 _ 0 cap2 _ hcW).mono ?_
  rintro e w7 ⟨rfl, rfl⟩
  go_wp2
  go_ret
  exact ⟨_, rfl, rfl, hBW.out⟩
end Go.Proofs.YtmdniebedflpbaaDoor.Dy
-- TextI: WALKS: the text of a whole number of one decimal digit; the program calculates at all: 2 + 3 is written as 5.
namespace Go.Proofs.YtmdniebedflpbaaDoor.Dy
open Go.RowKit

theorem digit_lenI {m L : Nat} (h : m ≤ 9) (hL : 0 < L) : Len m L := by
  obtain ⟨k, rfl⟩ : ∃ k, L = k + 1 := ⟨L - 1, by omega⟩
  exact digit_len h k
set_option maxRecDepth 8000 in
set_option maxHeartbeats 1600000 in
theorem text_int (w : World) (p : Option Addr) (n c m e d : Nat) (h : Nt w (.slice p n c) m) (hd : m * 2 ^ e = d) (h0 : d ≠ 0) (h9 : d ≤ 9) (he : e ≤ 3) :
    Calls Tryd.prog 13 #[.agg #[.bool false, .slice p n c, .int .i64 (e : Int)]] w (Ret w fun _ v => v = .string (digit d)) := by
  have hm9 : m ≤ 9 := by
    have : m * 1 ≤ m * 2 ^ e := Nat.mul_le_mul_left m (Nat.one_le_two_pow)
    omega
  have H := Lib.hid h
  have hmax : max (e : Int) 0 = (e : Int) := by omega
  have hlt : (decide ((e : Int) < 0)) = false := by rw [decide_eq_false_iff_not]; omega
  have HD := Lib.hid hd
  clear h hd
  go_enter Tryd.func13, Tryd.ntmps13
  go_wp2_with fail
  obtain ⟨W, hW⟩ : ∃ W, W = w.alloc (.cells #[.bool false, .slice p n c, .int .i64 (e : Int)] 51) := ⟨_, rfl⟩
  rw [← hW]
  have hB0 : Below w.heap.size w W := by rw [hW]; exact (Below.refl _ _).alloc (Nat.le_refl _) _
  have hsz : W.heap.size = w.heap.size + 1 := by rw [hW]; simp
  have x0 : W.cell? ⟨w.heap.size, 0, none⟩ = some (.bool false) := by rw [hW]; go_simp
  have x1 : W.cell? ⟨w.heap.size, 1, none⟩ = some (.slice p n c) := by rw [hW]; go_simp
  have x2 : W.cell? ⟨w.heap.size, 2, none⟩ = some (.int .i64 (e : Int)) := by rw [hW]; go_simp
  have hz : w.heap.size < W.heap.size := by omega
  have HB0 := Lib.hid hB0
  clear hW hsz hB0
  have hl : Calls Tryd.prog 29 #[.slice p n c, .int .i64 (e : Int)] W (Ret W fun w' v => Nt w' v d) := by
    have h := left_nt W (.slice p n c) m e (H.out.keep HB0.out) (digit_lenI hm9 (by omega)) (by omega)
    rwa [HD.out] at h
  refine hl.mono ?_
  rintro e1 w1 ⟨v1, rfl, hv1, hb1⟩
  obtain ⟨q1, l1, c1, rfl⟩ := hv1.slice
  go_wp2_with fail
  refine (decimal_digit w1 q1 l1 c1 d hv1 h0 h9).mono ?_
  rintro e2 w2 ⟨v2, rfl, rfl, hb2⟩
  have hB2 : Below W.heap.size W w2 := hb1.trans (hb2.mono hb1.size)
  obtain ⟨hcc, hff⟩ := bcell hB2
  have HW2 : Hid (Below w.heap.size w w2) := HB0.out.trans (hB2.mono HB0.out.size)
  have hK0 : w2.cell? ⟨w.heap.size, 0, none⟩ = some (.bool false) := (hcc _ _ hz).trans x0
  have hK2 : w2.cell? ⟨w.heap.size, 2, none⟩ = some (.int .i64 (e : Int)) := (hcc _ _ hz).trans x2
  clear hb1 hb2 hB2 hv1 hl hcc hff x0 x1 x2
  go_wp2_with fail
  go_ret
  exact ⟨_, rfl, rfl, HW2.out⟩

set_option maxHeartbeats 1600000 in
theorem whole_of (w : World) (n : Int) (h : I64 n) (hT : Tab w) :
    Calls Tryd.prog 11 #[.int .i64 n] w (Ret w fun w' v => Nm w' v (mk n 0)) := by
  have HT := Lib.hid hT
  have HI := Lib.hid h
  clear hT h
  go_enter Tryd.func11, Tryd.ntmps11
  go_wp2_with fail
  refine (int_nm _ n HI.out (HT.out.keep ((Below.refl _ _).alloc (Nat.le_refl _) _))).mono ?_
  rintro e1 w1 ⟨v1, rfl, hv1, hb1⟩
  have hb0 : Hid (Below w.heap.size w w1) := ((Below.refl _ _).alloc (Nat.le_refl _) _).trans (hb1.mono (by simp))
  obtain ⟨hcc, hff⟩ := bcell hb1
  have HND : Hid (NoDig w1 w.heap.size) := (noDig_at rfl).keep hb1 (by simp)
  have hz : w.heap.size < w1.heap.size := by have := hb1.size; simp at this; omega
  have H4 := Lib.hid hv1
  obtain ⟨a4, p4, n4, k4, e4, m4, rfl, _, _⟩ := hv1.fields
  clear hb1 hv1
  go_wp2
  refine bodyPost_ret (v := .agg #[.bool a4, .slice p4 n4 k4, .int .i64 e4]) (by simp [results, Tryd.results11, go_sem, hcc]) rfl ⟨_, rfl, H4.out.laid HND.out, ?_⟩
  exact ((hb0.out.setCell (by simp) _).setCell (by simp) _).setCell (by simp) _
theorem box_small {n : Int} {A : Nat} (h : n.natAbs < 2 ^ A) : Box (mk n 0) A 0 := ⟨n, rfl, h⟩
theorem canon_odd {neg : Bool} {m : Nat} {e : Int} {n : Nat} {f : Int} (h : Canon neg m e (mk (n : Int) f)) (hn : n % 2 = 1) : neg = false ∧ m = n ∧ e = f :=
  h.inj (.inr ⟨hn, rfl⟩ : Canon false n f (mk (n : Int) f)) |>.2 rfl
set_option maxRecDepth 100000 in
set_option maxHeartbeats 4000000 in
theorem adds_of (w : World) (hT : Tab w) : Calls Tryd.prog 4 #[] w fun e w' => e = .returned (.bool true) ∧ Below w.heap.size w w' := by
  have HT := Lib.hid hT
  clear hT
  go_enter Tryd.func4, Tryd.ntmps4
  go_wp2_with fail
  refine (whole_of w 2 (by unfold I64; omega) HT.out).mono ?_
  rintro e w1 ⟨v1, rfl, hv1, hb1⟩
  have H1 := Lib.hid hv1
  have HB1 := Lib.hid hb1
  obtain ⟨a1, p1, n1, k1, e1, m1, rfl, _, _⟩ := hv1.fields
  clear hv1 hb1
  go_wp2_with fail
  refine (whole_of w1 3 (by unfold I64; omega) (HT.out.keep HB1.out)).mono ?_
  rintro e w2 ⟨v2, rfl, hv2, hb2⟩
  have H2 := Lib.hid hv2
  have H12 := Lib.hid (H1.out.keep hb2)
  have HB2 := Lib.hid (HB1.out.trans (hb2.mono HB1.out.size))
  obtain ⟨a2, p2, n2, k2, e2, m2, rfl, _, _⟩ := hv2.fields
  clear hv2 hb2
  go_wp2_with fail
  refine (add_nm w2 _ _ (mk 2 0) (mk 3 0) 3 0 3 0 H12.out H2.out (box_small (by decide)) (box_small (by decide)) (by omega) (HT.out.keep HB2.out)).mono ?_
  rintro e w3 ⟨v3, rfl, hv3, hb3⟩
  rw [mk_add] at hv3
  have HB3 := Lib.hid (HB2.out.trans (hb3.mono HB2.out.size))
  obtain ⟨a3, p3, n3, k3, e3, m3, rfl, hn3, hc3⟩ := hv3.fields
  obtain ⟨rfl, rfl, rfl⟩ := canon_odd (n := 5) hc3 (by decide)
  have HN := Lib.hid hn3
  clear hv3 hb3 hn3 hc3
  go_wp2_with fail
  refine (text_int w3 p3 n3 k3 5 0 5 HN.out (by decide) (by decide) (by decide) (by decide)).mono ?_
  rintro e w4 ⟨v4, rfl, rfl, hb4⟩
  have HB4 := Lib.hid (HB3.out.trans (hb4.mono HB3.out.size))
  rw [show digit 5 = ⟨#[53]⟩ from rfl]
  clear hb4
  go_wp2
  go_ret
  exact ⟨rfl, HB4.out⟩
end Go.Proofs.YtmdniebedflpbaaDoor.Dy
