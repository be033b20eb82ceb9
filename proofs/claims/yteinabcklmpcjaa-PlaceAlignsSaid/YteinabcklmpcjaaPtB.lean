/-
  WALKS: Align of a problem with an error; the law of alignments.
-/
import Derived.Test.YteinabcklmpcjaaPtA
import Derived.Test.YteinabcklmpcjaaPsF
namespace Go.Proofs.Yteinabcklmpcjaa
open Go.RowKit

set_option maxRecDepth 100000 in
set_option maxHeartbeats 4000000 in
theorem align_err (w : World) (wa ha : Option Addr) (n wc m hc : Nat) (g h : Nat → Int) (L F M : Int) (s1 : Sl w 1 wa n g) (s2 : Sl w 1 ha m h) (i1 : I64s g n) (i2 : I64s h m) (hp : pbChk n m g h L F M ≠ 0) :
    Calls Try.prog 40 #[.slice wa n wc, .slice ha m hc, .agg #[.int .i64 L, .int .i64 F, .int .i64 M]] w fun e w' => e = .returned (.tuple #[.slice none 0 0, .int .i64 0, .int .i64 (pbChk n m g h L F M)]) ∧ Below w.heap.size w w' := by
  have hB : Below w.heap.size w (w.alloc (.cells #[.int .i64 L, .int .i64 F, .int .i64 M] 36)) := (Below.refl _ w).alloc (Nat.le_refl _) _
  have HC := Lib.hid (checkProblem_of _ wa ha n wc m hc g h L F M (s1.keep (by decide) hB) (s2.keep (by decide) hB) i1 i2)
  have hne : (pbChk n m g h L F M == 0) = false := by simpa using hp
  have hne2 : (pbChk n m g h L F M != 0) = true := by simpa using hp
  clear s1 s2 i1 i2 hp
  generalize pbChk n m g h L F M = R at HC hne hne2 ⊢
  go_enter Try.func40, Try.ntmps40
  go_wp2_with fail
  refine HC.out.mono ?_
  rintro e w2 ⟨rfl, hB2⟩
  have HB := Lib.hid (hB.trans (hB2.mono hB.size))
  clear hB hB2
  go_wp2_with fail
  exact bodyPost_ret (v := .tuple #[.slice none 0 0, .int .i64 0, .int .i64 R]) (by simp [results, Try.f40, go_sem]) rfl ⟨rfl, HB.out⟩

/-- A row of its own of pairs is a slice of them. -/
theorem own_Sl2 {W : World} {B : Nat} {v : Value} {l : List (Nat × Nat)} {k : Nat} (h : W.ownsRow B 107 2 v k (pcells l)) (hk : k = l.length) : ∃ x c, v = .slice x l.length c ∧ Sl W 2 x l.length (pcF l) := by
  subst hk
  cases l with
  | nil =>
    rcases h.2 with ⟨rfl, _⟩ | ⟨g, cap, cur, rfl, _⟩
    · exact ⟨none, 0, rfl, fun h => absurd h (by decide)⟩
    · exact ⟨some ⟨g, 0, none⟩, cap, rfl, fun h => absurd h (by decide)⟩
  | cons a l =>
    obtain ⟨g, cap, rfl⟩ := ownsRow_succ h
    refine ⟨some ⟨g, 0, none⟩, cap, rfl, fun _ => ⟨g, 0, rfl, fun i hi => ?_⟩⟩
    rw [Nat.zero_add, World.ownsRow.cellAt h i (by simpa using hi)]
    unfold pcells
    rw [List.getElem?_map, List.getElem?_range (by simpa using hi)]
    rfl

set_option maxRecDepth 100000 in
set_option maxHeartbeats 8000000 in
theorem aligns_law (w : World) (wa ha : Option Addr) (n wc m hc : Nat) (g h : Nat → Int) (L F M : Int) (s1 : Sl w 1 wa n g) (s2 : Sl w 1 ha m h) (i1 : I64s g n) (i2 : I64s h m) :
    Calls Try.prog 10 #[.slice wa n wc, .slice ha m hc, .agg #[.int .i64 L, .int .i64 F, .int .i64 M]] w fun e w' => e = .returned (.bool true) ∧ Below w.heap.size w w' := by
  obtain ⟨W, hW⟩ : ∃ W, (w.alloc (.cells #[.int .i64 L, .int .i64 F, .int .i64 M] 36)).alloc (.cells #[.slice wa n wc, .slice ha m hc] 23) = W := ⟨_, rfl⟩
  have hB1 : Below w.heap.size w W := by rw [← hW]; exact ((Below.refl _ w).alloc (Nat.le_refl _) _).alloc (by simp) _
  have a0 : W.heap[w.heap.size]? = some (.cells #[.int .i64 L, .int .i64 F, .int .i64 M] 36 (0, 0)) := by rw [← hW]; exact al_old (World.alloc_heap_new w _) _
  have c0 : W.cell? ⟨w.heap.size + 1, 0, none⟩ = some (.slice wa n wc) := by rw [← hW]; exact cell_h (al_1 w _ _) rfl
  have c1 : W.cell? ⟨w.heap.size + 1, 1, none⟩ = some (.slice ha m hc) := by rw [← hW]; exact cell_h (al_1 w _ _) rfl
  have HC := Lib.hid (short_of W (w.heap.size + 1) 2 2 (fun i => if i = 0 then n else m) (by decide) (two_list c0 c1))
  have HA := Lib.hid a0
  have HB1 := Lib.hid hB1
  have HW := Lib.hid hW
  have S1 := Lib.hid (s1.keep (by decide) hB1)
  have S2 := Lib.hid (s2.keep (by decide) hB1)
  clear c0 c1 a0 hB1 hW s1 s2
  cases hsh : shAll (fun i => if i = 0 then n else m) 2 with
  | false =>
    rw [hsh] at HC
    clear hsh S1 S2 HA i1 i2
    go_enter Try.func10, Try.ntmps10
    go_wp2_with fail
    rw [HW.out]
    refine HC.out.mono ?_
    rintro e w2 ⟨rfl, hw2⟩
    rw [hw2]
    clear hw2
    go_wp2_with fail
    refine (awake_of W).mono ?_
    rintro e w2 ⟨rfl, hB2⟩
    have HB := Lib.hid (HB1.out.trans (hB2.mono HB1.out.size))
    clear hB2
    go_wp2_with fail
    go_ret
    exact ⟨rfl, HB.out⟩
  | true =>
    rw [hsh] at HC
    have hnm : (n ≤ 12 ∨ 40 < n) ∧ (m ≤ 12 ∨ 40 < m) ∧ n ≤ 50 ∧ m ≤ 50 := by
      simp only [shAll, Bool.true_and, Bool.and_eq_true, shB, decide_eq_true_iff] at hsh
      simp at hsh
      omega
    clear hsh
    by_cases h0 : pbChk n m g h L F M = 0
    · have hok := (pb_ok h0).1
      have hn40 := hok.n40
      have hm40 := hok.m40
      obtain ⟨l, hl⟩ : ∃ l, l = (bkP (prc L F M g h) L F M g h (n + m) n m).reverse := ⟨_, rfl⟩
      obtain ⟨hcE, hcV⟩ := align_cost h0 hl
      have hlen : l.length ≤ 12 := by
        have := bkP_len L F M g h (n + m) n m
        rw [hl, List.length_reverse]
        omega
      have C1 : Hid (∀ X : World, Sl X 1 wa n g → Sl X 1 ha m h → Calls Try.prog 40 #[.slice wa n wc, .slice ha m hc, .agg #[.int .i64 L, .int .i64 F, .int .i64 M]] X fun e W' => ∃ x c, e = .returned (.tuple #[.slice x l.length c, .int .i64 (prc L F M g h n m), .int .i64 0]) ∧ Sl W' 2 x l.length (pcF l) ∧ Below X.heap.size X W') := fun X x y => by
        refine (align_ok X wa ha n wc m hc g h L F M x y i1 i2 h0).mono ?_
        rintro e W' ⟨v, rfl, hO, hb⟩
        rw [← hl] at hO
        obtain ⟨x, c, rfl, hx⟩ := own_Sl2 hO (by rw [hl, List.length_reverse])
        exact ⟨x, c, rfl, hx, hb⟩
      have C2 : Hid (∀ X : World, Sl X 1 wa n g → Sl X 1 ha m h → Calls Try.prog 25 #[.slice wa n wc, .slice ha m hc, .agg #[.int .i64 L, .int .i64 F, .int .i64 M]] X fun e W' => ∃ bt rb, e = .returned (.tuple #[.slice (some ⟨bt, 0, none⟩) (n + 1) (n + 1), .int .i64 0]) ∧ Tbl X.heap.size W' bt n m rb (prc L F M g h) (n + 1) ∧ Below X.heap.size X W') := fun X x y => by
        refine (rprices_of X wa ha n wc m hc g h L F M x y).mono ?_
        rintro e W' (⟨hz, _⟩ | ⟨_, he⟩)
        · exact absurd h0 hz
        · exact he
      have C3 : Hid (∀ (X : World) (x : Option Addr) (c : Nat), Sl X 1 wa n g → Sl X 1 ha m h → Sl X 2 x l.length (pcF l) → Calls Try.prog 23 #[.slice wa n wc, .slice ha m hc, .agg #[.int .i64 L, .int .i64 F, .int .i64 M], .slice x l.length c] X fun e W' => e = .returned (.tuple #[.int .i64 (prc L F M g h n m), .int .i64 0]) ∧ Below X.heap.size X W') := fun X x c y z t => by
        have := rcost_of X wa ha x n wc m hc l.length c g h (pcF l) L F M y z t (by omega)
        rw [hcE, hcV] at this
        exact this
      obtain ⟨P, hP⟩ : ∃ P, prc L F M g h n m = P := ⟨_, rfl⟩
      rw [hP] at C1 C3
      have HPq := Lib.hid hP
      generalize l.length = len at C1 C3
      clear i1 i2 hnm h0 hok hl hcE hcV hlen hP
      go_enter Try.func10, Try.ntmps10
      go_wp2_with fail
      rw [HW.out]
      refine HC.out.mono ?_
      rintro e w2 ⟨rfl, hw2⟩
      rw [hw2]
      have x0 : W.cell? ⟨w.heap.size, 0, none⟩ = some (.int .i64 L) := cell_h HA.out rfl
      have x1 : W.cell? ⟨w.heap.size, 1, none⟩ = some (.int .i64 F) := cell_h HA.out rfl
      have x2 : W.cell? ⟨w.heap.size, 2, none⟩ = some (.int .i64 M) := cell_h HA.out rfl
      clear hw2 HC HW
      go_wp2_with fail
      refine (C1.out W S1.out S2.out).mono ?_
      rintro e W2 ⟨x, c, rfl, hx, hB2⟩
      have a0 := (hB2.block _ (Array.getElem?_eq_some_iff.1 HA.out).1).trans HA.out
      have HA2 := Lib.hid a0
      have HB2 := Lib.hid (HB1.out.trans (hB2.mono HB1.out.size))
      have T1 := Lib.hid (S1.out.keep (by decide) hB2)
      have T2 := Lib.hid (S2.out.keep (by decide) hB2)
      have HX := Lib.hid hx
      clear x0 x1 x2
      have x0 : W2.cell? ⟨w.heap.size, 0, none⟩ = some (.int .i64 L) := cell_h a0 rfl
      have x1 : W2.cell? ⟨w.heap.size, 1, none⟩ = some (.int .i64 F) := cell_h a0 rfl
      have x2 : W2.cell? ⟨w.heap.size, 2, none⟩ = some (.int .i64 M) := cell_h a0 rfl
      clear a0 hB2 S1 S2 HA HB1 C1 hx
      go_wp2_with fail
      refine (C2.out W2 T1.out T2.out).mono ?_
      rintro e W3 ⟨bt, rb, rfl, hT, hB3⟩
      have a0 := (hB3.block _ (Array.getElem?_eq_some_iff.1 HA2.out).1).trans HA2.out
      have HB := Lib.hid (HB2.out.trans (hB3.mono HB2.out.size))
      have S1 := Lib.hid (T1.out.keep (by decide) hB3)
      have S2 := Lib.hid (T2.out.keep (by decide) hB3)
      have HX3 := Lib.hid (HX.out.keep (by decide) hB3)
      have HT := Lib.hid hT
      clear x0 x1 x2
      have x0 : W3.cell? ⟨w.heap.size, 0, none⟩ = some (.int .i64 L) := cell_h a0 rfl
      have x1 : W3.cell? ⟨w.heap.size, 1, none⟩ = some (.int .i64 F) := cell_h a0 rfl
      have x2 : W3.cell? ⟨w.heap.size, 2, none⟩ = some (.int .i64 M) := cell_h a0 rfl
      clear a0 hB3 T1 T2 HA2 HB2 C2 HX hT
      go_wp2_with fail
      refine (C3.out W3 x c S1.out S2.out HX3.out).mono ?_
      rintro e W4 ⟨rfl, hB4⟩
      have HB4 := Lib.hid (HB.out.trans (hB4.mono HB.out.size))
      have hT4 := HT.out.keep hB4
      have q1 := hT4.tb.cell (k := n) (by omega)
      have z1 : rwG m rb (n + 1) n = .slice (some ⟨rb n, 0, none⟩) (m + 1) (m + 1) := by unfold rwG; rw [if_pos (by omega)]
      rw [z1] at q1
      have q2 := (hT4.rw n (by omega)).1.cell (k := m) (by omega)
      rw [HPq.out] at q2
      have n1 : (n : Int) < (n : Int) + 1 := by omega
      have n2 : (n : Int) < ((n + 1 : Nat) : Int) := by omega
      have m1 : (m : Int) < (m : Int) + 1 := by omega
      have m2 : (m : Int) < ((m + 1 : Nat) : Int) := by omega
      clear hB4 hT4 z1 x0 x1 x2 HX3 HT HB S1 S2 C3
      go_wp2_with fail
      refine (awake_of W4).mono ?_
      rintro e W6 ⟨rfl, hB6⟩
      have HB5 := Lib.hid (HB4.out.trans (hB6.mono HB4.out.size))
      clear hB6
      go_wp2_with fail
      go_ret
      exact ⟨rfl, HB5.out⟩
    · have C1 := Lib.hid (fun (X : World) (x : Sl X 1 wa n g) (y : Sl X 1 ha m h) => align_err X wa ha n wc m hc g h L F M x y i1 i2 h0)
      have C2 : Hid (∀ X : World, Sl X 1 wa n g → Sl X 1 ha m h → Calls Try.prog 25 #[.slice wa n wc, .slice ha m hc, .agg #[.int .i64 L, .int .i64 F, .int .i64 M]] X fun e W' => e = .returned (.tuple #[.slice none 0 0, .int .i64 (pbChk n m g h L F M)]) ∧ Below X.heap.size X W') := fun X x y => by
        refine (rprices_of X wa ha n wc m hc g h L F M x y).mono ?_
        rintro e W' (⟨_, he, hb⟩ | ⟨hz, _⟩)
        · exact ⟨he, hb⟩
        · exact absurd hz h0
      have hne : (pbChk n m g h L F M == 0) = false := by simpa using h0
      have hne2 : (pbChk n m g h L F M != 0) = true := by simpa using h0
      clear i1 i2 hnm h0
      generalize pbChk n m g h L F M = R at C1 C2 hne hne2
      go_enter Try.func10, Try.ntmps10
      go_wp2_with fail
      rw [HW.out]
      refine HC.out.mono ?_
      rintro e w2 ⟨rfl, hw2⟩
      rw [hw2]
      have x0 : W.cell? ⟨w.heap.size, 0, none⟩ = some (.int .i64 L) := cell_h HA.out rfl
      have x1 : W.cell? ⟨w.heap.size, 1, none⟩ = some (.int .i64 F) := cell_h HA.out rfl
      have x2 : W.cell? ⟨w.heap.size, 2, none⟩ = some (.int .i64 M) := cell_h HA.out rfl
      clear hw2 HC HW
      go_wp2_with fail
      refine (C1.out W S1.out S2.out).mono ?_
      rintro e W2 ⟨rfl, hB2⟩
      have a0 := (hB2.block _ (Array.getElem?_eq_some_iff.1 HA.out).1).trans HA.out
      have HB2 := Lib.hid (HB1.out.trans (hB2.mono HB1.out.size))
      have T1 := Lib.hid (S1.out.keep (by decide) hB2)
      have T2 := Lib.hid (S2.out.keep (by decide) hB2)
      clear x0 x1 x2
      have x0 : W2.cell? ⟨w.heap.size, 0, none⟩ = some (.int .i64 L) := cell_h a0 rfl
      have x1 : W2.cell? ⟨w.heap.size, 1, none⟩ = some (.int .i64 F) := cell_h a0 rfl
      have x2 : W2.cell? ⟨w.heap.size, 2, none⟩ = some (.int .i64 M) := cell_h a0 rfl
      clear a0 hB2 S1 S2 HA HB1 C1
      go_wp2_with fail
      refine (C2.out W2 T1.out T2.out).mono ?_
      rintro e W3 ⟨rfl, hB3⟩
      have HB := Lib.hid (HB2.out.trans (hB3.mono HB2.out.size))
      clear x0 x1 x2 hB3 T1 T2 HB2 C2
      go_wp2_with fail
      refine (awake_of W3).mono ?_
      rintro e W6 ⟨rfl, hB6⟩
      have HB5 := Lib.hid (HB.out.trans (hB6.mono HB.out.size))
      clear hB6
      go_wp2_with fail
      go_ret
      exact ⟨rfl, HB5.out⟩
end Go.Proofs.Yteinabcklmpcjaa
