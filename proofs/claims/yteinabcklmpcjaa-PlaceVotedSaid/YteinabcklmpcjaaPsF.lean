/-
  WALKS: the law of the costs and prices.
-/
import Derived.Test.YteinabcklmpcjaaPrK
import Derived.Test.YteinabcklmpcjaaPsC
import Derived.Test.YteinabcklmpcjaaPsE
import Derived.StillTailTactics
namespace Go.Proofs.Yteinabcklmpcjaa
open Go.RowKit

theorem two_list {w : World} {B n m d e : Nat} {a b : Option Addr} (h0 : w.cell? ⟨B, 0, none⟩ = some (.slice a n d)) (h1 : w.cell? ⟨B, 1, none⟩ = some (.slice b m e)) : ∀ i, i < 2 → ∃ x y, w.cell? ⟨B, i, none⟩ = some (.slice x ((fun i => if i = 0 then n else m) i) y) := fun i hi => by
  by_cases e0 : i = 0
  · subst e0; exact ⟨a, d, h0⟩
  · obtain rfl : i = 1 := by omega
    exact ⟨b, e, h1⟩

set_option maxRecDepth 100000 in
set_option maxHeartbeats 8000000 in
theorem costs_law (w : World) (wa ha pa : Option Addr) (n wc m hc p pc : Nat) (g h f : Nat → Int) (L F M : Int) (s1 : Sl w 1 wa n g) (s2 : Sl w 1 ha m h) (s3 : Sl w 2 pa p f) (i1 : I64s g n) (i2 : I64s h m) (hp : p ≤ maxLen) :
    Calls Try.prog 4 #[.slice wa n wc, .slice ha m hc, .agg #[.int .i64 L, .int .i64 F, .int .i64 M], .slice pa p pc] w fun e w' => e = .returned (.bool true) ∧ Below w.heap.size w w' := by
  have hmx : maxLen = 9223372036854775807 := rfl
  obtain ⟨W, hW⟩ : ∃ W, (w.alloc (.cells #[.int .i64 L, .int .i64 F, .int .i64 M] 36)).alloc (.cells #[.slice wa n wc, .slice ha m hc] 23) = W := ⟨_, rfl⟩
  have hB1 : Below w.heap.size w W := by rw [← hW]; exact ((Below.refl _ w).alloc (Nat.le_refl _) _).alloc (by simp) _
  have a0 : W.heap[w.heap.size]? = some (.cells #[.int .i64 L, .int .i64 F, .int .i64 M] 36 (0, 0)) := by rw [← hW]; exact al_old (World.alloc_heap_new w _) _
  have c0 : W.cell? ⟨w.heap.size + 1, 0, none⟩ = some (.slice wa n wc) := by rw [← hW]; exact cell_h (al_1 w _ _) rfl
  have c1 : W.cell? ⟨w.heap.size + 1, 1, none⟩ = some (.slice ha m hc) := by rw [← hW]; exact cell_h (al_1 w _ _) rfl
  have HC := Lib.hid (short_of W (w.heap.size + 1) 2 2 (fun i => if i = 0 then n else m) (by decide) (two_list c0 c1))
  have HA := Lib.hid a0
  have HB1 := Lib.hid hB1
  have HW := Lib.hid hW
  have S1 := Lib.hid (s1.keep (by decide) hB1)
  have S2 := Lib.hid (s2.keep (by decide) hB1)
  have S3 := Lib.hid (s3.keep (by decide) hB1)
  clear c0 c1 a0 hB1 hW s1 s2 s3
  cases hsh : shAll (fun i => if i = 0 then n else m) 2 with
  | false =>
    rw [hsh] at HC
    clear hsh S1 S2 S3 HA i1 i2
    go_enter Try.func4, Try.ntmps4
    go_wp2_with fail
    rw [HW.out]
    refine HC.out.mono ?_
    rintro e w2 ⟨rfl, hw2⟩
    rw [hw2]
    clear hw2
    go_wp2_with fail
    refine (awake_of W).mono ?_
    rintro e w2 ⟨rfl, hB2⟩
    have HB := Lib.hid (HB1.out.trans (hB2.mono HB1.out.size))
    clear hB2
    go_wp2_with fail
    go_ret
    exact ⟨rfl, HB.out⟩
  | true =>
    rw [hsh] at HC
    by_cases h20 : 20 < p
    · clear hsh S1 S2 S3 HA i1 i2
      have hg : decide ((20 : Int) < (p : Int)) = true := by rw [decide_eq_true_iff]; omega
      go_enter Try.func4, Try.ntmps4
      go_wp2_with fail
      rw [HW.out]
      refine HC.out.mono ?_
      rintro e w2 ⟨rfl, hw2⟩
      rw [hw2]
      clear hw2
      go_wp2_with fail
      refine (awake_of W).mono ?_
      rintro e w2 ⟨rfl, hB2⟩
      have HB := Lib.hid (HB1.out.trans (hB2.mono HB1.out.size))
      clear hB2
      go_wp2_with fail
      go_ret
      exact ⟨rfl, HB.out⟩
    · have hnm : n ≤ 50 ∧ m ≤ 50 := by
        simp only [shAll, Bool.true_and, Bool.and_eq_true, shB, decide_eq_true_iff] at hsh
        simp at hsh
        omega
      have C1 := Lib.hid (fun (X : World) (x : Sl X 1 wa n g) (y : Sl X 1 ha m h) (z : Sl X 2 pa p f) => cost_of X wa ha pa n wc m hc p pc g h f L F M x y z i1 i2 (by omega))
      have C2 := Lib.hid (fun (X : World) (x : Sl X 1 wa n g) (y : Sl X 1 ha m h) (z : Sl X 2 pa p f) => rcost_of X wa ha pa n wc m hc p pc g h f L F M x y z (by omega))
      have C3 := Lib.hid (fun (X : World) (x : Sl X 1 wa n g) (y : Sl X 1 ha m h) => prices_of X wa ha n wc m hc g h L F M x y i1 i2)
      have C4 := Lib.hid (fun (X : World) (x : Sl X 1 wa n g) (y : Sl X 1 ha m h) => rprices_of X wa ha n wc m hc g h L F M x y)
      generalize coV n m g h L F M p f = V at C1 C2
      generalize coE n m g h L F M p f = E at C1 C2
      unfold co2 at C1 C2
      unfold PrEnd at C3 C4
      have hg : decide ((20 : Int) < (p : Int)) = false := by rw [decide_eq_false_iff_not]; omega
      clear hsh hmx hp h20 i1 i2
      go_enter Try.func4, Try.ntmps4
      go_wp2_with fail
      rw [HW.out]
      refine HC.out.mono ?_
      rintro e w2 ⟨rfl, hw2⟩
      rw [hw2]
      have x0 : W.cell? ⟨w.heap.size, 0, none⟩ = some (.int .i64 L) := cell_h HA.out rfl
      have x1 : W.cell? ⟨w.heap.size, 1, none⟩ = some (.int .i64 F) := cell_h HA.out rfl
      have x2 : W.cell? ⟨w.heap.size, 2, none⟩ = some (.int .i64 M) := cell_h HA.out rfl
      clear hw2 HC HW
      go_wp2_with fail
      refine (C1.out W S1.out S2.out S3.out).mono ?_
      rintro e W2 ⟨rfl, hB2⟩
      have a0 := (hB2.block _ (Array.getElem?_eq_some_iff.1 HA.out).1).trans HA.out
      have HA2 := Lib.hid a0
      have HB2 := Lib.hid (HB1.out.trans (hB2.mono HB1.out.size))
      have T1 := Lib.hid (S1.out.keep (by decide) hB2)
      have T2 := Lib.hid (S2.out.keep (by decide) hB2)
      have T3 := Lib.hid (S3.out.keep (by decide) hB2)
      clear x0 x1 x2
      have x0 : W2.cell? ⟨w.heap.size, 0, none⟩ = some (.int .i64 L) := cell_h a0 rfl
      have x1 : W2.cell? ⟨w.heap.size, 1, none⟩ = some (.int .i64 F) := cell_h a0 rfl
      have x2 : W2.cell? ⟨w.heap.size, 2, none⟩ = some (.int .i64 M) := cell_h a0 rfl
      clear a0 hB2 S1 S2 S3 HA HB1 C1
      go_wp2_with fail
      refine (C2.out W2 T1.out T2.out T3.out).mono ?_
      rintro e W3 ⟨rfl, hB3⟩
      have a0 := (hB3.block _ (Array.getElem?_eq_some_iff.1 HA2.out).1).trans HA2.out
      have HA := Lib.hid a0
      have HB := Lib.hid (HB2.out.trans (hB3.mono HB2.out.size))
      have S1 := Lib.hid (T1.out.keep (by decide) hB3)
      have S2 := Lib.hid (T2.out.keep (by decide) hB3)
      clear x0 x1 x2
      have x0 : W3.cell? ⟨w.heap.size, 0, none⟩ = some (.int .i64 L) := cell_h a0 rfl
      have x1 : W3.cell? ⟨w.heap.size, 1, none⟩ = some (.int .i64 F) := cell_h a0 rfl
      have x2 : W3.cell? ⟨w.heap.size, 2, none⟩ = some (.int .i64 M) := cell_h a0 rfl
      clear a0 hB3 T1 T2 T3 HA2 HB2 C2
      go_wp2_with fail
      refine (C3.out W3 S1.out S2.out).mono ?_
      rintro e W4 (⟨hE, rfl, hB4⟩ | ⟨hE, bt, rb, rfl, hT, hB4⟩)
      · have a0 := (hB4.block _ (Array.getElem?_eq_some_iff.1 HA.out).1).trans HA.out
        have HB2 := Lib.hid (HB.out.trans (hB4.mono HB.out.size))
        have T1 := Lib.hid (S1.out.keep (by decide) hB4)
        have T2 := Lib.hid (S2.out.keep (by decide) hB4)
        clear x0 x1 x2
        have x0 : W4.cell? ⟨w.heap.size, 0, none⟩ = some (.int .i64 L) := cell_h a0 rfl
        have x1 : W4.cell? ⟨w.heap.size, 1, none⟩ = some (.int .i64 F) := cell_h a0 rfl
        have x2 : W4.cell? ⟨w.heap.size, 2, none⟩ = some (.int .i64 M) := cell_h a0 rfl
        have C5 := C4.out W4 T1.out T2.out
        have C6 : Hid (Calls Try.prog 25 #[.slice wa n wc, .slice ha m hc, .agg #[.int .i64 L, .int .i64 F, .int .i64 M]] W4 fun e W' => e = .returned (.tuple #[.slice none 0 0, .int .i64 (pbChk n m g h L F M)]) ∧ Below W4.heap.size W4 W') := C5.mono (by
          rintro e W' (⟨_, he, hb⟩ | ⟨hz, _⟩)
          · exact ⟨he, hb⟩
          · exact absurd hz hE)
        have HE := Lib.hid hE
        clear C5 C4 C3 a0 hB4 S1 S2 HA HB T1 T2 hE
        generalize pbChk n m g h L F M = R at C6 HE ⊢
        go_wp2_with fail
        refine C6.out.mono ?_
        rintro e W5 ⟨rfl, hB5⟩
        have HB3 := Lib.hid (HB2.out.trans (hB5.mono HB2.out.size))
        clear hB5 x0 x1 x2 C6
        go_wp2_with fail
        refine wp_loop_rounds 2 ?_
        rw [rounds_succ]
        go_wp2_with fail
        refine (awake_of W5).mono ?_
        rintro e W6 ⟨rfl, hB6⟩
        have HB4 := Lib.hid (HB3.out.trans (hB6.mono HB3.out.size))
        clear hB6
        go_wp2_with fail
        go_ret
        exact ⟨rfl, HB4.out⟩
      · have a0 := (hB4.block _ (Array.getElem?_eq_some_iff.1 HA.out).1).trans HA.out
        have HB2 := Lib.hid (HB.out.trans (hB4.mono HB.out.size))
        have T1 := Lib.hid (S1.out.keep (by decide) hB4)
        have T2 := Lib.hid (S2.out.keep (by decide) hB4)
        clear x0 x1 x2
        have x0 : W4.cell? ⟨w.heap.size, 0, none⟩ = some (.int .i64 L) := cell_h a0 rfl
        have x1 : W4.cell? ⟨w.heap.size, 1, none⟩ = some (.int .i64 F) := cell_h a0 rfl
        have x2 : W4.cell? ⟨w.heap.size, 2, none⟩ = some (.int .i64 M) := cell_h a0 rfl
        have C5 := C4.out W4 T1.out T2.out
        have C6 : Hid (Calls Try.prog 25 #[.slice wa n wc, .slice ha m hc, .agg #[.int .i64 L, .int .i64 F, .int .i64 M]] W4 fun e W' => ∃ bt rb, e = .returned (.tuple #[.slice (some ⟨bt, 0, none⟩) (n + 1) (n + 1), .int .i64 0]) ∧ Tbl W4.heap.size W' bt n m rb (prc L F M g h) (n + 1) ∧ Below W4.heap.size W4 W') := C5.mono (by
          rintro e W' (⟨hz, _⟩ | ⟨_, he⟩)
          · exact absurd hE hz
          · exact he)
        have HT := Lib.hid hT
        clear C5 C4 C3 a0 hB4 S1 S2 HA HB T1 T2 hE hT
        go_wp2_with fail
        refine C6.out.mono ?_
        rintro e W5 ⟨bu, ru, rfl, hU, hB5⟩
        have HB3 := Lib.hid (HB2.out.trans (hB5.mono HB2.out.size))
        have HT5 := Lib.hid (HT.out.keep hB5)
        have HU := Lib.hid hU
        clear hB5 x0 x1 x2 C6 hU HT HB2
        go_wp2_with fail
        have HR0 : Hid (Below W5.heap.size W5 W5) := Below.refl _ _
        go_loopw [81] (fun vi wr => ∃ i : Nat, i ≤ n + 1 ∧ vi = .int .i64 i ∧ Hid (Below W5.heap.size W5 wr)) (fun vi _ => n + 1 - (intOf vi).toNat)
        case atStart => exact ⟨0, by omega, rfl, HR0.out⟩
        case round =>
          obtain ⟨i, hi, rfl, HK⟩ := hrel
          by_cases hlt : i < n + 1
          · have q1 := (HT5.out.keep HK.out).tb.cell (k := i) (by omega)
            have q2 := (HU.out.keep HK.out).tb.cell (k := i) (by omega)
            have z1 : rwG m rb (n + 1) i = .slice (some ⟨rb i, 0, none⟩) (m + 1) (m + 1) := by unfold rwG; rw [if_pos hlt]
            have z2 : rwG m ru (n + 1) i = .slice (some ⟨ru i, 0, none⟩) (m + 1) (m + 1) := by unfold rwG; rw [if_pos hlt]
            rw [z1] at q1
            rw [z2] at q2
            have y1 : Sl wr 1 (some ⟨rb i, 0, none⟩) (m + 1) (prc L F M g h i) := fun _ => ⟨rb i, 0, rfl, by rw [Nat.mul_one]; exact ((HT5.out.keep HK.out).rw i hlt).1.ints⟩
            have y2 : Sl wr 1 (some ⟨ru i, 0, none⟩) (m + 1) (prc L F M g h i) := fun _ => ⟨ru i, 0, rfl, by rw [Nat.mul_one]; exact ((HU.out.keep HK.out).rw i hlt).1.ints⟩
            have Y1 := Lib.hid y1
            have Y2 := Lib.hid y2
            have hii : (i : Int) < (n : Int) + 1 := by omega
            have hii2 : (i : Int) < ((n + 1 : Nat) : Int) := by omega
            clear z1 z2 y1 y2
            go_wp2_with fail
            go_still_tail 8, (by kernel_rfl)
            have HKd : Hid (Below W5.heap.size W5 wr.drew) := HK.out.drew
            have Z1 : Hid (Sl wr.drew 1 (some ⟨rb i, 0, none⟩) (m + 1) (prc L F M g h i)) := Y1.out
            have Z2 : Hid (Sl wr.drew 1 (some ⟨ru i, 0, none⟩) (m + 1) (prc L F M g h i)) := Y2.out
            change wpList _ _ _ _ _ wr.drew
            generalize wr.drew = Wd at HKd Z1 Z2 ⊢
            go_wp2_with fail
            refine (equal_of Wd (some ⟨rb i, 0, none⟩) (some ⟨ru i, 0, none⟩) (m + 1) (m + 1) (m + 1) _ (by omega) Z1.out Z2.out).mono ?_
            rintro e W6 ⟨rfl, hB6⟩
            have HK2 := Lib.hid (HKd.out.trans (hB6.mono HKd.out.size))
            clear hB6
            go_wp2_with fail
            exact ⟨⟨i + 1, by omega, by go_num, HK2.out⟩, by simp [intOf]; omega⟩
          · obtain rfl : i = n + 1 := by omega
            go_wp2_with fail
            refine (awake_of wr).mono ?_
            rintro e W6 ⟨rfl, hB6⟩
            have HB4 := Lib.hid ((HB3.out.trans (HK.out.mono HB3.out.size)).trans (hB6.mono (Nat.le_trans HB3.out.size HK.out.size)))
            clear hB6
            go_wp2_with fail
            go_ret
            exact ⟨rfl, HB4.out⟩
end Go.Proofs.Yteinabcklmpcjaa
