/-
  WALKS: the reference's Prices.
-/
import Derived.Test.YteinabcklmpcjaaPsA
import Derived.Test.YteinabcklmpcjaaPsD
namespace Go.Proofs.Yteinabcklmpcjaa
open Go.RowKit

theorem mul_bd4 {i : Nat} {b : Int} (hi : i ≤ 40) (hb : 0 ≤ b ∧ b ≤ 1048576) : 0 ≤ (i : Int) * b ∧ (i : Int) * b ≤ 41943040 := by
  have h1 : (i : Int) * b ≤ 40 * 1048576 := Int.mul_le_mul (by omega) hb.2 hb.1 (by omega)
  have h2 : 0 ≤ (i : Int) * b := Int.mul_nonneg (by omega) hb.1
  omega

set_option maxRecDepth 100000 in
set_option maxHeartbeats 8000000 in
theorem rprices_of (w : World) (wa ha : Option Addr) (n wc m hc : Nat) (g h : Nat → Int) (L F M : Int) (s1 : Sl w 1 wa n g) (s2 : Sl w 1 ha m h) :
    Calls Try.prog 25 #[.slice wa n wc, .slice ha m hc, .agg #[.int .i64 L, .int .i64 F, .int .i64 M]] w (PrEnd n m g h L F M w) := by
  have hB : Below w.heap.size w (w.alloc (.cells #[.int .i64 L, .int .i64 F, .int .i64 M] 40)) := (Below.refl _ w).alloc (Nat.le_refl _) _
  have a0 := World.alloc_heap_new w (.cells #[.int .i64 L, .int .i64 F, .int .i64 M] 40)
  have S1 := Lib.hid (s1.keep (by decide) hB)
  have S2 := Lib.hid (s2.keep (by decide) hB)
  clear s1 s2
  go_enter Try.func25, Try.ntmps25
  go_wp2_with fail
  generalize w.alloc (.cells #[.int .i64 L, .int .i64 F, .int .i64 M] 40) = W at a0 hB S1 S2 ⊢
  refine (rproblem_of W wa ha n wc m hc g h L F M S1.out S2.out).mono ?_
  rintro e w1 ⟨rfl, hB2⟩
  replace a0 := (hB2.block _ (Array.getElem?_eq_some_iff.1 a0).1).trans a0
  have T1 := Lib.hid (S1.out.keep (by decide) hB2)
  have T2 := Lib.hid (S2.out.keep (by decide) hB2)
  have HB := Lib.hid (hB.trans (hB2.mono hB.size))
  have X0 := Lib.hid (cell_h (k := 0) (v := .int .i64 L) a0 rfl)
  have X1 := Lib.hid (cell_h (k := 1) (v := .int .i64 F) a0 rfl)
  have X2 := Lib.hid (cell_h (k := 2) (v := .int .i64 M) a0 rfl)
  clear hB hB2 S1 S2 a0
  by_cases h0 : pbChk n m g h L F M = 0
  · have H0 := Lib.hid h0
    have hok := (pb_ok h0).1
    have HP := Lib.hid hok
    have hn40 := hok.n40
    have hm40 := hok.m40
    have hl := hok.l
    have hf := hok.f
    have hmm := hok.m
    rw [h0]
    clear h0 hok
    go_wp2_with (at_make; refine wp_makeB _ rfl _ _ 41 23 rfl Try.underlying41 x_ints rfl (by decide) _ _ (n + 1) rfl rfl (by push_cast; rfl) (by push_cast; rfl) (by omega) (by decide) ?_)
    obtain ⟨bt, hbt⟩ : ∃ bt, w1.heap.size = bt := ⟨_, rfl⟩
    obtain ⟨W2, hW2⟩ : ∃ W2, w1.alloc (.cells (vrow (n + 1) (zc (.slice none 0 0) 1)) 23) = W2 := ⟨_, rfl⟩
    have hb2 : Below w1.heap.size w1 W2 := by rw [← hW2]; exact (Below.refl _ _).alloc (Nat.le_refl _) _
    have hT2 : Tbl bt W2 bt n m (fun _ => 0) (prc L F M g h) 0 := by
      refine ⟨?_, fun i hi => by omega, fun i j hi => by omega, Nat.le_refl _⟩
      rw [← hW2, ← hbt]
      refine (Blk.new w1 _ _ _).congr fun i _ => ?_
      unfold rwG
      rw [if_neg (by omega)]
      simp [zc, Nat.mod_one, Value.cells]
    rw [hW2]
    simp only [hbt]
    rw [hbt] at hb2
    have HT2 := Lib.hid hT2
    have HB2 := Lib.hid hb2
    have HBz := Lib.hid hbt
    clear hW2 hbt hb2 hT2
    go_loopw [10] (fun vi wr => ∃ (i : Nat) (rb : Nat → Nat), i ≤ n + 1 ∧ vi = .int .i64 i ∧ Hid (Tbl bt wr bt n m rb (prc L F M g h) i) ∧ Hid (Below bt w1 wr)) (fun vi _ => n + 1 - (intOf vi).toNat)
    case atStart => exact ⟨0, _, by omega, rfl, HT2.out, HB2.out⟩
    case round =>
      obtain ⟨i, rb, hi, rfl, HT, HB9⟩ := hrel
      clear HT2 HB2
      by_cases hlt : i < n + 1
      · have g0 := HT.out.tb.cell (k := i) (by omega)
        have g1 := HT.out.tb.fz i
        have gb := HT.out.tb.lt
        have hgv : rwG m rb i i = .slice none 0 0 := by unfold rwG; rw [if_neg (by omega)]
        rw [hgv] at g0
        have hin : i ≤ n := by omega
        have hii : (i : Int) < (n : Int) + 1 := by omega
        have hii2 : (i : Int) < ((n + 1 : Nat) : Int) := by omega
        clear hgv
        go_wp2_with (at_make; refine wp_makeB _ rfl _ _ 23 3 rfl Try.underlying23 x_intv rfl (by decide) _ _ (m + 1) rfl rfl (by push_cast; rfl) (by push_cast; rfl) (by omega) (by decide) ?_)
        obtain ⟨ri, hri⟩ : ∃ ri, wr.heap.size = ri := ⟨_, rfl⟩
        obtain ⟨W3, hW3⟩ : ∃ W3, (wr.setCell ⟨bt, i, none⟩ (.slice (some ⟨wr.heap.size, 0, none⟩) (m + 1) (m + 1))).alloc (.cells (vrow (m + 1) (zc (.int .i64 0) 1)) 3) = W3 := ⟨_, rfl⟩
        have hT3 : Tbl bt W3 bt n m (turn rb i ri) (Tik L F M g h i 0) (i + 1) := by
          have := HT.out.row (by omega)
          rw [hW3, hri] at this
          refine this.congr fun a ha k hk => ?_
          unfold Tik
          by_cases e : a < i
          · rw [if_pos e, if_pos e]
          · rw [if_neg e, if_neg e, if_neg (by omega)]
        have hB3 : Below bt w1 W3 := by
          rw [← hW3]
          have h1 := HB9.out.setCell (p := ⟨bt, i, none⟩) (Nat.le_refl _) (.slice (some ⟨wr.heap.size, 0, none⟩) (m + 1) (m + 1))
          exact h1.alloc (by have := h1.size; have := HBz.out; omega) _
        rw [hW3]
        simp only [hri]
        have HT3 := Lib.hid hT3
        have HB3 := Lib.hid hB3
        clear hT3 hB3 hW3 hri g0 g1 gb HT HB9
        go_loopw [11] (fun vk wk => ∃ k : Nat, k ≤ m + 1 ∧ vk = .int .i64 k ∧ Hid (Tbl bt wk bt n m (turn rb i ri) (Tik L F M g h i k) (i + 1)) ∧ Hid (Below bt w1 wk)) (fun vk _ => m + 1 - (intOf vk).toNat)
        case atStart => exact ⟨0, by omega, rfl, HT3.out, HB3.out⟩
        case round =>
          obtain ⟨k, hk, rfl, HT, HB9⟩ := hrel
          clear HT3 HB3
          by_cases hlk : k < m + 1
          · have hkm : k ≤ m := by omega
            have hki : (k : Int) ≤ (m : Int) := by omega
            have hki2 : (k : Int) < ((m + 1 : Nat) : Int) := by omega
            have hki3 : (k : Int) < (m : Int) + 1 := by omega
            have hb1 : Below w1.heap.size w1 wr := by rw [HBz.out]; exact HB9.out
            have hG := T1.out.keep (by decide) hb1
            have hH := T2.out.keep (by decide) hb1
            have x0 : wr.cell? ⟨w.heap.size, 0, none⟩ = some (.int .i64 L) := (hb1.cell (p := ⟨w.heap.size, 0, none⟩) (World.block_lt_of_cell? w1 _ X0.out)).trans X0.out
            have x1 : wr.cell? ⟨w.heap.size, 1, none⟩ = some (.int .i64 F) := (hb1.cell (p := ⟨w.heap.size, 1, none⟩) (World.block_lt_of_cell? w1 _ X1.out)).trans X1.out
            have x2 : wr.cell? ⟨w.heap.size, 2, none⟩ = some (.int .i64 M) := (hb1.cell (p := ⟨w.heap.size, 2, none⟩) (World.block_lt_of_cell? w1 _ X2.out)).trans X2.out
            have d1 := HT.out.tb.cell (k := i) (by omega)
            have e1 : rwG m (turn rb i ri) (i + 1) i = .slice (some ⟨ri, 0, none⟩) (m + 1) (m + 1) := by unfold rwG; rw [if_pos (by omega), turn_same]
            rw [e1] at d1
            have hrow := HT.out.rw i (by omega)
            rw [turn_same] at hrow
            have ck := hrow.1.cell (k := k) (by omega)
            have zk := hrow.1.fz k
            have hlo := hrow.2.2
            have b1 := mul_bd4 (i := i) (b := L) (by omega) hl
            have b2 := mul_bd4 (i := k) (b := F) (by omega) hf
            have r1 := prc_00 L F M g h (i := i) (k := k)
            have r2 := prc_0k L F M g h (i := i) (k := k)
            have r3 := prc_i0 L F M g h (i := i) (k := k)
            have r4 := prc_far L F M g h (i := i) (k := k)
            have r5 := prc_near L F M g h (i := i) (k := k)
            have hSet := fun v => HT.out.set i k (by omega) v
            have hRes : Tik L F M g h i k i (k - 1) = if 0 < k then prc L F M g h i (k - 1) else 0 := by
              unfold Tik
              rw [if_neg (by omega)]
              by_cases e : 0 < k
              · rw [if_pos (by omega), if_pos e]
              · rw [if_neg (by omega), if_neg e]
            obtain ⟨P1, hP1⟩ : ∃ P, (i : Int) * L = P := ⟨_, rfl⟩
            obtain ⟨P2, hP2⟩ : ∃ P, (k : Int) * F = P := ⟨_, rfl⟩
            rw [hP1] at b1 r1 r2 r3 r4 r5
            rw [hP2] at b2 r1 r2 r3 r4 r5
            have v1 : IntKind.i64.wrap ((i : Int) * L) = P1 := (IntWalk.i64_in _ (by omega)).trans hP1
            have v2 : IntKind.i64.wrap ((k : Int) * F) = P2 := (IntWalk.i64_in _ (by omega)).trans hP2
            have v3 : IntKind.i64.wrap (P1 + P2) = P1 + P2 := IntWalk.i64_in _ (by omega)
            have R1 := Lib.hid r1
            have R2 := Lib.hid r2
            have R3 := Lib.hid r3
            have R4 := Lib.hid r4
            have R5 := Lib.hid r5
            have HG := Lib.hid hG
            have HH := Lib.hid hH
            have HLo := Lib.hid hlo
            have HRow := Lib.hid hrow
            have HRes := Lib.hid hRes
            clear hP1 hP2 r1 r2 r3 r4 r5 hG hH hlo hrow hRes e1 hSet hb1
            by_cases hi0 : 0 < i
            · have hpos : (0 : Int) < i := by omega
              have hg : decide (0 < i) = true := by rw [decide_eq_true_iff]; exact hi0
              have wi : IntKind.i64.wrap ((i : Int) - 1) = (i : Int) - 1 := IntWalk.i64_in _ (by omega)
              have ti : ((i : Int) - 1).toNat = i - 1 := by omega
              have qi : 0 ≤ (i : Int) - 1 := by omega
              have qi2 : (i : Int) - 1 < (n : Int) + 1 := by omega
              have qi3 : (i : Int) - 1 < ((n + 1 : Nat) : Int) := by omega
              have qi4 : (i : Int) - 1 < (n : Int) := by omega
              have d2 := HT.out.tb.cell (k := i - 1) (by omega)
              have e2 : rwG m (turn rb i ri) (i + 1) (i - 1) = .slice (some ⟨turn rb i ri (i - 1), 0, none⟩) (m + 1) (m + 1) := by unfold rwG; rw [if_pos (by omega)]
              rw [e2] at d2
              have cA := (HT.out.rw (i - 1) (by omega)).1.cell (k := k) (by omega)
              have eA : Tik L F M g h i k (i - 1) k = prc L F M g h (i - 1) k := by unfold Tik; rw [if_pos (by omega)]
              rw [eA] at cA
              have bA := prc_bd HP.out (i - 1) (by omega) k hkm
              have cC := (HT.out.rw (i - 1) (by omega)).1.cell (k := k - 1) (by omega)
              have eC : Tik L F M g h i k (i - 1) (k - 1) = prc L F M g h (i - 1) (k - 1) := by unfold Tik; rw [if_pos (by omega)]
              rw [eC] at cC
              have bC := prc_bd HP.out (i - 1) (by omega) (k - 1) (by omega)
              obtain ⟨A, hA⟩ : ∃ A, prc L F M g h (i - 1) k = A := ⟨_, rfl⟩
              obtain ⟨C, hC⟩ : ∃ C, prc L F M g h (i - 1) (k - 1) = C := ⟨_, rfl⟩
              rw [hA] at cA bA R3 R4 R5
              rw [hC] at cC bC R5
              have bA2 : 0 ≤ A ∧ A ≤ 83886080 := by constructor <;> omega
              have bC2 : 0 ≤ C ∧ C ≤ 83886080 := by constructor <;> omega
              generalize turn rb i ri (i - 1) = ra at d2 cA cC
              clear e2 eA eC hA hC bA bC
              by_cases hk0 : 0 < k
              · have kpos : (0 : Int) < k := by omega
                have hgk : decide (0 < k) = true := by rw [decide_eq_true_iff]; exact hk0
                have wk : IntKind.i64.wrap ((k : Int) - 1) = (k : Int) - 1 := IntWalk.i64_in _ (by omega)
                have tk : ((k : Int) - 1).toNat = k - 1 := by omega
                have pk : 0 ≤ (k : Int) - 1 := by omega
                have pk2 : (k : Int) - 1 < (m : Int) + 1 := by omega
                have pk3 : (k : Int) - 1 < ((m + 1 : Nat) : Int) := by omega
                have pk4 : (k : Int) - 1 < (m : Int) := by omega
                have cB := HRow.out.1.cell (k := k - 1) (by omega)
                rw [HRes.out, if_pos hk0] at cB
                have bB := prc_bd HP.out i hin (k - 1) (by omega)
                obtain ⟨B, hB⟩ : ∃ B, prc L F M g h i (k - 1) = B := ⟨_, rfl⟩
                rw [hB] at cB bB R4 R5
                have bB2 : 0 ≤ B ∧ B ≤ 83886080 := by constructor <;> omega
                have bD := dst_bd HP.out.pg HP.out.ph (i := i - 1) (k := k - 1) (by omega) (by omega)
                obtain ⟨gb, go, rfl, hGi⟩ := HG.out (by omega)
                obtain ⟨qb, qo, rfl, hHi⟩ := HH.out (by omega)
                have f0 := hGi (i - 1) (by omega)
                have f1 := hHi (k - 1) (by omega)
                have hCa := fun (W9 : World) => apart_of W9 (g (i - 1)) (h (k - 1)) (HP.out.pg (i - 1) (by omega)) (HP.out.ph (k - 1) (by omega))
                have hDe : max (g (i - 1) - h (k - 1)) (h (k - 1) - g (i - 1)) = dst g h (i - 1) (k - 1) := rfl
                rw [hDe] at hCa
                obtain ⟨D, hD⟩ : ∃ D, dst g h (i - 1) (k - 1) = D := ⟨_, rfl⟩
                rw [hD] at bD hCa R4 R5
                generalize g (i - 1) = gx at f0 hCa
                generalize h (k - 1) = hx at f1 hCa
                have HCa := Lib.hid hCa
                clear hB bB hGi hHi hDe hD hCa
                by_cases hDM : D ≤ M
                · have hres : min (P1 + P2) (min (A + L) (min (B + F) (C + D))) = prc L F M g h i k := by rw [← R5.out hi0 hk0 hDM]; simp only [Int.min_assoc]
                  have HRs := Lib.hid hres
                  clear hres hi0 hk0
                  go_wp2_with fail
                  go_quiet (fail)
                  obtain ⟨Wa, hWa⟩ : ∃ Wa, wr.drewN nq = Wa := ⟨_, rfl⟩
                  have tWa : ∀ (q r : Nat) (v : Value), wr.cell? ⟨q, r, none⟩ = some v → Wa.cell? ⟨q, r, none⟩ = some v := fun q r v h => by rw [← hWa]; exact h
                  replace x0 := tWa _ _ _ x0
                  replace x1 := tWa _ _ _ x1
                  replace x2 := tWa _ _ _ x2
                  replace d1 := tWa _ _ _ d1
                  replace ck := tWa _ _ _ ck
                  replace d2 := tWa _ _ _ d2
                  replace cA := tWa _ _ _ cA
                  replace cC := tWa _ _ _ cC
                  replace cB := tWa _ _ _ cB
                  replace f0 := tWa _ _ _ f0
                  replace f1 := tWa _ _ _ f1
                  replace zk : Wa.frozen? ⟨ri, k, none⟩ = false := by rw [← hWa]; exact zk
                  replace HB9 : Hid (Below bt w1 Wa) := by rw [← hWa]; exact ⟨HB9.out.os, HB9.out.tape, HB9.out.output, HB9.out.size, HB9.out.block⟩
                  replace HT : Hid (Tbl bt Wa bt n m (turn rb i ri) (Tik L F M g h i k) (i + 1)) := by rw [← hWa]; exact ⟨HT.out.tb, HT.out.rw, HT.out.inj, HT.out.lo⟩
                  rw [hWa]
                  clear tWa hWa nq
                  go_wp2_with fail
                  go_quiet (fail)
                  obtain ⟨Wb, hWb⟩ : ∃ Wb, Wa.drewN nq = Wb := ⟨_, rfl⟩
                  have tWb : ∀ (q r : Nat) (v : Value), Wa.cell? ⟨q, r, none⟩ = some v → Wb.cell? ⟨q, r, none⟩ = some v := fun q r v h => by rw [← hWb]; exact h
                  replace x0 := tWb _ _ _ x0
                  replace x1 := tWb _ _ _ x1
                  replace x2 := tWb _ _ _ x2
                  replace d1 := tWb _ _ _ d1
                  replace ck := tWb _ _ _ ck
                  replace d2 := tWb _ _ _ d2
                  replace cA := tWb _ _ _ cA
                  replace cC := tWb _ _ _ cC
                  replace cB := tWb _ _ _ cB
                  replace f0 := tWb _ _ _ f0
                  replace f1 := tWb _ _ _ f1
                  replace zk : Wb.frozen? ⟨ri, k, none⟩ = false := by rw [← hWb]; exact zk
                  replace HB9 : Hid (Below bt w1 Wb) := by rw [← hWb]; exact ⟨HB9.out.os, HB9.out.tape, HB9.out.output, HB9.out.size, HB9.out.block⟩
                  replace HT : Hid (Tbl bt Wb bt n m (turn rb i ri) (Tik L F M g h i k) (i + 1)) := by rw [← hWb]; exact ⟨HT.out.tb, HT.out.rw, HT.out.inj, HT.out.lo⟩
                  rw [hWb]
                  clear tWb hWb nq
                  go_wp2_with fail
                  go_quiet ((go_at_call 61; with_reducible exact Calls.quiet_of_same (HCa.out _)))
                  obtain ⟨Wc, hWc⟩ : ∃ Wc, Wb.drewN nq = Wc := ⟨_, rfl⟩
                  have tWc : ∀ (q r : Nat) (v : Value), Wb.cell? ⟨q, r, none⟩ = some v → Wc.cell? ⟨q, r, none⟩ = some v := fun q r v h => by rw [← hWc]; exact h
                  replace x0 := tWc _ _ _ x0
                  replace x1 := tWc _ _ _ x1
                  replace x2 := tWc _ _ _ x2
                  replace d1 := tWc _ _ _ d1
                  replace ck := tWc _ _ _ ck
                  replace d2 := tWc _ _ _ d2
                  replace cA := tWc _ _ _ cA
                  replace cC := tWc _ _ _ cC
                  replace cB := tWc _ _ _ cB
                  replace f0 := tWc _ _ _ f0
                  replace f1 := tWc _ _ _ f1
                  replace zk : Wc.frozen? ⟨ri, k, none⟩ = false := by rw [← hWc]; exact zk
                  replace HB9 : Hid (Below bt w1 Wc) := by rw [← hWc]; exact ⟨HB9.out.os, HB9.out.tape, HB9.out.output, HB9.out.size, HB9.out.block⟩
                  replace HT : Hid (Tbl bt Wc bt n m (turn rb i ri) (Tik L F M g h i k) (i + 1)) := by rw [← hWc]; exact ⟨HT.out.tb, HT.out.rw, HT.out.inj, HT.out.lo⟩
                  rw [hWc]
                  clear tWc hWc nq
                  go_wp2_with fail
                  go_quiet ((go_at_call 61; with_reducible exact Calls.quiet_of_same (HCa.out _)))
                  obtain ⟨Wd, hWd⟩ : ∃ Wd, Wc.drewN nq = Wd := ⟨_, rfl⟩
                  have tWd : ∀ (q r : Nat) (v : Value), Wc.cell? ⟨q, r, none⟩ = some v → Wd.cell? ⟨q, r, none⟩ = some v := fun q r v h => by rw [← hWd]; exact h
                  replace x0 := tWd _ _ _ x0
                  replace x1 := tWd _ _ _ x1
                  replace x2 := tWd _ _ _ x2
                  replace d1 := tWd _ _ _ d1
                  replace ck := tWd _ _ _ ck
                  replace d2 := tWd _ _ _ d2
                  replace cA := tWd _ _ _ cA
                  replace cC := tWd _ _ _ cC
                  replace cB := tWd _ _ _ cB
                  replace f0 := tWd _ _ _ f0
                  replace f1 := tWd _ _ _ f1
                  replace zk : Wd.frozen? ⟨ri, k, none⟩ = false := by rw [← hWd]; exact zk
                  replace HB9 : Hid (Below bt w1 Wd) := by rw [← hWd]; exact ⟨HB9.out.os, HB9.out.tape, HB9.out.output, HB9.out.size, HB9.out.block⟩
                  replace HT : Hid (Tbl bt Wd bt n m (turn rb i ri) (Tik L F M g h i k) (i + 1)) := by rw [← hWd]; exact ⟨HT.out.tb, HT.out.rw, HT.out.inj, HT.out.lo⟩
                  rw [hWd]
                  clear tWd hWd nq
                  go_wp2_with fail
                  rw [HRs.out]
                  refine ⟨⟨k + 1, by omega, by go_num, ?_, HB9.out.setCell (p := ⟨ri, k, none⟩) HLo.out _⟩, by simp [intOf]; omega⟩
                  have hset := HT.out.set i k (by omega) (prc L F M g h i k)
                  rw [turn_same] at hset
                  exact hset.congr fun a ha b hb => Tik_step L F M g h i k a b (by omega)
                · have hres : min (P1 + P2) (min (A + L) (B + F)) = prc L F M g h i k := by rw [← R4.out hi0 hk0 hDM]; simp only [Int.min_assoc]
                  have HRs := Lib.hid hres
                  have hDM2 : decide (D ≤ M) = false := by rw [decide_eq_false_iff_not]; exact hDM
                  clear hres hi0 hk0 hDM
                  go_wp2_with fail
                  go_quiet (fail)
                  obtain ⟨Wa, hWa⟩ : ∃ Wa, wr.drewN nq = Wa := ⟨_, rfl⟩
                  have tWa : ∀ (q r : Nat) (v : Value), wr.cell? ⟨q, r, none⟩ = some v → Wa.cell? ⟨q, r, none⟩ = some v := fun q r v h => by rw [← hWa]; exact h
                  replace x0 := tWa _ _ _ x0
                  replace x1 := tWa _ _ _ x1
                  replace x2 := tWa _ _ _ x2
                  replace d1 := tWa _ _ _ d1
                  replace ck := tWa _ _ _ ck
                  replace d2 := tWa _ _ _ d2
                  replace cA := tWa _ _ _ cA
                  replace cC := tWa _ _ _ cC
                  replace cB := tWa _ _ _ cB
                  replace f0 := tWa _ _ _ f0
                  replace f1 := tWa _ _ _ f1
                  replace zk : Wa.frozen? ⟨ri, k, none⟩ = false := by rw [← hWa]; exact zk
                  replace HB9 : Hid (Below bt w1 Wa) := by rw [← hWa]; exact ⟨HB9.out.os, HB9.out.tape, HB9.out.output, HB9.out.size, HB9.out.block⟩
                  replace HT : Hid (Tbl bt Wa bt n m (turn rb i ri) (Tik L F M g h i k) (i + 1)) := by rw [← hWa]; exact ⟨HT.out.tb, HT.out.rw, HT.out.inj, HT.out.lo⟩
                  rw [hWa]
                  clear tWa hWa nq
                  go_wp2_with fail
                  go_quiet (fail)
                  obtain ⟨Wb, hWb⟩ : ∃ Wb, Wa.drewN nq = Wb := ⟨_, rfl⟩
                  have tWb : ∀ (q r : Nat) (v : Value), Wa.cell? ⟨q, r, none⟩ = some v → Wb.cell? ⟨q, r, none⟩ = some v := fun q r v h => by rw [← hWb]; exact h
                  replace x0 := tWb _ _ _ x0
                  replace x1 := tWb _ _ _ x1
                  replace x2 := tWb _ _ _ x2
                  replace d1 := tWb _ _ _ d1
                  replace ck := tWb _ _ _ ck
                  replace d2 := tWb _ _ _ d2
                  replace cA := tWb _ _ _ cA
                  replace cC := tWb _ _ _ cC
                  replace cB := tWb _ _ _ cB
                  replace f0 := tWb _ _ _ f0
                  replace f1 := tWb _ _ _ f1
                  replace zk : Wb.frozen? ⟨ri, k, none⟩ = false := by rw [← hWb]; exact zk
                  replace HB9 : Hid (Below bt w1 Wb) := by rw [← hWb]; exact ⟨HB9.out.os, HB9.out.tape, HB9.out.output, HB9.out.size, HB9.out.block⟩
                  replace HT : Hid (Tbl bt Wb bt n m (turn rb i ri) (Tik L F M g h i k) (i + 1)) := by rw [← hWb]; exact ⟨HT.out.tb, HT.out.rw, HT.out.inj, HT.out.lo⟩
                  rw [hWb]
                  clear tWb hWb nq
                  go_wp2_with fail
                  go_quiet ((go_at_call 61; with_reducible exact Calls.quiet_of_same (HCa.out _)))
                  obtain ⟨Wc, hWc⟩ : ∃ Wc, Wb.drewN nq = Wc := ⟨_, rfl⟩
                  have tWc : ∀ (q r : Nat) (v : Value), Wb.cell? ⟨q, r, none⟩ = some v → Wc.cell? ⟨q, r, none⟩ = some v := fun q r v h => by rw [← hWc]; exact h
                  replace x0 := tWc _ _ _ x0
                  replace x1 := tWc _ _ _ x1
                  replace x2 := tWc _ _ _ x2
                  replace d1 := tWc _ _ _ d1
                  replace ck := tWc _ _ _ ck
                  replace d2 := tWc _ _ _ d2
                  replace cA := tWc _ _ _ cA
                  replace cC := tWc _ _ _ cC
                  replace cB := tWc _ _ _ cB
                  replace f0 := tWc _ _ _ f0
                  replace f1 := tWc _ _ _ f1
                  replace zk : Wc.frozen? ⟨ri, k, none⟩ = false := by rw [← hWc]; exact zk
                  replace HB9 : Hid (Below bt w1 Wc) := by rw [← hWc]; exact ⟨HB9.out.os, HB9.out.tape, HB9.out.output, HB9.out.size, HB9.out.block⟩
                  replace HT : Hid (Tbl bt Wc bt n m (turn rb i ri) (Tik L F M g h i k) (i + 1)) := by rw [← hWc]; exact ⟨HT.out.tb, HT.out.rw, HT.out.inj, HT.out.lo⟩
                  rw [hWc]
                  clear tWc hWc nq
                  go_wp2_with fail
                  rw [HRs.out]
                  refine ⟨⟨k + 1, by omega, by go_num, ?_, HB9.out.setCell (p := ⟨ri, k, none⟩) HLo.out _⟩, by simp [intOf]; omega⟩
                  have hset := HT.out.set i k (by omega) (prc L F M g h i k)
                  rw [turn_same] at hset
                  exact hset.congr fun a ha b hb => Tik_step L F M g h i k a b (by omega)
              · have hgk : decide (0 < k) = false := by rw [decide_eq_false_iff_not]; exact hk0
                have kn : ¬(0 : Int) < k := by omega
                have hres := R3.out hi0 (by omega)
                have HRs := Lib.hid hres
                clear hres hi0 hk0
                go_wp2_with fail
                go_quiet (fail)
                obtain ⟨Wa, hWa⟩ : ∃ Wa, wr.drewN nq = Wa := ⟨_, rfl⟩
                have tWa : ∀ (q r : Nat) (v : Value), wr.cell? ⟨q, r, none⟩ = some v → Wa.cell? ⟨q, r, none⟩ = some v := fun q r v h => by rw [← hWa]; exact h
                replace x0 := tWa _ _ _ x0
                replace x1 := tWa _ _ _ x1
                replace x2 := tWa _ _ _ x2
                replace d1 := tWa _ _ _ d1
                replace ck := tWa _ _ _ ck
                replace d2 := tWa _ _ _ d2
                replace cA := tWa _ _ _ cA
                replace cC := tWa _ _ _ cC
                replace zk : Wa.frozen? ⟨ri, k, none⟩ = false := by rw [← hWa]; exact zk
                replace HB9 : Hid (Below bt w1 Wa) := by rw [← hWa]; exact ⟨HB9.out.os, HB9.out.tape, HB9.out.output, HB9.out.size, HB9.out.block⟩
                replace HT : Hid (Tbl bt Wa bt n m (turn rb i ri) (Tik L F M g h i k) (i + 1)) := by rw [← hWa]; exact ⟨HT.out.tb, HT.out.rw, HT.out.inj, HT.out.lo⟩
                rw [hWa]
                clear tWa hWa nq
                go_wp2_with fail
                go_quiet (fail)
                obtain ⟨Wb, hWb⟩ : ∃ Wb, Wa.drewN nq = Wb := ⟨_, rfl⟩
                have tWb : ∀ (q r : Nat) (v : Value), Wa.cell? ⟨q, r, none⟩ = some v → Wb.cell? ⟨q, r, none⟩ = some v := fun q r v h => by rw [← hWb]; exact h
                replace x0 := tWb _ _ _ x0
                replace x1 := tWb _ _ _ x1
                replace x2 := tWb _ _ _ x2
                replace d1 := tWb _ _ _ d1
                replace ck := tWb _ _ _ ck
                replace d2 := tWb _ _ _ d2
                replace cA := tWb _ _ _ cA
                replace cC := tWb _ _ _ cC
                replace zk : Wb.frozen? ⟨ri, k, none⟩ = false := by rw [← hWb]; exact zk
                replace HB9 : Hid (Below bt w1 Wb) := by rw [← hWb]; exact ⟨HB9.out.os, HB9.out.tape, HB9.out.output, HB9.out.size, HB9.out.block⟩
                replace HT : Hid (Tbl bt Wb bt n m (turn rb i ri) (Tik L F M g h i k) (i + 1)) := by rw [← hWb]; exact ⟨HT.out.tb, HT.out.rw, HT.out.inj, HT.out.lo⟩
                rw [hWb]
                clear tWb hWb nq
                go_wp2_with fail
                rw [HRs.out]
                refine ⟨⟨k + 1, by omega, by go_num, ?_, HB9.out.setCell (p := ⟨ri, k, none⟩) HLo.out _⟩, by simp [intOf]; omega⟩
                have hset := HT.out.set i k (by omega) (prc L F M g h i k)
                rw [turn_same] at hset
                exact hset.congr fun a ha b hb => Tik_step L F M g h i k a b (by omega)
            · have hg : decide (0 < i) = false := by rw [decide_eq_false_iff_not]; exact hi0
              have inn : ¬(0 : Int) < i := by omega
              by_cases hk0 : 0 < k
              · have kpos : (0 : Int) < k := by omega
                have hgk : decide (0 < k) = true := by rw [decide_eq_true_iff]; exact hk0
                have wk : IntKind.i64.wrap ((k : Int) - 1) = (k : Int) - 1 := IntWalk.i64_in _ (by omega)
                have tk : ((k : Int) - 1).toNat = k - 1 := by omega
                have pk : 0 ≤ (k : Int) - 1 := by omega
                have pk2 : (k : Int) - 1 < (m : Int) + 1 := by omega
                have pk3 : (k : Int) - 1 < ((m + 1 : Nat) : Int) := by omega
                have cB := HRow.out.1.cell (k := k - 1) (by omega)
                rw [HRes.out, if_pos hk0] at cB
                have bB := prc_bd HP.out i hin (k - 1) (by omega)
                obtain ⟨B, hB⟩ : ∃ B, prc L F M g h i (k - 1) = B := ⟨_, rfl⟩
                rw [hB] at cB bB R2
                have bB2 : 0 ≤ B ∧ B ≤ 83886080 := by constructor <;> omega
                have hres := R2.out (by omega) hk0
                have HRs := Lib.hid hres
                clear hres hi0 hk0 hB bB
                go_wp2_with fail
                go_quiet (fail)
                obtain ⟨Wa, hWa⟩ : ∃ Wa, wr.drewN nq = Wa := ⟨_, rfl⟩
                have tWa : ∀ (q r : Nat) (v : Value), wr.cell? ⟨q, r, none⟩ = some v → Wa.cell? ⟨q, r, none⟩ = some v := fun q r v h => by rw [← hWa]; exact h
                replace x0 := tWa _ _ _ x0
                replace x1 := tWa _ _ _ x1
                replace x2 := tWa _ _ _ x2
                replace d1 := tWa _ _ _ d1
                replace ck := tWa _ _ _ ck
                replace cB := tWa _ _ _ cB
                replace zk : Wa.frozen? ⟨ri, k, none⟩ = false := by rw [← hWa]; exact zk
                replace HB9 : Hid (Below bt w1 Wa) := by rw [← hWa]; exact ⟨HB9.out.os, HB9.out.tape, HB9.out.output, HB9.out.size, HB9.out.block⟩
                replace HT : Hid (Tbl bt Wa bt n m (turn rb i ri) (Tik L F M g h i k) (i + 1)) := by rw [← hWa]; exact ⟨HT.out.tb, HT.out.rw, HT.out.inj, HT.out.lo⟩
                rw [hWa]
                clear tWa hWa nq
                go_wp2_with fail
                go_quiet (fail)
                obtain ⟨Wb, hWb⟩ : ∃ Wb, Wa.drewN nq = Wb := ⟨_, rfl⟩
                have tWb : ∀ (q r : Nat) (v : Value), Wa.cell? ⟨q, r, none⟩ = some v → Wb.cell? ⟨q, r, none⟩ = some v := fun q r v h => by rw [← hWb]; exact h
                replace x0 := tWb _ _ _ x0
                replace x1 := tWb _ _ _ x1
                replace x2 := tWb _ _ _ x2
                replace d1 := tWb _ _ _ d1
                replace ck := tWb _ _ _ ck
                replace cB := tWb _ _ _ cB
                replace zk : Wb.frozen? ⟨ri, k, none⟩ = false := by rw [← hWb]; exact zk
                replace HB9 : Hid (Below bt w1 Wb) := by rw [← hWb]; exact ⟨HB9.out.os, HB9.out.tape, HB9.out.output, HB9.out.size, HB9.out.block⟩
                replace HT : Hid (Tbl bt Wb bt n m (turn rb i ri) (Tik L F M g h i k) (i + 1)) := by rw [← hWb]; exact ⟨HT.out.tb, HT.out.rw, HT.out.inj, HT.out.lo⟩
                rw [hWb]
                clear tWb hWb nq
                go_wp2_with fail
                rw [HRs.out]
                refine ⟨⟨k + 1, by omega, by go_num, ?_, HB9.out.setCell (p := ⟨ri, k, none⟩) HLo.out _⟩, by simp [intOf]; omega⟩
                have hset := HT.out.set i k (by omega) (prc L F M g h i k)
                rw [turn_same] at hset
                exact hset.congr fun a ha b hb => Tik_step L F M g h i k a b (by omega)
              · have hgk : decide (0 < k) = false := by rw [decide_eq_false_iff_not]; exact hk0
                have kn : ¬(0 : Int) < k := by omega
                have hres := R1.out (by omega) (by omega)
                have HRs := Lib.hid hres
                clear hres hi0 hk0
                go_wp2_with fail
                go_quiet (fail)
                obtain ⟨Wa, hWa⟩ : ∃ Wa, wr.drewN nq = Wa := ⟨_, rfl⟩
                have tWa : ∀ (q r : Nat) (v : Value), wr.cell? ⟨q, r, none⟩ = some v → Wa.cell? ⟨q, r, none⟩ = some v := fun q r v h => by rw [← hWa]; exact h
                replace x0 := tWa _ _ _ x0
                replace x1 := tWa _ _ _ x1
                replace x2 := tWa _ _ _ x2
                replace d1 := tWa _ _ _ d1
                replace ck := tWa _ _ _ ck
                replace zk : Wa.frozen? ⟨ri, k, none⟩ = false := by rw [← hWa]; exact zk
                replace HB9 : Hid (Below bt w1 Wa) := by rw [← hWa]; exact ⟨HB9.out.os, HB9.out.tape, HB9.out.output, HB9.out.size, HB9.out.block⟩
                replace HT : Hid (Tbl bt Wa bt n m (turn rb i ri) (Tik L F M g h i k) (i + 1)) := by rw [← hWa]; exact ⟨HT.out.tb, HT.out.rw, HT.out.inj, HT.out.lo⟩
                rw [hWa]
                clear tWa hWa nq
                go_wp2_with fail
                rw [HRs.out]
                refine ⟨⟨k + 1, by omega, by go_num, ?_, HB9.out.setCell (p := ⟨ri, k, none⟩) HLo.out _⟩, by simp [intOf]; omega⟩
                have hset := HT.out.set i k (by omega) (prc L F M g h i k)
                rw [turn_same] at hset
                exact hset.congr fun a ha b hb => Tik_step L F M g h i k a b (by omega)
          · obtain rfl : k = m + 1 := by omega
            go_wp2_with fail
            go_roundw
            case rel =>
              refine ⟨i + 1, turn rb i ri, by omega, by go_num, HT.out.congr fun a ha b hb => ?_, HB9.out⟩
              unfold Tik
              by_cases e : a < i
              · rw [if_pos e]
              · obtain rfl : a = i := by omega
                rw [if_neg e, if_pos (by omega)]
            case measure => simp [intOf]; omega
      · obtain rfl : i = n + 1 := by omega
        go_wp2_with fail
        have q : w.heap.size ≤ bt := by rw [← HBz.out]; exact HB.out.size
        exact bodyPost_ret (v := .tuple #[.slice (some ⟨bt, 0, none⟩) (n + 1) (n + 1), .int .i64 0]) (by simp [results, Try.f25, go_sem]) rfl (.inr ⟨H0.out, bt, rb, rfl, ⟨HT.out.tb, fun i hi => ⟨(HT.out.rw i hi).1, (HT.out.rw i hi).2.1, Nat.le_trans q (HT.out.rw i hi).2.2⟩, HT.out.inj, q⟩, HB.out.trans (HB9.out.mono q)⟩)
  · have hne : (pbChk n m g h L F M == 0) = false := by simpa using h0
    have hne2 : (pbChk n m g h L F M != 0) = true := by simpa using h0
    obtain ⟨r, hr⟩ : ∃ r, pbChk n m g h L F M = r := ⟨_, rfl⟩
    rw [hr] at hne hne2 h0 ⊢
    have H0 := Lib.hid h0
    have HR := Lib.hid hr
    clear h0 hr
    go_wp2_with fail
    exact bodyPost_ret (v := .tuple #[.slice none 0 0, .int .i64 r]) (by simp [results, Try.f25, go_sem]) rfl (.inl ⟨by rw [HR.out]; exact H0.out, by rw [HR.out], HB.out⟩)
end Go.Proofs.Yteinabcklmpcjaa
