/-
  WALKS: the reference's Cost.
-/
import Derived.Test.YteinabcklmpcjaaPsA
import Derived.Test.YteinabcklmpcjaaPsB
namespace Go.Proofs.Yteinabcklmpcjaa
open Go.RowKit

theorem coAt_err {n m : Nat} {g h : Nat → Int} {M : Int} {f : Nat → Int} {i : Nat} {R : Int} (hp : prErr n m f i = R) (h0 : R ≠ 0) : coAt n m g h M f i = R := by
  unfold coAt; rw [hp, if_pos h0]

set_option maxRecDepth 100000 in
set_option maxHeartbeats 4000000 in
theorem rcost_of (w : World) (wa ha pa : Option Addr) (n wc m hc p pc : Nat) (g h f : Nat → Int) (L F M : Int) (s1 : Sl w 1 wa n g) (s2 : Sl w 1 ha m h) (s3 : Sl w 2 pa p f) (hp : p ≤ 20) :
    Calls Try.prog 23 #[.slice wa n wc, .slice ha m hc, .agg #[.int .i64 L, .int .i64 F, .int .i64 M], .slice pa p pc] w fun e w' => e = .returned (co2 (coV n m g h L F M p f) (coE n m g h L F M p f)) ∧ Below w.heap.size w w' := by
  have a0 := World.alloc_heap_new w (.cells #[.int .i64 L, .int .i64 F, .int .i64 M] 40)
  have hB : Below w.heap.size w (w.alloc (.cells #[.int .i64 L, .int .i64 F, .int .i64 M] 40)) := (Below.refl _ w).alloc (Nat.le_refl _) _
  have S1 := Lib.hid (s1.keep (by decide) hB)
  have S2 := Lib.hid (s2.keep (by decide) hB)
  have S3 := Lib.hid (s3.keep (by decide) hB)
  have hE : coE n m g h L F M p f = if pbChk n m g h L F M ≠ 0 then pbChk n m g h L F M else first (coAt n m g h M f) p := rfl
  have hV : coV n m g h L F M p f = if coE n m g h L F M p f ≠ 0 then 0 else ((n : Int) - p) * L + ((m : Int) - p) * F + coS g h f p := rfl
  obtain ⟨E, hEq⟩ : ∃ E, coE n m g h L F M p f = E := ⟨_, rfl⟩
  obtain ⟨V, hVq⟩ : ∃ V, coV n m g h L F M p f = V := ⟨_, rfl⟩
  rw [hEq, hVq] at hV
  rw [hEq] at hE
  rw [hEq, hVq]
  have HE := Lib.hid hE
  have HV := Lib.hid hV
  clear s1 s2 s3 hE hV hEq hVq
  go_enter Try.func23, Try.ntmps23
  go_wp2_with fail
  generalize w.alloc (.cells #[.int .i64 L, .int .i64 F, .int .i64 M] 40) = W at a0 hB S1 S2 S3 ⊢
  refine (rproblem_of W wa ha n wc m hc g h L F M S1.out S2.out).mono ?_
  rintro e W3 ⟨rfl, hB2⟩
  replace a0 := (hB2.block _ (Array.getElem?_eq_some_iff.1 a0).1).trans a0
  have T1 := Lib.hid (S1.out.keep (by decide) hB2)
  have T2 := Lib.hid (S2.out.keep (by decide) hB2)
  have U3 := Lib.hid (S3.out.keep (by decide) hB2)
  have HB3 := Lib.hid (hB.trans (hB2.mono hB.size))
  have X0 := Lib.hid (cell_h (k := 0) (v := .int .i64 L) a0 rfl)
  have X1 := Lib.hid (cell_h (k := 1) (v := .int .i64 F) a0 rfl)
  have X2 := Lib.hid (cell_h (k := 2) (v := .int .i64 M) a0 rfl)
  clear hB hB2 S1 S2 S3 a0
  by_cases h0 : pbChk n m g h L F M = 0
  · have hok := (pb_ok h0).1
    rw [if_neg (by simpa using h0)] at HE
    rw [h0]
    clear h0
    have HO := Lib.hid hok
    have hn40 := hok.n40
    have hm40 := hok.m40
    have hl := hok.l
    have hf := hok.f
    have hmm := hok.m
    have b1 := mul_bd3 (a := (n : Int) - p) (b := L) (by omega) hl
    have b2 := mul_bd3 (a := (m : Int) - p) (b := F) (by omega) hf
    rw [Int.mul_comm] at b1 b2
    rw [Int.mul_comm _ L, Int.mul_comm _ F] at HV
    obtain ⟨P1, hP1⟩ : ∃ P, L * ((n : Int) - p) = P := ⟨_, rfl⟩
    obtain ⟨P2, hP2⟩ : ∃ P, F * ((m : Int) - p) = P := ⟨_, rfl⟩
    rw [hP1] at b1
    rw [hP2] at b2
    rw [hP1, hP2] at HV
    have HP1 := Lib.hid hP1
    have HP2 := Lib.hid hP2
    have HW3 : Hid (Below W3.heap.size W3 W3) := Below.refl _ _
    clear hP1 hP2 hok
    go_wp2_with fail
    go_loopw [11, 12] (fun vc vi wr => ∃ i : Nat, i ≤ p ∧ vi = .int .i64 i ∧ vc = .int .i64 (coS g h f i) ∧ Hid (∀ j, j < i → coAt n m g h M f j = 0) ∧ Hid (Below W3.heap.size W3 wr)) (fun _ vi _ => p - (intOf vi).toNat)
    case atStart => exact ⟨0, by omega, rfl, rfl, fun j hj => by omega, HW3.out⟩
    case round =>
      obtain ⟨i, hi, rfl, rfl, HI, HK⟩ := hrel
      clear HW3
      have hcs := coS_bd HO.out.pg HO.out.ph i HI.out
      have hb := HK.out
      by_cases hlt : i < p
      · have hU := U3.out.keep (by decide) HK.out
        obtain ⟨b, o, rfl, hJ⟩ := hU (by omega)
        have d0 := hJ (i * 2) (by omega)
        have d1 := hJ.at (i * 2) 1 (by omega)
        have hF : Hid (∀ e, coAt n m g h M f i = e → e ≠ 0 → E = e) := fun e he hne => by rw [HE.out, ← he]; exact first_at HI.out (by rw [he]; exact hne) hlt
        have hS1 : coS g h f (i + 1) = coS g h f i + dst g h (f (i * 2)).toNat (f (i * 2 + 1)).toNat := rfl
        have hA0 : prErr n m f i = 0 → coAt n m g h M f i = if M < dst g h (f (i * 2)).toNat (f (i * 2 + 1)).toNat then 5 else 0 := fun h => by unfold coAt; rw [if_neg (by simpa using h)]
        have hA9 : ∀ R, prErr n m f i = R → R ≠ 0 → coAt n m g h M f i = R := fun R h1 h2 => coAt_err h1 h2
        have hP := pr_ways n m f i
        obtain ⟨S, hSq⟩ : ∃ S, coS g h f i = S := ⟨_, rfl⟩
        rw [hSq] at hcs hS1 ⊢
        have HJ := Lib.hid hJ
        have HU := Lib.hid hU
        obtain ⟨X, hX⟩ : ∃ X, f (i * 2) = X := ⟨_, rfl⟩
        obtain ⟨Y, hY⟩ : ∃ Y, f (i * 2 + 1) = Y := ⟨_, rfl⟩
        rw [hX] at hP hS1 hA0 d0
        rw [hY] at hP hS1 hA0 d1
        have HS1 := Lib.hid hS1
        have HA0 := Lib.hid hA0
        have HA9 := Lib.hid hA9
        clear hJ hU hSq hX hY hS1 hA0 hA9
        rcases hP with ⟨k1, hR⟩ | ⟨k1, k2, hR⟩ | ⟨k1, k2, h0, hR⟩ | ⟨k1, k2, j, hj, hV⟩
        · have HA1 := Lib.hid (HA9.out 1 hR (by decide))
          rcases (by omega : X < 0 ∨ (0 ≤ X ∧ n ≤ X)) with hx | ⟨hx, hx2⟩
          all_goals
            clear k1 hR
            go_wp2_with fail
            go_quiet (fail)
            go_wp2_with fail
            refine bodyPost_ret (v := co2 0 1) (by simp [results, Try.f23, go_sem, co2]) rfl ⟨?_, HB3.out.trans (Below.mono ⟨hb.os, hb.tape, hb.output, hb.size, hb.block⟩ HB3.out.size)⟩
            have he := hF.out 1 HA1.out (by decide)
            have hv := HV.out
            rw [he, if_pos (by decide)] at hv
            rw [hv, he]
        · have HA1 := Lib.hid (HA9.out 1 hR (by decide))
          rcases (by omega : Y < 0 ∨ (0 ≤ Y ∧ m ≤ Y)) with hx | ⟨hx, hx2⟩
          all_goals
            clear k2 hR
            go_wp2_with fail
            go_quiet (fail)
            go_wp2_with fail
            refine bodyPost_ret (v := co2 0 1) (by simp [results, Try.f23, go_sem, co2]) rfl ⟨?_, HB3.out.trans (Below.mono ⟨hb.os, hb.tape, hb.output, hb.size, hb.block⟩ HB3.out.size)⟩
            have he := hF.out 1 HA1.out (by decide)
            have hv := HV.out
            rw [he, if_pos (by decide)] at hv
            rw [hv, he]
        · obtain ⟨x, rfl⟩ : ∃ x : Nat, X = (x : Int) := ⟨X.toNat, by omega⟩
          obtain ⟨y, rfl⟩ : ∃ y : Nat, Y = (y : Int) := ⟨Y.toNat, by omega⟩
          have hg : decide (0 < i) = false := by rw [decide_eq_false_iff_not]; omega
          clear h0
          obtain ⟨D, hDq⟩ : ∃ D, dst g h x y = D := ⟨_, rfl⟩
          have hA1 := HA0.out hR
          rw [Int.toNat_natCast, Int.toNat_natCast] at hA1 HS1
          have hdb := dst_bd HO.out.pg HO.out.ph (i := x) (k := y) (by omega) (by omega)
          have hDe : max (g x - h y) (h y - g x) = D := hDq
          rw [hDq] at hA1 HS1 hdb
          have HA1 := Lib.hid hA1
          have hG := T1.out.keep (by decide) hb
          have hH := T2.out.keep (by decide) hb
          obtain ⟨gb, go, rfl, hGi⟩ := hG (by omega)
          obtain ⟨qb, qo, rfl, hHi⟩ := hH (by omega)
          have e0 := hGi x (by omega)
          have e1 := hHi y (by omega)
          have hC := fun (W9 : World) => apart_of W9 (g x) (h y) (HO.out.pg x (by omega)) (HO.out.ph y (by omega))
          rw [hDe] at hC
          generalize g x = gx at e0 hC
          generalize h y = hy at e1 hC
          have HC := Lib.hid hC
          have x2 : wr.cell? ⟨w.heap.size, 2, none⟩ = some (.int .i64 M) := (hb.cell (p := ⟨w.heap.size, 2, none⟩) (World.block_lt_of_cell? W3 _ X2.out)).trans X2.out
          have hxn : (x : Int) < n := by omega
          have hym : (y : Int) < m := by omega
          clear hC hG hH hGi hHi hDe hDq hA1 hR k1 k2
          by_cases hM : M < D
          · rw [if_pos hM] at HA1
            go_wp2_with fail
            go_quiet (fail)
            obtain ⟨Wa, hWa⟩ : ∃ Wa, wr.drewN nq = Wa := ⟨_, rfl⟩
            have tWa : ∀ (q r : Nat) (v : Value), wr.cell? ⟨q, r, none⟩ = some v → Wa.cell? ⟨q, r, none⟩ = some v := fun q r v h => by rw [← hWa]; exact h
            replace e0 := tWa _ _ _ e0
            replace e1 := tWa _ _ _ e1
            replace x2 := tWa _ _ _ x2
            replace hb : Below W3.heap.size W3 Wa := by rw [← hWa]; exact ⟨hb.os, hb.tape, hb.output, hb.size, hb.block⟩
            rw [hWa]
            clear tWa hWa nq
            go_wp2_with fail
            go_quiet ((go_at_call 61; with_reducible exact Calls.quiet_of_same (HC.out _)))
            go_wp2_with fail
            refine bodyPost_ret (v := co2 0 5) (by simp [results, Try.f23, go_sem, co2]) rfl ⟨?_, HB3.out.trans (Below.mono ⟨hb.os, hb.tape, hb.output, hb.size, hb.block⟩ HB3.out.size)⟩
            have he := hF.out 5 HA1.out (by decide)
            have hv := HV.out
            rw [he, if_pos (by decide)] at hv
            rw [hv, he]
          · have hM2 : decide (M < D) = false := by rw [decide_eq_false_iff_not]; exact hM
            have hM3 : decide (D > M) = false := hM2
            rw [if_neg hM] at HA1
            clear hM
            go_wp2_with fail
            go_quiet (fail)
            obtain ⟨Wa, hWa⟩ : ∃ Wa, wr.drewN nq = Wa := ⟨_, rfl⟩
            have tWa : ∀ (q r : Nat) (v : Value), wr.cell? ⟨q, r, none⟩ = some v → Wa.cell? ⟨q, r, none⟩ = some v := fun q r v h => by rw [← hWa]; exact h
            replace e0 := tWa _ _ _ e0
            replace e1 := tWa _ _ _ e1
            replace x2 := tWa _ _ _ x2
            replace hb : Below W3.heap.size W3 Wa := by rw [← hWa]; exact ⟨hb.os, hb.tape, hb.output, hb.size, hb.block⟩
            rw [hWa]
            clear tWa hWa nq
            go_wp2_with fail
            go_quiet ((go_at_call 61; with_reducible exact Calls.quiet_of_same (HC.out _)))
            obtain ⟨Wb, hWb⟩ : ∃ Wb, Wa.drewN nq = Wb := ⟨_, rfl⟩
            have tWb : ∀ (q r : Nat) (v : Value), Wa.cell? ⟨q, r, none⟩ = some v → Wb.cell? ⟨q, r, none⟩ = some v := fun q r v h => by rw [← hWb]; exact h
            replace e0 := tWb _ _ _ e0
            replace e1 := tWb _ _ _ e1
            replace x2 := tWb _ _ _ x2
            replace hb : Below W3.heap.size W3 Wb := by rw [← hWb]; exact ⟨hb.os, hb.tape, hb.output, hb.size, hb.block⟩
            rw [hWb]
            clear tWb hWb nq
            go_wp2_with fail
            go_quiet ((go_at_call 61; with_reducible exact Calls.quiet_of_same (HC.out _)))
            go_wp2_with fail
            exact ⟨⟨i + 1, by omega, by go_num, by rw [HS1.out], (fun j hj => by
              by_cases ej : j = i
              · subst ej; exact HA1.out
              · exact HI.out j (by omega)), ⟨hb.os, hb.tape, hb.output, hb.size, hb.block⟩⟩, by simp [intOf]; omega⟩
        · obtain ⟨x, rfl⟩ : ∃ x : Nat, X = (x : Int) := ⟨X.toNat, by omega⟩
          obtain ⟨y, rfl⟩ : ∃ y : Nat, Y = (y : Int) := ⟨Y.toNat, by omega⟩
          obtain ⟨X', hX'⟩ : ∃ X', f (j * 2) = X' := ⟨_, rfl⟩
          obtain ⟨Y', hY'⟩ : ∃ Y', f (j * 2 + 1) = Y' := ⟨_, rfl⟩
          have d2 := HJ.out (j * 2) (by omega)
          have d3 := HJ.out.at (j * 2) 1 (by omega)
          rw [hX'] at hV d2
          rw [hY'] at hV d3
          have hg : decide (0 < i) = true := by rw [decide_eq_true_iff]; omega
          obtain rfl : j = i - 1 := by omega
          have hpos : (0 : Int) < i := by omega
          have hw1 : IntKind.i64.wrap ((i : Int) - 1) = (i : Int) - 1 := IntWalk.i64_in _ (by omega)
          have ht1 : ((i : Int) - 1).toNat = i - 1 := by omega
          have hin : (i : Int) - 1 < p := by omega
          have hi0 : 0 ≤ (i : Int) - 1 := by omega
          clear hj hX' hY'
          rcases hV with ⟨hx | ⟨hx, hy⟩, hR⟩ | ⟨hx, hy, hR⟩
          · have HA1 := Lib.hid (HA9.out 7 hR (by decide))
            clear hR
            go_wp2_with fail
            go_quiet (fail)
            go_wp2_with fail
            refine bodyPost_ret (v := co2 0 7) (by simp [results, Try.f23, go_sem, co2]) rfl ⟨?_, HB3.out.trans (Below.mono ⟨hb.os, hb.tape, hb.output, hb.size, hb.block⟩ HB3.out.size)⟩
            have he := hF.out 7 HA1.out (by decide)
            have hv := HV.out
            rw [he, if_pos (by decide)] at hv
            rw [hv, he]
          · have HA1 := Lib.hid (HA9.out 7 hR (by decide))
            clear hR
            go_wp2_with fail
            go_quiet (fail)
            go_wp2_with fail
            refine bodyPost_ret (v := co2 0 7) (by simp [results, Try.f23, go_sem, co2]) rfl ⟨?_, HB3.out.trans (Below.mono ⟨hb.os, hb.tape, hb.output, hb.size, hb.block⟩ HB3.out.size)⟩
            have he := hF.out 7 HA1.out (by decide)
            have hv := HV.out
            rw [he, if_pos (by decide)] at hv
            rw [hv, he]
          · skip
            obtain ⟨D, hDq⟩ : ∃ D, dst g h x y = D := ⟨_, rfl⟩
            have hA1 := HA0.out hR
            rw [Int.toNat_natCast, Int.toNat_natCast] at hA1 HS1
            have hdb := dst_bd HO.out.pg HO.out.ph (i := x) (k := y) (by omega) (by omega)
            have hDe : max (g x - h y) (h y - g x) = D := hDq
            rw [hDq] at hA1 HS1 hdb
            have HA1 := Lib.hid hA1
            have hG := T1.out.keep (by decide) hb
            have hH := T2.out.keep (by decide) hb
            obtain ⟨gb, go, rfl, hGi⟩ := hG (by omega)
            obtain ⟨qb, qo, rfl, hHi⟩ := hH (by omega)
            have e0 := hGi x (by omega)
            have e1 := hHi y (by omega)
            have hC := fun (W9 : World) => apart_of W9 (g x) (h y) (HO.out.pg x (by omega)) (HO.out.ph y (by omega))
            rw [hDe] at hC
            generalize g x = gx at e0 hC
            generalize h y = hy at e1 hC
            have HC := Lib.hid hC
            have x2 : wr.cell? ⟨w.heap.size, 2, none⟩ = some (.int .i64 M) := (hb.cell (p := ⟨w.heap.size, 2, none⟩) (World.block_lt_of_cell? W3 _ X2.out)).trans X2.out
            have hxn : (x : Int) < n := by omega
            have hym : (y : Int) < m := by omega
            clear hC hG hH hGi hHi hDe hDq hA1 hR k1 k2
            by_cases hM : M < D
            · rw [if_pos hM] at HA1
              go_wp2_with fail
              go_quiet (fail)
              obtain ⟨Wa, hWa⟩ : ∃ Wa, wr.drewN nq = Wa := ⟨_, rfl⟩
              have tWa : ∀ (q r : Nat) (v : Value), wr.cell? ⟨q, r, none⟩ = some v → Wa.cell? ⟨q, r, none⟩ = some v := fun q r v h => by rw [← hWa]; exact h
              replace e0 := tWa _ _ _ e0
              replace e1 := tWa _ _ _ e1
              replace x2 := tWa _ _ _ x2
              replace d2 := tWa _ _ _ d2
              replace d3 := tWa _ _ _ d3
              replace hb : Below W3.heap.size W3 Wa := by rw [← hWa]; exact ⟨hb.os, hb.tape, hb.output, hb.size, hb.block⟩
              rw [hWa]
              clear tWa hWa nq
              go_wp2_with fail
              go_quiet ((go_at_call 61; with_reducible exact Calls.quiet_of_same (HC.out _)))
              go_wp2_with fail
              refine bodyPost_ret (v := co2 0 5) (by simp [results, Try.f23, go_sem, co2]) rfl ⟨?_, HB3.out.trans (Below.mono ⟨hb.os, hb.tape, hb.output, hb.size, hb.block⟩ HB3.out.size)⟩
              have he := hF.out 5 HA1.out (by decide)
              have hv := HV.out
              rw [he, if_pos (by decide)] at hv
              rw [hv, he]
            · have hM2 : decide (M < D) = false := by rw [decide_eq_false_iff_not]; exact hM
              have hM3 : decide (D > M) = false := hM2
              rw [if_neg hM] at HA1
              clear hM
              go_wp2_with fail
              go_quiet (fail)
              obtain ⟨Wa, hWa⟩ : ∃ Wa, wr.drewN nq = Wa := ⟨_, rfl⟩
              have tWa : ∀ (q r : Nat) (v : Value), wr.cell? ⟨q, r, none⟩ = some v → Wa.cell? ⟨q, r, none⟩ = some v := fun q r v h => by rw [← hWa]; exact h
              replace e0 := tWa _ _ _ e0
              replace e1 := tWa _ _ _ e1
              replace x2 := tWa _ _ _ x2
              replace d2 := tWa _ _ _ d2
              replace d3 := tWa _ _ _ d3
              replace hb : Below W3.heap.size W3 Wa := by rw [← hWa]; exact ⟨hb.os, hb.tape, hb.output, hb.size, hb.block⟩
              rw [hWa]
              clear tWa hWa nq
              go_wp2_with fail
              go_quiet ((go_at_call 61; with_reducible exact Calls.quiet_of_same (HC.out _)))
              obtain ⟨Wb, hWb⟩ : ∃ Wb, Wa.drewN nq = Wb := ⟨_, rfl⟩
              have tWb : ∀ (q r : Nat) (v : Value), Wa.cell? ⟨q, r, none⟩ = some v → Wb.cell? ⟨q, r, none⟩ = some v := fun q r v h => by rw [← hWb]; exact h
              replace e0 := tWb _ _ _ e0
              replace e1 := tWb _ _ _ e1
              replace x2 := tWb _ _ _ x2
              replace d2 := tWb _ _ _ d2
              replace d3 := tWb _ _ _ d3
              replace hb : Below W3.heap.size W3 Wb := by rw [← hWb]; exact ⟨hb.os, hb.tape, hb.output, hb.size, hb.block⟩
              rw [hWb]
              clear tWb hWb nq
              go_wp2_with fail
              go_quiet ((go_at_call 61; with_reducible exact Calls.quiet_of_same (HC.out _)))
              go_wp2_with fail
              exact ⟨⟨i + 1, by omega, by go_num, by rw [HS1.out], (fun j hj => by
                by_cases ej : j = i
                · subst ej; exact HA1.out
                · exact HI.out j (by omega)), ⟨hb.os, hb.tape, hb.output, hb.size, hb.block⟩⟩, by simp [intOf]; omega⟩
      · obtain rfl : i = p := by omega
        have he := HE.out
        rw [first_zero HI.out] at he
        have hv := HV.out
        rw [he, if_neg (by simp)] at hv
        have HE2 := Lib.hid he
        have HV2 := Lib.hid hv
        clear he hv
        have x0 : wr.cell? ⟨w.heap.size, 0, none⟩ = some (.int .i64 L) := (hb.cell (p := ⟨w.heap.size, 0, none⟩) (World.block_lt_of_cell? W3 _ X0.out)).trans X0.out
        have x1 : wr.cell? ⟨w.heap.size, 1, none⟩ = some (.int .i64 F) := (hb.cell (p := ⟨w.heap.size, 1, none⟩) (World.block_lt_of_cell? W3 _ X1.out)).trans X1.out
        have v1 : IntKind.i64.wrap (L * ((n : Int) - i)) = P1 := (IntWalk.i64_in _ (by rw [HP1.out]; omega)).trans HP1.out
        have v2 : IntKind.i64.wrap (F * ((m : Int) - i)) = P2 := (IntWalk.i64_in _ (by rw [HP2.out]; omega)).trans HP2.out
        have v4 : IntKind.i64.wrap ((n : Int) - i) = (n : Int) - i := IntWalk.i64_in _ (by omega)
        have v5 : IntKind.i64.wrap ((m : Int) - i) = (m : Int) - i := IntWalk.i64_in _ (by omega)
        generalize coS g h f i = Z at HV2 hcs ⊢
        go_wp2_with fail
        exact bodyPost_ret (v := co2 (Z + P1 + P2) 0) (by simp [results, Try.f23, go_sem, co2]) rfl ⟨by rw [HE2.out, HV2.out, show Z + P1 + P2 = P1 + P2 + Z by omega], HB3.out.trans (HK.out.mono HB3.out.size)⟩
  · rw [if_pos (by simpa using h0)] at HE
    have hne : (pbChk n m g h L F M == 0) = false := by simpa using h0
    have hne2 : (pbChk n m g h L F M != 0) = true := by simpa using h0
    have HN := Lib.hid h0
    clear h0
    generalize pbChk n m g h L F M = r at *
    go_wp2_with fail
    refine bodyPost_ret (v := co2 0 r) (by simp [results, Try.f23, go_sem, co2]) rfl ⟨?_, HB3.out⟩
    have hv := HV.out
    rw [HE.out, if_pos HN.out] at hv
    rw [hv, HE.out]
end Go.Proofs.Yteinabcklmpcjaa
