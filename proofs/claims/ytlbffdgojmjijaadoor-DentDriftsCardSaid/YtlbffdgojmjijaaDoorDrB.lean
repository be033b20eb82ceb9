/-
  WALKS: ties without an error; Miss.
-/
import Derived.Test.YtlbffdgojmjijaaDoorDrA
namespace Go.Proofs.YtlbffdgojmjijaaDoor
open Go.RowKit

/-- Ties of a line of n steps without an error: 4 cells each. -/
def TsOk (n k : Nat) (F : Nat → Int) : Prop :=
  (1 ≤ k ∧ k ≤ 8) ∧ (∀ i, i < k → 1 ≤ F (i * 4) ∧ F (i * 4) ≤ n) ∧ (∀ i, i < k → ∀ j, j < 3 → -1073741824 ≤ F (i * 4 + (j + 1)) ∧ F (i * 4 + (j + 1)) ≤ 1073741824) ∧ ∀ i, i + 1 < k → F (i * 4) < F ((i + 1) * 4)

set_option maxRecDepth 100000 in
set_option maxHeartbeats 4000000 in
theorem ties_ok (w : World) (a : Option Addr) (n k c : Nat) (F : Nat → Int) (h : TsOk n k F) (hS : Sl w 4 a k F) :
    Calls Tryd.prog 31 #[.slice a k c, .int .i64 (n : Int)] w fun e w' => e = .returned (.int .i64 0) ∧ Below w.heap.size w w' := by
  obtain ⟨hk, h1, h2, h3⟩ := h
  have H1 := Lib.hid h1
  have H2 := Lib.hid h2
  have H3 := Lib.hid h3
  obtain ⟨b, o, rfl, hI⟩ := hS (by omega)
  have HI := Lib.hid hI
  have hbl := hI.lt (by omega)
  have ec : (1 : Int) ≤ k ∧ (k : Int) ≤ 8 := by omega
  clear hS hI h1 h2 h3
  go_enter Tryd.func31, Tryd.ntmps31
  go_wp2_with fail
  go_loopw [5, 18] (fun va vi wr => ∃ (i : Nat) (x : Int), i ≤ k ∧ vi = .int .i64 i ∧ va = .int .i64 x ∧ Hid (i < k → x < F (i * 4)) ∧ Hid (Below w.heap.size w wr)) (fun _ vi _ => k - (intOf vi).toNat)
  case atStart => exact ⟨0, 0, by omega, rfl, rfl, fun h => by have := H1.out 0 (by omega); omega, Below.refl _ _⟩
  case round =>
    obtain ⟨i, x, hi, rfl, rfl, HX, HB⟩ := hrel
    by_cases hlt : i < k
    · have hJ := HI.out.keep HB.out hbl
      have d0 := hJ (i * 4) (by omega)
      have d1 := hJ.at (i * 4) 1 (by omega)
      have d2 := hJ.at (i * 4) 2 (by omega)
      have d3 := hJ.at (i * 4) 3 (by omega)
      have q0 := H1.out i hlt
      have q1 := H2.out i hlt 0 (by omega)
      have q2 := H2.out i hlt 1 (by omega)
      have q3 := H2.out i hlt 2 (by omega)
      have hx := HX.out hlt
      have HN : Hid (i + 1 < k → F (i * 4) < F ((i + 1) * 4)) := H3.out i
      generalize F (i * 4) = S at d0 q0 hx HN
      generalize F (i * 4 + 1) = X at d1 q1
      generalize F (i * 4 + 2) = Y at d2 q2
      generalize F (i * 4 + 3) = Z at d3 q3
      have HW : Hid (∀ V, Calls Tryd.prog 21 #[.agg #[.int .i64 X, .int .i64 Y, .int .i64 Z], .int .i64 1073741824] V fun e w' => e = .returned (.bool true) ∧ Below V.heap.size V w') := fun V => within_yes V _ _ _ _ q1 q2 q3 (by omega)
      have hss := HB.out.size
      clear hJ q1 q2 q3
      go_wp2_with fail
      generalize hW : wr.alloc (.cells #[.int .i64 S, .int .i64 X, .int .i64 Y, .int .i64 Z] 38) = W
      have hB1 : Below wr.heap.size wr W := by rw [← hW]; exact (Below.refl _ _).alloc (Nat.le_refl _) _
      have hA : W.heap[wr.heap.size]? = some (.cells #[.int .i64 S, .int .i64 X, .int .i64 Y, .int .i64 Z] 38 (0, 0)) := by rw [← hW]; exact World.alloc_heap_new wr _
      refine (HW.out _).mono ?_
      rintro e W2 ⟨rfl, hb2⟩
      have s0 : W2.cell? ⟨wr.heap.size, 0, none⟩ = some (.int .i64 S) := cell_h ((hb2.block _ (Array.getElem?_eq_some_iff.1 hA).1).trans hA) rfl
      have HB2 := Lib.hid (HB.out.trans ((hB1.trans (hb2.mono hB1.size)).mono hss))
      clear hW hB1 hA hb2
      go_wp2_with fail
      exact ⟨⟨i + 1, S, by omega, by go_num, rfl, HN, HB2⟩, by simp [intOf]; omega⟩
    · obtain rfl : i = k := by omega
      go_wp2_with fail
      go_ret
      exact ⟨rfl, HB.out⟩

/-- The cells of the misses of the first k ties; behind them zeros. -/
def msV (f F : Nat → Int) (i : Nat) : Int := F (i / 3 * 4 + (i % 3 + 1)) - lnS f (i % 3) (F (i / 3 * 4)).toNat
def msG (f F : Nat → Int) (k i : Nat) : Value := if i < k * 3 then .int .i64 (msV f F i) else .int .i64 0
theorem msG_step (f F : Nat → Int) (k i : Nat) : turn (turn (turn (msG f F k) (k * 3) (.int .i64 (msV f F (k * 3)))) (k * 3 + 1) (.int .i64 (msV f F (k * 3 + 1)))) (k * 3 + 2) (.int .i64 (msV f F (k * 3 + 2))) i = msG f F (k + 1) i := by
  unfold turn msG
  by_cases e2 : i = k * 3 + 2
  · subst e2; rw [if_pos rfl, if_pos (by omega)]
  · rw [if_neg e2]
    by_cases e1 : i = k * 3 + 1
    · subst e1; rw [if_pos rfl, if_pos (by omega)]
    · rw [if_neg e1]
      by_cases e0 : i = k * 3
      · subst e0; rw [if_pos rfl, if_pos (by omega)]
      · rw [if_neg e0]
        by_cases h : i < k * 3
        · rw [if_pos h, if_pos (by omega)]
        · rw [if_neg h, if_neg (by omega)]
theorem msV_at (f F : Nat → Int) (i j : Nat) (hj : j < 3) (s : Nat) (hs : F (i * 4) = (s : Int)) : msV f F (i * 3 + j) = F (i * 4 + (j + 1)) - lnS f j s := by
  unfold msV
  rw [show (i * 3 + j) / 3 = i by omega, show (i * 3 + j) % 3 = j by omega, hs, Int.toNat_natCast]

set_option maxRecDepth 100000 in
set_option maxHeartbeats 4000000 in
theorem miss_of (w : World) (a b : Option Addr) (n c k d : Nat) (f F : Nat → Int) (h : VsOk n f) (hT : TsOk n k F) (hS : Sl w 3 a n f) (hF : Sl w 4 b k F) :
    Calls Tryd.prog 13 #[.slice a n c, .slice b k d] w fun e W => ∃ G, e = .returned (.tuple #[.slice (some ⟨G, 0, none⟩) k k, .int .i64 0]) ∧ w.heap.size ≤ G ∧ Blk W G 36 (k * 3) (msG f F k) ∧ Below w.heap.size w W := by
  have hn := h.1
  have hk := hT.1
  have HT := Lib.hid hT
  have HOk := Lib.hid h
  have HS := Lib.hid hS
  obtain ⟨b, o, rfl, hI⟩ := hF (by omega)
  have HI := Lib.hid hI
  have hbl := hI.lt (by omega)
  clear h hT hS hF hI
  go_enter Tryd.func13, Tryd.ntmps13
  go_wp2_with fail
  refine (line_of2 w a n c f HOk.out HS.out).mono ?_
  rintro e W1 ⟨G, rfl, hG0, hG, hB1⟩
  have HG := Lib.hid hG
  have HB1 := Lib.hid hB1
  clear hG hB1
  go_wp2_with fail
  refine (ties_ok W1 (some ⟨b, o, none⟩) n k d F HT.out (fun _ => ⟨b, o, rfl, HI.out.keep HB1.out hbl⟩)).mono ?_
  rintro e W2 ⟨rfl, hB2⟩
  have HG2 := Lib.hid (HG.out.keep hB2 HG.out.lt)
  have HB2 := Lib.hid (HB1.out.trans (hB2.mono HB1.out.size))
  clear hB2 HG HB1
  have hmk : Sem.run Tryd.prog (Instr.makeSlice 24 (.int .i64 (k : Int)) (.int .i64 (k : Int))) W2 = .ok (.slice (some ⟨W2.heap.size, 0, none⟩) k k) (W2.alloc (.cells (vrow (k * 3) (zc (.agg #[.int .i64 0, .int .i64 0, .int .i64 0]) 3)) 36)) := make_run2 W2 24 36 Tryd.underlying24 x_vec rfl k (by omega) (by decide)
  go_wp2_with fail
  obtain ⟨W3, hW3⟩ : ∃ W3, W2.alloc (.cells (vrow (k * 3) (zc (.agg #[.int .i64 0, .int .i64 0, .int .i64 0]) 3)) 36) = W3 := ⟨_, rfl⟩
  rw [hW3]
  have hM0 : Blk W3 W2.heap.size 36 (k * 3) (msG f F 0) := by
    rw [← hW3]
    refine (Blk.new W2 _ _ _).congr fun i _ => ?_
    unfold msG zc
    rw [if_neg (by omega)]
    have : i % 3 = 0 ∨ i % 3 = 1 ∨ i % 3 = 2 := by omega
    rcases this with h | h | h <;> rw [h] <;> rfl
  have HM0 := Lib.hid hM0
  have HB3 : Hid (Below W2.heap.size W2 W3) := by rw [← hW3]; exact Lib.hid ((Below.refl _ _).alloc (Nat.le_refl _) _)
  have hw2 := HB2.out.size
  have hG2 := HG2.out.lt
  clear hW3 hM0 hmk
  go_loopw [32] (fun vi wr => ∃ i : Nat, i ≤ k ∧ vi = .int .i64 i ∧ Hid (Blk wr W2.heap.size 36 (k * 3) (msG f F i)) ∧ Hid (Below W2.heap.size W2 wr)) (fun vi _ => k - (intOf vi).toNat)
  case atStart => exact ⟨0, by omega, rfl, HM0.out, HB3.out⟩
  case round =>
    obtain ⟨i, hi, rfl, HM, HB⟩ := hrel
    by_cases hlt : i < k
    · have hBw := HB2.out.trans (HB.out.mono hw2)
      have hJ := HI.out.keep hBw hbl
      have hL := HG2.out.keep HB.out hG2
      obtain ⟨S, hS⟩ : ∃ S : Nat, F (i * 4) = (S : Int) := ⟨(F (i * 4)).toNat, by have := HT.out.2.1 i hlt; omega⟩
      have hS2 : 1 ≤ S ∧ S ≤ n := by have := HT.out.2.1 i hlt; omega
      have d0 := hJ (i * 4) (by omega)
      have d1 := hJ.at (i * 4) 1 (by omega)
      have d2 := hJ.at (i * 4) 2 (by omega)
      have d3 := hJ.at (i * 4) 3 (by omega)
      have l0 := hL.cell (k := S * 3) (by omega)
      have l1 := hL.cell (k := S * 3 + 1) (by omega)
      have l2 := hL.cell (k := S * 3 + 2) (by omega)
      simp only [lnG, show S * 3 < (n + 1) * 3 by omega, show S * 3 + 1 < (n + 1) * 3 by omega, show S * 3 + 2 < (n + 1) * 3 by omega, if_true, show S * 3 % 3 = 0 by omega, show (S * 3 + 1) % 3 = 1 by omega, show (S * 3 + 2) % 3 = 2 by omega, show S * 3 / 3 = S by omega, show (S * 3 + 1) / 3 = S by omega, show (S * 3 + 2) / 3 = S by omega] at l0 l1 l2
      have v0 := msV_at f F i 0 (by omega) S hS
      have v1 := msV_at f F i 1 (by omega) S hS
      have v2 := msV_at f F i 2 (by omega) S hS
      rw [Nat.add_zero] at v0
      have b0 := lnS_big HOk.out (j := 0) (by omega) hS2.2
      have b1 := lnS_big HOk.out (j := 1) (by omega) hS2.2
      have b2 := lnS_big HOk.out (j := 2) (by omega) hS2.2
      have q1 := HT.out.2.2.1 i hlt 0 (by omega)
      have q2 := HT.out.2.2.1 i hlt 1 (by omega)
      have q3 := HT.out.2.2.1 i hlt 2 (by omega)
      rw [hS] at d0
      simp only [Nat.zero_add, Nat.reduceAdd] at v0 v1 v2 q1 q2 q3
      have HC : Hid (∀ V, Calls Tryd.prog 20 #[.agg #[.int .i64 (F (i * 4 + 1)), .int .i64 (F (i * 4 + 2)), .int .i64 (F (i * 4 + 3))], .agg #[.int .i64 (lnS f 0 S), .int .i64 (lnS f 1 S), .int .i64 (lnS f 2 S)]] V fun e w' => e = .returned (.agg #[.int .i64 (msV f F (i * 3)), .int .i64 (msV f F (i * 3 + 1)), .int .i64 (msV f F (i * 3 + 2))]) ∧ Below V.heap.size V w') := fun V => by
        rw [v0, v1, v2]
        exact minus_of V _ _ _ _ _ _ (by unfold Big; omega) (by unfold Big; omega) (by unfold Big; omega) (by unfold Big; omega) (by unfold Big; omega) (by unfold Big; omega)
      clear v0 v1 v2 b0 b1 b2 q1 q2 q3 hS
      generalize F (i * 4 + 1) = x1 at d1 HC
      generalize F (i * 4 + 2) = x2 at d2 HC
      generalize F (i * 4 + 3) = x3 at d3 HC
      generalize lnS f 0 S = y1 at l0 HC
      generalize lnS f 1 S = y2 at l1 HC
      generalize lnS f 2 S = y3 at l2 HC
      have HSt := Lib.hid (msG_step f F i)
      generalize msV f F (i * 3) = m0 at HC HSt
      generalize msV f F (i * 3 + 1) = m1 at HC HSt
      generalize msV f F (i * 3 + 2) = m2 at HC HSt
      have eS : (0 : Int) ≤ (S : Int) ∧ (S : Int) < (n : Int) + 1 := by omega
      have hM := HM.out.lt
      clear hJ hL hBw
      go_upto_region 11 with fail
      obtain ⟨W4, hW4⟩ : ∃ W4, wr.alloc (.cells #[.int .i64 (S : Int), .int .i64 x1, .int .i64 x2, .int .i64 x3] 38) = W4 := ⟨_, rfl⟩
      rw [hW4]
      have hA : W4.heap[wr.heap.size]? = some (.cells #[.int .i64 (S : Int), .int .i64 x1, .int .i64 x2, .int .i64 x3] 38 (0, 0)) := by rw [← hW4]; exact World.alloc_heap_new wr _
      have hB4 : Below wr.heap.size wr W4 := by rw [← hW4]; exact (Below.refl _ _).alloc (Nat.le_refl _) _
      have s0 : W4.cell? ⟨wr.heap.size, 0, none⟩ = some (.int .i64 (S : Int)) := cell_h hA rfl
      have s1 : W4.cell? ⟨wr.heap.size, 1, none⟩ = some (.int .i64 x1) := cell_h hA rfl
      have s2 : W4.cell? ⟨wr.heap.size, 2, none⟩ = some (.int .i64 x2) := cell_h hA rfl
      have s3 : W4.cell? ⟨wr.heap.size, 3, none⟩ = some (.int .i64 x3) := cell_h hA rfl
      have hGw : G < wr.heap.size := by omega
      have e0 := (hB4.cell (p := ⟨G, S * 3, none⟩) hGw).trans l0
      have e1 := (hB4.cell (p := ⟨G, S * 3 + 1, none⟩) hGw).trans l1
      have e2 := (hB4.cell (p := ⟨G, S * 3 + 2, none⟩) hGw).trans l2
      have HM4 := Lib.hid (HM.out.keep hB4 hM)
      have HB4 := Lib.hid (HB.out.trans (hB4.mono HB.out.size))
      have HMd : Hid (Blk W4.drew W2.heap.size 36 (k * 3) (msG f F i)) := HM4.out
      have HBd : Hid (Below W2.heap.size W2 W4.drew) := HB4.out.drew
      have hMd : W2.heap.size < W4.drew.heap.size := HM4.out.lt
      clear hW4 hA hB4 d0 d1 d2 d3 l0 l1 l2
      go_region_with
        (go_at_call 20; refine (HC.out _).mono ?_; rintro e W5 ⟨rfl, hb5⟩; have HM5 := Lib.hid (HMd.out.keep hb5 hMd); have HB5 := Lib.hid (HBd.out.trans (hb5.mono HBd.out.size)); clear hb5; have g0 := HM5.out.cell (k := i * 3) (by omega); have g1 := HM5.out.cell (k := i * 3 + 1) (by omega); have g2 := HM5.out.cell (k := i * 3 + 2) (by omega); have z0 := HM5.out.fz (i * 3); have z1 := HM5.out.fz (i * 3 + 1); have z2 := HM5.out.fz (i * 3 + 2))
      all_goals
        have HM6 := Lib.hid ((((HM5.out.set (i * 3) (.int .i64 m0)).set (i * 3 + 1) (.int .i64 m1)).set (i * 3 + 2) (.int .i64 m2)).congr (fun j _ => HSt.out j))
        have HB6 := Lib.hid (((HB5.out.setCell (p := ⟨W2.heap.size, i * 3, none⟩) (Nat.le_refl _) (.int .i64 m0)).setCell (p := ⟨W2.heap.size, i * 3 + 1, none⟩) (Nat.le_refl _) (.int .i64 m1)).setCell (p := ⟨W2.heap.size, i * 3 + 2, none⟩) (Nat.le_refl _) (.int .i64 m2))
        clear HC HSt s0 s1 s2 s3 e0 e1 e2 g0 g1 g2 z0 z1 z2
        go_wp2_with fail
        exact ⟨⟨i + 1, by omega, by go_num, HM6, HB6⟩, by simp [intOf]; omega⟩
    · obtain rfl : i = k := by omega
      go_wp2_with fail
      go_ret2
      exact ⟨_, rfl, hw2, HM.out, HB2.out.trans (HB.out.mono hw2)⟩
end Go.Proofs.YtlbffdgojmjijaaDoor
