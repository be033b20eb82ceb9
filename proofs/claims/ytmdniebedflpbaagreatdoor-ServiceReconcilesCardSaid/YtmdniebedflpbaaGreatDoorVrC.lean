/-
  WALKS: checkLists (the program).
-/
import Derived.Test.YtmdniebedflpbaaGreatDoorVrB
namespace Go.Proofs.YtmdniebedflpbaaGreatDoor
open Go.RowKit

set_option maxRecDepth 100000 in
set_option maxHeartbeats 16000000 in
theorem check_of (w : World) (g : Nat) (A : Nat → Option Addr) (N Cc : Nat → Nat) (F : Nat → Nat → Int) (E : Int) (hc : ∀ j, j < 2 → w.cell? ⟨g, j, none⟩ = some (.slice (A j) (N j) (Cc j))) (hS : ∀ j, j < 2 → Sl w 6 (A j) (N j) (F j)) (hN : ∀ j, j < 2 → N j ≤ maxLen)
    (h4 : (∃ j, j < 2 ∧ 24 < N j) → E = 4) (h1 : (∀ j, j < 2 → N j ≤ 24) → (∃ j, j < 2 ∧ ∃ i, i < N j ∧ ¬ (Fd.at (F j) i).ok) → E = 1) (h0 : (∀ j, j < 2 → N j ≤ 24) → (∀ j, j < 2 → ∀ i, i < N j → (Fd.at (F j) i).ok) → E = 0) :
    Calls Tryz.prog 56 #[.slice (some ⟨g, 0, none⟩) 2 2] w fun e W => e = .returned (.int .i64 E) ∧ Below w.heap.size w W := by
  have HI : Hid (∀ b w x lo hi, b = decide (lo ≤ x ∧ x ≤ hi) → Calls Tryz.prog 44 #[.int .i64 x, .int .i64 lo, .int .i64 hi] w fun e w' => e = .returned (.bool b) ∧ w' = w) := fun b w x lo hi h => vwithin_of b w x lo hi h
  have HC := Lib.hid hc
  have HS := Lib.hid hS
  have HN := Lib.hid hN
  have H4 := Lib.hid h4
  have H1 := Lib.hid h1
  have H0 := Lib.hid h0
  clear hc hS hN h4 h1 h0
  go_enter Tryz.func56, Tryz.ntmps56
  go_wp2_with fail
  go_loopw [4, 11] (fun v4 v11 wr => ∃ j : Nat, j ≤ 2 ∧ v11 = .int .i64 (j : Int) ∧ Hid (∀ i, i < j → N i ≤ 24) ∧ w = wr) (fun _ v11 _ => 2 - (intOf v11).toNat)
  case atStart => exact ⟨0, by omega, rfl, Lib.hid (fun i hi => by omega), rfl⟩
  case round =>
    obtain ⟨j, hj, rfl, HG, rfl⟩ := hrel
    by_cases hlt : j < 2
    · have hj2 : (j : Int) < 2 := by omega
      have c0 := HC.out j hlt
      have hnl := HN.out j hlt
      have hmx : maxLen = 9223372036854775807 := rfl
      obtain ⟨nj, hnj⟩ : ∃ z, N j = z := ⟨_, rfl⟩
      rw [hnj] at c0 hnl
      have HNJ := Lib.hid hnj
      clear hnj
      have hnl2 : (nj : Int) ≤ 9223372036854775807 := by omega
      by_cases hbig : 24 < nj
      · have hb2 : (24 : Int) < (nj : Int) := by omega
        have HE := Lib.hid (H4.out ⟨j, hlt, by rw [HNJ.out]; exact hbig⟩)
        go_wp2_with fail
        (try simp only [Exit.inBlock, Exit.then])
        rw [HE.out]
        first | go_ret | go_ret2
        exact ⟨rfl, Below.refl _ _⟩
      · have hb2 : ¬ (24 : Int) < (nj : Int) := by omega
        have hwi : IntKind.i64.wrap ((j : Int) + 1) = (j : Int) + 1 := IntWalk.i64_in _ (by omega)
        go_wp2_with fail
        exact ⟨⟨j + 1, by omega, by go_num, Lib.hid (fun i hi => by
          rcases Nat.lt_or_ge i j with h | h
          · exact HG.out i h
          · obtain rfl : i = j := by omega
            rw [HNJ.out]; omega), trivial⟩, by simp [intOf]; omega⟩
    · have e2 : (j : Int) = 2 := by omega
      rw [e2]
      have hj2 : j = 2 := by omega
      rw [hj2] at HG
      clear e2 hlt hj hj2
      go_wp2_with fail
      go_loopw [6, 8, 21] (fun v6 v8 v21 wr' => ∃ j : Nat, j ≤ 2 ∧ v21 = .int .i64 (j : Int) ∧ Hid (∀ t, t < j → ∀ i, i < N t → (Fd.at (F t) i).ok) ∧ Hid (Below w.heap.size w wr')) (fun _ _ v21 _ => 2 - (intOf v21).toNat)
      case atStart => exact ⟨0, by omega, rfl, Lib.hid (fun t ht => by omega), Lib.hid (Below.refl _ _)⟩
      case round =>
        obtain ⟨j, hj, rfl, HO, HB⟩ := hrel
        by_cases hlt : j < 2
        · have hj2 : (j : Int) < 2 := by omega
          have c0 := (HB.out.cell (p := ⟨g, j, none⟩) (World.block_lt_of_cell? _ _ (HC.out j hlt))).trans (HC.out j hlt)
          have hnl := HG.out j hlt
          have hSj := HS.out j hlt
          obtain ⟨nj, hnj⟩ : ∃ z, N j = z := ⟨_, rfl⟩
          obtain ⟨pj, hpj⟩ : ∃ z, A j = z := ⟨_, rfl⟩
          rw [hnj] at c0 hnl hSj
          rw [hpj] at c0 hSj
          have HNJ := Lib.hid hnj
          have HSJ := Lib.hid hSj
          clear hnj hpj hSj
          have hwi : IntKind.i64.wrap ((j : Int) + 1) = (j : Int) + 1 := IntWalk.i64_in _ (by omega)
          go_wp2_with fail
          clear c0
          go_loopw [8, 27] (fun v8 v27 wr'' => ∃ i : Nat, i ≤ nj ∧ v27 = .int .i64 (i : Int) ∧ Hid (∀ t, t < i → (Fd.at (F j) t).ok) ∧ Hid (Below w.heap.size w wr'')) (fun _ v27 _ => nj - (intOf v27).toNat)
          case atStart => exact ⟨0, by omega, rfl, Lib.hid (fun t ht => by omega), HB⟩
          case round =>
            obtain ⟨i, hi, rfl, HK, HB2⟩ := hrel
            by_cases hlt2 : i < nj
            · have hin : (i : Int) < (nj : Int) := by omega
              have hwi2 : IntKind.i64.wrap ((i : Int) + 1) = (i : Int) + 1 := IntWalk.i64_in _ (by omega)
              obtain ⟨b, o, rfl, hI⟩ := HSJ.out (by omega)
              obtain ⟨d0, d1, d2, d3, d4, d5⟩ := Fd.get (hI.keep HB2.out (hI.lt (by omega))) hlt2
              clear hI
              obtain ⟨x, hx⟩ : ∃ x, Fd.at (F j) i = x := ⟨_, rfl⟩
              rw [hx] at d0 d1 d2 d3 d4 d5
              have HX := Lib.hid hx
              clear hx
              go_upto_region 13 with fail
              have k1 : Fb (wr.alloc (.cells #[.int .i64 x.a, .int .i64 x.c, .int .i64 x.l, .int .i64 x.w, .int .i64 x.lo, .int .i64 x.hi] 112)) wr.heap.size x := new_heap _ _
              have HB3 := Lib.hid (HB2.out.alloc HB2.out.size (.cells #[.int .i64 x.a, .int .i64 x.c, .int .i64 x.l, .int .i64 x.w, .int .i64 x.lo, .int .i64 x.hi] 112))
              generalize wr.alloc (.cells #[.int .i64 x.a, .int .i64 x.c, .int .i64 x.l, .int .i64 x.w, .int .i64 x.lo, .int .i64 x.hi] 112) = W1 at k1 HB3 ⊢
              generalize wr.heap.size = g8 at k1 ⊢
              have s0 : W1.cell? ⟨g8, 0, none⟩ = some (.int .i64 x.a) := cell_h (k := 0) k1 rfl
              have s1 : W1.cell? ⟨g8, 1, none⟩ = some (.int .i64 x.c) := cell_h (k := 1) k1 rfl
              clear k1 d0 d1 d2 d3 d4 d5 HB2
              by_cases ha : 0 ≤ x.a ∧ x.a ≤ 1073741824
              · go_wp2_with fail
                refine (HI.out true _ _ _ _ (by symm; rw [decide_eq_true_iff]; exact ha)).mono ?_
                rintro e w9 ⟨rfl, rfl⟩
                go_wp2_with fail
                by_cases hcc : 0 ≤ x.c ∧ x.c ≤ 719
                · refine (HI.out true _ _ _ _ (by symm; rw [decide_eq_true_iff]; exact hcc)).mono ?_
                  rintro e w8 ⟨rfl, rfl⟩
                  go_wp2_with fail
                  exact ⟨⟨i + 1, by omega, by go_num, Lib.hid (fun t ht => by
                    rcases Nat.lt_or_ge t i with h | h
                    · exact HK.out t h
                    · obtain rfl : t = i := by omega
                      rw [HX.out]; exact ⟨ha, hcc⟩), HB3⟩, by simp [intOf]; omega⟩
                · refine (HI.out false _ _ _ _ (by symm; rw [decide_eq_false_iff_not]; exact hcc)).mono ?_
                  rintro e w8 ⟨rfl, rfl⟩
                  have HE := Lib.hid (H1.out HG.out ⟨j, hlt, i, by rw [HNJ.out]; exact hlt2, by rw [HX.out]; exact fun h => hcc h.2⟩)
                  go_wp2_with fail
                  (try simp only [Exit.inBlock, Exit.then])
                  rw [HE.out]
                  first | go_ret | go_ret2
                  exact ⟨rfl, HB3.out⟩
              · go_wp2_with fail
                refine (HI.out false _ _ _ _ (by symm; rw [decide_eq_false_iff_not]; exact ha)).mono ?_
                rintro e w9 ⟨rfl, rfl⟩
                have HE := Lib.hid (H1.out HG.out ⟨j, hlt, i, by rw [HNJ.out]; exact hlt2, by rw [HX.out]; exact fun h => ha h.1⟩)
                go_wp2_with fail
                (try simp only [Exit.inBlock, Exit.then])
                rw [HE.out]
                first | go_ret | go_ret2
                exact ⟨rfl, HB3.out⟩
            · obtain rfl : i = nj := by omega
              go_wp2_with fail
              exact ⟨⟨j + 1, by omega, by go_num, Lib.hid (fun t ht => by
                rcases Nat.lt_or_ge t j with h | h
                · exact HO.out t h
                · obtain rfl : t = j := by omega
                  rw [HNJ.out]; exact HK.out), HB2⟩, by simp [intOf]; omega⟩
        · obtain rfl : j = 2 := by omega
          have HE := Lib.hid (H0.out HG.out HO.out)
          go_wp2_with fail
          (try simp only [Exit.inBlock, Exit.then])
          rw [HE.out]
          first | go_ret | go_ret2
          exact ⟨rfl, HB.out⟩
end Go.Proofs.YtmdniebedflpbaaGreatDoor
