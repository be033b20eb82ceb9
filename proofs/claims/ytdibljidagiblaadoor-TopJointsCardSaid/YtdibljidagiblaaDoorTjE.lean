/-
  WALKS: the law of TopJoints.
-/
import Derived.Test.YtdibljidagiblaaDoorTjA
import Derived.Test.YtdibljidagiblaaDoorLoF
import Derived.Test.YtdibljidagiblaaDoorPrG
import Derived.Test.YtdibljidagiblaaDoorDyK
import Derived.BigQuiet
import Derived.Deep.QuietTactic
namespace Go.Proofs.YtdibljidagiblaaDoor
open Go.RowKit

theorem cnt_most {g : Nat → Int} {x : Int} : ∀ {m i : Nat}, (∀ j, j < m → i ≤ j → x < g j) → cnt g m x ≤ i
  | 0, i, _ => by simp [cnt]
  | m + 1, i, h => by
    rw [cnt_succ]
    by_cases e : i ≤ m
    · have h1 := cnt_most (m := m) (i := i) (fun j hj hi => h j (by omega) hi)
      have h2 := h m (by omega) e
      rw [if_neg (by omega)]
      omega
    · have h1 := cnt_le g m x
      split <;> omega
theorem cnt_least {g : Nat → Int} {x : Int} : ∀ {m i : Nat}, i ≤ m → (∀ j, j < i → g j ≤ x) → i ≤ cnt g m x
  | 0, i, hi, _ => by omega
  | m + 1, i, hi, h => by
    rw [cnt_succ]
    by_cases e : i = m + 1
    · subst e
      have h1 := cnt_least (m := m) (i := m) (Nat.le_refl _) (fun j hj => h j (by omega))
      rw [if_pos (h m (by omega))]
      omega
    · have h1 := cnt_least (m := m) (i := i) (by omega) h
      omega
/-- Welds of pipes are welds. -/
theorem pp_welds {s : Nat → Int} {n : Nat} (hn : 2 ≤ n ∧ n ≤ 12) (hs : ∀ i, i < n → 0 ≤ s i ∧ s i ≤ 65535) : plChk 1 (n - 1) (fun j => Ln.endS (ppF s) (j + 1)) = 0 := by
  unfold plChk
  rw [if_neg (by omega)]
  refine first_zero fun i hi => ?_
  unfold plErr
  dsimp only
  have h1 := pp_end hs (i + 1) (by omega)
  have h2 : ((i + 1 : Nat) : Int) ≤ 12 := by omega
  have h0 : (0 : Int) ≤ ((i + 1 : Nat) : Int) := by omega
  have h3 : ((i + 1 : Nat) : Int) * 65835 ≤ 790020 := by omega
  rw [if_neg (by omega)]
  by_cases e : 0 < i
  · have h4 := pp_lt hs (i := i) (j := i + 1) (by omega) (by omega)
    rw [if_neg]
    rintro ⟨_, h5⟩
    rw [show i - 1 + 1 = i by omega] at h5
    omega
  · rw [if_neg (by omega)]
theorem one_pipe {s : Nat → Int} {n : Nat} (hs : ∀ i, i < n → 0 ≤ s i ∧ s i ≤ 65535) {i : Nat} (hi : i < n) {st : Int} (h1 : Ln.endS (ppF s) i ≤ st) (h2 : st < Ln.endS (ppF s) (i + 1)) {lo hi' : Int} (hl : lo ≤ st) (hh : st ≤ hi') :
    cnt (fun j => Ln.endS (ppF s) (j + 1)) (n - 1) lo ≤ i ∧ i ≤ cnt (fun j => Ln.endS (ppF s) (j + 1)) (n - 1) hi' := by
  refine ⟨cnt_most fun j hj hij => ?_, cnt_least (by omega) fun j hj => ?_⟩
  · show lo < Ln.endS (ppF s) (j + 1)
    by_cases e : j = i
    · subst e; omega
    · have := pp_lt hs (i := i + 1) (j := j + 1) (by omega) (by omega); omega
  · show Ln.endS (ppF s) (j + 1) ≤ hi'
    by_cases e : j + 1 = i
    · subst e; omega
    · have := pp_lt hs (i := j + 1) (j := i) (by omega) (by omega); omega

set_option maxRecDepth 100000 in
set_option maxHeartbeats 8000000 in
theorem topJoints_law (w : World) (a : Option Addr) (n c : Nat) (s : Nat → Int) (z x0 x1 : Int)
    (hn : n ≤ maxLen) (hs : ∀ i, i < n → 0 ≤ s i ∧ s i ≤ 65535) (hS : Sh w a n s) (hz : 0 ≤ z ∧ z ≤ 4294967295) (h0 : 0 ≤ x0 ∧ x0 ≤ 65535) (h1 : 0 ≤ x1 ∧ x1 ≤ 65535) (hT : Dy.Tab w) :
    Calls Tryd.prog 4 #[.slice a n c, .int .u32 z, .agg #[.int .u16 x0, .int .u16 x1]] w fun e w' => e = .returned (.bool true) ∧ Below w.heap.size w w' := by
  have hmx : maxLen = 9223372036854775807 := rfl
  have HT := Lib.hid hT
  have HA : Hid (∀ W, Below w.heap.size w W → Calls Tryd.prog 9 #[] W fun e w' => e = .returned (.bool true) ∧ Below W.heap.size W w') := fun W hW => Dy.adds_of W (HT.out.keep hW)
  clear hT
  by_cases hc : n < 2 ∨ 12 < n
  · clear hs hS HT
    rcases (by omega : n < 2 ∨ (2 ≤ n ∧ 12 < n)) with h2 | ⟨h2, h3⟩
    all_goals
      clear hc
      go_enter Tryd.func4, Tryd.ntmps4
      go_wp2_with fail
      refine (HA.out _ ((Below.refl _ _).alloc (Nat.le_refl _) _)).mono ?_
      rintro e w2 ⟨rfl, hB2⟩
      have HB2 := Lib.hid (((Below.refl _ w).alloc (Nat.le_refl _) (.cells #[.int .u16 x0, .int .u16 x1] 50)).trans (hB2.mono (by simp)))
      clear hB2
      go_wp2_with fail
      go_ret
      exact ⟨rfl, HB2.out⟩
  have hn2 : 2 ≤ n ∧ n ≤ 12 := by omega
  have HS := Lib.hid hS
  have HSb := Lib.hid hs
  have HCk : Hid (Ln.chk n 0 0 (ppF s) (fun _ => 0) (fun _ => 0) = 0) := pp_chk hs (by omega) _ _
  have HWd : Hid (plChk 1 (n - 1) (fun j => Ln.endS (ppF s) (j + 1)) = 0) := pp_welds hn2 hs
  have HN : Hid (∀ W, Ln.Sl W 3 none 0 (fun _ => 0) ∧ Ln.Sl W 2 none 0 (fun _ => 0)) := fun W => ⟨fun h => absurd h (by decide), fun h => absurd h (by decide)⟩
  have hend := pp_end hs n (Nat.le_refl _)
  have hE : 600 ≤ Ln.endS (ppF s) n ∧ Ln.endS (ppF s) n ≤ 790020 := by omega
  clear hend hs hS hc hmx hn
  have ec : (2 : Int) ≤ (n : Int) ∧ (n : Int) ≤ 12 := by omega
  go_enter Tryd.func4, Tryd.ntmps4
  go_wp2_with fail
  generalize hW1 : w.alloc (.cells #[.int .u16 x0, .int .u16 x1] 50) = W1
  have hB1 : Below w.heap.size w W1 := by rw [← hW1]; exact (Below.refl _ _).alloc (Nat.le_refl _) _
  have hA1 : W1.heap[w.heap.size]? = some (.cells #[.int .u16 x0, .int .u16 x1] 50 (0, 0)) := by rw [← hW1]; exact World.alloc_heap_new w _
  have HX : Hid (∀ W, Below W1.heap.size W1 W → W.cell? ⟨w.heap.size, 0, none⟩ = some (.int .u16 x0) ∧ W.cell? ⟨w.heap.size, 1, none⟩ = some (.int .u16 x1)) := fun W hW => by
    have h := (hW.block _ (Array.getElem?_eq_some_iff.1 hA1).1).trans hA1
    exact ⟨cell_h h rfl, cell_h h rfl⟩
  have HB1 := Lib.hid hB1
  clear hW1 hA1 hB1
  refine (pipes_of W1 a n c s hn2.2 HSb.out (fun hp => by
    obtain ⟨b, o, e, h⟩ := HS.out hp
    exact ⟨b, o, e, fun i hi => (HB1.out.cell (p := ⟨b, o + i, none⟩) (cell_lt (h i hi))).trans (h i hi)⟩)).mono ?_
  rintro e W2 ⟨xi, ci, rfl, hSl, hB2⟩
  have HSl := Lib.hid hSl
  have HB2 := Lib.hid hB2
  clear hSl hB2
  go_wp2_with fail
  generalize hW3 : W2.alloc (.cells #[.slice xi n ci, .slice none 0 0, .slice none 0 0] 55) = W3
  have hB3 : Below W2.heap.size W2 W3 := by rw [← hW3]; exact (Below.refl _ _).alloc (Nat.le_refl _) _
  have hA3 : W3.heap[W2.heap.size]? = some (.cells #[.slice xi n ci, .slice none 0 0, .slice none 0 0] 55 (0, 0)) := by rw [← hW3]; exact World.alloc_heap_new W2 _
  have HL : Hid (∀ W, Below W3.heap.size W3 W → W.cell? ⟨W2.heap.size, 0, none⟩ = some (.slice xi n ci) ∧ W.cell? ⟨W2.heap.size, 1, none⟩ = some (.slice none 0 0) ∧ W.cell? ⟨W2.heap.size, 2, none⟩ = some (.slice none 0 0)) := fun W hW => by
    have h := (hW.block _ (Array.getElem?_eq_some_iff.1 hA3).1).trans hA3
    exact ⟨cell_h h rfl, cell_h h rfl, cell_h h rfl⟩
  have HS3 : Hid (∀ W, Below W3.heap.size W3 W → Ln.Sl W 7 xi n (ppF s)) := fun W hW => (HSl.out.keep (by decide) hB3).keep (by decide) hW
  have HB3 : Hid (Below W1.heap.size W1 W3) := HB2.out.trans (hB3.mono HB2.out.size)
  have HR : Hid (Below W3.heap.size W3 W3) := Below.refl _ _
  clear hW3 hB3 hA3 HSl HB2
  refine (welds_of W3 xi n ci (ppF s) (HS3.out W3 HR.out) HCk.out).mono ?_
  rintro e W4 ⟨g, cg, rfl, hG, hB4⟩
  have HG := Lib.hid hG
  have HB4 := Lib.hid hB4
  obtain ⟨l0, l1, l2⟩ := HL.out W4 HB4.out
  have r1 : IntKind.i64.wrap z = z := IntWalk.i64_in _ (by omega)
  clear hG hB4
  have hst : 0 ≤ z % Ln.endS (ppF s) n ∧ z % Ln.endS (ppF s) n < Ln.endS (ppF s) n := ⟨Int.emod_nonneg _ (by omega), Int.emod_lt_of_pos _ (by omega)⟩
  obtain ⟨st, hse⟩ : ∃ st, z % Ln.endS (ppF s) n = st := ⟨_, rfl⟩
  rw [hse] at hst
  have g1 : IntKind.i64.wrap x0 = x0 := IntWalk.i64_in _ (by omega)
  have g2 : IntKind.i64.wrap x1 = x1 := IntWalk.i64_in _ (by omega)
  have g3 : IntKind.i64.wrap (st - x0) = st - x0 := IntWalk.i64_in _ (by omega)
  have g4 : IntKind.i64.wrap (st + x1) = st + x1 := IntWalk.i64_in _ (by omega)
  go_wp2_with fail
  refine (Ln.at_of W4 xi none none n ci 0 0 0 0 (ppF s) (fun _ => 0) (fun _ => 0) st hst HCk.out (HS3.out W4 HB4.out) (HN.out W4).1 (HN.out W4).2).mono ?_
  rintro e W5 ⟨⟨i, hi, hi1, hi2, rfl⟩, hB5⟩
  have HB5 := Lib.hid (HB4.out.trans (hB5.mono HB4.out.size))
  have HG5 := Lib.hid (HG.out.keep (by decide) hB5)
  have HCn := Lib.hid (one_pipe HSb.out hi hi1 hi2 (lo := st - x0) (hi' := st + x1) (by omega) (by omega))
  obtain ⟨c0, c1⟩ := HX.out W5 (HB3.out.trans (HB5.out.mono HB3.out.size))
  clear hB5 HG l0 l1 l2 r1
  go_wp2_with fail
  have hI64 : I64s (fun j => Ln.endS (ppF s) (j + 1)) (n - 1) := fun j hj => by
    have h1 := pp_end HSb.out (j + 1) (by omega)
    have h2 : ((j + 1 : Nat) : Int) ≤ 12 := by omega
    have h3 : (0 : Int) ≤ ((j + 1 : Nat) : Int) := by omega
    show -9223372036854775808 ≤ Ln.endS (ppF s) (j + 1) ∧ Ln.endS (ppF s) (j + 1) ≤ 9223372036854775807
    omega
  have hup : upR (n - 1) (fun j => Ln.endS (ppF s) (j + 1)) (st - x0) (st + x1) = ((cnt (fun j => Ln.endS (ppF s) (j + 1)) (n - 1) (st - x0) : Int) - 1, (cnt (fun j => Ln.endS (ppF s) (j + 1)) (n - 1) (st + x1) : Int) - 1, 0) := by
    have hr : rgErr (st - x0) (st + x1) (-1073741824) 1073741824 = 0 := by
      rcases rg_ways (st - x0) (st + x1) (-1073741824) 1073741824 with ⟨h, _⟩ | ⟨h, _⟩ | ⟨_, h⟩
      · omega
      · omega
      · exact h
    unfold upR
    rw [HWd.out, if_neg (by decide), if_neg (by rw [hr]; decide)]
  refine (upstream_of W5 (some ⟨g, 1, none⟩) (n - 1) cg (fun j => Ln.endS (ppF s) (j + 1)) (st - x0) (st + x1) HG5.out hI64).mono ?_
  rintro e W6 ⟨rfl, hB6⟩
  rw [hup]
  dsimp only [up3]
  have HB6 := Lib.hid (HB5.out.trans (hB6.mono HB5.out.size))
  have HG6 := Lib.hid (HG5.out.keep (by decide) hB6)
  obtain ⟨hC1, hC2⟩ := HCn.out
  clear hI64 hup hB6 HG5 c0 c1 HCn
  generalize cnt (fun j => Ln.endS (ppF s) (j + 1)) (n - 1) (st - x0) = C1 at hC1 ⊢
  generalize cnt (fun j => Ln.endS (ppF s) (j + 1)) (n - 1) (st + x1) = C2 at hC2 ⊢
  obtain ⟨l0, l1, l2⟩ := HL.out W6 HB6.out
  go_wp2_with fail
  refine (Ln.nearest_of W6 xi none none n ci 0 0 0 0 (ppF s) (fun _ => 0) (fun _ => 0) st hst hn2.1 HCk.out (HS3.out W6 HB6.out) (HN.out W6).1 (HN.out W6).2).mono ?_
  rintro e W7 ⟨⟨k, hk1, hk2, hnear, rfl⟩, hB7⟩
  have HB7 := Lib.hid (HB6.out.trans (hB7.mono HB6.out.size))
  have HG7 := Lib.hid (HG6.out.keep (by decide) hB7)
  have HNr := Lib.hid hnear
  have HN7 : Hid (∀ j, j < n - 1 → -1000000 ≤ Ln.endS (ppF s) (j + 1) ∧ Ln.endS (ppF s) (j + 1) ≤ 1000000) := fun j hj => by
    have h1 := pp_end HSb.out (j + 1) (by omega)
    have h2 : ((j + 1 : Nat) : Int) ≤ 12 := by omega
    have h3 : (0 : Int) ≤ ((j + 1 : Nat) : Int) := by omega
    omega
  clear hnear hB7 HG6 l0 l1 l2
  obtain ⟨b7, o7, hbo, hI⟩ := HG7.out (by omega)
  cases hbo
  have HI := Lib.hid hI
  have dk : W7.cell? ⟨g, 1 + (k - 1), none⟩ = some (.int .i64 (Ln.endS (ppF s) k)) := by
    have := hI (k - 1) (by omega)
    dsimp only at this
    rwa [show k - 1 + 1 = k by omega] at this
  obtain ⟨q, rfl⟩ : ∃ q, k = q + 1 := ⟨k - 1, by omega⟩
  rw [show 1 + (q + 1 - 1) = 1 + q by omega] at dk
  have hkb := HN7.out q (by omega)
  have HE2 := pp_end HSb.out n (Nat.le_refl _)
  obtain ⟨Ek, hEk⟩ : ∃ Ek, Ln.endS (ppF s) (q + 1) = Ek := ⟨_, rfl⟩
  rw [hEk] at dk hkb
  have hib := pp_end HSb.out i (by omega)
  obtain ⟨Ei, hEi⟩ : ∃ Ei, Ln.endS (ppF s) i = Ei := ⟨_, rfl⟩
  rw [hEi] at hi1 hib
  have u1 : IntKind.i64.wrap ((i : Int) - 1) = (i : Int) - 1 := IntWalk.i64_in _ (by omega)
  have u2 : decide ((i : Int) - 1 < (C1 : Int) - 1) = false := decide_eq_false (by omega)
  have u3 : decide ((C2 : Int) - 1 < (i : Int) - 1) = false := decide_eq_false (by omega)
  have u4 : decide (st - Ei < 0) = false := decide_eq_false (by omega)
  have u5 : decide ((q : Int) + 1 < 1) = false := decide_eq_false (by omega)
  have u6 : decide (((n - 1 : Nat) : Int) < (q : Int) + 1) = false := decide_eq_false (by omega)
  have u7 : IntKind.i64.wrap (st - (st - Ek)) = Ek := by rw [show st - (st - Ek) = Ek by omega]; exact IntWalk.i64_in _ (by omega)
  have u8 : IntKind.i64.wrap ((q : Int) + 1 - 1) = (q : Int) := by rw [show (q : Int) + 1 - 1 = q by omega]; exact IntWalk.i64_in _ (by omega)
  have u9 : (q : Int) < ((n - 1 : Nat) : Int) := by omega
  have u10 : (0 : Int) ≤ (q : Int) := by omega
  have u11 : IntKind.i64.wrap (-(st - Ek)) = -(st - Ek) := IntWalk.i64_in _ (by omega)
  have HEK := Lib.hid hEk
  go_wp2_with fail
  clear u1 u2 u3 u4 u5 u6 u7 u8 u9 u10 dk hEk hEi
  go_loopw [125] (fun vi wr => ∃ j : Nat, j ≤ n - 1 ∧ vi = .int .i64 j ∧ wr = W7) (fun vi _ => n - 1 - (intOf vi).toNat)
  case atStart => exact ⟨0, by omega, rfl, rfl⟩
  case round =>
    obtain ⟨j, hj, rfl, rfl⟩ := hrel
    by_cases hlt : j < n - 1
    · have dj := HI.out j (by omega)
      dsimp only at dj
      have hjb := HN7.out j hlt
      have hnr := HNr.out.1 (j + 1) (by omega) (by omega)
      rw [HEK.out] at hnr
      obtain ⟨V, hV⟩ : ∃ V, Ln.endS (ppF s) (j + 1) = V := ⟨_, rfl⟩
      rw [hV] at dj hjb hnr
      have y1 : IntKind.i64.wrap (V - st) = V - st := IntWalk.i64_in _ (by omega)
      have y2 : IntKind.i64.wrap (st - V) = st - V := IntWalk.i64_in _ (by omega)
      have y3 : decide (max (V - st) (st - V) < max (st - Ek) (-(st - Ek))) = false := decide_eq_false (by omega)
      have y4 : (j : Int) < ((n - 1 : Nat) : Int) := by omega
      have y5 : (0 : Int) ≤ (j : Int) := by omega
      clear hnr hV
      go_wp2_with fail
      exact ⟨⟨j + 1, by omega, by go_num, by first | rfl | trivial⟩, by simp [intOf]; omega⟩
    · obtain rfl : j = n - 1 := by omega
      go_wp2_with fail
      have hB7 : Below w.heap.size w wr := HB1.out.trans ((HB3.out.trans (HB7.out.mono HB3.out.size)).mono HB1.out.size)
      have HB7' := Lib.hid hB7
      clear hB7
      refine (HA.out _ HB7'.out).mono ?_
      rintro e W8 ⟨rfl, hB8⟩
      have HB8 := Lib.hid (HB7'.out.trans (hB8.mono HB7'.out.size))
      clear hB8
      go_wp2_with fail
      go_ret
      exact ⟨rfl, HB8.out⟩
end Go.Proofs.YtdibljidagiblaaDoor
