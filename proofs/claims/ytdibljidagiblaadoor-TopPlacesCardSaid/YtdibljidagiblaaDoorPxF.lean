/-
  WALKS: Fits (PqF's text, for a seat without the rows of PqE); Clash, where nothing clashes.
-/
import Derived.Test.YtdibljidagiblaaDoorPxE
import Derived.Test.YtdibljidagiblaaDoorPrA
namespace Go.Proofs.YtdibljidagiblaaDoor
open Go.RowKit

def fpAt (g : Nat → Int) (i : Nat) : Int := if isPl (g i) = true then 0 else 1
/-- One behind the number of a bound that does not hold; 0 if it holds. -/
def fvAt (f g : Nat → Int) (i : Nat) : Int := if f (i * 3 + 2) < g (f (i * 3 + 1)).toNat - g (f (i * 3)).toNat then (i : Int) + 1 else 0
/-- What Fits tells. -/
def fitR (E : Int) (n : Nat) (f : Nat → Int) (m : Nat) (g : Nat → Int) : Int × Int :=
  if bchk E n f ≠ 0 then (0, bchk E n f) else if (m : Int) ≠ E then (0, 4) else if first (fpAt g) m ≠ 0 then (0, 1) else (first (fvAt f g) n - 1, 0)
def ft2 (r : Int × Int) : Value := .tuple #[.int .i64 r.1, .int .i64 r.2]

set_option maxRecDepth 100000 in
set_option maxHeartbeats 4000000 in
theorem fits1_of (w : World) (p m d : Nat) (b : Option Addr) (g : Nat → Int) (x y : Nat) (M : Int) (hp : w.cell? ⟨p, 0, none⟩ = some (.slice b m d)) (hG : Sl w 1 b m g) (hx : x < m) (hy : y < m) (bx : -1073741824 ≤ g x ∧ g x ≤ 1073741824) (bY : -1073741824 ≤ g y ∧ g y ≤ 1073741824) :
    Calls Tryd.prog 46 #[.agg #[.int .i64 (x : Int), .int .i64 (y : Int), .int .i64 M], .pointer (some ⟨p, 0, none⟩)] w fun e w' => e = .returned (.bool (decide (M < g y - g x))) ∧ Below w.heap.size w w' := by
  obtain ⟨b2, o2, rfl, hI⟩ := hG (by omega)
  have a0 := World.alloc_heap_new w (.cells #[.int .i64 (x : Int), .int .i64 (y : Int), .int .i64 M] 104)
  have hB := (Below.refl w.heap.size w).alloc (Nat.le_refl _) (.cells #[.int .i64 (x : Int), .int .i64 (y : Int), .int .i64 M] 104)
  have hI2 := hI.keep hB (hI.lt (by omega))
  have hp2 := (hB.cell (p := ⟨p, 0, none⟩) (World.block_lt_of_cell? w _ hp)).trans hp
  go_enter Tryd.func46, Tryd.ntmps46
  go_wp2_with fail
  generalize w.alloc (.cells #[.int .i64 (x : Int), .int .i64 (y : Int), .int .i64 M] 104) = W at a0 hB hI2 hp2 ⊢
  have s0 : W.cell? ⟨w.heap.size, 0, none⟩ = some (.int .i64 (x : Int)) := cell_h a0 rfl
  have s1 : W.cell? ⟨w.heap.size, 1, none⟩ = some (.int .i64 (y : Int)) := cell_h a0 rfl
  have s2 : W.cell? ⟨w.heap.size, 2, none⟩ = some (.int .i64 M) := cell_h a0 rfl
  have d1 := hI2 x (by omega)
  have d2 := hI2 y (by omega)
  have HB := Lib.hid hB
  clear hI hI2 a0 hB hp hG
  obtain ⟨X, hX⟩ : ∃ X, g x = X := ⟨_, rfl⟩
  obtain ⟨Y, hY⟩ : ∃ Y, g y = Y := ⟨_, rfl⟩
  rw [hX] at d1 bx
  rw [hY] at d2 bY
  have HX := Lib.hid hX
  have HY := Lib.hid hY
  clear hX hY
  go_quiet (fail)
  go_wp2_with fail
  have hb := HB.out
  exact bodyPost_ret (v := .bool (decide (M < Y - X))) (by simp [results, Tryd.f46, go_sem]) rfl ⟨by rw [HX.out, HY.out], ⟨hb.os, hb.tape, hb.output, hb.size, hb.block⟩⟩

set_option maxRecDepth 100000 in
set_option maxHeartbeats 4000000 in
theorem ixf_of (w : World) (p m d n c : Nat) (a b : Option Addr) (f g : Nat → Int) (hn : n ≤ 256) (hp : w.cell? ⟨p, 0, none⟩ = some (.slice b m d)) (hG : Sl w 1 b m g) (hS : Sl w 3 a n f)
    (hix : ∀ i, i < n → (0 ≤ f (i * 3) ∧ f (i * 3) < m) ∧ 0 ≤ f (i * 3 + 1) ∧ f (i * 3 + 1) < m) (hg : ∀ i, i < m → -1073741824 ≤ g i ∧ g i ≤ 1073741824) :
    Calls Tryd.prog 45 #[.slice a n c, .func (.func 46) #[] #[.pointer (some ⟨p, 0, none⟩)]] w fun e w' => e = .returned (.int .i64 (first (fvAt f g) n - 1)) ∧ Below w.heap.size w w' := by
  have HG := Lib.hid hG
  have HS := Lib.hid hS
  have HX := Lib.hid hix
  have Hg := Lib.hid hg
  have Hp := Lib.hid hp
  clear hG hS hix hg hp
  go_enter Tryd.func45, Tryd.ntmps45
  go_wp2_with fail
  go_loopw [8] (fun vi wr => ∃ i : Nat, i ≤ n ∧ vi = .int .i64 i ∧ Hid (∀ j, j < i → fvAt f g j = 0) ∧ Hid (Below w.heap.size w wr)) (fun vi _ => n - (intOf vi).toNat)
  case atStart => exact ⟨0, by omega, rfl, fun j hj => by omega, Below.refl _ _⟩
  case round =>
    obtain ⟨i, hi, rfl, HI, HB⟩ := hrel
    by_cases hlt : i < n
    · obtain ⟨b3, o3, rfl, hI3⟩ := HS.out (by omega)
      have hJ3 := hI3.keep HB.out (hI3.lt (by omega))
      obtain ⟨h1, h2⟩ := HX.out i hlt
      have d0 := hJ3 (i * 3) (by omega)
      have d1 := hJ3.at (i * 3) 1 (by omega)
      have d2 := hJ3.at (i * 3) 2 (by omega)
      obtain ⟨x, hx⟩ : ∃ x : Nat, f (i * 3) = (x : Int) := ⟨(f (i * 3)).toNat, by omega⟩
      obtain ⟨y, hy⟩ : ∃ y : Nat, f (i * 3 + 1) = (y : Int) := ⟨(f (i * 3 + 1)).toNat, by omega⟩
      have hv : fvAt f g i = if f (i * 3 + 2) < g y - g x then (i : Int) + 1 else 0 := by unfold fvAt; rw [hx, hy, Int.toNat_natCast, Int.toNat_natCast]
      rw [hx] at d0 h1
      rw [hy] at d1 h2
      have hp2 := (HB.out.cell (p := ⟨p, 0, none⟩) (World.block_lt_of_cell? w _ Hp.out)).trans Hp.out
      have hC := fits1_of wr p m d b g x y (f (i * 3 + 2)) hp2 (HG.out.keep (by decide) HB.out) (by omega) (by omega) (Hg.out x (by omega)) (Hg.out y (by omega))
      generalize f (i * 3 + 2) = M at d2 hv hC ⊢
      obtain ⟨bb, hbb⟩ : ∃ bb, decide (M < g y - g x) = bb := ⟨_, rfl⟩
      rw [hbb] at hC
      have hv2 : fvAt f g i = if bb = true then (i : Int) + 1 else 0 := by rw [hv, ← hbb]; simp only [decide_eq_true_iff]
      have HV := Lib.hid hv2
      have HC := Lib.hid hC
      clear hI3 hJ3 h1 h2 hx hy hv hp2 hC hbb hv2
      cases bb with
      | true =>
        go_wp2_with (go_at_call 46; refine HC.out.mono ?_; rintro e w9 ⟨rfl, hB9⟩)
        have hv : fvAt f g i = (i : Int) + 1 := by simpa using HV.out
        exact bodyPost_ret (v := .int .i64 (i : Int)) (by simp [results, Tryd.f45, go_sem]) rfl ⟨by rw [first_at HI.out (by rw [hv]; omega) hlt, hv, show (i : Int) + 1 - 1 = i by omega], HB.out.trans (hB9.mono HB.out.size)⟩
      | false =>
        go_wp2_with (go_at_call 46; refine HC.out.mono ?_; rintro e w9 ⟨rfl, hB9⟩)
        have hv : fvAt f g i = 0 := by simpa using HV.out
        exact ⟨⟨i + 1, by omega, by go_num, (fun j hj => by
          by_cases ej : j = i
          · subst ej; exact hv
          · exact HI.out j (by omega)), HB.out.trans (hB9.mono HB.out.size)⟩, by simp [intOf]; omega⟩
    · obtain rfl : i = n := by omega
      go_wp2
      go_ret
      exact ⟨by rw [first_zero HI.out]; rfl, HB.out⟩

set_option maxRecDepth 100000 in
set_option maxHeartbeats 4000000 in
theorem fits_of (w : World) (E : Int) (a b : Option Addr) (n c m d : Nat) (f g : Nat → Int) (hm : m ≤ 9223372036854775807) (hS : Sl w 3 a n f) (hG : Sl w 1 b m g) :
    Calls Tryd.prog 13 #[.int .i64 E, .slice a n c, .slice b m d] w fun e' w' => e' = .returned (ft2 (fitR E n f m g)) ∧ Below w.heap.size w w' := by
  have b0 := Boxed.new w 26 (.slice b m d)
  have hB0 := (Below.refl w.heap.size w).alloc (Nat.le_refl _) (.cells #[.slice b m d] 26)
  have hS0 := hS.keep (by decide) hB0
  have hG0 := hG.keep (by decide) hB0
  by_cases h0 : bchk E n f = 0
  · have hn := (bok_of h0).1.1
    have H0 := Lib.hid h0
    by_cases h1 : (m : Int) = E
    · subst h1
      have hE : fitR m n f m g = if first (fpAt g) m ≠ 0 then (0, 1) else (first (fvAt f g) n - 1, 0) := by unfold fitR; rw [if_neg (by simpa using h0), if_neg (by simp)]
      obtain ⟨r, hr⟩ : ∃ r, fitR m n f m g = r := ⟨_, rfl⟩
      rw [hr] at hE ⊢
      have HE := Lib.hid hE
      clear hE hr h0 hS hG
      go_enter Tryd.func13, Tryd.ntmps13
      go_wp2_with fail
      generalize w.alloc (.cells #[.slice b m d] 26) = W at b0 hB0 hS0 hG0 ⊢
      refine (check_of W _ a n c f hS0).mono ?_
      rintro e w2 ⟨rfl, hB2⟩
      rw [H0.out]
      have c0 : w2.cell? ⟨w.heap.size, 0, none⟩ = some (.slice b m d) := (hB2.cell (p := ⟨w.heap.size, 0, none⟩) b0.lt).trans b0.cell
      have HS := Lib.hid (hS0.keep (by decide) hB2)
      have HG := Lib.hid (hG0.keep (by decide) hB2)
      have HB2 := Lib.hid (hB0.trans (hB2.mono hB0.size))
      clear b0 hB0 hS0 hG0 hB2
      go_wp2_with fail
      go_loopw [23] (fun vi wr => ∃ i : Nat, i ≤ m ∧ vi = .int .i64 i ∧ Hid (∀ j, j < i → fpAt g j = 0) ∧ Hid (wr = w2)) (fun vi _ => m - (intOf vi).toNat)
      case atStart => exact ⟨0, by omega, rfl, fun j hj => by omega, rfl⟩
      case round =>
        obtain ⟨i, hi, rfl, HI, HW⟩ := hrel
        by_cases hlt : i < m
        · obtain ⟨bb, o, rfl, hI⟩ := HG.out (by omega)
          have hI2 : Ints wr bb o (m * 1) g := by rw [HW.out]; exact hI
          have d0 := hI2 i (by omega)
          have hf : fpAt g i = if isPl (g i) = true then 0 else 1 := rfl
          clear hI hI2 c0
          generalize g i = X at d0 hf ⊢
          obtain ⟨q, hq⟩ : ∃ q, isPl X = q := ⟨_, rfl⟩
          rw [hq] at hf
          have HQ := Lib.hid hq
          have HF := Lib.hid hf
          clear hq hf
          cases q with
          | true =>
            go_wp2_with (go_at_call 44; refine (plc_any _ _).mono ?_; rintro e w9 ⟨rfl, hw9⟩; rw [hw9]; clear hw9 w9; rw [HQ.out])
            have hf : fpAt g i = 0 := by simpa using HF.out
            exact ⟨⟨i + 1, by omega, by go_num, (fun j hj => by
              by_cases ej : j = i
              · subst ej; exact hf
              · exact HI.out j (by omega)), HW.out⟩, by simp [intOf]; omega⟩
          | false =>
            go_wp2_with (go_at_call 44; refine (plc_any _ _).mono ?_; rintro e w9 ⟨rfl, hw9⟩; rw [hw9]; clear hw9 w9; rw [HQ.out])
            have hf : fpAt g i = 1 := by simpa using HF.out
            have hE := HE.out
            rw [first_at HI.out (by rw [hf]; decide) hlt, hf, if_pos (by decide)] at hE
            exact bodyPost_ret (v := ft2 (0, 1)) (by simp [results, Tryd.f13, go_sem, ft2]) rfl ⟨by rw [hE], by rw [HW.out]; exact HB2.out⟩
        · obtain rfl : i = m := by omega
          have hE := HE.out
          rw [first_zero HI.out, if_neg (by simp)] at hE
          have HE2 := Lib.hid hE
          have hg : ∀ j, j < i → -1073741824 ≤ g j ∧ g j ≤ 1073741824 := fun j hj => by
            have := HI.out j hj
            unfold fpAt at this
            by_cases h : isPl (g j) = true
            · have h2 : -1073741824 ≤ g j ∧ g j ≤ 1073741824 := by simpa [isPl] using h
              exact h2
            · rw [if_neg h] at this; exact absurd this (by decide)
          have hC := ixf_of w2 w.heap.size i d n c a b f g (by omega) c0 HG.out HS.out (fun j hj => by have := (bok_of H0.out).1.2 j hj; have := (bok_of H0.out).2; omega) hg
          have HC := Lib.hid hC
          obtain rfl : wr = w2 := HW.out
          clear hE hg hC
          go_wp2_with fail
          refine HC.out.mono ?_
          rintro e w9 ⟨rfl, hB9⟩
          have HB9 := Lib.hid (HB2.out.trans (hB9.mono HB2.out.size))
          clear hB9
          obtain ⟨V, hV⟩ : ∃ V, first (fvAt f g) n - 1 = V := ⟨_, rfl⟩
          rw [hV]
          have HV := Lib.hid hV
          clear hV
          go_wp2_with fail
          exact bodyPost_ret (v := ft2 (V, 0)) (by simp [results, Tryd.f13, go_sem, ft2]) rfl ⟨by rw [HE2.out, HV.out], HB9.out⟩
    · have hE : fitR E n f m g = (0, 4) := by unfold fitR; rw [if_neg (by simpa using h0), if_pos h1]
      rw [hE]
      have hb1 : ((m : Int) == E) = false := by simpa using h1
      have hb2 : ((m : Int) != E) = true := by simpa using h1
      clear hE h0 h1 hS hG hG0
      go_enter Tryd.func13, Tryd.ntmps13
      go_wp2_with fail
      generalize w.alloc (.cells #[.slice b m d] 26) = W at b0 hB0 hS0 ⊢
      refine (check_of W _ a n c f hS0).mono ?_
      rintro e w2 ⟨rfl, hB2⟩
      rw [H0.out]
      have c0 : w2.cell? ⟨w.heap.size, 0, none⟩ = some (.slice b m d) := (hB2.cell (p := ⟨w.heap.size, 0, none⟩) b0.lt).trans b0.cell
      have HB2 := Lib.hid (hB0.trans (hB2.mono hB0.size))
      clear b0 hB0 hS0 hB2
      go_wp2_with fail
      exact bodyPost_ret (v := ft2 (0, 4)) (by simp [results, Tryd.f13, go_sem, ft2]) rfl ⟨rfl, HB2.out⟩
  · have hE : fitR E n f m g = (0, bchk E n f) := by unfold fitR; rw [if_pos (by simpa using h0)]
    rw [hE]
    have hne : (bchk E n f == 0) = false := by simpa using h0
    have hne2 : (bchk E n f != 0) = true := by simpa using h0
    clear hE h0 hS hG hG0
    go_enter Tryd.func13, Tryd.ntmps13
    go_wp2_with fail
    generalize w.alloc (.cells #[.slice b m d] 26) = W at b0 hB0 hS0 ⊢
    refine (check_of W _ a n c f hS0).mono ?_
    rintro e w2 ⟨rfl, hB2⟩
    have HB2 := Lib.hid (hB0.trans (hB2.mono hB0.size))
    clear b0 hB0 hS0 hB2
    go_wp2_with fail
    exact bodyPost_ret (v := ft2 (0, bchk E n f)) (by simp [results, Tryd.f13, go_sem, ft2]) rfl ⟨rfl, HB2.out⟩

set_option maxRecDepth 100000 in
set_option maxHeartbeats 4000000 in
/-- Clash, where nothing clashes. -/
theorem clash_none (w : World) (f : Nat → Int) (E len c : Nat) (a : Option Addr) (hf : BOk E len f) (hS : Sl w 3 a len f) (hc : clash f len E < 0) :
    Calls Tryd.prog 14 #[.int .i64 (E : Int), .slice a len c] w fun e W' => e = .returned (.tuple #[.slice none 0 0, .int .i64 5]) ∧ Below w.heap.size w W' := by
  have HF := Lib.hid hf
  have HS := Lib.hid hS
  have HC := Lib.hid hc
  have HE := Lib.hid (bchk_of hf)
  clear hf hS hc
  go_enter Tryd.func14, Tryd.ntmps14
  go_wp2_with fail
  refine (check_of w _ a len c f HS.out).mono ?_
  rintro e w2 ⟨rfl, hB2⟩
  rw [HE.out]
  have HB2 := Lib.hid hB2
  clear hB2
  go_wp2_with fail
  refine (round_none w2 f E len c a HF.out (HS.out.keep (by decide) HB2.out) HC.out).mono ?_
  rintro e w3 ⟨rfl, hB3⟩
  have HB3 := Lib.hid (HB2.out.trans (hB3.mono HB2.out.size))
  clear hB3
  go_wp2_with fail
  exact bodyPost_ret (v := .tuple #[.slice none 0 0, .int .i64 5]) (by simp [results, Tryd.f14, go_sem]) rfl ⟨rfl, HB3.out⟩

/-- Fits of places that keep their bounds. -/
theorem fits_true {N n : Nat} {pl F : Nat → Int} (h : TrueB N pl n F) (h1 : 1 ≤ N ∧ N ≤ 64) (hn : n ≤ 256) (hp : ∀ i, i < N → 0 ≤ pl i ∧ pl i ≤ 589815) : fitR N n F N pl = (-1, 0) := by
  unfold fitR
  rw [if_neg (by simpa using bchk_of (h.bok h1 hn)), if_neg (by simp), first_zero (fun i hi => ?_), if_neg (by simp), first_zero (fun i hi => ?_)]
  · rfl
  · unfold fvAt
    have := (h i hi).2.2.2
    rw [if_neg (by omega)]
  · unfold fpAt isPl
    have := hp i hi
    rw [if_pos (by rw [decide_eq_true_iff]; omega)]
end Go.Proofs.YtdibljidagiblaaDoor
