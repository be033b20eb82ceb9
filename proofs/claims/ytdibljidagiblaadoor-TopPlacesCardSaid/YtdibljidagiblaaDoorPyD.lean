/-
  WALKS: the errors of a chain; CheckChain (the texts PqC and PqD, for a seat without the rows of PqB); what it tells of a chain from one event to another.
-/
import Derived.Test.YtdibljidagiblaaDoorPyC
namespace Go.Proofs.YtdibljidagiblaaDoor
open Go.RowKit

/-- The error of a chain's element; of two that follow each other. -/
def ciAt (n : Nat) (g : Nat → Int) (i : Nat) : Int := if 0 ≤ g i ∧ g i < n then 0 else 1
def coAt (f g : Nat → Int) (i : Nat) : Int := if f ((g (i + 1)).toNat * 3) = f ((g i).toNat * 3 + 1) then 0 else 7
/-- The error of a chain. -/
def chErr (E : Int) (n : Nat) (f : Nat → Int) (m : Nat) (g : Nat → Int) : Int :=
  if bchk E n f ≠ 0 then bchk E n f else if m = 0 ∨ 64 < m then 4 else if first (ciAt n g) m ≠ 0 then first (ciAt n g) m else first (coAt f g) (m - 1)
theorem bchk_n {E : Int} {n : Nat} {f : Nat → Int} (h : bchk E n f = 0) : n ≤ 256 ∧ 1 ≤ E ∧ E ≤ 64 := by
  unfold bchk at h
  by_cases h1 : E < 1 ∨ 64 < E ∨ 256 < n
  · rw [if_pos h1] at h; omega
  · omega

set_option maxRecDepth 100000 in
set_option maxHeartbeats 4000000 in
theorem checkChain_of (w : World) (E : Int) (a b : Option Addr) (n c m d : Nat) (f g : Nat → Int) (hm : m ≤ 9223372036854775807) (hS : Sl w 3 a n f) (hG : Sl w 1 b m g) :
    Calls Tryd.prog 53 #[.int .i64 E, .slice a n c, .slice b m d] w fun e' w' => e' = .returned (.int .i64 (chErr E n f m g)) ∧ Below w.heap.size w w' := by
  by_cases h0 : bchk E n f = 0
  · have hn := bchk_n h0
    have H0 := Lib.hid h0
    by_cases h1 : m = 0
    · have hE : chErr E n f m g = 4 := by unfold chErr; rw [if_neg (by simpa using h0), if_pos (.inl h1)]
      rw [hE]
      subst h1
      clear hE h0 hG
      go_enter Tryd.func53, Tryd.ntmps53
      go_wp2_with (go_at_call 43; refine (check_of _ E a n c f hS).mono ?_; rintro e w2 ⟨rfl, hB⟩; rw [H0.out])
      go_ret
      exact ⟨rfl, hB⟩
    by_cases h2 : 64 < m
    · have hE : chErr E n f m g = 4 := by unfold chErr; rw [if_neg (by simpa using h0), if_pos (.inr h2)]
      rw [hE]
      clear hE h0 hG
      go_enter Tryd.func53, Tryd.ntmps53
      go_wp2_with (go_at_call 43; refine (check_of _ E a n c f hS).mono ?_; rintro e w2 ⟨rfl, hB⟩; rw [H0.out])
      go_ret
      exact ⟨rfl, hB⟩
    have hE : chErr E n f m g = if first (ciAt n g) m ≠ 0 then first (ciAt n g) m else first (coAt f g) (m - 1) := by unfold chErr; rw [if_neg (by simpa using h0), if_neg (by omega)]
    obtain ⟨V, hV⟩ : ∃ V, chErr E n f m g = V := ⟨_, rfl⟩
    rw [hV] at hE ⊢
    have HV := Lib.hid hE
    have hm0 : ((m : Int) == 0) = false := by simpa using h1
    have hm1 : 1 ≤ m ∧ m ≤ 64 := by omega
    clear hE h0 hV h1 h2
    have HG := Lib.hid hG
    have HS := Lib.hid hS
    clear hG hS
    go_enter Tryd.func53, Tryd.ntmps53
    go_wp2_with (go_at_call 43; refine (check_of _ E a n c f HS.out).mono ?_; rintro e w2 ⟨rfl, hB⟩; rw [H0.out])
    have HB2 := Lib.hid hB
    clear hB
    go_loopw [27] (fun vi wr => ∃ i : Nat, i ≤ m ∧ vi = .int .i64 i ∧ Hid (∀ j, j < i → ciAt n g j = 0) ∧ Hid (wr = w2)) (fun vi _ => m - (intOf vi).toNat)
    case atStart => exact ⟨0, by omega, rfl, fun j hj => by omega, rfl⟩
    case round =>
      obtain ⟨i, hi, rfl, HI, HW⟩ := hrel
      by_cases hlt : i < m
      · obtain ⟨bb, o, rfl, hI⟩ := HG.out (by omega)
        have hI2 : Ints wr bb o (m * 1) g := by rw [HW.out]; exact hI.keep HB2.out (hI.lt (by omega))
        have d0 := hI2 i (by omega)
        clear hI hI2
        have HE : Hid (ciAt n g i = if 0 ≤ g i ∧ g i < n then 0 else 1) := rfl
        obtain ⟨R, hR⟩ : ∃ R, ciAt n g i = R := ⟨_, rfl⟩
        have HF : Hid (R ≠ 0 → first (ciAt n g) m = R) := fun hne => by rw [← hR]; exact first_at HI.out (by rw [hR]; exact hne) hlt
        generalize g i = X at HE d0 ⊢
        rw [hR] at HE
        have HR := Lib.hid hR
        clear hR
        by_cases hx : 0 ≤ X ∧ X < n
        · have hR0 : R = 0 := by have := HE.out; rw [if_pos hx] at this; exact this
          subst hR0
          go_wp2_with (go_at_call 42; refine (idx_of true _ _ _ (by symm; rw [decide_eq_true_iff]; omega)).mono ?_; rintro e w9 ⟨rfl, hw9⟩; rw [hw9]; clear hw9 w9)
          exact ⟨⟨i + 1, by omega, by go_num, (fun j hj => by
            by_cases ej : j = i
            · subst ej; exact HR.out
            · exact HI.out j (by omega)), HW.out⟩, by simp [intOf]; omega⟩
        · have hR0 : R = 1 := by have := HE.out; rw [if_neg hx] at this; exact this
          subst hR0
          go_wp2_with (go_at_call 42; refine (idx_of false _ _ _ (by symm; rw [decide_eq_false_iff_not]; exact hx)).mono ?_; rintro e w9 ⟨rfl, hw9⟩; rw [hw9]; clear hw9 w9)
          go_ret
          refine ⟨?_, by rw [HW.out]; exact HB2.out⟩
          have hv := HV.out
          rw [HF.out (by decide), if_pos (by decide)] at hv
          rw [hv]; rfl
      · obtain rfl : i = m := by omega
        have hC : ∀ j, j < i → 0 ≤ g j ∧ g j < n := fun j hj => by
          have := HI.out j hj
          unfold ciAt at this
          by_cases h : 0 ≤ g j ∧ g j < n
          · exact h
          · rw [if_neg h] at this; exact absurd this (by decide)
        have HC := Lib.hid hC
        have H1 : Hid (first (ciAt n g) i = 0) := first_zero HI.out
        clear hC
        have hV2 : V = first (coAt f g) (i - 1) := by have hv := HV.out; rw [H1.out, if_neg (by simp)] at hv; exact hv
        have HV2 := Lib.hid hV2
        clear hV2
        go_wp2_with fail
        go_loopw [10] (fun vi wr' => ∃ k : Nat, k + 1 ≤ i ∧ vi = .int .i64 ((k : Int) + 1) ∧ Hid (∀ j, j < k → coAt f g j = 0) ∧ Hid (Below w.heap.size w wr')) (fun vi _ => i + 1 - (intOf vi).toNat)
        case atStart => exact ⟨0, by omega, rfl, fun j hj => by omega, by rw [HW.out]; exact HB2.out⟩
        case round =>
          obtain ⟨k, hk, rfl, HI3, HB3⟩ := hrel
          by_cases hlt2 : k + 1 < i
          · obtain ⟨b2, o2, rfl, hI2⟩ := HG.out (by omega)
            have c1 := HC.out k (by omega)
            have c2 := HC.out (k + 1) (by omega)
            obtain ⟨b3, o3, rfl, hI3⟩ := HS.out (by omega)
            have hJ := hI2.keep HB3.out (hI2.lt (by omega))
            have hJ3 := hI3.keep HB3.out (hI3.lt (by omega))
            have d1 := hJ k (by omega)
            have d2 := hJ (k + 1) (by omega)
            obtain ⟨x, hx⟩ : ∃ x : Nat, g k = (x : Int) := ⟨(g k).toNat, by omega⟩
            obtain ⟨y, hy⟩ : ∃ y : Nat, g (k + 1) = (y : Int) := ⟨(g (k + 1)).toNat, by omega⟩
            have hCo : coAt f g k = if f (y * 3) = f (x * 3 + 1) then 0 else 7 := by unfold coAt; rw [hx, hy, Int.toNat_natCast, Int.toNat_natCast]
            rw [hx] at d1 c1
            rw [hy] at d2 c2
            have hxn : x < n := by omega
            have hyn : y < n := by omega
            have e1 := hJ3.at (x * 3) 1 (by omega)
            have e2 := hJ3 (y * 3) (by omega)
            obtain ⟨R, hR⟩ : ∃ R, coAt f g k = R := ⟨_, rfl⟩
            have HF : Hid (R ≠ 0 → V = R) := fun hne => by rw [HV2.out, ← hR]; exact first_at HI3.out (by rw [hR]; exact hne) (by omega)
            rw [hR] at hCo
            have HR := Lib.hid hR
            clear hR hI2 hI3 hJ hJ3 hx hy c1 c2
            generalize f (y * 3) = Y at hCo e2 ⊢
            generalize f (x * 3 + 1) = X at hCo e1 ⊢
            by_cases hxy : Y = X
            · rw [if_pos hxy] at hCo
              subst hxy hCo
              go_wp2_with fail
              go_quiet (fail)
              go_wp2_with fail
              have hb := HB3.out
              exact ⟨⟨k + 1, by omega, by go_num, (fun j hj => by
                by_cases ej : j = k
                · subst ej; exact HR.out
                · exact HI3.out j (by omega)), ⟨hb.os, hb.tape, hb.output, hb.size, hb.block⟩⟩, by simp [intOf]; omega⟩
            · rw [if_neg hxy] at hCo
              have hb1 : (Y == X) = false := by simpa using hxy
              have hb2 : (Y != X) = true := by simpa using hxy
              subst hCo
              clear hxy
              go_wp2_with fail
              go_quiet (fail)
              go_wp2_with fail
              go_ret
              have hb := HB3.out
              exact ⟨by rw [HF.out (by decide)]; rfl, ⟨hb.os, hb.tape, hb.output, hb.size, hb.block⟩⟩
          · have hki : i - 1 = k := by omega
            have hlt3 : ¬((k : Int) + 1 < i) := by omega
            go_wp2
            go_ret
            refine ⟨?_, HB3.out⟩
            rw [HV2.out, hki, first_zero HI3.out]; rfl
  · have hE : chErr E n f m g = bchk E n f := by unfold chErr; rw [if_pos (by simpa using h0)]
    rw [hE]
    have hne : (bchk E n f == 0) = false := by simpa using h0
    have hne2 : (bchk E n f != 0) = true := by simpa using h0
    clear hE h0 hG
    go_enter Tryd.func53, Tryd.ntmps53
    go_wp2_with (go_at_call 43; refine (check_of _ E a n c f hS).mono ?_; rintro e w2 ⟨rfl, hB⟩)
    go_ret
    exact ⟨rfl, hB⟩

/-- What the first k of a chain add up to. -/
def csum (f g : Nat → Int) : Nat → Int
  | 0 => 0
  | k + 1 => csum f g k + f ((g k).toNat * 3 + 2)
/-- What CheckChain tells. -/
def chR (E : Int) (n : Nat) (f : Nat → Int) (m : Nat) (g : Nat → Int) : Int × Int × Int × Int :=
  if chErr E n f m g ≠ 0 then (0, 0, 0, chErr E n f m g) else (f ((g 0).toNat * 3), f ((g (m - 1)).toNat * 3 + 1), csum f g m, 0)
def ch4 (r : Int × Int × Int × Int) : Value := .tuple #[.int .i64 r.1, .int .i64 r.2.1, .int .i64 r.2.2.1, .int .i64 r.2.2.2]
theorem first_none {p : Nat → Int} : ∀ {n : Nat}, first p n = 0 → ∀ i, i < n → p i = 0
  | 0, _, i, hi => by omega
  | n + 1, h, i, hi => by
    simp only [first] at h
    by_cases h0 : first p n = 0
    · rw [if_pos h0] at h
      by_cases e : i = n
      · subst e; exact h
      · exact first_none h0 i (by omega)
    · rw [if_neg h0] at h; exact absurd h h0
theorem bchk_most {E : Int} {n : Nat} {f : Nat → Int} (h : bchk E n f = 0) {i : Nat} (hi : i < n) : (0 ≤ f (i * 3) ∧ f (i * 3) < E) ∧ (0 ≤ f (i * 3 + 1) ∧ f (i * 3 + 1) < E) ∧ -1073741824 ≤ f (i * 3 + 2) ∧ f (i * 3 + 2) ≤ 1073741824 := by
  have h2 : first (bdAt E f) n = 0 := by
    unfold bchk at h
    by_cases h1 : E < 1 ∨ 64 < E ∨ 256 < n
    · rw [if_pos h1] at h; omega
    · rwa [if_neg h1] at h
  have h3 := first_none h2 i hi
  rcases bd_ways _ _ _ E (f (i * 3)) (f (i * 3 + 1)) (f (i * 3 + 2)) rfl rfl rfl with ⟨_, g⟩ | ⟨_, _, g⟩ | ⟨_, _, _, g⟩ | ⟨g1, g2, g3, _⟩
  · unfold bdAt at h3; omega
  · unfold bdAt at h3; omega
  · unfold bdAt at h3; omega
  · simp only [decide_eq_true_iff] at g1 g2 g3
    exact ⟨g1, g2, g3⟩
/-- A chain without an error. -/
structure ChOk (E : Int) (n : Nat) (f : Nat → Int) (m : Nat) (g : Nat → Int) : Prop where
  bd : bchk E n f = 0
  m1 : 1 ≤ m ∧ m ≤ 64
  ix : ∀ i, i < m → 0 ≤ g i ∧ g i < n
  co : ∀ i, i + 1 < m → f ((g (i + 1)).toNat * 3) = f ((g i).toNat * 3 + 1)
theorem chOk_of {E : Int} {n : Nat} {f : Nat → Int} {m : Nat} {g : Nat → Int} (h : chErr E n f m g = 0) : ChOk E n f m g := by
  unfold chErr at h
  by_cases h1 : bchk E n f = 0
  · rw [if_neg (by simpa using h1)] at h
    by_cases h2 : m = 0 ∨ 64 < m
    · rw [if_pos h2] at h; omega
    · rw [if_neg h2] at h
      by_cases h3 : first (ciAt n g) m = 0
      · rw [if_neg (by simpa using h3)] at h
        refine ⟨h1, by omega, fun i hi => ?_, fun i hi => ?_⟩
        · have := first_none h3 i hi
          unfold ciAt at this
          by_cases k : 0 ≤ g i ∧ g i < n
          · exact k
          · rw [if_neg k] at this; omega
        · have := first_none h i (by omega)
          unfold coAt at this
          by_cases k : f ((g (i + 1)).toNat * 3) = f ((g i).toNat * 3 + 1)
          · exact k
          · rw [if_neg k] at this; omega
      · rw [if_pos (by simpa using h3)] at h; exact absurd h h3
  · rw [if_pos (by simpa using h1)] at h; exact absurd h h1
theorem csum_bd {E : Int} {n : Nat} {f : Nat → Int} {m : Nat} {g : Nat → Int} (h : ChOk E n f m g) : ∀ k, k ≤ m → -1073741824 * (k : Int) ≤ csum f g k ∧ csum f g k ≤ 1073741824 * (k : Int)
  | 0, _ => by simp [csum]
  | k + 1, hk => by
    have ih := csum_bd h k (by omega)
    have hi := h.ix k (by omega)
    have hb := bchk_most h.bd (i := (g k).toNat) (by omega)
    simp only [csum]
    omega

set_option maxRecDepth 100000 in
set_option maxHeartbeats 4000000 in
theorem chain_of (w : World) (E : Int) (a b : Option Addr) (n c m d : Nat) (f g : Nat → Int) (hm : m ≤ 9223372036854775807) (hS : Sl w 3 a n f) (hG : Sl w 1 b m g) :
    Calls Tryd.prog 17 #[.int .i64 E, .slice a n c, .slice b m d] w fun e' w' => e' = .returned (ch4 (chR E n f m g)) ∧ Below w.heap.size w w' := by
  by_cases h0 : chErr E n f m g = 0
  · have hE : chR E n f m g = (f ((g 0).toNat * 3), f ((g (m - 1)).toNat * 3 + 1), csum f g m, 0) := by unfold chR; rw [if_neg (by simpa using h0)]
    have hO := chOk_of h0
    have H0 := Lib.hid h0
    have HO := Lib.hid hO
    have HG := Lib.hid hG
    have HS := Lib.hid hS
    have hm1 := hO.m1
    have hn := bchk_n hO.bd
    obtain ⟨r, hr⟩ : ∃ r, chR E n f m g = r := ⟨_, rfl⟩
    rw [hr] at hE ⊢
    have HE := Lib.hid hE
    clear hE hr h0 hO hG hS
    go_enter Tryd.func17, Tryd.ntmps17
    go_wp2_with (go_at_call 53; refine (checkChain_of _ E a b n c m d f g hm HS.out HG.out).mono ?_; rintro e w2 ⟨rfl, hB⟩; rw [H0.out])
    have HB2 := Lib.hid hB
    clear hB
    go_loopw [8, 22] (fun vs vi wr => ∃ i : Nat, i ≤ m ∧ vi = .int .i64 i ∧ vs = .int .i64 (csum f g i) ∧ Hid (wr = w2)) (fun _ vi _ => m - (intOf vi).toNat)
    case atStart => exact ⟨0, by omega, rfl, rfl, rfl⟩
    case round =>
      obtain ⟨i, hi, rfl, rfl, HW⟩ := hrel
      by_cases hlt : i < m
      · obtain ⟨b2, o2, rfl, hI2⟩ := HG.out (by omega)
        have c1 := HO.out.ix i hlt
        obtain ⟨b3, o3, rfl, hI3⟩ := HS.out (by omega)
        have hJ : Ints wr b2 o2 (m * 1) g := by rw [HW.out]; exact hI2.keep HB2.out (hI2.lt (by omega))
        have hJ3 : Ints wr b3 o3 (n * 3) f := by rw [HW.out]; exact hI3.keep HB2.out (hI3.lt (by omega))
        have d1 := hJ i (by omega)
        obtain ⟨x, hx⟩ : ∃ x : Nat, g i = (x : Int) := ⟨(g i).toNat, by omega⟩
        have hs := csum_bd HO.out i (by omega)
        have hs2 : Hid (csum f g (i + 1) = csum f g i + f (x * 3 + 2)) := by show csum f g i + f ((g i).toNat * 3 + 2) = _; rw [hx, Int.toNat_natCast]
        rw [hx] at d1 c1
        have hxn : x < n := by omega
        have hb := (bchk_most HO.out.bd hxn).2.2
        have e1 := hJ3.at (x * 3) 2 (by omega)
        clear hI2 hI3 hJ hJ3 hx c1
        generalize f (x * 3 + 2) = M at hb e1 hs2 ⊢
        generalize csum f g i = S at hs hs2 ⊢
        go_wp2_with fail
        exact ⟨⟨i + 1, by omega, by go_num, by rw [hs2.out], HW.out⟩, by simp [intOf]; omega⟩
      · obtain rfl : i = m := by omega
        obtain ⟨b2, o2, rfl, hI2⟩ := HG.out (by omega)
        have c1 := HO.out.ix 0 (by omega)
        have c2 := HO.out.ix (i - 1) (by omega)
        obtain ⟨b3, o3, rfl, hI3⟩ := HS.out (by omega)
        have hJ : Ints wr b2 o2 (i * 1) g := by rw [HW.out]; exact hI2.keep HB2.out (hI2.lt (by omega))
        have hJ3 : Ints wr b3 o3 (n * 3) f := by rw [HW.out]; exact hI3.keep HB2.out (hI3.lt (by omega))
        have d1 : wr.cell? ⟨b2, o2, none⟩ = some (.int .i64 (g 0)) := hJ 0 (by omega)
        obtain ⟨j, hj⟩ : ∃ j, i = j + 1 := ⟨i - 1, by omega⟩
        have d2 := hJ j (by omega)
        rw [show i - 1 = j by omega] at c2
        have hv := HE.out
        rw [show i - 1 = j by omega] at hv
        obtain ⟨x, hx⟩ : ∃ x : Nat, g 0 = (x : Int) := ⟨(g 0).toNat, by omega⟩
        obtain ⟨y, hy⟩ : ∃ y : Nat, g j = (y : Int) := ⟨(g j).toNat, by omega⟩
        rw [hx] at d1 c1 hv
        rw [hy] at d2 c2 hv
        rw [Int.toNat_natCast, Int.toNat_natCast] at hv
        have hxn : x < n := by omega
        have hyn : y < n := by omega
        have e1 := hJ3 (x * 3) (by omega)
        have e2 := hJ3.at (y * 3) 1 (by omega)
        have HV := Lib.hid hv
        have HH := Lib.hid hj
        clear hI2 hI3 hJ hJ3 hx hy c1 c2 hv
        generalize f (x * 3) = X at e1 HV
        generalize f (y * 3 + 1) = Y at e2 HV
        generalize csum f g i = S at HV ⊢
        subst hj
        go_wp2_with fail
        go_quiet (fail)
        go_wp2_with fail
        have hb : Below w.heap.size w wr := by rw [HW.out]; exact HB2.out
        exact bodyPost_ret (v := ch4 (X, Y, S, 0)) (by simp [results, Tryd.f17, go_sem, ch4]) rfl ⟨by rw [HV.out], ⟨hb.os, hb.tape, hb.output, hb.size, hb.block⟩⟩
  · have hE : chR E n f m g = (0, 0, 0, chErr E n f m g) := by unfold chR; rw [if_pos (by simpa using h0)]
    rw [hE]
    have hne : (chErr E n f m g == 0) = false := by simpa using h0
    have hne2 : (chErr E n f m g != 0) = true := by simpa using h0
    clear hE h0
    go_enter Tryd.func17, Tryd.ntmps17
    go_wp2_with (go_at_call 53; refine (checkChain_of _ E a b n c m d f g hm hS hG).mono ?_; rintro e w2 ⟨rfl, hB⟩)
    exact bodyPost_ret (v := ch4 (0, 0, 0, chErr E n f m g)) (by simp [results, Tryd.f17, go_sem, ch4]) rfl ⟨rfl, hB⟩

/-- The numbers of a list. -/
def lf (es : List Nat) (j : Nat) : Int := ((es[j]?.getD 0 : Nat) : Int)
theorem lf_cons (i : Nat) (es : List Nat) (j : Nat) : lf (i :: es) (j + 1) = lf es j := rfl
theorem lf_zero (i : Nat) (es : List Nat) : lf (i :: es) 0 = (i : Int) := rfl
theorem isWk_ix {f : Nat → Int} {n : Nat} : ∀ (l : List Nat) {u v : Nat}, isWk f n u v l → ∀ j, j < l.length → 0 ≤ lf l j ∧ lf l j < n
  | [], _, _, _, j, hj => absurd hj (by simp)
  | i :: l, u, v, h, 0, _ => by rw [lf_zero]; have := h.1; omega
  | i :: l, u, v, h, j + 1, hj => by rw [lf_cons]; exact isWk_ix l h.2.2 j (by simpa using hj)
theorem isWk_co {f : Nat → Int} {n : Nat} {E : Nat} (hf : BOk E n f) : ∀ (l : List Nat) {u v : Nat}, isWk f n u v l → ∀ j, j + 1 < l.length → f ((lf l (j + 1)).toNat * 3) = f ((lf l j).toNat * 3 + 1)
  | [], _, _, _, j, hj => absurd hj (by simp)
  | [i], _, _, _, j, hj => absurd hj (by simp)
  | i :: k :: l, u, v, h, 0, _ => by
    rw [lf_cons, lf_zero, lf_zero, Int.toNat_natCast, Int.toNat_natCast, (bF_eq hf h.2.2.1).1, (bT_eq hf h.1).1, h.2.2.2.1]
  | i :: k :: l, u, v, h, j + 1, hj => by
    rw [lf_cons, lf_cons]
    exact isWk_co hf (k :: l) h.2.2 j (by simpa using hj)
theorem csum_wk (f : Nat → Int) : ∀ (l : List Nat) (g : Nat → Int) (k : Nat), (∀ j, j < l.length → g (k + j) = lf l j) → csum f g (k + l.length) = csum f g k + wt f l
  | [], g, k, _ => by simp [wt]
  | i :: l, g, k, h => by
    have h0 := h 0 (by simp)
    rw [lf_zero, Nat.add_zero] at h0
    have ih := csum_wk f l g (k + 1) (fun j hj => by
      have := h (j + 1) (by simpa using hj)
      rw [lf_cons] at this
      rw [← this]
      congr 1
      omega)
    rw [List.length_cons, show k + (l.length + 1) = k + 1 + l.length by omega, ih]
    show csum f g k + f ((g k).toNat * 3 + 2) + wt f l = _
    rw [h0, Int.toNat_natCast]
    simp only [wt, bM]
    omega
theorem lf_last {f : Nat → Int} {n : Nat} {E : Nat} (hf : BOk E n f) : ∀ (l : List Nat) {u v : Nat}, l ≠ [] → isWk f n u v l → f ((lf l (l.length - 1)).toNat * 3 + 1) = (v : Int)
  | [], _, _, h, _ => absurd rfl h
  | [i], u, v, _, h => by
    have h3 : bT f i = v := h.2.2
    show f ((lf [i] 0).toNat * 3 + 1) = _
    rw [lf_zero, Int.toNat_natCast, (bT_eq hf h.1).1, h3]
  | i :: k :: l, u, v, _, h => by
    have := lf_last hf (k :: l) (by simp) h.2.2
    rw [← this]
    rfl
/-- What CheckChain tells of a chain from u to v. -/
theorem chR_wk {E n : Nat} {f : Nat → Int} (hf : BOk E n f) {u v : Nat} {l : List Nat} (hne : l ≠ []) (hl : l.length ≤ 64) (h : isWk f n u v l) : chR (E : Int) n f l.length (lf l) = ((u : Int), (v : Int), wt f l, 0) := by
  have hpos : 1 ≤ l.length := by
    cases l with
    | nil => exact absurd rfl hne
    | cons i l => simp
  have h0 : bchk (E : Int) n f = 0 := bchk_of hf
  have h1 : first (ciAt n (lf l)) l.length = 0 := first_zero fun j hj => by
    unfold ciAt
    rw [if_pos (isWk_ix l h j hj)]
  have h2 : first (coAt f (lf l)) (l.length - 1) = 0 := first_zero fun j hj => by
    unfold coAt
    rw [if_pos (isWk_co hf l h j (by omega))]
  have h3 : chErr (E : Int) n f l.length (lf l) = 0 := by
    unfold chErr
    rw [h0, if_neg (by simp), if_neg (by omega), h1, if_neg (by simp)]
    exact h2
  unfold chR
  rw [h3, if_neg (by simp), lf_last hf l hne h]
  have h4 := csum_wk f l (lf l) 0 (fun j _ => by rw [Nat.zero_add])
  rw [Nat.zero_add] at h4
  rw [h4]
  have h5 : f ((lf l 0).toNat * 3) = (u : Int) := by
    cases l with
    | nil => exact absurd rfl hne
    | cons i l => rw [lf_zero, Int.toNat_natCast, (bF_eq hf h.1).1, h.2.1]
  rw [h5]
  simp [csum]
end Go.Proofs.YtdibljidagiblaaDoor
