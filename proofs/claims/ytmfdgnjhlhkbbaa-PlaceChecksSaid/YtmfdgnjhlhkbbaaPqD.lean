/-
  WALKS: CheckChain.
-/
import Derived.Test.YtmfdgnjhlhkbbaaPqC
namespace Go.Proofs.Ytmfdgnjhlhkbbaa
open Go.RowKit

/-- What the first k of a chain add up to. -/
def csum (f g : Nat → Int) : Nat → Int
  | 0 => 0
  | k + 1 => csum f g k + f ((g k).toNat * 3 + 2)
/-- What CheckChain tells. -/
def chR (E : Int) (n : Nat) (f : Nat → Int) (m : Nat) (g : Nat → Int) : Int × Int × Int × Int :=
  if chErr E n f m g ≠ 0 then (0, 0, 0, chErr E n f m g) else (f ((g 0).toNat * 3), f ((g (m - 1)).toNat * 3 + 1), csum f g m, 0)
def ch4 (r : Int × Int × Int × Int) : Value := .tuple #[.int .i64 r.1, .int .i64 r.2.1, .int .i64 r.2.2.1, .int .i64 r.2.2.2]
theorem first_none {p : Nat → Int} : ∀ {n : Nat}, first p n = 0 → ∀ i, i < n → p i = 0
  | 0, _, i, hi => by omega
  | n + 1, h, i, hi => by
    simp only [first] at h
    by_cases h0 : first p n = 0
    · rw [if_pos h0] at h
      by_cases e : i = n
      · subst e; exact h
      · exact first_none h0 i (by omega)
    · rw [if_neg h0] at h; exact absurd h h0
theorem bchk_most {E : Int} {n : Nat} {f : Nat → Int} (h : bchk E n f = 0) {i : Nat} (hi : i < n) : (0 ≤ f (i * 3) ∧ f (i * 3) < E) ∧ (0 ≤ f (i * 3 + 1) ∧ f (i * 3 + 1) < E) ∧ -1073741824 ≤ f (i * 3 + 2) ∧ f (i * 3 + 2) ≤ 1073741824 := by
  have h2 : first (bdAt E f) n = 0 := by
    unfold bchk at h
    by_cases h1 : E < 1 ∨ 64 < E ∨ 256 < n
    · rw [if_pos h1] at h; omega
    · rwa [if_neg h1] at h
  have h3 := first_none h2 i hi
  rcases bd_ways _ _ _ E (f (i * 3)) (f (i * 3 + 1)) (f (i * 3 + 2)) rfl rfl rfl with ⟨_, g⟩ | ⟨_, _, g⟩ | ⟨_, _, _, g⟩ | ⟨g1, g2, g3, _⟩
  · unfold bdAt at h3; omega
  · unfold bdAt at h3; omega
  · unfold bdAt at h3; omega
  · simp only [decide_eq_true_iff] at g1 g2 g3
    exact ⟨g1, g2, g3⟩
/-- A chain without an error. -/
structure ChOk (E : Int) (n : Nat) (f : Nat → Int) (m : Nat) (g : Nat → Int) : Prop where
  bd : bchk E n f = 0
  m1 : 1 ≤ m ∧ m ≤ 64
  ix : ∀ i, i < m → 0 ≤ g i ∧ g i < n
  co : ∀ i, i + 1 < m → f ((g (i + 1)).toNat * 3) = f ((g i).toNat * 3 + 1)
theorem chOk_of {E : Int} {n : Nat} {f : Nat → Int} {m : Nat} {g : Nat → Int} (h : chErr E n f m g = 0) : ChOk E n f m g := by
  unfold chErr at h
  by_cases h1 : bchk E n f = 0
  · rw [if_neg (by simpa using h1)] at h
    by_cases h2 : m = 0 ∨ 64 < m
    · rw [if_pos h2] at h; omega
    · rw [if_neg h2] at h
      by_cases h3 : first (ciAt n g) m = 0
      · rw [if_neg (by simpa using h3)] at h
        refine ⟨h1, by omega, fun i hi => ?_, fun i hi => ?_⟩
        · have := first_none h3 i hi
          unfold ciAt at this
          by_cases k : 0 ≤ g i ∧ g i < n
          · exact k
          · rw [if_neg k] at this; omega
        · have := first_none h i (by omega)
          unfold coAt at this
          by_cases k : f ((g (i + 1)).toNat * 3) = f ((g i).toNat * 3 + 1)
          · exact k
          · rw [if_neg k] at this; omega
      · rw [if_pos (by simpa using h3)] at h; exact absurd h h3
  · rw [if_pos (by simpa using h1)] at h; exact absurd h h1
theorem csum_bd {E : Int} {n : Nat} {f : Nat → Int} {m : Nat} {g : Nat → Int} (h : ChOk E n f m g) : ∀ k, k ≤ m → -1073741824 * (k : Int) ≤ csum f g k ∧ csum f g k ≤ 1073741824 * (k : Int)
  | 0, _ => by simp [csum]
  | k + 1, hk => by
    have ih := csum_bd h k (by omega)
    have hi := h.ix k (by omega)
    have hb := bchk_most h.bd (i := (g k).toNat) (by omega)
    simp only [csum]
    omega

set_option maxRecDepth 100000 in
set_option maxHeartbeats 4000000 in
theorem chain_of (w : World) (E : Int) (a b : Option Addr) (n c m d : Nat) (f g : Nat → Int) (hm : m ≤ 9223372036854775807) (hS : Sl w 3 a n f) (hG : Sl w 1 b m g) :
    Calls Try.prog 34 #[.int .i64 E, .slice a n c, .slice b m d] w fun e' w' => e' = .returned (ch4 (chR E n f m g)) ∧ Below w.heap.size w w' := by
  by_cases h0 : chErr E n f m g = 0
  · have hE : chR E n f m g = (f ((g 0).toNat * 3), f ((g (m - 1)).toNat * 3 + 1), csum f g m, 0) := by unfold chR; rw [if_neg (by simpa using h0)]
    have hO := chOk_of h0
    have H0 := Lib.hid h0
    have HO := Lib.hid hO
    have HG := Lib.hid hG
    have HS := Lib.hid hS
    have hm1 := hO.m1
    have hn := bchk_n hO.bd
    obtain ⟨r, hr⟩ : ∃ r, chR E n f m g = r := ⟨_, rfl⟩
    rw [hr] at hE ⊢
    have HE := Lib.hid hE
    clear hE hr h0 hO hG hS
    go_enter Try.func34, Try.ntmps34
    go_wp2_with (go_at_call 75; refine (checkChain_of _ E a b n c m d f g hm HS.out HG.out).mono ?_; rintro e w2 ⟨rfl, hB⟩; rw [H0.out])
    have HB2 := Lib.hid hB
    clear hB
    go_loopw [8, 22] (fun vs vi wr => ∃ i : Nat, i ≤ m ∧ vi = .int .i64 i ∧ vs = .int .i64 (csum f g i) ∧ Hid (wr = w2)) (fun _ vi _ => m - (intOf vi).toNat)
    case atStart => exact ⟨0, by omega, rfl, rfl, rfl⟩
    case round =>
      obtain ⟨i, hi, rfl, rfl, HW⟩ := hrel
      by_cases hlt : i < m
      · obtain ⟨b2, o2, rfl, hI2⟩ := HG.out (by omega)
        have c1 := HO.out.ix i hlt
        obtain ⟨b3, o3, rfl, hI3⟩ := HS.out (by omega)
        have hJ : Ints wr b2 o2 (m * 1) g := by rw [HW.out]; exact hI2.keep HB2.out (hI2.lt (by omega))
        have hJ3 : Ints wr b3 o3 (n * 3) f := by rw [HW.out]; exact hI3.keep HB2.out (hI3.lt (by omega))
        have d1 := hJ i (by omega)
        obtain ⟨x, hx⟩ : ∃ x : Nat, g i = (x : Int) := ⟨(g i).toNat, by omega⟩
        have hs := csum_bd HO.out i (by omega)
        have hs2 : Hid (csum f g (i + 1) = csum f g i + f (x * 3 + 2)) := by show csum f g i + f ((g i).toNat * 3 + 2) = _; rw [hx, Int.toNat_natCast]
        rw [hx] at d1 c1
        have hxn : x < n := by omega
        have hb := (bchk_most HO.out.bd hxn).2.2
        have e1 := hJ3.at (x * 3) 2 (by omega)
        clear hI2 hI3 hJ hJ3 hx c1
        generalize f (x * 3 + 2) = M at hb e1 hs2 ⊢
        generalize csum f g i = S at hs hs2 ⊢
        go_wp2_with fail
        exact ⟨⟨i + 1, by omega, by go_num, by rw [hs2.out], HW.out⟩, by simp [intOf]; omega⟩
      · obtain rfl : i = m := by omega
        obtain ⟨b2, o2, rfl, hI2⟩ := HG.out (by omega)
        have c1 := HO.out.ix 0 (by omega)
        have c2 := HO.out.ix (i - 1) (by omega)
        obtain ⟨b3, o3, rfl, hI3⟩ := HS.out (by omega)
        have hJ : Ints wr b2 o2 (i * 1) g := by rw [HW.out]; exact hI2.keep HB2.out (hI2.lt (by omega))
        have hJ3 : Ints wr b3 o3 (n * 3) f := by rw [HW.out]; exact hI3.keep HB2.out (hI3.lt (by omega))
        have d1 : wr.cell? ⟨b2, o2, none⟩ = some (.int .i64 (g 0)) := hJ 0 (by omega)
        obtain ⟨j, hj⟩ : ∃ j, i = j + 1 := ⟨i - 1, by omega⟩
        have d2 := hJ j (by omega)
        rw [show i - 1 = j by omega] at c2
        have hv := HE.out
        rw [show i - 1 = j by omega] at hv
        obtain ⟨x, hx⟩ : ∃ x : Nat, g 0 = (x : Int) := ⟨(g 0).toNat, by omega⟩
        obtain ⟨y, hy⟩ : ∃ y : Nat, g j = (y : Int) := ⟨(g j).toNat, by omega⟩
        rw [hx] at d1 c1 hv
        rw [hy] at d2 c2 hv
        rw [Int.toNat_natCast, Int.toNat_natCast] at hv
        have hxn : x < n := by omega
        have hyn : y < n := by omega
        have e1 := hJ3 (x * 3) (by omega)
        have e2 := hJ3.at (y * 3) 1 (by omega)
        have HV := Lib.hid hv
        have HH := Lib.hid hj
        clear hI2 hI3 hJ hJ3 hx hy c1 c2 hv
        generalize f (x * 3) = X at e1 HV
        generalize f (y * 3 + 1) = Y at e2 HV
        generalize csum f g i = S at HV ⊢
        subst hj
        go_wp2_with fail
        go_quiet (fail)
        go_wp2_with fail
        have hb : Below w.heap.size w wr := by rw [HW.out]; exact HB2.out
        exact bodyPost_ret (v := ch4 (X, Y, S, 0)) (by simp [results, Try.f34, go_sem, ch4]) rfl ⟨by rw [HV.out], ⟨hb.os, hb.tape, hb.output, hb.size, hb.block⟩⟩
  · have hE : chR E n f m g = (0, 0, 0, chErr E n f m g) := by unfold chR; rw [if_pos (by simpa using h0)]
    rw [hE]
    have hne : (chErr E n f m g == 0) = false := by simpa using h0
    have hne2 : (chErr E n f m g != 0) = true := by simpa using h0
    clear hE h0
    go_enter Try.func34, Try.ntmps34
    go_wp2_with (go_at_call 75; refine (checkChain_of _ E a b n c m d f g hm hS hG).mono ?_; rintro e w2 ⟨rfl, hB⟩)
    exact bodyPost_ret (v := ch4 (0, 0, 0, chErr E n f m g)) (by simp [results, Try.f34, go_sem, ch4]) rfl ⟨rfl, hB⟩
end Go.Proofs.Ytmfdgnjhlhkbbaa
