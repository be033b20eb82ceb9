/-
  WALKS: Cost, in the program.
-/
import Derived.Test.YtonlamkpehakdaaPmG
import Derived.Test.YtonlamkpehakdaaPrC
namespace Go.Proofs.Ytonlamkpehakdaa
open Go.RowKit

/-- The error of a pair of an alignment; what the first k of them cost; what Cost tells. -/
def coAt (n m : Nat) (g h : Nat → Int) (M : Int) (f : Nat → Int) (i : Nat) : Int :=
  if prErr n m f i ≠ 0 then prErr n m f i else if M < dst g h (f (i * 2)).toNat (f (i * 2 + 1)).toNat then 5 else 0
def coS (g h : Nat → Int) (f : Nat → Int) : Nat → Int
  | 0 => 0
  | k + 1 => coS g h f k + dst g h (f (k * 2)).toNat (f (k * 2 + 1)).toNat
def coE (n m : Nat) (g h : Nat → Int) (L F M : Int) (p : Nat) (f : Nat → Int) : Int :=
  if pbChk n m g h L F M ≠ 0 then pbChk n m g h L F M else first (coAt n m g h M f) p
def coV (n m : Nat) (g h : Nat → Int) (L F M : Int) (p : Nat) (f : Nat → Int) : Int :=
  if coE n m g h L F M p f ≠ 0 then 0 else ((n : Int) - p) * L + ((m : Int) - p) * F + coS g h f p
def co2 (v e : Int) : Value := .tuple #[.int .i64 v, .int .i64 e]
theorem coV_err {n m : Nat} {g h : Nat → Int} {L F M : Int} {p : Nat} {f : Nat → Int} {E : Int} (hE : coE n m g h L F M p f = E) (h0 : E ≠ 0) : coV n m g h L F M p f = 0 := by
  unfold coV; rw [hE, if_pos h0]
theorem mul_bd3 {a b : Int} (ha : -20 ≤ a ∧ a ≤ 40) (hb : 0 ≤ b ∧ b ≤ 1048576) : -20971520 ≤ a * b ∧ a * b ≤ 41943040 := by
  constructor
  · have h1 : (-a) * b ≤ 20 * 1048576 := by
      by_cases h : 0 ≤ -a
      · exact Int.mul_le_mul (by omega) hb.2 hb.1 (by omega)
      · have : (-a) * b ≤ 0 * b := Int.mul_le_mul_of_nonneg_right (by omega) hb.1
        omega
    rw [Int.neg_mul] at h1; omega
  · have h1 : a * b ≤ 40 * 1048576 := by
      by_cases h : 0 ≤ a
      · exact Int.mul_le_mul ha.2 hb.2 hb.1 (by omega)
      · have : a * b ≤ 0 * b := Int.mul_le_mul_of_nonneg_right (by omega) hb.1
        omega
    omega
/-- A pair without an error. -/
theorem prErr_ok {N M : Nat} {f : Nat → Int} {i : Nat} (h : prErr N M f i = 0) : ∃ x y : Nat, f (i * 2) = (x : Int) ∧ f (i * 2 + 1) = (y : Int) ∧ x < N ∧ y < M := by
  rcases pr_ways N M f i with ⟨_, g⟩ | ⟨_, _, g⟩ | ⟨h1, h2, _⟩ | ⟨h1, h2, _⟩
  · omega
  · omega
  · exact ⟨(f (i * 2)).toNat, (f (i * 2 + 1)).toNat, by omega, by omega, by omega, by omega⟩
  · exact ⟨(f (i * 2)).toNat, (f (i * 2 + 1)).toNat, by omega, by omega, by omega, by omega⟩
theorem coAt_ok {n m : Nat} {g h : Nat → Int} {M : Int} {f : Nat → Int} {i : Nat} (hc : coAt n m g h M f i = 0) : prErr n m f i = 0 := by
  unfold coAt at hc
  by_cases h : prErr n m f i = 0
  · exact h
  · rw [if_pos h] at hc; exact absurd hc h
theorem coS_bd {n m : Nat} {g h : Nat → Int} {M : Int} {f : Nat → Int} (pg : Plc n g) (ph : Plc m h) : ∀ k, (∀ j, j < k → coAt n m g h M f j = 0) → 0 ≤ coS g h f k ∧ coS g h f k ≤ k * 1073741824
  | 0, _ => by simp [coS]
  | k + 1, hk => by
    have ih := coS_bd pg ph k (fun j hj => hk j (by omega))
    obtain ⟨x, y, hx, hy, h1, h2⟩ := prErr_ok (coAt_ok (hk k (by omega)))
    have := dst_bd pg ph h1 h2
    simp only [coS]
    rw [hx, hy, Int.toNat_natCast, Int.toNat_natCast]
    push_cast
    omega

theorem ds_below {w W : World} {wb hb : Nat} {wa ha : Option Addr} {n wc m hc : Nat} {g h : Nat → Int} (H : DsAt w wb hb wa ha n wc m hc g h) (hW : Below w.heap.size w W) : DsAt W wb hb wa ha n wc m hc g h :=
  have k : ∀ (b o : Nat) (v : Value), w.cell? ⟨b, o, none⟩ = some v → W.cell? ⟨b, o, none⟩ = some v := fun b o _ hc => (hW.cell (p := ⟨b, o, none⟩) (World.block_lt_of_cell? w _ hc)).trans hc
  ⟨k _ _ _ H.c1, k _ _ _ H.c2, H.s1.keep (by decide) hW, H.s2.keep (by decide) hW, H.p1, H.p2, H.l1, H.l2⟩

set_option maxRecDepth 100000 in
set_option maxHeartbeats 4000000 in
theorem cost_of (w : World) (wa ha pa : Option Addr) (n wc m hc p pc : Nat) (g h f : Nat → Int) (L F M : Int) (s1 : Sl w 1 wa n g) (s2 : Sl w 1 ha m h) (s3 : Sl w 2 pa p f) (i1 : I64s g n) (i2 : I64s h m) (hp : p ≤ 20) :
    Calls Try.prog 22 #[.slice wa n wc, .slice ha m hc, .agg #[.int .i64 L, .int .i64 F, .int .i64 M], .slice pa p pc] w fun e w' => e = .returned (co2 (coV n m g h L F M p f) (coE n m g h L F M p f)) ∧ Below w.heap.size w w' := by
  have a0 := World.alloc_heap_new w (.cells #[.int .i64 L, .int .i64 F, .int .i64 M] 36)
  have hB : Below w.heap.size w (w.alloc (.cells #[.int .i64 L, .int .i64 F, .int .i64 M] 36)) := (Below.refl _ w).alloc (Nat.le_refl _) _
  have S1 := Lib.hid (s1.keep (by decide) hB)
  have S2 := Lib.hid (s2.keep (by decide) hB)
  have S3 := Lib.hid (s3.keep (by decide) hB)
  have I1 := Lib.hid i1
  have I2 := Lib.hid i2
  have hE : coE n m g h L F M p f = if pbChk n m g h L F M ≠ 0 then pbChk n m g h L F M else first (coAt n m g h M f) p := rfl
  have hV : coV n m g h L F M p f = if coE n m g h L F M p f ≠ 0 then 0 else ((n : Int) - p) * L + ((m : Int) - p) * F + coS g h f p := rfl
  obtain ⟨E, hEq⟩ : ∃ E, coE n m g h L F M p f = E := ⟨_, rfl⟩
  obtain ⟨V, hVq⟩ : ∃ V, coV n m g h L F M p f = V := ⟨_, rfl⟩
  rw [hEq, hVq] at hV
  rw [hEq] at hE
  rw [hEq, hVq]
  have HE := Lib.hid hE
  have HV := Lib.hid hV
  clear s1 s2 s3 i1 i2 hE hV hEq hVq
  go_enter Try.func22, Try.ntmps22
  go_wp2_with fail
  generalize w.alloc (.cells #[.int .i64 L, .int .i64 F, .int .i64 M] 36) = W at a0 hB S1 S2 S3 ⊢
  refine (checkProblem_of W wa ha n wc m hc g h L F M S1.out S2.out I1.out I2.out).mono ?_
  rintro e W2 ⟨rfl, hB2⟩
  replace a0 := (hB2.block _ (Array.getElem?_eq_some_iff.1 a0).1).trans a0
  have T1 := Lib.hid (S1.out.keep (by decide) hB2)
  have T2 := Lib.hid (S2.out.keep (by decide) hB2)
  have T3 := Lib.hid (S3.out.keep (by decide) hB2)
  have HB := Lib.hid (hB.trans (hB2.mono hB.size))
  have A0 := Lib.hid a0
  clear hB hB2 S1 S2 S3 a0
  by_cases h0 : pbChk n m g h L F M = 0
  · have hok := (pb_ok h0).1
    rw [if_neg (by simpa using h0)] at HE
    rw [h0]
    clear h0
    have HO := Lib.hid hok
    have hn40 := hok.n40
    have hm40 := hok.m40
    have hl := hok.l
    have hf := hok.f
    have hmm := hok.m
    have b1 := mul_bd3 (a := (n : Int) - p) (b := L) (by omega) hl
    have b2 := mul_bd3 (a := (m : Int) - p) (b := F) (by omega) hf
    obtain ⟨P1, hP1⟩ : ∃ P, ((n : Int) - p) * L = P := ⟨_, rfl⟩
    obtain ⟨P2, hP2⟩ : ∃ P, ((m : Int) - p) * F = P := ⟨_, rfl⟩
    rw [hP1] at b1
    rw [hP2] at b2
    rw [hP1, hP2] at HV
    have v1 : IntKind.i64.wrap (((n : Int) - p) * L) = P1 := (IntWalk.i64_in _ (by omega)).trans hP1
    have v2 : IntKind.i64.wrap (((m : Int) - p) * F) = P2 := (IntWalk.i64_in _ (by omega)).trans hP2
    have v3 : IntKind.i64.wrap (P1 + P2) = P1 + P2 := IntWalk.i64_in _ (by omega)
    have v4 : IntKind.i64.wrap ((n : Int) - p) = (n : Int) - p := IntWalk.i64_in _ (by omega)
    have v5 : IntKind.i64.wrap ((m : Int) - p) = (m : Int) - p := IntWalk.i64_in _ (by omega)
    clear hP1 hP2 hok
    go_wp2_with fail
    refine (distances_of W2 wa ha n wc m hc).mono ?_
    rintro e W3 ⟨rfl, hW3⟩
    have hB3 : Below W2.heap.size W2 W3 := by rw [hW3]; exact ((Below.refl _ _).alloc (Nat.le_refl _) _).alloc (by simp) _
    have c1 : W3.cell? ⟨W2.heap.size, 0, none⟩ = some (.slice wa n wc) := by rw [hW3]; exact cell_h (al_old (World.alloc_heap_new W2 _) _) rfl
    have c2 : W3.cell? ⟨W2.heap.size + 1, 0, none⟩ = some (.slice ha m hc) := by rw [hW3]; exact cell_h (al_1 W2 _ _) rfl
    have hD : DsAt W3 W2.heap.size (W2.heap.size + 1) wa ha n wc m hc g h := ⟨c1, c2, T1.out.keep (by decide) hB3, T2.out.keep (by decide) hB3, HO.out.pg, HO.out.ph, hn40, hm40⟩
    have a0 := (hB3.block _ (Array.getElem?_eq_some_iff.1 A0.out).1).trans A0.out
    have x0 : W3.cell? ⟨w.heap.size, 0, none⟩ = some (.int .i64 L) := cell_h a0 rfl
    have x1 : W3.cell? ⟨w.heap.size, 1, none⟩ = some (.int .i64 F) := cell_h a0 rfl
    have x2 : W3.cell? ⟨w.heap.size, 2, none⟩ = some (.int .i64 M) := cell_h a0 rfl
    have HD := Lib.hid hD
    have HB3 := Lib.hid (HB.out.trans (hB3.mono HB.out.size))
    have U3 := Lib.hid (T3.out.keep (by decide) hB3)
    have X2 := Lib.hid x2
    clear c1 c2 hD hW3 hB3 T1 T2 T3 HB A0 a0 x2
    go_wp2_with fail
    have HW3 : Hid (Below W3.heap.size W3 W3) := Below.refl _ _
    clear x0 x1 v1 v2 v3 v4 v5
    go_loopw [12, 46] (fun vc vi wr => ∃ i : Nat, i ≤ p ∧ vi = .int .i64 i ∧ vc = .int .i64 (P1 + P2 + coS g h f i) ∧ Hid (∀ j, j < i → coAt n m g h M f j = 0) ∧ Hid (Below W3.heap.size W3 wr)) (fun _ vi _ => p - (intOf vi).toNat)
    case atStart => exact ⟨0, by omega, rfl, by show _ = Value.int .i64 (P1 + P2 + 0); rw [Int.add_zero], fun j hj => by omega, HW3.out⟩
    case round =>
      obtain ⟨i, hi, rfl, rfl, HI, HK⟩ := hrel
      clear HW3
      by_cases hlt : i < p
      · have hU := U3.out.keep (by decide) HK.out
        have hcs := coS_bd HO.out.pg HO.out.ph i HI.out
        obtain ⟨b, o, rfl, hJ⟩ := hU (by omega)
        have d0 := hJ (i * 2) (by omega)
        have d1 := hJ.at (i * 2) 1 (by omega)
        have hF : Hid (∀ e, coAt n m g h M f i = e → e ≠ 0 → E = e) := fun e he hne => by rw [HE.out, ← he]; exact first_at HI.out (by rw [he]; exact hne) hlt
        have hS1 : coS g h f (i + 1) = coS g h f i + dst g h (f (i * 2)).toNat (f (i * 2 + 1)).toNat := rfl
        have hA1 : coAt n m g h M f i = if prErr n m f i ≠ 0 then prErr n m f i else if M < dst g h (f (i * 2)).toNat (f (i * 2 + 1)).toNat then 5 else 0 := rfl
        by_cases hR : prErr n m f i = 0
        · obtain ⟨x, y, hx, hy, hxn, hym⟩ := prErr_ok hR
          rw [if_neg (by simpa using hR)] at hA1
          rw [hx, hy, Int.toNat_natCast, Int.toNat_natCast] at hS1 hA1
          rw [hx] at d0
          rw [hy] at d1
          have hdb := dst_bd HO.out.pg HO.out.ph hxn hym
          have hCP := fun (W : World) (q : Sl W 2 (some ⟨b, o, none⟩) p f) => checkPair_of W n m (some ⟨b, o, none⟩) p pc f i hlt (by omega) q
          rw [hR] at hCP
          have HCP := Lib.hid hCP
          have hB4 := (Below.refl wr.heap.size wr).alloc (Nat.le_refl _) (.cells #[.int .i64 (x : Int), .int .i64 (y : Int)] 107)
          have a4 := World.alloc_heap_new wr (.cells #[.int .i64 (x : Int), .int .i64 (y : Int)] 107)
          obtain ⟨D, hDq⟩ : ∃ D, dst g h x y = D := ⟨_, rfl⟩
          rw [hDq] at hdb hS1 hA1
          obtain ⟨S, hSq⟩ : ∃ S, coS g h f i = S := ⟨_, rfl⟩
          rw [hSq] at hcs hS1 ⊢
          have HDq := Lib.hid hDq
          have HS1 := Lib.hid hS1
          have HA1 := Lib.hid hA1
          have HU := Lib.hid hU
          clear hJ hx hy hCP hR hDq hSq hS1 hA1 hU
          go_wp2_with fail
          generalize wr.alloc (.cells #[.int .i64 (x : Int), .int .i64 (y : Int)] 107) = W4 at hB4 a4 ⊢
          refine (HCP.out W4 (HU.out.keep (by decide) hB4)).mono ?_
          rintro e W5 ⟨rfl, hB5⟩
          replace a4 := (hB5.block _ (Array.getElem?_eq_some_iff.1 a4).1).trans a4
          have y0 : W5.cell? ⟨wr.heap.size, 0, none⟩ = some (.int .i64 (x : Int)) := cell_h a4 rfl
          have y1 : W5.cell? ⟨wr.heap.size, 1, none⟩ = some (.int .i64 (y : Int)) := cell_h a4 rfl
          have hB35 := HK.out.trans ((hB4.trans (hB5.mono hB4.size)).mono HK.out.size)
          have hD5 := ds_below HD.out hB35
          have x2 : W5.cell? ⟨w.heap.size, 2, none⟩ = some (.int .i64 M) := (hB35.cell (p := ⟨w.heap.size, 2, none⟩) (World.block_lt_of_cell? W3 _ X2.out)).trans X2.out
          have HB35 := Lib.hid hB35
          have HC := Lib.hid (dst_of W5 W2.heap.size (W2.heap.size + 1) wa ha n wc m hc g h hD5 x y hxn hym)
          rw [HDq.out] at HC
          clear hB4 hB5 a4 hB35 hD5 d0 d1
          have hb := HB35.out
          by_cases hM : M < D
          · rw [if_pos hM] at HA1
            go_wp2_with (go_at_call 87; refine HC.out.mono ?_; rintro e9 W9 ⟨rfl, q9, rfl⟩)
            refine bodyPost_ret (v := co2 0 5) (by simp [results, Try.f22, go_sem, co2]) rfl ⟨?_, HB3.out.trans (Below.mono ⟨hb.os, hb.tape, hb.output, hb.size, hb.block⟩ HB3.out.size)⟩
            have he := hF.out 5 HA1.out (by decide)
            have hv := HV.out
            rw [he, if_pos (by decide)] at hv
            rw [hv, he]
          · rw [if_neg hM] at HA1
            go_wp2_with (go_at_call 87; refine HC.out.mono ?_; rintro e9 W9 ⟨rfl, q9, rfl⟩)
            refine ⟨⟨i + 1, by omega, by go_num, ?_, (fun j hj => by
              by_cases ej : j = i
              · subst ej; exact HA1.out
              · exact HI.out j (by omega)), ⟨hb.os, hb.tape, hb.output, hb.size, hb.block⟩⟩, by simp [intOf]; omega⟩
            rw [HS1.out, ← Int.add_assoc]
        · rw [if_pos (by simpa using hR)] at hA1
          have hCP := fun (W : World) (q : Sl W 2 (some ⟨b, o, none⟩) p f) => checkPair_of W n m (some ⟨b, o, none⟩) p pc f i hlt (by omega) q
          have hne : (prErr n m f i == 0) = false := by simpa using hR
          have hne2 : (prErr n m f i != 0) = true := by simpa using hR
          have HN := Lib.hid hR
          obtain ⟨R, hRq⟩ : ∃ R, prErr n m f i = R := ⟨_, rfl⟩
          rw [hRq] at hne hne2 HN hA1 hCP
          have HCP := Lib.hid hCP
          have HA1 := Lib.hid hA1
          have HU := Lib.hid hU
          generalize f (i * 2) = X at d0
          generalize f (i * 2 + 1) = Y at d1
          have hB4 := (Below.refl wr.heap.size wr).alloc (Nat.le_refl _) (.cells #[.int .i64 X, .int .i64 Y] 107)
          clear hJ hR hRq hCP hA1 hU hS1 hcs
          go_wp2_with fail
          generalize wr.alloc (.cells #[.int .i64 X, .int .i64 Y] 107) = W4 at hB4 ⊢
          refine (HCP.out W4 (HU.out.keep (by decide) hB4)).mono ?_
          rintro e W5 ⟨rfl, hB5⟩
          have hB35 := Lib.hid (HK.out.trans ((hB4.trans (hB5.mono hB4.size)).mono HK.out.size))
          clear hB4 hB5
          go_wp2_with fail
          refine bodyPost_ret (v := co2 0 R) (by simp [results, Try.f22, go_sem, co2]) rfl ⟨?_, HB3.out.trans (hB35.out.mono HB3.out.size)⟩
          have he := hF.out R HA1.out HN.out
          have hv := HV.out
          rw [he, if_pos HN.out] at hv
          rw [hv, he]
      · obtain rfl : i = p := by omega
        have he := HE.out
        rw [first_zero HI.out] at he
        have hv := HV.out
        rw [he, if_neg (by simp)] at hv
        have HE2 := Lib.hid he
        have HV2 := Lib.hid hv
        clear he hv
        generalize P1 + P2 + coS g h f i = Z at HV2 ⊢
        go_wp2_with fail
        exact bodyPost_ret (v := co2 Z 0) (by simp [results, Try.f22, go_sem, co2]) rfl ⟨by rw [HE2.out, HV2.out], HB3.out.trans (HK.out.mono HB3.out.size)⟩
  · rw [if_pos (by simpa using h0)] at HE
    have hne : (pbChk n m g h L F M == 0) = false := by simpa using h0
    have hne2 : (pbChk n m g h L F M != 0) = true := by simpa using h0
    have HN := Lib.hid h0
    clear h0
    generalize pbChk n m g h L F M = r at *
    go_wp2_with fail
    refine bodyPost_ret (v := co2 0 r) (by simp [results, Try.f22, go_sem, co2]) rfl ⟨?_, HB.out⟩
    have hv := HV.out
    rw [HE.out, if_pos HN.out] at hv
    rw [hv, HE.out]
end Go.Proofs.Ytonlamkpehakdaa
