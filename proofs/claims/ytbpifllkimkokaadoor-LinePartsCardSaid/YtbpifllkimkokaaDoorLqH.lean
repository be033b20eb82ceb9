/-
  WALKS: LineParts of a right line.
-/
import Derived.Test.YtbpifllkimkokaaDoorLqG
import Derived.Deep.QuietTactic
import Derived.Deep.DeepCutAuto
namespace Go.Proofs.YtbpifllkimkokaaDoor
open Go.RowKit

/-- The three stations that a section's round looks at. -/
def el3 (fr en st : Int) (j : Nat) : Int := if j = 0 then fr else if j = 1 then en - 1 else st
/-- Whether the station has been met among the first j of them. -/
def met (fr en st : Int) (j : Nat) : Bool := decide (∃ l, l < j ∧ el3 fr en st l = st ∧ fr ≤ st ∧ st < en)
theorem met_zero (fr en st : Int) : met fr en st 0 = false := by simp [met]
theorem met_three (fr en st : Int) : met fr en st 3 = decide (fr ≤ st ∧ st < en) := by
  unfold met
  rw [decide_eq_decide]
  exact ⟨fun ⟨_, _, _, h⟩ => h, fun h => ⟨2, by omega, rfl, h⟩⟩
theorem met_out {fr en st : Int} {j : Nat} (h : ¬(fr ≤ el3 fr en st j ∧ el3 fr en st j < en)) : met fr en st (j + 1) = met fr en st j := by
  unfold met
  rw [decide_eq_decide]
  refine ⟨fun ⟨l, h1, h2, h3⟩ => ?_, fun ⟨l, h1, h2⟩ => ⟨l, by omega, h2⟩⟩
  by_cases e : l = j
  · subst e
    rw [h2] at h
    exact absurd h3 h
  · exact ⟨l, by omega, h2, h3⟩
theorem met_in {fr en st : Int} {j : Nat} (h : fr ≤ el3 fr en st j ∧ el3 fr en st j < en) : met fr en st (j + 1) = (met fr en st j || (el3 fr en st j == st)) := by
  unfold met
  rw [Bool.eq_iff_iff]
  simp only [decide_eq_true_eq, Bool.or_eq_true, beq_iff_eq]
  constructor
  · rintro ⟨l, h1, h2, h3⟩
    by_cases e : l = j
    · subst e; exact .inr h2
    · exact .inl ⟨l, by omega, h2, h3⟩
  · rintro (⟨l, h1, h2⟩ | e)
    · exact ⟨l, by omega, h2⟩
    · exact ⟨j, by omega, e, by rw [← e]; exact h⟩
/-- Whether the station is in one of the first i sections. -/
def fnd (S : List Sec) (st : Int) (i : Nat) : Bool := decide (∃ j, ∃ h : j < S.length, j < i ∧ (S[j]'h).fr ≤ st ∧ st < (S[j]'h).en)
theorem fnd_succ {S : List Sec} {st : Int} {i : Nat} (hi : i < S.length) : fnd S st (i + 1) = (fnd S st i || decide ((S[i]'hi).fr ≤ st ∧ st < (S[i]'hi).en)) := by
  unfold fnd
  rw [Bool.eq_iff_iff]
  simp only [decide_eq_true_eq, Bool.or_eq_true]
  constructor
  · rintro ⟨j, hj, h1, h2⟩
    by_cases e : j = i
    · subst e; exact .inr h2
    · exact .inl ⟨j, hj, by omega, h2⟩
  · rintro (⟨j, hj, h1, h2⟩ | h)
    · exact ⟨j, hj, by omega, h2⟩
    · exact ⟨i, hi, by omega, h⟩
theorem RowS.five {w : World} {B g cap : Nat} {S : List Sec} (h : RowS w B (.slice (some ⟨g, 0, none⟩) S.length cap) S) (i : Nat) (hi : i < S.length) :
    w.cell? ⟨g, i * 5, none⟩ = some (.int .i64 (S[i]'hi).fr) ∧ w.cell? ⟨g, i * 5 + 1, none⟩ = some (.int .i64 (S[i]'hi).en) ∧ w.cell? ⟨g, i * 5 + 2, none⟩ = some (.int .i64 (S[i]'hi).it) ∧ w.cell? ⟨g, i * 5 + 3, none⟩ = some (.int .i64 (S[i]'hi).cl) ∧ w.cell? ⟨g, i * 5 + 4, none⟩ = some (.int .i64 (S[i]'hi).mo) :=
  ⟨h.cell i hi 0 (by omega), h.cell i hi 1 (by omega), h.cell i hi 2 (by omega), h.cell i hi 3 (by omega), h.cell i hi 4 (by omega)⟩

set_option maxRecDepth 100000 in
set_option maxHeartbeats 6400000 in
theorem partsLaw_yes (w : World) (a za la : Option Addr) (n c nz zc nl lc : Nat) (f z m : Nat → Int) (N : Int) (hG : Glob w) (h : (n ≤ 12 ∧ nz ≤ 12 ∧ nl ≤ 12) ∧ chk n nz nl f z m = 0)
    (hS : Sl w 7 a n f) (hZ : Sl w 3 za nz z) (hL : Sl w 2 la nl m) (hN : 0 ≤ N ∧ N ≤ 4294967295) :
    Calls Tryd.prog 7 #[.agg #[.slice a n c, .slice za nz zc, .slice la nl lc], .int .u32 N] w fun e w' => e = .returned (.bool true) ∧ Below w.heap.size w w' := by
  have HR : Hid (∀ w', Below w.heap.size w w' → Calls Tryd.prog 36 #[.agg #[.slice a n c, .slice za nz zc, .slice la nl lc]] w' fun e w2 => e = .returned (.bool true) ∧ Below w'.heap.size w' w2) := fun w' hb => by
    have := right_near w' a za la n c nz zc nl lc f z m (by omega) (hS.keep (by omega) hb) (hZ.keep (by omega) hb) (hL.keep (by omega) hb)
    rwa [show decide ((n ≤ 12 ∧ nz ≤ 12 ∧ nl ≤ 12) ∧ chk n nz nl f z m = 0) = true by simpa using h] at this
  have HA : Hid (∀ w', Below w.heap.size w w' → Calls Tryd.prog 13 #[] w' fun e w2 => e = .returned (.bool true) ∧ Below w'.heap.size w' w2) := fun w' hb => awake_of w' (hG.keep hb)
  have HIN : Hid (∀ w', Below w.heap.size w w' → Calls Tryd.prog 37 #[.agg #[.slice a n c, .slice za nz zc, .slice la nl lc], .int .u32 N] w' fun e' w2 => e' = .returned (.int .i64 (N % endS f n)) ∧ Below w'.heap.size w' w2) :=
    fun w' hb => inside_of w' a za la n c nz zc nl lc f z m N hN h.2 (hS.keep (by omega) hb) (hZ.keep (by omega) hb) (hL.keep (by omega) hb)
  have hok := chk_ok h.2
  have hn : 1 ≤ n ∧ n ≤ 12 := ⟨hok.1.1, h.1.1⟩
  have HAT : Hid (∀ w' st, Below w.heap.size w w' → 0 ≤ st ∧ st < endS f n → Calls Tryd.prog 15 #[.agg #[.slice a n c, .slice za nz zc, .slice la nl lc], .int .i64 st] w' fun e' w2 => (∃ o, e' = .returned (.tuple #[.int .i64 (itemOf f n st : Nat), .int .i64 o, .int .i64 0])) ∧ Below w'.heap.size w' w2) :=
    fun w' st hb hst => (at_of w' a za la n c nz zc nl lc f z m st hst h.2 (hS.keep (by omega) hb) (hZ.keep (by omega) hb) (hL.keep (by omega) hb)).mono fun e w2 ⟨⟨i, hi, h1, h2, he⟩, hb3⟩ => by
      rw [itemOf_eq (by omega) hok.2.2.2.1 hi h1 h2]
      exact ⟨⟨_, he⟩, hb3⟩
  have HCL : Hid (∀ w' st, Below w.heap.size w w' → 0 ≤ st ∧ st < endS f n → Calls Tryd.prog 26 #[.agg #[.slice a n c, .slice za nz zc, .slice la nl lc], .int .i64 st] w' fun e' w2 => e' = .returned (.tuple #[.int .i64 (clsAt z nz st), .int .i64 0]) ∧ Below w'.heap.size w' w2) :=
    fun w' st hb hst => by
      have := ClassAt_of w' a za la n c nz zc nl lc f z m st (hS.keep (by omega) hb) (hZ.keep (by omega) hb) (hL.keep (by omega) hb)
      rw [h.2, decide_eq_true hst, stE_yes] at this
      exact this
  have HLI : Hid (∀ w' st, Below w.heap.size w w' → 0 ≤ st ∧ st < endS f n → Calls Tryd.prog 27 #[.agg #[.slice a n c, .slice za nz zc, .slice la nl lc], .int .i64 st] w' fun e' w2 => e' = .returned (.tuple #[.int .i64 (lmtAt m st nl), .int .i64 0]) ∧ Below w'.heap.size w' w2) :=
    fun w' st hb hst => by
      have := LimitAt_of w' a za la n c nz zc nl lc f z m st (hS.keep (by omega) hb) (hZ.keep (by omega) hb) (hL.keep (by omega) hb)
      rw [h.2, decide_eq_true hst, stE_yes] at this
      exact this
  have HSE : Hid (∀ w', Below w.heap.size w w' → Calls Tryd.prog 28 #[.agg #[.slice a n c, .slice za nz zc, .slice la nl lc]] w' (SeP 0 (secsOf f z m n nz nl) w')) := fun w' hb => by
    have := sections_of w' a za la n c nz zc nl lc f z m (hS.keep (by omega) hb) (hZ.keep (by omega) hb) (hL.keep (by omega) hb)
    rwa [h.2] at this
  have HST : Hid (∀ w', Below w.heap.size w w' → Calls Tryd.prog 14 #[.agg #[.slice a n c, .slice za nz zc, .slice la nl lc]] w' (StP 0 n f w')) := fun w' hb => by
    have := starts_of w' a za la n c nz zc nl lc f z m (hS.keep (by omega) hb) (hZ.keep (by omega) hb) (hL.keep (by omega) hb)
    rwa [h.2] at this
  have hE := endS_le (f := f) (n := n) hok.2.2.2.1
  have hE1 : 1 ≤ endS f n := by
    obtain ⟨k, rfl⟩ : ∃ k, n = k + 1 := ⟨n - 1, by omega⟩
    have := endS_step (f := f) (n := k + 1) (k := k) (by omega) hok.2.2.2.1 (by omega)
    show 1 ≤ endS f k + f (k * 7 + 1)
    omega
  have HSec := Lib.hid (secs_of h.2)
  obtain ⟨S, hSd⟩ : ∃ S, S = secsOf f z m n nz nl := ⟨_, rfl⟩
  rw [← hSd] at HSec HSE
  have hsl : S.length ≤ 256 := by
    have h1 : ∀ (L : List Int) (S : List Sec), (L.foldl (pstep f z m n nz nl (endS f n)) S).length ≤ S.length + L.length := by
      intro L
      induction L with
      | nil => intro S; simp
      | cons x L ih =>
        intro S
        have h2 := ih (pstep f z m n nz nl (endS f n) S x)
        have h3 := pstep_length f z m n nz nl (endS f n) S x
        simp only [List.foldl_cons, List.length_cons]
        omega
    have h2 := h1 (ascOf (allBs f z m n nz nl)) []
    have h3 := ascOf_length (allBs f z m n nz nl)
    have h4 := (allBs_length f z m n nz nl).2
    rw [hSd]
    unfold secsOf
    simp only [List.length_nil] at h2
    omega
  have hpos : 0 < S.length := by
    rcases Nat.eq_zero_or_pos S.length with e | e
    · have := HSec.out.non (List.length_eq_zero_iff.1 e); omega
    · exact e
  obtain ⟨k, hk⟩ : ∃ k, S.length = k + 1 := ⟨S.length - 1, by omega⟩
  have hk2 : k ≤ 255 := by omega
  have HK := Lib.hid hk
  clear h hG hS hZ hL hok hSd hsl hpos hk
  -- the station
  have hat : 0 ≤ N % endS f n ∧ N % endS f n < endS f n := ⟨Int.emod_nonneg _ (by omega), Int.emod_lt_of_pos _ (by omega)⟩
  generalize N % endS f n = st at HIN hat
  go_enter Tryd.func7, Tryd.ntmps7
  go_wp2_with fail
  obtain ⟨W, hW⟩ : ∃ W, W = w.alloc (.cells #[.slice a n c, .slice za nz zc, .slice la nl lc] 26) := ⟨_, rfl⟩
  have hBW : Hid (Below w.heap.size w W) := by rw [hW]; exact (Below.refl _ _).alloc (Nat.le_refl _) _
  have HX : Hid (W.cell? ⟨w.heap.size, 0, none⟩ = some (.slice a n c) ∧ W.cell? ⟨w.heap.size, 1, none⟩ = some (.slice za nz zc) ∧ W.cell? ⟨w.heap.size, 2, none⟩ = some (.slice la nl lc)) := by
    rw [hW]; exact ⟨by go_simp, by go_simp, by go_simp⟩
  rw [← hW]
  clear hW
  refine (HA.out W hBW.out).mono ?_
  rintro e' w2 ⟨rfl, hb2⟩
  have HB2 : Hid (Below w.heap.size w w2) := hBW.out.trans (hb2.mono hBW.out.size)
  have HX2 := Lib.hid (three_keep HX.out hb2)
  clear hb2
  obtain ⟨x0, x1, x2⟩ := HX2.out
  go_wp2_with fail
  refine (HR.out w2 HB2.out).mono ?_
  rintro e' w3 ⟨rfl, hb3⟩
  have HB3 : Hid (Below w.heap.size w w3) := HB2.out.trans (hb3.mono HB2.out.size)
  have HX3 := Lib.hid (three_keep HX2.out hb3)
  clear hb3 x0 x1 x2
  obtain ⟨x0, x1, x2⟩ := HX3.out
  go_wp2_with fail
  refine (HSE.out w3 HB3.out).mono ?_
  rintro e' w4 ⟨hb4, ⟨h0, _⟩ | ⟨_, v, rfl, hrow⟩⟩
  · exact absurd rfl h0
  have HB4 : Hid (Below w.heap.size w w4) := HB3.out.trans (hb4.mono HB3.out.size)
  have HX4 := Lib.hid (three_keep HX3.out hb4)
  obtain ⟨gS, cS, hv⟩ := hrow.form (by rw [HK.out]; omega)
  subst hv
  have HRS := Lib.hid hrow
  rw [HK.out]
  clear hb4 hrow x0 x1 x2
  obtain ⟨x0, x1, x2⟩ := HX4.out
  go_wp2_with fail
  refine (HST.out w4 HB4.out).mono ?_
  rintro e' w5 ⟨hb5, ⟨h0, _⟩ | ⟨_, v, rfl, hown⟩⟩
  · exact absurd rfl h0
  have HB5 : Hid (Below w.heap.size w w5) := HB4.out.trans (hb5.mono HB4.out.size)
  have HX5 := Lib.hid (three_keep HX4.out hb5)
  have HRS5 : Hid (RowS w5 w3.heap.size (.slice (some ⟨gS, 0, none⟩) S.length cS) S) := HRS.out.below hb5
  have hgl5 : gS < w5.heap.size := (HRS5.out.lt gS rfl).2
  obtain ⟨gT, cT, rfl⟩ := ownsRow_succ hown
  have q0 : w5.cell? ⟨gS, 0, none⟩ = some (.int .i64 0) := by
    have h1 := (HRS5.out.five 0 (by rw [HK.out]; omega)).1
    rwa [HSec.out.beg (by rw [HK.out]; omega), Nat.zero_mul] at h1
  have q1 : w5.cell? ⟨gS, k * 5 + 1, none⟩ = some (.int .i64 (endS f n)) := by
    have h1 := (HRS5.out.five k (by rw [HK.out]; omega)).2.1
    have h2 := HSec.out.fin (by rw [HK.out]; omega)
    simp only [HK.out, Nat.add_sub_cancel] at h2
    rwa [h2] at h1
  have q2 : w5.cell? ⟨gT, n, none⟩ = some (.int .i64 (endS f n)) := by
    rw [World.ownsRow.cellAt hown n (by omega), irow_at _ (by omega)]
  have b1 : ((k : Int) + 1 == 0) = false := by rw [beq_eq_false_iff_ne]; omega
  have b2 : IntKind.i64.wrap ((k : Int) + 1 - 1) = (k : Int) := by rw [IntWalk.i64_in _ (by omega)]; omega
  have b3 : IntKind.i64.wrap (k : Int) = (k : Int) := IntWalk.i64_in _ (by omega)
  have b4 : (0 : Int) ≤ (k : Int) := by omega
  have b5 : (k : Int) < (k : Int) + 1 := by omega
  have b6 : (0 : Int) ≤ (n : Int) := by omega
  have b7 : (n : Int) < (n : Int) + 1 := by omega
  have b8 : (0 : Int) < (k : Int) + 1 := by omega
  clear hb5 hown x0 x1 x2
  obtain ⟨x0, x1, x2⟩ := HX5.out
  go_wp2_with fail
  go_quiet (fail)
  have hbq : Below w5.heap.size w5 (w5.drewN nq) := ⟨rfl, rfl, rfl, Nat.le_refl _, fun _ _ => rfl⟩
  generalize w5.drewN nq = w6 at hbq ⊢
  have HB6 : Hid (Below w.heap.size w w6) := HB5.out.trans (hbq.mono HB5.out.size)
  have HX6 := Lib.hid (three_keep HX5.out hbq)
  have HRS6 : Hid (RowS w6 w3.heap.size (.slice (some ⟨gS, 0, none⟩) S.length cS) S) := HRS5.out.below hbq
  clear hbq x0 x1 x2 q0 q1 q2
  obtain ⟨x0, x1, x2⟩ := HX6.out
  go_wp2_with fail
  refine (HIN.out w6 HB6.out).mono ?_
  rintro e' w7 ⟨rfl, hb7⟩
  have HB7 : Hid (Below w.heap.size w w7) := HB6.out.trans (hb7.mono HB6.out.size)
  have HX7 := Lib.hid (three_keep HX6.out hb7)
  have HRS7 : Hid (RowS w7 w3.heap.size (.slice (some ⟨gS, 0, none⟩) S.length cS) S) := HRS6.out.below hb7
  have hgl7 : gS < w7.heap.size := (HRS7.out.lt gS rfl).2
  clear hb7 x0 x1 x2
  go_wp2_with fail
  go_loopw [79, 10] (fun vi vf wr => ∃ (i : Nat) (b : Bool), i ≤ k + 1 ∧ vi = .int .i64 i ∧ vf = .bool b ∧ Hid (b = fnd S st i) ∧ Hid (Below w7.heap.size w7 wr)) (fun vi _ _ => k + 1 - (intOf vi).toNat)
  case atStart => exact ⟨0, false, by omega, rfl, rfl, by show false = _; simp [fnd], Below.refl _ _⟩
  case round =>
    obtain ⟨i, b, hi, rfl, rfl, HF, HD⟩ := hrel
    have hss := HD.out.size
    have HB : Hid (Below w.heap.size w wr) := HB7.out.trans (HD.out.mono HB7.out.size)
    by_cases hlt : i < k + 1
    · have hil : i < S.length := by rw [HK.out]; exact hlt
      have hfive : ∀ j (hj : j < S.length), wr.cell? ⟨gS, j * 5, none⟩ = some (.int .i64 (S[j]'hj).fr) ∧ wr.cell? ⟨gS, j * 5 + 1, none⟩ = some (.int .i64 (S[j]'hj).en) ∧ wr.cell? ⟨gS, j * 5 + 2, none⟩ = some (.int .i64 (S[j]'hj).it) ∧ wr.cell? ⟨gS, j * 5 + 3, none⟩ = some (.int .i64 (S[j]'hj).cl) ∧ wr.cell? ⟨gS, j * 5 + 4, none⟩ = some (.int .i64 (S[j]'hj).mo) := fun j hj => by
        have h1 := HRS7.out.five j hj
        have e : ∀ o, wr.cell? ⟨gS, o, none⟩ = w7.cell? ⟨gS, o, none⟩ := fun o => HD.out.cell (p := ⟨gS, o, none⟩) hgl7
        simp only [e]
        exact h1
      have hone := HSec.out.one i hil
      obtain ⟨s0, s1, s2, s3, s4⟩ := hfive i hil
      -- what the section before says
      have hprev : i = 0 ∨ ∃ q : Nat, ∃ r : Sec, i = q + 1 ∧ (wr.cell? ⟨gS, q * 5 + 1, none⟩ = some (.int .i64 r.en) ∧ wr.cell? ⟨gS, q * 5 + 2, none⟩ = some (.int .i64 r.it) ∧ wr.cell? ⟨gS, q * 5 + 3, none⟩ = some (.int .i64 r.cl) ∧ wr.cell? ⟨gS, q * 5 + 4, none⟩ = some (.int .i64 r.mo)) ∧ (S[i]'hil).fr = r.en ∧ alk r (S[i]'hil) = false := by
        rcases Nat.eq_zero_or_pos i with e | e
        · exact .inl e
        · obtain ⟨q, rfl⟩ : ∃ q, i = q + 1 := ⟨i - 1, by omega⟩
          have h2 := HSec.out.two q hil
          exact .inr ⟨q, S[q]'(by omega), rfl, (hfive q (by omega)).2, h2.1, h2.2⟩
      have HFs : Hid (fnd S st (i + 1) = (fnd S st i || decide ((S[i]'hil).fr ≤ st ∧ st < (S[i]'hil).en))) := fnd_succ hil
      generalize S[i]'hil = s at hone s0 s1 s2 s3 s4 hprev HFs
      have hfe : decide (s.en ≤ s.fr) = false := by simp; omega
      have HTr : Hid (∀ k, s.fr ≤ k → k < s.en → Tr f z m n nz nl k s) := hone.2
      have hfr : (s.fr < s.en ∧ 0 ≤ s.fr ∧ s.en ≤ endS f n) := hone.1
      clear hone hfive
      have hi0 : (0 : Int) ≤ (i : Int) := by omega
      have hi1 : (i : Int) < (k : Int) + 1 := by omega
      -- region 12
      go_upto_region 12 with fail
      obtain ⟨wx, hwx⟩ : ∃ wx, wx = wr.alloc (.cells #[.int .i64 s.fr, .int .i64 s.en, .int .i64 s.it, .int .i64 s.cl, .int .i64 s.mo] 60) := ⟨_, rfl⟩
      have hDx : Below wr.heap.size wr wx := by rw [hwx]; exact (Below.refl _ _).alloc (Nat.le_refl _) _
      have hxs : wx.heap.size = wr.heap.size + 1 := by rw [hwx]; simp
      have y0 : wx.cell? ⟨wr.heap.size, 0, none⟩ = some (.int .i64 s.fr) := by rw [hwx]; go_simp
      have y1 : wx.cell? ⟨wr.heap.size, 1, none⟩ = some (.int .i64 s.en) := by rw [hwx]; go_simp
      have y2 : wx.cell? ⟨wr.heap.size, 2, none⟩ = some (.int .i64 s.it) := by rw [hwx]; go_simp
      have y3 : wx.cell? ⟨wr.heap.size, 3, none⟩ = some (.int .i64 s.cl) := by rw [hwx]; go_simp
      have y4 : wx.cell? ⟨wr.heap.size, 4, none⟩ = some (.int .i64 s.mo) := by rw [hwx]; go_simp
      have HDx := Lib.hid hDx
      have HWX := Lib.hid hwx.symm
      rw [HWX.out]
      have HS5 : Hid (wx.cell? ⟨gS, i * 5, none⟩ = some (.int .i64 s.fr)) := (hDx.cell (p := ⟨gS, i * 5, none⟩) (World.block_lt_of_cell? wr _ s0)).trans s0
      have hprev2 : i = 0 ∨ ∃ q : Nat, ∃ r : Sec, i = q + 1 ∧ (wx.cell? ⟨gS, q * 5 + 1, none⟩ = some (.int .i64 r.en) ∧ wx.cell? ⟨gS, q * 5 + 2, none⟩ = some (.int .i64 r.it) ∧ wx.cell? ⟨gS, q * 5 + 3, none⟩ = some (.int .i64 r.cl) ∧ wx.cell? ⟨gS, q * 5 + 4, none⟩ = some (.int .i64 r.mo)) ∧ s.fr = r.en ∧ alk r s = false := by
        rcases hprev with e | ⟨q, r, e, ⟨h1, h2, h3, h4⟩, h5⟩
        · exact .inl e
        · exact .inr ⟨q, r, e, ⟨(hDx.cell (World.block_lt_of_cell? wr _ h1)).trans h1, (hDx.cell (World.block_lt_of_cell? wr _ h2)).trans h2, (hDx.cell (World.block_lt_of_cell? wr _ h3)).trans h3, (hDx.cell (World.block_lt_of_cell? wr _ h4)).trans h4⟩, h5⟩
      clear hprev hDx hwx s0 s1 s2 s3 s4
      go_cut [136] (fun v wy => v = .bool false ∧ ∃ q, wy = wx.drewN q)
      case first =>
        rcases hprev2 with rfl | ⟨q, r, rfl, ⟨h1, h2, h3, h4⟩, h5, h6⟩
        · go_quiet (fail)
          go_wp2_with fail
          go_meet
          exact ⟨rfl, _, rfl⟩
        · have e1 : IntKind.i64.wrap ((q : Int) + 1 - 1) = (q : Int) := by rw [IntWalk.i64_in _ (by omega)]; omega
          have e2 : IntKind.i64.wrap (q : Int) = (q : Int) := IntWalk.i64_in _ (by omega)
          have hq0 : (0 : Int) ≤ (q : Int) := by omega
          have hq1 : (q : Int) < (k : Int) + 1 := by omega
          have hq2 : decide ((0 : Int) < (q : Int) + 1) = true := by rw [decide_eq_true_eq]; omega
          have hcase : (s.it == r.it) = false ∨ ((s.it == r.it) = true ∧ (s.cl == r.cl) = false) ∨ ((s.it == r.it) = true ∧ (s.cl == r.cl) = true ∧ (s.mo == r.mo) = false) := by
            have h7 := of_decide_eq_false h6
            by_cases ha : s.it = r.it
            · by_cases hb : s.cl = r.cl
              · by_cases hc : s.mo = r.mo
                · exact absurd ⟨ha.symm, hb.symm, hc.symm⟩ h7
                · exact .inr (.inr ⟨by simpa using ha, by simpa using hb, by simpa using hc⟩)
              · exact .inr (.inl ⟨by simpa using ha, by simpa using hb⟩)
            · exact .inl (by simpa using ha)
          rw [← h5] at h1
          clear h5 h6 hlt hi hil
          rcases hcase with k1 | ⟨k1, k2⟩ | ⟨k1, k2, k3⟩
          all_goals
            go_quiet (fail)
            go_wp2_with fail
            go_meet
            exact ⟨rfl, _, rfl⟩
      case rest =>
        obtain ⟨rfl, q, rfl⟩ := hcut
        have hbq : Below wx.heap.size wx (wx.drewN q) := ⟨rfl, rfl, rfl, Nat.le_refl _, fun _ _ => rfl⟩
        have c0 := (hbq.cell (World.block_lt_of_cell? wx _ y0)).trans y0
        have c1 := (hbq.cell (World.block_lt_of_cell? wx _ y1)).trans y1
        have c2 := (hbq.cell (World.block_lt_of_cell? wx _ y2)).trans y2
        have c3 := (hbq.cell (World.block_lt_of_cell? wx _ y3)).trans y3
        have c4 := (hbq.cell (World.block_lt_of_cell? wx _ y4)).trans y4
        have hqs : (wx.drewN q).heap.size = wr.heap.size + 1 := hxs
        generalize wx.drewN q = w8 at hbq c0 c1 c2 c3 c4 hqs ⊢
        have HD8 : Hid (Below wr.heap.size wr w8) := HDx.out.trans (hbq.mono (by omega))
        have HB8 : Hid (Below w.heap.size w w8) := HB.out.trans (HD8.out.mono HB.out.size)
        have HX8 := Lib.hid (three_keep HX7.out (HD.out.trans (HD8.out.mono hss)))
        have HQS := Lib.hid hqs
        clear hbq y0 y1 y2 y3 y4 hprev2 hqs hxs
        have e9 : IntKind.i64.wrap (s.en - 1) = s.en - 1 := IntWalk.i64_in _ (by omega)
        go_wp2_with fail
        obtain ⟨w9, hw9⟩ : ∃ w9, w9 = w8.alloc (.cells #[.int .i64 s.fr, .int .i64 (s.en - 1), .int .i64 st] 3) := ⟨_, rfl⟩
        have hD9 : Below w8.heap.size w8 w9 := by rw [hw9]; exact (Below.refl _ _).alloc (Nat.le_refl _) _
        have HEL : Hid (∀ j, j < 3 → w9.cell? ⟨w8.heap.size, j, none⟩ = some (.int .i64 (el3 s.fr s.en st j))) := fun j hj => by
          have hh := World.alloc_heap_new w8 (.cells #[.int .i64 s.fr, .int .i64 (s.en - 1), .int .i64 st] 3)
          rw [← hw9] at hh
          rcases (show j = 0 ∨ j = 1 ∨ j = 2 by omega) with rfl | rfl | rfl <;> simp [World.cell?, hh, el3]
        have HB9 : Hid (Below w.heap.size w w9) := HB8.out.trans (hD9.mono HB8.out.size)
        have HX9 := Lib.hid (three_keep HX8.out hD9)
        have HC9 : Hid (w9.cell? ⟨wr.heap.size, 0, none⟩ = some (.int .i64 s.fr) ∧ w9.cell? ⟨wr.heap.size, 1, none⟩ = some (.int .i64 s.en) ∧ w9.cell? ⟨wr.heap.size, 2, none⟩ = some (.int .i64 s.it) ∧ w9.cell? ⟨wr.heap.size, 3, none⟩ = some (.int .i64 s.cl) ∧ w9.cell? ⟨wr.heap.size, 4, none⟩ = some (.int .i64 s.mo)) :=
          ⟨(hD9.cell (World.block_lt_of_cell? w8 _ c0)).trans c0, (hD9.cell (World.block_lt_of_cell? w8 _ c1)).trans c1, (hD9.cell (World.block_lt_of_cell? w8 _ c2)).trans c2, (hD9.cell (World.block_lt_of_cell? w8 _ c3)).trans c3, (hD9.cell (World.block_lt_of_cell? w8 _ c4)).trans c4⟩
        have HD9 : Hid (Below wr.heap.size wr w9) := HD8.out.trans (hD9.mono HD8.out.size)
        have hl8 : w8.heap.size < w9.heap.size := by rw [hw9]; simp
        rw [← hw9]
        clear hw9 hD9 c0 c1 c2 c3 c4
        go_loopw [145, 10] (fun vj vf wq => ∃ (j : Nat) (b' : Bool), j ≤ 3 ∧ vj = .int .i64 j ∧ vf = .bool b' ∧ Hid (b' = (b || met s.fr s.en st j)) ∧ Hid (Below w9.heap.size w9 wq)) (fun vj _ _ => 3 - (intOf vj).toNat)
        case atStart => exact ⟨0, b, by omega, rfl, rfl, by show b = _; rw [met_zero]; simp, Below.refl _ _⟩
        case round =>
          obtain ⟨j, b', hj, rfl, rfl, HM, HE⟩ := hrel
          have hse := HE.out.size
          have HBq : Hid (Below w.heap.size w wr) := HB9.out.trans (HE.out.mono HB9.out.size)
          by_cases hlt3 : j < 3
          · have d0 := (HE.out.cell (p := ⟨w8.heap.size, j, none⟩) hl8).trans (HEL.out j hlt3)
            have hc := HC9.out
            have z0 := (HE.out.cell (World.block_lt_of_cell? w9 _ hc.1)).trans hc.1
            have z1 := (HE.out.cell (World.block_lt_of_cell? w9 _ hc.2.1)).trans hc.2.1
            have HCq : Hid (wr.cell? ⟨_, 0, none⟩ = some (.int .i64 s.fr) ∧ wr.cell? ⟨_, 1, none⟩ = some (.int .i64 s.en) ∧ wr.cell? ⟨_, 2, none⟩ = some (.int .i64 s.it) ∧ wr.cell? ⟨_, 3, none⟩ = some (.int .i64 s.cl) ∧ wr.cell? ⟨_, 4, none⟩ = some (.int .i64 s.mo)) :=
              ⟨z0, z1, (HE.out.cell (World.block_lt_of_cell? w9 _ hc.2.2.1)).trans hc.2.2.1, (HE.out.cell (World.block_lt_of_cell? w9 _ hc.2.2.2.1)).trans hc.2.2.2.1, (HE.out.cell (World.block_lt_of_cell? w9 _ hc.2.2.2.2)).trans hc.2.2.2.2⟩
            have HXq := Lib.hid (three_keep HX9.out HE.out)
            have HMo := Lib.hid (met_out (fr := s.fr) (en := s.en) (st := st) (j := j))
            have HMi := Lib.hid (met_in (fr := s.fr) (en := s.en) (st := st) (j := j))
            generalize el3 s.fr s.en st j = ky at d0 HMo HMi
            have hj0 : (0 : Int) ≤ (j : Int) := by omega
            have hj1 : (j : Int) < 3 := by omega
            clear hc
            by_cases hin : s.fr ≤ ky ∧ ky < s.en
            · have p1 : decide (ky < s.fr) = false := by rw [decide_eq_false_iff_not]; omega
              have p2 : decide (s.en ≤ ky) = false := by rw [decide_eq_false_iff_not]; omega
              have HTk := Lib.hid (HTr.out ky hin.1 hin.2)
              have hky : 0 ≤ ky ∧ ky < endS f n := by omega
              have HMn : Hid (met s.fr s.en st (j + 1) = (met s.fr s.en st j || (ky == st))) := HMi.out hin
              clear hin HMo HMi
              have key : ∀ b2 : Bool, b2 = (b' || (ky == st)) → b2 = (b || met s.fr s.en st (j + 1)) := fun b2 e => by rw [e, HMn.out, HM.out, Bool.or_assoc]
              have HKey := Lib.hid key
              clear key
              have hb : b' = true ∨ (b' = false ∧ (ky == st) = true) ∨ (b' = false ∧ (ky == st) = false) := by
                cases b'
                · cases (ky == st)
                  · exact .inr (.inr ⟨rfl, rfl⟩)
                  · exact .inr (.inl ⟨rfl, rfl⟩)
                · exact .inl rfl
              rcases hb with rfl | ⟨rfl, k1⟩ | ⟨rfl, k1⟩
              all_goals
                obtain ⟨x0, x1, x2⟩ := HXq.out
                go_wp2_with fail
                refine (HAT.out wr ky HBq.out hky).mono ?_
                rintro e' w10 ⟨⟨off, rfl⟩, hb10⟩
                have HB10 : Hid (Below w.heap.size w w10) := HBq.out.trans (hb10.mono HBq.out.size)
                have HE10 : Hid (Below w9.heap.size w9 w10) := HE.out.trans (hb10.mono hse)
                have HX10 := Lib.hid (three_keep HXq.out hb10)
                clear hb10 x0 x1 x2 z0 z1 d0
                obtain ⟨x0, x1, x2⟩ := HX10.out
                go_wp2_with fail
                refine (HCL.out w10 ky HB10.out hky).mono ?_
                rintro e' w11 ⟨rfl, hb11⟩
                have HB11 : Hid (Below w.heap.size w w11) := HB10.out.trans (hb11.mono HB10.out.size)
                have HE11 : Hid (Below w9.heap.size w9 w11) := HE10.out.trans (hb11.mono HE10.out.size)
                have HX11 := Lib.hid (three_keep HX10.out hb11)
                clear hb11 x0 x1 x2
                obtain ⟨x0, x1, x2⟩ := HX11.out
                go_wp2_with fail
                refine (HLI.out w11 ky HB11.out hky).mono ?_
                rintro e' w12 ⟨rfl, hb12⟩
                have HE12 : Hid (Below w9.heap.size w9 w12) := HE11.out.trans (hb12.mono HE11.out.size)
                have hc := HC9.out
                have z2 := (HE12.out.cell (World.block_lt_of_cell? w9 _ hc.2.2.1)).trans hc.2.2.1
                have z3 := (HE12.out.cell (World.block_lt_of_cell? w9 _ hc.2.2.2.1)).trans hc.2.2.2.1
                have z4 := (HE12.out.cell (World.block_lt_of_cell? w9 _ hc.2.2.2.2)).trans hc.2.2.2.2
                rw [HTk.out.1] at z2
                rw [HTk.out.2.1] at z3
                rw [HTk.out.2.2] at z4
                clear hb12 hc x0 x1 x2
                go_wp2
                exact ⟨⟨j + 1, _, by omega, by go_num, rfl, HKey.out _ (by simp [*]), HE12.out⟩, by simp [intOf]; omega⟩
            · have HM2 : Hid (b' = (b || met s.fr s.en st (j + 1))) := by show _ = _; rw [HMo.out hin]; exact HM.out
              rcases (show ky < s.fr ∨ (s.fr ≤ ky ∧ s.en ≤ ky) by omega) with h1 | ⟨h1, h2⟩
              · have p1 : decide (ky < s.fr) = true := by simpa using h1
                clear h1 hin
                go_wp2
                exact ⟨⟨j + 1, b', by omega, by go_num, rfl, HM2.out, HE.out⟩, by simp [intOf]; omega⟩
              · have p1 : decide (ky < s.fr) = false := by rw [decide_eq_false_iff_not]; omega
                have p2 : decide (s.en ≤ ky) = true := by simpa using h2
                clear h1 h2 hin
                go_wp2
                exact ⟨⟨j + 1, b', by omega, by go_num, rfl, HM2.out, HE.out⟩, by simp [intOf]; omega⟩
          · obtain rfl : j = 3 := by omega
            have HN2 : Hid (b' = fnd S st (i + 1)) := by show _ = _; rw [HFs.out, HM.out, HF.out, met_three]
            have HD2 := Lib.hid (HD.out.trans ((HD9.out.trans (HE.out.mono HD9.out.size)).mono hss))
            go_wp2
            exact ⟨⟨i + 1, b', by omega, by go_num, rfl, HN2.out, HD2.out⟩, by simp [intOf]; omega⟩
    · obtain rfl : i = k + 1 := by omega
      have hT : b = true := by
        rw [HF.out]
        obtain ⟨j, hj, h1⟩ := HSec.out.has hat
        unfold fnd
        rw [decide_eq_true_eq]
        exact ⟨j, hj, by rw [← HK.out]; exact hj, h1⟩
      subst hT
      clear HF
      go_wp2
      go_ret
      exact ⟨rfl, HB.out⟩
end Go.Proofs.YtbpifllkimkokaaDoor
