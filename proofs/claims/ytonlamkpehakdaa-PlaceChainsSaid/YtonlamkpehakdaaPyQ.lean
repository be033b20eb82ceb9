/-
  WALKS: the reference's Limits; Limits, with its errors; the law of limits.
-/
import Derived.Test.YtonlamkpehakdaaPyP
import Derived.Test.YtonlamkpehakdaaPyK
namespace Go.Proofs.Ytonlamkpehakdaa
open Go.RowKit

/-- What is not known allows nothing. -/
theorem ups_zero {f : Nat → Int} : ∀ (ys : List Nat) (p : Pt), (∀ v, p.kn v = false → p.mo v = 0) → ∀ v, (p.ups f ys).kn v = false → (p.ups f ys).mo v = 0
  | [], _, h => h
  | i :: ys, p, h => by
    refine ups_zero ys (p.up f i) fun v hv => ?_
    by_cases e : v = bT f i
    · subst e
      rw [(Pt.up_T f p i).1] at hv
      cases hv
    · have h1 := Pt.up_ne f p i e
      rw [h1.1] at hv
      rw [h1.2]
      exact h v hv
theorem rel_zero {f : Nat → Int} {n : Nat} : ∀ (r : Nat) (p : Pt) (s : Int), (∀ v, p.kn v = false → p.mo v = 0) → ∀ v, (relS f n r p s).1.kn v = false → (relS f n r p s).1.mo v = 0
  | 0, _, _, h => h
  | r + 1, p, s, h => by
    simp only [relS]
    split
    · exact ups_zero _ p h
    · exact rel_zero r _ _ (ups_zero _ p h)
theorem ptU_zero (f : Nat → Int) (n E v : Nat) : (ptU f n E).kn v = false → (ptU f n E).mo v = 0 := rel_zero E Pt.start (-1) (fun _ _ => rfl) v
theorem ptD_zero (f : Nat → Int) (n E v : Nat) : (ptD f n E).kn v = false → (ptD f n E).mo v = 0 := rel_zero E Pt.start (-1) (fun _ _ => rfl) v
theorem lmG_at (u d : Pt) (k : Nat) : lmG u d k (k * 4) = .int .i64 0 ∧ lmG u d k (k * 4 + 1) = .int .i64 0 ∧ lmG u d k (k * 4 + 2) = .bool false ∧ lmG u d k (k * 4 + 3) = .bool false := by
  unfold lmG zc
  refine ⟨?_, ?_, ?_, ?_⟩
  · rw [if_neg (by omega), show k * 4 % 4 = 0 by omega]; rfl
  · rw [if_neg (by omega), show (k * 4 + 1) % 4 = 1 by omega]; rfl
  · rw [if_neg (by omega), show (k * 4 + 2) % 4 = 2 by omega]; rfl
  · rw [if_neg (by omega), show (k * 4 + 3) % 4 = 3 by omega]; rfl
/-- A row that has been filled so far, in whatever way. -/
theorem lmG_next {u d : Pt} {k : Nat} {G : Nat → Value} (h0 : G (k * 4) = .int .i64 (-(d.mo k))) (h1 : G (k * 4 + 1) = .int .i64 (u.mo k)) (h2 : G (k * 4 + 2) = .bool (d.kn k)) (h3 : G (k * 4 + 3) = .bool (u.kn k)) (h : ∀ i, i ≠ k * 4 → i ≠ k * 4 + 1 → i ≠ k * 4 + 2 → i ≠ k * 4 + 3 → G i = lmG u d k i) (i : Nat) : G i = lmG u d (k + 1) i := by
  rw [← lmG_step]
  unfold turn
  by_cases e3 : i = k * 4 + 3
  · rw [if_pos e3, e3, h3]
  · rw [if_neg e3]
    by_cases e2 : i = k * 4 + 2
    · rw [if_pos e2, e2, h2]
    · rw [if_neg e2]
      by_cases e1 : i = k * 4 + 1
      · rw [if_pos e1, e1, h1]
      · rw [if_neg e1]
        by_cases e0 : i = k * 4
        · rw [if_pos e0, e0, h0]
        · rw [if_neg e0]; exact h i e0 e1 e2 e3
theorem x_rinterval : (Try.prog.info? 77).map (fun i => (i.zero, i.size, i.bytes)) = some (some lmZ, 4, 24) := by kernel_rfl

set_option maxRecDepth 100000 in
set_option maxHeartbeats 8000000 in
theorem rlimits_ok (w : World) (f : Nat → Int) (E n c : Nat) (a : Option Addr) (hf : BOk E n f) (hE : E ≤ 12) (hn0 : n ≤ 9223372036854775807) (hS : Sl w 3 a n f) (hc : clash f n E < 0) :
    Calls Try.prog 31 #[.int .i64 (E : Int), .slice a n c] w fun e W' => ∃ B, e = .returned (.tuple #[.slice (some ⟨B, 0, none⟩) E E, .int .i64 0]) ∧ w.heap.size ≤ B ∧
      Blk W' B 77 (E * 4) (lmV (ptU f n E) (ptD f n E)) ∧ Below w.heap.size w W' := by
  have hg := (clash_iff hf).1 hc
  have HN := Lib.hid hg
  have HU : Hid (∀ v, (dM f n E).kn 0 v = (ptU f n E).kn v ∧ ((ptU f n E).kn v = true → (dM f n E).mo 0 v = (ptU f n E).mo v)) := fun v => dM_up hf hg v
  have HD : Hid (∀ v, (dM f n E).kn v 0 = (ptD f n E).kn v ∧ ((ptD f n E).kn v = true → (dM f n E).mo v 0 = (ptD f n E).mo v)) := fun v => dM_down hf hg v
  have HDl := Lib.hid (ptD_le hf)
  have HF := Lib.hid hf
  have HS := Lib.hid hS
  have H0 := Lib.hid (bchk_of hf)
  have hcd : decide (0 ≤ clash f n E) = false := decide_eq_false (by omega)
  have HC := Lib.hid hcd
  have hl := hf.1
  clear hf hS hg hc hcd
  go_enter Try.func31, Try.ntmps31
  go_wp2_with fail
  refine (rcheck_of w E a n c f hn0 HS.out).mono ?_
  rintro e w9 ⟨rfl, hw9⟩
  rw [hw9, H0.out]
  clear hw9 w9
  go_wp2_with fail
  refine (rclash_of w f E n c a HF.out HS.out).mono ?_
  rintro e w2 ⟨rfl, hB2⟩
  rw [HC.out]
  have HB2 := Lib.hid hB2
  clear hB2
  go_wp2_with fail
  refine (distances_start w2 f E n c a HF.out hE HN.out (HS.out.keep (by decide) HB2.out)).mono ?_
  rintro e w3 ⟨bt, rb, rfl, hM, hB3⟩
  have HM := Lib.hid hM
  have HB3 := Lib.hid (HB2.out.trans (hB3.mono HB2.out.size))
  have h23 := hB3.size
  clear hM hB3
  go_wp2_with (at_make; refine wp_makeB _ rfl _ _ 62 77 rfl Try.underlying62 x_rinterval rfl (by decide) _ _ E rfl rfl rfl rfl (by omega) (by decide) ?_)
  obtain ⟨W6, hW6⟩ : ∃ W6, w3.alloc (.cells (vrow (E * 4) (zc lmZ 4)) 77) = W6 := ⟨_, rfl⟩
  have h6 : Below w3.heap.size w3 W6 := by rw [← hW6]; exact (Below.refl _ _).alloc (Nat.le_refl _) _
  have hK : Blk W6 w3.heap.size 77 (E * 4) (lmG (ptU f n E) (ptD f n E) 0) := by
    rw [← hW6]
    refine (Blk.new w3 _ _ _).congr fun i _ => ?_
    unfold lmG
    rw [if_neg (by omega)]
  rw [hW6]
  have HK6 := Lib.hid hK
  have HW6 := Lib.hid hW6
  have HM6 := Lib.hid (HM.out.keep h6)
  have HB6 := Lib.hid (HB3.out.trans (h6.mono HB3.out.size))
  have hlt3 : ∀ i, i < E → rb i < w3.heap.size := fun i hi => (HM.out.rw i hi).1.lt
  have hbt3 : bt < w3.heap.size := HM.out.tb.lt
  have HL3 := Lib.hid hlt3
  have HT3 := Lib.hid hbt3
  have HW3 := Lib.hid (HB3.out.size)
  clear hW6 hK h6 hlt3 hbt3
  go_loopw [9] (fun i wr => ∃ k : Nat, k ≤ E ∧ i = .int .i64 k ∧ Hid (Blk wr w3.heap.size 77 (E * 4) (lmG (ptU f n E) (ptD f n E) k)) ∧ Hid (Below w3.heap.size w3 wr)) (fun i _ => E - (intOf i).toNat)
  case atStart => exact ⟨0, by omega, rfl, HK6.out, by rw [← HW6.out]; exact (Below.refl _ _).alloc (Nat.le_refl _) _⟩
  case round =>
    obtain ⟨k, hk, rfl, HK, HB⟩ := hrel
    by_cases hlt : k < E
    · have hMk := HM.out.keep HB.out
      have g1 := hMk.row_at (i := 0) (by omega) (by omega)
      have g2 := hMk.row_at hlt hlt
      have a0 := hMk.mo_at (i := 0) (j := k) (by omega) hlt
      have a1 := hMk.kn_at (i := 0) (j := k) (by omega) hlt
      have b0 := hMk.mo_at (i := k) (j := 0) hlt (by omega)
      have b1 := hMk.kn_at (i := k) (j := 0) hlt (by omega)
      rw [(HU.out k).1] at a1
      rw [(HD.out k).1] at b1
      have uz := ptU_zero f n E k
      have dz := ptD_zero f n E k
      have ue := (HU.out k).2
      have de := (HD.out k).2
      have dl := HDl.out k
      have gz := lmG_at (ptU f n E) (ptD f n E) k
      have v0 := HK.out.cell (k := k * 4) (by omega)
      have v1 := HK.out.cell (k := k * 4 + 1) (by omega)
      have v2 := HK.out.cell (k := k * 4 + 2) (by omega)
      have v3 := HK.out.cell (k := k * 4 + 3) (by omega)
      rw [gz.1] at v0
      rw [gz.2.1] at v1
      rw [gz.2.2.1] at v2
      rw [gz.2.2.2] at v3
      have z0 := HK.out.fz (k * 4)
      have z1 := HK.out.fz (k * 4 + 1)
      have z2 := HK.out.fz (k * 4 + 2)
      have z3 := HK.out.fz (k * 4 + 3)
      have hkE : (k : Int) < E := by omega
      have hpE : (0 : Int) < E := by omega
      have wD : IntKind.i64.wrap (-((ptD f n E).mo k)) = -((ptD f n E).mo k) := IntWalk.i64_in _ (by omega)
      have hKl := HK.out.lt
      have r0 : rb 0 < wr.heap.size := Nat.lt_of_lt_of_le (HL3.out 0 (by omega)) HB.out.size
      have rk : rb k < wr.heap.size := Nat.lt_of_lt_of_le (HL3.out k hlt) HB.out.size
      have rt : bt < wr.heap.size := Nat.lt_of_lt_of_le HT3.out HB.out.size
      have rt0 : bt ≠ w3.heap.size := Nat.ne_of_lt HT3.out
      have rk0 : rb k ≠ w3.heap.size := Nat.ne_of_lt (HL3.out k hlt)
      have rt1 : w3.heap.size ≠ bt := Ne.symm rt0
      have rk1 : w3.heap.size ≠ rb k := Ne.symm rk0
      clear hMk dl
      have hcu : ((ptU f n E).kn k = false) ∨ ((ptU f n E).kn k = true) := by cases (ptU f n E).kn k <;> simp
      have hcd : ((ptD f n E).kn k = false) ∨ ((ptD f n E).kn k = true) := by cases (ptD f n E).kn k <;> simp
      rcases hcu with hcu | hcu
      all_goals
        rcases hcd with hcd | hcd
      all_goals
        rw [hcu] at a1
        rw [hcd] at b1
        first | rw [ue hcu] at a0 | skip
        first | rw [de hcd] at b0 | skip
        go_wp2_with fail
      · exact ⟨⟨k + 1, by omega, by go_num, ((HK.out.alloc _).alloc _).congr fun i _ => lmG_next (by rw [gz.1, dz hcd]; rfl) (by rw [gz.2.1, uz hcu]) (by rw [gz.2.2.1, hcd]) (by rw [gz.2.2.2, hcu]) (fun _ _ _ _ _ => rfl) i, (HB.out.alloc HB.out.size _).alloc (by simp; omega) _⟩, by simp [intOf]; omega⟩
      · exact ⟨⟨k + 1, by omega, by go_num, ((((HK.out.set _ _).set _ _).alloc _).alloc _).congr fun i _ => lmG_next (by simp [turn]) (by simp [turn, gz.2.1, uz hcu]) (by simp [turn, hcd]) (by simp [turn, gz.2.2.2, hcu]) (fun i e0 e1 e2 e3 => by simp [turn, e0, e2]) i, (((HB.out.setCell (p := ⟨w3.heap.size, k * 4, none⟩) (Nat.le_refl _) _).setCell (p := ⟨w3.heap.size, k * 4 + 2, none⟩) (Nat.le_refl _) _).alloc (by simp [World.setCell]; omega) _).alloc (by simp [World.setCell]; omega) _⟩, by simp [intOf]; omega⟩
      · exact ⟨⟨k + 1, by omega, by go_num, ((((HK.out.set _ _).set _ _).alloc _).alloc _).congr fun i _ => lmG_next (by simp [turn, gz.1, dz hcd]) (by simp [turn]) (by simp [turn, gz.2.2.1, hcd]) (by simp [turn, hcu]) (fun i e0 e1 e2 e3 => by simp [turn, e1, e3]) i, (((HB.out.setCell (p := ⟨w3.heap.size, k * 4 + 1, none⟩) (Nat.le_refl _) _).setCell (p := ⟨w3.heap.size, k * 4 + 3, none⟩) (Nat.le_refl _) _).alloc (by simp [World.setCell]; omega) _).alloc (by simp [World.setCell]; omega) _⟩, by simp [intOf]; omega⟩
      · exact ⟨⟨k + 1, by omega, by go_num, ((((((HK.out.set _ _).set _ _).set _ _).set _ _).alloc _).alloc _).congr fun i _ => lmG_next (by simp [turn]) (by simp [turn]) (by simp [turn, hcd]) (by simp [turn, hcu]) (fun i e0 e1 e2 e3 => by simp [turn, e0, e1, e2, e3]) i, (((((HB.out.setCell (p := ⟨w3.heap.size, k * 4 + 1, none⟩) (Nat.le_refl _) _).setCell (p := ⟨w3.heap.size, k * 4 + 3, none⟩) (Nat.le_refl _) _).setCell (p := ⟨w3.heap.size, k * 4, none⟩) (Nat.le_refl _) _).setCell (p := ⟨w3.heap.size, k * 4 + 2, none⟩) (Nat.le_refl _) _).alloc (by simp [World.setCell]; omega) _).alloc (by simp [World.setCell]; omega) _⟩, by simp [intOf]; omega⟩
    · obtain rfl : E = k := by omega
      go_wp2_with fail
      refine bodyPost_ret (v := .tuple #[.slice (some ⟨w3.heap.size, 0, none⟩) E E, .int .i64 0]) (by simp [results, Try.f31, go_sem]) rfl ⟨w3.heap.size, rfl, HW3.out, HK.out.congr fun i hi => ?_, HB3.out.trans (HB.out.mono HB3.out.size)⟩
      unfold lmG; rw [if_pos hi]

set_option maxRecDepth 100000 in
set_option maxHeartbeats 4000000 in
theorem rlimits_err (w : World) (f : Nat → Int) (E : Int) (n c : Nat) (a : Option Addr) (hn0 : n ≤ 9223372036854775807) (hS : Sl w 3 a n f) (he : bchk E n f ≠ 0) :
    Calls Try.prog 31 #[.int .i64 E, .slice a n c] w fun e W' => e = .returned (.tuple #[.slice none 0 0, .int .i64 (bchk E n f)]) ∧ Below w.heap.size w W' := by
  have hne : (bchk E n f == 0) = false := by simpa using he
  have hne2 : (bchk E n f != 0) = true := by simpa using he
  clear he
  go_enter Try.func31, Try.ntmps31
  go_wp2_with (go_at_call 33; refine (rcheck_of _ E a n c f hn0 hS).mono ?_; rintro e w9 ⟨rfl, hw9⟩; rw [hw9]; clear hw9 w9)
  exact bodyPost_ret (v := .tuple #[.slice none 0 0, .int .i64 (bchk E n f)]) (by simp [results, Try.f31, go_sem]) rfl ⟨rfl, Below.refl _ _⟩
set_option maxRecDepth 100000 in
set_option maxHeartbeats 4000000 in
theorem rlimits_clash (w : World) (f : Nat → Int) (E n c : Nat) (a : Option Addr) (hf : BOk E n f) (hn0 : n ≤ 9223372036854775807) (hS : Sl w 3 a n f) (hc : 0 ≤ clash f n E) :
    Calls Try.prog 31 #[.int .i64 (E : Int), .slice a n c] w fun e W' => e = .returned (.tuple #[.slice none 0 0, .int .i64 40]) ∧ Below w.heap.size w W' := by
  have HF := Lib.hid hf
  have HS := Lib.hid hS
  have H0 := Lib.hid (bchk_of hf)
  have hcd : decide (0 ≤ clash f n E) = true := decide_eq_true hc
  have HC := Lib.hid hcd
  clear hf hS hc hcd
  go_enter Try.func31, Try.ntmps31
  go_wp2_with fail
  refine (rcheck_of w E a n c f hn0 HS.out).mono ?_
  rintro e w9 ⟨rfl, hw9⟩
  rw [hw9, H0.out]
  clear hw9 w9
  go_wp2_with fail
  refine (rclash_of w f E n c a HF.out HS.out).mono ?_
  rintro e w2 ⟨rfl, hB2⟩
  rw [HC.out]
  have HB2 := Lib.hid hB2
  clear hB2
  go_wp2_with fail
  exact bodyPost_ret (v := .tuple #[.slice none 0 0, .int .i64 40]) (by simp [results, Try.f31, go_sem]) rfl ⟨rfl, HB2.out⟩
/-- The program's checkClash and Limits, where there is an error r. -/
def BadB (E : Int) (n : Nat) (f : Nat → Int) (r : Int) : Prop := r ≠ 0 ∧ ((bchk E n f ≠ 0 ∧ r = bchk E n f) ∨ (bchk E n f = 0 ∧ 0 ≤ clash f n E.toNat ∧ r = 40))
set_option maxRecDepth 100000 in
set_option maxHeartbeats 4000000 in
theorem checkClash_bad (w : World) (f : Nat → Int) (E : Int) (n c : Nat) (a : Option Addr) (hS : Sl w 3 a n f) (r : Int) (hr : BadB E n f r) :
    Calls Try.prog 66 #[.int .i64 E, .slice a n c] w fun e W' => e = .returned (.int .i64 r) ∧ Below w.heap.size w W' := by
  obtain ⟨hr0, ⟨he, rfl⟩ | ⟨he, hc, rfl⟩⟩ := hr
  · have hne : (bchk E n f == 0) = false := by simpa using he
    have hne2 : (bchk E n f != 0) = true := by simpa using he
    clear he hr0
    go_enter Try.func66, Try.ntmps66
    go_wp2_with (go_at_call 32; refine (check_of _ E a n c f hS).mono ?_; rintro e w2 ⟨rfl, hB⟩)
    go_ret
    exact ⟨rfl, hB⟩
  · obtain ⟨hb, hE⟩ := bok_of he
    obtain ⟨N, hN⟩ : ∃ N : Nat, E.toNat = N := ⟨_, rfl⟩
    rw [hN] at hb hE hc
    subst hE
    have HF := Lib.hid hb
    have HE := Lib.hid he
    have HS := Lib.hid hS
    have HC := Lib.hid hc
    clear hb he hN hS hc hr0
    go_enter Try.func66, Try.ntmps66
    go_wp2_with fail
    refine (check_of w N a n c f HS.out).mono ?_
    rintro e w1 ⟨rfl, hB1⟩
    rw [HE.out]
    have HB1 := Lib.hid hB1
    clear hB1
    go_wp2_with fail
    refine (round_yes w1 f N n c a HF.out (HS.out.keep (by decide) HB1.out) HC.out).mono ?_
    rintro e w2 ⟨vv, l, rfl, hR, hO, hB2⟩
    obtain ⟨xl, cl, rfl⟩ := own_form hO
    have HB2 := Lib.hid (HB1.out.trans (hB2.mono HB1.out.size))
    have hlen : 0 < l.length := List.length_pos_iff.2 (by have := hR.1; simpa using this)
    have hlen2 : (0 : Int) < (l.length : Int) := by omega
    clear hB2 hO hR
    go_wp2_with fail
    go_ret
    exact ⟨rfl, HB2.out⟩
set_option maxRecDepth 100000 in
set_option maxHeartbeats 4000000 in
theorem limits_bad (w : World) (f : Nat → Int) (E : Int) (n c : Nat) (a : Option Addr) (hS : Sl w 3 a n f) (r : Int) (hr : BadB E n f r) :
    Calls Try.prog 30 #[.int .i64 E, .slice a n c] w fun e W' => e = .returned (.tuple #[.slice none 0 0, .int .i64 r]) ∧ Below w.heap.size w W' := by
  have hne : (r == 0) = false := by simpa using hr.1
  have hne2 : (r != 0) = true := by simpa using hr.1
  have HC := Lib.hid (checkClash_bad w f E n c a hS r hr)
  clear hr hS
  go_enter Try.func30, Try.ntmps30
  go_wp2_with fail
  refine HC.out.mono ?_
  rintro e w2 ⟨rfl, hB⟩
  have HB := Lib.hid hB
  clear hB
  go_wp2_with fail
  exact bodyPost_ret (v := .tuple #[.slice none 0 0, .int .i64 r]) (by simp [results, Try.f30, go_sem]) rfl ⟨rfl, HB.out⟩
theorem rlimits_bad (w : World) (f : Nat → Int) (E : Int) (n c : Nat) (a : Option Addr) (hn0 : n ≤ 9223372036854775807) (hS : Sl w 3 a n f) (r : Int) (hr : BadB E n f r) :
    Calls Try.prog 31 #[.int .i64 E, .slice a n c] w fun e W' => e = .returned (.tuple #[.slice none 0 0, .int .i64 r]) ∧ Below w.heap.size w W' := by
  obtain ⟨hr0, ⟨he, rfl⟩ | ⟨he, hc, rfl⟩⟩ := hr
  · exact rlimits_err w f E n c a hn0 hS he
  · obtain ⟨hb, hE⟩ := bok_of he
    obtain ⟨N, hN⟩ : ∃ N : Nat, E.toNat = N := ⟨_, rfl⟩
    rw [hN] at hb hE hc
    subst hE
    exact rlimits_clash w f N n c a hb hn0 hS hc

/-! Intervals that are the same -/
set_option maxRecDepth 100000 in
set_option maxHeartbeats 4000000 in
theorem same_none (w : World) : Calls Try.prog 34 #[.slice none 0 0, .slice none 0 0] w fun e w' => e = .returned (.bool true) ∧ w' = w := by
  go_enter Try.func34, Try.ntmps34
  go_wp2
  refine wp_loop_rounds 1 ?_
  rw [rounds_succ]
  go_wp2
  go_ret
  exact ⟨rfl, rfl⟩
set_option maxRecDepth 100000 in
set_option maxHeartbeats 4000000 in
theorem same_limits (w : World) (n b1 b2 : Nat) (u d : Pt) (hn : n ≤ 64) (h1 : Blk w b1 95 (n * 4) (lmV u d)) (h2 : Blk w b2 77 (n * 4) (lmV u d)) :
    Calls Try.prog 34 #[.slice (some ⟨b1, 0, none⟩) n n, .slice (some ⟨b2, 0, none⟩) n n] w fun e w' => e = .returned (.bool true) ∧ Below w.heap.size w w' := by
  have H1 := Lib.hid h1
  have H2 := Lib.hid h2
  clear h1 h2
  go_enter Try.func34, Try.ntmps34
  go_wp2_with fail
  go_loopw [13] (fun vi wr => ∃ k : Nat, k ≤ n ∧ vi = .int .i64 k ∧ Hid (Below w.heap.size w wr)) (fun vi _ => n - (intOf vi).toNat)
  case atStart => exact ⟨0, by omega, rfl, Below.refl _ _⟩
  case round =>
    obtain ⟨k, hk, rfl, HB⟩ := hrel
    by_cases hlt : k < n
    · have k1 := H1.out.keep HB.out H1.out.lt
      have k2 := H2.out.keep HB.out H2.out.lt
      have e10 := k1.cell (k := k * 4) (by omega)
      have e11 := k1.cell (k := k * 4 + 1) (by omega)
      have e12 := k1.cell (k := k * 4 + 2) (by omega)
      have e13 := k1.cell (k := k * 4 + 3) (by omega)
      have e20 := k2.cell (k := k * 4) (by omega)
      have e21 := k2.cell (k := k * 4 + 1) (by omega)
      have e22 := k2.cell (k := k * 4 + 2) (by omega)
      have e23 := k2.cell (k := k * 4 + 3) (by omega)
      rw [lmV_0] at e10 e20
      rw [lmV_1] at e11 e21
      rw [lmV_2] at e12 e22
      rw [lmV_3] at e13 e23
      generalize -(d.mo k) = x0 at e10 e20
      generalize u.mo k = x1 at e11 e21
      generalize d.kn k = x2 at e12 e22
      generalize u.kn k = x3 at e13 e23
      have hkn : (k : Int) < n := by omega
      clear k1 k2
      go_wp2_with fail
      go_quiet (fail)
      go_wp2_with fail
      exact ⟨⟨k + 1, by omega, by go_num, below_drewN HB.out nq⟩, by simp [intOf]; omega⟩
    · obtain rfl : n = k := by omega
      go_wp2_with fail
      go_ret
      exact ⟨rfl, HB.out⟩

set_option maxRecDepth 100000 in
set_option maxHeartbeats 8000000 in
theorem limits_law (w : World) (E : Int) (a : Option Addr) (n c : Nat) (f : Nat → Int) (hn : n ≤ 9223372036854775807) (hS : Sl w 3 a n f) :
    Calls Try.prog 7 #[.int .i64 E, .slice a n c] w fun e w' => e = .returned (.bool true) ∧ Below w.heap.size w w' := by
  cases hf : fewB E n with
  | false =>
    clear hS
    go_enter Try.func7, Try.ntmps7
    go_wp2_with fail
    refine (few_no w E a n c hf hn).mono ?_
    rintro e w9 ⟨rfl, hw9⟩
    rw [hw9]
    clear hw9 w9
    go_wp2_with fail
    refine (awake_of w).mono ?_
    rintro e w2 ⟨rfl, hB⟩
    have HB := Lib.hid hB
    clear hB
    go_wp2_with fail
    go_ret
    exact ⟨rfl, HB.out⟩
  | true =>
    have C1 := Lib.hid (few_ok w E a n c f hf hS)
    have HS := Lib.hid hS
    clear hS
    by_cases hok : bchk E n f = 0 ∧ clash f n E.toNat < 0
    · obtain ⟨he, hc⟩ := hok
      obtain ⟨hb, hE⟩ := bok_of he
      obtain ⟨N, hN⟩ : ∃ N : Nat, E.toNat = N := ⟨_, rfl⟩
      rw [hN] at hb hE hc
      subst hE
      have h12 : N ≤ 12 := by
        unfold fewB at hf
        rw [decide_eq_true_iff] at hf
        have := hb.1
        omega
      have HBk := Lib.hid hb
      have HE := Lib.hid he
      have HC := Lib.hid hc
      clear hb he hN hf hc
      go_enter Try.func7, Try.ntmps7
      go_wp2_with fail
      refine C1.out.mono ?_
      rintro e w2 ⟨x, c', rfl, hS2, hB⟩
      have HB := Lib.hid hB
      have HS2 := Lib.hid hS2
      clear hB hS2 C1
      go_wp2_with fail
      refine (limits_ok w2 f N n c a HBk.out (HS.out.keep (by decide) HB.out) HC.out).mono ?_
      rintro e w3 ⟨b1, rfl, hb1, hL1, hB3⟩
      have HB3 := Lib.hid (HB.out.trans (hB3.mono HB.out.size))
      have HS3 := Lib.hid (HS2.out.keep (by decide) hB3)
      have HL1 := Lib.hid hL1
      clear hB3 hL1 hb1
      go_wp2_with fail
      refine (rlimits_ok w3 f N n c' x HBk.out h12 hn HS3.out HC.out).mono ?_
      rintro e w4 ⟨b2, rfl, hb2, hL2, hB4⟩
      have HB4 := Lib.hid (HB3.out.trans (hB4.mono HB3.out.size))
      have HS4 := Lib.hid (HS3.out.keep (by decide) hB4)
      have HA4 := Lib.hid (HS.out.keep (by decide) HB4.out)
      have HL14 := Lib.hid (HL1.out.keep hB4 HL1.out.lt)
      have HL24 := Lib.hid hL2
      clear hB4 hL2 hb2 HL1
      go_wp2_with fail
      refine (check_of w4 N a n c f HA4.out).mono ?_
      rintro e w5 ⟨rfl, hB5⟩
      rw [HE.out]
      have HB5 := Lib.hid (HB4.out.trans (hB5.mono HB4.out.size))
      have HS5 := Lib.hid (HS4.out.keep (by decide) hB5)
      have HL15 := Lib.hid (HL14.out.keep hB5 HL14.out.lt)
      have HL25 := Lib.hid (HL24.out.keep hB5 HL24.out.lt)
      clear hB5
      go_wp2_with fail
      refine (rcheck_of w5 N x n c' f hn HS5.out).mono ?_
      rintro e w9 ⟨rfl, hw9⟩
      rw [hw9, HE.out]
      clear hw9 w9
      go_wp2_with fail
      refine (same_limits w5 N b1 b2 _ _ (by omega) HL15.out HL25.out).mono ?_
      rintro e w6 ⟨rfl, hB6⟩
      have HB6 := Lib.hid (HB5.out.trans (hB6.mono HB5.out.size))
      clear hB6
      go_wp2_with fail
      refine (awake_of w6).mono ?_
      rintro e w7 ⟨rfl, hB7⟩
      have HB7 := Lib.hid (HB6.out.trans (hB7.mono HB6.out.size))
      clear hB7
      go_wp2_with fail
      go_ret
      exact ⟨rfl, HB7.out⟩
    · obtain ⟨r, hr⟩ : ∃ r, BadB E n f r := by
        by_cases he : bchk E n f = 0
        · exact ⟨40, by decide, .inr ⟨he, by have : ¬clash f n E.toNat < 0 := fun h => hok ⟨he, h⟩; omega, rfl⟩⟩
        · exact ⟨_, he, .inl ⟨he, rfl⟩⟩
      have HR := Lib.hid hr
      obtain ⟨q, hq⟩ : ∃ q, bchk E n f = q := ⟨_, rfl⟩
      have HQ := Lib.hid hq
      clear hr hok hf hq
      go_enter Try.func7, Try.ntmps7
      go_wp2_with fail
      refine C1.out.mono ?_
      rintro e w2 ⟨x, c', rfl, hS2, hB⟩
      have HB := Lib.hid hB
      have HS2 := Lib.hid hS2
      clear hB hS2 C1
      go_wp2_with fail
      refine (limits_bad w2 f E n c a (HS.out.keep (by decide) HB.out) r HR.out).mono ?_
      rintro e w3 ⟨rfl, hB3⟩
      have HB3 := Lib.hid (HB.out.trans (hB3.mono HB.out.size))
      have HS3 := Lib.hid (HS2.out.keep (by decide) hB3)
      clear hB3
      go_wp2_with fail
      refine (rlimits_bad w3 f E n c' x hn HS3.out r HR.out).mono ?_
      rintro e w4 ⟨rfl, hB4⟩
      have HB4 := Lib.hid (HB3.out.trans (hB4.mono HB3.out.size))
      have HS4 := Lib.hid (HS3.out.keep (by decide) hB4)
      have HA4 := Lib.hid (HS.out.keep (by decide) HB4.out)
      clear hB4
      go_wp2_with fail
      refine (check_of w4 E a n c f HA4.out).mono ?_
      rintro e w5 ⟨rfl, hB5⟩
      rw [HQ.out]
      have HB5 := Lib.hid (HB4.out.trans (hB5.mono HB4.out.size))
      have HS5 := Lib.hid (HS4.out.keep (by decide) hB5)
      clear hB5
      go_wp2_with fail
      refine (rcheck_of w5 E x n c' f hn HS5.out).mono ?_
      rintro e w9 ⟨rfl, hw9⟩
      rw [hw9, HQ.out]
      clear hw9 w9
      go_wp2_with fail
      refine (same_none w5).mono ?_
      rintro e w9 ⟨rfl, hw9⟩
      rw [hw9]
      clear hw9 w9
      go_wp2_with fail
      refine (awake_of w5).mono ?_
      rintro e w7 ⟨rfl, hB7⟩
      have HB7 := Lib.hid (HB5.out.trans (hB7.mono HB5.out.size))
      clear hB7
      go_wp2_with fail
      go_ret
      exact ⟨rfl, HB7.out⟩
end Go.Proofs.Ytonlamkpehakdaa
