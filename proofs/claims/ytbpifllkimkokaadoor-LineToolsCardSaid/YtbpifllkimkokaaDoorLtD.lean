/-
  WALKS: LineTools, the whole statement.
-/
import Derived.Test.YtbpifllkimkokaaDoorLtA
import Derived.Test.YtbpifllkimkokaaDoorLtC
import Derived.Test.YtbpifllkimkokaaDoorLnU
namespace Go.Proofs.YtbpifllkimkokaaDoor
open Go.RowKit

set_option maxRecDepth 100000 in
set_option maxHeartbeats 3200000 in
theorem toolsLaw_no (w : World) (a za la : Option Addr) (n c nz zc nl lc : Nat) (S T N Q l0 l1 l2 l3 wd : Int) (hG : Glob w)
    (hR : ∀ w', Below w.heap.size w w' → Calls Tryd.prog 36 #[.agg #[.slice a n c, .slice za nz zc, .slice la nl lc]] w' fun e w2 => e = .returned (.bool false) ∧ Below w'.heap.size w' w2) :
    Calls Tryd.prog 8 #[.agg #[.slice a n c, .slice za nz zc, .slice la nl lc], .agg #[.int .i64 S, .int .i64 T, .int .i64 N, .int .i64 Q], .agg #[.int .u16 l0, .int .u16 l1, .int .u16 l2, .int .u16 l3], .int .u16 wd] w fun e w' => e = .returned (.bool true) ∧ Below w.heap.size w w' := by
  have HR := Lib.hid hR
  have HA : Hid (∀ w', Below w.heap.size w w' → Calls Tryd.prog 13 #[] w' fun e w2 => e = .returned (.bool true) ∧ Below w'.heap.size w' w2) := fun w' hb => awake_of w' (hG.keep hb)
  clear hR hG
  go_enter Tryd.func8, Tryd.ntmps8
  go_wp2_with fail
  obtain ⟨W, hW⟩ : ∃ W, W = ((w.alloc (.cells #[.slice a n c, .slice za nz zc, .slice la nl lc] 26)).alloc (.cells #[.int .i64 S, .int .i64 T, .int .i64 N, .int .i64 Q] 63)).alloc (.cells #[.int .u16 l0, .int .u16 l1, .int .u16 l2, .int .u16 l3] 76) := ⟨_, rfl⟩
  have hBW : Hid (Below w.heap.size w W) := by rw [hW]; exact (((Below.refl _ _).alloc (Nat.le_refl _) _).alloc (by simp) _).alloc (by simp; omega) _
  have hsz : W.heap.size = w.heap.size + 3 := by rw [hW]; simp
  have HX : Hid (W.cell? ⟨w.heap.size, 0, none⟩ = some (.slice a n c) ∧ W.cell? ⟨w.heap.size, 1, none⟩ = some (.slice za nz zc) ∧ W.cell? ⟨w.heap.size, 2, none⟩ = some (.slice la nl lc)) := by
    rw [hW]; exact ⟨by go_simp, by go_simp, by go_simp⟩
  rw [← hW]
  clear hW
  refine (HA.out W hBW.out).mono ?_
  rintro e' w2 ⟨rfl, hb2⟩
  have HB2 : Hid (Below w.heap.size w w2) := hBW.out.trans (hb2.mono hBW.out.size)
  obtain ⟨x0, x1, x2⟩ := three_keep HX.out hb2
  clear hb2
  go_wp2_with fail
  refine (HR.out w2 HB2.out).mono ?_
  rintro e' w3 ⟨rfl, hb3⟩
  have HB3 : Hid (Below w.heap.size w w3) := HB2.out.trans (hb3.mono HB2.out.size)
  clear hb3 x0 x1 x2
  go_wp2_with fail
  refine (HA.out w3 HB3.out).mono ?_
  rintro e' w4 ⟨rfl, hb4⟩
  have HB4 : Hid (Below w.heap.size w w4) := HB3.out.trans (hb4.mono HB3.out.size)
  clear hb4
  go_wp2
  go_ret
  exact ⟨rfl, HB4.out⟩

/-- The cells of the three arguments' boxes. -/
def Bx3 (s : Nat) (a za la : Option Addr) (n c nz zc nl lc : Nat) (S T N Q l0 l1 l2 l3 : Int) (W : World) : Prop :=
  (W.cell? ⟨s, 0, none⟩ = some (.slice a n c) ∧ W.cell? ⟨s, 1, none⟩ = some (.slice za nz zc) ∧ W.cell? ⟨s, 2, none⟩ = some (.slice la nl lc)) ∧
  (W.cell? ⟨s + 1, 0, none⟩ = some (.int .i64 S) ∧ W.cell? ⟨s + 1, 1, none⟩ = some (.int .i64 T) ∧ W.cell? ⟨s + 1, 2, none⟩ = some (.int .i64 N) ∧ W.cell? ⟨s + 1, 3, none⟩ = some (.int .i64 Q)) ∧
  (W.cell? ⟨s + 1 + 1, 0, none⟩ = some (.int .u16 l0) ∧ W.cell? ⟨s + 1 + 1, 1, none⟩ = some (.int .u16 l1) ∧ W.cell? ⟨s + 1 + 1, 2, none⟩ = some (.int .u16 l2) ∧ W.cell? ⟨s + 1 + 1, 3, none⟩ = some (.int .u16 l3))
theorem Bx3.keep {s : Nat} {a za la : Option Addr} {n c nz zc nl lc : Nat} {S T N Q l0 l1 l2 l3 : Int} {W W' : World} (h : Bx3 s a za la n c nz zc nl lc S T N Q l0 l1 l2 l3 W) (hb : Below W.heap.size W W') : Bx3 s a za la n c nz zc nl lc S T N Q l0 l1 l2 l3 W' := by
  have e : ∀ q r x, W.cell? ⟨q, r, none⟩ = some x → W'.cell? ⟨q, r, none⟩ = some x := fun q r x hx => (hb.cell (p := ⟨q, r, none⟩) (World.block_lt_of_cell? W _ hx)).trans hx
  obtain ⟨⟨h1, h2, h3⟩, ⟨h4, h5, h6, h7⟩, h8, h9, h10, h11⟩ := h
  exact ⟨⟨e _ _ _ h1, e _ _ _ h2, e _ _ _ h3⟩, ⟨e _ _ _ h4, e _ _ _ h5, e _ _ _ h6, e _ _ _ h7⟩, e _ _ _ h8, e _ _ _ h9, e _ _ _ h10, e _ _ _ h11⟩

set_option maxRecDepth 100000 in
set_option maxHeartbeats 6400000 in
theorem toolsLaw_yes (w : World) (a za la : Option Addr) (n c nz zc nl lc : Nat) (f z m : Nat → Int) (S T N Q l0 l1 l2 l3 wd : Int) (hG : Glob w) (h : (n ≤ 12 ∧ nz ≤ 12 ∧ nl ≤ 12) ∧ chk n nz nl f z m = 0)
    (hS : Sl w 7 a n f) (hZ : Sl w 3 za nz z) (hL : Sl w 2 la nl m) (hl0 : 0 ≤ l0 ∧ l0 ≤ 65535) (hl1 : 0 ≤ l1 ∧ l1 ≤ 65535) (hl2 : 0 ≤ l2 ∧ l2 ≤ 65535) (hl3 : 0 ≤ l3 ∧ l3 ≤ 65535) (hwd : 0 ≤ wd ∧ wd ≤ 65535) :
    Calls Tryd.prog 8 #[.agg #[.slice a n c, .slice za nz zc, .slice la nl lc], .agg #[.int .i64 S, .int .i64 T, .int .i64 N, .int .i64 Q], .agg #[.int .u16 l0, .int .u16 l1, .int .u16 l2, .int .u16 l3], .int .u16 wd] w fun e w' => e = .returned (.bool true) ∧ Below w.heap.size w w' := by
  have HR : Hid (∀ w', Below w.heap.size w w' → Calls Tryd.prog 36 #[.agg #[.slice a n c, .slice za nz zc, .slice la nl lc]] w' fun e w2 => e = .returned (.bool true) ∧ Below w'.heap.size w' w2) := fun w' hb => by
    have := right_near w' a za la n c nz zc nl lc f z m (by omega) (hS.keep (by omega) hb) (hZ.keep (by omega) hb) (hL.keep (by omega) hb)
    rwa [show decide ((n ≤ 12 ∧ nz ≤ 12 ∧ nl ≤ 12) ∧ chk n nz nl f z m = 0) = true by simpa using h] at this
  have HA : Hid (∀ w', Below w.heap.size w w' → Calls Tryd.prog 13 #[] w' fun e w2 => e = .returned (.bool true) ∧ Below w'.heap.size w' w2) := fun w' hb => awake_of w' (hG.keep hb)
  have HP : Hid (∀ w' S' T' N' Q', Below w.heap.size w w' → Calls Tryd.prog 34 #[.agg #[.slice a n c, .slice za nz zc, .slice la nl lc], .agg #[.int .i64 S', .int .i64 T', .int .i64 N', .int .i64 Q']] w' (PsP 0 (tOk S' T' N' Q') (firstNot (psAt f S' T' N' Q') n) w')) := fun w' S' T' N' Q' hb => by
    have := lpasses_of w' a za la n c nz zc nl lc f z m S' T' N' Q' (hS.keep (by omega) hb) (hZ.keep (by omega) hb) (hL.keep (by omega) hb)
    rwa [h.2] at this
  have hok := chk_ok h.2
  have hn : 1 ≤ n ∧ n ≤ 12 := ⟨hok.1.1, h.1.1⟩
  have HV : Hid (∀ i, i < n → itAt f i = 0) := hok.2.2.2.1
  have HS := Lib.hid hS
  obtain ⟨b, o, rfl, _⟩ := hS (by omega)
  clear h hG hS hZ hL hok
  go_enter Tryd.func8, Tryd.ntmps8
  go_wp2_with fail
  obtain ⟨W, hW⟩ : ∃ W, W = ((w.alloc (.cells #[.slice (some ⟨b, o, none⟩) n c, .slice za nz zc, .slice la nl lc] 26)).alloc (.cells #[.int .i64 S, .int .i64 T, .int .i64 N, .int .i64 Q] 63)).alloc (.cells #[.int .u16 l0, .int .u16 l1, .int .u16 l2, .int .u16 l3] 76) := ⟨_, rfl⟩
  have hBW : Hid (Below w.heap.size w W) := by rw [hW]; exact (((Below.refl _ _).alloc (Nat.le_refl _) _).alloc (by simp) _).alloc (by simp; omega) _
  have hsz : W.heap.size = w.heap.size + 3 := by rw [hW]; simp
  have HX : Hid (Bx3 w.heap.size (some ⟨b, o, none⟩) za la n c nz zc nl lc S T N Q l0 l1 l2 l3 W) := by
    rw [hW]; exact ⟨⟨by go_simp, by go_simp, by go_simp⟩, ⟨by go_simp, by go_simp, by go_simp, by go_simp⟩, by go_simp, by go_simp, by go_simp, by go_simp⟩
  rw [← hW]
  clear hW
  refine (HA.out W hBW.out).mono ?_
  rintro e' w2 ⟨rfl, hb2⟩
  have HB2 : Hid (Below w.heap.size w w2) := hBW.out.trans (hb2.mono hBW.out.size)
  have HX2 : Hid (Bx3 w.heap.size (some ⟨b, o, none⟩) za la n c nz zc nl lc S T N Q l0 l1 l2 l3 w2) := HX.out.keep hb2
  obtain ⟨x0, x1, x2⟩ := HX2.out.1
  clear hb2
  go_wp2_with fail
  refine (HR.out w2 HB2.out).mono ?_
  rintro e' w3 ⟨rfl, hb3⟩
  have HB3 : Hid (Below w.heap.size w w3) := HB2.out.trans (hb3.mono HB2.out.size)
  have HX3 : Hid (Bx3 w.heap.size (some ⟨b, o, none⟩) za la n c nz zc nl lc S T N Q l0 l1 l2 l3 w3) := HX2.out.keep hb3
  clear hb3 x0 x1 x2
  obtain ⟨⟨x0, x1, x2⟩, ⟨t0, t1, t2, t3⟩, _⟩ := HX3.out
  go_wp2_with fail
  refine (HP.out w3 S T N Q HB3.out).mono ?_
  rintro e' w4 ⟨hb4, ⟨h0, _⟩ | ⟨_, hB, rfl⟩ | ⟨_, hB, rfl⟩⟩
  · exact absurd rfl h0
  · have HB4 : Hid (Below w.heap.size w w4) := HB3.out.trans (hb4.mono HB3.out.size)
    clear hb4 x0 x1 x2 t0 t1 t2 t3
    go_wp2
    go_ret
    exact ⟨rfl, HB4.out⟩
  have hB4 : Below w.heap.size w w4 := HB3.out.trans (hb4.mono HB3.out.size)
  have HX4 : Hid (Bx3 w.heap.size (some ⟨b, o, none⟩) za la n c nz zc nl lc S T N Q l0 l1 l2 l3 w4) := HX3.out.keep hb4
  have HB4 := Lib.hid hB4
  have ht : (1 ≤ S ∧ S ≤ 16777216) ∧ (1 ≤ T ∧ T ≤ 16777216) ∧ (1 ≤ N ∧ N ≤ 16777216) ∧ (1 ≤ Q ∧ Q ≤ 16777216) := by unfold tOk at hB; simpa using hB
  have hs4 : w.heap.size + 1 + 1 < w4.heap.size := World.block_lt_of_cell? w4 _ HX4.out.2.2.1
  have hlt4 : w.heap.size < w4.heap.size := by omega
  clear hb4 x0 x1 x2 t0 t1 t2 t3 hB hB4
  obtain ⟨⟨x0, x1, x2⟩, ⟨t0, t1, t2, t3⟩, m0, m1, m2, m3⟩ := HX4.out
  have h0i : ∀ i, i < n → psAt f S T N Q i = true → psAt f (max 1 (S - l0)) (max 1 (T - l1)) (max 1 (N - l2)) (min 16777216 (Q + l3)) i = true := fun i hi hp =>
    psAt_less f S T N Q _ _ _ _ (by omega) (by omega) (by omega) (by omega) i (HV.out i hi) hp
  have h1i : ∀ i, i < n → psAt f S T N Q i = true → psAt (wide1 f wd) S T N Q i = true := fun i hi hp => psAt_wider f wd hwd.1 S T N Q ht.2.1.1 i (HV.out i hi) hp
  have hM0 := firstNot_mono h0i
  have hM1 := firstNot_mono h1i
  have htk : tOk (max 1 (S - l0)) (max 1 (T - l1)) (max 1 (N - l2)) (min 16777216 (Q + l3)) = true := by
    unfold tOk; rw [decide_eq_true_iff]; omega
  have HP2 : Hid (∀ w', Below w.heap.size w w' → Calls Tryd.prog 34 #[.agg #[.slice (some ⟨b, o, none⟩) n c, .slice za nz zc, .slice la nl lc], .agg #[.int .i64 (max 1 (S - l0)), .int .i64 (max 1 (T - l1)), .int .i64 (max 1 (N - l2)), .int .i64 (min 16777216 (Q + l3))]] w' (PsP 0 true (firstNot (psAt f (max 1 (S - l0)) (max 1 (T - l1)) (max 1 (N - l2)) (min 16777216 (Q + l3))) n) w')) := fun w' hb => by
    have := HP.out w' (max 1 (S - l0)) (max 1 (T - l1)) (max 1 (N - l2)) (min 16777216 (Q + l3)) hb
    rwa [htk] at this
  have htk2 : tOk S T N Q = true := by unfold tOk; rw [decide_eq_true_iff]; omega
  have HP3 : Hid (∀ w' g cap, Sl w' 7 (some ⟨g, 0, none⟩) n (wide1 f wd) → Calls Tryd.prog 34 #[.agg #[.slice (some ⟨g, 0, none⟩) n cap, .slice none 0 0, .slice none 0 0], .agg #[.int .i64 S, .int .i64 T, .int .i64 N, .int .i64 Q]] w' (PsP 0 true (firstNot (psAt (wide1 f wd) S T N Q) n) w')) := fun w' g cap hs => by
    have := lpasses_of w' (some ⟨g, 0, none⟩) none none n cap 0 0 0 0 (wide1 f wd) z m S T N Q hs (fun h => absurd h (by decide)) (fun h => absurd h (by decide))
    rwa [chk_wider f wd hwd.1 n z m (by omega) HV.out, htk2] at this
  clear htk htk2 h0i h1i HP
  generalize firstNot (psAt f S T N Q) n = x at hM0 hM1 ⊢
  generalize firstNot (psAt f (max 1 (S - l0)) (max 1 (T - l1)) (max 1 (N - l2)) (min 16777216 (Q + l3))) n = y at hM0 HP2
  generalize firstNot (psAt (wide1 f wd) S T N Q) n = u at hM1 HP3
  have HM1 := Lib.hid hM1
  have HWD := Lib.hid hwd
  clear hM1
  go_wp2_with fail
  obtain ⟨W5, hW5⟩ : ∃ W5, W5 = w4.alloc (.cells #[.int .i64 (max 1 (S - l0)), .int .i64 (max 1 (T - l1)), .int .i64 (max 1 (N - l2)), .int .i64 (min 16777216 (Q + l3))] 63) := ⟨_, rfl⟩
  have hb5 : Below w4.heap.size w4 W5 := by rw [hW5]; exact (Below.refl _ _).alloc (Nat.le_refl _) _
  have HB5 : Hid (Below w.heap.size w W5) := HB4.out.trans (hb5.mono HB4.out.size)
  have HX5 : Hid (Bx3 w.heap.size (some ⟨b, o, none⟩) za la n c nz zc nl lc S T N Q l0 l1 l2 l3 W5) := HX4.out.keep hb5
  rw [← hW5]
  clear hW5 hb5 x0 x1 x2 t0 t1 t2 t3 m0 m1 m2 m3 hl0 hl1 hl2 hl3 ht
  refine (HP2.out W5 HB5.out).mono ?_
  rintro e' w6 ⟨hb6, ⟨h0, _⟩ | ⟨_, h0, _⟩ | ⟨_, _, rfl⟩⟩
  · exact absurd rfl h0
  · cases h0
  have hB6 : Below w.heap.size w w6 := HB5.out.trans (hb6.mono HB5.out.size)
  have HX6 : Hid (Bx3 w.heap.size (some ⟨b, o, none⟩) za la n c nz zc nl lc S T N Q l0 l1 l2 l3 w6) := HX5.out.keep hb6
  have HB6 := Lib.hid hB6
  have hlt6 : w.heap.size + 1 + 1 < w6.heap.size := World.block_lt_of_cell? w6 _ HX6.out.2.2.1
  have hCl := clone_of w6 b o n c f (by omega) (HS.out.keep (by omega) hB6)
  have HCL := Lib.hid hCl
  obtain ⟨x0, x1, x2⟩ := HX6.out.1
  clear hb6 hB6 hCl
  have hlx : w.heap.size < w6.heap.size := by omega
  rcases hM0 with ⟨rfl, rfl⟩ | ⟨hx0, rfl⟩ | ⟨hx0, hxy⟩
  all_goals
    go_wp2_with fail
    refine HCL.out.mono ?_
    rintro e' w7 ⟨v, rfl, hown, hb7⟩
    obtain ⟨g, cap, rfl, hg6, hg7⟩ := hown.form (by omega)
    obtain ⟨W8, hW8⟩ : ∃ W8, W8 = w7.alloc (.cells #[.slice (some ⟨g, 0, none⟩) n cap, .slice none 0 0, .slice none 0 0] 26) := ⟨_, rfl⟩
    have hb8 : Below w7.heap.size w7 W8 := by rw [hW8]; exact (Below.refl _ _).alloc (Nat.le_refl _) _
    have hsz8 : W8.heap.size = w7.heap.size + 1 := by rw [hW8]; simp
    have hs67 := hb7.size
    have HB8 : Hid (Below w.heap.size w W8) := HB6.out.trans ((hb7.trans (hb8.mono hs67)).mono (by omega))
    have HX8 : Hid (Bx3 w.heap.size (some ⟨b, o, none⟩) za la n c nz zc nl lc S T N Q l0 l1 l2 l3 W8) := (HX6.out.keep hb7).keep hb8
    have HL8 : Hid (W8.cell? ⟨w7.heap.size, 0, none⟩ = some (.slice (some ⟨g, 0, none⟩) n cap) ∧ W8.cell? ⟨w7.heap.size, 1, none⟩ = some (.slice none 0 0) ∧ W8.cell? ⟨w7.heap.size, 2, none⟩ = some (.slice none 0 0)) := by
      rw [hW8]; exact ⟨by go_simp, by go_simp, by go_simp⟩
    have HO8 : Hid (W8.ownsRow w6.heap.size 72 7 (.slice (some ⟨g, 0, none⟩) n cap) n (irow (wideF f wd 0) (n * 7))) := by
      rw [wideF_zero]; exact own_below hown hb8
    clear hown hb7 hb8 x0 x1 x2
    go_wp2_with fail
    rw [← hW8]
    clear hW8
    go_loopw [104] (fun vi wr => ∃ k : Nat, k ≤ n ∧ vi = .int .i64 k ∧ Hid (wr.ownsRow w6.heap.size 72 7 (.slice (some ⟨g, 0, none⟩) n cap) n (irow (wideF f wd k) (n * 7))) ∧ Hid (KpB g W8 wr)) (fun vi _ => n - (intOf vi).toNat)
    case atStart => exact ⟨0, by omega, rfl, HO8.out, KpB.refl _ _⟩
    case round =>
      obtain ⟨k, hk, rfl, HO, HK⟩ := hrel
      have hsr := HK.out.size
      have y0 : wr.cell? ⟨w7.heap.size, 0, none⟩ = some (.slice (some ⟨g, 0, none⟩) n cap) := (HK.out.cell (by omega) (by omega)).trans HL8.out.1
      by_cases hlt : k < n
      · have hv := itErr_ok (HV.out k hlt)
        have hRd : 0 ≤ f (k * 7 + 6) ∧ f (k * 7 + 6) ≤ 67108864 := ⟨hv.2.2.2.2.2.2.1, hv.2.2.2.2.2.2.2.1⟩
        clear hv
        have d0 : wr.cell? ⟨g, k * 7, none⟩ = some (.int .i64 (f (k * 7))) := (World.ownsRow.cellAt HO.out (k * 7 + 0) (by omega)).trans (by rw [irow_at _ (by omega), wideF_at]; rfl)
        have d1 : wr.cell? ⟨g, k * 7 + 1, none⟩ = some (.int .i64 (f (k * 7 + 1))) := (World.ownsRow.cellAt HO.out (k * 7 + 1) (by omega)).trans (by rw [irow_at _ (by omega), wideF_at])
        have d2 : wr.cell? ⟨g, k * 7 + 2, none⟩ = some (.int .i64 (f (k * 7 + 2))) := (World.ownsRow.cellAt HO.out (k * 7 + 2) (by omega)).trans (by rw [irow_at _ (by omega), wideF_at])
        have d3 : wr.cell? ⟨g, k * 7 + 3, none⟩ = some (.int .i64 (f (k * 7 + 3))) := (World.ownsRow.cellAt HO.out (k * 7 + 3) (by omega)).trans (by rw [irow_at _ (by omega), wideF_at])
        have d4 : wr.cell? ⟨g, k * 7 + 4, none⟩ = some (.int .i64 (f (k * 7 + 4))) := (World.ownsRow.cellAt HO.out (k * 7 + 4) (by omega)).trans (by rw [irow_at _ (by omega), wideF_at])
        have d5 : wr.cell? ⟨g, k * 7 + 5, none⟩ = some (.int .i64 (f (k * 7 + 5))) := (World.ownsRow.cellAt HO.out (k * 7 + 5) (by omega)).trans (by rw [irow_at _ (by omega), wideF_at])
        have d6 : wr.cell? ⟨g, k * 7 + 6, none⟩ = some (.int .i64 (f (k * 7 + 6))) := (World.ownsRow.cellAt HO.out (k * 7 + 6) (by omega)).trans (by rw [irow_at _ (by omega), wideF_at])
        have hfr : wr.frozen? ⟨g, k * 7 + 6, none⟩ = false := World.ownsRow.frozenAt HO.out _
        have hlg : g < wr.heap.size := by omega
        have hl7 : w7.heap.size < wr.heap.size := by omega
        by_cases hb : f (k * 7) = 1
        · have hst := (HO.out.stored (k * 7 + 6) (.int .i64 (min 67108864 (f (k * 7 + 6) + wd)))).1
          rw [irow_set, wideF_bend f wd k (n * 7) hb] at hst
          have HST : Hid (((wr.setCell ⟨g, k * 7 + 6, none⟩ (.int .i64 (min 67108864 (f (k * 7 + 6) + wd)))).alloc (.cells #[.int .i64 (f (k * 7)), .int .i64 (f (k * 7 + 1)), .int .i64 (f (k * 7 + 2)), .int .i64 (f (k * 7 + 3)), .int .i64 (f (k * 7 + 4)), .int .i64 (f (k * 7 + 5)), .int .i64 (f (k * 7 + 6))] 72)).ownsRow w6.heap.size 72 7 (.slice (some ⟨g, 0, none⟩) n cap) n (irow (wideF f wd (k + 1)) (n * 7))) := hst.alloc _
          have HKS : Hid (KpB g W8 ((wr.setCell ⟨g, k * 7 + 6, none⟩ (.int .i64 (min 67108864 (f (k * 7 + 6) + wd)))).alloc (.cells #[.int .i64 (f (k * 7)), .int .i64 (f (k * 7 + 1)), .int .i64 (f (k * 7 + 2)), .int .i64 (f (k * 7 + 3)), .int .i64 (f (k * 7 + 4)), .int .i64 (f (k * 7 + 5)), .int .i64 (f (k * 7 + 6))] 72))) := (HK.out.set _ _).alloc _
          have e2 : (f (k * 7) == 1) = true := by simpa using hb
          clear hst hb
          go_wp2_with fail
          exact ⟨⟨k + 1, by omega, by go_num, HST, HKS⟩, by simp [intOf]; omega⟩
        · have e2 : (f (k * 7) == 1) = false := by simpa using hb
          have HO2 : Hid ((wr.alloc (.cells #[.int .i64 (f (k * 7)), .int .i64 (f (k * 7 + 1)), .int .i64 (f (k * 7 + 2)), .int .i64 (f (k * 7 + 3)), .int .i64 (f (k * 7 + 4)), .int .i64 (f (k * 7 + 5)), .int .i64 (f (k * 7 + 6))] 72)).ownsRow w6.heap.size 72 7 (.slice (some ⟨g, 0, none⟩) n cap) n (irow (wideF f wd (k + 1)) (n * 7))) := by
            rw [← wideF_other f wd k (n * 7) hb]; exact HO.out.alloc _
          clear hb
          go_wp2_with fail
          exact ⟨⟨k + 1, by omega, by go_num, HO2, HK.out.alloc _⟩, by simp [intOf]; omega⟩
      · obtain rfl : k = n := by omega
        obtain ⟨a9, c9, e9, _, hS9, _⟩ := own_sl (f := wide1 f wd) (by have := HO.out; rw [wideF_all] at this; exact this)
        cases e9
        have hC := HP3.out wr g cap hS9
        have HC := Lib.hid hC
        have y1 : wr.cell? ⟨w7.heap.size, 1, none⟩ = some (.slice none 0 0) := (HK.out.cell (by omega) (by omega)).trans HL8.out.2.1
        have y2 : wr.cell? ⟨w7.heap.size, 2, none⟩ = some (.slice none 0 0) := (HK.out.cell (by omega) (by omega)).trans HL8.out.2.2
        have hx : ∀ q v, W8.cell? ⟨w.heap.size + 1, q, none⟩ = some v → wr.cell? ⟨w.heap.size + 1, q, none⟩ = some v := fun q v h => (HK.out.cell (by omega) (by omega)).trans h
        have t0 := hx _ _ HX8.out.2.1.1
        have t1 := hx _ _ HX8.out.2.1.2.1
        have t2 := hx _ _ HX8.out.2.1.2.2.1
        have t3 := hx _ _ HX8.out.2.1.2.2.2
        have HB9 : Hid (Below w.heap.size w wr) := HB8.out.trans (HK.out.below (by omega) (by omega))
        clear hS9 hC hx
        go_wp2_with fail
        refine HC.out.mono ?_
        rintro e' w9 ⟨hb9, ⟨h0, _⟩ | ⟨_, h0, _⟩ | ⟨_, _, rfl⟩⟩
        · exact absurd rfl h0
        · cases h0
        have HB10 : Hid (Below w.heap.size w w9) := HB9.out.trans (hb9.mono HB9.out.size)
        have hm := HM1.out
        clear hb9 t0 t1 t2 t3 y0 y1 y2
        rcases hm with ⟨hm1, rfl⟩ | ⟨hm1, rfl⟩ | ⟨hm1, hm2⟩
        all_goals first
          | (exfalso; omega)
          | (go_wp2
             go_ret
             exact ⟨rfl, HB10.out⟩)
end Go.Proofs.YtbpifllkimkokaaDoor
