/-
  WALKS: LinePasses, the whole statement.
-/
import Derived.Test.YtbpifllkimkokaaDoorLnI
import Derived.Test.YtbpifllkimkokaaDoorLnN
import Derived.Test.YtbpifllkimkokaaDoorLnU
namespace Go.Proofs.YtbpifllkimkokaaDoor
open Go.RowKit

set_option maxRecDepth 100000 in
set_option maxHeartbeats 3200000 in
theorem passesLaw_no (w : World) (a za la : Option Addr) (n c nz zc nl lc : Nat) (f z m : Nat → Int) (S T N Q : Int) (h : 70 < n ∨ 70 < nz ∨ 70 < nl) (hc : n ≤ maxLen ∧ nz ≤ maxLen ∧ nl ≤ maxLen) (hG : Glob w) :
    Calls Tryd.prog 5 #[.agg #[.slice a n c, .slice za nz zc, .slice la nl lc], .agg #[.int .i64 S, .int .i64 T, .int .i64 N, .int .i64 Q]] w fun e w' => e = .returned (.bool true) ∧ Below w.heap.size w w' := by
  have HM : Hid (∀ w', Calls Tryd.prog 12 #[.agg #[.slice a n c, .slice za nz zc, .slice la nl lc]] w' (MdP false n nz nl f z m w')) := fun w' => model_no w' a za la n c nz zc nl lc f z m h hc
  have HA : Hid (∀ w', Below w.heap.size w w' → Calls Tryd.prog 13 #[] w' fun e w2 => e = .returned (.bool true) ∧ Below w'.heap.size w' w2) := fun w' hb => awake_of w' (hG.keep hb)
  clear h hc hG
  go_enter Tryd.func5, Tryd.ntmps5
  go_wp2_with fail
  obtain ⟨W, hW⟩ : ∃ W, W = (w.alloc (.cells #[.slice a n c, .slice za nz zc, .slice la nl lc] 26)).alloc (.cells #[.int .i64 S, .int .i64 T, .int .i64 N, .int .i64 Q] 63) := ⟨_, rfl⟩
  have hBW : Hid (Below w.heap.size w W) := by rw [hW]; exact ((Below.refl _ _).alloc (Nat.le_refl _) _).alloc (by simp) _
  rw [← hW]
  clear hW
  refine (HM.out W).mono ?_
  rintro e' w2 ⟨hb2, ⟨_, rfl⟩ | ⟨h0, _⟩⟩
  · have HB2 : Hid (Below w.heap.size w w2) := hBW.out.trans (hb2.mono hBW.out.size)
    have hA2 := HA.out (w2.alloc (.cells #[.slice none 0 0, .slice none 0 0, .slice none 0 0] 31)) (HB2.out.alloc HB2.out.size _)
    have HA2 := Lib.hid hA2
    clear hb2 hA2
    go_wp2_with fail
    refine HA2.out.mono ?_
    rintro e' w3 ⟨rfl, hb3⟩
    have HB3 : Hid (Below w.heap.size w w3) := (HB2.out.alloc HB2.out.size _).trans (hb3.mono (by have := HB2.out.size; simp; omega))
    clear hb3 HA2
    go_wp2_with fail
    refine (HA.out w3 HB3.out).mono ?_
    rintro e' w4 ⟨rfl, hb4⟩
    have HB4 : Hid (Below w.heap.size w w4) := HB3.out.trans (hb4.mono HB3.out.size)
    clear hb4
    go_wp2
    go_ret
    exact ⟨rfl, HB4.out⟩
  · cases h0

set_option maxRecDepth 100000 in
set_option maxHeartbeats 3200000 in
theorem passesLaw_yes (w : World) (a za la : Option Addr) (n c nz zc nl lc : Nat) (f z m : Nat → Int) (S T N Q : Int) (h : n ≤ 70 ∧ nz ≤ 70 ∧ nl ≤ 70) (hS : Sl w 7 a n f) (hZ : Sl w 3 za nz z) (hL : Sl w 2 la nl m) (hG : Glob w) :
    Calls Tryd.prog 5 #[.agg #[.slice a n c, .slice za nz zc, .slice la nl lc], .agg #[.int .i64 S, .int .i64 T, .int .i64 N, .int .i64 Q]] w fun e w' => e = .returned (.bool true) ∧ Below w.heap.size w w' := by
  have HM : Hid (∀ w', Below w.heap.size w w' → Calls Tryd.prog 12 #[.agg #[.slice a n c, .slice za nz zc, .slice la nl lc]] w' (MdP true n nz nl f z m w')) := fun w' hb => model_yes w' a za la n c nz zc nl lc f z m h (hS.keep (by omega) hb) (hZ.keep (by omega) hb) (hL.keep (by omega) hb)
  have HA : Hid (∀ w', Below w.heap.size w w' → Calls Tryd.prog 13 #[] w' fun e w2 => e = .returned (.bool true) ∧ Below w'.heap.size w' w2) := fun w' hb => awake_of w' (hG.keep hb)
  have HP : Hid (∀ w', Below w.heap.size w w' → Calls Tryd.prog 34 #[.agg #[.slice a n c, .slice za nz zc, .slice la nl lc], .agg #[.int .i64 S, .int .i64 T, .int .i64 N, .int .i64 Q]] w' (PsP (chk n nz nl f z m) (tOk S T N Q) (firstNot (psAt f S T N Q) n) w')) :=
    fun w' hb => lpasses_of w' a za la n c nz zc nl lc f z m S T N Q (hS.keep (by omega) hb) (hZ.keep (by omega) hb) (hL.keep (by omega) hb)
  have HCK : Hid (∀ w' a' c' za' zc' la' lc', Sl w' 7 a' n f → Sl w' 3 za' nz z → Sl w' 2 la' nl m → Calls Tryd.prog 19 #[.agg #[.slice a' n c', .slice za' nz zc', .slice la' nl lc']] w' fun e w2 => e = .returned (.int .i64 (chk n nz nl f z m)) ∧ Below w'.heap.size w' w2) :=
    fun w' a' c' za' zc' la' lc' h1 h2 h3 => rcheck_of w' a' za' la' n c' nz zc' nl lc' f z m h1 h2 h3
  have HR : Hid (∀ w' a' c' za' zc' la' lc', Sl w' 7 a' n f → chk n nz nl f z m = 0 → Calls Tryd.prog 35 #[.agg #[.slice a' n c', .slice za' nz zc', .slice la' nl lc'], .agg #[.int .i64 S, .int .i64 T, .int .i64 N, .int .i64 Q]] w' (PsP (chk n nz nl f z m) (tOk S T N Q) (firstNot (psAt f S T N Q) n) w')) :=
    fun w' a' c' za' zc' la' lc' h1 h2 => rpassesAll_of w' a' za' la' n c' nz zc' nl lc' f z m S T N Q h1 h2
  clear h hG hS hZ hL
  generalize chk n nz nl f z m = E at HP HCK HR
  generalize tOk S T N Q = B at HP HR
  generalize firstNot (psAt f S T N Q) n = k at HP HR
  go_enter Tryd.func5, Tryd.ntmps5
  go_wp2_with fail
  obtain ⟨W, hW⟩ : ∃ W, W = (w.alloc (.cells #[.slice a n c, .slice za nz zc, .slice la nl lc] 26)).alloc (.cells #[.int .i64 S, .int .i64 T, .int .i64 N, .int .i64 Q] 63) := ⟨_, rfl⟩
  have hBW : Hid (Below w.heap.size w W) := by rw [hW]; exact ((Below.refl _ _).alloc (Nat.le_refl _) _).alloc (by simp) _
  have hsz : W.heap.size = w.heap.size + 2 := by rw [hW]; simp
  have HX : Hid ((W.cell? ⟨w.heap.size, 0, none⟩ = some (.slice a n c) ∧ W.cell? ⟨w.heap.size, 1, none⟩ = some (.slice za nz zc) ∧ W.cell? ⟨w.heap.size, 2, none⟩ = some (.slice la nl lc)) ∧
      (W.cell? ⟨w.heap.size + 1, 0, none⟩ = some (.int .i64 S) ∧ W.cell? ⟨w.heap.size + 1, 1, none⟩ = some (.int .i64 T) ∧ W.cell? ⟨w.heap.size + 1, 2, none⟩ = some (.int .i64 N) ∧ W.cell? ⟨w.heap.size + 1, 3, none⟩ = some (.int .i64 Q))) := by
    rw [hW]; exact ⟨⟨by go_simp, by go_simp, by go_simp⟩, ⟨by go_simp, by go_simp, by go_simp, by go_simp⟩⟩
  rw [← hW]
  clear hW
  refine (HM.out W hBW.out).mono ?_
  rintro e' w2 ⟨hb2, ⟨h0, _⟩ | ⟨_, a', c', za', zc', la', lc', rfl, hS2, hZ2, hL2⟩⟩
  · cases h0
  obtain ⟨W2, hW2⟩ : ∃ W2, W2 = w2.alloc (.cells #[.slice a' n c', .slice za' nz zc', .slice la' nl lc'] 31) := ⟨_, rfl⟩
  have hbA : Below w2.heap.size w2 W2 := by rw [hW2]; exact (Below.refl _ _).alloc (Nat.le_refl _) _
  have hszA : W2.heap.size = w2.heap.size + 1 := by rw [hW2]; simp
  have hs2 := hb2.size
  have HB2 : Hid (Below w.heap.size w W2) := hBW.out.trans ((hb2.trans (hbA.mono hs2)).mono (by omega))
  have HBX : Hid (Below W.heap.size W W2) := hb2.trans (hbA.mono hs2)
  have HS2 : Hid (Sl W2 7 a' n f ∧ Sl W2 3 za' nz z ∧ Sl W2 2 la' nl m) := ⟨hS2.keep (by omega) hbA, hZ2.keep (by omega) hbA, hL2.keep (by omega) hbA⟩
  have HY : Hid (W2.cell? ⟨w2.heap.size, 0, none⟩ = some (.slice a' n c') ∧ W2.cell? ⟨w2.heap.size, 1, none⟩ = some (.slice za' nz zc') ∧ W2.cell? ⟨w2.heap.size, 2, none⟩ = some (.slice la' nl lc')) := by
    rw [hW2]; exact ⟨by go_simp, by go_simp, by go_simp⟩
  clear hb2 hbA hS2 hZ2 hL2
  go_wp2_with fail
  rw [← hW2]
  clear hW2
  refine (HA.out W2 HB2.out).mono ?_
  rintro e' w3 ⟨rfl, hb3⟩
  have hs3 := hb3.size
  have HB3 : Hid (Below w.heap.size w w3) := HB2.out.trans (hb3.mono (by omega))
  have HB23 : Hid (Below W2.heap.size W2 w3) := hb3
  obtain ⟨x0, x1, x2⟩ := three_keep HX.out.1 (HBX.out.trans (hb3.mono (by omega)))
  have hx : ∀ o v, W.cell? ⟨w.heap.size + 1, o, none⟩ = some v → w3.cell? ⟨w.heap.size + 1, o, none⟩ = some v := fun o v h => ((HBX.out.trans (hb3.mono (by omega))).cell (p := ⟨w.heap.size + 1, o, none⟩) (by show w.heap.size + 1 < W.heap.size; omega)).trans h
  have t0 := hx _ _ HX.out.2.1
  have t1 := hx _ _ HX.out.2.2.1
  have t2 := hx _ _ HX.out.2.2.2.1
  have t3 := hx _ _ HX.out.2.2.2.2
  clear hb3 hx
  go_wp2_with fail
  refine (HP.out w3 HB3.out).mono ?_
  rintro e' w4 ⟨hb4, hres⟩
  have hs4 := hb4.size
  have HB24 : Hid (Below W2.heap.size W2 w4) := HB23.out.trans (hb4.mono hs3)
  have HB4 : Hid (Below w.heap.size w w4) := HB3.out.trans (hb4.mono HB3.out.size)
  obtain ⟨y0, y1, y2⟩ := three_keep HY.out HB24.out
  have hCk := HCK.out w4 a' c' za' zc' la' lc' (HS2.out.1.keep (by omega) HB24.out) (HS2.out.2.1.keep (by omega) HB24.out) (HS2.out.2.2.keep (by omega) HB24.out)
  have HCk := Lib.hid hCk
  have HT4 : Hid ((w4.cell? ⟨w.heap.size + 1, 0, none⟩ = some (.int .i64 S) ∧ w4.cell? ⟨w.heap.size + 1, 1, none⟩ = some (.int .i64 T) ∧ w4.cell? ⟨w.heap.size + 1, 2, none⟩ = some (.int .i64 N) ∧ w4.cell? ⟨w.heap.size + 1, 3, none⟩ = some (.int .i64 Q))) := by
    have hx : ∀ o v, w3.cell? ⟨w.heap.size + 1, o, none⟩ = some v → w4.cell? ⟨w.heap.size + 1, o, none⟩ = some v := fun o v h => (hb4.cell (p := ⟨w.heap.size + 1, o, none⟩) (by show w.heap.size + 1 < w3.heap.size; omega)).trans h
    exact ⟨hx _ _ t0, hx _ _ t1, hx _ _ t2, hx _ _ t3⟩
  clear hb4 hCk x0 x1 x2 t0 t1 t2 t3
  rcases hres with ⟨hE, rfl⟩ | ⟨rfl, rfl, rfl⟩ | ⟨rfl, rfl, rfl⟩
  · have e2 : (E == 0) = false := by simpa using hE
    have e3 : (E != 0) = true := by simpa using hE
    clear hE
    go_wp2_with fail
    refine HCk.out.mono ?_
    rintro e' w5 ⟨rfl, hb5⟩
    have HB5 : Hid (Below w.heap.size w w5) := HB4.out.trans (hb5.mono HB4.out.size)
    clear hb5
    go_wp2
    go_ret
    exact ⟨by simp, HB5.out⟩
  all_goals
    go_wp2_with fail
    refine HCk.out.mono ?_
    rintro e' w5 ⟨rfl, hb5⟩
    have hs5 := hb5.size
    have HB5 : Hid (Below w.heap.size w w5) := HB4.out.trans (hb5.mono HB4.out.size)
    have HB25 : Hid (Below W2.heap.size W2 w5) := HB24.out.trans (hb5.mono HB24.out.size)
    obtain ⟨u0, u1, u2⟩ := three_keep HY.out HB25.out
    have hx : ∀ o v, w4.cell? ⟨w.heap.size + 1, o, none⟩ = some v → w5.cell? ⟨w.heap.size + 1, o, none⟩ = some v := fun o v h => (hb5.cell (p := ⟨w.heap.size + 1, o, none⟩) (by show w.heap.size + 1 < w4.heap.size; omega)).trans h
    have t0 := hx _ _ HT4.out.1
    have t1 := hx _ _ HT4.out.2.1
    have t2 := hx _ _ HT4.out.2.2.1
    have t3 := hx _ _ HT4.out.2.2.2
    have hRp := HR.out w5 a' c' za' zc' la' lc' (HS2.out.1.keep (by omega) HB25.out) (by trivial)
    have HRp := Lib.hid hRp
    clear hb5 hx hRp y0 y1 y2
    go_wp2_with fail
    refine HRp.out.mono ?_
    rintro e' w6 ⟨hb6, ⟨hE, _⟩ | ⟨_, hB, rfl⟩ | ⟨_, hB, rfl⟩⟩
    · exact absurd rfl hE
    all_goals first
      | (cases hB; done)
      | (have HB6 : Hid (Below w.heap.size w w6) := HB5.out.trans (hb6.mono HB5.out.size)
         clear hb6 t0 t1 t2 t3 u0 u1 u2
         go_wp2
         go_ret
         exact ⟨by simp, HB6.out⟩)
end Go.Proofs.YtbpifllkimkokaaDoor
