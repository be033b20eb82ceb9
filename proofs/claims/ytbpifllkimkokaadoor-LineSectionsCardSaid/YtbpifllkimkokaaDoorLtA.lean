/-
  WALKS: whether a line is right for the statements without the reference.
-/
import Derived.Test.YtbpifllkimkokaaDoorLnI
import Derived.Test.YtbpifllkimkokaaDoorLnN
import Derived.Test.YtbpifllkimkokaaDoorLnP
namespace Go.Proofs.YtbpifllkimkokaaDoor
open Go.RowKit

set_option maxRecDepth 100000 in
set_option maxHeartbeats 3200000 in
theorem right_far (w : World) (a za la : Option Addr) (n c nz zc nl lc : Nat) (f z m : Nat → Int) (h : 70 < n ∨ 70 < nz ∨ 70 < nl) (hc : n ≤ maxLen ∧ nz ≤ maxLen ∧ nl ≤ maxLen) :
    Calls Tryd.prog 36 #[.agg #[.slice a n c, .slice za nz zc, .slice la nl lc]] w fun e w' => e = .returned (.bool false) ∧ Below w.heap.size w w' := by
  have HM : Hid (∀ w', Calls Tryd.prog 12 #[.agg #[.slice a n c, .slice za nz zc, .slice la nl lc]] w' (MdP false n nz nl f z m w')) := fun w' => model_no w' a za la n c nz zc nl lc f z m h hc
  clear h hc
  go_enter Tryd.func36, Tryd.ntmps36
  go_wp2_with fail
  obtain ⟨W, hW⟩ : ∃ W, W = w.alloc (.cells #[.slice a n c, .slice za nz zc, .slice la nl lc] 26) := ⟨_, rfl⟩
  have hBW : Hid (Below w.heap.size w W) := by rw [hW]; exact (Below.refl _ _).alloc (Nat.le_refl _) _
  rw [← hW]
  clear hW
  refine (HM.out W).mono ?_
  rintro e' w2 ⟨hb2, ⟨_, rfl⟩ | ⟨h0, _⟩⟩
  · have HB2 : Hid (Below w.heap.size w w2) := hBW.out.trans (hb2.mono hBW.out.size)
    clear hb2
    go_wp2
    go_ret
    exact ⟨rfl, HB2.out.alloc HB2.out.size _⟩
  · cases h0

set_option maxRecDepth 100000 in
set_option maxHeartbeats 3200000 in
theorem right_near (w : World) (a za la : Option Addr) (n c nz zc nl lc : Nat) (f z m : Nat → Int) (h : n ≤ 70 ∧ nz ≤ 70 ∧ nl ≤ 70) (hS : Sl w 7 a n f) (hZ : Sl w 3 za nz z) (hL : Sl w 2 la nl m) :
    Calls Tryd.prog 36 #[.agg #[.slice a n c, .slice za nz zc, .slice la nl lc]] w fun e w' => e = .returned (.bool (decide ((n ≤ 12 ∧ nz ≤ 12 ∧ nl ≤ 12) ∧ chk n nz nl f z m = 0))) ∧ Below w.heap.size w w' := by
  have HM : Hid (∀ w', Below w.heap.size w w' → Calls Tryd.prog 12 #[.agg #[.slice a n c, .slice za nz zc, .slice la nl lc]] w' (MdP true n nz nl f z m w')) := fun w' hb => model_yes w' a za la n c nz zc nl lc f z m h (hS.keep (by omega) hb) (hZ.keep (by omega) hb) (hL.keep (by omega) hb)
  have HCK : Hid (∀ w' a' c' za' zc' la' lc', Sl w' 7 a' n f → Sl w' 3 za' nz z → Sl w' 2 la' nl m → Calls Tryd.prog 19 #[.agg #[.slice a' n c', .slice za' nz zc', .slice la' nl lc']] w' fun e w2 => e = .returned (.int .i64 (chk n nz nl f z m)) ∧ Below w'.heap.size w' w2) :=
    fun w' a' c' za' zc' la' lc' h1 h2 h3 => rcheck_of w' a' za' la' n c' nz zc' nl lc' f z m h1 h2 h3
  clear hS hZ hL
  generalize chk n nz nl f z m = E at HCK ⊢
  have hw : (12 < n) ∨ (n ≤ 12 ∧ 12 < nz) ∨ (n ≤ 12 ∧ nz ≤ 12 ∧ 12 < nl) ∨ (n ≤ 12 ∧ nz ≤ 12 ∧ nl ≤ 12 ∧ E = 0) ∨ (n ≤ 12 ∧ nz ≤ 12 ∧ nl ≤ 12 ∧ E ≠ 0) := by omega
  obtain ⟨B, hB⟩ : ∃ B, B = decide ((n ≤ 12 ∧ nz ≤ 12 ∧ nl ≤ 12) ∧ E = 0) := ⟨_, rfl⟩
  rw [← hB]
  have hBv : (12 < n ∧ B = false) ∨ (n ≤ 12 ∧ 12 < nz ∧ B = false) ∨ (n ≤ 12 ∧ nz ≤ 12 ∧ 12 < nl ∧ B = false) ∨ (n ≤ 12 ∧ nz ≤ 12 ∧ nl ≤ 12 ∧ E = 0 ∧ B = true) ∨ (n ≤ 12 ∧ nz ≤ 12 ∧ nl ≤ 12 ∧ E ≠ 0 ∧ B = false) := by
    rcases hw with h0 | ⟨h0, h1⟩ | ⟨h0, h1, h2⟩ | ⟨h0, h1, h2, h3⟩ | ⟨h0, h1, h2, h3⟩
    · exact .inl ⟨h0, by rw [hB, decide_eq_false_iff_not]; omega⟩
    · exact .inr (.inl ⟨h0, h1, by rw [hB, decide_eq_false_iff_not]; omega⟩)
    · exact .inr (.inr (.inl ⟨h0, h1, h2, by rw [hB, decide_eq_false_iff_not]; omega⟩))
    · exact .inr (.inr (.inr (.inl ⟨h0, h1, h2, h3, by rw [hB, decide_eq_true_iff]; omega⟩)))
    · exact .inr (.inr (.inr (.inr ⟨h0, h1, h2, h3, by rw [hB, decide_eq_false_iff_not]; omega⟩)))
  clear hw hB
  go_enter Tryd.func36, Tryd.ntmps36
  go_wp2_with fail
  obtain ⟨W, hW⟩ : ∃ W, W = w.alloc (.cells #[.slice a n c, .slice za nz zc, .slice la nl lc] 26) := ⟨_, rfl⟩
  have hBW : Hid (Below w.heap.size w W) := by rw [hW]; exact (Below.refl _ _).alloc (Nat.le_refl _) _
  have hsz : W.heap.size = w.heap.size + 1 := by rw [hW]; simp
  have HX : Hid (W.cell? ⟨w.heap.size, 0, none⟩ = some (.slice a n c) ∧ W.cell? ⟨w.heap.size, 1, none⟩ = some (.slice za nz zc) ∧ W.cell? ⟨w.heap.size, 2, none⟩ = some (.slice la nl lc)) := by
    rw [hW]; exact ⟨by go_simp, by go_simp, by go_simp⟩
  rw [← hW]
  clear hW
  refine (HM.out W hBW.out).mono ?_
  rintro e' w2 ⟨hb2, ⟨h0, _⟩ | ⟨_, a', c', za', zc', la', lc', rfl, hS2, hZ2, hL2⟩⟩
  · cases h0
  obtain ⟨W2, hW2⟩ : ∃ W2, W2 = w2.alloc (.cells #[.slice a' n c', .slice za' nz zc', .slice la' nl lc'] 31) := ⟨_, rfl⟩
  have hbA : Below w2.heap.size w2 W2 := by rw [hW2]; exact (Below.refl _ _).alloc (Nat.le_refl _) _
  have hs2 := hb2.size
  have HB2 : Hid (Below w.heap.size w W2) := hBW.out.trans ((hb2.trans (hbA.mono hs2)).mono (by omega))
  obtain ⟨x0, x1, x2⟩ := three_keep HX.out hb2
  have HW2 := Lib.hid hW2
  have hC := HCK.out W2 a' c' za' zc' la' lc' (hS2.keep (by omega) hbA) (hZ2.keep (by omega) hbA) (hL2.keep (by omega) hbA)
  have HC := Lib.hid hC
  have hlt0 : w.heap.size < w2.heap.size := by omega
  clear hb2 hbA hS2 hZ2 hL2 hC hW2
  rcases hBv with ⟨h0, rfl⟩ | ⟨h0, h1, rfl⟩ | ⟨h0, h1, h2, rfl⟩ | ⟨h0, h1, h2, rfl, rfl⟩ | ⟨h0, h1, h2, h3, rfl⟩
  all_goals (try have e2 : (E == 0) = false := by simpa using h3)
  all_goals
    go_wp2_with fail
  all_goals first
    | (rw [← HW2.out]
       refine HC.out.mono ?_
       rintro e' w5 ⟨rfl, hb5⟩
       have HB5 : Hid (Below w.heap.size w w5) := HB2.out.trans (hb5.mono HB2.out.size)
       clear hb5
       go_wp2
       go_ret
       exact ⟨rfl, HB5.out⟩)
    | (rw [← HW2.out]
       go_ret
       exact ⟨rfl, HB2.out⟩)
end Go.Proofs.YtbpifllkimkokaaDoor
