/-
  WALKS: Sections; LineParts.
-/
import Derived.Test.YtbpifllkimkokaaDoorLqF
import Derived.Test.YtbpifllkimkokaaDoorLoE
import Derived.Test.YtbpifllkimkokaaDoorLtA
import Derived.Test.YtbpifllkimkokaaDoorShelf2
namespace Go.Proofs.YtbpifllkimkokaaDoor
open Go.RowKit

theorem sortC : SortC := fun blk off cap zs w h1 h2 h3 => Tryd.slices_Sort_int blk off cap zs w h1 h2 h3
theorem compactC : CompactC := fun blk off cap zs w h1 h2 h3 => Tryd.slices_Compact_int blk off cap zs w h1 h2 h3

/-- What Sections hands back: E: the line's error. -/
def SeP (E : Int) (S : List Sec) (w : World) (e : Ending) (w' : World) : Prop :=
  Below w.heap.size w w' ∧ ((E ≠ 0 ∧ e = .returned (.tuple #[.slice none 0 0, .int .i64 E])) ∨ (E = 0 ∧ ∃ v, e = .returned (.tuple #[v, .int .i64 0]) ∧ RowS w' w.heap.size v S))

set_option maxRecDepth 8000 in
set_option maxHeartbeats 3200000 in
theorem sections_of (w : World) (a za la : Option Addr) (n c nz zc nl lc : Nat) (f z m : Nat → Int) (hS : Sl w 7 a n f) (hZ : Sl w 3 za nz z) (hL : Sl w 2 la nl m) :
    Calls Tryd.prog 28 #[.agg #[.slice a n c, .slice za nz zc, .slice la nl lc]] w (SeP (chk n nz nl f z m) (secsOf f z m n nz nl) w) := by
  have HCK : Hid (∀ w', Below w.heap.size w w' → Calls Tryd.prog 56 #[.agg #[.slice a n c, .slice za nz zc, .slice la nl lc]] w' fun e' w2 => e' = .returned (.int .i64 (chk n nz nl f z m)) ∧ Below w'.heap.size w' w2) :=
    fun w' hb => check_of w' a za la n c nz zc nl lc f z m (hS.keep (by omega) hb) (hZ.keep (by omega) hb) (hL.keep (by omega) hb)
  have HSO : Hid (chk n nz nl f z m = 0 → ∀ w', Below w.heap.size w w' → Calls Tryd.prog 71 #[.agg #[.slice a n c, .slice za nz zc, .slice la nl lc]] w' fun e w2 => (∃ v, e = .returned v ∧ RowS w2 w'.heap.size v (secsOf f z m n nz nl)) ∧ Below w'.heap.size w' w2) :=
    fun h w' hb => sectionsOf_of sortC compactC w' a za la n c nz zc nl lc f z m h (hS.keep (by omega) hb) (hZ.keep (by omega) hb) (hL.keep (by omega) hb)
  clear hS hZ hL
  generalize chk n nz nl f z m = E at HCK HSO ⊢
  obtain ⟨W, hW⟩ : ∃ W, W = w.alloc (.cells #[.slice a n c, .slice za nz zc, .slice la nl lc] 26) := ⟨_, rfl⟩
  have hBW : Hid (Below w.heap.size w W) := by rw [hW]; exact (Below.refl _ _).alloc (Nat.le_refl _) _
  have HX : Hid (W.cell? ⟨w.heap.size, 0, none⟩ = some (.slice a n c) ∧ W.cell? ⟨w.heap.size, 1, none⟩ = some (.slice za nz zc) ∧ W.cell? ⟨w.heap.size, 2, none⟩ = some (.slice la nl lc)) := by
    rw [hW]; exact ⟨by go_simp, by go_simp, by go_simp⟩
  have HW := Lib.hid hW
  clear hW
  go_enter Tryd.func28, Tryd.ntmps28
  go_wp2_with fail
  rw [← HW.out]
  refine (HCK.out W hBW.out).mono ?_
  rintro e' w2 ⟨rfl, hb2⟩
  have HB2 : Hid (Below w.heap.size w w2) := hBW.out.trans (hb2.mono hBW.out.size)
  obtain ⟨x0, x1, x2⟩ := three_keep HX.out hb2
  clear hb2
  by_cases hE : E = 0
  · subst hE
    have HS2 := HSO.out rfl
    have HS2 := Lib.hid HS2
    go_wp2_with fail
    refine (HS2.out w2 HB2.out).mono ?_
    rintro e' w3 ⟨⟨v, rfl, hrow⟩, hb3⟩
    have HB3 : Hid (Below w.heap.size w w3) := HB2.out.trans (hb3.mono HB2.out.size)
    have HR := Lib.hid (hrow.base HB2.out.size)
    clear hb3 hrow x0 x1 x2
    go_wp2
    go_ret2
    exact ⟨HB3.out, .inr ⟨rfl, _, rfl, HR.out⟩⟩
  · have e2 : (E == 0) = false := by simpa using hE
    have e3 : (E != 0) = true := by simpa using hE
    have HE := Lib.hid hE
    clear hE x0 x1 x2
    go_wp2
    go_ret2
    exact ⟨HB2.out, .inl ⟨HE.out, rfl⟩⟩

set_option maxRecDepth 100000 in
set_option maxHeartbeats 3200000 in
theorem partsLaw_no (w : World) (a za la : Option Addr) (n c nz zc nl lc : Nat) (N : Int) (hG : Glob w)
    (hR : ∀ w', Below w.heap.size w w' → Calls Tryd.prog 36 #[.agg #[.slice a n c, .slice za nz zc, .slice la nl lc]] w' fun e w2 => e = .returned (.bool false) ∧ Below w'.heap.size w' w2) :
    Calls Tryd.prog 7 #[.agg #[.slice a n c, .slice za nz zc, .slice la nl lc], .int .u32 N] w fun e w' => e = .returned (.bool true) ∧ Below w.heap.size w w' := by
  have HR := Lib.hid hR
  have HA : Hid (∀ w', Below w.heap.size w w' → Calls Tryd.prog 13 #[] w' fun e w2 => e = .returned (.bool true) ∧ Below w'.heap.size w' w2) := fun w' hb => awake_of w' (hG.keep hb)
  clear hR hG
  go_enter Tryd.func7, Tryd.ntmps7
  go_wp2_with fail
  obtain ⟨W, hW⟩ : ∃ W, W = w.alloc (.cells #[.slice a n c, .slice za nz zc, .slice la nl lc] 26) := ⟨_, rfl⟩
  have hBW : Hid (Below w.heap.size w W) := by rw [hW]; exact (Below.refl _ _).alloc (Nat.le_refl _) _
  have HX : Hid (W.cell? ⟨w.heap.size, 0, none⟩ = some (.slice a n c) ∧ W.cell? ⟨w.heap.size, 1, none⟩ = some (.slice za nz zc) ∧ W.cell? ⟨w.heap.size, 2, none⟩ = some (.slice la nl lc)) := by
    rw [hW]; exact ⟨by go_simp, by go_simp, by go_simp⟩
  rw [← hW]
  clear hW
  refine (HA.out W hBW.out).mono ?_
  rintro e' w2 ⟨rfl, hb2⟩
  have HB2 : Hid (Below w.heap.size w w2) := hBW.out.trans (hb2.mono hBW.out.size)
  obtain ⟨x0, x1, x2⟩ := three_keep HX.out hb2
  clear hb2
  go_wp2_with fail
  refine (HR.out w2 HB2.out).mono ?_
  rintro e' w3 ⟨rfl, hb3⟩
  have HB3 : Hid (Below w.heap.size w w3) := HB2.out.trans (hb3.mono HB2.out.size)
  clear hb3 x0 x1 x2
  go_wp2_with fail
  refine (HA.out w3 HB3.out).mono ?_
  rintro e' w4 ⟨rfl, hb4⟩
  have HB4 : Hid (Below w.heap.size w w4) := HB3.out.trans (hb4.mono HB3.out.size)
  clear hb4
  go_wp2
  go_ret
  exact ⟨rfl, HB4.out⟩
end Go.Proofs.YtbpifllkimkokaaDoor
