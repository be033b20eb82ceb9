/-
  WALKS AND WORDS: LnG LnH LnI LnJ LnK of my texts, one behind the other.
-/
import Derived.Test.YtdibljidagiblaaDoorLnF
import Derived.Deep.RegionHeld3
import Derived.Deep.RegionWith
import Derived.StillTailTactics
import Derived.LoopN
-- LnG: WALKS: the error of a line, by the program; the end of a line by the reference.
namespace Go.Proofs.YtdibljidagiblaaDoor.Ln
open Go.RowKit

theorem chk_ways (n nz nl : Nat) (f z m : Nat → Int) (b : Bool) (hb : b = decide ((1 : Int) ≤ (n : Int) ∧ (n : Int) ≤ 64)) :
    (b = false ∧ chk n nz nl f z m = 4) ∨ (b = true ∧ 64 < nz ∧ chk n nz nl f z m = 4) ∨ (b = true ∧ nz ≤ 64 ∧ 64 < nl ∧ chk n nz nl f z m = 4) ∨
    (b = true ∧ nz ≤ 64 ∧ nl ≤ 64 ∧ n ≤ 64 ∧ 1 ≤ n ∧ chk n nz nl f z m = (if first (itAt f) n ≠ 0 then first (itAt f) n
      else if first (znAt z (endS f n)) nz ≠ 0 then first (znAt z (endS f n)) nz
      else first (lmAt m (endS f n)) nl)) := by
  by_cases h1 : 1 ≤ n ∧ n ≤ 64
  · have hb1 : b = true := by rw [hb]; simp only [decide_eq_true_iff]; omega
    by_cases h2 : 64 < nz
    · exact .inr (.inl ⟨hb1, h2, by unfold chk; rw [if_pos (by omega)]⟩)
    by_cases h3 : 64 < nl
    · exact .inr (.inr (.inl ⟨hb1, by omega, h3, by unfold chk; rw [if_pos (by omega)]⟩))
    · exact .inr (.inr (.inr ⟨hb1, by omega, by omega, by omega, by omega, by unfold chk; rw [if_neg (by omega)]⟩))
  · have hb1 : b = false := by rw [hb]; simp only [decide_eq_false_iff_not]; omega
    exact .inl ⟨hb1, by unfold chk; rw [if_pos (by omega)]⟩

set_option maxRecDepth 8000 in
set_option maxHeartbeats 3200000 in
theorem check_of (w : World) (a za la : Option Addr) (n c nz zc nl lc : Nat) (f z m : Nat → Int) (hS : Sl w 7 a n f) (hZ : Sl w 3 za nz z) (hL : Sl w 2 la nl m) :
    Calls Tryd.prog 92 #[.agg #[.slice a n c, .slice za nz zc, .slice la nl lc]] w fun e' w' => e' = .returned (.int .i64 (chk n nz nl f z m)) ∧ Below w.heap.size w w' := by
  obtain ⟨b1, h1⟩ : ∃ b : Bool, b = decide ((1 : Int) ≤ (n : Int) ∧ (n : Int) ≤ 64) := ⟨_, rfl⟩
  have HW := chk_ways n nz nl f z m b1 h1
  have H1 := Lib.hid h1
  have HS := Lib.hid hS
  have HZ := Lib.hid hZ
  have HL := Lib.hid hL
  clear h1 hS hZ hL
  generalize chk n nz nl f z m = E at HW ⊢
  rcases HW with ⟨rfl, rfl⟩ | ⟨rfl, h2, rfl⟩ | ⟨rfl, h2, h3, rfl⟩ | ⟨rfl, h2, h3, h4, h5, hE⟩
  · go_enter Tryd.func92, Tryd.ntmps92
    go_wp2_with (go_at_call 95; refine (betw _ _ _ _ _ (by first | exact H1.out)).mono ?_; rintro e' w' ⟨rfl, rfl⟩)
    go_ret
    exact ⟨rfl, (Below.refl _ _).alloc (Nat.le_refl _) _⟩
  · go_enter Tryd.func92, Tryd.ntmps92
    go_wp2_with (go_at_call 95; refine (betw _ _ _ _ _ (by first | exact H1.out)).mono ?_; rintro e' w' ⟨rfl, rfl⟩)
    go_ret
    exact ⟨rfl, (Below.refl _ _).alloc (Nat.le_refl _) _⟩
  · go_enter Tryd.func92, Tryd.ntmps92
    go_wp2_with (go_at_call 95; refine (betw _ _ _ _ _ (by first | exact H1.out)).mono ?_; rintro e' w' ⟨rfl, rfl⟩)
    go_ret
    exact ⟨rfl, (Below.refl _ _).alloc (Nat.le_refl _) _⟩
  · have HE := Lib.hid hE
    clear hE
    go_enter Tryd.func92, Tryd.ntmps92
    go_wp2_with (go_at_call 95; refine (betw _ _ _ _ _ (by first | exact H1.out)).mono ?_; rintro e' w' ⟨rfl, rfl⟩)
    obtain ⟨W, hW⟩ : ∃ W, W = w.alloc (.cells #[.slice a n c, .slice za nz zc, .slice la nl lc] 55) := ⟨_, rfl⟩
    have hBW : Hid (Below w.heap.size w W) := by rw [hW]; exact (Below.refl _ _).alloc (Nat.le_refl _) _
    have hsz : W.heap.size = w.heap.size + 1 := by rw [hW]; simp
    have x0 : W.cell? ⟨w.heap.size, 0, none⟩ = some (.slice a n c) := by rw [hW]; go_simp
    have x1 : W.cell? ⟨w.heap.size, 1, none⟩ = some (.slice za nz zc) := by rw [hW]; go_simp
    have x2 : W.cell? ⟨w.heap.size, 2, none⟩ = some (.slice la nl lc) := by rw [hW]; go_simp
    rw [← hW]
    clear hW
    go_loopw [28] (fun vi wr => ∃ i : Nat, i ≤ n ∧ vi = .int .i64 i ∧ Hid (∀ j, j < i → itAt f j = 0) ∧ Hid (Below W.heap.size W wr)) (fun vi _ => n - (intOf vi).toNat)
    case atStart => exact ⟨0, by omega, rfl, fun j hj => by omega, Below.refl _ _⟩
    case round =>
      obtain ⟨i, hi, rfl, HI, HB⟩ := hrel
      have HBW : Hid (Below w.heap.size w wr) := hBW.out.trans (HB.out.mono (by omega))
      by_cases hlt : i < n
      · obtain ⟨b, o, rfl, hI⟩ := HS.out (by omega)
        have hI2 := hI.keep HBW.out (hI.lt (by omega))
        have d0 := hI2 (i * 7) (by omega)
        have d1 := hI2.at (i * 7) 1 (by omega)
        have d2 := hI2.at (i * 7) 2 (by omega)
        have d3 := hI2.at (i * 7) 3 (by omega)
        have d4 := hI2.at (i * 7) 4 (by omega)
        have d5 := hI2.at (i * 7) 5 (by omega)
        have d6 := hI2.at (i * 7) 6 (by omega)
        clear hI hI2
        go_wp2_with fail
        refine (item_err _ _ _ _ _ _ _ _).mono ?_
        rintro e' w2 ⟨rfl, hb2⟩
        rw [show itErr (f (i * 7)) (f (i * 7 + 1)) (f (i * 7 + 2)) (f (i * 7 + 3)) (f (i * 7 + 4)) (f (i * 7 + 5)) (f (i * 7 + 6)) = itAt f i from rfl]
        have HB2 : Hid (Below W.heap.size W w2) := (HB.out.alloc HB.out.size _).trans (hb2.mono (by have := HB.out.size; simp; omega))
        clear hb2
        by_cases he : itAt f i = 0
        · rw [he]
          have HI2 : Hid (∀ j, j < i + 1 → itAt f j = 0) := fun j hj => by
            by_cases ej : j = i
            · subst ej; exact he
            · exact HI.out j (by omega)
          clear he
          go_wp2
          exact ⟨⟨i + 1, by omega, by go_num, HI2, HB2⟩, by simp [intOf]; omega⟩
        · have hF : first (itAt f) n = itAt f i := first_at HI.out he hlt
          have hE : E = itAt f i := by rw [HE.out, hF, if_pos he]
          have he2 : ((itAt f i) == 0) = false := by simpa using he
          have he3 : ((itAt f i) != 0) = true := by simpa using he
          clear hF he
          generalize itAt f i = G at hE he2 he3 ⊢
          have HE1 := Lib.hid hE
          clear hE
          go_wp2
          go_ret
          exact ⟨by rw [HE1.out]; rfl, hBW.out.trans (HB2.out.mono (by omega))⟩
      · obtain rfl : i = n := by omega
        have hz0 : first (itAt f) i = 0 := first_zero HI.out
        have hE : E = (if first (znAt z (endS f i)) nz ≠ 0 then first (znAt z (endS f i)) nz else first (lmAt m (endS f i)) nl) := by
          rw [HE.out, hz0]; rfl
        have HE2 := Lib.hid hE
        clear hE hz0
        have hx : ∀ o, wr.cell? ⟨w.heap.size, o, none⟩ = W.cell? ⟨w.heap.size, o, none⟩ := fun o => HB.out.cell (p := ⟨w.heap.size, o, none⟩) (by show w.heap.size < W.heap.size; omega)
        have y0 := (hx 0).trans x0
        have y1 := (hx 1).trans x1
        have y2 := (hx 2).trans x2
        go_wp2_with fail
        refine (endOf_of a za la i c nz zc nl lc f (by omega) HI.out wr (HS.out.keep (by omega) HBW.out)).mono ?_
        rintro e' w2 ⟨rfl, hb2⟩
        have hle := endS_le HI.out
        have HB2 : Hid (Below w.heap.size w w2) := HBW.out.trans (hb2.mono HBW.out.size)
        have hx2 : ∀ o, w2.cell? ⟨w.heap.size, o, none⟩ = wr.cell? ⟨w.heap.size, o, none⟩ := fun o => hb2.cell (p := ⟨w.heap.size, o, none⟩) (by have := HB.out.size; show w.heap.size < wr.heap.size; omega)
        have z1 := (hx2 1).trans y1
        have z2 := (hx2 2).trans y2
        have hs2 := hb2.size
        have hsr := HB.out.size
        clear hb2 hx hx2 y0 y1 y2
        generalize endS f i = e at hle HE2 ⊢
        go_wp2_with fail
        refine (zones_of w2 za nz zc z e h2 (HZ.out.keep (by omega) HB2.out)).mono ?_
        rintro e' w3 ⟨rfl, hb3⟩
        have HB3 : Hid (Below w.heap.size w w3) := HB2.out.trans (hb3.mono HB2.out.size)
        have u2 := (hb3.cell (p := ⟨w.heap.size, 2, none⟩) (by show w.heap.size < w2.heap.size; omega)).trans z2
        clear hb3 z1 z2
        by_cases he : first (znAt z e) nz = 0
        · have hE : E = first (lmAt m e) nl := by rw [HE2.out, if_neg (by simp [he])]
          rw [he]
          have HE1 := Lib.hid hE
          clear hE he
          go_wp2_with fail
          refine (limits_of w3 la nl lc m e (by omega) h3 (HL.out.keep (by omega) HB3.out)).mono ?_
          rintro e' w4 ⟨rfl, hb4⟩
          have HB4 : Hid (Below w.heap.size w w4) := HB3.out.trans (hb4.mono HB3.out.size)
          clear hb4
          go_wp2
          go_ret
          exact ⟨by rw [HE1.out]; rfl, HB4.out⟩
        · have hE : E = first (znAt z e) nz := by rw [HE2.out, if_pos he]
          have he2 : ((first (znAt z e) nz) == 0) = false := by simpa using he
          have he3 : ((first (znAt z e) nz) != 0) = true := by simpa using he
          clear he
          generalize first (znAt z e) nz = G at hE he2 he3 ⊢
          have HE1 := Lib.hid hE
          clear hE
          go_wp2
          go_ret
          exact ⟨by rw [HE1.out]; rfl, HB3.out⟩
end Go.Proofs.YtdibljidagiblaaDoor.Ln
-- LnH: WALKS: the end and the error of a line, by the reference.
namespace Go.Proofs.YtdibljidagiblaaDoor.Ln
open Go.RowKit

end Go.Proofs.YtdibljidagiblaaDoor.Ln
-- LnI: WALKS: one round over the zones and one over the limits, by the reference: the whole error of a line.
namespace Go.Proofs.YtdibljidagiblaaDoor.Ln
open Go.RowKit

theorem six_keep {W W' : World} {g g2 : Nat} {a0 a1 a2 b0 b1 b2 : Value}
    (h : W.cell? ⟨g, 0, none⟩ = some a0 ∧ W.cell? ⟨g, 1, none⟩ = some a1 ∧ W.cell? ⟨g, 2, none⟩ = some a2 ∧ W.cell? ⟨g2, 0, none⟩ = some b0 ∧ W.cell? ⟨g2, 1, none⟩ = some b1 ∧ W.cell? ⟨g2, 2, none⟩ = some b2) (hb : Below W.heap.size W W') :
    W'.cell? ⟨g, 0, none⟩ = some a0 ∧ W'.cell? ⟨g, 1, none⟩ = some a1 ∧ W'.cell? ⟨g, 2, none⟩ = some a2 ∧ W'.cell? ⟨g2, 0, none⟩ = some b0 ∧ W'.cell? ⟨g2, 1, none⟩ = some b1 ∧ W'.cell? ⟨g2, 2, none⟩ = some b2 := by
  have e : ∀ q r x, W.cell? ⟨q, r, none⟩ = some x → W'.cell? ⟨q, r, none⟩ = some x := fun q r x hx => (hb.cell (p := ⟨q, r, none⟩) (World.block_lt_of_cell? W _ hx)).trans hx
  obtain ⟨h1, h2, h3, h4, h5, h6⟩ := h
  exact ⟨e _ _ _ h1, e _ _ _ h2, e _ _ _ h3, e _ _ _ h4, e _ _ _ h5, e _ _ _ h6⟩

theorem five_keep {W W' : World} {g g2 : Nat} {a0 a1 a2 b0 b1 : Value}
    (h : W.cell? ⟨g, 0, none⟩ = some a0 ∧ W.cell? ⟨g, 1, none⟩ = some a1 ∧ W.cell? ⟨g, 2, none⟩ = some a2 ∧ W.cell? ⟨g2, 0, none⟩ = some b0 ∧ W.cell? ⟨g2, 1, none⟩ = some b1) (hb : Below W.heap.size W W') :
    W'.cell? ⟨g, 0, none⟩ = some a0 ∧ W'.cell? ⟨g, 1, none⟩ = some a1 ∧ W'.cell? ⟨g, 2, none⟩ = some a2 ∧ W'.cell? ⟨g2, 0, none⟩ = some b0 ∧ W'.cell? ⟨g2, 1, none⟩ = some b1 := by
  have e : ∀ q r x, W.cell? ⟨q, r, none⟩ = some x → W'.cell? ⟨q, r, none⟩ = some x := fun q r x hx => (hb.cell (p := ⟨q, r, none⟩) (World.block_lt_of_cell? W _ hx)).trans hx
  obtain ⟨h1, h2, h3, h4, h5⟩ := h
  exact ⟨e _ _ _ h1, e _ _ _ h2, e _ _ _ h3, e _ _ _ h4, e _ _ _ h5⟩

theorem znAt_ok {z : Nat → Int} {e : Int} {i : Nat} (HZ : ∀ j, j < i → znAt z e j = 0) {E : Int} (h : znAt z e i = E) (hE : E = 0) : ∀ j, j < i + 1 → znAt z e j = 0 := fun j hj => by
  by_cases ej : j = i
  · subst ej; rw [h, hE]
  · exact HZ j (by omega)
theorem lmAt_ok {z : Nat → Int} {e : Int} {i : Nat} (HZ : ∀ j, j < i → lmAt z e j = 0) {E : Int} (h : lmAt z e i = E) (hE : E = 0) : ∀ j, j < i + 1 → lmAt z e j = 0 := fun j hj => by
  by_cases ej : j = i
  · subst ej; rw [h, hE]
  · exact HZ j (by omega)

end Go.Proofs.YtdibljidagiblaaDoor.Ln
-- LnJ: WALKS: the first item that a tool does not pass, by the program.
namespace Go.Proofs.YtdibljidagiblaaDoor.Ln
open Go.RowKit

theorem firstNot_at {p : Nat → Bool} {n i : Nat} (hi : i < n) (h : ∀ j, j < i → p j = true) (hp : p i = false) : firstNot p n = (i : Int) := by
  unfold firstNot
  have e : (List.range n).find? (fun i => !p i) = some i := by
    rw [List.find?_range_eq_some]
    refine ⟨by simp [hp], by simpa using hi, fun j hj => ?_⟩
    simp [h j hj]
  rw [e]
theorem firstNot_none {p : Nat → Bool} {n : Nat} (h : ∀ j, j < n → p j = true) : firstNot p n = -1 := by
  unfold firstNot
  have e : (List.range n).find? (fun i => !p i) = none := by
    rw [List.find?_eq_none]
    intro x hx
    simp [h x (by simpa using hx)]
  rw [e]

end Go.Proofs.YtdibljidagiblaaDoor.Ln
-- LnK: WALKS: Passes, by the program and by the reference.
namespace Go.Proofs.YtdibljidagiblaaDoor.Ln
open Go.RowKit

theorem chk_ok {n nz nl : Nat} {f z m : Nat → Int} (h : chk n nz nl f z m = 0) :
    (1 ≤ n ∧ n ≤ 64) ∧ nz ≤ 64 ∧ nl ≤ 64 ∧ (∀ i, i < n → itAt f i = 0) ∧ (∀ i, i < nz → znAt z (endS f n) i = 0) ∧ (∀ i, i < nl → lmAt m (endS f n) i = 0) := by
  unfold chk at h
  split at h
  · omega
  · rename_i h0
    split at h
    · omega
    · rename_i h1
      split at h
      · omega
      · rename_i h2
        exact ⟨by omega, by omega, by omega, first_all (by omega), first_all (by omega), first_all h⟩

/-- Whether a tool's four numbers are right. -/
def tOk (S T N Q : Int) : Bool := decide ((1 ≤ S ∧ S ≤ 16777216) ∧ (1 ≤ T ∧ T ≤ 16777216) ∧ (1 ≤ N ∧ N ≤ 16777216) ∧ (1 ≤ Q ∧ Q ≤ 16777216))

theorem tOk_ways (b1 b2 b3 b4 : Bool) (S T N Q : Int) (h1 : b1 = decide (1 ≤ S ∧ S ≤ 16777216)) (h2 : b2 = decide (1 ≤ T ∧ T ≤ 16777216)) (h3 : b3 = decide (1 ≤ N ∧ N ≤ 16777216)) (h4 : b4 = decide (1 ≤ Q ∧ Q ≤ 16777216)) :
    (b1 = false ∧ tOk S T N Q = false) ∨ (b1 = true ∧ b2 = false ∧ tOk S T N Q = false) ∨ (b1 = true ∧ b2 = true ∧ b3 = false ∧ tOk S T N Q = false) ∨
    (b1 = true ∧ b2 = true ∧ b3 = true ∧ b4 = false ∧ tOk S T N Q = false) ∨
    (b1 = true ∧ b2 = true ∧ b3 = true ∧ b4 = true ∧ ((1 ≤ S ∧ S ≤ 16777216) ∧ (1 ≤ T ∧ T ≤ 16777216) ∧ (1 ≤ N ∧ N ≤ 16777216) ∧ (1 ≤ Q ∧ Q ≤ 16777216)) ∧ tOk S T N Q = true) := by
  unfold tOk
  by_cases p1 : 1 ≤ S ∧ S ≤ 16777216
  · by_cases p2 : 1 ≤ T ∧ T ≤ 16777216
    · by_cases p3 : 1 ≤ N ∧ N ≤ 16777216
      · by_cases p4 : 1 ≤ Q ∧ Q ≤ 16777216
        · simp [h1, h2, h3, h4, p1, p2, p3, p4]
        · simp only [h1, h2, h3, h4, p1, p2, p3, p4]; simp
      · simp only [h1, h2, h3, p1, p2, p3]; simp
    · simp only [h1, h2, p1, p2]; simp
  · simp only [h1, p1]; simp

/-- What Passes hands back: E the error of the line, B whether the tool's numbers are right, k the first item. -/
def PsP (E : Int) (B : Bool) (k : Int) (w : World) (e : Ending) (w' : World) : Prop :=
  Below w.heap.size w w' ∧ ((E ≠ 0 ∧ e = .returned (.tuple #[.int .i64 0, .int .i64 E])) ∨ (E = 0 ∧ B = false ∧ e = .returned (.tuple #[.int .i64 0, .int .i64 21])) ∨
    (E = 0 ∧ B = true ∧ e = .returned (.tuple #[.int .i64 k, .int .i64 0])))

end Go.Proofs.YtdibljidagiblaaDoor.Ln
