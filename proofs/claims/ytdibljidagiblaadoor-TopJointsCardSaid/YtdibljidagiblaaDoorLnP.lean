/-
  WALKS: Starts.
-/
import Derived.Test.YtdibljidagiblaaDoorLnGK
import Derived.Test.YtdibljidagiblaaDoorLnO
import Derived.Deep.RegionHeld3
import Derived.Deep.AppendLies
namespace Go.Proofs.YtdibljidagiblaaDoor.Ln
open Go.RowKit

/-- What Starts hands back: E the error of the line. -/
def StP (E : Int) (n : Nat) (f : Nat → Int) (w : World) (e : Ending) (w' : World) : Prop :=
  Below w.heap.size w w' ∧ ((E ≠ 0 ∧ e = .returned (.tuple #[.slice none 0 0, .int .i64 E])) ∨
    (E = 0 ∧ ∃ v, e = .returned (.tuple #[v, .int .i64 0]) ∧ w'.ownsRow w.heap.size 3 1 v (n + 1) (irow (endS f) (n + 1))))

theorem own_below {w w' : World} {B E s : Nat} {v : Value} {k : Nat} {xs : List Value} (h : w.ownsRow B E s v k xs) (hb : Below w.heap.size w w') : w'.ownsRow B E s v k xs := by
  refine ⟨h.1, ?_⟩
  rcases h.2 with hn | ⟨g, cap, cur, rfl, hg, hc, hr⟩
  · exact .inl hn
  · exact .inr ⟨g, cap, cur, rfl, hg, (hb.block g (Array.getElem?_eq_some_iff.1 hc).1).trans hc, hr⟩
theorem own_base {w : World} {B B' E s : Nat} {v : Value} {k : Nat} {xs : List Value} (h : w.ownsRow B E s v k xs) (hb : B' ≤ B) : w.ownsRow B' E s v k xs := by
  refine ⟨h.1, ?_⟩
  rcases h.2 with hn | ⟨g, cap, cur, rfl, hg, hr⟩
  · exact .inl hn
  · exact .inr ⟨g, cap, cur, rfl, by omega, hr⟩
theorem three_keep {W W' : World} {g : Nat} {a0 a1 a2 : Value}
    (h : W.cell? ⟨g, 0, none⟩ = some a0 ∧ W.cell? ⟨g, 1, none⟩ = some a1 ∧ W.cell? ⟨g, 2, none⟩ = some a2) (hb : Below W.heap.size W W') :
    W'.cell? ⟨g, 0, none⟩ = some a0 ∧ W'.cell? ⟨g, 1, none⟩ = some a1 ∧ W'.cell? ⟨g, 2, none⟩ = some a2 := by
  have e : ∀ q r x, W.cell? ⟨q, r, none⟩ = some x → W'.cell? ⟨q, r, none⟩ = some x := fun q r x hx => (hb.cell (p := ⟨q, r, none⟩) (World.block_lt_of_cell? W _ hx)).trans hx
  obtain ⟨h1, h2, h3⟩ := h
  exact ⟨e _ _ _ h1, e _ _ _ h2, e _ _ _ h3⟩

set_option maxRecDepth 8000 in
set_option maxHeartbeats 3200000 in
theorem starts_of (w : World) (a za la : Option Addr) (n c nz zc nl lc : Nat) (f z m : Nat → Int) (hS : Sl w 7 a n f) (hZ : Sl w 3 za nz z) (hL : Sl w 2 la nl m) :
    Calls Tryd.prog 54 #[.agg #[.slice a n c, .slice za nz zc, .slice la nl lc]] w (StP (chk n nz nl f z m) n f w) := by
  obtain ⟨i0, hi, hz0, hz1, hz2⟩ := info_parts x_infoInt
  have HCK : Hid (∀ w', Below w.heap.size w w' → Calls Tryd.prog 92 #[.agg #[.slice a n c, .slice za nz zc, .slice la nl lc]] w' fun e' w2 => e' = .returned (.int .i64 (chk n nz nl f z m)) ∧ Below w'.heap.size w' w2) :=
    fun w' hb => check_of w' a za la n c nz zc nl lc f z m (hS.keep (by omega) hb) (hZ.keep (by omega) hb) (hL.keep (by omega) hb)
  have HOK : Hid (chk n nz nl f z m = 0 → (1 ≤ n ∧ n ≤ 64) ∧ nz ≤ 64 ∧ nl ≤ 64 ∧ (∀ i, i < n → itAt f i = 0) ∧ (∀ i, i < nz → znAt z (endS f n) i = 0) ∧ (∀ i, i < nl → lmAt m (endS f n) i = 0)) := chk_ok
  have HS := Lib.hid hS
  clear hS hZ hL
  generalize chk n nz nl f z m = E at HCK HOK ⊢
  go_enter Tryd.func54, Tryd.ntmps54
  go_wp2_with fail
  obtain ⟨W, hW⟩ : ∃ W, W = w.alloc (.cells #[.slice a n c, .slice za nz zc, .slice la nl lc] 55) := ⟨_, rfl⟩
  have hBW : Hid (Below w.heap.size w W) := by rw [hW]; exact (Below.refl _ _).alloc (Nat.le_refl _) _
  have hsz : W.heap.size = w.heap.size + 1 := by rw [hW]; simp
  have x0 : W.cell? ⟨w.heap.size, 0, none⟩ = some (.slice a n c) := by rw [hW]; go_simp
  have x1 : W.cell? ⟨w.heap.size, 1, none⟩ = some (.slice za nz zc) := by rw [hW]; go_simp
  have x2 : W.cell? ⟨w.heap.size, 2, none⟩ = some (.slice la nl lc) := by rw [hW]; go_simp
  rw [← hW]
  clear hW
  refine (HCK.out W hBW.out).mono ?_
  rintro e' w2 ⟨rfl, hb2⟩
  have hx : ∀ b o, b < W.heap.size → w2.cell? ⟨b, o, none⟩ = W.cell? ⟨b, o, none⟩ := fun b o h => hb2.cell (p := ⟨b, o, none⟩) h
  have y0 := (hx w.heap.size 0 (by omega)).trans x0
  have y1 := (hx w.heap.size 1 (by omega)).trans x1
  have y2 := (hx w.heap.size 2 (by omega)).trans x2
  have hs2 := hb2.size
  have HB2 : Hid (Below w.heap.size w w2) := hBW.out.trans (hb2.mono (by omega))
  clear hb2 hx x0 x1 x2
  by_cases hE : E = 0
  · subst hE
    have hok := HOK.out rfl
    have HV : Hid (∀ i, i < n → itAt f i = 0) := hok.2.2.2.1
    have hn : n ≤ 64 := hok.1.2
    have HL : Hid (∀ W', Below w2.heap.size w2 W' → W'.cell? ⟨w.heap.size, 0, none⟩ = some (.slice a n c) ∧ W'.cell? ⟨w.heap.size, 1, none⟩ = some (.slice za nz zc) ∧ W'.cell? ⟨w.heap.size, 2, none⟩ = some (.slice la nl lc)) :=
      fun W' hb => ⟨(hb.cell (p := ⟨w.heap.size, 0, none⟩) (by show w.heap.size < w2.heap.size; omega)).trans y0, (hb.cell (p := ⟨w.heap.size, 1, none⟩) (by show w.heap.size < w2.heap.size; omega)).trans y1, (hb.cell (p := ⟨w.heap.size, 2, none⟩) (by show w.heap.size < w2.heap.size; omega)).trans y2⟩
    have HST : Hid (∀ W', Below w2.heap.size w2 W' → Calls Tryd.prog 93 #[.agg #[.slice a n c, .slice za nz zc, .slice la nl lc]] W' fun e W3 => ∃ v, e = .returned v ∧ W3.ownsRow W'.heap.size 3 1 v n (irow (endS f) n) ∧ Below W'.heap.size W' W3) :=
      fun W' hb => startsOf_of a za la n c nz zc nl lc f (by omega) HV.out W' (HS.out.keep (by omega) (HB2.out.trans (hb.mono HB2.out.size)))
    have HEN : Hid (∀ W', Below w2.heap.size w2 W' → Calls Tryd.prog 94 #[.agg #[.slice a n c, .slice za nz zc, .slice la nl lc]] W' fun e W3 => e = .returned (.int .i64 (endS f n)) ∧ Below W'.heap.size W' W3) :=
      fun W' hb => endOf_of a za la n c nz zc nl lc f (by omega) HV.out W' (HS.out.keep (by omega) (HB2.out.trans (hb.mono HB2.out.size)))
    clear hok HOK
    have HBD : Hid (Below w2.heap.size w2 w2.drew) := (Below.refl _ _).drew
    have HN0 : Hid (w2.drew.cell? ⟨w.heap.size, 0, none⟩ = some (.slice a n c) ∧ w2.drew.cell? ⟨w.heap.size, 1, none⟩ = some (.slice za nz zc) ∧ w2.drew.cell? ⟨w.heap.size, 2, none⟩ = some (.slice la nl lc)) := HL.out _ HBD.out
    clear y0 y1 y2
    go_wp2_with fail
    go_region_held3 (fun W' => W'.cell? ⟨w.heap.size, 0, none⟩ = some (.slice a n c) ∧ W'.cell? ⟨w.heap.size, 1, none⟩ = some (.slice za nz zc) ∧ W'.cell? ⟨w.heap.size, 2, none⟩ = some (.slice la nl lc))
      (first | (exact HN0.out) | (exact hN3) | (exact hN4) | (exact three_keep hN4 ((Below.refl _ _).alloc (Nat.le_refl _) _)) | (exact hN5))
      (first
        | (go_at_call 93; refine (HST.out _ HBD.out).mono ?_; rintro e3 W3 ⟨v3, rfl, hown3, hb3⟩; (have hN3 := three_keep HN0.out hb3); (have hs3 : w2.heap.size ≤ W3.heap.size := hb3.size))
        | (go_at_call 94; refine (HEN.out _ (HBD.out.trans (hb3.mono (by simp)))).mono ?_; rintro e4 W4 ⟨rfl, hb4⟩; (have hN4 := three_keep hN3 hb4); (have hown4 := own_below hown3 hb4); (have hs4 : W3.heap.size ≤ W4.heap.size := hb4.size))
        | (refine step_append_lies _ rfl (.tmp 11) (.tmp 14) 26 rfl w2.heap.size 3 i0 (.int .i64 0) 1 8 Tryd.underlying26 hi hz0 hz1 hz2 rfl (by decide) v3 n (irow (endS f) n) (by simp [Act.eval]) (hown4.alloc _) ⟨W4.heap.size, 0, none⟩ 1 1 [.int .i64 (endS f n)] (by simp [Act.eval]) rfl (cell_one_new _ _ _) (by simp [Value.oneCell']) (by decide) (by unfold maxLen; omega) (by omega) (by simp; omega) _ rfl ?_; intro g5 cap5 W5 hown5 hg5 _ _; (have hb5 : Below w2.heap.size w2 W5 := (((HBD.out.trans (hb3.mono (by simp))).trans (hb4.mono hb3.size)).alloc (by (try simp only [World.size_alloc]); omega) _).grown hg5 (by (try simp only [World.size_alloc]); omega) (fun k hk => (hown4.lt k hk).1)); (have hN5 := HL.out W5 hb5)))
    all_goals
      have HB5 : Hid (Below w.heap.size w W5) := HB2.out.trans (hb5.mono HB2.out.size)
      have HO5 : Hid (W5.ownsRow w.heap.size 3 1 (.slice (some ⟨g5, 0, none⟩) (n + 1) cap5) (n + 1) (irow (endS f) (n + 1))) := by rw [irow_succ]; exact own_base hown5 (by omega)
      clear hown3 hown4 hown5 hg5 hb3 hb4 hb5 hN3 hN4 hN5
      go_wp2
      go_ret2
      exact ⟨HB5.out, .inr ⟨rfl, _, rfl, HO5.out⟩⟩
  · have e2 : (E == 0) = false := by simpa using hE
    have e3 : (E != 0) = true := by simpa using hE
    have HE := Lib.hid hE
    clear hE HOK
    go_wp2
    go_ret2
    exact ⟨HB2.out, .inl ⟨HE.out, rfl⟩⟩
end Go.Proofs.YtdibljidagiblaaDoor.Ln
