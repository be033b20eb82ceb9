/-
  PlaceRolled: for all ticks, sizes, places and speeds the statement's function returns true, and its arguments read as they did: what Odometer, Calibrate and Passed return holds the exact distance, size and place, a wider size gives a wider range, and the document's example holds.
  Conditions: none.
-/
import Derived.Test.YtmfdgnjhlhkbbaaPoB
import Derived.Test.YtmfdgnjhlhkbbaaPW
namespace Go.Proofs.Ytmfdgnjhlhkbbaa.placeRolled
open Go.ChangeShapes Go.WideShapes Go.ChangeAt Go.RowKit Go.Deep Go.Joins

section
variable {P : Program} {H : Type} {enc : TypeId × Value → H} {w : World} {base b0 : Nat} {spare : Nat → Bool} {held : Bool} {r : Reach} {t e : TypeId} {k : IntKind} {v : Value} {d : DataW H} {p : List MemPlace}
theorem wf_k {z : Int} (h : (Lit.int k z).wf = true) : k.min ≤ z ∧ z ≤ k.max := by simpa [Lit.wf] using h
theorem open_k (ht : P.underlying t = some (.int k)) (hv : Value.okWide P w r b0 t v) (h : DataW.Trod enc P w base spare held t v d p) : ∃ z, v = .int k z ∧ k.min ≤ z ∧ z ≤ k.max := by
  obtain ⟨z, rfl, _, _, hw⟩ := open_int ht hv h
  exact ⟨z, rfl, wf_k hw⟩
/-- An array of three ints. -/
theorem open_arr3 (ht : P.underlying t = some (.array 3 e)) (he : P.underlying e = some (.int k)) (h1 : P.cellsOf e = 1) (h3 : P.cellsOf t = 3) (hv : Value.okWide P w r b0 t v) (h : DataW.Trod enc P w base spare held t v d p) :
    ∃ a b c, v = .agg #[.int k a, .int k b, .int k c] ∧ (k.min ≤ a ∧ a ≤ k.max) ∧ (k.min ≤ b ∧ b ≤ k.max) ∧ k.min ≤ c ∧ c ≤ k.max := by
  simp only [Value.okWide, ht] at hv
  obtain ⟨cs, rfl, hz, _⟩ := hv
  rw [h3] at hz
  obtain ⟨fuel, hf⟩ := h
  obtain ⟨xs, m, _, _, _, hl, hel⟩ := DataW.trod_array ht hf
  obtain ⟨l⟩ := cs
  match l, hz with
  | [a, b, c], _ =>
    match xs, hl with
    | [x0, x1, x2], _ =>
      have k0 := hel 0 (by omega)
      have k1 := hel 1 (by omega)
      have k2 := hel 2 (by omega)
      rw [h1] at k0 k1 k2
      obtain ⟨z0, a0, _, w0⟩ := DataW.trod_int he k0
      obtain ⟨z1, a1, _, w1⟩ := DataW.trod_int he k1
      obtain ⟨z2, a2, _, w2⟩ := DataW.trod_int he k2
      have e0 : a = .int k z0 := by simpa [Value.cells] using a0
      have e1 : b = .int k z1 := by simpa [Value.cells] using a1
      have e2 : c = .int k z2 := by simpa [Value.cells] using a2
      subst e0 e1 e2
      exact ⟨z0, z1, z2, rfl, wf_k w0, wf_k w1, wf_k w2⟩
end

set_option maxRecDepth 100000 in
/-- WHAT THE WALK GIVES, FOR EVERY ARGUMENT AND EVERY WORLD. -/
theorem contract (H : Type) (enc : TypeId × Value → H) (W : World) (base : Nat) (args : Array Value) (ds gs : List (DataW H)) (before : List MemPlace)
    (hval : ∀ (j : Nat) t v, Try.f3.params[j]? = some t → args[j]? = some v → Value.okWide Try.prog W .any base t v)
    (hW : DataW.Whole enc Try.prog Try.f3.params.toList Rows.placeRolledSpec.vars false W args.toList ds gs before) :
    Calls Try.prog 3 args W fun e W' => ∃ v, e = .returned v ∧ Rows.placeRolledSpec.post enc Try.prog Try.f3 false true false false W args v W' := by
  have hW' := hW
  obtain ⟨p, q, hA0, hV, rfl, hfz, hnd⟩ := hW
  have hA : DataW.TrodAll enc Try.prog W 0 (fun _ => true) true Try.f3.params.toList args.toList ds p := hA0
  have hAk := hA
  rw [Try.params3] at hA hval
  obtain ⟨v0, vs0, d0, ds0, p0, q0, hargs, rfl, rfl, h0, r0⟩ := trodAll_cons hA
  obtain ⟨v1, vs1, d1, ds1, p1, q1, hargs1, rfl, rfl, h1, r1⟩ := trodAll_cons r0
  obtain ⟨v2, vs2, d2, ds2, p2, q2, hargs2, rfl, rfl, h2, r2⟩ := trodAll_cons r1
  obtain ⟨v3, vs3, d3, ds3, p3, q3, hargs3, rfl, rfl, h3, r3⟩ := trodAll_cons r2
  obtain ⟨v4, vs4, d4, ds4, p4, q4, hargs4, rfl, rfl, h4, r4⟩ := trodAll_cons r3
  obtain ⟨v5, vs5, d5, ds5, p5, q5, hargs5, rfl, rfl, h5, r5⟩ := trodAll_cons r4
  obtain ⟨rfl, rfl, rfl⟩ := trodAll_nil r5
  subst hargs5
  subst hargs4
  subst hargs3
  subst hargs2
  subst hargs1
  obtain rfl : args = #[v0, v1, v2, v3, v4, v5] := by cases args; simp_all
  obtain ⟨rfl, rfl⟩ := trodVars_none hV
  have hk0 := hval 0 22 v0 rfl rfl
  have hk1 := hval 1 23 v1 rfl rfl
  have hk2 := hval 2 5 v2 rfl rfl
  have hk3 := hval 3 21 v3 rfl rfl
  have hk4 := hval 4 25 v4 rfl rfl
  have hk5 := hval 5 23 v5 rfl rfl
  clear hval hA hA0
  obtain ⟨k, rfl, hwk⟩ := open_k (k := .u16) Try.underlying22 hk0 h0
  obtain ⟨s0, s1, s2, rfl, hws0, hws1, hws2⟩ := open_arr3 (k := .u16) Try.underlying23 Try.underlying22 (by kernel_rfl) (by kernel_rfl) hk1 h1
  obtain ⟨wd, rfl, hwwd⟩ := open_k (k := .u8) Try.underlying5 hk2 h2
  obtain ⟨at_, rfl, hwat_⟩ := open_k (k := .i32) Try.underlying21 hk3 h3
  obtain ⟨a0, a1, a2, rfl, hwa0, hwa1, hwa2⟩ := open_arr3 (k := .i16) Try.underlying25 Try.underlying24 (by kernel_rfl) (by kernel_rfl) hk4 h4
  obtain ⟨u0, u1, u2, rfl, hwu0, hwu1, hwu2⟩ := open_arr3 (k := .u16) Try.underlying23 Try.underlying22 (by kernel_rfl) (by kernel_rfl) hk5 h5
  simp only [List.append_nil] at hW' hAk
  refine (rolled_of W k s0 s1 s2 wd at_ a0 a1 a2 u0 u1 u2 hwk hws0 hws1 hws2 hwwd hwat_ hwa0 hwa1 hwa2 hwu0 hwu1 hwu2).mono fun e W' ⟨he, hb⟩ => ?_
  subst he
  exact ⟨_, rfl, post_of_below (pv := []) hW' (fun _ _ _ => trodAll_cons_mk (shut_bool Try.underlying4 _) trodAll_mk0) (fun sp hsp => trodAll_below hb (DataW.TrodAll.respare x_kids x_full (by rw [Try.params3]; decide) hAk (fun p hp => hsp p (by simpa using hp)))) (fun _ _ => rfl) (by simp)
    hb (ok_one (by kernel_rfl) rfl (okWide_bool_mk Try.underlying4 _))⟩

set_option maxRecDepth 100000 in
theorem lifted (os : Os) (started : os.Started) (H : Type) (enc : TypeId × Value → H) :
    ReturnsInHanded {} Try.checked os 3 .any (Rows.placeRolledSpec.pre6 enc Try.prog Try.f3 Rows.placeRolledRow.domain false) (Rows.placeRolledSpec.post enc Try.prog Try.f3 false true false false) := by
  refine returnsInHanded_of_change (C := Try.checked) own started (by kernel_rfl) Try.func3
    (ChangeSpec.witness6 (enc := enc) (C := Try.checked) false ⟨#[], #[.int .u16 0, .agg #[.int .u16 0, .int .u16 0, .int .u16 0], .int .u8 0, .int .i32 0, .agg #[.int .i16 0, .int .i16 0, .int .i16 0], .agg #[.int .u16 0, .int .u16 0, .int .u16 0]], []⟩ 8 (by kernel_rfl) (by kernel_rfl) (by kernel_rfl) (by kernel_rfl)) ?_
  intro W base args ds gs before hval hW _ _
  exact contract H enc W base args ds gs before hval hW

theorem said : Rows.PlaceRolledSaid :=
  OpenClaim.holds_of_wide 3 Try.f3 rfl rfl rfl rfl rfl rfl rfl ⟨rfl, rfl, rfl, rfl, rfl⟩ rfl rfl rfl rfl rfl (by kernel_rfl) Try.func3 (by kernel_rfl)
    (of_decide_eq_true (by kernel_rfl)) (by unfold Func.isWrapper; first | (rw [if_pos (by decide +kernel)]; kernel_rfl) | (rw [if_neg (by decide +kernel)]; exact ⟨rfl, rfl⟩))
    (fun os started H enc _ => lifted os started H enc)
end Go.Proofs.Ytmfdgnjhlhkbbaa.placeRolled
