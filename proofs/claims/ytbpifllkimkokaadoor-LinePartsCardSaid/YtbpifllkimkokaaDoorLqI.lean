/-
  LineParts: for every line and number the statement's function returns true, and its arguments read as they did: the sections are the whole line, tell what each of their stations tells, and neighbouring ones differ.
  Conditions: none of mine. The package variables that the row lists hold what the program's text lays (the card ties them).
-/
import Derived.Test.YtbpifllkimkokaaDoorLqH
import Derived.Test.YtbpifllkimkokaaDoorLnW
namespace Go.Proofs.YtbpifllkimkokaaDoor.lineParts
open Go.ChangeShapes Go.WideShapes Go.ChangeAt Go.RowKit Go.Deep Go.Joins

theorem wf_u32 {z : Int} (h : (Lit.int .u32 z).wf = true) : 0 ≤ z ∧ z ≤ 4294967295 := by
  have h2 : IntKind.u32.min ≤ z ∧ z ≤ IntKind.u32.max := by simpa [Lit.wf] using h
  have e1 : IntKind.u32.min = 0 := by decide
  have e2 : IntKind.u32.max = 4294967295 := by decide
  rw [e1, e2] at h2
  exact h2
set_option maxRecDepth 100000 in
theorem open_u32 {H : Type} {enc : TypeId × Value → H} {w : World} {base b0 : Nat} {spare : Nat → Bool} {held : Bool} {r : Reach} {v : Value} {d : DataW H} {p : List MemPlace}
    (hv : Value.okWide Tryd.prog w r b0 68 v) (h : DataW.Trod enc Tryd.prog w base spare held 68 v d p) : ∃ z, v = .int .u32 z ∧ 0 ≤ z ∧ z ≤ 4294967295 := by
  obtain ⟨z, rfl, _, _, hw⟩ := open_int Tryd.underlying68 hv h
  exact ⟨z, rfl, wf_u32 hw⟩
/-- What the row's list gives: the variables that the example reads. -/
theorem glob {W : World} (h : laidMetH Tryd.prog Rows.linePartsRow.laid W) : Glob W := by
  have h0 : laidMet Tryd.prog Rows.linePartsRow.laid W := h
  exact glob_of (laid_tail (laid_tail h0))

set_option maxRecDepth 100000 in
/-- WHAT THE WALK GIVES, FOR EVERY ARGUMENT AND EVERY WORLD. -/
theorem contract (H : Type) (enc : TypeId × Value → H) (W : World) (base : Nat) (args : Array Value) (ds gs : List (DataW H)) (before : List MemPlace)
    (hval : ∀ (j : Nat) t v, Tryd.f7.params[j]? = some t → args[j]? = some v → Value.okWide Tryd.prog W .any base t v)
    (hW : DataW.Whole enc Tryd.prog Tryd.f7.params.toList Rows.linePartsSpec.vars false W args.toList ds gs before) (hL : laidMetH Tryd.prog Rows.linePartsRow.laid W) :
    Calls Tryd.prog 7 args W fun e W' => ∃ v, e = .returned v ∧ Rows.linePartsSpec.post enc Tryd.prog Tryd.f7 false true false false W args v W' := by
  have hW' := hW
  obtain ⟨p, q, hA0, hV, rfl, hfz, hnd⟩ := hW
  have hA : DataW.TrodAll enc Tryd.prog W 0 (fun _ => true) true Tryd.f7.params.toList args.toList ds p := hA0
  have hAk := hA
  rw [Tryd.params7] at hA hval
  obtain ⟨v0, vs0, d0, ds0, p0, q0, hargs, rfl, rfl, h0, r0⟩ := trodAll_cons hA
  obtain ⟨v1, vs1, d1, ds1, p1, q1, hargs1, rfl, rfl, h1, r1⟩ := trodAll_cons r0
  obtain ⟨rfl, rfl, rfl⟩ := trodAll_nil r1
  subst hargs1
  obtain rfl : args = #[v0, v1] := by cases args; simp_all
  obtain ⟨rfl, rfl⟩ := trodVars_none hV
  have hk0 := hval 0 26 v0 rfl rfl
  have hk1 := hval 1 68 v1 rfl rfl
  clear hval hA hA0
  obtain ⟨x0, x1, x2, y0, y1, y2, n0, rfl, _, _, e0, e1, e2⟩ := open_agg3 Tryd.underlying26 (by kernel_rfl) (by kernel_rfl) hk0 h0
  obtain ⟨a, n, c, f, rfl, hn, hS, _⟩ := open_ints_s (s := 7) Tryd.underlying22 Tryd.underlying72 (by kernel_rfl) (by kernel_rfl) rfl (by decide) (fields_int (n := 7) rfl) e0
  obtain ⟨za, nz, zc, z, rfl, hnz, hZ, _⟩ := open_ints_s (s := 3) Tryd.underlying23 Tryd.underlying84 (by kernel_rfl) (by kernel_rfl) rfl (by decide) (fields_int (n := 3) rfl) e1
  obtain ⟨la, nl, lc, m, rfl, hnl, hM, _⟩ := open_ints_s (s := 2) Tryd.underlying24 Tryd.underlying104 (by kernel_rfl) (by kernel_rfl) rfl (by decide) (fields_int (n := 2) rfl) e2
  obtain ⟨N, rfl, hN⟩ := open_u32 hk1 h1
  simp only [List.append_nil] at hW' hAk
  have walk : Calls Tryd.prog 7 #[.agg #[.slice a n c, .slice za nz zc, .slice la nl lc], .int .u32 N] W fun e w' => e = .returned (.bool true) ∧ Below W.heap.size W w' := by
    by_cases h : n ≤ 70 ∧ nz ≤ 70 ∧ nl ≤ 70
    · by_cases hr : (n ≤ 12 ∧ nz ≤ 12 ∧ nl ≤ 12) ∧ chk n nz nl f z m = 0
      · exact partsLaw_yes W a za la n c nz zc nl lc f z m N (glob hL) hr hS hZ hM hN
      · refine partsLaw_no W a za la n c nz zc nl lc N (glob hL) (fun w' hb => ?_)
        have := right_near w' a za la n c nz zc nl lc f z m h (hS.keep (by omega) hb) (hZ.keep (by omega) hb) (hM.keep (by omega) hb)
        rwa [show decide ((n ≤ 12 ∧ nz ≤ 12 ∧ nl ≤ 12) ∧ chk n nz nl f z m = 0) = false by simpa using hr] at this
    · exact partsLaw_no W a za la n c nz zc nl lc N (glob hL) (fun w' hb => right_far w' a za la n c nz zc nl lc f z m (by omega) ⟨hn, hnz, hnl⟩)
  refine walk.mono fun e W' ⟨he, hb⟩ => ?_
  subst he
  exact ⟨_, rfl, post_of_below (pv := []) hW' (fun _ _ _ => trodAll_cons_mk (shut_bool Tryd.underlying4 _) trodAll_mk0) (fun sp hsp => trodAll_below hb (DataW.TrodAll.respare x_kids x_full (by rw [Tryd.params7]; decide) hAk (fun p hp => hsp p (by simpa using hp)))) (fun _ _ => rfl) (by simp)
    hb (ok_one (by kernel_rfl) rfl (okWide_bool_mk Tryd.underlying4 _))⟩

/-- The witness: no items, zeros. -/
def wArgs : Array Value := #[.agg #[.slice none 0 0, .slice none 0 0, .slice none 0 0], .int .u32 0]
theorem reads (os : Os) {H : Type} (enc : TypeId × Value → H) : ∃ places, DataW.whole enc Tryd.prog ((World.laidAll Tryd.prog os Rows.linePartsRow.laid).forCall (fun _ _ => 0) ⟨#[], wArgs, []⟩).memory Tryd.f7.params.toList Rows.linePartsSpec.vars false wArgs.toList 8 = some ([.agg [.nil, .nil, .nil], .lit (.int .u32 0)], [], places) :=
  ⟨[], by kernel_rfl⟩

set_option maxRecDepth 100000 in
theorem lifted (os : Os) (started : os.Started) (H : Type) (enc : TypeId × Value → H) (F : Stop.Interp) :
    ReturnsInHanded {} Tryd.checked os 7 .any ((OpenSpec.ofChange Rows.linePartsSpec).preRow enc Tryd.prog Tryd.f7 Rows.linePartsRow.domain false Rows.linePartsRow.laid) (((OpenSpec.ofChange Rows.linePartsSpec).at F).post enc Tryd.prog Tryd.f7 false true false false) := by
  obtain ⟨places, hx⟩ := reads os enc
  refine returnsInHanded_of_row (C := Tryd.checked) (s := OpenSpec.ofChange Rows.linePartsSpec) own started (by kernel_rfl) Tryd.func7
    (witness_row_at (enc := enc) (C := Tryd.checked) false (World.laidAll Tryd.prog os Rows.linePartsRow.laid) wArgs (World.laidAll_os _ _ _) (by kernel_rfl) (by kernel_rfl) (by kernel_rfl)
      (OpenSpec.preRow_of_cond 8 hx (by kernel_rfl) (fun k hk => by cases hk) (by kernel_rfl) (laidMet_laidAll _ (by kernel_rfl) (by kernel_rfl)))) ?_
  intro W base args ds gs before hval hW _ _ _ hL _ _
  exact contract H enc W base args ds gs before hval hW hL

theorem said : Rows.LinePartsSaid :=
  OpenClaim.holds_of_cond 7 Tryd.f7 rfl rfl rfl rfl rfl rfl rfl ⟨rfl, rfl, rfl, rfl, rfl⟩ rfl rfl rfl rfl rfl (by kernel_rfl) Tryd.func7 (by kernel_rfl)
    (of_decide_eq_true (by kernel_rfl)) (by unfold Func.isWrapper; first | (rw [if_pos (by decide +kernel)]; kernel_rfl) | (rw [if_neg (by decide +kernel)]; exact ⟨rfl, rfl⟩))
    (fun os started H enc _ F => by rw [OpenClaim.pre_eq_preRow]; exact lifted os started H enc F)

/-- No parameter wants a stand-in; the program's own looks are off: what the card asks. -/
theorem plain (f : FuncId) (fn : Func) (hf : Tryd.pinned.checked.prog.funcNamed "wallgauge/wallgaugelaw02.LineParts" = some f) (hfn : Tryd.pinned.checked.prog.funcs[f]? = some fn) :
    false = Tryd.pinned.checked.prog.looks [] ∧ ∀ (j : Nat) t, fn.params[j]? = some t → Tryd.pinned.checked.prog.wantsStandIn t = false := by
  obtain rfl : f = 7 := Option.some.inj ((show Tryd.prog.funcNamed "wallgauge/wallgaugelaw02.LineParts" = some 7 by kernel_rfl).symm.trans hf) |>.symm
  obtain rfl : fn = Tryd.f7 := (Option.some.inj (Tryd.func7.symm.trans hfn)).symm
  refine ⟨by kernel_rfl, fun j t ht => ?_⟩
  rw [Tryd.params7] at ht
  have hm : t = 26 ∨ t = 68 := by simpa using Array.mem_of_getElem? ht
  rcases hm with rfl | rfl
  · exact (show Tryd.prog.wantsStandIn 26 = false by kernel_rfl)
  · exact (show Tryd.prog.wantsStandIn 68 = false by kernel_rfl)

theorem card : Rows.LinePartsCardSaid :=
  Claim7.holds_tied_plain_at .later [] _ _ _ _ said (fun _ h => by cases h) (by kernel_rfl) (fun _ h => by cases h) lineParts_row_tie rfl ⟨rfl, rfl⟩ (by kernel_rfl) rfl plain (by kernel_rfl)
end Go.Proofs.YtbpifllkimkokaaDoor.lineParts
