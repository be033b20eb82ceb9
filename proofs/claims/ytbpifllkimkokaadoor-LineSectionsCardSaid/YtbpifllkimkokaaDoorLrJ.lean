/-
  LineSections: for every line and number the statement's function returns true, and its arguments read as they did: ClassAt, LimitAt, Sections and Weak return the results of the reference.
  Conditions: none of mine. The package variables that the row lists hold what the program's text lays (the card ties them).
-/
import Derived.Test.YtbpifllkimkokaaDoorLrI
import Derived.Test.YtbpifllkimkokaaDoorLnW
namespace Go.Proofs.YtbpifllkimkokaaDoor.lineSections
open Go.ChangeShapes Go.WideShapes Go.ChangeAt Go.RowKit Go.Deep Go.Joins

set_option maxRecDepth 100000 in
theorem open_i64 {H : Type} {enc : TypeId × Value → H} {w : World} {base b0 : Nat} {spare : Nat → Bool} {held : Bool} {r : Reach} {v : Value} {d : DataW H} {p : List MemPlace}
    (hv : Value.okWide Tryd.prog w r b0 3 v) (h : DataW.Trod enc Tryd.prog w base spare held 3 v d p) : ∃ z, v = .int .i64 z ∧ -9223372036854775808 ≤ z ∧ z ≤ 9223372036854775807 := by
  obtain ⟨z, rfl, _, _, hw⟩ := open_int Tryd.underlying3 hv h
  exact ⟨z, rfl, wf_i64 hw⟩
set_option maxRecDepth 100000 in
/-- What the row's list gives: the variables that the example, the yields and the factors are read from. -/
theorem glob {W : World} (h : laidMetH Tryd.prog Rows.lineSectionsRow.laid W) : Glob W ∧ Tabs W := by
  have h0 : laidMet Tryd.prog Rows.lineSectionsRow.laid W := h
  have h2 := laid_tail (laid_tail h0)
  have h3 := laid_tail h2
  have h4 := laid_tail h3
  have h5 := laid_tail h4
  have t2 : Lib.TabIs Tryd.prog W "internal/strconv.uint64pow10" .u64 [1, 10, 100, 1000, 10000, 100000, 1000000, 10000000, 100000000, 1000000000, 10000000000, 100000000000, 1000000000000, 10000000000000, 100000000000000, 1000000000000000, 10000000000000000, 100000000000000000, 1000000000000000000, 10000000000000000000] :=
    Lib.tabIs_of_head (g := 3) (t := 209) (by kernel_rfl) (by kernel_rfl) Tryd.underlying209 Tryd.underlying186 (by kernel_rfl) (by kernel_rfl) h2
  have hg3 : Tryd.prog.globalNamed "wallgauge/line.yields" = some 1 := by kernel_rfl
  have t3 : Lib.TabIs Tryd.prog W "wallgauge/line.yields" .i64 [290000, 317000, 359000, 386000, 414000, 448000, 483000, 552000] :=
    Lib.tabIs_of_head (g := 1) (t := 160) hg3 (by kernel_rfl) Tryd.underlying160 Tryd.underlying3 (by kernel_rfl) (by kernel_rfl) h3
  have hg4 : Tryd.prog.globalNamed "wallgauge/line.factors" = some 2 := by kernel_rfl
  have t4 : Lib.TabIs Tryd.prog W "wallgauge/line.factors" .i64 [72, 60, 50, 40] :=
    Lib.tabIs_of_head (g := 2) (t := 130) hg4 (by kernel_rfl) Tryd.underlying130 Tryd.underlying3 (by kernel_rfl) (by kernel_rfl) h4
  have e : Lib.pow10Tab = [1, 10, 100, 1000, 10000, 100000, 1000000, 10000000, 100000000, 1000000000, 10000000000, 100000000000, 1000000000000, 10000000000000, 100000000000000, 1000000000000000, 10000000000000000, 100000000000000000, 1000000000000000000, 10000000000000000000] := by decide
  exact ⟨⟨⟨word_of (h := h5), by rw [e]; exact t2⟩, t3.cell hg3 2 (by decide)⟩, fun k hk => t3.cell hg3 k hk, fun k hk => t4.cell hg4 k hk⟩

set_option maxRecDepth 100000 in
/-- WHAT THE WALK GIVES, FOR EVERY ARGUMENT AND EVERY WORLD. -/
theorem contract (H : Type) (enc : TypeId × Value → H) (W : World) (base : Nat) (args : Array Value) (ds gs : List (DataW H)) (before : List MemPlace)
    (hval : ∀ (j : Nat) t v, Tryd.f4.params[j]? = some t → args[j]? = some v → Value.okWide Tryd.prog W .any base t v)
    (hW : DataW.Whole enc Tryd.prog Tryd.f4.params.toList Rows.lineSectionsSpec.vars false W args.toList ds gs before) (hL : laidMetH Tryd.prog Rows.lineSectionsRow.laid W) :
    Calls Tryd.prog 4 args W fun e W' => ∃ v, e = .returned v ∧ Rows.lineSectionsSpec.post enc Tryd.prog Tryd.f4 false true false false W args v W' := by
  have hW' := hW
  obtain ⟨p, q, hA0, hV, rfl, hfz, hnd⟩ := hW
  have hA : DataW.TrodAll enc Tryd.prog W 0 (fun _ => true) true Tryd.f4.params.toList args.toList ds p := hA0
  have hAk := hA
  rw [Tryd.params4] at hA hval
  obtain ⟨v0, vs0, d0, ds0, p0, q0, hargs, rfl, rfl, h0, r0⟩ := trodAll_cons hA
  obtain ⟨v1, vs1, d1, ds1, p1, q1, hargs1, rfl, rfl, h1, r1⟩ := trodAll_cons r0
  obtain ⟨rfl, rfl, rfl⟩ := trodAll_nil r1
  subst hargs1
  obtain rfl : args = #[v0, v1] := by cases args; simp_all
  obtain ⟨rfl, rfl⟩ := trodVars_none hV
  have hk0 := hval 0 26 v0 rfl rfl
  have hk1 := hval 1 3 v1 rfl rfl
  clear hval hA hA0
  obtain ⟨x0, x1, x2, y0, y1, y2, n0, rfl, _, _, e0, e1, e2⟩ := open_agg3 Tryd.underlying26 (by kernel_rfl) (by kernel_rfl) hk0 h0
  obtain ⟨a, n, c, f, rfl, hn, hS, _⟩ := open_ints_s (s := 7) Tryd.underlying22 Tryd.underlying72 (by kernel_rfl) (by kernel_rfl) rfl (by decide) (fields_int (n := 7) rfl) e0
  obtain ⟨za, nz, zc, z, rfl, hnz, hZ, _⟩ := open_ints_s (s := 3) Tryd.underlying23 Tryd.underlying84 (by kernel_rfl) (by kernel_rfl) rfl (by decide) (fields_int (n := 3) rfl) e1
  obtain ⟨la, nl, lc, m, rfl, hnl, hM, _⟩ := open_ints_s (s := 2) Tryd.underlying24 Tryd.underlying104 (by kernel_rfl) (by kernel_rfl) rfl (by decide) (fields_int (n := 2) rfl) e2
  obtain ⟨S, rfl, _⟩ := open_i64 hk1 h1
  simp only [List.append_nil] at hW' hAk
  have walk : Calls Tryd.prog 4 #[.agg #[.slice a n c, .slice za nz zc, .slice la nl lc], .int .i64 S] W fun e w' => e = .returned (.bool true) ∧ Below W.heap.size W w' := by
    obtain ⟨hG, hT⟩ := glob hL
    by_cases h : n ≤ 70 ∧ nz ≤ 70 ∧ nl ≤ 70
    · by_cases hE : chk n nz nl f z m = 0
      · exact sectionsLaw_ok W a za la n c nz zc nl lc f z m S h hS hZ hM hG hT hE
      · exact sectionsLaw_bad W a za la n c nz zc nl lc f z m S h hS hZ hM hG hT hE
    · exact sectionsLaw_no W a za la n c nz zc nl lc f z m S (by omega) ⟨hn, hnz, hnl⟩ hG
  refine walk.mono fun e W' ⟨he, hb⟩ => ?_
  subst he
  exact ⟨_, rfl, post_of_below (pv := []) hW' (fun _ _ _ => trodAll_cons_mk (shut_bool Tryd.underlying4 _) trodAll_mk0) (fun sp hsp => trodAll_below hb (DataW.TrodAll.respare x_kids x_full (by rw [Tryd.params4]; decide) hAk (fun p hp => hsp p (by simpa using hp)))) (fun _ _ => rfl) (by simp)
    hb (ok_one (by kernel_rfl) rfl (okWide_bool_mk Tryd.underlying4 _))⟩

/-- The witness: no items, zeros. -/
def wArgs : Array Value := #[.agg #[.slice none 0 0, .slice none 0 0, .slice none 0 0], .int .i64 0]
theorem reads (os : Os) {H : Type} (enc : TypeId × Value → H) : ∃ places, DataW.whole enc Tryd.prog ((World.laidAll Tryd.prog os Rows.lineSectionsRow.laid).forCall (fun _ _ => 0) ⟨#[], wArgs, []⟩).memory Tryd.f4.params.toList Rows.lineSectionsSpec.vars false wArgs.toList 8 = some ([.agg [.nil, .nil, .nil], .lit (.int .i64 0)], [], places) :=
  ⟨[], by kernel_rfl⟩

set_option maxRecDepth 100000 in
theorem lifted (os : Os) (started : os.Started) (H : Type) (enc : TypeId × Value → H) (F : Stop.Interp) :
    ReturnsInHanded {} Tryd.checked os 4 .any ((OpenSpec.ofChange Rows.lineSectionsSpec).preRow enc Tryd.prog Tryd.f4 Rows.lineSectionsRow.domain false Rows.lineSectionsRow.laid) (((OpenSpec.ofChange Rows.lineSectionsSpec).at F).post enc Tryd.prog Tryd.f4 false true false false) := by
  obtain ⟨places, hx⟩ := reads os enc
  refine returnsInHanded_of_row (C := Tryd.checked) (s := OpenSpec.ofChange Rows.lineSectionsSpec) own started (by kernel_rfl) Tryd.func4
    (witness_row_at (enc := enc) (C := Tryd.checked) false (World.laidAll Tryd.prog os Rows.lineSectionsRow.laid) wArgs (World.laidAll_os _ _ _) (by kernel_rfl) (by kernel_rfl) (by kernel_rfl)
      (OpenSpec.preRow_of_cond 8 hx (by kernel_rfl) (fun k hk => by cases hk) (by kernel_rfl) (laidMet_laidAll _ (by kernel_rfl) (by kernel_rfl)))) ?_
  intro W base args ds gs before hval hW _ _ _ hL _ _
  exact contract H enc W base args ds gs before hval hW hL

theorem said : Rows.LineSectionsSaid :=
  OpenClaim.holds_of_cond 4 Tryd.f4 rfl rfl rfl rfl rfl rfl rfl ⟨rfl, rfl, rfl, rfl, rfl⟩ rfl rfl rfl rfl rfl (by kernel_rfl) Tryd.func4 (by kernel_rfl)
    (of_decide_eq_true (by kernel_rfl)) (by unfold Func.isWrapper; first | (rw [if_pos (by decide +kernel)]; kernel_rfl) | (rw [if_neg (by decide +kernel)]; exact ⟨rfl, rfl⟩))
    (fun os started H enc _ F => by rw [OpenClaim.pre_eq_preRow]; exact lifted os started H enc F)

/-- No parameter wants a stand-in; the program's own looks are off: what the card asks. -/
theorem plain (f : FuncId) (fn : Func) (hf : Tryd.pinned.checked.prog.funcNamed "wallgauge/wallgaugelaw02.LineSections" = some f) (hfn : Tryd.pinned.checked.prog.funcs[f]? = some fn) :
    false = Tryd.pinned.checked.prog.looks [] ∧ ∀ (j : Nat) t, fn.params[j]? = some t → Tryd.pinned.checked.prog.wantsStandIn t = false := by
  obtain rfl : f = 4 := Option.some.inj ((show Tryd.prog.funcNamed "wallgauge/wallgaugelaw02.LineSections" = some 4 by kernel_rfl).symm.trans hf) |>.symm
  obtain rfl : fn = Tryd.f4 := (Option.some.inj (Tryd.func4.symm.trans hfn)).symm
  refine ⟨by kernel_rfl, fun j t ht => ?_⟩
  rw [Tryd.params4] at ht
  have hm : t = 26 ∨ t = 3 := by simpa using Array.mem_of_getElem? ht
  rcases hm with rfl | rfl
  · exact (show Tryd.prog.wantsStandIn 26 = false by kernel_rfl)
  · exact (show Tryd.prog.wantsStandIn 3 = false by kernel_rfl)

theorem card : Rows.LineSectionsCardSaid :=
  Claim7.holds_tied_plain_at .later [] _ _ _ _ said (fun _ h => by cases h) (by kernel_rfl) (fun _ h => by cases h) lineSections_row_tie rfl ⟨rfl, rfl⟩ (by kernel_rfl) rfl plain (by kernel_rfl)
end Go.Proofs.YtbpifllkimkokaaDoor.lineSections
