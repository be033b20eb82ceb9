/-
  LineTools: for every line, tool and change the statement's function returns true, and its arguments read as they did: a smaller tool passes what the greater one passes, and a wider bend stops none that the narrower one lets pass.
  Conditions: none of mine. The package variables that the row lists hold what the program's text lays (the card ties them).
-/
import Derived.Test.YtbpifllkimkokaaDoorLtD
import Derived.Test.YtbpifllkimkokaaDoorLnW
namespace Go.Proofs.YtbpifllkimkokaaDoor.lineTools
open Go.ChangeShapes Go.WideShapes Go.ChangeAt Go.RowKit Go.Deep Go.Joins

theorem wf_u16 {z : Int} (h : (Lit.int .u16 z).wf = true) : 0 ≤ z ∧ z ≤ 65535 := by
  have h2 : IntKind.u16.min ≤ z ∧ z ≤ IntKind.u16.max := by simpa [Lit.wf] using h
  have e1 : IntKind.u16.min = 0 := by decide
  have e2 : IntKind.u16.max = 65535 := by decide
  rw [e1, e2] at h2
  exact h2
set_option maxRecDepth 100000 in
theorem open_u16 {H : Type} {enc : TypeId × Value → H} {w : World} {base b0 : Nat} {spare : Nat → Bool} {held : Bool} {r : Reach} {v : Value} {d : DataW H} {p : List MemPlace}
    (hv : Value.okWide Tryd.prog w r b0 75 v) (h : DataW.Trod enc Tryd.prog w base spare held 75 v d p) : ∃ z, v = .int .u16 z ∧ 0 ≤ z ∧ z ≤ 65535 := by
  obtain ⟨z, rfl, _, _, hw⟩ := open_int Tryd.underlying75 hv h
  exact ⟨z, rfl, wf_u16 hw⟩
set_option maxRecDepth 100000 in
theorem open_u16s {H : Type} {enc : TypeId × Value → H} {w : World} {base b0 : Nat} {spare : Nat → Bool} {held : Bool} {r : Reach} {v : Value} {d : DataW H} {p : List MemPlace}
    (hv : Value.okWide Tryd.prog w r b0 76 v) (h : DataW.Trod enc Tryd.prog w base spare held 76 v d p) :
    ∃ l0 l1 l2 l3, v = .agg #[.int .u16 l0, .int .u16 l1, .int .u16 l2, .int .u16 l3] ∧ (0 ≤ l0 ∧ l0 ≤ 65535) ∧ (0 ≤ l1 ∧ l1 ≤ 65535) ∧ (0 ≤ l2 ∧ l2 ≤ 65535) ∧ (0 ≤ l3 ∧ l3 ≤ 65535) := by
  have c4 : Tryd.prog.cellsOf 76 = 4 := by kernel_rfl
  have c1 : Tryd.prog.cellsOf 75 = 1 := by kernel_rfl
  obtain ⟨cs, rfl, hsz⟩ : ∃ cs, v = .agg cs ∧ cs.size = Tryd.prog.cellsOf 76 := by
    simp only [Value.okWide, Tryd.underlying76] at hv
    obtain ⟨cs, h1, h2, _⟩ := hv
    exact ⟨cs, h1, h2⟩
  obtain ⟨a0, a1, a2, a3, rfl⟩ := array4 (hsz.trans c4)
  obtain ⟨fuel, hf⟩ := h
  obtain ⟨xs, m, _, _, _, hl, hel⟩ := DataW.trod_array Tryd.underlying76 hf
  match xs, hl with
  | [x0, x1, x2, x3], _ =>
    have k0 := hel 0 (by omega); have k1 := hel 1 (by omega); have k2 := hel 2 (by omega); have k3 := hel 3 (by omega)
    rw [c1] at k0 k1 k2 k3
    obtain ⟨z0, e0, _, w0⟩ := DataW.trod_int Tryd.underlying75 k0
    obtain ⟨z1, e1, _, w1⟩ := DataW.trod_int Tryd.underlying75 k1
    obtain ⟨z2, e2, _, w2⟩ := DataW.trod_int Tryd.underlying75 k2
    obtain ⟨z3, e3, _, w3⟩ := DataW.trod_int Tryd.underlying75 k3
    have f0 : a0 = .int .u16 z0 := by simpa [Value.cells] using e0
    have f1 : a1 = .int .u16 z1 := by simpa [Value.cells] using e1
    have f2 : a2 = .int .u16 z2 := by simpa [Value.cells] using e2
    have f3 : a3 = .int .u16 z3 := by simpa [Value.cells] using e3
    subst f0 f1 f2 f3
    exact ⟨z0, z1, z2, z3, rfl, wf_u16 w0, wf_u16 w1, wf_u16 w2, wf_u16 w3⟩

/-- What the row's list gives: the variables that the example reads. -/
theorem glob {W : World} (h : laidMetH Tryd.prog Rows.lineToolsRow.laid W) : Glob W := by
  have h0 : laidMet Tryd.prog Rows.lineToolsRow.laid W := h
  exact glob_of (laid_tail (laid_tail h0))

set_option maxRecDepth 100000 in
/-- WHAT THE WALK GIVES, FOR EVERY ARGUMENT AND EVERY WORLD. -/
theorem contract (H : Type) (enc : TypeId × Value → H) (W : World) (base : Nat) (args : Array Value) (ds gs : List (DataW H)) (before : List MemPlace)
    (hval : ∀ (j : Nat) t v, Tryd.f8.params[j]? = some t → args[j]? = some v → Value.okWide Tryd.prog W .any base t v)
    (hW : DataW.Whole enc Tryd.prog Tryd.f8.params.toList Rows.lineToolsSpec.vars false W args.toList ds gs before) (hL : laidMetH Tryd.prog Rows.lineToolsRow.laid W) :
    Calls Tryd.prog 8 args W fun e W' => ∃ v, e = .returned v ∧ Rows.lineToolsSpec.post enc Tryd.prog Tryd.f8 false true false false W args v W' := by
  have hW' := hW
  obtain ⟨p, q, hA0, hV, rfl, hfz, hnd⟩ := hW
  have hA : DataW.TrodAll enc Tryd.prog W 0 (fun _ => true) true Tryd.f8.params.toList args.toList ds p := hA0
  have hAk := hA
  rw [Tryd.params8] at hA hval
  obtain ⟨v0, vs0, d0, ds0, p0, q0, hargs, rfl, rfl, h0, r0⟩ := trodAll_cons hA
  obtain ⟨v1, vs1, d1, ds1, p1, q1, hargs1, rfl, rfl, h1, r1⟩ := trodAll_cons r0
  obtain ⟨v2, vs2, d2, ds2, p2, q2, hargs2, rfl, rfl, h2, r2⟩ := trodAll_cons r1
  obtain ⟨v3, vs3, d3, ds3, p3, q3, hargs3, rfl, rfl, h3, r3⟩ := trodAll_cons r2
  obtain ⟨rfl, rfl, rfl⟩ := trodAll_nil r3
  subst hargs3
  subst hargs2
  subst hargs1
  obtain rfl : args = #[v0, v1, v2, v3] := by cases args; simp_all
  obtain ⟨rfl, rfl⟩ := trodVars_none hV
  have hk0 := hval 0 26 v0 rfl rfl
  have hk1 := hval 1 63 v1 rfl rfl
  have hk2 := hval 2 76 v2 rfl rfl
  have hk3 := hval 3 75 v3 rfl rfl
  clear hval hA hA0
  obtain ⟨x0, x1, x2, y0, y1, y2, n0, rfl, _, _, e0, e1, e2⟩ := open_agg3 Tryd.underlying26 (by kernel_rfl) (by kernel_rfl) hk0 h0
  obtain ⟨a, n, c, f, rfl, hn, hS, _⟩ := open_ints_s (s := 7) Tryd.underlying22 Tryd.underlying72 (by kernel_rfl) (by kernel_rfl) rfl (by decide) (fields_int (n := 7) rfl) e0
  obtain ⟨za, nz, zc, z, rfl, hnz, hZ, _⟩ := open_ints_s (s := 3) Tryd.underlying23 Tryd.underlying84 (by kernel_rfl) (by kernel_rfl) rfl (by decide) (fields_int (n := 3) rfl) e1
  obtain ⟨la, nl, lc, m, rfl, hnl, hM, _⟩ := open_ints_s (s := 2) Tryd.underlying24 Tryd.underlying104 (by kernel_rfl) (by kernel_rfl) rfl (by decide) (fields_int (n := 2) rfl) e2
  obtain ⟨u0, u1, u2, u3, z0, z1, z2, z3, n1, rfl, _, _, g0, g1, g2, g3⟩ := open_agg4 Tryd.underlying63 (by kernel_rfl) (by kernel_rfl) hk1 h1
  obtain ⟨S, s0, _, _⟩ := DataW.trod_int Tryd.underlying3 g0
  obtain ⟨T, s1, _, _⟩ := DataW.trod_int Tryd.underlying3 g1
  obtain ⟨N, s2, _, _⟩ := DataW.trod_int Tryd.underlying3 g2
  obtain ⟨Q, s3, _, _⟩ := DataW.trod_int Tryd.underlying3 g3
  simp only [List.cons.injEq, and_true] at s0 s1 s2 s3
  subst s0 s1 s2 s3
  obtain ⟨l0, l1, l2, l3, rfl, hl0, hl1, hl2, hl3⟩ := open_u16s hk2 h2
  obtain ⟨wd, rfl, hwd⟩ := open_u16 hk3 h3
  simp only [List.append_nil] at hW' hAk
  have walk : Calls Tryd.prog 8 #[.agg #[.slice a n c, .slice za nz zc, .slice la nl lc], .agg #[.int .i64 S, .int .i64 T, .int .i64 N, .int .i64 Q], .agg #[.int .u16 l0, .int .u16 l1, .int .u16 l2, .int .u16 l3], .int .u16 wd] W fun e w' => e = .returned (.bool true) ∧ Below W.heap.size W w' := by
    by_cases h : n ≤ 70 ∧ nz ≤ 70 ∧ nl ≤ 70
    · by_cases hr : (n ≤ 12 ∧ nz ≤ 12 ∧ nl ≤ 12) ∧ chk n nz nl f z m = 0
      · exact toolsLaw_yes W a za la n c nz zc nl lc f z m S T N Q l0 l1 l2 l3 wd (glob hL) hr hS hZ hM hl0 hl1 hl2 hl3 hwd
      · refine toolsLaw_no W a za la n c nz zc nl lc S T N Q l0 l1 l2 l3 wd (glob hL) (fun w' hb => ?_)
        have := right_near w' a za la n c nz zc nl lc f z m h (hS.keep (by omega) hb) (hZ.keep (by omega) hb) (hM.keep (by omega) hb)
        rwa [show decide ((n ≤ 12 ∧ nz ≤ 12 ∧ nl ≤ 12) ∧ chk n nz nl f z m = 0) = false by simpa using hr] at this
    · exact toolsLaw_no W a za la n c nz zc nl lc S T N Q l0 l1 l2 l3 wd (glob hL) (fun w' hb => right_far w' a za la n c nz zc nl lc f z m (by omega) ⟨hn, hnz, hnl⟩)
  refine walk.mono fun e W' ⟨he, hb⟩ => ?_
  subst he
  exact ⟨_, rfl, post_of_below (pv := []) hW' (fun _ _ _ => trodAll_cons_mk (shut_bool Tryd.underlying4 _) trodAll_mk0) (fun sp hsp => trodAll_below hb (DataW.TrodAll.respare x_kids x_full (by rw [Tryd.params8]; decide) hAk (fun p hp => hsp p (by simpa using hp)))) (fun _ _ => rfl) (by simp)
    hb (ok_one (by kernel_rfl) rfl (okWide_bool_mk Tryd.underlying4 _))⟩

/-- The witness: no items, zeros. -/
def wArgs : Array Value := #[.agg #[.slice none 0 0, .slice none 0 0, .slice none 0 0], .agg #[.int .i64 0, .int .i64 0, .int .i64 0, .int .i64 0], .agg #[.int .u16 0, .int .u16 0, .int .u16 0, .int .u16 0], .int .u16 0]
theorem reads (os : Os) {H : Type} (enc : TypeId × Value → H) : ∃ places, DataW.whole enc Tryd.prog ((World.laidAll Tryd.prog os Rows.lineToolsRow.laid).forCall (fun _ _ => 0) ⟨#[], wArgs, []⟩).memory Tryd.f8.params.toList Rows.lineToolsSpec.vars false wArgs.toList 8 = some ([.agg [.nil, .nil, .nil], .agg [.lit (.int .i64 0), .lit (.int .i64 0), .lit (.int .i64 0), .lit (.int .i64 0)], .agg [.lit (.int .u16 0), .lit (.int .u16 0), .lit (.int .u16 0), .lit (.int .u16 0)], .lit (.int .u16 0)], [], places) :=
  ⟨[], by kernel_rfl⟩

set_option maxRecDepth 100000 in
theorem lifted (os : Os) (started : os.Started) (H : Type) (enc : TypeId × Value → H) (F : Stop.Interp) :
    ReturnsInHanded {} Tryd.checked os 8 .any ((OpenSpec.ofChange Rows.lineToolsSpec).preRow enc Tryd.prog Tryd.f8 Rows.lineToolsRow.domain false Rows.lineToolsRow.laid) (((OpenSpec.ofChange Rows.lineToolsSpec).at F).post enc Tryd.prog Tryd.f8 false true false false) := by
  obtain ⟨places, hx⟩ := reads os enc
  refine returnsInHanded_of_row (C := Tryd.checked) (s := OpenSpec.ofChange Rows.lineToolsSpec) own started (by kernel_rfl) Tryd.func8
    (witness_row_at (enc := enc) (C := Tryd.checked) false (World.laidAll Tryd.prog os Rows.lineToolsRow.laid) wArgs (World.laidAll_os _ _ _) (by kernel_rfl) (by kernel_rfl) (by kernel_rfl)
      (OpenSpec.preRow_of_cond 8 hx (by kernel_rfl) (fun k hk => by cases hk) (by kernel_rfl) (laidMet_laidAll _ (by kernel_rfl) (by kernel_rfl)))) ?_
  intro W base args ds gs before hval hW _ _ _ hL _ _
  exact contract H enc W base args ds gs before hval hW hL

theorem said : Rows.LineToolsSaid :=
  OpenClaim.holds_of_cond 8 Tryd.f8 rfl rfl rfl rfl rfl rfl rfl ⟨rfl, rfl, rfl, rfl, rfl⟩ rfl rfl rfl rfl rfl (by kernel_rfl) Tryd.func8 (by kernel_rfl)
    (of_decide_eq_true (by kernel_rfl)) (by unfold Func.isWrapper; first | (rw [if_pos (by decide +kernel)]; kernel_rfl) | (rw [if_neg (by decide +kernel)]; exact ⟨rfl, rfl⟩))
    (fun os started H enc _ F => by rw [OpenClaim.pre_eq_preRow]; exact lifted os started H enc F)

/-- No parameter wants a stand-in; the program's own looks are off: what the card asks. -/
theorem plain (f : FuncId) (fn : Func) (hf : Tryd.pinned.checked.prog.funcNamed "wallgauge/wallgaugelaw02.LineTools" = some f) (hfn : Tryd.pinned.checked.prog.funcs[f]? = some fn) :
    false = Tryd.pinned.checked.prog.looks [] ∧ ∀ (j : Nat) t, fn.params[j]? = some t → Tryd.pinned.checked.prog.wantsStandIn t = false := by
  obtain rfl : f = 8 := Option.some.inj ((show Tryd.prog.funcNamed "wallgauge/wallgaugelaw02.LineTools" = some 8 by kernel_rfl).symm.trans hf) |>.symm
  obtain rfl : fn = Tryd.f8 := (Option.some.inj (Tryd.func8.symm.trans hfn)).symm
  refine ⟨by kernel_rfl, fun j t ht => ?_⟩
  rw [Tryd.params8] at ht
  have hm : t = 26 ∨ t = 63 ∨ t = 76 ∨ t = 75 := by simpa using Array.mem_of_getElem? ht
  rcases hm with rfl | rfl | rfl | rfl
  · exact (show Tryd.prog.wantsStandIn 26 = false by kernel_rfl)
  · exact (show Tryd.prog.wantsStandIn 63 = false by kernel_rfl)
  · exact (show Tryd.prog.wantsStandIn 76 = false by kernel_rfl)
  · exact (show Tryd.prog.wantsStandIn 75 = false by kernel_rfl)

theorem card : Rows.LineToolsCardSaid :=
  Claim7.holds_tied_plain_at .later [] _ _ _ _ said (fun _ h => by cases h) (by kernel_rfl) (fun _ h => by cases h) lineTools_row_tie rfl ⟨rfl, rfl⟩ (by kernel_rfl) rfl plain (by kernel_rfl)
end Go.Proofs.YtbpifllkimkokaaDoor.lineTools
