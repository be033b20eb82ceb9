/-
  PlaceCheapest: for all steps, calls, costs, alignments that are handed in and every call the statement's function returns true, and its arguments read as they did: no alignment that is handed in costs less than Align tells; its pairs have this cost, which Floor of Prices proves; each weld and each call is in just one pair, or missing; calls at all welds cost 0; one call less changes the cost by at most Lost and False; and the document's example holds.
  Conditions: none.
-/
import Derived.Test.YtonlamkpehakdaaPzE
import Derived.Test.YtonlamkpehakdaaPrW
namespace Go.Proofs.Ytonlamkpehakdaa.placeCheapest
open Go.ChangeShapes Go.WideShapes Go.ChangeAt Go.RowKit Go.Deep Go.Joins

theorem wf_k {k : IntKind} {z : Int} (h : (Lit.int k z).wf = true) : k.min ≤ z ∧ z ≤ k.max := by simpa [Lit.wf] using h
/-- The numbers of a kind from an address on. -/
def numAt (k : IntKind) (w : World) (a : Addr) (i : Nat) : Int := match w.cell? (a.add i) with
  | some (.int k' z) => if k' = k then z else 0
  | _ => 0
theorem numAt_eq {k : IntKind} {w : World} {a : Addr} {i : Nat} {z : Int} (h : w.cell? (a.add i) = some (.int k z)) : numAt k w a i = z := by
  unfold numAt; rw [h]; simp
theorem nums_of {k : IntKind} {w : World} {a : Addr} {n : Nat} (h : ∀ i, i < n → ∃ z, w.cell? (a.add i) = some (.int k z) ∧ k.min ≤ z ∧ z ≤ k.max) :
    (0 < n → ∃ b o, some a = some (⟨b, o, none⟩ : Addr) ∧ ∀ i, i < n → w.cell? ⟨b, o + i, none⟩ = some (.int k (numAt k w a i))) ∧ ∀ i, i < n → k.min ≤ numAt k w a i ∧ numAt k w a i ≤ k.max := by
  refine ⟨fun hn => ?_, fun i hi => ?_⟩
  · obtain ⟨b, o, sp⟩ := a
    obtain ⟨z0, h0, _⟩ := h 0 (by omega)
    have hsp : sp = none := by
      cases sp with
      | none => rfl
      | some x =>
        exfalso
        simp only [Addr.add, if_true, World.cell?] at h0
        cases hg : w.heap[b]? with
        | none => simp [hg] at h0
        | some ob => cases ob <;> simp [hg] at h0
    subst hsp
    refine ⟨b, o, rfl, fun i hi => ?_⟩
    obtain ⟨z, hz, _⟩ := h i hi
    have e : (⟨b, o, none⟩ : Addr).add i = ⟨b, o + i, none⟩ := by
      by_cases e : i = 0
      · subst e; simp [Addr.add]
      · simp [Addr.add, e]
    rw [numAt_eq hz, ← e]
    exact hz
  · obtain ⟨z, hz, hb⟩ := h i hi
    rw [numAt_eq hz]
    exact hb
theorem sy_of {s : Nat} {w : World} {a : Option Addr} {n : Nat} {g : Nat → Int} (h : 0 < n * s → ∃ b o, a = some (⟨b, o, none⟩ : Addr) ∧ ∀ i, i < n * s → w.cell? ⟨b, o + i, none⟩ = some (.int .u8 (g i))) (hs : 0 < s := by decide) : Sy s w a n g := fun hn => by
  obtain ⟨b, o, e, hc⟩ := h (Nat.mul_pos hn hs)
  exact ⟨b, o, e, cell_lt (hc 0 (Nat.mul_pos hn hs)), hc⟩
set_option maxRecDepth 100000 in
/-- A slice of bytes. -/
theorem open_w8 {H : Type} {enc : TypeId × Value → H} {w : World} {base b0 : Nat} {spare : Nat → Bool} {held : Bool} {r : Reach} {v : Value} {d : DataW H} {p : List MemPlace}
    (hv : Value.okWide Try.prog w r b0 82 v) (h : DataW.Trod enc Try.prog w base spare held 82 v d p) : ∃ a n c s, v = .slice a n c ∧ n ≤ maxLen ∧ Sy 1 w a n s ∧ ∀ i, i < n → 0 ≤ s i ∧ s i ≤ 255 := by
  obtain ⟨a0, len, cap, rfl⟩ := okWide_slice Try.underlying82 hv
  obtain ⟨fuel, hf⟩ := h
  rcases open_ints Try.underlying82 Try.underlying5 (by kernel_rfl) hf with ⟨hcs, _⟩ | ⟨a, len', cap', zs, hcs, _, hl, hm, hz, _, hcell, hwz⟩
  · simp [Value.cells] at hcs
    obtain ⟨rfl, rfl, rfl⟩ := hcs
    exact ⟨none, 0, 0, fun _ => 0, rfl, by decide, fun h => absurd h (by decide), fun i hi => absurd hi (by omega)⟩
  · simp [Value.cells] at hcs
    obtain ⟨rfl, rfl, rfl⟩ := hcs
    have h1 := nums_of (k := .u8) (w := w) (a := a) (n := len) (fun i hi => by
      have hi2 : i < zs.length := by rw [hz]; split <;> omega
      have hc := hcell i hi2
      refine ⟨_, by simpa using hc, wf_k (hwz _ ?_)⟩
      simp [hi2])
    exact ⟨some a, len, cap, numAt .u8 w a, rfl, by omega, sy_of (by rw [Nat.mul_one]; exact h1.1), h1.2⟩
set_option maxRecDepth 100000 in
/-- A slice of pairs of bytes. -/
theorem open_pr8 {H : Type} {enc : TypeId × Value → H} {w : World} {base b0 : Nat} {spare : Nat → Bool} {held : Bool} {r : Reach} {v : Value} {d : DataW H} {p : List MemPlace}
    (hv : Value.okWide Try.prog w r b0 83 v) (h : DataW.Trod enc Try.prog w base spare held 83 v d p) : ∃ a n c g, v = .slice a n c ∧ n ≤ maxLen ∧ Sy 2 w a n g ∧ ∀ i, i < n * 2 → 0 ≤ g i ∧ g i ≤ 255 := by
  obtain ⟨a0, len, cap, rfl⟩ := okWide_slice Try.underlying83 hv
  obtain ⟨fuel, hf⟩ := h
  have hC : Try.prog.cellsOf 84 = 2 := by kernel_rfl
  have hC1 : Try.prog.cellsOf 5 = 1 := by kernel_rfl
  have hf' : DataW.trod enc Try.prog w base spare held fuel 83 [.slice a0 len cap] = some (d, p) := hf
  rcases open_slice Try.underlying83 hf' with h0 | ⟨a, len', cap', m, k, D, Pl, hcs, hb, hl, hm, hmm, hx, hi⟩
  · have h1 := h0.1
    simp only [List.cons.injEq, and_true, Value.slice.injEq] at h1
    obtain ⟨rfl, rfl, rfl⟩ := h1
    exact ⟨none, 0, 0, fun _ => 0, rfl, by decide, fun h => absurd h (by decide), fun i hi => absurd hi (by omega)⟩
  · simp only [List.cons.injEq, and_true, Value.slice.injEq] at hcs
    obtain ⟨rfl, rfl, rfl⟩ := hcs
    have h0 : ∀ i, i < len → ∀ j, j < 2 → ∃ z, w.cell? (a.add (i * 2 + j)) = some (.int .u8 z) ∧ IntKind.u8.min ≤ z ∧ z ≤ IntKind.u8.max := (fun i hi2 j hj => by
      obtain ⟨cs', hc, ht'⟩ := hi i (by rw [hmm]; split <;> omega)
      rw [hC] at hc
      obtain ⟨_, hcl, hat⟩ := World.cells?_some hc
      obtain ⟨xs, m', _, _, _, hxl, hel⟩ := DataW.trod_array Try.underlying84 ht'
      have hcell := hat j hj
      have he := hel j hj
      rw [hC1, Nat.mul_one] at he
      have hone : (cs'.drop j).take 1 = [cs'[j]'(by omega)] := by
        rw [List.drop_eq_getElem_cons (by omega)]
        rfl
      rw [hone, List.getElem?_eq_getElem (by omega)] at he
      obtain ⟨z, hz, _, hwf⟩ := DataW.trod_int Try.underlying5 he
      simp only [List.cons.injEq, and_true] at hz
      refine ⟨z, ?_, wf_k hwf⟩
      rw [← Go.Deep.add_add, hcell, List.getElem?_eq_getElem (by omega), hz])
    have h1 := nums_of (k := .u8) (w := w) (a := a) (n := len * 2) (fun k hk => by
      have h2 := h0 (k / 2) (by omega) (k % 2) (by omega)
      rwa [Nat.div_add_mod' k 2] at h2)
    exact ⟨some a, len, cap, numAt .u8 w a, rfl, by omega, sy_of h1.1, h1.2⟩

section
variable {P : Program} {H : Type} {enc : TypeId × Value → H} {w : World} {base b0 : Nat} {spare : Nat → Bool} {held : Bool} {r : Reach} {t e : TypeId} {k : IntKind} {v : Value} {d : DataW H} {p : List MemPlace}
theorem open_k (ht : P.underlying t = some (.int k)) (hv : Value.okWide P w r b0 t v) (h : DataW.Trod enc P w base spare held t v d p) : ∃ z, v = .int k z ∧ k.min ≤ z ∧ z ≤ k.max := by
  obtain ⟨z, rfl, _, _, hw⟩ := open_int ht hv h
  exact ⟨z, rfl, wf_k hw⟩
theorem open_arr3 (ht : P.underlying t = some (.array 3 e)) (he : P.underlying e = some (.int k)) (h1 : P.cellsOf e = 1) (h3 : P.cellsOf t = 3) (hv : Value.okWide P w r b0 t v) (h : DataW.Trod enc P w base spare held t v d p) :
    ∃ a b c, v = .agg #[.int k a, .int k b, .int k c] ∧ (k.min ≤ a ∧ a ≤ k.max) ∧ (k.min ≤ b ∧ b ≤ k.max) ∧ k.min ≤ c ∧ c ≤ k.max := by
  simp only [Value.okWide, ht] at hv
  obtain ⟨cs, rfl, hz, _⟩ := hv
  rw [h3] at hz
  obtain ⟨fuel, hf⟩ := h
  obtain ⟨xs, m, _, _, _, hl, hel⟩ := DataW.trod_array ht hf
  obtain ⟨l⟩ := cs
  match l, hz with
  | [a, b, c], _ =>
    match xs, hl with
    | [x0, x1, x2], _ =>
      have k0 := hel 0 (by omega)
      have k1 := hel 1 (by omega)
      have k2 := hel 2 (by omega)
      rw [h1] at k0 k1 k2
      obtain ⟨z0, a0, _, w0⟩ := DataW.trod_int he k0
      obtain ⟨z1, a1, _, w1⟩ := DataW.trod_int he k1
      obtain ⟨z2, a2, _, w2⟩ := DataW.trod_int he k2
      have e0 : a = .int k z0 := by simpa [Value.cells] using a0
      have e1 : b = .int k z1 := by simpa [Value.cells] using a1
      have e2 : c = .int k z2 := by simpa [Value.cells] using a2
      subst e0 e1 e2
      exact ⟨z0, z1, z2, rfl, wf_k w0, wf_k w1, wf_k w2⟩
end
set_option maxRecDepth 100000 in
/-- WHAT THE WALK GIVES, FOR EVERY ARGUMENT AND EVERY WORLD. -/
theorem contract (H : Type) (enc : TypeId × Value → H) (W : World) (base : Nat) (args : Array Value) (ds gs : List (DataW H)) (before : List MemPlace)
    (hval : ∀ (j : Nat) t v, Try.f11.params[j]? = some t → args[j]? = some v → Value.okWide Try.prog W .any base t v)
    (hW : DataW.Whole enc Try.prog Try.f11.params.toList Rows.placeCheapestSpec.vars false W args.toList ds gs before) :
    Calls Try.prog 11 args W fun e W' => ∃ v, e = .returned v ∧ Rows.placeCheapestSpec.post enc Try.prog Try.f11 false true false false W args v W' := by
  have hW' := hW
  obtain ⟨p, q, hA0, hV, rfl, hfz, hnd⟩ := hW
  have hA : DataW.TrodAll enc Try.prog W 0 (fun _ => true) true Try.f11.params.toList args.toList ds p := hA0
  have hAk := hA
  rw [Try.params11] at hA hval
  obtain ⟨v0, vs0, d0, ds0, p0, q0, hargs, rfl, rfl, h0, r0⟩ := trodAll_cons hA
  obtain ⟨v1, vs1, d1, ds1, p1, q1, hargs1, rfl, rfl, h1, r1⟩ := trodAll_cons r0
  obtain ⟨v2, vs2, d2, ds2, p2, q2, hargs2, rfl, rfl, h2, r2⟩ := trodAll_cons r1
  obtain ⟨v3, vs3, d3, ds3, p3, q3, hargs3, rfl, rfl, h3, r3⟩ := trodAll_cons r2
  obtain ⟨v4, vs4, d4, ds4, p4, q4, hargs4, rfl, rfl, h4, r4⟩ := trodAll_cons r3
  obtain ⟨rfl, rfl, rfl⟩ := trodAll_nil r4
  subst hargs4
  subst hargs3
  subst hargs2
  subst hargs1
  obtain rfl : args = #[v0, v1, v2, v3, v4] := by cases args; simp_all
  obtain ⟨rfl, rfl⟩ := trodVars_none hV
  have hk0 := hval 0 82 v0 rfl rfl
  have hk1 := hval 1 83 v1 rfl rfl
  have hk2 := hval 2 52 v2 rfl rfl
  have hk3 := hval 3 83 v3 rfl rfl
  have hk4 := hval 4 5 v4 rfl rfl
  clear hval hA hA0
  obtain ⟨a1, n, c1, s, rfl, hn, hS1, hs⟩ := open_w8 hk0 h0
  obtain ⟨a2, m, c2, d, rfl, hm, hS2, hd⟩ := open_pr8 hk1 h1
  obtain ⟨cL, cF, cM, rfl, hcL, hcF, hcM⟩ := open_arr3 (k := .u8) Try.underlying52 Try.underlying5 (by kernel_rfl) (by kernel_rfl) hk2 h2
  obtain ⟨a3, l, c3, q, rfl, hl, hS3, hq⟩ := open_pr8 hk3 h3
  obtain ⟨z, rfl, hwz⟩ := open_k (k := .u8) Try.underlying5 hk4 h4
  simp only [List.append_nil] at hW' hAk
  refine (cheapest_law W a1 n c1 s a2 m c2 d cL cF cM a3 l c3 q z hn hm hl hs hd hq hcL hcF hcM hwz hS1 hS2 hS3).mono fun e W' ⟨he, hb⟩ => ?_
  subst he
  exact ⟨_, rfl, post_of_below (pv := []) hW' (fun _ _ _ => trodAll_cons_mk (shut_bool Try.underlying4 _) trodAll_mk0) (fun sp hsp => trodAll_below hb (DataW.TrodAll.respare x_kids x_full (by rw [Try.params11]; decide) hAk (fun p hp => hsp p (by simpa using hp)))) (fun _ _ => rfl) (by simp)
    hb (ok_one (by kernel_rfl) rfl (okWide_bool_mk Try.underlying4 _))⟩

set_option maxRecDepth 100000 in
theorem lifted (os : Os) (started : os.Started) (H : Type) (enc : TypeId × Value → H) :
    ReturnsInHanded {} Try.checked os 11 .any (Rows.placeCheapestSpec.pre6 enc Try.prog Try.f11 Rows.placeCheapestRow.domain false) (Rows.placeCheapestSpec.post enc Try.prog Try.f11 false true false false) := by
  refine returnsInHanded_of_change (C := Try.checked) own started (by kernel_rfl) Try.func11
    (ChangeSpec.witness6 (enc := enc) (C := Try.checked) false ⟨#[], #[.slice none 0 0, .slice none 0 0, .agg #[.int .u8 0, .int .u8 0, .int .u8 0], .slice none 0 0, .int .u8 0], []⟩ 8 (by kernel_rfl) (by kernel_rfl) (by kernel_rfl) (by kernel_rfl)) ?_
  intro W base args ds gs before hval hW _ _
  exact contract H enc W base args ds gs before hval hW

theorem said : Rows.PlaceCheapestSaid :=
  OpenClaim.holds_of_wide 11 Try.f11 rfl rfl rfl rfl rfl rfl rfl ⟨rfl, rfl, rfl, rfl, rfl⟩ rfl rfl rfl rfl rfl (by kernel_rfl) Try.func11 (by kernel_rfl)
    (of_decide_eq_true (by kernel_rfl)) (by unfold Func.isWrapper; first | (rw [if_pos (by decide +kernel)]; kernel_rfl) | (rw [if_neg (by decide +kernel)]; exact ⟨rfl, rfl⟩))
    (fun os started H enc _ => lifted os started H enc)
end Go.Proofs.Ytonlamkpehakdaa.placeCheapest
