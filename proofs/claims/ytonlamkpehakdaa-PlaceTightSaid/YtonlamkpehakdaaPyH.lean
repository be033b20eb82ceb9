/-
  PlaceTight: for all steps and all that is known of their places the statement's function returns true, and its arguments read as they did: the greatest places of all events that have one keep all bounds among them, and so do the least ones; each is proved by a chain that allows just it; and the document's example holds.
  Conditions: none.
-/
import Derived.Test.YtonlamkpehakdaaPyG
import Derived.Test.YtonlamkpehakdaaPrW
namespace Go.Proofs.Ytonlamkpehakdaa.placeTight
open Go.ChangeShapes Go.WideShapes Go.ChangeAt Go.RowKit Go.Deep Go.Joins

theorem wf_k {k : IntKind} {z : Int} (h : (Lit.int k z).wf = true) : k.min ≤ z ∧ z ≤ k.max := by simpa [Lit.wf] using h
/-- The numbers of a kind from an address on. -/
def numAt (k : IntKind) (w : World) (a : Addr) (i : Nat) : Int := match w.cell? (a.add i) with
  | some (.int k' z) => if k' = k then z else 0
  | _ => 0
theorem numAt_eq {k : IntKind} {w : World} {a : Addr} {i : Nat} {z : Int} (h : w.cell? (a.add i) = some (.int k z)) : numAt k w a i = z := by
  unfold numAt; rw [h]; simp
theorem nums_of {k : IntKind} {w : World} {a : Addr} {n : Nat} (h : ∀ i, i < n → ∃ z, w.cell? (a.add i) = some (.int k z) ∧ k.min ≤ z ∧ z ≤ k.max) :
    (0 < n → ∃ b o, some a = some (⟨b, o, none⟩ : Addr) ∧ ∀ i, i < n → w.cell? ⟨b, o + i, none⟩ = some (.int k (numAt k w a i))) ∧ ∀ i, i < n → k.min ≤ numAt k w a i ∧ numAt k w a i ≤ k.max := by
  refine ⟨fun hn => ?_, fun i hi => ?_⟩
  · obtain ⟨b, o, sp⟩ := a
    obtain ⟨z0, h0, _⟩ := h 0 (by omega)
    have hsp : sp = none := by
      cases sp with
      | none => rfl
      | some x =>
        exfalso
        simp only [Addr.add, if_true, World.cell?] at h0
        cases hg : w.heap[b]? with
        | none => simp [hg] at h0
        | some ob => cases ob <;> simp [hg] at h0
    subst hsp
    refine ⟨b, o, rfl, fun i hi => ?_⟩
    obtain ⟨z, hz, _⟩ := h i hi
    have e : (⟨b, o, none⟩ : Addr).add i = ⟨b, o + i, none⟩ := by
      by_cases e : i = 0
      · subst e; simp [Addr.add]
      · simp [Addr.add, e]
    rw [numAt_eq hz, ← e]
    exact hz
  · obtain ⟨z, hz, hb⟩ := h i hi
    rw [numAt_eq hz]
    exact hb
set_option maxRecDepth 100000 in
/-- A slice of numbers of 16 bits. -/
theorem open_w16 {H : Type} {enc : TypeId × Value → H} {w : World} {base b0 : Nat} {spare : Nat → Bool} {held : Bool} {r : Reach} {v : Value} {d : DataW H} {p : List MemPlace}
    (hv : Value.okWide Try.prog w r b0 88 v) (h : DataW.Trod enc Try.prog w base spare held 88 v d p) : ∃ a n c s, v = .slice a n c ∧ n ≤ maxLen ∧ Sh w a n s ∧ ∀ i, i < n → 0 ≤ s i ∧ s i ≤ 65535 := by
  obtain ⟨a0, len, cap, rfl⟩ := okWide_slice Try.underlying88 hv
  obtain ⟨fuel, hf⟩ := h
  rcases open_ints Try.underlying88 Try.underlying152 (by kernel_rfl) hf with ⟨hcs, _⟩ | ⟨a, len', cap', zs, hcs, _, hl, hm, hz, _, hcell, hwz⟩
  · simp [Value.cells] at hcs
    obtain ⟨rfl, rfl, rfl⟩ := hcs
    exact ⟨none, 0, 0, fun _ => 0, rfl, by decide, fun h => absurd h (by decide), fun i hi => absurd hi (by omega)⟩
  · simp [Value.cells] at hcs
    obtain ⟨rfl, rfl, rfl⟩ := hcs
    have h1 := nums_of (k := .u16) (w := w) (a := a) (n := len) (fun i hi => by
      have hi2 : i < zs.length := by rw [hz]; split <;> omega
      have hc := hcell i hi2
      refine ⟨_, by simpa using hc, wf_k (hwz _ ?_)⟩
      simp [hi2])
    exact ⟨some a, len, cap, numAt .u16 w a, rfl, by omega, h1.1, h1.2⟩
theorem fields_u8 {n : Nat} {fs : Array Field} (h : fs.toList.map (·.type) = List.replicate n 5) : ∀ (j : Nat) (f : Field), fs[j]? = some f → f.type = 5 := by
  intro j f hj
  have h1 : (fs.toList.map (·.type))[j]? = some f.type := by
    rw [List.getElem?_map, Array.getElem?_toList, hj]; rfl
  rw [h, List.getElem?_replicate] at h1
  split at h1
  · exact (Option.some.inj h1).symm
  · cases h1
set_option maxRecDepth 100000 in
/-- A slice of what is known. -/
theorem open_kn {H : Type} {enc : TypeId × Value → H} {w : World} {base b0 : Nat} {spare : Nat → Bool} {held : Bool} {r : Reach} {v : Value} {d : DataW H} {p : List MemPlace}
    (hv : Value.okWide Try.prog w r b0 89 v) (h : DataW.Trod enc Try.prog w base spare held 89 v d p) : ∃ a n c g, v = .slice a n c ∧ n ≤ maxLen ∧ Sq w a n g ∧ ∀ i, i < n * 4 → 0 ≤ g i ∧ g i ≤ 255 := by
  obtain ⟨a0, len, cap, rfl⟩ := okWide_slice Try.underlying89 hv
  obtain ⟨fuel, hf⟩ := h
  have hf' : DataW.trod enc Try.prog w base spare held fuel 89 [.slice a0 len cap] = some (d, p) := hf
  rcases open_slice_fields Try.underlying89 Try.underlying91 (by kernel_rfl) (by kernel_rfl) hf' with h0 | ⟨a, len', cap', h0, hl, hm, hfl⟩
  · simp only [List.cons.injEq, and_true, Value.slice.injEq] at h0
    obtain ⟨rfl, rfl, rfl⟩ := h0
    exact ⟨none, 0, 0, fun _ => 0, rfl, by decide, fun h => absurd h (by decide), fun i hi => absurd hi (by omega)⟩
  · simp only [List.cons.injEq, and_true, Value.slice.injEq] at h0
    obtain ⟨rfl, rfl, rfl⟩ := h0
    have h1 := nums_of (k := .u8) (w := w) (a := a) (n := len * 4) (fun q hq => by
      obtain ⟨v', n', y, hc, hy⟩ := hfl (q / 4) (by omega) (q % 4) _ (Array.getElem?_eq_getElem (show q % 4 < 4 by omega))
      rw [fields_u8 (n := 4) rfl (q % 4) _ (Array.getElem?_eq_getElem (show q % 4 < 4 by omega))] at hy
      obtain ⟨z, hz, _, hwf⟩ := DataW.trod_int Try.underlying5 hy
      simp only [List.cons.injEq, and_true] at hz
      rw [hz] at hc
      have hc' : w.cell? (a.add (q / 4 * 4 + q % 4)) = some (.int .u8 z) := hc
      rw [Nat.div_add_mod' q 4] at hc'
      exact ⟨z, hc', wf_k hwf⟩)
    refine ⟨some a, len, cap, numAt .u8 w a, rfl, by omega, fun hp => h1.1 (by omega), h1.2⟩
set_option maxRecDepth 100000 in
/-- WHAT THE WALK GIVES, FOR EVERY ARGUMENT AND EVERY WORLD. -/
theorem contract (H : Type) (enc : TypeId × Value → H) (W : World) (base : Nat) (args : Array Value) (ds gs : List (DataW H)) (before : List MemPlace)
    (hval : ∀ (j : Nat) t v, Try.f13.params[j]? = some t → args[j]? = some v → Value.okWide Try.prog W .any base t v)
    (hW : DataW.Whole enc Try.prog Try.f13.params.toList Rows.placeTightSpec.vars false W args.toList ds gs before) :
    Calls Try.prog 13 args W fun e W' => ∃ v, e = .returned v ∧ Rows.placeTightSpec.post enc Try.prog Try.f13 false true false false W args v W' := by
  have hW' := hW
  obtain ⟨p, q, hA0, hV, rfl, hfz, hnd⟩ := hW
  have hA : DataW.TrodAll enc Try.prog W 0 (fun _ => true) true Try.f13.params.toList args.toList ds p := hA0
  have hAk := hA
  rw [Try.params13] at hA hval
  obtain ⟨v0, vs0, d0, ds0, p0, q0, hargs, rfl, rfl, h0, r0⟩ := trodAll_cons hA
  obtain ⟨v1, vs1, d1, ds1, p1, q1, hargs1, rfl, rfl, h1, r1⟩ := trodAll_cons r0
  obtain ⟨rfl, rfl, rfl⟩ := trodAll_nil r1
  subst hargs1
  obtain rfl : args = #[v0, v1] := by cases args; simp_all
  obtain ⟨rfl, rfl⟩ := trodVars_none hV
  have hk0 := hval 0 88 v0 rfl rfl
  have hk1 := hval 1 89 v1 rfl rfl
  clear hval hA hA0
  obtain ⟨a, n, c, s, rfl, hn, hS, hs⟩ := open_w16 hk0 h0
  obtain ⟨a2, m, c2, g, rfl, hm, hK, hg⟩ := open_kn hk1 h1
  simp only [List.append_nil] at hW' hAk
  refine (tight_law W a n c s a2 m c2 g hn hm hs hg hS hK).mono fun e W' ⟨he, hb⟩ => ?_
  subst he
  exact ⟨_, rfl, post_of_below (pv := []) hW' (fun _ _ _ => trodAll_cons_mk (shut_bool Try.underlying4 _) trodAll_mk0) (fun sp hsp => trodAll_below hb (DataW.TrodAll.respare x_kids x_full (by rw [Try.params13]; decide) hAk (fun p hp => hsp p (by simpa using hp)))) (fun _ _ => rfl) (by simp)
    hb (ok_one (by kernel_rfl) rfl (okWide_bool_mk Try.underlying4 _))⟩

set_option maxRecDepth 100000 in
theorem lifted (os : Os) (started : os.Started) (H : Type) (enc : TypeId × Value → H) :
    ReturnsInHanded {} Try.checked os 13 .any (Rows.placeTightSpec.pre6 enc Try.prog Try.f13 Rows.placeTightRow.domain false) (Rows.placeTightSpec.post enc Try.prog Try.f13 false true false false) := by
  refine returnsInHanded_of_change (C := Try.checked) own started (by kernel_rfl) Try.func13
    (ChangeSpec.witness6 (enc := enc) (C := Try.checked) false ⟨#[], #[.slice none 0 0, .slice none 0 0], []⟩ 8 (by kernel_rfl) (by kernel_rfl) (by kernel_rfl) (by kernel_rfl)) ?_
  intro W base args ds gs before hval hW _ _
  exact contract H enc W base args ds gs before hval hW

theorem said : Rows.PlaceTightSaid :=
  OpenClaim.holds_of_wide 13 Try.f13 rfl rfl rfl rfl rfl rfl rfl ⟨rfl, rfl, rfl, rfl, rfl⟩ rfl rfl rfl rfl rfl (by kernel_rfl) Try.func13 (by kernel_rfl)
    (of_decide_eq_true (by kernel_rfl)) (by unfold Func.isWrapper; first | (rw [if_pos (by decide +kernel)]; kernel_rfl) | (rw [if_neg (by decide +kernel)]; exact ⟨rfl, rfl⟩))
    (fun os started H enc _ => lifted os started H enc)
end Go.Proofs.Ytonlamkpehakdaa.placeTight
