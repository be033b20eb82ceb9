/-
  PlaceVoted: for every number, all widths and every number of wrong ranges the statement's function returns true, and its arguments read as they did: the number lies in Vote if at most as many are wrong, the order does not matter, a greater number of wrong ones gives a wider range, and the document's example holds.
  Conditions: none.
-/
import Derived.Test.YteinabcklmpcjaaPvM
import Derived.Test.YteinabcklmpcjaaPrW
namespace Go.Proofs.Yteinabcklmpcjaa.placeVoted
open Go.ChangeShapes Go.WideShapes Go.ChangeAt Go.RowKit Go.Deep Go.Joins

theorem wf_k {k : IntKind} {z : Int} (h : (Lit.int k z).wf = true) : k.min ≤ z ∧ z ≤ k.max := by simpa [Lit.wf] using h
theorem open_k {P : Program} {H : Type} {enc : TypeId × Value → H} {w : World} {base b0 : Nat} {spare : Nat → Bool} {held : Bool} {r : Reach} {t : TypeId} {k : IntKind} {v : Value} {d : DataW H} {p : List MemPlace} (ht : P.underlying t = some (.int k)) (hv : Value.okWide P w r b0 t v) (h : DataW.Trod enc P w base spare held t v d p) : ∃ z, v = .int k z ∧ k.min ≤ z ∧ z ≤ k.max := by
  obtain ⟨z, rfl, _, _, hw⟩ := open_int ht hv h
  exact ⟨z, rfl, wf_k hw⟩
/-- The bytes from an address on. -/
def bytesAt (w : World) (a : Addr) (k : Nat) : Int := match w.cell? (a.add k) with
  | some (.int .u8 z) => z
  | _ => 0
theorem bytesAt_eq {w : World} {a : Addr} {k : Nat} {z : Int} (h : w.cell? (a.add k) = some (.int .u8 z)) : bytesAt w a k = z := by
  unfold bytesAt; rw [h]
theorem sb_of {w : World} {a : Addr} {n : Nat} (h : ∀ i, i < n → ∀ j, j < 3 → ∃ z, w.cell? (a.add (i * 3 + j)) = some (.int .u8 z) ∧ 0 ≤ z ∧ z ≤ 255) :
    Sb w (some a) n (bytesAt w a) ∧ ∀ i, i < n * 3 → 0 ≤ bytesAt w a i ∧ bytesAt w a i ≤ 255 := by
  have hk : ∀ k, k < n * 3 → ∃ z, w.cell? (a.add k) = some (.int .u8 z) ∧ 0 ≤ z ∧ z ≤ 255 := by
    intro k hk
    have h2 := h (k / 3) (by omega) (k % 3) (by omega)
    rwa [Nat.div_add_mod' k 3] at h2
  refine ⟨fun hn => ?_, fun k hk2 => ?_⟩
  · obtain ⟨b, o, sp⟩ := a
    obtain ⟨z0, h0, _⟩ := hk 0 (by omega)
    have hsp : sp = none := by
      cases sp with
      | none => rfl
      | some x =>
        exfalso
        simp only [Addr.add, if_true, World.cell?] at h0
        cases hg : w.heap[b]? with
        | none => simp [hg] at h0
        | some ob => cases ob <;> simp [hg] at h0
    subst hsp
    refine ⟨b, o, rfl, fun k hk2 => ?_⟩
    obtain ⟨z, hz, _⟩ := hk k hk2
    have e : (⟨b, o, none⟩ : Addr).add k = ⟨b, o + k, none⟩ := by
      by_cases e : k = 0
      · subst e; simp [Addr.add]
      · simp [Addr.add, e]
    rw [bytesAt_eq hz, ← e]
    exact hz
  · obtain ⟨z, hz, hb⟩ := hk k hk2
    rw [bytesAt_eq hz]
    exact hb
set_option maxRecDepth 100000 in
/-- A slice of triples of bytes. -/
theorem open_tri {H : Type} {enc : TypeId × Value → H} {w : World} {base b0 : Nat} {spare : Nat → Bool} {held : Bool} {r : Reach} {v : Value} {d : DataW H} {p : List MemPlace}
    (hv : Value.okWide Try.prog w r b0 51 v) (h : DataW.Trod enc Try.prog w base spare held 51 v d p) : ∃ a n c g, v = .slice a n c ∧ n ≤ maxLen ∧ Sb w a n g ∧ ∀ i, i < n * 3 → 0 ≤ g i ∧ g i ≤ 255 := by
  obtain ⟨a0, len, cap, rfl⟩ := okWide_slice Try.underlying51 hv
  obtain ⟨fuel, hf⟩ := h
  have hC : Try.prog.cellsOf 52 = 3 := by kernel_rfl
  have hC1 : Try.prog.cellsOf 5 = 1 := by kernel_rfl
  have hf' : DataW.trod enc Try.prog w base spare held fuel 51 [.slice a0 len cap] = some (d, p) := hf
  rcases open_slice Try.underlying51 hf' with h0 | ⟨a, len', cap', m, k, D, Pl, hcs, hb, hl, hm, hmm, hx, hi⟩
  · have h1 := h0.1
    simp only [List.cons.injEq, and_true, Value.slice.injEq] at h1
    obtain ⟨rfl, rfl, rfl⟩ := h1
    exact ⟨none, 0, 0, fun _ => 0, rfl, by decide, fun h => absurd h (by decide), fun i hi => absurd hi (by omega)⟩
  · simp only [List.cons.injEq, and_true, Value.slice.injEq] at hcs
    obtain ⟨rfl, rfl, rfl⟩ := hcs
    have h1 := sb_of (w := w) (a := a) (n := len) (fun i hi2 j hj => by
      obtain ⟨cs', hc, ht'⟩ := hi i (by rw [hmm]; split <;> omega)
      rw [hC] at hc
      obtain ⟨_, hcl, hat⟩ := World.cells?_some hc
      obtain ⟨xs, m', _, _, _, hxl, hel⟩ := DataW.trod_array Try.underlying52 ht'
      have hcell := hat j hj
      have he := hel j hj
      rw [hC1, Nat.mul_one] at he
      have hone : (cs'.drop j).take 1 = [cs'[j]'(by omega)] := by
        rw [List.drop_eq_getElem_cons (by omega)]
        rfl
      rw [hone, List.getElem?_eq_getElem (by omega)] at he
      obtain ⟨z, hz, _, hwf⟩ := DataW.trod_int Try.underlying5 he
      simp only [List.cons.injEq, and_true] at hz
      refine ⟨z, ?_, wf_k hwf⟩
      rw [← Go.Deep.add_add, hcell, List.getElem?_eq_getElem (by omega), hz])
    exact ⟨some a, len, cap, bytesAt w a, rfl, by omega, h1.1, h1.2⟩

set_option maxRecDepth 100000 in
/-- WHAT THE WALK GIVES, FOR EVERY ARGUMENT AND EVERY WORLD. -/
theorem contract (H : Type) (enc : TypeId × Value → H) (W : World) (base : Nat) (args : Array Value) (ds gs : List (DataW H)) (before : List MemPlace)
    (hval : ∀ (j : Nat) t v, Try.f6.params[j]? = some t → args[j]? = some v → Value.okWide Try.prog W .any base t v)
    (hW : DataW.Whole enc Try.prog Try.f6.params.toList Rows.placeVotedSpec.vars false W args.toList ds gs before) :
    Calls Try.prog 6 args W fun e W' => ∃ v, e = .returned v ∧ Rows.placeVotedSpec.post enc Try.prog Try.f6 false true false false W args v W' := by
  have hW' := hW
  obtain ⟨p, q, hA0, hV, rfl, hfz, hnd⟩ := hW
  have hA : DataW.TrodAll enc Try.prog W 0 (fun _ => true) true Try.f6.params.toList args.toList ds p := hA0
  have hAk := hA
  rw [Try.params6] at hA hval
  obtain ⟨v0, vs0, d0, ds0, p0, q0, hargs, rfl, rfl, h0, r0⟩ := trodAll_cons hA
  obtain ⟨v1, vs1, d1, ds1, p1, q1, hargs1, rfl, rfl, h1, r1⟩ := trodAll_cons r0
  obtain ⟨v2, vs2, d2, ds2, p2, q2, hargs2, rfl, rfl, h2, r2⟩ := trodAll_cons r1
  obtain ⟨rfl, rfl, rfl⟩ := trodAll_nil r2
  subst hargs2
  subst hargs1
  obtain rfl : args = #[v0, v1, v2] := by cases args; simp_all
  obtain ⟨rfl, rfl⟩ := trodVars_none hV
  have hk0 := hval 0 50 v0 rfl rfl
  have hk1 := hval 1 51 v1 rfl rfl
  have hk2 := hval 2 5 v2 rfl rfl
  clear hval hA hA0
  obtain ⟨N, rfl, hwN⟩ := open_k (k := .i16) Try.underlying50 hk0 h0
  obtain ⟨a, n, c, g, rfl, hnn, hSn, hgn⟩ := open_tri hk1 h1
  obtain ⟨v, rfl, hwv⟩ := open_k (k := .u8) Try.underlying5 hk2 h2
  simp only [List.append_nil] at hW' hAk
  refine (voted_law W N a n c g v hwN hwv hnn hSn hgn).mono fun e W' ⟨he, hb⟩ => ?_
  subst he
  exact ⟨_, rfl, post_of_below (pv := []) hW' (fun _ _ _ => trodAll_cons_mk (shut_bool Try.underlying4 _) trodAll_mk0) (fun sp hsp => trodAll_below hb (DataW.TrodAll.respare x_kids x_full (by rw [Try.params6]; decide) hAk (fun p hp => hsp p (by simpa using hp)))) (fun _ _ => rfl) (by simp)
    hb (ok_one (by kernel_rfl) rfl (okWide_bool_mk Try.underlying4 _))⟩

set_option maxRecDepth 100000 in
theorem lifted (os : Os) (started : os.Started) (H : Type) (enc : TypeId × Value → H) :
    ReturnsInHanded {} Try.checked os 6 .any (Rows.placeVotedSpec.pre6 enc Try.prog Try.f6 Rows.placeVotedRow.domain false) (Rows.placeVotedSpec.post enc Try.prog Try.f6 false true false false) := by
  refine returnsInHanded_of_change (C := Try.checked) own started (by kernel_rfl) Try.func6
    (ChangeSpec.witness6 (enc := enc) (C := Try.checked) false ⟨#[], #[.int .i16 0, .slice none 0 0, .int .u8 0], []⟩ 8 (by kernel_rfl) (by kernel_rfl) (by kernel_rfl) (by kernel_rfl)) ?_
  intro W base args ds gs before hval hW _ _
  exact contract H enc W base args ds gs before hval hW

theorem said : Rows.PlaceVotedSaid :=
  OpenClaim.holds_of_wide 6 Try.f6 rfl rfl rfl rfl rfl rfl rfl ⟨rfl, rfl, rfl, rfl, rfl⟩ rfl rfl rfl rfl rfl (by kernel_rfl) Try.func6 (by kernel_rfl)
    (of_decide_eq_true (by kernel_rfl)) (by unfold Func.isWrapper; first | (rw [if_pos (by decide +kernel)]; kernel_rfl) | (rw [if_neg (by decide +kernel)]; exact ⟨rfl, rfl⟩))
    (fun os started H enc _ => lifted os started H enc)
end Go.Proofs.Yteinabcklmpcjaa.placeVoted
