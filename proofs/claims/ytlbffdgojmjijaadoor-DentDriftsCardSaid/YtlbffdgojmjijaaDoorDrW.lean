/-
  WORDS: slices of triples of small numbers, of bytes, and a triple, opened.
-/
import Derived.Test.YtlbffdgojmjijaaDoorTcW
namespace Go.Proofs.YtlbffdgojmjijaaDoor
open Go.ChangeShapes Go.WideShapes Go.ChangeAt Go.RowKit Go.Deep Go.Joins

set_option maxRecDepth 100000 in
/-- A slice of bytes. -/
theorem open_w8 {H : Type} {enc : TypeId × Value → H} {w : World} {base b0 : Nat} {spare : Nat → Bool} {held : Bool} {r : Reach} {v : Value} {d : DataW H} {p : List MemPlace}
    (hv : Value.okWide Tryd.prog w r b0 23 v) (h : DataW.Trod enc Tryd.prog w base spare held 23 v d p) : ∃ a n c, ∃ s : Nat → Int, v = .slice a n c ∧ n ≤ maxLen ∧ (0 < n → ∃ b o, a = some (⟨b, o, none⟩ : Addr) ∧ ∀ i, i < n → w.cell? ⟨b, o + i, none⟩ = some (.int .u8 (s i))) ∧ ∀ i, i < n → 0 ≤ s i ∧ s i ≤ 255 := by
  obtain ⟨a0, len, cap, rfl⟩ := okWide_slice Tryd.underlying23 hv
  obtain ⟨fuel, hf⟩ := h
  rcases open_ints Tryd.underlying23 Tryd.underlying5 (by kernel_rfl) hf with ⟨hcs, _⟩ | ⟨a, len', cap', zs, hcs, _, hl, hm, hz, _, hcell, hwz⟩
  · simp [Value.cells] at hcs
    obtain ⟨rfl, rfl, rfl⟩ := hcs
    exact ⟨none, 0, 0, fun _ => 0, rfl, by decide, fun h => absurd h (by decide), fun i hi => absurd hi (by omega)⟩
  · simp [Value.cells] at hcs
    obtain ⟨rfl, rfl, rfl⟩ := hcs
    have h1 := nums_of (k := .u8) (w := w) (a := a) (n := len) (fun i hi => by
      have hi2 : i < zs.length := by rw [hz]; split <;> omega
      have hc := hcell i hi2
      refine ⟨_, by simpa using hc, wf_k (hwz _ ?_)⟩
      simp [hi2])
    exact ⟨some a, len, cap, numAt .u8 w a, rfl, by omega, h1.1, h1.2⟩
set_option maxRecDepth 100000 in
/-- A slice of triples of small numbers. -/
theorem open_tri8 {H : Type} {enc : TypeId × Value → H} {w : World} {base b0 : Nat} {spare : Nat → Bool} {held : Bool} {r : Reach} {v : Value} {d : DataW H} {p : List MemPlace}
    (hv : Value.okWide Tryd.prog w r b0 22 v) (h : DataW.Trod enc Tryd.prog w base spare held 22 v d p) : ∃ a n c, ∃ g : Nat → Int, v = .slice a n c ∧ n ≤ maxLen ∧ (0 < n → ∃ b o, a = some (⟨b, o, none⟩ : Addr) ∧ ∀ i, i < n * 3 → w.cell? ⟨b, o + i, none⟩ = some (.int .i8 (g i))) ∧ ∀ i, i < n * 3 → -128 ≤ g i ∧ g i ≤ 127 := by
  obtain ⟨a0, len, cap, rfl⟩ := okWide_slice Tryd.underlying22 hv
  obtain ⟨fuel, hf⟩ := h
  have hC : Tryd.prog.cellsOf 45 = 3 := by kernel_rfl
  have hC1 : Tryd.prog.cellsOf 44 = 1 := by kernel_rfl
  have hf' : DataW.trod enc Tryd.prog w base spare held fuel 22 [.slice a0 len cap] = some (d, p) := hf
  rcases open_slice Tryd.underlying22 hf' with h0 | ⟨a, len', cap', m, k, D, Pl, hcs, hb, hl, hm, hmm, hx, hi⟩
  · have h1 := h0.1
    simp only [List.cons.injEq, and_true, Value.slice.injEq] at h1
    obtain ⟨rfl, rfl, rfl⟩ := h1
    exact ⟨none, 0, 0, fun _ => 0, rfl, by decide, fun h => absurd h (by decide), fun i hi => absurd hi (by omega)⟩
  · simp only [List.cons.injEq, and_true, Value.slice.injEq] at hcs
    obtain ⟨rfl, rfl, rfl⟩ := hcs
    have h3 : ∀ i, i < len → ∀ j, j < 3 → ∃ z, w.cell? (a.add (i * 3 + j)) = some (.int .i8 z) ∧ IntKind.i8.min ≤ z ∧ z ≤ IntKind.i8.max := fun i hi2 j hj => by
      obtain ⟨cs', hc, ht'⟩ := hi i (by rw [hmm]; split <;> omega)
      rw [hC] at hc
      obtain ⟨_, hcl, hat⟩ := World.cells?_some hc
      obtain ⟨xs, m', _, _, _, hxl, hel⟩ := DataW.trod_array Tryd.underlying45 ht'
      have hcell := hat j hj
      have he := hel j hj
      rw [hC1, Nat.mul_one] at he
      have hone : (cs'.drop j).take 1 = [cs'[j]'(by omega)] := by
        rw [List.drop_eq_getElem_cons (by omega)]
        rfl
      rw [hone, List.getElem?_eq_getElem (by omega)] at he
      obtain ⟨z, hz, _, hwf⟩ := DataW.trod_int Tryd.underlying44 he
      simp only [List.cons.injEq, and_true] at hz
      refine ⟨z, ?_, wf_k hwf⟩
      rw [← Go.Deep.add_add, hcell, List.getElem?_eq_getElem (by omega), hz]
    have h1 := nums_of (k := .i8) (w := w) (a := a) (n := len * 3) (fun k hk => by
      have h2 := h3 (k / 3) (by omega) (k % 3) (by omega)
      rwa [Nat.div_add_mod' k 3] at h2)
    exact ⟨some a, len, cap, numAt .i8 w a, rfl, by omega, fun hn => h1.1 (by omega), h1.2⟩
section
variable {H : Type} {enc : TypeId × Value → H} {P : Program} {w : World} {base b0 : Nat} {spare : Nat → Bool} {held : Bool} {r : Reach} {v : Value} {d : DataW H} {p : List MemPlace} {t e : TypeId} {k : IntKind}
/-- An array of three numbers. -/
theorem open_arr3 (ht : P.underlying t = some (.array 3 e)) (he : P.underlying e = some (.int k)) (h1 : P.cellsOf e = 1) (h3 : P.cellsOf t = 3) (hv : Value.okWide P w r b0 t v) (h : DataW.Trod enc P w base spare held t v d p) :
    ∃ a b c, v = .agg #[.int k a, .int k b, .int k c] ∧ (k.min ≤ a ∧ a ≤ k.max) ∧ (k.min ≤ b ∧ b ≤ k.max) ∧ k.min ≤ c ∧ c ≤ k.max := by
  simp only [Value.okWide, ht] at hv
  obtain ⟨cs, rfl, hz, _⟩ := hv
  rw [h3] at hz
  obtain ⟨fuel, hf⟩ := h
  obtain ⟨xs, m, _, _, _, hl, hel⟩ := DataW.trod_array ht hf
  obtain ⟨l⟩ := cs
  match l, hz with
  | [a, b, c], _ =>
    match xs, hl with
    | [x0, x1, x2], _ =>
      have k0 := hel 0 (by omega)
      have k1 := hel 1 (by omega)
      have k2 := hel 2 (by omega)
      rw [h1] at k0 k1 k2
      obtain ⟨z0, a0, _, w0⟩ := DataW.trod_int he k0
      obtain ⟨z1, a1, _, w1⟩ := DataW.trod_int he k1
      obtain ⟨z2, a2, _, w2⟩ := DataW.trod_int he k2
      have e0 : a = .int k z0 := by simpa [Value.cells] using a0
      have e1 : b = .int k z1 := by simpa [Value.cells] using a1
      have e2 : c = .int k z2 := by simpa [Value.cells] using a2
      subst e0 e1 e2
      exact ⟨z0, z1, z2, rfl, wf_k w0, wf_k w1, wf_k w2⟩
end
end Go.Proofs.YtlbffdgojmjijaaDoor
