/-
  WORDS: a slice of pairs, a slice of ints, opened.
-/
import Derived.Test.YtlbffdgojmjijaaGreatDoorPW
namespace Go.Proofs.YtlbffdgojmjijaaGreatDoor
open Go.ChangeShapes Go.WideShapes Go.ChangeAt Go.RowKit Go.Deep Go.Joins

set_option maxRecDepth 100000 in
/-- A slice of pairs. -/
theorem open_prs {H : Type} {enc : TypeId × Value → H} {w : World} {base b0 : Nat} {spare : Nat → Bool} {held : Bool} {r : Reach} {v : Value} {d : DataW H} {p : List MemPlace}
    (hv : Value.okWide Tryz.prog w r b0 38 v) (h : DataW.Trod enc Tryz.prog w base spare held 38 v d p) : ∃ a n c f, v = .slice a n c ∧ n ≤ maxLen ∧ Sl w 2 a n f := by
  obtain ⟨a0, len, cap, rfl⟩ := okWide_slice Tryz.underlying38 hv
  obtain ⟨fuel, hf⟩ := h
  have hC : Tryz.prog.cellsOf 60 = 2 := by kernel_rfl
  have hC1 : Tryz.prog.cellsOf 3 = 1 := by kernel_rfl
  have hf' : DataW.trod enc Tryz.prog w base spare held fuel 38 [.slice a0 len cap] = some (d, p) := hf
  rcases open_slice Tryz.underlying38 hf' with h0 | ⟨a, len', cap', m, k, D, Pl, hcs, hb, hl, hm, hmm, hx, hi⟩
  · have h1 := h0.1
    simp only [List.cons.injEq, and_true, Value.slice.injEq] at h1
    obtain ⟨rfl, rfl, rfl⟩ := h1
    exact ⟨none, 0, 0, fun _ => 0, rfl, by decide, fun h => absurd h (by decide)⟩
  · simp only [List.cons.injEq, and_true, Value.slice.injEq] at hcs
    obtain ⟨rfl, rfl, rfl⟩ := hcs
    have h1 := sl_of (w := w) (a := a) (n := len) (s := 2) (by decide) (fun i hi2 j hj => by
      obtain ⟨cs', hc, ht'⟩ := hi i (by rw [hmm]; split <;> omega)
      rw [hC] at hc
      obtain ⟨_, hcl, hat⟩ := World.cells?_some hc
      obtain ⟨xs, m', _, _, _, hxl, hel⟩ := DataW.trod_array Tryz.underlying60 ht'
      have hcell := hat j hj
      have he := hel j hj
      rw [hC1, Nat.mul_one] at he
      have hone : (cs'.drop j).take 1 = [cs'[j]'(by omega)] := by
        rw [List.drop_eq_getElem_cons (by omega)]
        rfl
      rw [hone, List.getElem?_eq_getElem (by omega)] at he
      obtain ⟨z, hz, _, hwf⟩ := DataW.trod_int Tryz.underlying3 he
      simp only [List.cons.injEq, and_true] at hz
      refine ⟨z, ?_, wf_i64 hwf⟩
      rw [← Go.Deep.add_add, hcell, List.getElem?_eq_getElem (by omega), hz])
    exact ⟨some a, len, cap, intsAt w a, rfl, by omega, h1.1⟩
set_option maxRecDepth 100000 in
/-- A slice of ints, which fit. -/
theorem open_sl2 {H : Type} {enc : TypeId × Value → H} {w : World} {base b0 : Nat} {spare : Nat → Bool} {held : Bool} {r : Reach} {v : Value} {d : DataW H} {p : List MemPlace}
    (hv : Value.okWide Tryz.prog w r b0 39 v) (h : DataW.Trod enc Tryz.prog w base spare held 39 v d p) : ∃ a n c f, v = .slice a n c ∧ n ≤ maxLen ∧ Sl w 1 a n f ∧ I64s f n := by
  obtain ⟨a0, len, cap, rfl⟩ := okWide_slice Tryz.underlying39 hv
  obtain ⟨fuel, hf⟩ := h
  rcases open_ints Tryz.underlying39 Tryz.underlying3 (by kernel_rfl) hf with ⟨hcs, _⟩ | ⟨a, len', cap', zs, hcs, _, hl, hm, hz, _, hcell, hwz⟩
  · simp [Value.cells] at hcs
    obtain ⟨rfl, rfl, rfl⟩ := hcs
    exact ⟨none, 0, 0, fun _ => 0, rfl, by decide, fun h => absurd h (by decide), fun i hi => absurd hi (by omega)⟩
  · simp [Value.cells] at hcs
    obtain ⟨rfl, rfl, rfl⟩ := hcs
    have h1 := sl_of (w := w) (a := a) (n := len) (s := 1) (by decide) (fun i hi j hj => by
      obtain rfl : j = 0 := by omega
      have hi2 : i < zs.length := by rw [hz]; split <;> omega
      have hc := hcell i hi2
      refine ⟨_, by simpa using hc, wf_i64 (hwz _ ?_)⟩
      simp [hi2])
    exact ⟨some a, len, cap, intsAt w a, rfl, by omega, h1.1, by simpa using h1.2⟩
end Go.Proofs.YtlbffdgojmjijaaGreatDoor
