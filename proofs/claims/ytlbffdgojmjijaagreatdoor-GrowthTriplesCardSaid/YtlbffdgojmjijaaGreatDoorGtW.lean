/-
  WORDS: a slice of pairs of bytes, opened.
-/
import Derived.Test.YtlbffdgojmjijaaGreatDoorTcW
import Derived.Test.YtlbffdgojmjijaaGreatDoorPW
namespace Go.Proofs.YtlbffdgojmjijaaGreatDoor
open Go.ChangeShapes Go.WideShapes Go.ChangeAt Go.RowKit Go.Deep Go.Joins

set_option maxRecDepth 100000 in
/-- A slice of pairs of bytes. -/
theorem open_bps {H : Type} {enc : TypeId × Value → H} {w : World} {base b0 : Nat} {spare : Nat → Bool} {held : Bool} {r : Reach} {v : Value} {d : DataW H} {p : List MemPlace}
    (hv : Value.okWide Tryz.prog w r b0 58 v) (h : DataW.Trod enc Tryz.prog w base spare held 58 v d p) : ∃ a n c, ∃ g : Nat → Int, v = .slice a n c ∧ n ≤ maxLen ∧ (0 < n → ∃ b o, a = some (⟨b, o, none⟩ : Addr) ∧ ∀ i, i < n * 2 → w.cell? ⟨b, o + i, none⟩ = some (.int .u8 (g i))) ∧ ∀ i, i < n * 2 → 0 ≤ g i ∧ g i ≤ 255 := by
  obtain ⟨a0, len, cap, rfl⟩ := okWide_slice Tryz.underlying58 hv
  obtain ⟨fuel, hf⟩ := h
  have hC : Tryz.prog.cellsOf 59 = 2 := by kernel_rfl
  have hC1 : Tryz.prog.cellsOf 5 = 1 := by kernel_rfl
  have hf' : DataW.trod enc Tryz.prog w base spare held fuel 58 [.slice a0 len cap] = some (d, p) := hf
  rcases open_slice Tryz.underlying58 hf' with h0 | ⟨a, len', cap', m, k, D, Pl, hcs, hb, hl, hm, hmm, hx, hi⟩
  · have h1 := h0.1
    simp only [List.cons.injEq, and_true, Value.slice.injEq] at h1
    obtain ⟨rfl, rfl, rfl⟩ := h1
    exact ⟨none, 0, 0, fun _ => 0, rfl, by decide, fun h => absurd h (by decide), fun i hi => absurd hi (by omega)⟩
  · simp only [List.cons.injEq, and_true, Value.slice.injEq] at hcs
    obtain ⟨rfl, rfl, rfl⟩ := hcs
    have h3 : ∀ i, i < len → ∀ j, j < 2 → ∃ z, w.cell? (a.add (i * 2 + j)) = some (.int .u8 z) ∧ IntKind.u8.min ≤ z ∧ z ≤ IntKind.u8.max := fun i hi2 j hj => by
      obtain ⟨cs', hc, ht'⟩ := hi i (by rw [hmm]; split <;> omega)
      rw [hC] at hc
      obtain ⟨_, hcl, hat⟩ := World.cells?_some hc
      obtain ⟨xs, m', _, _, _, hxl, hel⟩ := DataW.trod_array Tryz.underlying59 ht'
      have hcell := hat j hj
      have he := hel j hj
      rw [hC1, Nat.mul_one] at he
      have hone : (cs'.drop j).take 1 = [cs'[j]'(by omega)] := by
        rw [List.drop_eq_getElem_cons (by omega)]
        rfl
      rw [hone, List.getElem?_eq_getElem (by omega)] at he
      obtain ⟨z, hz, _, hwf⟩ := DataW.trod_int Tryz.underlying5 he
      simp only [List.cons.injEq, and_true] at hz
      refine ⟨z, ?_, wf_k hwf⟩
      rw [← Go.Deep.add_add, hcell, List.getElem?_eq_getElem (by omega), hz]
    have h1 := nums_of (k := .u8) (w := w) (a := a) (n := len * 2) (fun k hk => by
      have h2 := h3 (k / 2) (by omega) (k % 2) (by omega)
      rwa [Nat.div_add_mod' k 2] at h2)
    exact ⟨some a, len, cap, numAt .u8 w a, rfl, by omega, fun hn => h1.1 (by omega), h1.2⟩
end Go.Proofs.YtlbffdgojmjijaaGreatDoor
