/-
  WORDS: slices of arrays of bytes, opened.
-/
import Derived.Test.YtlphlbgbbblnpaaGreatDoorTcW
namespace Go.Proofs.YtlphlbgbbblnpaaGreatDoor
open Go.ChangeShapes Go.WideShapes Go.ChangeAt Go.RowKit Go.Deep Go.Joins

/-- n arrays of N bytes at a. -/
def By (w : World) (a : Option Addr) (N n : Nat) (g : Nat → Int) : Prop := 0 < n → ∃ b o, a = some (⟨b, o, none⟩ : Addr) ∧ ∀ i, i < n * N → w.cell? ⟨b, o + i, none⟩ = some (.int .u8 (g i))
set_option maxRecDepth 100000 in
/-- A slice of arrays of bytes. -/
theorem open_by {T E e : TypeId} {N : Nat} (hT : Tryz.prog.underlying T = some (.slice E)) (hE : Tryz.prog.underlying E = some (.array N e)) (he : Tryz.prog.underlying e = some (.int .u8)) (hC : Tryz.prog.cellsOf E = N) (hC1 : Tryz.prog.cellsOf e = 1) (hN : 0 < N)
    {H : Type} {enc : TypeId × Value → H} {w : World} {base b0 : Nat} {spare : Nat → Bool} {held : Bool} {r : Reach} {v : Value} {d : DataW H} {p : List MemPlace}
    (hv : Value.okWide Tryz.prog w r b0 T v) (h : DataW.Trod enc Tryz.prog w base spare held T v d p) : ∃ a n c, ∃ g : Nat → Int, v = .slice a n c ∧ n ≤ maxLen ∧ By w a N n g ∧ ∀ i, i < n * N → 0 ≤ g i ∧ g i ≤ 255 := by
  obtain ⟨a0, len, cap, rfl⟩ := okWide_slice hT hv
  obtain ⟨fuel, hf⟩ := h
  have hf' : DataW.trod enc Tryz.prog w base spare held fuel T [.slice a0 len cap] = some (d, p) := hf
  rcases open_slice hT hf' with h0 | ⟨a, len', cap', m, k, D, Pl, hcs, hb, hl, hm, hmm, hx, hi⟩
  · have h1 := h0.1
    simp only [List.cons.injEq, and_true, Value.slice.injEq] at h1
    obtain ⟨rfl, rfl, rfl⟩ := h1
    exact ⟨none, 0, 0, fun _ => 0, rfl, by decide, fun h => absurd h (by decide), fun i hi => absurd hi (by omega)⟩
  · simp only [List.cons.injEq, and_true, Value.slice.injEq] at hcs
    obtain ⟨rfl, rfl, rfl⟩ := hcs
    have h3 : ∀ i, i < len → ∀ j, j < N → ∃ z, w.cell? (a.add (i * N + j)) = some (.int .u8 z) ∧ IntKind.u8.min ≤ z ∧ z ≤ IntKind.u8.max := fun i hi2 j hj => by
      obtain ⟨cs', hc, ht'⟩ := hi i (by rw [hmm]; split <;> omega)
      rw [hC] at hc
      obtain ⟨_, hcl, hat⟩ := World.cells?_some hc
      obtain ⟨xs, m', _, _, _, hxl, hel⟩ := DataW.trod_array hE ht'
      have hcell := hat j hj
      have he' := hel j hj
      rw [hC1, Nat.mul_one] at he'
      have hone : (cs'.drop j).take 1 = [cs'[j]'(by omega)] := by
        rw [List.drop_eq_getElem_cons (by omega)]
        rfl
      rw [hone, List.getElem?_eq_getElem (by omega)] at he'
      obtain ⟨z, hz, _, hwf⟩ := DataW.trod_int he he'
      simp only [List.cons.injEq, and_true] at hz
      refine ⟨z, ?_, wf_k hwf⟩
      rw [← Go.Deep.add_add, hcell, List.getElem?_eq_getElem (by omega), hz]
    have h1 := nums_of (k := .u8) (w := w) (a := a) (n := len * N) (fun k hk => by
      have h2 := h3 (k / N) ((Nat.div_lt_iff_lt_mul hN).2 hk) (k % N) (Nat.mod_lt _ hN)
      rwa [Nat.div_add_mod' k N] at h2)
    exact ⟨some a, len, cap, numAt .u8 w a, rfl, by omega, fun hn => h1.1 (Nat.mul_pos hn hN), h1.2⟩
end Go.Proofs.YtlphlbgbbblnpaaGreatDoor
