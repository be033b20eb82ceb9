/-
  WORDS: a slice of numbers of 16 bits.
-/
import Derived.Test.YtmdniebedflpbaaDoorPlA
namespace Go.Proofs.YtmdniebedflpbaaDoor
open Go.RowKit

/-- A slice of numbers of 16 bits. -/
def Sh (w : World) (a : Option Addr) (n : Nat) (s : Nat → Int) : Prop := 0 < n → ∃ b o, a = some ⟨b, o, none⟩ ∧ ∀ i, i < n → w.cell? ⟨b, o + i, none⟩ = some (.int .u16 (s i))
theorem cell_lt {w : World} {b o : Nat} {v : Value} (h : w.cell? ⟨b, o, none⟩ = some v) : b < w.heap.size := by
  unfold World.cell? at h
  cases e : w.heap[b]? with
  | none => simp [e] at h
  | some x => exact (Array.getElem?_eq_some_iff.1 e).1
theorem Sh.cell {w w' : World} {a : Option Addr} {n : Nat} {s : Nat → Int} (h : Sh w a n s) (hb : Below w.heap.size w w') {i : Nat} (hi : i < n) : ∃ b o, a = some ⟨b, o, none⟩ ∧ w'.cell? ⟨b, o + i, none⟩ = some (.int .u16 (s i)) := by
  obtain ⟨b, o, rfl, hc⟩ := h (by omega)
  exact ⟨b, o, rfl, (hb.cell (p := ⟨b, o + i, none⟩) (cell_lt (hc i hi))).trans (hc i hi)⟩
end Go.Proofs.YtmdniebedflpbaaDoor
