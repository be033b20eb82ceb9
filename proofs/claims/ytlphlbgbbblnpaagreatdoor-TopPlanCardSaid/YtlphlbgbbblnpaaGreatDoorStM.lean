/-
  WORDS: strength: jobs and slots made of bytes: rows of ints of one's own.
-/
import Derived.Test.YtlphlbgbbblnpaaGreatDoorStH
import Derived.Test.YtlphlbgbbblnpaaGreatDoorStW
import Derived.OwnWalk
import Derived.Laws.AppendOwn
namespace Go.Proofs.YtlphlbgbbblnpaaGreatDoor
open Go.RowKit

def rowI (f : Nat → Int) (n : Nat) : List Value := (List.range n).map fun i => .int .i64 (f i)
theorem rowI_len (f : Nat → Int) (n : Nat) : (rowI f n).length = n := by simp [rowI]
theorem own_ints {W : World} {B : Nat} {e : TypeId} {v : Value} {s n : Nat} {f : Nat → Int} (h : W.ownsRow B e s v n (rowI f (n * s))) : ∃ x c, v = .slice x n c ∧ n ≤ c ∧ Sl W s x n f := by
  cases n with
  | zero =>
    rcases h.2 with ⟨rfl, _⟩ | ⟨g, cap, cur, rfl, _⟩
    · exact ⟨none, 0, rfl, Nat.le_refl _, fun h => absurd h (by decide)⟩
    · exact ⟨some ⟨g, 0, none⟩, cap, rfl, Nat.zero_le _, fun h => absurd h (by decide)⟩
  | succ m =>
    have hc : ∃ g cap, v = .slice (some ⟨g, 0, none⟩) (m + 1) cap ∧ m + 1 ≤ cap := by
      rcases h.2 with ⟨_, h0⟩ | ⟨g, cap, cur, rfl, _, _, hcap, _⟩
      · omega
      · exact ⟨g, cap, rfl, hcap⟩
    obtain ⟨g, cap, rfl, hcap⟩ := hc
    refine ⟨some ⟨g, 0, none⟩, cap, rfl, hcap, fun _ => ⟨g, 0, rfl, fun i hi => ?_⟩⟩
    rw [Nat.zero_add, World.ownsRow.cellAt h i hi]
    unfold rowI
    rw [List.getElem?_map, List.getElem?_range hi]
    rfl
theorem rowI_four (f : Nat → Int) (k : Nat) : rowI f ((k + 1) * 4) = rowI f (k * 4) ++ [.int .i64 (f (k * 4)), .int .i64 (f (k * 4 + 1)), .int .i64 (f (k * 4 + 2)), .int .i64 (f (k * 4 + 3))] := by
  unfold rowI
  rw [show (k + 1) * 4 = k * 4 + 1 + 1 + 1 + 1 by omega, List.range_succ, List.range_succ, List.range_succ, List.range_succ]
  simp [List.append_assoc]
theorem rowI_three (f : Nat → Int) (k : Nat) : rowI f ((k + 1) * 3) = rowI f (k * 3) ++ [.int .i64 (f (k * 3)), .int .i64 (f (k * 3 + 1)), .int .i64 (f (k * 3 + 2))] := by
  unfold rowI
  rw [show (k + 1) * 3 = k * 3 + 1 + 1 + 1 by omega, List.range_succ, List.range_succ, List.range_succ]
  simp [List.append_assoc]
theorem cells_four (W : World) (a b c d : Value) (t : TypeId) : ∀ (j : Nat) (u : Value), [a, b, c, d][j]? = some u → (W.alloc (.cells #[a, b, c, d] t)).cell? ((⟨W.heap.size, 0, none⟩ : Addr).add j) = some u := by
  intro j u h
  have hh := World.alloc_heap_new W (.cells #[a, b, c, d] t)
  match j, h with
  | 0, h => rw [show (⟨W.heap.size, 0, none⟩ : Addr).add 0 = ⟨W.heap.size, 0, none⟩ by simp [Addr.add], cell_h hh rfl]; simpa using h
  | 1, h => rw [show (⟨W.heap.size, 0, none⟩ : Addr).add 1 = ⟨W.heap.size, 1, none⟩ by simp [Addr.add], cell_h hh rfl]; simpa using h
  | 2, h => rw [show (⟨W.heap.size, 0, none⟩ : Addr).add 2 = ⟨W.heap.size, 2, none⟩ by simp [Addr.add], cell_h hh rfl]; simpa using h
  | 3, h => rw [show (⟨W.heap.size, 0, none⟩ : Addr).add 3 = ⟨W.heap.size, 3, none⟩ by simp [Addr.add], cell_h hh rfl]; simpa using h
theorem x_job : (Tryz.prog.info? 66).map (fun i => (i.zero, i.size, i.bytes)) = some (some (.agg #[.int .i64 0, .int .i64 0, .int .i64 0, .int .i64 0]), 4, 32) := by kernel_rfl
theorem By.keep {w w' : World} {a : Option Addr} {N n : Nat} {g : Nat → Int} (hN : 0 < N) (h : By w a N n g) (hb : Below w.heap.size w w') : By w' a N n g := fun hn => by
  obtain ⟨b, o, e, hc⟩ := h hn
  have hl := World.block_lt_of_cell? w _ (hc 0 (Nat.mul_pos hn hN))
  exact ⟨b, o, e, fun i hi => (hb.cell (p := ⟨b, o + i, none⟩) hl).trans (hc i hi)⟩
/-- The jobs of TopPlan: four bytes each. -/
def tpF (g : Nat → Int) (i : Nat) : Int := if i % 4 = 0 then 10 * g i else if i % 4 = 1 then 1 + g i % 20 else if i % 4 = 2 then g i % 20 else g i
theorem tpF_at (g : Nat → Int) (k : Nat) : tpF g (k * 4) = 10 * g (k * 4) ∧ tpF g (k * 4 + 1) = 1 + g (k * 4 + 1) % 20 ∧ tpF g (k * 4 + 2) = g (k * 4 + 2) % 20 ∧ tpF g (k * 4 + 3) = g (k * 4 + 3) := by
  unfold tpF
  refine ⟨?_, ?_, ?_, ?_⟩
  · rw [if_pos (by omega)]
  · rw [if_neg (by omega), if_pos (by omega)]
  · rw [if_neg (by omega), if_neg (by omega), if_pos (by omega)]
  · rw [if_neg (by omega), if_neg (by omega), if_neg (by omega)]
theorem tpF_ok {g : Nat → Int} {n : Nat} {C N : Int} (hn : n ≤ 24) (hC : 1 ≤ C ∧ C ≤ 4) (hN : 0 ≤ N ∧ N ≤ 365) (hg : ∀ i, i < n * 4 → 0 ≤ g i ∧ g i ≤ 255) : jsE (tpF g) n C N = 0 := by
  unfold jsE
  rw [if_neg (by omega), if_pos ⟨hC, hN⟩]
  refine first_zero fun i hi => ?_
  obtain ⟨e0, e1, e2, e3⟩ := tpF_at g i
  have h0 := hg (i * 4) (by omega)
  have h1 := hg (i * 4 + 1) (by omega)
  have h2 := hg (i * 4 + 2) (by omega)
  have h3 := hg (i * 4 + 3) (by omega)
  unfold jbE
  rw [e0, e1, e2, e3, if_pos (by omega)]
end Go.Proofs.YtlphlbgbbblnpaaGreatDoor
