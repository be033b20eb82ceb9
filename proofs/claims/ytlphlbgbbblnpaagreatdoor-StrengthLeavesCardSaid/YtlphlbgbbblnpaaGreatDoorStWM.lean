/-
  WALKS AND WORDS: StW StM of my texts, one behind the other.
-/
import Derived.Test.YtlphlbgbbblnpaaGreatDoorTcW
import Derived.Test.YtlphlbgbbblnpaaGreatDoorStGH
import Derived.OwnWalk
import Derived.Laws.AppendOwn
-- StW: WORDS: slices of arrays of bytes, opened.
namespace Go.Proofs.YtlphlbgbbblnpaaGreatDoor
open Go.ChangeShapes Go.WideShapes Go.ChangeAt Go.RowKit Go.Deep Go.Joins

/-- n arrays of N bytes at a. -/
def By (w : World) (a : Option Addr) (N n : Nat) (g : Nat → Int) : Prop := 0 < n → ∃ b o, a = some (⟨b, o, none⟩ : Addr) ∧ ∀ i, i < n * N → w.cell? ⟨b, o + i, none⟩ = some (.int .u8 (g i))
set_option maxRecDepth 100000 in
/-- A slice of arrays of bytes. -/
theorem open_by {T E e : TypeId} {N : Nat} (hT : Tryz.prog.underlying T = some (.slice E)) (hE : Tryz.prog.underlying E = some (.array N e)) (he : Tryz.prog.underlying e = some (.int .u8)) (hC : Tryz.prog.cellsOf E = N) (hC1 : Tryz.prog.cellsOf e = 1) (hN : 0 < N)
    {H : Type} {enc : TypeId × Value → H} {w : World} {base b0 : Nat} {spare : Nat → Bool} {held : Bool} {r : Reach} {v : Value} {d : DataW H} {p : List MemPlace}
    (hv : Value.okWide Tryz.prog w r b0 T v) (h : DataW.Trod enc Tryz.prog w base spare held T v d p) : ∃ a n c, ∃ g : Nat → Int, v = .slice a n c ∧ n ≤ maxLen ∧ By w a N n g ∧ ∀ i, i < n * N → 0 ≤ g i ∧ g i ≤ 255 := by
  obtain ⟨a0, len, cap, rfl⟩ := okWide_slice hT hv
  obtain ⟨fuel, hf⟩ := h
  have hf' : DataW.trod enc Tryz.prog w base spare held fuel T [.slice a0 len cap] = some (d, p) := hf
  rcases open_slice hT hf' with h0 | ⟨a, len', cap', m, k, D, Pl, hcs, hb, hl, hm, hmm, hx, hi⟩
  · have h1 := h0.1
    simp only [List.cons.injEq, and_true, Value.slice.injEq] at h1
    obtain ⟨rfl, rfl, rfl⟩ := h1
    exact ⟨none, 0, 0, fun _ => 0, rfl, by decide, fun h => absurd h (by decide), fun i hi => absurd hi (by omega)⟩
  · simp only [List.cons.injEq, and_true, Value.slice.injEq] at hcs
    obtain ⟨rfl, rfl, rfl⟩ := hcs
    have h3 : ∀ i, i < len → ∀ j, j < N → ∃ z, w.cell? (a.add (i * N + j)) = some (.int .u8 z) ∧ IntKind.u8.min ≤ z ∧ z ≤ IntKind.u8.max := fun i hi2 j hj => by
      obtain ⟨cs', hc, ht'⟩ := hi i (by rw [hmm]; split <;> omega)
      rw [hC] at hc
      obtain ⟨_, hcl, hat⟩ := World.cells?_some hc
      obtain ⟨xs, m', _, _, _, hxl, hel⟩ := DataW.trod_array hE ht'
      have hcell := hat j hj
      have he' := hel j hj
      rw [hC1, Nat.mul_one] at he'
      have hone : (cs'.drop j).take 1 = [cs'[j]'(by omega)] := by
        rw [List.drop_eq_getElem_cons (by omega)]
        rfl
      rw [hone, List.getElem?_eq_getElem (by omega)] at he'
      obtain ⟨z, hz, _, hwf⟩ := DataW.trod_int he he'
      simp only [List.cons.injEq, and_true] at hz
      refine ⟨z, ?_, wf_k hwf⟩
      rw [← Go.Deep.add_add, hcell, List.getElem?_eq_getElem (by omega), hz]
    have h1 := nums_of (k := .u8) (w := w) (a := a) (n := len * N) (fun k hk => by
      have h2 := h3 (k / N) ((Nat.div_lt_iff_lt_mul hN).2 hk) (k % N) (Nat.mod_lt _ hN)
      rwa [Nat.div_add_mod' k N] at h2)
    exact ⟨some a, len, cap, numAt .u8 w a, rfl, by omega, fun hn => h1.1 (Nat.mul_pos hn hN), h1.2⟩
end Go.Proofs.YtlphlbgbbblnpaaGreatDoor
-- StM: WORDS: strength: jobs and slots made of bytes: rows of ints of one's own.
namespace Go.Proofs.YtlphlbgbbblnpaaGreatDoor
open Go.RowKit

def rowI (f : Nat → Int) (n : Nat) : List Value := (List.range n).map fun i => .int .i64 (f i)
theorem rowI_len (f : Nat → Int) (n : Nat) : (rowI f n).length = n := by simp [rowI]
theorem own_ints {W : World} {B : Nat} {e : TypeId} {v : Value} {s n : Nat} {f : Nat → Int} (h : W.ownsRow B e s v n (rowI f (n * s))) : ∃ x c, v = .slice x n c ∧ n ≤ c ∧ Sl W s x n f := by
  cases n with
  | zero =>
    rcases h.2 with ⟨rfl, _⟩ | ⟨g, cap, cur, rfl, _⟩
    · exact ⟨none, 0, rfl, Nat.le_refl _, fun h => absurd h (by decide)⟩
    · exact ⟨some ⟨g, 0, none⟩, cap, rfl, Nat.zero_le _, fun h => absurd h (by decide)⟩
  | succ m =>
    have hc : ∃ g cap, v = .slice (some ⟨g, 0, none⟩) (m + 1) cap ∧ m + 1 ≤ cap := by
      rcases h.2 with ⟨_, h0⟩ | ⟨g, cap, cur, rfl, _, _, hcap, _⟩
      · omega
      · exact ⟨g, cap, rfl, hcap⟩
    obtain ⟨g, cap, rfl, hcap⟩ := hc
    refine ⟨some ⟨g, 0, none⟩, cap, rfl, hcap, fun _ => ⟨g, 0, rfl, fun i hi => ?_⟩⟩
    rw [Nat.zero_add, World.ownsRow.cellAt h i hi]
    unfold rowI
    rw [List.getElem?_map, List.getElem?_range hi]
    rfl
theorem rowI_four (f : Nat → Int) (k : Nat) : rowI f ((k + 1) * 4) = rowI f (k * 4) ++ [.int .i64 (f (k * 4)), .int .i64 (f (k * 4 + 1)), .int .i64 (f (k * 4 + 2)), .int .i64 (f (k * 4 + 3))] := by
  unfold rowI
  rw [show (k + 1) * 4 = k * 4 + 1 + 1 + 1 + 1 by omega, List.range_succ, List.range_succ, List.range_succ, List.range_succ]
  simp [List.append_assoc]
theorem rowI_three (f : Nat → Int) (k : Nat) : rowI f ((k + 1) * 3) = rowI f (k * 3) ++ [.int .i64 (f (k * 3)), .int .i64 (f (k * 3 + 1)), .int .i64 (f (k * 3 + 2))] := by
  unfold rowI
  rw [show (k + 1) * 3 = k * 3 + 1 + 1 + 1 by omega, List.range_succ, List.range_succ, List.range_succ]
  simp [List.append_assoc]
theorem cells_four (W : World) (a b c d : Value) (t : TypeId) : ∀ (j : Nat) (u : Value), [a, b, c, d][j]? = some u → (W.alloc (.cells #[a, b, c, d] t)).cell? ((⟨W.heap.size, 0, none⟩ : Addr).add j) = some u := by
  intro j u h
  have hh := World.alloc_heap_new W (.cells #[a, b, c, d] t)
  match j, h with
  | 0, h => rw [show (⟨W.heap.size, 0, none⟩ : Addr).add 0 = ⟨W.heap.size, 0, none⟩ by simp [Addr.add], cell_h hh rfl]; simpa using h
  | 1, h => rw [show (⟨W.heap.size, 0, none⟩ : Addr).add 1 = ⟨W.heap.size, 1, none⟩ by simp [Addr.add], cell_h hh rfl]; simpa using h
  | 2, h => rw [show (⟨W.heap.size, 0, none⟩ : Addr).add 2 = ⟨W.heap.size, 2, none⟩ by simp [Addr.add], cell_h hh rfl]; simpa using h
  | 3, h => rw [show (⟨W.heap.size, 0, none⟩ : Addr).add 3 = ⟨W.heap.size, 3, none⟩ by simp [Addr.add], cell_h hh rfl]; simpa using h
theorem x_job : (Tryz.prog.info? 66).map (fun i => (i.zero, i.size, i.bytes)) = some (some (.agg #[.int .i64 0, .int .i64 0, .int .i64 0, .int .i64 0]), 4, 32) := by kernel_rfl
theorem By.keep {w w' : World} {a : Option Addr} {N n : Nat} {g : Nat → Int} (hN : 0 < N) (h : By w a N n g) (hb : Below w.heap.size w w') : By w' a N n g := fun hn => by
  obtain ⟨b, o, e, hc⟩ := h hn
  have hl := World.block_lt_of_cell? w _ (hc 0 (Nat.mul_pos hn hN))
  exact ⟨b, o, e, fun i hi => (hb.cell (p := ⟨b, o + i, none⟩) hl).trans (hc i hi)⟩
/-- The jobs of TopPlan: four bytes each. -/
def tpF (g : Nat → Int) (i : Nat) : Int := if i % 4 = 0 then 10 * g i else if i % 4 = 1 then 1 + g i % 20 else if i % 4 = 2 then g i % 20 else g i
theorem tpF_at (g : Nat → Int) (k : Nat) : tpF g (k * 4) = 10 * g (k * 4) ∧ tpF g (k * 4 + 1) = 1 + g (k * 4 + 1) % 20 ∧ tpF g (k * 4 + 2) = g (k * 4 + 2) % 20 ∧ tpF g (k * 4 + 3) = g (k * 4 + 3) := by
  unfold tpF
  refine ⟨?_, ?_, ?_, ?_⟩
  · rw [if_pos (by omega)]
  · rw [if_neg (by omega), if_pos (by omega)]
  · rw [if_neg (by omega), if_neg (by omega), if_pos (by omega)]
  · rw [if_neg (by omega), if_neg (by omega), if_neg (by omega)]
theorem tpF_ok {g : Nat → Int} {n : Nat} {C N : Int} (hn : n ≤ 24) (hC : 1 ≤ C ∧ C ≤ 4) (hN : 0 ≤ N ∧ N ≤ 365) (hg : ∀ i, i < n * 4 → 0 ≤ g i ∧ g i ≤ 255) : jsE (tpF g) n C N = 0 := by
  unfold jsE
  rw [if_neg (by omega), if_pos ⟨hC, hN⟩]
  refine first_zero fun i hi => ?_
  obtain ⟨e0, e1, e2, e3⟩ := tpF_at g i
  have h0 := hg (i * 4) (by omega)
  have h1 := hg (i * 4 + 1) (by omega)
  have h2 := hg (i * 4 + 2) (by omega)
  have h3 := hg (i * 4 + 3) (by omega)
  unfold jbE
  rw [e0, e1, e2, e3, if_pos (by omega)]
end Go.Proofs.YtlphlbgbbblnpaaGreatDoor
