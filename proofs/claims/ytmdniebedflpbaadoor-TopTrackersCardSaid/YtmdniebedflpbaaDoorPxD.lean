/-
  WALKS: places from steps.
-/
import Derived.Test.YtmdniebedflpbaaDoorPxC
import Derived.Test.YtmdniebedflpbaaDoorPmF
import Derived.Test.YtmdniebedflpbaaDoorOwB
import Derived.Test.YtmdniebedflpbaaDoorShW
import Derived.StillTailTactics
namespace Go.Proofs.YtmdniebedflpbaaDoor
open Go.RowKit

/-- The places. -/
def plS (s : Nat → Int) : Nat → Int
  | 0 => 0
  | k + 1 => plS s k + s k
theorem plS_bd {s : Nat → Int} {n : Nat} (hs : ∀ i, i < n → 0 ≤ s i ∧ s i ≤ 65535) : ∀ k, k ≤ n → 0 ≤ plS s k ∧ plS s k ≤ k * 65535
  | 0, _ => by simp [plS]
  | k + 1, hk => by
    have := plS_bd hs k (by omega)
    have := hs k (by omega)
    simp only [plS]
    push_cast
    omega
/-- Ints, as cells. -/
def jrow (p : Nat → Int) (n : Nat) : List Value := (List.range n).map fun i => .int .i64 (p i)
theorem jrow_succ (p : Nat → Int) (n : Nat) : jrow p (n + 1) = jrow p n ++ [.int .i64 (p n)] := by
  unfold jrow
  rw [List.range_succ, List.map_append]
  rfl
theorem jrow_get (p : Nat → Int) {n i : Nat} (h : i < n) : (jrow p n)[i]? = some (.int .i64 (p i)) := by simp [jrow, h]
theorem x_int : (Tryd.prog.info? 3).map (fun i => (i.zero, i.size, i.bytes)) = some (some (.int .i64 0), 1, 8) := by kernel_rfl
theorem cell_one (w : World) (v : Value) (t : TypeId) : ∀ j u, [v][j]? = some u → (w.alloc (.cells #[v] t)).cell? ((⟨w.heap.size, 0, none⟩ : Addr).add j) = some u := by
  intro j u h
  have e : j = 0 := by
    cases j with
    | zero => rfl
    | succ j => simp at h
  subst e
  simp only [List.getElem?_cons_zero] at h
  rw [← h]
  exact cell_h (World.alloc_heap_new w (.cells #[v] t)) rfl

end Go.Proofs.YtmdniebedflpbaaDoor
