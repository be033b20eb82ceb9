/-
  WALKS: bounds that are told of places.
-/
import Derived.Test.YtmdniebedflpbaaDoorPxD
import Derived.Deep.AppendLies
import Derived.BigQuiet
import Derived.Deep.QuietTactic
namespace Go.Proofs.YtmdniebedflpbaaDoor
open Go.RowKit

/-- The ints of n bounds, as cells. -/
def brow (f : Nat → Int) (n : Nat) : List Value := (List.range (n * 3)).map fun i => .int .i64 (f i)
theorem brow_get (f : Nat → Int) {k i : Nat} (h : i < k * 3) : (brow f k)[i]? = some (.int .i64 (f i)) := by simp [brow, h]
theorem brow_length (f : Nat → Int) (n : Nat) : (brow f n).length = n * 3 := by simp [brow]
/-- Bounds, and behind them others. -/
def cat (F : Nat → Int) (a : Nat) (G : Nat → Int) (j : Nat) : Int := if j < a * 3 then F j else G (j - a * 3)
theorem cat_lo (F : Nat → Int) (a : Nat) (G : Nat → Int) {j : Nat} (h : j < a * 3) : cat F a G j = F j := by unfold cat; rw [if_pos h]
theorem cat_hi (F : Nat → Int) (a : Nat) (G : Nat → Int) (j : Nat) : cat F a G (a * 3 + j) = G j := by unfold cat; rw [if_neg (by omega), Nat.add_sub_cancel_left]
theorem brow_cat (F : Nat → Int) (a : Nat) (G : Nat → Int) (b : Nat) : brow (cat F a G) (a + b) = brow F a ++ brow G b := by
  unfold brow
  rw [show (a + b) * 3 = a * 3 + b * 3 by omega, List.range_add, List.map_append, List.map_map]
  congr 1
  · refine List.map_congr_left fun j hj => ?_
    rw [cat_lo F a G (List.mem_range.1 hj)]
  · refine List.map_congr_left fun j _ => ?_
    show Value.int .i64 (cat F a G (a * 3 + j)) = _
    rw [cat_hi]
def one3 (u t m : Int) (j : Nat) : Int := if j = 0 then u else if j = 1 then t else m
theorem brow_one (u t m : Int) : brow (one3 u t m) 1 = [.int .i64 u, .int .i64 t, .int .i64 m] := rfl
theorem brow_own {W : World} {B : Nat} {e : TypeId} {v : Value} {n : Nat} {f : Nat → Int} (h : W.ownsRow B e 3 v n (brow f n)) : ∃ x c, v = .slice x n c ∧ Sl W 3 x n f := by
  cases n with
  | zero =>
    rcases h.2 with ⟨rfl, _⟩ | ⟨g, cap, cur, rfl, _⟩
    · exact ⟨none, 0, rfl, fun h => absurd h (by decide)⟩
    · exact ⟨some ⟨g, 0, none⟩, cap, rfl, fun h => absurd h (by decide)⟩
  | succ m =>
    obtain ⟨g, cap, rfl⟩ := ownsRow_succ h
    refine ⟨some ⟨g, 0, none⟩, cap, rfl, fun _ => ⟨g, 0, rfl, fun i hi => ?_⟩⟩
    rw [Nat.zero_add, World.ownsRow.cellAt h i hi, brow_get f hi]

/-- Bounds of N events that are true of their places. -/
def TrueB (N : Nat) (pl : Nat → Int) (n : Nat) (F : Nat → Int) : Prop := ∀ i, i < n → (0 ≤ F (i * 3) ∧ F (i * 3) < N) ∧ (0 ≤ F (i * 3 + 1) ∧ F (i * 3 + 1) < N) ∧ (-1073741824 ≤ F (i * 3 + 2) ∧ F (i * 3 + 2) ≤ 1073741824) ∧ pl (F (i * 3 + 1)).toNat - pl (F (i * 3)).toNat ≤ F (i * 3 + 2)
theorem TrueB.cat {N : Nat} {pl : Nat → Int} {a b : Nat} {F G : Nat → Int} (h : TrueB N pl a F) (h' : TrueB N pl b G) : TrueB N pl (a + b) (cat F a G) := fun i hi => by
  by_cases e : i < a
  · rw [cat_lo F a G (by omega), cat_lo F a G (by omega), cat_lo F a G (by omega)]
    exact h i e
  · obtain ⟨j, rfl⟩ : ∃ j, i = a + j := ⟨i - a, by omega⟩
    rw [show (a + j) * 3 = a * 3 + j * 3 by omega, Nat.add_assoc, Nat.add_assoc, cat_hi, cat_hi, cat_hi]
    exact h' j (by omega)
theorem TrueB.one {N : Nat} {pl : Nat → Int} {u t : Nat} {m : Int} (hu : u < N) (ht : t < N) (hm : -1073741824 ≤ m ∧ m ≤ 1073741824) (hp : pl t - pl u ≤ m) : TrueB N pl 1 (one3 u t m) := fun i hi => by
  obtain rfl : i = 0 := by omega
  show (0 ≤ (u : Int) ∧ (u : Int) < N) ∧ (0 ≤ (t : Int) ∧ (t : Int) < N) ∧ _ ∧ pl ((t : Int)).toNat - pl ((u : Int)).toNat ≤ m
  rw [Int.toNat_natCast, Int.toNat_natCast]
  exact ⟨⟨by omega, by omega⟩, ⟨by omega, by omega⟩, hm, hp⟩
theorem TrueB.bok {N : Nat} {pl : Nat → Int} {n : Nat} {F : Nat → Int} (h : TrueB N pl n F) (h1 : 1 ≤ N ∧ N ≤ 64) (hn : n ≤ 256) : BOk N n F := ⟨⟨h1.1, h1.2, hn⟩, fun i hi => ⟨(h i hi).1, (h i hi).2.1, (h i hi).2.2.1⟩⟩
theorem TrueB.keeps {N : Nat} {pl : Nat → Int} {n : Nat} {F : Nat → Int} (h : TrueB N pl n F) : Keeps F n pl := fun i hi => (h i hi).2.2.2

/-- A slice of quadruples of bytes. -/
def Sq (w : World) (a : Option Addr) (n : Nat) (g : Nat → Int) : Prop := 0 < n → ∃ b o, a = some ⟨b, o, none⟩ ∧ ∀ i, i < n * 4 → w.cell? ⟨b, o + i, none⟩ = some (.int .u8 (g i))
theorem Sq.cells {w w' : World} {a : Option Addr} {n : Nat} {g : Nat → Int} (h : Sq w a n g) (hb : Below w.heap.size w w') {i : Nat} (hi : i < n) : ∃ b o, a = some ⟨b, o, none⟩ ∧ w'.cell? ⟨b, o + i * 4, none⟩ = some (.int .u8 (g (i * 4))) ∧ w'.cell? ⟨b, o + i * 4 + 1, none⟩ = some (.int .u8 (g (i * 4 + 1))) ∧ w'.cell? ⟨b, o + i * 4 + 2, none⟩ = some (.int .u8 (g (i * 4 + 2))) ∧ w'.cell? ⟨b, o + i * 4 + 3, none⟩ = some (.int .u8 (g (i * 4 + 3))) := by
  obtain ⟨b, o, rfl, hc⟩ := h (by omega)
  have hlt : b < w.heap.size := cell_lt (hc 0 (by omega))
  refine ⟨b, o, rfl, ?_, ?_, ?_, ?_⟩
  · exact (hb.cell (p := ⟨b, o + i * 4, none⟩) hlt).trans (hc (i * 4) (by omega))
  · exact (hb.cell (p := ⟨b, o + i * 4 + 1, none⟩) hlt).trans (hc (i * 4 + 1) (by omega))
  · exact (hb.cell (p := ⟨b, o + i * 4 + 2, none⟩) hlt).trans (hc (i * 4 + 2) (by omega))
  · exact (hb.cell (p := ⟨b, o + i * 4 + 3, none⟩) hlt).trans (hc (i * 4 + 3) (by omega))
theorem x_bd3 : (Tryd.prog.info? 62).map (fun i => (i.zero, i.size, i.bytes)) = some (some (.agg #[.int .i64 0, .int .i64 0, .int .i64 0]), 3, 24) := by kernel_rfl
theorem cells_3 (W : World) (a b c : Value) (t : TypeId) : ∀ (j : Nat) (u : Value), [a, b, c][j]? = some u → (W.alloc (.cells #[a, b, c] t)).cell? ((⟨W.heap.size, 0, none⟩ : Addr).add j) = some u :=
  World.news_of_block (World.alloc_heap_new W (.cells #[a, b, c] t))

end Go.Proofs.YtmdniebedflpbaaDoor
