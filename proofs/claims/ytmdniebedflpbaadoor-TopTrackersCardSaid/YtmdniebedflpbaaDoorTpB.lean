/-
  WALKS: the law of TopPlaces.
-/
import Derived.Test.YtmdniebedflpbaaDoorTpA
import Derived.Test.YtmdniebedflpbaaDoorDyK
import Derived.BigQuiet
import Derived.Deep.QuietTactic
import Derived.Deep.RegionHeld3
import Derived.Deep.DeepCutAuto
namespace Go.Proofs.YtmdniebedflpbaaDoor
open Go.RowKit

theorem cells_at {W : World} {b o n : Nat} {f : Nat → Int} (h : Ints W b o n f) (l : List Value) (hl : ∀ j u, l[j]? = some u → j < n ∧ u = .int .i64 (f j)) : ∀ (j : Nat) (u : Value), l[j]? = some u → W.cell? ((⟨b, o, none⟩ : Addr).add j) = some u := by
  intro j u hj
  obtain ⟨h1, rfl⟩ := hl j u hj
  have e : (⟨b, o, none⟩ : Addr).add j = ⟨b, o + j, none⟩ := by
    by_cases e : j = 0
    · subst e; simp [Addr.add]
    · simp [Addr.add, e]
  rw [e]
  exact h j h1
theorem brow_cells {f : Nat → Int} {n : Nat} : ∀ (j : Nat) (u : Value), (brow f n)[j]? = some u → j < n * 3 ∧ u = .int .i64 (f j) := by
  intro j u h
  have h1 : j < (brow f n).length := (List.getElem?_eq_some_iff.1 h).1
  rw [brow_length] at h1
  rw [brow_get f h1] at h
  exact ⟨h1, (Option.some.inj h).symm⟩
theorem odo_true {t y x0 x1 : Int} (ht : 0 ≤ t ∧ t ≤ 65535) (hy : 1 ≤ y ∧ y ≤ 256) (h0 : 0 ≤ x0 ∧ x0 ≤ 255) (h1 : 0 ≤ x1 ∧ x1 ≤ 255) :
    ∃ L H, odo t (max (1000 * y - x0) 0) (1000 * y + x1) = (L, H, 0) ∧ 0 ≤ L ∧ L ≤ t * y ∧ t * y ≤ H ∧ H ≤ 16793672 := by
  obtain ⟨lo, hlo⟩ : ∃ lo, max (1000 * y - x0) 0 = lo := ⟨_, rfl⟩
  obtain ⟨hi, hhi⟩ : ∃ hi, 1000 * y + x1 = hi := ⟨_, rfl⟩
  have b1 : 0 ≤ lo ∧ lo ≤ 1000 * y := by omega
  have b2 : 1000 * y ≤ hi ∧ hi ≤ 256255 := by omega
  rw [hlo, hhi]
  have e : odo t lo hi = (t * lo / 1000, ce (t * hi) 1000, 0) := by
    unfold odo
    have hr : rgErr lo hi 0 1000000 = 0 := by
      rcases rg_ways lo hi 0 1000000 with ⟨h, _⟩ | ⟨h, _⟩ | ⟨_, h⟩
      · omega
      · omega
      · exact h
    rw [if_neg (by omega), if_neg (by rw [hr]; simp)]
  have m1 : t * lo ≤ t * y * 1000 := by
    have := Int.mul_le_mul_of_nonneg_left b1.2 ht.1
    rwa [show t * (1000 * y) = t * y * 1000 by rw [Int.mul_left_comm, Int.mul_comm]] at this
  have m2 : t * y * 1000 ≤ t * hi := by
    have := Int.mul_le_mul_of_nonneg_left b2.1 ht.1
    rwa [show t * (1000 * y) = t * y * 1000 by rw [Int.mul_left_comm, Int.mul_comm]] at this
  have m3 := mul_bd ht (show 0 ≤ lo ∧ lo ≤ 1000 * y by omega)
  have m4 := mul_bd ht (show 0 ≤ hi ∧ hi ≤ 256255 by omega)
  refine ⟨_, _, e, by omega, by omega, ?_, ?_⟩ <;> (unfold ce; omega)
theorem btE_ok {a b lo hi : Int} (ha : 0 ≤ a ∧ a < 64) (hb : 0 ≤ b ∧ b < 64) (h : -1073741824 ≤ lo ∧ lo ≤ hi ∧ hi ≤ 1073741824) : btE a b lo hi = 0 := by
  unfold btE
  rw [if_pos ⟨ha, hb⟩]
  rcases rg_ways lo hi (-1073741824) 1073741824 with ⟨h, _⟩ | ⟨h, _⟩ | ⟨_, h⟩
  · omega
  · omega
  · exact h
/-- Between of a range without an error. -/
theorem between_ok (w : World) (a b : Nat) (lo hi : Int) (ha : a < 64) (hb : b < 64) (h : -1073741824 ≤ lo ∧ lo ≤ hi ∧ hi ≤ 1073741824) :
    Calls Tryd.prog 9 #[.int .i64 (a : Int), .int .i64 (b : Int), .agg #[.int .i64 lo, .int .i64 hi]] w fun e W => ∃ x o c, e = .returned (.tuple #[.slice (some ⟨x, o, none⟩) 2 c, .int .i64 0]) ∧ (∀ (j : Nat) (u : Value), (brow (btF a b lo hi) 2)[j]? = some u → W.cell? ((⟨x, o, none⟩ : Addr).add j) = some u) ∧ Below w.heap.size w W := by
  have hE : btE (a : Int) b lo hi = 0 := btE_ok (by omega) (by omega) h
  have hN : btN (a : Int) b lo hi = 2 := by unfold btN; rw [if_pos hE]
  refine (between_of w a b lo hi).mono ?_
  rintro e W ⟨x, c, rfl, hS, hB⟩
  rw [hN] at hS ⊢
  rw [hE]
  obtain ⟨x2, o2, rfl, hI⟩ := hS (by omega)
  exact ⟨x2, o2, c, rfl, cells_at hI _ brow_cells, hB⟩
theorem row_keep {W W' : World} {B e sz m : Nat} {v : Value} {xs : List Value} (h : W.ownsRow B e sz v m xs) (hb : Below W.heap.size W W') : W'.ownsRow B e sz v m xs := by
  refine ⟨h.1, ?_⟩
  rcases h.2 with hn | ⟨g, cap, cur, rfl, hg, hc, hr⟩
  · exact .inl hn
  · exact .inr ⟨g, cap, cur, rfl, hg, (hb.block g (Array.getElem?_eq_some_iff.1 hc).1).trans hc, hr⟩
/-- What the loop over the ticks keeps. -/
structure Tk (w W : World) (N : Nat) (pl : Nat → Int) (k : Nat) (vt vl : Value) : Prop where
  row : ∃ g cap, vt = .slice (some ⟨g, 0, none⟩) (k + 1) cap ∧ W.ownsRow w.heap.size 3 1 vt (k + 1) (jrow pl (k + 1))
  bds : ∃ g cap cnt F, vl = .slice (some ⟨g, 0, none⟩) cnt cap ∧ cnt ≤ 9 + k * 4 ∧ TrueB N pl cnt F ∧ (∀ j, j ≤ k → Wy F cnt j) ∧ W.ownsRow w.heap.size 62 3 vl cnt (brow F cnt)
  below : Below w.heap.size w W

end Go.Proofs.YtmdniebedflpbaaDoor
