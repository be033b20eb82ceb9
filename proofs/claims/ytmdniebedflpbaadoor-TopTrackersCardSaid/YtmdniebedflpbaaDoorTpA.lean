/-
  WALKS AND WORDS: true places by ticks, and the bounds that are made of them.
-/
import Derived.Test.YtmdniebedflpbaaDoorPyX
import Derived.Test.YtmdniebedflpbaaDoorPxG
import Derived.Test.YtmdniebedflpbaaDoorPoE
import Derived.Test.YtmdniebedflpbaaDoorPnB
namespace Go.Proofs.YtmdniebedflpbaaDoor
open Go.RowKit

theorem own_in {W : World} {B g n cap : Nat} {p : Nat → Int} (h : W.ownsRow B 3 1 (.slice (some ⟨g, 0, none⟩) n cap) n (jrow p n)) : Sl W 1 (some ⟨g, 0, none⟩) n p := fun _ => ⟨g, 0, rfl, fun i hi => by
  rw [Nat.zero_add, World.ownsRow.cellAt h i (by omega), jrow_get p (by omega)]⟩
/-- Two rows of one's own of different types lie apart. -/
theorem own_apart {W : World} {B B' e e' s s' n n' g g' cap cap' : Nat} {xs xs' : List Value} (h : W.ownsRow B e s (.slice (some ⟨g, 0, none⟩) n cap) n xs) (h' : W.ownsRow B' e' s' (.slice (some ⟨g', 0, none⟩) n' cap') n' xs') (hne : e ≠ e') : g ≠ g' := by
  rcases h.2 with ⟨h1, _⟩ | ⟨a, c, cur, h1, _, h2, _⟩
  · cases h1
  · rcases h'.2 with ⟨h3, _⟩ | ⟨a', c', cur', h3, _, h4, _⟩
    · cases h3
    · cases h1
      cases h3
      rintro rfl
      rw [h2] at h4
      cases h4
      exact hne rfl

/-- The ticks times their size. -/
def tkS (s : Nat → Int) (z : Int) (i : Nat) : Int := s i * z
def tkP (s : Nat → Int) (z : Int) : Nat → Int := plS (tkS s z)
theorem tkP_succ (s : Nat → Int) (z : Int) (k : Nat) : tkP s z (k + 1) = tkP s z k + s k * z := rfl
theorem tk_bd {s : Nat → Int} {z : Int} {n : Nat} (hs : ∀ i, i < n → 0 ≤ s i ∧ s i ≤ 65535) (hz : 1 ≤ z ∧ z ≤ 256) : ∀ i, i < n → 0 ≤ s i * z ∧ s i * z ≤ 16776960 := fun i hi => by
  have := hs i hi
  have h := mul_bd this (show 0 ≤ z ∧ z ≤ 256 by omega)
  omega
theorem tkP_bd {s : Nat → Int} {z : Int} {n : Nat} (hs : ∀ i, i < n → 0 ≤ s i ∧ s i ≤ 65535) (hz : 1 ≤ z ∧ z ≤ 256) : ∀ k, k ≤ n → 0 ≤ tkP s z k ∧ tkP s z k ≤ k * 16776960
  | 0, _ => by simp [tkP, plS]
  | k + 1, hk => by
    have := tkP_bd hs hz k (by omega)
    have := tk_bd hs hz k (by omega)
    rw [tkP_succ]
    push_cast
    omega

theorem fits_true2 {N n : Nat} {pl F : Nat → Int} (h : TrueB N pl n F) (h1 : 1 ≤ N ∧ N ≤ 64) (hn : n ≤ 256) (hp : ∀ i, i < N → 0 ≤ pl i ∧ pl i ≤ 1073741824) : fitR N n F N pl = (-1, 0) := by
  unfold fitR
  rw [if_neg (by simpa using bchk_of (h.bok h1 hn)), if_neg (by simp), first_zero (fun i hi => ?_), if_neg (by simp), first_zero (fun i hi => ?_)]
  · rfl
  · unfold fvAt
    have := (h i hi).2.2.2
    rw [if_neg (by omega)]
  · unfold fpAt isPl
    have := hp i hi
    rw [if_pos (by rw [decide_eq_true_iff]; omega)]

/-- The bounds of Forward are true of places that rise. -/
theorem fw_true {N m : Nat} {pl : Nat → Int} (hm : ∀ i, i < m → pl i ≤ pl (i + 1)) (hN : m + 1 ≤ N) : TrueB N pl m fwF := fun i hi => by
  rw [fwF_0, fwF_1, fwF_2]
  have := hm i hi
  rw [show ((i : Int) + 1).toNat = i + 1 by omega, Int.toNat_natCast]
  omega
/-- The bounds of a distance that is in its range. -/
theorem bt_true {N a b : Nat} {pl : Nat → Int} {lo hi : Int} (ha : a < N) (hb : b < N) (hl : -1073741824 ≤ lo ∧ lo ≤ pl b - pl a) (hh : pl b - pl a ≤ hi ∧ hi ≤ 1073741824) : TrueB N pl 2 (btF a b lo hi) := fun i hi2 => by
  rcases (by omega : i = 0 ∨ i = 1) with rfl | rfl
  · show (0 ≤ (a : Int) ∧ (a : Int) < N) ∧ (0 ≤ (b : Int) ∧ (b : Int) < N) ∧ (-1073741824 ≤ hi ∧ hi ≤ 1073741824) ∧ pl ((b : Int)).toNat - pl ((a : Int)).toNat ≤ hi
    rw [Int.toNat_natCast, Int.toNat_natCast]; omega
  · show (0 ≤ (b : Int) ∧ (b : Int) < N) ∧ (0 ≤ (a : Int) ∧ (a : Int) < N) ∧ (-1073741824 ≤ -lo ∧ -lo ≤ 1073741824) ∧ pl ((a : Int)).toNat - pl ((b : Int)).toNat ≤ -lo
    rw [Int.toNat_natCast, Int.toNat_natCast]; omega
/-- Chains from the start to an event, and back. -/
def Wy (F : Nat → Int) (n k : Nat) : Prop := (∃ es, isWk F n 0 k es) ∧ ∃ es, isWk F n k 0 es
theorem Wy.zero (F : Nat → Int) (n : Nat) : Wy F n 0 := ⟨⟨[], rfl⟩, ⟨[], rfl⟩⟩
theorem Wy.more {F G : Nat → Int} {a b k : Nat} (h : Wy F a k) : Wy (cat F a G) (a + b) k := by
  obtain ⟨⟨es, h1⟩, ⟨es', h2⟩⟩ := h
  exact ⟨⟨es, (isWk_more (by omega) (fun i hi => cat_lo F a G hi) es h1).1⟩, ⟨es', (isWk_more (by omega) (fun i hi => cat_lo F a G hi) es' h2).1⟩⟩
theorem Wy.next {F : Nat → Int} {a k : Nat} {lo hi : Int} (h : Wy F a k) : Wy (cat F a (btF k (k + 1 : Nat) lo hi)) (a + 2) (k + 1) := by
  have e0 : bF (cat F a (btF k (k + 1 : Nat) lo hi)) a = k := by
    unfold bF; rw [show a * 3 = a * 3 + 0 by omega, cat_hi]; exact Int.toNat_natCast k
  have e1 : bT (cat F a (btF k (k + 1 : Nat) lo hi)) a = k + 1 := by
    unfold bT; rw [cat_hi]; exact Int.toNat_natCast (k + 1)
  have e2 : bF (cat F a (btF k (k + 1 : Nat) lo hi)) (a + 1) = k + 1 := by
    unfold bF; rw [show (a + 1) * 3 = a * 3 + 3 by omega, cat_hi]; exact Int.toNat_natCast (k + 1)
  have e3 : bT (cat F a (btF k (k + 1 : Nat) lo hi)) (a + 1) = k := by
    unfold bT; rw [show (a + 1) * 3 + 1 = a * 3 + 4 by omega, cat_hi]; exact Int.toNat_natCast k
  obtain ⟨⟨es, h1⟩, ⟨es', h2⟩⟩ := (h.more (G := btF k (k + 1 : Nat) lo hi) (b := 2))
  refine ⟨⟨es ++ [a], ?_⟩, ⟨(a + 1) :: es', ?_⟩⟩
  · have := isWk_snoc h1 (i := a) (by omega) e0
    rwa [e1] at this
  · exact ⟨by omega, e2, by rw [e3]; exact h2⟩

set_option maxRecDepth 100000 in
set_option maxHeartbeats 4000000 in
theorem forward_row (w : World) (m : Nat) (hm : m ≤ 63) :
    Calls Tryd.prog 7 #[.int .i64 ((m : Int) + 1)] w fun e W' => ∃ g cap,
      e = .returned (.tuple #[.slice (some ⟨g, 0, none⟩) m cap, .int .i64 0]) ∧ W'.ownsRow w.heap.size 62 3 (.slice (some ⟨g, 0, none⟩) m cap) m (brow fwF m) ∧ Below w.heap.size w W' := by
  go_enter Tryd.func7, Tryd.ntmps7
  go_wp2_with (at_make; refine wp_makeB _ rfl _ _ 34 62 rfl Tryd.underlying34 x_bound rfl (by decide) _ _ m rfl rfl (by omega) (by omega) (by omega) (by decide) ?_)
  obtain ⟨W, hW⟩ : ∃ W, w.alloc (.cells (vrow (m * 3) (zc (.agg #[.int .i64 0, .int .i64 0, .int .i64 0]) 3)) 62) = W := ⟨_, rfl⟩
  have hB : Below w.heap.size w W := by rw [← hW]; exact (Below.refl _ w).alloc (Nat.le_refl _) _
  have hK : Blk W w.heap.size 62 (m * 3) (fwG 0) := by
    rw [← hW]
    refine (Blk.new w _ _ _).congr fun i _ => ?_
    unfold fwG zc
    rw [if_neg (by omega)]
    have : i % 3 = 0 ∨ i % 3 = 1 ∨ i % 3 = 2 := by omega
    rcases this with h | h | h <;> rw [h] <;> rfl
  rw [hW]
  clear hW
  go_loopw [17] (fun i wr => ∃ k : Nat, k ≤ m ∧ i = .int .i64 k ∧ Hid (Blk wr w.heap.size 62 (m * 3) (fwG k)) ∧ Hid (Below w.heap.size w wr)) (fun i _ => m - (intOf i).toNat)
  case atStart => exact ⟨0, by omega, rfl, hK, hB⟩
  case round =>
    obtain ⟨k, hk, rfl, HK, HB⟩ := hrel
    clear hK hB
    by_cases hlt : k < m
    · have g0 := HK.out.cell (k := k * 3) (by omega)
      have g1 := HK.out.cell (k := k * 3 + 1) (by omega)
      have g2 := HK.out.cell (k := k * 3 + 2) (by omega)
      have z0 := HK.out.fz (k * 3)
      have z1 := HK.out.fz (k * 3 + 1)
      have z2 := HK.out.fz (k * 3 + 2)
      go_wp2
      have hb3 := ((HB.out.setCell (p := ⟨w.heap.size, k * 3, none⟩) (Nat.le_refl _) (.int .i64 ((k : Int) + 1))).setCell (p := ⟨w.heap.size, k * 3 + 1, none⟩) (Nat.le_refl _) (.int .i64 (k : Int))).setCell (p := ⟨w.heap.size, k * 3 + 2, none⟩) (Nat.le_refl _) (.int .i64 0)
      exact ⟨⟨k + 1, by omega, by go_num, (((HK.out.set _ _).set _ _).set _ _).congr (fun i _ => fwG_step k i), hb3⟩, by simp [intOf]; omega⟩
    · obtain rfl : k = m := by omega
      go_wp2
      refine bodyPost_ret (v := .tuple #[.slice (some ⟨w.heap.size, 0, none⟩) k k, .int .i64 0]) (by simp [results, Tryd.f7, go_sem]) rfl ?_
      have hK2 : Blk _ w.heap.size 62 (k * 3) (fun i => .int .i64 (fwF i)) := HK.out.congr (g' := fun i => .int .i64 (fwF i)) fun i hi => by unfold fwG; rw [if_pos hi]
      refine ⟨w.heap.size, k, rfl, ⟨brow_length _ _, .inr ⟨w.heap.size, k, _, rfl, Nat.le_refl _, hK2, Nat.le_refl _, by unfold maxLen; omega, vrow_size _ _, ?_⟩⟩, HB.out⟩
      unfold vrow brow
      rw [List.toList_toArray, List.take_of_length_le (by simp)]
end Go.Proofs.YtmdniebedflpbaaDoor
