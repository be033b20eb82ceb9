/-
  WORDS: what the trackers tell; MATHEMATICS: a range of Passed holds.
-/
import Derived.Test.YtmdniebedflpbaaDoorVpX
import Derived.Test.YtmdniebedflpbaaDoorTpB
import Derived.Test.YtmdniebedflpbaaDoorPnC
namespace Go.Proofs.YtmdniebedflpbaaDoor
open Go.RowKit

/-- A slice of bytes. -/
def S8 (w : World) (a : Option Addr) (n : Nat) (s : Nat → Int) : Prop := 0 < n → ∃ b o, a = some ⟨b, o, none⟩ ∧ ∀ i, i < n → w.cell? ⟨b, o + i, none⟩ = some (.int .u8 (s i))
theorem S8.cell {w w' : World} {a : Option Addr} {n : Nat} {s : Nat → Int} (h : S8 w a n s) (hb : Below w.heap.size w w') {i : Nat} (hi : i < n) : ∃ b o, a = some ⟨b, o, none⟩ ∧ w'.cell? ⟨b, o + i, none⟩ = some (.int .u8 (s i)) := by
  obtain ⟨b, o, rfl, hc⟩ := h (by omega)
  exact ⟨b, o, rfl, (hb.cell (p := ⟨b, o + i, none⟩) (cell_lt (hc i hi))).trans (hc i hi)⟩
/-- The telegrams. -/
def tlg (s v : Nat → Int) : Nat → Tg
  | 0 => ⟨1, 0, 0, 1000⟩
  | k + 1 => ⟨(k : Int) + 2, (tlg s v k).b + 1000 * s k, (tlg s v k).c + s k * v k, 900⟩
theorem tlg_bd {s v : Nat → Int} {n : Nat} (hs : ∀ i, i < n → 0 ≤ s i ∧ s i ≤ 255) (hv : ∀ i, i < n → 0 ≤ v i ∧ v i ≤ 255) : ∀ k, k ≤ n → (tlg s v k).a = (k : Int) + 1 ∧ (0 ≤ (tlg s v k).b ∧ (tlg s v k).b ≤ k * 255000) ∧ (0 ≤ (tlg s v k).c ∧ (tlg s v k).c ≤ k * 65025) ∧ 0 ≤ (tlg s v k).d ∧ (tlg s v k).d ≤ 1000
  | 0, _ => by simp [tlg]
  | k + 1, h => by
    obtain ⟨_, h2, h3, _⟩ := tlg_bd hs hv k (by omega)
    have e1 := hs k (by omega)
    have e2 := hv k (by omega)
    have e3 := mul_bd e1 e2
    simp only [tlg]
    generalize s k * v k = y at e3 ⊢
    omega
theorem tlg_ok {s v : Nat → Int} {n : Nat} (h8 : n ≤ 8) (hs : ∀ i, i < n → 0 ≤ s i ∧ s i ≤ 255) (hv : ∀ i, i < n → 0 ≤ v i ∧ v i ≤ 255) (k : Nat) (hk : k ≤ n) : (tlg s v k).ok := by
  obtain ⟨h1, h2, h3, h4⟩ := tlg_bd hs hv k hk
  unfold Tg.ok
  omega
/-- Telegrams in a row. -/
def tgc (t : Tg) : List Value := [.int .i64 t.a, .int .i64 t.b, .int .i64 t.c, .int .i64 t.d]
def trow (T : Nat → Tg) : Nat → List Value
  | 0 => []
  | k + 1 => trow T k ++ tgc (T k)
theorem trow_len (T : Nat → Tg) : ∀ k, (trow T k).length = k * 4
  | 0 => rfl
  | k + 1 => by rw [trow, List.length_append, trow_len T k]; simp [tgc]; omega
theorem trow_get (T : Nat → Tg) (j : Nat) : ∀ k, j < k → ∀ q, q < 4 → (trow T k)[j * 4 + q]? = (tgc (T j))[q]?
  | 0, h, _, _ => by omega
  | k + 1, h, q, hq => by
    rw [trow]
    by_cases e : j = k
    · subst e
      rw [List.getElem?_append_right (by rw [trow_len]; omega), trow_len, Nat.add_sub_cancel_left]
    · rw [List.getElem?_append_left (by rw [trow_len]; omega)]
      exact trow_get T j k (by omega) q hq
theorem trow_cells {W : World} {B e g n cap j : Nat} {T : Nat → Tg} (h : W.ownsRow B e 4 (.slice (some ⟨g, 0, none⟩) n cap) n (trow T n)) (hj : j < n) :
    W.cell? ⟨g, j * 4, none⟩ = some (.int .i64 (T j).a) ∧ W.cell? ⟨g, j * 4 + 1, none⟩ = some (.int .i64 (T j).b) ∧ W.cell? ⟨g, j * 4 + 2, none⟩ = some (.int .i64 (T j).c) ∧ W.cell? ⟨g, j * 4 + 3, none⟩ = some (.int .i64 (T j).d) := by
  refine ⟨?_, ?_, ?_, ?_⟩
  · rw [World.ownsRow.cellAt h _ (by omega)]; exact trow_get T j n hj 0 (by decide)
  · rw [World.ownsRow.cellAt h _ (by omega)]; exact trow_get T j n hj 1 (by decide)
  · rw [World.ownsRow.cellAt h _ (by omega)]; exact trow_get T j n hj 2 (by decide)
  · rw [World.ownsRow.cellAt h _ (by omega)]; exact trow_get T j n hj 3 (by decide)
theorem pas_true {p s v x0 x1 : Int} (hp : 0 ≤ p ∧ p ≤ 600000) (hs : 0 ≤ s ∧ s ≤ 255) (hv : 0 ≤ v ∧ v ≤ 255) (h0 : 0 ≤ x0 ∧ x0 ≤ 255) (h1 : 0 ≤ x1 ∧ x1 ≤ 255) :
    ∃ L H, pas p (1000 * s - x0) (1000 * s + x0) (max (v - x1) 0) (v + x1) = (L, H, 0) ∧ L ≤ p + s * v ∧ p + s * v ≤ H ∧ -1000 ≤ L ∧ H ≤ 1000000 := by
  obtain ⟨lo, hlo⟩ : ∃ lo, max (v - x1) 0 = lo := ⟨_, rfl⟩
  obtain ⟨hi, hhi⟩ : ∃ hi, v + x1 = hi := ⟨_, rfl⟩
  obtain ⟨al, hal⟩ : ∃ al, 1000 * s - x0 = al := ⟨_, rfl⟩
  obtain ⟨ah, hah⟩ : ∃ ah, 1000 * s + x0 = ah := ⟨_, rfl⟩
  have b1 : 0 ≤ lo ∧ lo ≤ v := by omega
  have b2 : v ≤ hi ∧ hi ≤ 510 := by omega
  have b3 : -255 ≤ al ∧ al ≤ 1000 * s := by omega
  have b4 : 1000 * s ≤ ah ∧ ah ≤ 255255 := by omega
  rw [hlo, hhi, hal, hah]
  have hE : pasE p al ah lo hi = 0 := by
    unfold pasE
    have e1 : isPl p = true := decide_eq_true (by omega)
    have e2 : rgErr lo hi 0 32768 = 0 := by
      rcases rg_ways lo hi 0 32768 with ⟨h, _⟩ | ⟨h, _⟩ | ⟨_, h⟩
      · omega
      · omega
      · exact h
    have e3 : rgErr al ah (-1048576) 1048576 = 0 := by
      rcases rg_ways al ah (-1048576) 1048576 with ⟨h, _⟩ | ⟨h, _⟩ | ⟨_, h⟩
      · omega
      · omega
      · exact h
    rw [e1, e2, e3]
    simp
  have m1 : al * lo ≤ 1000 * (s * v) := by
    by_cases h : 0 ≤ al
    · have q1 := Int.mul_le_mul_of_nonneg_left b1.2 h
      have q2 := Int.mul_le_mul_of_nonneg_right b3.2 hv.1
      rw [Int.mul_assoc] at q2
      exact Int.le_trans q1 q2
    · have q1 := Int.mul_le_mul_of_nonneg_right (show al ≤ 0 by omega) b1.1
      rw [Int.zero_mul] at q1
      have q2 := Int.mul_nonneg hs.1 hv.1
      omega
  have m2 : 1000 * (s * v) ≤ ah * hi := by
    have q1 := Int.mul_le_mul_of_nonneg_right b4.1 hv.1
    rw [Int.mul_assoc] at q1
    exact Int.le_trans q1 (Int.mul_le_mul_of_nonneg_left b2.1 (by omega))
  have m3 : -130050 ≤ al * lo := by
    have q1 := Int.mul_le_mul_of_nonneg_right b3.1 b1.1
    omega
  have m4 : -130050 ≤ al * hi := by
    have q1 := Int.mul_le_mul_of_nonneg_right b3.1 (show 0 ≤ hi by omega)
    omega
  have m5 := mul_bd (show 0 ≤ ah ∧ ah ≤ 255255 by omega) (show 0 ≤ hi ∧ hi ≤ 510 by omega)
  have m6 := mul_bd (show 0 ≤ ah ∧ ah ≤ 255255 by omega) (show 0 ≤ lo ∧ lo ≤ 510 by omega)
  have m7 := mul_bd hs hv
  unfold pas
  rw [hE, if_neg (by simp)]
  generalize al * lo = y1 at m1 m3 ⊢
  generalize al * hi = y2 at m4 ⊢
  generalize ah * hi = y3 at m2 m5 ⊢
  generalize ah * lo = y4 at m6 ⊢
  generalize s * v = y at m1 m2 m7 ⊢
  have c1 : ce (max y4 y3) 1000 ≤ 130182 ∧ y ≤ ce (max y4 y3) 1000 := by unfold ce; omega
  have c2 : -131 ≤ min y1 y2 / 1000 ∧ min y1 y2 / 1000 ≤ y := by omega
  generalize ce (max y4 y3) 1000 = C at c1 ⊢
  generalize min y1 y2 / 1000 = D at c2 ⊢
  have e1 : isPl (p + D) = true := decide_eq_true (by omega)
  have e2 : isPl (p + C) = true := decide_eq_true (by omega)
  refine ⟨p + D, p + C, ?_, by omega, by omega, by omega, by omega⟩
  rw [e1, e2, if_neg (by simp)]
end Go.Proofs.YtmdniebedflpbaaDoor
