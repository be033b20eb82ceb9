/-
  WALKS AND WORDS: Base DivMath NumMath of my texts, one behind the other.
-/
import Derived.Test.YtmdniebedflpbaaDoorProg
import Derived.WalkKit
import Derived.WalkSpells
import Derived.WalkLawsBesides
import Derived.BigQuiet
import Derived.Deep.QuietTactic
import Derived.Lib.Hide
-- Base: WORDS: natural numbers in memory, as rows of 64-bit digits, and what a call of this program that only makes new memory does.
namespace Go.Proofs.YtmdniebedflpbaaDoor.Dy
open Go.RowKit

theorem ret_int {k : IntKind} {a b : Int} (h : a = b) : Ending.returned (.int k a) = .returned (.int k b) := by rw [h]

/-- The base of the digits. -/
def base : Nat := 18446744073709551616
theorem base_eq : base = 18446744073709551616 := rfl
theorem base_pos : 0 < base := by decide
/-- The number with the digits f 0 .. f (n - 1). -/
def val (f : Nat → Nat) : Nat → Nat
  | 0 => 0
  | n + 1 => val f n + f n * base ^ n

theorem val_congr {f g : Nat → Nat} : ∀ {n : Nat}, (∀ i, i < n → f i = g i) → val f n = val g n
  | 0, _ => rfl
  | n + 1, h => by
    have h1 := val_congr (n := n) (fun i hi => h i (by omega))
    have h2 := h n (by omega)
    simp only [val, h1, h2]

theorem val_lt {f : Nat → Nat} : ∀ {n : Nat}, (∀ i, i < n → f i < base) → val f n < base ^ n
  | 0, _ => by simp [val]
  | n + 1, h => by
    have h1 := val_lt (n := n) (fun i hi => h i (by omega))
    have h2 := h n (by omega)
    simp only [val, Nat.pow_succ]
    have h3 : (f n + 1) * base ^ n ≤ base * base ^ n := Nat.mul_le_mul_right _ h2
    rw [Nat.add_mul, Nat.one_mul] at h3
    rw [Nat.mul_comm (base ^ n) base]
    omega

theorem val_split (f : Nat → Nat) (k : Nat) : ∀ n, val f (k + n) = val f k + base ^ k * val (fun i => f (k + i)) n
  | 0 => by simp [val]
  | n + 1 => by
    have h := val_split f k n
    have e : val f (k + (n + 1)) = val f (k + n) + f (k + n) * base ^ (k + n) := rfl
    rw [e, h]
    simp only [val, Nat.pow_add, Nat.mul_add]
    have : f (k + n) * (base ^ k * base ^ n) = base ^ k * (f (k + n) * base ^ n) := by
      rw [Nat.mul_left_comm]
    omega

theorem val_zeros {f : Nat → Nat} {k : Nat} : ∀ {n : Nat}, k ≤ n → (∀ i, k ≤ i → i < n → f i = 0) → val f n = val f k
  | 0, h, _ => by
    have : k = 0 := by omega
    subst this; rfl
  | n + 1, h, hz => by
    by_cases e : k = n + 1
    · subst e; rfl
    · have h1 := val_zeros (n := n) (by omega) (fun i h1 h2 => hz i h1 (by omega))
      have h2 := hz n (by omega) (by omega)
      simp only [val, h1, h2, Nat.zero_mul, Nat.add_zero]

theorem val_ge {f : Nat → Nat} {n : Nat} (hn : 0 < n) (h : f (n - 1) ≠ 0) : base ^ (n - 1) ≤ val f n := by
  obtain ⟨m, rfl⟩ : ∃ m, n = m + 1 := ⟨n - 1, by omega⟩
  simp only [Nat.add_sub_cancel] at h ⊢
  simp only [val]
  have : 1 * base ^ m ≤ f m * base ^ m := Nat.mul_le_mul_right _ (by omega)
  omega

/-- The cells from o on in block b hold the digits f 0 .. f (n - 1). -/
def Row (w : World) (b o n : Nat) (f : Nat → Nat) : Prop :=
  ∀ i, i < n → w.cell? ⟨b, o + i, none⟩ = some (.int .u64 (f i : Int))
/-- They may be written. -/
def Free (w : World) (b o n : Nat) : Prop :=
  ∀ i, i < n → w.frozen? ⟨b, o + i, none⟩ = false
/-- Digits. -/
def Small (f : Nat → Nat) (n : Nat) : Prop := ∀ i, i < n → f i < base

theorem Row.keep {w w' : World} {b o n : Nat} {f : Nat → Nat} (h : Row w b o n f) {B : Nat} (hb : Below B w w') (hB : b < B) : Row w' b o n f :=
  fun i hi => (hb.cell (p := ⟨b, o + i, none⟩) hB).trans (h i hi)
theorem Free.keep {w w' : World} {b o n : Nat} (h : Free w b o n) {B : Nat} (hb : Below B w w') (hB : b < B) : Free w' b o n :=
  fun i hi => (hb.frozen (p := ⟨b, o + i, none⟩) hB).trans (h i hi)
theorem Row.lt {w : World} {b o n : Nat} {f : Nat → Nat} (h : Row w b o n f) (hn : 0 < n) : b < w.heap.size :=
  World.block_lt_of_cell? w _ (h 0 hn)
theorem Row.congr {w : World} {b o n : Nat} {f g : Nat → Nat} (h : Row w b o n f) (e : ∀ i, i < n → f i = g i) : Row w b o n g :=
  fun i hi => by rw [← e i hi]; exact h i hi
theorem Row.sub {w : World} {b o n : Nat} {f : Nat → Nat} (h : Row w b o n f) (k m : Nat) (hk : k + m ≤ n) : Row w b (o + k) m (fun i => f (k + i)) :=
  fun i hi => by rw [Nat.add_assoc]; exact h (k + i) (by omega)
theorem Free.sub {w : World} {b o n : Nat} (h : Free w b o n) (k m : Nat) (hk : k + m ≤ n) : Free w b (o + k) m :=
  fun i hi => by rw [Nat.add_assoc]; exact h (k + i) (by omega)

/-- A slice that holds the natural number m: no zero digit at its end. -/
def Nt (w : World) (v : Value) (m : Nat) : Prop :=
  (v = .slice none 0 0 ∧ m = 0) ∨
  ∃ b o n cap f, v = .slice (some ⟨b, o, none⟩) n cap ∧ 0 < n ∧ n ≤ cap ∧ Row w b o n f ∧ Small f n ∧ f (n - 1) ≠ 0 ∧ val f n = m

theorem Nt.keep {w w' : World} {v : Value} {m : Nat} (h : Nt w v m) (hb : Below w.heap.size w w') : Nt w' v m := by
  rcases h with h | ⟨b, o, n, cap, f, hv, hn, hc, hr, hs, hl, hm⟩
  · exact .inl h
  · exact .inr ⟨b, o, n, cap, f, hv, hn, hc, hr.keep hb (hr.lt hn), hs, hl, hm⟩

/-- What a call does that hands back one value and only makes new memory. -/
def Ret (w : World) (Q : World → Value → Prop) (e : Ending) (w' : World) : Prop :=
  ∃ v, e = .returned v ∧ Q w' v ∧ Below w.heap.size w w'

/-- A call that only reads: some draws. -/
def Quiet (w w' : World) : Prop := ∃ n, w' = w.drewN n
theorem Quiet.refl (w : World) : Quiet w w := ⟨0, rfl⟩
theorem Quiet.of (w : World) (n : Nat) : Quiet w (w.drewN n) := ⟨n, rfl⟩
theorem Quiet.trans {a b c : World} (h : Quiet a b) (k : Quiet b c) : Quiet a c := by
  obtain ⟨n, rfl⟩ := h; obtain ⟨m, rfl⟩ := k; exact ⟨n + m, World.drewN_drewN _ _ _⟩
theorem Quiet.drewN {a b : World} (h : Quiet a b) (n : Nat) : Quiet a (b.drewN n) := h.trans ⟨n, rfl⟩
theorem Quiet.drew {a b : World} (h : Quiet a b) : Quiet a b.drew := h.trans ⟨1, rfl⟩
theorem Quiet.below {a b : World} (h : Quiet a b) (B : Nat) : Below B a b := by
  obtain ⟨n, rfl⟩ := h; exact ⟨rfl, rfl, rfl, Nat.le_refl _, fun _ _ => rfl⟩

/-- How many digits a number of so many bits has. -/
theorem len_le {f : Nat → Nat} {n L : Nat} (hn : 0 < n) (h : f (n - 1) ≠ 0) (hm : val f n < base ^ L) : n ≤ L := by
  have h1 := val_ge hn h
  have h2 : base ^ (n - 1) < base ^ L := by omega
  have h3 := (Nat.pow_lt_pow_iff_right (a := base) (by decide)).1 h2
  omega
end Go.Proofs.YtmdniebedflpbaaDoor.Dy
-- DivMath: PLAIN: the two steps of a division of two digits by one (math/bits.Div64).
namespace Go.Proofs.YtmdniebedflpbaaDoor.Dy

/-- 2^32. -/
def half : Nat := 4294967296
theorem half_sq : half * half = base := by decide

/-- A guess that is not too small, and whose test says it is not too great. -/
theorem div_fits {U Y y1 y0 u1 q r : Nat} (hY : Y = y1 * half + y0) (hi : q * y1 + r = U) (ht : q * y0 ≤ half * r + u1) : q * Y ≤ U * half + u1 := by
  subst hY
  have e : q * (y1 * half + y0) = q * y1 * half + q * y0 := by rw [Nat.mul_add, Nat.mul_assoc]
  have e2 : U * half = q * y1 * half + r * half := by rw [← hi, Nat.add_mul]
  rw [e, e2, Nat.mul_comm r half]
  omega
theorem div_great {U Y y1 y0 u1 q r : Nat} (hY : Y = y1 * half + y0) (hi : q * y1 + r = U) (ht : half * r + u1 < q * y0) : U * half + u1 < q * Y := by
  subst hY
  have e : q * (y1 * half + y0) = q * y1 * half + q * y0 := by rw [Nat.mul_add, Nat.mul_assoc]
  have e2 : U * half = q * y1 * half + r * half := by rw [← hi, Nat.add_mul]
  rw [e, e2, Nat.mul_comm r half]
  omega

/-- What holds of the guess at the head of each round. -/
structure Guess (U Y y1 y0 u1 q r : Nat) : Prop where
  hY : Y = y1 * half + y0
  hy0 : y0 < half
  hy1 : y1 < half
  hy1' : half ≤ 2 * y1
  hU : U < Y
  hu1 : u1 < half
  hi : q * y1 + r = U
  hr : r < half
  hq : (U * half + u1) / Y ≤ q

theorem Guess.first {U Y y1 y0 u1 : Nat} (hY : Y = y1 * half + y0) (hy0 : y0 < half) (hy1 : y1 < half) (hy1' : half ≤ 2 * y1) (hU : U < Y) (hu1 : u1 < half) : Guess U Y y1 y0 u1 (U / y1) (U % y1) := by
  have hh : half = 4294967296 := rfl
  have hp : 0 < y1 := by omega
  refine ⟨hY, hy0, hy1, hy1', hU, hu1, by rw [Nat.mul_comm]; exact Nat.div_add_mod _ _, Nat.lt_trans (Nat.mod_lt _ hp) hy1, ?_⟩
  have hYp : 0 < Y := by omega
  apply Nat.le_of_lt_succ
  rw [Nat.div_lt_iff_lt_mul hYp]
  have h1 : U < (U / y1 + 1) * y1 := by
    have := Nat.div_add_mod U y1
    have := Nat.mod_lt U hp
    rw [Nat.add_mul, Nat.one_mul, Nat.mul_comm (U / y1)]; omega
  have h2 : (U + 1) * half ≤ (U / y1 + 1) * y1 * half := Nat.mul_le_mul_right _ h1
  have h3 : (U / y1 + 1) * Y = (U / y1 + 1) * y1 * half + (U / y1 + 1) * y0 := by rw [hY, Nat.mul_add, Nat.mul_assoc]
  rw [Nat.succ_eq_add_one, h3]
  rw [Nat.add_mul, Nat.one_mul] at h2
  omega

variable {U Y y1 y0 u1 q r : Nat}
theorem Guess.posY (g : Guess U Y y1 y0 u1 q r) : 0 < Y := by have := g.hU; omega
theorem Guess.lt_half (g : Guess U Y y1 y0 u1 q r) : (U * half + u1) / Y < half := by
  rw [Nat.div_lt_iff_lt_mul g.posY]
  have h1 : (U + 1) * half ≤ Y * half := Nat.mul_le_mul_right _ g.hU
  have := g.hu1
  rw [Nat.add_mul, Nat.one_mul] at h1
  rw [Nat.mul_comm half]; omega
theorem Guess.le (g : Guess U Y y1 y0 u1 q r) : q ≤ half + 1 := by
  have h1 := g.hi; have h2 := g.hU; have h3 := g.hY; have h4 := g.hy0; have h5 := g.hy1'
  have hp : 0 < y1 := by have : half = 4294967296 := rfl; omega
  have h6 : q * y1 < (half + 2) * y1 := by rw [Nat.add_mul, Nat.mul_comm half]; omega
  have := Nat.lt_of_mul_lt_mul_right h6
  omega
/-- The test says that it is not too great: it is the quotient. -/
theorem Guess.done (g : Guess U Y y1 y0 u1 q r) (ht : q * y0 ≤ half * r + u1) : q = (U * half + u1) / Y := by
  refine Nat.le_antisymm ?_ g.hq
  rw [Nat.le_div_iff_mul_le g.posY]
  exact div_fits g.hY g.hi ht
/-- Too great: one less. -/
theorem Guess.lower (g : Guess U Y y1 y0 u1 q r) (ht : half ≤ q ∨ half * r + u1 < q * y0) : (U * half + u1) / Y + 1 ≤ q := by
  rcases ht with ht | ht
  · exact Nat.le_trans g.lt_half ht
  · have h1 := div_great g.hY g.hi ht
    rw [Nat.succ_le_iff, Nat.div_lt_iff_lt_mul g.posY]
    exact h1
theorem Guess.next (g : Guess U Y y1 y0 u1 q r) (ht : half ≤ q ∨ half * r + u1 < q * y0) (hr : r + y1 < half) : Guess U Y y1 y0 u1 (q - 1) (r + y1) := by
  have h := g.lower ht
  refine ⟨g.hY, g.hy0, g.hy1, g.hy1', g.hU, g.hu1, ?_, hr, by omega⟩
  have h1 := g.hi
  obtain ⟨p, rfl⟩ : ∃ p, q = p + 1 := ⟨q - 1, by have : 0 < q := Nat.lt_of_lt_of_le (Nat.succ_pos _) h; omega⟩
  rw [Nat.add_sub_cancel]
  rw [Nat.add_mul, Nat.one_mul] at h1
  omega
theorem Guess.last (g : Guess U Y y1 y0 u1 q r) (ht : half ≤ q ∨ half * r + u1 < q * y0) (hr : half ≤ r + y1) : q - 1 = (U * half + u1) / Y := by
  have h := g.lower ht
  refine Nat.le_antisymm ?_ (by omega)
  rw [Nat.le_div_iff_mul_le g.posY]
  have h1 := g.hi
  obtain ⟨p, rfl⟩ : ∃ p, q = p + 1 := ⟨q - 1, by have : 0 < q := Nat.lt_of_lt_of_le (Nat.succ_pos _) h; omega⟩
  rw [Nat.add_sub_cancel]
  rw [Nat.add_mul, Nat.one_mul] at h1
  refine div_fits (r := r + y1) g.hY (by omega) ?_
  have hle := g.le
  have h2 := g.hy0
  have h3 : p * y0 ≤ half * (half - 1) := Nat.mul_le_mul (by omega) (by omega)
  have h4 : half * half ≤ half * (r + y1) := Nat.mul_le_mul_left _ hr
  have h5 : half * (half - 1) ≤ half * half := Nat.mul_le_mul_left _ (by omega)
  omega
end Go.Proofs.YtmdniebedflpbaaDoor.Dy
-- NumMath: PLAIN: dyadic numbers as integers times powers of two.
namespace Go.Proofs.YtmdniebedflpbaaDoor.Dy

/-- i 2^e. -/
def mk (i e : Int) : Dyadic := Dyadic.ofIntWithPrec i (-e)
theorem two_ne : (2 : Rat) ≠ 0 := by decide
theorem mk_rat (i e : Int) : (mk i e).toRat = i * 2 ^ e := by
  rw [mk, Dyadic.toRat_ofIntWithPrec_eq_mul_two_pow, Int.neg_neg]
theorem mk_add (i j e : Int) : mk i e + mk j e = mk (i + j) e := by
  rw [← Dyadic.toRat_inj, Dyadic.toRat_add, mk_rat, mk_rat, mk_rat, Rat.intCast_add, Rat.add_mul]
theorem mk_neg (i e : Int) : -(mk i e) = mk (-i) e := by
  rw [mk, Dyadic.neg_ofIntWithPrec]; rfl
theorem mk_mul (i j e f : Int) : mk i e * mk j f = mk (i * j) (e + f) := by
  rw [← Dyadic.toRat_inj, Dyadic.toRat_mul, mk_rat, mk_rat, mk_rat, Rat.intCast_mul, Rat.zpow_add two_ne]; grind
theorem mk_shift (i e : Int) (n : Nat) : mk (i * 2 ^ n) e = mk i (e + n) := by
  rw [← Dyadic.toRat_inj, mk_rat, mk_rat, Rat.zpow_add two_ne, Rat.intCast_mul, Rat.zpow_natCast]
  have : ((2 ^ n : Int) : Rat) = 2 ^ n := by
    rw [Rat.intCast_pow]; rfl
  rw [this]; grind
theorem mk_zero (e : Int) : mk 0 e = 0 := rfl
theorem mk_odd (i e : Int) (h : i % 2 = 1) : mk i e = .ofOdd i (-e) h := by
  rw [mk, Dyadic.ofOdd_eq_ofIntWithPrec]
theorem mk_inj {i j e f : Int} (hi : i % 2 = 1) (hj : j % 2 = 1) (h : mk i e = mk j f) : i = j ∧ e = f := by
  rw [mk_odd i e hi, mk_odd j f hj] at h
  simp only [Dyadic.ofOdd.injEq] at h
  exact ⟨h.1, by omega⟩
theorem mk_ne_zero {i e : Int} (hi : i % 2 = 1) : mk i e ≠ 0 := by
  rw [mk_odd i e hi]; exact Dyadic.of_ne_zero
theorem canon (x : Dyadic) : x = 0 ∨ ∃ i e : Int, i % 2 = 1 ∧ x = mk i e := by
  cases x with
  | zero => exact .inl rfl
  | ofOdd n k h => exact .inr ⟨n, -k, h, by rw [mk_odd n _ h]; simp⟩
theorem mk_pos {i e : Int} (h : 0 < i) : 0 < mk i e := by
  rw [← Dyadic.toRat_lt_toRat_iff, mk_rat]
  have h1 : (0 : Rat) < i := Rat.intCast_pos.2 h
  have h2 : (0 : Rat) < 2 ^ e := Rat.zpow_pos (by decide)
  exact Rat.mul_pos h1 h2
theorem mk_neg' {i e : Int} (h : i < 0) : mk i e < 0 := by
  have h1 : 0 < mk (-i) e := mk_pos (by omega)
  rw [← mk_neg] at h1
  grind

/-- The sign. -/
def sgn (x : Dyadic) : Int := if x < 0 then -1 else if 0 < x then 1 else 0
theorem sgn_zero : sgn 0 = 0 := by decide
theorem sgn_neg {x : Dyadic} (h : x < 0) : sgn x = -1 := if_pos h
theorem sgn_pos {x : Dyadic} (h : 0 < x) : sgn x = 1 := by
  unfold sgn; rw [if_neg (by grind), if_pos h]

/-- A sign and an absolute value. -/
def sg (neg : Bool) (m : Nat) : Int := if neg then -(m : Int) else m
theorem sg_odd {neg : Bool} {m : Nat} (h : m % 2 = 1) : sg neg m % 2 = 1 := by
  unfold sg; split <;> omega
theorem sg_zero (neg : Bool) : sg neg 0 = 0 := by unfold sg; split <;> rfl
theorem sg_not (neg : Bool) (m : Nat) : sg (!neg) m = -sg neg m := by
  cases neg <;> simp [sg]
theorem sg_mul (a b : Bool) (m n : Nat) : sg (a != b) (m * n) = sg a m * sg b n := by
  cases a <;> cases b <;> simp [sg, Int.neg_mul, Int.mul_neg]
theorem sg_pow (a : Bool) (m n : Nat) : sg a (m * 2 ^ n) = sg a m * 2 ^ n := by
  cases a <;> simp [sg, Int.neg_mul]
theorem sg_abs (a : Bool) (m : Nat) : (sg a m).natAbs = m := by cases a <;> simp [sg]

/-- The fields of a number: in lowest terms, and of 0 all zero. -/
def Canon (neg : Bool) (m : Nat) (e : Int) (x : Dyadic) : Prop :=
  (m = 0 ∧ neg = false ∧ e = 0 ∧ x = 0) ∨ (m % 2 = 1 ∧ x = mk (sg neg m) e)

theorem Canon.val {neg : Bool} {m : Nat} {e : Int} {x : Dyadic} (h : Canon neg m e x) : x = mk (sg neg m) e := by
  rcases h with ⟨rfl, rfl, rfl, rfl⟩ | ⟨_, h⟩
  · rfl
  · exact h
theorem Canon.zero_iff {neg : Bool} {m : Nat} {e : Int} {x : Dyadic} (h : Canon neg m e x) : m = 0 ↔ x = 0 := by
  rcases h with ⟨rfl, rfl, rfl, rfl⟩ | ⟨ho, rfl⟩
  · simp
  · constructor
    · intro h; omega
    · intro h; exact absurd h (mk_ne_zero (sg_odd ho))
theorem Canon.inj {neg neg' : Bool} {m m' : Nat} {e e' : Int} {x y : Dyadic} (h : Canon neg m e x) (k : Canon neg' m' e' y) : (neg = neg' ∧ m = m' ∧ e = e') ↔ x = y := by
  constructor
  · rintro ⟨rfl, rfl, rfl⟩; rw [h.val, k.val]
  · rintro rfl
    rcases h with ⟨rfl, rfl, rfl, rfl⟩ | ⟨ho, hx⟩
    · rcases k with ⟨rfl, rfl, rfl, _⟩ | ⟨ho, hx⟩
      · exact ⟨rfl, rfl, rfl⟩
      · exact absurd hx.symm (mk_ne_zero (sg_odd ho))
    · rcases k with ⟨rfl, rfl, rfl, rfl⟩ | ⟨ko, kx⟩
      · exact absurd hx.symm (mk_ne_zero (sg_odd ho))
      · obtain ⟨h1, h2⟩ := mk_inj (sg_odd ho) (sg_odd ko) (hx.symm.trans kx)
        have h3 : m = m' := by rw [← sg_abs neg m, h1, sg_abs]
        subst h3
        refine ⟨?_, rfl, h2⟩
        cases neg <;> cases neg' <;> simp [sg] at h1 <;> first | rfl | omega
theorem Canon.sgn {neg : Bool} {m : Nat} {e : Int} {x : Dyadic} (h : Canon neg m e x) : sgn x = if m = 0 then 0 else if neg then -1 else 1 := by
  rcases h with ⟨rfl, rfl, rfl, rfl⟩ | ⟨ho, rfl⟩
  · rw [if_pos rfl]; exact sgn_zero
  · rw [if_neg (by omega)]
    cases neg
    · exact sgn_pos (mk_pos (by simp [sg]; omega))
    · exact sgn_neg (mk_neg' (by simp [sg]; omega))

/-- What 'build' does. -/
theorem canon_build {neg : Bool} {m t q : Nat} {e : Int} (h : m = 2 ^ t * (2 * q + 1)) : Canon neg (2 * q + 1) (e + t) (mk (sg neg m) e) := by
  refine .inr ⟨by omega, ?_⟩
  rw [h, Nat.mul_comm, sg_pow, mk_shift]

/-- A multiple of 2^-E with an absolute value below 2^(A - E). -/
def Box (x : Dyadic) (A E : Nat) : Prop := ∃ i : Int, x = mk i (-(E : Int)) ∧ i.natAbs < 2 ^ A

theorem Box.wide {x : Dyadic} {A E A' E' : Nat} (h : Box x A E) (hE : E ≤ E') (hA : A + (E' - E) ≤ A') : Box x A' E' := by
  obtain ⟨i, rfl, hi⟩ := h
  refine ⟨i * 2 ^ (E' - E), by rw [mk_shift]; congr 1; omega, ?_⟩
  rw [Int.natAbs_mul, Int.natAbs_pow]
  have h1 : i.natAbs * 2 ^ (E' - E) < 2 ^ A * 2 ^ (E' - E) := Nat.mul_lt_mul_of_pos_right hi (Nat.two_pow_pos _)
  rw [← Nat.pow_add] at h1
  exact Nat.lt_of_lt_of_le h1 (Nat.pow_le_pow_right (by decide) hA)
theorem Box.zero (A E : Nat) : Box 0 A E := ⟨0, rfl, Nat.two_pow_pos _⟩
theorem Box.neg {x : Dyadic} {A E : Nat} (h : Box x A E) : Box (-x) A E := by
  obtain ⟨i, rfl, hi⟩ := h
  exact ⟨-i, mk_neg _ _, by rw [Int.natAbs_neg]; exact hi⟩
theorem Box.add {x y : Dyadic} {A E : Nat} (h : Box x A E) (k : Box y A E) : Box (x + y) (A + 1) E := by
  obtain ⟨i, rfl, hi⟩ := h
  obtain ⟨j, rfl, hj⟩ := k
  refine ⟨i + j, mk_add _ _ _, ?_⟩
  rw [Nat.pow_succ]
  omega
theorem Box.mul {x y : Dyadic} {A E B F : Nat} (h : Box x A E) (k : Box y B F) : Box (x * y) (A + B) (E + F) := by
  obtain ⟨i, rfl, hi⟩ := h
  obtain ⟨j, rfl, hj⟩ := k
  refine ⟨i * j, by rw [mk_mul]; congr 1; omega, ?_⟩
  rw [Int.natAbs_mul, Nat.pow_add]
  exact Nat.mul_lt_mul'' hi hj

/-- The bounds of the fields. -/
theorem Canon.box {neg : Bool} {m : Nat} {e : Int} {x : Dyadic} {A E : Nat} (h : Canon neg m e x) (b : Box x A E) : m < 2 ^ A ∧ -(E : Int) ≤ e ∧ e ≤ A := by
  rcases h with ⟨rfl, rfl, rfl, rfl⟩ | ⟨ho, hx⟩
  · exact ⟨Nat.two_pow_pos _, by omega, by omega⟩
  · obtain ⟨i, hi, hb⟩ := b
    rw [hx] at hi
    have hi0 : i ≠ 0 := by
      rintro rfl
      exact mk_ne_zero (sg_odd ho) hi
    rcases canon (mk i (-(E : Int))) with h0 | ⟨j, f, hj, hjf⟩
    · rw [← hi] at h0; exact absurd h0 (mk_ne_zero (sg_odd ho))
    · -- i in lowest terms
      obtain ⟨t, k, hk, hik⟩ : ∃ (t : Nat) (k : Int), k % 2 = 1 ∧ i = k * 2 ^ t := by
        clear hx hi hjf hj hb
        induction hn : i.natAbs using Nat.strongRecOn generalizing i with
        | ind n ih =>
          by_cases h2 : i % 2 = 1
          · exact ⟨0, i, h2, by simp⟩
          · obtain ⟨t, k, hk, e⟩ := ih (i / 2).natAbs (by omega) (i := i / 2) (by omega) rfl
            exact ⟨t + 1, k, hk, by rw [Int.pow_succ, ← Int.mul_assoc, ← e]; omega⟩
      rw [hik, mk_shift] at hi
      obtain ⟨h1, h2⟩ := mk_inj (sg_odd ho) hk hi
      have hm : m = k.natAbs := by rw [← h1, sg_abs]
      rw [hik, Int.natAbs_mul, Int.natAbs_pow, ← hm] at hb
      have hm1 : 1 ≤ m := by omega
      have ht : 2 ^ t ≤ m * 2 ^ t := Nat.le_mul_of_pos_left _ hm1
      have hb' : m * 2 ^ t < 2 ^ A := hb
      have htA : t < A := (Nat.pow_lt_pow_iff_right (a := 2) (by decide)).1 (Nat.lt_of_le_of_lt ht hb')
      refine ⟨Nat.lt_of_le_of_lt (Nat.le_mul_of_pos_right _ (Nat.two_pow_pos t)) hb', by omega, by omega⟩
end Go.Proofs.YtmdniebedflpbaaDoor.Dy
