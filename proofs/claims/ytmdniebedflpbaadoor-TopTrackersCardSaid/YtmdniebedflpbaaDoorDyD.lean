/-
  WALKS AND WORDS: Limbs6 Limbs7 Limbs8 of my texts, one behind the other.
-/
import Derived.Test.YtmdniebedflpbaaDoorDyC
import Derived.BigRegion
import Derived.RegionTactic
import Derived.ChangeAlike
-- Limbs6: WALKS: addProduct.
namespace Go.Proofs.YtmdniebedflpbaaDoor.Dy
open Go.RowKit

theorem wrap_u64 {n : Int} {m : Nat} (h : n = (m : Int)) (hm : m < base) : IntKind.u64.wrap n = (m : Int) := by
  subst h
  unfold base at hm
  rw [IntKind.wrap_u64]; omega

/-- One step of a product by a digit. -/
theorem prod_step {g d c x hi lo l2 o1 x' o2 : Nat} (hg : g < base) (hd : d < base) (hc : c < base) (hx : x < base) (h1 : hi = g * d / base) (h2 : lo = g * d % base)
    (h3 : l2 = (lo + c + 0) % base) (h4 : o1 = (lo + c + 0) / base) (h5 : x' = (x + l2 + 0) % base) (h6 : o2 = (x + l2 + 0) / base) :
    hi + o1 < base ∧ hi + o1 + o2 < base ∧ x' < base ∧ x' + base * (hi + o1 + o2) = x + g * d + c := by
  have e1 : lo + base * hi = g * d := by rw [h1, h2]; exact Nat.mod_add_div _ _
  have e2 : l2 + base * o1 = lo + c := by rw [h3, h4]; exact Nat.mod_add_div _ _
  have e3 : x' + base * o2 = x + l2 := by rw [h5, h6]; exact Nat.mod_add_div _ _
  have hx' : x' < base := by rw [h5]; exact Nat.mod_lt _ base_pos
  have hB : g * d ≤ (base - 1) * (base - 1) := Nat.mul_le_mul (by omega) (by omega)
  have e4 : x' + base * (hi + o1 + o2) = x + g * d + c := by rw [Nat.mul_add, Nat.mul_add]; omega
  have hB2 : (base - 1) * (base - 1) + (base - 1) + (base - 1) = base * base - 1 := by decide
  have hlt : base * (hi + o1 + o2) < base * base := by
    have : 0 < base * base := by decide
    omega
  have h7 := Nat.lt_of_mul_lt_mul_left hlt
  exact ⟨by omega, h7, hx', e4⟩

/-- What a round of addProduct does to its relation: x += g d. -/
theorem prod_round {W wr : World} {b o n k c d : Nat} {f g h : Nat → Nat} {x' c' : Nat} (hk : k < n) (hrow : Row wr b o n h) (hsm : Small h n) (hsame : ∀ i, k ≤ i → h i = f i)
    (hval : val h k + base ^ k * c = val f k + val g k * d) (hon : Only b o n W wr) (hx' : x' < base) (he : x' + base * c' = h k + g k * d + c) :
    ∃ h', Row (wr.setCell ⟨b, o + k, none⟩ (.int .u64 (x' : Int))) b o n h' ∧ Small h' n ∧ (∀ i, k + 1 ≤ i → h' i = f i) ∧
      val h' (k + 1) + base ^ (k + 1) * c' = val f (k + 1) + val g (k + 1) * d ∧ Only b o n W (wr.setCell ⟨b, o + k, none⟩ (.int .u64 (x' : Int))) := by
  refine ⟨put h k x', hrow.set hk _, hsm.put hx', fun i hi => by rw [put_other _ _ _ _ (by omega)]; exact hsame i (by omega), ?_, hon.set (by omega) (by omega) _⟩
  simp only [val, val_put_ge h k _ (Nat.le_refl k), put_same, Nat.pow_succ]
  have h2 := hsame k (Nat.le_refl k)
  rw [← h2, Nat.add_mul]
  have e : base ^ k * (x' + base * c') = base ^ k * (h k + g k * d + c) := by rw [he]
  simp only [Nat.mul_add] at e
  rw [← Nat.mul_assoc] at e
  rw [Nat.mul_comm x', Nat.mul_comm (h k), Nat.mul_right_comm (g k), Nat.mul_comm (g k * d)]
  omega

end Go.Proofs.YtmdniebedflpbaaDoor.Dy
-- Limbs7: WALKS: times.
namespace Go.Proofs.YtmdniebedflpbaaDoor.Dy
open Go.RowKit

/-- The digits behind a round of times: from i on n of them are new, then the carry. -/
def laid (h h2 : Nat → Nat) (i n c : Nat) (j : Nat) : Nat := if j < i then h j else if j < i + n then h2 (j - i) else if j = i + n then c else h j

theorem val_laid {h h2 : Nat → Nat} {i n c : Nat} : val (laid h h2 i n c) (i + n + 1) = val h i + base ^ i * (val h2 n + base ^ n * c) := by
  have e1 : val (laid h h2 i n c) i = val h i := val_congr fun j hj => by simp [laid, hj]
  have e2 : val (fun j => laid h h2 i n c (i + j)) n = val h2 n := val_congr fun j hj => by
    simp only [laid]
    rw [if_neg (by omega), if_pos (by omega)]
    congr 1; omega
  have e3 : laid h h2 i n c (i + n) = c := by
    simp only [laid]
    rw [if_neg (by omega), if_neg (by omega)]; simp
  have e4 : val (laid h h2 i n c) (i + n + 1) = val (laid h h2 i n c) (i + n) + laid h h2 i n c (i + n) * base ^ (i + n) := rfl
  rw [e4, e3, val_split, e1, e2, Nat.pow_add, Nat.mul_add, Nat.mul_comm c, Nat.mul_assoc]
  omega

theorem laid_row {W2 W3 : World} {B N i n c : Nat} {h h2 : Nat → Nat} (hr : Row W2 B 0 N h) (ho : Only B i n W2 W3) (hr2 : Row W3 B i n h2) (hin : i + n < N) :
    Row (W3.setCell ⟨B, i + n, none⟩ (.int .u64 (c : Int))) B 0 N (laid h h2 i n c) := by
  have hbase : Row W3 B 0 N (fun j => if j < i then h j else if j < i + n then h2 (j - i) else h j) := by
    intro j hj
    rw [Nat.zero_add]
    by_cases h1 : j < i
    · rw [ho.cell j (Or.inl h1)]; simp only [h1, if_true]
      have := hr j hj; rwa [Nat.zero_add] at this
    · by_cases h2' : j < i + n
      · have := hr2 (j - i) (by omega)
        rw [show i + (j - i) = j by omega] at this
        simp only [if_neg h1, if_pos h2']; exact this
      · rw [ho.cell j (Or.inr (by omega))]; simp only [if_neg h1, if_neg h2']
        have := hr j hj; rwa [Nat.zero_add] at this
  have := hbase.set (k := i + n) hin c
  rw [Nat.zero_add] at this
  refine this.congr fun j hj => ?_
  by_cases e : j = i + n
  · subst e
    rw [put_same]; simp only [laid]; rw [if_neg (by omega), if_neg (by omega)]; simp
  · rw [put_other _ _ _ _ e]; simp only [laid, if_neg e]

theorem laid_small {h h2 : Nat → Nat} {i n c N : Nat} (hs : Small h N) (hs2 : Small h2 n) (hc : c < base) : Small (laid h h2 i n c) N := by
  intro j hj
  simp only [laid]
  split
  · exact hs j hj
  · split
    · exact hs2 _ (by omega)
    · split
      · exact hc
      · exact hs j hj

theorem times_val {h h2 f g : Nat → Nat} {i n c : Nat} (hv : val h (i + n) = val f i * val g n) (h2v : val h2 n + base ^ n * c = val (fun j => h (i + j)) n + val g n * f i) :
    val (laid h h2 i n c) (i + 1 + n) = val f (i + 1) * val g n := by
  rw [show i + 1 + n = i + n + 1 by omega, val_laid, h2v]
  rw [val_split] at hv
  simp only [val]
  rw [Nat.mul_add, Nat.add_mul, ← hv, Nat.mul_comm (f i) (base ^ i), Nat.mul_assoc (base ^ i), Nat.mul_comm (f i)]
  omega

end Go.Proofs.YtmdniebedflpbaaDoor.Dy
-- Limbs8: WALKS: left, right.
namespace Go.Proofs.YtmdniebedflpbaaDoor.Dy
open Go.RowKit

theorem base_two {s : Nat} (hs : s ≤ 64) : base = 2 ^ s * 2 ^ (64 - s) := by
  rw [← Nat.pow_add, show s + (64 - s) = 64 by omega]; rfl
/-- A digit moved to the left: what stays, and what goes over. -/
theorem shl_parts {x s : Nat} (hs : s ≤ 64) : x * 2 ^ s % base + base * (x / 2 ^ (64 - s)) = x * 2 ^ s := by
  have e : x * 2 ^ s / base = x / 2 ^ (64 - s) := by
    rw [base_two hs, Nat.mul_comm x, Nat.mul_div_mul_left _ _ (Nat.pow_pos (by decide))]
  rw [← e]; exact Nat.mod_add_div _ _
theorem mod_two {x s : Nat} (hs : s ≤ 64) : ∃ k, x * 2 ^ s % base = 2 ^ s * k := by
  rw [base_two hs, Nat.mul_comm x, Nat.mul_mod_mul_left]; exact ⟨_, rfl⟩
theorem shr_lt {x s : Nat} (hs : s ≤ 64) (hx : x < base) : x / 2 ^ (64 - s) < 2 ^ s := by
  rw [Nat.div_lt_iff_lt_mul (Nat.pow_pos (by decide)), ← base_two hs]; exact hx
theorem or_sum {a k s : Nat} (ha : a < 2 ^ s) : a ||| 2 ^ s * k = a + 2 ^ s * k := by
  rw [Nat.or_comm, ← Nat.two_pow_add_eq_or_of_lt ha, Nat.add_comm]
theorem or_low_lt {x s a : Nat} (hs : s ≤ 64) (ha : a < 2 ^ s) : a + x * 2 ^ s % base < base := by
  obtain ⟨k, hk⟩ := mod_two (x := x) hs
  have h1 : x * 2 ^ s % base < base := Nat.mod_lt _ base_pos
  rw [hk] at h1 ⊢
  rw [base_two hs] at h1 ⊢
  have h2 := Nat.lt_of_mul_lt_mul_left h1
  have h3 : 2 ^ s * (k + 1) ≤ 2 ^ s * 2 ^ (64 - s) := Nat.mul_le_mul_left _ h2
  rw [Nat.mul_add, Nat.mul_one] at h3
  omega
theorem or_low {x s a : Nat} (hs : s ≤ 64) (ha : a < 2 ^ s) : bits .or .u64 (a : Int) (IntKind.u64.wrap ((x : Int) * 2 ^ s)) = ((a + x * 2 ^ s % base : Nat) : Int) := by
  have e : IntKind.u64.wrap ((x : Int) * 2 ^ s) = ((x * 2 ^ s % base : Nat) : Int) := by
    have h : ((x : Int) * 2 ^ s) = ((x * 2 ^ s : Nat) : Int) := by push_cast; rfl
    rw [h, IntKind.wrap_u64]
    generalize x * 2 ^ s = y
    unfold base; omega
  have h1 : x * 2 ^ s % base < base := Nat.mod_lt _ base_pos
  have h2 := or_low_lt (x := x) hs ha
  rw [e, bits_or_u64_nat a _ (by unfold base at h2; omega) (by unfold base at h1; exact h1)]
  obtain ⟨k, hk⟩ := mod_two (x := x) hs
  rw [hk, or_sum ha]

/-- What a round of left does to its relation. -/
theorem left_round {W wr : World} {B N i q s : Nat} {f h : Nat → Nat} (hs : s < 64) (hN : i + q + 1 < N) (hx : f i < base) (hrow : Row wr B 0 N h) (hsm : Small h N) (hz : ∀ j, i + q + 1 ≤ j → h j = 0)
    (hlow : h (i + q) < 2 ^ s) (hval : val h (i + q + 1) = base ^ q * (val f i * 2 ^ s)) (hon : Only B 0 N W wr) :
    ∃ h', Row ((wr.setCell ⟨B, i + q, none⟩ (.int .u64 (bits .or .u64 ((h (i + q) : Nat) : Int) (IntKind.u64.wrap (((f i : Nat) : Int) * 2 ^ s))))).setCell ⟨B, i + q + 1, none⟩ (.int .u64 (((f i : Nat) : Int) / 2 ^ (64 - s)))).drew B 0 N h' ∧
      Small h' N ∧ (∀ j, i + 1 + q + 1 ≤ j → h' j = 0) ∧ h' (i + 1 + q) < 2 ^ s ∧ val h' (i + 1 + q + 1) = base ^ q * (val f (i + 1) * 2 ^ s) ∧
      Only B 0 N W ((wr.setCell ⟨B, i + q, none⟩ (.int .u64 (bits .or .u64 ((h (i + q) : Nat) : Int) (IntKind.u64.wrap (((f i : Nat) : Int) * 2 ^ s))))).setCell ⟨B, i + q + 1, none⟩ (.int .u64 (((f i : Nat) : Int) / 2 ^ (64 - s)))).drew := by
  have e1 := or_low (x := f i) (by omega : s ≤ 64) hlow
  have e2 : ((f i : Nat) : Int) / 2 ^ (64 - s) = ((f i / 2 ^ (64 - s) : Nat) : Int) := by push_cast; rfl
  rw [e1, e2]
  have r1 := hrow.set (k := i + q) (by omega) (h (i + q) + f i * 2 ^ s % base)
  rw [Nat.zero_add] at r1
  have r2 := r1.set (k := i + q + 1) hN (f i / 2 ^ (64 - s))
  rw [Nat.zero_add] at r2
  refine ⟨_, r2, (hsm.put (or_low_lt (by omega) hlow)).put (Nat.lt_of_lt_of_le (shr_lt (by omega) hx) ?_), fun j hj => ?_, ?_, ?_, ((hon.set (by omega) (by omega) _).set (by omega) (by omega) _).drew⟩
  · rw [base_two (by omega : s ≤ 64)]; exact Nat.le_mul_of_pos_right _ (Nat.pow_pos (by decide))
  · rw [put_other _ _ _ _ (by omega), put_other _ _ _ _ (by omega)]; exact hz j (by omega)
  · rw [show i + 1 + q = i + q + 1 by omega, put_same]; exact shr_lt (by omega) hx
  · rw [show i + 1 + q + 1 = i + q + 1 + 1 by omega]
    simp only [val, put_same]
    rw [val_put_ge _ _ _ (by omega), val_put_ge _ _ _ (by omega), put_other _ _ _ _ (by omega), put_same]
    simp only [val] at hval
    rw [Nat.add_mul (val f i), Nat.mul_add (base ^ q), ← hval]
    have e3 := shl_parts (x := f i) (s := s) (by omega)
    have e4 : base ^ (i + q) * (f i * 2 ^ s % base + base * (f i / 2 ^ (64 - s))) = base ^ (i + q) * (f i * 2 ^ s) := by rw [e3]
    have e5 : base ^ q * (f i * base ^ i * 2 ^ s) = base ^ (i + q) * (f i * 2 ^ s) := by
      rw [Nat.pow_add]; ac_rfl
    have e6 : f i / 2 ^ (64 - s) * base ^ (i + q + 1) = base ^ (i + q) * (base * (f i / 2 ^ (64 - s))) := by
      rw [Nat.pow_succ, Nat.mul_comm, Nat.mul_assoc]
    rw [e5, e6, Nat.add_mul, ← e4, Nat.mul_add (base ^ (i + q)), Nat.mul_comm (f i * 2 ^ s % base)]
    omega

set_option maxHeartbeats 1600000 in
theorem left_core (w : World) (b o n c sh : Nat) (f : Nat → Nat) (hn0 : 0 < n) (hn : n ≤ 400000000000) (hsh : sh ≤ 10000000000000)
    (hr : Row w b o n f) (hs : Small f n) :
    Calls Tryd.prog 29 #[.slice (some ⟨b, o, none⟩) n c, .int .i64 sh] w (Ret w fun w' v => Nt w' v (val f n * 2 ^ sh)) := by
  obtain ⟨q, s, hs64, rfl⟩ : ∃ q s, s < 64 ∧ sh = 64 * q + s := ⟨sh / 64, sh % 64, Nat.mod_lt _ (by omega), by omega⟩
  have hcast : (((n : Nat) : Int) + (q : Int) + 1) = ((n + q + 1 : Nat) : Int) := by omega
  have HC := Lib.hid hcast
  clear hcast
  have hq : (((64 * q + s : Nat) : Int)) / 64 = (q : Int) := by omega
  have hm : (((64 * q + s : Nat) : Int)) % 64 = (s : Int) := by omega
  have h0 : ((n : Int) == 0) = false := by rw [beq_eq_false_iff_ne]; omega
  have hq1 : ((64 * (q : Int) + (s : Int))) / 64 = (q : Int) := by omega
  have hm1 : ((64 * (q : Int) + (s : Int))) % 64 = (s : Int) := by omega
  go_enter Tryd.func29, Tryd.ntmps29
  go_wp2_with (at_make; refine wp_make _ rfl _ _ rfl _ _ (n + q + 1) rfl rfl HC.out HC.out (by omega) ?_)
  intro w1 hW1 hR1 hB1
  obtain ⟨B, HBB⟩ : ∃ B, Hid (B = w.heap.size) := ⟨_, rfl⟩
  rw [← HBB.out] at hW1 hR1 hB1
  have hr' : Row w1 b o n f ∧ b ≠ B := by
    have := hr.lt hn0
    exact ⟨hr.keep hB1 (by rw [HBB.out]; exact this), by rw [HBB.out]; omega⟩
  clear hr
  rw [← HBB.out]
  go_wp2
  go_loopw [25] (fun vi wr => ∃ (i : Nat) (h : Nat → Nat), i ≤ n ∧ vi = .int .i64 i ∧ Row wr B 0 (n + q + 1) h ∧ Small h (n + q + 1) ∧ (∀ j, i + q + 1 ≤ j → h j = 0) ∧ h (i + q) < 2 ^ s ∧ val h (i + q + 1) = base ^ q * (val f i * 2 ^ s) ∧ Only B 0 (n + q + 1) w1 wr) (fun vi _ => n - (intOf vi).toNat)
  case atStart => exact ⟨0, fun _ => 0, by omega, rfl, hR1, fun _ _ => base_pos, fun _ _ => rfl, Nat.pow_pos (by decide), by simp only [val, Nat.zero_mul, Nat.mul_zero]; exact (val_zeros (Nat.zero_le _) (fun _ _ _ => rfl)), Only.refl _ _ _ _⟩
  case round =>
    obtain ⟨i, h, hi, rfl, hrow, hsm, hz, hlow, hval, hon⟩ := hrel
    by_cases hlt : i < n
    · have hc1 := hon.row hr'.1 hr'.2 i hlt
      have hc2 := hrow (i + q) (by omega)
      have hc3 := hrow (i + q + 1) (by omega)
      have hf2 := (hW1.free 0 (n + q + 1)) (i + q) (by omega)
      have hf3 := (hW1.free 0 (n + q + 1)) (i + q + 1) (by omega)
      have hf2 := (hon.frozen _).trans hf2
      have hf3 := (hon.frozen _).trans hf3
      rw [Nat.zero_add] at hc2 hc3 hf2 hf3
      have HR := Lib.hid (left_round hs64 (by omega) (hs i hlt) hrow hsm hz hlow hval hon)
      clear hval hz hlow
      go_wp2
      go_region
      go_wp2
      obtain ⟨h', t1, t2, t3, t4, t5, t6⟩ := HR.out
      exact ⟨⟨i + 1, h', by omega, by go_num, t1, t2, t3, t4, t5, t6⟩, by simp [intOf]; omega⟩
    · obtain rfl : i = n := by omega
      have HV : Hid (val h (i + q + 1) = val f i * 2 ^ (64 * q + s)) := Lib.hid (by
        rw [hval, Nat.pow_add, Nat.pow_mul, show (2 : Nat) ^ 64 = base from rfl]
        rw [Nat.mul_left_comm])
      clear hval hz hlow
      go_wp2_with fail
      refine (trimmed_nt wr B 0 (i + q + 1) (i + q + 1) h (by omega) hrow (Nat.le_refl _) hsm).mono ?_
      rintro e w4 ⟨⟨v, rfl, hv⟩, rfl⟩
      go_wp2
      go_ret
      exact ⟨_, rfl, by rw [← HV.out]; exact hv, by rw [← HBB.out]; exact hB1.trans (hon.below (Nat.le_refl _) (by have := hW1.lt; omega))⟩

set_option maxHeartbeats 400000 in
theorem left_nil (w : World) (c : Nat) (x : Int) :
    Calls Tryd.prog 29 #[.slice none 0 c, .int .i64 x] w fun e w' => e = .returned (.slice none 0 0) ∧ w' = w := by
  go_enter Tryd.func29, Tryd.ntmps29
  go_wp2
  go_ret
  exact ⟨rfl, rfl⟩

/-- a 2^n. -/
theorem left_nt (w : World) (v : Value) (m sh : Nat) (h : Nt w v m) (l : Len m 400000000000) (hsh : sh ≤ 10000000000000) :
    Calls Tryd.prog 29 #[v, .int .i64 sh] w (Ret w fun w' v => Nt w' v (m * 2 ^ sh)) := by
  rcases h with ⟨rfl, rfl⟩ | ⟨b, o, n, k, f, rfl, hn, hk, hr, hs, hl, rfl⟩
  · refine (left_nil w 0 sh).mono ?_
    rintro e w' ⟨rfl, rfl⟩
    exact ⟨_, rfl, .inl ⟨rfl, Nat.zero_mul _⟩, Below.refl _ _⟩
  · exact left_core w b o n k sh f hn (len_le hn hl l) hsh hr hs
end Go.Proofs.YtmdniebedflpbaaDoor.Dy
