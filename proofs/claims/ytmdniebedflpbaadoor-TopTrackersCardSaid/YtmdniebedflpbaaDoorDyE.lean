/-
  WALKS AND WORDS: Limbs9 Limbs10 of my texts, one behind the other.
-/
import Derived.Test.YtmdniebedflpbaaDoorDyD
-- Limbs9: WALKS: right.
namespace Go.Proofs.YtmdniebedflpbaaDoor.Dy
open Go.RowKit

/-- The bits of digit k that go over to the digit below. -/
def over (F : Nat → Nat) (n s k : Nat) : Nat := if k < n then F k % 2 ^ s else 0

theorem over_lt (F : Nat → Nat) (n s k : Nat) : over F n s k < 2 ^ s := by
  unfold over
  by_cases h : k < n
  · rw [if_pos h]; exact Nat.mod_lt _ (Nat.two_pow_pos s)
  · rw [if_neg h]; exact Nat.two_pow_pos s

/-- A digit moved to the right, and the next one's lowest bits. -/
theorem shr_parts {x y s : Nat} (hs : s ≤ 64) : 2 ^ s * (x / 2 ^ s + y * 2 ^ (64 - s) % base) + x % 2 ^ s = x + (y % 2 ^ s) * base := by
  have e : y * 2 ^ (64 - s) % base = (y % 2 ^ s) * 2 ^ (64 - s) := by
    rw [base_two hs, Nat.mul_comm y, Nat.mul_comm (2 ^ s), Nat.mul_mod_mul_left, Nat.mul_comm]
  have e2 : 2 ^ s * ((y % 2 ^ s) * 2 ^ (64 - s)) = (y % 2 ^ s) * base := by
    rw [base_two hs]; ac_rfl
  have e3 := Nat.mod_add_div x (2 ^ s)
  rw [e, Nat.mul_add, e2]
  omega

theorem right_step {F h : Nat → Nat} {n s k d : Nat} (hk : k < n) (hval : 2 ^ s * val h k + over F n s 0 = val F k + over F n s k * base ^ k)
    (hd : 2 ^ s * d + F k % 2 ^ s = F k + over F n s (k + 1) * base) : 2 ^ s * (val h k + d * base ^ k) + over F n s 0 = val F (k + 1) + over F n s (k + 1) * base ^ (k + 1) := by
  have e1 : over F n s k = F k % 2 ^ s := if_pos hk
  rw [e1] at hval
  have e2 : base ^ k * (2 ^ s * d + F k % 2 ^ s) = base ^ k * (F k + over F n s (k + 1) * base) := by rw [hd]
  simp only [val, Nat.pow_succ]
  generalize over F n s (k + 1) = r at *
  rw [Nat.mul_add, Nat.mul_add] at e2
  rw [Nat.mul_add]
  have e3 : 2 ^ s * (d * base ^ k) = base ^ k * (2 ^ s * d) := by ac_rfl
  have e4 : r * (base ^ k * base) = base ^ k * (r * base) := by ac_rfl
  rw [e3, e4, Nat.mul_comm (F k) (base ^ k)]
  rw [Nat.mul_comm (F k % 2 ^ s)] at hval
  omega

theorem shr_small {x s : Nat} (hs : s ≤ 64) (hx : x < base) : x / 2 ^ s < 2 ^ (64 - s) := by
  rw [Nat.div_lt_iff_lt_mul (Nat.pow_pos (by decide)), Nat.mul_comm, ← base_two hs]; exact hx

/-- What a round of right does to its relation. -/
theorem right_round {W wr : World} {B n k s x' : Nat} {F h : Nat → Nat} (hk : k < n) (hx' : x' < base) (hrow : Row wr B 0 n h) (hsm : Small h n) (hsame : ∀ i, k + 1 ≤ i → h i = F i)
    (hval : 2 ^ s * val h k + over F n s 0 = val F k + over F n s k * base ^ k) (hd : 2 ^ s * x' + F k % 2 ^ s = F k + over F n s (k + 1) * base) (hon : Only B 0 n W wr) :
    ∃ h', Row (wr.setCell ⟨B, k, none⟩ (.int .u64 (x' : Int))) B 0 n h' ∧ Small h' n ∧ (∀ i, k + 1 ≤ i → h' i = F i) ∧
      2 ^ s * val h' (k + 1) + over F n s 0 = val F (k + 1) + over F n s (k + 1) * base ^ (k + 1) ∧ Only B 0 n W (wr.setCell ⟨B, k, none⟩ (.int .u64 (x' : Int))) := by
  have r1 := hrow.set hk x'
  rw [Nat.zero_add] at r1
  refine ⟨put h k x', r1, hsm.put hx', fun i hi => by rw [put_other _ _ _ _ (by omega)]; exact hsame i (by omega), ?_, hon.set (by omega) (by omega) _⟩
  have := right_step hk hval hd
  simpa only [val, val_put_ge h k _ (Nat.le_refl k), put_same] using this

theorem right_end {f : Nat → Nat} {q m s r : Nat} {h : Nat → Nat} (hf : Small f (q + m)) (hr : r < 2 ^ s) (hval : 2 ^ s * val h m + r = val (fun i => f (q + i)) m) : val h m = val f (q + m) / 2 ^ (64 * q + s) := by
  have h1 : val f q < base ^ q := val_lt (fun i hi => hf i (by omega))
  rw [Nat.pow_add, Nat.pow_mul, show (2 : Nat) ^ 64 = base from rfl, ← Nat.div_div_eq_div_mul, val_split]
  have e1 : (val f q + base ^ q * val (fun i => f (q + i)) m) / base ^ q = val (fun i => f (q + i)) m := by
    rw [Nat.add_mul_div_left _ _ (Nat.pow_pos base_pos), Nat.div_eq_of_lt h1, Nat.zero_add]
  rw [e1, ← hval, Nat.add_comm, Nat.add_mul_div_left _ _ (Nat.pow_pos (by decide)), Nat.div_eq_of_lt hr, Nat.zero_add]

theorem right_one {W wr : World} {B n k s : Nat} {F h : Nat → Nat} (hk : k < n) (hF : Small F n) (hrow : Row wr B 0 n h) (hsm : Small h n) (hsame : ∀ i, k + 1 ≤ i → h i = F i)
    (hval : 2 ^ s * val h k + over F n s 0 = val F k + over F n s k * base ^ k) (hl : ¬ k + 1 < n) (hon : Only B 0 n W wr) :
    ∃ h', Row (wr.setCell ⟨B, k, none⟩ (.int .u64 (((F k : Nat) : Int) / 2 ^ s))) B 0 n h' ∧ Small h' n ∧ (∀ i, k + 1 ≤ i → h' i = F i) ∧
      2 ^ s * val h' (k + 1) + over F n s 0 = val F (k + 1) + over F n s (k + 1) * base ^ (k + 1) ∧ Only B 0 n W (wr.setCell ⟨B, k, none⟩ (.int .u64 (((F k : Nat) : Int) / 2 ^ s))) := by
  have e : ((F k : Nat) : Int) / 2 ^ s = ((F k / 2 ^ s : Nat) : Int) := by push_cast; rfl
  rw [e]
  refine right_round hk (Nat.lt_of_le_of_lt (Nat.div_le_self _ _) (hF k hk)) hrow hsm hsame hval ?_ hon
  have e1 : over F n s (k + 1) = 0 := if_neg hl
  rw [e1, Nat.zero_mul, Nat.add_zero, Nat.add_comm]
  exact Nat.mod_add_div _ _

theorem right_two {W wr : World} {B n k s q : Nat} {f F h : Nat → Nat} (hk : k < n) (hs64 : s < 64) (hF : Small F n) (hFf : F = fun i => f (q + i)) (hrow : Row wr B 0 n h) (hsm : Small h n) (hsame : ∀ i, k + 1 ≤ i → h i = F i)
    (hval : 2 ^ s * val h k + over F n s 0 = val F k + over F n s k * base ^ k) (hl : k + 1 < n) (hon : Only B 0 n W wr) :
    ∃ h', Row ((wr.setCell ⟨B, k, none⟩ (.int .u64 (((F k : Nat) : Int) / 2 ^ s))).setCell ⟨B, k, none⟩ (.int .u64 (bits .or .u64 (((F k : Nat) : Int) / 2 ^ s) (IntKind.u64.wrap (((f (q + k + 1) : Nat) : Int) * 2 ^ (64 - s)))))).drew B 0 n h' ∧ Small h' n ∧ (∀ i, k + 1 ≤ i → h' i = F i) ∧
      2 ^ s * val h' (k + 1) + over F n s 0 = val F (k + 1) + over F n s (k + 1) * base ^ (k + 1) ∧
      Only B 0 n W ((wr.setCell ⟨B, k, none⟩ (.int .u64 (((F k : Nat) : Int) / 2 ^ s))).setCell ⟨B, k, none⟩ (.int .u64 (bits .or .u64 (((F k : Nat) : Int) / 2 ^ s) (IntKind.u64.wrap (((f (q + k + 1) : Nat) : Int) * 2 ^ (64 - s)))))).drew := by
  have e : ((F k : Nat) : Int) / 2 ^ s = ((F k / 2 ^ s : Nat) : Int) := by push_cast; rfl
  have hsm1 := shr_small (s := s) (by omega) (hF k hk)
  have e2 := or_low (x := f (q + k + 1)) (s := 64 - s) (by omega) hsm1
  rw [e, e2]
  have hlt := or_low_lt (x := f (q + k + 1)) (s := 64 - s) (by omega) hsm1
  have r1 := hrow.set hk (F k / 2 ^ s)
  rw [Nat.zero_add] at r1
  obtain ⟨h', t1, t2, t3, t4, t5⟩ := right_round (F := F) hk hlt r1 (hsm.put (Nat.lt_of_le_of_lt (Nat.div_le_self _ _) (hF k hk)))
    (fun i hi => by rw [put_other _ _ _ _ (by omega)]; exact hsame i hi) (by rw [val_put_ge h k _ (Nat.le_refl k)]; exact hval) (by
      have e1 : over F n s (k + 1) = f (q + k + 1) % 2 ^ s := by
        unfold over; rw [if_pos hl, hFf]; rfl
      rw [e1]
      exact shr_parts (by omega)) (hon.set (by omega) (by omega) _)
  exact ⟨h', t1, t2, t3, t4, t5.drew⟩

set_option maxHeartbeats 1600000 in
theorem right_core (w : World) (b o m c q s : Nat) (f : Nat → Nat) (hn : q + m ≤ 400000000000) (hm0 : 0 < m) (hs64 : s < 64) (hcap : q + m ≤ c)
    (hr : Row w b o (q + m) f) (hs : Small f (q + m)) :
    Calls Tryd.prog 42 #[.slice (some ⟨b, o, none⟩) (q + m) c, .int .i64 ((64 * q + s : Nat) : Int)] w (Ret w fun w' v => Nt w' v (val f (q + m) / 2 ^ (64 * q + s))) := by
  have hq : (((64 * q + s : Nat) : Int)) / 64 = (q : Int) := by omega
  have hm : (((64 * q + s : Nat) : Int)) % 64 = (s : Int) := by omega
  have hq1 : ((64 * (q : Int) + (s : Int))) / 64 = (q : Int) := by omega
  have hm1 : ((64 * (q : Int) + (s : Int))) % 64 = (s : Int) := by omega
  have hcq : ¬ c = q := by omega
  have hsub : Row w b (o + q) m (fun i => f (q + i)) := hr.sub q m (Nat.le_refl _)
  have hFs : Small (fun i => f (q + i)) m := fun i hi => hs (q + i) (by omega)
  obtain ⟨F, HF⟩ : ∃ F : Nat → Nat, Hid (F = fun i => f (q + i)) := ⟨_, rfl⟩
  rw [← HF.out] at hsub hFs
  go_enter Tryd.func42, Tryd.ntmps42
  go_wp2_with fail
  refine (clone_row w b (o + q) m (c - q) F (by omega) hsub).mono ?_
  rintro e w1 ⟨B, cap, rfl, hB, hcapB, hW1, hR1, hB1⟩
  have hra : Row w1 b o (q + m) f ∧ b ≠ B := by
    have := hr.lt (by omega)
    exact ⟨hr.keep hB1 this, by omega⟩
  clear hr hsub
  go_wp2
  go_loopw [23] (fun vi wr => ∃ (k : Nat) (h : Nat → Nat), k ≤ m ∧ vi = .int .i64 k ∧ Row wr B 0 m h ∧ Small h m ∧ (∀ i, k ≤ i → h i = F i) ∧ 2 ^ s * val h k + over F m s 0 = val F k + over F m s k * base ^ k ∧ Only B 0 m w1 wr) (fun vi _ => m - (intOf vi).toNat)
  case atStart => exact ⟨0, F, by omega, rfl, hR1, hFs, fun _ _ => rfl, by simp [val], Only.refl _ _ _ _⟩
  case round =>
    obtain ⟨k, h, hk, rfl, hrow, hsm, hsame, hval, hon⟩ := hrel
    by_cases hlt : k < m
    · have hc1 := hrow k hlt
      have hfr := (hon.frozen (0 + k)).trans (hW1.free 0 m k hlt)
      rw [Nat.zero_add] at hc1 hfr
      have hFk := hsame k (Nat.le_refl k)
      rw [hFk] at hc1
      have HFk := Lib.hid hFk
      clear hFk
      by_cases hl2 : k + 1 < m
      · have hc2 := (hon.row hra.1 hra.2) (q + k + 1) (by omega)
        have hlt1 : (k : Int) + 1 < m := by omega
        have HR := Lib.hid (right_two hlt hs64 hFs HF.out hrow hsm (fun i hi => hsame i (by omega)) hval hl2 hon)
        clear hval hsame
        go_wp2
        go_region
        go_wp2
        obtain ⟨h', t1, t2, t3, t4, t5⟩ := HR.out
        exact ⟨⟨k + 1, h', by omega, by go_num, t1, t2, t3, t4, t5⟩, by simp [intOf]; omega⟩
      · have hge1 : ¬ (k : Int) + 1 < m := by omega
        have HR := Lib.hid (right_one hlt hFs hrow hsm (fun i hi => hsame i (by omega)) hval hl2 hon)
        clear hval hsame
        go_wp2
        obtain ⟨h', t1, t2, t3, t4, t5⟩ := HR.out
        exact ⟨⟨k + 1, h', by omega, by go_num, t1, t2, t3, t4, t5⟩, by simp [intOf]; omega⟩
    · obtain rfl : k = m := by omega
      have HV : Hid (val h k = val f (q + k) / 2 ^ (64 * q + s)) := Lib.hid (by
        have e1 : over F k s k = 0 := if_neg (by omega)
        rw [e1, Nat.zero_mul, Nat.add_zero] at hval
        have e2 : over F k s 0 < 2 ^ s := over_lt F k s 0
        have e3 := HF.out
        rw [e3] at hval
        exact right_end hs (by rw [e3] at e2; exact e2) hval)
      clear hval hsame
      go_wp2_with fail
      refine (trimmed_nt wr B 0 k cap h (by omega) hrow hcapB hsm).mono ?_
      rintro e w4 ⟨⟨v, rfl, hv⟩, rfl⟩
      go_wp2
      go_ret
      exact ⟨_, rfl, by rw [← HV.out]; exact hv, hB1.trans (hon.below hB hB1.size)⟩

set_option maxHeartbeats 400000 in
theorem right_far (w : World) (p : Option Addr) (n c q s : Nat) (hs64 : s < 64) (hq' : n ≤ q) (hqL : q ≤ 400000000000) :
    Calls Tryd.prog 42 #[.slice p n c, .int .i64 ((64 * q + s : Nat) : Int)] w fun e w' => e = .returned (.slice none 0 0) ∧ w' = w := by
  have hq : (((64 * q + s : Nat) : Int)) / 64 = (q : Int) := by omega
  have hm : (((64 * q + s : Nat) : Int)) % 64 = (s : Int) := by omega
  have hq1 : ((64 * (q : Int) + (s : Int))) / 64 = (q : Int) := by omega
  have hm1 : ((64 * (q : Int) + (s : Int))) % 64 = (s : Int) := by omega
  go_enter Tryd.func42, Tryd.ntmps42
  go_wp2
  go_ret
  exact ⟨rfl, rfl⟩

/-- a/2^n, rounded down. -/
theorem right_nt (w : World) (v : Value) (x sh : Nat) (h : Nt w v x) (l : Len x 400000000000) (hsh : sh ≤ 10000000000000) :
    Calls Tryd.prog 42 #[v, .int .i64 (sh : Int)] w (Ret w fun w' v => Nt w' v (x / 2 ^ sh)) := by
  obtain ⟨q, s, hs64, rfl⟩ : ∃ q s, s < 64 ∧ sh = 64 * q + s := ⟨sh / 64, sh % 64, Nat.mod_lt _ (by omega), by omega⟩
  rcases h with ⟨rfl, rfl⟩ | ⟨b, o, n, k, f, rfl, hn, hk, hr, hs, hl, rfl⟩
  · refine (right_far w none 0 0 q s hs64 (by omega) (by omega)).mono ?_
    rintro e w' ⟨rfl, rfl⟩
    exact ⟨_, rfl, .inl ⟨rfl, Nat.zero_div _⟩, Below.refl _ _⟩
  · have hL := len_le hn hl l
    by_cases hq : q < n
    · obtain ⟨m, rfl⟩ : ∃ m, n = q + m := ⟨n - q, by omega⟩
      exact right_core w b o m k q s f hL (by omega) hs64 hk hr hs
    · refine (right_far w _ n k q s hs64 (by omega) (by omega)).mono ?_
      rintro e w' ⟨rfl, rfl⟩
      refine ⟨_, rfl, .inl ⟨rfl, ?_⟩, Below.refl _ _⟩
      apply Nat.div_eq_of_lt
      have h1 := val_lt hs
      have h2 : base ^ n ≤ base ^ q := Nat.pow_le_pow_right base_pos (by omega)
      have h3 : base ^ q = 2 ^ (64 * q) := by rw [Nat.pow_mul]; rfl
      have h4 : 2 ^ (64 * q) ≤ 2 ^ (64 * q + s) := Nat.pow_le_pow_right (by decide) (by omega)
      omega
end Go.Proofs.YtmdniebedflpbaaDoor.Dy
-- Limbs10: WALKS: length, trailing, bit.
namespace Go.Proofs.YtmdniebedflpbaaDoor.Dy
open Go.RowKit

theorem ctz_spec (x : Nat) (h0 : x ≠ 0) (hx : x < base) : ∃ m, x = 2 ^ Lib.ctz 64 x * (2 * m + 1) ∧ Lib.ctz 64 x < 64 := by
  have e : Lib.ctz 64 x = Lib.ctzFrom 64 x := by simp [Lib.ctz, h0]
  rw [e]
  exact Lib.ctzFrom_spec 64 x (by omega) hx

/-- Zeros below: the number is a multiple. -/
theorem val_low {f : Nat → Nat} {i : Nat} (n : Nat) (hz : ∀ j, j < i → f j = 0) : val f (i + n) = base ^ i * val (fun j => f (i + j)) n := by
  have h0 : val f i = 0 := by
    have := val_zeros (f := f) (k := 0) (n := i) (Nat.zero_le _) (fun j _ hj => hz j hj)
    rw [this]; rfl
  rw [val_split, h0, Nat.zero_add]

theorem trailing_val {f : Nat → Nat} {n i t k : Nat} (hi : i < n) (hz : ∀ j, j < i → f j = 0) (ht : t < 64) (hf : f i = 2 ^ t * (2 * k + 1)) :
    ∃ q, val f n = 2 ^ (64 * i + t) * (2 * q + 1) := by
  obtain ⟨m, rfl⟩ : ∃ m, n = i + (1 + m) := ⟨n - i - 1, by omega⟩
  rw [val_low (1 + m) hz, val_split _ 1 m]
  have e1 : val (fun j => f (i + j)) 1 = f i := by simp [val]
  rw [e1, hf, Nat.pow_one]
  generalize val (fun i_1 => f (i + (1 + i_1))) m = v
  refine ⟨k + 2 ^ (63 - t) * v, ?_⟩
  have e2 : base = 2 ^ t * (2 * 2 ^ (63 - t)) := by
    rw [← Nat.pow_succ', ← Nat.pow_add, show t + (63 - t).succ = 64 by omega]; rfl
  rw [Nat.pow_add, Nat.pow_mul, show (2 : Nat) ^ 64 = base from rfl, Nat.mul_assoc]
  congr 1
  conv => lhs; rhs; rw [e2]
  simp only [Nat.mul_add, Nat.mul_assoc, Nat.mul_one]
  have e3 : 2 ^ t * (2 * (2 ^ (63 - t) * v)) = 2 ^ t * (2 * (2 ^ (63 - t) * v)) := rfl
  omega

set_option maxHeartbeats 800000 in
theorem trailing_core (w : World) (b o n c : Nat) (f : Nat → Nat) (hn0 : 0 < n) (hn : n ≤ 400000000000) (hT : Tab w) (hr : Row w b o n f) (hs : Small f n) (hl : f (n - 1) ≠ 0) :
    Calls Tryd.prog 41 #[.slice (some ⟨b, o, none⟩) n c] w fun e w' => (∃ t q, e = .returned (.int .i64 ((t : Nat) : Int)) ∧ t ≤ 64 * n ∧ val f n = 2 ^ t * (2 * q + 1)) ∧ w' = w := by
  go_enter Tryd.func41, Tryd.ntmps41
  go_wp2
  go_loop [3] (fun v => ∃ i : Nat, i < n ∧ v = .int .i64 i ∧ (∀ j, j < i → f j = 0)) (fun v => n - (intOf v).toNat)
  case atStart => exact ⟨0, hn0, rfl, fun j hj => by omega⟩
  case round =>
    obtain ⟨i, hi, rfl, hz⟩ := hrel
    have hcell := hr i hi
    by_cases h0 : f i = 0
    · rw [h0] at hcell
      have hi2 : i + 1 < n := by
        by_cases e : i = n - 1
        · subst e; exact absurd h0 hl
        · omega
      have HZ := Lib.hid hz
      clear hz
      go_wp2
      refine ⟨⟨i + 1, hi2, by go_num, fun j hj => ?_⟩, by simp [intOf]; omega⟩
      by_cases e : j = i
      · subst e; exact h0
      · exact HZ.out j (by omega)
    · have hfb : (((f i : Nat) : Int) == 0) = false := by simpa using h0
      obtain ⟨m, hm, ht⟩ := ctz_spec (f i) h0 (hs i hi)
      obtain ⟨q, hq⟩ := trailing_val hi hz ht hm
      have HQ := Lib.hid hq
      have hz64 := tz64 (f i) (hs i hi) w hT
      generalize Lib.ctz 64 (f i) = t at ht HQ hz64
      clear hz hm hq
      go_wp2_with (go_at_call 55; refine hz64.mono ?_; rintro e w' ⟨rfl, rfl⟩)
      go_ret
      exact ⟨⟨64 * i + t, q, ret_int (by push_cast; omega), by omega, HQ.out⟩, rfl⟩

theorem bitLenAux_spec : ∀ (k x : Nat), x < 2 ^ k → x < 2 ^ Lib.bitLenAux k x ∧ (x ≠ 0 → 2 ^ Lib.bitLenAux k x ≤ 2 * x) ∧ Lib.bitLenAux k x ≤ k
  | 0, x, h => by
    have : x = 0 := by simpa using h
    subst this
    simp [Lib.bitLenAux]
  | k + 1, x, h => by
    by_cases h0 : x = 0
    · subst h0; simp [Lib.bitLenAux]
    · obtain ⟨h1, h2, h3⟩ := bitLenAux_spec k (x / 2) (by rw [Nat.pow_succ] at h; omega)
      have e : Lib.bitLenAux (k + 1) x = 1 + Lib.bitLenAux k (x / 2) := by rw [Lib.bitLenAux, if_neg h0]
      rw [e, Nat.pow_add, Nat.pow_one]
      refine ⟨by omega, fun _ => ?_, by omega⟩
      by_cases h4 : x / 2 = 0
      · rw [h4] at h2 ⊢
        have : Lib.bitLenAux k 0 = 0 := by cases k <;> simp [Lib.bitLenAux]
        rw [this]; omega
      · have := h2 h4; omega
theorem bitLen_spec (x : Nat) (hx : x < base) : x < 2 ^ Lib.bitLen x ∧ (x ≠ 0 → 2 ^ Lib.bitLen x ≤ 2 * x) ∧ Lib.bitLen x ≤ 64 :=
  bitLenAux_spec 64 x hx

end Go.Proofs.YtmdniebedflpbaaDoor.Dy
