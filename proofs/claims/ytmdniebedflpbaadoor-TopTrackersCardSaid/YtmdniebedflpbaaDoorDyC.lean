/-
  WALKS AND WORDS: Limbs3 Limbs4 Limbs5 of my texts, one behind the other.
-/
import Derived.Test.YtmdniebedflpbaaDoorDyB
-- Limbs3: WALKS: addTo, plus.
namespace Go.Proofs.YtmdniebedflpbaaDoor.Dy
open Go.RowKit

/-- The digit of a row of n digits, or 0 beyond. -/
def dig (g : Nat → Nat) (n i : Nat) : Nat := if i < n then g i else 0
theorem dig_lt {g : Nat → Nat} {n i : Nat} (h : i < n) : dig g n i = g i := if_pos h
theorem dig_ge {g : Nat → Nat} {n i : Nat} (h : n ≤ i) : dig g n i = 0 := if_neg (by omega)
theorem val_dig {g : Nat → Nat} {n k : Nat} (h : n ≤ k) : val (dig g n) k = val g n :=
  (val_zeros h (fun _ h1 _ => dig_ge h1)).trans (val_congr fun _ hi => dig_lt hi)
theorem dig_small {g : Nat → Nat} {n k : Nat} (h : Small g n) : Small (dig g n) k := by
  intro i _
  by_cases e : i < n
  · rw [dig_lt e]; exact h i e
  · rw [dig_ge (by omega)]; exact base_pos

/-- One step of an addition. -/
theorem add_step {a b s d c c' v p : Nat} (h : v + p * c = a + b) (hs : d + base * c' = s + c) : v + d * p + p * base * c' = a + b + s * p := by
  have e : p * (d + base * c') = p * (s + c) := by rw [hs]
  rw [Nat.mul_add, Nat.mul_add, ← Nat.mul_assoc] at e
  rw [Nat.mul_comm d p, Nat.mul_comm s p]
  omega

theorem sum_parts (x y c : Nat) : (x + y + c) % base + base * ((x + y + c) / base) = (x + y) + c := Nat.mod_add_div _ _
theorem sum_carry {x y c : Nat} (hx : x < base) (hy : y < base) (hc : c ≤ 1) : (x + y + c) / base ≤ 1 := by
  have : x + y + c < 2 * base := by omega
  have := Nat.div_lt_of_lt_mul (Nat.mul_comm 2 base ▸ this)
  omega

/-- What a round of addTo does to its relation. -/
theorem addTo_round {w wr : World} {b1 o1 n1 k c y : Nat} {f g h : Nat → Nat} (hk : k < n1) (hc : c ≤ 1) (hrow : Row wr b1 o1 n1 h) (hsm : Small h n1) (hsame : ∀ i, k ≤ i → h i = f i)
    (hval : val h k + base ^ k * c = val f k + val g k) (hon : Only b1 o1 n1 w wr) (hy : y = g k) (hyb : y < base) :
    ∃ c' h', (h k + y + c) / base = c' ∧ c' ≤ 1 ∧ Row (wr.setCell ⟨b1, o1 + k, none⟩ (.int .u64 (((h k + y + c) % base : Nat) : Int))) b1 o1 n1 h' ∧ Small h' n1 ∧ (∀ i, k + 1 ≤ i → h' i = f i) ∧
      val h' (k + 1) + base ^ (k + 1) * c' = val f (k + 1) + val g (k + 1) ∧ Only b1 o1 n1 w (wr.setCell ⟨b1, o1 + k, none⟩ (.int .u64 (((h k + y + c) % base : Nat) : Int))) := by
  have hb := base_pos
  refine ⟨(h k + y + c) / base, put h k ((h k + y + c) % base), rfl, sum_carry (hsm k hk) hyb hc, hrow.set hk _, hsm.put (Nat.mod_lt _ hb), fun i hi => by rw [put_other _ _ _ _ (by omega)]; exact hsame i (by omega), ?_, hon.set (by omega) (by omega) _⟩
  have h1 := add_step (p := base ^ k) hval (sum_parts (h k) y c)
  simp only [val, val_put_ge h k _ (Nat.le_refl k), put_same, Nat.pow_succ]
  have h2 := hsame k (Nat.le_refl k)
  subst hy
  rw [← h2]
  rw [Nat.add_mul (h k) (g k)] at h1
  omega

set_option maxHeartbeats 800000 in
theorem addTo_core (w : World) (b1 o1 n1 c1 n2 c2 : Nat) (p2 : Option Addr) (f g : Nat → Nat) (h1 : n1 ≤ 1000000000000) (h2 : n2 ≤ 1000000000000)
    (hr1 : Row w b1 o1 n1 f) (hf1 : Free w b1 o1 n1) (hs1 : Small f n1) (hr2 : 0 < n2 → ∃ b2 o2, p2 = some ⟨b2, o2, none⟩ ∧ Row w b2 o2 n2 g ∧ b2 ≠ b1) (hs2 : Small g n2) :
    Calls Tryd.prog 44 #[.slice (some ⟨b1, o1, none⟩) n1 c1, .slice p2 n2 c2] w fun e w' => e = .returned (.tuple #[]) ∧
      ∃ h c, Row w' b1 o1 n1 h ∧ Small h n1 ∧ c ≤ 1 ∧ val h n1 + base ^ n1 * c = val f n1 + val (dig g n2) n1 ∧ Only b1 o1 n1 w w' := by
  go_enter Tryd.func44, Tryd.ntmps44
  go_wp2
  go_loopw [4, 9] (fun vc vi wr => ∃ (k c : Nat) (h : Nat → Nat), k ≤ n1 ∧ vi = .int .i64 k ∧ vc = .int .u64 c ∧ c ≤ 1 ∧ Row wr b1 o1 n1 h ∧ Small h n1 ∧ (∀ i, k ≤ i → h i = f i) ∧ val h k + base ^ k * c = val f k + val (dig g n2) k ∧ Only b1 o1 n1 w wr) (fun _ vi _ => n1 - (intOf vi).toNat)
  case atStart => exact ⟨0, 0, f, by omega, rfl, rfl, by omega, hr1, hs1, fun _ _ => rfl, rfl, Only.refl _ _ _ _⟩
  case round =>
    obtain ⟨k, c, h, hk, rfl, rfl, hc, hrow, hsm, hsame, hval, hon⟩ := hrel
    by_cases hlt : k < n1
    · have hc1 := hrow k hlt
      have hfr := hon.freeOwn hf1 k hlt
      by_cases hk2 : k < n2
      · obtain ⟨b2, o2, rfl, hrr, hne⟩ := hr2 (by omega)
        have hc2 := hon.row hrr hne k hk2
        have hcin : ∀ W : World, (callFunc 56 #[.int .u64 ((h k : Nat) : Int), .int .u64 ((g k : Nat) : Int), .int .u64 (c : Int)]).run Tryd.prog W = _ := fun W => add64 (h k) (g k) c hc W
        have HR := Lib.hid (addTo_round hlt hc hrow hsm hsame hval hon (dig_lt hk2).symm (hs2 k hk2))
        clear hval hsame hsm
        go_wp2_with (simp only [hcin])
        obtain ⟨c', h', rfl, r1, r2, r3, r4, r5, r6⟩ := HR.out
        push_cast at r2 r6
        exact ⟨⟨k + 1, _, h', by omega, by go_num, by push_cast; rfl, r1, r2, r3, r4, r5, r6⟩, by simp [intOf]; omega⟩
      · have hcin : ∀ W : World, (callFunc 56 #[.int .u64 ((h k : Nat) : Int), .int .u64 0, .int .u64 (c : Int)]).run Tryd.prog W = _ := fun W => add64 (h k) 0 c hc W
        have HR := Lib.hid (addTo_round hlt hc hrow hsm hsame hval hon (dig_ge (g := g) (n := n2) (i := k) (by omega)).symm base_pos)
        clear hval hsame hsm
        go_wp2_with (simp only [hcin])
        obtain ⟨c', h', rfl, r1, r2, r3, r4, r5, r6⟩ := HR.out
        push_cast at r2 r6
        exact ⟨⟨k + 1, _, h', by omega, by go_num, by push_cast; rfl, r1, r2, r3, r4, r5, r6⟩, by simp [intOf]; omega⟩
    · obtain rfl : k = n1 := by omega
      have HV := Lib.hid hval
      clear hval hsame
      go_wp2
      go_end0
      exact ⟨rfl, h, c, hrow, hsm, hc, HV.out, hon⟩
end Go.Proofs.YtmdniebedflpbaaDoor.Dy
-- Limbs4: WALKS: plus.
namespace Go.Proofs.YtmdniebedflpbaaDoor.Dy
open Go.RowKit

/-- The carry out of one digit more than both have is 0. -/
theorem no_carry {f g : Nat → Nat} {n m x c : Nat} (hf : Small f n) (hg : Small g m) (hm : m ≤ n) (h : x + base ^ (n + 1) * c = val f n + val g m) : x = val f n + val g m := by
  have h1 := val_lt hf
  have h2 := val_lt hg
  have h3 : base ^ m ≤ base ^ n := Nat.pow_le_pow_right base_pos hm
  have h4 : 2 * base ^ n ≤ base * base ^ n := Nat.mul_le_mul_right _ (by decide)
  rw [Nat.pow_succ, Nat.mul_comm (base ^ n) base] at h
  by_cases hc : c = 0
  · subst hc; omega
  · have h5 : base * base ^ n * 1 ≤ base * base ^ n * c := Nat.mul_le_mul_left _ (by omega)
    omega

set_option maxHeartbeats 800000 in
theorem plus_le (w : World) (p1 p2 : Option Addr) (n1 c1 n2 c2 : Nat) (f g : Nat → Nat) (h1 : n1 ≤ 999999999999) (h2 : n2 ≤ 999999999999)
    (hr1 : 0 < n1 → ∃ b o, p1 = some ⟨b, o, none⟩ ∧ Row w b o n1 f) (hr2 : 0 < n2 → ∃ b o, p2 = some ⟨b, o, none⟩ ∧ Row w b o n2 g) (hs1 : Small f n1) (hs2 : Small g n2) (hle : n2 ≤ n1) :
    Calls Tryd.prog 30 #[.slice p1 n1 c1, .slice p2 n2 c2] w (Ret w fun w' v => Nt w' v (val f n1 + val g n2)) := by
  have hcast : (((n1 : Nat) : Int) + 1) = ((n1 + 1 : Nat) : Int) := by omega
  have HC := Lib.hid hcast
  clear hcast
  go_enter Tryd.func30, Tryd.ntmps30
  go_wp2_with (at_make; refine wp_make _ rfl _ _ rfl _ _ (n1 + 1) rfl rfl HC.out HC.out (by omega) ?_)
  intro w1 hW1 hR1 hB1
  go_wp2_with (with_reducible refine wp_copy w1 rfl (.tmp 17) (.tmp 18) rfl w.heap.size (n1 + 1) (n1 + 1) (n1 + 1) n1 c1 p1 f rfl rfl hW1 (by omega) (by omega) (fun h => ?_) ?_)
  · obtain ⟨b, o, hp, hr⟩ := hr1 h
    exact ⟨b, o, hp, hr.keep hB1 (hr.lt h)⟩
  intro w2 hR2 hO2 hW2
  have hrow : Row w2 w.heap.size 0 (n1 + 1) (dig f n1) := by
    intro i hi
    by_cases e : i < n1
    · rw [dig_lt e]; exact hR2 i e
    · rw [dig_ge (by omega), hO2.cell _ (by omega)]
      exact hR1 i hi
  have hB2 : Below w.heap.size w w2 := hB1.trans (hO2.below (Nat.le_refl _) hB1.size)
  have HA := Lib.hid (addTo_core w2 w.heap.size 0 (n1 + 1) (n1 + 1) n2 c2 p2 (dig f n1) g (by omega) (by omega) hrow (hW2.free _ _) (dig_small hs1)
    (fun h => by obtain ⟨b, o, hp, hr⟩ := hr2 h; exact ⟨b, o, hp, hr.keep hB2 (hr.lt h), Nat.ne_of_lt (hr.lt h)⟩) hs2)
  have hval : val (dig f n1) (n1 + 1) + val (dig g n2) (n1 + 1) = val f n1 + val g n2 := by rw [val_dig (by omega), val_dig (by omega)]
  have HV := Lib.hid hval
  clear hval hrow hr1 hr2
  go_wp2_with fail
  refine HA.out.mono ?_
  rintro e w3 ⟨rfl, h, c, hR3, hS3, hc, hsum, hO3⟩
  have hB3 : Below w.heap.size w w3 := hB2.trans (hO3.below (Nat.le_refl _) hB2.size)
  have HS := Lib.hid hsum
  clear hsum
  go_wp2_with fail
  refine (trimmed_nt w3 w.heap.size 0 (n1 + 1) (n1 + 1) h (by omega) hR3 (by omega) hS3).mono ?_
  rintro e w4 ⟨⟨v, rfl, hv⟩, rfl⟩
  have hsum := HS.out
  rw [HV.out] at hsum
  go_wp2
  go_ret
  exact ⟨_, rfl, by rw [← no_carry hs1 hs2 (by omega) hsum]; exact hv, hB3⟩
set_option maxHeartbeats 800000 in
theorem plus_lt (w : World) (p1 p2 : Option Addr) (n1 c1 n2 c2 : Nat) (f g : Nat → Nat) (h1 : n1 ≤ 999999999999) (h2 : n2 ≤ 999999999999)
    (hr1 : 0 < n1 → ∃ b o, p1 = some ⟨b, o, none⟩ ∧ Row w b o n1 f) (hr2 : 0 < n2 → ∃ b o, p2 = some ⟨b, o, none⟩ ∧ Row w b o n2 g) (hs1 : Small f n1) (hs2 : Small g n2) (hle : n1 < n2) :
    Calls Tryd.prog 30 #[.slice p1 n1 c1, .slice p2 n2 c2] w (Ret w fun w' v => Nt w' v (val f n1 + val g n2)) := by
  have hcast : (((n2 : Nat) : Int) + 1) = ((n2 + 1 : Nat) : Int) := by omega
  have HC := Lib.hid hcast
  clear hcast
  go_enter Tryd.func30, Tryd.ntmps30
  go_wp2_with (at_make; refine wp_make _ rfl _ _ rfl _ _ (n2 + 1) rfl rfl HC.out HC.out (by omega) ?_)
  intro w1 hW1 hR1 hB1
  go_wp2_with (with_reducible refine wp_copy w1 rfl (.tmp 17) (.tmp 18) rfl w.heap.size (n2 + 1) (n2 + 1) (n2 + 1) n2 c2 p2 g rfl rfl hW1 (by omega) (by omega) (fun h => ?_) ?_)
  · obtain ⟨b, o, hp, hr⟩ := hr2 h
    exact ⟨b, o, hp, hr.keep hB1 (hr.lt h)⟩
  intro w2 hR2 hO2 hW2
  have hrow : Row w2 w.heap.size 0 (n2 + 1) (dig g n2) := by
    intro i hi
    by_cases e : i < n2
    · rw [dig_lt e]; exact hR2 i e
    · rw [dig_ge (by omega), hO2.cell _ (by omega)]
      exact hR1 i hi
  have hB2 : Below w.heap.size w w2 := hB1.trans (hO2.below (Nat.le_refl _) hB1.size)
  have HA := Lib.hid (addTo_core w2 w.heap.size 0 (n2 + 1) (n2 + 1) n1 c1 p1 (dig g n2) f (by omega) (by omega) hrow (hW2.free _ _) (dig_small hs2)
    (fun h => by obtain ⟨b, o, hp, hr⟩ := hr1 h; exact ⟨b, o, hp, hr.keep hB2 (hr.lt h), Nat.ne_of_lt (hr.lt h)⟩) hs1)
  have hval : val (dig g n2) (n2 + 1) + val (dig f n1) (n2 + 1) = val g n2 + val f n1 := by rw [val_dig (by omega), val_dig (by omega)]
  have HV := Lib.hid hval
  clear hval hrow hr2 hr1
  go_wp2_with fail
  refine HA.out.mono ?_
  rintro e w3 ⟨rfl, h, c, hR3, hS3, hc, hsum, hO3⟩
  have hB3 : Below w.heap.size w w3 := hB2.trans (hO3.below (Nat.le_refl _) hB2.size)
  have HS := Lib.hid hsum
  clear hsum
  go_wp2_with fail
  refine (trimmed_nt w3 w.heap.size 0 (n2 + 1) (n2 + 1) h (by omega) hR3 (by omega) hS3).mono ?_
  rintro e w4 ⟨⟨v, rfl, hv⟩, rfl⟩
  have hsum := HS.out
  rw [HV.out] at hsum
  go_wp2
  go_ret
  exact ⟨_, rfl, by rw [Nat.add_comm, ← no_carry hs2 hs1 (by omega) hsum]; exact hv, hB3⟩

/-- a + b. -/
theorem plus_nt (w : World) (v1 v2 : Value) (m1 m2 : Nat) (h1 : Nt w v1 m1) (h2 : Nt w v2 m2) (l1 : Len m1 999999999999) (l2 : Len m2 999999999999) :
    Calls Tryd.prog 30 #[v1, v2] w (Ret w fun w' v => Nt w' v (m1 + m2)) := by
  obtain ⟨p1, n1, c1, f, rfl, hn1, hr1, hs1, rfl⟩ := h1.digits l1
  obtain ⟨p2, n2, c2, g, rfl, hn2, hr2, hs2, rfl⟩ := h2.digits l2
  by_cases h : n2 ≤ n1
  · exact plus_le w p1 p2 n1 c1 n2 c2 f g hn1 hn2 hr1 hr2 hs1 hs2 h
  · exact plus_lt w p1 p2 n1 c1 n2 c2 f g hn1 hn2 hr1 hr2 hs1 hs2 (by omega)
end Go.Proofs.YtmdniebedflpbaaDoor.Dy
-- Limbs5: WALKS: minus.
namespace Go.Proofs.YtmdniebedflpbaaDoor.Dy
open Go.RowKit

theorem sub_parts {x y b : Nat} (hx : x < base) (hy : y < base) (hb : b ≤ 1) : (x + base - y - b) % base + y + b = x + base * (if x < y + b then 1 else 0) ∧ (x + base - y - b) % base < base := by
  have hB : 2 ≤ base := by decide
  refine ⟨?_, Nat.mod_lt _ (by omega)⟩
  by_cases h : x < y + b
  · rw [if_pos h, Nat.mul_one]
    have : x + base - y - b < base := by omega
    rw [Nat.mod_eq_of_lt this]
    omega
  · rw [if_neg h, Nat.mul_zero]
    have e : x + base - y - b = (x - y - b) + base := by omega
    rw [e, Nat.add_mod_right, Nat.mod_eq_of_lt (by omega)]
    omega

/-- What a round of minus does to its relation: f less g. -/
theorem minus_round {W wr : World} {B n k c y : Nat} {f g h : Nat → Nat} (hk : k < n) (hc : c ≤ 1) (hrow : Row wr B 0 n h) (hsm : Small h n) (hsame : ∀ i, k ≤ i → h i = f i)
    (hval : val f k + base ^ k * c = val h k + val g k) (hon : Only B 0 n W wr) (hy : y = g k) (hyb : y < base) :
    ∃ c' h', (if h k < y + c then 1 else 0) = c' ∧ c' ≤ 1 ∧ Row (wr.setCell ⟨B, k, none⟩ (.int .u64 (((h k + base - y - c) % base : Nat) : Int))) B 0 n h' ∧ Small h' n ∧ (∀ i, k + 1 ≤ i → h' i = f i) ∧
      val f (k + 1) + base ^ (k + 1) * c' = val h' (k + 1) + val g (k + 1) ∧ Only B 0 n W (wr.setCell ⟨B, k, none⟩ (.int .u64 (((h k + base - y - c) % base : Nat) : Int))) := by
  obtain ⟨hp, hlt⟩ := sub_parts (hsm k hk) hyb hc
  have hrow' := hrow.set hk ((h k + base - y - c) % base)
  rw [Nat.zero_add] at hrow'
  refine ⟨_, put h k ((h k + base - y - c) % base), rfl, by split <;> omega, hrow', hsm.put hlt, fun i hi => by rw [put_other _ _ _ _ (by omega)]; exact hsame i (by omega), ?_, hon.set (by omega) (by omega) _⟩
  simp only [val, val_put_ge h k _ (Nat.le_refl k), put_same, Nat.pow_succ]
  have h2 := hsame k (Nat.le_refl k)
  subst hy
  rw [← h2]
  generalize hd : (h k + base - g k - c) % base = d at hp ⊢
  generalize hc' : (if h k < g k + c then 1 else 0) = c' at hp ⊢
  have e : base ^ k * (d + g k + c) = base ^ k * (h k + base * c') := by rw [hp]
  simp only [Nat.mul_add] at e
  rw [← Nat.mul_assoc] at e
  rw [Nat.mul_comm d, Nat.mul_comm (g k), Nat.mul_comm (h k)]
  omega

theorem no_borrow {f g h : Nat → Nat} {n m c : Nat} (hh : Small h n) (hv : val g m ≤ val f n) (hs : val f n + base ^ n * c = val h n + val g m) : val h n = val f n - val g m := by
  have h1 := val_lt hh
  by_cases hc : c = 0
  · subst hc; omega
  · have : base ^ n * 1 ≤ base ^ n * c := Nat.mul_le_mul_left _ (by omega)
    omega

set_option maxHeartbeats 800000 in
theorem minus_row (w : World) (b1 o1 n1 c1 n2 c2 : Nat) (p2 : Option Addr) (f g : Nat → Nat) (h1 : n1 ≤ 999999999999) (h2 : n2 ≤ n1)
    (hr1 : Row w b1 o1 n1 f) (hr2 : 0 < n2 → ∃ b o, p2 = some ⟨b, o, none⟩ ∧ Row w b o n2 g) (hs1 : Small f n1) (hs2 : Small g n2) (hle : val g n2 ≤ val f n1) :
    Calls Tryd.prog 32 #[.slice (some ⟨b1, o1, none⟩) n1 c1, .slice p2 n2 c2] w (Ret w fun w' v => Nt w' v (val f n1 - val g n2)) := by
  have HV : Hid (val (dig g n2) n1 = val g n2) := Lib.hid (val_dig h2)
  have HL : Hid (val g n2 ≤ val f n1) := hle
  clear hle
  go_enter Tryd.func32, Tryd.ntmps32
  go_wp2_with fail
  refine (clone_row w b1 o1 n1 c1 f (by omega) hr1).mono ?_
  rintro e w1 ⟨B, cap, rfl, hB, hcap, hW1, hR1, hB1⟩
  have hr2' : 0 < n2 → ∃ b o, p2 = some ⟨b, o, none⟩ ∧ Row w1 b o n2 g ∧ b ≠ B := fun h => by
    obtain ⟨b, o, hp, hr⟩ := hr2 h
    exact ⟨b, o, hp, hr.keep hB1 (hr.lt h), by have := hr.lt h; omega⟩
  clear hr1 hr2
  go_wp2
  go_loopw [6, 13] (fun vc vi wr => ∃ (k c : Nat) (h : Nat → Nat), k ≤ n1 ∧ vi = .int .i64 k ∧ vc = .int .u64 c ∧ c ≤ 1 ∧ Row wr B 0 n1 h ∧ Small h n1 ∧ (∀ i, k ≤ i → h i = f i) ∧ val f k + base ^ k * c = val h k + val (dig g n2) k ∧ Only B 0 n1 w1 wr) (fun _ vi _ => n1 - (intOf vi).toNat)
  case atStart => exact ⟨0, 0, f, by omega, rfl, rfl, by omega, hR1, hs1, fun _ _ => rfl, rfl, Only.refl _ _ _ _⟩
  case round =>
    obtain ⟨k, c, h, hk, rfl, rfl, hc, hrow, hsm, hsame, hval, hon⟩ := hrel
    by_cases hlt : k < n1
    · have hc1 := hrow k hlt
      rw [Nat.zero_add] at hc1
      have hfr := hon.freeOwn (hW1.free 0 n1) k hlt
      rw [Nat.zero_add] at hfr
      by_cases hk2 : k < n2
      · obtain ⟨b2, o2, rfl, hrr, hne⟩ := hr2' (by omega)
        have hc2 := hon.row hrr hne k hk2
        have hcin : ∀ W : World, (callFunc 46 #[.int .u64 ((h k : Nat) : Int), .int .u64 ((g k : Nat) : Int), .int .u64 (c : Int)]).run Tryd.prog W = _ := fun W => sub64 (h k) (g k) c hc W
        have HR := Lib.hid (minus_round hlt hc hrow hsm hsame hval hon (dig_lt hk2).symm (hs2 k hk2))
        clear hval hsame hsm
        generalize hd : (h k + base - g k - c) % base = d at hcin HR
        generalize hc' : (if h k < g k + c then 1 else 0) = cc at hcin HR
        clear hd hc'
        go_wp2_with (simp only [hcin])
        obtain ⟨c', h', rfl, r1, r2, r3, r4, r5, r6⟩ := HR.out
        exact ⟨⟨k + 1, _, h', by omega, by go_num, rfl, r1, r2, r3, r4, r5, r6⟩, by simp [intOf]; omega⟩
      · have hcin : ∀ W : World, (callFunc 46 #[.int .u64 ((h k : Nat) : Int), .int .u64 0, .int .u64 (c : Int)]).run Tryd.prog W = _ := fun W => sub64 (h k) 0 c hc W
        have HR := Lib.hid (minus_round hlt hc hrow hsm hsame hval hon (dig_ge (g := g) (n := n2) (i := k) (by omega)).symm base_pos)
        clear hval hsame hsm
        generalize hd : (h k + base - 0 - c) % base = d at hcin HR
        generalize hc' : (if h k < 0 + c then 1 else 0) = cc at hcin HR
        clear hd hc'
        go_wp2_with (simp only [hcin])
        obtain ⟨c', h', rfl, r1, r2, r3, r4, r5, r6⟩ := HR.out
        exact ⟨⟨k + 1, _, h', by omega, by go_num, rfl, r1, r2, r3, r4, r5, r6⟩, by simp [intOf]; omega⟩
    · obtain rfl : k = n1 := by omega
      have HS := Lib.hid hval
      clear hval hsame
      go_wp2_with fail
      refine (trimmed_nt wr B 0 k cap h (by omega) hrow hcap hsm).mono ?_
      rintro e w4 ⟨⟨v, rfl, hv⟩, rfl⟩
      go_wp2
      go_ret
      have hs := HS.out
      rw [HV.out] at hs
      exact ⟨_, rfl, by rw [← no_borrow hsm HL.out hs]; exact hv, hB1.trans (hon.below hB hB1.size)⟩

set_option maxHeartbeats 400000 in
theorem minus_nil (w : World) (p : Option Addr) (n c : Nat) :
    Calls Tryd.prog 32 #[.slice none 0 0, .slice p n c] w fun e w' => e = .returned (.slice none 0 0) ∧ Below w.heap.size w w' := by
  go_enter Tryd.func32, Tryd.ntmps32
  go_wp2_with fail
  refine (clone_nil w 0 0).mono ?_
  rintro e w1 ⟨rfl, rfl⟩
  go_wp2
  go_loopw [13] (fun vi wr => vi = .int .i64 0 ∧ Below w1.heap.size w1 wr) (fun vi _ => 0 - (intOf vi).toNat)
  case atStart => exact ⟨rfl, Below.refl _ _⟩
  case round =>
    obtain ⟨rfl, hb⟩ := hrel
    go_wp2_with fail
    refine (trimmed_nil wr none 0).mono ?_
    rintro e w4 ⟨rfl, rfl⟩
    go_wp2
    go_ret
    exact ⟨rfl, hb⟩

/-- a - b, for b not above a. -/
theorem minus_nt (w : World) (v1 v2 : Value) (m1 m2 : Nat) (h1 : Nt w v1 m1) (h2 : Nt w v2 m2) (l1 : Len m1 999999999999) (hle : m2 ≤ m1) :
    Calls Tryd.prog 32 #[v1, v2] w (Ret w fun w' v => Nt w' v (m1 - m2)) := by
  rcases h1 with ⟨rfl, rfl⟩ | ⟨b1, o1, n1, k1, f1, rfl, hn1, hk1, hr1, hs1, hl1, rfl⟩
  · rcases h2 with ⟨rfl, rfl⟩ | ⟨b2, o2, n2, k2, f2, rfl, hn2, hk2, hr2, hs2, hl2, rfl⟩
    · refine (minus_nil w none 0 0).mono ?_
      rintro e w' ⟨rfl, hb⟩
      exact ⟨_, rfl, .inl ⟨rfl, rfl⟩, hb⟩
    · have := val_ge hn2 hl2
      have hp : 0 < base ^ (n2 - 1) := Nat.pow_pos base_pos
      omega
  · have hL1 := len_le hn1 hl1 l1
    obtain ⟨p2, n2, c2, g, rfl, hn2, hr2, hs2, rfl⟩ := h2.digits (L := n1) (by
      have := val_lt hs1; unfold Len; omega)
    exact minus_row w b1 o1 n1 k1 n2 c2 p2 f1 g hL1 hn2 hr1 hr2 hs1 hs2 hle
end Go.Proofs.YtmdniebedflpbaaDoor.Dy
