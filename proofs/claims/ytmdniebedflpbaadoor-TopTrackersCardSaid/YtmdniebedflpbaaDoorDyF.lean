/-
  WALKS AND WORDS: Div64 Limbs11 of my texts, one behind the other.
-/
import Derived.Test.YtmdniebedflpbaaDoorDyA
import Derived.Test.YtmdniebedflpbaaDoorDyE
import Derived.Deep.DeepCutAuto
import Derived.Deep.CutBlock
-- Div64: WALKS: math/bits.Div64.
namespace Go.Proofs.YtmdniebedflpbaaDoor.Dy
open Go.RowKit

set_option maxHeartbeats 400000 in
theorem div64_low (lo y : Nat) (hlo : lo < base) (hy0 : 0 < y) (_ : y < base) (w : World) :
    Calls Tryd.prog 58 #[.int .u64 0, .int .u64 (lo : Int), .int .u64 (y : Int)] w fun e w' => e = .returned (.tuple #[.int .u64 ((lo / y : Nat) : Int), .int .u64 ((lo % y : Nat) : Int)]) ∧ Quiet w w' := by
  have h0 : ((y : Int) == 0) = false := by rw [beq_eq_false_iff_ne]; omega
  have h1 : (0 : Int) < y := by omega
  go_enter Tryd.func58, Tryd.ntmps58
  go_wp2
  go_region
  go_wp2
  go_ret2
  have e1 : IntKind.u64.wrap ((lo : Int) / (y : Int)) = ((lo / y : Nat) : Int) := wrap_u64 (by push_cast; rfl) (Nat.lt_of_le_of_lt (Nat.div_le_self _ _) hlo)
  exact ⟨by simp only [e1]; push_cast; rfl, ⟨1, rfl⟩⟩

theorem bits_low {x : Nat} (hx : x < base) : bits .and .u64 (x : Int) 4294967295 = ((x % half : Nat) : Int) := by
  have h := bits_and_u64_nat x 4294967295 hx (by omega)
  have e : x &&& 4294967295 = x % 4294967296 := Nat.and_two_pow_sub_one_eq_mod x 32
  rw [e] at h
  exact h
theorem div_half (x : Nat) : (x : Int) / 4294967296 = ((x / half : Nat) : Int) := by unfold half; omega

theorem wrap_mod {n : Int} {m : Nat} (h : n = (m : Int)) : IntKind.u64.wrap n = ((m % base : Nat) : Int) := by
  subst h; unfold base; rw [IntKind.wrap_u64]; omega
theorem wrap_sub {a b c : Nat} (h : a = b + c) (hc : c < base) : IntKind.u64.wrap (((a % base : Nat) : Int) - ((b % base : Nat) : Int)) = (c : Int) := by
  unfold base at *; rw [IntKind.wrap_u64]; omega
theorem wrap_add {a b : Nat} : IntKind.u64.wrap (((a % base : Nat) : Int) + (b : Int)) = (((a + b) % base : Nat) : Int) := by
  unfold base at *; rw [IntKind.wrap_u64]; omega

/-- What the two quotients and the last rest give. -/
theorem div64_end {N y s Y U L u1 u0 V Q1 Q0 R : Nat} (hs : N * 2 ^ s = U * base + L) (hL : L = u1 * half + u0) (hY : Y = y * 2 ^ s) (h1 : U * half + u1 = Q1 * Y + V) (h0 : V * half + u0 = Q0 * Y + R) (hR : R < Y) :
    Q1 * half + Q0 = N / y ∧ R / 2 ^ s = N % y := by
  have e : N * 2 ^ s = (Q1 * half + Q0) * (y * 2 ^ s) + R := by
    rw [hs, hL, ← hY, ← half_sq]
    have e1 : (U * half + u1) * half = (Q1 * Y + V) * half := by rw [h1]
    simp only [Nat.add_mul] at e1 ⊢
    have e2 : U * (half * half) = U * half * half := by rw [Nat.mul_assoc]
    have e3 : Q1 * half * Y = Q1 * Y * half := by rw [Nat.mul_right_comm]
    omega
  have hp := Nat.two_pow_pos s
  have hYp : 0 < y * 2 ^ s := by rw [← hY]; omega
  rw [hY] at hR
  have e1 : N * 2 ^ s / (y * 2 ^ s) = N / y := Nat.mul_div_mul_right _ _ hp
  have e2 : N * 2 ^ s % (y * 2 ^ s) = N % y * 2 ^ s := Nat.mul_mod_mul_right _ _ _
  rw [e, Nat.add_comm, Nat.mul_comm, Nat.add_mul_div_left _ _ hYp, Nat.div_eq_of_lt hR, Nat.zero_add] at e1
  rw [e, Nat.add_comm, Nat.mul_comm, Nat.add_mul_mod_self_left, Nat.mod_eq_of_lt hR] at e2
  exact ⟨e1, by rw [e2]; exact Nat.mul_div_cancel _ hp⟩

set_option maxRecDepth 100000 in
set_option maxHeartbeats 3200000 in
theorem div64_high (hi lo y s Y y1 y0 U L u1 u0 : Nat) (h0 : 0 < hi) (hhi : hi < y) (hs : s < 64) (hsy : Lib.bitLen y + s = 64) (hy : y < base)
    (hY : IntKind.u64.wrap ((y : Int) * 2 ^ s) = (Y : Int)) (hy1 : (Y : Int) / 4294967296 = (y1 : Int)) (hy0 : bits .and .u64 (Y : Int) 4294967295 = (y0 : Int))
    (hU : bits .or .u64 (IntKind.u64.wrap ((hi : Int) * 2 ^ s)) ((lo : Int) / 2 ^ (64 - s)) = (U : Int)) (hL : IntKind.u64.wrap ((lo : Int) * 2 ^ s) = (L : Int))
    (hu1 : (L : Int) / 4294967296 = (u1 : Int)) (hu0 : bits .and .u64 (L : Int) 4294967295 = (u0 : Int)) (hy1p : 0 < y1)
    (w : World) (hg : Guess U Y y1 y0 u1 (U / y1) (U % y1)) (hu0b : u0 < half) (hN : (hi * base + lo) * 2 ^ s = U * base + L) (hLL : L = u1 * half + u0) (hYY : Y = y * 2 ^ s) :
    Calls Tryd.prog 58 #[.int .u64 (hi : Int), .int .u64 (lo : Int), .int .u64 (y : Int)] w fun e w' => e = .returned (.tuple #[.int .u64 (((hi * base + lo) / y : Nat) : Int), .int .u64 (((hi * base + lo) % y : Nat) : Int)]) ∧ Quiet w w' := by
  have hyz : ((y : Int) == 0) = false := by rw [beq_eq_false_iff_ne]; omega
  have hle : ¬ (y ≤ hi) := by omega
  have hleI : ¬ ((y : Int) ≤ (hi : Int)) := by omega
  have hh0 : ((hi : Int) == 0) = false := by rw [beq_eq_false_iff_ne]; omega
  have hy1z : ((y1 : Int) == 0) = false := by rw [beq_eq_false_iff_ne]; omega
  have hz : ∀ w : World, Calls Tryd.prog 70 #[.int .u64 (y : Int)] w fun e w' => e = .returned (.int .i64 (s : Int)) ∧ w' = w := fun w => by
    have := lz64 y w hy
    rwa [show (64 : Int) - (Lib.bitLen y : Int) = (s : Int) by omega] at this
  have hws : IntKind.u64.wrap (s : Int) = (s : Int) := wrap_u64 rfl (by unfold base; omega)
  have HN : Hid ((hi * base + lo) * 2 ^ s = U * base + L) := hN
  have HLL : Hid (L = u1 * half + u0) := hLL
  have HYY : Hid (Y = y * 2 ^ s) := hYY
  clear hN hLL hYY
  have HY : Hid (Y < base) := by
    have h1 := hg.hY; have h2 := hg.hy0; have h3 := hg.hy1
    have h4 : (y1 + 1) * half ≤ half * half := Nat.mul_le_mul_right _ h3
    rw [Nat.add_mul, Nat.one_mul, half_sq] at h4
    exact (by omega : Y < base)
  obtain ⟨q, hq⟩ : ∃ q, q = U / y1 := ⟨_, rfl⟩
  obtain ⟨r, hr⟩ : ∃ r, r = U % y1 := ⟨_, rfl⟩
  have hqw : IntKind.u64.wrap ((U : Int) / (y1 : Int)) = (q : Int) := wrap_u64 (by rw [hq]; push_cast; rfl) (by
    have := hg.le; rw [hq]; unfold half at this; unfold base; omega)
  have hUb : U < base := Nat.lt_trans hg.hU HY.out
  have hmw : IntKind.u64.wrap ((q : Int) * (y1 : Int)) = ((q * y1 : Nat) : Int) := wrap_u64 (by push_cast; rfl) (by
    have := hg.hi; rw [← hq] at this; omega)
  have hrw : IntKind.u64.wrap ((U : Int) - ((q * y1 : Nat) : Int)) = (r : Int) := wrap_u64 (by have := hg.hi; rw [← hq, ← hr] at this; omega) (by
    have := hg.hr; rw [← hr] at this; unfold half at this; unfold base; omega)
  rw [← hq, ← hr] at hg
  obtain ⟨p, hp⟩ : ∃ p, p = q * y1 := ⟨_, rfl⟩
  rw [← hp] at hmw hrw
  have HG : Hid (Guess U Y y1 y0 u1 q r) := hg
  clear hq hr hp hg hUb
  clear hsy hhi
  go_enter Tryd.func58, Tryd.ntmps58
  go_upto_block 0 with (go_at_call 70; refine (hz _).mono ?_; rintro e w' ⟨rfl, rfl⟩)
  go_cut [15] (fun v wx => v = .int .u64 (((U * half + u1) / Y : Nat) : Int) ∧ wx = w')
  case first =>
    go_wp2
    go_loop [15, 16] (fun vq vr => ∃ q r : Nat, vq = .int .u64 q ∧ vr = .int .u64 r ∧ Hid (Guess U Y y1 y0 u1 q r)) (fun _ vr => half - (intOf vr).toNat)
    case atStart => exact ⟨q, r, rfl, rfl, HG⟩
    case round =>
      obtain ⟨q, r, rfl, rfl, hg⟩ := hrel
      have hle' := hg.out.le
      have hrr := hg.out.hr
      have hyy := hg.out.hy1
      have hmul : q * y0 < base := by
        have h1 := hg.out.hy0
        have h2 : q * y0 ≤ (half + 1) * (half - 1) := Nat.mul_le_mul hle' (by omega)
        have h3 : (half + 1) * (half - 1) < base := by decide
        omega
      have hadd : half * r + u1 < base := by
        have h1 := hg.out.hu1
        have h2 : half * (r + 1) ≤ half * half := Nat.mul_le_mul_left _ hrr
        rw [Nat.mul_add, Nat.mul_one, half_sq] at h2
        omega
      have hrw2 : IntKind.u64.wrap ((r : Int) + (y1 : Int)) = ((r + y1 : Nat) : Int) := wrap_u64 (by omega) (by unfold half at hrr hyy; unfold base; omega)
      have hA1 : IntKind.u64.wrap ((q : Int) * (y0 : Int)) = ((q * y0 : Nat) : Int) := wrap_u64 (by push_cast; rfl) hmul
      have hA2 : IntKind.u64.wrap (4294967296 * (r : Int)) = ((half * r : Nat) : Int) := wrap_u64 (by unfold half; omega) (by omega)
      have hA3 : IntKind.u64.wrap (((half * r : Nat) : Int) + (u1 : Int)) = ((half * r + u1 : Nat) : Int) := wrap_u64 (by push_cast; rfl) hadd
      obtain ⟨a1, ha1⟩ : ∃ a1, a1 = q * y0 := ⟨_, rfl⟩
      obtain ⟨a2, ha2⟩ : ∃ a2, a2 = half * r := ⟨_, rfl⟩
      obtain ⟨a3, ha3⟩ : ∃ a3, a3 = half * r + u1 := ⟨_, rfl⟩
      obtain ⟨r2, hr2⟩ : ∃ r2, r2 = r + y1 := ⟨_, rfl⟩
      rw [← hr2] at hrw2
      rw [← ha1] at hA1
      rw [← ha3, ← ha2] at hA3
      rw [← ha2] at hA2
      clear hmul hadd ha2
      by_cases hT : half ≤ q ∨ half * r + u1 < q * y0
      · have hq0 : 0 < q := by
          rcases hT with h | h
          · unfold half at h; omega
          · by_cases e : q = 0
            · subst e; omega
            · omega
        have hqw2 : IntKind.u64.wrap ((q : Int) - 1) = ((q - 1 : Nat) : Int) := wrap_u64 (by omega) (by unfold half at hle'; unfold base; omega)
        obtain ⟨q2, hq2⟩ : ∃ q2, q2 = q - 1 := ⟨_, rfl⟩
        rw [← hq2] at hqw2
        by_cases hB : half ≤ r2
        · have hBb : decide ((4294967296 : Int) ≤ (r2 : Int)) = true := by unfold half at hB; simp; omega
          have HD : Hid (q2 = (U * half + u1) / Y) := by
            have := hg.out.last hT (by omega); rw [hq2]; exact this
          clear hB hr2 hq2 hle' hrr hyy hq0
          by_cases hA : half ≤ q
          · have hAb : decide ((4294967296 : Int) ≤ (q : Int)) = true := by unfold half at hA; simp; omega
            clear hA hT ha1 ha3
            go_wp2
            go_meet
            exact ⟨by rw [← HD.out], rfl⟩
          · have hAb : decide ((4294967296 : Int) ≤ (q : Int)) = false := by unfold half at hA; simp; omega
            have hC : a3 < a1 := by rcases hT with h | h; exact absurd h hA; omega
            clear hA hT ha1 ha3
            go_wp2
            go_meet
            exact ⟨by rw [← HD.out], rfl⟩
        · have hBb : decide ((4294967296 : Int) ≤ (r2 : Int)) = false := by unfold half at hB; simp; omega
          have HD : Hid (Guess U Y y1 y0 u1 q2 r2) := by
            have := hg.out.next hT (by omega); rw [hq2, hr2]; exact this
          have HM : Hid (half - r2 < half - r) := by
            have h1 : r < r2 := by omega
            have h2 : r < half := hrr
            exact (by omega : half - r2 < half - r)
          clear hB hr2 hq2 hle' hrr hyy hq0
          by_cases hA : half ≤ q
          · have hAb : decide ((4294967296 : Int) ≤ (q : Int)) = true := by unfold half at hA; simp; omega
            clear hA hT ha1 ha3
            go_wp2
            exact ⟨⟨q2, r2, rfl, rfl, HD⟩, by simpa [intOf] using HM.out⟩
          · have hAb : decide ((4294967296 : Int) ≤ (q : Int)) = false := by unfold half at hA; simp; omega
            have hC : a3 < a1 := by rcases hT with h | h; exact absurd h hA; omega
            clear hA hT ha1 ha3
            go_wp2
            exact ⟨⟨q2, r2, rfl, rfl, HD⟩, by simpa [intOf] using HM.out⟩
      · have hA : ¬ half ≤ q := fun h => hT (Or.inl h)
        have hAb : decide ((4294967296 : Int) ≤ (q : Int)) = false := by unfold half at hA; simp; omega
        have hC : ¬ a3 < a1 := fun h => hT (Or.inr (by omega))
        have hC2 : a1 ≤ a3 := by omega
        have HD : Hid (q = (U * half + u1) / Y) := by
          have := hg.out.done (by omega); exact this
        clear hA hT ha1 ha3 hr2 hle' hrr hyy
        go_wp2
        go_meet
        exact ⟨by rw [← HD.out], rfl⟩
  case rest =>
    obtain ⟨rfl, rfl⟩ := hcut
    have hgo := HG.out
    have hYp := hgo.posY
    obtain ⟨Q1, hQ1⟩ : ∃ Q1, Q1 = (U * half + u1) / Y := ⟨_, rfl⟩
    obtain ⟨V, hV⟩ : ∃ V, V = (U * half + u1) % Y := ⟨_, rfl⟩
    have hVY : V < Y := by rw [hV]; exact Nat.mod_lt _ hYp
    have hVe : U * half + u1 = Q1 * Y + V := by rw [hQ1, hV]; exact (Nat.div_add_mod' _ _).symm
    have hG2 := Guess.first (u1 := u0) hgo.hY hgo.hy0 hgo.hy1 hgo.hy1' hVY hu0b
    rw [← hQ1]
    have eV1 : IntKind.u64.wrap ((U : Int) * 4294967296) = ((U * half % base : Nat) : Int) := wrap_mod (by unfold half; omega)
    have eV2 : IntKind.u64.wrap (((U * half % base : Nat) : Int) + (u1 : Int)) = (((U * half + u1) % base : Nat) : Int) := wrap_add
    have eV3 : IntKind.u64.wrap ((Q1 : Int) * (Y : Int)) = ((Q1 * Y % base : Nat) : Int) := wrap_mod (by push_cast; rfl)
    have eV4 : IntKind.u64.wrap ((((U * half + u1) % base : Nat) : Int) - ((Q1 * Y % base : Nat) : Int)) = (V : Int) := wrap_sub hVe (Nat.lt_trans hVY HY.out)
    obtain ⟨x1, hx1⟩ : ∃ x1, x1 = U * half % base := ⟨_, rfl⟩
    obtain ⟨x2, hx2⟩ : ∃ x2, x2 = (U * half + u1) % base := ⟨_, rfl⟩
    obtain ⟨x3, hx3⟩ : ∃ x3, x3 = Q1 * Y % base := ⟨_, rfl⟩
    rw [← hx1] at eV1 eV2
    rw [← hx2] at eV2 eV4
    rw [← hx3] at eV3 eV4
    obtain ⟨q', hq'⟩ : ∃ q', q' = V / y1 := ⟨_, rfl⟩
    obtain ⟨r', hr'⟩ : ∃ r', r' = V % y1 := ⟨_, rfl⟩
    have hqw' : IntKind.u64.wrap ((V : Int) / (y1 : Int)) = (q' : Int) := wrap_u64 (by rw [hq']; push_cast; rfl) (by
      have := hG2.le; rw [hq']; unfold half at this; unfold base; omega)
    have hmw' : IntKind.u64.wrap ((q' : Int) * (y1 : Int)) = ((q' * y1 : Nat) : Int) := wrap_u64 (by push_cast; rfl) (by
      have h1 := hG2.hi; rw [← hq'] at h1; have h2 := HY.out; omega)
    have hrw' : IntKind.u64.wrap ((V : Int) - ((q' * y1 : Nat) : Int)) = (r' : Int) := wrap_u64 (by have := hG2.hi; rw [← hq', ← hr'] at this; omega) (by
      have := hG2.hr; rw [← hr'] at this; unfold half at this; unfold base; omega)
    rw [← hq', ← hr'] at hG2
    obtain ⟨p', hp'⟩ : ∃ p', p' = q' * y1 := ⟨_, rfl⟩
    rw [← hp'] at hmw' hrw'
    have HG2 : Hid (Guess V Y y1 y0 u0 q' r') := hG2
    have HVe : Hid (U * half + u1 = Q1 * Y + V) := hVe
    have HQ1 : Hid (Q1 = (U * half + u1) / Y) := hQ1
    clear hQ1 hV hVe hG2 hgo hx1 hx2 hx3 hq' hr' hp' hqw hmw hrw hYp
    go_upto_block 2 with fail
    go_cut [18] (fun v wx => v = .int .u64 (((V * half + u0) / Y : Nat) : Int) ∧ wx = wc)
    case first =>
      go_wp2
      go_loop [16, 18] (fun vr vq => ∃ q r : Nat, vq = .int .u64 q ∧ vr = .int .u64 r ∧ Hid (Guess V Y y1 y0 u0 q r)) (fun vr _ => half - (intOf vr).toNat)
      case atStart => exact ⟨q', r', rfl, rfl, HG2⟩
      case round =>
        obtain ⟨q, r, rfl, rfl, hg⟩ := hrel
        have hle' := hg.out.le
        have hrr := hg.out.hr
        have hyy := hg.out.hy1
        have hmul : q * y0 < base := by
          have h1 := hg.out.hy0
          have h2 : q * y0 ≤ (half + 1) * (half - 1) := Nat.mul_le_mul hle' (by omega)
          have h3 : (half + 1) * (half - 1) < base := by decide
          omega
        have hadd : half * r + u0 < base := by
          have h1 := hg.out.hu1
          have h2 : half * (r + 1) ≤ half * half := Nat.mul_le_mul_left _ hrr
          rw [Nat.mul_add, Nat.mul_one, half_sq] at h2
          omega
        have hrw2 : IntKind.u64.wrap ((r : Int) + (y1 : Int)) = ((r + y1 : Nat) : Int) := wrap_u64 (by omega) (by unfold half at hrr hyy; unfold base; omega)
        have hA1 : IntKind.u64.wrap ((q : Int) * (y0 : Int)) = ((q * y0 : Nat) : Int) := wrap_u64 (by push_cast; rfl) hmul
        have hA2 : IntKind.u64.wrap (4294967296 * (r : Int)) = ((half * r : Nat) : Int) := wrap_u64 (by unfold half; omega) (by omega)
        have hA3 : IntKind.u64.wrap (((half * r : Nat) : Int) + (u0 : Int)) = ((half * r + u0 : Nat) : Int) := wrap_u64 (by push_cast; rfl) hadd
        obtain ⟨a1, ha1⟩ : ∃ a1, a1 = q * y0 := ⟨_, rfl⟩
        obtain ⟨a2, ha2⟩ : ∃ a2, a2 = half * r := ⟨_, rfl⟩
        obtain ⟨a3, ha3⟩ : ∃ a3, a3 = half * r + u0 := ⟨_, rfl⟩
        obtain ⟨r2, hr2⟩ : ∃ r2, r2 = r + y1 := ⟨_, rfl⟩
        rw [← hr2] at hrw2
        rw [← ha1] at hA1
        rw [← ha3, ← ha2] at hA3
        rw [← ha2] at hA2
        clear hmul hadd ha2
        by_cases hT : half ≤ q ∨ half * r + u0 < q * y0
        · have hq0 : 0 < q := by
            rcases hT with h | h
            · unfold half at h; omega
            · by_cases e : q = 0
              · subst e; omega
              · omega
          have hqw2 : IntKind.u64.wrap ((q : Int) - 1) = ((q - 1 : Nat) : Int) := wrap_u64 (by omega) (by unfold half at hle'; unfold base; omega)
          obtain ⟨q2, hq2⟩ : ∃ q2, q2 = q - 1 := ⟨_, rfl⟩
          rw [← hq2] at hqw2
          by_cases hB : half ≤ r2
          · have hBb : decide ((4294967296 : Int) ≤ (r2 : Int)) = true := by unfold half at hB; simp; omega
            have HD : Hid (q2 = (V * half + u0) / Y) := by
              have := hg.out.last hT (by omega); rw [hq2]; exact this
            clear hB hr2 hq2 hle' hrr hyy hq0
            by_cases hA : half ≤ q
            · have hAb : decide ((4294967296 : Int) ≤ (q : Int)) = true := by unfold half at hA; simp; omega
              clear hA hT ha1 ha3
              go_wp2
              go_meet
              exact ⟨by rw [← HD.out], rfl⟩
            · have hAb : decide ((4294967296 : Int) ≤ (q : Int)) = false := by unfold half at hA; simp; omega
              have hC : a3 < a1 := by rcases hT with h | h; exact absurd h hA; omega
              clear hA hT ha1 ha3
              go_wp2
              go_meet
              exact ⟨by rw [← HD.out], rfl⟩
          · have hBb : decide ((4294967296 : Int) ≤ (r2 : Int)) = false := by unfold half at hB; simp; omega
            have HD : Hid (Guess V Y y1 y0 u0 q2 r2) := by
              have := hg.out.next hT (by omega); rw [hq2, hr2]; exact this
            have HM : Hid (half - r2 < half - r) := by
              have h1 : r < r2 := by omega
              have h2 : r < half := hrr
              exact (by omega : half - r2 < half - r)
            clear hB hr2 hq2 hle' hrr hyy hq0
            by_cases hA : half ≤ q
            · have hAb : decide ((4294967296 : Int) ≤ (q : Int)) = true := by unfold half at hA; simp; omega
              clear hA hT ha1 ha3
              go_wp2
              exact ⟨⟨q2, r2, rfl, rfl, HD⟩, by simpa [intOf] using HM.out⟩
            · have hAb : decide ((4294967296 : Int) ≤ (q : Int)) = false := by unfold half at hA; simp; omega
              have hC : a3 < a1 := by rcases hT with h | h; exact absurd h hA; omega
              clear hA hT ha1 ha3
              go_wp2
              exact ⟨⟨q2, r2, rfl, rfl, HD⟩, by simpa [intOf] using HM.out⟩
        · have hA : ¬ half ≤ q := fun h => hT (Or.inl h)
          have hAb : decide ((4294967296 : Int) ≤ (q : Int)) = false := by unfold half at hA; simp; omega
          have hC : ¬ a3 < a1 := fun h => hT (Or.inr (by omega))
          have hC2 : a1 ≤ a3 := by omega
          have HD : Hid (q = (V * half + u0) / Y) := by
            have := hg.out.done (by omega); exact this
          clear hA hT ha1 ha3 hr2 hle' hrr hyy
          go_wp2
          go_meet
          exact ⟨by rw [← HD.out], rfl⟩
    case rest =>
      obtain ⟨rfl, rfl⟩ := hcut
      have hgo := HG2.out
      obtain ⟨Q0, hQ0⟩ : ∃ Q0, Q0 = (V * half + u0) / Y := ⟨_, rfl⟩
      obtain ⟨R, hR⟩ : ∃ R, R = (V * half + u0) % Y := ⟨_, rfl⟩
      have hRY : R < Y := by rw [hR]; exact Nat.mod_lt _ hgo.posY
      have hRe : V * half + u0 = Q0 * Y + R := by rw [hQ0, hR]; exact (Nat.div_add_mod' _ _).symm
      have hQl : Q0 < half := by rw [hQ0]; exact hgo.lt_half
      have hend := div64_end HN.out HLL.out HYY.out HVe.out hRe hRY
      have hQ1l : Q1 < half := by rw [HQ1.out]; exact HG.out.lt_half
      rw [← hQ0]
      have eR1 : IntKind.u64.wrap ((V : Int) * 4294967296) = ((V * half % base : Nat) : Int) := wrap_mod (by unfold half; omega)
      have eR2 : IntKind.u64.wrap (((V * half % base : Nat) : Int) + (u0 : Int)) = (((V * half + u0) % base : Nat) : Int) := wrap_add
      have eR3 : IntKind.u64.wrap ((Q0 : Int) * (Y : Int)) = ((Q0 * Y % base : Nat) : Int) := wrap_mod (by push_cast; rfl)
      have eR4 : IntKind.u64.wrap ((((V * half + u0) % base : Nat) : Int) - ((Q0 * Y % base : Nat) : Int)) = (R : Int) := wrap_sub hRe (Nat.lt_trans hRY HY.out)
      have eQ1 : IntKind.u64.wrap ((Q1 : Int) * 4294967296) = ((Q1 * half : Nat) : Int) := wrap_u64 (by unfold half; omega) (by
        have : (Q1 + 1) * half ≤ half * half := Nat.mul_le_mul_right _ hQ1l
        rw [Nat.add_mul, Nat.one_mul, half_sq] at this
        have : 0 < half := by decide
        omega)
      have eQ2 : IntKind.u64.wrap (((Q1 * half : Nat) : Int) + (Q0 : Int)) = ((Q1 * half + Q0 : Nat) : Int) := wrap_u64 (by push_cast; rfl) (by
        have : (Q1 + 1) * half ≤ half * half := Nat.mul_le_mul_right _ hQ1l
        rw [Nat.add_mul, Nat.one_mul, half_sq] at this
        omega)
      obtain ⟨z1, hz1⟩ : ∃ z1, z1 = V * half % base := ⟨_, rfl⟩
      obtain ⟨z2, hz2⟩ : ∃ z2, z2 = (V * half + u0) % base := ⟨_, rfl⟩
      obtain ⟨z3, hz3⟩ : ∃ z3, z3 = Q0 * Y % base := ⟨_, rfl⟩
      obtain ⟨z4, hz4⟩ : ∃ z4, z4 = Q1 * half := ⟨_, rfl⟩
      obtain ⟨z5, hz5⟩ : ∃ z5, z5 = Q1 * half + Q0 := ⟨_, rfl⟩
      rw [← hz1] at eR1 eR2
      rw [← hz2] at eR2 eR4
      rw [← hz3] at eR3 eR4
      rw [← hz5, ← hz4] at eQ2
      rw [← hz4] at eQ1
      have HE : Hid (z5 = (hi * base + lo) / y ∧ R / 2 ^ s = (hi * base + lo) % y) := by rw [hz5]; exact hend
      clear hQ0 hR hRY hRe hQl hend hQ1l hz1 hz2 hz3 hz4 hz5 hgo
      go_wp2
      go_ret2
      obtain ⟨he1, he2⟩ := HE.out
      rw [← he1, ← he2]
      refine ⟨?_, Quiet.refl _⟩
      push_cast
      rfl

/-- math/bits.Div64, for a quotient that fits. -/
theorem div64 (hi lo y : Nat) (hhi : hi < y) (hlo : lo < base) (hy : y < base) (w : World) :
    Calls Tryd.prog 58 #[.int .u64 (hi : Int), .int .u64 (lo : Int), .int .u64 (y : Int)] w fun e w' => e = .returned (.tuple #[.int .u64 (((hi * base + lo) / y : Nat) : Int), .int .u64 (((hi * base + lo) % y : Nat) : Int)]) ∧ Quiet w w' := by
  by_cases h0 : hi = 0
  · subst h0
    rw [Nat.zero_mul, Nat.zero_add]
    exact div64_low lo y hlo (by omega) hy w
  · obtain ⟨b1, b2, b3⟩ := bitLen_spec y hy
    have b2 := b2 (by omega)
    have hbl : 0 < Lib.bitLen y := by
      rcases Nat.eq_zero_or_pos (Lib.bitLen y) with h | h
      · rw [h] at b1; omega
      · exact h
    obtain ⟨s, hs⟩ : ∃ s, Lib.bitLen y + s = 64 := ⟨64 - Lib.bitLen y, by omega⟩
    have hs64 : s < 64 := by omega
    have hb64 : 2 ^ Lib.bitLen y * 2 ^ s = base := by rw [← Nat.pow_add, hs]; rfl
    have hp := Nat.two_pow_pos s
    have hYlt : y * 2 ^ s < base := by rw [← hb64]; exact Nat.mul_lt_mul_of_pos_right b1 hp
    have hYge : base ≤ 2 * (y * 2 ^ s) := by
      rw [← hb64, ← Nat.mul_assoc]; exact Nat.mul_le_mul_right _ b2
    have hsp := shl_parts (x := lo) (s := s) (by omega)
    have hhs : (hi + 1) * 2 ^ s ≤ y * 2 ^ s := Nat.mul_le_mul_right _ hhi
    have hll : lo / 2 ^ (64 - s) < 2 ^ s := shr_lt (by omega) hlo
    have hLb : lo * 2 ^ s % base < base := Nat.mod_lt _ base_pos
    rw [Nat.add_mul, Nat.one_mul] at hhs
    have hUb : hi * 2 ^ s + lo / 2 ^ (64 - s) < y * 2 ^ s := by omega
    have hU : bits .or .u64 (IntKind.u64.wrap ((hi : Int) * 2 ^ s)) ((lo : Int) / 2 ^ (64 - s)) = ((hi * 2 ^ s + lo / 2 ^ (64 - s) : Nat) : Int) := by
      have e1 : IntKind.u64.wrap ((hi : Int) * 2 ^ s) = ((hi * 2 ^ s : Nat) : Int) := wrap_u64 (by push_cast; rfl) (by omega)
      have e2 : (lo : Int) / 2 ^ (64 - s) = ((lo / 2 ^ (64 - s) : Nat) : Int) := by push_cast; rfl
      rw [e1, e2, bits_or_u64_nat _ _ (show hi * 2 ^ s < base by omega) (show lo / 2 ^ (64 - s) < base from Nat.lt_of_le_of_lt (Nat.div_le_self _ _) hlo)]
      rw [Nat.or_comm, Nat.mul_comm hi, or_sum hll, Nat.add_comm]
    have hh : half = 4294967296 := rfl
    have hdm := Nat.div_add_mod' (y * 2 ^ s) half
    have hdl := Nat.mod_lt (y * 2 ^ s) (show 0 < half by decide)
    have hdq : y * 2 ^ s / half < half := by rw [Nat.div_lt_iff_lt_mul (by decide), half_sq]; exact hYlt
    have hLdm := Nat.div_add_mod' (lo * 2 ^ s % base) half
    have hLdl := Nat.mod_lt (lo * 2 ^ s % base) (show 0 < half by decide)
    have hLdq : lo * 2 ^ s % base / half < half := by rw [Nat.div_lt_iff_lt_mul (by decide), half_sq]; exact hLb
    have hbig : half ≤ 2 * (y * 2 ^ s / half) := by
      have h1 := half_sq
      generalize y * 2 ^ s = Y at *
      generalize Y / half = a at *
      generalize Y % half = b at *
      rw [hh] at *
      rw [base_eq] at *
      omega
    refine div64_high hi lo y s (y * 2 ^ s) (y * 2 ^ s / half) (y * 2 ^ s % half) (hi * 2 ^ s + lo / 2 ^ (64 - s)) (lo * 2 ^ s % base) (lo * 2 ^ s % base / half) (lo * 2 ^ s % base % half) (by omega) hhi hs64 hs hy
      (wrap_u64 (by push_cast; rfl) hYlt) (div_half _) (bits_low hYlt) hU (wrap_mod (by push_cast; rfl)) (div_half _) (bits_low hLb) (by omega) w (Guess.first hdm.symm hdl hdq hbig hUb hLdq) hLdl ?_ hLdm.symm rfl
    rw [Nat.add_mul, Nat.add_mul, Nat.mul_right_comm hi, Nat.mul_comm (lo / 2 ^ (64 - s)) base]
    omega
end Go.Proofs.YtmdniebedflpbaaDoor.Dy
-- Limbs11: WALKS: divideBy, over by one digit.
namespace Go.Proofs.YtmdniebedflpbaaDoor.Dy
open Go.RowKit

theorem val_snoc_low (f : Nat → Nat) (k n : Nat) : val (fun i => f (k + i)) (n + 1) = f k + base * val (fun i => f (k + 1 + i)) n := by
  have h := val_split (fun i => f (k + i)) 1 n
  rw [show 1 + n = n + 1 by omega, Nat.pow_one] at h
  rw [h]
  have e1 : val (fun i => f (k + i)) 1 = f k := by simp [val]
  have e2 : val (fun i => f (k + (1 + i))) n = val (fun i => f (k + 1 + i)) n := val_congr fun i _ => by rw [Nat.add_assoc]
  rw [e1, e2]

/-- What a round of divideBy does to its relation: the digits from k on have been divided. -/
theorem div_round {W wr : World} {B n k m r d : Nat} {f h : Nat → Nat} (hn : n = k + 1 + m) (hr : r < d) (_ : d < base) (hrow : Row wr B 0 n h) (hsm : Small h n) (hsame : ∀ i, i ≤ k → h i = f i)
    (hval : val (fun i => h (k + 1 + i)) m * d + r = val (fun i => f (k + 1 + i)) m) (hon : Only B 0 n W wr) :
    ∃ h', Row (wr.setCell ⟨B, k, none⟩ (.int .u64 (((r * base + h k) / d : Nat) : Int))) B 0 n h' ∧ Small h' n ∧ (∀ i, i < k → h' i = f i) ∧
      (r * base + h k) % d < d ∧ val (fun i => h' (k + i)) (m + 1) * d + (r * base + h k) % d = val (fun i => f (k + i)) (m + 1) ∧ Only B 0 n W (wr.setCell ⟨B, k, none⟩ (.int .u64 (((r * base + h k) / d : Nat) : Int))) := by
  have r1 := hrow.set (k := k) (by omega) ((r * base + h k) / d)
  rw [Nat.zero_add] at r1
  have hd0 : 0 < d := by omega
  have hq : (r * base + h k) / d < base := by
    rw [Nat.div_lt_iff_lt_mul hd0]
    have h1 : (r + 1) * base ≤ d * base := Nat.mul_le_mul_right _ hr
    rw [Nat.add_mul, Nat.one_mul] at h1
    have h2 := hsm k (by omega)
    rw [Nat.mul_comm base d]; omega
  refine ⟨put h k ((r * base + h k) / d), r1, hsm.put hq, fun i hi => by rw [put_other _ _ _ _ (by omega)]; exact hsame i (by omega), Nat.mod_lt _ hd0, ?_, hon.set (by omega) (by omega) _⟩
  rw [val_snoc_low, val_snoc_low, put_same]
  have e1 : val (fun i => put h k ((r * base + h k) / d) (k + 1 + i)) m = val (fun i => h (k + 1 + i)) m := val_congr fun i _ => put_other _ _ _ _ (by omega)
  rw [e1, ← hval, ← hsame k (Nat.le_refl k)]
  have e2 := Nat.div_add_mod' (r * base + h k) d
  rw [Nat.add_mul, Nat.mul_assoc base, Nat.mul_add base]
  rw [Nat.mul_comm base r]
  omega

set_option maxHeartbeats 1600000 in
theorem divideBy_core (w : World) (B n c d : Nat) (f : Nat → Nat) (hn : n ≤ 400000000000) (hd0 : 0 < d) (hd : d < base) (hr : Row w B 0 n f) (hf : Free w B 0 n) (hs : Small f n) :
    Calls Tryd.prog 48 #[.slice (some ⟨B, 0, none⟩) n c, .int .u64 (d : Int)] w fun e w' =>
      ∃ h r, e = .returned (.int .u64 ((r : Nat) : Int)) ∧ r < d ∧ Row w' B 0 n h ∧ Small h n ∧ val h n * d + r = val f n ∧ Only B 0 n w w' := by
  have HD : Hid (d < base) := hd
  clear hd
  go_enter Tryd.func48, Tryd.ntmps48
  go_wp2
  go_loopw [5, 10] (fun vr vi wr => ∃ (i r : Nat) (h : Nat → Nat), i ≤ n ∧ vi = .int .i64 i ∧ vr = .int .u64 r ∧ r < d ∧ Row wr B 0 n h ∧ Small h n ∧ (∀ j, j < n - i → h j = f j) ∧ val (fun j => h (n - i + j)) i * d + r = val (fun j => f (n - i + j)) i ∧ Only B 0 n w wr) (fun _ vi _ => n - (intOf vi).toNat)
  case atStart => exact ⟨0, 0, f, by omega, rfl, rfl, hd0, hr, hs, fun _ _ => rfl, by simp [val], Only.refl _ _ _ _⟩
  case round =>
    obtain ⟨i, r, h, hi, rfl, rfl, hrd, hrow, hsm, hsame, hval, hon⟩ := hrel
    by_cases hlt : i < n
    · obtain ⟨k, hk⟩ : ∃ k, k = n - 1 - i := ⟨_, rfl⟩
      have hnk : n = k + 1 + i := by omega
      have hni : n - i = k + 1 := by omega
      rw [hni] at hval
      have hcell := hrow k (by omega)
      have hfr := (hon.frozen (0 + k)).trans (hf k (by omega))
      rw [Nat.zero_add] at hcell hfr
      have hdiv : ∀ W : World, Calls Tryd.prog 58 #[.int .u64 (r : Int), .int .u64 ((h k : Nat) : Int), .int .u64 (d : Int)] W _ := fun W => div64 r (h k) d hrd (hsm k (by omega)) HD.out W
      have HR := Lib.hid (div_round hnk hrd HD.out hrow hsm (fun j hj => hsame j (by omega)) hval hon)
      obtain ⟨qd, hqd⟩ : ∃ qd, qd = (r * base + h k) / d := ⟨_, rfl⟩
      obtain ⟨rm, hrm⟩ : ∃ rm, rm = (r * base + h k) % d := ⟨_, rfl⟩
      rw [← hqd, ← hrm] at hdiv
      simp only [← hqd, ← hrm] at HR
      have hkI : (n : Int) - 1 - (i : Int) = (k : Int) := by omega
      have HN : Hid (n = k + 1 + i) := hnk
      clear hval hsame hsm hqd hrm hk hnk hni
      go_wp2_with (go_at_call 58; refine (hdiv _).mono ?_; rintro e w2 ⟨rfl, q, rfl⟩)
      obtain ⟨h', t1, t2, t3, t4, t5, t6⟩ := HR.out
      have hnk := HN.out
      refine ⟨⟨i + 1, rm, h', by omega, by go_num, rfl, t4, ?_, t2, fun j hj => t3 j (by omega), ?_, ?_⟩, by simp [intOf]; omega⟩
      · exact fun j hj => t1 j hj
      · rw [show n - (i + 1) = k by omega]; exact t5
      · exact t6.trans (Only.of_quiet ⟨q, rfl⟩)
    · obtain rfl : i = n := by omega
      have HV : Hid (val h i * d + r = val f i) := by
        have e : ∀ g : Nat → Nat, val (fun j => g (i - i + j)) i = val g i := fun g => val_congr fun j _ => by rw [Nat.sub_self, Nat.zero_add]
        rw [e, e] at hval; exact hval
      clear hval hsame
      go_wp2
      go_ret
      exact ⟨h, r, rfl, hrd, hrow, hsm, HV.out, hon⟩
end Go.Proofs.YtmdniebedflpbaaDoor.Dy
