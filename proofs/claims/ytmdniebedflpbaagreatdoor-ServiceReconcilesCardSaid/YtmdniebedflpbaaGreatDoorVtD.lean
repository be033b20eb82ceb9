/-
  WALKS: Digest of the program and of the reference: one fold over the bytes; two strings; another byte.
-/
import Derived.Test.YtmdniebedflpbaaGreatDoorVsA
import Derived.Laws.Bits64
namespace Go.Proofs.YtmdniebedflpbaaGreatDoor
open Go.RowKit

def U64 : Nat := 18446744073709551616
def rot (x : Nat) : Nat := x * 8388608 % 18446744073709551616 + x / 2199023255552
def dst1 (h c : Nat) : Nat := rot ((h ^^^ c) * 1099511628211 % 18446744073709551616)
def dig : Nat → List UInt8 → Nat
  | h, [] => h
  | h, c :: l => dig (dst1 h c.toNat) l
theorem rot_lt {x : Nat} (h : x < 18446744073709551616) : rot x < 18446744073709551616 := by unfold rot; omega
theorem dst1_lt (h c : Nat) : dst1 h c < 18446744073709551616 := rot_lt (Nat.mod_lt _ (by decide))
theorem dig_lt : ∀ (l : List UInt8) {h : Nat}, h < 18446744073709551616 → dig h l < 18446744073709551616
  | [], _, h => h
  | c :: l, h, _ => dig_lt l (dst1_lt h c.toNat)
theorem dig_append (b : List UInt8) : ∀ (a : List UInt8) (h : Nat), dig h (a ++ b) = dig (dig h a) b
  | [], _ => rfl
  | c :: l, h => dig_append b l (dst1 h c.toNat)
theorem dig_snoc (h : Nat) (a : List UInt8) (c : UInt8) : dig h (a ++ [c]) = dst1 (dig h a) c.toNat := by rw [dig_append, dig, dig]
theorem rot_form {x : Nat} : rot x = (x % 2199023255552) * 8388608 + x / 2199023255552 := by
  unfold rot
  rw [show (18446744073709551616 : Nat) = 2199023255552 * 8388608 from rfl, Nat.mul_mod_mul_right]
theorem pair_inj {B a b a' b' : Nat} (hb : b < B) (hb' : b' < B) (h : a * B + b = a' * B + b') : a = a' ∧ b = b' := by
  have h1 := congrArg (· % B) h
  simp only [Nat.mul_add_mod_self_right, Nat.mod_eq_of_lt hb, Nat.mod_eq_of_lt hb'] at h1
  subst h1
  exact ⟨Nat.eq_of_mul_eq_mul_right (by omega) (Nat.add_right_cancel h), rfl⟩
theorem rot_inj {x y : Nat} (hx : x < 18446744073709551616) (hy : y < 18446744073709551616) (h : rot x = rot y) : x = y := by
  rw [rot_form, rot_form] at h
  obtain ⟨h1, h2⟩ := pair_inj (by omega) (by omega) h
  rw [← Nat.div_add_mod x 2199023255552, ← Nat.div_add_mod y 2199023255552, h1, h2]
theorem unit_back {M F I z : Nat} (h1 : F * I % M = 1) (hz : z < M) : z * F % M * I % M = z := by
  rw [Nat.mod_mul_mod, Nat.mul_assoc, Nat.mul_mod, h1, Nat.mul_one, Nat.mod_mod, Nat.mod_eq_of_lt hz]
theorem unit_inj {M F I x y : Nat} (h1 : F * I % M = 1) (hx : x < M) (hy : y < M) (h : x * F % M = y * F % M) : x = y := by
  rw [← unit_back h1 hx, ← unit_back h1 hy, h]
theorem mul_inj {x y : Nat} (hx : x < 18446744073709551616) (hy : y < 18446744073709551616) (h : x * 1099511628211 % 18446744073709551616 = y * 1099511628211 % 18446744073709551616) : x = y :=
  unit_inj (I := 14886173955864302971) (by decide) hx hy h
theorem xor_lt {h c : Nat} (hh : h < 18446744073709551616) (hc : c < 256) : h ^^^ c < 18446744073709551616 := Nat.xor_lt_two_pow (n := 64) hh (Nat.lt_of_lt_of_le hc (by decide))
theorem dst1_inj {h h' c c' : Nat} (hh : h < 18446744073709551616) (hh' : h' < 18446744073709551616) (hc : c < 256) (hc' : c' < 256) (e : dst1 h c = dst1 h' c') : h ^^^ c = h' ^^^ c' :=
  mul_inj (xor_lt hh hc) (xor_lt hh' hc') (rot_inj (Nat.mod_lt _ (by decide)) (Nat.mod_lt _ (by decide)) e)
theorem xor_left_inj {h c c' : Nat} (e : h ^^^ c = h ^^^ c') : c = c' := by
  have := congrArg (h ^^^ ·) e
  simpa [← Nat.xor_assoc] using this
theorem xor_right_inj {h h' c : Nat} (e : h ^^^ c = h' ^^^ c) : h = h' := by
  have := congrArg (· ^^^ c) e
  simpa [Nat.xor_assoc] using this
theorem dig_inj : ∀ (l : List UInt8) {h h' : Nat}, h < 18446744073709551616 → h' < 18446744073709551616 → dig h l = dig h' l → h = h'
  | [], _, _, _, _, e => e
  | c :: l, h, h', hh, hh', e => xor_right_inj (dst1_inj hh hh' (UInt8.toNat_lt c) (UInt8.toNat_lt c) (dig_inj l (dst1_lt h c.toNat) (dst1_lt h' c.toNat) e))
/-- One byte replaced by another one changes it. -/
theorem dig_set {h : Nat} (hh : h < 18446744073709551616) (l : List UInt8) (k : Nat) (hk : k < l.length) (x : UInt8) (hx : l[k] ≠ x) : dig h (l.set k x) ≠ dig h l := by
  intro e
  rw [List.set_eq_take_append_cons_drop, if_pos hk] at e
  have e2 : l = l.take k ++ l[k] :: l.drop (k + 1) := by rw [List.getElem_cons_drop, List.take_append_drop]
  rw [show dig h l = dig h (l.take k ++ l[k] :: l.drop (k + 1)) from congrArg (dig h) e2, dig_append, dig_append] at e
  have hd := dig_lt (l.take k) hh
  have e3 := dig_inj (l.drop (k + 1)) (dst1_lt _ _) (dst1_lt _ _) (show dig (dst1 (dig h (l.take k)) x.toNat) (l.drop (k + 1)) = dig (dst1 (dig h (l.take k)) l[k].toNat) (l.drop (k + 1)) from e)
  have e4 := xor_left_inj (dst1_inj hd hd (UInt8.toNat_lt _) (UInt8.toNat_lt _) e3)
  exact hx (UInt8.toNat_inj.1 e4).symm

theorem or_disjoint (x : Nat) (hx : x < 18446744073709551616) : (x * 8388608 % 18446744073709551616) ||| (x / 2199023255552) = rot x := by
  have e : x * 8388608 % 18446744073709551616 = (x % 2199023255552) <<< 23 := by
    rw [Nat.shiftLeft_eq, show (18446744073709551616 : Nat) = 2199023255552 * 8388608 from rfl, Nat.mul_mod_mul_right]
  rw [rot_form, e, ← Nat.shiftLeft_add_eq_or_of_lt (show x / 2199023255552 < 2 ^ 23 by omega), Nat.shiftLeft_eq]
theorem bits_or_u64_nat (a b : Nat) (ha : a < 18446744073709551616) (hb : b < 18446744073709551616) : bits .or .u64 (a : Int) (b : Int) = ((a ||| b : Nat) : Int) := by
  have hx : a ||| b < 2 ^ 64 := Nat.or_lt_two_pow (by omega) (by omega)
  have h1 : (BitVec.ofInt 64 (a : Int)).toNat = a := by
    rw [BitVec.ofInt_natCast, BitVec.toNat_ofNat]; exact Nat.mod_eq_of_lt (by omega)
  have h2 : (BitVec.ofInt 64 (b : Int)).toNat = b := by
    rw [BitVec.ofInt_natCast, BitVec.toNat_ofNat]; exact Nat.mod_eq_of_lt (by omega)
  show IntKind.u64.wrap ((BitVec.ofInt 64 (a : Int) ||| BitVec.ofInt 64 (b : Int)).toNat : Int) = _
  rw [BitVec.toNat_or, h1, h2, IntKind.wrap_u64]
  omega

set_option maxRecDepth 100000 in
set_option maxHeartbeats 4000000 in
theorem rotl_of (w : World) (x : Nat) (hx : x < 18446744073709551616) : Calls Tryz.prog 55 #[.int .u64 (x : Int), .int .i64 23] w fun e w' => e = .returned (.int .u64 ((rot x : Nat) : Int)) ∧ w' = w := by
  have hb : bits .and .u64 23 63 = 23 := by decide
  go_enter Tryz.func55, Tryz.ntmps55
  have h1 : IntKind.u64.wrap ((x : Int) * 8388608) = ((x * 8388608 % 18446744073709551616 : Nat) : Int) := by rw [IntKind.wrap_u64]; omega
  have h2 : ((x : Int) / 2199023255552) = ((x / 2199023255552 : Nat) : Int) := by omega
  have h3 : bits .or .u64 ((x * 8388608 % 18446744073709551616 : Nat) : Int) ((x / 2199023255552 : Nat) : Int) = ((rot x : Nat) : Int) := by rw [bits_or_u64_nat _ _ (Nat.mod_lt _ (by decide)) (by omega), or_disjoint x hx]
  have H1 := Lib.hid h1
  have H2 := Lib.hid h2
  have H3 := Lib.hid h3
  clear h1 h2 h3
  go_wp2_with fail
  go_ret
  exact ⟨by simp only [H1.out, H2.out, H3.out]; rfl, rfl⟩
end Go.Proofs.YtmdniebedflpbaaGreatDoor
