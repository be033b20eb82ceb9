/-
  WALKS AND WORDS: VwA VsA VtD VtE VsH VpA VpB VpC VpD VpF VpM of my texts, one behind the other.
-/
import Derived.Test.YtmdniebedflpbaaDoorPlA
import Derived.BigQuiet
import Derived.Deep.QuietTactic
import Derived.Laws.EntriesVeiled
import Derived.Laws.AppendOwn
import Derived.Deep.AppendLies
import Derived.Deep.RegionHeld3
import Derived.Deep.DeepCutAuto
import Derived.BigRegion
import Derived.StillTailTactics
import Derived.Test.YtmdniebedflpbaaDoorPmF
import Derived.Test.YtmdniebedflpbaaDoorPmD
import Derived.Test.YtmdniebedflpbaaDoorPlD
import Derived.Test.YtmdniebedflpbaaDoorPlC
import Derived.Laws.Bits64
import Derived.RangeFuncBox
import Derived.Test.YtmdniebedflpbaaDoorPxD
import Derived.Lib.SlBytesRow
import Derived.Laws.CopyOwn
import Derived.Laws.ResultCell
-- VwA: WORDS: cells of blocks, new blocks, what stays below.
namespace Go.Proofs.YtmdniebedflpbaaDoor
open Go.RowKit

theorem fz_h {w : World} {b : Nat} {cs : Array Value} {t : TypeId} (h : w.heap[b]? = some (.cells cs t (0, 0))) (k : Nat) : w.frozen? ⟨b, k, none⟩ = false := by
  simp [World.frozen?, h]
theorem new_heap (w : World) (o : Obj) : (w.alloc o).heap[w.heap.size]? = some o := by
  show (w.heap.push o)[w.heap.size]? = some o
  simp
theorem low_trans {w V W : World} (h : Below w.heap.size w V) (hb : Below V.heap.size V W) : Below w.heap.size w W := h.trans (hb.mono h.size)
end Go.Proofs.YtmdniebedflpbaaDoor
-- VsA: WORDS: traps; WALKS: isWithin, the error of a trap, Safe, of the program and of the reference.
namespace Go.Proofs.YtmdniebedflpbaaDoor
open Go.RowKit

/-- A trap: main, kicker, vent, purge, door; pressure, gas, pig. -/
structure Tp where
  m : Bool
  k : Bool
  v : Bool
  u : Bool
  d : Bool
  p : Int
  g : Int
  i : Int
def Tp.val (t : Tp) : Value := .agg #[.bool t.m, .bool t.k, .bool t.v, .bool t.u, .bool t.d, .int .i64 t.p, .int .i64 t.g, .int .i64 t.i]
def Tp.ok (t : Tp) : Prop := (0 ≤ t.p ∧ t.p ≤ 3) ∧ (0 ≤ t.g ∧ t.g ≤ 3) ∧ 0 ≤ t.i ∧ t.i ≤ 2
instance (t : Tp) : Decidable t.ok := by unfold Tp.ok; infer_instance
def Tp.err (t : Tp) : Int := if t.ok then 0 else 1
/-- Is an open door safe? -/
def Tp.shut (t : Tp) : Bool := t.v && !t.m && !t.k && !t.u && decide (t.p = 0) && decide (t.g = 0)
def Tp.safe (t : Tp) : Bool := decide t.ok && (!t.d || t.shut)
def Tp.tick (t : Tp) : Tp :=
  if t.m || t.k then { t with p := min (t.p + 1) 3, g := 3, i := if t.m = true ∧ min (t.p + 1) 3 = 3 ∧ t.k = true ∧ t.i = 1 then 2 else if t.m = true ∧ min (t.p + 1) 3 = 3 ∧ t.k = false ∧ t.i = 2 then 1 else t.i }
  else if t.v then { t with p := max (t.p - 1) 0, g := if t.u then max (t.g - 1) 0 else t.g }
  else if t.u then { t with p := min (t.p + 1) 3 }
  else t
def Tp.beh (t : Tp) : Nat → Tp
  | 0 => { t with m := true }
  | 1 => { t with m := false }
  | 2 => { t with k := true }
  | 3 => { t with k := false }
  | 4 => { t with v := true }
  | 5 => { t with v := false }
  | 6 => { t with u := true }
  | 7 => { t with u := false }
  | 8 => { t with d := true }
  | 9 => { t with d := false }
  | 10 => { t with i := 1 }
  | 11 => { t with i := 0 }
  | _ => t.tick
def Tp.alw (t : Tp) : Nat → Bool
  | 0 => !t.m && !t.d && !t.u
  | 1 => t.m
  | 2 => !t.k && !t.d && !t.u
  | 3 => t.k
  | 4 => !t.v
  | 5 => t.v && !t.d
  | 6 => !t.u && !t.d && !t.m && !t.k
  | 7 => t.u
  | 8 => !t.d && ({ t with d := true } : Tp).safe
  | 9 => t.d
  | 10 => t.d && decide (t.i = 0)
  | 11 => t.d && decide (t.i = 1)
  | _ => true
theorem Tp.tick_ok {t : Tp} (h : t.ok) : t.tick.ok := by
  obtain ⟨h1, h2, h3⟩ := h
  unfold Tp.tick
  split
  · refine ⟨⟨by simp only; omega, by simp only; omega⟩, ⟨by simp only; omega, by simp only; omega⟩, ?_⟩
    simp only
    split
    · omega
    · split <;> omega
  · split
    · refine ⟨⟨by simp only; omega, by simp only; omega⟩, ?_, h3⟩
      simp only
      split <;> omega
    · split
      · exact ⟨⟨by simp only; omega, by simp only; omega⟩, h2, h3⟩
      · exact ⟨h1, h2, h3⟩
theorem Tp.beh_ok {t : Tp} (h : t.ok) (c : Nat) : (t.beh c).ok := by
  unfold Tp.beh
  split <;> first | exact Tp.tick_ok h | exact h | exact ⟨h.1, h.2.1, by simp, by simp⟩

set_option maxHeartbeats 1000000 in
theorem vwithin_of (b : Bool) (w : World) (x lo hi : Int) (h : b = decide (lo ≤ x ∧ x ≤ hi)) :
    Calls Tryd.prog 35 #[.int .i64 x, .int .i64 lo, .int .i64 hi] w fun e w' => e = .returned (.bool b) ∧ w' = w := by
  go_enter Tryd.func35, Tryd.ntmps35
  by_cases h1 : lo ≤ x
  · by_cases h2 : x ≤ hi
    · obtain rfl : b = true := by rw [h, decide_eq_true_iff]; omega
      clear h
      go_wp2
      go_ret
      refine ⟨?_, rfl⟩
      first | rfl | (congr 2; simp; omega)
    · obtain rfl : b = false := by rw [h, decide_eq_false_iff_not]; omega
      clear h
      go_wp2
      go_ret
      refine ⟨?_, rfl⟩
      first | rfl | (congr 2; simp; omega)
  · obtain rfl : b = false := by rw [h, decide_eq_false_iff_not]; omega
    clear h
    go_wp2
    go_ret
    exact ⟨rfl, rfl⟩

/-- A new block with a trap's cells. -/
theorem Tp.new (w : World) (t : Tp) (T : TypeId) {W : World} (h : w.alloc (.cells #[.bool t.m, .bool t.k, .bool t.v, .bool t.u, .bool t.d, .int .i64 t.p, .int .i64 t.g, .int .i64 t.i] T) = W) :
    Below w.heap.size w W ∧ W.heap[w.heap.size]? = some (.cells #[.bool t.m, .bool t.k, .bool t.v, .bool t.u, .bool t.d, .int .i64 t.p, .int .i64 t.g, .int .i64 t.i] T (0, 0)) := by
  subst h
  exact ⟨(Below.refl _ _).alloc (Nat.le_refl _) _, new_heap w _⟩

end Go.Proofs.YtmdniebedflpbaaDoor
-- VtD: WALKS: Digest of the program and of the reference: one fold over the bytes; two strings; another byte.
namespace Go.Proofs.YtmdniebedflpbaaDoor
open Go.RowKit

def U64 : Nat := 18446744073709551616
def rot (x : Nat) : Nat := x * 8388608 % 18446744073709551616 + x / 2199023255552
def dst1 (h c : Nat) : Nat := rot ((h ^^^ c) * 1099511628211 % 18446744073709551616)
def dig : Nat → List UInt8 → Nat
  | h, [] => h
  | h, c :: l => dig (dst1 h c.toNat) l
theorem rot_lt {x : Nat} (h : x < 18446744073709551616) : rot x < 18446744073709551616 := by unfold rot; omega
theorem dst1_lt (h c : Nat) : dst1 h c < 18446744073709551616 := rot_lt (Nat.mod_lt _ (by decide))
theorem dig_lt : ∀ (l : List UInt8) {h : Nat}, h < 18446744073709551616 → dig h l < 18446744073709551616
  | [], _, h => h
  | c :: l, h, _ => dig_lt l (dst1_lt h c.toNat)
theorem dig_append (b : List UInt8) : ∀ (a : List UInt8) (h : Nat), dig h (a ++ b) = dig (dig h a) b
  | [], _ => rfl
  | c :: l, h => dig_append b l (dst1 h c.toNat)
theorem dig_snoc (h : Nat) (a : List UInt8) (c : UInt8) : dig h (a ++ [c]) = dst1 (dig h a) c.toNat := by rw [dig_append, dig, dig]
theorem rot_form {x : Nat} : rot x = (x % 2199023255552) * 8388608 + x / 2199023255552 := by
  unfold rot
  rw [show (18446744073709551616 : Nat) = 2199023255552 * 8388608 from rfl, Nat.mul_mod_mul_right]
theorem pair_inj {B a b a' b' : Nat} (hb : b < B) (hb' : b' < B) (h : a * B + b = a' * B + b') : a = a' ∧ b = b' := by
  have h1 := congrArg (· % B) h
  simp only [Nat.mul_add_mod_self_right, Nat.mod_eq_of_lt hb, Nat.mod_eq_of_lt hb'] at h1
  subst h1
  exact ⟨Nat.eq_of_mul_eq_mul_right (by omega) (Nat.add_right_cancel h), rfl⟩
theorem rot_inj {x y : Nat} (hx : x < 18446744073709551616) (hy : y < 18446744073709551616) (h : rot x = rot y) : x = y := by
  rw [rot_form, rot_form] at h
  obtain ⟨h1, h2⟩ := pair_inj (by omega) (by omega) h
  rw [← Nat.div_add_mod x 2199023255552, ← Nat.div_add_mod y 2199023255552, h1, h2]
theorem unit_back {M F I z : Nat} (h1 : F * I % M = 1) (hz : z < M) : z * F % M * I % M = z := by
  rw [Nat.mod_mul_mod, Nat.mul_assoc, Nat.mul_mod, h1, Nat.mul_one, Nat.mod_mod, Nat.mod_eq_of_lt hz]
theorem unit_inj {M F I x y : Nat} (h1 : F * I % M = 1) (hx : x < M) (hy : y < M) (h : x * F % M = y * F % M) : x = y := by
  rw [← unit_back h1 hx, ← unit_back h1 hy, h]
theorem mul_inj {x y : Nat} (hx : x < 18446744073709551616) (hy : y < 18446744073709551616) (h : x * 1099511628211 % 18446744073709551616 = y * 1099511628211 % 18446744073709551616) : x = y :=
  unit_inj (I := 14886173955864302971) (by decide) hx hy h
theorem xor_lt {h c : Nat} (hh : h < 18446744073709551616) (hc : c < 256) : h ^^^ c < 18446744073709551616 := Nat.xor_lt_two_pow (n := 64) hh (Nat.lt_of_lt_of_le hc (by decide))
theorem dst1_inj {h h' c c' : Nat} (hh : h < 18446744073709551616) (hh' : h' < 18446744073709551616) (hc : c < 256) (hc' : c' < 256) (e : dst1 h c = dst1 h' c') : h ^^^ c = h' ^^^ c' :=
  mul_inj (xor_lt hh hc) (xor_lt hh' hc') (rot_inj (Nat.mod_lt _ (by decide)) (Nat.mod_lt _ (by decide)) e)
theorem xor_left_inj {h c c' : Nat} (e : h ^^^ c = h ^^^ c') : c = c' := by
  have := congrArg (h ^^^ ·) e
  simpa [← Nat.xor_assoc] using this
theorem xor_right_inj {h h' c : Nat} (e : h ^^^ c = h' ^^^ c) : h = h' := by
  have := congrArg (· ^^^ c) e
  simpa [Nat.xor_assoc] using this
theorem dig_inj : ∀ (l : List UInt8) {h h' : Nat}, h < 18446744073709551616 → h' < 18446744073709551616 → dig h l = dig h' l → h = h'
  | [], _, _, _, _, e => e
  | c :: l, h, h', hh, hh', e => xor_right_inj (dst1_inj hh hh' (UInt8.toNat_lt c) (UInt8.toNat_lt c) (dig_inj l (dst1_lt h c.toNat) (dst1_lt h' c.toNat) e))
/-- One byte replaced by another one changes it. -/
theorem dig_set {h : Nat} (hh : h < 18446744073709551616) (l : List UInt8) (k : Nat) (hk : k < l.length) (x : UInt8) (hx : l[k] ≠ x) : dig h (l.set k x) ≠ dig h l := by
  intro e
  rw [List.set_eq_take_append_cons_drop, if_pos hk] at e
  have e2 : l = l.take k ++ l[k] :: l.drop (k + 1) := by rw [List.getElem_cons_drop, List.take_append_drop]
  rw [show dig h l = dig h (l.take k ++ l[k] :: l.drop (k + 1)) from congrArg (dig h) e2, dig_append, dig_append] at e
  have hd := dig_lt (l.take k) hh
  have e3 := dig_inj (l.drop (k + 1)) (dst1_lt _ _) (dst1_lt _ _) (show dig (dst1 (dig h (l.take k)) x.toNat) (l.drop (k + 1)) = dig (dst1 (dig h (l.take k)) l[k].toNat) (l.drop (k + 1)) from e)
  have e4 := xor_left_inj (dst1_inj hd hd (UInt8.toNat_lt _) (UInt8.toNat_lt _) e3)
  exact hx (UInt8.toNat_inj.1 e4).symm

theorem or_disjoint (x : Nat) (hx : x < 18446744073709551616) : (x * 8388608 % 18446744073709551616) ||| (x / 2199023255552) = rot x := by
  have e : x * 8388608 % 18446744073709551616 = (x % 2199023255552) <<< 23 := by
    rw [Nat.shiftLeft_eq, show (18446744073709551616 : Nat) = 2199023255552 * 8388608 from rfl, Nat.mul_mod_mul_right]
  rw [rot_form, e, ← Nat.shiftLeft_add_eq_or_of_lt (show x / 2199023255552 < 2 ^ 23 by omega), Nat.shiftLeft_eq]
theorem bits_or_u64_nat (a b : Nat) (ha : a < 18446744073709551616) (hb : b < 18446744073709551616) : bits .or .u64 (a : Int) (b : Int) = ((a ||| b : Nat) : Int) := by
  have hx : a ||| b < 2 ^ 64 := Nat.or_lt_two_pow (by omega) (by omega)
  have h1 : (BitVec.ofInt 64 (a : Int)).toNat = a := by
    rw [BitVec.ofInt_natCast, BitVec.toNat_ofNat]; exact Nat.mod_eq_of_lt (by omega)
  have h2 : (BitVec.ofInt 64 (b : Int)).toNat = b := by
    rw [BitVec.ofInt_natCast, BitVec.toNat_ofNat]; exact Nat.mod_eq_of_lt (by omega)
  show IntKind.u64.wrap ((BitVec.ofInt 64 (a : Int) ||| BitVec.ofInt 64 (b : Int)).toNat : Int) = _
  rw [BitVec.toNat_or, h1, h2, IntKind.wrap_u64]
  omega

set_option maxRecDepth 100000 in
set_option maxHeartbeats 4000000 in
theorem rotl_of (w : World) (x : Nat) (hx : x < 18446744073709551616) : Calls Tryd.prog 36 #[.int .u64 (x : Int), .int .i64 23] w fun e w' => e = .returned (.int .u64 ((rot x : Nat) : Int)) ∧ w' = w := by
  have hb : bits .and .u64 23 63 = 23 := by decide
  go_enter Tryd.func36, Tryd.ntmps36
  have h1 : IntKind.u64.wrap ((x : Int) * 8388608) = ((x * 8388608 % 18446744073709551616 : Nat) : Int) := by rw [IntKind.wrap_u64]; omega
  have h2 : ((x : Int) / 2199023255552) = ((x / 2199023255552 : Nat) : Int) := by omega
  have h3 : bits .or .u64 ((x * 8388608 % 18446744073709551616 : Nat) : Int) ((x / 2199023255552 : Nat) : Int) = ((rot x : Nat) : Int) := by rw [bits_or_u64_nat _ _ (Nat.mod_lt _ (by decide)) (by omega), or_disjoint x hx]
  have H1 := Lib.hid h1
  have H2 := Lib.hid h2
  have H3 := Lib.hid h3
  clear h1 h2 h3
  go_wp2_with fail
  go_ret
  exact ⟨by simp only [H1.out, H2.out, H3.out]; rfl, rfl⟩
end Go.Proofs.YtmdniebedflpbaaDoor
-- VtE: WALKS: Digest of the program and of the reference.
namespace Go.Proofs.YtmdniebedflpbaaDoor
open Go.RowKit

/-- One byte more. -/
theorem dig_take {h : Nat} {l : List UInt8} {k : Nat} (hk : k < l.length) : dig h (l.take (k + 1)) = dst1 (dig h (l.take k)) l[k].toNat := by
  rw [List.take_succ_eq_append_getElem hk, dig_snoc]

set_option maxRecDepth 100000 in
set_option maxHeartbeats 4000000 in
theorem digest_of (w : World) (h : Nat) (hh : h < 18446744073709551616) (s : ByteArray) (hs : s.size ≤ maxLen) :
    Calls Tryd.prog 16 #[.int .u64 (h : Int), .string s] w fun e w' => e = .returned (.int .u64 ((dig h s.data.toList : Nat) : Int)) ∧ w' = w := by
  have hmx : maxLen = 9223372036854775807 := rfl
  obtain ⟨r, hr⟩ : ∃ r, dig h s.data.toList = r := ⟨_, rfl⟩
  rw [hr]
  have HR := Lib.hid hr
  clear hr
  go_enter Tryd.func16, Tryd.ntmps16
  go_wp2_with fail
  go_loopw [0, 8] (fun vh vi wr => ∃ k : Nat, k ≤ s.size ∧ vi = .int .i64 k ∧ vh = .int .u64 ((dig h (s.data.toList.take k) : Nat) : Int) ∧ wr = w) (fun _ vi _ => s.size - (intOf vi).toNat)
  case atStart => exact ⟨0, by omega, rfl, rfl, rfl⟩
  case round =>
    obtain ⟨k, hk, rfl, rfl, rfl⟩ := hrel
    by_cases hlt : k < s.size
    · obtain ⟨g, hg⟩ : ∃ g, dig h (s.data.toList.take k) = g := ⟨_, rfl⟩
      rw [hg]
      have hg2 : g < 18446744073709551616 := by rw [← hg]; exact dig_lt _ hh
      have hkn : (k : Int) < (s.size : Int) := by omega
      obtain ⟨c, hc⟩ : ∃ c, s[k] = c := ⟨_, rfl⟩
      have hc2 : c.toNat < 256 := UInt8.toNat_lt c
      have hcl : s.data.toList[k]'(by simpa using hlt) = c := by rw [← hc]; simp [ByteArray.getElem_eq_getElem_data]
      have hnext : dig h (s.data.toList.take (k + 1)) = dst1 g c.toNat := by rw [dig_take (by simpa using hlt), hg, hcl]
      have HX := Lib.hid hnext
      have E1 : Hid (IntKind.u64.wrap ((c.toNat : Nat) : Int) = ((c.toNat : Nat) : Int)) := by show _ = _; rw [IntKind.wrap_u64]; omega
      have E2 : Hid (bits .xor .u64 ((g : Nat) : Int) ((c.toNat : Nat) : Int) = ((g ^^^ c.toNat : Nat) : Int)) := bits_xor_u64_nat _ _ hg2 (by omega)
      have E3 : Hid (IntKind.u64.wrap (((g ^^^ c.toNat : Nat) : Int) * 1099511628211) = (((g ^^^ c.toNat) * 1099511628211 % 18446744073709551616 : Nat) : Int)) := by show _ = _; rw [IntKind.wrap_u64, Int.natCast_emod, Int.natCast_mul]; rfl
      have HR1 := Lib.hid (rotl_of wr ((g ^^^ c.toNat) * 1099511628211 % 18446744073709551616) (Nat.mod_lt _ (by decide)))
      clear hnext hcl hc2 hg hg2
      go_wp2_with fail
      simp only [E1.out, E2.out, E3.out]
      refine HR1.out.mono ?_
      rintro e w9 ⟨rfl, rfl⟩
      have HX2 : Hid (dig h (s.data.toList.take (k + 1)) = rot ((g ^^^ c.toNat) * 1099511628211 % 18446744073709551616)) := HX.out
      obtain ⟨z, hz⟩ : ∃ z, rot ((g ^^^ c.toNat) * 1099511628211 % 18446744073709551616) = z := ⟨_, rfl⟩
      rw [hz] at HX2 ⊢
      clear E1 E2 E3 HR1 HX hz hc
      go_wp2_with fail
      exact ⟨⟨k + 1, by omega, by go_num, by rw [HX2.out], trivial⟩, by simp [intOf]; omega⟩
    · obtain rfl : k = s.size := by omega
      have e : s.data.toList.take s.size = s.data.toList := List.take_of_length_le (by simp)
      rw [e, HR.out]
      go_wp2_with fail
      go_ret
      exact ⟨rfl, rfl⟩

end Go.Proofs.YtmdniebedflpbaaDoor
-- VsH: WALKS: traps: one command of a route (the program's closure).
namespace Go.Proofs.YtmdniebedflpbaaDoor
open Go.RowKit

theorem own_keep {W W' : World} {e sz m : Nat} {B : Nat} {v : Value} {xs : List Value} (h : W.ownsRow B e sz v m xs) (hb : Below W.heap.size W W') : W'.ownsRow B e sz v m xs := by
  refine ⟨h.1, ?_⟩
  rcases h.2 with hn | ⟨g, cap, cur, rfl, hg, hc, hr⟩
  · exact .inl hn
  · exact .inr ⟨g, cap, cur, rfl, hg, (hb.block g (Array.getElem?_eq_some_iff.1 hc).1).trans hc, hr⟩
/-- Ints, as cells. -/
def irw (L : List Int) : List Value := L.map fun x => .int .i64 x
theorem irw_snoc (L : List Int) (c : Int) : irw (L ++ [c]) = irw L ++ [.int .i64 c] := by simp [irw]
set_option maxHeartbeats 4000000 in
theorem eight_set {W : World} {g : Nat} {T : TypeId} {a0 a1 a2 a3 a4 a5 a6 a7 v0 v1 v2 v3 v4 v5 v6 v7 : Value} (h : W.heap[g]? = some (.cells #[a0, a1, a2, a3, a4, a5, a6, a7] T (0, 0))) :
    ((((((((W.setCell ⟨g, 0, none⟩ v0).setCell ⟨g, 1, none⟩ v1).setCell ⟨g, 2, none⟩ v2).setCell ⟨g, 3, none⟩ v3).setCell ⟨g, 4, none⟩ v4).setCell ⟨g, 5, none⟩ v5).setCell ⟨g, 6, none⟩ v6).setCell ⟨g, 7, none⟩ v7).heap[g]? = some (.cells #[v0, v1, v2, v3, v4, v5, v6, v7] T (0, 0)) := by
  rw [heap_set (heap_set (heap_set (heap_set (heap_set (heap_set (heap_set (heap_set h v0) v1) v2) v3) v4) v5) v6) v7]
  rfl

end Go.Proofs.YtmdniebedflpbaaDoor
-- VpA: MATHEMATICS: numbers as bytes, the least significant one first (for ServiceTelegrams).
namespace Go.Proofs.YtmdniebedflpbaaDoor
open Go.RowKit

/-- The k least bytes of a number. -/
def leN (n : Nat) : Nat → List Nat
  | 0 => []
  | k + 1 => n % 256 :: leN (n / 256) k
/-- The number of bytes. -/
def valN : List Nat → Nat
  | [] => 0
  | b :: l => b + 256 * valN l
theorem leN_len : ∀ (k n : Nat), (leN n k).length = k
  | 0, _ => rfl
  | k + 1, n => by simp [leN, leN_len k]
theorem leN_lt : ∀ (k n : Nat), ∀ x ∈ leN n k, x < 256
  | 0, _, x, h => by simp [leN] at h
  | k + 1, n, x, h => by
    rcases List.mem_cons.1 h with rfl | h
    · exact Nat.mod_lt _ (by decide)
    · exact leN_lt k _ x h
theorem val_leN : ∀ (k n : Nat), valN (leN n k) = n % 256 ^ k
  | 0, n => by simp [leN, valN, Nat.mod_one]
  | k + 1, n => by
    rw [leN, valN, val_leN k, Nat.pow_succ, Nat.mul_comm (256 ^ k) 256, Nat.mod_mul]
theorem val_lt : ∀ (l : List Nat), (∀ x ∈ l, x < 256) → valN l < 256 ^ l.length
  | [], _ => by simp [valN]
  | b :: l, h => by
    have h1 := h b (by simp)
    have h2 := val_lt l (fun x hx => h x (by simp [hx]))
    simp only [valN, List.length_cons, Nat.pow_succ]
    omega
theorem val_inj : ∀ (l m : List Nat), (∀ x ∈ l, x < 256) → (∀ x ∈ m, x < 256) → l.length = m.length → valN l = valN m → l = m
  | [], [], _, _, _, _ => rfl
  | [], _ :: _, _, _, h, _ => by simp at h
  | _ :: _, [], _, _, h, _ => by simp at h
  | a :: l, b :: m, hl, hm, hn, hv => by
    have h1 := hl a (by simp)
    have h2 := hm b (by simp)
    simp only [valN] at hv
    obtain rfl : a = b := by omega
    rw [val_inj l m (fun x hx => hl x (by simp [hx])) (fun x hx => hm x (by simp [hx])) (by simpa using hn) (by omega)]
/-- Bytes are those of their number. -/
theorem leN_val (l : List Nat) (h : ∀ x ∈ l, x < 256) : leN (valN l) l.length = l :=
  val_inj _ _ (leN_lt _ _) h (leN_len _ _) (by rw [val_leN]; exact Nat.mod_eq_of_lt (val_lt l h))
end Go.Proofs.YtmdniebedflpbaaDoor
-- VpB: WORDS: telegrams; WALKS: fits (the program).
namespace Go.Proofs.YtmdniebedflpbaaDoor
open Go.RowKit

/-- A telegram: tracker, time, place, battery. -/
structure Tg where
  a : Int
  b : Int
  c : Int
  d : Int
def Tg.val (t : Tg) : Value := .agg #[.int .i64 t.a, .int .i64 t.b, .int .i64 t.c, .int .i64 t.d]
def Tg.ok (t : Tg) : Prop := (0 ≤ t.a ∧ t.a ≤ 65535) ∧ (0 ≤ t.b ∧ t.b ≤ 1099511627776) ∧ (0 ≤ t.c ∧ t.c ≤ 1073741824) ∧ 0 ≤ t.d ∧ t.d ≤ 1000
instance Tg.okDec (t : Tg) : Decidable t.ok := by unfold Tg.ok; infer_instance
set_option maxHeartbeats 4000000 in
theorem tfits_of (w : World) (t : Tg) : Calls Tryd.prog 14 #[t.val] w fun e w' => e = .returned (.bool (decide t.ok)) ∧ Below w.heap.size w w' := by
  obtain ⟨a, b, c, d⟩ := t
  have HI : Hid (∀ q w x lo hi, q = decide (lo ≤ x ∧ x ≤ hi) → Calls Tryd.prog 35 #[.int .i64 x, .int .i64 lo, .int .i64 hi] w fun e w' => e = .returned (.bool q) ∧ w' = w) := fun q w x lo hi h => vwithin_of q w x lo hi h
  obtain ⟨e0, he0⟩ : ∃ e0, decide (Tg.mk a b c d).ok = e0 := ⟨_, rfl⟩
  rw [he0]
  have HE : Hid (e0 = decide ((0 ≤ a ∧ a ≤ 65535) ∧ (0 ≤ b ∧ b ≤ 1099511627776) ∧ (0 ≤ c ∧ c ≤ 1073741824) ∧ 0 ≤ d ∧ d ≤ 1000)) := Lib.hid he0.symm
  clear he0
  dsimp only [Tg.val]
  go_enter Tryd.func14, Tryd.ntmps14
  go_upto_region 1 with fail
  obtain ⟨W, hW⟩ : ∃ W, w.alloc (.cells #[.int .i64 a, .int .i64 b, .int .i64 c, .int .i64 d] 26) = W := ⟨_, rfl⟩
  rw [hW]
  have HB : Hid (Below w.heap.size w W) := Lib.hid (by rw [← hW]; exact (Below.refl _ _).alloc (Nat.le_refl _) _)
  have hH : W.heap[w.heap.size]? = some (.cells #[.int .i64 a, .int .i64 b, .int .i64 c, .int .i64 d] 26 (0, 0)) := by rw [← hW]; exact new_heap _ _
  have s0 := cell_h (k := 0) hH rfl
  have s1 := cell_h (k := 1) hH rfl
  have s2 := cell_h (k := 2) hH rfl
  have s3 := cell_h (k := 3) hH rfl
  clear hH hW
  by_cases h0 : 0 ≤ a ∧ a ≤ 65535
  · by_cases h1 : 0 ≤ b ∧ b ≤ 1099511627776
    · by_cases h2 : 0 ≤ c ∧ c ≤ 1073741824
      · by_cases h3 : 0 ≤ d ∧ d ≤ 1000
        · go_wp2_with fail
          refine (HI.out true _ a 0 65535 (by simp; omega)).mono ?_
          rintro e w9 ⟨rfl, rfl⟩
          go_wp2_with fail
          refine (HI.out true _ b 0 1099511627776 (by simp; omega)).mono ?_
          rintro e w9 ⟨rfl, rfl⟩
          go_wp2_with fail
          refine (HI.out true _ c 0 1073741824 (by simp; omega)).mono ?_
          rintro e w9 ⟨rfl, rfl⟩
          go_wp2_with fail
          refine (HI.out true _ d 0 1000 (by simp; omega)).mono ?_
          rintro e w9 ⟨rfl, rfl⟩
          go_wp2_with fail
          go_ret
          exact ⟨by rw [HE.out, decide_eq_true (by omega)]; rfl, HB.out⟩
        · go_wp2_with fail
          refine (HI.out true _ a 0 65535 (by simp; omega)).mono ?_
          rintro e w9 ⟨rfl, rfl⟩
          go_wp2_with fail
          refine (HI.out true _ b 0 1099511627776 (by simp; omega)).mono ?_
          rintro e w9 ⟨rfl, rfl⟩
          go_wp2_with fail
          refine (HI.out true _ c 0 1073741824 (by simp; omega)).mono ?_
          rintro e w9 ⟨rfl, rfl⟩
          go_wp2_with fail
          refine (HI.out false _ d 0 1000 (by simp; omega)).mono ?_
          rintro e w9 ⟨rfl, rfl⟩
          go_wp2_with fail
          go_ret
          exact ⟨by rw [HE.out, decide_eq_false (by omega)]; rfl, HB.out⟩
      · go_wp2_with fail
        refine (HI.out true _ a 0 65535 (by simp; omega)).mono ?_
        rintro e w9 ⟨rfl, rfl⟩
        go_wp2_with fail
        refine (HI.out true _ b 0 1099511627776 (by simp; omega)).mono ?_
        rintro e w9 ⟨rfl, rfl⟩
        go_wp2_with fail
        refine (HI.out false _ c 0 1073741824 (by simp; omega)).mono ?_
        rintro e w9 ⟨rfl, rfl⟩
        go_wp2_with fail
        go_ret
        exact ⟨by rw [HE.out, decide_eq_false (by omega)]; rfl, HB.out⟩
    · go_wp2_with fail
      refine (HI.out true _ a 0 65535 (by simp; omega)).mono ?_
      rintro e w9 ⟨rfl, rfl⟩
      go_wp2_with fail
      refine (HI.out false _ b 0 1099511627776 (by simp; omega)).mono ?_
      rintro e w9 ⟨rfl, rfl⟩
      go_wp2_with fail
      go_ret
      exact ⟨by rw [HE.out, decide_eq_false (by omega)]; rfl, HB.out⟩
  · go_wp2_with fail
    refine (HI.out false _ a 0 65535 (by simp; omega)).mono ?_
    rintro e w9 ⟨rfl, rfl⟩
    go_wp2_with fail
    go_ret
    exact ⟨by rw [HE.out, decide_eq_false (by omega)]; rfl, HB.out⟩
end Go.Proofs.YtmdniebedflpbaaDoor
-- VpC: WORDS: lists of bytes; WALKS: Pack's closure that writes a number out.
namespace Go.Proofs.YtmdniebedflpbaaDoor
open Go.RowKit

theorem leN_snoc : ∀ (k n : Nat), leN n (k + 1) = leN n k ++ [n / 256 ^ k % 256]
  | 0, n => by simp [leN]
  | k + 1, n => by
    rw [leN, leN_snoc k, leN, List.cons_append, Nat.div_div_eq_div_mul, Nat.pow_succ, Nat.mul_comm (256 ^ k) 256]
theorem valN_snoc : ∀ (l : List Nat) (b : Nat), valN (l ++ [b]) = valN l + 256 ^ l.length * b
  | [], b => by simp [valN]
  | a :: l, b => by
    rw [List.cons_append, valN, valN_snoc l, valN, List.length_cons, Nat.pow_succ, Nat.mul_add, ← Nat.mul_assoc, Nat.mul_comm 256 (256 ^ l.length)]
    omega
/-- Bytes, as cells, as a string. -/
def u8l (L : List Nat) : List Value := L.map fun (x : Nat) => Value.int .u8 (x : Int)
theorem u8l_len (L : List Nat) : (u8l L).length = L.length := by simp [u8l]
theorem u8l_app (L M : List Nat) : u8l (L ++ M) = u8l L ++ u8l M := by simp [u8l]
theorem u8l_one (L : List Nat) : ∀ v ∈ u8l L, v.oneCell' = true := by
  intro v hv
  obtain ⟨x, _, rfl⟩ := List.mem_map.1 hv
  rfl
theorem u8l_get {L : List Nat} {j : Nat} (h : j < L.length) : (u8l L)[j]? = some (.int .u8 ((L.getD j 0 : Nat) : Int)) := by
  simp [u8l, List.getElem?_map, List.getElem?_eq_getElem h, List.getD_eq_getElem?_getD]
def bsOf (L : List Nat) : ByteArray := ⟨(L.map UInt8.ofNat).toArray⟩
theorem bsOf_size (L : List Nat) : (bsOf L).size = L.length := by
  show (L.map UInt8.ofNat).toArray.size = _
  simp
theorem bsOf_list (L : List Nat) : (bsOf L).data.toList = L.map UInt8.ofNat := by simp [bsOf]
/-- Cells that are bytes are those of a string. -/
theorem bytes_of {W : World} {g o : Nat} {L : List Nat} (hL : ∀ x ∈ L, x < 256) (h : ∀ j, j < L.length → W.cell? ⟨g, o + j, none⟩ = some (.int .u8 ((L.getD j 0 : Nat) : Int))) : Lib.Bytes W g o (bsOf L) := by
  intro j hj
  have hj' : j < L.length := by rw [bsOf_size] at hj; exact hj
  rw [h j hj']
  have e : (bsOf L)[j] = UInt8.ofNat (L.getD j 0) := by
    have : (bsOf L).data.toList[j]'(by rw [bsOf_list]; simpa using hj') = UInt8.ofNat (L.getD j 0) := by
      simp only [bsOf_list, List.getElem_map, List.getD_eq_getElem?_getD, List.getElem?_eq_getElem hj', Option.getD_some]
    rw [← this]
    simp [ByteArray.getElem_eq_getElem_data]
  have hx : L.getD j 0 < 256 := by
    rw [List.getD_eq_getElem?_getD, List.getElem?_eq_getElem hj']
    exact hL _ (List.getElem_mem hj')
  rw [e, UInt8.toNat_ofNat', Nat.mod_eq_of_lt hx]
/-- The cells of a list of one's own. -/
theorem own_cell {W : World} {B n c : Nat} {a : Option Addr} {e : TypeId} {xs : List Value} (h : W.ownsRow B e 1 (.slice a n c) n xs) (hn : 0 < n) : ∃ g, a = some ⟨g, 0, none⟩ ∧ B ≤ g ∧ n ≤ c ∧ ∀ j v, xs[j]? = some v → W.cell? ⟨g, j, none⟩ = some v := by
  obtain ⟨hl, h⟩ := h
  rcases h with ⟨hv, h0⟩ | ⟨g, cap, cur, hv, hb, hc, hcap, _, hs, ht⟩
  · omega
  · obtain ⟨rfl, _, rfl⟩ : a = some ⟨g, 0, none⟩ ∧ n = n ∧ c = cap := by simpa using hv
    refine ⟨g, rfl, hb, hcap, fun j v hj => ?_⟩
    refine cell_h hc ?_
    rw [← ht] at hj
    rw [List.getElem?_take] at hj
    split at hj
    · simpa using hj
    · exact absurd hj (by simp)
theorem x_u8 : (Tryd.prog.info? 5).map (fun i => (i.zero, i.size, i.bytes)) = some (some (.int .u8 0), 1, 1) := by kernel_rfl
/-- The box with the bytes that were written out. -/
structure Pts (w W : World) (bo : Nat) (L : List Nat) : Prop where
  low : w.heap.size ≤ bo
  row : ∃ v, W.heap[bo]? = some (.cells #[v] 22 (0, 0)) ∧ W.ownsRow (bo + 1) 5 1 v L.length (u8l L)
  below : Below w.heap.size w W

set_option maxRecDepth 100000 in
set_option maxHeartbeats 8000000 in
theorem put_of (w W : World) (bo : Nat) (L : List Nat) (x k : Nat) (h : Pts w W bo L) (hx : x < 18446744073709551616) (hk : k ≤ 8) (hL : L.length ≤ 100) :
    Calls Tryd.prog 15 #[.int .u64 (x : Int), .int .i64 (k : Int), .pointer (some ⟨bo, 0, none⟩)] W fun e W' => e = .returned (.tuple #[]) ∧ Pts w W' bo (L ++ leN x k) := by
  have H0 := Lib.hid h
  clear h
  obtain ⟨i0, hi0, hz0, hz1, hz2⟩ := info_parts x_u8
  go_enter Tryd.func15, Tryd.ntmps15
  go_wp2_with fail
  go_loopw [0, 6] (fun vx vi wr => ∃ j : Nat, j ≤ k ∧ vx = .int .u64 ((x / 256 ^ j : Nat) : Int) ∧ vi = .int .i64 (j : Int) ∧ Hid (Pts w wr bo (L ++ leN x j))) (fun _ vi _ => k - (intOf vi).toNat)
  case atStart => exact ⟨0, by omega, by simp, rfl, Lib.hid (by simpa [leN] using H0.out)⟩
  case round =>
    obtain ⟨j, hj, rfl, rfl, H⟩ := hrel
    by_cases hlt : j < k
    · have hkn : (j : Int) < (k : Int) := by omega
      obtain ⟨y, hy⟩ : ∃ y, x / 256 ^ j = y := ⟨_, rfl⟩
      have hnx : x / 256 ^ (j + 1) = y / 256 := by rw [Nat.pow_succ, ← Nat.div_div_eq_div_mul, hy]
      have hsn : L ++ leN x (j + 1) = L ++ leN x j ++ [y % 256] := by rw [leN_snoc, hy, List.append_assoc]
      have hyx : y < 18446744073709551616 := by rw [← hy]; exact Nat.lt_of_le_of_lt (Nat.div_le_self _ _) hx
      rw [hy]
      obtain ⟨n, hn⟩ : ∃ n, (L ++ leN x j).length = n := ⟨_, rfl⟩
      have hn2 : n ≤ 108 := by rw [← hn, List.length_append, leN_len]; omega
      obtain ⟨M, hM⟩ : ∃ M, L ++ leN x j = M := ⟨_, rfl⟩
      rw [hM] at H hsn hn
      obtain ⟨hold, ⟨v, hv, hO⟩, hlow⟩ := H.out
      have HV := Lib.hid hv
      have HL := Lib.hid hlow
      rw [hn] at hO
      have HO := Lib.hid hO
      have HS := Lib.hid hsn
      have HX := Lib.hid hnx
      have hsz := (Array.getElem?_eq_some_iff.1 hv).1
      have r0 : wr.cell? ⟨bo, 0, none⟩ = some v := cell_h hv rfl
      have rf := fz_h hv 0
      have h47 := HO.out.1
      clear hO hlow hv H H0 hy hM hsn hnx
      go_upto_region 3 with (at_builtin; refine wpList_append_own _ rfl _ _ 22 rfl (bo + 1) 5 i0 (.int .u8 0) 1 1 Tryd.underlying22 hi0 hz0 hz1 hz2 rfl (by decide) _ n _ rfl (HO.out.alloc _) ⟨wr.heap.size, 0, none⟩ 1 1 [.int .u8 ((y : Int) % 256)] rfl rfl (cell_one _ _ _) (by simp [Value.oneCell']) (by unfold maxLen; omega) (by omega) (by simp; omega) ?_; intro v1 W1 hown1 hgrow1 hnil1; clear hnil1; have hb1 : Below (bo + 1) wr W1 := ((Below.refl _ wr).alloc (by omega) _).grown hgrow1 (by simp; omega) (fun j hj => (HO.out.lt j hj).1); have HO1 : Hid (W1.ownsRow (bo + 1) 5 1 v1 (n + 1) (u8l (M ++ [y % 256]))) := (by rw [u8l_app, show u8l [y % 256] = [.int .u8 ((y : Int) % 256)] from rfl]; exact hown1); have HV1 := Lib.hid ((hb1.block _ (by omega)).trans HV.out); have HL1 : Hid (Below w.heap.size w W1) := Lib.hid (HL.out.trans (hb1.mono (by omega))); have r1 := cell_h HV1.out rfl (k := 0); have rf1 := fz_h HV1.out 0; obtain ⟨g1, cap1, rfl⟩ := ownsRow_succ HO1.out; clear hown1 hgrow1 hb1 HO HV HL r0 rf h47)
      obtain ⟨W2, hW2⟩ : ∃ W2, W1.setCell ⟨bo, 0, none⟩ (.slice (some ⟨g1, 0, none⟩) (n + 1) cap1) = W2 := ⟨_, rfl⟩
      rw [hW2]
      have HP : Hid (Pts w W2 bo (M ++ [y % 256])) := Lib.hid ⟨hold, ⟨_, by rw [← hW2]; exact heap_set HV1.out _, by rw [← hW2, List.length_append, hn]; exact ownsRow_setCell_below HO1.out (by simp) _⟩, by rw [← hW2]; exact HL1.out.setCell (by simp; omega) _⟩
      clear hW2 HV1 HO1 HL1 r1 rf1
      go_wp2_with fail
      exact ⟨⟨j + 1, by omega, by rw [HX.out]; rfl, by go_num, by rw [HS.out]; exact HP⟩, by simp [intOf]; omega⟩
    · obtain rfl : j = k := by omega
      go_wp2_with fail
      first | go_end0 | refine bodyPost_ret (results_none rfl _ _ _) rfl ?_
      exact ⟨rfl, H.out⟩
end Go.Proofs.YtmdniebedflpbaaDoor
-- VpD: WORDS: telegrams as bytes; blocks that hold arrays of bytes; WALKS: Pack (the program).
namespace Go.Proofs.YtmdniebedflpbaaDoor
open Go.RowKit

/-- The bytes of a telegram, their digest, all of them; what Pack returns. -/
def Tg.tb (t : Tg) : List Nat := leN t.a.toNat 2 ++ leN t.b.toNat 6 ++ leN t.c.toNat 6 ++ leN t.d.toNat 2
def dgN (L : List Nat) : Nat := dig 7 (L.map UInt8.ofNat)
def Tg.tp (t : Tg) : List Nat := t.tb ++ leN (dgN t.tb) 8
def z24 : List Nat := [0, 0, 0, 0, 0, 0, 0, 0, 0, 0, 0, 0, 0, 0, 0, 0, 0, 0, 0, 0, 0, 0, 0, 0]
theorem z24_len : z24.length = 24 := rfl
theorem z24_rep : z24 = List.replicate 24 0 := rfl
def Tg.pk (t : Tg) : List Nat × Int := if t.ok then (t.tp, 0) else (z24, 1)
theorem Tg.tb_len (t : Tg) : t.tb.length = 16 := by simp [Tg.tb, leN_len]
theorem Tg.tp_len (t : Tg) : t.tp.length = 24 := by simp [Tg.tp, Tg.tb_len, leN_len]
theorem Tg.tb_lt (t : Tg) : ∀ x ∈ t.tb, x < 256 := by
  intro x hx
  simp only [Tg.tb, List.mem_append] at hx
  rcases hx with ((h | h) | h) | h <;> exact leN_lt _ _ _ h
theorem Tg.tp_lt (t : Tg) : ∀ x ∈ t.tp, x < 256 := by
  intro x hx
  rcases List.mem_append.1 hx with h | h
  · exact t.tb_lt x h
  · exact leN_lt _ _ _ h
theorem dgN_lt (L : List Nat) : dgN L < 18446744073709551616 := dig_lt _ (by decide)
theorem Tg.pk_len (t : Tg) : t.pk.1.length = 24 := by unfold Tg.pk; split <;> simp [Tg.tp_len, z24_len]
/-- An array of bytes; a block that holds one. -/
def u8a (L : List Nat) : Array Value := (u8l L).toArray
theorem u8a_size (L : List Nat) : (u8a L).size = L.length := by simp [u8a, u8l]
theorem u8a_one (L : List Nat) : (u8a L).all (·.oneCell') = true := all_oneCell_toArray (u8l_one L)
def Ba (W : World) (g : Nat) (L : List Nat) : Prop := W.heap[g]? = some (.cells (u8a L) 28 (0, 0))
theorem Ba.lt {W : World} {g : Nat} {L : List Nat} (h : Ba W g L) : g < W.heap.size := (Array.getElem?_eq_some_iff.1 h).1
theorem Ba.keep {W W' : World} {g : Nat} {L : List Nat} (h : Ba W g L) (hb : Below W.heap.size W W') : Ba W' g L := (hb.block _ h.lt).trans h
theorem Ba.cell {W : World} {g j : Nat} {L : List Nat} (h : Ba W g L) (hj : j < L.length) : W.cell? ⟨g, j, none⟩ = some (.int .u8 ((L.getD j 0 : Nat) : Int)) :=
  cell_h h (by rw [← u8l_get hj]; simp [u8a])
theorem x_24 : (Tryd.prog.info? 28).map (·.size) = some 24 := by kernel_rfl
theorem Ba.load {W : World} {g : Nat} {L : List Nat} (h : Ba W g L) (hL : L.length = 24) : (loadVar 28 ⟨g, 0, none⟩).run Tryd.prog W = .ok (.agg (u8a L)) W :=
  run_loadVar_row W g 28 28 (u8a L) (0, 0) _ h Tryd.underlying28 rfl (by rw [u8a_size, hL]; exact x_24)
theorem Ba.loadAt {W : World} {g : Nat} {L : List Nat} (h : Ba W g L) (hL : L.length = 24) : (Instr.loadAt 28 (.pointer (some ⟨g, 0, none⟩))).run Tryd.prog W = .ok (.agg (u8a L)) W := by
  simp only [Instr.loadAt, Instr.sureAddr, Sem.run_bind, Sem.run_pure, Result.andThen_ok, h.load hL]
theorem Ba.storeAt {W : World} {g : Nat} {M L : List Nat} (h : Ba W g M) (hM : M.length = 24) (hL : L.length = 24) : (Instr.storeAt 28 (.pointer (some ⟨g, 0, none⟩)) (.agg (u8a L))).run Tryd.prog W = .ok () (W.setRow g (u8a L)) := by
  simp only [Instr.storeAt, Instr.sureAddr, Sem.run_bind, Sem.run_pure, Result.andThen_ok]
  exact run_storeVar_row W g 28 28 (u8a M) (u8a L) h (by rw [u8a_size, hL]; exact x_24) (by rw [u8a_size, u8a_size, hM, hL]) (u8a_one L)
theorem Ba.set {W : World} {g : Nat} {M L : List Nat} (h : Ba W g M) : Ba (W.setRow g (u8a L)) g L := setRow_heap W g _ _ _ _ h
theorem zero24 : u8a z24 = #[.int .u8 0, .int .u8 0, .int .u8 0, .int .u8 0, .int .u8 0, .int .u8 0, .int .u8 0, .int .u8 0, .int .u8 0, .int .u8 0, .int .u8 0, .int .u8 0, .int .u8 0, .int .u8 0, .int .u8 0, .int .u8 0, .int .u8 0, .int .u8 0, .int .u8 0, .int .u8 0, .int .u8 0, .int .u8 0, .int .u8 0, .int .u8 0] := rfl
/-- A load and a store of a whole array, as a walk's arms. -/
theorem Ba.wpLoad {W : World} {g : Nat} {L : List Nat} (h : Ba W g L) (hL : L.length = 24) {ops : Array Oper} {rest : List Oper} {o : Oper} {a : Act} {Q : Exit → Act → World → Prop} (hgd : o.guard = none) (x : Operand) (ho : o.op = .load 28 x)
    (hx : a.eval x = .pointer (some ⟨g, 0, none⟩)) (k : wpList Tryd.prog ops Q rest (a.put o.dst (.agg (u8a L))) W) : wpList Tryd.prog ops Q (o :: rest) a W :=
  wpList_load_mid hgd 28 x ho g 0 hx (u8l L) _ (fun j v hj => by rw [Nat.zero_add]; exact cell_h h (by simpa [u8a] using hj)) Tryd.underlying28 rfl (by rw [u8l_len, hL]; exact x_24) k
theorem Ba.wpStore {W : World} {g : Nat} {M L : List Nat} (h : Ba W g M) (hM : M.length = 24) (hL : L.length = 24) {ops : Array Oper} {rest : List Oper} {o : Oper} {a : Act} {Q : Exit → Act → World → Prop} (hgd : o.guard = none) (x y : Operand) (ho : o.op = .store 28 x y)
    (hx : a.eval x = .pointer (some ⟨g, 0, none⟩)) (hy : a.eval y = .agg (u8a L)) (k : wpList Tryd.prog ops Q rest (a.put o.dst undef) (W.setRow g (u8a L))) : wpList Tryd.prog ops Q (o :: rest) a W :=
  wpList_store_row hgd 28 x y ho g (u8a L) hx hy 28 (u8a M) h (by rw [u8a_size, hL]; exact x_24) (by rw [u8a_size, u8a_size, hM, hL]) (u8a_one L) k
/-- A box with a telegram. -/
def Tb (W : World) (g : Nat) (T : TypeId) (t : Tg) : Prop := W.heap[g]? = some (.cells #[.int .i64 t.a, .int .i64 t.b, .int .i64 t.c, .int .i64 t.d] T (0, 0))
theorem Tb.lt {W : World} {g : Nat} {T : TypeId} {t : Tg} (h : Tb W g T t) : g < W.heap.size := (Array.getElem?_eq_some_iff.1 h).1
theorem Tb.keep {W W' : World} {g : Nat} {T : TypeId} {t : Tg} (h : Tb W g T t) (hb : Below W.heap.size W W') : Tb W' g T t := (hb.block _ h.lt).trans h

set_option maxRecDepth 100000 in
set_option maxHeartbeats 8000000 in
theorem pack_of (w : World) (t : Tg) : Calls Tryd.prog 5 #[t.val] w fun e W => e = .returned (.tuple #[.agg (u8a t.pk.1), .int .i64 t.pk.2]) ∧ Below w.heap.size w W := by
  have HF : Hid (∀ W, Calls Tryd.prog 14 #[.agg #[.int .i64 t.a, .int .i64 t.b, .int .i64 t.c, .int .i64 t.d]] W fun e w' => e = .returned (.bool (decide t.ok)) ∧ Below W.heap.size W w') := fun W => tfits_of W t
  by_cases hok : t.ok
  · have e0 : t.pk = (t.tp, 0) := if_pos hok
    rw [e0]
    rw [decide_eq_true hok] at HF
    obtain ⟨a, b, c, d⟩ := t
    obtain ⟨⟨ha0, ha⟩, ⟨hb0, hb⟩, ⟨hc0, hc⟩, hd0, hd⟩ := hok
    dsimp only at ha0 ha hb0 hb hc0 hc hd0 hd HF
    obtain ⟨a, rfl⟩ := Int.eq_ofNat_of_zero_le ha0
    obtain ⟨b, rfl⟩ := Int.eq_ofNat_of_zero_le hb0
    obtain ⟨c, rfl⟩ := Int.eq_ofNat_of_zero_le hc0
    obtain ⟨d, rfl⟩ := Int.eq_ofNat_of_zero_le hd0
    have qa : IntKind.u64.wrap (a : Int) = a := by rw [IntKind.wrap_u64]; omega
    have qb : IntKind.u64.wrap (b : Int) = b := by rw [IntKind.wrap_u64]; omega
    have qc : IntKind.u64.wrap (c : Int) = c := by rw [IntKind.wrap_u64]; omega
    have qd : IntKind.u64.wrap (d : Int) = d := by rw [IntKind.wrap_u64]; omega
    have HT : Hid ((Tg.mk a b c d).tb = leN a 2 ++ leN b 6 ++ leN c 6 ++ leN d 2) := rfl
    have HP : Hid ((Tg.mk a b c d).tp = (Tg.mk a b c d).tb ++ leN (dgN (Tg.mk a b c d).tb) 8) := rfl
    have hpl := (Tg.mk a b c d).tp_len
    have htl := (Tg.mk a b c d).tb_len
    have HTL := Lib.hid (Tg.mk a b c d).tb_lt
    obtain ⟨X, hX⟩ : ∃ X, (Tg.mk a b c d).tp = X := ⟨_, rfl⟩
    obtain ⟨Y, hY⟩ : ∃ Y, (Tg.mk a b c d).tb = Y := ⟨_, rfl⟩
    rw [hX, hY] at HP
    rw [hX] at hpl
    rw [hY] at HT HTL htl
    dsimp only
    rw [hX]
    clear hX hY
    show Calls Tryd.prog 5 #[.agg #[.int .i64 (a : Int), .int .i64 (b : Int), .int .i64 (c : Int), .int .i64 (d : Int)]] w _
    go_enter Tryd.func5, Tryd.ntmps5
    go_upto_region 1 with fail
    rw [← zero24]
    obtain ⟨W, hW⟩ : ∃ W, (w.alloc (.cells #[.int .i64 (a : Int), .int .i64 (b : Int), .int .i64 (c : Int), .int .i64 (d : Int)] 26)).alloc (.cells (u8a z24) 28) = W := ⟨_, rfl⟩
    have k1 : Tb W w.heap.size 26 ⟨a, b, c, d⟩ := by rw [← hW]; exact al_old (new_heap w _) _
    have k2 : Ba W (w.heap.size + 1) z24 := by rw [← hW]; exact al_1 w _ _
    have hB : Below w.heap.size w W := by rw [← hW]; exact ((Below.refl _ _).alloc (Nat.le_refl _) _).alloc (by simp) _
    rw [hW]
    obtain ⟨b2, hb2⟩ : ∃ b2, w.heap.size + 1 = b2 := ⟨_, rfl⟩
    rw [hb2] at k2 ⊢
    have hb2l : w.heap.size < b2 := by omega
    have K1 := Lib.hid k1
    have K2 := Lib.hid k2
    have HB := Lib.hid hB
    clear hW k1 k2 hB hb2
    have s0 := cell_h (k := 0) K1.out rfl
    have s1 := cell_h (k := 1) K1.out rfl
    have s2 := cell_h (k := 2) K1.out rfl
    have s3 := cell_h (k := 3) K1.out rfl
    dsimp only at s0 s1 s2 s3
    go_wp2_with fail
    refine (HF.out _).mono ?_
    rintro e V ⟨rfl, hV⟩
    have K1_1 := Lib.hid (K1.out.keep hV)
    have K2_1 := Lib.hid (K2.out.keep hV)
    have HB_1 := Lib.hid (low_trans HB.out hV)
    clear hV HF s0 s1 s2 s3 K1 K2 HB
    go_upto_region 5 with fail
    obtain ⟨W2, hW2⟩ : ∃ W2, V.alloc (.cells #[.slice none 0 0] 22) = W2 := ⟨_, rfl⟩
    rw [hW2]
    have P0 : Hid (Pts V W2 V.heap.size []) := ⟨Nat.le_refl _, ⟨_, by rw [← hW2]; exact new_heap _ _, World.ownsRow_nil _ _ _ _⟩, by rw [← hW2]; exact (Below.refl _ _).alloc (Nat.le_refl _) _⟩
    clear hW2
    have k1 := K1_1.out.keep P0.out.below
    have s0 := cell_h (k := 0) k1 rfl
    dsimp only at s0
    clear k1
    go_wp2_with fail
    refine (put_of V W2 V.heap.size [] a 2 P0.out (by omega) (by decide) (by decide)).mono ?_
    rintro e W3 ⟨rfl, h⟩
    have P1 : Hid (Pts V W3 V.heap.size (leN a 2)) := h
    clear h s0 P0
    have k1 := K1_1.out.keep P1.out.below
    have s1 := cell_h (k := 1) k1 rfl
    dsimp only at s1
    clear k1
    go_wp2_with fail
    refine (put_of V W3 V.heap.size _ b 6 P1.out (by omega) (by decide) (by simp [leN_len])).mono ?_
    rintro e W4 ⟨rfl, h⟩
    have P2 := Lib.hid h
    clear h s1 P1
    have k1 := K1_1.out.keep P2.out.below
    have s2 := cell_h (k := 2) k1 rfl
    dsimp only at s2
    clear k1
    go_wp2_with fail
    refine (put_of V W4 V.heap.size _ c 6 P2.out (by omega) (by decide) (by simp [leN_len])).mono ?_
    rintro e W5 ⟨rfl, h⟩
    have P3 := Lib.hid h
    clear h s2 P2
    have k1 := K1_1.out.keep P3.out.below
    have s3 := cell_h (k := 3) k1 rfl
    dsimp only at s3
    clear k1
    go_wp2_with fail
    refine (put_of V W5 V.heap.size _ d 2 P3.out (by omega) (by decide) (by simp [leN_len])).mono ?_
    rintro e W6 ⟨rfl, h⟩
    rw [← HT.out] at h
    obtain ⟨hlo, ⟨v, hv, hO⟩, hbel⟩ := h
    rw [htl] at hO
    obtain ⟨g, cap, rfl⟩ := ownsRow_succ hO
    obtain ⟨g', hg', hgb, hcap, hcl⟩ := own_cell hO (by decide)
    obtain rfl : g = g' := by simpa using hg'
    have hby : Lib.Bytes W6 g 0 (bsOf Y) := bytes_of HTL.out fun j hj => by rw [Nat.zero_add]; exact hcl j _ (u8l_get hj)
    have hcv := Lib.run_convert_whole (P := Tryd.prog) W6 22 5 9 Tryd.underlying22 Tryd.underlying5 Tryd.underlying9 g 0 (bsOf Y) hby cap
    rw [bsOf_size, htl] at hcv
    have hdg : Hid (∀ W, Calls Tryd.prog 16 #[.int .u64 7, .string (bsOf Y)] W fun e w' => e = .returned (.int .u64 ((dgN Y : Nat) : Int)) ∧ w' = W) := fun W => by
      have q := digest_of W 7 (by decide) (bsOf Y) (by rw [bsOf_size, htl]; decide)
      rw [bsOf_list] at q
      exact q
    have P4 : Hid (Pts V W6 V.heap.size Y) := ⟨hlo, ⟨_, hv, by rw [htl]; exact hO⟩, hbel⟩
    have r0 := cell_h (k := 0) hv rfl
    have hdl := dgN_lt Y
    obtain ⟨z, hz⟩ : ∃ z, dgN Y = z := ⟨_, rfl⟩
    rw [hz] at hdg hdl HP
    clear hlo hv hO hbel hcl hby hg' P3 s3 hz
    go_wp2_with fail
    refine (hdg.out _).mono ?_
    rintro e w9 ⟨rfl, rfl⟩
    go_wp2_with fail
    refine (put_of V w9 V.heap.size _ z 8 P4.out (by omega) (by decide) (by omega)).mono ?_
    rintro e W7 ⟨rfl, h⟩
    rw [← HP.out] at h
    obtain ⟨hlo, ⟨v, hv, hO⟩, hbel⟩ := h
    rw [hpl] at hO
    obtain ⟨g2, cap2, rfl⟩ := ownsRow_succ hO
    obtain ⟨g', hg', hgb2, hcap2, hcl⟩ := own_cell hO (by decide)
    obtain rfl : g2 = g' := by simpa using hg'
    have hap : ∀ W, (Instr.arrayAt 28 (.slice (some ⟨g2, 0, none⟩) 24 cap2)).run Tryd.prog W = .ok (.pointer (some ⟨g2, 0, none⟩)) W := fun W => by simp [Instr.arrayAt, run_underlying Tryd.underlying28]
    have HR : Hid (W7.rangeAt g2 0 (u8l X)) := fun j v hj => by rw [Nat.zero_add]; exact hcl j v hj
    have k2 := K2_1.out.keep hbel
    have KK := Lib.hid k2
    have r1 := cell_h (k := 0) hv rfl
    have k3 := Ba.set (L := X) k2
    have hl2 := k3.load hpl
    have hB7 : Below w.heap.size w (W7.setRow b2 (u8a X)) := _root_.Go.below_setRow (HB_1.out.trans (hbel.mono HB_1.out.size)) (by omega) _
    have HB7 := Lib.hid hB7
    clear hlo hv hO hbel hcl hg' r0 hcv hdg P4 k2 k3 K1_1 K2_1 HB_1 hB7
    go_wp2_with (first | (refine wpList_load_mid rfl 28 _ rfl g2 0 rfl (u8l X) _ HR.out Tryd.underlying28 rfl (by rw [u8l_len, hpl]; exact x_24) ?_; change wpList _ _ _ _ (Act.put _ _ (.agg (u8a X))) _) | (refine Ba.wpStore KK.out z24_len hpl rfl _ _ rfl rfl rfl ?_))
    refine bodyPost_ret (v := .tuple #[.agg (u8a X), .int .i64 0]) ?_ rfl ⟨rfl, HB7.out⟩
    rw [results_cell_tmp rfl]
    simp [asAddr, Result.andThen, hl2]
  · have e0 : t.pk = (z24, 1) := if_neg hok
    rw [e0]
    rw [decide_eq_false hok] at HF
    obtain ⟨a, b, c, d⟩ := t
    show Calls Tryd.prog 5 #[.agg #[.int .i64 a, .int .i64 b, .int .i64 c, .int .i64 d]] w _
    clear e0 hok
    dsimp only at HF
    go_enter Tryd.func5, Tryd.ntmps5
    go_upto_region 1 with fail
    rw [← zero24]
    obtain ⟨W, hW⟩ : ∃ W, (w.alloc (.cells #[.int .i64 a, .int .i64 b, .int .i64 c, .int .i64 d] 26)).alloc (.cells (u8a z24) 28) = W := ⟨_, rfl⟩
    have k1 : Tb W w.heap.size 26 ⟨a, b, c, d⟩ := by rw [← hW]; exact al_old (new_heap w _) _
    have k2 : Ba W (w.heap.size + 1) z24 := by rw [← hW]; exact al_1 w _ _
    have hB : Below w.heap.size w W := by rw [← hW]; exact ((Below.refl _ _).alloc (Nat.le_refl _) _).alloc (by simp) _
    rw [hW]
    obtain ⟨b2, hb2⟩ : ∃ b2, w.heap.size + 1 = b2 := ⟨_, rfl⟩
    rw [hb2] at k2 ⊢
    have hb2l : w.heap.size < b2 := by omega
    have K1 := Lib.hid k1
    have K2 := Lib.hid k2
    have HB := Lib.hid hB
    clear hW k1 k2 hB hb2
    have s0 := cell_h (k := 0) K1.out rfl
    have s1 := cell_h (k := 1) K1.out rfl
    have s2 := cell_h (k := 2) K1.out rfl
    have s3 := cell_h (k := 3) K1.out rfl
    dsimp only at s0 s1 s2 s3
    go_wp2_with fail
    refine (HF.out _).mono ?_
    rintro e V ⟨rfl, hV⟩
    have K2_1 := Lib.hid (K2.out.keep hV)
    have HB_1 := Lib.hid (low_trans HB.out hV)
    clear hV HF s0 s1 s2 s3 K1 K2 HB
    go_wp2_with (refine Ba.wpStore (L := z24) K2_1.out z24_len z24_len rfl _ _ rfl rfl rfl ?_)
    refine bodyPost_ret (v := .tuple #[.agg (u8a z24), .int .i64 1]) ?_ rfl ⟨rfl, _root_.Go.below_setRow HB_1.out (by omega) _⟩
    rw [results_cell_tmp rfl]
    have hl2 := (Ba.set (L := z24) K2_1.out).load z24_len
    simp [asAddr, Result.andThen, hl2]
end Go.Proofs.YtmdniebedflpbaaDoor
-- VpF: WALKS: Unpack (the program).
namespace Go.Proofs.YtmdniebedflpbaaDoor
open Go.RowKit

theorem or_step {x b j : Nat} (hx : x < 256 ^ j) (hb : b < 256) (hj : j ≤ 7) : bits .or .u64 (x : Int) ((b * 256 ^ j : Nat) : Int) = ((x + 256 ^ j * b : Nat) : Int) := by
  have h7 : 256 ^ j ≤ 256 ^ 7 := Nat.pow_le_pow_right (by decide) hj
  have hm : b * 256 ^ j ≤ 255 * 256 ^ j := Nat.mul_le_mul_right _ (by omega)
  rw [bits_or_u64_nat _ _ (by omega) (by omega)]
  have e : (256 : Nat) ^ j = 2 ^ (8 * j) := by rw [Nat.pow_mul]
  have h := Nat.shiftLeft_add_eq_or_of_lt (show x < 2 ^ (8 * j) by rw [← e]; exact hx) b
  rw [Nat.shiftLeft_eq, ← e] at h
  rw [Nat.or_comm, ← h, Nat.mul_comm (256 ^ j) b, Nat.add_comm]
theorem shl_step {b j : Nat} (hb : b < 256) (hj : j ≤ 7) : IntKind.u64.wrap ((b : Int) * 2 ^ (8 * j)) = ((b * 256 ^ j : Nat) : Int) := by
  have h7 : 256 ^ j ≤ 256 ^ 7 := Nat.pow_le_pow_right (by decide) hj
  have hm : b * 256 ^ j ≤ 255 * 256 ^ j := Nat.mul_le_mul_right _ (by omega)
  have e : ((b : Int) * 2 ^ (8 * j)) = ((b * 256 ^ j : Nat) : Int) := by
    rw [show (256 : Nat) ^ j = 2 ^ (8 * j) by rw [Nat.pow_mul]]
    simp
  rw [e, IntKind.wrap_u64]
  omega
theorem take_lt {L : List Nat} (h : ∀ x ∈ L, x < 256) (p k : Nat) : valN ((L.drop p).take k) < 256 ^ k :=
  Nat.lt_of_lt_of_le (val_lt _ (fun x hx => h x (List.mem_of_mem_drop (List.mem_of_mem_take hx)))) (Nat.pow_le_pow_right (by decide) (by rw [List.length_take]; omega))

set_option maxRecDepth 100000 in
set_option maxHeartbeats 8000000 in
theorem take_of (W : World) (gb ga : Nat) (L : List Nat) (p k : Nat) (hb : Ba W gb L) (hL : L.length = 24) (hlt : ∀ x ∈ L, x < 256) (ha : W.heap[ga]? = some (.cells #[.int .i64 (p : Int)] 3 (0, 0))) (hpk : p + k ≤ 24) (hk : k ≤ 8) :
    Calls Tryd.prog 17 #[.int .i64 (k : Int), .pointer (some ⟨gb, 0, none⟩), .pointer (some ⟨ga, 0, none⟩)] W fun e W' => e = .returned (.int .u64 ((valN ((L.drop p).take k) : Nat) : Int)) ∧ W' = W.setCell ⟨ga, 0, none⟩ (.int .i64 ((p + k : Nat) : Int)) := by
  have HB := Lib.hid hb
  have HX := Lib.hid hlt
  have a0 := cell_h (k := 0) ha rfl
  have af := fz_h ha 0
  clear hb hlt ha
  go_enter Tryd.func17, Tryd.ntmps17
  go_wp2_with fail
  go_loopw [5, 6, 8] (fun vx vy vi wr => ∃ j : Nat, j ≤ k ∧ vx = .int .u64 ((valN ((L.drop p).take j) : Nat) : Int) ∧ vi = .int .i64 (j : Int) ∧ wr = W) (fun _ _ vi _ => k - (intOf vi).toNat)
  case atStart => exact ⟨0, by omega, rfl, rfl, rfl⟩
  case round =>
    obtain ⟨j, hj, rfl, rfl, rfl⟩ := hrel
    by_cases hlt : j < k
    · have hkn : (j : Int) < (k : Int) := by omega
      have c0 := HB.out.cell (j := p + j) (by omega)
      have hx : L.getD (p + j) 0 < 256 := by
        rw [List.getD_eq_getElem?_getD, List.getElem?_eq_getElem (by omega)]
        exact HX.out _ (List.getElem_mem _)
      have hs : (L.drop p).take (j + 1) = (L.drop p).take j ++ [L.getD (p + j) 0] := by
        rw [List.take_succ_eq_append_getElem (by rw [List.length_drop]; omega), List.getElem_drop, List.getD_eq_getElem?_getD, List.getElem?_eq_getElem (by omega)]
        rfl
      have hv : valN ((L.drop p).take (j + 1)) = valN ((L.drop p).take j) + 256 ^ j * L.getD (p + j) 0 := by
        rw [hs, valN_snoc, List.length_take, List.length_drop, Nat.min_eq_left (by omega)]
      have hvl := take_lt HX.out p j
      obtain ⟨b, hbb⟩ : ∃ b, L.getD (p + j) 0 = b := ⟨_, rfl⟩
      obtain ⟨y, hy⟩ : ∃ y, valN ((L.drop p).take j) = y := ⟨_, rfl⟩
      rw [hbb] at c0 hx hv
      rw [hy] at hv hvl ⊢
      have HV := Lib.hid hv
      have EO := Lib.hid (or_step hvl hx (show j ≤ 7 by omega))
      have EW : Hid (IntKind.u64.wrap ((b : Int) * 2 ^ (8 * j)) = ((b * 256 ^ j : Nat) : Int)) := Lib.hid (shl_step hx (by omega))
      have e1 : IntKind.u64.wrap (b : Int) = (b : Int) := by rw [IntKind.wrap_u64]; omega
      have hp24 : p ≤ 24 := by omega
      have hpj : (p : Int) + (j : Int) < 24 := by omega
      have hpj0 : 0 ≤ (p : Int) + (j : Int) := by omega
      clear hs hv hbb hy
      go_wp2_with fail
      rw [EW.out, EO.out]
      exact ⟨⟨j + 1, by omega, by rw [HV.out], by go_num, trivial⟩, by simp [intOf]; omega⟩
    · obtain rfl : j = k := by omega
      go_wp2_with fail
      go_ret
      exact ⟨rfl, rfl⟩
/-- The telegram in bytes; what Unpack returns. -/
def tgOf (L : List Nat) : Tg := ⟨((valN (L.take 2) : Nat) : Int), ((valN ((L.drop 2).take 6) : Nat) : Int), ((valN ((L.drop 8).take 6) : Nat) : Int), ((valN ((L.drop 14).take 2) : Nat) : Int)⟩
def tg0 : Tg := ⟨0, 0, 0, 0⟩
def upR (L : List Nat) : Tg × Int := if valN (L.drop 16) = dgN (L.take 16) then (if (tgOf L).ok then (tgOf L, 0) else (tg0, 2)) else (tg0, 102)
/-- What Unpack has: the bytes, the result, how far it has come, the telegram. -/
structure UpSt (w W : World) (g0 g1 g2 g3 : Nat) (L : List Nat) (p : Nat) (t : Tg) : Prop where
  hb : Ba W g0 L
  hr : Tb W g1 26 tg0
  ha : W.heap[g2]? = some (.cells #[.int .i64 (p : Int)] 3 (0, 0))
  ht : Tb W g3 26 t
  below : Below g0 w W
theorem UpSt.at {w W : World} {g0 g1 g2 g3 p : Nat} {L : List Nat} {t : Tg} (h : UpSt w W g0 g1 g2 g3 L p t) (h1 : g0 < g1) (h2 : g1 < g2) (h3 : g2 < g3) (q : Nat) : UpSt w (W.setCell ⟨g2, 0, none⟩ (.int .i64 (q : Int))) g0 g1 g2 g3 L q t :=
  ⟨(Below.heap_setCell _ _ _ _ (by simp; omega)).trans h.hb, (Below.heap_setCell _ _ _ _ (by simp; omega)).trans h.hr, heap_set h.ha _, (Below.heap_setCell _ _ _ _ (by simp; omega)).trans h.ht, h.below.setCell (by simp; omega) _⟩
theorem UpSt.f {w W : World} {g0 g1 g2 g3 p : Nat} {L : List Nat} {t u : Tg} (h : UpSt w W g0 g1 g2 g3 L p t) (h1 : g0 < g1) (h2 : g1 < g2) (h3 : g2 < g3) (k : Nat) (v : Value) (hu : Tb (W.setCell ⟨g3, k, none⟩ v) g3 26 u) : UpSt w (W.setCell ⟨g3, k, none⟩ v) g0 g1 g2 g3 L p u :=
  ⟨(Below.heap_setCell _ _ _ _ (by simp; omega)).trans h.hb, (Below.heap_setCell _ _ _ _ (by simp; omega)).trans h.hr, (Below.heap_setCell _ _ _ _ (by simp; omega)).trans h.ha, hu, h.below.setCell (by simp; omega) _⟩

set_option maxRecDepth 100000 in
set_option maxHeartbeats 16000000 in
theorem unpack_of (w : World) (L : List Nat) (hL : L.length = 24) (hlt : ∀ x ∈ L, x < 256) : Calls Tryd.prog 6 #[.agg (u8a L)] w fun e W => e = .returned (.tuple #[(upR L).1.val, .int .i64 (upR L).2]) ∧ Below w.heap.size w W := by
  have HF : Hid (∀ W, Calls Tryd.prog 14 #[(tgOf L).val] W fun e w' => e = .returned (.bool (decide (tgOf L).ok)) ∧ Below W.heap.size W w') := fun W => tfits_of W (tgOf L)
  have HX := Lib.hid hlt
  have HTK : Hid (∀ (w W : World) (g0 g1 g2 g3 p : Nat) (t : Tg) (k : Nat), UpSt w W g0 g1 g2 g3 L p t → p + k ≤ 24 → k ≤ 8 → Calls Tryd.prog 17 #[.int .i64 (k : Int), .pointer (some ⟨g0, 0, none⟩), .pointer (some ⟨g2, 0, none⟩)] W fun e W' => e = .returned (.int .u64 ((valN ((L.drop p).take k) : Nat) : Int)) ∧ W' = W.setCell ⟨g2, 0, none⟩ (.int .i64 ((p + k : Nat) : Int))) := fun w W g0 g1 g2 g3 p t k h h1 h2 => take_of W g0 g2 L p k h.hb hL hlt h.ha h1 h2
  have bx := take_lt hlt 0 2
  have by_ := take_lt hlt 2 6
  have bz := take_lt hlt 8 6
  have bt := take_lt hlt 14 2
  have hw : (∃ x y z t : Nat, x < 256 ^ 2 ∧ y < 256 ^ 6 ∧ z < 256 ^ 6 ∧ t < 256 ^ 2 ∧ valN ((L.drop 0).take 2) = x ∧ valN ((L.drop 2).take 6) = y ∧ valN ((L.drop 8).take 6) = z ∧ valN ((L.drop 14).take 2) = t ∧ tgOf L = ⟨(x : Int), (y : Int), (z : Int), (t : Int)⟩) := ⟨_, _, _, _, bx, by_, bz, bt, rfl, rfl, rfl, rfl, rfl⟩
  obtain ⟨x, y, z, t, hx, hy, hz, ht, ex, ey, ez, et, hT⟩ := hw
  have EX := Lib.hid ex
  have EY := Lib.hid ey
  have EZ := Lib.hid ez
  have ET := Lib.hid et
  have hsv : valN ((L.drop 16).take 8) = valN (L.drop 16) := by rw [List.take_of_length_le (by rw [List.length_drop]; omega)]
  have HSV := Lib.hid hsv
  have hR : upR L = if valN (L.drop 16) = dgN (L.take 16) then (if (tgOf L).ok then (tgOf L, 0) else (tg0, 2)) else (tg0, 102) := rfl
  have HRR := Lib.hid hR
  have hby : ∀ W g, Ba W g L → Lib.Bytes W g 0 (bsOf (L.take 16)) := fun W g h => bytes_of (fun x hx => hlt x (List.mem_of_mem_take hx)) fun j hj => by
    rw [List.length_take] at hj
    rw [Nat.zero_add, h.cell (by omega)]
    congr 3
    simp only [List.getD_eq_getElem?_getD]
    rw [List.getElem?_take_of_lt (by omega)]
  have h16 : (L.take 16).length = 16 := by rw [List.length_take]; omega
  have hcv : ∀ W g, Ba W g L → (convert 22 9 (.slice (some ⟨g, 0, none⟩) 16 24)).run Tryd.prog W = .ok (.string (bsOf (L.take 16))) W := fun W g h => by
    have q := Lib.run_convert_whole (P := Tryd.prog) W 22 5 9 Tryd.underlying22 Tryd.underlying5 Tryd.underlying9 g 0 (bsOf (L.take 16)) (hby W g h) 24
    rw [bsOf_size, h16] at q
    exact q
  have HCV := Lib.hid hcv
  have hdg : Hid (∀ W, Calls Tryd.prog 16 #[.int .u64 7, .string (bsOf (L.take 16))] W fun e w' => e = .returned (.int .u64 ((dgN (L.take 16) : Nat) : Int)) ∧ w' = W) := fun W => by
    have q := digest_of W 7 (by decide) (bsOf (L.take 16)) (by rw [bsOf_size, h16]; decide)
    rw [bsOf_list] at q
    exact q
  clear bx by_ bz bt ex ey ez et hsv hR hby hcv h16 hlt
  go_enter Tryd.func6, Tryd.ntmps6
  go_upto_region 4 with fail
  obtain ⟨W, hW⟩ : ∃ W, (((w.alloc (.cells (u8a L) 28)).alloc (.cells #[.int .i64 0, .int .i64 0, .int .i64 0, .int .i64 0] 26)).alloc (.cells #[.int .i64 0] 3)).alloc (.cells #[.int .i64 0, .int .i64 0, .int .i64 0, .int .i64 0] 26) = W := ⟨_, rfl⟩
  have U : UpSt w W w.heap.size (w.heap.size + 1) (w.heap.size + 1 + 1) (w.heap.size + 1 + 1 + 1) L 0 tg0 := by
    rw [← hW]
    exact ⟨al_old (al_old (al_old (new_heap w _) _) _) _, al_old (al_old (al_1 w _ _) _) _, al_old (al_2 w _ _ _) _, al_3 w _ _ _ _, ((((Below.refl _ _).alloc (Nat.le_refl _) _).alloc (by simp) _).alloc (by simp; omega) _).alloc (by simp; omega) _⟩
  rw [hW]
  clear hW
  obtain ⟨g3, hg3⟩ : ∃ g3, w.heap.size + 1 + 1 + 1 = g3 := ⟨_, rfl⟩
  obtain ⟨g2, hg2⟩ : ∃ g2, w.heap.size + 1 + 1 = g2 := ⟨_, rfl⟩
  obtain ⟨g1, hg1⟩ : ∃ g1, w.heap.size + 1 = g1 := ⟨_, rfl⟩
  rw [hg3] at U ⊢
  rw [hg2] at U ⊢
  rw [hg1] at U ⊢
  have h1 : w.heap.size < g1 := by omega
  have h2 : g1 < g2 := by omega
  have h3 : g2 < g3 := by omega
  clear hg1 hg2 hg3
  have U0 := Lib.hid U
  clear U
  go_wp2_with fail
  refine (HTK.out w _ _ g1 g2 g3 0 tg0 2 U0.out (by decide) (by decide)).mono ?_
  rintro e V0 ⟨rfl, hV⟩
  rw [EX.out]
  have A0 : Hid (UpSt w V0 w.heap.size g1 g2 g3 L 2 tg0) := by rw [hV]; exact U0.out.at h1 h2 h3 2
  have q0 : IntKind.i64.wrap (x : Int) = (x : Int) := IntWalk.i64_in _ (by omega)
  have t0 := cell_h (k := 0) A0.out.ht rfl
  have tf := fz_h A0.out.ht 0
  clear hV U0
  go_upto_region 5 with fail
  have U1 : Hid (UpSt w (V0.setCell ⟨g3, 0, none⟩ (.int .i64 (x : Int))) w.heap.size g1 g2 g3 L 2 ⟨x, 0, 0, 0⟩) := A0.out.f h1 h2 h3 0 _ (by have q := heap_set (k := 0) A0.out.ht (.int .i64 (x : Int)); exact q)
  generalize V0.setCell ⟨g3, 0, none⟩ (.int .i64 (x : Int)) = Y0 at U1 ⊢
  clear A0 q0 t0 tf
  go_wp2_with fail
  refine (HTK.out w _ _ g1 g2 g3 2 ⟨x, 0, 0, 0⟩ 6 U1.out (by decide) (by decide)).mono ?_
  rintro e V1 ⟨rfl, hV⟩
  rw [EY.out]
  have A1 : Hid (UpSt w V1 w.heap.size g1 g2 g3 L 8 ⟨x, 0, 0, 0⟩) := by rw [hV]; exact U1.out.at h1 h2 h3 8
  have q0 : IntKind.i64.wrap (y : Int) = (y : Int) := IntWalk.i64_in _ (by omega)
  have t0 := cell_h (k := 1) A1.out.ht rfl
  have tf := fz_h A1.out.ht 1
  clear hV U1
  go_upto_region 6 with fail
  have U2 : Hid (UpSt w (V1.setCell ⟨g3, 1, none⟩ (.int .i64 (y : Int))) w.heap.size g1 g2 g3 L 8 ⟨x, y, 0, 0⟩) := A1.out.f h1 h2 h3 1 _ (by have q := heap_set (k := 1) A1.out.ht (.int .i64 (y : Int)); exact q)
  generalize V1.setCell ⟨g3, 1, none⟩ (.int .i64 (y : Int)) = Y1 at U2 ⊢
  clear A1 q0 t0 tf
  go_wp2_with fail
  refine (HTK.out w _ _ g1 g2 g3 8 ⟨x, y, 0, 0⟩ 6 U2.out (by decide) (by decide)).mono ?_
  rintro e V2 ⟨rfl, hV⟩
  rw [EZ.out]
  have A2 : Hid (UpSt w V2 w.heap.size g1 g2 g3 L 14 ⟨x, y, 0, 0⟩) := by rw [hV]; exact U2.out.at h1 h2 h3 14
  have q0 : IntKind.i64.wrap (z : Int) = (z : Int) := IntWalk.i64_in _ (by omega)
  have t0 := cell_h (k := 2) A2.out.ht rfl
  have tf := fz_h A2.out.ht 2
  clear hV U2
  go_upto_region 7 with fail
  have U3 : Hid (UpSt w (V2.setCell ⟨g3, 2, none⟩ (.int .i64 (z : Int))) w.heap.size g1 g2 g3 L 14 ⟨x, y, z, 0⟩) := A2.out.f h1 h2 h3 2 _ (by have q := heap_set (k := 2) A2.out.ht (.int .i64 (z : Int)); exact q)
  generalize V2.setCell ⟨g3, 2, none⟩ (.int .i64 (z : Int)) = Y2 at U3 ⊢
  clear A2 q0 t0 tf
  go_wp2_with fail
  refine (HTK.out w _ _ g1 g2 g3 14 ⟨x, y, z, 0⟩ 2 U3.out (by decide) (by decide)).mono ?_
  rintro e V3 ⟨rfl, hV⟩
  rw [ET.out]
  have A3 : Hid (UpSt w V3 w.heap.size g1 g2 g3 L 16 ⟨x, y, z, 0⟩) := by rw [hV]; exact U3.out.at h1 h2 h3 16
  have q0 : IntKind.i64.wrap (t : Int) = (t : Int) := IntWalk.i64_in _ (by omega)
  have t0 := cell_h (k := 3) A3.out.ht rfl
  have tf := fz_h A3.out.ht 3
  clear hV U3
  go_upto_region 8 with fail
  have U4 : Hid (UpSt w (V3.setCell ⟨g3, 3, none⟩ (.int .i64 (t : Int))) w.heap.size g1 g2 g3 L 16 ⟨x, y, z, t⟩) := A3.out.f h1 h2 h3 3 _ (by have q := heap_set (k := 3) A3.out.ht (.int .i64 (t : Int)); exact q)
  generalize V3.setCell ⟨g3, 3, none⟩ (.int .i64 (t : Int)) = Y3 at U4 ⊢
  clear A3 q0 t0 tf
  obtain ⟨sv, hsv⟩ : ∃ sv, valN (L.drop 16) = sv := ⟨_, rfl⟩
  obtain ⟨dv, hdv⟩ : ∃ dv, dgN (L.take 16) = dv := ⟨_, rfl⟩
  rw [hsv] at HSV HRR
  rw [hdv] at hdg HRR
  obtain ⟨r, hr⟩ : ∃ r, upR L = r := ⟨_, rfl⟩
  rw [hr] at HRR
  have HT2 : Hid (tgOf L = ⟨(x : Int), (y : Int), (z : Int), (t : Int)⟩) := Lib.hid hT
  have hb4 : Ba Y3.drew w.heap.size L := U4.out.hb
  have U5 : Hid (UpSt w Y3.drew w.heap.size g1 g2 g3 L 16 ⟨x, y, z, t⟩) := ⟨U4.out.hb, U4.out.hr, U4.out.ha, U4.out.ht, U4.out.below.drew⟩
  have hb5 : Ba (Y3.setCell ⟨g2, 0, none⟩ (.int .i64 24)).drew w.heap.size L := (U4.out.at h1 h2 h3 24).hb
  have HT4 : Hid (Calls Tryd.prog 17 #[.int .i64 8, .pointer (some ⟨w.heap.size, 0, none⟩), .pointer (some ⟨g2, 0, none⟩)] Y3.drew fun e W' => e = .returned (.int .u64 (sv : Int)) ∧ W' = (Y3.setCell ⟨g2, 0, none⟩ (.int .i64 24)).drew) := by
    have q := HTK.out w Y3.drew w.heap.size g1 g2 g3 16 _ 8 U5.out (by decide) (by decide)
    rw [HSV.out] at q
    exact q
  have U6 : Hid (UpSt w (Y3.setCell ⟨g2, 0, none⟩ (.int .i64 24)).drew w.heap.size g1 g2 g3 L 24 ⟨x, y, z, t⟩) := by
    have q := U4.out.at h1 h2 h3 24
    exact ⟨q.hb, q.hr, q.ha, q.ht, q.below.drew⟩
  have hcv := HCV.out
  clear U4 U5 HTK HSV HCV EX EY EZ ET
  go_region_held3 (fun W' => Ba W' w.heap.size L) (first | (with_reducible assumption) | go_keep) (first | (go_at_call 17; refine HT4.out.mono ?_; rintro e V4 ⟨rfl, rfl⟩) | (go_at_call 16; refine (hdg.out _).mono ?_; rintro e w9 ⟨rfl, rfl⟩))
  have HF2 : Hid (∀ W, Calls Tryd.prog 14 #[.agg #[.int .i64 (x : Int), .int .i64 (y : Int), .int .i64 (z : Int), .int .i64 (t : Int)]] W fun e w' => e = .returned (.bool (decide (tgOf L).ok)) ∧ Below W.heap.size W w') := fun W => by
    have q := HF.out W
    rw [show (tgOf L).val = .agg #[.int .i64 (x : Int), .int .i64 (y : Int), .int .i64 (z : Int), .int .i64 (t : Int)] by rw [hT]; rfl] at q
    exact q
  generalize (Y3.setCell ⟨g2, 0, none⟩ (.int .i64 24)).drew = Z at U6 ⊢
  clear hb4 hb5 HT4 hcv hdg HF HT2 hsv hdv hx hy hz ht HX
  have r0 : Z.cell? ⟨g1, 0, none⟩ = some (.int .i64 0) := cell_h (k := 0) U6.out.hr rfl
  have r1 : Z.cell? ⟨g1, 1, none⟩ = some (.int .i64 0) := cell_h (k := 1) U6.out.hr rfl
  have r2 : Z.cell? ⟨g1, 2, none⟩ = some (.int .i64 0) := cell_h (k := 2) U6.out.hr rfl
  have r3 : Z.cell? ⟨g1, 3, none⟩ = some (.int .i64 0) := cell_h (k := 3) U6.out.hr rfl
  have rf := fz_h U6.out.hr
  have t0 := cell_h (k := 0) U6.out.ht rfl
  have t1 := cell_h (k := 1) U6.out.ht rfl
  have t2 := cell_h (k := 2) U6.out.ht rfl
  have t3 := cell_h (k := 3) U6.out.ht rfl
  dsimp only at t0 t1 t2 t3
  by_cases hsd : sv = dv
  · have hne : ((sv : Int) != (dv : Int)) = false := by rw [hsd]; simp
    have hr2 := hr.trans HRR.out
    rw [if_pos hsd] at hr2
    clear HRR hsd r0 r1 r2 r3 rf
    go_wp2_with fail
    refine (HF2.out _).mono ?_
    rintro e Z2 ⟨rfl, hB⟩
    have kr := U6.out.hr.keep hB
    have kt := U6.out.ht.keep hB
    have HB : Hid (Below w.heap.size w Z2) := Lib.hid (U6.out.below.trans (hB.mono U6.out.below.size))
    clear hB t0 t1 t2 t3 U6 HF2
    have r0 : Z2.cell? ⟨g1, 0, none⟩ = some (.int .i64 0) := cell_h (k := 0) kr rfl
    have r1 : Z2.cell? ⟨g1, 1, none⟩ = some (.int .i64 0) := cell_h (k := 1) kr rfl
    have r2 : Z2.cell? ⟨g1, 2, none⟩ = some (.int .i64 0) := cell_h (k := 2) kr rfl
    have r3 : Z2.cell? ⟨g1, 3, none⟩ = some (.int .i64 0) := cell_h (k := 3) kr rfl
    have rf := fz_h kr
    have t0 := cell_h (k := 0) kt rfl
    have t1 := cell_h (k := 1) kt rfl
    have t2 := cell_h (k := 2) kt rfl
    have t3 := cell_h (k := 3) kt rfl
    dsimp only at t0 t1 t2 t3
    clear kr kt
    by_cases hok : (tgOf L).ok
    · rw [if_pos hok, hT] at hr2
      have hd : decide (tgOf L).ok = true := decide_eq_true hok
      clear hok hT
      rw [hd]
      go_wp2_with fail
      refine bodyPost_ret (v := .tuple #[.agg #[.int .i64 (x : Int), .int .i64 (y : Int), .int .i64 (z : Int), .int .i64 (t : Int)], .int .i64 0]) (by simp [results, Tryd.f6, go_sem, r0, r1, r2, r3]) rfl ⟨by rw [hr2]; rfl, ?_⟩
      iterate 4 refine Below.setCell ?_ (by simp; omega) _
      exact HB.out
    · rw [if_neg hok] at hr2
      have hd : decide (tgOf L).ok = false := decide_eq_false hok
      clear hok hT
      rw [hd]
      go_wp2_with fail
      refine bodyPost_ret (v := .tuple #[.agg #[.int .i64 0, .int .i64 0, .int .i64 0, .int .i64 0], .int .i64 2]) (by simp [results, Tryd.f6, go_sem, r0, r1, r2, r3]) rfl ⟨by rw [hr2]; rfl, ?_⟩
      iterate 4 refine Below.setCell ?_ (by simp; omega) _
      exact HB.out
  · have hne : ((sv : Int) != (dv : Int)) = true := by simp; omega
    have hr2 := hr.trans HRR.out
    rw [if_neg hsd] at hr2
    have HB : Hid (Below w.heap.size w Z) := Lib.hid U6.out.below
    clear HRR hsd t0 t1 t2 t3 U6 HF2 hT
    go_wp2_with fail
    refine bodyPost_ret (v := .tuple #[.agg #[.int .i64 0, .int .i64 0, .int .i64 0, .int .i64 0], .int .i64 102]) (by simp [results, Tryd.f6, go_sem, r0, r1, r2, r3]) rfl ⟨by rw [hr2]; rfl, ?_⟩
    iterate 4 refine Below.setCell ?_ (by simp; omega) _
    exact HB.out
end Go.Proofs.YtmdniebedflpbaaDoor
-- VpM: MATHEMATICS: telegrams there and back.
namespace Go.Proofs.YtmdniebedflpbaaDoor
open Go.RowKit

theorem Tg.tp_take (t : Tg) : t.tp.take 16 = t.tb := List.take_left' t.tb_len
theorem Tg.tp_drop (t : Tg) : t.tp.drop 16 = leN (dgN t.tb) 8 := List.drop_left' t.tb_len
theorem valN_le {x k : Nat} (h : x < 256 ^ k) : valN (leN x k) = x := by rw [val_leN, Nat.mod_eq_of_lt h]
theorem Tg.back (t : Tg) (h : t.ok) : tgOf t.tp = t := by
  obtain ⟨a, b, c, d⟩ := t
  obtain ⟨⟨ha0, ha⟩, ⟨hb0, hb⟩, ⟨hc0, hc⟩, hd0, hd⟩ := h
  dsimp only at ha0 ha hb0 hb hc0 hc hd0 hd
  obtain ⟨a, rfl⟩ := Int.eq_ofNat_of_zero_le ha0
  obtain ⟨b, rfl⟩ := Int.eq_ofNat_of_zero_le hb0
  obtain ⟨c, rfl⟩ := Int.eq_ofNat_of_zero_le hc0
  obtain ⟨d, rfl⟩ := Int.eq_ofNat_of_zero_le hd0
  have e : (Tg.mk a b c d).tp = leN a 2 ++ (leN b 6 ++ (leN c 6 ++ (leN d 2 ++ leN (dgN (Tg.mk a b c d).tb) 8))) := by
    show leN a 2 ++ leN b 6 ++ leN c 6 ++ leN d 2 ++ _ = _
    simp only [List.append_assoc]
  have d2 : (Tg.mk a b c d).tp.drop 2 = leN b 6 ++ (leN c 6 ++ (leN d 2 ++ leN (dgN (Tg.mk a b c d).tb) 8)) := by rw [e]; exact List.drop_left' (leN_len _ _)
  have d8 : (Tg.mk a b c d).tp.drop 8 = leN c 6 ++ (leN d 2 ++ leN (dgN (Tg.mk a b c d).tb) 8) := by
    rw [show (8 : Nat) = 2 + 6 from rfl, ← List.drop_drop, d2]; exact List.drop_left' (leN_len _ _)
  have d14 : (Tg.mk a b c d).tp.drop 14 = leN d 2 ++ leN (dgN (Tg.mk a b c d).tb) 8 := by
    rw [show (14 : Nat) = 8 + 6 from rfl, ← List.drop_drop, d8]; exact List.drop_left' (leN_len _ _)
  unfold tgOf
  rw [d2, d8, d14, e, List.take_left' (leN_len _ _), List.take_left' (leN_len _ _), List.take_left' (leN_len _ _), List.take_left' (leN_len _ _), valN_le (by omega), valN_le (by omega), valN_le (by omega), valN_le (by omega)]
theorem Tg.up (t : Tg) (h : t.ok) : upR t.tp = (t, 0) := by
  unfold upR
  rw [t.tp_take, t.tp_drop, valN_le (dgN_lt _), if_pos rfl, t.back h, if_pos h]
theorem Tb.al {W : World} {g : Nat} {T : TypeId} {t : Tg} (h : Tb W g T t) (o : Obj) : Tb (W.alloc o) g T t := al_old h o
theorem Ba.al {W : World} {g : Nat} {L : List Nat} (h : Ba W g L) (o : Obj) : Ba (W.alloc o) g L := al_old h o
theorem Tb.alr {W : World} {g : Nat} {T : TypeId} {t : Tg} (h : Tb W g T t) (o : Obj) (cs : Array Value) : Tb ((W.alloc o).setRow W.heap.size cs) g T t := (setRow_other _ _ _ _ (by have := h.lt; omega)).trans (al_old h o)
theorem Ba.alr {W : World} {g : Nat} {L : List Nat} (h : Ba W g L) (o : Obj) (cs : Array Value) : Ba ((W.alloc o).setRow W.heap.size cs) g L := (setRow_other _ _ _ _ (by have := h.lt; omega)).trans (al_old h o)
theorem Ba.newr (W : World) (L M : List Nat) : Ba ((W.alloc (.cells (u8a M) 28)).setRow W.heap.size (u8a L)) W.heap.size L := setRow_heap _ _ _ _ _ _ (new_heap W _)
theorem low_alr {w W : World} (h : Below w.heap.size w W) (o : Obj) (cs : Array Value) : Below w.heap.size w ((W.alloc o).setRow W.heap.size cs) := _root_.Go.below_setRow (h.alloc h.size _) h.size _

end Go.Proofs.YtmdniebedflpbaaDoor
