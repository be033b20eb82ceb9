/-
  WALKS: the hexadecimal digits of a number of 64 bits (strconv.FormatUint at base 16).
-/
import Derived.Test.YtmdniebedflpbaaGreatDoorVtE
import Derived.Test.YtmdniebedflpbaaGreatDoorShelf
import Derived.BigQuiet
namespace Go.Proofs.YtmdniebedflpbaaGreatDoor
open Go.RowKit

/-- What the text of chapter 10 looks at: the length that bytealg has, the table of math/bits, the words of roles. -/
structure Gl (w : World) : Prop where
  mx : ∃ m, w.cell? ⟨1, 0, none⟩ = some (.int .i64 m)
  tz : w.cell? ⟨8, 15, none⟩ = some (.int .u8 4)
  r0 : w.cell? ⟨0, 0, none⟩ = some (.string ⟨#[114, 117, 110]⟩)
  r1 : w.cell? ⟨0, 1, none⟩ = some (.string ⟨#[114, 101, 97, 100]⟩)
  r2 : w.cell? ⟨0, 2, none⟩ = some (.string ⟨#[100, 105, 103]⟩)
  r3 : w.cell? ⟨0, 3, none⟩ = some (.string ⟨#[115, 105, 103, 110]⟩)
theorem Gl.keep {w w' : World} (h : Gl w) (hb : Below w.heap.size w w') : Gl w' := by
  have k : ∀ (b o : Nat) (v : Value), w.cell? ⟨b, o, none⟩ = some v → w'.cell? ⟨b, o, none⟩ = some v := fun b o v hc => (hb.cell (p := ⟨b, o, none⟩) (World.block_lt_of_cell? w _ hc)).trans hc
  obtain ⟨m, hm⟩ := h.mx
  exact ⟨⟨m, k _ _ _ hm⟩, k _ _ _ h.tz, k _ _ _ h.r0, k _ _ _ h.r1, k _ _ _ h.r2, k _ _ _ h.r3⟩

set_option maxRecDepth 100000 in
set_option maxHeartbeats 4000000 in
theorem tz_16 (w : World) (h : Gl w) : Calls Tryz.prog 195 #[.int .u64 16] w fun e w' => e = .returned (.int .i64 4) ∧ w' = w := by
  have h1 : Calls Tryz.prog 201 #[.int .u64 16] w fun e w' => e = .returned (.int .i64 4) ∧ w' = w := by
    have ht := h.tz
    have e1 : bits .and .u64 16 (IntKind.u64.wrap (-16)) = 16 := by decide
    have e2 : IntKind.u64.wrap (16 * 285870213051353865) = 4573923408821661840 := by decide
    clear h
    go_enter Tryz.func201, Tryz.ntmps201
    go_wp2_with fail
    go_ret
    exact ⟨rfl, rfl⟩
  go_enter Tryz.func195, Tryz.ntmps195
  go_wp2_with fail
  refine h1.mono ?_
  rintro e w9 ⟨rfl, rfl⟩
  go_wp2_with fail
  go_ret
  exact ⟨rfl, rfl⟩
theorem pow2_16 (w : World) : Calls Tryz.prog 194 #[.int .i64 16] w fun e w' => e = .returned (.bool true) ∧ w' = w := by
  have hb : bits .and .i64 16 15 = 0 := by decide
  go_enter Tryz.func194, Tryz.ntmps194
  go_wp2_with fail
  go_ret
  exact ⟨rfl, rfl⟩

/-- A digit. -/
def hexc (d : Nat) : UInt8 := #[48, 49, 50, 51, 52, 53, 54, 55, 56, 57, 97, 98, 99, 100, 101, 102].getD d 48
def hexAt (x t : Nat) : UInt8 := hexc (x / 16 ^ t % 16)
/-- The digits k to 0. -/
def hexL (x : Nat) : Nat → List UInt8
  | 0 => [hexAt x 0]
  | k + 1 => hexAt x (k + 1) :: hexL x k
theorem hexL_len (x : Nat) : ∀ k, (hexL x k).length = k + 1
  | 0 => rfl
  | k + 1 => by simp [hexL, hexL_len x k]
theorem hexL_get (x : Nat) : ∀ (k j : Nat) (h : j < (hexL x k).length), (hexL x k)[j] = hexAt x (k - j)
  | 0, j, h => by
    obtain rfl : j = 0 := by simp [hexL] at h; omega
    rfl
  | k + 1, 0, h => rfl
  | k + 1, j + 1, h => by
    have := hexL_get x k j (by simpa [hexL] using h)
    simp only [hexL, List.getElem_cons_succ, this]
    congr 1
    omega
theorem hexL_pad {x k : Nat} (hx : x < 16 ^ (k + 1)) : ∀ n, hexL x (k + n) = List.replicate n 48 ++ hexL x k
  | 0 => rfl
  | n + 1 => by
    have h1 : x / 16 ^ (k + n + 1) = 0 := Nat.div_eq_of_lt (Nat.lt_of_lt_of_le hx (Nat.pow_le_pow_right (by decide) (by omega)))
    rw [← Nat.add_assoc, hexL, hexL_pad hx n, List.replicate_succ, List.cons_append]
    unfold hexAt
    rw [h1]
    rfl
def dgs : ByteArray := ⟨#[48, 49, 50, 51, 52, 53, 54, 55, 56, 57, 97, 98, 99, 100, 101, 102, 103, 104, 105, 106, 107, 108, 109, 110, 111, 112, 113, 114, 115, 116, 117, 118, 119, 120, 121, 122]⟩
theorem and_15 (x : Nat) (hx : x < 18446744073709551616) : bits .and .u64 (x : Int) 15 = ((x % 16 : Nat) : Int) := by
  have h1 : (BitVec.ofInt 64 (x : Int)).toNat = x := by
    rw [BitVec.ofInt_natCast, BitVec.toNat_ofNat]; exact Nat.mod_eq_of_lt (by omega)
  show IntKind.u64.wrap ((BitVec.ofInt 64 (x : Int) &&& BitVec.ofInt 64 15).toNat : Int) = _
  rw [BitVec.toNat_and, h1, show (BitVec.ofInt 64 15).toNat = 15 from rfl, Nat.and_two_pow_sub_one_eq_mod x 4, IntKind.wrap_u64]
  omega
end Go.Proofs.YtmdniebedflpbaaGreatDoor
