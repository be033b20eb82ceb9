/-
  WALKS: hexOf; the next line of a ledger.
-/
import Derived.Test.YtmdniebedflpbaaGreatDoorVuB
import Derived.Laws.Concat
namespace Go.Proofs.YtmdniebedflpbaaGreatDoor
open Go.RowKit

set_option maxRecDepth 100000 in
set_option maxHeartbeats 4000000 in
theorem format16_of (w : World) (x : Nat) (hx : x < 18446744073709551616) (hG : Gl w) :
    Calls Tryz.prog 129 #[.int .u64 (x : Int), .int .i64 16] w fun e w' => ∃ k, k ≤ 15 ∧ x < 16 ^ (k + 1) ∧ e = .returned (.string ⟨(hexL x k).toArray⟩) ∧ Below w.heap.size w w' := by
  have h1 : Calls Tryz.prog 153 #[.int .u64 (x : Int), .int .i64 16] w fun e w' => ∃ k, k ≤ 15 ∧ x < 16 ^ (k + 1) ∧ e = .returned (.string ⟨(hexL x k).toArray⟩) ∧ Below w.heap.size w w' := by
    have HF := Lib.hid (formatBits_of w x hx hG)
    clear hG
    go_enter Tryz.func153, Tryz.ntmps153
    go_wp2_with fail
    refine HF.out.mono ?_
    rintro e w2 ⟨k, hk, hxk, rfl, hB⟩
    have HB := Lib.hid hB
    have HK := Lib.hid hxk
    clear hB hxk HF
    obtain ⟨s, hs⟩ : ∃ s : ByteArray, ⟨(hexL x k).toArray⟩ = s := ⟨_, rfl⟩
    rw [hs]
    go_wp2_with fail
    go_ret
    exact ⟨k, hk, HK.out, by rw [hs]; rfl, HB.out⟩
  have H1 := Lib.hid h1
  clear h1 hG
  go_enter Tryz.func129, Tryz.ntmps129
  go_wp2_with fail
  refine H1.out.mono ?_
  rintro e w2 ⟨k, hk, hxk, rfl, hB⟩
  have HB := Lib.hid hB
  have HK := Lib.hid hxk
  clear hB hxk H1
  obtain ⟨s, hs⟩ : ∃ s : ByteArray, ⟨(hexL x k).toArray⟩ = s := ⟨_, rfl⟩
  rw [hs]
  go_wp2_with fail
  go_ret
  exact ⟨k, hk, HK.out, by rw [hs]; rfl, HB.out⟩

theorem rep48 : ∀ n, Lib.repeatL [48] n = List.replicate n 48
  | 0 => rfl
  | n + 1 => by simp [Lib.repeatL, rep48 n, List.replicate_succ]
/-- The sixteen digits. -/
def hex16 (x : Nat) : ByteArray := ⟨(hexL x 15).toArray⟩
theorem hex16_size (x : Nat) : (hex16 x).size = 16 := by
  show (hexL x 15).toArray.size = 16
  simp [hexL_len]
set_option maxRecDepth 100000 in
set_option maxHeartbeats 4000000 in
theorem hexOf_of (w : World) (x : Nat) (hx : x < 18446744073709551616) (hG : Gl w) :
    Calls Tryz.prog 98 #[.int .u64 (x : Int)] w fun e w' => e = .returned (.string (hex16 x)) ∧ Below w.heap.size w w' := by
  have HF := Lib.hid (format16_of w x hx hG)
  clear hG
  go_enter Tryz.func98, Tryz.ntmps98
  go_wp2_with fail
  refine HF.out.mono ?_
  rintro e w2 ⟨k, hk, hxk, rfl, hB⟩
  have HB := Lib.hid hB
  have hs1 : (⟨(hexL x k).toArray⟩ : ByteArray).size = k + 1 := by
    show (hexL x k).toArray.size = _
    simp [hexL_len]
  have hfull : (⟨(Lib.repeatL [48] (15 - k)).toArray⟩ : ByteArray) ++ ⟨(hexL x k).toArray⟩ = hex16 x := by
    have := hexL_pad hxk (15 - k)
    rw [show k + (15 - k) = 15 by omega] at this
    rw [rep48]
    apply ByteArray.ext
    unfold hex16
    rw [this]
    simp
  have HR : Hid (∀ W, Calls Tryz.prog 130 #[.string ⟨#[48]⟩, .int .i64 ((15 - k : Nat) : Int)] W fun e w' => e = .returned (.string ⟨(Lib.repeatL [48] (15 - k)).toArray⟩) ∧ Below W.heap.size W w') := fun W => Tryz.strings_Repeat ⟨#[48]⟩ (15 - k) W (by omega) (by show 1 * _ ≤ _; omega)
  obtain ⟨s, hs⟩ : ∃ s : ByteArray, ⟨(hexL x k).toArray⟩ = s := ⟨_, rfl⟩
  obtain ⟨r, hr⟩ : ∃ r : ByteArray, ⟨(Lib.repeatL [48] (15 - k)).toArray⟩ = r := ⟨_, rfl⟩
  rw [hs] at hs1 hfull ⊢
  rw [hr] at HR hfull
  have hr1 : r.size ≤ 15 := by
    rw [← hr]
    show (Lib.repeatL [48] (15 - k)).toArray.size ≤ 15
    simp [rep48]
  have hA : ∀ W', (Op.stringOp .add r s).run Tryz.prog W' = .ok (.string (hex16 x)) W' := fun W' => by rw [run_string_add_sum W' _ _ (by omega), hfull]
  have hn : IntKind.i64.wrap (16 - (s.size : Int)) = ((15 - k : Nat) : Int) := by rw [hs1]; exact (IntWalk.i64_in _ (by omega)).trans (by omega)
  clear hs hr hB hs1 hfull hr1 hxk
  go_wp2_with fail
  refine (HR.out _).mono ?_
  rintro e w3 ⟨rfl, hB3⟩
  have HB3 := Lib.hid (low_trans HB.out hB3)
  clear hB3 HR HB
  go_wp2_with fail
  go_ret
  exact ⟨rfl, HB3.out⟩
end Go.Proofs.YtmdniebedflpbaaGreatDoor
