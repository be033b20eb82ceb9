/-
  WALKS: the next line of a ledger; need.
-/
import Derived.Test.YtmdniebedflpbaaGreatDoorVuC
namespace Go.Proofs.YtmdniebedflpbaaGreatDoor
open Go.RowKit

def numB (n : Nat) : ByteArray := ⟨(Lib.decDigits n).toArray⟩
def sp : ByteArray := ⟨#[32]⟩
def textB (n : Nat) (s : ByteArray) : ByteArray := numB n ++ sp ++ s
def sumB (n sum : Nat) (s : ByteArray) : Nat := dig sum (textB n s).data.toList
def lineB (n sum : Nat) (s : ByteArray) : ByteArray := textB n s ++ sp ++ hex16 (sumB n sum s)
theorem need_yes (w : World) (e0 : Int) : Calls Tryz.prog 79 #[.bool true, .int .i64 e0] w fun e w' => e = .returned (.tuple #[]) ∧ w' = w := by
  go_enter Tryz.func79, Tryz.ntmps79
  go_wp2_with fail
  first | go_end0 | refine bodyPost_ret (results_none rfl _ _ _) rfl ?_
  exact ⟨rfl, rfl⟩
theorem numB_size (n : Nat) (h : n < 100) : (numB n).size ≤ 2 := by
  have : ∀ n : Fin 100, (numB n.val).size ≤ 2 := by decide +kernel
  exact this ⟨n, h⟩

set_option maxRecDepth 100000 in
set_option maxHeartbeats 4000000 in
theorem next_of (w : World) (b : Nat) (la : Option Addr) (n lc sum : Nat) (s : ByteArray) (hn : n < 99) (hs : s.size ≤ 1000) (hsum : sum < 18446744073709551616) (hc4 : w.cell? ⟨b, 4, none⟩ = some (.slice la n lc)) (hc5 : w.cell? ⟨b, 5, none⟩ = some (.int .u64 (sum : Int))) (hG : Gl w) :
    Calls Tryz.prog 110 #[.pointer (some ⟨b, 0, none⟩), .string s] w fun e w' => e = .returned (.tuple #[.string (lineB (n + 1) sum s), .int .u64 ((sumB (n + 1) sum s : Nat) : Int)]) ∧ Below w.heap.size w w' := by
  have hz := numB_size (n + 1) (by omega)
  have HI : Hid (∀ W, Calls Tryz.prog 141 #[.int .i64 ((n : Int) + 1)] W fun e w' => e = .returned (.string (numB (n + 1))) ∧ w' = W) := fun W => Tryz.strconv_Itoa_small (n + 1) (by omega) W
  have ht : (textB (n + 1) s).size ≤ 1003 := by unfold textB sp; simp only [ByteArray.size_append]; show _ + 1 + _ ≤ _; omega
  have HD : Hid (∀ W, Calls Tryz.prog 23 #[.int .u64 (sum : Int), .string (textB (n + 1) s)] W fun e w' => e = .returned (.int .u64 ((sumB (n + 1) sum s : Nat) : Int)) ∧ w' = W) := fun W => digest_of W sum hsum _ (by unfold maxLen; omega)
  have HX : Hid (Calls Tryz.prog 98 #[.int .u64 ((sumB (n + 1) sum s : Nat) : Int)] w fun e w' => e = .returned (.string (hex16 (sumB (n + 1) sum s))) ∧ Below w.heap.size w w') := hexOf_of w _ (dig_lt _ hsum) hG
  have hx16 := hex16_size (sumB (n + 1) sum s)
  have hA1 : ∀ W', (Op.stringOp .add (numB (n + 1)) ⟨#[32]⟩).run Tryz.prog W' = .ok (.string (numB (n + 1) ++ sp)) W' := fun W' => run_string_add_sum W' _ _ (by show _ + 1 ≤ _; omega)
  have hA2 : ∀ W', (Op.stringOp .add (numB (n + 1) ++ sp) s).run Tryz.prog W' = .ok (.string (textB (n + 1) s)) W' := fun W' => run_string_add_sum W' _ _ (by simp only [ByteArray.size_append]; show _ + 1 + _ ≤ _; omega)
  have hA3 : ∀ W', (Op.stringOp .add (textB (n + 1) s) ⟨#[32]⟩).run Tryz.prog W' = .ok (.string (textB (n + 1) s ++ sp)) W' := fun W' => run_string_add_sum W' _ _ (by show _ + 1 ≤ _; omega)
  have hA4 : ∀ W', (Op.stringOp .add (textB (n + 1) s ++ sp) (hex16 (sumB (n + 1) sum s))).run Tryz.prog W' = .ok (.string (lineB (n + 1) sum s)) W' := fun W' => run_string_add_sum W' _ _ (by simp only [ByteArray.size_append]; show _ + 1 + _ ≤ _; omega)
  have hw : IntKind.i64.wrap ((n : Int) + 1) = (n : Int) + 1 := IntWalk.i64_in _ (by omega)
  obtain ⟨a1, e1⟩ : ∃ a, numB (n + 1) = a := ⟨_, rfl⟩
  obtain ⟨a2, e2⟩ : ∃ a, textB (n + 1) s = a := ⟨_, rfl⟩
  obtain ⟨a3, e3⟩ : ∃ a, sumB (n + 1) sum s = a := ⟨_, rfl⟩
  obtain ⟨a4, e4⟩ : ∃ a, lineB (n + 1) sum s = a := ⟨_, rfl⟩
  obtain ⟨a5, e5⟩ : ∃ a, hex16 a3 = a := ⟨_, rfl⟩
  rw [e1] at HI hA1 hA2
  rw [e2] at HD hA2 hA3 hA4
  rw [e3] at HD HX hA4 ⊢
  rw [e4] at hA4 ⊢
  rw [e5] at HX hA4
  obtain ⟨b1, f1⟩ : ∃ a, a1 ++ sp = a := ⟨_, rfl⟩
  obtain ⟨b2, f2⟩ : ∃ a, a2 ++ sp = a := ⟨_, rfl⟩
  rw [f1] at hA1 hA2
  rw [f2] at hA3 hA4
  clear e1 e2 e3 e4 e5 f1 f2 ht hx16 hz hG
  go_enter Tryz.func110, Tryz.ntmps110
  go_wp2_with fail
  refine (HI.out _).mono ?_
  rintro e w9 ⟨rfl, rfl⟩
  clear HI
  go_wp2_with fail
  refine (HD.out _).mono ?_
  rintro e w9 ⟨rfl, rfl⟩
  clear HD
  go_wp2_with fail
  refine HX.out.mono ?_
  rintro e w2 ⟨rfl, hB⟩
  have HB := Lib.hid hB
  clear hB HX
  go_wp2_with fail
  exact bodyPost_ret (v := .tuple #[.string a4, .int .u64 (a3 : Int)]) (by simp [results, Tryz.f110, go_sem]) rfl ⟨rfl, HB.out⟩
end Go.Proofs.YtmdniebedflpbaaGreatDoor
