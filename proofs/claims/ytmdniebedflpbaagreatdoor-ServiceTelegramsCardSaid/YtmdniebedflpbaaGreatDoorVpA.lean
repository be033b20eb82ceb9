/-
  MATHEMATICS: numbers as bytes, the least significant one first (for ServiceTelegrams).
-/
import Derived.Test.YtmdniebedflpbaaGreatDoorVwA
namespace Go.Proofs.YtmdniebedflpbaaGreatDoor
open Go.RowKit

/-- The k least bytes of a number. -/
def leN (n : Nat) : Nat → List Nat
  | 0 => []
  | k + 1 => n % 256 :: leN (n / 256) k
/-- The number of bytes. -/
def valN : List Nat → Nat
  | [] => 0
  | b :: l => b + 256 * valN l
theorem leN_len : ∀ (k n : Nat), (leN n k).length = k
  | 0, _ => rfl
  | k + 1, n => by simp [leN, leN_len k]
theorem leN_lt : ∀ (k n : Nat), ∀ x ∈ leN n k, x < 256
  | 0, _, x, h => by simp [leN] at h
  | k + 1, n, x, h => by
    rcases List.mem_cons.1 h with rfl | h
    · exact Nat.mod_lt _ (by decide)
    · exact leN_lt k _ x h
theorem val_leN : ∀ (k n : Nat), valN (leN n k) = n % 256 ^ k
  | 0, n => by simp [leN, valN, Nat.mod_one]
  | k + 1, n => by
    rw [leN, valN, val_leN k, Nat.pow_succ, Nat.mul_comm (256 ^ k) 256, Nat.mod_mul]
theorem val_lt : ∀ (l : List Nat), (∀ x ∈ l, x < 256) → valN l < 256 ^ l.length
  | [], _ => by simp [valN]
  | b :: l, h => by
    have h1 := h b (by simp)
    have h2 := val_lt l (fun x hx => h x (by simp [hx]))
    simp only [valN, List.length_cons, Nat.pow_succ]
    omega
theorem val_inj : ∀ (l m : List Nat), (∀ x ∈ l, x < 256) → (∀ x ∈ m, x < 256) → l.length = m.length → valN l = valN m → l = m
  | [], [], _, _, _, _ => rfl
  | [], _ :: _, _, _, h, _ => by simp at h
  | _ :: _, [], _, _, h, _ => by simp at h
  | a :: l, b :: m, hl, hm, hn, hv => by
    have h1 := hl a (by simp)
    have h2 := hm b (by simp)
    simp only [valN] at hv
    obtain rfl : a = b := by omega
    rw [val_inj l m (fun x hx => hl x (by simp [hx])) (fun x hx => hm x (by simp [hx])) (by simpa using hn) (by omega)]
/-- Bytes are those of their number. -/
theorem leN_val (l : List Nat) (h : ∀ x ∈ l, x < 256) : leN (valN l) l.length = l :=
  val_inj _ _ (leN_lt _ _) h (leN_len _ _) (by rw [val_leN]; exact Nat.mod_eq_of_lt (val_lt l h))
end Go.Proofs.YtmdniebedflpbaaGreatDoor
