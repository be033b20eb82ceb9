/-
  WALKS: profiles: their error, the depths below the chord, the greatest one.
-/
import Derived.Test.YtlbffdgojmjijaaDoorDeA
import Derived.Test.YtlbffdgojmjijaaDoorDyL
import Derived.BigQuiet
import Derived.Deep.QuietTactic
import Derived.Deep.RegionHeld3
import Derived.Deep.DeepCutAuto
namespace Go.Proofs.YtlbffdgojmjijaaDoor
open Go.RowKit

theorem mul_sg {x m A : Int} (hx : -A ≤ x ∧ x ≤ A) (hA : 0 ≤ A) (hm : 0 ≤ m ∧ m ≤ 64) : -(A * 64) ≤ x * m ∧ x * m ≤ A * 64 := by
  have h1 := Int.mul_le_mul_of_nonneg_right hx.1 hm.1
  have h2 := Int.mul_le_mul_of_nonneg_right hx.2 hm.1
  have h3 := Int.mul_le_mul_of_nonneg_left hm.2 hA
  rw [Int.neg_mul] at h1
  omega
/-- A profile without an error. -/
def PrOk (n : Nat) (f : Nat → Int) : Prop := (3 ≤ n ∧ n ≤ 64) ∧ ∀ i, i < n → -2097152 ≤ f i ∧ f i ≤ 2097152

set_option maxRecDepth 100000 in
set_option maxHeartbeats 4000000 in
theorem prof_ok (w : World) (a : Option Addr) (n c : Nat) (f : Nat → Int) (hS : Sl w 1 a n f) (h : PrOk n f) :
    Calls Tryd.prog 38 #[.slice a n c] w fun e w' => e = .returned (.int .i64 0) ∧ w' = w := by
  obtain ⟨hn, hf⟩ := h
  have HF := Lib.hid hf
  obtain ⟨b, o, rfl, hI⟩ := hS (by omega)
  have HI := Lib.hid hI
  have ec : (3 : Int) ≤ n ∧ (n : Int) ≤ 64 := by omega
  clear hf hS hI
  go_enter Tryd.func38, Tryd.ntmps38
  go_wp2_with fail
  go_loopw [15] (fun vi wr => ∃ k : Nat, k ≤ n ∧ vi = .int .i64 k ∧ wr = w) (fun vi _ => n - (intOf vi).toNat)
  case atStart => exact ⟨0, by omega, rfl, rfl⟩
  case round =>
    obtain ⟨k, hk, rfl, rfl⟩ := hrel
    by_cases hlt : k < n
    · have d0 := HI.out k (by omega)
      have hb := HF.out k hlt
      go_wp2
      exact ⟨⟨k + 1, by omega, by go_num, by first | rfl | trivial⟩, by simp [intOf]; omega⟩
    · obtain rfl : k = n := by omega
      go_wp2
      go_ret
      exact ⟨rfl, rfl⟩

/-- The depth below the chord, m times as great. -/
def dF (f : Nat → Int) (m i : Nat) : Int := (f 0 - f i) * (m : Int) + (f m - f 0) * (i : Int)
theorem dF_bd {n : Nat} {f : Nat → Int} (h : PrOk (n + 1) f) {i : Nat} (hi : i < n + 1) :
    (-268435456 ≤ (f 0 - f i) * (n : Int) ∧ (f 0 - f i) * (n : Int) ≤ 268435456) ∧ (-268435456 ≤ (f n - f 0) * (i : Int) ∧ (f n - f 0) * (i : Int) ≤ 268435456) := by
  have h0 := h.2 0 (by omega)
  have h1 := h.2 i hi
  have h2 := h.2 n (by omega)
  have hn := h.1
  exact ⟨mul_sg (A := 4194304) (by omega) (by decide) (by omega), mul_sg (A := 4194304) (by omega) (by decide) (by omega)⟩

set_option maxRecDepth 100000 in
set_option maxHeartbeats 4000000 in
theorem deep_of (w : World) (p q n c i : Nat) (a : Option Addr) (f : Nat → Int) (hp : w.cell? ⟨p, 0, none⟩ = some (.slice a (n + 1) c)) (hq : w.cell? ⟨q, 0, none⟩ = some (.int .i64 (n : Int))) (hS : Sl w 1 a (n + 1) f) (h : PrOk (n + 1) f) (hi : i < n + 1) :
    Calls Tryd.prog 39 #[.int .i64 (i : Int), .pointer (some ⟨p, 0, none⟩), .pointer (some ⟨q, 0, none⟩)] w fun e w' => e = .returned (.int .i64 (dF f n i)) ∧ Below w.heap.size w w' := by
  obtain ⟨b, o, rfl, hI⟩ := hS (by omega)
  have d0 : w.cell? ⟨b, o, none⟩ = some (.int .i64 (f 0)) := hI 0 (by omega)
  have d1 := hI i (by omega)
  have d2 := hI n (by omega)
  have hbd := dF_bd h hi
  have h0 := h.2 0 (by omega)
  have h1 := h.2 i hi
  have h2 := h.2 n (by omega)
  have hdF : dF f n i = (f 0 - f i) * (n : Int) + (f n - f 0) * (i : Int) := rfl
  rw [hdF]
  generalize f 0 = F0 at *
  generalize f i = F1 at *
  generalize f n = F2 at *
  have w1 : IntKind.i64.wrap (F0 - F1) = F0 - F1 := IntWalk.i64_in _ (by omega)
  have w2 : IntKind.i64.wrap ((F0 - F1) * (n : Int)) = (F0 - F1) * (n : Int) := IntWalk.i64_in _ (by omega)
  have w3 : IntKind.i64.wrap (F2 - F0) = F2 - F0 := IntWalk.i64_in _ (by omega)
  have w4 : IntKind.i64.wrap ((F2 - F0) * (i : Int)) = (F2 - F0) * (i : Int) := IntWalk.i64_in _ (by omega)
  have w5 : IntKind.i64.wrap ((F0 - F1) * (n : Int) + (F2 - F0) * (i : Int)) = (F0 - F1) * (n : Int) + (F2 - F0) * (i : Int) := IntWalk.i64_in _ (by omega)
  have j0 : (0 : Int) ≤ (i : Int) ∧ (0 : Int) ≤ (n : Int) := by omega
  have j1 : (i : Int) < (n : Int) + 1 := by omega
  have j2 : (n : Int) < (n : Int) + 1 := by omega
  have j3 : (0 : Int) < (n : Int) + 1 := by omega
  have j4 : (i : Int) ≤ (n : Int) + 1 := by omega
  have j5 : (n : Int) ≤ (n : Int) + 1 := by omega
  have j6 : (0 : Int) ≤ (n : Int) + 1 := by omega
  clear hbd h0 h1 h2 h hI hS hdF
  go_enter Tryd.func39, Tryd.ntmps39
  go_wp2_with fail
  go_quiet (fail)
  go_wp2_with fail
  exact bodyPost_ret (v := .int .i64 ((F0 - F1) * (n : Int) + (F2 - F0) * (i : Int))) (by simp [results, Tryd.f39, go_sem]) rfl ⟨rfl, ⟨rfl, rfl, rfl, Nat.le_refl _, fun _ _ => rfl⟩⟩

/-- The first of n at which g is greatest. -/
def gmax (g : Nat → Int) : Nat → Nat
  | 0 => 0
  | n + 1 => if g (gmax g n) < g n then n else gmax g n
theorem gmax_lt (g : Nat → Int) : ∀ {n : Nat}, 0 < n → gmax g n < n
  | n + 1, _ => by
    unfold gmax
    split
    · omega
    · by_cases h : n = 0
      · subst h; simp [gmax]
      · have := gmax_lt g (n := n) (by omega); omega

set_option maxRecDepth 100000 in
set_option maxHeartbeats 4000000 in
theorem greatest_of (w : World) (p q n c : Nat) (a : Option Addr) (f : Nat → Int) (hp : w.cell? ⟨p, 0, none⟩ = some (.slice a (n + 1) c)) (hq : w.cell? ⟨q, 0, none⟩ = some (.int .i64 (n : Int))) (hS : Sl w 1 a (n + 1) f) (h : PrOk (n + 1) f) :
    Calls Tryd.prog 40 #[.int .i64 ((n : Int) + 1), .func (.func 39) #[] #[.pointer (some ⟨p, 0, none⟩), .pointer (some ⟨q, 0, none⟩)]] w fun e w' => e = .returned (.int .i64 (gmax (dF f n) (n + 1) : Nat)) ∧ Below w.heap.size w w' := by
  have HD : Hid (∀ W (i : Nat), Below w.heap.size w W → i < n + 1 → Calls Tryd.prog 39 #[.int .i64 (i : Int), .pointer (some ⟨p, 0, none⟩), .pointer (some ⟨q, 0, none⟩)] W fun e w' => e = .returned (.int .i64 (dF f n i)) ∧ Below W.heap.size W w') := fun W i hW hi =>
    deep_of W p q n c i a f ((hW.cell (p := ⟨p, 0, none⟩) (World.block_lt_of_cell? _ _ hp)).trans hp) ((hW.cell (p := ⟨q, 0, none⟩) (World.block_lt_of_cell? _ _ hq)).trans hq) (hS.keep (by decide) hW) h hi
  have hn64 : n + 1 ≤ 64 := h.1.2
  clear hp hq hS h
  go_enter Tryd.func40, Tryd.ntmps40
  go_wp2_with fail
  go_loopw [5, 8] (fun va vi wr => ∃ k : Nat, k ≤ n + 1 ∧ vi = .int .i64 k ∧ va = .int .i64 (gmax (dF f n) k : Nat) ∧ Hid (Below w.heap.size w wr)) (fun _ vi _ => n + 1 - (intOf vi).toNat)
  case atStart => exact ⟨0, by omega, rfl, rfl, Below.refl _ _⟩
  case round =>
    obtain ⟨k, hk, rfl, rfl, HB⟩ := hrel
    by_cases hlt : k < n + 1
    · have wk : IntKind.i64.wrap ((k : Int) + 1) = (k : Int) + 1 := IntWalk.i64_in _ (by have := hlt; have := hn64; omega)
      have hg : gmax (dF f n) k < n + 1 := by
        by_cases h0 : k = 0
        · subst h0; show 0 < n + 1; omega
        · have := gmax_lt (dF f n) (n := k) (by omega); omega
      have hkn : (k : Int) < (n : Int) + 1 := by omega
      have C1 := Lib.hid (HD.out wr k HB.out hlt)
      have C2 : Hid (∀ W, Below w.heap.size w W → Calls Tryd.prog 39 #[.int .i64 (gmax (dF f n) k : Nat), .pointer (some ⟨p, 0, none⟩), .pointer (some ⟨q, 0, none⟩)] W fun e w' => e = .returned (.int .i64 (dF f n (gmax (dF f n) k))) ∧ Below W.heap.size W w') := fun W hW => HD.out W _ hW hg
      have hs : gmax (dF f n) (k + 1) = if dF f n (gmax (dF f n) k) < dF f n k then k else gmax (dF f n) k := rfl
      have HST := Lib.hid hs
      clear hs hg
      generalize hA : dF f n k = A at C1 HST
      generalize hB' : dF f n (gmax (dF f n) k) = B at C2 HST
      clear hA hB'
      go_wp2_with fail
      refine C1.out.mono ?_
      rintro e W1 ⟨rfl, hB1⟩
      have HB1 := Lib.hid (HB.out.trans (hB1.mono HB.out.size))
      clear hB1 C1
      go_wp2_with fail
      refine (C2.out W1 HB1.out).mono ?_
      rintro e W2 ⟨rfl, hB2⟩
      have HB2 := Lib.hid (HB1.out.trans (hB2.mono HB1.out.size))
      clear hB2 C2 HB1
      obtain ⟨bb, hbb⟩ : ∃ bb, decide (B < A) = bb := ⟨_, rfl⟩
      have hs : gmax (dF f n) (k + 1) = if bb = true then k else gmax (dF f n) k := by rw [HST.out, ← hbb]; simp only [decide_eq_true_iff]
      have HS2 := Lib.hid hs
      clear HST hs
      cases bb with
      | true =>
        go_wp2_with fail
        exact ⟨⟨k + 1, by omega, by go_num, by rw [HS2.out]; simp, HB2⟩, by simp [intOf]; omega⟩
      | false =>
        go_wp2_with fail
        exact ⟨⟨k + 1, by omega, by go_num, by rw [HS2.out]; simp, HB2⟩, by simp [intOf]; omega⟩
    · obtain rfl : k = n + 1 := by omega
      go_wp2_with fail
      exact bodyPost_ret (v := .int .i64 (gmax (dF f n) (n + 1) : Nat)) (by simp [results, Tryd.f40, go_sem]) rfl ⟨rfl, HB.out⟩
end Go.Proofs.YtlbffdgojmjijaaDoor
