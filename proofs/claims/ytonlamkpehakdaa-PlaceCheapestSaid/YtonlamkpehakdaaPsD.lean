/-
  WORDS: the least costs, by the reference's steps; WALKS: Prices, in the program.
-/
import Derived.Test.YtonlamkpehakdaaPmH
namespace Go.Proofs.Ytonlamkpehakdaa
open Go.RowKit

theorem add_one_mul' (i : Nat) (L : Int) : ((i + 1 : Nat) : Int) * L = (i : Int) * L + L := by push_cast; rw [Int.add_mul, Int.one_mul]
theorem rowZ_up (F : Int) : ∀ k : Nat, rowZ F k = (k : Int) * F
  | 0 => by simp [rowZ]
  | k + 1 => by rw [add_one_mul', ← rowZ_up F k]; rfl
theorem rowN_up {L F M : Int} {d prev : Nat → Int} {b : Int} (h : ∀ k : Nat, prev k ≤ b + (k : Int) * F) : ∀ k : Nat, rowN L F M d prev k ≤ b + L + (k : Int) * F
  | 0 => by have := h 0; simp only [rowN]; omega
  | k + 1 => by
    have h1 := h (k + 1)
    have c1 := cheaper_le (prev (k + 1) + L) (rowN L F M d prev k + F)
    have c2 := cheaper_le (cheaper (prev (k + 1) + L) (rowN L F M d prev k + F)) (prev k + d k)
    simp only [rowN]
    split <;> omega
theorem prc_up (L F M : Int) (g h : Nat → Int) : ∀ i k : Nat, prc L F M g h i k ≤ (i : Int) * L + (k : Int) * F
  | 0, k => by simp only [prc]; rw [rowZ_up]; simp
  | i + 1, k => by
    have := rowN_up (L := L) (F := F) (M := M) (d := dst g h i) (prev := prc L F M g h i) (b := (i : Int) * L) (fun k => prc_up L F M g h i k) k
    rw [add_one_mul']
    exact this
theorem cheaper_min (a b : Int) : cheaper a b = min a b := by unfold cheaper; split <;> omega

/-- The reference's steps lead to the least cost. -/
theorem prc_00 (L F M : Int) (g h : Nat → Int) {i k : Nat} (hi : i = 0) (hk : k = 0) : (i : Int) * L + (k : Int) * F = prc L F M g h i k := by
  subst hi hk; simp [prc, rowZ]
theorem prc_0k (L F M : Int) (g h : Nat → Int) {i k : Nat} (hi : i = 0) (hk : 0 < k) : min ((i : Int) * L + (k : Int) * F) (prc L F M g h i (k - 1) + F) = prc L F M g h i k := by
  subst hi
  obtain ⟨k, rfl⟩ : ∃ j, k = j + 1 := ⟨k - 1, by omega⟩
  have h1 := prc_up L F M g h 0 (k + 1)
  have h2 : prc L F M g h 0 (k + 1) = prc L F M g h 0 k + F := rfl
  rw [Nat.add_sub_cancel]
  omega
theorem prc_i0 (L F M : Int) (g h : Nat → Int) {i k : Nat} (hi : 0 < i) (hk : k = 0) : min ((i : Int) * L + (k : Int) * F) (prc L F M g h (i - 1) k + L) = prc L F M g h i k := by
  subst hk
  obtain ⟨i, rfl⟩ : ∃ j, i = j + 1 := ⟨i - 1, by omega⟩
  have h1 := prc_up L F M g h (i + 1) 0
  have h2 : prc L F M g h (i + 1) 0 = prc L F M g h i 0 + L := rfl
  rw [Nat.add_sub_cancel]
  omega
theorem prc_far (L F M : Int) (g h : Nat → Int) {i k : Nat} (hi : 0 < i) (hk : 0 < k) (hd : ¬dst g h (i - 1) (k - 1) ≤ M) :
    min (min ((i : Int) * L + (k : Int) * F) (prc L F M g h (i - 1) k + L)) (prc L F M g h i (k - 1) + F) = prc L F M g h i k := by
  obtain ⟨i, rfl⟩ : ∃ j, i = j + 1 := ⟨i - 1, by omega⟩
  obtain ⟨k, rfl⟩ : ∃ j, k = j + 1 := ⟨k - 1, by omega⟩
  simp only [Nat.add_sub_cancel] at hd ⊢
  have h1 := prc_up L F M g h (i + 1) (k + 1)
  have h2 : prc L F M g h (i + 1) (k + 1) = cheaper (prc L F M g h i (k + 1) + L) (prc L F M g h (i + 1) k + F) := by
    show rowN L F M (dst g h i) (prc L F M g h i) (k + 1) = _
    simp only [rowN, if_neg hd]
    rfl
  rw [cheaper_min] at h2
  omega
theorem prc_near (L F M : Int) (g h : Nat → Int) {i k : Nat} (hi : 0 < i) (hk : 0 < k) (hd : dst g h (i - 1) (k - 1) ≤ M) :
    min (min (min ((i : Int) * L + (k : Int) * F) (prc L F M g h (i - 1) k + L)) (prc L F M g h i (k - 1) + F)) (prc L F M g h (i - 1) (k - 1) + dst g h (i - 1) (k - 1)) = prc L F M g h i k := by
  obtain ⟨i, rfl⟩ : ∃ j, i = j + 1 := ⟨i - 1, by omega⟩
  obtain ⟨k, rfl⟩ : ∃ j, k = j + 1 := ⟨k - 1, by omega⟩
  simp only [Nat.add_sub_cancel] at hd ⊢
  have h1 := prc_up L F M g h (i + 1) (k + 1)
  have h2 : prc L F M g h (i + 1) (k + 1) = cheaper (cheaper (prc L F M g h i (k + 1) + L) (prc L F M g h (i + 1) k + F)) (prc L F M g h i k + dst g h i k) := by
    show rowN L F M (dst g h i) (prc L F M g h i) (k + 1) = _
    simp only [rowN, if_pos hd]
    rfl
  rw [cheaper_min, cheaper_min] at h2
  omega

/-- What Prices tells. -/
def PrEnd (n m : Nat) (g h : Nat → Int) (L F M : Int) (w : World) (e : Ending) (W : World) : Prop :=
  (pbChk n m g h L F M ≠ 0 ∧ e = .returned (.tuple #[.slice none 0 0, .int .i64 (pbChk n m g h L F M)]) ∧ Below w.heap.size w W) ∨
  (pbChk n m g h L F M = 0 ∧ ∃ bt rb, e = .returned (.tuple #[.slice (some ⟨bt, 0, none⟩) (n + 1) (n + 1), .int .i64 0]) ∧ Tbl w.heap.size W bt n m rb (prc L F M g h) (n + 1) ∧ Below w.heap.size w W)

set_option maxRecDepth 100000 in
set_option maxHeartbeats 4000000 in
theorem prices_of (w : World) (wa ha : Option Addr) (n wc m hc : Nat) (g h : Nat → Int) (L F M : Int) (s1 : Sl w 1 wa n g) (s2 : Sl w 1 ha m h) (i1 : I64s g n) (i2 : I64s h m) :
    Calls Try.prog 24 #[.slice wa n wc, .slice ha m hc, .agg #[.int .i64 L, .int .i64 F, .int .i64 M]] w (PrEnd n m g h L F M w) := by
  have hB : Below w.heap.size w (w.alloc (.cells #[.int .i64 L, .int .i64 F, .int .i64 M] 36)) := (Below.refl _ w).alloc (Nat.le_refl _) _
  have a0 := World.alloc_heap_new w (.cells #[.int .i64 L, .int .i64 F, .int .i64 M] 36)
  have S1 := Lib.hid (s1.keep (by decide) hB)
  have S2 := Lib.hid (s2.keep (by decide) hB)
  have I1 := Lib.hid i1
  have I2 := Lib.hid i2
  clear s1 s2 i1 i2
  go_enter Try.func24, Try.ntmps24
  go_wp2_with fail
  generalize w.alloc (.cells #[.int .i64 L, .int .i64 F, .int .i64 M] 36) = W at a0 hB S1 S2 ⊢
  refine (checkProblem_of W wa ha n wc m hc g h L F M S1.out S2.out I1.out I2.out).mono ?_
  rintro e W2 ⟨rfl, hB2⟩
  replace a0 := (hB2.block _ (Array.getElem?_eq_some_iff.1 a0).1).trans a0
  have T1 := Lib.hid (S1.out.keep (by decide) hB2)
  have T2 := Lib.hid (S2.out.keep (by decide) hB2)
  have HB := Lib.hid (hB.trans (hB2.mono hB.size))
  have x0 : W2.cell? ⟨w.heap.size, 0, none⟩ = some (.int .i64 L) := cell_h a0 rfl
  have x1 : W2.cell? ⟨w.heap.size, 1, none⟩ = some (.int .i64 F) := cell_h a0 rfl
  have x2 : W2.cell? ⟨w.heap.size, 2, none⟩ = some (.int .i64 M) := cell_h a0 rfl
  clear hB hB2 S1 S2 a0
  by_cases h0 : pbChk n m g h L F M = 0
  · have H0 := Lib.hid h0
    rw [h0]
    clear h0
    go_wp2_with fail
    refine (priceTable_of W2 wa ha n wc m hc g h L F M T1.out T2.out (pb_ok H0.out).1).mono ?_
    rintro e W3 ⟨bt, rb, rfl, hT, hB3⟩
    have HT := Lib.hid hT
    have HB3 := Lib.hid hB3
    clear hT hB3 x0 x1 x2
    go_wp2_with fail
    have q := HB.out.size
    exact bodyPost_ret (v := .tuple #[.slice (some ⟨bt, 0, none⟩) (n + 1) (n + 1), .int .i64 0]) (by simp [results, Try.f24, go_sem]) rfl (.inr ⟨H0.out, bt, rb, rfl, ⟨HT.out.tb, fun i hi => ⟨(HT.out.rw i hi).1, (HT.out.rw i hi).2.1, Nat.le_trans q (HT.out.rw i hi).2.2⟩, HT.out.inj, Nat.le_trans q HT.out.lo⟩, HB.out.trans (HB3.out.mono q)⟩)
  · have hne : (pbChk n m g h L F M == 0) = false := by simpa using h0
    have hne2 : (pbChk n m g h L F M != 0) = true := by simpa using h0
    obtain ⟨r, hr⟩ : ∃ r, pbChk n m g h L F M = r := ⟨_, rfl⟩
    rw [hr] at hne hne2 h0 ⊢
    have H0 := Lib.hid h0
    have HR := Lib.hid hr
    clear h0 hr
    go_wp2_with fail
    exact bodyPost_ret (v := .tuple #[.slice none 0 0, .int .i64 r]) (by simp [results, Try.f24, go_sem]) rfl (.inl ⟨by rw [HR.out]; exact H0.out, by rw [HR.out], HB.out⟩)
end Go.Proofs.Ytonlamkpehakdaa
