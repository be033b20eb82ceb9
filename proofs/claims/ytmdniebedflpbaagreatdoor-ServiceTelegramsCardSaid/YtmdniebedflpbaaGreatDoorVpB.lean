/-
  WORDS: telegrams; WALKS: fits (the program).
-/
import Derived.Test.YtmdniebedflpbaaGreatDoorVpA
import Derived.Test.YtmdniebedflpbaaGreatDoorVsA
namespace Go.Proofs.YtmdniebedflpbaaGreatDoor
open Go.RowKit

/-- A telegram: tracker, time, place, battery. -/
structure Tg where
  a : Int
  b : Int
  c : Int
  d : Int
def Tg.val (t : Tg) : Value := .agg #[.int .i64 t.a, .int .i64 t.b, .int .i64 t.c, .int .i64 t.d]
def Tg.ok (t : Tg) : Prop := (0 ≤ t.a ∧ t.a ≤ 65535) ∧ (0 ≤ t.b ∧ t.b ≤ 1099511627776) ∧ (0 ≤ t.c ∧ t.c ≤ 1073741824) ∧ 0 ≤ t.d ∧ t.d ≤ 1000
instance Tg.okDec (t : Tg) : Decidable t.ok := by unfold Tg.ok; infer_instance
set_option maxHeartbeats 4000000 in
theorem fits_of (w : World) (t : Tg) : Calls Tryz.prog 50 #[t.val] w fun e w' => e = .returned (.bool (decide t.ok)) ∧ Below w.heap.size w w' := by
  obtain ⟨a, b, c, d⟩ := t
  have HI : Hid (∀ q w x lo hi, q = decide (lo ≤ x ∧ x ≤ hi) → Calls Tryz.prog 44 #[.int .i64 x, .int .i64 lo, .int .i64 hi] w fun e w' => e = .returned (.bool q) ∧ w' = w) := fun q w x lo hi h => vwithin_of q w x lo hi h
  obtain ⟨e0, he0⟩ : ∃ e0, decide (Tg.mk a b c d).ok = e0 := ⟨_, rfl⟩
  rw [he0]
  have HE : Hid (e0 = decide ((0 ≤ a ∧ a ≤ 65535) ∧ (0 ≤ b ∧ b ≤ 1099511627776) ∧ (0 ≤ c ∧ c ≤ 1073741824) ∧ 0 ≤ d ∧ d ≤ 1000)) := Lib.hid he0.symm
  clear he0
  dsimp only [Tg.val]
  go_enter Tryz.func50, Tryz.ntmps50
  go_upto_region 1 with fail
  obtain ⟨W, hW⟩ : ∃ W, w.alloc (.cells #[.int .i64 a, .int .i64 b, .int .i64 c, .int .i64 d] 43) = W := ⟨_, rfl⟩
  rw [hW]
  have HB : Hid (Below w.heap.size w W) := Lib.hid (by rw [← hW]; exact (Below.refl _ _).alloc (Nat.le_refl _) _)
  have hH : W.heap[w.heap.size]? = some (.cells #[.int .i64 a, .int .i64 b, .int .i64 c, .int .i64 d] 43 (0, 0)) := by rw [← hW]; exact new_heap _ _
  have s0 := cell_h (k := 0) hH rfl
  have s1 := cell_h (k := 1) hH rfl
  have s2 := cell_h (k := 2) hH rfl
  have s3 := cell_h (k := 3) hH rfl
  clear hH hW
  by_cases h0 : 0 ≤ a ∧ a ≤ 65535
  · by_cases h1 : 0 ≤ b ∧ b ≤ 1099511627776
    · by_cases h2 : 0 ≤ c ∧ c ≤ 1073741824
      · by_cases h3 : 0 ≤ d ∧ d ≤ 1000
        · go_wp2_with fail
          refine (HI.out true _ a 0 65535 (by simp; omega)).mono ?_
          rintro e w9 ⟨rfl, rfl⟩
          go_wp2_with fail
          refine (HI.out true _ b 0 1099511627776 (by simp; omega)).mono ?_
          rintro e w9 ⟨rfl, rfl⟩
          go_wp2_with fail
          refine (HI.out true _ c 0 1073741824 (by simp; omega)).mono ?_
          rintro e w9 ⟨rfl, rfl⟩
          go_wp2_with fail
          refine (HI.out true _ d 0 1000 (by simp; omega)).mono ?_
          rintro e w9 ⟨rfl, rfl⟩
          go_wp2_with fail
          go_ret
          exact ⟨by rw [HE.out, decide_eq_true (by omega)]; rfl, HB.out⟩
        · go_wp2_with fail
          refine (HI.out true _ a 0 65535 (by simp; omega)).mono ?_
          rintro e w9 ⟨rfl, rfl⟩
          go_wp2_with fail
          refine (HI.out true _ b 0 1099511627776 (by simp; omega)).mono ?_
          rintro e w9 ⟨rfl, rfl⟩
          go_wp2_with fail
          refine (HI.out true _ c 0 1073741824 (by simp; omega)).mono ?_
          rintro e w9 ⟨rfl, rfl⟩
          go_wp2_with fail
          refine (HI.out false _ d 0 1000 (by simp; omega)).mono ?_
          rintro e w9 ⟨rfl, rfl⟩
          go_wp2_with fail
          go_ret
          exact ⟨by rw [HE.out, decide_eq_false (by omega)]; rfl, HB.out⟩
      · go_wp2_with fail
        refine (HI.out true _ a 0 65535 (by simp; omega)).mono ?_
        rintro e w9 ⟨rfl, rfl⟩
        go_wp2_with fail
        refine (HI.out true _ b 0 1099511627776 (by simp; omega)).mono ?_
        rintro e w9 ⟨rfl, rfl⟩
        go_wp2_with fail
        refine (HI.out false _ c 0 1073741824 (by simp; omega)).mono ?_
        rintro e w9 ⟨rfl, rfl⟩
        go_wp2_with fail
        go_ret
        exact ⟨by rw [HE.out, decide_eq_false (by omega)]; rfl, HB.out⟩
    · go_wp2_with fail
      refine (HI.out true _ a 0 65535 (by simp; omega)).mono ?_
      rintro e w9 ⟨rfl, rfl⟩
      go_wp2_with fail
      refine (HI.out false _ b 0 1099511627776 (by simp; omega)).mono ?_
      rintro e w9 ⟨rfl, rfl⟩
      go_wp2_with fail
      go_ret
      exact ⟨by rw [HE.out, decide_eq_false (by omega)]; rfl, HB.out⟩
  · go_wp2_with fail
    refine (HI.out false _ a 0 65535 (by simp; omega)).mono ?_
    rintro e w9 ⟨rfl, rfl⟩
    go_wp2_with fail
    go_ret
    exact ⟨by rw [HE.out, decide_eq_false (by omega)]; rfl, HB.out⟩
end Go.Proofs.YtmdniebedflpbaaGreatDoor
