/-
  WALKS: isIndex, isPlace, the error of bounds.
-/
import Derived.Test.YtmdniebedflpbaaDoorPlA
namespace Go.Proofs.YtmdniebedflpbaaDoor
open Go.RowKit

theorem idx_of (b : Bool) (w : World) (i n : Int) (h : b = decide (0 ≤ i ∧ i < n)) :
    Calls Tryd.prog 21 #[.int .i64 i, .int .i64 n] w fun e w' => e = .returned (.bool b) ∧ w' = w := by
  go_enter Tryd.func21, Tryd.ntmps21
  by_cases h1 : 0 ≤ i
  · by_cases h2 : i < n
    · obtain rfl : b = true := by rw [h, decide_eq_true_iff]; omega
      clear h
      go_wp2
      go_ret
      exact ⟨rfl, rfl⟩
    · obtain rfl : b = false := by rw [h, decide_eq_false_iff_not]; omega
      clear h
      go_wp2
      go_ret
      refine ⟨?_, rfl⟩
      first | rfl | (congr 2; simp; omega)
  · obtain rfl : b = false := by rw [h, decide_eq_false_iff_not]; omega
    clear h
    go_wp2
    go_ret
    exact ⟨rfl, rfl⟩
theorem plc_of (b : Bool) (w : World) (x : Int) (h : b = decide (-1073741824 ≤ x ∧ x ≤ 1073741824)) :
    Calls Tryd.prog 20 #[.int .i64 x] w fun e w' => e = .returned (.bool b) ∧ w' = w := by
  go_enter Tryd.func20, Tryd.ntmps20
  by_cases h1 : -1073741824 ≤ x
  · by_cases h2 : x ≤ 1073741824
    · obtain rfl : b = true := by rw [h, decide_eq_true_iff]; omega
      clear h
      go_wp2
      go_ret
      exact ⟨rfl, rfl⟩
    · obtain rfl : b = false := by rw [h, decide_eq_false_iff_not]; omega
      clear h
      go_wp2
      go_ret
      refine ⟨?_, rfl⟩
      first | rfl | (congr 2; simp; omega)
  · obtain rfl : b = false := by rw [h, decide_eq_false_iff_not]; omega
    clear h
    go_wp2
    go_ret
    exact ⟨rfl, rfl⟩

theorem bd_ways (b1 b2 b3 : Bool) (E F T M : Int) (h1 : b1 = decide (0 ≤ F ∧ F < E)) (h2 : b2 = decide (0 ≤ T ∧ T < E)) (h3 : b3 = decide (-1073741824 ≤ M ∧ M ≤ 1073741824)) :
    (b1 = false ∧ bdErr E F T M = 1) ∨ (b1 = true ∧ b2 = false ∧ bdErr E F T M = 1) ∨ (b1 = true ∧ b2 = true ∧ b3 = false ∧ bdErr E F T M = 1) ∨ (b1 = true ∧ b2 = true ∧ b3 = true ∧ bdErr E F T M = 0) := by
  have no : ∀ {p : Prop} [Decidable p] {b : Bool}, b = decide p → ¬p → b = false := fun h hn => by rw [h]; simp [hn]
  have yes : ∀ {p : Prop} [Decidable p] {b : Bool}, b = decide p → p → b = true := fun h hn => by rw [h]; simp [hn]
  by_cases p1 : 0 ≤ F ∧ F < E
  · by_cases p2 : 0 ≤ T ∧ T < E
    · by_cases p3 : -1073741824 ≤ M ∧ M ≤ 1073741824
      · exact .inr (.inr (.inr ⟨yes h1 p1, yes h2 p2, yes h3 p3, by unfold bdErr; rw [if_neg (by omega)]⟩))
      · exact .inr (.inr (.inl ⟨yes h1 p1, yes h2 p2, no h3 p3, by unfold bdErr; rw [if_pos (by omega)]⟩))
    · exact .inr (.inl ⟨yes h1 p1, no h2 p2, by unfold bdErr; rw [if_pos (by omega)]⟩)
  · exact .inl ⟨no h1 p1, by unfold bdErr; rw [if_pos (by omega)]⟩

set_option maxRecDepth 8000 in
set_option maxHeartbeats 3200000 in
theorem check_of (w : World) (E : Int) (a : Option Addr) (n c : Nat) (f : Nat → Int) (hS : Sl w 3 a n f) :
    Calls Tryd.prog 38 #[.int .i64 E, .slice a n c] w fun e' w' => e' = .returned (.int .i64 (bchk E n f)) ∧ Below w.heap.size w w' := by
  have HS := Lib.hid hS
  clear hS
  by_cases h1 : E < 1
  · have hE : bchk E n f = 4 := by unfold bchk; rw [if_pos (by omega)]
    rw [hE]
    go_enter Tryd.func38, Tryd.ntmps38
    go_wp2
    go_ret
    exact ⟨rfl, Below.refl _ _⟩
  by_cases h2 : 64 < E
  · have hE : bchk E n f = 4 := by unfold bchk; rw [if_pos (by omega)]
    rw [hE]
    go_enter Tryd.func38, Tryd.ntmps38
    go_wp2
    go_ret
    exact ⟨rfl, Below.refl _ _⟩
  by_cases h3 : 256 < n
  · have hE : bchk E n f = 4 := by unfold bchk; rw [if_pos (by omega)]
    rw [hE]
    go_enter Tryd.func38, Tryd.ntmps38
    go_wp2
    go_ret
    exact ⟨rfl, Below.refl _ _⟩
  have hE : bchk E n f = first (bdAt E f) n := by unfold bchk; rw [if_neg (by omega)]
  rw [hE]
  clear hE
  go_enter Tryd.func38, Tryd.ntmps38
  go_wp2
  go_loopw [20] (fun vi wr => ∃ i : Nat, i ≤ n ∧ vi = .int .i64 i ∧ Hid (∀ j, j < i → bdAt E f j = 0) ∧ Hid (Below w.heap.size w wr)) (fun vi _ => n - (intOf vi).toNat)
  case atStart => exact ⟨0, by omega, rfl, fun j hj => by omega, Below.refl _ _⟩
  case round =>
    obtain ⟨i, hi, rfl, HI, HB⟩ := hrel
    by_cases hlt : i < n
    · obtain ⟨b, o, rfl, hI⟩ := HS.out (by omega)
      have hI2 := hI.keep HB.out (hI.lt (by omega))
      have d0 := hI2 (i * 3) (by omega)
      have d1 := hI2.at (i * 3) 1 (by omega)
      have d2 := hI2.at (i * 3) 2 (by omega)
      have HE : Hid (bdAt E f i = bdErr E (f (i * 3)) (f (i * 3 + 1)) (f (i * 3 + 2))) := rfl
      clear hI hI2
      generalize f (i * 3) = F at HE d0 ⊢
      generalize f (i * 3 + 1) = T at HE d1 ⊢
      generalize f (i * 3 + 2) = M at HE d2 ⊢
      obtain ⟨b1, k1⟩ : ∃ b : Bool, b = decide (0 ≤ F ∧ F < E) := ⟨_, rfl⟩
      obtain ⟨b2, k2⟩ : ∃ b : Bool, b = decide (0 ≤ T ∧ T < E) := ⟨_, rfl⟩
      obtain ⟨b3, k3⟩ : ∃ b : Bool, b = decide (-1073741824 ≤ M ∧ M ≤ 1073741824) := ⟨_, rfl⟩
      have HW := bd_ways b1 b2 b3 E F T M k1 k2 k3
      have K1 := Lib.hid k1
      have K2 := Lib.hid k2
      have K3 := Lib.hid k3
      clear k1 k2 k3
      generalize bdErr E F T M = R at HW HE
      have HF : Hid (R ≠ 0 → first (bdAt E f) n = R) := fun hne => by rw [← HE.out]; exact first_at HI.out (by rw [HE.out]; exact hne) hlt
      rcases HW with ⟨rfl, rfl⟩ | ⟨rfl, rfl, rfl⟩ | ⟨rfl, rfl, rfl, rfl⟩ | ⟨rfl, rfl, rfl, rfl⟩
      all_goals
        go_wp2_with (first
          | (go_at_call 21; refine (idx_of _ _ _ _ (by first | exact K1.out | exact K2.out)).mono ?_; rintro e' w' ⟨rfl, rfl⟩)
          | (go_at_call 20; refine (plc_of _ _ _ (by exact K3.out)).mono ?_; rintro e' w' ⟨rfl, rfl⟩))
      all_goals first
        | (go_ret; exact ⟨by rw [HF.out (by decide)]; rfl, HB.out.alloc HB.out.size _⟩)
        | (exact ⟨⟨i + 1, by omega, by go_num, (fun j hj => by
            by_cases ej : j = i
            · subst ej; exact HE.out
            · exact HI.out j (by omega)), HB.out.alloc HB.out.size _⟩, by simp [intOf]; omega⟩)
    · obtain rfl : i = n := by omega
      go_wp2
      go_ret
      exact ⟨by rw [first_zero HI.out]; rfl, HB.out⟩
end Go.Proofs.YtmdniebedflpbaaDoor
