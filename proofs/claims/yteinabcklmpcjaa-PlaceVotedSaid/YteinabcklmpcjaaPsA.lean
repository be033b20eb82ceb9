/-
  WALKS: the reference's errors of an alignment's problem, and its distance.
-/
import Derived.Test.YteinabcklmpcjaaPrI
namespace Go.Proofs.Yteinabcklmpcjaa
open Go.RowKit

set_option maxRecDepth 100000 in
theorem apart_of (w : World) (x y : Int) (hx : 0 ≤ x ∧ x ≤ 1073741824) (hy : 0 ≤ y ∧ y ≤ 1073741824) :
    Calls Try.prog 61 #[.int .i64 x, .int .i64 y] w fun e w' => e = .returned (.int .i64 (max (x - y) (y - x))) ∧ w' = w := by
  have w1 : IntKind.i64.wrap (x - y) = x - y := IntWalk.i64_in _ (by omega)
  have w2 : IntKind.i64.wrap (y - x) = y - x := IntWalk.i64_in _ (by omega)
  go_enter Try.func61, Try.ntmps61
  go_wp2_with fail
  go_ret
  exact ⟨rfl, rfl⟩

set_option maxRecDepth 100000 in
set_option maxHeartbeats 4000000 in
theorem rproblem_of (w : World) (a1 a2 : Option Addr) (n c1 m c2 : Nat) (g h : Nat → Int) (L F M : Int) (h1 : Sl w 1 a1 n g) (h2 : Sl w 1 a2 m h) :
    Calls Try.prog 60 #[.slice a1 n c1, .slice a2 m c2, .agg #[.int .i64 L, .int .i64 F, .int .i64 M]] w fun e w' => e = .returned (.int .i64 (pbChk n m g h L F M)) ∧ Below w.heap.size w w' := by
  have HE : Hid (pbChk n m g h L F M = if plChk 1 n g ≠ 0 then plChk 1 n g else if plChk 0 m h ≠ 0 then plChk 0 m h else if cErr L ≠ 0 ∨ cErr F ≠ 0 ∨ cErr M ≠ 0 then 1 else 0) := rfl
  obtain ⟨V, hV⟩ : ∃ V, pbChk n m g h L F M = V := ⟨_, rfl⟩
  rw [hV] at HE ⊢
  clear hV
  have hBA : Below w.heap.size w (w.alloc (.cells #[.int .i64 L, .int .i64 F, .int .i64 M] 40)) := (Below.refl _ w).alloc (Nat.le_refl _) _
  have a0 := World.alloc_heap_new w (.cells #[.int .i64 L, .int .i64 F, .int .i64 M] 40)
  have s1 := h1.keep (by decide) hBA
  have s2 := h2.keep (by decide) hBA
  clear h1 h2
  go_enter Try.func60, Try.ntmps60
  go_wp2_with fail
  generalize w.alloc (.cells #[.int .i64 L, .int .i64 F, .int .i64 M] 40) = W at hBA a0 s1 s2 ⊢
  refine (line_of W false 1 rfl a1 n c1 g s1).mono ?_
  rintro e W2 ⟨rfl, hB2⟩
  replace a0 := (hB2.block _ (Array.getElem?_eq_some_iff.1 a0).1).trans a0
  replace s2 := s2.keep (by decide) hB2
  replace hBA := hBA.trans (hB2.mono hBA.size)
  clear s1 hB2
  by_cases e1 : plChk 1 n g = 0
  · rw [if_neg (by simpa using e1)] at HE
    rw [e1]
    clear e1
    have S2 := Lib.hid s2
    have A0 := Lib.hid a0
    have HB := Lib.hid hBA
    clear s2 a0 hBA
    go_wp2_with fail
    refine (line_of W2 true 0 rfl a2 m c2 h S2.out).mono ?_
    rintro e W3 ⟨rfl, hB3⟩
    have a0 := (hB3.block _ (Array.getElem?_eq_some_iff.1 A0.out).1).trans A0.out
    have HB3 := Lib.hid (HB.out.trans (hB3.mono HB.out.size))
    have x0 : W3.cell? ⟨w.heap.size, 0, none⟩ = some (.int .i64 L) := cell_h a0 rfl
    have x1 : W3.cell? ⟨w.heap.size, 1, none⟩ = some (.int .i64 F) := cell_h a0 rfl
    have x2 : W3.cell? ⟨w.heap.size, 2, none⟩ = some (.int .i64 M) := cell_h a0 rfl
    clear hB3 S2 A0 HB a0
    by_cases e2 : plChk 0 m h = 0
    · rw [if_neg (by simpa using e2)] at HE
      rw [e2]
      clear e2
      have hw : ((L < 0 ∨ 1048576 < L) ∧ V = 1) ∨ ((0 ≤ L ∧ L ≤ 1048576) ∧ (F < 0 ∨ 1048576 < F) ∧ V = 1) ∨ ((0 ≤ L ∧ L ≤ 1048576) ∧ (0 ≤ F ∧ F ≤ 1048576) ∧ (M < 0 ∨ 1048576 < M) ∧ V = 1) ∨ ((0 ≤ L ∧ L ≤ 1048576) ∧ (0 ≤ F ∧ F ≤ 1048576) ∧ (0 ≤ M ∧ M ≤ 1048576) ∧ V = 0) := by
        have hv := HE.out
        unfold cErr at hv
        by_cases q1 : L < 0 ∨ 1048576 < L
        · rw [if_pos q1, if_pos (.inl (by decide))] at hv; exact .inl ⟨q1, hv⟩
        · rw [if_neg q1] at hv
          by_cases q2 : F < 0 ∨ 1048576 < F
          · rw [if_pos q2, if_pos (.inr (.inl (by decide)))] at hv; exact .inr (.inl ⟨by omega, q2, hv⟩)
          · rw [if_neg q2] at hv
            by_cases q3 : M < 0 ∨ 1048576 < M
            · rw [if_pos q3, if_pos (.inr (.inr (by decide)))] at hv; exact .inr (.inr (.inl ⟨by omega, by omega, q3, hv⟩))
            · rw [if_neg q3, if_neg (by decide)] at hv; exact .inr (.inr (.inr ⟨by omega, by omega, by omega, hv⟩))
      rcases hw with ⟨q1, rfl⟩ | ⟨q1, q2, rfl⟩ | ⟨q1, q2, q3, rfl⟩ | ⟨q1, q2, q3, rfl⟩
      all_goals
        go_wp2_with (go_at_call 50; first | (refine (wi_of true _ _ _ _ (by symm; rw [decide_eq_true_iff]; omega)).mono ?_; rintro e' w' ⟨rfl, hw⟩; rw [hw]; clear hw w') | (refine (wi_of false _ _ _ _ (by symm; rw [decide_eq_false_iff_not]; omega)).mono ?_; rintro e' w' ⟨rfl, hw⟩; rw [hw]; clear hw w'))
        go_ret
        exact ⟨rfl, HB3.out⟩
    · rw [if_pos (by simpa using e2)] at HE
      have hne : (plChk 0 m h == 0) = false := by simpa using e2
      have hne2 : (plChk 0 m h != 0) = true := by simpa using e2
      clear e2
      generalize plChk 0 m h = r at *
      go_wp2_with fail
      go_ret
      exact ⟨by rw [HE.out]; rfl, HB3.out⟩
  · rw [if_pos (by simpa using e1)] at HE
    have hne : (plChk 1 n g == 0) = false := by simpa using e1
    have hne2 : (plChk 1 n g != 0) = true := by simpa using e1
    have HB := Lib.hid hBA
    clear e1 hBA s2 a0
    generalize plChk 1 n g = r at *
    go_wp2_with fail
    go_ret
    exact ⟨by rw [HE.out]; rfl, HB.out⟩
end Go.Proofs.Yteinabcklmpcjaa
