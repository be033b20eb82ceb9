/-
  WALKS: round (where nothing clashes), checkClash.
-/
import Derived.Test.YtmdniebedflpbaaDoorPlH
import Derived.Test.YtmdniebedflpbaaDoorPlB
namespace Go.Proofs.YtmdniebedflpbaaDoor
open Go.RowKit

/-- The paths of a search for a round: each of E events with an empty chain; k of them laid. -/
def Pt.all (k : Nat) : Pt := ⟨fun i => decide (i < k), fun _ => 0, fun i => if i < k then -1 else 0⟩
theorem Pt.all_zero : Pt.all 0 = Pt.none := by unfold Pt.all Pt.none; simp
theorem Pt.all_succ (k : Nat) : ({ ({ Pt.all k with kn := turn (Pt.all k).kn k true } : Pt) with la := turn (Pt.all k).la k (-1) } : Pt) = Pt.all (k + 1) := by
  show (⟨turn (fun i => decide (i < k)) k true, fun _ => 0, turn (fun i => if i < k then -1 else 0) k (-1)⟩ : Pt) = ⟨fun i => decide (i < k + 1), fun _ => 0, fun i => if i < k + 1 then -1 else 0⟩
  congr 1
  · funext i
    unfold turn
    by_cases e : i = k
    · subst e; simp
    · rw [if_neg e]; dsimp only; congr 1; apply propext; omega
  · funext i
    unfold turn
    by_cases e : i = k
    · subst e; simp
    · rw [if_neg e]
      dsimp only
      by_cases h : i < k
      · rw [if_pos h, if_pos (by omega)]
      · rw [if_neg h, if_neg (by omega)]
/-- The bounds clash: the last of the rounds has shortened a path. -/
def clash (f : Nat → Int) (n E : Nat) : Int := (relS f n E (Pt.all E) (-1)).2

set_option maxRecDepth 100000 in
set_option maxHeartbeats 4000000 in
/-- round, up to its search. -/
theorem round_none (w : World) (f : Nat → Int) (E len c : Nat) (a : Option Addr) (hf : BOk E len f) (hS : Sl w 3 a len f) (hc : clash f len E < 0) :
    Calls Tryd.prog 39 #[.int .i64 (E : Int), .slice a len c] w fun e W' => e = .returned (.slice none 0 0) ∧ Below w.heap.size w W' := by
  have HF := Lib.hid hf
  have HS := Lib.hid hS
  have HC := Lib.hid hc
  have hl := hf.1
  clear hf hS hc
  have hz := paths_zero
  go_enter Tryd.func39, Tryd.ntmps39
  go_wp2_with fail
  go_loopw [9] (fun i wr => ∃ k : Nat, k ≤ E ∧ i = .int .i64 k ∧ Hid (PtAt wr w.heap.size 72 (Pt.all k)) ∧ Hid (Below w.heap.size w wr)) (fun i _ => E - (intOf i).toNat)
  case atStart => exact ⟨0, by omega, rfl, by rw [Pt.all_zero]; exact PtAt.new w _ _, (Below.refl _ w).alloc (Nat.le_refl _) _⟩
  case round =>
    obtain ⟨k, hk, rfl, HK, HB⟩ := hrel
    by_cases hlt : k < E
    · have g0 := HK.out.kn (k := k) (by omega)
      have g1 := HK.out.la (k := k) (by omega)
      have z0 := HK.out.fz k
      have z1 := HK.out.fz (128 + k)
      have hk64 : (k : Int) < 64 := by omega
      go_wp2_with fail
      have hP := (HK.out.set_kn (k := k) (by omega) true).set_la (k := k) (by omega) (-1)
      rw [Pt.all_succ] at hP
      exact ⟨⟨k + 1, by omega, by go_num, hP, (HB.out.setCell (p := ⟨w.heap.size, k, none⟩) (Nat.le_refl _) (.bool true)).setCell (p := ⟨w.heap.size, 128 + k, none⟩) (Nat.le_refl _) (.int .i64 (-1))⟩, by simp [intOf]; omega⟩
    · obtain rfl : k = E := by omega
      go_wp2_with fail
      refine (relax_of wr w.heap.size (Pt.all k) f k len c a HF.out (fun i => by simp [Pt.all]) HK.out (HS.out.keep (by decide) HB.out) (fun b o hp e => ?_)).mono ?_
      · obtain ⟨b2, o2, e2, hI⟩ := HS.out hp
        rw [e] at e2
        cases e2
        have := hI.lt (by omega)
        omega
      rintro e W2 ⟨rfl, hP2, hX2⟩
      have hB2 : Below w.heap.size w W2 := HB.out.trans ⟨hX2.os, hX2.tape, hX2.output, hX2.size, fun j hj => hX2.block j (by have := HK.out.lt; omega) (by omega)⟩
      have hcl := HC.out
      unfold clash at hcl
      clear hP2 hX2
      generalize (relS f len k (Pt.all k) (-1)).2 = r2 at hcl ⊢
      go_wp2_with fail
      go_ret
      exact ⟨rfl, hB2⟩

theorem bchk_of {E n : Nat} {f : Nat → Int} (h : BOk E n f) : bchk E n f = 0 := by
  unfold bchk
  rw [if_neg (by have := h.1; omega)]
  refine first_zero fun i hi => ?_
  unfold bdAt bdErr
  have := h.2 i hi
  rw [if_neg (by omega)]

set_option maxRecDepth 100000 in
set_option maxHeartbeats 4000000 in
theorem checkClash_none (w : World) (f : Nat → Int) (E len c : Nat) (a : Option Addr) (hf : BOk E len f) (hS : Sl w 3 a len f) (hc : clash f len E < 0) :
    Calls Tryd.prog 23 #[.int .i64 (E : Int), .slice a len c] w fun e W' => e = .returned (.int .i64 0) ∧ Below w.heap.size w W' := by
  have HF := Lib.hid hf
  have HS := Lib.hid hS
  have HC := Lib.hid hc
  clear hf hS hc
  go_enter Tryd.func23, Tryd.ntmps23
  go_wp2_with fail
  refine (check_of w E a len c f HS.out).mono ?_
  rintro e w1 ⟨rfl, hB1⟩
  rw [bchk_of HF.out]
  have HB1 := Lib.hid hB1
  clear hB1
  go_wp2_with fail
  refine (round_none w1 f E len c a HF.out (HS.out.keep (by decide) HB1.out) HC.out).mono ?_
  rintro e w2 ⟨rfl, hB2⟩
  have HB2 := Lib.hid hB2
  clear hB2
  go_wp2_with fail
  go_ret
  exact ⟨rfl, HB1.out.trans (HB2.out.mono HB1.out.size)⟩
end Go.Proofs.YtmdniebedflpbaaDoor
