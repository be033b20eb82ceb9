/-
  WALKS: the first item that a tool does not pass, by the program.
-/
import Derived.Test.YtbpifllkimkokaaDoorLnG
namespace Go.Proofs.YtbpifllkimkokaaDoor
open Go.RowKit

theorem firstNot_at {p : Nat → Bool} {n i : Nat} (hi : i < n) (h : ∀ j, j < i → p j = true) (hp : p i = false) : firstNot p n = (i : Int) := by
  unfold firstNot
  have e : (List.range n).find? (fun i => !p i) = some i := by
    rw [List.find?_range_eq_some]
    refine ⟨by simp [hp], by simpa using hi, fun j hj => ?_⟩
    simp [h j hj]
  rw [e]
theorem firstNot_none {p : Nat → Bool} {n : Nat} (h : ∀ j, j < n → p j = true) : firstNot p n = -1 := by
  unfold firstNot
  have e : (List.range n).find? (fun i => !p i) = none := by
    rw [List.find?_eq_none]
    intro x hx
    simp [h x (by simpa using hx)]
  rw [e]

set_option maxRecDepth 8000 in
set_option maxHeartbeats 1600000 in
theorem pass1_of (w : World) (bt : Nat) (K L O W G M R S T N Q : Int) (hL : 1 ≤ L ∧ L ≤ 16777216) (hO : 1 ≤ O ∧ O ≤ 2097152) (hW : 1 ≤ W ∧ W ≤ 131072) (hR : 0 ≤ R ∧ R ≤ 67108864)
    (hS : 1 ≤ S ∧ S ≤ 16777216) (hT : 1 ≤ T ∧ T ≤ 16777216) (hN : 1 ≤ N ∧ N ≤ 16777216) (hQ : 1 ≤ Q ∧ Q ≤ 16777216)
    (t0 : w.cell? ⟨bt, 0, none⟩ = some (.int .i64 S)) (t1 : w.cell? ⟨bt, 1, none⟩ = some (.int .i64 T)) (t2 : w.cell? ⟨bt, 2, none⟩ = some (.int .i64 N)) (t3 : w.cell? ⟨bt, 3, none⟩ = some (.int .i64 Q)) :
    Calls Tryd.prog 77 #[.agg #[.int .i64 K, .int .i64 L, .int .i64 O, .int .i64 W, .int .i64 G, .int .i64 M, .int .i64 R], .pointer (some ⟨bt, 0, none⟩)] w fun e w' => e = .returned (.bool (!psV K L O W R S T N Q)) ∧ Below w.heap.size w w' := by
  have l0 : bt < w.heap.size := World.block_lt_of_cell? w _ t0
  obtain ⟨E, hE⟩ : ∃ E, E = psV K L O W R S T N Q := ⟨_, rfl⟩
  have HP : Hid (∀ w', Calls Tryd.prog 78 #[.agg #[.int .i64 K, .int .i64 L, .int .i64 O, .int .i64 W, .int .i64 G, .int .i64 M, .int .i64 R], .agg #[.int .i64 S, .int .i64 T, .int .i64 N, .int .i64 Q]] w' fun e w2 => e = .returned (.bool E) ∧ Below w'.heap.size w' w2) := fun w' => by
    rw [hE]; exact passes_of w' K L O W G M R S T N Q hL hO hW hR hS hT hN hQ
  rw [← hE]
  clear hE hL hO hW hR hS hT hN hQ
  go_enter Tryd.func77, Tryd.ntmps77
  go_wp2_with (go_at_call 78; refine (HP.out _).mono ?_; rintro e w2 ⟨rfl, hb2⟩)
  go_ret
  exact ⟨rfl, ((Below.refl _ _).alloc (Nat.le_refl _) _).trans (hb2.mono (by simp))⟩

set_option maxRecDepth 8000 in
set_option maxHeartbeats 1600000 in
theorem index_of (w : World) (a : Option Addr) (n c : Nat) (f : Nat → Int) (bt : Nat) (S T N Q : Int) (hn : n ≤ 70) (hv : ∀ i, i < n → itAt f i = 0) (hA : Sl w 7 a n f)
    (hS : 1 ≤ S ∧ S ≤ 16777216) (hT : 1 ≤ T ∧ T ≤ 16777216) (hN : 1 ≤ N ∧ N ≤ 16777216) (hQ : 1 ≤ Q ∧ Q ≤ 16777216)
    (t0 : w.cell? ⟨bt, 0, none⟩ = some (.int .i64 S)) (t1 : w.cell? ⟨bt, 1, none⟩ = some (.int .i64 T)) (t2 : w.cell? ⟨bt, 2, none⟩ = some (.int .i64 N)) (t3 : w.cell? ⟨bt, 3, none⟩ = some (.int .i64 Q)) :
    Calls Tryd.prog 76 #[.slice a n c, .func (.func 77) #[] #[.pointer (some ⟨bt, 0, none⟩)]] w fun e w' => e = .returned (.int .i64 (firstNot (psAt f S T N Q) n)) ∧ Below w.heap.size w w' := by
  have l0 : bt < w.heap.size := World.block_lt_of_cell? w _ t0
  have HA := Lib.hid hA
  have HV := Lib.hid hv
  have HT : Hid (w.cell? ⟨bt, 0, none⟩ = some (.int .i64 S) ∧ w.cell? ⟨bt, 1, none⟩ = some (.int .i64 T) ∧ w.cell? ⟨bt, 2, none⟩ = some (.int .i64 N) ∧ w.cell? ⟨bt, 3, none⟩ = some (.int .i64 Q)) := ⟨t0, t1, t2, t3⟩
  have HR : Hid ((1 ≤ S ∧ S ≤ 16777216) ∧ (1 ≤ T ∧ T ≤ 16777216) ∧ (1 ≤ N ∧ N ≤ 16777216) ∧ (1 ≤ Q ∧ Q ≤ 16777216)) := ⟨hS, hT, hN, hQ⟩
  clear hA hv t0 t1 t2 t3 hS hT hN hQ
  obtain ⟨E, hE⟩ : ∃ E, E = firstNot (psAt f S T N Q) n := ⟨_, rfl⟩
  rw [← hE]
  have HE := Lib.hid hE
  clear hE
  go_enter Tryd.func76, Tryd.ntmps76
  go_wp2
  go_loopw [8] (fun vi wr => ∃ i : Nat, i ≤ n ∧ vi = .int .i64 i ∧ Hid (∀ j, j < i → psAt f S T N Q j = true) ∧ Hid (Below w.heap.size w wr)) (fun vi _ => n - (intOf vi).toNat)
  case atStart => exact ⟨0, by omega, rfl, fun j hj => by omega, Below.refl _ _⟩
  case round =>
    obtain ⟨i, hi, rfl, HI, HB⟩ := hrel
    by_cases hlt : i < n
    · obtain ⟨b, o, rfl, hI⟩ := HA.out (by omega)
      have hI2 := hI.keep HB.out (hI.lt (by omega))
      have d0 := hI2 (i * 7) (by omega)
      have d1 := hI2.at (i * 7) 1 (by omega)
      have d2 := hI2.at (i * 7) 2 (by omega)
      have d3 := hI2.at (i * 7) 3 (by omega)
      have d4 := hI2.at (i * 7) 4 (by omega)
      have d5 := hI2.at (i * 7) 5 (by omega)
      have d6 := hI2.at (i * 7) 6 (by omega)
      have hx : ∀ o, wr.cell? ⟨bt, o, none⟩ = w.cell? ⟨bt, o, none⟩ := fun o => HB.out.cell (p := ⟨bt, o, none⟩) l0
      have hv := itErr_ok (HV.out i hlt)
      have HC : Hid (Calls Tryd.prog 77 #[.agg #[.int .i64 (f (i * 7)), .int .i64 (f (i * 7 + 1)), .int .i64 (f (i * 7 + 2)), .int .i64 (f (i * 7 + 3)), .int .i64 (f (i * 7 + 4)), .int .i64 (f (i * 7 + 5)), .int .i64 (f (i * 7 + 6))], .pointer (some ⟨bt, 0, none⟩)] wr fun e w' => e = .returned (.bool (!psAt f S T N Q i)) ∧ Below wr.heap.size wr w') :=
        pass1_of wr bt _ _ _ _ _ _ _ S T N Q hv.2.1 hv.2.2.1 hv.2.2.2.1 ⟨hv.2.2.2.2.2.2.1, hv.2.2.2.2.2.2.2.1⟩ HR.out.1 HR.out.2.1 HR.out.2.2.1 HR.out.2.2.2 ((hx 0).trans HT.out.1) ((hx 1).trans HT.out.2.1) ((hx 2).trans HT.out.2.2.1) ((hx 3).trans HT.out.2.2.2)
      clear hI hI2 hx hv
      by_cases hp : psAt f S T N Q i = true
      · rw [hp] at HC
        have HI2 : Hid (∀ j, j < i + 1 → psAt f S T N Q j = true) := fun j hj => by
          by_cases ej : j = i
          · subst ej; exact hp
          · exact HI.out j (by omega)
        clear hp
        go_wp2_with fail
        refine HC.out.mono ?_
        rintro e w2 ⟨rfl, hb2⟩
        have HB2 : Hid (Below w.heap.size w w2) := HB.out.trans (hb2.mono HB.out.size)
        clear hb2
        go_wp2
        exact ⟨⟨i + 1, by omega, by go_num, HI2, HB2⟩, by simp [intOf]; omega⟩
      · have hp2 : psAt f S T N Q i = false := by simpa using hp
        rw [hp2] at HC
        have hE : E = (i : Int) := by rw [HE.out]; exact firstNot_at hlt HI.out hp2
        have HE2 := Lib.hid hE
        clear hp hp2 hE
        go_wp2_with fail
        refine HC.out.mono ?_
        rintro e w2 ⟨rfl, hb2⟩
        have HB2 : Hid (Below w.heap.size w w2) := HB.out.trans (hb2.mono HB.out.size)
        clear hb2
        go_wp2
        go_ret
        exact ⟨by rw [HE2.out]; rfl, HB2.out⟩
    · obtain rfl : i = n := by omega
      have hE : E = -1 := by rw [HE.out]; exact firstNot_none HI.out
      have HE2 := Lib.hid hE
      clear hE
      go_wp2
      go_ret
      exact ⟨by rw [HE2.out]; rfl, HB.out⟩
end Go.Proofs.YtbpifllkimkokaaDoor
