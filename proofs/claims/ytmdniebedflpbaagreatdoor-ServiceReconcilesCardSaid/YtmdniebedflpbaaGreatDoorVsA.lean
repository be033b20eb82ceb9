/-
  WORDS: traps; WALKS: isWithin, the error of a trap, Safe, of the program and of the reference.
-/
import Derived.Test.YtmdniebedflpbaaGreatDoorVwA
namespace Go.Proofs.YtmdniebedflpbaaGreatDoor
open Go.RowKit

/-- A trap: main, kicker, vent, purge, door; pressure, gas, pig. -/
structure Tp where
  m : Bool
  k : Bool
  v : Bool
  u : Bool
  d : Bool
  p : Int
  g : Int
  i : Int
def Tp.val (t : Tp) : Value := .agg #[.bool t.m, .bool t.k, .bool t.v, .bool t.u, .bool t.d, .int .i64 t.p, .int .i64 t.g, .int .i64 t.i]
def Tp.ok (t : Tp) : Prop := (0 ≤ t.p ∧ t.p ≤ 3) ∧ (0 ≤ t.g ∧ t.g ≤ 3) ∧ 0 ≤ t.i ∧ t.i ≤ 2
instance (t : Tp) : Decidable t.ok := by unfold Tp.ok; infer_instance
def Tp.err (t : Tp) : Int := if t.ok then 0 else 1
/-- Is an open door safe? -/
def Tp.shut (t : Tp) : Bool := t.v && !t.m && !t.k && !t.u && decide (t.p = 0) && decide (t.g = 0)
def Tp.safe (t : Tp) : Bool := decide t.ok && (!t.d || t.shut)
def Tp.tick (t : Tp) : Tp :=
  if t.m || t.k then { t with p := min (t.p + 1) 3, g := 3, i := if t.m = true ∧ min (t.p + 1) 3 = 3 ∧ t.k = true ∧ t.i = 1 then 2 else if t.m = true ∧ min (t.p + 1) 3 = 3 ∧ t.k = false ∧ t.i = 2 then 1 else t.i }
  else if t.v then { t with p := max (t.p - 1) 0, g := if t.u then max (t.g - 1) 0 else t.g }
  else if t.u then { t with p := min (t.p + 1) 3 }
  else t
def Tp.beh (t : Tp) : Nat → Tp
  | 0 => { t with m := true }
  | 1 => { t with m := false }
  | 2 => { t with k := true }
  | 3 => { t with k := false }
  | 4 => { t with v := true }
  | 5 => { t with v := false }
  | 6 => { t with u := true }
  | 7 => { t with u := false }
  | 8 => { t with d := true }
  | 9 => { t with d := false }
  | 10 => { t with i := 1 }
  | 11 => { t with i := 0 }
  | _ => t.tick
def Tp.alw (t : Tp) : Nat → Bool
  | 0 => !t.m && !t.d && !t.u
  | 1 => t.m
  | 2 => !t.k && !t.d && !t.u
  | 3 => t.k
  | 4 => !t.v
  | 5 => t.v && !t.d
  | 6 => !t.u && !t.d && !t.m && !t.k
  | 7 => t.u
  | 8 => !t.d && ({ t with d := true } : Tp).safe
  | 9 => t.d
  | 10 => t.d && decide (t.i = 0)
  | 11 => t.d && decide (t.i = 1)
  | _ => true
theorem Tp.tick_ok {t : Tp} (h : t.ok) : t.tick.ok := by
  obtain ⟨h1, h2, h3⟩ := h
  unfold Tp.tick
  split
  · refine ⟨⟨by simp only; omega, by simp only; omega⟩, ⟨by simp only; omega, by simp only; omega⟩, ?_⟩
    simp only
    split
    · omega
    · split <;> omega
  · split
    · refine ⟨⟨by simp only; omega, by simp only; omega⟩, ?_, h3⟩
      simp only
      split <;> omega
    · split
      · exact ⟨⟨by simp only; omega, by simp only; omega⟩, h2, h3⟩
      · exact ⟨h1, h2, h3⟩
theorem Tp.beh_ok {t : Tp} (h : t.ok) (c : Nat) : (t.beh c).ok := by
  unfold Tp.beh
  split <;> first | exact Tp.tick_ok h | exact h | exact ⟨h.1, h.2.1, by simp, by simp⟩

set_option maxHeartbeats 1000000 in
theorem vwithin_of (b : Bool) (w : World) (x lo hi : Int) (h : b = decide (lo ≤ x ∧ x ≤ hi)) :
    Calls Tryz.prog 44 #[.int .i64 x, .int .i64 lo, .int .i64 hi] w fun e w' => e = .returned (.bool b) ∧ w' = w := by
  go_enter Tryz.func44, Tryz.ntmps44
  by_cases h1 : lo ≤ x
  · by_cases h2 : x ≤ hi
    · obtain rfl : b = true := by rw [h, decide_eq_true_iff]; omega
      clear h
      go_wp2
      go_ret
      refine ⟨?_, rfl⟩
      first | rfl | (congr 2; simp; omega)
    · obtain rfl : b = false := by rw [h, decide_eq_false_iff_not]; omega
      clear h
      go_wp2
      go_ret
      refine ⟨?_, rfl⟩
      first | rfl | (congr 2; simp; omega)
  · obtain rfl : b = false := by rw [h, decide_eq_false_iff_not]; omega
    clear h
    go_wp2
    go_ret
    exact ⟨rfl, rfl⟩

/-- A new block with a trap's cells. -/
theorem Tp.new (w : World) (t : Tp) (T : TypeId) {W : World} (h : w.alloc (.cells #[.bool t.m, .bool t.k, .bool t.v, .bool t.u, .bool t.d, .int .i64 t.p, .int .i64 t.g, .int .i64 t.i] T) = W) :
    Below w.heap.size w W ∧ W.heap[w.heap.size]? = some (.cells #[.bool t.m, .bool t.k, .bool t.v, .bool t.u, .bool t.d, .int .i64 t.p, .int .i64 t.g, .int .i64 t.i] T (0, 0)) := by
  subst h
  exact ⟨(Below.refl _ _).alloc (Nat.le_refl _) _, new_heap w _⟩

set_option maxHeartbeats 4000000 in
theorem checkTrap_of (w : World) (t : Tp) : Calls Tryz.prog 13 #[t.val] w fun e w' => e = .returned (.int .i64 t.err) ∧ Below w.heap.size w w' := by
  obtain ⟨m, k, v, u, d, p, g, i⟩ := t
  have HI : Hid (∀ b w x lo hi, b = decide (lo ≤ x ∧ x ≤ hi) → Calls Tryz.prog 44 #[.int .i64 x, .int .i64 lo, .int .i64 hi] w fun e w' => e = .returned (.bool b) ∧ w' = w) := fun b w x lo hi h => vwithin_of b w x lo hi h
  have hE : (Tp.mk m k v u d p g i).err = if (0 ≤ p ∧ p ≤ 3) ∧ (0 ≤ g ∧ g ≤ 3) ∧ 0 ≤ i ∧ i ≤ 2 then 0 else 1 := rfl
  obtain ⟨e0, he0⟩ : ∃ e0, (Tp.mk m k v u d p g i).err = e0 := ⟨_, rfl⟩
  rw [he0]
  have HE := Lib.hid (he0.symm.trans hE)
  clear he0 hE
  dsimp only [Tp.val]
  go_enter Tryz.func13, Tryz.ntmps13
  go_upto_region 1 with fail
  obtain ⟨W, hW⟩ : ∃ W, w.alloc (.cells #[.bool m, .bool k, .bool v, .bool u, .bool d, .int .i64 p, .int .i64 g, .int .i64 i] 23) = W := ⟨_, rfl⟩
  rw [hW]
  obtain ⟨hB, hH⟩ := Tp.new w (.mk m k v u d p g i) _ hW
  have HB := Lib.hid hB
  have s5 := cell_h (k := 5) hH rfl
  have s6 := cell_h (k := 6) hH rfl
  have s7 := cell_h (k := 7) hH rfl
  clear hB hH hW
  by_cases h1 : 0 ≤ p ∧ p ≤ 3
  · by_cases h2 : 0 ≤ g ∧ g ≤ 3
    · by_cases h3 : 0 ≤ i ∧ i ≤ 2
      · go_wp2_with fail
        refine (HI.out true _ p 0 3 (by simp; omega)).mono ?_
        rintro e w9 ⟨rfl, rfl⟩
        go_wp2_with fail
        refine (HI.out true _ g 0 3 (by simp; omega)).mono ?_
        rintro e w9 ⟨rfl, rfl⟩
        go_wp2_with fail
        refine (HI.out true _ i 0 2 (by simp; omega)).mono ?_
        rintro e w9 ⟨rfl, rfl⟩
        go_wp2_with fail
        go_ret
        exact ⟨by rw [HE.out, if_pos ⟨h1, h2, h3⟩]; rfl, HB.out⟩
      · go_wp2_with fail
        refine (HI.out true _ p 0 3 (by simp; omega)).mono ?_
        rintro e w9 ⟨rfl, rfl⟩
        go_wp2_with fail
        refine (HI.out true _ g 0 3 (by simp; omega)).mono ?_
        rintro e w9 ⟨rfl, rfl⟩
        go_wp2_with fail
        refine (HI.out false _ i 0 2 (by simp; omega)).mono ?_
        rintro e w9 ⟨rfl, rfl⟩
        go_wp2_with fail
        go_ret
        exact ⟨by rw [HE.out, if_neg (by omega)]; rfl, HB.out⟩
    · go_wp2_with fail
      refine (HI.out true _ p 0 3 (by simp; omega)).mono ?_
      rintro e w9 ⟨rfl, rfl⟩
      go_wp2_with fail
      refine (HI.out false _ g 0 3 (by simp; omega)).mono ?_
      rintro e w9 ⟨rfl, rfl⟩
      go_wp2_with fail
      go_ret
      exact ⟨by rw [HE.out, if_neg (by omega)]; rfl, HB.out⟩
  · go_wp2_with fail
    refine (HI.out false _ p 0 3 (by simp; omega)).mono ?_
    rintro e w9 ⟨rfl, rfl⟩
    go_wp2_with fail
    go_ret
    exact ⟨by rw [HE.out, if_neg (by omega)]; rfl, HB.out⟩

set_option maxHeartbeats 4000000 in
theorem rcheckTrap_of (w : World) (t : Tp) : Calls Tryz.prog 14 #[t.val] w fun e w' => e = .returned (.int .i64 t.err) ∧ Below w.heap.size w w' := by
  obtain ⟨m, k, v, u, d, p, g, i⟩ := t
  have hE : (Tp.mk m k v u d p g i).err = if (0 ≤ p ∧ p ≤ 3) ∧ (0 ≤ g ∧ g ≤ 3) ∧ 0 ≤ i ∧ i ≤ 2 then 0 else 1 := rfl
  obtain ⟨e0, he0⟩ : ∃ e0, (Tp.mk m k v u d p g i).err = e0 := ⟨_, rfl⟩
  rw [he0]
  have HE := Lib.hid (he0.symm.trans hE)
  clear he0 hE
  dsimp only [Tp.val]
  go_enter Tryz.func14, Tryz.ntmps14
  go_upto_region 1 with fail
  obtain ⟨W, hW⟩ : ∃ W, w.alloc (.cells #[.bool m, .bool k, .bool v, .bool u, .bool d, .int .i64 p, .int .i64 g, .int .i64 i] 24) = W := ⟨_, rfl⟩
  rw [hW]
  obtain ⟨hB, hH⟩ := Tp.new w (.mk m k v u d p g i) _ hW
  have HB := Lib.hid hB
  have s5 := cell_h (k := 5) hH rfl
  have s6 := cell_h (k := 6) hH rfl
  have s7 := cell_h (k := 7) hH rfl
  clear hB hH hW
  by_cases a1 : p < 0
  · go_wp2_with fail
    go_ret
    exact ⟨by rw [HE.out, if_neg (by omega)]; rfl, HB.out⟩
  by_cases a2 : 3 < p
  · go_wp2_with fail
    go_ret
    exact ⟨by rw [HE.out, if_neg (by omega)]; rfl, HB.out⟩
  by_cases a3 : g < 0
  · go_wp2_with fail
    go_ret
    exact ⟨by rw [HE.out, if_neg (by omega)]; rfl, HB.out⟩
  by_cases a4 : 3 < g
  · go_wp2_with fail
    go_ret
    exact ⟨by rw [HE.out, if_neg (by omega)]; rfl, HB.out⟩
  by_cases a5 : i < 0
  · go_wp2_with fail
    go_ret
    exact ⟨by rw [HE.out, if_neg (by omega)]; rfl, HB.out⟩
  by_cases a6 : 2 < i
  · go_wp2_with fail
    go_ret
    exact ⟨by rw [HE.out, if_neg (by omega)]; rfl, HB.out⟩
  go_wp2_with fail
  go_ret
  exact ⟨by rw [HE.out, if_pos (by omega)]; rfl, HB.out⟩

set_option maxHeartbeats 8000000 in
theorem safe_of (w : World) (t : Tp) : Calls Tryz.prog 15 #[t.val] w fun e w' => e = .returned (.bool t.safe) ∧ Below w.heap.size w w' := by
  have HC : Hid (∀ W, Calls Tryz.prog 13 #[t.val] W fun e w' => e = .returned (.int .i64 t.err) ∧ Below W.heap.size W w') := fun W => checkTrap_of W t
  obtain ⟨e0, he0⟩ : ∃ e0, t.err = e0 := ⟨_, rfl⟩
  obtain ⟨sf, hsf⟩ : ∃ sf, t.safe = sf := ⟨_, rfl⟩
  rw [hsf]
  rw [he0] at HC
  have hor : (t.ok ∧ e0 = 0 ∧ sf = (!t.d || t.shut)) ∨ (e0 = 1 ∧ sf = false) := by
    by_cases h : t.ok
    · exact .inl ⟨h, by rw [← he0]; exact if_pos h, by rw [← hsf]; unfold Tp.safe; rw [decide_eq_true h]; rfl⟩
    · exact .inr ⟨by rw [← he0]; exact if_neg h, by rw [← hsf]; unfold Tp.safe; rw [decide_eq_false h]; rfl⟩
  clear he0 hsf
  obtain ⟨m, k, v, u, d, p, g, i⟩ := t
  dsimp only [Tp.val] at HC ⊢
  go_enter Tryz.func15, Tryz.ntmps15
  go_upto_region 1 with fail
  obtain ⟨W, hW⟩ : ∃ W, w.alloc (.cells #[.bool m, .bool k, .bool v, .bool u, .bool d, .int .i64 p, .int .i64 g, .int .i64 i] 23) = W := ⟨_, rfl⟩
  rw [hW]
  obtain ⟨hB, hH⟩ := Tp.new w (.mk m k v u d p g i) _ hW
  have HB := Lib.hid hB
  have HH := Lib.hid hH
  have s0 := cell_h (k := 0) hH rfl
  have s1 := cell_h (k := 1) hH rfl
  have s2 := cell_h (k := 2) hH rfl
  have s3 := cell_h (k := 3) hH rfl
  have s4 := cell_h (k := 4) hH rfl
  have s5 := cell_h (k := 5) hH rfl
  have s6 := cell_h (k := 6) hH rfl
  have s7 := cell_h (k := 7) hH rfl
  have hs : w.heap.size < W.heap.size := (Array.getElem?_eq_some_iff.1 hH).1
  clear hB hH hW
  go_wp2_with fail
  refine (HC.out _).mono ?_
  rintro e V ⟨rfl, hV⟩
  have HV := Lib.hid (low_trans HB.out hV)
  have hH := (hV.block _ hs).trans HH.out
  clear s0 s1 s2 s3 s4 s5 s6 s7
  have s0 := cell_h (k := 0) hH rfl
  have s1 := cell_h (k := 1) hH rfl
  have s2 := cell_h (k := 2) hH rfl
  have s3 := cell_h (k := 3) hH rfl
  have s4 := cell_h (k := 4) hH rfl
  have s5 := cell_h (k := 5) hH rfl
  have s6 := cell_h (k := 6) hH rfl
  clear hV hH HB HH HC
  rcases hor with ⟨_, rfl, rfl⟩ | ⟨rfl, rfl⟩
  · dsimp only [Tp.shut]
    cases d
    · go_wp2_with fail
      go_ret
      exact ⟨rfl, HV.out⟩
    cases v
    · go_wp2_with fail
      go_ret
      exact ⟨rfl, HV.out⟩
    cases m
    rotate_left
    · go_wp2_with fail
      go_ret
      exact ⟨rfl, HV.out⟩
    cases k
    rotate_left
    · go_wp2_with fail
      go_ret
      exact ⟨rfl, HV.out⟩
    cases u
    rotate_left
    · go_wp2_with fail
      go_ret
      exact ⟨rfl, HV.out⟩
    by_cases hp : p = 0
    · subst hp
      by_cases hg : g = 0
      · subst hg
        go_wp2_with fail
        go_ret
        exact ⟨rfl, HV.out⟩
      · have hg2 : (g == 0) = false := by simpa using hg
        go_wp2_with fail
        go_ret
        exact ⟨by simp [Tp.shut, hg], HV.out⟩
    · have hp2 : (p == 0) = false := by simpa using hp
      go_wp2_with fail
      go_ret
      exact ⟨by simp [Tp.shut, hp], HV.out⟩
  · go_wp2_with fail
    go_ret
    exact ⟨rfl, HV.out⟩

set_option maxHeartbeats 8000000 in
theorem rsafe_of (w : World) (t : Tp) : Calls Tryz.prog 16 #[t.val] w fun e w' => e = .returned (.bool t.safe) ∧ Below w.heap.size w w' := by
  have HC : Hid (∀ W, Calls Tryz.prog 14 #[t.val] W fun e w' => e = .returned (.int .i64 t.err) ∧ Below W.heap.size W w') := fun W => rcheckTrap_of W t
  obtain ⟨e0, he0⟩ : ∃ e0, t.err = e0 := ⟨_, rfl⟩
  obtain ⟨sf, hsf⟩ : ∃ sf, t.safe = sf := ⟨_, rfl⟩
  rw [hsf]
  rw [he0] at HC
  have hor : (t.ok ∧ e0 = 0 ∧ sf = (!t.d || t.shut)) ∨ (e0 = 1 ∧ sf = false) := by
    by_cases h : t.ok
    · exact .inl ⟨h, by rw [← he0]; exact if_pos h, by rw [← hsf]; unfold Tp.safe; rw [decide_eq_true h]; rfl⟩
    · exact .inr ⟨by rw [← he0]; exact if_neg h, by rw [← hsf]; unfold Tp.safe; rw [decide_eq_false h]; rfl⟩
  clear he0 hsf
  obtain ⟨m, k, v, u, d, p, g, i⟩ := t
  dsimp only [Tp.val] at HC ⊢
  go_enter Tryz.func16, Tryz.ntmps16
  go_upto_region 1 with fail
  obtain ⟨W, hW⟩ : ∃ W, w.alloc (.cells #[.bool m, .bool k, .bool v, .bool u, .bool d, .int .i64 p, .int .i64 g, .int .i64 i] 24) = W := ⟨_, rfl⟩
  rw [hW]
  obtain ⟨hB, hH⟩ := Tp.new w (.mk m k v u d p g i) _ hW
  have HB := Lib.hid hB
  have HH := Lib.hid hH
  have s0 := cell_h (k := 0) hH rfl
  have s1 := cell_h (k := 1) hH rfl
  have s2 := cell_h (k := 2) hH rfl
  have s3 := cell_h (k := 3) hH rfl
  have s4 := cell_h (k := 4) hH rfl
  have s5 := cell_h (k := 5) hH rfl
  have s6 := cell_h (k := 6) hH rfl
  have s7 := cell_h (k := 7) hH rfl
  have hs : w.heap.size < W.heap.size := (Array.getElem?_eq_some_iff.1 hH).1
  clear hB hH hW
  go_wp2_with fail
  refine (HC.out _).mono ?_
  rintro e V ⟨rfl, hV⟩
  have HV := Lib.hid (low_trans HB.out hV)
  have hH := (hV.block _ hs).trans HH.out
  clear s0 s1 s2 s3 s4 s5 s6 s7
  have s0 := cell_h (k := 0) hH rfl
  have s1 := cell_h (k := 1) hH rfl
  have s2 := cell_h (k := 2) hH rfl
  have s3 := cell_h (k := 3) hH rfl
  have s4 := cell_h (k := 4) hH rfl
  have s5 := cell_h (k := 5) hH rfl
  have s6 := cell_h (k := 6) hH rfl
  clear hV hH HB HH HC
  rcases hor with ⟨_, rfl, rfl⟩ | ⟨rfl, rfl⟩
  · dsimp only [Tp.shut]
    cases d
    · go_wp2_with fail
      go_ret
      exact ⟨rfl, HV.out⟩
    cases m
    rotate_left
    · go_wp2_with fail
      go_ret
      exact ⟨by simp [Tp.shut], HV.out⟩
    cases k
    rotate_left
    · go_wp2_with fail
      go_ret
      exact ⟨by simp [Tp.shut], HV.out⟩
    cases u
    rotate_left
    · go_wp2_with fail
      go_ret
      exact ⟨by simp [Tp.shut], HV.out⟩
    cases v
    · go_wp2_with fail
      go_ret
      exact ⟨rfl, HV.out⟩
    by_cases hp : p = 0
    · subst hp
      by_cases hg : g = 0
      · subst hg
        go_wp2_with fail
        go_ret
        exact ⟨rfl, HV.out⟩
      · have hg2 : (g == 0) = false := by simpa using hg
        go_wp2_with fail
        go_ret
        exact ⟨by simp [Tp.shut, hg], HV.out⟩
    · have hp2 : (p == 0) = false := by simpa using hp
      go_wp2_with fail
      go_ret
      exact ⟨by simp [Tp.shut, hp], HV.out⟩
  · go_wp2_with fail
    go_ret
    exact ⟨rfl, HV.out⟩
end Go.Proofs.YtmdniebedflpbaaGreatDoor
