/-
  WALKS AND WORDS: Num1 Num2 Num3 of my texts, one behind the other.
-/
import Derived.Test.YtmdniebedflpbaaDoorDyA
import Derived.Test.YtmdniebedflpbaaDoorDyF
import Derived.Deep.RegionWith
import Derived.Deep.RegionHeld3
-- Num1: WALKS: numbers: build, Zero, Int.
namespace Go.Proofs.YtmdniebedflpbaaDoor.Dy
open Go.RowKit

theorem Nt.slice {w : World} {v : Value} {m : Nat} (h : Nt w v m) : ∃ p n c, v = .slice p n c := by
  rcases h with ⟨rfl, _⟩ | ⟨b, o, n, cap, f, rfl, _⟩
  · exact ⟨_, _, _, rfl⟩
  · exact ⟨_, _, _, rfl⟩

/-- Block g holds no digit. -/
def NoDig (w : World) (g : Nat) : Prop := ∀ o x, w.cell? ⟨g, o, none⟩ ≠ some (.int .u64 x)
theorem NoDig.keep {w w' : World} {g B : Nat} (h : NoDig w g) (hb : Below B w w') (hB : g < B) : NoDig w' g :=
  fun o x => by rw [hb.cell (p := ⟨g, o, none⟩) hB]; exact h o x
theorem NoDig.setCell {w : World} {g : Nat} (h : NoDig w g) {a : Addr} {v : Value} (hv : ∀ x, v ≠ .int .u64 x) : NoDig (w.setCell a v) g := by
  intro o x
  by_cases e : a = ⟨g, o, none⟩
  · subst e
    cases hc : w.cell? ⟨g, o, none⟩ with
    | none =>
      intro h2
      have : (w.setCell ⟨g, o, none⟩ v).cell? ⟨g, o, none⟩ = none := by
        simp only [World.setCell, World.cell?, Array.getElem?_modify] at hc ⊢
        cases hh : w.heap[g]? with
        | none => simp
        | some ob =>
          cases ob <;> simp_all
      rw [this] at h2; cases h2
    | some u =>
      rw [World.cell?_setCell_same _ _ _ hc]
      intro h2; exact hv x (Option.some.inj h2)
  · rw [World.cell?_setCell_other _ _ _ _ e]; exact h o x
theorem NoDig.setBool {w : World} {g : Nat} (h : NoDig w g) {a : Addr} {b : Bool} : NoDig (w.setCell a (.bool b)) g := h.setCell (by intro x h; cases h)
theorem NoDig.setSlice {w : World} {g : Nat} (h : NoDig w g) {a : Addr} {p : Option Addr} {n c : Nat} : NoDig (w.setCell a (.slice p n c)) g := h.setCell (by intro x h; cases h)
theorem NoDig.setInt {w : World} {g : Nat} (h : NoDig w g) {a : Addr} {i : Int} : NoDig (w.setCell a (.int .i64 i)) g := h.setCell (by intro x h; cases h)
theorem noDig_num (w : World) (a : Bool) (b : Value) (c : Int) (t : TypeId) (hb : ∀ x, b ≠ .int .u64 x := by intro x h; cases h) : NoDig (w.alloc (.cells #[.bool a, b, .int .i64 c] t)) w.heap.size := by
  intro o x
  rw [cell_of_row _ _ o _ _ _ (heap_alloc_new w _)]
  match o with
  | 0 => simp
  | 1 => simpa using hb x
  | 2 => simp
  | o + 3 => simp
theorem noDig_at {w : World} {g : Nat} (hg : g = w.heap.size) {a : Bool} {b : Value} {c : Int} {t : TypeId} (hb : ∀ x, b ≠ .int .u64 x := by intro x h; cases h) : NoDig (w.alloc (.cells #[.bool a, b, .int .i64 c] t)) g := by
  subst hg; exact noDig_num w a b c t hb
theorem Nt.set {w : World} {v : Value} {m : Nat} (h : Nt w v m) {g i : Nat} (hd : NoDig w g) {x : Value} : Nt (w.setCell ⟨g, i, none⟩ x) v m := by
  rcases h with h | ⟨b, o, n, cap, f, hv, hn, hc, hr, hs, hl, hm⟩
  · exact .inl h
  · have hne : b ≠ g := by
      rintro rfl
      have := hr 0 hn
      exact hd _ _ this
    exact .inr ⟨b, o, n, cap, f, hv, hn, hc, fun j hj => by rw [World.cell?_setCell_other _ _ _ _ (by intro e; simp only [Addr.mk.injEq] at e; omega)]; exact hr j hj, hs, hl, hm⟩

/-- A number in memory. -/
def Nm (w : World) (v : Value) (x : Dyadic) : Prop :=
  ∃ (neg : Bool) (lv : Value) (e : Int) (m : Nat), v = .agg #[.bool neg, lv, .int .i64 e] ∧ Nt w lv m ∧ Canon neg m e x
theorem Nm.keep {w w' : World} {v : Value} {x : Dyadic} (h : Nm w v x) (hb : Below w.heap.size w w') : Nm w' v x := by
  obtain ⟨neg, lv, e, m, hv, hn, hc⟩ := h
  exact ⟨neg, lv, e, m, hv, hn.keep hb, hc⟩
theorem Nm.zero (w : World) : Nm w (.agg #[.bool false, .slice none 0 0, .int .i64 0]) 0 :=
  ⟨false, _, 0, 0, rfl, .inl ⟨rfl, rfl⟩, .inl ⟨rfl, rfl, rfl, rfl⟩⟩

theorem len_two {m A L : Nat} (h : m < 2 ^ A) (hA : A ≤ 64 * L) : Len m L := by
  unfold Len
  have e : base ^ L = 2 ^ (64 * L) := by rw [Nat.pow_mul]; rfl
  rw [e]
  exact Nat.lt_of_lt_of_le h (Nat.pow_le_pow_right (by decide) hA)
theorem Len.mono {m L L' : Nat} (h : Len m L) (hL : L ≤ L') : Len m L' := Nat.lt_of_lt_of_le h (Nat.pow_le_pow_right base_pos hL)
theorem Len.div {m L : Nat} (h : Len m L) (d : Nat) : Len (m / d) L := Nat.lt_of_le_of_lt (Nat.div_le_self _ _) h
theorem len_val {f : Nat → Nat} {n : Nat} (hs : Small f n) : Len (val f n) n := val_lt hs

set_option maxHeartbeats 800000 in
theorem build_nil (w : World) (neg : Bool) (c : Nat) (e : Int) :
    Calls Tryd.prog 28 #[.bool neg, .slice none 0 c, .int .i64 e] w fun e w' => e = .returned (.agg #[.bool false, .slice none 0 0, .int .i64 0]) ∧ Below w.heap.size w w' := by
  go_enter Tryd.func28, Tryd.ntmps28
  go_wp2
  exact bodyPost_ret (v := .agg #[.bool false, .slice none 0 0, .int .i64 0]) (by simp [results, Tryd.results28, go_sem]) rfl ⟨rfl, by repeat (first | exact Below.refl _ _ | (refine Below.setCell ?_ (by simp) _) | (refine Below.alloc ?_ (by simp) _))⟩

set_option maxHeartbeats 1600000 in
theorem build_some (w : World) (neg : Bool) (b o n c : Nat) (f : Nat → Nat) (e : Int) (hn0 : 0 < n) (hn : n ≤ 200000000) (hc : n ≤ c) (he1 : -100000000000 ≤ e) (he2 : e ≤ 100000000000)
    (hT : Tab w) (hr : Row w b o n f) (hs : Small f n) (hl : f (n - 1) ≠ 0) :
    Calls Tryd.prog 28 #[.bool neg, .slice (some ⟨b, o, none⟩) n c, .int .i64 e] w (Ret w fun w' v => Nm w' v (mk (sg neg (val f n)) e)) := by
  have hnb : ((n : Int) == 0) = false := by rw [beq_eq_false_iff_ne]; omega
  have HL : Hid (Len (val f n) 400000000000) := (len_val hs).mono (by omega)
  go_enter Tryd.func28, Tryd.ntmps28
  go_wp2_with fail
  refine (trailing_core _ b o n c f hn0 (by omega) (hT.keep ((Below.refl _ _).alloc (Nat.le_refl _) _)) (hr.keep ((Below.refl _ _).alloc (Nat.le_refl _) _) (hr.lt hn0)) hs hl).mono ?_
  rintro e1 w1 ⟨⟨t, q, rfl, ht, hval⟩, rfl⟩
  have HV := Lib.hid hval
  clear hval
  go_wp2_with fail
  have hb0 : Below w.heap.size w (w.alloc (.cells #[.bool false, .slice none 0 0, .int .i64 0] 51)) := (Below.refl _ _).alloc (Nat.le_refl _) _
  refine (right_nt _ (.slice (some ⟨b, o, none⟩) n c) (val f n) t (.inr ⟨b, o, n, c, f, rfl, hn0, hc, hr.keep hb0 (hr.lt hn0), hs, hl, rfl⟩) HL.out (by omega)).mono ?_
  rintro e2 w2 ⟨v2, rfl, hv2, hb2⟩
  have hq : val f n / 2 ^ t = 2 * q + 1 := by rw [HV.out]; exact Nat.mul_div_cancel_left _ (Nat.two_pow_pos t)
  rw [hq] at hv2
  clear hq
  have c0 : w2.cell? ⟨w.heap.size, 0, none⟩ = some (.bool false) := (hb2.cell (p := ⟨w.heap.size, 0, none⟩) (by simp)).trans (by go_simp)
  have c1 : w2.cell? ⟨w.heap.size, 1, none⟩ = some (.slice none 0 0) := (hb2.cell (p := ⟨w.heap.size, 1, none⟩) (by simp)).trans (by go_simp)
  have c2 : w2.cell? ⟨w.heap.size, 2, none⟩ = some (.int .i64 0) := (hb2.cell (p := ⟨w.heap.size, 2, none⟩) (by simp)).trans (by go_simp)
  have z0 : w2.frozen? ⟨w.heap.size, 0, none⟩ = false := (hb2.frozen (p := ⟨w.heap.size, 0, none⟩) (by simp)).trans (by go_simp)
  have z1 : w2.frozen? ⟨w.heap.size, 1, none⟩ = false := (hb2.frozen (p := ⟨w.heap.size, 1, none⟩) (by simp)).trans (by go_simp)
  have z2 : w2.frozen? ⟨w.heap.size, 2, none⟩ = false := (hb2.frozen (p := ⟨w.heap.size, 2, none⟩) (by simp)).trans (by go_simp)
  have hsz : w.heap.size < w2.heap.size := by have := hb2.size; simp at this; omega
  have HD : Hid (NoDig w2 w.heap.size) := (noDig_num w _ _ _ _).keep hb2 (by simp)
  have HB : Hid (Below w.heap.size w w2) := hb0.trans (hb2.mono (by simp))
  have HN : Hid (Nt w2 v2 (2 * q + 1)) := hv2
  clear hb0 hb2 hv2
  obtain ⟨p2, n2, k2, rfl⟩ := HN.out.slice
  go_wp2
  refine bodyPost_ret (v := .agg #[.bool neg, .slice p2 n2 k2, .int .i64 (e + t)]) (by simp [results, Tryd.results28, go_sem, c0, c1, c2]) rfl ⟨_, rfl, ⟨neg, _, _, _, rfl, ((HN.out.set HD.out).set (HD.out.setBool)).set (HD.out.setBool.setSlice), canon_build HV.out⟩, ?_⟩
  exact ((HB.out.setCell (Nat.le_refl _) _).setCell (Nat.le_refl _) _).setCell (Nat.le_refl _) _

/-- A number out of a sign, a natural number and an exponent. -/
theorem build_nm (w : World) (neg : Bool) (v : Value) (m : Nat) (e : Int) (hv : Nt w v m) (hL : Len m 200000000) (he1 : -100000000000 ≤ e) (he2 : e ≤ 100000000000) (hT : Tab w) :
    Calls Tryd.prog 28 #[.bool neg, v, .int .i64 e] w (Ret w fun w' v => Nm w' v (mk (sg neg m) e)) := by
  rcases hv with ⟨rfl, rfl⟩ | ⟨b, o, n, cap, f, rfl, hn, hc, hr, hs, hl, rfl⟩
  · refine (build_nil w neg 0 e).mono ?_
    rintro e' w' ⟨rfl, hb⟩
    rw [sg_zero]
    exact ⟨_, rfl, Nm.zero _, hb⟩
  · exact build_some w neg b o n cap f e hn (len_le hn hl hL) hc he1 he2 hT hr hs hl
end Go.Proofs.YtmdniebedflpbaaDoor.Dy
-- Num2: WALKS: numbers: Zero, Neg, Int.
namespace Go.Proofs.YtmdniebedflpbaaDoor.Dy
open Go.RowKit

theorem Nm.fields {w : World} {v : Value} {x : Dyadic} (h : Nm w v x) : ∃ (neg : Bool) (p : Option Addr) (n c : Nat) (e : Int) (m : Nat), v = .agg #[.bool neg, .slice p n c, .int .i64 e] ∧ Nt w (.slice p n c) m ∧ Canon neg m e x := by
  obtain ⟨neg, lv, e, m, rfl, hn, hc⟩ := h
  obtain ⟨p, n, c, rfl⟩ := hn.slice
  exact ⟨neg, p, n, c, e, m, rfl, hn, hc⟩
theorem Nt.len_zero {w : World} {p : Option Addr} {n c m : Nat} (h : Nt w (.slice p n c) m) : n = 0 ↔ m = 0 := by
  rcases h with ⟨h, rfl⟩ | ⟨b, o, n', cap, f, h, hn, hc, hr, hs, hl, rfl⟩
  · cases h; simp
  · cases h
    have := val_ge hn hl
    have hp : 0 < base ^ (n - 1) := Nat.pow_pos base_pos
    omega

set_option maxHeartbeats 400000 in
theorem zero_yes (w : World) (neg : Bool) (p : Option Addr) (c : Nat) (e : Int) :
    Calls Tryd.prog 27 #[.agg #[.bool neg, .slice p 0 c, .int .i64 e]] w fun e w' => e = .returned (.bool true) ∧ Below w.heap.size w w' := by
  go_enter Tryd.func27, Tryd.ntmps27
  go_wp2
  go_ret
  exact ⟨rfl, (Below.refl _ _).alloc (Nat.le_refl _) _⟩
set_option maxHeartbeats 400000 in
theorem zero_no (w : World) (neg : Bool) (p : Option Addr) (n c : Nat) (e : Int) (hn : n ≠ 0) :
    Calls Tryd.prog 27 #[.agg #[.bool neg, .slice p n c, .int .i64 e]] w fun e w' => e = .returned (.bool false) ∧ Below w.heap.size w w' := by
  have hb : ((n : Int) == 0) = false := by rw [beq_eq_false_iff_ne]; omega
  go_enter Tryd.func27, Tryd.ntmps27
  go_wp2
  go_ret
  exact ⟨rfl, (Below.refl _ _).alloc (Nat.le_refl _) _⟩
/-- x = 0? -/
theorem zero_nm (w : World) (v : Value) (x : Dyadic) (h : Nm w v x) :
    Calls Tryd.prog 27 #[v] w fun e w' => e = .returned (.bool (decide (x = 0))) ∧ Below w.heap.size w w' := by
  obtain ⟨neg, p, n, c, e, m, rfl, hn, hc⟩ := h.fields
  by_cases h0 : x = 0
  · have : n = 0 := hn.len_zero.2 (hc.zero_iff.2 h0)
    subst this
    rw [decide_eq_true h0]
    exact zero_yes w neg p c e
  · rw [decide_eq_false h0]
    exact zero_no w neg p n c e (fun h => h0 (hc.zero_iff.1 (hn.len_zero.1 h)))

/-- What a number's box holds. -/
theorem Below.trans' {B : Nat} {a b c : World} (h : Below B a b) (k : Below b.heap.size b c) (hB : B ≤ b.heap.size) : Below B a c := h.trans (k.mono hB)

/-- What lay below reads as it did. -/
theorem bcell {W w1 : World} (hb : Below W.heap.size W w1) : (∀ b o, b < W.heap.size → w1.cell? ⟨b, o, none⟩ = W.cell? ⟨b, o, none⟩) ∧ (∀ b o, b < W.heap.size → w1.frozen? ⟨b, o, none⟩ = W.frozen? ⟨b, o, none⟩) :=
  ⟨fun b o h => hb.cell (p := ⟨b, o, none⟩) h, fun b o h => hb.frozen (p := ⟨b, o, none⟩) h⟩

/-- A number's three fields laid into a box that holds no digit. -/
theorem Nm.laid {w : World} {a : Bool} {b : Value} {c : Int} {x : Dyadic} (h : Nm w (.agg #[.bool a, b, .int .i64 c]) x) {g : Nat} (hd : NoDig w g) {i j k : Nat} :
    Nm (((w.setCell ⟨g, i, none⟩ (.bool a)).setCell ⟨g, j, none⟩ b).setCell ⟨g, k, none⟩ (.int .i64 c)) (.agg #[.bool a, b, .int .i64 c]) x := by
  obtain ⟨neg, lv, e, m, hv, hn, hc⟩ := h
  obtain ⟨p, n, cc, rfl⟩ := hn.slice
  simp only [Value.agg.injEq, Array.mk.injEq, List.cons.injEq, Value.bool.injEq, Value.int.injEq, and_true, true_and] at hv
  obtain ⟨rfl, rfl, rfl⟩ := hv
  exact ⟨a, _, c, m, rfl, ((hn.set hd).set hd.setBool).set hd.setBool.setSlice, hc⟩

theorem sg_false (m : Nat) : sg false m = m := rfl
theorem abs_val {neg : Bool} {m : Nat} {e : Int} {x : Dyadic} (h : Canon neg m e x) : mk (sg false m) e = if x < 0 then -x else x := by
  have hs := h.sgn
  rw [h.val] at *
  cases neg
  · by_cases h0 : m = 0
    · subst h0; rw [sg_zero, mk_zero]; decide
    · have hp : 0 < mk (sg false m) e := mk_pos (by simp [sg]; omega)
      rw [if_neg (by grind)]
  · by_cases h0 : m = 0
    · subst h0; rw [sg_zero, sg_zero, mk_zero]; decide
    · have hp : mk (sg true m) e < 0 := mk_neg' (by simp [sg]; omega)
      rw [if_pos hp, mk_neg]
      congr 1
      simp [sg]
end Go.Proofs.YtmdniebedflpbaaDoor.Dy
-- Num3: WALKS: numbers: Mul.
namespace Go.Proofs.YtmdniebedflpbaaDoor.Dy
open Go.RowKit

/-- Two numbers' boxes, side by side, and all that lay below. -/
def Two (g : Nat) (a1 : Bool) (b1 : Value) (c1 : Int) (a2 : Bool) (b2 : Value) (c2 : Int) (w : World) : Prop :=
  w.cell? ⟨g, 0, none⟩ = some (.bool a1) ∧ w.cell? ⟨g, 1, none⟩ = some b1 ∧ w.cell? ⟨g, 2, none⟩ = some (.int .i64 c1) ∧
  w.cell? ⟨g + 1, 0, none⟩ = some (.bool a2) ∧ w.cell? ⟨g + 1, 1, none⟩ = some b2 ∧ w.cell? ⟨g + 1, 2, none⟩ = some (.int .i64 c2)

theorem Two.keep {g : Nat} {a1 : Bool} {b1 : Value} {c1 : Int} {a2 : Bool} {b2 : Value} {c2 : Int} {w w' : World} (h : Two g a1 b1 c1 a2 b2 c2 w) {B : Nat} (hb : Below B w w') (hB : g + 1 < B) : Two g a1 b1 c1 a2 b2 c2 w' := by
  obtain ⟨h1, h2, h3, h4, h5, h6⟩ := h
  have k0 : g < B := by omega
  exact ⟨(hb.cell k0).trans h1, (hb.cell k0).trans h2, (hb.cell k0).trans h3, (hb.cell hB).trans h4, (hb.cell hB).trans h5, (hb.cell hB).trans h6⟩

theorem Two.held {g : Nat} {a1 : Bool} {b1 : Value} {c1 : Int} {a2 : Bool} {b2 : Value} {c2 : Int} {w w' : World} (h : Two g a1 b1 c1 a2 b2 c2 w) (hb : Below (g + 1 + 1) w w') :
    (w'.cell? ⟨g, 0, none⟩ = some (.bool a1) ∧ w'.cell? ⟨g, 1, none⟩ = some b1 ∧ w'.cell? ⟨g, 2, none⟩ = some (.int .i64 c1) ∧
    w'.cell? ⟨g + 1, 0, none⟩ = some (.bool a2) ∧ w'.cell? ⟨g + 1, 1, none⟩ = some b2 ∧ w'.cell? ⟨g + 1, 2, none⟩ = some (.int .i64 c2)) ∧ Below (g + 1 + 1) w w' := ⟨h.keep hb (by omega), hb⟩

theorem Two.held3 {g : Nat} {a1 : Bool} {b1 : Value} {c1 : Int} {a2 : Bool} {b2 : Value} {c2 : Int} {w w' : World} (h : Two g a1 b1 c1 a2 b2 c2 w) (hb : Below w.heap.size w w') (hz : g + 1 + 1 < w.heap.size) {x y z : Value} :
    ((((w'.setCell ⟨g + 1 + 1, 0, none⟩ x).setCell ⟨g + 1 + 1, 1, none⟩ y).setCell ⟨g + 1 + 1, 2, none⟩ z).cell? ⟨g, 0, none⟩ = some (.bool a1) ∧ (((w'.setCell ⟨g + 1 + 1, 0, none⟩ x).setCell ⟨g + 1 + 1, 1, none⟩ y).setCell ⟨g + 1 + 1, 2, none⟩ z).cell? ⟨g, 1, none⟩ = some b1 ∧ (((w'.setCell ⟨g + 1 + 1, 0, none⟩ x).setCell ⟨g + 1 + 1, 1, none⟩ y).setCell ⟨g + 1 + 1, 2, none⟩ z).cell? ⟨g, 2, none⟩ = some (.int .i64 c1) ∧
    (((w'.setCell ⟨g + 1 + 1, 0, none⟩ x).setCell ⟨g + 1 + 1, 1, none⟩ y).setCell ⟨g + 1 + 1, 2, none⟩ z).cell? ⟨g + 1, 0, none⟩ = some (.bool a2) ∧ (((w'.setCell ⟨g + 1 + 1, 0, none⟩ x).setCell ⟨g + 1 + 1, 1, none⟩ y).setCell ⟨g + 1 + 1, 2, none⟩ z).cell? ⟨g + 1, 1, none⟩ = some b2 ∧ (((w'.setCell ⟨g + 1 + 1, 0, none⟩ x).setCell ⟨g + 1 + 1, 1, none⟩ y).setCell ⟨g + 1 + 1, 2, none⟩ z).cell? ⟨g + 1, 2, none⟩ = some (.int .i64 c2)) ∧ Below (g + 1 + 1) w (((w'.setCell ⟨g + 1 + 1, 0, none⟩ x).setCell ⟨g + 1 + 1, 1, none⟩ y).setCell ⟨g + 1 + 1, 2, none⟩ z) :=
  Two.held h ((((Below.mono (B' := g + 1 + 1) hb (by omega)).setCell (Nat.le_refl _) _).setCell (Nat.le_refl _) _).setCell (Nat.le_refl _) _)

/-- The world behind the three boxes of a method of two numbers. -/
theorem boxes3 {w W : World} {a1 : Bool} {b1 : Value} {c1 : Int} {a2 : Bool} {b2 : Value} {c2 : Int}
    (hW : W = ((w.alloc (.cells #[.bool a1, b1, .int .i64 c1] 51)).alloc (.cells #[.bool a2, b2, .int .i64 c2] 51)).alloc (.cells #[.bool false, .slice none 0 0, .int .i64 0] 51)) :
    Two w.heap.size a1 b1 c1 a2 b2 c2 W ∧ W.heap.size = w.heap.size + 1 + 1 + 1 ∧ Below w.heap.size w W ∧ NoDig W (w.heap.size + 1 + 1) ∧
    (W.cell? ⟨w.heap.size + 1 + 1, 0, none⟩ = some (.bool false) ∧ W.cell? ⟨w.heap.size + 1 + 1, 1, none⟩ = some (.slice none 0 0) ∧ W.cell? ⟨w.heap.size + 1 + 1, 2, none⟩ = some (.int .i64 0)) ∧
    (∀ o, W.frozen? ⟨w.heap.size + 1 + 1, o, none⟩ = false) := by
  subst hW
  refine ⟨⟨by go_simp, by go_simp, by go_simp, by go_simp, by go_simp, by go_simp⟩, by simp, (((Below.refl _ _).alloc (Nat.le_refl _) _).alloc (by simp) _).alloc (by simp; omega) _, noDig_at (by simp), ⟨by go_simp, by go_simp, by go_simp⟩, fun o => by go_simp⟩

end Go.Proofs.YtmdniebedflpbaaDoor.Dy
