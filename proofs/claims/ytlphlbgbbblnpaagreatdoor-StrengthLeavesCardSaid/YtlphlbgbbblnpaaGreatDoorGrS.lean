/-
  WALKS: spans with whole ends: Hull, Mul; Has.
-/
import Derived.Test.YtlphlbgbbblnpaaGreatDoorGrR
namespace Go.Proofs.YtlphlbgbbblnpaaGreatDoor
open Go.RowKit

theorem mk_sub (i j e : Int) : Dy.mk i e - Dy.mk j e = Dy.mk (i - j) e := by
  have h : Dy.mk i e - Dy.mk j e = Dy.mk i e + -(Dy.mk j e) := by grind
  rw [h, Dy.mk_neg, Dy.mk_add, Int.sub_eq_add_neg]
theorem sgn_mk (i : Int) : (Dy.sgn (Dy.mk i 0) < 0 ↔ i < 0) ∧ (Dy.sgn (Dy.mk i 0) > 0 ↔ 0 < i) := by
  rcases (by omega : i < 0 ∨ i = 0 ∨ 0 < i) with h | h | h
  · rw [Dy.sgn_neg (Dy.mk_neg' h)]; omega
  · subst h
    rw [Dy.mk_zero, Dy.sgn_zero]; omega
  · rw [Dy.sgn_pos (Dy.mk_pos h)]; omega
theorem lo_step (a b : Int) : (if Dy.sgn (Dy.mk b 0 - Dy.mk a 0) < 0 then Dy.mk b 0 else Dy.mk a 0) = Dy.mk (min a b) 0 := by
  rw [mk_sub]
  by_cases h : b < a
  · rw [if_pos ((sgn_mk _).1.2 (by omega)), Int.min_eq_right (by omega)]
  · rw [if_neg (fun e => by have := (sgn_mk _).1.1 e; omega), Int.min_eq_left (by omega)]
theorem hi_step (a b : Int) : (if Dy.sgn (Dy.mk b 0 - Dy.mk a 0) > 0 then Dy.mk b 0 else Dy.mk a 0) = Dy.mk (max a b) 0 := by
  rw [mk_sub]
  by_cases h : a < b
  · rw [if_pos ((sgn_mk _).2.2 (by omega)), Int.max_eq_right (by omega)]
  · rw [if_neg (fun e => by have := (sgn_mk _).2.1 e; omega), Int.max_eq_left (by omega)]
theorem hullLo_int (a b c d : Int) : Dy.hullLo (Dy.mk a 0) (g3 (Dy.mk b 0) (Dy.mk c 0) (Dy.mk d 0)) 3 = Dy.mk (min (min (min a b) c) d) 0 := by
  have e1 : Dy.hullLo (Dy.mk a 0) (g3 (Dy.mk b 0) (Dy.mk c 0) (Dy.mk d 0)) 1 = Dy.mk (min a b) 0 := lo_step a b
  have e2 : Dy.hullLo (Dy.mk a 0) (g3 (Dy.mk b 0) (Dy.mk c 0) (Dy.mk d 0)) 2 = Dy.mk (min (min a b) c) 0 := by
    show (if Dy.sgn (Dy.mk c 0 - Dy.hullLo (Dy.mk a 0) (g3 (Dy.mk b 0) (Dy.mk c 0) (Dy.mk d 0)) 1) < 0 then Dy.mk c 0 else Dy.hullLo (Dy.mk a 0) (g3 (Dy.mk b 0) (Dy.mk c 0) (Dy.mk d 0)) 1) = _
    rw [e1]; exact lo_step _ _
  show (if Dy.sgn (Dy.mk d 0 - Dy.hullLo (Dy.mk a 0) (g3 (Dy.mk b 0) (Dy.mk c 0) (Dy.mk d 0)) 2) < 0 then Dy.mk d 0 else Dy.hullLo (Dy.mk a 0) (g3 (Dy.mk b 0) (Dy.mk c 0) (Dy.mk d 0)) 2) = _
  rw [e2]; exact lo_step _ _
theorem hullHi_int (a b c d : Int) : Dy.hullHi (Dy.mk a 0) (g3 (Dy.mk b 0) (Dy.mk c 0) (Dy.mk d 0)) 3 = Dy.mk (max (max (max a b) c) d) 0 := by
  have e1 : Dy.hullHi (Dy.mk a 0) (g3 (Dy.mk b 0) (Dy.mk c 0) (Dy.mk d 0)) 1 = Dy.mk (max a b) 0 := hi_step a b
  have e2 : Dy.hullHi (Dy.mk a 0) (g3 (Dy.mk b 0) (Dy.mk c 0) (Dy.mk d 0)) 2 = Dy.mk (max (max a b) c) 0 := by
    show (if Dy.sgn (Dy.mk c 0 - Dy.hullHi (Dy.mk a 0) (g3 (Dy.mk b 0) (Dy.mk c 0) (Dy.mk d 0)) 1) > 0 then Dy.mk c 0 else Dy.hullHi (Dy.mk a 0) (g3 (Dy.mk b 0) (Dy.mk c 0) (Dy.mk d 0)) 1) = _
    rw [e1]; exact hi_step _ _
  show (if Dy.sgn (Dy.mk d 0 - Dy.hullHi (Dy.mk a 0) (g3 (Dy.mk b 0) (Dy.mk c 0) (Dy.mk d 0)) 2) > 0 then Dy.mk d 0 else Dy.hullHi (Dy.mk a 0) (g3 (Dy.mk b 0) (Dy.mk c 0) (Dy.mk d 0)) 2) = _
  rw [e2]; exact hi_step _ _
/-- A span with whole ends. -/
def SpI (w : World) (v : Value) (a b : Int) : Prop := Dy.Sp w v (Dy.mk a 0) (Dy.mk b 0)
theorem SpI.keep {w w' : World} {v : Value} {a b : Int} (h : SpI w v a b) (hb : Below w.heap.size w w') : SpI w' v a b := Dy.Sp.keep h hb
theorem bx {a : Int} (h : a.natAbs < 1099511627776) : Dy.Box (Dy.mk a 0) 40 0 := ⟨a, rfl, h⟩
theorem shull_int (w : World) (v1 v2 : Value) (a b c d lo hi : Int) (h1 : SpI w v1 a b) (h2 : SpI w v2 c d) (ha : a.natAbs < 1099511627776) (hb : b.natAbs < 1099511627776) (hc : c.natAbs < 1099511627776) (hd : d.natAbs < 1099511627776)
    (hlo : min (min (min a b) c) d = lo) (hhi : max (max (max a b) c) d = hi) (hT : Dy.Tab w) :
    Calls Tryz.prog 187 #[v1, v2] w (Dy.Ret w fun w' v => SpI w' v lo hi) := by
  have h := shull_nm w v1 v2 _ _ _ _ 40 0 h1 h2 (bx ha) (bx hb) (bx hc) (bx hd) (by omega) hT
  rw [hullLo_int, hullHi_int, hlo, hhi] at h
  exact h
theorem smul_int (w : World) (v1 v2 : Value) (a b c d lo hi : Int) (h1 : SpI w v1 a b) (h2 : SpI w v2 c d) (ha : a.natAbs < 1099511627776) (hb : b.natAbs < 1099511627776) (hc : c.natAbs < 1099511627776) (hd : d.natAbs < 1099511627776)
    (hlo : min (min (min (a * c) (a * d)) (b * c)) (b * d) = lo) (hhi : max (max (max (a * c) (a * d)) (b * c)) (b * d) = hi) (hT : Dy.Tab w) :
    Calls Tryz.prog 133 #[v1, v2] w (Dy.Ret w fun w' v => SpI w' v lo hi) := by
  have h := smul_nm w v1 v2 _ _ _ _ 40 0 h1 h2 (bx ha) (bx hb) (bx hc) (bx hd) (by omega) hT
  rw [Dy.mk_mul, Dy.mk_mul, Dy.mk_mul, Dy.mk_mul] at h
  rw [show (0 : Int) + 0 = 0 from rfl, hullLo_int, hullHi_int, hlo, hhi] at h
  exact h
set_option maxHeartbeats 4000000 in
/-- A number below the span is not in it. -/
theorem has_no (w : World) (v u : Value) (a b z : Int) (h1 : SpI w v a b) (h2 : Dy.Nm w u (Dy.mk z 0)) (ha : a.natAbs < 1099511627776) (hz : z.natAbs < 1099511627776) (hlt : z < a) (hT : Dy.Tab w) :
    Calls Tryz.prog 186 #[v, u] w fun e w' => e = .returned (.bool false) ∧ Below w.heap.size w w' := by
  obtain ⟨a1, p1, n1, k1, e1, a2, p2, n2, k2, e2, rfl, h11, h12⟩ := h1
  have H1 := Lib.hid h11
  have H2 := Lib.hid h2
  have HT := Lib.hid hT
  obtain ⟨a3, p3, n3, k3, e3, m3, rfl, _, _⟩ := h2.fields
  have hs : Hid (Dy.sgn (Dy.mk a 0 - Dy.mk z 0) > 0) := by rw [mk_sub]; exact Lib.hid ((sgn_mk _).2.2 (by omega))
  clear h11 h12 h2 hT
  go_enter Tryz.func186, Tryz.ntmps186
  go_wp2_with fail
  obtain ⟨W, hW⟩ : ∃ W, (w.alloc (.cells #[.bool a1, .slice p1 n1 k1, .int .i64 e1, .bool a2, .slice p2 n2 k2, .int .i64 e2] 116)).alloc (.cells #[.bool a3, .slice p3 n3 k3, .int .i64 e3] 75) = W := ⟨_, rfl⟩
  rw [hW]
  have hB : Below w.heap.size w W := by rw [← hW]; exact ((Below.refl _ _).alloc (Nat.le_refl _) _).alloc (by simp) _
  have HB := Lib.hid hB
  clear hW hB
  refine (Dy.cmp_nm W _ _ _ _ 40 0 40 0 (H1.out.keep HB.out) (H2.out.keep HB.out) (bx ha) (bx hz) (by omega) (HT.out.keep HB.out)).mono ?_
  rintro e W2 ⟨rfl, hB2⟩
  have HB2 := Lib.hid (HB.out.trans (hB2.mono HB.out.size))
  clear hB2
  generalize Dy.sgn (Dy.mk a 0 - Dy.mk z 0) = s at hs ⊢
  have hs1 : ¬ s ≤ 0 := by have := hs.out; omega
  clear hs
  go_wp2_with fail
  go_ret
  exact ⟨rfl, HB2.out⟩
end Go.Proofs.YtlphlbgbbblnpaaGreatDoor
