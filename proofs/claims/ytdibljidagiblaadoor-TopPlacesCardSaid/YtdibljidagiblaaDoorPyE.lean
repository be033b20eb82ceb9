/-
  WALKS: the way back, as the program takes it; ints turned about.
-/
import Derived.Test.YtdibljidagiblaaDoorPyD
import Derived.Test.YtdibljidagiblaaDoorPxD
import Derived.Laws.AppendOwn
namespace Go.Proofs.YtdibljidagiblaaDoor
open Go.RowKit

/-- Numbers, as cells. -/
def lrow (es : List Nat) : List Value := es.map fun (i : Nat) => .int .i64 (i : Int)
theorem lrow_snoc (es : List Nat) (i : Nat) : lrow (es ++ [i]) = lrow es ++ [.int .i64 (i : Int)] := by simp [lrow]
theorem lrow_length (es : List Nat) : (lrow es).length = es.length := by simp [lrow]
theorem lrow_get (es : List Nat) {p : Nat} (h : p < es.length) : (lrow es)[p]? = some (.int .i64 (lf es p)) := by
  simp [lrow, lf, h]
theorem own_form {W : World} {B : Nat} {e : TypeId} {s : Nat} {v : Value} {n : Nat} {xs : List Value} (h : W.ownsRow B e s v n xs) : ∃ x c, v = .slice x n c := by
  rcases h.2 with ⟨rfl, h0⟩ | ⟨g, cap, cur, rfl, _⟩
  · exact ⟨none, 0, by rw [h0]⟩
  · exact ⟨_, _, rfl⟩
theorem own_ln {W : World} {B : Nat} {x : Option Addr} {n c : Nat} {es : List Nat} (h : W.ownsRow B 3 1 (.slice x n c) n (lrow es)) : Sl W 1 x n (lf es) := by
  intro hn
  obtain ⟨m, rfl⟩ : ∃ m, n = m + 1 := ⟨n - 1, by omega⟩
  obtain ⟨g, cap, e⟩ := ownsRow_succ h
  cases e
  have hl : es.length = (m + 1) * 1 := by have := h.1; rw [lrow_length] at this; exact this
  exact ⟨g, 0, rfl, fun i hi => by rw [Nat.zero_add, World.ownsRow.cellAt h i (by omega), lrow_get es (by omega)]⟩
/-- The length of a slice. -/
def sln : Value → Nat
  | .slice _ n _ => n
  | _ => 0
theorem Ends.at {f : Nat → Int} {n : Nat} {p : Pt} {v u : Nat} {es : List Nat} (h : Ends f n p v es u) {j x : Nat} (hj : j < es.length) (hx : Bk f n p v (es.take j) x) :
    ∃ i : Nat, es.take (j + 1) = es.take j ++ [i] ∧ p.la x = (i : Int) ∧ i < n ∧ bT f i = x ∧ Bk f n p v (es.take (j + 1)) (bF f i) ∧ (0 < j → x ≠ u) := by
  obtain ⟨y, h1, h2⟩ := h.1.split j
  obtain rfl := Bk.det _ hx h1
  cases hd : es.drop j with
  | nil =>
    have := congrArg List.length hd
    simp at this
    omega
  | cons i r =>
    rw [hd] at h2
    have e : es.take (j + 1) = es.take j ++ [i] := by
      have h3 : es[j]? = some i := by
        have := congrArg (·[0]?) hd
        simpa using this
      rw [List.take_add_one, h3]
      rfl
    refine ⟨i, e, h2.1, h2.2.1, h2.2.2.1, by rw [e]; exact (Bk.append _ _ _ _).2 ⟨x, hx, h2.1, h2.2.1, h2.2.2.1, rfl⟩, fun h0 hxu => ?_⟩
    subst hxu
    exact h.2.2 j h0 hj hx

set_option maxRecDepth 100000 in
set_option maxHeartbeats 4000000 in
theorem back_of (w : World) (bp : Nat) (p : Pt) (f : Nat → Int) (E n c : Nat) (a : Option Addr) (v u : Nat) (es : List Nat) (hf : BOk E n f) (hv : v < E) (hlen : es.length ≤ 64) (hE : Ends f n p v es u) (hP : PtAt w bp 117 p) (hS : Sl w 3 a n f) :
    Calls Tryd.prog 52 #[.pointer (some ⟨bp, 0, none⟩), .slice a n c, .int .i64 (u : Int), .int .i64 (v : Int)] w fun e W' => ∃ vv, e = .returned vv ∧ W'.ownsRow w.heap.size 3 1 vv es.length (lrow es) ∧ Below w.heap.size w W' := by
  obtain ⟨i0, hi0, hz0, hz1, hz2⟩ := info_parts x_int
  have HF := Lib.hid hf
  have HE := Lib.hid hE
  have HP := Lib.hid hP
  have HS := Lib.hid hS
  have hl := hf.1
  clear hf hE hP hS
  go_enter Tryd.func52, Tryd.ntmps52
  go_wp2_with fail
  go_loopw [9, 10] (fun vc vat wr => ∃ j x : Nat, j ≤ es.length ∧ vat = .int .i64 x ∧ Hid (Bk f n p v (es.take j) x) ∧ Hid (wr.ownsRow w.heap.size 3 1 vc j (lrow (es.take j))) ∧ Hid (Below w.heap.size w wr)) (fun vc _ _ => es.length - sln vc)
  case atStart => exact ⟨0, v, by omega, rfl, rfl, ⟨rfl, .inl ⟨rfl, rfl⟩⟩, Below.refl _ _⟩
  case round =>
    obtain ⟨j, x, hj, rfl, HB, HO, HW⟩ := hrel
    obtain ⟨xa, cap, rfl⟩ := own_form HO.out
    by_cases hlt : j < es.length
    · obtain ⟨i, h1, h2, h3, h4, h5, h6⟩ := HE.out.at hlt HB.out
      have hxE : x < E := Bk.lt HF.out _ hv HB.out
      obtain ⟨b, o, rfl, hI⟩ := HS.out (by omega)
      have hbl := hI.lt (by omega)
      have hpl := HP.out.lt
      have HI := Lib.hid hI
      have c1 := (HP.out.keep HW.out hpl).la (k := x) (by omega)
      rw [h2] at c1
      have H5 := Lib.hid h5
      have H1 := Lib.hid h1
      have H2 := Lib.hid h2
      have hss := HW.out.size
      have hx64 : (x : Int) < 64 := by omega
      have hin : (i : Int) < n := by omega
      have hcs : (j = 0) ∨ (0 < j ∧ ((j : Int) == 0) = false ∧ ((x : Int) != (u : Int)) = true) := by
        rcases Nat.eq_zero_or_pos j with h | h
        · exact .inl h
        · refine .inr ⟨h, by simp; omega, ?_⟩
          have := h6 h
          simp
          omega
      clear hI h5 h1 h2 h4 h6
      rcases hcs with rfl | ⟨hj0, hj1, hj2⟩
      all_goals
        go_wp2_with (at_builtin; refine wpList_append_own _ rfl _ _ 26 rfl w.heap.size 3 i0 (.int .i64 0) 1 8 Tryd.underlying26 hi0 hz0 hz1 hz2 rfl (by decide) _ _ _ rfl (HO.out.alloc _) ⟨wr.heap.size, 0, none⟩ 1 1 [.int .i64 (i : Int)] rfl rfl (cell_one _ _ _) (by simp [Value.oneCell']) (by unfold maxLen; omega) (by omega) (by simp; omega) ?_; intro v' w1 hown' hgrow _; have hB1 : Below w.heap.size w w1 := (HW.out.alloc hss _).grown hgrow (by simp; omega) (fun k hk => (HO.out.lt k hk).1); have HB1 := Lib.hid hB1; have HO1 := Lib.hid hown'; clear hB1 hown' hgrow; have c2 := (HP.out.keep HB1.out hpl).la (k := x) (by omega); rw [H2.out] at c2; have d2 := (HI.out.keep HB1.out hbl) (i * 3) (by omega); rw [(bF_eq HF.out h3).1] at d2)
        obtain ⟨xb, capb, rfl⟩ := own_form HO1.out
        refine ⟨⟨_, bF f i, hlt, rfl, H5.out, ?_, HB1.out⟩, by simp [sln]; omega⟩
        rw [H1.out, lrow_snoc]
        exact HO1.out
    · obtain rfl : j = es.length := by omega
      have hB := HB.out
      rw [List.take_of_length_le (Nat.le_refl _)] at hB
      have hO := HO.out
      rw [List.take_of_length_le (Nat.le_refl _)] at hO
      obtain rfl : x = u := Bk.det _ hB HE.out.1
      have hne : 0 < es.length := List.length_pos_iff.2 HE.out.2.1
      have hj1 : ((es.length : Int) == 0) = false := beq_eq_false_iff_ne.2 (by omega)
      have HO2 := Lib.hid hO
      clear hB hO
      go_wp2_with fail
      exact bodyPost_ret (v := .slice xa es.length cap) (by simp [results, Tryd.f52, go_sem]) rfl ⟨_, rfl, HO2.out, HW.out⟩

/-- A row of n ints, of which i have been exchanged from each end; turned about. -/
def ryG (n i : Nat) (f : Nat → Int) (p : Nat) : Int := if p < n ∧ (p < i ∨ n - i ≤ p) then f (n - 1 - p) else f p
def ryE (n : Nat) (f : Nat → Int) (p : Nat) : Int := if p < n then f (n - 1 - p) else f p
theorem ry_zero (n : Nat) (f : Nat → Int) (p : Nat) : ryG n 0 f p = f p := by unfold ryG; rw [if_neg (by omega)]
theorem ry_done {n i : Nat} (h : n ≤ 2 * i + 1) (f : Nat → Int) (p : Nat) : ryG n i f p = ryE n f p := by
  unfold ryG ryE
  by_cases h1 : p < n
  · rw [if_pos h1]
    by_cases h2 : p < i ∨ n - i ≤ p
    · rw [if_pos ⟨h1, h2⟩]
    · rw [if_neg (by omega)]; congr 1; omega
  · rw [if_neg (by omega), if_neg h1]
theorem ry_at {n i k : Nat} (hk : i + k = n - 1) (hn : 0 < n) (hlt : i < k) (f : Nat → Int) : ryG n i f i = f i ∧ ryG n i f k = f k := by
  unfold ryG
  refine ⟨?_, ?_⟩ <;> rw [if_neg (by omega)]
/-- The first cells are ints, the others whatever. -/
def mxG (n : Nat) (f : Nat → Int) (G : Nat → Value) (p : Nat) : Value := if p < n then .int .i64 (f p) else G p
theorem mx_at {n p : Nat} (f : Nat → Int) (G : Nat → Value) (h : p < n) : mxG n f G p = .int .i64 (f p) := by unfold mxG; rw [if_pos h]
theorem mx_step {n i k : Nat} (hk : i + k = n - 1) (hn : 0 < n) (hlt : i < k) (f : Nat → Int) (G : Nat → Value) (p : Nat) :
    turn (turn (mxG n (ryG n i f) G) i (.int .i64 (f k))) k (.int .i64 (f i)) p = mxG n (ryG n (i + 1) f) G p := by
  unfold turn
  by_cases e1 : p = k
  · rw [if_pos e1, mx_at _ _ (by omega)]; unfold ryG; rw [if_pos (by omega)]; congr 2; omega
  rw [if_neg e1]
  by_cases e0 : p = i
  · rw [if_pos e0, mx_at _ _ (by omega)]; unfold ryG; rw [if_pos (by omega)]; congr 2; omega
  rw [if_neg e0]
  unfold mxG
  by_cases h : p < n
  · rw [if_pos h, if_pos h]
    congr 1
    unfold ryG
    by_cases h : p < n ∧ (p < i ∨ n - i ≤ p)
    · rw [if_pos h, if_pos (by omega)]
    · rw [if_neg h, if_neg (by omega)]
  · rw [if_neg h, if_neg h]
set_option maxRecDepth 100000 in
set_option maxHeartbeats 4000000 in
theorem revI_of (w : World) (b n c N : Nat) (f : Nat → Int) (G : Nat → Value) (hB : Blk w b 3 N (mxG n f G)) (hN : n ≤ N) (hn : n ≤ 1000) :
    Calls Tryd.prog 48 #[.slice (some ⟨b, 0, none⟩) n c] w fun e w' => (∃ v, e = .returned v) ∧ Blk w' b 3 N (mxG n (ryE n f) G) ∧ BelowX w.heap.size b w w' := by
  have HB := Lib.hid hB
  clear hB
  go_enter Tryd.func48, Tryd.ntmps48
  go_wp2
  go_loopw [2, 3] (fun vi vj wr => ∃ (i : Nat) (j : Int), vi = .int .i64 i ∧ vj = .int .i64 j ∧ j < n ∧ (i : Int) ≤ j + 2 ∧ -1 ≤ j ∧ (i : Int) + j = (n : Int) - 1 ∧ Hid (Blk wr b 3 N (mxG n (ryG n i f) G)) ∧ Hid (BelowX w.heap.size b w wr)) (fun _ vj _ => (intOf vj + 1).toNat)
  case atStart => exact ⟨0, (n : Int) - 1, rfl, by rfl, by omega, by omega, by omega, by omega, HB.out.congr fun p _ => by (unfold mxG; rw [ry_zero]), BelowX.refl _ _ _⟩
  case round =>
    obtain ⟨i, j, rfl, rfl, h1, h0, h2, h3, HF, HX⟩ := hrel
    by_cases hlt : (i : Int) < j
    · obtain ⟨k, rfl⟩ : ∃ k : Nat, j = k := ⟨j.toNat, by omega⟩
      have hik : i < k := by omega
      have hkn : k < n := by omega
      have i1 : (i : Int) < n := by omega
      obtain ⟨v0, v1⟩ := ry_at (n := n) (i := i) (k := k) (by omega) (by omega) hik f
      have c0 := HF.out.cell (k := i) (by omega)
      have c1 := HF.out.cell (k := k) (by omega)
      rw [mx_at _ _ (by omega), v0] at c0
      rw [mx_at _ _ (by omega), v1] at c1
      have z := HF.out.fz
      have hst : Blk ((wr.setCell ⟨b, i, none⟩ (.int .i64 (f k))).setCell ⟨b, k, none⟩ (.int .i64 (f i))) b 3 N (mxG n (ryG n (i + 1) f) G) :=
        ((HF.out.set i (.int .i64 (f k))).set k (.int .i64 (f i))).congr fun p _ => mx_step (by omega) (by omega) hik f G p
      have HSt := Lib.hid hst
      clear hst v0 v1
      generalize f i = x0 at *
      generalize f k = x1 at *
      go_wp2
      go_region
      all_goals go_wp2
      have hX4 := HX.out.trans ((BelowX.set w.heap.size b i wr (.int .i64 x1)).trans (BelowX.set w.heap.size b k _ (.int .i64 x0)))
      exact ⟨⟨i + 1, (k : Int) - 1, by go_num, rfl, by omega, by omega, by omega, by omega, HSt.out, ⟨hX4.os, hX4.tape, hX4.output, hX4.size, hX4.block⟩⟩, by simp [intOf] <;> omega⟩
    · go_wp2
      go_end0
      exact ⟨⟨_, rfl⟩, HF.out.congr fun p _ => by (unfold mxG; rw [ry_done (by omega)]), HX.out⟩
theorem lf_rev (l : List Nat) {p : Nat} (h : p < l.length) : ryE l.length (lf l) p = lf l.reverse p := by
  unfold ryE lf
  rw [if_pos h, List.getElem?_reverse h]
theorem own_mx {w : World} {base b k cap : Nat} {l : List Nat} (h : w.ownsRow base 3 1 (.slice (some ⟨b, 0, none⟩) k cap) k (lrow l)) : k = l.length ∧ base ≤ b ∧ k ≤ cap ∧ cap ≤ maxLen ∧ ∃ G, Blk w b 3 cap (mxG k (lf l) G) := by
  obtain ⟨hl, h⟩ := h
  rw [lrow_length] at hl
  rcases h with ⟨h, _⟩ | ⟨g, cap', cur, hv, h1, h2, h3, h4, h5, h6⟩
  · cases h
  · cases hv
    refine ⟨by omega, h1, h3, h4, fun p => cur[p]!, ?_⟩
    unfold Blk
    rw [h2]
    congr 2
    apply Array.ext_getElem?
    intro p
    by_cases hp : p < cap
    · rw [vrow_get _ hp]
      unfold mxG
      by_cases h7 : p < k
      · rw [if_pos h7]
        have e1 : cur.toList[p]? = (lrow l)[p]? := by rw [← h6, List.getElem?_take, if_pos (by omega)]
        rw [Array.getElem?_toList] at e1
        rw [e1]
        exact lrow_get l (by omega)
      · rw [if_neg h7]
        simp [show p < cur.size by omega]
    · rw [Array.getElem?_eq_none (by omega), Array.getElem?_eq_none (by rw [vrow_size]; omega)]
theorem mx_own {w : World} {base b k cap : Nat} {l : List Nat} {G : Nat → Value} (h : Blk w b 3 cap (mxG k (ryE k (lf l)) G)) (hk : k = l.length) (h1 : base ≤ b) (h3 : k ≤ cap) (h4 : cap ≤ maxLen) :
    w.ownsRow base 3 1 (.slice (some ⟨b, 0, none⟩) k cap) k (lrow l.reverse) := by
  refine ⟨by rw [lrow_length, List.length_reverse, hk, Nat.mul_one], .inr ⟨b, cap, _, rfl, h1, h, h3, h4, by rw [vrow_size, Nat.mul_one], ?_⟩⟩
  apply List.ext_getElem?
  intro p
  rw [List.getElem?_take]
  by_cases hp : p < k
  · rw [if_pos (by omega), Array.getElem?_toList, vrow_get _ (by omega), mx_at _ _ hp, hk, lf_rev l (by omega), lrow_get _ (by rw [List.length_reverse]; omega)]
  · rw [if_neg (by omega), List.getElem?_eq_none (by rw [lrow_length, List.length_reverse]; omega)]
/-- What a row of its own is, turned about. -/
theorem revI_own (w : World) (base g k cap : Nat) (l : List Nat) (h : w.ownsRow base 3 1 (.slice (some ⟨g, 0, none⟩) k cap) k (lrow l)) (hl : k ≤ 1000) :
    Calls Tryd.prog 48 #[.slice (some ⟨g, 0, none⟩) k cap] w fun e w' => (∃ x, e = .returned x) ∧ w'.ownsRow base 3 1 (.slice (some ⟨g, 0, none⟩) k cap) k (lrow l.reverse) ∧ Below base w w' := by
  obtain ⟨hk0, hb, hk, hc, G, hG⟩ := own_mx h
  refine (revI_of w g k cap cap (lf l) G hG hk hl).mono ?_
  rintro e w' ⟨hx, hB, hX⟩
  refine ⟨hx, mx_own hB hk0 hb hk hc, ⟨hX.os, hX.tape, hX.output, hX.size, fun k hk2 => ?_⟩⟩
  by_cases hkw : k < w.heap.size
  · exact hX.block k hkw (by omega)
  · have := hG.lt; omega
end Go.Proofs.YtdibljidagiblaaDoor
