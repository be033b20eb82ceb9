/-
  WALKS AND WORDS: Num8 Num9 Num10 of my texts, one behind the other.
-/
import Derived.Test.YtlphlbgbbblnpaaGreatDoorDyH
-- Num8: WALKS: numbers: difference, Sub.
namespace Go.Proofs.YtlphlbgbbblnpaaGreatDoor.Dy
open Go.RowKit

theorem meth_neg (a : Bool) (p : Option Addr) (n c : Nat) (e : Int) (w : World) : (method 387 75 (.agg #[.bool a, .slice p n c, .int .i64 e]) "Neg").run Tryz.prog w = .ok (231, .agg #[.bool a, .slice p n c, .int .i64 e]) w := by kernel_rfl
theorem meth_add (a : Bool) (p : Option Addr) (n c : Nat) (e : Int) (w : World) : (method 387 75 (.agg #[.bool a, .slice p n c, .int .i64 e]) "Add").run Tryz.prog w = .ok (85, .agg #[.bool a, .slice p n c, .int .i64 e]) w := by kernel_rfl
set_option maxHeartbeats 3200000 in
theorem diff_nm (w : World) (v1 v2 : Value) (x y : Dyadic) (A E B F : Nat) (h1 : Nm w v1 x) (h2 : Nm w v2 y) (hx : Box x A E) (hy : Box y B F) (hAE : A + E + B + F ≤ 1000000000) (hT : Tab w) :
    Calls Tryz.prog 105 #[v1, v2] w (Ret w fun w' v => Nm w' v (x - y)) := by
  have hxy : x - y = x + -y := by grind
  rw [hxy]
  have H1 := Lib.hid h1
  have H2 := Lib.hid h2
  obtain ⟨a1, p1, n1, k1, e1, m1, rfl, hn1, hc1⟩ := h1.fields
  obtain ⟨a2, p2, n2, k2, e2, m2, rfl, hn2, hc2⟩ := h2.fields
  have HX := Lib.hid hx
  have HY := Lib.hid hy
  have HT := Lib.hid hT
  have hmn := meth_neg a2 p2 n2 k2 e2
  have hma := meth_add a1 p1 n1 k1 e1
  clear hxy h1 h2 hx hy hT hn1 hn2 hc1 hc2
  go_enter Tryz.func105, Tryz.ntmps105
  go_wp2
  obtain ⟨W, hW⟩ : ∃ W, W = ((w.alloc (.cells #[.bool a1, .slice p1 n1 k1, .int .i64 e1] 75)).alloc (.cells #[.bool a2, .slice p2 n2 k2, .int .i64 e2] 75)).alloc (.cells #[.bool false, .slice none 0 0, .int .i64 0] 75) := ⟨_, rfl⟩
  rw [← hW]
  obtain ⟨hTwo, hsz, hB0, hND, ⟨r0, r1, r2⟩, hfr⟩ := boxes3 hW
  have HS : Hid (W.heap.size = w.heap.size + 1 + 1 + 1 ∧ Below w.heap.size w W ∧ NoDig W (w.heap.size + 1 + 1)) := ⟨hsz, hB0, hND⟩
  have hS0 : Two w.heap.size a1 (.slice p1 n1 k1) e1 a2 (.slice p2 n2 k2) e2 W ∧ Below (w.heap.size + 1 + 1) W W := ⟨hTwo, Below.refl _ _⟩
  have hz : w.heap.size + 1 + 1 < W.heap.size := by omega
  unfold Two at hS0
  have hbW : Below w.heap.size w W.drew := hB0.drew
  have HC := Lib.hid (neg_nm W.drew _ y B F (H2.out.keep hbW) HY.out (by omega) (HT.out.keep hbW))
  clear hW hsz hB0 hND hTwo hbW
  go_region_held3 (fun W' => (W'.cell? ⟨w.heap.size, 0, none⟩ = some (.bool a1) ∧ W'.cell? ⟨w.heap.size, 1, none⟩ = some (.slice p1 n1 k1) ∧ W'.cell? ⟨w.heap.size, 2, none⟩ = some (.int .i64 e1) ∧
    W'.cell? ⟨w.heap.size + 1, 0, none⟩ = some (.bool a2) ∧ W'.cell? ⟨w.heap.size + 1, 1, none⟩ = some (.slice p2 n2 k2) ∧ W'.cell? ⟨w.heap.size + 1, 2, none⟩ = some (.int .i64 e2)) ∧ Below (w.heap.size + 1 + 1) W W')
    (first | (exact ⟨hS0.1, hS0.2.drew⟩) | (exact Two.held hS0.1 (Below.mono (B := W.heap.size) (by assumption) (by omega))) | (exact Two.held3 hS0.1 hB4 hz))
    (first
      | (go_at_call 231; refine HC.out.mono ?_; rintro e3 W1 ⟨v3, rfl, hv3, hb3⟩; (have hB3 : Below W.heap.size W W1 := (Below.refl _ _).drew.trans hb3))
      | (go_at_call 85; refine (add_nm _ _ v3 x (-y) A E B F (H1.out.keep (HS.out.2.1.trans (hB3.mono (by omega)))) hv3 HX.out HY.out.neg hAE (HT.out.keep (HS.out.2.1.trans (hB3.mono (by omega))))).mono ?_; rintro e4 W2 ⟨v4, rfl, hv4, hb4⟩; (have hB4 : Below W.heap.size W W2 := hB3.trans (hb4.mono hB3.size)); obtain ⟨a4, p4, n4, k4, e4, m4, rfl, hn4, hc4⟩ := hv4.fields; obtain ⟨hcc, hff⟩ := bcell hB4))
  have HD : Hid (NoDig W2 (w.heap.size + 1 + 1)) := HS.out.2.2.keep hB4 hz
  have HB : Hid (Below w.heap.size w W2) := HS.out.2.1.trans (hB4.mono (by omega))
  have H4 := Lib.hid hv4
  clear hb3 hB3 hb4 hB4 hv4 hn4 hc4 hv3
  go_wp2
  refine bodyPost_ret (v := .agg #[.bool a4, .slice p4 n4 k4, .int .i64 e4]) (by simp [results, Tryz.results105, go_sem, hcc, hz, r0, r1, r2]) rfl ⟨_, rfl, H4.out.laid HD.out, ?_⟩
  exact ((HB.out.setCell (by simp; omega) _).setCell (by simp; omega) _).setCell (by simp; omega) _

set_option maxHeartbeats 3200000 in
/-- x - y. -/
theorem sub_nm (w : World) (v1 v2 : Value) (x y : Dyadic) (A E B F : Nat) (h1 : Nm w v1 x) (h2 : Nm w v2 y) (hx : Box x A E) (hy : Box y B F) (hAE : A + E + B + F ≤ 1000000000) (hT : Tab w) :
    Calls Tryz.prog 72 #[v1, v2] w (Ret w fun w' v => Nm w' v (x - y)) := by
  have H1 := Lib.hid h1
  have H2 := Lib.hid h2
  obtain ⟨a1, p1, n1, k1, e1, m1, rfl, hn1, hc1⟩ := h1.fields
  obtain ⟨a2, p2, n2, k2, e2, m2, rfl, hn2, hc2⟩ := h2.fields
  have HX := Lib.hid hx
  have HY := Lib.hid hy
  have HT := Lib.hid hT
  clear h1 h2 hx hy hT hn1 hn2 hc1 hc2
  go_enter Tryz.func72, Tryz.ntmps72
  go_wp2_with fail
  obtain ⟨W, hW⟩ : ∃ W, W = ((w.alloc (.cells #[.bool a1, .slice p1 n1 k1, .int .i64 e1] 75)).alloc (.cells #[.bool a2, .slice p2 n2 k2, .int .i64 e2] 75)).alloc (.cells #[.bool false, .slice none 0 0, .int .i64 0] 75) := ⟨_, rfl⟩
  rw [← hW]
  obtain ⟨hTwo, hsz, hB0, hND, ⟨r0, r1, r2⟩, hfr⟩ := boxes3 hW
  have HS : Hid (W.heap.size = w.heap.size + 1 + 1 + 1 ∧ Below w.heap.size w W ∧ NoDig W (w.heap.size + 1 + 1)) := ⟨hsz, hB0, hND⟩
  have hz : w.heap.size + 1 + 1 < W.heap.size := by omega
  refine (diff_nm W _ _ x y A E B F (H1.out.keep hB0) (H2.out.keep hB0) HX.out HY.out hAE (HT.out.keep hB0)).mono ?_
  clear hW hsz hB0 hND hTwo
  rintro e4 W2 ⟨v4, rfl, hv4, hB4⟩
  obtain ⟨a4, p4, n4, k4, e4, m4, rfl, hn4, hc4⟩ := hv4.fields
  obtain ⟨hcc, hff⟩ := bcell hB4
  have HD : Hid (NoDig W2 (w.heap.size + 1 + 1)) := HS.out.2.2.keep hB4 hz
  have HB : Hid (Below w.heap.size w W2) := HS.out.2.1.trans (hB4.mono (by omega))
  have H4 := Lib.hid hv4
  clear hB4 hv4 hn4 hc4
  go_wp2
  refine bodyPost_ret (v := .agg #[.bool a4, .slice p4 n4 k4, .int .i64 e4]) (by simp [results, Tryz.results72, go_sem, hcc, hz, r0, r1, r2]) rfl ⟨_, rfl, H4.out.laid HD.out, ?_⟩
  exact ((HB.out.setCell (by simp; omega) _).setCell (by simp; omega) _).setCell (by simp; omega) _
end Go.Proofs.YtlphlbgbbblnpaaGreatDoor.Dy
-- Num9: WALKS: numbers: Sign, Cmp.
namespace Go.Proofs.YtlphlbgbbblnpaaGreatDoor.Dy
open Go.RowKit

set_option maxHeartbeats 1600000 in
theorem sign_zero (w : World) (a : Bool) (p : Option Addr) (k : Nat) (e : Int) :
    Calls Tryz.prog 71 #[.agg #[.bool a, .slice p 0 k, .int .i64 e]] w fun e w' => e = .returned (.int .i64 0) ∧ Below w.heap.size w w' := by
  go_enter Tryz.func71, Tryz.ntmps71
  go_wp2_with fail
  refine (zero_yes _ a p k e).mono ?_
  rintro e3 W1 ⟨rfl, hb1⟩
  have HB := Lib.hid (((Below.refl w.heap.size w).alloc (Nat.le_refl _) (.cells #[.bool a, .slice p 0 k, .int .i64 e] 75)).trans (hb1.mono (by simp)))
  obtain ⟨hcc, hff⟩ := bcell hb1
  clear hb1
  go_wp2
  go_ret
  exact ⟨rfl, HB.out⟩
set_option maxHeartbeats 1600000 in
theorem sign_some (w : World) (a : Bool) (p : Option Addr) (n k : Nat) (e : Int) (hn : n ≠ 0) :
    Calls Tryz.prog 71 #[.agg #[.bool a, .slice p n k, .int .i64 e]] w fun e w' => e = .returned (.int .i64 (if a then -1 else 1)) ∧ Below w.heap.size w w' := by
  cases a
  · go_enter Tryz.func71, Tryz.ntmps71
    go_wp2_with fail
    refine (zero_no _ false p n k e hn).mono ?_
    rintro e3 W1 ⟨rfl, hb1⟩
    have HB := Lib.hid (((Below.refl w.heap.size w).alloc (Nat.le_refl _) (.cells #[.bool false, .slice p n k, .int .i64 e] 75)).trans (hb1.mono (by simp)))
    obtain ⟨hcc, hff⟩ := bcell hb1
    clear hb1
    go_wp2
    go_ret
    exact ⟨rfl, HB.out⟩
  · go_enter Tryz.func71, Tryz.ntmps71
    go_wp2_with fail
    refine (zero_no _ true p n k e hn).mono ?_
    rintro e3 W1 ⟨rfl, hb1⟩
    have HB := Lib.hid (((Below.refl w.heap.size w).alloc (Nat.le_refl _) (.cells #[.bool true, .slice p n k, .int .i64 e] 75)).trans (hb1.mono (by simp)))
    obtain ⟨hcc, hff⟩ := bcell hb1
    clear hb1
    go_wp2
    go_ret
    exact ⟨rfl, HB.out⟩
/-- The sign. -/
theorem sign_nm (w : World) (v : Value) (x : Dyadic) (h : Nm w v x) :
    Calls Tryz.prog 71 #[v] w fun e w' => e = .returned (.int .i64 (sgn x)) ∧ Below w.heap.size w w' := by
  obtain ⟨a, p, n, k, e, m, rfl, hn, hc⟩ := h.fields
  rw [hc.sgn]
  by_cases h0 : n = 0
  · subst h0
    rw [if_pos (hn.len_zero.1 rfl)]
    exact sign_zero w a p k e
  · rw [if_neg (fun h => h0 (hn.len_zero.2 h))]
    exact sign_some w a p n k e h0

set_option maxHeartbeats 1600000 in
/-- The sign of the difference. -/
theorem cmp_nm (w : World) (v1 v2 : Value) (x y : Dyadic) (A E B F : Nat) (h1 : Nm w v1 x) (h2 : Nm w v2 y) (hx : Box x A E) (hy : Box y B F) (hAE : A + E + B + F ≤ 1000000000) (hT : Tab w) :
    Calls Tryz.prog 26 #[v1, v2] w fun e w' => e = .returned (.int .i64 (sgn (x - y))) ∧ Below w.heap.size w w' := by
  have H1 := Lib.hid h1
  have H2 := Lib.hid h2
  obtain ⟨a1, p1, n1, k1, e1, m1, rfl, hn1, hc1⟩ := h1.fields
  obtain ⟨a2, p2, n2, k2, e2, m2, rfl, hn2, hc2⟩ := h2.fields
  have HX := Lib.hid hx
  have HY := Lib.hid hy
  have HT := Lib.hid hT
  clear h1 h2 hx hy hT hn1 hn2 hc1 hc2
  go_enter Tryz.func26, Tryz.ntmps26
  go_wp2_with fail
  obtain ⟨W, hW⟩ : ∃ W, W = (w.alloc (.cells #[.bool a1, .slice p1 n1 k1, .int .i64 e1] 75)).alloc (.cells #[.bool a2, .slice p2 n2 k2, .int .i64 e2] 75) := ⟨_, rfl⟩
  rw [← hW]
  have hB0 : Below w.heap.size w W := by rw [hW]; exact ((Below.refl _ _).alloc (Nat.le_refl _) _).alloc (by simp) _
  refine (sub_nm W _ _ x y A E B F (H1.out.keep hB0) (H2.out.keep hB0) HX.out HY.out hAE (HT.out.keep hB0)).mono ?_
  clear hW
  rintro e4 W2 ⟨v4, rfl, hv4, hB4⟩
  have HB : Hid (Below w.heap.size w W2) := hB0.trans (hB4.mono hB0.size)
  have H4 := Lib.hid hv4
  clear hB4 hv4 hB0
  go_wp2_with fail
  refine (sign_nm W2 v4 (x - y) H4.out).mono ?_
  rintro e5 W3 ⟨rfl, hb5⟩
  have HB3 : Hid (Below w.heap.size w W3) := HB.out.trans (hb5.mono HB.out.size)
  clear hb5
  go_wp2
  go_ret
  exact ⟨rfl, HB3.out⟩
end Go.Proofs.YtlphlbgbbblnpaaGreatDoor.Dy
-- Num10: WALKS: limbs.over by one digit; Over.
namespace Go.Proofs.YtlphlbgbbblnpaaGreatDoor.Dy
open Go.RowKit

theorem Nt.of_row {w : World} {b o n cap : Nat} {f : Nat → Nat} (hn : 0 < n) (hc : n ≤ cap) (hr : Row w b o n f) (hs : Small f n) (hl : f (n - 1) ≠ 0) : Nt w (.slice (some ⟨b, o, none⟩) n cap) (val f n) :=
  .inr ⟨b, o, n, cap, f, rfl, hn, hc, hr, hs, hl, rfl⟩

/-- slices.Clone of a number. -/
theorem clone_nt (w : World) (v : Value) (m : Nat) (h : Nt w v m) (l : Len m 400000000000) :
    Calls Tryz.prog 145 #[v] w (Ret w fun w' v => Nt w' v m) := by
  rcases h with ⟨rfl, rfl⟩ | ⟨b, o, n, cap, f, rfl, hn, hc, hr, hs, hl, rfl⟩
  · refine (clone_nil w 0 0).mono ?_
    rintro e w' ⟨rfl, rfl⟩
    exact ⟨_, rfl, .inl ⟨rfl, rfl⟩, Below.refl _ _⟩
  · have hL := len_le hn hl l
    refine (clone_row w b o n cap f (by omega) hr).mono ?_
    rintro e w' ⟨g, k, rfl, hg, hk, hW, hR, hB⟩
    exact ⟨_, rfl, Nt.of_row hn hk hR hs hl, hB⟩

/-- Two values handed back, in memory of the call's own. -/
def Ret2 (w : World) (Q : World → Value → Value → Prop) (e : Ending) (w' : World) : Prop :=
  ∃ v1 v2, e = .returned (.tuple #[v1, v2]) ∧ Q w' v1 v2 ∧ Below w.heap.size w w'

set_option maxHeartbeats 1600000 in
theorem over_less (w : World) (p1 : Option Addr) (n1 k1 : Nat) (v2 : Value) (m1 m2 : Nat) (h1 : Nt w (.slice p1 n1 k1) m1) (h2 : Nt w v2 m2) (l1 : Len m1 400000000000) (l2 : Len m2 400000000000) (hlt : m1 < m2) :
    Calls Tryz.prog 141 #[.slice p1 n1 k1, v2] w (Ret2 w fun w' a b => Nt w' a (m1 / m2) ∧ Nt w' b (m1 % m2)) := by
  have HQ : Hid (m1 / m2 = 0 ∧ m1 % m2 = m1) := ⟨Nat.div_eq_of_lt hlt, Nat.mod_eq_of_lt hlt⟩
  have HC := Lib.hid (compare_nt w _ v2 m1 m2 h1 h2 (l1.mono (by omega)) (l2.mono (by omega)))
  have hcm : cmpN m1 m2 = -1 := if_pos hlt
  rw [hcm] at HC
  have H1 := Lib.hid h1
  have HL := Lib.hid l1
  clear h1 h2 l1 l2 hcm hlt
  go_enter Tryz.func141, Tryz.ntmps141
  go_wp2_with fail
  refine HC.out.mono ?_
  rintro e1 w1 ⟨rfl, hq⟩
  have HB : Hid (Below w.heap.size w w1) := hq.below _
  go_wp2_with fail
  refine (clone_nt w1 _ m1 (H1.out.keep HB.out) HL.out).mono ?_
  rintro e2 w2 ⟨v, rfl, hv, hb⟩
  have HV := Lib.hid hv
  have HB2 : Hid (Below w.heap.size w w2) := HB.out.trans (hb.mono HB.out.size)
  clear hv hb hq
  go_wp2
  go_ret2
  exact ⟨_, _, rfl, ⟨.inl ⟨rfl, HQ.out.1⟩, by rw [HQ.out.2]; exact HV.out⟩, HB2.out⟩

set_option maxHeartbeats 1600000 in
theorem over_one (w : World) (b1 o1 n1 k1 b2 o2 k2 d : Nat) (f : Nat → Nat) (hn1 : 0 < n1) (hk1 : n1 ≤ k1) (hL : n1 ≤ 400000000000) (hr : Row w b1 o1 n1 f) (hs : Small f n1) (hl : f (n1 - 1) ≠ 0)
    (hk2 : 1 ≤ k2) (hc : w.cell? ⟨b2, o2, none⟩ = some (.int .u64 (d : Int))) (hd0 : 0 < d) (hd : d < base) (hge : ¬ val f n1 < d) :
    Calls Tryz.prog 141 #[.slice (some ⟨b1, o1, none⟩) n1 k1, .slice (some ⟨b2, o2, none⟩) 1 k2] w (Ret2 w fun w' a b => Nt w' a (val f n1 / d) ∧ Nt w' b (val f n1 % d)) := by
  have h1 : Nt w (.slice (some ⟨b1, o1, none⟩) n1 k1) (val f n1) := Nt.of_row hn1 hk1 hr hs hl
  have h2 : Nt w (.slice (some ⟨b2, o2, none⟩) 1 k2) d := by
    refine .inr ⟨b2, o2, 1, k2, fun _ => d, rfl, by omega, hk2, fun i hi => ?_, fun _ _ => hd, by show d ≠ 0; omega, by simp [val]⟩
    obtain rfl : i = 0 := by omega
    exact hc
  have HC := Lib.hid (compare_nt w _ _ (val f n1) d h1 h2 ((len_val hs).mono (by omega)) (Len.mono (L := 1) (by unfold Len; rw [Nat.pow_one]; exact hd) (by omega)))
  have hcm : ¬ cmpN (val f n1) d < 0 := by unfold cmpN; rw [if_neg hge]; split <;> omega
  generalize cmpN (val f n1) d = cm at HC hcm
  have HD := Lib.hid hd
  have hb2 : b2 < w.heap.size := World.block_lt_of_cell? w _ hc
  clear h1 h2 hge hl hd
  go_enter Tryz.func141, Tryz.ntmps141
  go_wp2_with fail
  refine HC.out.mono ?_
  rintro e1 w1 ⟨rfl, q, rfl⟩
  go_wp2_with fail
  refine (clone_row (w.drewN q) b1 o1 n1 k1 f (by omega) hr).mono ?_
  rintro e2 w2 ⟨B, cap, rfl, hB, hcap, hW2, hR2, hB2⟩
  have hB : w.heap.size ≤ B := hB
  have hc2 : w2.cell? ⟨b2, o2, none⟩ = some (.int .u64 (d : Int)) := (hB2.cell (p := ⟨b2, o2, none⟩) hb2).trans hc
  have HB2 : Hid (Below w.heap.size w w2) := (below_drewN (Below.refl _ _) q).trans hB2
  clear hr hB2
  go_wp2_with fail
  refine (divideBy_core w2 B n1 cap d f (by omega) hd0 HD.out hR2 (hW2.free 0 n1) hs).mono ?_
  rintro e3 w3 ⟨h, r, rfl, hrd, hR3, hS3, hval, hO3⟩
  have HVQ : Hid (val f n1 / d = val h n1 ∧ val f n1 % d = r) := by
    rw [← hval, Nat.mul_comm]
    exact ⟨by rw [Nat.mul_add_div hd0, Nat.div_eq_of_lt hrd, Nat.add_zero], by rw [Nat.mul_add_mod, Nat.mod_eq_of_lt hrd]⟩
  have HB3 : Hid (Below w.heap.size w w3) := HB2.out.trans (hO3.below hB HB2.out.size)
  clear hval hO3 hc2 hR2
  go_wp2_with fail
  refine (trimmed_nt w3 B 0 n1 cap h (by omega) hR3 hcap hS3).mono ?_
  rintro e4 w4 ⟨⟨v4, rfl, hv4⟩, rfl⟩
  have HV4 := Lib.hid hv4
  clear hv4
  go_wp2_with fail
  refine (natural_nt w4 r (Nat.lt_trans hrd HD.out)).mono ?_
  rintro e5 w5 ⟨v5, rfl, hv5, hb5⟩
  have HV5 := Lib.hid hv5
  have HB5 : Hid (Below w.heap.size w w5) := HB3.out.trans (hb5.mono HB3.out.size)
  have HV4' : Hid (Nt w5 v4 (val h n1)) := HV4.out.keep hb5
  clear hv5 hb5
  go_wp2
  go_ret2
  exact ⟨_, _, rfl, ⟨by rw [HVQ.out.1]; exact HV4'.out, by rw [HVQ.out.2]; exact HV5.out⟩, HB5.out⟩

/-- a/b and the rest, for a b of one digit. -/
theorem over_nt (w : World) (v1 v2 : Value) (m1 m2 : Nat) (h1 : Nt w v1 m1) (h2 : Nt w v2 m2) (l1 : Len m1 400000000000) (l2 : Len m2 1) (h0 : m2 ≠ 0) :
    Calls Tryz.prog 141 #[v1, v2] w (Ret2 w fun w' a b => Nt w' a (m1 / m2) ∧ Nt w' b (m1 % m2)) := by
  by_cases hlt : m1 < m2
  · obtain ⟨p, n, c, rfl⟩ := h1.slice
    exact over_less w p n c v2 m1 m2 h1 h2 l1 (l2.mono (by omega)) hlt
  · rcases h2 with ⟨rfl, rfl⟩ | ⟨b2, o2, n2, k2, f2, rfl, hn2, hk2, hr2, hs2, hl2, rfl⟩
    · exact absurd rfl h0
    · have hn : n2 ≤ 1 := len_le hn2 hl2 l2
      obtain rfl : n2 = 1 := by omega
      have hv : val f2 1 = f2 0 := by simp [val]
      rw [hv] at hlt h0 ⊢
      rcases h1 with ⟨rfl, rfl⟩ | ⟨b1, o1, n1, k1, f1, rfl, hn1, hk1, hr1, hs1, hl1, rfl⟩
      · omega
      · exact over_one w b1 o1 n1 k1 b2 o2 k2 (f2 0) f1 hn1 hk1 (len_le hn1 hl1 l1) hr1 hs1 hl1 hk2 (hr2 0 (by omega)) (by omega) (hs2 0 (by omega)) hlt
end Go.Proofs.YtlphlbgbbblnpaaGreatDoor.Dy
