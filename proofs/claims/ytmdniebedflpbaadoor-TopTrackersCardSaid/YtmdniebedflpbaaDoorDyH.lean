/-
  WALKS AND WORDS: Num4 Num5e Num5l Num5g Num6 Num7 of my texts, one behind the other.
-/
import Derived.Test.YtmdniebedflpbaaDoorDyG
-- Num4: WALKS: numbers: Add.
namespace Go.Proofs.YtmdniebedflpbaaDoor.Dy
open Go.RowKit

theorem cell_held {g b o : Nat} {v : Value} {w w' : World} (h : w.cell? ⟨b, o, none⟩ = some v) (hg : b < g + 1 + 1) (hb : Below (g + 1 + 1) w w') :
    w'.cell? ⟨b, o, none⟩ = some v ∧ Below (g + 1 + 1) w w' := ⟨(hb.cell (p := ⟨b, o, none⟩) hg).trans h, hb⟩
theorem cell_held3 {g b o : Nat} {v : Value} {w w' : World} (h : w.cell? ⟨b, o, none⟩ = some v) (hg : b < g + 1 + 1) (hb : Below (g + 1 + 1) w w') {x y z : Value} :
    (((w'.setCell ⟨g + 1 + 1, 0, none⟩ x).setCell ⟨g + 1 + 1, 1, none⟩ y).setCell ⟨g + 1 + 1, 2, none⟩ z).cell? ⟨b, o, none⟩ = some v ∧ Below (g + 1 + 1) w (((w'.setCell ⟨g + 1 + 1, 0, none⟩ x).setCell ⟨g + 1 + 1, 1, none⟩ y).setCell ⟨g + 1 + 1, 2, none⟩ z) :=
  cell_held h hg (((hb.setCell (Nat.le_refl _) _).setCell (Nat.le_refl _) _).setCell (Nat.le_refl _) _)

set_option maxHeartbeats 3200000 in
theorem add_left (w : World) (a1 a2 : Bool) (p1 p2 : Option Addr) (k1 n2 k2 : Nat) (e1 e2 : Int) (m2 : Nat)
    (hn2 : Nt w (.slice p2 n2 k2) m2) (hL2 : Len m2 200000000) (hl2 : -100000000000 ≤ e2) (hu2 : e2 ≤ 100000000000) (hT : Tab w) :
    Calls Tryd.prog 12 #[.agg #[.bool a1, .slice p1 0 k1, .int .i64 e1], .agg #[.bool a2, .slice p2 n2 k2, .int .i64 e2]] w (Ret w fun w' v => Nm w' v (mk (sg a2 m2) e2)) := by
  have H : Hid (Len m2 200000000 ∧ Tab w ∧ Nt w (.slice p2 n2 k2) m2) := ⟨hL2, hT, hn2⟩
  clear hL2 hT hn2
  go_enter Tryd.func12, Tryd.ntmps12
  go_wp2_with fail
  obtain ⟨W, hW⟩ : ∃ W, W = ((w.alloc (.cells #[.bool a1, .slice p1 0 k1, .int .i64 e1] 51)).alloc (.cells #[.bool a2, .slice p2 n2 k2, .int .i64 e2] 51)).alloc (.cells #[.bool false, .slice none 0 0, .int .i64 0] 51) := ⟨_, rfl⟩
  rw [← hW]
  obtain ⟨hTwo, hsz, hB0, hND, ⟨r0, r1, r2⟩, hfr⟩ := boxes3 hW
  have HS : Hid (W.heap.size = w.heap.size + 1 + 1 + 1 ∧ Below w.heap.size w W ∧ NoDig W (w.heap.size + 1 + 1)) := ⟨hsz, hB0, hND⟩
  have hz : w.heap.size + 1 + 1 < W.heap.size := by omega
  have hz1 : w.heap.size + 1 < W.heap.size := by omega
  have hz0 : w.heap.size < W.heap.size := by omega
  unfold Two at hTwo
  clear hW hsz hB0 hND
  refine (zero_yes W a1 p1 k1 e1).mono ?_
  rintro e3 W1 ⟨rfl, hb1⟩
  have hB1 := Lib.hid hb1
  obtain ⟨hcc, hff⟩ := bcell hb1
  clear hb1
  go_wp2_with fail
  refine (build_nm _ a2 (.slice p2 n2 k2) m2 e2 (H.out.2.2.keep (HS.out.2.1.trans (hB1.out.mono (by omega)))) H.out.1 hl2 hu2 (H.out.2.1.keep (HS.out.2.1.trans (hB1.out.mono (by omega))))).mono ?_
  rintro e4 W2 ⟨v4, rfl, hv4, hb4⟩
  have hB4 : Below W.heap.size W W2 := hB1.out.trans (hb4.mono hB1.out.size)
  obtain ⟨a4, p4, n4, k4, e4, m4, rfl, hn4, hc4⟩ := hv4.fields
  clear hcc hff
  obtain ⟨hcc, hff⟩ := bcell hB4
  have HD : Hid (NoDig W2 (w.heap.size + 1 + 1)) := HS.out.2.2.keep hB4 hz
  have HB : Hid (Below w.heap.size w W2) := HS.out.2.1.trans (hB4.mono (by omega))
  have H4 := Lib.hid hv4
  clear hb4 hB4 hv4 hn4 hc4
  go_wp2
  refine bodyPost_ret (v := .agg #[.bool a4, .slice p4 n4 k4, .int .i64 e4]) (by simp [results, Tryd.results12, go_sem, hcc, hz, r0, r1, r2]) rfl ⟨_, rfl, H4.out.laid HD.out, ?_⟩
  exact ((HB.out.setCell (by simp; omega) _).setCell (by simp; omega) _).setCell (by simp; omega) _
set_option maxHeartbeats 3200000 in
theorem add_right (w : World) (a1 a2 : Bool) (p1 p2 : Option Addr) (n1 k1 k2 : Nat) (e1 e2 : Int) (m1 : Nat) (hn0 : n1 ≠ 0)
    (hn2 : Nt w (.slice p1 n1 k1) m1) (hL2 : Len m1 200000000) (hl2 : -100000000000 ≤ e1) (hu2 : e1 ≤ 100000000000) (hT : Tab w) :
    Calls Tryd.prog 12 #[.agg #[.bool a1, .slice p1 n1 k1, .int .i64 e1], .agg #[.bool a2, .slice p2 0 k2, .int .i64 e2]] w (Ret w fun w' v => Nm w' v (mk (sg a1 m1) e1)) := by
  have H : Hid (Len m1 200000000 ∧ Tab w ∧ Nt w (.slice p1 n1 k1) m1) := ⟨hL2, hT, hn2⟩
  clear hL2 hT hn2
  go_enter Tryd.func12, Tryd.ntmps12
  go_wp2_with fail
  obtain ⟨W, hW⟩ : ∃ W, W = ((w.alloc (.cells #[.bool a1, .slice p1 n1 k1, .int .i64 e1] 51)).alloc (.cells #[.bool a2, .slice p2 0 k2, .int .i64 e2] 51)).alloc (.cells #[.bool false, .slice none 0 0, .int .i64 0] 51) := ⟨_, rfl⟩
  rw [← hW]
  obtain ⟨hTwo, hsz, hB0, hND, ⟨r0, r1, r2⟩, hfr⟩ := boxes3 hW
  have HS : Hid (W.heap.size = w.heap.size + 1 + 1 + 1 ∧ Below w.heap.size w W ∧ NoDig W (w.heap.size + 1 + 1)) := ⟨hsz, hB0, hND⟩
  have hz : w.heap.size + 1 + 1 < W.heap.size := by omega
  have hz1 : w.heap.size + 1 < W.heap.size := by omega
  have hz0 : w.heap.size < W.heap.size := by omega
  unfold Two at hTwo
  clear hW hsz hB0 hND
  refine (zero_no W a1 p1 n1 k1 e1 hn0).mono ?_
  rintro e3 W0 ⟨rfl, hb0⟩
  have hB0 := Lib.hid hb0
  obtain ⟨hcc, hff⟩ := bcell hb0
  clear hb0
  go_wp2_with fail
  refine (zero_yes W0 a2 p2 k2 e2).mono ?_
  rintro e3 W1 ⟨rfl, hb1⟩
  have hB1 : Hid (Below W.heap.size W W1) := hB0.out.trans (hb1.mono hB0.out.size)
  clear hcc hff
  obtain ⟨hcc, hff⟩ := bcell hB1.out
  clear hb1
  go_wp2_with fail
  refine (build_nm _ a1 (.slice p1 n1 k1) m1 e1 (H.out.2.2.keep (HS.out.2.1.trans (hB1.out.mono (by omega)))) H.out.1 hl2 hu2 (H.out.2.1.keep (HS.out.2.1.trans (hB1.out.mono (by omega))))).mono ?_
  rintro e4 W2 ⟨v4, rfl, hv4, hb4⟩
  have hB4 : Below W.heap.size W W2 := hB1.out.trans (hb4.mono hB1.out.size)
  obtain ⟨a4, p4, n4, k4, e4, m4, rfl, hn4, hc4⟩ := hv4.fields
  clear hcc hff
  obtain ⟨hcc, hff⟩ := bcell hB4
  have HD : Hid (NoDig W2 (w.heap.size + 1 + 1)) := HS.out.2.2.keep hB4 hz
  have HB : Hid (Below w.heap.size w W2) := HS.out.2.1.trans (hB4.mono (by omega))
  have H4 := Lib.hid hv4
  clear hb4 hB4 hv4 hn4 hc4
  go_wp2
  refine bodyPost_ret (v := .agg #[.bool a4, .slice p4 n4 k4, .int .i64 e4]) (by simp [results, Tryd.results12, go_sem, hcc, hz, r0, r1, r2]) rfl ⟨_, rfl, H4.out.laid HD.out, ?_⟩
  exact ((HB.out.setCell (by simp; omega) _).setCell (by simp; omega) _).setCell (by simp; omega) _

end Go.Proofs.YtmdniebedflpbaaDoor.Dy
-- Num5e: WALKS: numbers: Add.
namespace Go.Proofs.YtmdniebedflpbaaDoor.Dy
open Go.RowKit

set_option maxHeartbeats 3200000 in
theorem add_eq (w : World) (a1 a2 : Bool) (p1 p2 : Option Addr) (n1 k1 n2 k2 : Nat) (e1 e2 eo : Int) (m1 m2 s1 s2 : Nat) (hn0 : n1 ≠ 0) (hn02 : n2 ≠ 0)
    (hmin : min e1 e2 = eo) (h1 : e1 - eo = (s1 : Int)) (h2 : e2 - eo = (s2 : Int)) (hs : a1 = a2)
    (hn1 : Nt w (.slice p1 n1 k1) m1) (hn2 : Nt w (.slice p2 n2 k2) m2) (hL1 : Len m1 200000000) (hL2 : Len m2 200000000) (hM1 : Len (m1 * 2 ^ s1) 100000000) (hM2 : Len (m2 * 2 ^ s2) 100000000) (hR : Len (m1 * 2 ^ s1 + m2 * 2 ^ s2) 200000000)
    (hs1 : s1 ≤ 10000000000000) (hs2 : s2 ≤ 10000000000000) (hl : -100000000000 ≤ eo) (hu : eo ≤ 100000000000) (hb1' : -100000000000 ≤ e1 ∧ e1 ≤ 100000000000) (hb2' : -100000000000 ≤ e2 ∧ e2 ≤ 100000000000) (hT : Tab w) :
    Calls Tryd.prog 12 #[.agg #[.bool a1, .slice p1 n1 k1, .int .i64 e1], .agg #[.bool a2, .slice p2 n2 k2, .int .i64 e2]] w (Ret w fun w' v => Nm w' v (mk (sg a1 (m1 * 2 ^ s1 + m2 * 2 ^ s2)) eo)) := by
  subst hs
  obtain ⟨hb11, hb12⟩ := hb1'
  obtain ⟨hb21, hb22⟩ := hb2'
  have H : Hid (Len m1 200000000 ∧ Len m2 200000000 ∧ Len (m1 * 2 ^ s1) 100000000 ∧ Len (m2 * 2 ^ s2) 100000000 ∧ Len (m1 * 2 ^ s1 + m2 * 2 ^ s2) 200000000 ∧ Tab w ∧ Nt w (.slice p1 n1 k1) m1 ∧ Nt w (.slice p2 n2 k2) m2) := ⟨hL1, hL2, hM1, hM2, hR, hT, hn1, hn2⟩
  clear hL1 hL2 hM1 hM2 hR hT hn1 hn2
  go_enter Tryd.func12, Tryd.ntmps12
  go_wp2_with fail
  obtain ⟨W, hW⟩ : ∃ W, W = ((w.alloc (.cells #[.bool a1, .slice p1 n1 k1, .int .i64 e1] 51)).alloc (.cells #[.bool a1, .slice p2 n2 k2, .int .i64 e2] 51)).alloc (.cells #[.bool false, .slice none 0 0, .int .i64 0] 51) := ⟨_, rfl⟩
  rw [← hW]
  obtain ⟨hTwo, hsz, hB0, hND, ⟨r0, r1, r2⟩, hfr⟩ := boxes3 hW
  have HS : Hid (W.heap.size = w.heap.size + 1 + 1 + 1 ∧ Below w.heap.size w W ∧ NoDig W (w.heap.size + 1 + 1)) := ⟨hsz, hB0, hND⟩
  have hz : w.heap.size + 1 + 1 < W.heap.size := by omega
  have hz1 : w.heap.size + 1 < W.heap.size := by omega
  have hz0 : w.heap.size < W.heap.size := by omega
  unfold Two at hTwo
  clear hW hsz hB0 hND
  refine (zero_no W a1 p1 n1 k1 e1 hn0).mono ?_
  rintro e3 W0 ⟨rfl, hb0⟩
  have hB0 := Lib.hid hb0
  obtain ⟨hcc, hff⟩ := bcell hb0
  clear hb0
  go_wp2_with fail
  refine (zero_no W0 a1 p2 n2 k2 e2 hn02).mono ?_
  rintro e3 W1 ⟨rfl, hb1⟩
  have hB1 : Hid (Below W.heap.size W W1) := hB0.out.trans (hb1.mono hB0.out.size)
  clear hcc hff
  obtain ⟨hcc, hff⟩ := bcell hB1.out
  clear hb1
  go_wp2_with fail
  refine (left_nt W1 (.slice p1 n1 k1) m1 s1 (H.out.2.2.2.2.2.2.1.keep (HS.out.2.1.trans (hB1.out.mono (by omega)))) (H.out.1.mono (by omega)) hs1).mono ?_
  rintro e5 W5 ⟨v5, rfl, hv5, hb5⟩
  have hB5 : Hid (Below W.heap.size W W5) := hB1.out.trans (hb5.mono hB1.out.size)
  clear hcc hff
  obtain ⟨hcc, hff⟩ := bcell hB5.out
  clear hb5
  go_wp2_with fail
  refine (left_nt W5 (.slice p2 n2 k2) m2 s2 (H.out.2.2.2.2.2.2.2.keep (HS.out.2.1.trans (hB5.out.mono (by omega)))) (H.out.2.1.mono (by omega)) hs2).mono ?_
  rintro e6 W6 ⟨v6, rfl, hv6, hb6⟩
  have hB6 : Hid (Below W.heap.size W W6) := hB5.out.trans (hb6.mono hB5.out.size)
  clear hcc hff
  obtain ⟨hcc, hff⟩ := bcell hB6.out
  obtain ⟨p5, n5, k5, rfl⟩ := hv5.slice
  obtain ⟨p6, n6, k6, rfl⟩ := hv6.slice
  have HV5 : Hid (Nt W6 (.slice p5 n5 k5) (m1 * 2 ^ s1)) := hv5.keep hb6
  have HV6 : Hid (Nt W6 (.slice p6 n6 k6) (m2 * 2 ^ s2)) := hv6
  clear hb6 hv5 hv6
  have hvA : Nt W6.drew (.slice p5 n5 k5) (m1 * 2 ^ s1) := HV5.out.keep (by repeat (first | exact Below.refl _ _ | refine Below.drew ?_ | refine below_drewN ?_ _))
  have hvB : Nt W6.drew (.slice p6 n6 k6) (m2 * 2 ^ s2) := HV6.out.keep (by repeat (first | exact Below.refl _ _ | refine Below.drew ?_ | refine below_drewN ?_ _))
  have HC := Lib.hid (plus_nt W6.drew (.slice p5 n5 k5) (.slice p6 n6 k6) (m1 * 2 ^ s1) (m2 * 2 ^ s2) hvA hvB (H.out.2.2.1.mono (by omega)) (H.out.2.2.2.1.mono (by omega)))
  have hBd : Below (w.heap.size + 1 + 1) W W6.drew := by repeat (first | exact hB6.out.mono (by omega) | refine Below.drew ?_ | refine below_drewN ?_ _)
  have hBd2 : Below W.heap.size W W6.drew := by repeat (first | exact hB6.out | refine Below.drew ?_ | refine below_drewN ?_ _)
  clear hvA hvB
  have hc0 := hTwo.1
  go_wp2
  go_region_held3 (fun W' => W'.cell? ⟨w.heap.size, 0, none⟩ = some (.bool a1) ∧ Below (w.heap.size + 1 + 1) W W')
    (first | (exact cell_held hc0 (by omega) hBd) | (exact cell_held hc0 (by omega) (by assumption)) | (exact cell_held3 hc0 (by omega) hB8'))
    (first
      | (go_at_call 30; refine HC.out.mono ?_; rintro e7 W7 ⟨v7, rfl, hv7, hb7⟩; (have hB7 : Below W.heap.size W W7 := hBd2.trans (hb7.mono hBd2.size)); (have hB7' : Below (w.heap.size + 1 + 1) W W7 := hB7.mono (by omega)))
      | (go_at_call 28; refine (build_nm _ _ _ (m1 * 2 ^ s1 + m2 * 2 ^ s2) eo hv7 H.out.2.2.2.2.1 hl hu (H.out.2.2.2.2.2.1.keep (HS.out.2.1.trans (hB7.mono (by omega))))).mono ?_; rintro e8 W8 ⟨v8, rfl, hv8, hb8⟩; (have hB8 : Below W.heap.size W W8 := hB7.trans (hb8.mono hB7.size)); (have hB8' : Below (w.heap.size + 1 + 1) W W8 := hB8.mono (by omega)); obtain ⟨a8, p8, n8, k8, e8, m8, rfl, hn8, hc8⟩ := hv8.fields; clear hcc hff; obtain ⟨hcc, hff⟩ := bcell hB8))
  have HD : Hid (NoDig W8 (w.heap.size + 1 + 1)) := HS.out.2.2.keep hB8 hz
  have HB : Hid (Below w.heap.size w W8) := HS.out.2.1.trans (hB8.mono (by omega))
  have H8 := Lib.hid hv8
  clear hb7 hB7 hB7' hb8 hB8 hB8' hv8 hn8 hc8 hv7 hBd hBd2 hTwo hc0
  go_wp2
  refine bodyPost_ret (v := .agg #[.bool a8, .slice p8 n8 k8, .int .i64 e8]) (by simp [results, Tryd.results12, go_sem, hcc, hz, r0, r1, r2]) rfl ⟨_, rfl, H8.out.laid HD.out, ?_⟩
  exact ((HB.out.setCell (by simp; omega) _).setCell (by simp; omega) _).setCell (by simp; omega) _

end Go.Proofs.YtmdniebedflpbaaDoor.Dy
-- Num5l: WALKS: numbers: Add.
namespace Go.Proofs.YtmdniebedflpbaaDoor.Dy
open Go.RowKit

set_option maxHeartbeats 3200000 in
theorem add_lt (w : World) (a1 a2 : Bool) (p1 p2 : Option Addr) (n1 k1 n2 k2 : Nat) (e1 e2 eo : Int) (m1 m2 s1 s2 : Nat) (hn0 : n1 ≠ 0) (hn02 : n2 ≠ 0)
    (hmin : min e1 e2 = eo) (h1 : e1 - eo = (s1 : Int)) (h2 : e2 - eo = (s2 : Int)) (hs : a1 ≠ a2) (hlt : m1 * 2 ^ s1 < m2 * 2 ^ s2)
    (hn1 : Nt w (.slice p1 n1 k1) m1) (hn2 : Nt w (.slice p2 n2 k2) m2) (hL1 : Len m1 200000000) (hL2 : Len m2 200000000) (hM1 : Len (m1 * 2 ^ s1) 100000000) (hM2 : Len (m2 * 2 ^ s2) 100000000) (hR : Len (m2 * 2 ^ s2 - m1 * 2 ^ s1) 200000000)
    (hs1 : s1 ≤ 10000000000000) (hs2 : s2 ≤ 10000000000000) (hl : -100000000000 ≤ eo) (hu : eo ≤ 100000000000) (hb1' : -100000000000 ≤ e1 ∧ e1 ≤ 100000000000) (hb2' : -100000000000 ≤ e2 ∧ e2 ≤ 100000000000) (hT : Tab w) :
    Calls Tryd.prog 12 #[.agg #[.bool a1, .slice p1 n1 k1, .int .i64 e1], .agg #[.bool a2, .slice p2 n2 k2, .int .i64 e2]] w (Ret w fun w' v => Nm w' v (mk (sg a2 (m2 * 2 ^ s2 - m1 * 2 ^ s1)) eo)) := by
  have hsb : (a1 == a2) = false := by simpa using hs
  obtain ⟨hb11, hb12⟩ := hb1'
  obtain ⟨hb21, hb22⟩ := hb2'
  have H : Hid (Len m1 200000000 ∧ Len m2 200000000 ∧ Len (m1 * 2 ^ s1) 100000000 ∧ Len (m2 * 2 ^ s2) 100000000 ∧ Len (m2 * 2 ^ s2 - m1 * 2 ^ s1) 200000000 ∧ Tab w ∧ Nt w (.slice p1 n1 k1) m1 ∧ Nt w (.slice p2 n2 k2) m2) := ⟨hL1, hL2, hM1, hM2, hR, hT, hn1, hn2⟩
  clear hL1 hL2 hM1 hM2 hR hT hn1 hn2
  go_enter Tryd.func12, Tryd.ntmps12
  go_wp2_with fail
  obtain ⟨W, hW⟩ : ∃ W, W = ((w.alloc (.cells #[.bool a1, .slice p1 n1 k1, .int .i64 e1] 51)).alloc (.cells #[.bool a2, .slice p2 n2 k2, .int .i64 e2] 51)).alloc (.cells #[.bool false, .slice none 0 0, .int .i64 0] 51) := ⟨_, rfl⟩
  rw [← hW]
  obtain ⟨hTwo, hsz, hB0, hND, ⟨r0, r1, r2⟩, hfr⟩ := boxes3 hW
  have HS : Hid (W.heap.size = w.heap.size + 1 + 1 + 1 ∧ Below w.heap.size w W ∧ NoDig W (w.heap.size + 1 + 1)) := ⟨hsz, hB0, hND⟩
  have hz : w.heap.size + 1 + 1 < W.heap.size := by omega
  have hz1 : w.heap.size + 1 < W.heap.size := by omega
  have hz0 : w.heap.size < W.heap.size := by omega
  unfold Two at hTwo
  clear hW hsz hB0 hND
  refine (zero_no W a1 p1 n1 k1 e1 hn0).mono ?_
  rintro e3 W0 ⟨rfl, hb0⟩
  have hB0 := Lib.hid hb0
  obtain ⟨hcc, hff⟩ := bcell hb0
  clear hb0
  go_wp2_with fail
  refine (zero_no W0 a2 p2 n2 k2 e2 hn02).mono ?_
  rintro e3 W1 ⟨rfl, hb1⟩
  have hB1 : Hid (Below W.heap.size W W1) := hB0.out.trans (hb1.mono hB0.out.size)
  clear hcc hff
  obtain ⟨hcc, hff⟩ := bcell hB1.out
  clear hb1
  go_wp2_with fail
  refine (left_nt W1 (.slice p1 n1 k1) m1 s1 (H.out.2.2.2.2.2.2.1.keep (HS.out.2.1.trans (hB1.out.mono (by omega)))) (H.out.1.mono (by omega)) hs1).mono ?_
  rintro e5 W5 ⟨v5, rfl, hv5, hb5⟩
  have hB5 : Hid (Below W.heap.size W W5) := hB1.out.trans (hb5.mono hB1.out.size)
  clear hcc hff
  obtain ⟨hcc, hff⟩ := bcell hB5.out
  clear hb5
  go_wp2_with fail
  refine (left_nt W5 (.slice p2 n2 k2) m2 s2 (H.out.2.2.2.2.2.2.2.keep (HS.out.2.1.trans (hB5.out.mono (by omega)))) (H.out.2.1.mono (by omega)) hs2).mono ?_
  rintro e6 W6 ⟨v6, rfl, hv6, hb6⟩
  have hB6 : Hid (Below W.heap.size W W6) := hB5.out.trans (hb6.mono hB5.out.size)
  clear hcc hff
  obtain ⟨hcc, hff⟩ := bcell hB6.out
  obtain ⟨p5, n5, k5, rfl⟩ := hv5.slice
  obtain ⟨p6, n6, k6, rfl⟩ := hv6.slice
  have HV5 : Hid (Nt W6 (.slice p5 n5 k5) (m1 * 2 ^ s1)) := hv5.keep hb6
  have HV6 : Hid (Nt W6 (.slice p6 n6 k6) (m2 * 2 ^ s2)) := hv6
  clear hb6 hv5 hv6
  go_wp2_with fail
  refine ((compare_nt W6 (.slice p5 n5 k5) (.slice p6 n6 k6) (m1 * 2 ^ s1) (m2 * 2 ^ s2) HV5.out HV6.out (H.out.2.2.1.mono (by omega)) (H.out.2.2.2.1.mono (by omega)))).mono ?_
  rintro e7 w7 ⟨rfl, q, rfl⟩
  have hcm : cmpN (m1 * 2 ^ s1) (m2 * 2 ^ s2) = -1 := if_pos hlt
  rw [hcm]
  clear hcm
  have hvA : Nt (W6.drewN q).drew (.slice p6 n6 k6) (m2 * 2 ^ s2) := HV6.out.keep (by repeat (first | exact Below.refl _ _ | refine Below.drew ?_ | refine below_drewN ?_ _))
  have hvB : Nt (W6.drewN q).drew (.slice p5 n5 k5) (m1 * 2 ^ s1) := HV5.out.keep (by repeat (first | exact Below.refl _ _ | refine Below.drew ?_ | refine below_drewN ?_ _))
  have HC := Lib.hid (minus_nt (W6.drewN q).drew (.slice p6 n6 k6) (.slice p5 n5 k5) (m2 * 2 ^ s2) (m1 * 2 ^ s1) hvA hvB (H.out.2.2.2.1.mono (by omega)) (by omega))
  have hBd : Below (w.heap.size + 1 + 1) W (W6.drewN q).drew := by repeat (first | exact hB6.out.mono (by omega) | refine Below.drew ?_ | refine below_drewN ?_ _)
  have hBd2 : Below W.heap.size W (W6.drewN q).drew := by repeat (first | exact hB6.out | refine Below.drew ?_ | refine below_drewN ?_ _)
  clear hvA hvB
  have hc0 := hTwo.2.2.2.1
  go_wp2
  go_region_held3 (fun W' => W'.cell? ⟨w.heap.size + 1, 0, none⟩ = some (.bool a2) ∧ Below (w.heap.size + 1 + 1) W W')
    (first | (exact cell_held hc0 (by omega) hBd) | (exact cell_held hc0 (by omega) (by assumption)) | (exact cell_held3 hc0 (by omega) hB8'))
    (first
      | (go_at_call 32; refine HC.out.mono ?_; rintro e7 W7 ⟨v7, rfl, hv7, hb7⟩; (have hB7 : Below W.heap.size W W7 := hBd2.trans (hb7.mono hBd2.size)); (have hB7' : Below (w.heap.size + 1 + 1) W W7 := hB7.mono (by omega)))
      | (go_at_call 28; refine (build_nm _ _ _ (m2 * 2 ^ s2 - m1 * 2 ^ s1) eo hv7 H.out.2.2.2.2.1 hl hu (H.out.2.2.2.2.2.1.keep (HS.out.2.1.trans (hB7.mono (by omega))))).mono ?_; rintro e8 W8 ⟨v8, rfl, hv8, hb8⟩; (have hB8 : Below W.heap.size W W8 := hB7.trans (hb8.mono hB7.size)); (have hB8' : Below (w.heap.size + 1 + 1) W W8 := hB8.mono (by omega)); obtain ⟨a8, p8, n8, k8, e8, m8, rfl, hn8, hc8⟩ := hv8.fields; clear hcc hff; obtain ⟨hcc, hff⟩ := bcell hB8))
  have HD : Hid (NoDig W8 (w.heap.size + 1 + 1)) := HS.out.2.2.keep hB8 hz
  have HB : Hid (Below w.heap.size w W8) := HS.out.2.1.trans (hB8.mono (by omega))
  have H8 := Lib.hid hv8
  clear hb7 hB7 hB7' hb8 hB8 hB8' hv8 hn8 hc8 hv7 hBd hBd2 hTwo hc0
  go_wp2
  refine bodyPost_ret (v := .agg #[.bool a8, .slice p8 n8 k8, .int .i64 e8]) (by simp [results, Tryd.results12, go_sem, hcc, hz, r0, r1, r2]) rfl ⟨_, rfl, H8.out.laid HD.out, ?_⟩
  exact ((HB.out.setCell (by simp; omega) _).setCell (by simp; omega) _).setCell (by simp; omega) _

end Go.Proofs.YtmdniebedflpbaaDoor.Dy
-- Num5g: WALKS: numbers: Add.
namespace Go.Proofs.YtmdniebedflpbaaDoor.Dy
open Go.RowKit

set_option maxHeartbeats 3200000 in
theorem add_ge (w : World) (a1 a2 : Bool) (p1 p2 : Option Addr) (n1 k1 n2 k2 : Nat) (e1 e2 eo : Int) (m1 m2 s1 s2 : Nat) (hn0 : n1 ≠ 0) (hn02 : n2 ≠ 0)
    (hmin : min e1 e2 = eo) (h1 : e1 - eo = (s1 : Int)) (h2 : e2 - eo = (s2 : Int)) (hs : a1 ≠ a2) (hlt : ¬ m1 * 2 ^ s1 < m2 * 2 ^ s2)
    (hn1 : Nt w (.slice p1 n1 k1) m1) (hn2 : Nt w (.slice p2 n2 k2) m2) (hL1 : Len m1 200000000) (hL2 : Len m2 200000000) (hM1 : Len (m1 * 2 ^ s1) 100000000) (hM2 : Len (m2 * 2 ^ s2) 100000000) (hR : Len (m1 * 2 ^ s1 - m2 * 2 ^ s2) 200000000)
    (hs1 : s1 ≤ 10000000000000) (hs2 : s2 ≤ 10000000000000) (hl : -100000000000 ≤ eo) (hu : eo ≤ 100000000000) (hb1' : -100000000000 ≤ e1 ∧ e1 ≤ 100000000000) (hb2' : -100000000000 ≤ e2 ∧ e2 ≤ 100000000000) (hT : Tab w) :
    Calls Tryd.prog 12 #[.agg #[.bool a1, .slice p1 n1 k1, .int .i64 e1], .agg #[.bool a2, .slice p2 n2 k2, .int .i64 e2]] w (Ret w fun w' v => Nm w' v (mk (sg a1 (m1 * 2 ^ s1 - m2 * 2 ^ s2)) eo)) := by
  have hsb : (a1 == a2) = false := by simpa using hs
  obtain ⟨hb11, hb12⟩ := hb1'
  obtain ⟨hb21, hb22⟩ := hb2'
  have H : Hid (Len m1 200000000 ∧ Len m2 200000000 ∧ Len (m1 * 2 ^ s1) 100000000 ∧ Len (m2 * 2 ^ s2) 100000000 ∧ Len (m1 * 2 ^ s1 - m2 * 2 ^ s2) 200000000 ∧ Tab w ∧ Nt w (.slice p1 n1 k1) m1 ∧ Nt w (.slice p2 n2 k2) m2) := ⟨hL1, hL2, hM1, hM2, hR, hT, hn1, hn2⟩
  clear hL1 hL2 hM1 hM2 hR hT hn1 hn2
  go_enter Tryd.func12, Tryd.ntmps12
  go_wp2_with fail
  obtain ⟨W, hW⟩ : ∃ W, W = ((w.alloc (.cells #[.bool a1, .slice p1 n1 k1, .int .i64 e1] 51)).alloc (.cells #[.bool a2, .slice p2 n2 k2, .int .i64 e2] 51)).alloc (.cells #[.bool false, .slice none 0 0, .int .i64 0] 51) := ⟨_, rfl⟩
  rw [← hW]
  obtain ⟨hTwo, hsz, hB0, hND, ⟨r0, r1, r2⟩, hfr⟩ := boxes3 hW
  have HS : Hid (W.heap.size = w.heap.size + 1 + 1 + 1 ∧ Below w.heap.size w W ∧ NoDig W (w.heap.size + 1 + 1)) := ⟨hsz, hB0, hND⟩
  have hz : w.heap.size + 1 + 1 < W.heap.size := by omega
  have hz1 : w.heap.size + 1 < W.heap.size := by omega
  have hz0 : w.heap.size < W.heap.size := by omega
  unfold Two at hTwo
  clear hW hsz hB0 hND
  refine (zero_no W a1 p1 n1 k1 e1 hn0).mono ?_
  rintro e3 W0 ⟨rfl, hb0⟩
  have hB0 := Lib.hid hb0
  obtain ⟨hcc, hff⟩ := bcell hb0
  clear hb0
  go_wp2_with fail
  refine (zero_no W0 a2 p2 n2 k2 e2 hn02).mono ?_
  rintro e3 W1 ⟨rfl, hb1⟩
  have hB1 : Hid (Below W.heap.size W W1) := hB0.out.trans (hb1.mono hB0.out.size)
  clear hcc hff
  obtain ⟨hcc, hff⟩ := bcell hB1.out
  clear hb1
  go_wp2_with fail
  refine (left_nt W1 (.slice p1 n1 k1) m1 s1 (H.out.2.2.2.2.2.2.1.keep (HS.out.2.1.trans (hB1.out.mono (by omega)))) (H.out.1.mono (by omega)) hs1).mono ?_
  rintro e5 W5 ⟨v5, rfl, hv5, hb5⟩
  have hB5 : Hid (Below W.heap.size W W5) := hB1.out.trans (hb5.mono hB1.out.size)
  clear hcc hff
  obtain ⟨hcc, hff⟩ := bcell hB5.out
  clear hb5
  go_wp2_with fail
  refine (left_nt W5 (.slice p2 n2 k2) m2 s2 (H.out.2.2.2.2.2.2.2.keep (HS.out.2.1.trans (hB5.out.mono (by omega)))) (H.out.2.1.mono (by omega)) hs2).mono ?_
  rintro e6 W6 ⟨v6, rfl, hv6, hb6⟩
  have hB6 : Hid (Below W.heap.size W W6) := hB5.out.trans (hb6.mono hB5.out.size)
  clear hcc hff
  obtain ⟨hcc, hff⟩ := bcell hB6.out
  obtain ⟨p5, n5, k5, rfl⟩ := hv5.slice
  obtain ⟨p6, n6, k6, rfl⟩ := hv6.slice
  have HV5 : Hid (Nt W6 (.slice p5 n5 k5) (m1 * 2 ^ s1)) := hv5.keep hb6
  have HV6 : Hid (Nt W6 (.slice p6 n6 k6) (m2 * 2 ^ s2)) := hv6
  clear hb6 hv5 hv6
  go_wp2_with fail
  refine ((compare_nt W6 (.slice p5 n5 k5) (.slice p6 n6 k6) (m1 * 2 ^ s1) (m2 * 2 ^ s2) HV5.out HV6.out (H.out.2.2.1.mono (by omega)) (H.out.2.2.2.1.mono (by omega)))).mono ?_
  rintro e7 w7 ⟨rfl, q, rfl⟩
  have hcm : cmpN (m1 * 2 ^ s1) (m2 * 2 ^ s2) ≥ 0 := by unfold cmpN; rw [if_neg hlt]; split <;> omega
  generalize cmpN (m1 * 2 ^ s1) (m2 * 2 ^ s2) = cm at hcm ⊢
  have hcm2 : ¬ cm < 0 := by omega
  have hvA : Nt (W6.drewN q).drew (.slice p5 n5 k5) (m1 * 2 ^ s1) := HV5.out.keep (by repeat (first | exact Below.refl _ _ | refine Below.drew ?_ | refine below_drewN ?_ _))
  have hvB : Nt (W6.drewN q).drew (.slice p6 n6 k6) (m2 * 2 ^ s2) := HV6.out.keep (by repeat (first | exact Below.refl _ _ | refine Below.drew ?_ | refine below_drewN ?_ _))
  have HC := Lib.hid (minus_nt (W6.drewN q).drew (.slice p5 n5 k5) (.slice p6 n6 k6) (m1 * 2 ^ s1) (m2 * 2 ^ s2) hvA hvB (H.out.2.2.1.mono (by omega)) (by omega))
  have hBd : Below (w.heap.size + 1 + 1) W (W6.drewN q).drew := by repeat (first | exact hB6.out.mono (by omega) | refine Below.drew ?_ | refine below_drewN ?_ _)
  have hBd2 : Below W.heap.size W (W6.drewN q).drew := by repeat (first | exact hB6.out | refine Below.drew ?_ | refine below_drewN ?_ _)
  clear hvA hvB
  have hc0 := hTwo.1
  go_wp2
  go_region_held3 (fun W' => W'.cell? ⟨w.heap.size, 0, none⟩ = some (.bool a1) ∧ Below (w.heap.size + 1 + 1) W W')
    (first | (exact cell_held hc0 (by omega) hBd) | (exact cell_held hc0 (by omega) (by assumption)) | (exact cell_held3 hc0 (by omega) hB8'))
    (first
      | (go_at_call 32; refine HC.out.mono ?_; rintro e7 W7 ⟨v7, rfl, hv7, hb7⟩; (have hB7 : Below W.heap.size W W7 := hBd2.trans (hb7.mono hBd2.size)); (have hB7' : Below (w.heap.size + 1 + 1) W W7 := hB7.mono (by omega)))
      | (go_at_call 28; refine (build_nm _ _ _ (m1 * 2 ^ s1 - m2 * 2 ^ s2) eo hv7 H.out.2.2.2.2.1 hl hu (H.out.2.2.2.2.2.1.keep (HS.out.2.1.trans (hB7.mono (by omega))))).mono ?_; rintro e8 W8 ⟨v8, rfl, hv8, hb8⟩; (have hB8 : Below W.heap.size W W8 := hB7.trans (hb8.mono hB7.size)); (have hB8' : Below (w.heap.size + 1 + 1) W W8 := hB8.mono (by omega)); obtain ⟨a8, p8, n8, k8, e8, m8, rfl, hn8, hc8⟩ := hv8.fields; clear hcc hff; obtain ⟨hcc, hff⟩ := bcell hB8))
  have HD : Hid (NoDig W8 (w.heap.size + 1 + 1)) := HS.out.2.2.keep hB8 hz
  have HB : Hid (Below w.heap.size w W8) := HS.out.2.1.trans (hB8.mono (by omega))
  have H8 := Lib.hid hv8
  clear hb7 hB7 hB7' hb8 hB8 hB8' hv8 hn8 hc8 hv7 hBd hBd2 hTwo hc0
  go_wp2
  refine bodyPost_ret (v := .agg #[.bool a8, .slice p8 n8 k8, .int .i64 e8]) (by simp [results, Tryd.results12, go_sem, hcc, hz, r0, r1, r2]) rfl ⟨_, rfl, H8.out.laid HD.out, ?_⟩
  exact ((HB.out.setCell (by simp; omega) _).setCell (by simp; omega) _).setCell (by simp; omega) _

end Go.Proofs.YtmdniebedflpbaaDoor.Dy
-- Num6: WALKS: numbers: Add, all of it; Int.
namespace Go.Proofs.YtmdniebedflpbaaDoor.Dy
open Go.RowKit

theorem sg_add (a : Bool) (m n : Nat) : sg a (m + n) = sg a m + sg a n := by cases a <;> simp [sg] <;> omega
theorem sg_sub_lt {a b : Bool} {m n : Nat} (h : a ≠ b) (hl : m < n) : sg b (n - m) = sg a m + sg b n := by
  cases a <;> cases b <;> simp [sg] at h ⊢ <;> omega
theorem sg_sub_ge {a b : Bool} {m n : Nat} (h : a ≠ b) (hl : ¬ m < n) : sg a (m - n) = sg a m + sg b n := by
  cases a <;> cases b <;> simp [sg] at h ⊢ <;> omega

/-- x + y. -/
theorem add_nm (w : World) (v1 v2 : Value) (x y : Dyadic) (A E B F : Nat) (h1 : Nm w v1 x) (h2 : Nm w v2 y) (hx : Box x A E) (hy : Box y B F) (hAE : A + E + B + F ≤ 1000000000) (hT : Tab w) :
    Calls Tryd.prog 12 #[v1, v2] w (Ret w fun w' v => Nm w' v (x + y)) := by
  obtain ⟨a1, p1, n1, k1, e1, m1, rfl, hn1, hc1⟩ := h1.fields
  obtain ⟨a2, p2, n2, k2, e2, m2, rfl, hn2, hc2⟩ := h2.fields
  obtain ⟨hm1, hl1, hu1⟩ := hc1.box hx
  obtain ⟨hm2, hl2, hu2⟩ := hc2.box hy
  have hL1 : Len m1 200000000 := len_two hm1 (by omega)
  have hL2 : Len m2 200000000 := len_two hm2 (by omega)
  by_cases h0 : n1 = 0
  · subst h0
    have hm0 : m1 = 0 := hn1.len_zero.1 rfl
    have hx0 : x = 0 := hc1.zero_iff.1 hm0
    subst hx0
    have e : (0 : Dyadic) + y = mk (sg a2 m2) e2 := by rw [← hc2.val]; grind
    rw [e]
    exact add_left w a1 a2 p1 p2 k1 n2 k2 e1 e2 m2 hn2 hL2 (by omega) (by omega) hT
  · by_cases h02 : n2 = 0
    · subst h02
      have hm0 : m2 = 0 := hn2.len_zero.1 rfl
      have hy0 : y = 0 := hc2.zero_iff.1 hm0
      subst hy0
      have e : x + (0 : Dyadic) = mk (sg a1 m1) e1 := by rw [← hc1.val]; grind
      rw [e]
      exact add_right w a1 a2 p1 p2 n1 k1 k2 e1 e2 m1 h0 hn1 hL1 (by omega) (by omega) hT
    · obtain ⟨eo, heo⟩ : ∃ eo, min e1 e2 = eo := ⟨_, rfl⟩
      have hb : eo ≤ e1 ∧ eo ≤ e2 ∧ (eo = e1 ∨ eo = e2) := by omega
      obtain ⟨s1, hs1⟩ : ∃ s : Nat, e1 - eo = (s : Int) := ⟨(e1 - eo).toNat, by omega⟩
      obtain ⟨s2, hs2⟩ : ∃ s : Nat, e2 - eo = (s : Int) := ⟨(e2 - eo).toNat, by omega⟩
      have hM1 : m1 * 2 ^ s1 < 2 ^ (A + s1) := by rw [Nat.pow_add]; exact Nat.mul_lt_mul_of_pos_right hm1 (Nat.two_pow_pos s1)
      have hM2 : m2 * 2 ^ s2 < 2 ^ (B + s2) := by rw [Nat.pow_add]; exact Nat.mul_lt_mul_of_pos_right hm2 (Nat.two_pow_pos s2)
      have hX : x = mk (sg a1 (m1 * 2 ^ s1)) eo := by rw [sg_pow, mk_shift, hc1.val]; congr 1; omega
      have hY : y = mk (sg a2 (m2 * 2 ^ s2)) eo := by rw [sg_pow, mk_shift, hc2.val]; congr 1; omega
      have hR : ∀ r, r ≤ m1 * 2 ^ s1 + m2 * 2 ^ s2 → Len r 200000000 := fun r hr => by
        have h3 : 2 ^ (A + s1) ≤ 2 ^ (A + s1 + B + s2) := Nat.pow_le_pow_right (by decide) (by omega)
        have h4 : 2 ^ (B + s2) ≤ 2 ^ (A + s1 + B + s2) := Nat.pow_le_pow_right (by decide) (by omega)
        exact len_two (A := A + s1 + B + s2 + 1) (by rw [Nat.pow_succ]; omega) (by omega)
      have hS : x + y = mk (sg a1 (m1 * 2 ^ s1) + sg a2 (m2 * 2 ^ s2)) eo := by rw [hX, hY, mk_add]
      rw [hS]
      have k1' := len_two hM1 (L := 100000000) (by omega)
      have k2' := len_two hM2 (L := 100000000) (by omega)
      by_cases hs : a1 = a2
      · have hadd := add_eq w a1 a2 p1 p2 n1 k1 n2 k2 e1 e2 eo m1 m2 s1 s2 h0 h02 heo hs1 hs2 hs hn1 hn2 hL1 hL2 k1' k2' (hR _ (Nat.le_refl _)) (by omega) (by omega) (by omega) (by omega) (by omega) (by omega) hT
        rw [sg_add] at hadd
        subst hs
        exact hadd
      · by_cases hlt : m1 * 2 ^ s1 < m2 * 2 ^ s2
        · have hadd := add_lt w a1 a2 p1 p2 n1 k1 n2 k2 e1 e2 eo m1 m2 s1 s2 h0 h02 heo hs1 hs2 hs hlt hn1 hn2 hL1 hL2 k1' k2' (hR _ (by omega)) (by omega) (by omega) (by omega) (by omega) (by omega) (by omega) hT
          rw [sg_sub_lt hs hlt] at hadd
          exact hadd
        · have hadd := add_ge w a1 a2 p1 p2 n1 k1 n2 k2 e1 e2 eo m1 m2 s1 s2 h0 h02 heo hs1 hs2 hs hlt hn1 hn2 hL1 hL2 k1' k2' (hR _ (by omega)) (by omega) (by omega) (by omega) (by omega) (by omega) (by omega) hT
          rw [sg_sub_ge hs hlt] at hadd
          exact hadd
end Go.Proofs.YtmdniebedflpbaaDoor.Dy
-- Num7: WALKS: numbers: Int.
namespace Go.Proofs.YtmdniebedflpbaaDoor.Dy
open Go.RowKit

/-- An int64. -/
def I64 (n : Int) : Prop := -9223372036854775808 ≤ n ∧ n ≤ 9223372036854775807
theorem u64_of_nonneg {n : Int} (h : I64 n) (h0 : 0 ≤ n) : IntKind.u64.wrap n = ((n.toNat : Nat) : Int) := wrap_u64 (by omega) (by unfold I64 at h; unfold base; omega)
theorem u64_of_neg {n : Int} (h : I64 n) (h0 : n < 0) : IntKind.u64.wrap (-(IntKind.u64.wrap n)) = (((-n).toNat : Nat) : Int) := by
  unfold I64 at h; rw [IntKind.wrap_u64, IntKind.wrap_u64]; omega

set_option maxHeartbeats 1600000 in
theorem int_pos (w : World) (n : Int) (x : Nat) (h : 0 ≤ n) (hx : IntKind.u64.wrap n = (x : Int)) (hb : x < base) (hT : Tab w) :
    Calls Tryd.prog 26 #[.int .i64 n] w (Ret w fun w' v => Nm w' v (mk (sg false x) 0)) := by
  have HB := Lib.hid hb
  have HT := Lib.hid hT
  have hlt : ¬ n < 0 := by omega
  clear hb hT
  go_enter Tryd.func26, Tryd.ntmps26
  go_wp2_with fail
  refine (natural_nt _ x HB.out).mono ?_
  rintro e1 w1 ⟨v1, rfl, hv1, hb1⟩
  have hb0 : Hid (Below w.heap.size w w1) := ((Below.refl _ _).alloc (Nat.le_refl _) _).trans (hb1.mono (by simp))
  have hL : Len x 200000000 := Len.mono (L := 1) (by unfold Len; rw [Nat.pow_one]; exact HB.out) (by omega)
  have HL := Lib.hid hL
  have HV := Lib.hid hv1
  obtain ⟨hcc, hff⟩ := bcell hb1
  have HND : Hid (NoDig w1 w.heap.size) := (noDig_at rfl).keep hb1 (by simp)
  have hz : w.heap.size < w1.heap.size := by have := hb1.size; simp at this; omega
  have HB1 := Lib.hid hb1
  clear hb1 hL hv1
  go_wp2_with fail
  refine (build_nm w1 false v1 x 0 HV.out HL.out (by omega) (by omega) (HT.out.keep hb0.out)).mono ?_
  rintro e2 w2 ⟨v2, rfl, hv2, hb2⟩
  obtain ⟨a4, p4, n4, k4, e4, m4, rfl, hn4, hc4⟩ := hv2.fields
  have hB2 := HB1.out.trans (hb2.mono HB1.out.size)
  clear hcc hff
  obtain ⟨hcc, hff⟩ := bcell hB2
  have HD : Hid (NoDig w2 w.heap.size) := HND.out.keep hb2 hz
  have HBB : Hid (Below w.heap.size w w2) := hb0.out.trans (hb2.mono (by omega))
  have H4 := Lib.hid hv2
  clear hb2 hB2 hv2 hn4 hc4
  go_wp2
  refine bodyPost_ret (v := .agg #[.bool a4, .slice p4 n4 k4, .int .i64 e4]) (by simp [results, Tryd.results26, go_sem, hcc]) rfl ⟨_, rfl, H4.out.laid HD.out, ?_⟩
  exact ((HBB.out.setCell (by simp) _).setCell (by simp) _).setCell (by simp) _

set_option maxHeartbeats 1600000 in
theorem int_neg (w : World) (n : Int) (x : Nat) (h : n < 0) (hx : IntKind.u64.wrap (-(IntKind.u64.wrap n)) = (x : Int)) (hb : x < base) (hT : Tab w) :
    Calls Tryd.prog 26 #[.int .i64 n] w (Ret w fun w' v => Nm w' v (mk (sg true x) 0)) := by
  have HB := Lib.hid hb
  have HT := Lib.hid hT
  clear hb hT
  go_enter Tryd.func26, Tryd.ntmps26
  go_wp2_with fail
  refine (natural_nt _ x HB.out).mono ?_
  rintro e1 w1 ⟨v1, rfl, hv1, hb1⟩
  have hb0 : Hid (Below w.heap.size w w1) := ((Below.refl _ _).alloc (Nat.le_refl _) _).trans (hb1.mono (by simp))
  have hL : Len x 200000000 := Len.mono (L := 1) (by unfold Len; rw [Nat.pow_one]; exact HB.out) (by omega)
  have HL := Lib.hid hL
  have HV := Lib.hid hv1
  obtain ⟨hcc, hff⟩ := bcell hb1
  have HND : Hid (NoDig w1 w.heap.size) := (noDig_at rfl).keep hb1 (by simp)
  have hz : w.heap.size < w1.heap.size := by have := hb1.size; simp at this; omega
  have HB1 := Lib.hid hb1
  clear hb1 hL hv1
  go_wp2_with fail
  refine (build_nm w1 true v1 x 0 HV.out HL.out (by omega) (by omega) (HT.out.keep hb0.out)).mono ?_
  rintro e2 w2 ⟨v2, rfl, hv2, hb2⟩
  obtain ⟨a4, p4, n4, k4, e4, m4, rfl, hn4, hc4⟩ := hv2.fields
  have hB2 := HB1.out.trans (hb2.mono HB1.out.size)
  clear hcc hff
  obtain ⟨hcc, hff⟩ := bcell hB2
  have HD : Hid (NoDig w2 w.heap.size) := HND.out.keep hb2 hz
  have HBB : Hid (Below w.heap.size w w2) := hb0.out.trans (hb2.mono (by omega))
  have H4 := Lib.hid hv2
  clear hb2 hB2 hv2 hn4 hc4
  go_wp2
  refine bodyPost_ret (v := .agg #[.bool a4, .slice p4 n4 k4, .int .i64 e4]) (by simp [results, Tryd.results26, go_sem, hcc]) rfl ⟨_, rfl, H4.out.laid HD.out, ?_⟩
  exact ((HBB.out.setCell (by simp) _).setCell (by simp) _).setCell (by simp) _

/-- The number n. -/
theorem int_nm (w : World) (n : Int) (h : I64 n) (hT : Tab w) :
    Calls Tryd.prog 26 #[.int .i64 n] w (Ret w fun w' v => Nm w' v (mk n 0)) := by
  by_cases h0 : 0 ≤ n
  · have := int_pos w n n.toNat h0 (u64_of_nonneg h h0) (by unfold I64 at h; unfold base; omega) hT
    rwa [show sg false n.toNat = n by unfold sg; simp; omega] at this
  · have := int_neg w n (-n).toNat (by omega) (u64_of_neg h (by omega)) (by unfold I64 at h; unfold base; omega) hT
    rwa [show sg true (-n).toNat = n by unfold sg; simp; omega] at this
end Go.Proofs.YtmdniebedflpbaaDoor.Dy
