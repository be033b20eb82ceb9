/-
  WALKS: the text of 8000.
-/
import Derived.Test.YtlphlbgbbblnpaaGreatDoorDyN
import Derived.Test.YtlphlbgbbblnpaaGreatDoorDyL
namespace Go.Proofs.YtlphlbgbbblnpaaGreatDoor
open Go.RowKit

namespace Dy
theorem len_8000 (w : World) : Calls Tryz.prog 205 #[.int .u64 8000] w fun e w' => e = .returned (.int .i64 13) ∧ w' = w := by
  go_enter Tryz.func205, Tryz.ntmps205
  go_wp2
  go_ret
  refine ⟨?_, rfl⟩
  show Ending.returned (Value.int .i64 (wrap64 (8 + wrap64 (Lib.len8 31)))) = _
  rw [show wrap64 (8 + wrap64 (Lib.len8 31)) = 13 by decide +kernel]
theorem log_13 (w : World) : Calls Tryz.prog 206 #[.int .i64 13] w fun e w' => e = .returned (.int .i64 3) ∧ w' = w := by
  go_enter Tryz.func206, Tryz.ntmps206
  go_wp2
  go_ret
  exact ⟨rfl, rfl⟩
theorem digits_8000 (w : World) (hP : Pow w) : Calls Tryz.prog 196 #[.int .u64 8000] w fun e w' => e = .returned (.int .i64 4) ∧ w' = w := by
  have h2 := hP.2
  go_enter Tryz.func196, Tryz.ntmps196
  go_wp2_with fail
  refine (len_8000 w).mono ?_
  rintro e w' ⟨rfl, rfl⟩
  go_wp2_with fail
  refine (log_13 _).mono ?_
  rintro e w' ⟨rfl, rfl⟩
  go_wp2_with fail
  refine (bool2_of _ _).mono ?_
  rintro e w' ⟨rfl, rfl⟩
  go_wp2_with fail
  go_ret
  exact ⟨rfl, rfl⟩
set_option maxRecDepth 100000 in
set_option maxHeartbeats 8000000 in
theorem base10_8000 (w : World) (g B : Nat) (a0 a1 a2 a3 : Value) (h0 : w.cell? ⟨g, 0, none⟩ = some a0) (h1 : w.cell? ⟨g, 1, none⟩ = some a1) (h2 : w.cell? ⟨g, 2, none⟩ = some a2) (h3 : w.cell? ⟨g, 3, none⟩ = some a3) (hf : ∀ o, w.frozen? ⟨g, o, none⟩ = false) (c : Nat) (hB : B ≤ g) :
    Calls Tryz.prog 197 #[.slice (some ⟨g, 0, none⟩) 4 c, .int .u64 8000] w fun e w' => e = .returned (.tuple #[]) ∧ w'.cell? ⟨g, 0, none⟩ = some (.int .u8 56) ∧ w'.cell? ⟨g, 1, none⟩ = some (.int .u8 48) ∧ w'.cell? ⟨g, 2, none⟩ = some (.int .u8 48) ∧ w'.cell? ⟨g, 3, none⟩ = some (.int .u8 48) ∧ Below B w w' := by
  go_enter Tryz.func197, Tryz.ntmps197
  go_wp2_with fail
  refine wp_loop_rounds 1 ?_
  rw [rounds_succ]
  have f0 := hf 0
  have f1 := hf 1
  have f2 := hf 2
  have f3 := hf 3
  go_upto_region 17 with fail
  go_region
  all_goals
    generalize hW : World.drew _ = W
    have c2 : W.cell? ⟨g, 2, none⟩ = some (.int .u8 48) := by
      rw [← hW]
      first
        | exact (World.cell?_setCell_same _ _ _ ((World.cell?_setCell_other _ _ _ _ (by simp)).trans h2)).trans (by kernel_rfl)
        | exact (World.cell?_setCell_other _ _ _ _ (by simp)).trans ((World.cell?_setCell_same _ _ _ h2).trans (by kernel_rfl))
    have c3 : W.cell? ⟨g, 3, none⟩ = some (.int .u8 48) := by
      rw [← hW]
      first
        | exact (World.cell?_setCell_same _ _ _ ((World.cell?_setCell_other _ _ _ _ (by simp)).trans h3)).trans (by kernel_rfl)
        | exact (World.cell?_setCell_other _ _ _ _ (by simp)).trans ((World.cell?_setCell_same _ _ _ h3).trans (by kernel_rfl))
    have c0 : W.cell? ⟨g, 0, none⟩ = some a0 := by
      rw [← hW]
      exact (World.cell?_setCell_other _ _ _ _ (by simp)).trans ((World.cell?_setCell_other _ _ _ _ (by simp)).trans h0)
    have c1 : W.cell? ⟨g, 1, none⟩ = some a1 := by
      rw [← hW]
      exact (World.cell?_setCell_other _ _ _ _ (by simp)).trans ((World.cell?_setCell_other _ _ _ _ (by simp)).trans h1)
    have g0 : W.frozen? ⟨g, 0, none⟩ = false := by
      rw [← hW]
      have := hf 0
      simpa using this
    have g1 : W.frozen? ⟨g, 1, none⟩ = false := by
      rw [← hW]
      have := hf 1
      simpa using this
    have HB : Hid (Below B w W) := by
      rw [← hW]
      exact (((Below.refl _ _).setCell hB _).setCell hB _).drew
    clear hW h0 h1 h2 h3 f0 f1 f2 f3 hf
    go_upto_region 18 with fail
    go_region
    all_goals
      generalize hV : World.drew _ = V
      have d0 : V.cell? ⟨g, 0, none⟩ = some (.int .u8 56) := by
        rw [← hV]
        first
          | exact (World.cell?_setCell_same _ _ _ ((World.cell?_setCell_other _ _ _ _ (by simp)).trans c0)).trans (by kernel_rfl)
          | exact (World.cell?_setCell_other _ _ _ _ (by simp)).trans ((World.cell?_setCell_same _ _ _ c0).trans (by kernel_rfl))
      have d1 : V.cell? ⟨g, 1, none⟩ = some (.int .u8 48) := by
        rw [← hV]
        first
          | exact (World.cell?_setCell_same _ _ _ ((World.cell?_setCell_other _ _ _ _ (by simp)).trans c1)).trans (by kernel_rfl)
          | exact (World.cell?_setCell_other _ _ _ _ (by simp)).trans ((World.cell?_setCell_same _ _ _ c1).trans (by kernel_rfl))
      have d2 : V.cell? ⟨g, 2, none⟩ = some (.int .u8 48) := by
        rw [← hV]
        exact (World.cell?_setCell_other _ _ _ _ (by simp)).trans ((World.cell?_setCell_other _ _ _ _ (by simp)).trans c2)
      have d3 : V.cell? ⟨g, 3, none⟩ = some (.int .u8 48) := by
        rw [← hV]
        exact (World.cell?_setCell_other _ _ _ _ (by simp)).trans ((World.cell?_setCell_other _ _ _ _ (by simp)).trans c3)
      have HB2 : Hid (Below B w V) := by
        rw [← hV]
        exact ((HB.out.setCell hB _).setCell hB _).drew
      clear hV c0 c1 c2 c3 g0 g1 HB
      go_wp2_with fail
      exact bodyPost_end (results_none rfl _ _ _) rfl ⟨rfl, d0, d1, d2, d3, HB2.out⟩
set_option maxRecDepth 100000 in
set_option maxHeartbeats 4000000 in
theorem format_in_8000 (w : World) (hP : Pow w) : Calls Tryz.prog 177 #[.int .u64 8000, .int .i64 10] w fun e w' => e = .returned (.string ⟨#[56, 48, 48, 48]⟩) ∧ Below w.heap.size w w' := by
  go_enter Tryz.func177, Tryz.ntmps177
  go_wp2_with fail
  refine (digits_8000 _ (hP.keep ((Below.refl _ _).alloc (Nat.le_refl _) _))).mono ?_
  rintro e w1 ⟨rfl, rfl⟩
  go_wp2_with fail
  have hB := (Below.refl w.heap.size w).alloc (Nat.le_refl _) (.cells #[.int .u8 0, .int .u8 0, .int .u8 0, .int .u8 0, .int .u8 0, .int .u8 0, .int .u8 0, .int .u8 0, .int .u8 0, .int .u8 0, .int .u8 0, .int .u8 0, .int .u8 0, .int .u8 0, .int .u8 0, .int .u8 0, .int .u8 0, .int .u8 0, .int .u8 0, .int .u8 0, .int .u8 0, .int .u8 0, .int .u8 0, .int .u8 0] 256)
  have hn := heap_alloc_new w (.cells #[.int .u8 0, .int .u8 0, .int .u8 0, .int .u8 0, .int .u8 0, .int .u8 0, .int .u8 0, .int .u8 0, .int .u8 0, .int .u8 0, .int .u8 0, .int .u8 0, .int .u8 0, .int .u8 0, .int .u8 0, .int .u8 0, .int .u8 0, .int .u8 0, .int .u8 0, .int .u8 0, .int .u8 0, .int .u8 0, .int .u8 0, .int .u8 0] 256)
  generalize w.alloc (.cells #[.int .u8 0, .int .u8 0, .int .u8 0, .int .u8 0, .int .u8 0, .int .u8 0, .int .u8 0, .int .u8 0, .int .u8 0, .int .u8 0, .int .u8 0, .int .u8 0, .int .u8 0, .int .u8 0, .int .u8 0, .int .u8 0, .int .u8 0, .int .u8 0, .int .u8 0, .int .u8 0, .int .u8 0, .int .u8 0, .int .u8 0, .int .u8 0] 256) = W at hB hn ⊢
  have k0 : W.cell? ⟨w.heap.size, 0, none⟩ = some (.int .u8 0) := by simp [World.cell?, hn]
  have k1 : W.cell? ⟨w.heap.size, 1, none⟩ = some (.int .u8 0) := by simp [World.cell?, hn]
  have k2 : W.cell? ⟨w.heap.size, 2, none⟩ = some (.int .u8 0) := by simp [World.cell?, hn]
  have k3 : W.cell? ⟨w.heap.size, 3, none⟩ = some (.int .u8 0) := by simp [World.cell?, hn]
  have hf : ∀ o, W.frozen? ⟨w.heap.size, o, none⟩ = false := fun o => by simp [World.frozen?, hn]
  refine (base10_8000 W _ w.heap.size _ _ _ _ k0 k1 k2 k3 hf 24 (Nat.le_refl _)).mono ?_
  rintro e w2 ⟨rfl, c0, c1, c2, c3, hB2⟩
  have HB := Lib.hid (hB.trans hB2)
  clear hB hB2 hn k0 k1 k2 k3 hf hP
  have HC : (convert 45 9 (.slice (some ⟨w.heap.size, 0, none⟩) 4 24)).run Tryz.prog w2 = .ok (.string ⟨#[56, 48, 48, 48]⟩) w2 :=
    Lib.run_convert_whole (P := Tryz.prog) w2 45 5 9 Tryz.underlying45 Tryz.underlying5 Tryz.underlying9 w.heap.size 0 ⟨#[56, 48, 48, 48]⟩ (fun i hi => by
      have hi3 : i < 4 := hi
      rcases (by omega : i = 0 ∨ i = 1 ∨ i = 2 ∨ i = 3) with rfl | rfl | rfl | rfl
      · exact c0
      · exact c1
      · exact c2
      · exact c3) 24
  clear c0 c1 c2 c3
  go_wp2_with fail
  go_ret
  exact ⟨rfl, HB.out⟩
theorem format_8000 (w : World) (hP : Pow w) : Calls Tryz.prog 153 #[.int .u64 8000, .int .i64 10] w fun e w' => e = .returned (.string ⟨#[56, 48, 48, 48]⟩) ∧ Below w.heap.size w w' := by
  go_enter Tryz.func153, Tryz.ntmps153
  go_wp2_with fail
  refine (format_in_8000 w hP).mono ?_
  rintro e w' ⟨rfl, hB⟩
  have HB := Lib.hid hB
  clear hB
  go_wp2
  go_ret
  exact ⟨rfl, HB.out⟩
theorem thou_len {m : Nat} (h : m ≤ 9999) (L : Nat) : Len m (L + 1) := by
  unfold Len
  have : base ^ 1 ≤ base ^ (L + 1) := Nat.pow_le_pow_right (by decide) (by omega)
  have h2 : (10000 : Nat) ≤ base ^ 1 := by decide
  omega
set_option maxRecDepth 8000 in
theorem decimal_of4 (s : ByteArray) (w : World) (p : Option Addr) (n c m : Nat) (h : Nt w (.slice p n c) m) (h0 : m ≠ 0) (h9 : m ≤ 9999) (hP : Pow w)
    (hF : ∀ W, Pow W → Calls Tryz.prog 153 #[.int .u64 (m : Int), .int .i64 10] W fun e W' => e = .returned (.string s) ∧ Below W.heap.size W W') :
    Calls Tryz.prog 118 #[.slice p n c] w (Ret w fun _ v => v = .string s) := by
  rcases h with ⟨hx, _⟩ | ⟨b, o, n, k, f, hx, hn, hk, hr, hs, hl, rfl⟩
  · exact absurd ‹_› h0
  injection hx with hx1 hx2 hx3
  subst hx1 hx2 hx3
  have hm := thou_len h9 0
  have hnL : n ≤ 1 := by
    have := Nt.of_row hn hk hr hs hl
    have h1 : Len (val f n) 1 := hm
    exact len_le hn hl h1
  obtain rfl : n = 1 := by omega
  have hv0 : val f 1 = f 0 := by simp [val]
  rw [hv0] at h0 h9 hF
  clear hm hl hs hn hnL hv0
  have H := Lib.hid hr
  have HP := Lib.hid hP
  have HF := Lib.hid hF
  clear hr hP hF
  go_enter Tryz.func118, Tryz.ntmps118
  go_wp2_with fail
  refine (clone_row w b o 1 c f (by omega) H.out).mono ?_
  rintro e w1 ⟨g, cap, rfl, hg, hcap, hW1, hR1, hb1⟩
  have hc1 := hR1 0 (by omega)
  have hw1 : w1.cell? ⟨g, 0, none⟩ = some (.int .u64 (f 0 : Int)) := hc1
  have hN1 : Nt w1 (.slice (some ⟨g, 0, none⟩) 1 cap) (f 0) := by
    have h := Nt.of_row (w := w1) (b := g) (o := 0) (n := 1) (cap := cap) (f := f) (by omega) hcap hR1 (fun i hi => by
      obtain rfl : i = 0 := by omega
      have : (10000 : Nat) ≤ base := by decide
      omega) h0
    have e : val f 1 = f 0 := by simp [val]
    rwa [e] at h
  have HN1 := Lib.hid hN1
  have HB1 := Lib.hid hb1
  clear hN1 hb1 hc1 hW1 hR1 hcap
  go_wp2
  refine wp_loop_rounds 1 ?_
  rw [rounds_succ]
  go_wp2_with fail
  refine (natural_nt w1 10000000000000000000 (by decide)).mono ?_
  rintro e w2 ⟨v2, rfl, hv2, hb2⟩
  have hL0 := thou_len h9 999999999999
  have hb : (10000 : Nat) ≤ base := by decide
  go_wp2_with fail
  refine (compare_nt w2 _ v2 (f 0) 10000000000000000000 (HN1.out.keep hb2) hv2 hL0 (len_ten (by omega))).mono ?_
  rintro e w3 ⟨rfl, hq3⟩
  have hcmp : cmpN (f 0) 10000000000000000000 = -1 := by unfold cmpN; rw [if_pos (by omega)]
  rw [hcmp]
  have hb3 : Below w1.heap.size w1 w3 := hb2.trans ((hq3.below _).mono hb2.size)
  have hmod : f 0 % base = f 0 := Nat.mod_eq_of_lt (by omega)
  have HN3 : Hid (Nt w3 (.slice (some ⟨g, 0, none⟩) 1 cap) (f 0)) := HN1.out.keep hb3
  have HB3 : Hid (Below w.heap.size w w3) := HB1.out.trans (hb3.mono HB1.out.size)
  clear hb2 hq3 hb3 hv2
  go_wp2_with fail
  refine (word_nt w3 _ (f 0) HN3.out hL0).mono ?_
  rintro e w4 ⟨rfl, rfl⟩
  rw [hmod]
  go_wp2_with fail
  refine (HF.out w4 (HP.out.keep HB3.out)).mono ?_
  rintro e w5 ⟨rfl, hB5⟩
  have HB5 : Hid (Below w.heap.size w w5) := HB3.out.trans (hB5.mono HB3.out.size)
  clear hB5
  clear hmod hcmp hb hL0 h0 HN1 HN3
  go_wp2_with fail
  generalize (Question.appendCap 1 0 9).cut (w5.tape w5.drawn (Question.appendCap 1 0 9)) = cap2
  obtain ⟨W, hW⟩ : ∃ W, W = ((w5.alloc (.cells #[.string s] 9)).alloc (.cells (#[.string s] ++ Builtin.zeroCells #[.string ⟨#[]⟩] (cap2 - 1)) 9)).drew := ⟨_, rfl⟩
  rw [← hW]
  have hBW : Hid (Below w.heap.size w W) := by rw [hW]; exact ((HB5.out.alloc HB5.out.size _).alloc (by simp; have := HB5.out.size; omega) _).drew
  have hcW : W.cell? ⟨w5.heap.size + 1, 0, none⟩ = some (.string s) := by
    rw [hW]
    show ((w5.alloc (.cells #[.string s] 9)).alloc (.cells (#[.string s] ++ Builtin.zeroCells #[.string ⟨#[]⟩] (cap2 - 1)) 9)).cell? _ = _
    rw [show w5.heap.size + 1 = (w5.alloc (.cells #[.string s] 9)).heap.size by simp, cell_of_row _ _ _ _ _ _ (heap_alloc_new _ _)]
    rw [Array.getElem?_append_left (by simp)]
    rfl
  clear hW
  refine (reverse_one W _ cap2).mono ?_
  rintro e w6 ⟨rfl, rfl⟩
  go_wp2_with fail
  refine (join_one w6 _ 0 cap2 _ hcW).mono ?_
  rintro e w7 ⟨rfl, rfl⟩
  go_wp2
  go_ret
  exact ⟨_, rfl, rfl, hBW.out⟩
theorem thou_lenI {m L : Nat} (h : m ≤ 9999) (hL : 0 < L) : Len m L := by
  obtain ⟨k, rfl⟩ : ∃ k, L = k + 1 := ⟨L - 1, by omega⟩
  exact thou_len h k
set_option maxRecDepth 8000 in
set_option maxHeartbeats 1600000 in
theorem text_of4 (s : ByteArray) (w : World) (p : Option Addr) (n c m e d : Nat) (h : Nt w (.slice p n c) m) (hd : m * 2 ^ e = d) (h0 : d ≠ 0) (h9 : d ≤ 9999) (he : e ≤ 9) (hP : Pow w)
    (hF : ∀ W, Pow W → Calls Tryz.prog 153 #[.int .u64 (d : Int), .int .i64 10] W fun e W' => e = .returned (.string s) ∧ Below W.heap.size W W') :
    Calls Tryz.prog 83 #[.agg #[.bool false, .slice p n c, .int .i64 (e : Int)]] w (Ret w fun _ v => v = .string s) := by
  have hm9 : m ≤ 9999 := by
    have : m * 1 ≤ m * 2 ^ e := Nat.mul_le_mul_left m (Nat.one_le_two_pow)
    omega
  have H := Lib.hid h
  have hmax : max (e : Int) 0 = (e : Int) := by omega
  have hlt : (decide ((e : Int) < 0)) = false := by rw [decide_eq_false_iff_not]; omega
  have HD := Lib.hid hd
  have HP := Lib.hid hP
  have HF := Lib.hid hF
  clear h hd hP hF
  go_enter Tryz.func83, Tryz.ntmps83
  go_wp2_with fail
  obtain ⟨W, hW⟩ : ∃ W, W = w.alloc (.cells #[.bool false, .slice p n c, .int .i64 (e : Int)] 75) := ⟨_, rfl⟩
  rw [← hW]
  have hB0 : Below w.heap.size w W := by rw [hW]; exact (Below.refl _ _).alloc (Nat.le_refl _) _
  have hsz : W.heap.size = w.heap.size + 1 := by rw [hW]; simp
  have x0 : W.cell? ⟨w.heap.size, 0, none⟩ = some (.bool false) := by rw [hW]; go_simp
  have x1 : W.cell? ⟨w.heap.size, 1, none⟩ = some (.slice p n c) := by rw [hW]; go_simp
  have x2 : W.cell? ⟨w.heap.size, 2, none⟩ = some (.int .i64 (e : Int)) := by rw [hW]; go_simp
  have hz : w.heap.size < W.heap.size := by omega
  have HB0 := Lib.hid hB0
  clear hW hsz hB0
  have hl : Calls Tryz.prog 117 #[.slice p n c, .int .i64 (e : Int)] W (Ret W fun w' v => Nt w' v d) := by
    have h := left_nt W (.slice p n c) m e (H.out.keep HB0.out) (thou_lenI hm9 (by omega)) (by omega)
    rwa [HD.out] at h
  refine hl.mono ?_
  rintro e1 w1 ⟨v1, rfl, hv1, hb1⟩
  obtain ⟨q1, l1, c1, rfl⟩ := hv1.slice
  go_wp2_with fail
  refine (decimal_of4 s w1 q1 l1 c1 d hv1 h0 h9 (HP.out.keep (HB0.out.trans (hb1.mono HB0.out.size))) HF.out).mono ?_
  rintro e2 w2 ⟨v2, rfl, rfl, hb2⟩
  have hB2 : Below W.heap.size W w2 := hb1.trans (hb2.mono hb1.size)
  obtain ⟨hcc, hff⟩ := bcell hB2
  have HW2 : Hid (Below w.heap.size w w2) := HB0.out.trans (hB2.mono HB0.out.size)
  have hK0 : w2.cell? ⟨w.heap.size, 0, none⟩ = some (.bool false) := (hcc _ _ hz).trans x0
  have hK2 : w2.cell? ⟨w.heap.size, 2, none⟩ = some (.int .i64 (e : Int)) := (hcc _ _ hz).trans x2
  clear hb1 hb2 hB2 hv1 hl hcc hff x0 x1 x2
  go_wp2_with fail
  go_ret
  exact ⟨_, rfl, rfl, HW2.out⟩

end Dy
theorem txt8000 : ((((⟨#[91]⟩ ++ ⟨#[56, 48, 48, 48]⟩) ++ ⟨#[44]⟩) ++ ⟨#[56, 48, 48, 48]⟩) ++ ⟨#[93]⟩ : ByteArray) = ⟨#[91, 56, 48, 48, 48, 44, 56, 48, 48, 48, 93]⟩ := by decide
end Go.Proofs.YtlphlbgbbblnpaaGreatDoor
