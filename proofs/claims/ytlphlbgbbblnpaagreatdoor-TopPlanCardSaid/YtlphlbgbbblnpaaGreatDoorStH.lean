/-
  WALKS: strength: Left.
-/
import Derived.Test.YtlphlbgbbblnpaaGreatDoorStG
namespace Go.Proofs.YtlphlbgbbblnpaaGreatDoor
open Go.RowKit

theorem slE_bad {f g : Nat → Int} {n : Nat} {C N : Int} {i : Nat} (h : ¬((0 ≤ g (i * 3) ∧ g (i * 3) < n) ∧ (0 ≤ g (i * 3 + 1) ∧ g (i * 3 + 1) < C) ∧ 0 ≤ g (i * 3 + 2) ∧ g (i * 3 + 2) ≤ N)) : slE f g n C N i = 1 := by
  unfold slE; rw [if_neg h]
theorem slE_ok {f g : Nat → Int} {n : Nat} {C N : Int} {i : Nat} (h : (0 ≤ g (i * 3) ∧ g (i * 3) < n) ∧ (0 ≤ g (i * 3 + 1) ∧ g (i * 3 + 1) < C) ∧ 0 ≤ g (i * 3 + 2) ∧ g (i * 3 + 2) ≤ N) : slE f g n C N i = okE f g N (g (i * 3)) (g (i * 3 + 1)) (g (i * 3 + 2)) i := by
  unfold slE okE; rw [if_pos h]
theorem sl_take {w : World} {a : Option Addr} {n k : Nat} {f : Nat → Int} (h : Sl w 3 a n f) (hk : k ≤ n) : Sl w 3 a k f := fun h0 => by
  obtain ⟨b, o, e, hI⟩ := h (by omega)
  exact ⟨b, o, e, fun i hi => hI i (by omega)⟩
theorem keep3S {W W' : World} {b : Nat} {x y z : Value} (h : W.cell? ⟨b, 0, none⟩ = some x ∧ W.cell? ⟨b, 1, none⟩ = some y ∧ W.cell? ⟨b, 2, none⟩ = some z) (hb : Below W.heap.size W W') : W'.cell? ⟨b, 0, none⟩ = some x ∧ W'.cell? ⟨b, 1, none⟩ = some y ∧ W'.cell? ⟨b, 2, none⟩ = some z :=
  have hl := World.block_lt_of_cell? W _ h.1
  ⟨(hb.cell (p := ⟨b, 0, none⟩) hl).trans h.1, (hb.cell (p := ⟨b, 1, none⟩) hl).trans h.2.1, (hb.cell (p := ⟨b, 2, none⟩) hl).trans h.2.2⟩
/-- What Left tells, where the jobs have no error. -/
def lfV (f g : Nat → Int) (n p : Nat) (C N : Int) : Int := if lfE f g n p C N = 0 then rsk f n - tkn f g p else 0
set_option maxRecDepth 100000 in
set_option maxHeartbeats 8000000 in
theorem sleft_of (w : World) (q a : Option Addr) (n c p pc : Nat) (f g : Nat → Int) (C N : Int) (hj : jsE f n C N = 0) (hp : p ≤ 1000000) (hpc : p ≤ pc) (hS : Sl w 4 q n f) (hG : Sl w 3 a p g) :
    Calls Tryz.prog 22 #[.slice q n c, .int .i64 C, .int .i64 N, .slice a p pc] w fun e w' => e = .returned (.tuple #[.int .i64 (lfV f g n p C N), .int .i64 (lfE f g n p C N)]) ∧ Below w.heap.size w w' := by
  obtain ⟨hn, hC, hN, hjf⟩ := jok_of hj
  have HJ := Lib.hid hj
  have HJf := Lib.hid hjf
  have HS := Lib.hid hS
  have HG := Lib.hid hG
  have HIx : Hid (∀ b w x n, b = decide (0 ≤ x ∧ x < n) → Calls Tryz.prog 62 #[.int .i64 x, .int .i64 n] w fun e w' => e = .returned (.bool b) ∧ w' = w) := fun b w x n h => sindex_of b w x n h
  have HI : Hid (∀ b w x lo hi, b = decide (lo ≤ x ∧ x ≤ hi) → Calls Tryz.prog 51 #[.int .i64 x, .int .i64 lo, .int .i64 hi] w fun e w' => e = .returned (.bool b) ∧ w' = w) := fun b w x lo hi h => swithin_of b w x lo hi h
  clear hjf hS hG hj
  have HLE : Hid (lfE f g n p C N = first (slE f g n C N) p) := Lib.hid rfl
  have HLV : Hid (lfV f g n p C N = if lfE f g n p C N = 0 then rsk f n - tkn f g p else 0) := Lib.hid rfl
  obtain ⟨E, hE⟩ : ∃ E, lfE f g n p C N = E := ⟨_, rfl⟩
  rw [hE] at HLE HLV
  rw [hE]
  obtain ⟨L, hL⟩ : ∃ L, lfV f g n p C N = L := ⟨_, rfl⟩
  rw [hL] at HLV
  rw [hL]
  clear hE hL
  go_enter Tryz.func22, Tryz.ntmps22
  go_wp2_with fail
  refine (scheck_of w q n c f C N (by unfold maxLen; omega) HS.out).mono ?_
  rintro e W1 ⟨rfl, hb1⟩
  rw [HJ.out]
  have HB1 := Lib.hid hb1
  clear hb1
  go_wp2_with fail
  refine (srisk_of W1 q n c f hn (fun i hi => (HJf.out i hi).1) (HS.out.keep (by decide) HB1.out)).mono ?_
  rintro e W2 ⟨rfl, hb2⟩
  have HB2 := Lib.hid (low_trans HB1.out hb2)
  have hrk : 0 ≤ rsk f n ∧ rsk f n ≤ 1000000 * n := by
    unfold rsk
    refine ⟨si_nn fun i hi => (HJf.out i hi).1.1, ?_⟩
    have h1 : si n (fun i => f (i * 4)) ≤ si n (fun _ => (1000000 : Int)) := si_le fun i hi => (HJf.out i hi).1.2
    have h2 : ∀ n : Nat, si n (fun _ => (1000000 : Int)) = 1000000 * n := fun n => by
      induction n with
      | zero => rfl
      | succ n ih => simp only [si, ih]; push_cast; omega
    rw [h2] at h1; exact h1
  obtain ⟨r, hr⟩ : ∃ r, rsk f n = r := ⟨_, rfl⟩
  rw [hr] at hrk HLV
  rw [hr]
  clear hb2 HB1 hr
  go_wp2_with fail
  go_loopw [11, 26] (fun vl vi wr => ∃ i : Nat, i ≤ p ∧ vi = .int .i64 i ∧ vl = .int .i64 (r - tkn f g i) ∧ Hid (0 ≤ tkn f g i ∧ tkn f g i ≤ 1000000 * i) ∧ Hid (∀ m, m < i → slE f g n C N m = 0) ∧ Hid (Below w.heap.size w wr)) (fun _ vi _ => p - (intOf vi).toNat)
  case atStart => exact ⟨0, by omega, rfl, by simp [tkn, si], Lib.hid (by simp [tkn, si]), fun m hm => by omega, HB2.out⟩
  case round =>
    obtain ⟨i, hi, rfl, rfl, HTk, HZ, HB⟩ := hrel
    have htk := HTk.out
    by_cases hlt : i < p
    · obtain ⟨b4, o4, rfl, hI4⟩ := HG.out (by omega)
      have hb4 := hI4.lt (by omega)
      have hJ := hI4.keep HB.out hb4
      have d0 := hJ (i * 3) (by omega)
      have d1 := hJ.at (i * 3) 1 (by omega)
      have d2 := hJ.at (i * 3) 2 (by omega)
      have HBad := Lib.hid (slE_bad (f := f) (g := g) (n := n) (C := C) (N := N) (i := i))
      have HOk := Lib.hid (slE_ok (f := f) (g := g) (n := n) (C := C) (N := N) (i := i))
      have HFst : Hid (∀ e, slE f g n C N i = e → e ≠ 0 → E = e ∧ L = 0) := fun e he h0 => by
        have h1 := first_at (g := slE f g n C N) HZ.out (by rw [he]; exact h0) hlt
        have h2 : E = e := by rw [HLE.out, h1, he]
        exact ⟨h2, by rw [HLV.out, if_neg (by rw [h2]; exact h0)]⟩
      have HTs : Hid (tkn f g (i + 1) = tkn f g i + f ((g (i * 3)).toNat * 4)) := Lib.hid rfl
      have HAh : Hid (Ahd g n N i) := fun m hm => by
        have h1 := (sok_of (f := f) (g := g) (n := n) (p := i) (C := C) (N := N) (first_zero HZ.out) m hm).1
        exact ⟨h1.1, h1.2.2⟩
      clear hI4 hJ
      generalize g (i * 3) = y0 at d0 HBad HOk HTs
      generalize g (i * 3 + 1) = y1 at d1 HBad HOk
      generalize g (i * 3 + 2) = y2 at d2 HBad HOk
      generalize tkn f g i = tk at htk ⊢ HTs
      go_upto_region 8 with fail
      have hbV : Below wr.heap.size wr (wr.alloc (.cells #[.int .i64 y0, .int .i64 y1, .int .i64 y2] 80)) := (Below.refl _ _).alloc (Nat.le_refl _) _
      have a0 := World.alloc_heap_new wr (.cells #[.int .i64 y0, .int .i64 y1, .int .i64 y2] 80)
      obtain ⟨nb, hnb⟩ : ∃ nb, wr.heap.size = nb := ⟨_, rfl⟩
      rw [hnb] at a0
      rw [hnb]
      have HBV := Lib.hid (low_trans HB.out hbV)
      clear d0 d1 d2 hbV hnb HB
      generalize wr.alloc (.cells #[.int .i64 y0, .int .i64 y1, .int .i64 y2] 80) = V at *
      have s0 := cell_h (k := 0) a0 rfl
      have s1 := cell_h (k := 1) a0 rfl
      have s2 := cell_h (k := 2) a0 rfl
      go_wp2_with fail
      by_cases k0 : 0 ≤ y0 ∧ y0 < (n : Int)
      rotate_left
      · refine (HIx.out false _ _ _ (by symm; rw [decide_eq_false_iff_not]; exact k0)).mono ?_
        rintro e w8 ⟨rfl, rfl⟩
        obtain ⟨hE, hL⟩ := HFst.out 1 (HBad.out fun e => k0 e.1) (by decide)
        have HE := Lib.hid hE
        have HL := Lib.hid hL
        clear hE hL
        go_wp2_with fail
        exact bodyPost_ret (v := .tuple #[.int .i64 0, .int .i64 1]) (by simp [results, Tryz.f22, go_sem]) rfl ⟨by rw [HE.out, HL.out], HBV.out⟩
      refine (HIx.out true _ _ _ (by symm; rw [decide_eq_true_iff]; exact k0)).mono ?_
      rintro e w8 ⟨rfl, rfl⟩
      go_wp2_with fail
      by_cases k1 : 0 ≤ y1 ∧ y1 < C
      rotate_left
      · refine (HIx.out false _ _ _ (by symm; rw [decide_eq_false_iff_not]; exact k1)).mono ?_
        rintro e w8 ⟨rfl, rfl⟩
        obtain ⟨hE, hL⟩ := HFst.out 1 (HBad.out fun e => k1 e.2.1) (by decide)
        have HE := Lib.hid hE
        have HL := Lib.hid hL
        clear hE hL
        go_wp2_with fail
        exact bodyPost_ret (v := .tuple #[.int .i64 0, .int .i64 1]) (by simp [results, Tryz.f22, go_sem]) rfl ⟨by rw [HE.out, HL.out], HBV.out⟩
      refine (HIx.out true _ _ _ (by symm; rw [decide_eq_true_iff]; exact k1)).mono ?_
      rintro e w8 ⟨rfl, rfl⟩
      go_wp2_with fail
      by_cases k2 : 0 ≤ y2 ∧ y2 ≤ N
      rotate_left
      · refine (HI.out false _ _ _ _ (by symm; rw [decide_eq_false_iff_not]; exact k2)).mono ?_
        rintro e w8 ⟨rfl, rfl⟩
        obtain ⟨hE, hL⟩ := HFst.out 1 (HBad.out fun e => k2 e.2.2) (by decide)
        have HE := Lib.hid hE
        have HL := Lib.hid hL
        clear hE hL
        go_wp2_with fail
        exact bodyPost_ret (v := .tuple #[.int .i64 0, .int .i64 1]) (by simp [results, Tryz.f22, go_sem]) rfl ⟨by rw [HE.out, HL.out], HBV.out⟩
      refine (HI.out true _ _ _ _ (by symm; rw [decide_eq_true_iff]; exact k2)).mono ?_
      rintro e w8 ⟨rfl, rfl⟩
      obtain ⟨y, rfl⟩ : ∃ y : Nat, y0 = (y : Int) := ⟨y0.toNat, by omega⟩
      have HOk2 := Lib.hid (HOk.out ⟨k0, k1, k2⟩)
      have hyn : y < n := by omega
      have HSv := Lib.hid (HS.out.keep (by decide) HBV.out)
      have HGv := Lib.hid (sl_take (HG.out.keep (by decide) HBV.out) hi)
      have HCk : Hid (∀ V, Below w8.heap.size w8 V → Calls Tryz.prog 63 #[.slice q n c, .int .i64 N, .slice (some ⟨b4, o4, none⟩) i pc, .agg #[.int .i64 (y : Int), .int .i64 y1, .int .i64 y2]] V fun e w' => e = .returned (.int .i64 (okE f g N (y : Int) y1 y2 i)) ∧ Below V.heap.size V w') := fun V hV => sslot_of V q (some ⟨b4, o4, none⟩) n c i pc y f g C N y1 y2 HJ.out (by omega) HAh.out hyn k2 (HSv.out.keep (by decide) hV) (HGv.out.keep (by decide) hV)
      have HS0 : Hid (w8.cell? ⟨nb, 0, none⟩ = some (.int .i64 (y : Int)) ∧ w8.cell? ⟨nb, 1, none⟩ = some (.int .i64 y1) ∧ w8.cell? ⟨nb, 2, none⟩ = some (.int .i64 y2)) := ⟨s0, s1, s2⟩
      have hBW : Below w8.heap.size w8 w8 := Below.refl _ _
      have hi0 : (0 : Int) ≤ (i : Int) := by omega
      have hip : (i : Int) ≤ (pc : Int) := by omega
      go_upto_region 10 with fail
      go_region_held3 (fun W' => W'.cell? ⟨nb, 0, none⟩ = some (.int .i64 (y : Int)) ∧ W'.cell? ⟨nb, 1, none⟩ = some (.int .i64 y1) ∧ W'.cell? ⟨nb, 2, none⟩ = some (.int .i64 y2))
        (first | (with_reducible exact HS0.out) | (with_reducible exact hS9) | (with_reducible assumption) | go_keep)
        ((go_at_call 63; refine (HCk.out _ (by first | exact hBW | exact hBW.drew | exact hBW.drew.drew)).mono ?_; rintro e9 V9 ⟨rfl, hB9⟩; (have hL9 : Below w8.heap.size w8 V9 := by first | exact low_trans hBW hB9 | exact low_trans hBW.drew hB9); (have hS9 := keep3S HS0.out hL9)))
      all_goals
        have hbV : Below w8.heap.size w8 V9 := hL9
        have HBv := Lib.hid (low_trans HBV.out hbV)
        obtain ⟨s0, s1, s2⟩ := keep3S HS0.out hbV
        clear hS9 hL9 hB9 HCk
        obtain ⟨e, he⟩ : ∃ e, okE f g N (y : Int) y1 y2 i = e := ⟨_, rfl⟩
        rw [he] at HOk2
        rw [he]
        clear he
        by_cases h0 : e = 0
        · subst h0
          obtain ⟨b, o, rfl, hI⟩ := HSv.out (by omega)
          have hK := hI.keep hbV (hI.lt (by omega))
          have e0 := hK (y * 4) (by omega)
          have hf := (HJf.out y hyn).1
          rw [Int.toNat_natCast] at HTs
          generalize f (y * 4) = fy at e0 hf HTs
          have hyI : (y : Int) < (n : Int) := by omega
          clear hI hK hbV
          go_wp2_with fail
          exact ⟨⟨i + 1, by omega, by go_num, by rw [HTs]; go_num, Lib.hid (by rw [HTs]; omega), (fun m hm => by
            by_cases em : m = i
            · subst em; exact HOk2.out
            · exact HZ.out m (by omega)), HBv.out⟩, by simp [intOf]; omega⟩
        · obtain ⟨hE, hL⟩ := HFst.out e HOk2.out h0
          have HE := Lib.hid hE
          have HL := Lib.hid hL
          clear hE hL
          go_wp2_with fail
          exact bodyPost_ret (v := .tuple #[.int .i64 0, .int .i64 e]) (by simp [results, Tryz.f22, go_sem]) rfl ⟨by rw [HE.out, HL.out], HBv.out⟩
    · obtain rfl : i = p := by omega
      have hE0 : E = 0 := by rw [HLE.out, first_zero HZ.out]
      have HL0 : Hid (L = r - tkn f g i) := by rw [HLV.out, if_pos hE0]; exact Lib.hid rfl
      have HE0 := Lib.hid hE0
      clear hE0
      generalize tkn f g i = tk at htk HL0 ⊢
      go_wp2_with fail
      exact bodyPost_ret (v := .tuple #[.int .i64 (r - tk), .int .i64 0]) (by simp [results, Tryz.f22, go_sem]) rfl ⟨by rw [HE0.out, HL0.out], HB.out⟩
end Go.Proofs.YtlphlbgbbblnpaaGreatDoor
