/-
  WALKS: Drift.
-/
import Derived.Test.YtlbffdgojmjijaaDoorDrD
namespace Go.Proofs.YtlbffdgojmjijaaDoor
open Go.RowKit

theorem sq_pos {F M : Nat → Int} {k : Nat} (h : ∀ i, i < k → 1 ≤ F (i * 4) ∧ F (i * 4) ≤ 64) : ∀ i, i ≤ k → (i : Int) ≤ smD (fun s _ _ _ => s * s) F M i
  | 0, _ => by simp [smD]
  | i + 1, hi => by
    have h1 := sq_pos (M := M) h i (by omega)
    have h2 := h i (by omega)
    have h3 : 1 ≤ F (i * 4) * F (i * 4) := by
      have := Int.mul_le_mul_of_nonneg_left h2.1 (show 0 ≤ F (i * 4) by omega)
      omega
    simp only [smD]
    push_cast
    omega
set_option maxRecDepth 100000 in
set_option maxHeartbeats 8000000 in
theorem drift_of (w : World) (a b : Option Addr) (n c k d : Nat) (f F : Nat → Int) (h : VsOk n f) (hT : TsOk n k F) (hS : Sl w 3 a n f) (hF : Sl w 4 b k F) (hM : ∀ i, i < k → Sm (msV f F (i * 3)) ∧ Sm (msV f F (i * 3 + 1)) ∧ Sm (msV f F (i * 3 + 2))) :
    Calls Tryd.prog 12 #[.slice a n c, .slice b k d] w fun e w' => (∃ p q r s g : Int, e = .returned (.tuple #[.agg #[.int .i64 p, .int .i64 q, .int .i64 r, .int .i64 s], .int .i64 0]) ∧ smD (fun s x _ _ => s * x) F (msV f F) k = g * p ∧ smD (fun s _ y _ => s * y) F (msV f F) k = g * q ∧ smD (fun s _ _ z => s * z) F (msV f F) k = g * r ∧ smD (fun s _ _ _ => s * s) F (msV f F) k = g * s ∧ 1 ≤ g) ∧ Below w.heap.size w w' := by
  have hk := hT.1
  have hn := h.1
  have HT := Lib.hid hT
  have HMs := Lib.hid hM
  have HOk := Lib.hid h
  have HS := Lib.hid hS
  obtain ⟨b, o, rfl, hI⟩ := hF (by omega)
  have HI := Lib.hid hI
  have hbl := hI.lt (by omega)
  have H1 : Hid (∀ i, i < k → 1 ≤ F (i * 4) ∧ F (i * 4) ≤ 64) := fun i hi => by have := hT.2.1 i hi; omega
  clear h hT hS hF hI hM
  go_enter Tryd.func12, Tryd.ntmps12
  go_wp2_with fail
  obtain ⟨W, hW⟩ : ∃ W, (w.alloc (.cells #[.slice (some ⟨b, o, none⟩) k d] 26)).alloc (.cells #[.int .i64 0, .int .i64 0, .int .i64 0, .int .i64 0] 34) = W := ⟨_, rfl⟩
  rw [hW]
  have hB : Below w.heap.size w W := by rw [← hW]; exact ((Below.refl _ _).alloc (Nat.le_refl _) _).alloc (by simp) _
  have A0 : W.heap[w.heap.size]? = some (.cells #[.slice (some ⟨b, o, none⟩) k d] 26 (0, 0)) := by rw [← hW]; exact al_old (World.alloc_heap_new w _) _
  have A1 : W.heap[w.heap.size + 1]? = some (.cells #[.int .i64 0, .int .i64 0, .int .i64 0, .int .i64 0] 34 (0, 0)) := by rw [← hW]; exact al_1 w _ _
  have hsz : W.heap.size = w.heap.size + 2 := by rw [← hW]; simp
  have HA0 := Lib.hid A0
  have HA1 := Lib.hid A1
  have HB := Lib.hid hB
  clear hW hB A0 A1
  refine (miss_of W a (some ⟨b, o, none⟩) n c k d f F HOk.out HT.out (HS.out.keep (by decide) HB.out) (fun _ => ⟨b, o, rfl, HI.out.keep HB.out hbl⟩)).mono ?_
  rintro e W1 ⟨G, rfl, hG0, hG, hB1⟩
  have HG := Lib.hid hG
  have HB1 := Lib.hid hB1
  clear hG hB1
  obtain ⟨W2, hW2⟩ : ∃ W2, W1.alloc (.cells #[.slice (some ⟨G, 0, none⟩) k k] 24) = W2 := ⟨_, rfl⟩
  have hB2 : Below W1.heap.size W1 W2 := by rw [← hW2]; exact (Below.refl _ _).alloc (Nat.le_refl _) _
  have hsz1 := HB1.out.size
  have hsz2 : W2.heap.size = W1.heap.size + 1 := by rw [← hW2]; simp
  have P1 : Hid (W2.cell? ⟨W1.heap.size, 0, none⟩ = some (.slice (some ⟨G, 0, none⟩) k k)) := by rw [← hW2]; exact Lib.hid (cell_h (World.alloc_heap_new W1 _) rfl)
  have P0 : Hid (W2.cell? ⟨w.heap.size, 0, none⟩ = some (.slice (some ⟨b, o, none⟩) k d)) := Lib.hid ((hB2.cell (p := ⟨w.heap.size, 0, none⟩) (by simp; omega)).trans ((HB1.out.cell (p := ⟨w.heap.size, 0, none⟩) (by simp; omega)).trans (cell_h HA0.out rfl)))
  have PA : Hid (W2.heap[w.heap.size + 1]? = some (.cells #[.int .i64 0, .int .i64 0, .int .i64 0, .int .i64 0] 34 (0, 0))) := Lib.hid ((hB2.block _ (by omega)).trans ((HB1.out.block _ (by omega)).trans HA1.out))
  have I2 : Hid (Ints W2 b o (k * 4) F) := Lib.hid (((HI.out.keep HB.out hbl).keep HB1.out (by omega)).keep hB2 (by omega))
  have M2 : Hid (Ints W2 G 0 (k * 3) (msV f F)) := by
    have hG2 := HG.out.keep hB2 HG.out.lt
    exact fun i hi => by
      have h := hG2.cell (k := i) hi
      rw [Nat.zero_add, h]
      simp only [msG, if_pos hi]
  have HB2 : Hid (Below w.heap.size w W2) := Lib.hid ((HB.out.trans (HB1.out.mono (by omega))).trans (hB2.mono (by omega)))
  have hp0 : w.heap.size < W2.heap.size := by omega
  have hp1 : W1.heap.size < W2.heap.size := by omega
  have hb2 : b < W2.heap.size := by omega
  have hg2 : G < W2.heap.size := by have := HG.out.lt; omega
  have HS2 : Hid (∀ V, Below W2.heap.size W2 V → Calls Tryd.prog 25 #[.func (.func 26) #[] #[], .pointer (some ⟨w.heap.size, 0, none⟩), .pointer (some ⟨W1.heap.size, 0, none⟩)] V fun e w' => e = .returned (.int .i64 (smD (fun s x _ _ => s * x) F (msV f F) k)) ∧ Below V.heap.size V w') := fun V hV => sum2_of V w.heap.size W1.heap.size b o G k d k F (msV f F) ((hV.cell (p := ⟨w.heap.size, 0, none⟩) hp0).trans P0.out) ((hV.cell (p := ⟨W1.heap.size, 0, none⟩) hp1).trans P1.out) hk (I2.out.keep hV hb2) ((M2.out.keep hV hg2)) H1.out HMs.out
  have HS3 : Hid (∀ V, Below W2.heap.size W2 V → Calls Tryd.prog 25 #[.func (.func 27) #[] #[], .pointer (some ⟨w.heap.size, 0, none⟩), .pointer (some ⟨W1.heap.size, 0, none⟩)] V fun e w' => e = .returned (.int .i64 (smD (fun s _ y _ => s * y) F (msV f F) k)) ∧ Below V.heap.size V w') := fun V hV => sum3_of V w.heap.size W1.heap.size b o G k d k F (msV f F) ((hV.cell (p := ⟨w.heap.size, 0, none⟩) hp0).trans P0.out) ((hV.cell (p := ⟨W1.heap.size, 0, none⟩) hp1).trans P1.out) hk (I2.out.keep hV hb2) ((M2.out.keep hV hg2)) H1.out HMs.out
  have HS4 : Hid (∀ V, Below W2.heap.size W2 V → Calls Tryd.prog 25 #[.func (.func 28) #[] #[], .pointer (some ⟨w.heap.size, 0, none⟩), .pointer (some ⟨W1.heap.size, 0, none⟩)] V fun e w' => e = .returned (.int .i64 (smD (fun s _ _ z => s * z) F (msV f F) k)) ∧ Below V.heap.size V w') := fun V hV => sum4_of V w.heap.size W1.heap.size b o G k d k F (msV f F) ((hV.cell (p := ⟨w.heap.size, 0, none⟩) hp0).trans P0.out) ((hV.cell (p := ⟨W1.heap.size, 0, none⟩) hp1).trans P1.out) hk (I2.out.keep hV hb2) ((M2.out.keep hV hg2)) H1.out HMs.out
  have HS5 : Hid (∀ V, Below W2.heap.size W2 V → Calls Tryd.prog 25 #[.func (.func 30) #[] #[], .pointer (some ⟨w.heap.size, 0, none⟩), .pointer (some ⟨W1.heap.size, 0, none⟩)] V fun e w' => e = .returned (.int .i64 (smD (fun s _ _ _ => s * s) F (msV f F) k)) ∧ Below V.heap.size V w') := fun V hV => sum5_of V w.heap.size W1.heap.size b o G k d k F (msV f F) ((hV.cell (p := ⟨w.heap.size, 0, none⟩) hp0).trans P0.out) ((hV.cell (p := ⟨W1.heap.size, 0, none⟩) hp1).trans P1.out) hk (I2.out.keep hV hb2) ((M2.out.keep hV hg2)) H1.out HMs.out
  have hb1 := smD_bd (g := fun s x _ _ => s * x) (F := F) (M := msV f F) (k := k) (fun i hi => mul_sm (H1.out i hi) (HMs.out i hi).1) k (Nat.le_refl _)
  have hb2' := smD_bd (g := fun s _ y _ => s * y) (F := F) (M := msV f F) (k := k) (fun i hi => mul_sm (H1.out i hi) (HMs.out i hi).2.1) k (Nat.le_refl _)
  have hb3 := smD_bd (g := fun s _ _ z => s * z) (F := F) (M := msV f F) (k := k) (fun i hi => mul_sm (H1.out i hi) (HMs.out i hi).2.2) k (Nat.le_refl _)
  have hb4 := smD_bd (g := fun s _ _ _ => s * s) (F := F) (M := msV f F) (k := k) (fun i hi => mul_sm (H1.out i hi) (by have := H1.out i hi; unfold Sm; omega)) k (Nat.le_refl _)
  have hpos := sq_pos (M := msV f F) H1.out k (Nat.le_refl _)
  generalize ht1 : smD (fun s x _ _ => s * x) F (msV f F) k = t1 at HS2 hb1
  generalize ht2 : smD (fun s _ y _ => s * y) F (msV f F) k = t2 at HS3 hb2'
  generalize ht3 : smD (fun s _ _ z => s * z) F (msV f F) k = t3 at HS4 hb3
  generalize ht4 : smD (fun s _ _ _ => s * s) F (msV f F) k = t4 at HS5 hb4 hpos
  have HTs := Lib.hid (And.intro ht1 (And.intro ht2 (And.intro ht3 ht4)))
  clear ht1 ht2 ht3 ht4
  have HV : Hid (∀ V, Calls Tryd.prog 29 #[.agg #[.int .i64 t1, .int .i64 t2, .int .i64 t3], .int .i64 t4] V fun e w' => (∃ p q r s g : Int, e = .returned (.agg #[.int .i64 p, .int .i64 q, .int .i64 r, .int .i64 s]) ∧ t1 = g * p ∧ t2 = g * q ∧ t3 = g * r ∧ t4 = g * s ∧ 1 ≤ g) ∧ Below V.heap.size V w') := fun V => over_of V t1 t2 t3 t4 (by unfold Bg; omega) (by unfold Bg; omega) (by unfold Bg; omega) (by unfold Bg; omega) (by omega)
  clear hb1 hb2' hb3 hb4 hpos hB2 P0 P1 I2 M2 HG HB HB1 HA0 HA1
  go_wp2_with fail
  clear hW2
  refine (HS2.out W2 (Below.refl _ _)).mono ?_
  rintro e W3 ⟨rfl, hB3⟩
  have HB3 := Lib.hid hB3
  clear hB3
  go_wp2_with fail
  refine (HS3.out W3 HB3.out).mono ?_
  rintro e W4 ⟨rfl, hB4⟩
  have HB4 := Lib.hid (HB3.out.trans (hB4.mono HB3.out.size))
  clear hB4
  go_wp2_with fail
  refine (HS4.out W4 HB4.out).mono ?_
  rintro e W5 ⟨rfl, hB5⟩
  have HB5 := Lib.hid (HB4.out.trans (hB5.mono HB4.out.size))
  clear hB5
  go_wp2_with fail
  obtain ⟨W6, hW6⟩ : ∃ W6, W5.alloc (.cells #[.int .i64 t1, .int .i64 t2, .int .i64 t3] 36) = W6 := ⟨_, rfl⟩
  rw [hW6]
  have hB6 : Below W5.heap.size W5 W6 := by rw [← hW6]; exact (Below.refl _ _).alloc (Nat.le_refl _) _
  have hs5 := HB5.out.size
  have hA6 : W6.heap[W5.heap.size]? = some (.cells #[.int .i64 t1, .int .i64 t2, .int .i64 t3] 36 (0, 0)) := by rw [← hW6]; exact World.alloc_heap_new W5 _
  have hl6 : W5.heap.size < W6.heap.size := (Array.getElem?_eq_some_iff.1 hA6).1
  have s0 : W6.cell? ⟨W5.heap.size, 0, none⟩ = some (.int .i64 t1) := cell_h hA6 rfl
  have s1 : W6.cell? ⟨W5.heap.size, 1, none⟩ = some (.int .i64 t2) := cell_h hA6 rfl
  have s2 : W6.cell? ⟨W5.heap.size, 2, none⟩ = some (.int .i64 t3) := cell_h hA6 rfl
  have d0 : W6.drew.cell? ⟨W5.heap.size, 0, none⟩ = some (.int .i64 t1) := s0
  have d1 : W6.drew.cell? ⟨W5.heap.size, 1, none⟩ = some (.int .i64 t2) := s1
  have d2 : W6.drew.cell? ⟨W5.heap.size, 2, none⟩ = some (.int .i64 t3) := s2
  have hl6' : W5.heap.size < W6.drew.heap.size := hl6
  have HB6 : Hid (Below W2.heap.size W2 W6.drew) := Lib.hid (HB5.out.trans (hB6.mono hs5)).drew
  have HP6 : Hid (Calls Tryd.prog 25 #[.func (.func 30) #[] #[], .pointer (some ⟨w.heap.size, 0, none⟩), .pointer (some ⟨W1.heap.size, 0, none⟩)] W6.drew fun e w' => e = .returned (.int .i64 t4) ∧ Below W6.drew.heap.size W6.drew w') := HS5.out W6.drew HB6.out
  have hw1 : w.heap.size + 1 < W2.heap.size := by omega
  clear hW6 hB6 hA6 HS2 HS3 HS4 HS5 HB3 HB4 HB5 HT HMs HOk HS HI H1
  go_region_with
    (first
      | (go_at_call 25; refine HP6.out.mono ?_; rintro e W7 ⟨rfl, hB7⟩; have c0 := (hB7.cell (p := ⟨W5.heap.size, 0, none⟩) hl6').trans d0; have c1 := (hB7.cell (p := ⟨W5.heap.size, 1, none⟩) hl6').trans d1; have c2 := (hB7.cell (p := ⟨W5.heap.size, 2, none⟩) hl6').trans d2; have HB7 := Lib.hid (HB6.out.trans (hB7.mono HB6.out.size)); clear hB7)
      | (go_at_call 29; refine (HV.out _).mono ?_; rintro e W8 ⟨⟨p, q, r, s, g, rfl, hE⟩, hB8⟩; have HE := Lib.hid hE; have HB8 := Lib.hid (HB7.out.trans (hB8.mono HB7.out.size)); clear hE hB8; have hA8 := (HB8.out.block _ hw1).trans PA.out; have z0 := cell_h (k := 0) hA8 rfl; have z1 := cell_h (k := 1) hA8 rfl; have z2 := cell_h (k := 2) hA8 rfl; have z3 := cell_h (k := 3) hA8 rfl; have zf : ∀ o, W8.frozen? ⟨w.heap.size + 1, o, none⟩ = false := fun o => by simp [World.frozen?, hA8]))
  all_goals
    have HB9 := Lib.hid (((((HB2.out.trans (HB8.out.mono (by omega))).setCell (p := ⟨w.heap.size + 1, 0, none⟩) (Nat.le_succ _) (.int .i64 p)).setCell (p := ⟨w.heap.size + 1, 1, none⟩) (Nat.le_succ _) (.int .i64 q)).setCell (p := ⟨w.heap.size + 1, 2, none⟩) (Nat.le_succ _) (.int .i64 r)).setCell (p := ⟨w.heap.size + 1, 3, none⟩) (Nat.le_succ _) (.int .i64 s))
    clear hA8
    go_wp2_with fail
    refine bodyPost_ret (v := .tuple #[.agg #[.int .i64 p, .int .i64 q, .int .i64 r, .int .i64 s], .int .i64 0]) (by simp [results, Tryd.results12, go_sem, z0, z1, z2, z3]) rfl ⟨⟨p, q, r, s, g, rfl, by rw [HTs.out.1, HTs.out.2.1, HTs.out.2.2.1, HTs.out.2.2.2]; exact HE.out⟩, HB9.out⟩
end Go.Proofs.YtlbffdgojmjijaaDoor
