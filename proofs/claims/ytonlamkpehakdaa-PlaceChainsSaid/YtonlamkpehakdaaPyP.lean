/-
  WALKS: the reference's distances.
-/
import Derived.Test.YtonlamkpehakdaaPyO
import Derived.Deep.RegionHeld3
import Derived.Deep.DeepCutAuto
namespace Go.Proofs.Ytonlamkpehakdaa
open Go.RowKit

/-- The one up to a place, row by row; the other from it on. -/
def mixM (N D : Mx) (i j : Nat) : Mx := ⟨fun a b => if a < i ∨ (a = i ∧ b < j) then N.kn a b else D.kn a b, fun a b => if a < i ∨ (a = i ∧ b < j) then N.mo a b else D.mo a b⟩
theorem mix_here (N D : Mx) (i j : Nat) : (mixM N D i j).kn i j = D.kn i j ∧ (mixM N D i j).mo i j = D.mo i j := by
  unfold mixM
  simp
theorem mix_same {N D : Mx} (i j : Nat) {a b : Nat} (h : N.kn a b = D.kn a b ∧ N.mo a b = D.mo a b) : (mixM N D i j).kn a b = D.kn a b ∧ (mixM N D i j).mo a b = D.mo a b := by
  unfold mixM
  dsimp only
  constructor
  · split
    · exact h.1
    · rfl
  · split
    · exact h.2
    · rfl
theorem mix_col {D : Mx} {k : Nat} (h : ∀ a, (D.stp k).kn a k = D.kn a k ∧ (D.stp k).mo a k = D.mo a k) (i j a : Nat) : (mixM (D.stp k) D i j).kn a k = D.kn a k ∧ (mixM (D.stp k) D i j).mo a k = D.mo a k := mix_same i j (h a)
theorem mix_row {D : Mx} {k : Nat} (h : ∀ b, (D.stp k).kn k b = D.kn k b ∧ (D.stp k).mo k b = D.mo k b) (i j b : Nat) : (mixM (D.stp k) D i j).kn k b = D.kn k b ∧ (mixM (D.stp k) D i j).mo k b = D.mo k b := mix_same i j (h b)
theorem mix_other {N D : Mx} {i j a b : Nat} (e : ¬(a = i ∧ b = j)) : (mixM N D i j).kn a b = (mixM N D i (j + 1)).kn a b ∧ (mixM N D i j).mo a b = (mixM N D i (j + 1)).mo a b := by
  unfold mixM
  dsimp only
  by_cases h : a < i ∨ (a = i ∧ b < j)
  · rw [if_pos h, if_pos h, if_pos (by omega), if_pos (by omega)]; exact ⟨rfl, rfl⟩
  · rw [if_neg h, if_neg h, if_neg (by omega), if_neg (by omega)]; exact ⟨rfl, rfl⟩
theorem mix_keep (D : Mx) (i j k : Nat) (h : (D.kn i k && D.kn k j) = false) (x y : Nat) : (mixM (D.stp k) D i j).kn x y = (mixM (D.stp k) D i (j + 1)).kn x y ∧ (mixM (D.stp k) D i j).mo x y = (mixM (D.stp k) D i (j + 1)).mo x y := by
  by_cases e : x = i ∧ y = j
  · obtain ⟨rfl, rfl⟩ := e
    have h1 := mix_here (D.stp k) D x y
    have h2 : (mixM (D.stp k) D x (y + 1)).kn x y = (D.stp k).kn x y ∧ (mixM (D.stp k) D x (y + 1)).mo x y = (D.stp k).mo x y := by unfold mixM; simp
    rw [h1.1, h1.2, h2.1, h2.2]
    refine ⟨?_, ?_⟩
    · show D.kn x y = (D.kn x y || (D.kn x k && D.kn k y))
      rw [h]; simp
    · show D.mo x y = if (D.kn x k && D.kn k y) = true then _ else D.mo x y
      rw [h]; rfl
  · exact mix_other e
theorem mix_put (D : Mx) (i j k : Nat) (h : (D.kn i k && D.kn k j) = true) (x y : Nat) : ((mixM (D.stp k) D i j).put i j (D.lsr i j (D.mo i k + D.mo k j))).kn x y = (mixM (D.stp k) D i (j + 1)).kn x y ∧ ((mixM (D.stp k) D i j).put i j (D.lsr i j (D.mo i k + D.mo k j))).mo x y = (mixM (D.stp k) D i (j + 1)).mo x y := by
  by_cases e : x = i ∧ y = j
  · obtain ⟨rfl, rfl⟩ := e
    have h2 : (mixM (D.stp k) D x (y + 1)).kn x y = (D.stp k).kn x y ∧ (mixM (D.stp k) D x (y + 1)).mo x y = (D.stp k).mo x y := by unfold mixM; simp
    rw [h2.1, h2.2]
    refine ⟨?_, ?_⟩
    · show (if x = x ∧ y = y then true else _) = (D.kn x y || (D.kn x k && D.kn k y))
      rw [h]; simp
    · show (if x = x ∧ y = y then _ else _) = if (D.kn x k && D.kn k y) = true then _ else D.mo x y
      rw [h]; simp
  · have h3 := mix_other (N := D.stp k) (D := D) e
    rw [← h3.1, ← h3.2]
    unfold Mx.put
    simp [e]
theorem pow_12 : ∀ k : Nat, k < 13 → (2 : Int) ^ k ≤ 4096 := by decide

set_option maxRecDepth 100000 in
set_option maxHeartbeats 8000000 in
theorem distances_start (w : World) (f : Nat → Int) (E n c : Nat) (a : Option Addr) (hf : BOk E n f) (hE : E ≤ 12) (hn : NoNeg E n f) (hS : Sl w 3 a n f) :
    Calls Try.prog 69 #[.int .i64 (E : Int), .slice a n c] w fun e w' => ∃ bt rb, e = .returned (.slice (some ⟨bt, 0, none⟩) E E) ∧ MxT w.heap.size w' bt E rb (dM f n E) E ∧ Below w.heap.size w w' := by
  have HF := Lib.hid hf
  have HS := Lib.hid hS
  have HN := Lib.hid hn
  have hl := hf.1
  have hF1 : ∀ g, Fence.wide.fn g := fun _ => trivial
  clear hf hS hn
  go_enter Try.func69, Try.ntmps69
  go_wp2_with (at_make; refine wp_makeB _ rfl _ _ 133 137 rfl Try.underlying133 x_fars rfl (by decide) _ _ E rfl rfl rfl rfl (by omega) (by decide) ?_)
  obtain ⟨bt, hbt⟩ : ∃ bt, w.heap.size = bt := ⟨_, rfl⟩
  obtain ⟨W, hW⟩ : ∃ W, w.alloc (.cells (vrow E (zc (.slice none 0 0) 1)) 137) = W := ⟨_, rfl⟩
  have hB : Below w.heap.size w W := by rw [← hW]; exact (Below.refl _ w).alloc (Nat.le_refl _) _
  have hM : MxT w.heap.size W bt E (fun _ => 0) Mx.one 0 := by
    refine ⟨?_, fun i hi => by omega, fun i j hi => by omega, by omega⟩
    rw [← hW, ← hbt]
    refine (Blk.new w _ _ _).congr fun i _ => ?_
    unfold rwM
    rw [if_neg (by omega)]
    simp [zc, Nat.mod_one, Value.cells]
  rw [hW]
  simp only [hbt]
  have HM0 := Lib.hid hM
  have HB0 := Lib.hid hB
  have HBt := Lib.hid hbt
  clear hM hB hW hbt
  go_loopw [6] (fun vi wr => ∃ (i : Nat) (rb : Nat → Nat), i ≤ E ∧ vi = .int .i64 i ∧ Hid (MxT w.heap.size wr bt E rb Mx.one i) ∧ Hid (Below w.heap.size w wr)) (fun vi _ => E - (intOf vi).toNat)
  case atStart => exact ⟨0, _, by omega, rfl, HM0.out, HB0.out⟩
  case round =>
    obtain ⟨i, rb, hi, rfl, HM, HB⟩ := hrel
    clear HM0 HB0
    by_cases hlt : i < E
    · have g0 := HM.out.tb.cell (k := i) (by omega)
      have g1 := HM.out.tb.fz i
      have gb := HM.out.tb.lt
      have hgv : rwM E rb i i = .slice none 0 0 := by unfold rwM; rw [if_neg (by omega)]
      rw [hgv] at g0
      have hii : (i : Int) < E := by omega
      clear hgv
      go_upto_region 6 with (at_make; refine wp_makeB _ rfl _ _ 137 136 rfl Try.underlying137 x_far rfl (by decide) _ _ E rfl rfl rfl rfl (by omega) (by decide) ?_)
      obtain ⟨ri, hri⟩ : ∃ ri, wr.heap.size = ri := ⟨_, rfl⟩
      obtain ⟨W3, hW3⟩ : ∃ W3, (wr.setCell ⟨bt, i, none⟩ (.slice (some ⟨wr.heap.size, 0, none⟩) E E)).alloc (.cells (vrow (E * 2) (zc (.agg #[.int .i64 0, .bool false]) 2)) 136) = W3 := ⟨_, rfl⟩
      have hM3 := HM.out.row HB.out.size
      rw [hW3, hri] at hM3
      have hB3 : Below w.heap.size w W3 := by
        rw [← hW3]
        have h1 := HB.out.setCell (p := ⟨bt, i, none⟩) HM.out.lo (.slice (some ⟨wr.heap.size, 0, none⟩) E E)
        exact h1.alloc h1.size _
      rw [hW3]
      simp only [hri]
      clear g0 g1 gb hW3
      have g0 := hM3.row_at (i := i) (by omega) (by omega)
      rw [turn_same] at g0
      have c0 := hM3.mo_at (i := i) (j := i) (by omega) (by omega)
      have c1 := hM3.kn_at (i := i) (j := i) (by omega) (by omega)
      have z0 := (hM3.rw i (by omega)).1.fz (i * 2)
      have z1 := (hM3.rw i (by omega)).1.fz (i * 2 + 1)
      rw [turn_same] at c0 c1 z0 z1
      have hM4 := hM3.put i i (by omega) 0
      have hB4 := (hB3.setCell (p := ⟨ri, i * 2, none⟩) (by have := (hM3.rw i (by omega)).2.2; rwa [turn_same] at this) (.int .i64 0)).setCell (p := ⟨ri, i * 2 + 1, none⟩) (by have := (hM3.rw i (by omega)).2.2; rwa [turn_same] at this) (.bool true)
      rw [turn_same] at hM4
      have HM4 := Lib.hid hM4
      have HB4 := Lib.hid hB4
      clear hM4 hB4 hM3 hB3 hri
      go_wp2_with fail
      refine ⟨⟨i + 1, _, by omega, by go_num, HM4.out.congr fun x hx y hy => ?_, HB4.out⟩, by simp [intOf]; omega⟩
      unfold Mx.put Mx.one
      dsimp only
      by_cases e : x = i
      · subst e
        by_cases e2 : y = x
        · subst e2; simp
        · simp [e2, Ne.symm e2]
      · have : x < i := by omega
        simp [e, this]
    · obtain rfl : E = i := by omega
      go_wp2_with fail
      have HM1 := Lib.hid HM.out
      have HB1 := Lib.hid HB.out
      clear HM HB
      go_loopw [7] (fun vt wr' => ∃ t : Nat, t ≤ n ∧ vt = .int .i64 t ∧ Hid (MxT w.heap.size wr' bt E rb (gM f t) E) ∧ Hid (Below w.heap.size w wr')) (fun vt _ => n - (intOf vt).toNat)
      case atStart => exact ⟨0, by omega, rfl, HM1.out, HB1.out⟩
      case round =>
        obtain ⟨t, ht, rfl, HM, HB⟩ := hrel
        by_cases hlt : t < n
        · obtain ⟨bb, oo, rfl, hI⟩ := HS.out (by omega)
          have hbb := hI.lt (by omega)
          obtain ⟨f0, hu⟩ := bF_eq HF.out hlt
          obtain ⟨f1, hv⟩ := bT_eq HF.out hlt
          have HSk : Hid (∀ W2, Below w.heap.size w W2 → (∀ {D}, MxT w.heap.size W2 bt E rb D E → W2.cell? ⟨bb, oo + t * 3, none⟩ = some (.int .i64 ((bF f t : Nat) : Int)) ∧ W2.cell? ⟨bb, oo + t * 3 + 1, none⟩ = some (.int .i64 ((bT f t : Nat) : Int)) ∧ W2.cell? ⟨bb, oo + t * 3 + 2, none⟩ = some (.int .i64 (f (t * 3 + 2))) ∧ W2.cell? ⟨bt, bF f t, none⟩ = some (.slice (some ⟨rb (bF f t), 0, none⟩) E E))) := fun W2 hb2 D hm2 => by
            have hJ := hI.keep hb2 hbb
            have d0 := hJ (t * 3) (by omega)
            have d1 := hJ.at (t * 3) 1 (by omega)
            have d2 := hJ.at (t * 3) 2 (by omega)
            rw [f0] at d0
            rw [f1] at d1
            exact ⟨d0, d1, d2, hm2.row_at hu hu⟩
          have hgM : gM f (t + 1) = (gM f t).put (bF f t) (bT f t) ((gM f t).lsr (bF f t) (bT f t) (f (t * 3 + 2))) := rfl
          have HGM := Lib.hid hgM
          clear hI f0 f1 hgM
          generalize bF f t = u at *
          generalize bT f t = v at *
          generalize f (t * 3 + 2) = M at *
          have hS0 := HSk.out wr.drew HB.out.drew (D := gM f t) ⟨HM.out.tb, HM.out.rw, HM.out.inj, HM.out.lo⟩
          have htn : (t : Int) < n := by omega
          have huE : (u : Int) < E := by omega
          have hvE : (v : Int) < E := by omega
          go_wp2_with fail
          refine (wpIn_wide (n := 5)).1 ?_
          refine wpIn_region_I (fun W2 : World => W2.cell? ⟨bb, oo + t * 3, none⟩ = some (.int .i64 (u : Int)) ∧ W2.cell? ⟨bb, oo + t * 3 + 1, none⟩ = some (.int .i64 (v : Int)) ∧ W2.cell? ⟨bb, oo + t * 3 + 2, none⟩ = some (.int .i64 M) ∧ W2.cell? ⟨bt, u, none⟩ = some (.slice (some ⟨rb u, 0, none⟩) E E)) (by kernel_rfl) ?_
          change anyI _ _ _ _ _ _ _ 37 (Array.replicate 37 false) _ _
          refine anyI_takeD hF1 0 36 (v := ?_) rfl rfl (by kernel_rfl) (by kernel_rfl) (by kernel_rfl) (by kernel_rfl) (fun _ _ _ h => h) hS0 rfl ?_ ?_
          rotate_left
          · intro W2 hSw; obtain ⟨s0, s1, s2, s3⟩ := hSw; go_simp; try with_reducible rfl
          simp only [List.setIfInBounds_toArray, List.set_cons_zero, List.set_cons_succ]
          refine anyI_takeD hF1 1 37 (v := ?_) rfl rfl (by kernel_rfl) (by kernel_rfl) (by kernel_rfl) (by kernel_rfl) (fun _ _ _ h => h) hS0 rfl ?_ ?_
          rotate_left
          · intro W2 hSw; obtain ⟨s0, s1, s2, s3⟩ := hSw; go_simp; try with_reducible rfl
          simp only [List.setIfInBounds_toArray, List.set_cons_zero, List.set_cons_succ]
          refine anyI_takeD hF1 2 38 (v := ?_) rfl rfl (by kernel_rfl) (by kernel_rfl) (by kernel_rfl) (by kernel_rfl) (fun _ _ _ h => h) hS0 rfl ?_ ?_
          rotate_left
          · intro W2 hSw; obtain ⟨s0, s1, s2, s3⟩ := hSw; go_simp; try with_reducible rfl
          simp only [List.setIfInBounds_toArray, List.set_cons_zero, List.set_cons_succ]
          refine anyI_takeD hF1 3 39 (v := ?_) rfl rfl (by kernel_rfl) (by kernel_rfl) (by kernel_rfl) (by kernel_rfl) (fun _ _ _ h => h) hS0 rfl ?_ ?_
          rotate_left
          · intro W2 hSw; obtain ⟨s0, s1, s2, s3⟩ := hSw; go_simp; try with_reducible rfl
          simp only [List.setIfInBounds_toArray, List.set_cons_zero, List.set_cons_succ]
          refine anyI_takeD hF1 4 40 (v := ?_) rfl rfl (by kernel_rfl) (by kernel_rfl) (by kernel_rfl) (by kernel_rfl) (fun _ _ _ h => h) hS0 rfl ?_ ?_
          rotate_left
          · intro W2 hSw; obtain ⟨s0, s1, s2, s3⟩ := hSw; go_simp; try with_reducible rfl
          simp only [List.setIfInBounds_toArray, List.set_cons_zero, List.set_cons_succ]
          refine anyI_takeD hF1 5 41 (v := ?_) rfl rfl (by kernel_rfl) (by kernel_rfl) (by kernel_rfl) (by kernel_rfl) (fun _ _ _ h => h) hS0 rfl ?_ ?_
          rotate_left
          · intro W2 hSw; obtain ⟨s0, s1, s2, s3⟩ := hSw; go_simp; try with_reducible rfl
          simp only [List.setIfInBounds_toArray, List.set_cons_zero, List.set_cons_succ]
          refine anyI_takeD hF1 6 42 (v := ?_) rfl rfl (by kernel_rfl) (by kernel_rfl) (by kernel_rfl) (by kernel_rfl) (fun _ _ _ h => h) hS0 rfl ?_ ?_
          rotate_left
          · intro W2 hSw; obtain ⟨s0, s1, s2, s3⟩ := hSw; go_simp; try with_reducible rfl
          simp only [List.setIfInBounds_toArray, List.set_cons_zero, List.set_cons_succ]
          refine anyI_takeD hF1 7 43 (v := ?_) rfl rfl (by kernel_rfl) (by kernel_rfl) (by kernel_rfl) (by kernel_rfl) (fun _ _ _ h => h) hS0 rfl ?_ ?_
          rotate_left
          · intro W2 hSw; obtain ⟨s0, s1, s2, s3⟩ := hSw; go_simp; try with_reducible rfl
          simp only [List.setIfInBounds_toArray, List.set_cons_zero, List.set_cons_succ]
          refine anyI_takeD hF1 8 44 (v := ?_) rfl rfl (by kernel_rfl) (by kernel_rfl) (by kernel_rfl) (by kernel_rfl) (fun _ _ _ h => h) hS0 rfl ?_ ?_
          rotate_left
          · intro W2 hSw; obtain ⟨s0, s1, s2, s3⟩ := hSw; go_simp; try with_reducible rfl
          simp only [List.setIfInBounds_toArray, List.set_cons_zero, List.set_cons_succ]
          refine anyI_takeD hF1 9 45 (v := ?_) rfl rfl (by kernel_rfl) (by kernel_rfl) (by kernel_rfl) (by kernel_rfl) (fun _ _ _ h => h) hS0 rfl ?_ ?_
          rotate_left
          · intro W2 hSw; obtain ⟨s0, s1, s2, s3⟩ := hSw; go_simp; try with_reducible rfl
          simp only [List.setIfInBounds_toArray, List.set_cons_zero, List.set_cons_succ]
          refine anyI_takeD hF1 10 46 (v := ?_) rfl rfl (by kernel_rfl) (by kernel_rfl) (by kernel_rfl) (by kernel_rfl) (fun _ _ _ h => h) hS0 rfl ?_ ?_
          rotate_left
          · intro W2 hSw; obtain ⟨s0, s1, s2, s3⟩ := hSw; go_simp; try with_reducible rfl
          simp only [List.setIfInBounds_toArray, List.set_cons_zero, List.set_cons_succ]
          refine anyI_takeD hF1 11 47 (v := ?_) rfl rfl (by kernel_rfl) (by kernel_rfl) (by kernel_rfl) (by kernel_rfl) (fun _ _ _ h => h) hS0 rfl ?_ ?_
          rotate_left
          · intro W2 hSw; obtain ⟨s0, s1, s2, s3⟩ := hSw; go_simp; try with_reducible rfl
          simp only [List.setIfInBounds_toArray, List.set_cons_zero, List.set_cons_succ]
          refine anyI_takeD hF1 12 48 (v := ?_) rfl rfl (by kernel_rfl) (by kernel_rfl) (by kernel_rfl) (by kernel_rfl) (fun _ _ _ h => h) hS0 rfl ?_ ?_
          rotate_left
          · intro W2 hSw; obtain ⟨s0, s1, s2, s3⟩ := hSw; go_simp; try with_reducible rfl
          simp only [List.setIfInBounds_toArray, List.set_cons_zero, List.set_cons_succ]
          refine anyI_takeD hF1 13 49 (v := ?_) rfl rfl (by kernel_rfl) (by kernel_rfl) (by kernel_rfl) (by kernel_rfl) (fun _ _ _ h => h) hS0 rfl ?_ ?_
          rotate_left
          · intro W2 hSw; obtain ⟨s0, s1, s2, s3⟩ := hSw; go_simp; try with_reducible rfl
          simp only [List.setIfInBounds_toArray, List.set_cons_zero, List.set_cons_succ]
          refine anyI_takeD hF1 14 50 (v := ?_) rfl rfl (by kernel_rfl) (by kernel_rfl) (by kernel_rfl) (by kernel_rfl) (fun _ _ _ h => h) hS0 rfl ?_ ?_
          rotate_left
          · intro W2 hSw; obtain ⟨s0, s1, s2, s3⟩ := hSw; go_simp; try with_reducible rfl
          simp only [List.setIfInBounds_toArray, List.set_cons_zero, List.set_cons_succ]
          refine anyI_takeD hF1 15 51 (v := ?_) rfl rfl (by kernel_rfl) (by kernel_rfl) (by kernel_rfl) (by kernel_rfl) (fun _ _ _ h => h) hS0 rfl ?_ ?_
          rotate_left
          · intro W2 hSw; obtain ⟨s0, s1, s2, s3⟩ := hSw; go_simp; try with_reducible rfl
          simp only [List.setIfInBounds_toArray, List.set_cons_zero, List.set_cons_succ]
          refine anyI_takeD hF1 16 52 (v := ?_) rfl rfl (by kernel_rfl) (by kernel_rfl) (by kernel_rfl) (by kernel_rfl) (fun _ _ _ h => h) hS0 rfl ?_ ?_
          rotate_left
          · intro W2 hSw; obtain ⟨s0, s1, s2, s3⟩ := hSw; go_simp; try with_reducible rfl
          simp only [List.setIfInBounds_toArray, List.set_cons_zero, List.set_cons_succ]
          refine anyI_takeD hF1 17 53 (v := ?_) rfl rfl (by kernel_rfl) (by kernel_rfl) (by kernel_rfl) (by kernel_rfl) (fun _ _ _ h => h) hS0 rfl ?_ ?_
          rotate_left
          · intro W2 hSw; obtain ⟨s0, s1, s2, s3⟩ := hSw; go_simp; try with_reducible rfl
          simp only [List.setIfInBounds_toArray, List.set_cons_zero, List.set_cons_succ]
          refine anyI_takeD hF1 18 54 (v := ?_) rfl rfl (by kernel_rfl) (by kernel_rfl) (by kernel_rfl) (by kernel_rfl) (fun _ _ _ h => h) hS0 rfl ?_ ?_
          rotate_left
          · intro W2 hSw; obtain ⟨s0, s1, s2, s3⟩ := hSw; go_simp; try with_reducible rfl
          simp only [List.setIfInBounds_toArray, List.set_cons_zero, List.set_cons_succ]
          refine anyI_takeD hF1 19 55 (v := ?_) rfl rfl (by kernel_rfl) (by kernel_rfl) (by kernel_rfl) (by kernel_rfl) (fun _ _ _ h => h) hS0 rfl ?_ ?_
          rotate_left
          · intro W2 hSw; obtain ⟨s0, s1, s2, s3⟩ := hSw; go_simp; try with_reducible rfl
          simp only [List.setIfInBounds_toArray, List.set_cons_zero, List.set_cons_succ]
          refine anyI_takeD hF1 20 56 (v := ?_) rfl rfl (by kernel_rfl) (by kernel_rfl) (by kernel_rfl) (by kernel_rfl) (fun _ _ _ h => h) hS0 rfl ?_ ?_
          rotate_left
          · intro W2 hSw; obtain ⟨s0, s1, s2, s3⟩ := hSw; go_simp; try with_reducible rfl
          simp only [List.setIfInBounds_toArray, List.set_cons_zero, List.set_cons_succ]
          refine anyI_takeD hF1 21 57 (v := ?_) rfl rfl (by kernel_rfl) (by kernel_rfl) (by kernel_rfl) (by kernel_rfl) (fun _ _ _ h => h) hS0 rfl ?_ ?_
          rotate_left
          · intro W2 hSw; obtain ⟨s0, s1, s2, s3⟩ := hSw; go_simp; try with_reducible rfl
          simp only [List.setIfInBounds_toArray, List.set_cons_zero, List.set_cons_succ]
          refine anyI_takeD hF1 22 58 (v := ?_) rfl rfl (by kernel_rfl) (by kernel_rfl) (by kernel_rfl) (by kernel_rfl) (fun _ _ _ h => h) hS0 rfl ?_ ?_
          rotate_left
          · intro W2 hSw; obtain ⟨s0, s1, s2, s3⟩ := hSw; go_simp; try with_reducible rfl
          simp only [List.setIfInBounds_toArray, List.set_cons_zero, List.set_cons_succ]
          refine anyI_takeD hF1 23 59 (v := ?_) rfl rfl (by kernel_rfl) (by kernel_rfl) (by kernel_rfl) (by kernel_rfl) (fun _ _ _ h => h) hS0 rfl ?_ ?_
          rotate_left
          · intro W2 hSw; obtain ⟨s0, s1, s2, s3⟩ := hSw; go_simp; try with_reducible rfl
          simp only [List.setIfInBounds_toArray, List.set_cons_zero, List.set_cons_succ]
          refine anyI_takeD hF1 24 60 (v := ?_) rfl rfl (by kernel_rfl) (by kernel_rfl) (by kernel_rfl) (by kernel_rfl) (fun _ _ _ h => h) hS0 rfl ?_ ?_
          rotate_left
          · intro W2 hSw; obtain ⟨s0, s1, s2, s3⟩ := hSw; go_simp; try with_reducible rfl
          simp only [List.setIfInBounds_toArray, List.set_cons_zero, List.set_cons_succ]
          refine anyI_takeD hF1 25 61 (v := ?_) rfl rfl (by kernel_rfl) (by kernel_rfl) (by kernel_rfl) (by kernel_rfl) (fun _ _ _ h => h) hS0 rfl ?_ ?_
          rotate_left
          · intro W2 hSw; obtain ⟨s0, s1, s2, s3⟩ := hSw; go_simp; try with_reducible rfl
          simp only [List.setIfInBounds_toArray, List.set_cons_zero, List.set_cons_succ]
          refine anyI_takeD hF1 26 62 (v := ?_) rfl rfl (by kernel_rfl) (by kernel_rfl) (by kernel_rfl) (by kernel_rfl) (fun _ _ _ h => h) hS0 rfl ?_ ?_
          rotate_left
          · intro W2 hSw; obtain ⟨s0, s1, s2, s3⟩ := hSw; go_simp; try with_reducible rfl
          simp only [List.setIfInBounds_toArray, List.set_cons_zero, List.set_cons_succ]
          refine anyI_takeD hF1 28 64 (v := ?_) rfl rfl (by kernel_rfl) (by kernel_rfl) (by kernel_rfl) (by kernel_rfl) (fun _ _ _ h => h) hS0 rfl ?_ ?_
          rotate_left
          · intro W2 hSw; obtain ⟨s0, s1, s2, s3⟩ := hSw; go_simp; try with_reducible rfl
          simp only [List.setIfInBounds_toArray, List.set_cons_zero, List.set_cons_succ]
          refine anyI_takeD hF1 29 65 (v := ?_) rfl rfl (by kernel_rfl) (by kernel_rfl) (by kernel_rfl) (by kernel_rfl) (fun _ _ _ h => h) hS0 rfl ?_ ?_
          rotate_left
          · intro W2 hSw; obtain ⟨s0, s1, s2, s3⟩ := hSw; go_simp; try with_reducible rfl
          simp only [List.setIfInBounds_toArray, List.set_cons_zero, List.set_cons_succ]
          refine anyI_takeD hF1 30 66 (v := ?_) rfl rfl (by kernel_rfl) (by kernel_rfl) (by kernel_rfl) (by kernel_rfl) (fun _ _ _ h => h) hS0 rfl ?_ ?_
          rotate_left
          · intro W2 hSw; obtain ⟨s0, s1, s2, s3⟩ := hSw; go_simp; try with_reducible rfl
          simp only [List.setIfInBounds_toArray, List.set_cons_zero, List.set_cons_succ]
          refine anyI_takeD hF1 31 67 (v := ?_) rfl rfl (by kernel_rfl) (by kernel_rfl) (by kernel_rfl) (by kernel_rfl) (fun _ _ _ h => h) hS0 rfl ?_ ?_
          rotate_left
          · intro W2 hSw; obtain ⟨s0, s1, s2, s3⟩ := hSw; go_simp; try with_reducible rfl
          simp only [List.setIfInBounds_toArray, List.set_cons_zero, List.set_cons_succ]
          refine anyI_takeD hF1 32 68 (v := ?_) rfl rfl (by kernel_rfl) (by kernel_rfl) (by kernel_rfl) (by kernel_rfl) (fun _ _ _ h => h) hS0 rfl ?_ ?_
          rotate_left
          · intro W2 hSw; obtain ⟨s0, s1, s2, s3⟩ := hSw; go_simp; try with_reducible rfl
          simp only [List.setIfInBounds_toArray, List.set_cons_zero, List.set_cons_succ]
          refine anyI_takeD hF1 33 69 (v := ?_) rfl rfl (by kernel_rfl) (by kernel_rfl) (by kernel_rfl) (by kernel_rfl) (fun _ _ _ h => h) hS0 rfl ?_ ?_
          rotate_left
          · intro W2 hSw; obtain ⟨s0, s1, s2, s3⟩ := hSw; go_simp; try with_reducible rfl
          simp only [List.setIfInBounds_toArray, List.set_cons_zero, List.set_cons_succ]
          obtain ⟨Wd, hWd⟩ : ∃ Wd, wr.drew = Wd := ⟨_, rfl⟩
          have hBd : Below w.heap.size w Wd := by rw [← hWd]; exact HB.out.drew
          have hMd : MxT w.heap.size Wd bt E rb (gM f t) E := by rw [← hWd]; exact ⟨HM.out.tb, HM.out.rw, HM.out.inj, HM.out.lo⟩
          rw [hWd] at hS0 ⊢
          clear hWd
          have c0 := hMd.mo_at hu hv
          have c1 := hMd.kn_at hu hv
          refine anyI_valueD hF1 27 63 (v := .agg #[.int .i64 ((gM f t).mo u v), .bool ((gM f t).kn u v)]) (w2 := Wd) rfl rfl (by kernel_rfl) (by kernel_rfl) rfl ?_ hS0 ?_
          · go_simp; try with_reducible rfl
          simp only [List.setIfInBounds_toArray, List.set_cons_zero, List.set_cons_succ]
          refine anyI_call hF1 (fun h => absurd h (by decide)) 34 70 (w := Wd) rfl rfl (by kernel_rfl) (by kernel_rfl) (by rfl) (by go_simp; try with_reducible rfl) (callsIn_wide.2 (lesser_of Wd ((gM f t).mo u v) M ((gM f t).kn u v))) ?_
          rintro e w3 ⟨rfl, hB3⟩
          have hM3 := hMd.keep hB3
          have hB33 := hBd.trans (hB3.mono hBd.size)
          have hS3 := HSk.out w3 (by first | exact hB33 | exact ⟨hM3, hB33⟩) hM3
          refine ⟨_, rfl, hS3, ?_⟩
          simp only [List.setIfInBounds_toArray, List.set_cons_zero, List.set_cons_succ]
          refine anyI_takeD hF1 35 71 (v := ?_) rfl rfl (by kernel_rfl) (by kernel_rfl) (by kernel_rfl) (by kernel_rfl) (fun _ _ _ h => h) hS3 rfl ?_ ?_
          rotate_left
          · intro W2 hSw; obtain ⟨s0, s1, s2, s3⟩ := hSw; go_simp; try with_reducible rfl
          simp only [List.setIfInBounds_toArray, List.set_cons_zero, List.set_cons_succ]
          have c0' := hM3.mo_at hu hv
          have c1' := hM3.kn_at hu hv
          have z0 := (hM3.rw u hu).1.fz (v * 2)
          have z1 := (hM3.rw u hu).1.fz (v * 2 + 1)
          have hM4 := hM3.put u v hu ((gM f t).lsr u v M)
          have hB4 : Below w.heap.size w ((w3.setCell ⟨rb u, v * 2, none⟩ (.int .i64 ((gM f t).lsr u v M))).setCell ⟨rb u, v * 2 + 1, none⟩ (.bool true)) := (hB33.setCell (p := ⟨rb u, v * 2, none⟩) (hM3.rw u hu).2.2 _).setCell (p := ⟨rb u, v * 2 + 1, none⟩) (hM3.rw u hu).2.2 _
          have hS4 := HSk.out _ hB4 hM4
          refine anyI_skipN hF1 36 (w2 := (w3.setCell ⟨rb u, v * 2, none⟩ (.int .i64 ((gM f t).lsr u v M))).setCell ⟨rb u, v * 2 + 1, none⟩ (.bool true)) rfl rfl (by kernel_rfl) (by kernel_rfl) rfl ?_ hS4 ?_
          · unfold Mx.lsr; go_simp; try with_reducible rfl
          refine anyI_done (by kernel_rfl) ?_ _
          clear hS4 hS3 hS0 c0 c1 c0' c1' z0 z1 hMd hM3 hB3 hB33 hBd
          go_wp2_with fail
          exact ⟨⟨t + 1, by omega, by go_num, by rw [HGM.out]; exact hM4, hB4⟩, by simp [intOf]; omega⟩
        · obtain rfl : n = t := by omega
          have HM2 : Hid (MxT w.heap.size wr bt E rb (dM f n 0) E) := HM.out
          have HB2 := Lib.hid HB.out
          clear HM HB
          go_wp2_with fail
          go_loopw [8] (fun vk wk => ∃ k : Nat, k ≤ E ∧ vk = .int .i64 k ∧ Hid (MxT w.heap.size wk bt E rb (dM f n k) E) ∧ Hid (Below w.heap.size w wk)) (fun vk _ => E - (intOf vk).toNat)
          case atStart => exact ⟨0, by omega, rfl, HM2.out, HB2.out⟩
          case round =>
            obtain ⟨k, hk, rfl, HM, HB⟩ := hrel
            clear HM2 HB2
            by_cases hlk : k < E
            · have HCol : Hid (∀ a, ((dM f n k).stp k).kn a k = (dM f n k).kn a k ∧ ((dM f n k).stp k).mo a k = (dM f n k).mo a k) := fun a => Mx.stp_col (dM_snd f n k) HN.out hlk a
              have HRow : Hid (∀ b, ((dM f n k).stp k).kn k b = (dM f n k).kn k b ∧ ((dM f n k).stp k).mo k b = (dM f n k).mo k b) := fun b => Mx.stp_row (dM_snd f n k) HN.out hlk b
              have hle : (dM f n k).Le 4398046511104 := fun x y => by
                have h1 := dM_le HF.out k x y
                have h2 := pow_12 k (by omega)
                omega
              have HLe := Lib.hid hle
              have HD1 : Hid (dM f n (k + 1) = (dM f n k).stp k) := rfl
              clear hle
              generalize dM f n k = D at HM HCol HRow HLe HD1
              have HM3 : Hid (MxT w.heap.size wr bt E rb (mixM (D.stp k) D 0 0) E) := HM.out.congr fun x _ y _ => by unfold mixM; simp
              have HB3 := Lib.hid HB.out
              clear HM HB
              go_wp2_with fail
              go_loopw [9] (fun vi wi => ∃ i : Nat, i ≤ E ∧ vi = .int .i64 i ∧ Hid (MxT w.heap.size wi bt E rb (mixM (D.stp k) D i 0) E) ∧ Hid (Below w.heap.size w wi)) (fun vi _ => E - (intOf vi).toNat)
              case atStart => exact ⟨0, by omega, rfl, HM3.out, HB3.out⟩
              case round =>
                obtain ⟨i, hie, rfl, HM, HB⟩ := hrel
                clear HM3 HB3
                by_cases hi : i < E
                · have HM4 := Lib.hid HM.out
                  have HB4 := Lib.hid HB.out
                  clear HM HB
                  go_wp2_with fail
                  go_loopw [10] (fun vj wj => ∃ j : Nat, j ≤ E ∧ vj = .int .i64 j ∧ Hid (MxT w.heap.size wj bt E rb (mixM (D.stp k) D i j) E) ∧ Hid (Below w.heap.size w wj)) (fun vj _ => E - (intOf vj).toNat)
                  case atStart => exact ⟨0, by omega, rfl, HM4.out, HB4.out⟩
                  case round =>
                    obtain ⟨j, hje, rfl, HM, HB⟩ := hrel
                    clear HM4 HB4
                    by_cases hj : j < E
                    · have hiE : (i : Int) < E := by omega
                      have hjE : (j : Int) < E := by omega
                      have hkE : (k : Int) < E := by omega
                      have g1 := HM.out.row_at hi hi
                      have g2 := HM.out.row_at hlk hlk
                      have k1 := HM.out.kn_at hi hlk
                      have k2 := HM.out.kn_at hlk hj
                      rw [(mix_col HCol.out i j i).1] at k1
                      rw [(mix_row HRow.out i j j).1] at k2
                      have hcs : (D.kn i k = false) ∨ (D.kn i k = true ∧ D.kn k j = false) ∨ (D.kn i k = true ∧ D.kn k j = true) := by
                        cases D.kn i k <;> cases D.kn k j <;> simp
                      rcases hcs with hc | ⟨hc, hc2⟩ | ⟨hc, hc2⟩
                      · rw [hc] at k1
                        have HM5 := Lib.hid (HM.out.congr fun x _ y _ => mix_keep D i j k (by rw [hc]; rfl) x y)
                        clear hc
                        go_wp2_with fail
                        exact ⟨⟨j + 1, by omega, by go_num, HM5.out, HB.out⟩, by simp [intOf]; omega⟩
                      · rw [hc] at k1
                        rw [hc2] at k2
                        have HM5 := Lib.hid (HM.out.congr fun x _ y _ => mix_keep D i j k (by rw [hc, hc2]; rfl) x y)
                        clear hc hc2
                        go_wp2_with fail
                        exact ⟨⟨j + 1, by omega, by go_num, HM5.out, HB.out⟩, by simp [intOf]; omega⟩
                      · have hK : (D.kn i k && D.kn k j) = true := by rw [hc, hc2]; rfl
                        rw [hc] at k1
                        rw [hc2] at k2
                        clear hc hc2
                        have b1 := HLe.out i k
                        have b2 := HLe.out k j
                        have wA : IntKind.i64.wrap (D.mo i k + D.mo k j) = D.mo i k + D.mo k j := IntWalk.i64_in _ (by omega)
                        have HSk : Hid (∀ (W2 : World) (D2 : Mx), MxT w.heap.size W2 bt E rb D2 E → (D2.kn i k = D.kn i k ∧ D2.mo i k = D.mo i k) → (D2.kn k j = D.kn k j ∧ D2.mo k j = D.mo k j) → W2.cell? ⟨bt, i, none⟩ = some (.slice (some ⟨rb i, 0, none⟩) E E) ∧ W2.cell? ⟨bt, k, none⟩ = some (.slice (some ⟨rb k, 0, none⟩) E E) ∧ W2.cell? ⟨rb i, k * 2, none⟩ = some (.int .i64 (D.mo i k)) ∧ W2.cell? ⟨rb k, j * 2, none⟩ = some (.int .i64 (D.mo k j))) := fun W2 D2 hm2 e1 e2 => by
                          have p1 := hm2.mo_at hi hlk
                          have p2 := hm2.mo_at hlk hj
                          rw [e1.2] at p1
                          rw [e2.2] at p2
                          exact ⟨hm2.row_at hi hi, hm2.row_at hlk hlk, p1, p2⟩
                        have hS0 := HSk.out wr.drew (mixM (D.stp k) D i j) ⟨HM.out.tb, HM.out.rw, HM.out.inj, HM.out.lo⟩ (mix_col HCol.out i j i) (mix_row HRow.out i j j)
                        clear b1 b2
                        go_wp2_with fail
                        clear g1 g2 k1 k2
                        refine (wpIn_wide (n := 5)).1 ?_
                        refine wpIn_region_I (fun W2 : World => W2.cell? ⟨bt, i, none⟩ = some (.slice (some ⟨rb i, 0, none⟩) E E) ∧ W2.cell? ⟨bt, k, none⟩ = some (.slice (some ⟨rb k, 0, none⟩) E E) ∧ W2.cell? ⟨rb i, k * 2, none⟩ = some (.int .i64 (D.mo i k)) ∧ W2.cell? ⟨rb k, j * 2, none⟩ = some (.int .i64 (D.mo k j))) (by kernel_rfl) ?_
                        change anyI _ _ _ _ _ _ _ 33 (Array.replicate 33 false) _ _
                        refine anyI_takeD hF1 0 105 (v := ?_) rfl rfl (by kernel_rfl) (by kernel_rfl) (by kernel_rfl) (by kernel_rfl) (fun _ _ _ h => h) hS0 rfl ?_ ?_
                        rotate_left
                        · intro W2 hSw; obtain ⟨s0, s1, s2, s3⟩ := hSw; go_simp; try with_reducible rfl
                        simp only [List.setIfInBounds_toArray, List.set_cons_zero, List.set_cons_succ]
                        refine anyI_takeD hF1 1 106 (v := ?_) rfl rfl (by kernel_rfl) (by kernel_rfl) (by kernel_rfl) (by kernel_rfl) (fun _ _ _ h => h) hS0 rfl ?_ ?_
                        rotate_left
                        · intro W2 hSw; obtain ⟨s0, s1, s2, s3⟩ := hSw; go_simp; try with_reducible rfl
                        simp only [List.setIfInBounds_toArray, List.set_cons_zero, List.set_cons_succ]
                        refine anyI_takeD hF1 2 107 (v := ?_) rfl rfl (by kernel_rfl) (by kernel_rfl) (by kernel_rfl) (by kernel_rfl) (fun _ _ _ h => h) hS0 rfl ?_ ?_
                        rotate_left
                        · intro W2 hSw; obtain ⟨s0, s1, s2, s3⟩ := hSw; go_simp; try with_reducible rfl
                        simp only [List.setIfInBounds_toArray, List.set_cons_zero, List.set_cons_succ]
                        refine anyI_takeD hF1 3 108 (v := ?_) rfl rfl (by kernel_rfl) (by kernel_rfl) (by kernel_rfl) (by kernel_rfl) (fun _ _ _ h => h) hS0 rfl ?_ ?_
                        rotate_left
                        · intro W2 hSw; obtain ⟨s0, s1, s2, s3⟩ := hSw; go_simp; try with_reducible rfl
                        simp only [List.setIfInBounds_toArray, List.set_cons_zero, List.set_cons_succ]
                        refine anyI_takeD hF1 4 109 (v := ?_) rfl rfl (by kernel_rfl) (by kernel_rfl) (by kernel_rfl) (by kernel_rfl) (fun _ _ _ h => h) hS0 rfl ?_ ?_
                        rotate_left
                        · intro W2 hSw; obtain ⟨s0, s1, s2, s3⟩ := hSw; go_simp; try with_reducible rfl
                        simp only [List.setIfInBounds_toArray, List.set_cons_zero, List.set_cons_succ]
                        refine anyI_takeD hF1 5 110 (v := ?_) rfl rfl (by kernel_rfl) (by kernel_rfl) (by kernel_rfl) (by kernel_rfl) (fun _ _ _ h => h) hS0 rfl ?_ ?_
                        rotate_left
                        · intro W2 hSw; obtain ⟨s0, s1, s2, s3⟩ := hSw; go_simp; try with_reducible rfl
                        simp only [List.setIfInBounds_toArray, List.set_cons_zero, List.set_cons_succ]
                        refine anyI_takeD hF1 6 111 (v := ?_) rfl rfl (by kernel_rfl) (by kernel_rfl) (by kernel_rfl) (by kernel_rfl) (fun _ _ _ h => h) hS0 rfl ?_ ?_
                        rotate_left
                        · intro W2 hSw; obtain ⟨s0, s1, s2, s3⟩ := hSw; go_simp; try with_reducible rfl
                        simp only [List.setIfInBounds_toArray, List.set_cons_zero, List.set_cons_succ]
                        refine anyI_takeD hF1 7 112 (v := ?_) rfl rfl (by kernel_rfl) (by kernel_rfl) (by kernel_rfl) (by kernel_rfl) (fun _ _ _ h => h) hS0 rfl ?_ ?_
                        rotate_left
                        · intro W2 hSw; obtain ⟨s0, s1, s2, s3⟩ := hSw; go_simp; try with_reducible rfl
                        simp only [List.setIfInBounds_toArray, List.set_cons_zero, List.set_cons_succ]
                        refine anyI_takeD hF1 8 113 (v := ?_) rfl rfl (by kernel_rfl) (by kernel_rfl) (by kernel_rfl) (by kernel_rfl) (fun _ _ _ h => h) hS0 rfl ?_ ?_
                        rotate_left
                        · intro W2 hSw; obtain ⟨s0, s1, s2, s3⟩ := hSw; go_simp; try with_reducible rfl
                        simp only [List.setIfInBounds_toArray, List.set_cons_zero, List.set_cons_succ]
                        refine anyI_takeD hF1 9 114 (v := ?_) rfl rfl (by kernel_rfl) (by kernel_rfl) (by kernel_rfl) (by kernel_rfl) (fun _ _ _ h => h) hS0 rfl ?_ ?_
                        rotate_left
                        · intro W2 hSw; obtain ⟨s0, s1, s2, s3⟩ := hSw; go_simp; try with_reducible rfl
                        simp only [List.setIfInBounds_toArray, List.set_cons_zero, List.set_cons_succ]
                        refine anyI_takeD hF1 10 115 (v := ?_) rfl rfl (by kernel_rfl) (by kernel_rfl) (by kernel_rfl) (by kernel_rfl) (fun _ _ _ h => h) hS0 rfl ?_ ?_
                        rotate_left
                        · intro W2 hSw; obtain ⟨s0, s1, s2, s3⟩ := hSw; go_simp; try with_reducible rfl
                        simp only [List.setIfInBounds_toArray, List.set_cons_zero, List.set_cons_succ]
                        refine anyI_takeD hF1 12 117 (v := ?_) rfl rfl (by kernel_rfl) (by kernel_rfl) (by kernel_rfl) (by kernel_rfl) (fun _ _ _ h => h) hS0 rfl ?_ ?_
                        rotate_left
                        · intro W2 hSw; obtain ⟨s0, s1, s2, s3⟩ := hSw; go_simp; try with_reducible rfl
                        simp only [List.setIfInBounds_toArray, List.set_cons_zero, List.set_cons_succ]
                        refine anyI_takeD hF1 13 118 (v := ?_) rfl rfl (by kernel_rfl) (by kernel_rfl) (by kernel_rfl) (by kernel_rfl) (fun _ _ _ h => h) hS0 rfl ?_ ?_
                        rotate_left
                        · intro W2 hSw; obtain ⟨s0, s1, s2, s3⟩ := hSw; go_simp; try with_reducible rfl
                        simp only [List.setIfInBounds_toArray, List.set_cons_zero, List.set_cons_succ]
                        refine anyI_takeD hF1 14 119 (v := ?_) rfl rfl (by kernel_rfl) (by kernel_rfl) (by kernel_rfl) (by kernel_rfl) (fun _ _ _ h => h) hS0 rfl ?_ ?_
                        rotate_left
                        · intro W2 hSw; obtain ⟨s0, s1, s2, s3⟩ := hSw; go_simp; try with_reducible rfl
                        simp only [List.setIfInBounds_toArray, List.set_cons_zero, List.set_cons_succ]
                        refine anyI_takeD hF1 15 120 (v := ?_) rfl rfl (by kernel_rfl) (by kernel_rfl) (by kernel_rfl) (by kernel_rfl) (fun _ _ _ h => h) hS0 rfl ?_ ?_
                        rotate_left
                        · intro W2 hSw; obtain ⟨s0, s1, s2, s3⟩ := hSw; go_simp; try with_reducible rfl
                        simp only [List.setIfInBounds_toArray, List.set_cons_zero, List.set_cons_succ]
                        refine anyI_takeD hF1 16 121 (v := ?_) rfl rfl (by kernel_rfl) (by kernel_rfl) (by kernel_rfl) (by kernel_rfl) (fun _ _ _ h => h) hS0 rfl ?_ ?_
                        rotate_left
                        · intro W2 hSw; obtain ⟨s0, s1, s2, s3⟩ := hSw; go_simp; try with_reducible rfl
                        simp only [List.setIfInBounds_toArray, List.set_cons_zero, List.set_cons_succ]
                        refine anyI_takeD hF1 17 122 (v := ?_) rfl rfl (by kernel_rfl) (by kernel_rfl) (by kernel_rfl) (by kernel_rfl) (fun _ _ _ h => h) hS0 rfl ?_ ?_
                        rotate_left
                        · intro W2 hSw; obtain ⟨s0, s1, s2, s3⟩ := hSw; go_simp; try with_reducible rfl
                        simp only [List.setIfInBounds_toArray, List.set_cons_zero, List.set_cons_succ]
                        refine anyI_takeD hF1 18 123 (v := ?_) rfl rfl (by kernel_rfl) (by kernel_rfl) (by kernel_rfl) (by kernel_rfl) (fun _ _ _ h => h) hS0 rfl ?_ ?_
                        rotate_left
                        · intro W2 hSw; obtain ⟨s0, s1, s2, s3⟩ := hSw; go_simp; try with_reducible rfl
                        simp only [List.setIfInBounds_toArray, List.set_cons_zero, List.set_cons_succ]
                        refine anyI_takeD hF1 19 124 (v := ?_) rfl rfl (by kernel_rfl) (by kernel_rfl) (by kernel_rfl) (by kernel_rfl) (fun _ _ _ h => h) hS0 rfl ?_ ?_
                        rotate_left
                        · intro W2 hSw; obtain ⟨s0, s1, s2, s3⟩ := hSw; go_simp; try with_reducible rfl
                        simp only [List.setIfInBounds_toArray, List.set_cons_zero, List.set_cons_succ]
                        refine anyI_takeD hF1 20 125 (v := ?_) rfl rfl (by kernel_rfl) (by kernel_rfl) (by kernel_rfl) (by kernel_rfl) (fun _ _ _ h => h) hS0 rfl ?_ ?_
                        rotate_left
                        · intro W2 hSw; obtain ⟨s0, s1, s2, s3⟩ := hSw; go_simp; try with_reducible rfl
                        simp only [List.setIfInBounds_toArray, List.set_cons_zero, List.set_cons_succ]
                        refine anyI_takeD hF1 21 126 (v := ?_) rfl rfl (by kernel_rfl) (by kernel_rfl) (by kernel_rfl) (by kernel_rfl) (fun _ _ _ h => h) hS0 rfl ?_ ?_
                        rotate_left
                        · intro W2 hSw; obtain ⟨s0, s1, s2, s3⟩ := hSw; go_simp; try with_reducible rfl
                        simp only [List.setIfInBounds_toArray, List.set_cons_zero, List.set_cons_succ]
                        refine anyI_takeD hF1 22 127 (v := ?_) rfl rfl (by kernel_rfl) (by kernel_rfl) (by kernel_rfl) (by kernel_rfl) (fun _ _ _ h => h) hS0 rfl ?_ ?_
                        rotate_left
                        · intro W2 hSw; obtain ⟨s0, s1, s2, s3⟩ := hSw; go_simp; try with_reducible rfl
                        simp only [List.setIfInBounds_toArray, List.set_cons_zero, List.set_cons_succ]
                        refine anyI_takeD hF1 23 128 (v := ?_) rfl rfl (by kernel_rfl) (by kernel_rfl) (by kernel_rfl) (by kernel_rfl) (fun _ _ _ h => h) hS0 rfl ?_ ?_
                        rotate_left
                        · intro W2 hSw; obtain ⟨s0, s1, s2, s3⟩ := hSw; go_simp; try with_reducible rfl
                        simp only [List.setIfInBounds_toArray, List.set_cons_zero, List.set_cons_succ]
                        refine anyI_takeD hF1 24 129 (v := ?_) rfl rfl (by kernel_rfl) (by kernel_rfl) (by kernel_rfl) (by kernel_rfl) (fun _ _ _ h => h) hS0 rfl ?_ ?_
                        rotate_left
                        · intro W2 hSw; obtain ⟨s0, s1, s2, s3⟩ := hSw; go_simp; try with_reducible rfl
                        simp only [List.setIfInBounds_toArray, List.set_cons_zero, List.set_cons_succ]
                        refine anyI_takeD hF1 25 130 (v := ?_) rfl rfl (by kernel_rfl) (by kernel_rfl) (by kernel_rfl) (by kernel_rfl) (fun _ _ _ h => h) hS0 rfl ?_ ?_
                        rotate_left
                        · intro W2 hSw; obtain ⟨s0, s1, s2, s3⟩ := hSw; go_simp; try with_reducible rfl
                        simp only [List.setIfInBounds_toArray, List.set_cons_zero, List.set_cons_succ]
                        refine anyI_takeD hF1 26 131 (v := ?_) rfl rfl (by kernel_rfl) (by kernel_rfl) (by kernel_rfl) (by kernel_rfl) (fun _ _ _ h => h) hS0 rfl ?_ ?_
                        rotate_left
                        · intro W2 hSw; obtain ⟨s0, s1, s2, s3⟩ := hSw; go_simp; try with_reducible rfl
                        simp only [List.setIfInBounds_toArray, List.set_cons_zero, List.set_cons_succ]
                        refine anyI_takeD hF1 27 132 (v := ?_) rfl rfl (by kernel_rfl) (by kernel_rfl) (by kernel_rfl) (by kernel_rfl) (fun _ _ _ h => h) hS0 rfl ?_ ?_
                        rotate_left
                        · intro W2 hSw; obtain ⟨s0, s1, s2, s3⟩ := hSw; go_simp; try with_reducible rfl
                        simp only [List.setIfInBounds_toArray, List.set_cons_zero, List.set_cons_succ]
                        refine anyI_takeD hF1 28 133 (v := ?_) rfl rfl (by kernel_rfl) (by kernel_rfl) (by kernel_rfl) (by kernel_rfl) (fun _ _ _ h => h) hS0 rfl ?_ ?_
                        rotate_left
                        · intro W2 hSw; obtain ⟨s0, s1, s2, s3⟩ := hSw; go_simp; try with_reducible rfl
                        simp only [List.setIfInBounds_toArray, List.set_cons_zero, List.set_cons_succ]
                        refine anyI_takeD hF1 29 134 (v := ?_) rfl rfl (by kernel_rfl) (by kernel_rfl) (by kernel_rfl) (by kernel_rfl) (fun _ _ _ h => h) hS0 rfl ?_ ?_
                        rotate_left
                        · intro W2 hSw; obtain ⟨s0, s1, s2, s3⟩ := hSw; go_simp; try with_reducible rfl
                        simp only [List.setIfInBounds_toArray, List.set_cons_zero, List.set_cons_succ]
                        obtain ⟨Wd, hWd⟩ : ∃ Wd, wr.drew = Wd := ⟨_, rfl⟩
                        have hBd : Below w.heap.size w Wd := by rw [← hWd]; exact HB.out.drew
                        have hMd : MxT w.heap.size Wd bt E rb (mixM (D.stp k) D i j) E := by rw [← hWd]; exact ⟨HM.out.tb, HM.out.rw, HM.out.inj, HM.out.lo⟩
                        rw [hWd] at hS0 ⊢
                        clear hWd
                        have c0 := hMd.mo_at hi hj
                        have c1 := hMd.kn_at hi hj
                        rw [(mix_here (D.stp k) D i j).2] at c0
                        rw [(mix_here (D.stp k) D i j).1] at c1
                        refine anyI_valueD hF1 11 116 (v := .agg #[.int .i64 (D.mo i j), .bool (D.kn i j)]) (w2 := Wd) rfl rfl (by kernel_rfl) (by kernel_rfl) rfl ?_ hS0 ?_
                        · go_simp; try with_reducible rfl
                        simp only [List.setIfInBounds_toArray, List.set_cons_zero, List.set_cons_succ]
                        refine anyI_call hF1 (fun h => absurd h (by decide)) 30 135 (w := Wd) rfl rfl (by kernel_rfl) (by kernel_rfl) (by rfl) (by go_simp; try with_reducible rfl) (callsIn_wide.2 (lesser_of Wd (D.mo i j) (D.mo i k + D.mo k j) (D.kn i j))) ?_
                        rintro e w3 ⟨rfl, hB3⟩
                        have hM3 := hMd.keep hB3
                        have hB33 := hBd.trans (hB3.mono hBd.size)
                        have hS3 := HSk.out w3 _ hM3 (mix_col HCol.out i j i) (mix_row HRow.out i j j)
                        refine ⟨_, rfl, hS3, ?_⟩
                        simp only [List.setIfInBounds_toArray, List.set_cons_zero, List.set_cons_succ]
                        refine anyI_takeD hF1 31 136 (v := ?_) rfl rfl (by kernel_rfl) (by kernel_rfl) (by kernel_rfl) (by kernel_rfl) (fun _ _ _ h => h) hS3 rfl ?_ ?_
                        rotate_left
                        · intro W2 hSw; obtain ⟨s0, s1, s2, s3⟩ := hSw; go_simp; try with_reducible rfl
                        simp only [List.setIfInBounds_toArray, List.set_cons_zero, List.set_cons_succ]
                        have c0' := hM3.mo_at hi hj
                        have c1' := hM3.kn_at hi hj
                        have z0 := (hM3.rw i hi).1.fz (j * 2)
                        have z1 := (hM3.rw i hi).1.fz (j * 2 + 1)
                        have hM4 := (hM3.put i j hi (D.lsr i j (D.mo i k + D.mo k j))).congr (fun x _ y _ => mix_put D i j k hK x y)
                        have hB4 : Below w.heap.size w ((w3.setCell ⟨rb i, j * 2, none⟩ (.int .i64 (D.lsr i j (D.mo i k + D.mo k j)))).setCell ⟨rb i, j * 2 + 1, none⟩ (.bool true)) := (hB33.setCell (p := ⟨rb i, j * 2, none⟩) (hM3.rw i hi).2.2 _).setCell (p := ⟨rb i, j * 2 + 1, none⟩) (hM3.rw i hi).2.2 _
                        have hS4 := HSk.out _ _ hM4 (mix_col HCol.out i (j + 1) i) (mix_row HRow.out i (j + 1) j)
                        refine anyI_skipN hF1 32 (w2 := (w3.setCell ⟨rb i, j * 2, none⟩ (.int .i64 (D.lsr i j (D.mo i k + D.mo k j)))).setCell ⟨rb i, j * 2 + 1, none⟩ (.bool true)) rfl rfl (by kernel_rfl) (by kernel_rfl) rfl ?_ hS4 ?_
                        · unfold Mx.lsr; go_simp; try with_reducible rfl
                        refine anyI_done (by kernel_rfl) ?_ _
                        clear hS4 hS3 hS0 c0 c1 c0' c1' z0 z1 hMd hM3 hB3 hB33 hBd
                        go_wp2_with fail
                        exact ⟨⟨j + 1, by omega, by go_num, hM4, hB4⟩, by simp [intOf]; omega⟩
                    · obtain rfl : E = j := by omega
                      have HM5 : Hid (MxT w.heap.size wr bt E rb (mixM (D.stp k) D (i + 1) 0) E) := HM.out.congr fun x _ y hy => by
                        unfold mixM
                        dsimp only
                        by_cases h : x < i ∨ (x = i ∧ y < E)
                        · rw [if_pos h, if_pos h, if_pos (by omega), if_pos (by omega)]; exact ⟨rfl, rfl⟩
                        · rw [if_neg h, if_neg h, if_neg (by omega), if_neg (by omega)]; exact ⟨rfl, rfl⟩
                      go_wp2_with fail
                      exact ⟨⟨i + 1, by omega, by go_num, HM5.out, HB.out⟩, by simp [intOf]; omega⟩
                · obtain rfl : E = i := by omega
                  have HM5 : Hid (MxT w.heap.size wr bt E rb (dM f n (k + 1)) E) := by
                    rw [HD1.out]
                    exact HM.out.congr fun x hx y hy => by
                      unfold mixM
                      dsimp only
                      rw [if_pos (.inl hx), if_pos (.inl hx)]
                      exact ⟨rfl, rfl⟩
                  go_wp2_with fail
                  exact ⟨⟨k + 1, by omega, by go_num, HM5.out, HB.out⟩, by simp [intOf]; omega⟩
            · obtain rfl : E = k := by omega
              go_wp2_with fail
              go_ret
              exact ⟨bt, rb, rfl, HM.out, HB.out⟩
end Go.Proofs.Ytonlamkpehakdaa
