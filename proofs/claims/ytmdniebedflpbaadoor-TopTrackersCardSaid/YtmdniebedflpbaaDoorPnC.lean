/-
  WALKS: Passed.
-/
import Derived.Test.YtmdniebedflpbaaDoorPnB
import Derived.Test.YtmdniebedflpbaaDoorPrA
namespace Go.Proofs.YtmdniebedflpbaaDoor
open Go.RowKit

/-- The error of the arguments of Passed. -/
def pasE (at_ alo ahi slo shi : Int) : Int := if isPl at_ = false ∨ rgErr slo shi 0 32768 = 1 then 1 else if rgErr alo ahi (-1048576) 1048576 ≠ 0 then rgErr alo ahi (-1048576) 1048576 else rgErr slo shi 0 32768

set_option maxRecDepth 100000 in
set_option maxHeartbeats 4000000 in
theorem checkPassed_of (w : World) (at_ alo ahi slo shi : Int) :
    Calls Tryd.prog 18 #[.int .i64 at_, .agg #[.int .i64 alo, .int .i64 ahi], .agg #[.int .i64 slo, .int .i64 shi]] w fun e w' => e = .returned (.int .i64 (pasE at_ alo ahi slo shi)) ∧ Below w.heap.size w w' := by
  have hF1 : ∀ f, Fence.wide.fn f := fun _ => trivial
  have HE : Hid (pasE at_ alo ahi slo shi = if isPl at_ = false ∨ rgErr slo shi 0 32768 = 1 then 1 else if rgErr alo ahi (-1048576) 1048576 ≠ 0 then rgErr alo ahi (-1048576) 1048576 else rgErr slo shi 0 32768) := rfl
  go_enter Tryd.func18, Tryd.ntmps18
  go_wp2_with fail
  have a0 := al_old (World.alloc_heap_new w (.cells #[.int .i64 alo, .int .i64 ahi] 38)) (.cells #[.int .i64 slo, .int .i64 shi] 38)
  have a1 := al_1 w (.cells #[.int .i64 alo, .int .i64 ahi] 38) (.cells #[.int .i64 slo, .int .i64 shi] 38)
  have hB2 : Below w.heap.size w ((w.alloc (.cells #[.int .i64 alo, .int .i64 ahi] 38)).alloc (.cells #[.int .i64 slo, .int .i64 shi] 38)) := ((Below.refl _ w).alloc (Nat.le_refl _) _).alloc (by simp) _
  obtain ⟨W2, hW2⟩ : ∃ W2, (w.alloc (.cells #[.int .i64 alo, .int .i64 ahi] 38)).alloc (.cells #[.int .i64 slo, .int .i64 shi] 38) = W2 := ⟨_, rfl⟩
  rw [hW2] at a0 a1 hB2 ⊢
  clear hW2
  refine (wpIn_wide (n := 5)).1 ?_
  refine wpIn_region_I (fun W2 : World => W2.cell? ⟨w.heap.size, 0, none⟩ = some (.int .i64 alo) ∧ W2.cell? ⟨w.heap.size, 1, none⟩ = some (.int .i64 ahi) ∧ W2.cell? ⟨w.heap.size + 1, 0, none⟩ = some (.int .i64 slo) ∧ W2.cell? ⟨w.heap.size + 1, 1, none⟩ = some (.int .i64 shi)) (by kernel_rfl) ?_
  change anyI _ _ _ _ _ _ _ 6 (Array.replicate 6 false) _ _
  obtain ⟨Wd, hWd⟩ : ∃ Wd, W2.drew = Wd := ⟨_, rfl⟩
  have hBd : Below w.heap.size w Wd := by rw [← hWd]; exact hB2.drew
  replace a0 : Wd.heap[w.heap.size]? = some (.cells #[.int .i64 alo, .int .i64 ahi] 38 (0, 0)) := by rw [← hWd]; exact a0
  replace a1 : Wd.heap[w.heap.size + 1]? = some (.cells #[.int .i64 slo, .int .i64 shi] 38 (0, 0)) := by rw [← hWd]; exact a1
  rw [hWd]
  clear hWd hB2
  have hS0 : Wd.cell? ⟨w.heap.size, 0, none⟩ = some (.int .i64 alo) ∧ Wd.cell? ⟨w.heap.size, 1, none⟩ = some (.int .i64 ahi) ∧ Wd.cell? ⟨w.heap.size + 1, 0, none⟩ = some (.int .i64 slo) ∧ Wd.cell? ⟨w.heap.size + 1, 1, none⟩ = some (.int .i64 shi) := ⟨cell_h a0 rfl, cell_h a0 rfl, cell_h a1 rfl, cell_h a1 rfl⟩
  refine anyI_takeD hF1 0 9 (v := ?_) rfl rfl (by kernel_rfl) (by kernel_rfl) (by kernel_rfl) (by kernel_rfl) (fun _ _ _ h => h) hS0 rfl ?_ ?_
  rotate_left
  · intro W2 hSw; obtain ⟨s0, s1, s2, s3⟩ := hSw; go_simp; try with_reducible rfl
  simp only [List.setIfInBounds_toArray, List.set_cons_zero, List.set_cons_succ]
  refine anyI_takeD hF1 2 11 (v := ?_) rfl rfl (by kernel_rfl) (by kernel_rfl) (by kernel_rfl) (by kernel_rfl) (fun _ _ _ h => h) hS0 rfl ?_ ?_
  rotate_left
  · intro W2 hSw; obtain ⟨s0, s1, s2, s3⟩ := hSw; go_simp; try with_reducible rfl
  simp only [List.setIfInBounds_toArray, List.set_cons_zero, List.set_cons_succ]
  refine anyI_call hF1 (fun h => absurd h (by decide)) 1 10 (w := Wd) rfl rfl (by kernel_rfl) (by kernel_rfl) (by rfl) (by go_simp; try with_reducible rfl) (callsIn_wide.2 (checkRange_of Wd alo ahi (-1048576) 1048576)) ?_
  rintro e w3 ⟨rfl, rfl⟩
  replace a0 := al_old a0 (.cells #[.int .i64 alo, .int .i64 ahi] 38)
  replace a1 := al_old a1 (.cells #[.int .i64 alo, .int .i64 ahi] 38)
  replace hBd := hBd.alloc hBd.size (.cells #[.int .i64 alo, .int .i64 ahi] 38)
  generalize Wd.alloc (.cells #[.int .i64 alo, .int .i64 ahi] 38) = W3 at a0 a1 hBd ⊢
  replace hS0 : W3.cell? ⟨w.heap.size, 0, none⟩ = some (.int .i64 alo) ∧ W3.cell? ⟨w.heap.size, 1, none⟩ = some (.int .i64 ahi) ∧ W3.cell? ⟨w.heap.size + 1, 0, none⟩ = some (.int .i64 slo) ∧ W3.cell? ⟨w.heap.size + 1, 1, none⟩ = some (.int .i64 shi) := ⟨cell_h a0 rfl, cell_h a0 rfl, cell_h a1 rfl, cell_h a1 rfl⟩
  refine ⟨_, rfl, hS0, ?_⟩
  simp only [List.setIfInBounds_toArray, List.set_cons_zero, List.set_cons_succ]
  refine anyI_call hF1 (fun h => absurd h (by decide)) 3 12 (w := W3) rfl rfl (by kernel_rfl) (by kernel_rfl) (by rfl) (by go_simp; try with_reducible rfl) (callsIn_wide.2 (checkRange_of W3 slo shi 0 32768)) ?_
  rintro e w4 ⟨rfl, rfl⟩
  replace a0 := al_old a0 (.cells #[.int .i64 slo, .int .i64 shi] 38)
  replace a1 := al_old a1 (.cells #[.int .i64 slo, .int .i64 shi] 38)
  replace hBd := hBd.alloc hBd.size (.cells #[.int .i64 slo, .int .i64 shi] 38)
  generalize W3.alloc (.cells #[.int .i64 slo, .int .i64 shi] 38) = W4 at a0 a1 hBd ⊢
  replace hS0 : W4.cell? ⟨w.heap.size, 0, none⟩ = some (.int .i64 alo) ∧ W4.cell? ⟨w.heap.size, 1, none⟩ = some (.int .i64 ahi) ∧ W4.cell? ⟨w.heap.size + 1, 0, none⟩ = some (.int .i64 slo) ∧ W4.cell? ⟨w.heap.size + 1, 1, none⟩ = some (.int .i64 shi) := ⟨cell_h a0 rfl, cell_h a0 rfl, cell_h a1 rfl, cell_h a1 rfl⟩
  refine ⟨_, rfl, hS0, ?_⟩
  simp only [List.setIfInBounds_toArray, List.set_cons_zero, List.set_cons_succ]
  refine anyI_takeD hF1 4 7 (v := ?_) rfl rfl (by kernel_rfl) (by kernel_rfl) (by kernel_rfl) (by kernel_rfl) (fun _ _ _ h => h) hS0 rfl ?_ ?_
  rotate_left
  · intro W2 hSw; obtain ⟨s0, s1, s2, s3⟩ := hSw; go_simp; try with_reducible rfl
  simp only [List.setIfInBounds_toArray, List.set_cons_zero, List.set_cons_succ]
  refine anyI_takeD hF1 5 8 (v := ?_) rfl rfl (by kernel_rfl) (by kernel_rfl) (by kernel_rfl) (by kernel_rfl) (fun _ _ _ h => h) hS0 rfl ?_ ?_
  rotate_left
  · intro W2 hSw; obtain ⟨s0, s1, s2, s3⟩ := hSw; go_simp; try with_reducible rfl
  simp only [List.setIfInBounds_toArray, List.set_cons_zero, List.set_cons_succ]
  refine anyI_done (by kernel_rfl) ?_ _
  clear hS0 a0 a1
  have HBd := Lib.hid hBd
  clear hBd
  have hpl : isPl at_ = decide (-1073741824 ≤ at_ ∧ at_ ≤ 1073741824) := rfl
  have HPL := Lib.hid hpl
  clear hpl
  generalize rgErr slo shi 0 32768 = r2 at *
  generalize rgErr alo ahi (-1048576) 1048576 = r1 at *
  cases hb : isPl at_ with
  | false =>
    rw [hb] at HE HPL
    rw [if_pos (.inl rfl)] at HE
    clear hb
    go_wp2_with (go_at_call 20; refine (plc_of false _ at_ HPL.out).mono ?_; rintro e w' ⟨rfl, rfl⟩)
    go_ret
    exact ⟨ret_int HE.out.symm, HBd.out⟩
  | true =>
    rw [hb] at HE HPL
    clear hb
    by_cases h2 : r2 = 1
    · rw [if_pos (.inr h2)] at HE
      subst h2
      go_wp2_with (go_at_call 20; refine (plc_of true _ at_ HPL.out).mono ?_; rintro e w' ⟨rfl, rfl⟩)
      go_ret
      exact ⟨ret_int HE.out.symm, HBd.out⟩
    · rw [if_neg (by simpa using h2)] at HE
      have h21 : (r2 == 1) = false := by simpa using h2
      clear h2
      by_cases h1 : r1 = 0
      · rw [if_neg (by simpa using h1)] at HE
        subst h1
        go_wp2_with (go_at_call 20; refine (plc_of true _ at_ HPL.out).mono ?_; rintro e w' ⟨rfl, rfl⟩)
        go_ret
        exact ⟨ret_int HE.out.symm, HBd.out⟩
      · rw [if_pos (by simpa using h1)] at HE
        have h11 : (r1 == 0) = false := by simpa using h1
        have h12 : (r1 != 0) = true := by simpa using h1
        clear h1
        go_wp2_with (go_at_call 20; refine (plc_of true _ at_ HPL.out).mono ?_; rintro e w' ⟨rfl, rfl⟩)
        go_ret
        exact ⟨ret_int HE.out.symm, HBd.out⟩

/-- What Passed tells: both ends and the error. -/
def pas (at_ alo ahi slo shi : Int) : Int × Int × Int := if pasE at_ alo ahi slo shi ≠ 0 then (0, 0, pasE at_ alo ahi slo shi) else
  if isPl (at_ + min (alo * slo) (alo * shi) / 1000) = false ∨ isPl (at_ + ce (max (ahi * slo) (ahi * shi)) 1000) = false then (0, 0, 1) else (at_ + min (alo * slo) (alo * shi) / 1000, at_ + ce (max (ahi * slo) (ahi * shi)) 1000, 0)
theorem pasE_ok {at_ alo ahi slo shi : Int} (h : pasE at_ alo ahi slo shi = 0) : (-1073741824 ≤ at_ ∧ at_ ≤ 1073741824) ∧ (-1048576 ≤ alo ∧ alo ≤ ahi ∧ ahi ≤ 1048576) ∧ 0 ≤ slo ∧ slo ≤ shi ∧ shi ≤ 32768 := by
  unfold pasE at h
  by_cases h1 : isPl at_ = false ∨ rgErr slo shi 0 32768 = 1
  · rw [if_pos h1] at h; omega
  · rw [if_neg h1] at h
    by_cases h2 : rgErr alo ahi (-1048576) 1048576 = 0
    · rw [if_neg (by simpa using h2)] at h
      have e1 : isPl at_ = true := by cases hb : isPl at_ with
        | true => rfl
        | false => exact absurd (.inl hb) h1
      have e2 : -1073741824 ≤ at_ ∧ at_ ≤ 1073741824 := by simpa [isPl] using e1
      rcases rg_ways alo ahi (-1048576) 1048576 with ⟨_, g⟩ | ⟨_, g⟩ | ⟨g, _⟩
      · omega
      · omega
      rcases rg_ways slo shi 0 32768 with ⟨_, g'⟩ | ⟨_, g'⟩ | ⟨g', _⟩
      · omega
      · omega
      exact ⟨e2, by omega, by omega⟩
    · rw [if_pos (by simpa using h2)] at h; exact absurd h h2
theorem mul_bd2 {a b : Int} (ha : -1048576 ≤ a ∧ a ≤ 1048576) (hb : 0 ≤ b ∧ b ≤ 32768) : -34359738368 ≤ a * b ∧ a * b ≤ 34359738368 := by
  constructor
  · have h1 : (-a) * b ≤ 1048576 * 32768 := Int.mul_le_mul (by omega) hb.2 hb.1 (by omega)
    rw [Int.neg_mul] at h1; omega
  · have h1 : a * b ≤ 1048576 * 32768 := Int.mul_le_mul ha.2 hb.2 hb.1 (by omega)
    omega
theorem div_bd2 {x : Int} (hx : -34359738368 ≤ x ∧ x ≤ 34359738368) : -34359739 ≤ x / 1000 ∧ x / 1000 ≤ 34359739 ∧ -34359739 ≤ ce x 1000 ∧ ce x 1000 ≤ 34359739 := by
  unfold ce; omega

set_option maxRecDepth 100000 in
set_option maxHeartbeats 4000000 in
theorem passed_of (w : World) (at_ alo ahi slo shi : Int) :
    Calls Tryd.prog 8 #[.int .i64 at_, .agg #[.int .i64 alo, .int .i64 ahi], .agg #[.int .i64 slo, .int .i64 shi]] w fun e w' => e = .returned (resV (pas at_ alo ahi slo shi)) ∧ Below w.heap.size w w' := by
  have a0 := al_old (al_old (World.alloc_heap_new w (.cells #[.int .i64 alo, .int .i64 ahi] 38)) (.cells #[.int .i64 slo, .int .i64 shi] 38)) (.cells #[.int .i64 0, .int .i64 0] 38)
  have a1 := al_old (al_1 w (.cells #[.int .i64 alo, .int .i64 ahi] 38) (.cells #[.int .i64 slo, .int .i64 shi] 38)) (.cells #[.int .i64 0, .int .i64 0] 38)
  have a2 := al_2 w (.cells #[.int .i64 alo, .int .i64 ahi] 38) (.cells #[.int .i64 slo, .int .i64 shi] 38) (.cells #[.int .i64 0, .int .i64 0] 38)
  have hB3 : Below w.heap.size w (((w.alloc (.cells #[.int .i64 alo, .int .i64 ahi] 38)).alloc (.cells #[.int .i64 slo, .int .i64 shi] 38)).alloc (.cells #[.int .i64 0, .int .i64 0] 38)) := (((Below.refl _ w).alloc (Nat.le_refl _) _).alloc (by simp) _).alloc (by simp; omega) _
  obtain ⟨W3, hW3⟩ : ∃ W3, ((w.alloc (.cells #[.int .i64 alo, .int .i64 ahi] 38)).alloc (.cells #[.int .i64 slo, .int .i64 shi] 38)).alloc (.cells #[.int .i64 0, .int .i64 0] 38) = W3 := ⟨_, rfl⟩
  rw [hW3] at a0 a1 a2 hB3
  have HW3 := Lib.hid hW3
  clear hW3
  go_enter Tryd.func8, Tryd.ntmps8
  go_wp2_with fail
  rw [HW3.out]
  refine (checkPassed_of W3 at_ alo ahi slo shi).mono ?_
  rintro e w4 ⟨rfl, hB4⟩
  have hBw := hB3.trans (hB4.mono hB3.size)
  replace a0 := (hB4.block _ (Array.getElem?_eq_some_iff.1 a0).1).trans a0
  replace a1 := (hB4.block _ (Array.getElem?_eq_some_iff.1 a1).1).trans a1
  replace a2 := (hB4.block _ (Array.getElem?_eq_some_iff.1 a2).1).trans a2
  have x0 : w4.cell? ⟨w.heap.size, 0, none⟩ = some (.int .i64 alo) := cell_h a0 rfl
  have x1 : w4.cell? ⟨w.heap.size, 1, none⟩ = some (.int .i64 ahi) := cell_h a0 rfl
  have y0 : w4.cell? ⟨w.heap.size + 1, 0, none⟩ = some (.int .i64 slo) := cell_h a1 rfl
  have y1 : w4.cell? ⟨w.heap.size + 1, 1, none⟩ = some (.int .i64 shi) := cell_h a1 rfl
  have c0 : w4.cell? ⟨w.heap.size + 1 + 1, 0, none⟩ = some (.int .i64 0) := cell_h a2 rfl
  have c1 : w4.cell? ⟨w.heap.size + 1 + 1, 1, none⟩ = some (.int .i64 0) := cell_h a2 rfl
  have z : ∀ o, w4.frozen? ⟨w.heap.size + 1 + 1, o, none⟩ = false := fun o => by simp [World.frozen?, a2]
  have HBw := Lib.hid hBw
  have HA2 := Lib.hid a2
  clear hB3 hB4 hBw a0 a1 a2 HW3
  by_cases he : pasE at_ alo ahi slo shi = 0
  · have hok := pasE_ok he
    have hE : pas at_ alo ahi slo shi = if isPl (at_ + min (alo * slo) (alo * shi) / 1000) = false ∨ isPl (at_ + ce (max (ahi * slo) (ahi * shi)) 1000) = false then (0, 0, 1) else (at_ + min (alo * slo) (alo * shi) / 1000, at_ + ce (max (ahi * slo) (ahi * shi)) 1000, 0) := by
      unfold pas; rw [if_neg (by simpa using he)]
    have HE := Lib.hid hE
    rw [he]
    clear hE he
    obtain ⟨k1, k2, k3, k4, k5⟩ := hok
    have m1 := mul_bd2 (a := alo) (b := slo) (by omega) (by omega)
    have m2 := mul_bd2 (a := alo) (b := shi) (by omega) (by omega)
    have m3 := mul_bd2 (a := ahi) (b := slo) (by omega) (by omega)
    have m4 := mul_bd2 (a := ahi) (b := shi) (by omega) (by omega)
    obtain ⟨p1, hp1⟩ : ∃ p, alo * slo = p := ⟨_, rfl⟩
    obtain ⟨p2, hp2⟩ : ∃ p, alo * shi = p := ⟨_, rfl⟩
    obtain ⟨p3, hp3⟩ : ∃ p, ahi * slo = p := ⟨_, rfl⟩
    obtain ⟨p4, hp4⟩ : ∃ p, ahi * shi = p := ⟨_, rfl⟩
    have w1 : IntKind.i64.wrap (alo * slo) = p1 := (IntWalk.i64_in _ (by omega)).trans hp1
    have w2 : IntKind.i64.wrap (alo * shi) = p2 := (IntWalk.i64_in _ (by omega)).trans hp2
    have w3 : IntKind.i64.wrap (ahi * slo) = p3 := (IntWalk.i64_in _ (by omega)).trans hp3
    have w4' : IntKind.i64.wrap (ahi * shi) = p4 := (IntWalk.i64_in _ (by omega)).trans hp4
    rw [hp1, hp2, hp3, hp4] at HE
    rw [hp1] at m1
    rw [hp2] at m2
    rw [hp3] at m3
    rw [hp4] at m4
    have hmn : ∃ mn, (p1 ≤ p2 ∧ mn = p1 ∨ p2 < p1 ∧ mn = p2) ∧ min p1 p2 = mn := ⟨_, by omega, rfl⟩
    have hmx : ∃ mx, (p4 ≤ p3 ∧ mx = p3 ∨ p3 < p4 ∧ mx = p4) ∧ max p3 p4 = mx := ⟨_, by omega, rfl⟩
    obtain ⟨mn, hmn, e1⟩ := hmn
    obtain ⟨mx, hmx, e2⟩ := hmx
    have hm1 : -34359738368 ≤ mn ∧ mn ≤ 34359738368 := by omega
    have hm2 : -34359738368 ≤ mx ∧ mx ≤ 34359738368 := by omega
    have d1 := div_bd2 hm1
    have d2 := div_bd2 hm2
    rw [e1, e2] at HE
    clear hp1 hp2 hp3 hp4 e1 e2 k2 k3 k4 k5 m1 m2 m3 m4
    rcases hmn with ⟨n1, rfl⟩ | ⟨n1, rfl⟩
    all_goals
      rcases hmx with ⟨n2, rfl⟩ | ⟨n2, rfl⟩
      all_goals
        go_wp2_with fail
        refine (outward_of w4 mn mx 1000 (by decide) (by decide) (by omega) (by omega)).mono ?_
        rintro e w5 ⟨rfl, hB5⟩
        have a5 := (hB5.block _ (Array.getElem?_eq_some_iff.1 HA2.out).1).trans HA2.out
        have g0 : w5.cell? ⟨w.heap.size + 1 + 1, 0, none⟩ = some (.int .i64 0) := cell_h a5 rfl
        have g1 : w5.cell? ⟨w.heap.size + 1 + 1, 1, none⟩ = some (.int .i64 0) := cell_h a5 rfl
        have gz : ∀ (X Y : Obj) (o : Nat), ((w5.alloc X).alloc Y).frozen? ⟨w.heap.size + 1 + 1, o, none⟩ = false := fun X Y o => by simp only [World.frozen?, al_old (al_old a5 X) Y]; rfl
        have gc : ∀ (X Y : Obj), ((w5.alloc X).alloc Y).cell? ⟨w.heap.size + 1 + 1, 0, none⟩ = some (.int .i64 0) ∧ ((w5.alloc X).alloc Y).cell? ⟨w.heap.size + 1 + 1, 1, none⟩ = some (.int .i64 0) := fun X Y => ⟨cell_h (al_old (al_old a5 X) Y) rfl, cell_h (al_old (al_old a5 X) Y) rfl⟩
        have glt : w.heap.size + 1 + 1 < w5.heap.size := (Array.getElem?_eq_some_iff.1 a5).1
        have HB5 := Lib.hid (HBw.out.trans (hB5.mono HBw.out.size))
        clear w1 w2 w3 w4' n1 n2 x0 x1 y0 y1 c0 c1 z a5 hB5
        have q1 : IntKind.i64.wrap (at_ + mn / 1000) = at_ + mn / 1000 := IntWalk.i64_in _ (by omega)
        have q2 : IntKind.i64.wrap (at_ + ce mx 1000) = at_ + ce mx 1000 := IntWalk.i64_in _ (by omega)
        have hp1 : isPl (at_ + mn / 1000) = decide (-1073741824 ≤ at_ + mn / 1000 ∧ at_ + mn / 1000 ≤ 1073741824) := rfl
        have hp2 : isPl (at_ + ce mx 1000) = decide (-1073741824 ≤ at_ + ce mx 1000 ∧ at_ + ce mx 1000 ≤ 1073741824) := rfl
        have HP1 := Lib.hid hp1
        have HP2 := Lib.hid hp2
        clear hp1 hp2 hm1 hm2
        cases hb1 : isPl (at_ + mn / 1000) with
        | false =>
          rw [hb1] at HE HP1
          clear hb1
          go_wp2_with (go_at_call 20; refine (plc_of false _ _ HP1.out).mono ?_; rintro e w' ⟨rfl, rfl⟩)
          rw [if_pos (by simp)] at HE
          exact bodyPost_ret (v := resV (0, 0, 1)) (by simp [results, Tryd.f8, go_sem, resV, gc]) rfl ⟨by rw [HE.out], (((HB5.out.alloc HB5.out.size _).alloc (by have := HB5.out.size; simp; omega) _).setCell (p := ⟨w.heap.size + 1 + 1, 0, none⟩) (by show w.heap.size ≤ w.heap.size + 1 + 1; omega) _).setCell (p := ⟨w.heap.size + 1 + 1, 1, none⟩) (by show w.heap.size ≤ w.heap.size + 1 + 1; omega) _⟩
        | true =>
          rw [hb1] at HE HP1
          have HP1' := Lib.hid hb1
          clear hb1
          cases hb2 : isPl (at_ + ce mx 1000) with
          | false =>
            rw [hb2] at HE HP2
            have HP2' := Lib.hid hb2
            clear hb2
            go_wp2_with (go_at_call 20; refine (plc_any _ _).mono ?_; rintro e w' ⟨rfl, rfl⟩; first | rw [HP1'.out] | rw [HP2'.out])
            rw [if_pos (by simp)] at HE
            exact bodyPost_ret (v := resV (0, 0, 1)) (by simp [results, Tryd.f8, go_sem, resV, gc]) rfl ⟨by rw [HE.out], (((HB5.out.alloc HB5.out.size _).alloc (by have := HB5.out.size; simp; omega) _).setCell (p := ⟨w.heap.size + 1 + 1, 0, none⟩) (by show w.heap.size ≤ w.heap.size + 1 + 1; omega) _).setCell (p := ⟨w.heap.size + 1 + 1, 1, none⟩) (by show w.heap.size ≤ w.heap.size + 1 + 1; omega) _⟩
          | true =>
            rw [hb2] at HE HP2
            have HP2' := Lib.hid hb2
            clear hb2
            go_wp2_with (go_at_call 20; refine (plc_any _ _).mono ?_; rintro e w' ⟨rfl, rfl⟩; first | rw [HP1'.out] | rw [HP2'.out])
            rw [if_neg (by simp)] at HE
            exact bodyPost_ret (v := resV (at_ + mn / 1000, at_ + ce mx 1000, 0)) (by simp [results, Tryd.f8, go_sem, resV, gc]) rfl ⟨by rw [HE.out], (((HB5.out.alloc HB5.out.size _).alloc (by have := HB5.out.size; simp; omega) _).setCell (p := ⟨w.heap.size + 1 + 1, 0, none⟩) (by show w.heap.size ≤ w.heap.size + 1 + 1; omega) _).setCell (p := ⟨w.heap.size + 1 + 1, 1, none⟩) (by show w.heap.size ≤ w.heap.size + 1 + 1; omega) _⟩
  · have hE : pas at_ alo ahi slo shi = (0, 0, pasE at_ alo ahi slo shi) := by unfold pas; rw [if_pos (by simpa using he)]
    have HE := Lib.hid hE
    clear hE
    have hne : (pasE at_ alo ahi slo shi == 0) = false := by simpa using he
    have hne2 : (pasE at_ alo ahi slo shi != 0) = true := by simpa using he
    clear he
    go_wp2_with fail
    exact bodyPost_ret (v := resV (0, 0, pasE at_ alo ahi slo shi)) (by simp [results, Tryd.f8, go_sem, resV, c0, c1]) rfl ⟨by rw [HE.out], (HBw.out.setCell (p := ⟨w.heap.size + 1 + 1, 0, none⟩) (by show w.heap.size ≤ w.heap.size + 1 + 1; omega) _).setCell (p := ⟨w.heap.size + 1 + 1, 1, none⟩) (by show w.heap.size ≤ w.heap.size + 1 + 1; omega) _⟩
end Go.Proofs.YtmdniebedflpbaaDoor
