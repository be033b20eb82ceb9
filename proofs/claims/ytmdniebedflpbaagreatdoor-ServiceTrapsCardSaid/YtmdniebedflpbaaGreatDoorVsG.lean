/-
  WALKS: traps: the reference: Step, the commands from 8 on.
-/
import Derived.Test.YtmdniebedflpbaaGreatDoorVsF
namespace Go.Proofs.YtmdniebedflpbaaGreatDoor
open Go.RowKit

set_option maxHeartbeats 16000000 in
theorem rstep_12 (w : World) (t : Tp) (h : t.err = 0) (h2 : t.safe = true) (hok : t.ok) : Calls Tryz.prog 10 #[t.val, .int .i64 12] w fun e w' => e = .returned (stepV (t.tick, 0)) ∧ Below w.heap.size w w' := by
  have HC : Hid (∀ W, Calls Tryz.prog 14 #[t.val] W fun e w' => e = .returned (.int .i64 0) ∧ Below W.heap.size W w') := fun W => by have q := rcheckTrap_of W t; rwa [h] at q
  have HS : Hid (∀ W, Calls Tryz.prog 16 #[t.val] W fun e w' => e = .returned (.bool true) ∧ Below W.heap.size W w') := fun W => by have q := rsafe_of W t; rwa [h2] at q
  have HX : Hid (∀ W, Calls Tryz.prog 48 #[t.val] W fun e w' => e = .returned t.tick.val ∧ Below W.heap.size W w') := fun W => rtick_of W t hok
  obtain ⟨x, hx⟩ : ∃ x, t.tick = x := ⟨_, rfl⟩
  rw [hx] at HX ⊢
  clear hx hok
  obtain ⟨m, k, v, u, d, p, g, i⟩ := t
  dsimp only [Tp.val] at HC HS HX ⊢
  clear h h2
  go_enter Tryz.func10, Tryz.ntmps10
  go_wp2_with fail
  refine (HC.out _).mono ?_
  rintro e V ⟨rfl, hV⟩
  have c0 := (hV.block _ (by simp; omega)).trans (al_old (new_heap w _) _)
  have c1 := (hV.block _ (by simp)).trans (al_1 w _ _)
  have HV : Hid (Below w.heap.size w V) := low_trans (((Below.refl _ _).alloc (Nat.le_refl _) _).alloc (by simp) _) hV
  have hs0 : w.heap.size < V.heap.size := (Array.getElem?_eq_some_iff.1 c0).1
  have hs1 : w.heap.size + 1 < V.heap.size := (Array.getElem?_eq_some_iff.1 c1).1
  clear hV
  have s0 := cell_h (k := 0) c0 rfl
  have s1 := cell_h (k := 1) c0 rfl
  have s2 := cell_h (k := 2) c0 rfl
  have s3 := cell_h (k := 3) c0 rfl
  have s4 := cell_h (k := 4) c0 rfl
  have s5 := cell_h (k := 5) c0 rfl
  have s6 := cell_h (k := 6) c0 rfl
  have s7 := cell_h (k := 7) c0 rfl
  clear HC
  go_wp2_with fail
  refine (HS.out _).mono ?_
  rintro e V2 ⟨rfl, hV⟩
  clear s0 s1 s2 s3 s4 s5 s6 s7
  have C0 := Lib.hid ((hV.block _ hs0).trans c0)
  have C1 := Lib.hid ((hV.block _ hs1).trans c1)
  have HU := Lib.hid (low_trans HV.out hV)
  clear hV c0 c1 HV hs0 hs1
  have c0 := C0.out
  have c1 := C1.out
  have HV := HU
  have hs0 : w.heap.size < V2.heap.size := (Array.getElem?_eq_some_iff.1 c0).1
  have hs1 : w.heap.size + 1 < V2.heap.size := (Array.getElem?_eq_some_iff.1 c1).1
  clear C0 C1 HU
  have s0 := cell_h (k := 0) c0 rfl
  have s1 := cell_h (k := 1) c0 rfl
  have s2 := cell_h (k := 2) c0 rfl
  have s3 := cell_h (k := 3) c0 rfl
  have s4 := cell_h (k := 4) c0 rfl
  have s5 := cell_h (k := 5) c0 rfl
  have s6 := cell_h (k := 6) c0 rfl
  have s7 := cell_h (k := 7) c0 rfl
  clear HS
  have f0 := fz_h c0
  go_wp2_with fail
  refine (HX.out _).mono ?_
  rintro e V3 ⟨rfl, hV⟩
  clear s0 s1 s2 s3 s4 s5 s6 s7
  have C0 := Lib.hid ((hV.block _ hs0).trans c0)
  have C1 := Lib.hid ((hV.block _ hs1).trans c1)
  have HU := Lib.hid (low_trans HV.out hV)
  clear hV c0 c1 HV hs0 hs1
  have c0 := C0.out
  have c1 := C1.out
  have HV := HU
  have hs0 : w.heap.size < V3.heap.size := (Array.getElem?_eq_some_iff.1 c0).1
  have hs1 : w.heap.size + 1 < V3.heap.size := (Array.getElem?_eq_some_iff.1 c1).1
  clear C0 C1 HU
  have s0 := cell_h (k := 0) c0 rfl
  have s1 := cell_h (k := 1) c0 rfl
  have s2 := cell_h (k := 2) c0 rfl
  have s3 := cell_h (k := 3) c0 rfl
  have s4 := cell_h (k := 4) c0 rfl
  have s5 := cell_h (k := 5) c0 rfl
  have s6 := cell_h (k := 6) c0 rfl
  have s7 := cell_h (k := 7) c0 rfl
  clear HX f0
  have f0 := fz_h c0
  have d0 := cell_h (k := 0) c1 rfl
  have d1 := cell_h (k := 1) c1 rfl
  have d2 := cell_h (k := 2) c1 rfl
  have d3 := cell_h (k := 3) c1 rfl
  have d4 := cell_h (k := 4) c1 rfl
  have d5 := cell_h (k := 5) c1 rfl
  have d6 := cell_h (k := 6) c1 rfl
  have d7 := cell_h (k := 7) c1 rfl
  have f1 := fz_h c1
  go_wp2_with fail
  refine bodyPost_ret (v := .tuple #[.agg #[.bool _, .bool _, .bool _, .bool _, .bool _, .int .i64 _, .int .i64 _, .int .i64 _], .int .i64 _]) (by simp [results, Tryz.f10, go_sem, d0, d1, d2, d3, d4, d5, d6, d7]) rfl ⟨rfl, ?_⟩
  iterate 16 refine Below.setCell ?_ (by simp) _
  exact HV.out
set_option maxHeartbeats 16000000 in
theorem rstep_8 (w : World) (t : Tp) (h : t.err = 0) (h2 : t.safe = true) : Calls Tryz.prog 10 #[t.val, .int .i64 8] w fun e w' => e = .returned (stepV (if t.alw 8 = true then ({ t with d := true }, 0) else (.none, 100))) ∧ Below w.heap.size w w' := by
  have HC : Hid (∀ W, Calls Tryz.prog 14 #[t.val] W fun e w' => e = .returned (.int .i64 0) ∧ Below W.heap.size W w') := fun W => by have q := rcheckTrap_of W t; rwa [h] at q
  have HS : Hid (∀ W, Calls Tryz.prog 16 #[t.val] W fun e w' => e = .returned (.bool true) ∧ Below W.heap.size W w') := fun W => by have q := rsafe_of W t; rwa [h2] at q
  have HX : Hid (∀ W, Calls Tryz.prog 16 #[Tp.val { t with d := true }] W fun e w' => e = .returned (.bool (Tp.safe { t with d := true })) ∧ Below W.heap.size W w') := fun W => rsafe_of W _
  obtain ⟨x, hx⟩ : ∃ x, Tp.safe { t with d := true } = x := ⟨_, rfl⟩
  rw [hx] at HX
  have e8 : t.alw 8 = (!t.d && x) := by rw [← hx]; rfl
  rw [e8]
  clear hx e8
  obtain ⟨m, k, v, u, d, p, g, i⟩ := t
  dsimp only [Tp.val] at HC HS HX ⊢
  clear h h2
  go_enter Tryz.func10, Tryz.ntmps10
  go_wp2_with fail
  refine (HC.out _).mono ?_
  rintro e V ⟨rfl, hV⟩
  have c0 := (hV.block _ (by simp; omega)).trans (al_old (new_heap w _) _)
  have c1 := (hV.block _ (by simp)).trans (al_1 w _ _)
  have HV : Hid (Below w.heap.size w V) := low_trans (((Below.refl _ _).alloc (Nat.le_refl _) _).alloc (by simp) _) hV
  have hs0 : w.heap.size < V.heap.size := (Array.getElem?_eq_some_iff.1 c0).1
  have hs1 : w.heap.size + 1 < V.heap.size := (Array.getElem?_eq_some_iff.1 c1).1
  clear hV
  have s0 := cell_h (k := 0) c0 rfl
  have s1 := cell_h (k := 1) c0 rfl
  have s2 := cell_h (k := 2) c0 rfl
  have s3 := cell_h (k := 3) c0 rfl
  have s4 := cell_h (k := 4) c0 rfl
  have s5 := cell_h (k := 5) c0 rfl
  have s6 := cell_h (k := 6) c0 rfl
  have s7 := cell_h (k := 7) c0 rfl
  clear HC
  go_wp2_with fail
  refine (HS.out _).mono ?_
  rintro e V2 ⟨rfl, hV⟩
  clear s0 s1 s2 s3 s4 s5 s6 s7
  have C0 := Lib.hid ((hV.block _ hs0).trans c0)
  have C1 := Lib.hid ((hV.block _ hs1).trans c1)
  have HU := Lib.hid (low_trans HV.out hV)
  clear hV c0 c1 HV hs0 hs1
  have c0 := C0.out
  have c1 := C1.out
  have HV := HU
  have hs0 : w.heap.size < V2.heap.size := (Array.getElem?_eq_some_iff.1 c0).1
  have hs1 : w.heap.size + 1 < V2.heap.size := (Array.getElem?_eq_some_iff.1 c1).1
  clear C0 C1 HU
  have s0 := cell_h (k := 0) c0 rfl
  have s1 := cell_h (k := 1) c0 rfl
  have s2 := cell_h (k := 2) c0 rfl
  have s3 := cell_h (k := 3) c0 rfl
  have s4 := cell_h (k := 4) c0 rfl
  have s5 := cell_h (k := 5) c0 rfl
  have s6 := cell_h (k := 6) c0 rfl
  have s7 := cell_h (k := 7) c0 rfl
  clear HS
  have f0 := fz_h c0
  cases d
  · go_wp2_with fail
    refine (HX.out _).mono ?_
    rintro e V3 ⟨rfl, hV⟩
    clear s0 s1 s2 s3 s4 s5 s6 s7
    have C0 := Lib.hid ((hV.block _ (by simp; omega)).trans (heap_set c0 _))
    have C1 := Lib.hid ((hV.block _ (by simp; omega)).trans ((Below.heap_setCell _ _ _ _ (by simp)).trans c1))
    have HU : Hid (Below w.heap.size w V3) := low_trans (HV.out.setCell (by simp) _) hV
    clear hV c0 c1 HV hs0 hs1 f0
    have c0 := C0.out
    have c1 := C1.out
    have HV := HU
    clear C0 C1 HU
    simp only [List.setIfInBounds_toArray, List.set_cons_succ, List.set_cons_zero] at c0
    have s0 := cell_h (k := 0) c0 rfl
    have s1 := cell_h (k := 1) c0 rfl
    have s2 := cell_h (k := 2) c0 rfl
    have s3 := cell_h (k := 3) c0 rfl
    have s4 := cell_h (k := 4) c0 rfl
    have s5 := cell_h (k := 5) c0 rfl
    have s6 := cell_h (k := 6) c0 rfl
    have s7 := cell_h (k := 7) c0 rfl
    cases x
    · have d0 := cell_h (k := 0) c1 rfl
      have d1 := cell_h (k := 1) c1 rfl
      have d2 := cell_h (k := 2) c1 rfl
      have d3 := cell_h (k := 3) c1 rfl
      have d4 := cell_h (k := 4) c1 rfl
      have d5 := cell_h (k := 5) c1 rfl
      have d6 := cell_h (k := 6) c1 rfl
      have d7 := cell_h (k := 7) c1 rfl
      have f1 := fz_h c1
      go_wp2_with fail
      refine bodyPost_ret (v := .tuple #[.agg #[.bool _, .bool _, .bool _, .bool _, .bool _, .int .i64 _, .int .i64 _, .int .i64 _], .int .i64 _]) (by simp [results, Tryz.f10, go_sem, d0, d1, d2, d3, d4, d5, d6, d7, Tp.none]) rfl ⟨rfl, ?_⟩
      iterate 8 refine Below.setCell ?_ (by simp) _
      exact HV.out
    · have d0 := cell_h (k := 0) c1 rfl
      have d1 := cell_h (k := 1) c1 rfl
      have d2 := cell_h (k := 2) c1 rfl
      have d3 := cell_h (k := 3) c1 rfl
      have d4 := cell_h (k := 4) c1 rfl
      have d5 := cell_h (k := 5) c1 rfl
      have d6 := cell_h (k := 6) c1 rfl
      have d7 := cell_h (k := 7) c1 rfl
      have f1 := fz_h c1
      go_wp2_with fail
      refine bodyPost_ret (v := .tuple #[.agg #[.bool _, .bool _, .bool _, .bool _, .bool _, .int .i64 _, .int .i64 _, .int .i64 _], .int .i64 _]) (by simp [results, Tryz.f10, go_sem, d0, d1, d2, d3, d4, d5, d6, d7]) rfl ⟨rfl, ?_⟩
      iterate 8 refine Below.setCell ?_ (by simp) _
      exact HV.out
  · clear HX
    have d0 := cell_h (k := 0) c1 rfl
    have d1 := cell_h (k := 1) c1 rfl
    have d2 := cell_h (k := 2) c1 rfl
    have d3 := cell_h (k := 3) c1 rfl
    have d4 := cell_h (k := 4) c1 rfl
    have d5 := cell_h (k := 5) c1 rfl
    have d6 := cell_h (k := 6) c1 rfl
    have d7 := cell_h (k := 7) c1 rfl
    have f1 := fz_h c1
    go_wp2_with fail
    refine bodyPost_ret (v := .tuple #[.agg #[.bool _, .bool _, .bool _, .bool _, .bool _, .int .i64 _, .int .i64 _, .int .i64 _], .int .i64 _]) (by simp [results, Tryz.f10, go_sem, d0, d1, d2, d3, d4, d5, d6, d7, Tp.none]) rfl ⟨rfl, ?_⟩
    iterate 9 refine Below.setCell ?_ (by simp) _
    exact HV.out
set_option maxHeartbeats 16000000 in
theorem rstep_9 (w : World) (t : Tp) (h : t.err = 0) (h2 : t.safe = true) : Calls Tryz.prog 10 #[t.val, .int .i64 9] w fun e w' => e = .returned (stepV (if t.alw 9 = true then ({ t with d := false }, 0) else (.none, 100))) ∧ Below w.heap.size w w' := by
  have HC : Hid (∀ W, Calls Tryz.prog 14 #[t.val] W fun e w' => e = .returned (.int .i64 0) ∧ Below W.heap.size W w') := fun W => by have q := rcheckTrap_of W t; rwa [h] at q
  have HS : Hid (∀ W, Calls Tryz.prog 16 #[t.val] W fun e w' => e = .returned (.bool true) ∧ Below W.heap.size W w') := fun W => by have q := rsafe_of W t; rwa [h2] at q
  obtain ⟨m, k, v, u, d, p, g, i⟩ := t
  dsimp only [Tp.alw]
  dsimp only [Tp.val] at HC HS ⊢
  clear h h2
  go_enter Tryz.func10, Tryz.ntmps10
  go_wp2_with fail
  refine (HC.out _).mono ?_
  rintro e V ⟨rfl, hV⟩
  have c0 := (hV.block _ (by simp; omega)).trans (al_old (new_heap w _) _)
  have c1 := (hV.block _ (by simp)).trans (al_1 w _ _)
  have HV : Hid (Below w.heap.size w V) := low_trans (((Below.refl _ _).alloc (Nat.le_refl _) _).alloc (by simp) _) hV
  have hs0 : w.heap.size < V.heap.size := (Array.getElem?_eq_some_iff.1 c0).1
  have hs1 : w.heap.size + 1 < V.heap.size := (Array.getElem?_eq_some_iff.1 c1).1
  clear hV
  have s0 := cell_h (k := 0) c0 rfl
  have s1 := cell_h (k := 1) c0 rfl
  have s2 := cell_h (k := 2) c0 rfl
  have s3 := cell_h (k := 3) c0 rfl
  have s4 := cell_h (k := 4) c0 rfl
  have s5 := cell_h (k := 5) c0 rfl
  have s6 := cell_h (k := 6) c0 rfl
  have s7 := cell_h (k := 7) c0 rfl
  clear HC
  go_wp2_with fail
  refine (HS.out _).mono ?_
  rintro e V2 ⟨rfl, hV⟩
  clear s0 s1 s2 s3 s4 s5 s6 s7
  have C0 := Lib.hid ((hV.block _ hs0).trans c0)
  have C1 := Lib.hid ((hV.block _ hs1).trans c1)
  have HU := Lib.hid (low_trans HV.out hV)
  clear hV c0 c1 HV hs0 hs1
  have c0 := C0.out
  have c1 := C1.out
  have HV := HU
  have hs0 : w.heap.size < V2.heap.size := (Array.getElem?_eq_some_iff.1 c0).1
  have hs1 : w.heap.size + 1 < V2.heap.size := (Array.getElem?_eq_some_iff.1 c1).1
  clear C0 C1 HU
  have s0 := cell_h (k := 0) c0 rfl
  have s1 := cell_h (k := 1) c0 rfl
  have s2 := cell_h (k := 2) c0 rfl
  have s3 := cell_h (k := 3) c0 rfl
  have s4 := cell_h (k := 4) c0 rfl
  have s5 := cell_h (k := 5) c0 rfl
  have s6 := cell_h (k := 6) c0 rfl
  have s7 := cell_h (k := 7) c0 rfl
  clear HS
  have f0 := fz_h c0
  cases d
  · have d0 := cell_h (k := 0) c1 rfl
    have d1 := cell_h (k := 1) c1 rfl
    have d2 := cell_h (k := 2) c1 rfl
    have d3 := cell_h (k := 3) c1 rfl
    have d4 := cell_h (k := 4) c1 rfl
    have d5 := cell_h (k := 5) c1 rfl
    have d6 := cell_h (k := 6) c1 rfl
    have d7 := cell_h (k := 7) c1 rfl
    have f1 := fz_h c1
    go_wp2_with fail
    refine bodyPost_ret (v := .tuple #[.agg #[.bool _, .bool _, .bool _, .bool _, .bool _, .int .i64 _, .int .i64 _, .int .i64 _], .int .i64 _]) (by simp [results, Tryz.f10, go_sem, d0, d1, d2, d3, d4, d5, d6, d7, Tp.none]) rfl ⟨rfl, ?_⟩
    iterate 9 refine Below.setCell ?_ (by simp) _
    exact HV.out
  · have d0 := cell_h (k := 0) c1 rfl
    have d1 := cell_h (k := 1) c1 rfl
    have d2 := cell_h (k := 2) c1 rfl
    have d3 := cell_h (k := 3) c1 rfl
    have d4 := cell_h (k := 4) c1 rfl
    have d5 := cell_h (k := 5) c1 rfl
    have d6 := cell_h (k := 6) c1 rfl
    have d7 := cell_h (k := 7) c1 rfl
    have f1 := fz_h c1
    go_wp2_with fail
    refine bodyPost_ret (v := .tuple #[.agg #[.bool _, .bool _, .bool _, .bool _, .bool _, .int .i64 _, .int .i64 _, .int .i64 _], .int .i64 _]) (by simp [results, Tryz.f10, go_sem, d0, d1, d2, d3, d4, d5, d6, d7]) rfl ⟨rfl, ?_⟩
    iterate 9 refine Below.setCell ?_ (by simp) _
    exact HV.out
set_option maxHeartbeats 16000000 in
theorem rstep_10 (w : World) (t : Tp) (h : t.err = 0) (h2 : t.safe = true) : Calls Tryz.prog 10 #[t.val, .int .i64 10] w fun e w' => e = .returned (stepV (if t.alw 10 = true then ({ t with i := 1 }, 0) else (.none, 100))) ∧ Below w.heap.size w w' := by
  have HC : Hid (∀ W, Calls Tryz.prog 14 #[t.val] W fun e w' => e = .returned (.int .i64 0) ∧ Below W.heap.size W w') := fun W => by have q := rcheckTrap_of W t; rwa [h] at q
  have HS : Hid (∀ W, Calls Tryz.prog 16 #[t.val] W fun e w' => e = .returned (.bool true) ∧ Below W.heap.size W w') := fun W => by have q := rsafe_of W t; rwa [h2] at q
  obtain ⟨m, k, v, u, d, p, g, i⟩ := t
  have ea : (Tp.mk m k v u d p g i).alw 10 = (d && decide (i = 0)) := rfl
  rw [ea]
  clear ea
  by_cases hi : d = true ∧ i = 0
  · obtain ⟨rfl, rfl⟩ := hi
    dsimp only [Tp.val] at HC HS ⊢
    clear h h2
    go_enter Tryz.func10, Tryz.ntmps10
    go_wp2_with fail
    refine (HC.out _).mono ?_
    rintro e V ⟨rfl, hV⟩
    have c0 := (hV.block _ (by simp; omega)).trans (al_old (new_heap w _) _)
    have c1 := (hV.block _ (by simp)).trans (al_1 w _ _)
    have HV : Hid (Below w.heap.size w V) := low_trans (((Below.refl _ _).alloc (Nat.le_refl _) _).alloc (by simp) _) hV
    have hs0 : w.heap.size < V.heap.size := (Array.getElem?_eq_some_iff.1 c0).1
    have hs1 : w.heap.size + 1 < V.heap.size := (Array.getElem?_eq_some_iff.1 c1).1
    clear hV
    have s0 := cell_h (k := 0) c0 rfl
    have s1 := cell_h (k := 1) c0 rfl
    have s2 := cell_h (k := 2) c0 rfl
    have s3 := cell_h (k := 3) c0 rfl
    have s4 := cell_h (k := 4) c0 rfl
    have s5 := cell_h (k := 5) c0 rfl
    have s6 := cell_h (k := 6) c0 rfl
    have s7 := cell_h (k := 7) c0 rfl
    clear HC
    go_wp2_with fail
    refine (HS.out _).mono ?_
    rintro e V2 ⟨rfl, hV⟩
    clear s0 s1 s2 s3 s4 s5 s6 s7
    have C0 := Lib.hid ((hV.block _ hs0).trans c0)
    have C1 := Lib.hid ((hV.block _ hs1).trans c1)
    have HU := Lib.hid (low_trans HV.out hV)
    clear hV c0 c1 HV hs0 hs1
    have c0 := C0.out
    have c1 := C1.out
    have HV := HU
    have hs0 : w.heap.size < V2.heap.size := (Array.getElem?_eq_some_iff.1 c0).1
    have hs1 : w.heap.size + 1 < V2.heap.size := (Array.getElem?_eq_some_iff.1 c1).1
    clear C0 C1 HU
    have s0 := cell_h (k := 0) c0 rfl
    have s1 := cell_h (k := 1) c0 rfl
    have s2 := cell_h (k := 2) c0 rfl
    have s3 := cell_h (k := 3) c0 rfl
    have s4 := cell_h (k := 4) c0 rfl
    have s5 := cell_h (k := 5) c0 rfl
    have s6 := cell_h (k := 6) c0 rfl
    have s7 := cell_h (k := 7) c0 rfl
    clear HS
    have f0 := fz_h c0
    have d0 := cell_h (k := 0) c1 rfl
    have d1 := cell_h (k := 1) c1 rfl
    have d2 := cell_h (k := 2) c1 rfl
    have d3 := cell_h (k := 3) c1 rfl
    have d4 := cell_h (k := 4) c1 rfl
    have d5 := cell_h (k := 5) c1 rfl
    have d6 := cell_h (k := 6) c1 rfl
    have d7 := cell_h (k := 7) c1 rfl
    have f1 := fz_h c1
    go_wp2_with fail
    refine bodyPost_ret (v := .tuple #[.agg #[.bool _, .bool _, .bool _, .bool _, .bool _, .int .i64 _, .int .i64 _, .int .i64 _], .int .i64 _]) (by simp [results, Tryz.f10, go_sem, d0, d1, d2, d3, d4, d5, d6, d7]) rfl ⟨rfl, ?_⟩
    iterate 9 refine Below.setCell ?_ (by simp) _
    exact HV.out
  · rw [if_neg (by intro hq; rw [Bool.and_eq_true, decide_eq_true_iff] at hq; exact hi hq)]
    dsimp only [Tp.val] at HC HS ⊢
    clear h h2
    go_enter Tryz.func10, Tryz.ntmps10
    go_wp2_with fail
    refine (HC.out _).mono ?_
    rintro e V ⟨rfl, hV⟩
    have c0 := (hV.block _ (by simp; omega)).trans (al_old (new_heap w _) _)
    have c1 := (hV.block _ (by simp)).trans (al_1 w _ _)
    have HV : Hid (Below w.heap.size w V) := low_trans (((Below.refl _ _).alloc (Nat.le_refl _) _).alloc (by simp) _) hV
    have hs0 : w.heap.size < V.heap.size := (Array.getElem?_eq_some_iff.1 c0).1
    have hs1 : w.heap.size + 1 < V.heap.size := (Array.getElem?_eq_some_iff.1 c1).1
    clear hV
    have s0 := cell_h (k := 0) c0 rfl
    have s1 := cell_h (k := 1) c0 rfl
    have s2 := cell_h (k := 2) c0 rfl
    have s3 := cell_h (k := 3) c0 rfl
    have s4 := cell_h (k := 4) c0 rfl
    have s5 := cell_h (k := 5) c0 rfl
    have s6 := cell_h (k := 6) c0 rfl
    have s7 := cell_h (k := 7) c0 rfl
    clear HC
    go_wp2_with fail
    refine (HS.out _).mono ?_
    rintro e V2 ⟨rfl, hV⟩
    clear s0 s1 s2 s3 s4 s5 s6 s7
    have C0 := Lib.hid ((hV.block _ hs0).trans c0)
    have C1 := Lib.hid ((hV.block _ hs1).trans c1)
    have HU := Lib.hid (low_trans HV.out hV)
    clear hV c0 c1 HV hs0 hs1
    have c0 := C0.out
    have c1 := C1.out
    have HV := HU
    have hs0 : w.heap.size < V2.heap.size := (Array.getElem?_eq_some_iff.1 c0).1
    have hs1 : w.heap.size + 1 < V2.heap.size := (Array.getElem?_eq_some_iff.1 c1).1
    clear C0 C1 HU
    have s0 := cell_h (k := 0) c0 rfl
    have s1 := cell_h (k := 1) c0 rfl
    have s2 := cell_h (k := 2) c0 rfl
    have s3 := cell_h (k := 3) c0 rfl
    have s4 := cell_h (k := 4) c0 rfl
    have s5 := cell_h (k := 5) c0 rfl
    have s6 := cell_h (k := 6) c0 rfl
    have s7 := cell_h (k := 7) c0 rfl
    clear HS
    have f0 := fz_h c0
    cases d
    · have d0 := cell_h (k := 0) c1 rfl
      have d1 := cell_h (k := 1) c1 rfl
      have d2 := cell_h (k := 2) c1 rfl
      have d3 := cell_h (k := 3) c1 rfl
      have d4 := cell_h (k := 4) c1 rfl
      have d5 := cell_h (k := 5) c1 rfl
      have d6 := cell_h (k := 6) c1 rfl
      have d7 := cell_h (k := 7) c1 rfl
      have f1 := fz_h c1
      go_wp2_with fail
      refine bodyPost_ret (v := .tuple #[.agg #[.bool _, .bool _, .bool _, .bool _, .bool _, .int .i64 _, .int .i64 _, .int .i64 _], .int .i64 _]) (by simp [results, Tryz.f10, go_sem, d0, d1, d2, d3, d4, d5, d6, d7, Tp.none]) rfl ⟨rfl, ?_⟩
      iterate 9 refine Below.setCell ?_ (by simp) _
      exact HV.out
    · have hi2 : (i == 0) = false := by simpa using hi
      clear hi
      have d0 := cell_h (k := 0) c1 rfl
      have d1 := cell_h (k := 1) c1 rfl
      have d2 := cell_h (k := 2) c1 rfl
      have d3 := cell_h (k := 3) c1 rfl
      have d4 := cell_h (k := 4) c1 rfl
      have d5 := cell_h (k := 5) c1 rfl
      have d6 := cell_h (k := 6) c1 rfl
      have d7 := cell_h (k := 7) c1 rfl
      have f1 := fz_h c1
      go_wp2_with fail
      refine bodyPost_ret (v := .tuple #[.agg #[.bool _, .bool _, .bool _, .bool _, .bool _, .int .i64 _, .int .i64 _, .int .i64 _], .int .i64 _]) (by simp [results, Tryz.f10, go_sem, d0, d1, d2, d3, d4, d5, d6, d7, Tp.none]) rfl ⟨rfl, ?_⟩
      iterate 9 refine Below.setCell ?_ (by simp) _
      exact HV.out
set_option maxHeartbeats 16000000 in
theorem rstep_11 (w : World) (t : Tp) (h : t.err = 0) (h2 : t.safe = true) : Calls Tryz.prog 10 #[t.val, .int .i64 11] w fun e w' => e = .returned (stepV (if t.alw 11 = true then ({ t with i := 0 }, 0) else (.none, 100))) ∧ Below w.heap.size w w' := by
  have HC : Hid (∀ W, Calls Tryz.prog 14 #[t.val] W fun e w' => e = .returned (.int .i64 0) ∧ Below W.heap.size W w') := fun W => by have q := rcheckTrap_of W t; rwa [h] at q
  have HS : Hid (∀ W, Calls Tryz.prog 16 #[t.val] W fun e w' => e = .returned (.bool true) ∧ Below W.heap.size W w') := fun W => by have q := rsafe_of W t; rwa [h2] at q
  obtain ⟨m, k, v, u, d, p, g, i⟩ := t
  have ea : (Tp.mk m k v u d p g i).alw 11 = (d && decide (i = 1)) := rfl
  rw [ea]
  clear ea
  by_cases hi : d = true ∧ i = 1
  · obtain ⟨rfl, rfl⟩ := hi
    dsimp only [Tp.val] at HC HS ⊢
    clear h h2
    go_enter Tryz.func10, Tryz.ntmps10
    go_wp2_with fail
    refine (HC.out _).mono ?_
    rintro e V ⟨rfl, hV⟩
    have c0 := (hV.block _ (by simp; omega)).trans (al_old (new_heap w _) _)
    have c1 := (hV.block _ (by simp)).trans (al_1 w _ _)
    have HV : Hid (Below w.heap.size w V) := low_trans (((Below.refl _ _).alloc (Nat.le_refl _) _).alloc (by simp) _) hV
    have hs0 : w.heap.size < V.heap.size := (Array.getElem?_eq_some_iff.1 c0).1
    have hs1 : w.heap.size + 1 < V.heap.size := (Array.getElem?_eq_some_iff.1 c1).1
    clear hV
    have s0 := cell_h (k := 0) c0 rfl
    have s1 := cell_h (k := 1) c0 rfl
    have s2 := cell_h (k := 2) c0 rfl
    have s3 := cell_h (k := 3) c0 rfl
    have s4 := cell_h (k := 4) c0 rfl
    have s5 := cell_h (k := 5) c0 rfl
    have s6 := cell_h (k := 6) c0 rfl
    have s7 := cell_h (k := 7) c0 rfl
    clear HC
    go_wp2_with fail
    refine (HS.out _).mono ?_
    rintro e V2 ⟨rfl, hV⟩
    clear s0 s1 s2 s3 s4 s5 s6 s7
    have C0 := Lib.hid ((hV.block _ hs0).trans c0)
    have C1 := Lib.hid ((hV.block _ hs1).trans c1)
    have HU := Lib.hid (low_trans HV.out hV)
    clear hV c0 c1 HV hs0 hs1
    have c0 := C0.out
    have c1 := C1.out
    have HV := HU
    have hs0 : w.heap.size < V2.heap.size := (Array.getElem?_eq_some_iff.1 c0).1
    have hs1 : w.heap.size + 1 < V2.heap.size := (Array.getElem?_eq_some_iff.1 c1).1
    clear C0 C1 HU
    have s0 := cell_h (k := 0) c0 rfl
    have s1 := cell_h (k := 1) c0 rfl
    have s2 := cell_h (k := 2) c0 rfl
    have s3 := cell_h (k := 3) c0 rfl
    have s4 := cell_h (k := 4) c0 rfl
    have s5 := cell_h (k := 5) c0 rfl
    have s6 := cell_h (k := 6) c0 rfl
    have s7 := cell_h (k := 7) c0 rfl
    clear HS
    have f0 := fz_h c0
    have d0 := cell_h (k := 0) c1 rfl
    have d1 := cell_h (k := 1) c1 rfl
    have d2 := cell_h (k := 2) c1 rfl
    have d3 := cell_h (k := 3) c1 rfl
    have d4 := cell_h (k := 4) c1 rfl
    have d5 := cell_h (k := 5) c1 rfl
    have d6 := cell_h (k := 6) c1 rfl
    have d7 := cell_h (k := 7) c1 rfl
    have f1 := fz_h c1
    go_wp2_with fail
    refine bodyPost_ret (v := .tuple #[.agg #[.bool _, .bool _, .bool _, .bool _, .bool _, .int .i64 _, .int .i64 _, .int .i64 _], .int .i64 _]) (by simp [results, Tryz.f10, go_sem, d0, d1, d2, d3, d4, d5, d6, d7]) rfl ⟨rfl, ?_⟩
    iterate 9 refine Below.setCell ?_ (by simp) _
    exact HV.out
  · rw [if_neg (by intro hq; rw [Bool.and_eq_true, decide_eq_true_iff] at hq; exact hi hq)]
    dsimp only [Tp.val] at HC HS ⊢
    clear h h2
    go_enter Tryz.func10, Tryz.ntmps10
    go_wp2_with fail
    refine (HC.out _).mono ?_
    rintro e V ⟨rfl, hV⟩
    have c0 := (hV.block _ (by simp; omega)).trans (al_old (new_heap w _) _)
    have c1 := (hV.block _ (by simp)).trans (al_1 w _ _)
    have HV : Hid (Below w.heap.size w V) := low_trans (((Below.refl _ _).alloc (Nat.le_refl _) _).alloc (by simp) _) hV
    have hs0 : w.heap.size < V.heap.size := (Array.getElem?_eq_some_iff.1 c0).1
    have hs1 : w.heap.size + 1 < V.heap.size := (Array.getElem?_eq_some_iff.1 c1).1
    clear hV
    have s0 := cell_h (k := 0) c0 rfl
    have s1 := cell_h (k := 1) c0 rfl
    have s2 := cell_h (k := 2) c0 rfl
    have s3 := cell_h (k := 3) c0 rfl
    have s4 := cell_h (k := 4) c0 rfl
    have s5 := cell_h (k := 5) c0 rfl
    have s6 := cell_h (k := 6) c0 rfl
    have s7 := cell_h (k := 7) c0 rfl
    clear HC
    go_wp2_with fail
    refine (HS.out _).mono ?_
    rintro e V2 ⟨rfl, hV⟩
    clear s0 s1 s2 s3 s4 s5 s6 s7
    have C0 := Lib.hid ((hV.block _ hs0).trans c0)
    have C1 := Lib.hid ((hV.block _ hs1).trans c1)
    have HU := Lib.hid (low_trans HV.out hV)
    clear hV c0 c1 HV hs0 hs1
    have c0 := C0.out
    have c1 := C1.out
    have HV := HU
    have hs0 : w.heap.size < V2.heap.size := (Array.getElem?_eq_some_iff.1 c0).1
    have hs1 : w.heap.size + 1 < V2.heap.size := (Array.getElem?_eq_some_iff.1 c1).1
    clear C0 C1 HU
    have s0 := cell_h (k := 0) c0 rfl
    have s1 := cell_h (k := 1) c0 rfl
    have s2 := cell_h (k := 2) c0 rfl
    have s3 := cell_h (k := 3) c0 rfl
    have s4 := cell_h (k := 4) c0 rfl
    have s5 := cell_h (k := 5) c0 rfl
    have s6 := cell_h (k := 6) c0 rfl
    have s7 := cell_h (k := 7) c0 rfl
    clear HS
    have f0 := fz_h c0
    cases d
    · have d0 := cell_h (k := 0) c1 rfl
      have d1 := cell_h (k := 1) c1 rfl
      have d2 := cell_h (k := 2) c1 rfl
      have d3 := cell_h (k := 3) c1 rfl
      have d4 := cell_h (k := 4) c1 rfl
      have d5 := cell_h (k := 5) c1 rfl
      have d6 := cell_h (k := 6) c1 rfl
      have d7 := cell_h (k := 7) c1 rfl
      have f1 := fz_h c1
      go_wp2_with fail
      refine bodyPost_ret (v := .tuple #[.agg #[.bool _, .bool _, .bool _, .bool _, .bool _, .int .i64 _, .int .i64 _, .int .i64 _], .int .i64 _]) (by simp [results, Tryz.f10, go_sem, d0, d1, d2, d3, d4, d5, d6, d7, Tp.none]) rfl ⟨rfl, ?_⟩
      iterate 9 refine Below.setCell ?_ (by simp) _
      exact HV.out
    · have hi2 : (i == 1) = false := by simpa using hi
      clear hi
      have d0 := cell_h (k := 0) c1 rfl
      have d1 := cell_h (k := 1) c1 rfl
      have d2 := cell_h (k := 2) c1 rfl
      have d3 := cell_h (k := 3) c1 rfl
      have d4 := cell_h (k := 4) c1 rfl
      have d5 := cell_h (k := 5) c1 rfl
      have d6 := cell_h (k := 6) c1 rfl
      have d7 := cell_h (k := 7) c1 rfl
      have f1 := fz_h c1
      go_wp2_with fail
      refine bodyPost_ret (v := .tuple #[.agg #[.bool _, .bool _, .bool _, .bool _, .bool _, .int .i64 _, .int .i64 _, .int .i64 _], .int .i64 _]) (by simp [results, Tryz.f10, go_sem, d0, d1, d2, d3, d4, d5, d6, d7, Tp.none]) rfl ⟨rfl, ?_⟩
      iterate 9 refine Below.setCell ?_ (by simp) _
      exact HV.out

/-- The reference's Step. -/
theorem rstep_of (w : World) (t : Tp) (c : Int) : Calls Tryz.prog 10 #[t.val, .int .i64 c] w fun e w' => e = .returned (stepV (t.step c)) ∧ Below w.heap.size w w' := by
  rcases t.step_ways c with ⟨_, h, e⟩ | ⟨_, h, hc, e⟩ | ⟨hok, h, n, hn, rfl, hw⟩
  · rw [e]; exact rstep_err w t c h
  · rw [e]; exact rstep_com w t c h hc
  · rcases hw with ⟨h2, e⟩ | ⟨h2, ha, e⟩ | ⟨h2, ha, e⟩
    · rw [e]; exact rstep_uns w t n h (by omega) h2
    · rw [e]
      have hn2 : n = 0 ∨ n = 1 ∨ n = 2 ∨ n = 3 ∨ n = 4 ∨ n = 5 ∨ n = 6 ∨ n = 7 ∨ n = 8 ∨ n = 9 ∨ n = 10 ∨ n = 11 ∨ n = 12 := by omega
      rcases hn2 with rfl | rfl | rfl | rfl | rfl | rfl | rfl | rfl | rfl | rfl | rfl | rfl | rfl
      · exact rstep_v0n w t h h2 ha
      · exact rstep_v1n w t h h2 ha
      · exact rstep_v2n w t h h2 ha
      · exact rstep_v3n w t h h2 ha
      · exact rstep_v4n w t h h2 ha
      · exact rstep_v5n w t h h2 ha
      · exact rstep_v6n w t h h2 ha
      · exact rstep_v7n w t h h2 ha
      · have q := rstep_8 w t h h2; rwa [ha, if_neg (by decide)] at q
      · have q := rstep_9 w t h h2; rwa [ha, if_neg (by decide)] at q
      · have q := rstep_10 w t h h2; rwa [ha, if_neg (by decide)] at q
      · have q := rstep_11 w t h h2; rwa [ha, if_neg (by decide)] at q
      · cases ha
    · rw [e]
      have hn2 : n = 0 ∨ n = 1 ∨ n = 2 ∨ n = 3 ∨ n = 4 ∨ n = 5 ∨ n = 6 ∨ n = 7 ∨ n = 8 ∨ n = 9 ∨ n = 10 ∨ n = 11 ∨ n = 12 := by omega
      rcases hn2 with rfl | rfl | rfl | rfl | rfl | rfl | rfl | rfl | rfl | rfl | rfl | rfl | rfl
      · exact rstep_v0y w t h h2 ha
      · exact rstep_v1y w t h h2 ha
      · exact rstep_v2y w t h h2 ha
      · exact rstep_v3y w t h h2 ha
      · exact rstep_v4y w t h h2 ha
      · exact rstep_v5y w t h h2 ha
      · exact rstep_v6y w t h h2 ha
      · exact rstep_v7y w t h h2 ha
      · have q := rstep_8 w t h h2; rwa [ha, if_pos rfl] at q
      · have q := rstep_9 w t h h2; rwa [ha, if_pos rfl] at q
      · have q := rstep_10 w t h h2; rwa [ha, if_pos rfl] at q
      · have q := rstep_11 w t h h2; rwa [ha, if_pos rfl] at q
      · exact rstep_12 w t h h2 hok
end Go.Proofs.YtmdniebedflpbaaGreatDoor
