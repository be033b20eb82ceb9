/-
  WALKS: traps: the reference: Step.
-/
import Derived.Test.YtmdniebedflpbaaGreatDoorVsE
namespace Go.Proofs.YtmdniebedflpbaaGreatDoor
open Go.RowKit

set_option maxHeartbeats 16000000 in
theorem rstep_err (w : World) (t : Tp) (c : Int) (h : t.err = 1) : Calls Tryz.prog 10 #[t.val, .int .i64 c] w fun e w' => e = .returned (stepV (.none, 1)) ∧ Below w.heap.size w w' := by
  have HC : Hid (∀ W, Calls Tryz.prog 14 #[t.val] W fun e w' => e = .returned (.int .i64 1) ∧ Below W.heap.size W w') := fun W => by have q := rcheckTrap_of W t; rwa [h] at q
  obtain ⟨m, k, v, u, d, p, g, i⟩ := t
  dsimp only [Tp.val] at HC ⊢
  clear h
  go_enter Tryz.func10, Tryz.ntmps10
  go_wp2_with fail
  refine (HC.out _).mono ?_
  rintro e V ⟨rfl, hV⟩
  have c0 := (hV.block _ (by simp; omega)).trans (al_old (new_heap w _) _)
  have c1 := (hV.block _ (by simp)).trans (al_1 w _ _)
  have HV : Hid (Below w.heap.size w V) := low_trans (((Below.refl _ _).alloc (Nat.le_refl _) _).alloc (by simp) _) hV
  have hs0 : w.heap.size < V.heap.size := (Array.getElem?_eq_some_iff.1 c0).1
  have hs1 : w.heap.size + 1 < V.heap.size := (Array.getElem?_eq_some_iff.1 c1).1
  clear hV
  have s0 := cell_h (k := 0) c0 rfl
  have s1 := cell_h (k := 1) c0 rfl
  have s2 := cell_h (k := 2) c0 rfl
  have s3 := cell_h (k := 3) c0 rfl
  have s4 := cell_h (k := 4) c0 rfl
  have s5 := cell_h (k := 5) c0 rfl
  have s6 := cell_h (k := 6) c0 rfl
  have s7 := cell_h (k := 7) c0 rfl
  clear HC
  have d0 := cell_h (k := 0) c1 rfl
  have d1 := cell_h (k := 1) c1 rfl
  have d2 := cell_h (k := 2) c1 rfl
  have d3 := cell_h (k := 3) c1 rfl
  have d4 := cell_h (k := 4) c1 rfl
  have d5 := cell_h (k := 5) c1 rfl
  have d6 := cell_h (k := 6) c1 rfl
  have d7 := cell_h (k := 7) c1 rfl
  have f1 := fz_h c1
  go_wp2_with fail
  refine bodyPost_ret (v := .tuple #[.agg #[.bool _, .bool _, .bool _, .bool _, .bool _, .int .i64 _, .int .i64 _, .int .i64 _], .int .i64 _]) (by simp [results, Tryz.f10, go_sem, d0, d1, d2, d3, d4, d5, d6, d7, Tp.none]) rfl ⟨rfl, ?_⟩
  iterate 8 refine Below.setCell ?_ (by simp) _
  exact HV.out
set_option maxHeartbeats 16000000 in
theorem rstep_com (w : World) (t : Tp) (c : Int) (h : t.err = 0) (hc : ¬(0 ≤ c ∧ c ≤ 12)) : Calls Tryz.prog 10 #[t.val, .int .i64 c] w fun e w' => e = .returned (stepV (.none, 1)) ∧ Below w.heap.size w w' := by
  have HC : Hid (∀ W, Calls Tryz.prog 14 #[t.val] W fun e w' => e = .returned (.int .i64 0) ∧ Below W.heap.size W w') := fun W => by have q := rcheckTrap_of W t; rwa [h] at q
  obtain ⟨m, k, v, u, d, p, g, i⟩ := t
  dsimp only [Tp.val] at HC ⊢
  clear h
  by_cases h1 : c < 0
  · go_enter Tryz.func10, Tryz.ntmps10
    go_wp2_with fail
    refine (HC.out _).mono ?_
    rintro e V ⟨rfl, hV⟩
    have c0 := (hV.block _ (by simp; omega)).trans (al_old (new_heap w _) _)
    have c1 := (hV.block _ (by simp)).trans (al_1 w _ _)
    have HV : Hid (Below w.heap.size w V) := low_trans (((Below.refl _ _).alloc (Nat.le_refl _) _).alloc (by simp) _) hV
    have hs0 : w.heap.size < V.heap.size := (Array.getElem?_eq_some_iff.1 c0).1
    have hs1 : w.heap.size + 1 < V.heap.size := (Array.getElem?_eq_some_iff.1 c1).1
    clear hV
    have s0 := cell_h (k := 0) c0 rfl
    have s1 := cell_h (k := 1) c0 rfl
    have s2 := cell_h (k := 2) c0 rfl
    have s3 := cell_h (k := 3) c0 rfl
    have s4 := cell_h (k := 4) c0 rfl
    have s5 := cell_h (k := 5) c0 rfl
    have s6 := cell_h (k := 6) c0 rfl
    have s7 := cell_h (k := 7) c0 rfl
    clear HC
    have d0 := cell_h (k := 0) c1 rfl
    have d1 := cell_h (k := 1) c1 rfl
    have d2 := cell_h (k := 2) c1 rfl
    have d3 := cell_h (k := 3) c1 rfl
    have d4 := cell_h (k := 4) c1 rfl
    have d5 := cell_h (k := 5) c1 rfl
    have d6 := cell_h (k := 6) c1 rfl
    have d7 := cell_h (k := 7) c1 rfl
    have f1 := fz_h c1
    go_wp2_with fail
    refine bodyPost_ret (v := .tuple #[.agg #[.bool _, .bool _, .bool _, .bool _, .bool _, .int .i64 _, .int .i64 _, .int .i64 _], .int .i64 _]) (by simp [results, Tryz.f10, go_sem, d0, d1, d2, d3, d4, d5, d6, d7, Tp.none]) rfl ⟨rfl, ?_⟩
    iterate 8 refine Below.setCell ?_ (by simp) _
    exact HV.out
  · have h2 : 12 < c := by omega
    go_enter Tryz.func10, Tryz.ntmps10
    go_wp2_with fail
    refine (HC.out _).mono ?_
    rintro e V ⟨rfl, hV⟩
    have c0 := (hV.block _ (by simp; omega)).trans (al_old (new_heap w _) _)
    have c1 := (hV.block _ (by simp)).trans (al_1 w _ _)
    have HV : Hid (Below w.heap.size w V) := low_trans (((Below.refl _ _).alloc (Nat.le_refl _) _).alloc (by simp) _) hV
    have hs0 : w.heap.size < V.heap.size := (Array.getElem?_eq_some_iff.1 c0).1
    have hs1 : w.heap.size + 1 < V.heap.size := (Array.getElem?_eq_some_iff.1 c1).1
    clear hV
    have s0 := cell_h (k := 0) c0 rfl
    have s1 := cell_h (k := 1) c0 rfl
    have s2 := cell_h (k := 2) c0 rfl
    have s3 := cell_h (k := 3) c0 rfl
    have s4 := cell_h (k := 4) c0 rfl
    have s5 := cell_h (k := 5) c0 rfl
    have s6 := cell_h (k := 6) c0 rfl
    have s7 := cell_h (k := 7) c0 rfl
    clear HC
    have d0 := cell_h (k := 0) c1 rfl
    have d1 := cell_h (k := 1) c1 rfl
    have d2 := cell_h (k := 2) c1 rfl
    have d3 := cell_h (k := 3) c1 rfl
    have d4 := cell_h (k := 4) c1 rfl
    have d5 := cell_h (k := 5) c1 rfl
    have d6 := cell_h (k := 6) c1 rfl
    have d7 := cell_h (k := 7) c1 rfl
    have f1 := fz_h c1
    go_wp2_with fail
    refine bodyPost_ret (v := .tuple #[.agg #[.bool _, .bool _, .bool _, .bool _, .bool _, .int .i64 _, .int .i64 _, .int .i64 _], .int .i64 _]) (by simp [results, Tryz.f10, go_sem, d0, d1, d2, d3, d4, d5, d6, d7, Tp.none]) rfl ⟨rfl, ?_⟩
    iterate 8 refine Below.setCell ?_ (by simp) _
    exact HV.out
set_option maxHeartbeats 16000000 in
theorem rstep_uns (w : World) (t : Tp) (c : Int) (h : t.err = 0) (hc : 0 ≤ c ∧ c ≤ 12) (h2 : t.safe = false) : Calls Tryz.prog 10 #[t.val, .int .i64 c] w fun e w' => e = .returned (stepV (.none, 100)) ∧ Below w.heap.size w w' := by
  have HC : Hid (∀ W, Calls Tryz.prog 14 #[t.val] W fun e w' => e = .returned (.int .i64 0) ∧ Below W.heap.size W w') := fun W => by have q := rcheckTrap_of W t; rwa [h] at q
  have HS : Hid (∀ W, Calls Tryz.prog 16 #[t.val] W fun e w' => e = .returned (.bool false) ∧ Below W.heap.size W w') := fun W => by have q := rsafe_of W t; rwa [h2] at q
  obtain ⟨m, k, v, u, d, p, g, i⟩ := t
  dsimp only [Tp.val] at HC HS ⊢
  clear h h2
  go_enter Tryz.func10, Tryz.ntmps10
  go_wp2_with fail
  refine (HC.out _).mono ?_
  rintro e V ⟨rfl, hV⟩
  have c0 := (hV.block _ (by simp; omega)).trans (al_old (new_heap w _) _)
  have c1 := (hV.block _ (by simp)).trans (al_1 w _ _)
  have HV : Hid (Below w.heap.size w V) := low_trans (((Below.refl _ _).alloc (Nat.le_refl _) _).alloc (by simp) _) hV
  have hs0 : w.heap.size < V.heap.size := (Array.getElem?_eq_some_iff.1 c0).1
  have hs1 : w.heap.size + 1 < V.heap.size := (Array.getElem?_eq_some_iff.1 c1).1
  clear hV
  have s0 := cell_h (k := 0) c0 rfl
  have s1 := cell_h (k := 1) c0 rfl
  have s2 := cell_h (k := 2) c0 rfl
  have s3 := cell_h (k := 3) c0 rfl
  have s4 := cell_h (k := 4) c0 rfl
  have s5 := cell_h (k := 5) c0 rfl
  have s6 := cell_h (k := 6) c0 rfl
  have s7 := cell_h (k := 7) c0 rfl
  clear HC
  go_wp2_with fail
  refine (HS.out _).mono ?_
  rintro e V2 ⟨rfl, hV⟩
  clear s0 s1 s2 s3 s4 s5 s6 s7
  have C0 := Lib.hid ((hV.block _ hs0).trans c0)
  have C1 := Lib.hid ((hV.block _ hs1).trans c1)
  have HU := Lib.hid (low_trans HV.out hV)
  clear hV c0 c1 HV hs0 hs1
  have c0 := C0.out
  have c1 := C1.out
  have HV := HU
  have hs0 : w.heap.size < V2.heap.size := (Array.getElem?_eq_some_iff.1 c0).1
  have hs1 : w.heap.size + 1 < V2.heap.size := (Array.getElem?_eq_some_iff.1 c1).1
  clear C0 C1 HU
  have s0 := cell_h (k := 0) c0 rfl
  have s1 := cell_h (k := 1) c0 rfl
  have s2 := cell_h (k := 2) c0 rfl
  have s3 := cell_h (k := 3) c0 rfl
  have s4 := cell_h (k := 4) c0 rfl
  have s5 := cell_h (k := 5) c0 rfl
  have s6 := cell_h (k := 6) c0 rfl
  have s7 := cell_h (k := 7) c0 rfl
  clear HS
  have d0 := cell_h (k := 0) c1 rfl
  have d1 := cell_h (k := 1) c1 rfl
  have d2 := cell_h (k := 2) c1 rfl
  have d3 := cell_h (k := 3) c1 rfl
  have d4 := cell_h (k := 4) c1 rfl
  have d5 := cell_h (k := 5) c1 rfl
  have d6 := cell_h (k := 6) c1 rfl
  have d7 := cell_h (k := 7) c1 rfl
  have f1 := fz_h c1
  go_wp2_with fail
  refine bodyPost_ret (v := .tuple #[.agg #[.bool _, .bool _, .bool _, .bool _, .bool _, .int .i64 _, .int .i64 _, .int .i64 _], .int .i64 _]) (by simp [results, Tryz.f10, go_sem, d0, d1, d2, d3, d4, d5, d6, d7, Tp.none]) rfl ⟨rfl, ?_⟩
  iterate 8 refine Below.setCell ?_ (by simp) _
  exact HV.out
set_option maxHeartbeats 16000000 in
theorem rstep_v0n (w : World) (t : Tp) (h : t.err = 0) (h2 : t.safe = true) (ha : t.alw 0 = false) : Calls Tryz.prog 10 #[t.val, .int .i64 0] w fun e w' => e = .returned (stepV (.none, 100)) ∧ Below w.heap.size w w' := by
  have HC : Hid (∀ W, Calls Tryz.prog 14 #[t.val] W fun e w' => e = .returned (.int .i64 0) ∧ Below W.heap.size W w') := fun W => by have q := rcheckTrap_of W t; rwa [h] at q
  have HS : Hid (∀ W, Calls Tryz.prog 16 #[t.val] W fun e w' => e = .returned (.bool true) ∧ Below W.heap.size W w') := fun W => by have q := rsafe_of W t; rwa [h2] at q
  have HX : Hid (∀ W, Calls Tryz.prog 47 #[t.val, .int .i64 0, .bool true] W fun e w' => e = .returned (stepB (t, false)) ∧ Below W.heap.size W w') := fun W => by have q := valve_of W t 0 (by decide) 0 true (by decide) (by decide); rwa [ha, if_neg (by decide)] at q
  obtain ⟨m, k, v, u, d, p, g, i⟩ := t
  clear ha
  dsimp only [Tp.val, stepB] at HC HS HX ⊢
  clear h h2
  go_enter Tryz.func10, Tryz.ntmps10
  go_wp2_with fail
  refine (HC.out _).mono ?_
  rintro e V ⟨rfl, hV⟩
  have c0 := (hV.block _ (by simp; omega)).trans (al_old (new_heap w _) _)
  have c1 := (hV.block _ (by simp)).trans (al_1 w _ _)
  have HV : Hid (Below w.heap.size w V) := low_trans (((Below.refl _ _).alloc (Nat.le_refl _) _).alloc (by simp) _) hV
  have hs0 : w.heap.size < V.heap.size := (Array.getElem?_eq_some_iff.1 c0).1
  have hs1 : w.heap.size + 1 < V.heap.size := (Array.getElem?_eq_some_iff.1 c1).1
  clear hV
  have s0 := cell_h (k := 0) c0 rfl
  have s1 := cell_h (k := 1) c0 rfl
  have s2 := cell_h (k := 2) c0 rfl
  have s3 := cell_h (k := 3) c0 rfl
  have s4 := cell_h (k := 4) c0 rfl
  have s5 := cell_h (k := 5) c0 rfl
  have s6 := cell_h (k := 6) c0 rfl
  have s7 := cell_h (k := 7) c0 rfl
  clear HC
  go_wp2_with fail
  refine (HS.out _).mono ?_
  rintro e V2 ⟨rfl, hV⟩
  clear s0 s1 s2 s3 s4 s5 s6 s7
  have C0 := Lib.hid ((hV.block _ hs0).trans c0)
  have C1 := Lib.hid ((hV.block _ hs1).trans c1)
  have HU := Lib.hid (low_trans HV.out hV)
  clear hV c0 c1 HV hs0 hs1
  have c0 := C0.out
  have c1 := C1.out
  have HV := HU
  have hs0 : w.heap.size < V2.heap.size := (Array.getElem?_eq_some_iff.1 c0).1
  have hs1 : w.heap.size + 1 < V2.heap.size := (Array.getElem?_eq_some_iff.1 c1).1
  clear C0 C1 HU
  have s0 := cell_h (k := 0) c0 rfl
  have s1 := cell_h (k := 1) c0 rfl
  have s2 := cell_h (k := 2) c0 rfl
  have s3 := cell_h (k := 3) c0 rfl
  have s4 := cell_h (k := 4) c0 rfl
  have s5 := cell_h (k := 5) c0 rfl
  have s6 := cell_h (k := 6) c0 rfl
  have s7 := cell_h (k := 7) c0 rfl
  clear HS
  have f0 := fz_h c0
  go_wp2_with fail
  refine (HX.out _).mono ?_
  rintro e V3 ⟨rfl, hV⟩
  clear s0 s1 s2 s3 s4 s5 s6 s7
  have C0 := Lib.hid ((hV.block _ hs0).trans c0)
  have C1 := Lib.hid ((hV.block _ hs1).trans c1)
  have HU := Lib.hid (low_trans HV.out hV)
  clear hV c0 c1 HV hs0 hs1
  have c0 := C0.out
  have c1 := C1.out
  have HV := HU
  have hs0 : w.heap.size < V3.heap.size := (Array.getElem?_eq_some_iff.1 c0).1
  have hs1 : w.heap.size + 1 < V3.heap.size := (Array.getElem?_eq_some_iff.1 c1).1
  clear C0 C1 HU
  have s0 := cell_h (k := 0) c0 rfl
  have s1 := cell_h (k := 1) c0 rfl
  have s2 := cell_h (k := 2) c0 rfl
  have s3 := cell_h (k := 3) c0 rfl
  have s4 := cell_h (k := 4) c0 rfl
  have s5 := cell_h (k := 5) c0 rfl
  have s6 := cell_h (k := 6) c0 rfl
  have s7 := cell_h (k := 7) c0 rfl
  clear HX f0
  have f0 := fz_h c0
  have d0 := cell_h (k := 0) c1 rfl
  have d1 := cell_h (k := 1) c1 rfl
  have d2 := cell_h (k := 2) c1 rfl
  have d3 := cell_h (k := 3) c1 rfl
  have d4 := cell_h (k := 4) c1 rfl
  have d5 := cell_h (k := 5) c1 rfl
  have d6 := cell_h (k := 6) c1 rfl
  have d7 := cell_h (k := 7) c1 rfl
  have f1 := fz_h c1
  go_wp2_with fail
  refine bodyPost_ret (v := .tuple #[.agg #[.bool _, .bool _, .bool _, .bool _, .bool _, .int .i64 _, .int .i64 _, .int .i64 _], .int .i64 _]) (by simp [results, Tryz.f10, go_sem, d0, d1, d2, d3, d4, d5, d6, d7, Tp.none]) rfl ⟨rfl, ?_⟩
  iterate 16 refine Below.setCell ?_ (by simp) _
  exact HV.out
set_option maxHeartbeats 16000000 in
theorem rstep_v0y (w : World) (t : Tp) (h : t.err = 0) (h2 : t.safe = true) (ha : t.alw 0 = true) : Calls Tryz.prog 10 #[t.val, .int .i64 0] w fun e w' => e = .returned (stepV (t.beh 0, 0)) ∧ Below w.heap.size w w' := by
  have HC : Hid (∀ W, Calls Tryz.prog 14 #[t.val] W fun e w' => e = .returned (.int .i64 0) ∧ Below W.heap.size W w') := fun W => by have q := rcheckTrap_of W t; rwa [h] at q
  have HS : Hid (∀ W, Calls Tryz.prog 16 #[t.val] W fun e w' => e = .returned (.bool true) ∧ Below W.heap.size W w') := fun W => by have q := rsafe_of W t; rwa [h2] at q
  have HX : Hid (∀ W, Calls Tryz.prog 47 #[t.val, .int .i64 0, .bool true] W fun e w' => e = .returned (stepB (t.beh 0, true)) ∧ Below W.heap.size W w') := fun W => by have q := valve_of W t 0 (by decide) 0 true (by decide) (by decide); rwa [ha, if_pos rfl] at q
  obtain ⟨x, hx⟩ : ∃ x, t.beh 0 = x := ⟨_, rfl⟩
  rw [hx] at HX ⊢
  clear hx
  obtain ⟨m, k, v, u, d, p, g, i⟩ := t
  clear ha
  dsimp only [Tp.val, stepB] at HC HS HX ⊢
  clear h h2
  go_enter Tryz.func10, Tryz.ntmps10
  go_wp2_with fail
  refine (HC.out _).mono ?_
  rintro e V ⟨rfl, hV⟩
  have c0 := (hV.block _ (by simp; omega)).trans (al_old (new_heap w _) _)
  have c1 := (hV.block _ (by simp)).trans (al_1 w _ _)
  have HV : Hid (Below w.heap.size w V) := low_trans (((Below.refl _ _).alloc (Nat.le_refl _) _).alloc (by simp) _) hV
  have hs0 : w.heap.size < V.heap.size := (Array.getElem?_eq_some_iff.1 c0).1
  have hs1 : w.heap.size + 1 < V.heap.size := (Array.getElem?_eq_some_iff.1 c1).1
  clear hV
  have s0 := cell_h (k := 0) c0 rfl
  have s1 := cell_h (k := 1) c0 rfl
  have s2 := cell_h (k := 2) c0 rfl
  have s3 := cell_h (k := 3) c0 rfl
  have s4 := cell_h (k := 4) c0 rfl
  have s5 := cell_h (k := 5) c0 rfl
  have s6 := cell_h (k := 6) c0 rfl
  have s7 := cell_h (k := 7) c0 rfl
  clear HC
  go_wp2_with fail
  refine (HS.out _).mono ?_
  rintro e V2 ⟨rfl, hV⟩
  clear s0 s1 s2 s3 s4 s5 s6 s7
  have C0 := Lib.hid ((hV.block _ hs0).trans c0)
  have C1 := Lib.hid ((hV.block _ hs1).trans c1)
  have HU := Lib.hid (low_trans HV.out hV)
  clear hV c0 c1 HV hs0 hs1
  have c0 := C0.out
  have c1 := C1.out
  have HV := HU
  have hs0 : w.heap.size < V2.heap.size := (Array.getElem?_eq_some_iff.1 c0).1
  have hs1 : w.heap.size + 1 < V2.heap.size := (Array.getElem?_eq_some_iff.1 c1).1
  clear C0 C1 HU
  have s0 := cell_h (k := 0) c0 rfl
  have s1 := cell_h (k := 1) c0 rfl
  have s2 := cell_h (k := 2) c0 rfl
  have s3 := cell_h (k := 3) c0 rfl
  have s4 := cell_h (k := 4) c0 rfl
  have s5 := cell_h (k := 5) c0 rfl
  have s6 := cell_h (k := 6) c0 rfl
  have s7 := cell_h (k := 7) c0 rfl
  clear HS
  have f0 := fz_h c0
  go_wp2_with fail
  refine (HX.out _).mono ?_
  rintro e V3 ⟨rfl, hV⟩
  clear s0 s1 s2 s3 s4 s5 s6 s7
  have C0 := Lib.hid ((hV.block _ hs0).trans c0)
  have C1 := Lib.hid ((hV.block _ hs1).trans c1)
  have HU := Lib.hid (low_trans HV.out hV)
  clear hV c0 c1 HV hs0 hs1
  have c0 := C0.out
  have c1 := C1.out
  have HV := HU
  have hs0 : w.heap.size < V3.heap.size := (Array.getElem?_eq_some_iff.1 c0).1
  have hs1 : w.heap.size + 1 < V3.heap.size := (Array.getElem?_eq_some_iff.1 c1).1
  clear C0 C1 HU
  have s0 := cell_h (k := 0) c0 rfl
  have s1 := cell_h (k := 1) c0 rfl
  have s2 := cell_h (k := 2) c0 rfl
  have s3 := cell_h (k := 3) c0 rfl
  have s4 := cell_h (k := 4) c0 rfl
  have s5 := cell_h (k := 5) c0 rfl
  have s6 := cell_h (k := 6) c0 rfl
  have s7 := cell_h (k := 7) c0 rfl
  clear HX f0
  have f0 := fz_h c0
  have d0 := cell_h (k := 0) c1 rfl
  have d1 := cell_h (k := 1) c1 rfl
  have d2 := cell_h (k := 2) c1 rfl
  have d3 := cell_h (k := 3) c1 rfl
  have d4 := cell_h (k := 4) c1 rfl
  have d5 := cell_h (k := 5) c1 rfl
  have d6 := cell_h (k := 6) c1 rfl
  have d7 := cell_h (k := 7) c1 rfl
  have f1 := fz_h c1
  go_wp2_with fail
  refine bodyPost_ret (v := .tuple #[.agg #[.bool _, .bool _, .bool _, .bool _, .bool _, .int .i64 _, .int .i64 _, .int .i64 _], .int .i64 _]) (by simp [results, Tryz.f10, go_sem, d0, d1, d2, d3, d4, d5, d6, d7]) rfl ⟨rfl, ?_⟩
  iterate 16 refine Below.setCell ?_ (by simp) _
  exact HV.out
set_option maxHeartbeats 16000000 in
theorem rstep_v1n (w : World) (t : Tp) (h : t.err = 0) (h2 : t.safe = true) (ha : t.alw 1 = false) : Calls Tryz.prog 10 #[t.val, .int .i64 1] w fun e w' => e = .returned (stepV (.none, 100)) ∧ Below w.heap.size w w' := by
  have HC : Hid (∀ W, Calls Tryz.prog 14 #[t.val] W fun e w' => e = .returned (.int .i64 0) ∧ Below W.heap.size W w') := fun W => by have q := rcheckTrap_of W t; rwa [h] at q
  have HS : Hid (∀ W, Calls Tryz.prog 16 #[t.val] W fun e w' => e = .returned (.bool true) ∧ Below W.heap.size W w') := fun W => by have q := rsafe_of W t; rwa [h2] at q
  have HX : Hid (∀ W, Calls Tryz.prog 47 #[t.val, .int .i64 0, .bool false] W fun e w' => e = .returned (stepB (t, false)) ∧ Below W.heap.size W w') := fun W => by have q := valve_of W t 1 (by decide) 0 false (by decide) (by decide); rwa [ha, if_neg (by decide)] at q
  obtain ⟨m, k, v, u, d, p, g, i⟩ := t
  clear ha
  dsimp only [Tp.val, stepB] at HC HS HX ⊢
  clear h h2
  go_enter Tryz.func10, Tryz.ntmps10
  go_wp2_with fail
  refine (HC.out _).mono ?_
  rintro e V ⟨rfl, hV⟩
  have c0 := (hV.block _ (by simp; omega)).trans (al_old (new_heap w _) _)
  have c1 := (hV.block _ (by simp)).trans (al_1 w _ _)
  have HV : Hid (Below w.heap.size w V) := low_trans (((Below.refl _ _).alloc (Nat.le_refl _) _).alloc (by simp) _) hV
  have hs0 : w.heap.size < V.heap.size := (Array.getElem?_eq_some_iff.1 c0).1
  have hs1 : w.heap.size + 1 < V.heap.size := (Array.getElem?_eq_some_iff.1 c1).1
  clear hV
  have s0 := cell_h (k := 0) c0 rfl
  have s1 := cell_h (k := 1) c0 rfl
  have s2 := cell_h (k := 2) c0 rfl
  have s3 := cell_h (k := 3) c0 rfl
  have s4 := cell_h (k := 4) c0 rfl
  have s5 := cell_h (k := 5) c0 rfl
  have s6 := cell_h (k := 6) c0 rfl
  have s7 := cell_h (k := 7) c0 rfl
  clear HC
  go_wp2_with fail
  refine (HS.out _).mono ?_
  rintro e V2 ⟨rfl, hV⟩
  clear s0 s1 s2 s3 s4 s5 s6 s7
  have C0 := Lib.hid ((hV.block _ hs0).trans c0)
  have C1 := Lib.hid ((hV.block _ hs1).trans c1)
  have HU := Lib.hid (low_trans HV.out hV)
  clear hV c0 c1 HV hs0 hs1
  have c0 := C0.out
  have c1 := C1.out
  have HV := HU
  have hs0 : w.heap.size < V2.heap.size := (Array.getElem?_eq_some_iff.1 c0).1
  have hs1 : w.heap.size + 1 < V2.heap.size := (Array.getElem?_eq_some_iff.1 c1).1
  clear C0 C1 HU
  have s0 := cell_h (k := 0) c0 rfl
  have s1 := cell_h (k := 1) c0 rfl
  have s2 := cell_h (k := 2) c0 rfl
  have s3 := cell_h (k := 3) c0 rfl
  have s4 := cell_h (k := 4) c0 rfl
  have s5 := cell_h (k := 5) c0 rfl
  have s6 := cell_h (k := 6) c0 rfl
  have s7 := cell_h (k := 7) c0 rfl
  clear HS
  have f0 := fz_h c0
  go_wp2_with fail
  refine (HX.out _).mono ?_
  rintro e V3 ⟨rfl, hV⟩
  clear s0 s1 s2 s3 s4 s5 s6 s7
  have C0 := Lib.hid ((hV.block _ hs0).trans c0)
  have C1 := Lib.hid ((hV.block _ hs1).trans c1)
  have HU := Lib.hid (low_trans HV.out hV)
  clear hV c0 c1 HV hs0 hs1
  have c0 := C0.out
  have c1 := C1.out
  have HV := HU
  have hs0 : w.heap.size < V3.heap.size := (Array.getElem?_eq_some_iff.1 c0).1
  have hs1 : w.heap.size + 1 < V3.heap.size := (Array.getElem?_eq_some_iff.1 c1).1
  clear C0 C1 HU
  have s0 := cell_h (k := 0) c0 rfl
  have s1 := cell_h (k := 1) c0 rfl
  have s2 := cell_h (k := 2) c0 rfl
  have s3 := cell_h (k := 3) c0 rfl
  have s4 := cell_h (k := 4) c0 rfl
  have s5 := cell_h (k := 5) c0 rfl
  have s6 := cell_h (k := 6) c0 rfl
  have s7 := cell_h (k := 7) c0 rfl
  clear HX f0
  have f0 := fz_h c0
  have d0 := cell_h (k := 0) c1 rfl
  have d1 := cell_h (k := 1) c1 rfl
  have d2 := cell_h (k := 2) c1 rfl
  have d3 := cell_h (k := 3) c1 rfl
  have d4 := cell_h (k := 4) c1 rfl
  have d5 := cell_h (k := 5) c1 rfl
  have d6 := cell_h (k := 6) c1 rfl
  have d7 := cell_h (k := 7) c1 rfl
  have f1 := fz_h c1
  go_wp2_with fail
  refine bodyPost_ret (v := .tuple #[.agg #[.bool _, .bool _, .bool _, .bool _, .bool _, .int .i64 _, .int .i64 _, .int .i64 _], .int .i64 _]) (by simp [results, Tryz.f10, go_sem, d0, d1, d2, d3, d4, d5, d6, d7, Tp.none]) rfl ⟨rfl, ?_⟩
  iterate 16 refine Below.setCell ?_ (by simp) _
  exact HV.out
set_option maxHeartbeats 16000000 in
theorem rstep_v1y (w : World) (t : Tp) (h : t.err = 0) (h2 : t.safe = true) (ha : t.alw 1 = true) : Calls Tryz.prog 10 #[t.val, .int .i64 1] w fun e w' => e = .returned (stepV (t.beh 1, 0)) ∧ Below w.heap.size w w' := by
  have HC : Hid (∀ W, Calls Tryz.prog 14 #[t.val] W fun e w' => e = .returned (.int .i64 0) ∧ Below W.heap.size W w') := fun W => by have q := rcheckTrap_of W t; rwa [h] at q
  have HS : Hid (∀ W, Calls Tryz.prog 16 #[t.val] W fun e w' => e = .returned (.bool true) ∧ Below W.heap.size W w') := fun W => by have q := rsafe_of W t; rwa [h2] at q
  have HX : Hid (∀ W, Calls Tryz.prog 47 #[t.val, .int .i64 0, .bool false] W fun e w' => e = .returned (stepB (t.beh 1, true)) ∧ Below W.heap.size W w') := fun W => by have q := valve_of W t 1 (by decide) 0 false (by decide) (by decide); rwa [ha, if_pos rfl] at q
  obtain ⟨x, hx⟩ : ∃ x, t.beh 1 = x := ⟨_, rfl⟩
  rw [hx] at HX ⊢
  clear hx
  obtain ⟨m, k, v, u, d, p, g, i⟩ := t
  clear ha
  dsimp only [Tp.val, stepB] at HC HS HX ⊢
  clear h h2
  go_enter Tryz.func10, Tryz.ntmps10
  go_wp2_with fail
  refine (HC.out _).mono ?_
  rintro e V ⟨rfl, hV⟩
  have c0 := (hV.block _ (by simp; omega)).trans (al_old (new_heap w _) _)
  have c1 := (hV.block _ (by simp)).trans (al_1 w _ _)
  have HV : Hid (Below w.heap.size w V) := low_trans (((Below.refl _ _).alloc (Nat.le_refl _) _).alloc (by simp) _) hV
  have hs0 : w.heap.size < V.heap.size := (Array.getElem?_eq_some_iff.1 c0).1
  have hs1 : w.heap.size + 1 < V.heap.size := (Array.getElem?_eq_some_iff.1 c1).1
  clear hV
  have s0 := cell_h (k := 0) c0 rfl
  have s1 := cell_h (k := 1) c0 rfl
  have s2 := cell_h (k := 2) c0 rfl
  have s3 := cell_h (k := 3) c0 rfl
  have s4 := cell_h (k := 4) c0 rfl
  have s5 := cell_h (k := 5) c0 rfl
  have s6 := cell_h (k := 6) c0 rfl
  have s7 := cell_h (k := 7) c0 rfl
  clear HC
  go_wp2_with fail
  refine (HS.out _).mono ?_
  rintro e V2 ⟨rfl, hV⟩
  clear s0 s1 s2 s3 s4 s5 s6 s7
  have C0 := Lib.hid ((hV.block _ hs0).trans c0)
  have C1 := Lib.hid ((hV.block _ hs1).trans c1)
  have HU := Lib.hid (low_trans HV.out hV)
  clear hV c0 c1 HV hs0 hs1
  have c0 := C0.out
  have c1 := C1.out
  have HV := HU
  have hs0 : w.heap.size < V2.heap.size := (Array.getElem?_eq_some_iff.1 c0).1
  have hs1 : w.heap.size + 1 < V2.heap.size := (Array.getElem?_eq_some_iff.1 c1).1
  clear C0 C1 HU
  have s0 := cell_h (k := 0) c0 rfl
  have s1 := cell_h (k := 1) c0 rfl
  have s2 := cell_h (k := 2) c0 rfl
  have s3 := cell_h (k := 3) c0 rfl
  have s4 := cell_h (k := 4) c0 rfl
  have s5 := cell_h (k := 5) c0 rfl
  have s6 := cell_h (k := 6) c0 rfl
  have s7 := cell_h (k := 7) c0 rfl
  clear HS
  have f0 := fz_h c0
  go_wp2_with fail
  refine (HX.out _).mono ?_
  rintro e V3 ⟨rfl, hV⟩
  clear s0 s1 s2 s3 s4 s5 s6 s7
  have C0 := Lib.hid ((hV.block _ hs0).trans c0)
  have C1 := Lib.hid ((hV.block _ hs1).trans c1)
  have HU := Lib.hid (low_trans HV.out hV)
  clear hV c0 c1 HV hs0 hs1
  have c0 := C0.out
  have c1 := C1.out
  have HV := HU
  have hs0 : w.heap.size < V3.heap.size := (Array.getElem?_eq_some_iff.1 c0).1
  have hs1 : w.heap.size + 1 < V3.heap.size := (Array.getElem?_eq_some_iff.1 c1).1
  clear C0 C1 HU
  have s0 := cell_h (k := 0) c0 rfl
  have s1 := cell_h (k := 1) c0 rfl
  have s2 := cell_h (k := 2) c0 rfl
  have s3 := cell_h (k := 3) c0 rfl
  have s4 := cell_h (k := 4) c0 rfl
  have s5 := cell_h (k := 5) c0 rfl
  have s6 := cell_h (k := 6) c0 rfl
  have s7 := cell_h (k := 7) c0 rfl
  clear HX f0
  have f0 := fz_h c0
  have d0 := cell_h (k := 0) c1 rfl
  have d1 := cell_h (k := 1) c1 rfl
  have d2 := cell_h (k := 2) c1 rfl
  have d3 := cell_h (k := 3) c1 rfl
  have d4 := cell_h (k := 4) c1 rfl
  have d5 := cell_h (k := 5) c1 rfl
  have d6 := cell_h (k := 6) c1 rfl
  have d7 := cell_h (k := 7) c1 rfl
  have f1 := fz_h c1
  go_wp2_with fail
  refine bodyPost_ret (v := .tuple #[.agg #[.bool _, .bool _, .bool _, .bool _, .bool _, .int .i64 _, .int .i64 _, .int .i64 _], .int .i64 _]) (by simp [results, Tryz.f10, go_sem, d0, d1, d2, d3, d4, d5, d6, d7]) rfl ⟨rfl, ?_⟩
  iterate 16 refine Below.setCell ?_ (by simp) _
  exact HV.out
set_option maxHeartbeats 16000000 in
theorem rstep_v2n (w : World) (t : Tp) (h : t.err = 0) (h2 : t.safe = true) (ha : t.alw 2 = false) : Calls Tryz.prog 10 #[t.val, .int .i64 2] w fun e w' => e = .returned (stepV (.none, 100)) ∧ Below w.heap.size w w' := by
  have HC : Hid (∀ W, Calls Tryz.prog 14 #[t.val] W fun e w' => e = .returned (.int .i64 0) ∧ Below W.heap.size W w') := fun W => by have q := rcheckTrap_of W t; rwa [h] at q
  have HS : Hid (∀ W, Calls Tryz.prog 16 #[t.val] W fun e w' => e = .returned (.bool true) ∧ Below W.heap.size W w') := fun W => by have q := rsafe_of W t; rwa [h2] at q
  have HX : Hid (∀ W, Calls Tryz.prog 47 #[t.val, .int .i64 1, .bool true] W fun e w' => e = .returned (stepB (t, false)) ∧ Below W.heap.size W w') := fun W => by have q := valve_of W t 2 (by decide) 1 true (by decide) (by decide); rwa [ha, if_neg (by decide)] at q
  obtain ⟨m, k, v, u, d, p, g, i⟩ := t
  clear ha
  dsimp only [Tp.val, stepB] at HC HS HX ⊢
  clear h h2
  go_enter Tryz.func10, Tryz.ntmps10
  go_wp2_with fail
  refine (HC.out _).mono ?_
  rintro e V ⟨rfl, hV⟩
  have c0 := (hV.block _ (by simp; omega)).trans (al_old (new_heap w _) _)
  have c1 := (hV.block _ (by simp)).trans (al_1 w _ _)
  have HV : Hid (Below w.heap.size w V) := low_trans (((Below.refl _ _).alloc (Nat.le_refl _) _).alloc (by simp) _) hV
  have hs0 : w.heap.size < V.heap.size := (Array.getElem?_eq_some_iff.1 c0).1
  have hs1 : w.heap.size + 1 < V.heap.size := (Array.getElem?_eq_some_iff.1 c1).1
  clear hV
  have s0 := cell_h (k := 0) c0 rfl
  have s1 := cell_h (k := 1) c0 rfl
  have s2 := cell_h (k := 2) c0 rfl
  have s3 := cell_h (k := 3) c0 rfl
  have s4 := cell_h (k := 4) c0 rfl
  have s5 := cell_h (k := 5) c0 rfl
  have s6 := cell_h (k := 6) c0 rfl
  have s7 := cell_h (k := 7) c0 rfl
  clear HC
  go_wp2_with fail
  refine (HS.out _).mono ?_
  rintro e V2 ⟨rfl, hV⟩
  clear s0 s1 s2 s3 s4 s5 s6 s7
  have C0 := Lib.hid ((hV.block _ hs0).trans c0)
  have C1 := Lib.hid ((hV.block _ hs1).trans c1)
  have HU := Lib.hid (low_trans HV.out hV)
  clear hV c0 c1 HV hs0 hs1
  have c0 := C0.out
  have c1 := C1.out
  have HV := HU
  have hs0 : w.heap.size < V2.heap.size := (Array.getElem?_eq_some_iff.1 c0).1
  have hs1 : w.heap.size + 1 < V2.heap.size := (Array.getElem?_eq_some_iff.1 c1).1
  clear C0 C1 HU
  have s0 := cell_h (k := 0) c0 rfl
  have s1 := cell_h (k := 1) c0 rfl
  have s2 := cell_h (k := 2) c0 rfl
  have s3 := cell_h (k := 3) c0 rfl
  have s4 := cell_h (k := 4) c0 rfl
  have s5 := cell_h (k := 5) c0 rfl
  have s6 := cell_h (k := 6) c0 rfl
  have s7 := cell_h (k := 7) c0 rfl
  clear HS
  have f0 := fz_h c0
  go_wp2_with fail
  refine (HX.out _).mono ?_
  rintro e V3 ⟨rfl, hV⟩
  clear s0 s1 s2 s3 s4 s5 s6 s7
  have C0 := Lib.hid ((hV.block _ hs0).trans c0)
  have C1 := Lib.hid ((hV.block _ hs1).trans c1)
  have HU := Lib.hid (low_trans HV.out hV)
  clear hV c0 c1 HV hs0 hs1
  have c0 := C0.out
  have c1 := C1.out
  have HV := HU
  have hs0 : w.heap.size < V3.heap.size := (Array.getElem?_eq_some_iff.1 c0).1
  have hs1 : w.heap.size + 1 < V3.heap.size := (Array.getElem?_eq_some_iff.1 c1).1
  clear C0 C1 HU
  have s0 := cell_h (k := 0) c0 rfl
  have s1 := cell_h (k := 1) c0 rfl
  have s2 := cell_h (k := 2) c0 rfl
  have s3 := cell_h (k := 3) c0 rfl
  have s4 := cell_h (k := 4) c0 rfl
  have s5 := cell_h (k := 5) c0 rfl
  have s6 := cell_h (k := 6) c0 rfl
  have s7 := cell_h (k := 7) c0 rfl
  clear HX f0
  have f0 := fz_h c0
  have d0 := cell_h (k := 0) c1 rfl
  have d1 := cell_h (k := 1) c1 rfl
  have d2 := cell_h (k := 2) c1 rfl
  have d3 := cell_h (k := 3) c1 rfl
  have d4 := cell_h (k := 4) c1 rfl
  have d5 := cell_h (k := 5) c1 rfl
  have d6 := cell_h (k := 6) c1 rfl
  have d7 := cell_h (k := 7) c1 rfl
  have f1 := fz_h c1
  go_wp2_with fail
  refine bodyPost_ret (v := .tuple #[.agg #[.bool _, .bool _, .bool _, .bool _, .bool _, .int .i64 _, .int .i64 _, .int .i64 _], .int .i64 _]) (by simp [results, Tryz.f10, go_sem, d0, d1, d2, d3, d4, d5, d6, d7, Tp.none]) rfl ⟨rfl, ?_⟩
  iterate 16 refine Below.setCell ?_ (by simp) _
  exact HV.out
set_option maxHeartbeats 16000000 in
theorem rstep_v2y (w : World) (t : Tp) (h : t.err = 0) (h2 : t.safe = true) (ha : t.alw 2 = true) : Calls Tryz.prog 10 #[t.val, .int .i64 2] w fun e w' => e = .returned (stepV (t.beh 2, 0)) ∧ Below w.heap.size w w' := by
  have HC : Hid (∀ W, Calls Tryz.prog 14 #[t.val] W fun e w' => e = .returned (.int .i64 0) ∧ Below W.heap.size W w') := fun W => by have q := rcheckTrap_of W t; rwa [h] at q
  have HS : Hid (∀ W, Calls Tryz.prog 16 #[t.val] W fun e w' => e = .returned (.bool true) ∧ Below W.heap.size W w') := fun W => by have q := rsafe_of W t; rwa [h2] at q
  have HX : Hid (∀ W, Calls Tryz.prog 47 #[t.val, .int .i64 1, .bool true] W fun e w' => e = .returned (stepB (t.beh 2, true)) ∧ Below W.heap.size W w') := fun W => by have q := valve_of W t 2 (by decide) 1 true (by decide) (by decide); rwa [ha, if_pos rfl] at q
  obtain ⟨x, hx⟩ : ∃ x, t.beh 2 = x := ⟨_, rfl⟩
  rw [hx] at HX ⊢
  clear hx
  obtain ⟨m, k, v, u, d, p, g, i⟩ := t
  clear ha
  dsimp only [Tp.val, stepB] at HC HS HX ⊢
  clear h h2
  go_enter Tryz.func10, Tryz.ntmps10
  go_wp2_with fail
  refine (HC.out _).mono ?_
  rintro e V ⟨rfl, hV⟩
  have c0 := (hV.block _ (by simp; omega)).trans (al_old (new_heap w _) _)
  have c1 := (hV.block _ (by simp)).trans (al_1 w _ _)
  have HV : Hid (Below w.heap.size w V) := low_trans (((Below.refl _ _).alloc (Nat.le_refl _) _).alloc (by simp) _) hV
  have hs0 : w.heap.size < V.heap.size := (Array.getElem?_eq_some_iff.1 c0).1
  have hs1 : w.heap.size + 1 < V.heap.size := (Array.getElem?_eq_some_iff.1 c1).1
  clear hV
  have s0 := cell_h (k := 0) c0 rfl
  have s1 := cell_h (k := 1) c0 rfl
  have s2 := cell_h (k := 2) c0 rfl
  have s3 := cell_h (k := 3) c0 rfl
  have s4 := cell_h (k := 4) c0 rfl
  have s5 := cell_h (k := 5) c0 rfl
  have s6 := cell_h (k := 6) c0 rfl
  have s7 := cell_h (k := 7) c0 rfl
  clear HC
  go_wp2_with fail
  refine (HS.out _).mono ?_
  rintro e V2 ⟨rfl, hV⟩
  clear s0 s1 s2 s3 s4 s5 s6 s7
  have C0 := Lib.hid ((hV.block _ hs0).trans c0)
  have C1 := Lib.hid ((hV.block _ hs1).trans c1)
  have HU := Lib.hid (low_trans HV.out hV)
  clear hV c0 c1 HV hs0 hs1
  have c0 := C0.out
  have c1 := C1.out
  have HV := HU
  have hs0 : w.heap.size < V2.heap.size := (Array.getElem?_eq_some_iff.1 c0).1
  have hs1 : w.heap.size + 1 < V2.heap.size := (Array.getElem?_eq_some_iff.1 c1).1
  clear C0 C1 HU
  have s0 := cell_h (k := 0) c0 rfl
  have s1 := cell_h (k := 1) c0 rfl
  have s2 := cell_h (k := 2) c0 rfl
  have s3 := cell_h (k := 3) c0 rfl
  have s4 := cell_h (k := 4) c0 rfl
  have s5 := cell_h (k := 5) c0 rfl
  have s6 := cell_h (k := 6) c0 rfl
  have s7 := cell_h (k := 7) c0 rfl
  clear HS
  have f0 := fz_h c0
  go_wp2_with fail
  refine (HX.out _).mono ?_
  rintro e V3 ⟨rfl, hV⟩
  clear s0 s1 s2 s3 s4 s5 s6 s7
  have C0 := Lib.hid ((hV.block _ hs0).trans c0)
  have C1 := Lib.hid ((hV.block _ hs1).trans c1)
  have HU := Lib.hid (low_trans HV.out hV)
  clear hV c0 c1 HV hs0 hs1
  have c0 := C0.out
  have c1 := C1.out
  have HV := HU
  have hs0 : w.heap.size < V3.heap.size := (Array.getElem?_eq_some_iff.1 c0).1
  have hs1 : w.heap.size + 1 < V3.heap.size := (Array.getElem?_eq_some_iff.1 c1).1
  clear C0 C1 HU
  have s0 := cell_h (k := 0) c0 rfl
  have s1 := cell_h (k := 1) c0 rfl
  have s2 := cell_h (k := 2) c0 rfl
  have s3 := cell_h (k := 3) c0 rfl
  have s4 := cell_h (k := 4) c0 rfl
  have s5 := cell_h (k := 5) c0 rfl
  have s6 := cell_h (k := 6) c0 rfl
  have s7 := cell_h (k := 7) c0 rfl
  clear HX f0
  have f0 := fz_h c0
  have d0 := cell_h (k := 0) c1 rfl
  have d1 := cell_h (k := 1) c1 rfl
  have d2 := cell_h (k := 2) c1 rfl
  have d3 := cell_h (k := 3) c1 rfl
  have d4 := cell_h (k := 4) c1 rfl
  have d5 := cell_h (k := 5) c1 rfl
  have d6 := cell_h (k := 6) c1 rfl
  have d7 := cell_h (k := 7) c1 rfl
  have f1 := fz_h c1
  go_wp2_with fail
  refine bodyPost_ret (v := .tuple #[.agg #[.bool _, .bool _, .bool _, .bool _, .bool _, .int .i64 _, .int .i64 _, .int .i64 _], .int .i64 _]) (by simp [results, Tryz.f10, go_sem, d0, d1, d2, d3, d4, d5, d6, d7]) rfl ⟨rfl, ?_⟩
  iterate 16 refine Below.setCell ?_ (by simp) _
  exact HV.out
set_option maxHeartbeats 16000000 in
theorem rstep_v3n (w : World) (t : Tp) (h : t.err = 0) (h2 : t.safe = true) (ha : t.alw 3 = false) : Calls Tryz.prog 10 #[t.val, .int .i64 3] w fun e w' => e = .returned (stepV (.none, 100)) ∧ Below w.heap.size w w' := by
  have HC : Hid (∀ W, Calls Tryz.prog 14 #[t.val] W fun e w' => e = .returned (.int .i64 0) ∧ Below W.heap.size W w') := fun W => by have q := rcheckTrap_of W t; rwa [h] at q
  have HS : Hid (∀ W, Calls Tryz.prog 16 #[t.val] W fun e w' => e = .returned (.bool true) ∧ Below W.heap.size W w') := fun W => by have q := rsafe_of W t; rwa [h2] at q
  have HX : Hid (∀ W, Calls Tryz.prog 47 #[t.val, .int .i64 1, .bool false] W fun e w' => e = .returned (stepB (t, false)) ∧ Below W.heap.size W w') := fun W => by have q := valve_of W t 3 (by decide) 1 false (by decide) (by decide); rwa [ha, if_neg (by decide)] at q
  obtain ⟨m, k, v, u, d, p, g, i⟩ := t
  clear ha
  dsimp only [Tp.val, stepB] at HC HS HX ⊢
  clear h h2
  go_enter Tryz.func10, Tryz.ntmps10
  go_wp2_with fail
  refine (HC.out _).mono ?_
  rintro e V ⟨rfl, hV⟩
  have c0 := (hV.block _ (by simp; omega)).trans (al_old (new_heap w _) _)
  have c1 := (hV.block _ (by simp)).trans (al_1 w _ _)
  have HV : Hid (Below w.heap.size w V) := low_trans (((Below.refl _ _).alloc (Nat.le_refl _) _).alloc (by simp) _) hV
  have hs0 : w.heap.size < V.heap.size := (Array.getElem?_eq_some_iff.1 c0).1
  have hs1 : w.heap.size + 1 < V.heap.size := (Array.getElem?_eq_some_iff.1 c1).1
  clear hV
  have s0 := cell_h (k := 0) c0 rfl
  have s1 := cell_h (k := 1) c0 rfl
  have s2 := cell_h (k := 2) c0 rfl
  have s3 := cell_h (k := 3) c0 rfl
  have s4 := cell_h (k := 4) c0 rfl
  have s5 := cell_h (k := 5) c0 rfl
  have s6 := cell_h (k := 6) c0 rfl
  have s7 := cell_h (k := 7) c0 rfl
  clear HC
  go_wp2_with fail
  refine (HS.out _).mono ?_
  rintro e V2 ⟨rfl, hV⟩
  clear s0 s1 s2 s3 s4 s5 s6 s7
  have C0 := Lib.hid ((hV.block _ hs0).trans c0)
  have C1 := Lib.hid ((hV.block _ hs1).trans c1)
  have HU := Lib.hid (low_trans HV.out hV)
  clear hV c0 c1 HV hs0 hs1
  have c0 := C0.out
  have c1 := C1.out
  have HV := HU
  have hs0 : w.heap.size < V2.heap.size := (Array.getElem?_eq_some_iff.1 c0).1
  have hs1 : w.heap.size + 1 < V2.heap.size := (Array.getElem?_eq_some_iff.1 c1).1
  clear C0 C1 HU
  have s0 := cell_h (k := 0) c0 rfl
  have s1 := cell_h (k := 1) c0 rfl
  have s2 := cell_h (k := 2) c0 rfl
  have s3 := cell_h (k := 3) c0 rfl
  have s4 := cell_h (k := 4) c0 rfl
  have s5 := cell_h (k := 5) c0 rfl
  have s6 := cell_h (k := 6) c0 rfl
  have s7 := cell_h (k := 7) c0 rfl
  clear HS
  have f0 := fz_h c0
  go_wp2_with fail
  refine (HX.out _).mono ?_
  rintro e V3 ⟨rfl, hV⟩
  clear s0 s1 s2 s3 s4 s5 s6 s7
  have C0 := Lib.hid ((hV.block _ hs0).trans c0)
  have C1 := Lib.hid ((hV.block _ hs1).trans c1)
  have HU := Lib.hid (low_trans HV.out hV)
  clear hV c0 c1 HV hs0 hs1
  have c0 := C0.out
  have c1 := C1.out
  have HV := HU
  have hs0 : w.heap.size < V3.heap.size := (Array.getElem?_eq_some_iff.1 c0).1
  have hs1 : w.heap.size + 1 < V3.heap.size := (Array.getElem?_eq_some_iff.1 c1).1
  clear C0 C1 HU
  have s0 := cell_h (k := 0) c0 rfl
  have s1 := cell_h (k := 1) c0 rfl
  have s2 := cell_h (k := 2) c0 rfl
  have s3 := cell_h (k := 3) c0 rfl
  have s4 := cell_h (k := 4) c0 rfl
  have s5 := cell_h (k := 5) c0 rfl
  have s6 := cell_h (k := 6) c0 rfl
  have s7 := cell_h (k := 7) c0 rfl
  clear HX f0
  have f0 := fz_h c0
  have d0 := cell_h (k := 0) c1 rfl
  have d1 := cell_h (k := 1) c1 rfl
  have d2 := cell_h (k := 2) c1 rfl
  have d3 := cell_h (k := 3) c1 rfl
  have d4 := cell_h (k := 4) c1 rfl
  have d5 := cell_h (k := 5) c1 rfl
  have d6 := cell_h (k := 6) c1 rfl
  have d7 := cell_h (k := 7) c1 rfl
  have f1 := fz_h c1
  go_wp2_with fail
  refine bodyPost_ret (v := .tuple #[.agg #[.bool _, .bool _, .bool _, .bool _, .bool _, .int .i64 _, .int .i64 _, .int .i64 _], .int .i64 _]) (by simp [results, Tryz.f10, go_sem, d0, d1, d2, d3, d4, d5, d6, d7, Tp.none]) rfl ⟨rfl, ?_⟩
  iterate 16 refine Below.setCell ?_ (by simp) _
  exact HV.out
set_option maxHeartbeats 16000000 in
theorem rstep_v3y (w : World) (t : Tp) (h : t.err = 0) (h2 : t.safe = true) (ha : t.alw 3 = true) : Calls Tryz.prog 10 #[t.val, .int .i64 3] w fun e w' => e = .returned (stepV (t.beh 3, 0)) ∧ Below w.heap.size w w' := by
  have HC : Hid (∀ W, Calls Tryz.prog 14 #[t.val] W fun e w' => e = .returned (.int .i64 0) ∧ Below W.heap.size W w') := fun W => by have q := rcheckTrap_of W t; rwa [h] at q
  have HS : Hid (∀ W, Calls Tryz.prog 16 #[t.val] W fun e w' => e = .returned (.bool true) ∧ Below W.heap.size W w') := fun W => by have q := rsafe_of W t; rwa [h2] at q
  have HX : Hid (∀ W, Calls Tryz.prog 47 #[t.val, .int .i64 1, .bool false] W fun e w' => e = .returned (stepB (t.beh 3, true)) ∧ Below W.heap.size W w') := fun W => by have q := valve_of W t 3 (by decide) 1 false (by decide) (by decide); rwa [ha, if_pos rfl] at q
  obtain ⟨x, hx⟩ : ∃ x, t.beh 3 = x := ⟨_, rfl⟩
  rw [hx] at HX ⊢
  clear hx
  obtain ⟨m, k, v, u, d, p, g, i⟩ := t
  clear ha
  dsimp only [Tp.val, stepB] at HC HS HX ⊢
  clear h h2
  go_enter Tryz.func10, Tryz.ntmps10
  go_wp2_with fail
  refine (HC.out _).mono ?_
  rintro e V ⟨rfl, hV⟩
  have c0 := (hV.block _ (by simp; omega)).trans (al_old (new_heap w _) _)
  have c1 := (hV.block _ (by simp)).trans (al_1 w _ _)
  have HV : Hid (Below w.heap.size w V) := low_trans (((Below.refl _ _).alloc (Nat.le_refl _) _).alloc (by simp) _) hV
  have hs0 : w.heap.size < V.heap.size := (Array.getElem?_eq_some_iff.1 c0).1
  have hs1 : w.heap.size + 1 < V.heap.size := (Array.getElem?_eq_some_iff.1 c1).1
  clear hV
  have s0 := cell_h (k := 0) c0 rfl
  have s1 := cell_h (k := 1) c0 rfl
  have s2 := cell_h (k := 2) c0 rfl
  have s3 := cell_h (k := 3) c0 rfl
  have s4 := cell_h (k := 4) c0 rfl
  have s5 := cell_h (k := 5) c0 rfl
  have s6 := cell_h (k := 6) c0 rfl
  have s7 := cell_h (k := 7) c0 rfl
  clear HC
  go_wp2_with fail
  refine (HS.out _).mono ?_
  rintro e V2 ⟨rfl, hV⟩
  clear s0 s1 s2 s3 s4 s5 s6 s7
  have C0 := Lib.hid ((hV.block _ hs0).trans c0)
  have C1 := Lib.hid ((hV.block _ hs1).trans c1)
  have HU := Lib.hid (low_trans HV.out hV)
  clear hV c0 c1 HV hs0 hs1
  have c0 := C0.out
  have c1 := C1.out
  have HV := HU
  have hs0 : w.heap.size < V2.heap.size := (Array.getElem?_eq_some_iff.1 c0).1
  have hs1 : w.heap.size + 1 < V2.heap.size := (Array.getElem?_eq_some_iff.1 c1).1
  clear C0 C1 HU
  have s0 := cell_h (k := 0) c0 rfl
  have s1 := cell_h (k := 1) c0 rfl
  have s2 := cell_h (k := 2) c0 rfl
  have s3 := cell_h (k := 3) c0 rfl
  have s4 := cell_h (k := 4) c0 rfl
  have s5 := cell_h (k := 5) c0 rfl
  have s6 := cell_h (k := 6) c0 rfl
  have s7 := cell_h (k := 7) c0 rfl
  clear HS
  have f0 := fz_h c0
  go_wp2_with fail
  refine (HX.out _).mono ?_
  rintro e V3 ⟨rfl, hV⟩
  clear s0 s1 s2 s3 s4 s5 s6 s7
  have C0 := Lib.hid ((hV.block _ hs0).trans c0)
  have C1 := Lib.hid ((hV.block _ hs1).trans c1)
  have HU := Lib.hid (low_trans HV.out hV)
  clear hV c0 c1 HV hs0 hs1
  have c0 := C0.out
  have c1 := C1.out
  have HV := HU
  have hs0 : w.heap.size < V3.heap.size := (Array.getElem?_eq_some_iff.1 c0).1
  have hs1 : w.heap.size + 1 < V3.heap.size := (Array.getElem?_eq_some_iff.1 c1).1
  clear C0 C1 HU
  have s0 := cell_h (k := 0) c0 rfl
  have s1 := cell_h (k := 1) c0 rfl
  have s2 := cell_h (k := 2) c0 rfl
  have s3 := cell_h (k := 3) c0 rfl
  have s4 := cell_h (k := 4) c0 rfl
  have s5 := cell_h (k := 5) c0 rfl
  have s6 := cell_h (k := 6) c0 rfl
  have s7 := cell_h (k := 7) c0 rfl
  clear HX f0
  have f0 := fz_h c0
  have d0 := cell_h (k := 0) c1 rfl
  have d1 := cell_h (k := 1) c1 rfl
  have d2 := cell_h (k := 2) c1 rfl
  have d3 := cell_h (k := 3) c1 rfl
  have d4 := cell_h (k := 4) c1 rfl
  have d5 := cell_h (k := 5) c1 rfl
  have d6 := cell_h (k := 6) c1 rfl
  have d7 := cell_h (k := 7) c1 rfl
  have f1 := fz_h c1
  go_wp2_with fail
  refine bodyPost_ret (v := .tuple #[.agg #[.bool _, .bool _, .bool _, .bool _, .bool _, .int .i64 _, .int .i64 _, .int .i64 _], .int .i64 _]) (by simp [results, Tryz.f10, go_sem, d0, d1, d2, d3, d4, d5, d6, d7]) rfl ⟨rfl, ?_⟩
  iterate 16 refine Below.setCell ?_ (by simp) _
  exact HV.out
set_option maxHeartbeats 16000000 in
theorem rstep_v4n (w : World) (t : Tp) (h : t.err = 0) (h2 : t.safe = true) (ha : t.alw 4 = false) : Calls Tryz.prog 10 #[t.val, .int .i64 4] w fun e w' => e = .returned (stepV (.none, 100)) ∧ Below w.heap.size w w' := by
  have HC : Hid (∀ W, Calls Tryz.prog 14 #[t.val] W fun e w' => e = .returned (.int .i64 0) ∧ Below W.heap.size W w') := fun W => by have q := rcheckTrap_of W t; rwa [h] at q
  have HS : Hid (∀ W, Calls Tryz.prog 16 #[t.val] W fun e w' => e = .returned (.bool true) ∧ Below W.heap.size W w') := fun W => by have q := rsafe_of W t; rwa [h2] at q
  have HX : Hid (∀ W, Calls Tryz.prog 47 #[t.val, .int .i64 2, .bool true] W fun e w' => e = .returned (stepB (t, false)) ∧ Below W.heap.size W w') := fun W => by have q := valve_of W t 4 (by decide) 2 true (by decide) (by decide); rwa [ha, if_neg (by decide)] at q
  obtain ⟨m, k, v, u, d, p, g, i⟩ := t
  clear ha
  dsimp only [Tp.val, stepB] at HC HS HX ⊢
  clear h h2
  go_enter Tryz.func10, Tryz.ntmps10
  go_wp2_with fail
  refine (HC.out _).mono ?_
  rintro e V ⟨rfl, hV⟩
  have c0 := (hV.block _ (by simp; omega)).trans (al_old (new_heap w _) _)
  have c1 := (hV.block _ (by simp)).trans (al_1 w _ _)
  have HV : Hid (Below w.heap.size w V) := low_trans (((Below.refl _ _).alloc (Nat.le_refl _) _).alloc (by simp) _) hV
  have hs0 : w.heap.size < V.heap.size := (Array.getElem?_eq_some_iff.1 c0).1
  have hs1 : w.heap.size + 1 < V.heap.size := (Array.getElem?_eq_some_iff.1 c1).1
  clear hV
  have s0 := cell_h (k := 0) c0 rfl
  have s1 := cell_h (k := 1) c0 rfl
  have s2 := cell_h (k := 2) c0 rfl
  have s3 := cell_h (k := 3) c0 rfl
  have s4 := cell_h (k := 4) c0 rfl
  have s5 := cell_h (k := 5) c0 rfl
  have s6 := cell_h (k := 6) c0 rfl
  have s7 := cell_h (k := 7) c0 rfl
  clear HC
  go_wp2_with fail
  refine (HS.out _).mono ?_
  rintro e V2 ⟨rfl, hV⟩
  clear s0 s1 s2 s3 s4 s5 s6 s7
  have C0 := Lib.hid ((hV.block _ hs0).trans c0)
  have C1 := Lib.hid ((hV.block _ hs1).trans c1)
  have HU := Lib.hid (low_trans HV.out hV)
  clear hV c0 c1 HV hs0 hs1
  have c0 := C0.out
  have c1 := C1.out
  have HV := HU
  have hs0 : w.heap.size < V2.heap.size := (Array.getElem?_eq_some_iff.1 c0).1
  have hs1 : w.heap.size + 1 < V2.heap.size := (Array.getElem?_eq_some_iff.1 c1).1
  clear C0 C1 HU
  have s0 := cell_h (k := 0) c0 rfl
  have s1 := cell_h (k := 1) c0 rfl
  have s2 := cell_h (k := 2) c0 rfl
  have s3 := cell_h (k := 3) c0 rfl
  have s4 := cell_h (k := 4) c0 rfl
  have s5 := cell_h (k := 5) c0 rfl
  have s6 := cell_h (k := 6) c0 rfl
  have s7 := cell_h (k := 7) c0 rfl
  clear HS
  have f0 := fz_h c0
  go_wp2_with fail
  refine (HX.out _).mono ?_
  rintro e V3 ⟨rfl, hV⟩
  clear s0 s1 s2 s3 s4 s5 s6 s7
  have C0 := Lib.hid ((hV.block _ hs0).trans c0)
  have C1 := Lib.hid ((hV.block _ hs1).trans c1)
  have HU := Lib.hid (low_trans HV.out hV)
  clear hV c0 c1 HV hs0 hs1
  have c0 := C0.out
  have c1 := C1.out
  have HV := HU
  have hs0 : w.heap.size < V3.heap.size := (Array.getElem?_eq_some_iff.1 c0).1
  have hs1 : w.heap.size + 1 < V3.heap.size := (Array.getElem?_eq_some_iff.1 c1).1
  clear C0 C1 HU
  have s0 := cell_h (k := 0) c0 rfl
  have s1 := cell_h (k := 1) c0 rfl
  have s2 := cell_h (k := 2) c0 rfl
  have s3 := cell_h (k := 3) c0 rfl
  have s4 := cell_h (k := 4) c0 rfl
  have s5 := cell_h (k := 5) c0 rfl
  have s6 := cell_h (k := 6) c0 rfl
  have s7 := cell_h (k := 7) c0 rfl
  clear HX f0
  have f0 := fz_h c0
  have d0 := cell_h (k := 0) c1 rfl
  have d1 := cell_h (k := 1) c1 rfl
  have d2 := cell_h (k := 2) c1 rfl
  have d3 := cell_h (k := 3) c1 rfl
  have d4 := cell_h (k := 4) c1 rfl
  have d5 := cell_h (k := 5) c1 rfl
  have d6 := cell_h (k := 6) c1 rfl
  have d7 := cell_h (k := 7) c1 rfl
  have f1 := fz_h c1
  go_wp2_with fail
  refine bodyPost_ret (v := .tuple #[.agg #[.bool _, .bool _, .bool _, .bool _, .bool _, .int .i64 _, .int .i64 _, .int .i64 _], .int .i64 _]) (by simp [results, Tryz.f10, go_sem, d0, d1, d2, d3, d4, d5, d6, d7, Tp.none]) rfl ⟨rfl, ?_⟩
  iterate 16 refine Below.setCell ?_ (by simp) _
  exact HV.out
set_option maxHeartbeats 16000000 in
theorem rstep_v4y (w : World) (t : Tp) (h : t.err = 0) (h2 : t.safe = true) (ha : t.alw 4 = true) : Calls Tryz.prog 10 #[t.val, .int .i64 4] w fun e w' => e = .returned (stepV (t.beh 4, 0)) ∧ Below w.heap.size w w' := by
  have HC : Hid (∀ W, Calls Tryz.prog 14 #[t.val] W fun e w' => e = .returned (.int .i64 0) ∧ Below W.heap.size W w') := fun W => by have q := rcheckTrap_of W t; rwa [h] at q
  have HS : Hid (∀ W, Calls Tryz.prog 16 #[t.val] W fun e w' => e = .returned (.bool true) ∧ Below W.heap.size W w') := fun W => by have q := rsafe_of W t; rwa [h2] at q
  have HX : Hid (∀ W, Calls Tryz.prog 47 #[t.val, .int .i64 2, .bool true] W fun e w' => e = .returned (stepB (t.beh 4, true)) ∧ Below W.heap.size W w') := fun W => by have q := valve_of W t 4 (by decide) 2 true (by decide) (by decide); rwa [ha, if_pos rfl] at q
  obtain ⟨x, hx⟩ : ∃ x, t.beh 4 = x := ⟨_, rfl⟩
  rw [hx] at HX ⊢
  clear hx
  obtain ⟨m, k, v, u, d, p, g, i⟩ := t
  clear ha
  dsimp only [Tp.val, stepB] at HC HS HX ⊢
  clear h h2
  go_enter Tryz.func10, Tryz.ntmps10
  go_wp2_with fail
  refine (HC.out _).mono ?_
  rintro e V ⟨rfl, hV⟩
  have c0 := (hV.block _ (by simp; omega)).trans (al_old (new_heap w _) _)
  have c1 := (hV.block _ (by simp)).trans (al_1 w _ _)
  have HV : Hid (Below w.heap.size w V) := low_trans (((Below.refl _ _).alloc (Nat.le_refl _) _).alloc (by simp) _) hV
  have hs0 : w.heap.size < V.heap.size := (Array.getElem?_eq_some_iff.1 c0).1
  have hs1 : w.heap.size + 1 < V.heap.size := (Array.getElem?_eq_some_iff.1 c1).1
  clear hV
  have s0 := cell_h (k := 0) c0 rfl
  have s1 := cell_h (k := 1) c0 rfl
  have s2 := cell_h (k := 2) c0 rfl
  have s3 := cell_h (k := 3) c0 rfl
  have s4 := cell_h (k := 4) c0 rfl
  have s5 := cell_h (k := 5) c0 rfl
  have s6 := cell_h (k := 6) c0 rfl
  have s7 := cell_h (k := 7) c0 rfl
  clear HC
  go_wp2_with fail
  refine (HS.out _).mono ?_
  rintro e V2 ⟨rfl, hV⟩
  clear s0 s1 s2 s3 s4 s5 s6 s7
  have C0 := Lib.hid ((hV.block _ hs0).trans c0)
  have C1 := Lib.hid ((hV.block _ hs1).trans c1)
  have HU := Lib.hid (low_trans HV.out hV)
  clear hV c0 c1 HV hs0 hs1
  have c0 := C0.out
  have c1 := C1.out
  have HV := HU
  have hs0 : w.heap.size < V2.heap.size := (Array.getElem?_eq_some_iff.1 c0).1
  have hs1 : w.heap.size + 1 < V2.heap.size := (Array.getElem?_eq_some_iff.1 c1).1
  clear C0 C1 HU
  have s0 := cell_h (k := 0) c0 rfl
  have s1 := cell_h (k := 1) c0 rfl
  have s2 := cell_h (k := 2) c0 rfl
  have s3 := cell_h (k := 3) c0 rfl
  have s4 := cell_h (k := 4) c0 rfl
  have s5 := cell_h (k := 5) c0 rfl
  have s6 := cell_h (k := 6) c0 rfl
  have s7 := cell_h (k := 7) c0 rfl
  clear HS
  have f0 := fz_h c0
  go_wp2_with fail
  refine (HX.out _).mono ?_
  rintro e V3 ⟨rfl, hV⟩
  clear s0 s1 s2 s3 s4 s5 s6 s7
  have C0 := Lib.hid ((hV.block _ hs0).trans c0)
  have C1 := Lib.hid ((hV.block _ hs1).trans c1)
  have HU := Lib.hid (low_trans HV.out hV)
  clear hV c0 c1 HV hs0 hs1
  have c0 := C0.out
  have c1 := C1.out
  have HV := HU
  have hs0 : w.heap.size < V3.heap.size := (Array.getElem?_eq_some_iff.1 c0).1
  have hs1 : w.heap.size + 1 < V3.heap.size := (Array.getElem?_eq_some_iff.1 c1).1
  clear C0 C1 HU
  have s0 := cell_h (k := 0) c0 rfl
  have s1 := cell_h (k := 1) c0 rfl
  have s2 := cell_h (k := 2) c0 rfl
  have s3 := cell_h (k := 3) c0 rfl
  have s4 := cell_h (k := 4) c0 rfl
  have s5 := cell_h (k := 5) c0 rfl
  have s6 := cell_h (k := 6) c0 rfl
  have s7 := cell_h (k := 7) c0 rfl
  clear HX f0
  have f0 := fz_h c0
  have d0 := cell_h (k := 0) c1 rfl
  have d1 := cell_h (k := 1) c1 rfl
  have d2 := cell_h (k := 2) c1 rfl
  have d3 := cell_h (k := 3) c1 rfl
  have d4 := cell_h (k := 4) c1 rfl
  have d5 := cell_h (k := 5) c1 rfl
  have d6 := cell_h (k := 6) c1 rfl
  have d7 := cell_h (k := 7) c1 rfl
  have f1 := fz_h c1
  go_wp2_with fail
  refine bodyPost_ret (v := .tuple #[.agg #[.bool _, .bool _, .bool _, .bool _, .bool _, .int .i64 _, .int .i64 _, .int .i64 _], .int .i64 _]) (by simp [results, Tryz.f10, go_sem, d0, d1, d2, d3, d4, d5, d6, d7]) rfl ⟨rfl, ?_⟩
  iterate 16 refine Below.setCell ?_ (by simp) _
  exact HV.out
set_option maxHeartbeats 16000000 in
theorem rstep_v5n (w : World) (t : Tp) (h : t.err = 0) (h2 : t.safe = true) (ha : t.alw 5 = false) : Calls Tryz.prog 10 #[t.val, .int .i64 5] w fun e w' => e = .returned (stepV (.none, 100)) ∧ Below w.heap.size w w' := by
  have HC : Hid (∀ W, Calls Tryz.prog 14 #[t.val] W fun e w' => e = .returned (.int .i64 0) ∧ Below W.heap.size W w') := fun W => by have q := rcheckTrap_of W t; rwa [h] at q
  have HS : Hid (∀ W, Calls Tryz.prog 16 #[t.val] W fun e w' => e = .returned (.bool true) ∧ Below W.heap.size W w') := fun W => by have q := rsafe_of W t; rwa [h2] at q
  have HX : Hid (∀ W, Calls Tryz.prog 47 #[t.val, .int .i64 2, .bool false] W fun e w' => e = .returned (stepB (t, false)) ∧ Below W.heap.size W w') := fun W => by have q := valve_of W t 5 (by decide) 2 false (by decide) (by decide); rwa [ha, if_neg (by decide)] at q
  obtain ⟨m, k, v, u, d, p, g, i⟩ := t
  clear ha
  dsimp only [Tp.val, stepB] at HC HS HX ⊢
  clear h h2
  go_enter Tryz.func10, Tryz.ntmps10
  go_wp2_with fail
  refine (HC.out _).mono ?_
  rintro e V ⟨rfl, hV⟩
  have c0 := (hV.block _ (by simp; omega)).trans (al_old (new_heap w _) _)
  have c1 := (hV.block _ (by simp)).trans (al_1 w _ _)
  have HV : Hid (Below w.heap.size w V) := low_trans (((Below.refl _ _).alloc (Nat.le_refl _) _).alloc (by simp) _) hV
  have hs0 : w.heap.size < V.heap.size := (Array.getElem?_eq_some_iff.1 c0).1
  have hs1 : w.heap.size + 1 < V.heap.size := (Array.getElem?_eq_some_iff.1 c1).1
  clear hV
  have s0 := cell_h (k := 0) c0 rfl
  have s1 := cell_h (k := 1) c0 rfl
  have s2 := cell_h (k := 2) c0 rfl
  have s3 := cell_h (k := 3) c0 rfl
  have s4 := cell_h (k := 4) c0 rfl
  have s5 := cell_h (k := 5) c0 rfl
  have s6 := cell_h (k := 6) c0 rfl
  have s7 := cell_h (k := 7) c0 rfl
  clear HC
  go_wp2_with fail
  refine (HS.out _).mono ?_
  rintro e V2 ⟨rfl, hV⟩
  clear s0 s1 s2 s3 s4 s5 s6 s7
  have C0 := Lib.hid ((hV.block _ hs0).trans c0)
  have C1 := Lib.hid ((hV.block _ hs1).trans c1)
  have HU := Lib.hid (low_trans HV.out hV)
  clear hV c0 c1 HV hs0 hs1
  have c0 := C0.out
  have c1 := C1.out
  have HV := HU
  have hs0 : w.heap.size < V2.heap.size := (Array.getElem?_eq_some_iff.1 c0).1
  have hs1 : w.heap.size + 1 < V2.heap.size := (Array.getElem?_eq_some_iff.1 c1).1
  clear C0 C1 HU
  have s0 := cell_h (k := 0) c0 rfl
  have s1 := cell_h (k := 1) c0 rfl
  have s2 := cell_h (k := 2) c0 rfl
  have s3 := cell_h (k := 3) c0 rfl
  have s4 := cell_h (k := 4) c0 rfl
  have s5 := cell_h (k := 5) c0 rfl
  have s6 := cell_h (k := 6) c0 rfl
  have s7 := cell_h (k := 7) c0 rfl
  clear HS
  have f0 := fz_h c0
  go_wp2_with fail
  refine (HX.out _).mono ?_
  rintro e V3 ⟨rfl, hV⟩
  clear s0 s1 s2 s3 s4 s5 s6 s7
  have C0 := Lib.hid ((hV.block _ hs0).trans c0)
  have C1 := Lib.hid ((hV.block _ hs1).trans c1)
  have HU := Lib.hid (low_trans HV.out hV)
  clear hV c0 c1 HV hs0 hs1
  have c0 := C0.out
  have c1 := C1.out
  have HV := HU
  have hs0 : w.heap.size < V3.heap.size := (Array.getElem?_eq_some_iff.1 c0).1
  have hs1 : w.heap.size + 1 < V3.heap.size := (Array.getElem?_eq_some_iff.1 c1).1
  clear C0 C1 HU
  have s0 := cell_h (k := 0) c0 rfl
  have s1 := cell_h (k := 1) c0 rfl
  have s2 := cell_h (k := 2) c0 rfl
  have s3 := cell_h (k := 3) c0 rfl
  have s4 := cell_h (k := 4) c0 rfl
  have s5 := cell_h (k := 5) c0 rfl
  have s6 := cell_h (k := 6) c0 rfl
  have s7 := cell_h (k := 7) c0 rfl
  clear HX f0
  have f0 := fz_h c0
  have d0 := cell_h (k := 0) c1 rfl
  have d1 := cell_h (k := 1) c1 rfl
  have d2 := cell_h (k := 2) c1 rfl
  have d3 := cell_h (k := 3) c1 rfl
  have d4 := cell_h (k := 4) c1 rfl
  have d5 := cell_h (k := 5) c1 rfl
  have d6 := cell_h (k := 6) c1 rfl
  have d7 := cell_h (k := 7) c1 rfl
  have f1 := fz_h c1
  go_wp2_with fail
  refine bodyPost_ret (v := .tuple #[.agg #[.bool _, .bool _, .bool _, .bool _, .bool _, .int .i64 _, .int .i64 _, .int .i64 _], .int .i64 _]) (by simp [results, Tryz.f10, go_sem, d0, d1, d2, d3, d4, d5, d6, d7, Tp.none]) rfl ⟨rfl, ?_⟩
  iterate 16 refine Below.setCell ?_ (by simp) _
  exact HV.out
set_option maxHeartbeats 16000000 in
theorem rstep_v5y (w : World) (t : Tp) (h : t.err = 0) (h2 : t.safe = true) (ha : t.alw 5 = true) : Calls Tryz.prog 10 #[t.val, .int .i64 5] w fun e w' => e = .returned (stepV (t.beh 5, 0)) ∧ Below w.heap.size w w' := by
  have HC : Hid (∀ W, Calls Tryz.prog 14 #[t.val] W fun e w' => e = .returned (.int .i64 0) ∧ Below W.heap.size W w') := fun W => by have q := rcheckTrap_of W t; rwa [h] at q
  have HS : Hid (∀ W, Calls Tryz.prog 16 #[t.val] W fun e w' => e = .returned (.bool true) ∧ Below W.heap.size W w') := fun W => by have q := rsafe_of W t; rwa [h2] at q
  have HX : Hid (∀ W, Calls Tryz.prog 47 #[t.val, .int .i64 2, .bool false] W fun e w' => e = .returned (stepB (t.beh 5, true)) ∧ Below W.heap.size W w') := fun W => by have q := valve_of W t 5 (by decide) 2 false (by decide) (by decide); rwa [ha, if_pos rfl] at q
  obtain ⟨x, hx⟩ : ∃ x, t.beh 5 = x := ⟨_, rfl⟩
  rw [hx] at HX ⊢
  clear hx
  obtain ⟨m, k, v, u, d, p, g, i⟩ := t
  clear ha
  dsimp only [Tp.val, stepB] at HC HS HX ⊢
  clear h h2
  go_enter Tryz.func10, Tryz.ntmps10
  go_wp2_with fail
  refine (HC.out _).mono ?_
  rintro e V ⟨rfl, hV⟩
  have c0 := (hV.block _ (by simp; omega)).trans (al_old (new_heap w _) _)
  have c1 := (hV.block _ (by simp)).trans (al_1 w _ _)
  have HV : Hid (Below w.heap.size w V) := low_trans (((Below.refl _ _).alloc (Nat.le_refl _) _).alloc (by simp) _) hV
  have hs0 : w.heap.size < V.heap.size := (Array.getElem?_eq_some_iff.1 c0).1
  have hs1 : w.heap.size + 1 < V.heap.size := (Array.getElem?_eq_some_iff.1 c1).1
  clear hV
  have s0 := cell_h (k := 0) c0 rfl
  have s1 := cell_h (k := 1) c0 rfl
  have s2 := cell_h (k := 2) c0 rfl
  have s3 := cell_h (k := 3) c0 rfl
  have s4 := cell_h (k := 4) c0 rfl
  have s5 := cell_h (k := 5) c0 rfl
  have s6 := cell_h (k := 6) c0 rfl
  have s7 := cell_h (k := 7) c0 rfl
  clear HC
  go_wp2_with fail
  refine (HS.out _).mono ?_
  rintro e V2 ⟨rfl, hV⟩
  clear s0 s1 s2 s3 s4 s5 s6 s7
  have C0 := Lib.hid ((hV.block _ hs0).trans c0)
  have C1 := Lib.hid ((hV.block _ hs1).trans c1)
  have HU := Lib.hid (low_trans HV.out hV)
  clear hV c0 c1 HV hs0 hs1
  have c0 := C0.out
  have c1 := C1.out
  have HV := HU
  have hs0 : w.heap.size < V2.heap.size := (Array.getElem?_eq_some_iff.1 c0).1
  have hs1 : w.heap.size + 1 < V2.heap.size := (Array.getElem?_eq_some_iff.1 c1).1
  clear C0 C1 HU
  have s0 := cell_h (k := 0) c0 rfl
  have s1 := cell_h (k := 1) c0 rfl
  have s2 := cell_h (k := 2) c0 rfl
  have s3 := cell_h (k := 3) c0 rfl
  have s4 := cell_h (k := 4) c0 rfl
  have s5 := cell_h (k := 5) c0 rfl
  have s6 := cell_h (k := 6) c0 rfl
  have s7 := cell_h (k := 7) c0 rfl
  clear HS
  have f0 := fz_h c0
  go_wp2_with fail
  refine (HX.out _).mono ?_
  rintro e V3 ⟨rfl, hV⟩
  clear s0 s1 s2 s3 s4 s5 s6 s7
  have C0 := Lib.hid ((hV.block _ hs0).trans c0)
  have C1 := Lib.hid ((hV.block _ hs1).trans c1)
  have HU := Lib.hid (low_trans HV.out hV)
  clear hV c0 c1 HV hs0 hs1
  have c0 := C0.out
  have c1 := C1.out
  have HV := HU
  have hs0 : w.heap.size < V3.heap.size := (Array.getElem?_eq_some_iff.1 c0).1
  have hs1 : w.heap.size + 1 < V3.heap.size := (Array.getElem?_eq_some_iff.1 c1).1
  clear C0 C1 HU
  have s0 := cell_h (k := 0) c0 rfl
  have s1 := cell_h (k := 1) c0 rfl
  have s2 := cell_h (k := 2) c0 rfl
  have s3 := cell_h (k := 3) c0 rfl
  have s4 := cell_h (k := 4) c0 rfl
  have s5 := cell_h (k := 5) c0 rfl
  have s6 := cell_h (k := 6) c0 rfl
  have s7 := cell_h (k := 7) c0 rfl
  clear HX f0
  have f0 := fz_h c0
  have d0 := cell_h (k := 0) c1 rfl
  have d1 := cell_h (k := 1) c1 rfl
  have d2 := cell_h (k := 2) c1 rfl
  have d3 := cell_h (k := 3) c1 rfl
  have d4 := cell_h (k := 4) c1 rfl
  have d5 := cell_h (k := 5) c1 rfl
  have d6 := cell_h (k := 6) c1 rfl
  have d7 := cell_h (k := 7) c1 rfl
  have f1 := fz_h c1
  go_wp2_with fail
  refine bodyPost_ret (v := .tuple #[.agg #[.bool _, .bool _, .bool _, .bool _, .bool _, .int .i64 _, .int .i64 _, .int .i64 _], .int .i64 _]) (by simp [results, Tryz.f10, go_sem, d0, d1, d2, d3, d4, d5, d6, d7]) rfl ⟨rfl, ?_⟩
  iterate 16 refine Below.setCell ?_ (by simp) _
  exact HV.out
set_option maxHeartbeats 16000000 in
theorem rstep_v6n (w : World) (t : Tp) (h : t.err = 0) (h2 : t.safe = true) (ha : t.alw 6 = false) : Calls Tryz.prog 10 #[t.val, .int .i64 6] w fun e w' => e = .returned (stepV (.none, 100)) ∧ Below w.heap.size w w' := by
  have HC : Hid (∀ W, Calls Tryz.prog 14 #[t.val] W fun e w' => e = .returned (.int .i64 0) ∧ Below W.heap.size W w') := fun W => by have q := rcheckTrap_of W t; rwa [h] at q
  have HS : Hid (∀ W, Calls Tryz.prog 16 #[t.val] W fun e w' => e = .returned (.bool true) ∧ Below W.heap.size W w') := fun W => by have q := rsafe_of W t; rwa [h2] at q
  have HX : Hid (∀ W, Calls Tryz.prog 47 #[t.val, .int .i64 3, .bool true] W fun e w' => e = .returned (stepB (t, false)) ∧ Below W.heap.size W w') := fun W => by have q := valve_of W t 6 (by decide) 3 true (by decide) (by decide); rwa [ha, if_neg (by decide)] at q
  obtain ⟨m, k, v, u, d, p, g, i⟩ := t
  clear ha
  dsimp only [Tp.val, stepB] at HC HS HX ⊢
  clear h h2
  go_enter Tryz.func10, Tryz.ntmps10
  go_wp2_with fail
  refine (HC.out _).mono ?_
  rintro e V ⟨rfl, hV⟩
  have c0 := (hV.block _ (by simp; omega)).trans (al_old (new_heap w _) _)
  have c1 := (hV.block _ (by simp)).trans (al_1 w _ _)
  have HV : Hid (Below w.heap.size w V) := low_trans (((Below.refl _ _).alloc (Nat.le_refl _) _).alloc (by simp) _) hV
  have hs0 : w.heap.size < V.heap.size := (Array.getElem?_eq_some_iff.1 c0).1
  have hs1 : w.heap.size + 1 < V.heap.size := (Array.getElem?_eq_some_iff.1 c1).1
  clear hV
  have s0 := cell_h (k := 0) c0 rfl
  have s1 := cell_h (k := 1) c0 rfl
  have s2 := cell_h (k := 2) c0 rfl
  have s3 := cell_h (k := 3) c0 rfl
  have s4 := cell_h (k := 4) c0 rfl
  have s5 := cell_h (k := 5) c0 rfl
  have s6 := cell_h (k := 6) c0 rfl
  have s7 := cell_h (k := 7) c0 rfl
  clear HC
  go_wp2_with fail
  refine (HS.out _).mono ?_
  rintro e V2 ⟨rfl, hV⟩
  clear s0 s1 s2 s3 s4 s5 s6 s7
  have C0 := Lib.hid ((hV.block _ hs0).trans c0)
  have C1 := Lib.hid ((hV.block _ hs1).trans c1)
  have HU := Lib.hid (low_trans HV.out hV)
  clear hV c0 c1 HV hs0 hs1
  have c0 := C0.out
  have c1 := C1.out
  have HV := HU
  have hs0 : w.heap.size < V2.heap.size := (Array.getElem?_eq_some_iff.1 c0).1
  have hs1 : w.heap.size + 1 < V2.heap.size := (Array.getElem?_eq_some_iff.1 c1).1
  clear C0 C1 HU
  have s0 := cell_h (k := 0) c0 rfl
  have s1 := cell_h (k := 1) c0 rfl
  have s2 := cell_h (k := 2) c0 rfl
  have s3 := cell_h (k := 3) c0 rfl
  have s4 := cell_h (k := 4) c0 rfl
  have s5 := cell_h (k := 5) c0 rfl
  have s6 := cell_h (k := 6) c0 rfl
  have s7 := cell_h (k := 7) c0 rfl
  clear HS
  have f0 := fz_h c0
  go_wp2_with fail
  refine (HX.out _).mono ?_
  rintro e V3 ⟨rfl, hV⟩
  clear s0 s1 s2 s3 s4 s5 s6 s7
  have C0 := Lib.hid ((hV.block _ hs0).trans c0)
  have C1 := Lib.hid ((hV.block _ hs1).trans c1)
  have HU := Lib.hid (low_trans HV.out hV)
  clear hV c0 c1 HV hs0 hs1
  have c0 := C0.out
  have c1 := C1.out
  have HV := HU
  have hs0 : w.heap.size < V3.heap.size := (Array.getElem?_eq_some_iff.1 c0).1
  have hs1 : w.heap.size + 1 < V3.heap.size := (Array.getElem?_eq_some_iff.1 c1).1
  clear C0 C1 HU
  have s0 := cell_h (k := 0) c0 rfl
  have s1 := cell_h (k := 1) c0 rfl
  have s2 := cell_h (k := 2) c0 rfl
  have s3 := cell_h (k := 3) c0 rfl
  have s4 := cell_h (k := 4) c0 rfl
  have s5 := cell_h (k := 5) c0 rfl
  have s6 := cell_h (k := 6) c0 rfl
  have s7 := cell_h (k := 7) c0 rfl
  clear HX f0
  have f0 := fz_h c0
  have d0 := cell_h (k := 0) c1 rfl
  have d1 := cell_h (k := 1) c1 rfl
  have d2 := cell_h (k := 2) c1 rfl
  have d3 := cell_h (k := 3) c1 rfl
  have d4 := cell_h (k := 4) c1 rfl
  have d5 := cell_h (k := 5) c1 rfl
  have d6 := cell_h (k := 6) c1 rfl
  have d7 := cell_h (k := 7) c1 rfl
  have f1 := fz_h c1
  go_wp2_with fail
  refine bodyPost_ret (v := .tuple #[.agg #[.bool _, .bool _, .bool _, .bool _, .bool _, .int .i64 _, .int .i64 _, .int .i64 _], .int .i64 _]) (by simp [results, Tryz.f10, go_sem, d0, d1, d2, d3, d4, d5, d6, d7, Tp.none]) rfl ⟨rfl, ?_⟩
  iterate 16 refine Below.setCell ?_ (by simp) _
  exact HV.out
set_option maxHeartbeats 16000000 in
theorem rstep_v6y (w : World) (t : Tp) (h : t.err = 0) (h2 : t.safe = true) (ha : t.alw 6 = true) : Calls Tryz.prog 10 #[t.val, .int .i64 6] w fun e w' => e = .returned (stepV (t.beh 6, 0)) ∧ Below w.heap.size w w' := by
  have HC : Hid (∀ W, Calls Tryz.prog 14 #[t.val] W fun e w' => e = .returned (.int .i64 0) ∧ Below W.heap.size W w') := fun W => by have q := rcheckTrap_of W t; rwa [h] at q
  have HS : Hid (∀ W, Calls Tryz.prog 16 #[t.val] W fun e w' => e = .returned (.bool true) ∧ Below W.heap.size W w') := fun W => by have q := rsafe_of W t; rwa [h2] at q
  have HX : Hid (∀ W, Calls Tryz.prog 47 #[t.val, .int .i64 3, .bool true] W fun e w' => e = .returned (stepB (t.beh 6, true)) ∧ Below W.heap.size W w') := fun W => by have q := valve_of W t 6 (by decide) 3 true (by decide) (by decide); rwa [ha, if_pos rfl] at q
  obtain ⟨x, hx⟩ : ∃ x, t.beh 6 = x := ⟨_, rfl⟩
  rw [hx] at HX ⊢
  clear hx
  obtain ⟨m, k, v, u, d, p, g, i⟩ := t
  clear ha
  dsimp only [Tp.val, stepB] at HC HS HX ⊢
  clear h h2
  go_enter Tryz.func10, Tryz.ntmps10
  go_wp2_with fail
  refine (HC.out _).mono ?_
  rintro e V ⟨rfl, hV⟩
  have c0 := (hV.block _ (by simp; omega)).trans (al_old (new_heap w _) _)
  have c1 := (hV.block _ (by simp)).trans (al_1 w _ _)
  have HV : Hid (Below w.heap.size w V) := low_trans (((Below.refl _ _).alloc (Nat.le_refl _) _).alloc (by simp) _) hV
  have hs0 : w.heap.size < V.heap.size := (Array.getElem?_eq_some_iff.1 c0).1
  have hs1 : w.heap.size + 1 < V.heap.size := (Array.getElem?_eq_some_iff.1 c1).1
  clear hV
  have s0 := cell_h (k := 0) c0 rfl
  have s1 := cell_h (k := 1) c0 rfl
  have s2 := cell_h (k := 2) c0 rfl
  have s3 := cell_h (k := 3) c0 rfl
  have s4 := cell_h (k := 4) c0 rfl
  have s5 := cell_h (k := 5) c0 rfl
  have s6 := cell_h (k := 6) c0 rfl
  have s7 := cell_h (k := 7) c0 rfl
  clear HC
  go_wp2_with fail
  refine (HS.out _).mono ?_
  rintro e V2 ⟨rfl, hV⟩
  clear s0 s1 s2 s3 s4 s5 s6 s7
  have C0 := Lib.hid ((hV.block _ hs0).trans c0)
  have C1 := Lib.hid ((hV.block _ hs1).trans c1)
  have HU := Lib.hid (low_trans HV.out hV)
  clear hV c0 c1 HV hs0 hs1
  have c0 := C0.out
  have c1 := C1.out
  have HV := HU
  have hs0 : w.heap.size < V2.heap.size := (Array.getElem?_eq_some_iff.1 c0).1
  have hs1 : w.heap.size + 1 < V2.heap.size := (Array.getElem?_eq_some_iff.1 c1).1
  clear C0 C1 HU
  have s0 := cell_h (k := 0) c0 rfl
  have s1 := cell_h (k := 1) c0 rfl
  have s2 := cell_h (k := 2) c0 rfl
  have s3 := cell_h (k := 3) c0 rfl
  have s4 := cell_h (k := 4) c0 rfl
  have s5 := cell_h (k := 5) c0 rfl
  have s6 := cell_h (k := 6) c0 rfl
  have s7 := cell_h (k := 7) c0 rfl
  clear HS
  have f0 := fz_h c0
  go_wp2_with fail
  refine (HX.out _).mono ?_
  rintro e V3 ⟨rfl, hV⟩
  clear s0 s1 s2 s3 s4 s5 s6 s7
  have C0 := Lib.hid ((hV.block _ hs0).trans c0)
  have C1 := Lib.hid ((hV.block _ hs1).trans c1)
  have HU := Lib.hid (low_trans HV.out hV)
  clear hV c0 c1 HV hs0 hs1
  have c0 := C0.out
  have c1 := C1.out
  have HV := HU
  have hs0 : w.heap.size < V3.heap.size := (Array.getElem?_eq_some_iff.1 c0).1
  have hs1 : w.heap.size + 1 < V3.heap.size := (Array.getElem?_eq_some_iff.1 c1).1
  clear C0 C1 HU
  have s0 := cell_h (k := 0) c0 rfl
  have s1 := cell_h (k := 1) c0 rfl
  have s2 := cell_h (k := 2) c0 rfl
  have s3 := cell_h (k := 3) c0 rfl
  have s4 := cell_h (k := 4) c0 rfl
  have s5 := cell_h (k := 5) c0 rfl
  have s6 := cell_h (k := 6) c0 rfl
  have s7 := cell_h (k := 7) c0 rfl
  clear HX f0
  have f0 := fz_h c0
  have d0 := cell_h (k := 0) c1 rfl
  have d1 := cell_h (k := 1) c1 rfl
  have d2 := cell_h (k := 2) c1 rfl
  have d3 := cell_h (k := 3) c1 rfl
  have d4 := cell_h (k := 4) c1 rfl
  have d5 := cell_h (k := 5) c1 rfl
  have d6 := cell_h (k := 6) c1 rfl
  have d7 := cell_h (k := 7) c1 rfl
  have f1 := fz_h c1
  go_wp2_with fail
  refine bodyPost_ret (v := .tuple #[.agg #[.bool _, .bool _, .bool _, .bool _, .bool _, .int .i64 _, .int .i64 _, .int .i64 _], .int .i64 _]) (by simp [results, Tryz.f10, go_sem, d0, d1, d2, d3, d4, d5, d6, d7]) rfl ⟨rfl, ?_⟩
  iterate 16 refine Below.setCell ?_ (by simp) _
  exact HV.out
set_option maxHeartbeats 16000000 in
theorem rstep_v7n (w : World) (t : Tp) (h : t.err = 0) (h2 : t.safe = true) (ha : t.alw 7 = false) : Calls Tryz.prog 10 #[t.val, .int .i64 7] w fun e w' => e = .returned (stepV (.none, 100)) ∧ Below w.heap.size w w' := by
  have HC : Hid (∀ W, Calls Tryz.prog 14 #[t.val] W fun e w' => e = .returned (.int .i64 0) ∧ Below W.heap.size W w') := fun W => by have q := rcheckTrap_of W t; rwa [h] at q
  have HS : Hid (∀ W, Calls Tryz.prog 16 #[t.val] W fun e w' => e = .returned (.bool true) ∧ Below W.heap.size W w') := fun W => by have q := rsafe_of W t; rwa [h2] at q
  have HX : Hid (∀ W, Calls Tryz.prog 47 #[t.val, .int .i64 3, .bool false] W fun e w' => e = .returned (stepB (t, false)) ∧ Below W.heap.size W w') := fun W => by have q := valve_of W t 7 (by decide) 3 false (by decide) (by decide); rwa [ha, if_neg (by decide)] at q
  obtain ⟨m, k, v, u, d, p, g, i⟩ := t
  clear ha
  dsimp only [Tp.val, stepB] at HC HS HX ⊢
  clear h h2
  go_enter Tryz.func10, Tryz.ntmps10
  go_wp2_with fail
  refine (HC.out _).mono ?_
  rintro e V ⟨rfl, hV⟩
  have c0 := (hV.block _ (by simp; omega)).trans (al_old (new_heap w _) _)
  have c1 := (hV.block _ (by simp)).trans (al_1 w _ _)
  have HV : Hid (Below w.heap.size w V) := low_trans (((Below.refl _ _).alloc (Nat.le_refl _) _).alloc (by simp) _) hV
  have hs0 : w.heap.size < V.heap.size := (Array.getElem?_eq_some_iff.1 c0).1
  have hs1 : w.heap.size + 1 < V.heap.size := (Array.getElem?_eq_some_iff.1 c1).1
  clear hV
  have s0 := cell_h (k := 0) c0 rfl
  have s1 := cell_h (k := 1) c0 rfl
  have s2 := cell_h (k := 2) c0 rfl
  have s3 := cell_h (k := 3) c0 rfl
  have s4 := cell_h (k := 4) c0 rfl
  have s5 := cell_h (k := 5) c0 rfl
  have s6 := cell_h (k := 6) c0 rfl
  have s7 := cell_h (k := 7) c0 rfl
  clear HC
  go_wp2_with fail
  refine (HS.out _).mono ?_
  rintro e V2 ⟨rfl, hV⟩
  clear s0 s1 s2 s3 s4 s5 s6 s7
  have C0 := Lib.hid ((hV.block _ hs0).trans c0)
  have C1 := Lib.hid ((hV.block _ hs1).trans c1)
  have HU := Lib.hid (low_trans HV.out hV)
  clear hV c0 c1 HV hs0 hs1
  have c0 := C0.out
  have c1 := C1.out
  have HV := HU
  have hs0 : w.heap.size < V2.heap.size := (Array.getElem?_eq_some_iff.1 c0).1
  have hs1 : w.heap.size + 1 < V2.heap.size := (Array.getElem?_eq_some_iff.1 c1).1
  clear C0 C1 HU
  have s0 := cell_h (k := 0) c0 rfl
  have s1 := cell_h (k := 1) c0 rfl
  have s2 := cell_h (k := 2) c0 rfl
  have s3 := cell_h (k := 3) c0 rfl
  have s4 := cell_h (k := 4) c0 rfl
  have s5 := cell_h (k := 5) c0 rfl
  have s6 := cell_h (k := 6) c0 rfl
  have s7 := cell_h (k := 7) c0 rfl
  clear HS
  have f0 := fz_h c0
  go_wp2_with fail
  refine (HX.out _).mono ?_
  rintro e V3 ⟨rfl, hV⟩
  clear s0 s1 s2 s3 s4 s5 s6 s7
  have C0 := Lib.hid ((hV.block _ hs0).trans c0)
  have C1 := Lib.hid ((hV.block _ hs1).trans c1)
  have HU := Lib.hid (low_trans HV.out hV)
  clear hV c0 c1 HV hs0 hs1
  have c0 := C0.out
  have c1 := C1.out
  have HV := HU
  have hs0 : w.heap.size < V3.heap.size := (Array.getElem?_eq_some_iff.1 c0).1
  have hs1 : w.heap.size + 1 < V3.heap.size := (Array.getElem?_eq_some_iff.1 c1).1
  clear C0 C1 HU
  have s0 := cell_h (k := 0) c0 rfl
  have s1 := cell_h (k := 1) c0 rfl
  have s2 := cell_h (k := 2) c0 rfl
  have s3 := cell_h (k := 3) c0 rfl
  have s4 := cell_h (k := 4) c0 rfl
  have s5 := cell_h (k := 5) c0 rfl
  have s6 := cell_h (k := 6) c0 rfl
  have s7 := cell_h (k := 7) c0 rfl
  clear HX f0
  have f0 := fz_h c0
  have d0 := cell_h (k := 0) c1 rfl
  have d1 := cell_h (k := 1) c1 rfl
  have d2 := cell_h (k := 2) c1 rfl
  have d3 := cell_h (k := 3) c1 rfl
  have d4 := cell_h (k := 4) c1 rfl
  have d5 := cell_h (k := 5) c1 rfl
  have d6 := cell_h (k := 6) c1 rfl
  have d7 := cell_h (k := 7) c1 rfl
  have f1 := fz_h c1
  go_wp2_with fail
  refine bodyPost_ret (v := .tuple #[.agg #[.bool _, .bool _, .bool _, .bool _, .bool _, .int .i64 _, .int .i64 _, .int .i64 _], .int .i64 _]) (by simp [results, Tryz.f10, go_sem, d0, d1, d2, d3, d4, d5, d6, d7, Tp.none]) rfl ⟨rfl, ?_⟩
  iterate 16 refine Below.setCell ?_ (by simp) _
  exact HV.out
set_option maxHeartbeats 16000000 in
theorem rstep_v7y (w : World) (t : Tp) (h : t.err = 0) (h2 : t.safe = true) (ha : t.alw 7 = true) : Calls Tryz.prog 10 #[t.val, .int .i64 7] w fun e w' => e = .returned (stepV (t.beh 7, 0)) ∧ Below w.heap.size w w' := by
  have HC : Hid (∀ W, Calls Tryz.prog 14 #[t.val] W fun e w' => e = .returned (.int .i64 0) ∧ Below W.heap.size W w') := fun W => by have q := rcheckTrap_of W t; rwa [h] at q
  have HS : Hid (∀ W, Calls Tryz.prog 16 #[t.val] W fun e w' => e = .returned (.bool true) ∧ Below W.heap.size W w') := fun W => by have q := rsafe_of W t; rwa [h2] at q
  have HX : Hid (∀ W, Calls Tryz.prog 47 #[t.val, .int .i64 3, .bool false] W fun e w' => e = .returned (stepB (t.beh 7, true)) ∧ Below W.heap.size W w') := fun W => by have q := valve_of W t 7 (by decide) 3 false (by decide) (by decide); rwa [ha, if_pos rfl] at q
  obtain ⟨x, hx⟩ : ∃ x, t.beh 7 = x := ⟨_, rfl⟩
  rw [hx] at HX ⊢
  clear hx
  obtain ⟨m, k, v, u, d, p, g, i⟩ := t
  clear ha
  dsimp only [Tp.val, stepB] at HC HS HX ⊢
  clear h h2
  go_enter Tryz.func10, Tryz.ntmps10
  go_wp2_with fail
  refine (HC.out _).mono ?_
  rintro e V ⟨rfl, hV⟩
  have c0 := (hV.block _ (by simp; omega)).trans (al_old (new_heap w _) _)
  have c1 := (hV.block _ (by simp)).trans (al_1 w _ _)
  have HV : Hid (Below w.heap.size w V) := low_trans (((Below.refl _ _).alloc (Nat.le_refl _) _).alloc (by simp) _) hV
  have hs0 : w.heap.size < V.heap.size := (Array.getElem?_eq_some_iff.1 c0).1
  have hs1 : w.heap.size + 1 < V.heap.size := (Array.getElem?_eq_some_iff.1 c1).1
  clear hV
  have s0 := cell_h (k := 0) c0 rfl
  have s1 := cell_h (k := 1) c0 rfl
  have s2 := cell_h (k := 2) c0 rfl
  have s3 := cell_h (k := 3) c0 rfl
  have s4 := cell_h (k := 4) c0 rfl
  have s5 := cell_h (k := 5) c0 rfl
  have s6 := cell_h (k := 6) c0 rfl
  have s7 := cell_h (k := 7) c0 rfl
  clear HC
  go_wp2_with fail
  refine (HS.out _).mono ?_
  rintro e V2 ⟨rfl, hV⟩
  clear s0 s1 s2 s3 s4 s5 s6 s7
  have C0 := Lib.hid ((hV.block _ hs0).trans c0)
  have C1 := Lib.hid ((hV.block _ hs1).trans c1)
  have HU := Lib.hid (low_trans HV.out hV)
  clear hV c0 c1 HV hs0 hs1
  have c0 := C0.out
  have c1 := C1.out
  have HV := HU
  have hs0 : w.heap.size < V2.heap.size := (Array.getElem?_eq_some_iff.1 c0).1
  have hs1 : w.heap.size + 1 < V2.heap.size := (Array.getElem?_eq_some_iff.1 c1).1
  clear C0 C1 HU
  have s0 := cell_h (k := 0) c0 rfl
  have s1 := cell_h (k := 1) c0 rfl
  have s2 := cell_h (k := 2) c0 rfl
  have s3 := cell_h (k := 3) c0 rfl
  have s4 := cell_h (k := 4) c0 rfl
  have s5 := cell_h (k := 5) c0 rfl
  have s6 := cell_h (k := 6) c0 rfl
  have s7 := cell_h (k := 7) c0 rfl
  clear HS
  have f0 := fz_h c0
  go_wp2_with fail
  refine (HX.out _).mono ?_
  rintro e V3 ⟨rfl, hV⟩
  clear s0 s1 s2 s3 s4 s5 s6 s7
  have C0 := Lib.hid ((hV.block _ hs0).trans c0)
  have C1 := Lib.hid ((hV.block _ hs1).trans c1)
  have HU := Lib.hid (low_trans HV.out hV)
  clear hV c0 c1 HV hs0 hs1
  have c0 := C0.out
  have c1 := C1.out
  have HV := HU
  have hs0 : w.heap.size < V3.heap.size := (Array.getElem?_eq_some_iff.1 c0).1
  have hs1 : w.heap.size + 1 < V3.heap.size := (Array.getElem?_eq_some_iff.1 c1).1
  clear C0 C1 HU
  have s0 := cell_h (k := 0) c0 rfl
  have s1 := cell_h (k := 1) c0 rfl
  have s2 := cell_h (k := 2) c0 rfl
  have s3 := cell_h (k := 3) c0 rfl
  have s4 := cell_h (k := 4) c0 rfl
  have s5 := cell_h (k := 5) c0 rfl
  have s6 := cell_h (k := 6) c0 rfl
  have s7 := cell_h (k := 7) c0 rfl
  clear HX f0
  have f0 := fz_h c0
  have d0 := cell_h (k := 0) c1 rfl
  have d1 := cell_h (k := 1) c1 rfl
  have d2 := cell_h (k := 2) c1 rfl
  have d3 := cell_h (k := 3) c1 rfl
  have d4 := cell_h (k := 4) c1 rfl
  have d5 := cell_h (k := 5) c1 rfl
  have d6 := cell_h (k := 6) c1 rfl
  have d7 := cell_h (k := 7) c1 rfl
  have f1 := fz_h c1
  go_wp2_with fail
  refine bodyPost_ret (v := .tuple #[.agg #[.bool _, .bool _, .bool _, .bool _, .bool _, .int .i64 _, .int .i64 _, .int .i64 _], .int .i64 _]) (by simp [results, Tryz.f10, go_sem, d0, d1, d2, d3, d4, d5, d6, d7]) rfl ⟨rfl, ?_⟩
  iterate 16 refine Below.setCell ?_ (by simp) _
  exact HV.out
end Go.Proofs.YtmdniebedflpbaaGreatDoor
