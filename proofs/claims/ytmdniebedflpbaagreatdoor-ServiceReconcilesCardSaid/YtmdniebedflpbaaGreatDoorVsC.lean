/-
  WALKS: traps: which commands are allowed, Step (the program).
-/
import Derived.Test.YtmdniebedflpbaaGreatDoorVsB
namespace Go.Proofs.YtmdniebedflpbaaGreatDoor
open Go.RowKit

set_option maxHeartbeats 16000000 in
theorem allows_of (w : World) (t : Tp) (ht : t.ok) (c : Nat) (hc : c ≤ 12) : Calls Tryz.prog 45 #[t.val, .int .i64 (c : Int)] w fun e w' => e = .returned (.bool (t.alw c)) ∧ Below w.heap.size w w' := by
  by_cases h8 : c = 8
  · subst h8
    have HB : Hid (∀ W, Calls Tryz.prog 46 #[t.val, .int .i64 8] W fun e w' => e = .returned (Tp.val { t with d := true }) ∧ Below W.heap.size W w') := fun W => behind_of W t ht 8 (by decide)
    have HS : Hid (∀ W, Calls Tryz.prog 15 #[Tp.val { t with d := true }] W fun e w' => e = .returned (.bool (Tp.safe { t with d := true })) ∧ Below W.heap.size W w') := fun W => safe_of W _
    have e : t.alw 8 = (!t.d && ({ t with d := true } : Tp).safe) := rfl
    rw [e]
    obtain ⟨x, hx⟩ : ∃ x, ({ t with d := true } : Tp).safe = x := ⟨_, rfl⟩
    rw [hx] at HS ⊢
    clear hx e
    obtain ⟨m, k, v, u, d, p, g, i⟩ := t
    dsimp only [Tp.val] at HB HS ⊢
    go_enter Tryz.func45, Tryz.ntmps45
    cases d
    · go_wp2_with fail
      refine (HB.out _).mono ?_
      rintro e V ⟨rfl, hV⟩
      have HV : Hid (Below w.heap.size w V) := low_trans ((Below.refl _ _).alloc (Nat.le_refl _) _) hV
      clear hV HB
      go_wp2_with fail
      refine (HS.out _).mono ?_
      rintro e V2 ⟨rfl, hV⟩
      have HV2 := Lib.hid (low_trans HV.out hV)
      clear hV HS HV
      go_wp2_with fail
      go_ret
      exact ⟨rfl, HV2.out⟩
    · go_wp2_with fail
      go_ret
      exact ⟨rfl, (Below.refl _ _).alloc (Nat.le_refl _) _⟩
  by_cases h10 : c = 10 ∨ c = 11
  · obtain ⟨m, k, v, u, d, p, g, i⟩ := t
    dsimp only [Tp.val]
    rcases h10 with rfl | rfl
    · dsimp only [Tp.alw]
      go_enter Tryz.func45, Tryz.ntmps45
      cases d
      · go_wp2_with fail
        go_ret
        exact ⟨rfl, (Below.refl _ _).alloc (Nat.le_refl _) _⟩
      by_cases hi : i = 0
      · subst hi
        go_wp2_with fail
        go_ret
        exact ⟨rfl, (Below.refl _ _).alloc (Nat.le_refl _) _⟩
      · have hi2 : (i == 0) = false := by simpa using hi
        go_wp2_with fail
        go_ret
        exact ⟨by simp [hi], (Below.refl _ _).alloc (Nat.le_refl _) _⟩
    · dsimp only [Tp.alw]
      go_enter Tryz.func45, Tryz.ntmps45
      cases d
      · go_wp2_with fail
        go_ret
        exact ⟨rfl, (Below.refl _ _).alloc (Nat.le_refl _) _⟩
      by_cases hi : i = 1
      · subst hi
        go_wp2_with fail
        go_ret
        exact ⟨rfl, (Below.refl _ _).alloc (Nat.le_refl _) _⟩
      · have hi2 : (i == 1) = false := by simpa using hi
        go_wp2_with fail
        go_ret
        exact ⟨by simp [hi], (Below.refl _ _).alloc (Nat.le_refl _) _⟩
  · obtain ⟨m, k, v, u, d, p, g, i⟩ := t
    have hc2 : c = 0 ∨ c = 1 ∨ c = 2 ∨ c = 3 ∨ c = 4 ∨ c = 5 ∨ c = 6 ∨ c = 7 ∨ c = 9 ∨ c = 12 := by omega
    clear hc h10 h8 ht
    dsimp only [Tp.val]
    rcases hc2 with rfl | rfl | rfl | rfl | rfl | rfl | rfl | rfl | rfl | rfl
    all_goals
      dsimp only [Tp.alw]
      go_enter Tryz.func45, Tryz.ntmps45
    · cases m <;> cases d <;> cases u
      all_goals
        go_wp2_with fail
        go_ret
        exact ⟨rfl, (Below.refl _ _).alloc (Nat.le_refl _) _⟩
    · go_wp2_with fail
      go_ret
      exact ⟨rfl, (Below.refl _ _).alloc (Nat.le_refl _) _⟩
    · cases k <;> cases d <;> cases u
      all_goals
        go_wp2_with fail
        go_ret
        exact ⟨rfl, (Below.refl _ _).alloc (Nat.le_refl _) _⟩
    · go_wp2_with fail
      go_ret
      exact ⟨rfl, (Below.refl _ _).alloc (Nat.le_refl _) _⟩
    · cases v
      all_goals
        go_wp2_with fail
        go_ret
        exact ⟨rfl, (Below.refl _ _).alloc (Nat.le_refl _) _⟩
    · cases v <;> cases d
      all_goals
        go_wp2_with fail
        go_ret
        exact ⟨rfl, (Below.refl _ _).alloc (Nat.le_refl _) _⟩
    · cases u <;> cases d <;> cases m <;> cases k
      all_goals
        go_wp2_with fail
        go_ret
        exact ⟨rfl, (Below.refl _ _).alloc (Nat.le_refl _) _⟩
    · go_wp2_with fail
      go_ret
      exact ⟨rfl, (Below.refl _ _).alloc (Nat.le_refl _) _⟩
    · go_wp2_with fail
      go_ret
      exact ⟨rfl, (Below.refl _ _).alloc (Nat.le_refl _) _⟩
    · go_wp2_with fail
      go_ret
      exact ⟨rfl, (Below.refl _ _).alloc (Nat.le_refl _) _⟩

/-- The trap with nothing. -/
def Tp.none : Tp := ⟨false, false, false, false, false, 0, 0, 0⟩
/-- What Step returns. -/
def Tp.step (t : Tp) (c : Int) : Tp × Int := if t.ok ∧ 0 ≤ c ∧ c ≤ 12 then if t.safe = true ∧ t.alw c.toNat = true then (t.beh c.toNat, 0) else (.none, 100) else (.none, 1)
def stepV (r : Tp × Int) : Value := .tuple #[r.1.val, .int .i64 r.2]
def stepB (r : Tp × Bool) : Value := .tuple #[r.1.val, .bool r.2]
theorem Tp.step_ways (t : Tp) (c : Int) : (¬t.ok ∧ t.err = 1 ∧ t.step c = (.none, 1)) ∨ (t.ok ∧ t.err = 0 ∧ ¬(0 ≤ c ∧ c ≤ 12) ∧ t.step c = (.none, 1)) ∨
    (t.ok ∧ t.err = 0 ∧ ∃ n : Nat, n ≤ 12 ∧ c = n ∧ ((t.safe = false ∧ t.step c = (.none, 100)) ∨ (t.safe = true ∧ t.alw n = false ∧ t.step c = (.none, 100)) ∨ (t.safe = true ∧ t.alw n = true ∧ t.step c = (t.beh n, 0)))) := by
  by_cases h : t.ok
  · have e : t.err = 0 := if_pos h
    by_cases hc : 0 ≤ c ∧ c ≤ 12
    · obtain ⟨n, rfl⟩ := Int.eq_ofNat_of_zero_le hc.1
      refine .inr (.inr ⟨h, e, n, by omega, rfl, ?_⟩)
      unfold Tp.step
      rw [if_pos ⟨h, hc⟩, Int.toNat_natCast]
      cases hs : t.safe <;> cases ha : t.alw n <;> simp
    · exact .inr (.inl ⟨h, e, hc, by unfold Tp.step; rw [if_neg (fun x => hc x.2)]⟩)
  · exact .inl ⟨h, if_neg h, by unfold Tp.step; rw [if_neg (fun x => h x.1)]⟩

set_option maxHeartbeats 16000000 in
theorem step_of (w : World) (t : Tp) (c : Int) : Calls Tryz.prog 9 #[t.val, .int .i64 c] w fun e w' => e = .returned (stepV (t.step c)) ∧ Below w.heap.size w w' := by
  have HC : Hid (∀ W, Calls Tryz.prog 13 #[t.val] W fun e w' => e = .returned (.int .i64 t.err) ∧ Below W.heap.size W w') := fun W => checkTrap_of W t
  have HI : Hid (∀ b W, b = decide (0 ≤ c ∧ c ≤ 12) → Calls Tryz.prog 44 #[.int .i64 c, .int .i64 0, .int .i64 12] W fun e w' => e = .returned (.bool b) ∧ w' = W) := fun b W h => vwithin_of b W c 0 12 h
  have HS : Hid (∀ W, Calls Tryz.prog 15 #[t.val] W fun e w' => e = .returned (.bool t.safe) ∧ Below W.heap.size W w') := fun W => safe_of W t
  have hw := t.step_ways c
  obtain ⟨r, hr⟩ : ∃ r, t.step c = r := ⟨_, rfl⟩
  rw [hr] at hw ⊢
  clear hr
  have HA : t.ok → ∀ n : Nat, n ≤ 12 → Hid (∀ W, Calls Tryz.prog 45 #[t.val, .int .i64 (n : Int)] W fun e w' => e = .returned (.bool (t.alw n)) ∧ Below W.heap.size W w') := fun h n hn W => allows_of W t h n hn
  have HH : t.ok → ∀ n : Nat, n ≤ 12 → Hid (∀ W, Calls Tryz.prog 46 #[t.val, .int .i64 (n : Int)] W fun e w' => e = .returned (t.beh n).val ∧ Below W.heap.size W w') := fun h n hn W => behind_of W t h n hn
  obtain ⟨e0, he0⟩ : ∃ e0, t.err = e0 := ⟨_, rfl⟩
  rw [he0] at HC hw
  obtain ⟨s0, hs0⟩ : ∃ s0, t.safe = s0 := ⟨_, rfl⟩
  rw [hs0] at HS hw
  clear he0 hs0
  obtain ⟨y, hy⟩ : ∃ y : Nat → Tp, t.beh = y := ⟨_, rfl⟩
  rw [hy] at HH hw
  obtain ⟨z, hz⟩ : ∃ z : Nat → Bool, t.alw = z := ⟨_, rfl⟩
  rw [hz] at HA hw
  clear hy hz
  obtain ⟨m, k, v, u, d, p, g, i⟩ := t
  dsimp only [Tp.val] at HC HS HA HH
  show Calls Tryz.prog 9 #[.agg #[.bool m, .bool k, .bool v, .bool u, .bool d, .int .i64 p, .int .i64 g, .int .i64 i], .int .i64 c] w _
  rcases hw with ⟨_, rfl, rfl⟩ | ⟨_, rfl, hc, rfl⟩ | ⟨hok, rfl, n, hn, rfl, hw⟩
  · clear HA HH HI HS
    go_enter Tryz.func9, Tryz.ntmps9
    go_wp2_with fail
    refine (HC.out _).mono ?_
    rintro e V ⟨rfl, hV⟩
    have c0 := (hV.block _ (by simp; omega)).trans (al_old (new_heap w _) _)
    have c1 := (hV.block _ (by simp)).trans (al_1 w _ _)
    have HV : Hid (Below w.heap.size w V) := low_trans (((Below.refl _ _).alloc (Nat.le_refl _) _).alloc (by simp) _) hV
    have hs0 : w.heap.size < V.heap.size := (Array.getElem?_eq_some_iff.1 c0).1
    have hs1 : w.heap.size + 1 < V.heap.size := (Array.getElem?_eq_some_iff.1 c1).1
    clear hV
    have s0 := cell_h (k := 0) c0 rfl
    have s1 := cell_h (k := 1) c0 rfl
    have s2 := cell_h (k := 2) c0 rfl
    have s3 := cell_h (k := 3) c0 rfl
    have s4 := cell_h (k := 4) c0 rfl
    have s5 := cell_h (k := 5) c0 rfl
    have s6 := cell_h (k := 6) c0 rfl
    have s7 := cell_h (k := 7) c0 rfl
    clear HC
    have d0 := cell_h (k := 0) c1 rfl
    have d1 := cell_h (k := 1) c1 rfl
    have d2 := cell_h (k := 2) c1 rfl
    have d3 := cell_h (k := 3) c1 rfl
    have d4 := cell_h (k := 4) c1 rfl
    have d5 := cell_h (k := 5) c1 rfl
    have d6 := cell_h (k := 6) c1 rfl
    have d7 := cell_h (k := 7) c1 rfl
    have f1 := fz_h c1
    go_wp2_with fail
    refine bodyPost_ret (v := .tuple #[.agg #[.bool _, .bool _, .bool _, .bool _, .bool _, .int .i64 _, .int .i64 _, .int .i64 _], .int .i64 _]) (by simp [results, Tryz.f9, go_sem, d0, d1, d2, d3, d4, d5, d6, d7, Tp.none]) rfl ⟨rfl, ?_⟩
    iterate 8 refine Below.setCell ?_ (by simp) _
    exact HV.out
  · clear HA HH HS
    go_enter Tryz.func9, Tryz.ntmps9
    go_wp2_with fail
    refine (HC.out _).mono ?_
    rintro e V ⟨rfl, hV⟩
    have c0 := (hV.block _ (by simp; omega)).trans (al_old (new_heap w _) _)
    have c1 := (hV.block _ (by simp)).trans (al_1 w _ _)
    have HV : Hid (Below w.heap.size w V) := low_trans (((Below.refl _ _).alloc (Nat.le_refl _) _).alloc (by simp) _) hV
    have hs0 : w.heap.size < V.heap.size := (Array.getElem?_eq_some_iff.1 c0).1
    have hs1 : w.heap.size + 1 < V.heap.size := (Array.getElem?_eq_some_iff.1 c1).1
    clear hV
    have s0 := cell_h (k := 0) c0 rfl
    have s1 := cell_h (k := 1) c0 rfl
    have s2 := cell_h (k := 2) c0 rfl
    have s3 := cell_h (k := 3) c0 rfl
    have s4 := cell_h (k := 4) c0 rfl
    have s5 := cell_h (k := 5) c0 rfl
    have s6 := cell_h (k := 6) c0 rfl
    have s7 := cell_h (k := 7) c0 rfl
    clear HC
    go_wp2_with fail
    refine (HI.out false _ (by simp; omega)).mono ?_
    rintro e w9 ⟨rfl, rfl⟩
    clear HI
    have d0 := cell_h (k := 0) c1 rfl
    have d1 := cell_h (k := 1) c1 rfl
    have d2 := cell_h (k := 2) c1 rfl
    have d3 := cell_h (k := 3) c1 rfl
    have d4 := cell_h (k := 4) c1 rfl
    have d5 := cell_h (k := 5) c1 rfl
    have d6 := cell_h (k := 6) c1 rfl
    have d7 := cell_h (k := 7) c1 rfl
    have f1 := fz_h c1
    go_wp2_with fail
    refine bodyPost_ret (v := .tuple #[.agg #[.bool _, .bool _, .bool _, .bool _, .bool _, .int .i64 _, .int .i64 _, .int .i64 _], .int .i64 _]) (by simp [results, Tryz.f9, go_sem, d0, d1, d2, d3, d4, d5, d6, d7, Tp.none]) rfl ⟨rfl, ?_⟩
    iterate 8 refine Below.setCell ?_ (by simp) _
    exact HV.out
  · have HA2 := HA hok n hn
    have HH2 := HH hok n hn
    clear HA HH
    rcases hw with ⟨rfl, rfl⟩ | ⟨rfl, hz, rfl⟩ | ⟨rfl, hz, rfl⟩
    · clear HA2 HH2
      go_enter Tryz.func9, Tryz.ntmps9
      go_wp2_with fail
      refine (HC.out _).mono ?_
      rintro e V ⟨rfl, hV⟩
      have c0 := (hV.block _ (by simp; omega)).trans (al_old (new_heap w _) _)
      have c1 := (hV.block _ (by simp)).trans (al_1 w _ _)
      have HV : Hid (Below w.heap.size w V) := low_trans (((Below.refl _ _).alloc (Nat.le_refl _) _).alloc (by simp) _) hV
      have hs0 : w.heap.size < V.heap.size := (Array.getElem?_eq_some_iff.1 c0).1
      have hs1 : w.heap.size + 1 < V.heap.size := (Array.getElem?_eq_some_iff.1 c1).1
      clear hV
      have s0 := cell_h (k := 0) c0 rfl
      have s1 := cell_h (k := 1) c0 rfl
      have s2 := cell_h (k := 2) c0 rfl
      have s3 := cell_h (k := 3) c0 rfl
      have s4 := cell_h (k := 4) c0 rfl
      have s5 := cell_h (k := 5) c0 rfl
      have s6 := cell_h (k := 6) c0 rfl
      have s7 := cell_h (k := 7) c0 rfl
      clear HC
      go_wp2_with fail
      refine (HI.out true _ (by simp; omega)).mono ?_
      rintro e w9 ⟨rfl, rfl⟩
      clear HI
      go_wp2_with fail
      refine (HS.out _).mono ?_
      rintro e V2 ⟨rfl, hV⟩
      clear s0 s1 s2 s3 s4 s5 s6 s7
      have C0 := Lib.hid ((hV.block _ hs0).trans c0)
      have C1 := Lib.hid ((hV.block _ hs1).trans c1)
      have HU := Lib.hid (low_trans HV.out hV)
      clear hV c0 c1 HV hs0 hs1
      have c0 := C0.out
      have c1 := C1.out
      have HV := HU
      have hs0 : w.heap.size < V2.heap.size := (Array.getElem?_eq_some_iff.1 c0).1
      have hs1 : w.heap.size + 1 < V2.heap.size := (Array.getElem?_eq_some_iff.1 c1).1
      clear C0 C1 HU
      have s0 := cell_h (k := 0) c0 rfl
      have s1 := cell_h (k := 1) c0 rfl
      have s2 := cell_h (k := 2) c0 rfl
      have s3 := cell_h (k := 3) c0 rfl
      have s4 := cell_h (k := 4) c0 rfl
      have s5 := cell_h (k := 5) c0 rfl
      have s6 := cell_h (k := 6) c0 rfl
      have s7 := cell_h (k := 7) c0 rfl
      clear HS
      have d0 := cell_h (k := 0) c1 rfl
      have d1 := cell_h (k := 1) c1 rfl
      have d2 := cell_h (k := 2) c1 rfl
      have d3 := cell_h (k := 3) c1 rfl
      have d4 := cell_h (k := 4) c1 rfl
      have d5 := cell_h (k := 5) c1 rfl
      have d6 := cell_h (k := 6) c1 rfl
      have d7 := cell_h (k := 7) c1 rfl
      have f1 := fz_h c1
      go_wp2_with fail
      refine bodyPost_ret (v := .tuple #[.agg #[.bool _, .bool _, .bool _, .bool _, .bool _, .int .i64 _, .int .i64 _, .int .i64 _], .int .i64 _]) (by simp [results, Tryz.f9, go_sem, d0, d1, d2, d3, d4, d5, d6, d7, Tp.none]) rfl ⟨rfl, ?_⟩
      iterate 8 refine Below.setCell ?_ (by simp) _
      exact HV.out
    · rw [hz] at HA2
      clear HH2
      go_enter Tryz.func9, Tryz.ntmps9
      go_wp2_with fail
      refine (HC.out _).mono ?_
      rintro e V ⟨rfl, hV⟩
      have c0 := (hV.block _ (by simp; omega)).trans (al_old (new_heap w _) _)
      have c1 := (hV.block _ (by simp)).trans (al_1 w _ _)
      have HV : Hid (Below w.heap.size w V) := low_trans (((Below.refl _ _).alloc (Nat.le_refl _) _).alloc (by simp) _) hV
      have hs0 : w.heap.size < V.heap.size := (Array.getElem?_eq_some_iff.1 c0).1
      have hs1 : w.heap.size + 1 < V.heap.size := (Array.getElem?_eq_some_iff.1 c1).1
      clear hV
      have s0 := cell_h (k := 0) c0 rfl
      have s1 := cell_h (k := 1) c0 rfl
      have s2 := cell_h (k := 2) c0 rfl
      have s3 := cell_h (k := 3) c0 rfl
      have s4 := cell_h (k := 4) c0 rfl
      have s5 := cell_h (k := 5) c0 rfl
      have s6 := cell_h (k := 6) c0 rfl
      have s7 := cell_h (k := 7) c0 rfl
      clear HC
      go_wp2_with fail
      refine (HI.out true _ (by simp; omega)).mono ?_
      rintro e w9 ⟨rfl, rfl⟩
      clear HI
      go_wp2_with fail
      refine (HS.out _).mono ?_
      rintro e V2 ⟨rfl, hV⟩
      clear s0 s1 s2 s3 s4 s5 s6 s7
      have C0 := Lib.hid ((hV.block _ hs0).trans c0)
      have C1 := Lib.hid ((hV.block _ hs1).trans c1)
      have HU := Lib.hid (low_trans HV.out hV)
      clear hV c0 c1 HV hs0 hs1
      have c0 := C0.out
      have c1 := C1.out
      have HV := HU
      have hs0 : w.heap.size < V2.heap.size := (Array.getElem?_eq_some_iff.1 c0).1
      have hs1 : w.heap.size + 1 < V2.heap.size := (Array.getElem?_eq_some_iff.1 c1).1
      clear C0 C1 HU
      have s0 := cell_h (k := 0) c0 rfl
      have s1 := cell_h (k := 1) c0 rfl
      have s2 := cell_h (k := 2) c0 rfl
      have s3 := cell_h (k := 3) c0 rfl
      have s4 := cell_h (k := 4) c0 rfl
      have s5 := cell_h (k := 5) c0 rfl
      have s6 := cell_h (k := 6) c0 rfl
      have s7 := cell_h (k := 7) c0 rfl
      clear HS
      go_wp2_with fail
      refine (HA2.out _).mono ?_
      rintro e V3 ⟨rfl, hV⟩
      clear s0 s1 s2 s3 s4 s5 s6 s7
      have C0 := Lib.hid ((hV.block _ hs0).trans c0)
      have C1 := Lib.hid ((hV.block _ hs1).trans c1)
      have HU := Lib.hid (low_trans HV.out hV)
      clear hV c0 c1 HV hs0 hs1
      have c0 := C0.out
      have c1 := C1.out
      have HV := HU
      have hs0 : w.heap.size < V3.heap.size := (Array.getElem?_eq_some_iff.1 c0).1
      have hs1 : w.heap.size + 1 < V3.heap.size := (Array.getElem?_eq_some_iff.1 c1).1
      clear C0 C1 HU
      have s0 := cell_h (k := 0) c0 rfl
      have s1 := cell_h (k := 1) c0 rfl
      have s2 := cell_h (k := 2) c0 rfl
      have s3 := cell_h (k := 3) c0 rfl
      have s4 := cell_h (k := 4) c0 rfl
      have s5 := cell_h (k := 5) c0 rfl
      have s6 := cell_h (k := 6) c0 rfl
      have s7 := cell_h (k := 7) c0 rfl
      clear HA2
      have d0 := cell_h (k := 0) c1 rfl
      have d1 := cell_h (k := 1) c1 rfl
      have d2 := cell_h (k := 2) c1 rfl
      have d3 := cell_h (k := 3) c1 rfl
      have d4 := cell_h (k := 4) c1 rfl
      have d5 := cell_h (k := 5) c1 rfl
      have d6 := cell_h (k := 6) c1 rfl
      have d7 := cell_h (k := 7) c1 rfl
      have f1 := fz_h c1
      go_wp2_with fail
      refine bodyPost_ret (v := .tuple #[.agg #[.bool _, .bool _, .bool _, .bool _, .bool _, .int .i64 _, .int .i64 _, .int .i64 _], .int .i64 _]) (by simp [results, Tryz.f9, go_sem, d0, d1, d2, d3, d4, d5, d6, d7, Tp.none]) rfl ⟨rfl, ?_⟩
      iterate 8 refine Below.setCell ?_ (by simp) _
      exact HV.out
    · rw [hz] at HA2
      obtain ⟨x, hx⟩ : ∃ x, y n = x := ⟨_, rfl⟩
      rw [hx] at HH2 ⊢
      clear hx
      go_enter Tryz.func9, Tryz.ntmps9
      go_wp2_with fail
      refine (HC.out _).mono ?_
      rintro e V ⟨rfl, hV⟩
      have c0 := (hV.block _ (by simp; omega)).trans (al_old (new_heap w _) _)
      have c1 := (hV.block _ (by simp)).trans (al_1 w _ _)
      have HV : Hid (Below w.heap.size w V) := low_trans (((Below.refl _ _).alloc (Nat.le_refl _) _).alloc (by simp) _) hV
      have hs0 : w.heap.size < V.heap.size := (Array.getElem?_eq_some_iff.1 c0).1
      have hs1 : w.heap.size + 1 < V.heap.size := (Array.getElem?_eq_some_iff.1 c1).1
      clear hV
      have s0 := cell_h (k := 0) c0 rfl
      have s1 := cell_h (k := 1) c0 rfl
      have s2 := cell_h (k := 2) c0 rfl
      have s3 := cell_h (k := 3) c0 rfl
      have s4 := cell_h (k := 4) c0 rfl
      have s5 := cell_h (k := 5) c0 rfl
      have s6 := cell_h (k := 6) c0 rfl
      have s7 := cell_h (k := 7) c0 rfl
      clear HC
      go_wp2_with fail
      refine (HI.out true _ (by simp; omega)).mono ?_
      rintro e w9 ⟨rfl, rfl⟩
      clear HI
      go_wp2_with fail
      refine (HS.out _).mono ?_
      rintro e V2 ⟨rfl, hV⟩
      clear s0 s1 s2 s3 s4 s5 s6 s7
      have C0 := Lib.hid ((hV.block _ hs0).trans c0)
      have C1 := Lib.hid ((hV.block _ hs1).trans c1)
      have HU := Lib.hid (low_trans HV.out hV)
      clear hV c0 c1 HV hs0 hs1
      have c0 := C0.out
      have c1 := C1.out
      have HV := HU
      have hs0 : w.heap.size < V2.heap.size := (Array.getElem?_eq_some_iff.1 c0).1
      have hs1 : w.heap.size + 1 < V2.heap.size := (Array.getElem?_eq_some_iff.1 c1).1
      clear C0 C1 HU
      have s0 := cell_h (k := 0) c0 rfl
      have s1 := cell_h (k := 1) c0 rfl
      have s2 := cell_h (k := 2) c0 rfl
      have s3 := cell_h (k := 3) c0 rfl
      have s4 := cell_h (k := 4) c0 rfl
      have s5 := cell_h (k := 5) c0 rfl
      have s6 := cell_h (k := 6) c0 rfl
      have s7 := cell_h (k := 7) c0 rfl
      clear HS
      go_wp2_with fail
      refine (HA2.out _).mono ?_
      rintro e V3 ⟨rfl, hV⟩
      clear s0 s1 s2 s3 s4 s5 s6 s7
      have C0 := Lib.hid ((hV.block _ hs0).trans c0)
      have C1 := Lib.hid ((hV.block _ hs1).trans c1)
      have HU := Lib.hid (low_trans HV.out hV)
      clear hV c0 c1 HV hs0 hs1
      have c0 := C0.out
      have c1 := C1.out
      have HV := HU
      have hs0 : w.heap.size < V3.heap.size := (Array.getElem?_eq_some_iff.1 c0).1
      have hs1 : w.heap.size + 1 < V3.heap.size := (Array.getElem?_eq_some_iff.1 c1).1
      clear C0 C1 HU
      have s0 := cell_h (k := 0) c0 rfl
      have s1 := cell_h (k := 1) c0 rfl
      have s2 := cell_h (k := 2) c0 rfl
      have s3 := cell_h (k := 3) c0 rfl
      have s4 := cell_h (k := 4) c0 rfl
      have s5 := cell_h (k := 5) c0 rfl
      have s6 := cell_h (k := 6) c0 rfl
      have s7 := cell_h (k := 7) c0 rfl
      clear HA2
      go_wp2_with fail
      refine (HH2.out _).mono ?_
      rintro e V4 ⟨rfl, hV⟩
      clear s0 s1 s2 s3 s4 s5 s6 s7
      have C0 := Lib.hid ((hV.block _ hs0).trans c0)
      have C1 := Lib.hid ((hV.block _ hs1).trans c1)
      have HU := Lib.hid (low_trans HV.out hV)
      clear hV c0 c1 HV hs0 hs1
      have c0 := C0.out
      have c1 := C1.out
      have HV := HU
      have hs0 : w.heap.size < V4.heap.size := (Array.getElem?_eq_some_iff.1 c0).1
      have hs1 : w.heap.size + 1 < V4.heap.size := (Array.getElem?_eq_some_iff.1 c1).1
      clear C0 C1 HU
      have s0 := cell_h (k := 0) c0 rfl
      have s1 := cell_h (k := 1) c0 rfl
      have s2 := cell_h (k := 2) c0 rfl
      have s3 := cell_h (k := 3) c0 rfl
      have s4 := cell_h (k := 4) c0 rfl
      have s5 := cell_h (k := 5) c0 rfl
      have s6 := cell_h (k := 6) c0 rfl
      have s7 := cell_h (k := 7) c0 rfl
      clear HH2
      have d0 := cell_h (k := 0) c1 rfl
      have d1 := cell_h (k := 1) c1 rfl
      have d2 := cell_h (k := 2) c1 rfl
      have d3 := cell_h (k := 3) c1 rfl
      have d4 := cell_h (k := 4) c1 rfl
      have d5 := cell_h (k := 5) c1 rfl
      have d6 := cell_h (k := 6) c1 rfl
      have d7 := cell_h (k := 7) c1 rfl
      have f1 := fz_h c1
      go_wp2_with fail
      refine bodyPost_ret (v := .tuple #[.agg #[.bool _, .bool _, .bool _, .bool _, .bool _, .int .i64 _, .int .i64 _, .int .i64 _], .int .i64 _]) (by simp [results, Tryz.f9, go_sem, d0, d1, d2, d3, d4, d5, d6, d7]) rfl ⟨rfl, ?_⟩
      iterate 8 refine Below.setCell ?_ (by simp) _
      exact HV.out
end Go.Proofs.YtmdniebedflpbaaGreatDoor
