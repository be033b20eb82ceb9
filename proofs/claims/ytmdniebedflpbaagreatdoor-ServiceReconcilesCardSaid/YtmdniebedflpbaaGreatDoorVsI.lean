/-
  WALKS: traps: Route (the program).
-/
import Derived.Test.YtmdniebedflpbaaGreatDoorVsH
namespace Go.Proofs.YtmdniebedflpbaaGreatDoor
open Go.RowKit

def Tp.ad (t : Tp) (nd : Bool) (c : Nat) : Tp := if nd = true then t.beh c else t
def adL (L : List Int) (nd : Bool) (c : Nat) : List Int := if nd = true then L ++ [(c : Int)] else L
theorem add_of (w W : World) (bt br : Nat) (t : Tp) (L : List Int) (nd : Bool) (c : Nat) (h : Rts w W bt br t L) (ht : t.ok) (hc : c ≤ 12) (hL : L.length ≤ 100) :
    Calls Tryz.prog 49 #[.bool nd, .int .i64 (c : Int), .pointer (some ⟨br, 0, none⟩), .pointer (some ⟨bt, 0, none⟩)] W fun e W' => e = .returned (.tuple #[]) ∧ Rts w W' bt br (t.ad nd c) (adL L nd c) := by
  cases nd
  · exact add_no w W bt br t L c h
  · exact add_yes w W bt br t L c h ht hc hL
theorem adL_len (L : List Int) (nd : Bool) (c : Nat) : (adL L nd c).length ≤ L.length + 1 := by
  unfold adL; split <;> simp
/-- The route of a safe trap whose door is shut. -/
def Tp.route (t : Tp) : List Int :=
  (adL (adL (adL (adL [] t.m 1) t.k 3) (!t.v) 4) (!t.u && decide (0 < t.g)) 6 ++ List.replicate t.g.toNat 12 ++ (if t.u = true ∨ 0 < t.g then [7] else []) ++ List.replicate (t.p - t.g).toNat 12) ++ [8]
def Tp.rt (t : Tp) : List Int × Int := if t.ok then if t.safe = true then if t.d = true then ([], 0) else (t.route, 0) else ([], 100) else ([], 1)
theorem Tp.rt_ways (t : Tp) : (¬t.ok ∧ t.err = 1 ∧ t.rt = ([], 1)) ∨ (t.ok ∧ t.err = 0 ∧ t.safe = false ∧ t.rt = ([], 100)) ∨ (t.ok ∧ t.err = 0 ∧ t.safe = true ∧ t.d = true ∧ t.rt = ([], 0)) ∨ (t.ok ∧ t.err = 0 ∧ t.safe = true ∧ t.d = false ∧ t.rt = (t.route, 0)) := by
  by_cases h : t.ok
  · have e : t.err = 0 := if_pos h
    unfold Tp.rt
    rw [if_pos h]
    cases hs : t.safe
    · exact .inr (.inl ⟨h, e, rfl, rfl⟩)
    · cases hd : t.d
      · exact .inr (.inr (.inr ⟨h, e, rfl, rfl, by simp⟩))
      · exact .inr (.inr (.inl ⟨h, e, rfl, rfl, by simp⟩))
  · exact .inl ⟨h, if_neg h, if_neg h⟩
/-- What Route returns. -/
def RtEnd (w : World) (r : List Int × Int) (e : Ending) (W : World) : Prop := ∃ v, e = .returned (.tuple #[v, .int .i64 r.2]) ∧ W.ownsRow w.heap.size 3 1 v r.1.length (irw r.1) ∧ Below w.heap.size w W
theorem own_base {w : World} {base base' : Nat} {e : TypeId} {size : Nat} {v : Value} {k : Nat} {xs : List Value} (h : w.ownsRow base e size v k xs) (hb : base' ≤ base) : w.ownsRow base' e size v k xs := by
  obtain ⟨hl, h⟩ := h
  refine ⟨hl, ?_⟩
  rcases h with h | ⟨g, cap, cur, h0, h1, h2⟩
  · exact .inl h
  · exact .inr ⟨g, cap, cur, h0, Nat.le_trans hb h1, h2⟩
theorem tick_vent (u d : Bool) (p g i : Int) : (Tp.mk false false true u d p g i).tick = ⟨false, false, true, u, d, max (p - 1) 0, if u = true then max (g - 1) 0 else g, i⟩ := rfl
theorem ad_gas {p g i : Int} {n : Nat} (hg : 0 < g - n) : (Tp.mk false false true true false (max (p - n) 0) (g - n) i).ad true 12 = ⟨false, false, true, true, false, max (p - (n + 1 : Nat)) 0, g - (n + 1 : Nat), i⟩ := by
  have e : (Tp.mk false false true true false (max (p - n) 0) (g - n) i).ad true 12 = (Tp.mk false false true true false (max (p - n) 0) (g - n) i).tick := rfl
  rw [e, tick_vent, if_pos rfl]
  have e1 : max (max (p - n) 0 - 1) 0 = max (p - (n + 1 : Nat)) 0 := by omega
  have e2 : max (g - n - 1) 0 = g - (n + 1 : Nat) := by omega
  rw [e1, e2]
theorem ad_pres {q i : Int} {n : Nat} (hq : 0 < q - n) : (Tp.mk false false true false false (q - n) 0 i).ad true 12 = ⟨false, false, true, false, false, q - (n + 1 : Nat), 0, i⟩ := by
  have e : (Tp.mk false false true false false (q - n) 0 i).ad true 12 = (Tp.mk false false true false false (q - n) 0 i).tick := rfl
  rw [e, tick_vent, if_neg (by decide)]
  have e1 : max (q - n - 1) 0 = q - (n + 1 : Nat) := by omega
  rw [e1]
theorem adL_rep (L : List Int) (n : Nat) : adL (L ++ List.replicate n 12) true 12 = L ++ List.replicate (n + 1) 12 := by
  unfold adL
  rw [if_pos rfl, List.append_assoc, List.replicate_succ']
  rfl
def gasOf (w : World) (b : Nat) : Nat := match w.cell? ⟨b, 6, none⟩ with
  | some (.int _ x) => x.toNat
  | _ => 0
def presOf (w : World) (b : Nat) : Nat := match w.cell? ⟨b, 5, none⟩ with
  | some (.int _ x) => x.toNat
  | _ => 0

set_option maxRecDepth 100000 in
set_option maxHeartbeats 16000000 in
theorem route_of (w : World) (t : Tp) : Calls Tryz.prog 11 #[t.val] w (RtEnd w t.rt) := by
  have HC : Hid (∀ W, Calls Tryz.prog 13 #[t.val] W fun e w' => e = .returned (.int .i64 t.err) ∧ Below W.heap.size W w') := fun W => checkTrap_of W t
  have HS : Hid (∀ W, Calls Tryz.prog 15 #[t.val] W fun e w' => e = .returned (.bool t.safe) ∧ Below W.heap.size W w') := fun W => safe_of W t
  have hw := t.rt_ways
  obtain ⟨r, hr⟩ : ∃ r, t.rt = r := ⟨_, rfl⟩
  rw [hr] at hw ⊢
  clear hr
  obtain ⟨e0, he0⟩ : ∃ e0, t.err = e0 := ⟨_, rfl⟩
  rw [he0] at HC hw
  obtain ⟨s0, hs0⟩ : ∃ s0, t.safe = s0 := ⟨_, rfl⟩
  rw [hs0] at HS hw
  clear he0 hs0
  rcases hw with ⟨_, rfl, rfl⟩ | ⟨_, rfl, rfl, rfl⟩ | ⟨_, rfl, rfl, hd, rfl⟩ | ⟨hok, rfl, rfl, hd, rfl⟩
  · obtain ⟨m, k, v, u, d, p, g, i⟩ := t
    dsimp only [Tp.val] at HC ⊢
    clear HS
    go_enter Tryz.func11, Tryz.ntmps11
    go_wp2_with fail
    refine (HC.out _).mono ?_
    rintro e V ⟨rfl, hV⟩
    have HV : Hid (Below w.heap.size w V) := low_trans ((Below.refl _ _).alloc (Nat.le_refl _) _) hV
    clear hV HC
    go_wp2_with fail
    refine bodyPost_ret (v := .tuple #[.slice none 0 0, .int .i64 1]) (by simp [results, Tryz.f11, go_sem]) rfl ⟨_, rfl, World.ownsRow_nil _ _ _ _, HV.out⟩
  · obtain ⟨m, k, v, u, d, p, g, i⟩ := t
    dsimp only [Tp.val] at HC HS ⊢
    go_enter Tryz.func11, Tryz.ntmps11
    go_wp2_with fail
    refine (HC.out _).mono ?_
    rintro e V ⟨rfl, hV⟩
    have HV : Hid (Below w.heap.size w V) := low_trans ((Below.refl _ _).alloc (Nat.le_refl _) _) hV
    have c0 := (hV.block _ (by simp)).trans (new_heap w _)
    have s0 := cell_h (k := 0) c0 rfl
    have s1 := cell_h (k := 1) c0 rfl
    have s2 := cell_h (k := 2) c0 rfl
    have s3 := cell_h (k := 3) c0 rfl
    have s4 := cell_h (k := 4) c0 rfl
    have s5 := cell_h (k := 5) c0 rfl
    have s6 := cell_h (k := 6) c0 rfl
    have s7 := cell_h (k := 7) c0 rfl
    clear hV HC c0
    go_wp2_with fail
    refine (HS.out _).mono ?_
    rintro e V2 ⟨rfl, hV⟩
    have HV2 := Lib.hid (low_trans HV.out hV)
    clear hV HS HV s0 s1 s2 s3 s4 s5 s6 s7
    go_wp2_with fail
    refine bodyPost_ret (v := .tuple #[.slice none 0 0, .int .i64 100]) (by simp [results, Tryz.f11, go_sem]) rfl ⟨_, rfl, World.ownsRow_nil _ _ _ _, HV2.out⟩
  · obtain ⟨m, k, v, u, d, p, g, i⟩ := t
    dsimp only at hd
    subst hd
    dsimp only [Tp.val] at HC HS ⊢
    go_enter Tryz.func11, Tryz.ntmps11
    go_wp2_with fail
    refine (HC.out _).mono ?_
    rintro e V ⟨rfl, hV⟩
    have HV : Hid (Below w.heap.size w V) := low_trans ((Below.refl _ _).alloc (Nat.le_refl _) _) hV
    have c0 := (hV.block _ (by simp)).trans (new_heap w _)
    have s0 := cell_h (k := 0) c0 rfl
    have s1 := cell_h (k := 1) c0 rfl
    have s2 := cell_h (k := 2) c0 rfl
    have s3 := cell_h (k := 3) c0 rfl
    have s4 := cell_h (k := 4) c0 rfl
    have s5 := cell_h (k := 5) c0 rfl
    have s6 := cell_h (k := 6) c0 rfl
    have s7 := cell_h (k := 7) c0 rfl
    have C0 := Lib.hid c0
    clear hV HC c0
    go_wp2_with fail
    refine (HS.out _).mono ?_
    rintro e V2 ⟨rfl, hV⟩
    have HV2 := Lib.hid (low_trans HV.out hV)
    have c0 := (hV.block _ (Array.getElem?_eq_some_iff.1 C0.out).1).trans C0.out
    clear hV HS HV s0 s1 s2 s3 s4 s5 s6 s7 C0
    have s4 := cell_h (k := 4) c0 rfl
    go_wp2_with fail
    refine bodyPost_ret (v := .tuple #[.slice none 0 0, .int .i64 0]) (by simp [results, Tryz.f11, go_sem]) rfl ⟨_, rfl, World.ownsRow_nil _ _ _ _, HV2.out⟩
  · obtain ⟨m, k, v, u, d, p, g, i⟩ := t
    dsimp only at hd
    subst hd
    obtain ⟨hp, hg, hi⟩ := hok
    dsimp only at hp hg hi
    have HE : Hid (∀ L, (Tp.mk m k v u false p g i).route = L → (Tp.mk m k v u false p g i).route = L) := fun _ h => h
    dsimp only [Tp.val] at HC HS ⊢
    go_enter Tryz.func11, Tryz.ntmps11
    go_wp2_with fail
    refine (HC.out _).mono ?_
    rintro e V ⟨rfl, hV⟩
    have HV : Hid (Below w.heap.size w V) := low_trans ((Below.refl _ _).alloc (Nat.le_refl _) _) hV
    have c0 := (hV.block _ (by simp)).trans (new_heap w _)
    have s0 := cell_h (k := 0) c0 rfl
    have s1 := cell_h (k := 1) c0 rfl
    have s2 := cell_h (k := 2) c0 rfl
    have s3 := cell_h (k := 3) c0 rfl
    have s4 := cell_h (k := 4) c0 rfl
    have s5 := cell_h (k := 5) c0 rfl
    have s6 := cell_h (k := 6) c0 rfl
    have s7 := cell_h (k := 7) c0 rfl
    have C0 := Lib.hid c0
    clear hV HC c0
    go_wp2_with fail
    refine (HS.out _).mono ?_
    rintro e V2 ⟨rfl, hV⟩
    have HV2 := Lib.hid (low_trans HV.out hV)
    have c0 := (hV.block _ (Array.getElem?_eq_some_iff.1 C0.out).1).trans C0.out
    have hlt : w.heap.size < V2.heap.size := (Array.getElem?_eq_some_iff.1 c0).1
    clear hV HS HV s0 s1 s2 s3 s4 s5 s6 s7 C0
    have s4 := cell_h (k := 4) c0 rfl
    have C0 := Lib.hid c0
    clear c0
    go_upto_region 8 with fail
    obtain ⟨W, hW⟩ : ∃ W, V2.alloc (.cells #[.slice none 0 0] 30) = W := ⟨_, rfl⟩
    rw [hW]
    have H0 : Hid (Rts w W w.heap.size V2.heap.size ⟨m, k, v, u, false, p, g, i⟩ []) := ⟨Nat.le_refl _, hlt, by rw [← hW]; exact al_old C0.out _, ⟨_, by rw [← hW]; exact new_heap _ _, World.ownsRow_nil _ _ _ _⟩, by rw [← hW]; exact HV2.out.alloc HV2.out.size _⟩
    generalize V2.heap.size = br at H0 ⊢
    clear hW C0 HV2 hlt s4
    have b0 := cell_h (k := 0) H0.out.box rfl
    have ok0 : (Tp.mk m k v u false p g i).ok := ⟨hp, hg, hi⟩
    obtain ⟨L0, hL0⟩ : ∃ L0 : List Int, [] = L0 := ⟨_, rfl⟩
    have hl0 : L0.length = 0 := by rw [← hL0]; rfl
    rw [hL0] at H0
    go_wp2_with fail
    refine (add_of w W w.heap.size br _ L0 m 1 H0.out ok0 (by decide) (by omega)).mono ?_
    rintro e W1 ⟨rfl, h1⟩
    have e1 : (Tp.mk m k v u false p g i).ad m 1 = ⟨false, k, v, u, false, p, g, i⟩ := by cases m <;> rfl
    rw [e1] at h1
    have hl1 := adL_len L0 m 1
    obtain ⟨L1, hL1⟩ : ∃ L1, adL L0 m 1 = L1 := ⟨_, rfl⟩
    rw [hL1] at h1 hl1
    have H1 := Lib.hid h1
    clear h1 e1 H0 b0
    have b1 := cell_h (k := 1) H1.out.box rfl
    go_wp2_with fail
    refine (add_of w W1 w.heap.size br _ L1 k 3 H1.out ⟨hp, hg, hi⟩ (by decide) (by omega)).mono ?_
    rintro e W2 ⟨rfl, h2⟩
    have e2 : (Tp.mk false k v u false p g i).ad k 3 = ⟨false, false, v, u, false, p, g, i⟩ := by cases k <;> rfl
    rw [e2] at h2
    have hl2 := adL_len L1 k 3
    obtain ⟨L2, hL2⟩ : ∃ L2, adL L1 k 3 = L2 := ⟨_, rfl⟩
    rw [hL2] at h2 hl2
    have H2 := Lib.hid h2
    clear h2 e2 H1 b1
    have b2 := cell_h (k := 2) H2.out.box rfl
    go_wp2_with fail
    refine (add_of w W2 w.heap.size br _ L2 (!v) 4 H2.out ⟨hp, hg, hi⟩ (by decide) (by omega)).mono ?_
    rintro e W3 ⟨rfl, h3⟩
    have e3 : (Tp.mk false false v u false p g i).ad (!v) 4 = ⟨false, false, true, u, false, p, g, i⟩ := by cases v <;> rfl
    rw [e3] at h3
    have hl3 := adL_len L2 (!v) 4
    obtain ⟨L3, hL3⟩ : ∃ L3, adL L2 (!v) 4 = L3 := ⟨_, rfl⟩
    rw [hL3] at h3 hl3
    have H3 := Lib.hid h3
    clear h3 e3 H2 b2
    have b3 := cell_h (k := 3) H3.out.box rfl
    have b6 := cell_h (k := 6) H3.out.box rfl
    obtain ⟨nd, hnd⟩ : ∃ nd, (!u && decide (0 < g)) = nd := ⟨_, rfl⟩
    obtain ⟨u4, hu4⟩ : ∃ u4 : Bool, (u || decide (0 < g)) = u4 := ⟨_, rfl⟩
    have HADD : Hid (Calls Tryz.prog 49 #[.bool nd, .int .i64 6, .pointer (some ⟨br, 0, none⟩), .pointer (some ⟨w.heap.size, 0, none⟩)] W3 fun e W' => e = .returned (.tuple #[]) ∧ Rts w W' w.heap.size br ⟨false, false, true, u4, false, p, g, i⟩ (adL L3 nd 6)) := by
      have q := add_of w W3 w.heap.size br _ L3 nd 6 H3.out ⟨hp, hg, hi⟩ (by decide) (by omega)
      have e4 : (Tp.mk false false true u false p g i).ad nd 6 = ⟨false, false, true, u4, false, p, g, i⟩ := by
        rw [← hnd, ← hu4]
        unfold Tp.ad Tp.beh
        cases u <;> by_cases h : 0 < g <;> simp [h]
      rwa [e4] at q
    have hug : 0 < g → u4 = true := fun h => by rw [← hu4]; simp [h]
    have HUG := Lib.hid hug
    clear hug
    have hl4 := adL_len L3 nd 6
    obtain ⟨L4, hL4⟩ : ∃ L4, adL L3 nd 6 = L4 := ⟨_, rfl⟩
    rw [hL4] at HADD hl4
    have HN : Hid ((u = true ∧ nd = false) ∨ (u = false ∧ 0 < g ∧ nd = true) ∨ (u = false ∧ decide (0 < g) = false ∧ nd = false)) := by
      cases u
      · by_cases h : 0 < g
        · exact .inr (.inl ⟨rfl, h, by rw [← hnd]; simp [h]⟩)
        · exact .inr (.inr ⟨rfl, by simpa using h, by rw [← hnd]; simp [h]⟩)
      · exact .inl ⟨rfl, by rw [← hnd]; rfl⟩
    have hL : (Tp.mk m k v u false p g i).route = (L4 ++ List.replicate g.toNat 12 ++ (if u4 = true then [7] else []) ++ List.replicate (p - g).toNat 12) ++ [8] := by
      rw [← hL4, ← hL3, ← hL2, ← hL1, ← hL0, ← hnd, ← hu4]
      unfold Tp.route
      cases u <;> by_cases h : 0 < g <;> simp [h]
    have HL := Lib.hid hL
    clear HE hL
    obtain ⟨RL, hRL⟩ : ∃ RL, (Tp.mk m k v u false p g i).route = RL := ⟨_, rfl⟩
    rw [hRL] at HL ⊢
    have HRL := Lib.hid hRL
    clear hRL hnd hu4 hL0 hL1 hL2 hL3 hL4 H3
    rcases HN.out with ⟨rfl, rfl⟩ | ⟨rfl, h5, rfl⟩ | ⟨rfl, h5, rfl⟩
    all_goals
      clear HN
      go_wp2_with fail
      refine HADD.out.mono ?_
      rintro e W4 ⟨rfl, h4⟩
      have H4 := Lib.hid h4
      clear h4 HADD b3 b6
      go_wp2_with fail
      go_loopw [45] (fun vx wr => ∃ n : Nat, n ≤ g.toNat ∧ Hid (Rts w wr w.heap.size br ⟨false, false, true, u4, false, max (p - n) 0, g - n, i⟩ (L4 ++ List.replicate n 12))) (fun vx wr => gasOf wr w.heap.size)
      case atStart => exact ⟨0, by omega, Lib.hid (by simpa [Int.max_eq_left hp.1] using H4.out)⟩
      case round =>
        obtain ⟨n, hn, H5⟩ := hrel
        have b6 := cell_h (k := 6) H5.out.box rfl
        by_cases hlt : n < g.toNat
        · have hu := HUG.out (by omega)
          subst hu
          have hpos : g - n > 0 := by omega
          have hll : (L4 ++ List.replicate n (12 : Int)).length ≤ 100 := by simp; omega
          have HA : Hid (Calls Tryz.prog 49 #[.bool true, .int .i64 12, .pointer (some ⟨br, 0, none⟩), .pointer (some ⟨w.heap.size, 0, none⟩)] wr fun e W' => e = .returned (.tuple #[]) ∧ Rts w W' w.heap.size br ⟨false, false, true, true, false, max (p - (n + 1 : Nat)) 0, g - (n + 1 : Nat), i⟩ (L4 ++ List.replicate (n + 1) 12)) := by
            have q := add_of w wr w.heap.size br _ _ true 12 H5.out ⟨⟨by simp only; omega, by simp only; omega⟩, ⟨by simp only; omega, by simp only; omega⟩, hi⟩ (by decide) hll
            rw [ad_gas (by omega), adL_rep] at q
            exact q
          have hgas : gasOf wr w.heap.size = (g - n).toNat := by unfold gasOf; rw [b6]; rfl
          go_wp2_with fail
          refine HA.out.mono ?_
          rintro e W6 ⟨rfl, h6⟩
          have H6 := Lib.hid h6
          have c6 := cell_h (k := 6) h6.box rfl
          have hgas2 : gasOf W6 w.heap.size = (g - (n + 1 : Nat)).toNat := by unfold gasOf; rw [c6]; rfl
          clear h6 HA c6 b6
          go_wp2_with fail
          exact ⟨⟨n + 1, by omega, H6.out⟩, by rw [hgas, hgas2]; omega⟩
        · obtain rfl : n = g.toNat := by omega
          have hz : g - (g.toNat : Nat) = 0 := by omega
          have hz2 : max (p - (g.toNat : Nat)) 0 = max (p - g) 0 := by omega
          rw [hz, hz2] at H5
          rw [hz] at b6
          obtain ⟨q, hq⟩ : ∃ q, max (p - g) 0 = q := ⟨_, rfl⟩
          rw [hq] at H5
          have hq2 : 0 ≤ q ∧ q ≤ 3 ∧ (p - g).toNat = q.toNat := by omega
          have c3 := cell_h (k := 3) H5.out.box rfl
          go_wp2_with fail
          refine (add_of w wr w.heap.size br _ _ u4 7 H5.out ⟨⟨hq2.1, hq2.2.1⟩, by simp, hi⟩ (by decide) (by simp; omega)).mono ?_
          rintro e W7 ⟨rfl, h7⟩
          have e7 : (Tp.mk false false true u4 false q 0 i).ad u4 7 = ⟨false, false, true, false, false, q, 0, i⟩ := by cases u4 <;> rfl
          rw [e7] at h7
          obtain ⟨L7, hL7⟩ : ∃ L7, adL (L4 ++ List.replicate g.toNat 12) u4 7 = L7 := ⟨_, rfl⟩
          have hl7 := adL_len (L4 ++ List.replicate g.toNat 12) u4 7
          rw [hL7] at h7 hl7
          simp only [List.length_append, List.length_replicate] at hl7
          have h77 : RL = (L7 ++ List.replicate q.toNat 12) ++ [8] := by
            rw [HL.out, hq2.2.2, ← hL7]
            unfold adL
            cases u4 <;> simp
          have HL7 := Lib.hid h77
          clear h77
          have H7 := Lib.hid h7
          clear h7 e7 H5 HL hL7 b6 c3 hz hz2
          go_wp2_with fail
          go_loopw [54] (fun vx wr => ∃ n : Nat, n ≤ q.toNat ∧ Hid (Rts w wr w.heap.size br ⟨false, false, true, false, false, q - n, 0, i⟩ (L7 ++ List.replicate n 12))) (fun vx wr => presOf wr w.heap.size)
          case atStart => exact ⟨0, by omega, Lib.hid (by simpa using H7.out)⟩
          case round =>
            obtain ⟨n, hn, H8⟩ := hrel
            have b5 := cell_h (k := 5) H8.out.box rfl
            by_cases hlt : n < q.toNat
            · have hpos : q - n > 0 := by omega
              have hll : (L7 ++ List.replicate n (12 : Int)).length ≤ 100 := by simp; omega
              have HA : Hid (Calls Tryz.prog 49 #[.bool true, .int .i64 12, .pointer (some ⟨br, 0, none⟩), .pointer (some ⟨w.heap.size, 0, none⟩)] wr fun e W' => e = .returned (.tuple #[]) ∧ Rts w W' w.heap.size br ⟨false, false, true, false, false, q - (n + 1 : Nat), 0, i⟩ (L7 ++ List.replicate (n + 1) 12)) := by
                have qq := add_of w wr w.heap.size br _ _ true 12 H8.out ⟨⟨by simp only; omega, by simp only; omega⟩, ⟨by simp, by simp⟩, hi⟩ (by decide) hll
                rw [ad_pres (by omega), adL_rep] at qq
                exact qq
              have hgas : presOf wr w.heap.size = (q - n).toNat := by unfold presOf; rw [b5]; rfl
              go_wp2_with fail
              refine HA.out.mono ?_
              rintro e W9 ⟨rfl, h9⟩
              have H9 := Lib.hid h9
              have c5 := cell_h (k := 5) h9.box rfl
              have hgas2 : presOf W9 w.heap.size = (q - (n + 1 : Nat)).toNat := by unfold presOf; rw [c5]; rfl
              clear h9 HA c5 b5
              go_wp2_with fail
              exact ⟨⟨n + 1, by omega, H9.out⟩, by rw [hgas, hgas2]; omega⟩
            · obtain rfl : n = q.toNat := by omega
              have hz : q - (q.toNat : Nat) = 0 := by omega
              rw [hz] at H8 b5
              go_wp2_with fail
              refine (add_of w wr w.heap.size br _ _ true 8 H8.out ⟨by simp, by simp, hi⟩ (by decide) (by simp; omega)).mono ?_
              rintro e W9 ⟨rfl, h9⟩
              have e9 : adL (L7 ++ List.replicate q.toNat 12) true 8 = RL := by rw [HL7.out]; rfl
              rw [e9] at h9
              obtain ⟨vr, hv, hO⟩ := h9.row
              have HO := Lib.hid hO
              have HB := Lib.hid h9.below
              have hbr := h9.apart
              have hold := h9.old
              have r0 := cell_h (k := 0) hv rfl
              clear h9 H8 H7 HL7 hv hO e9 b5
              have hO2 := own_base (base' := w.heap.size) HO.out (by have := hbr; omega)
              rw [← HRL.out] at hO2
              have HO2 := Lib.hid hO2
              clear hO2 HO
              go_wp2_with fail
              exact bodyPost_ret (v := .tuple #[vr, .int .i64 0]) (by simp [results, Tryz.f11, go_sem]) rfl ⟨_, rfl, HO2.out, HB.out⟩
end Go.Proofs.YtmdniebedflpbaaGreatDoor
