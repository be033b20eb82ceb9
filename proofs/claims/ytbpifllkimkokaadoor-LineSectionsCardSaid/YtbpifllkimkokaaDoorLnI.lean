/-
  WALKS: one round over the zones and one over the limits, by the reference: the whole error of a line.
-/
import Derived.Test.YtbpifllkimkokaaDoorLnH
import Derived.Deep.RegionWith
namespace Go.Proofs.YtbpifllkimkokaaDoor
open Go.RowKit

theorem six_keep {W W' : World} {g g2 : Nat} {a0 a1 a2 b0 b1 b2 : Value}
    (h : W.cell? ⟨g, 0, none⟩ = some a0 ∧ W.cell? ⟨g, 1, none⟩ = some a1 ∧ W.cell? ⟨g, 2, none⟩ = some a2 ∧ W.cell? ⟨g2, 0, none⟩ = some b0 ∧ W.cell? ⟨g2, 1, none⟩ = some b1 ∧ W.cell? ⟨g2, 2, none⟩ = some b2) (hb : Below W.heap.size W W') :
    W'.cell? ⟨g, 0, none⟩ = some a0 ∧ W'.cell? ⟨g, 1, none⟩ = some a1 ∧ W'.cell? ⟨g, 2, none⟩ = some a2 ∧ W'.cell? ⟨g2, 0, none⟩ = some b0 ∧ W'.cell? ⟨g2, 1, none⟩ = some b1 ∧ W'.cell? ⟨g2, 2, none⟩ = some b2 := by
  have e : ∀ q r x, W.cell? ⟨q, r, none⟩ = some x → W'.cell? ⟨q, r, none⟩ = some x := fun q r x hx => (hb.cell (p := ⟨q, r, none⟩) (World.block_lt_of_cell? W _ hx)).trans hx
  obtain ⟨h1, h2, h3, h4, h5, h6⟩ := h
  exact ⟨e _ _ _ h1, e _ _ _ h2, e _ _ _ h3, e _ _ _ h4, e _ _ _ h5, e _ _ _ h6⟩

theorem five_keep {W W' : World} {g g2 : Nat} {a0 a1 a2 b0 b1 : Value}
    (h : W.cell? ⟨g, 0, none⟩ = some a0 ∧ W.cell? ⟨g, 1, none⟩ = some a1 ∧ W.cell? ⟨g, 2, none⟩ = some a2 ∧ W.cell? ⟨g2, 0, none⟩ = some b0 ∧ W.cell? ⟨g2, 1, none⟩ = some b1) (hb : Below W.heap.size W W') :
    W'.cell? ⟨g, 0, none⟩ = some a0 ∧ W'.cell? ⟨g, 1, none⟩ = some a1 ∧ W'.cell? ⟨g, 2, none⟩ = some a2 ∧ W'.cell? ⟨g2, 0, none⟩ = some b0 ∧ W'.cell? ⟨g2, 1, none⟩ = some b1 := by
  have e : ∀ q r x, W.cell? ⟨q, r, none⟩ = some x → W'.cell? ⟨q, r, none⟩ = some x := fun q r x hx => (hb.cell (p := ⟨q, r, none⟩) (World.block_lt_of_cell? W _ hx)).trans hx
  obtain ⟨h1, h2, h3, h4, h5⟩ := h
  exact ⟨e _ _ _ h1, e _ _ _ h2, e _ _ _ h3, e _ _ _ h4, e _ _ _ h5⟩

theorem znAt_ok {z : Nat → Int} {e : Int} {i : Nat} (HZ : ∀ j, j < i → znAt z e j = 0) {E : Int} (h : znAt z e i = E) (hE : E = 0) : ∀ j, j < i + 1 → znAt z e j = 0 := fun j hj => by
  by_cases ej : j = i
  · subst ej; rw [h, hE]
  · exact HZ j (by omega)
theorem lmAt_ok {z : Nat → Int} {e : Int} {i : Nat} (HZ : ∀ j, j < i → lmAt z e j = 0) {E : Int} (h : lmAt z e i = E) (hE : E = 0) : ∀ j, j < i + 1 → lmAt z e j = 0 := fun j hj => by
  by_cases ej : j = i
  · subst ej; rw [h, hE]
  · exact HZ j (by omega)

set_option maxRecDepth 8000 in
set_option maxHeartbeats 6400000 in
theorem rcheck_of (w : World) (a za la : Option Addr) (n c nz zc nl lc : Nat) (f z m : Nat → Int) (hS : Sl w 7 a n f) (hZ : Sl w 3 za nz z) (hL : Sl w 2 la nl m) :
    Calls Tryd.prog 19 #[.agg #[.slice a n c, .slice za nz zc, .slice la nl lc]] w fun e' w' => e' = .returned (.int .i64 (chk n nz nl f z m)) ∧ Below w.heap.size w w' := by
  obtain ⟨b1, h1⟩ : ∃ b : Bool, b = decide ((1 : Int) ≤ (n : Int) ∧ (n : Int) ≤ 64) := ⟨_, rfl⟩
  have HW := chk_ways n nz nl f z m b1 h1
  have HS := Lib.hid hS
  have HZ := Lib.hid hZ
  have HL := Lib.hid hL
  have hn1 : b1 = false → n < 1 ∨ 64 < n := by intro h; rw [h] at h1; have := of_decide_eq_false h1.symm; omega
  have hn2 : b1 = true → 1 ≤ n ∧ n ≤ 64 := by intro h; rw [h] at h1; have := of_decide_eq_true h1.symm; omega
  clear h1 hS hZ hL
  generalize chk n nz nl f z m = E at HW ⊢
  rcases HW with ⟨rfl, rfl⟩ | ⟨rfl, h2, rfl⟩ | ⟨rfl, h2, h3, rfl⟩ | ⟨rfl, h2, h3, h4, h5, hE⟩
  · rcases hn1 rfl with h0 | h0
    · clear hn1 hn2
      go_enter Tryd.func19, Tryd.ntmps19
      go_wp2
      go_ret
      exact ⟨rfl, (Below.refl _ _).alloc (Nat.le_refl _) _⟩
    · clear hn1 hn2
      go_enter Tryd.func19, Tryd.ntmps19
      go_wp2
      go_ret
      exact ⟨rfl, (Below.refl _ _).alloc (Nat.le_refl _) _⟩
  · have hn := hn2 rfl
    clear hn1 hn2
    go_enter Tryd.func19, Tryd.ntmps19
    go_wp2
    go_ret
    exact ⟨rfl, (Below.refl _ _).alloc (Nat.le_refl _) _⟩
  · have hn := hn2 rfl
    clear hn1 hn2
    go_enter Tryd.func19, Tryd.ntmps19
    go_wp2
    go_ret
    exact ⟨rfl, (Below.refl _ _).alloc (Nat.le_refl _) _⟩
  · have HE := Lib.hid hE
    clear hE hn1 hn2
    go_enter Tryd.func19, Tryd.ntmps19
    go_wp2
    obtain ⟨W, hW⟩ : ∃ W, W = w.alloc (.cells #[.slice a n c, .slice za nz zc, .slice la nl lc] 31) := ⟨_, rfl⟩
    have hBW : Hid (Below w.heap.size w W) := by rw [hW]; exact (Below.refl _ _).alloc (Nat.le_refl _) _
    have hsz : W.heap.size = w.heap.size + 1 := by rw [hW]; simp
    have x0 : W.cell? ⟨w.heap.size, 0, none⟩ = some (.slice a n c) := by rw [hW]; go_simp
    have x1 : W.cell? ⟨w.heap.size, 1, none⟩ = some (.slice za nz zc) := by rw [hW]; go_simp
    have x2 : W.cell? ⟨w.heap.size, 2, none⟩ = some (.slice la nl lc) := by rw [hW]; go_simp
    rw [← hW]
    clear hW
    go_loopw [3] (fun vi wr => ∃ i : Nat, i ≤ n ∧ vi = .int .i64 i ∧ Hid (∀ j, j < i → itAt f j = 0) ∧ Hid (Below W.heap.size W wr)) (fun vi _ => n - (intOf vi).toNat)
    case atStart => exact ⟨0, by omega, rfl, fun j hj => by omega, Below.refl _ _⟩
    case round =>
      obtain ⟨i, hi, rfl, HI, HB⟩ := hrel
      have HBW : Hid (Below w.heap.size w wr) := hBW.out.trans (HB.out.mono (by omega))
      have hx : ∀ o, wr.cell? ⟨w.heap.size, o, none⟩ = W.cell? ⟨w.heap.size, o, none⟩ := fun o => HB.out.cell (p := ⟨w.heap.size, o, none⟩) (by show w.heap.size < W.heap.size; omega)
      have y0 := (hx 0).trans x0
      have y1 := (hx 1).trans x1
      have y2 := (hx 2).trans x2
      clear hx
      by_cases hlt : i < n
      · obtain ⟨b, o, rfl, hI⟩ := HS.out (by omega)
        have hI2 := hI.keep HBW.out (hI.lt (by omega))
        have d0 := hI2 (i * 7) (by omega)
        have d1 := hI2.at (i * 7) 1 (by omega)
        have d2 := hI2.at (i * 7) 2 (by omega)
        have d3 := hI2.at (i * 7) 3 (by omega)
        have d4 := hI2.at (i * 7) 4 (by omega)
        have d5 := hI2.at (i * 7) 5 (by omega)
        have d6 := hI2.at (i * 7) 6 (by omega)
        clear hI hI2
        go_wp2_with fail
        refine (ritem_err _ _ _ _ _ _ _ _).mono ?_
        rintro e' w2 ⟨rfl, hb2⟩
        rw [show itErr (f (i * 7)) (f (i * 7 + 1)) (f (i * 7 + 2)) (f (i * 7 + 3)) (f (i * 7 + 4)) (f (i * 7 + 5)) (f (i * 7 + 6)) = itAt f i from rfl]
        have HB2 : Hid (Below W.heap.size W w2) := HB.out.trans (hb2.mono HB.out.size)
        clear hb2
        by_cases he : itAt f i = 0
        · rw [he]
          have HI2 : Hid (∀ j, j < i + 1 → itAt f j = 0) := fun j hj => by
            by_cases ej : j = i
            · subst ej; exact he
            · exact HI.out j (by omega)
          clear he
          go_wp2
          exact ⟨⟨i + 1, by omega, by go_num, HI2, HB2⟩, by simp [intOf]; omega⟩
        · have hF : first (itAt f) n = itAt f i := first_at HI.out he hlt
          have hE : E = itAt f i := by rw [HE.out, hF, if_pos he]
          have he2 : ((itAt f i) == 0) = false := by simpa using he
          have he3 : ((itAt f i) != 0) = true := by simpa using he
          clear hF he
          generalize itAt f i = G at hE he2 he3 ⊢
          have HE1 := Lib.hid hE
          clear hE
          go_wp2
          go_ret
          exact ⟨by rw [HE1.out]; rfl, hBW.out.trans (HB2.out.mono (by omega))⟩
      · obtain rfl : i = n := by omega
        have hz0 : first (itAt f) i = 0 := first_zero HI.out
        have hE : E = (if first (znAt z (endS f i)) nz ≠ 0 then first (znAt z (endS f i)) nz else first (lmAt m (endS f i)) nl) := by
          rw [HE.out, hz0]; rfl
        have HE2 := Lib.hid hE
        clear hE hz0
        have hle := endS_le HI.out
        obtain ⟨e, he⟩ : ∃ e, e = endS f i := ⟨_, rfl⟩
        rw [← he] at hle HE2
        have HEQ := Lib.hid he
        clear he
        go_wp2_with fail
        clear y0 y1 y2
        go_loopw [5] (fun vk wr => ∃ k : Nat, k ≤ nz ∧ vk = .int .i64 k ∧ Hid (∀ j, j < k → znAt z e j = 0) ∧ Hid (Below W.heap.size W wr)) (fun vk _ => nz - (intOf vk).toNat)
        case atStart => exact ⟨0, by omega, rfl, fun j hj => by omega, HB.out⟩
        case round =>
          clear HB HBW
          obtain ⟨k, hk, rfl, HK, HB⟩ := hrel
          have HBW : Hid (Below w.heap.size w wr) := hBW.out.trans (HB.out.mono (by omega))
          have hx : ∀ o, wr.cell? ⟨w.heap.size, o, none⟩ = W.cell? ⟨w.heap.size, o, none⟩ := fun o => HB.out.cell (p := ⟨w.heap.size, o, none⟩) (by show w.heap.size < W.heap.size; omega)
          have y0 := (hx 0).trans x0
          have y1 := (hx 1).trans x1
          have y2 := (hx 2).trans x2
          have hss := HB.out.size
          clear hx
          by_cases hlt : k < nz
          · obtain ⟨b, o, rfl, hI⟩ := HZ.out (by omega)
            have hI2 := hI.keep HBW.out (hI.lt (by omega))
            have HI3 := Lib.hid hI2
            have d0 := hI2 (k * 3) (by omega)
            have d1 := hI2.at (k * 3) 1 (by omega)
            have d2 := hI2.at (k * 3) 2 (by omega)
            have HEk : Hid (znAt z e k = znErr e (if k = 0 then 0 else z ((k - 1) * 3 + 1)) (z (k * 3)) (z (k * 3 + 1)) (z (k * 3 + 2))) := rfl
            clear hI hI2
            have HBB : Hid ((if k = 0 then 0 else z ((k - 1) * 3 + 1)) = (if k = 0 then 0 else z ((k - 1) * 3 + 1))) := rfl
            generalize hBv : (if k = 0 then 0 else z ((k - 1) * 3 + 1)) = B at HEk
            have HBv := Lib.hid hBv
            clear hBv HBB
            generalize z (k * 3) = F at HEk d0 ⊢
            generalize z (k * 3 + 1) = T at HEk d1 ⊢
            generalize z (k * 3 + 2) = C at HEk d2 ⊢
            obtain ⟨b1, h1⟩ : ∃ b : Bool, b = decide (1 ≤ C ∧ C ≤ 4) := ⟨_, rfl⟩
            have HW := zn_ways b1 e B F T C h1
            have H1 := Lib.hid h1
            clear h1
            generalize znErr e B F T C = G at HW HEk
            have HF : Hid (G ≠ 0 → E = G) := fun hne => by
              have h1 : first (znAt z e) nz = G := by rw [← HEk.out]; exact first_at HK.out (by rw [HEk.out]; exact hne) hlt
              rw [HE2.out, h1, if_pos hne]
            obtain ⟨W1, hW1⟩ : ∃ W1, W1 = wr.alloc (.cells #[.int .i64 F, .int .i64 T, .int .i64 C] 102) := ⟨_, rfl⟩
            have HB1 : Hid (Below W.heap.size W W1) := by rw [hW1]; exact HB.out.alloc HB.out.size _
            have hN0 : W1.drew.cell? ⟨w.heap.size, 0, none⟩ = some (.slice a i c) ∧ W1.drew.cell? ⟨w.heap.size, 1, none⟩ = some (.slice (some ⟨b, o, none⟩) nz zc) ∧ W1.drew.cell? ⟨w.heap.size, 2, none⟩ = some (.slice la nl lc) ∧
                W1.drew.cell? ⟨wr.heap.size, 0, none⟩ = some (.int .i64 F) ∧ W1.drew.cell? ⟨wr.heap.size, 1, none⟩ = some (.int .i64 T) ∧ W1.drew.cell? ⟨wr.heap.size, 2, none⟩ = some (.int .i64 C) := by
              have hlo : ∀ j, W1.drew.cell? ⟨w.heap.size, j, none⟩ = wr.cell? ⟨w.heap.size, j, none⟩ := fun j => by
                rw [hW1]
                exact ((Below.refl wr.heap.size wr).alloc (Nat.le_refl _) _).cell (p := ⟨w.heap.size, j, none⟩) (by show w.heap.size < wr.heap.size; omega)
              have hh : W1.drew.heap[wr.heap.size]? = some (.cells #[.int .i64 F, .int .i64 T, .int .i64 C] 102) := by rw [hW1]; exact World.alloc_heap_new wr _
              exact ⟨(hlo 0).trans y0, (hlo 1).trans y1, (hlo 2).trans y2, by simp [World.cell?, hh], by simp [World.cell?, hh], by simp [World.cell?, hh]⟩
            have HB2 : Hid (Below W.heap.size W W1.drew) := HB1.out.drew
            have hC := rend_of a (some ⟨b, o, none⟩) la i c nz zc nl lc f (by omega) HI.out W1.drew (HS.out.keep (by omega) (hBW.out.trans (HB2.out.mono (by omega))))
            rw [← HEQ.out] at hC
            have HC := Lib.hid hC
            clear hC
            have hs1 : wr.heap.size < W1.heap.size := by rw [hW1]; simp
            have HN0 := Lib.hid hN0
            have hM : W1.cell? ⟨w.heap.size, 0, none⟩ = some (.slice a i c) ∧ W1.cell? ⟨w.heap.size, 1, none⟩ = some (.slice (some ⟨b, o, none⟩) nz zc) ∧ W1.cell? ⟨w.heap.size, 2, none⟩ = some (.slice la nl lc) ∧
                W1.cell? ⟨wr.heap.size, 0, none⟩ = some (.int .i64 F) ∧ W1.cell? ⟨wr.heap.size, 1, none⟩ = some (.int .i64 T) ∧ W1.cell? ⟨wr.heap.size, 2, none⟩ = some (.int .i64 C) := hN0
            have HM := Lib.hid hM
            clear hN0 hM
            have hs0 : b < wr.heap.size := HI3.out.lt (by omega)
            have HBX : Hid (Below wr.heap.size wr W1) := by rw [hW1]; exact (Below.refl _ _).alloc (Nat.le_refl _) _
            have HBE : Hid (∀ {Wf : World}, Below W1.heap.size W1 Wf → Below w.heap.size w Wf) := fun h => (hBW.out.trans (HB1.out.mono (by omega))).trans (h.mono (by omega))
            have HBF : Hid (∀ {Wf : World}, Below W1.heap.size W1 Wf → Below W.heap.size W Wf) := fun h => HB1.out.trans (h.mono HB1.out.size)
            rcases HW with ⟨p1, rfl⟩ | ⟨p1, p2, rfl⟩ | ⟨p1, p2, rfl, rfl⟩ | ⟨p1, p2, rfl, p3, rfl⟩ | ⟨p1, p2, rfl, p3, p4, rfl⟩ | ⟨p1, p2, rfl, p3, p4, rfl⟩
            · go_wp2_with fail
              rw [← hW1]
              clear hW1
              have q1 : decide (F < 0) = true := by simpa using p1
              obtain ⟨m0, m1, m2, m3, m4, m5⟩ := HM.out
              go_quiet (fail)
              go_wp2
              go_ret
              exact ⟨by rw [HF.out (by decide)]; rfl, HBE.out ⟨rfl, rfl, rfl, Nat.le_refl _, fun _ _ => rfl⟩⟩
            · have q1 : decide (F < 0) = false := by simpa using p1
              go_wp2_with fail
              rw [← hW1]
              clear hW1
              obtain ⟨m0, m1, m2, m3, m4, m5⟩ := HN0.out
              first
              | (go_region_with (first
                      | (go_at_call 65; refine HC.out.mono ?_; rintro e6 W6 ⟨rfl, hb6⟩; (obtain ⟨n0, n1, n2, n3, n4, n5⟩ := six_keep HN0.out hb6))
                      | (go_at_call 66; refine (rbetw _ _ _ _ _ (by first | exact H1.out)).mono ?_; rintro e7 w7 ⟨rfl, hw7⟩; (obtain rfl := hw7.symm))))
              | fail
              all_goals
                have hbF : Below W1.heap.size W1 W6 := (Below.refl _ _).drew.trans hb6
                go_wp2
                go_ret
                exact ⟨by rw [HF.out (by decide)]; rfl, HBE.out hbF⟩
            · have q1 : decide (F < 0) = false := by simpa using p1
              have q2 : decide (e < T) = false := by simpa using p2
              go_wp2_with fail
              rw [← hW1]
              clear hW1
              go_region_held3 (fun W' => W'.cell? ⟨w.heap.size, 0, none⟩ = some (.slice a i c) ∧ W'.cell? ⟨w.heap.size, 1, none⟩ = some (.slice (some ⟨b, o, none⟩) nz zc) ∧ W'.cell? ⟨w.heap.size, 2, none⟩ = some (.slice la nl lc) ∧
                W'.cell? ⟨wr.heap.size, 0, none⟩ = some (.int .i64 F) ∧ W'.cell? ⟨wr.heap.size, 1, none⟩ = some (.int .i64 T) ∧ W'.cell? ⟨wr.heap.size, 2, none⟩ = some (.int .i64 C))
                (first | (exact HN0.out) | (exact hN6))
                (first
                  | (go_at_call 65; refine HC.out.mono ?_; rintro e6 W6 ⟨rfl, hb6⟩; (have hN6 := six_keep HN0.out hb6))
                  | (go_at_call 66; refine (rbetw _ _ _ _ _ (by first | exact H1.out)).mono ?_; rintro e7 w7 ⟨rfl, hw7⟩; (obtain rfl := hw7.symm)))
              all_goals
                have hbF : Below W1.heap.size W1 W6 := (Below.refl _ _).drew.trans hb6
                go_wp2
                go_ret
                exact ⟨by rw [HF.out (by decide)]; rfl, HBE.out hbF⟩
            · have q1 : decide (F < 0) = false := by simpa using p1
              have q2 : decide (e < T) = false := by simpa using p2
              go_wp2_with fail
              rw [← hW1]
              clear hW1
              go_region_held3 (fun W' => W'.cell? ⟨w.heap.size, 0, none⟩ = some (.slice a i c) ∧ W'.cell? ⟨w.heap.size, 1, none⟩ = some (.slice (some ⟨b, o, none⟩) nz zc) ∧ W'.cell? ⟨w.heap.size, 2, none⟩ = some (.slice la nl lc) ∧
                W'.cell? ⟨wr.heap.size, 0, none⟩ = some (.int .i64 F) ∧ W'.cell? ⟨wr.heap.size, 1, none⟩ = some (.int .i64 T) ∧ W'.cell? ⟨wr.heap.size, 2, none⟩ = some (.int .i64 C))
                (first | (exact HN0.out) | (exact hN6))
                (first
                  | (go_at_call 65; refine HC.out.mono ?_; rintro e6 W6 ⟨rfl, hb6⟩; (have hN6 := six_keep HN0.out hb6))
                  | (go_at_call 66; refine (rbetw _ _ _ _ _ (by first | exact H1.out)).mono ?_; rintro e7 w7 ⟨rfl, hw7⟩; (obtain rfl := hw7.symm)))
              all_goals
                have hbF : Below W1.heap.size W1 W6 := (Below.refl _ _).drew.trans hb6
                obtain ⟨m0, m1, m2, m3, m4, m5⟩ := (id hN6)
                go_wp2_with fail
                go_quiet (fail)
                go_wp2
                go_ret
                exact ⟨by rw [HF.out (by decide)]; rfl, HBE.out (hbF.trans ⟨rfl, rfl, rfl, Nat.le_refl _, fun _ _ => rfl⟩)⟩
            · obtain ⟨j, rfl⟩ : ∃ j, k = j + 1 := ⟨k - 1, by
                have hb := HBv.out
                by_cases h0 : k = 0
                · rw [if_pos h0] at hb; omega
                · omega⟩
              have hBj : z (j * 3 + 1) = B := by have := HBv.out; simpa using this
              have HI4 := HI3
              have q1 : decide (F < 0) = false := by simpa using p1
              have q2 : decide (e < T) = false := by simpa using p2
              have q3 : decide (T ≤ F) = false := by simpa using p3
              have q4 : (0 : Int) < ((j + 1 : Nat) : Int) := by omega
              have hji : (((j + 1 : Nat) : Int) - 1) = (j : Int) := by omega
              go_wp2_with fail
              rw [← hW1]
              clear hW1
              go_region_held3 (fun W' => W'.cell? ⟨w.heap.size, 0, none⟩ = some (.slice a i c) ∧ W'.cell? ⟨w.heap.size, 1, none⟩ = some (.slice (some ⟨b, o, none⟩) nz zc) ∧ W'.cell? ⟨w.heap.size, 2, none⟩ = some (.slice la nl lc) ∧
                W'.cell? ⟨wr.heap.size, 0, none⟩ = some (.int .i64 F) ∧ W'.cell? ⟨wr.heap.size, 1, none⟩ = some (.int .i64 T) ∧ W'.cell? ⟨wr.heap.size, 2, none⟩ = some (.int .i64 C))
                (first | (exact HN0.out) | (exact hN6))
                (first
                  | (go_at_call 65; refine HC.out.mono ?_; rintro e6 W6 ⟨rfl, hb6⟩; (have hN6 := six_keep HN0.out hb6))
                  | (go_at_call 66; refine (rbetw _ _ _ _ _ (by first | exact H1.out)).mono ?_; rintro e7 w7 ⟨rfl, hw7⟩; (obtain rfl := hw7.symm)))
              all_goals
                have hbF : Below W1.heap.size W1 W6 := (Below.refl _ _).drew.trans hb6
                have hI6 := (HI3.out.keep (HBX.out) hs0).keep (hbF) (by omega)
                have dp := hI6.at (j * 3) 1 (by omega)
                rw [hBj] at dp
                clear hI6
                obtain ⟨m0, m1, m2, m3, m4, m5⟩ := (id hN6)
                go_wp2_with fail
                go_quiet (fail)
                go_wp2
                go_ret
                exact ⟨by rw [HF.out (by decide)]; rfl, HBE.out (hbF.trans ⟨rfl, rfl, rfl, Nat.le_refl _, fun _ _ => rfl⟩)⟩
            · have q1 : decide (F < 0) = false := by simpa using p1
              have q2 : decide (e < T) = false := by simpa using p2
              have q3 : decide (T ≤ F) = false := by simpa using p3
              have HK2 : Hid (∀ j, j < k + 1 → znAt z e j = 0) := znAt_ok HK.out HEk.out rfl
              by_cases h0 : k = 0
              · have q4 : decide ((0 : Int) < (k : Int)) = false := by simp; omega
                have q6 : decide (0 < k) = false := by simp; omega
                clear h0
                go_wp2_with fail
                rw [← hW1]
                clear hW1
                go_region_held3 (fun W' => W'.cell? ⟨w.heap.size, 0, none⟩ = some (.slice a i c) ∧ W'.cell? ⟨w.heap.size, 1, none⟩ = some (.slice (some ⟨b, o, none⟩) nz zc) ∧ W'.cell? ⟨w.heap.size, 2, none⟩ = some (.slice la nl lc) ∧
                  W'.cell? ⟨wr.heap.size, 0, none⟩ = some (.int .i64 F) ∧ W'.cell? ⟨wr.heap.size, 1, none⟩ = some (.int .i64 T) ∧ W'.cell? ⟨wr.heap.size, 2, none⟩ = some (.int .i64 C))
                  (first | (exact HN0.out) | (exact hN6))
                  (first
                    | (go_at_call 65; refine HC.out.mono ?_; rintro e6 W6 ⟨rfl, hb6⟩; (have hN6 := six_keep HN0.out hb6))
                    | (go_at_call 66; refine (rbetw _ _ _ _ _ (by first | exact H1.out)).mono ?_; rintro e7 w7 ⟨rfl, hw7⟩; (obtain rfl := hw7.symm)))
                all_goals
                  have hbF : Below W1.heap.size W1 W6 := (Below.refl _ _).drew.trans hb6
                  obtain ⟨m0, m1, m2, m3, m4, m5⟩ := (id hN6)
                  go_wp2_with fail
                  go_quiet (fail)
                  go_wp2
                  exact ⟨⟨k + 1, by omega, by go_num, HK2, HBF.out (hbF.trans ⟨rfl, rfl, rfl, Nat.le_refl _, fun _ _ => rfl⟩)⟩, by simp [intOf]; omega⟩
              · obtain ⟨j, rfl⟩ : ∃ j, k = j + 1 := ⟨k - 1, by omega⟩
                have hBj : z (j * 3 + 1) = B := by have := HBv.out; simpa using this
                have q4 : (0 : Int) < ((j + 1 : Nat) : Int) := by omega
                have q5 : decide (F < B) = false := by simpa using p4
                have hji : (((j + 1 : Nat) : Int) - 1) = (j : Int) := by omega
                go_wp2_with fail
                rw [← hW1]
                clear hW1
                go_region_held3 (fun W' => W'.cell? ⟨w.heap.size, 0, none⟩ = some (.slice a i c) ∧ W'.cell? ⟨w.heap.size, 1, none⟩ = some (.slice (some ⟨b, o, none⟩) nz zc) ∧ W'.cell? ⟨w.heap.size, 2, none⟩ = some (.slice la nl lc) ∧
                  W'.cell? ⟨wr.heap.size, 0, none⟩ = some (.int .i64 F) ∧ W'.cell? ⟨wr.heap.size, 1, none⟩ = some (.int .i64 T) ∧ W'.cell? ⟨wr.heap.size, 2, none⟩ = some (.int .i64 C))
                  (first | (exact HN0.out) | (exact hN6))
                  (first
                    | (go_at_call 65; refine HC.out.mono ?_; rintro e6 W6 ⟨rfl, hb6⟩; (have hN6 := six_keep HN0.out hb6))
                    | (go_at_call 66; refine (rbetw _ _ _ _ _ (by first | exact H1.out)).mono ?_; rintro e7 w7 ⟨rfl, hw7⟩; (obtain rfl := hw7.symm)))
                all_goals
                  have hbF : Below W1.heap.size W1 W6 := (Below.refl _ _).drew.trans hb6
                  have hI6 := (HI3.out.keep (HBX.out) hs0).keep (hbF) (by omega)
                  have dp := hI6.at (j * 3) 1 (by omega)
                  rw [hBj] at dp
                  clear hI6
                  obtain ⟨m0, m1, m2, m3, m4, m5⟩ := (id hN6)
                  go_wp2_with fail
                  go_quiet (fail)
                  go_wp2
                  exact ⟨⟨j + 1 + 1, by omega, by go_num, HK2, HBF.out (hbF.trans ⟨rfl, rfl, rfl, Nat.le_refl _, fun _ _ => rfl⟩)⟩, by simp [intOf]; omega⟩
          · obtain rfl : k = nz := by omega
            have hz0 : first (znAt z e) k = 0 := first_zero HK.out
            have hE : E = first (lmAt m e) nl := by rw [HE2.out, hz0]; rfl
            have HE3 := Lib.hid hE
            clear hE hz0
            go_wp2_with fail
            clear y0 y1 y2 hss
            have hw1 : IntKind.i64.wrap (e - 1) = e - 1 := IntWalk.i64_in _ (by omega)
            go_loopw [7] (fun vk wr => ∃ q : Nat, q ≤ nl ∧ vk = .int .i64 q ∧ Hid (∀ j, j < q → lmAt m e j = 0) ∧ Hid (Below W.heap.size W wr)) (fun vk _ => nl - (intOf vk).toNat)
            case atStart => exact ⟨0, by omega, rfl, fun j hj => by omega, HB.out⟩
            case round =>
              clear HB HBW HK
              obtain ⟨q, hq, rfl, HK, HB⟩ := hrel
              have HBW : Hid (Below w.heap.size w wr) := hBW.out.trans (HB.out.mono (by omega))
              have hx : ∀ o, wr.cell? ⟨w.heap.size, o, none⟩ = W.cell? ⟨w.heap.size, o, none⟩ := fun o => HB.out.cell (p := ⟨w.heap.size, o, none⟩) (by show w.heap.size < W.heap.size; omega)
              have y0 := (hx 0).trans x0
              have y1 := (hx 1).trans x1
              have y2 := (hx 2).trans x2
              have hss := HB.out.size
              clear hx
              by_cases hlt : q < nl
              · obtain ⟨b, o, rfl, hI⟩ := HL.out (by omega)
                have hI2 := hI.keep HBW.out (hI.lt (by omega))
                have HI3 := Lib.hid hI2
                have d0 := hI2 (q * 2) (by omega)
                have d1 := hI2.at (q * 2) 1 (by omega)
                clear hI hI2
                have HEk : Hid (lmAt m e q = lmErr e (if q = 0 then -1 else m ((q - 1) * 2)) (m (q * 2)) (m (q * 2 + 1))) := rfl
                generalize hBv : (if q = 0 then -1 else m ((q - 1) * 2)) = B at HEk
                have HBv := Lib.hid hBv
                clear hBv
                generalize m (q * 2) = F at HEk d0 ⊢
                generalize m (q * 2 + 1) = M at HEk d1 ⊢
                obtain ⟨b1, h1⟩ : ∃ b : Bool, b = decide (0 ≤ F ∧ F ≤ e - 1) := ⟨_, rfl⟩
                obtain ⟨b2, h6⟩ : ∃ b : Bool, b = decide (0 ≤ M ∧ M ≤ 1048576) := ⟨_, rfl⟩
                have hb1 : b1 = true → 0 ≤ F ∧ F ≤ e - 1 := fun hh => by rw [hh] at h1; exact of_decide_eq_true h1.symm
                have HW := lm_ways b1 b2 e B F M h1 h6
                have H1 := Lib.hid h1
                have H2 := Lib.hid h6
                have HB1 := Lib.hid hb1
                clear h1 h6 hb1
                generalize lmErr e B F M = G at HW HEk
                have HF : Hid (G ≠ 0 → E = G) := fun hne => by
                  have h1 : first (lmAt m e) nl = G := by rw [← HEk.out]; exact first_at HK.out (by rw [HEk.out]; exact hne) hlt
                  rw [HE3.out, h1]
                obtain ⟨W1, hW1⟩ : ∃ W1, W1 = wr.alloc (.cells #[.int .i64 F, .int .i64 M] 105) := ⟨_, rfl⟩
                have HBB : Hid (Below W.heap.size W W1) := by rw [hW1]; exact HB.out.alloc HB.out.size _
                have hN0 : W1.drew.cell? ⟨w.heap.size, 0, none⟩ = some (.slice a i c) ∧ W1.drew.cell? ⟨w.heap.size, 1, none⟩ = some (.slice za k zc) ∧ W1.drew.cell? ⟨w.heap.size, 2, none⟩ = some (.slice (some ⟨b, o, none⟩) nl lc) ∧
                    W1.drew.cell? ⟨wr.heap.size, 0, none⟩ = some (.int .i64 F) ∧ W1.drew.cell? ⟨wr.heap.size, 1, none⟩ = some (.int .i64 M) := by
                  have hlo : ∀ j, W1.drew.cell? ⟨w.heap.size, j, none⟩ = wr.cell? ⟨w.heap.size, j, none⟩ := fun j => by
                    rw [hW1]
                    exact ((Below.refl wr.heap.size wr).alloc (Nat.le_refl _) _).cell (p := ⟨w.heap.size, j, none⟩) (by show w.heap.size < wr.heap.size; omega)
                  have hh : W1.drew.heap[wr.heap.size]? = some (.cells #[.int .i64 F, .int .i64 M] 105) := by rw [hW1]; exact World.alloc_heap_new wr _
                  exact ⟨(hlo 0).trans y0, (hlo 1).trans y1, (hlo 2).trans y2, by simp [World.cell?, hh], by simp [World.cell?, hh]⟩
                have HB2 : Hid (Below W.heap.size W W1.drew) := HBB.out.drew
                have hC := rend_of a za (some ⟨b, o, none⟩) i c k zc nl lc f (by omega) HI.out W1.drew (HS.out.keep (by omega) (hBW.out.trans (HB2.out.mono (by omega))))
                rw [← HEQ.out] at hC
                have HC := Lib.hid hC
                clear hC
                have hs1 : wr.heap.size < W1.heap.size := by rw [hW1]; simp
                have HN0 := Lib.hid hN0
                clear hN0
                have hs0 : b < wr.heap.size := HI3.out.lt (by omega)
                have HBX : Hid (Below wr.heap.size wr W1) := by rw [hW1]; exact (Below.refl _ _).alloc (Nat.le_refl _) _
                have HBE : Hid (∀ {Wf : World}, Below W1.heap.size W1 Wf → Below w.heap.size w Wf) := fun h => (hBW.out.trans (HBB.out.mono (by omega))).trans (h.mono (by omega))
                have HBF : Hid (∀ {Wf : World}, Below W1.heap.size W1 Wf → Below W.heap.size W Wf) := fun h => HBB.out.trans (h.mono HBB.out.size)
                rcases HW with ⟨rfl, rfl⟩ | ⟨rfl, rfl, rfl⟩ | ⟨rfl, rfl, p3, rfl⟩ | ⟨rfl, rfl, p3, rfl⟩
                · go_wp2_with fail
                  rw [← hW1]
                  clear hW1
                  obtain ⟨m0, m1, m2, m3, m4⟩ := HN0.out
                  first
                  | (go_region_with (first
                        | (go_at_call 65; refine HC.out.mono ?_; rintro e6 W6 ⟨rfl, hb6⟩; (obtain ⟨n0, n1, n2, n3, n4⟩ := five_keep HN0.out hb6))
                        | (go_at_call 66; refine (rbetw _ _ _ _ _ (by first | exact H1.out | exact H2.out)).mono ?_; rintro e7 w7 ⟨rfl, hw7⟩; (obtain rfl := hw7.symm))))
                  | fail
                  all_goals
                    have hbF : Below W1.heap.size W1 W6 := (Below.refl _ _).drew.trans hb6
                    go_wp2
                    go_ret
                    exact ⟨by rw [HF.out (by decide)]; rfl, HBE.out hbF⟩
                · go_wp2_with fail
                  rw [← hW1]
                  clear hW1
                  go_region_held3 (fun W' => W'.cell? ⟨w.heap.size, 0, none⟩ = some (.slice a i c) ∧ W'.cell? ⟨w.heap.size, 1, none⟩ = some (.slice za k zc) ∧ W'.cell? ⟨w.heap.size, 2, none⟩ = some (.slice (some ⟨b, o, none⟩) nl lc) ∧
                    W'.cell? ⟨wr.heap.size, 0, none⟩ = some (.int .i64 F) ∧ W'.cell? ⟨wr.heap.size, 1, none⟩ = some (.int .i64 M))
                    (first | (exact HN0.out) | (exact hN6))
                    (first
                      | (go_at_call 65; refine HC.out.mono ?_; rintro e6 W6 ⟨rfl, hb6⟩; (have hN6 := five_keep HN0.out hb6))
                      | (go_at_call 66; refine (rbetw _ _ _ _ _ (by first | exact H1.out | exact H2.out)).mono ?_; rintro e7 w7 ⟨rfl, hw7⟩; (obtain rfl := hw7.symm)))
                  all_goals
                    have hbF : Below W1.heap.size W1 W6 := (Below.refl _ _).drew.trans hb6
                    go_wp2
                    go_ret
                    exact ⟨by rw [HF.out (by decide)]; rfl, HBE.out hbF⟩
                · obtain ⟨j, rfl⟩ : ∃ j, q = j + 1 := ⟨q - 1, by
                    have hb := HBv.out
                    have hf := HB1.out rfl
                    by_cases h0 : q = 0
                    · rw [if_pos h0] at hb; omega
                    · omega⟩
                  have hBj : m (j * 2) = B := by have := HBv.out; simpa using this
                  have q4 : (0 : Int) < ((j + 1 : Nat) : Int) := by omega
                  have hji : (((j + 1 : Nat) : Int) - 1) = (j : Int) := by omega
                  go_wp2_with fail
                  rw [← hW1]
                  clear hW1
                  go_region_held3 (fun W' => W'.cell? ⟨w.heap.size, 0, none⟩ = some (.slice a i c) ∧ W'.cell? ⟨w.heap.size, 1, none⟩ = some (.slice za k zc) ∧ W'.cell? ⟨w.heap.size, 2, none⟩ = some (.slice (some ⟨b, o, none⟩) nl lc) ∧
                    W'.cell? ⟨wr.heap.size, 0, none⟩ = some (.int .i64 F) ∧ W'.cell? ⟨wr.heap.size, 1, none⟩ = some (.int .i64 M))
                    (first | (exact HN0.out) | (exact hN6))
                    (first
                      | (go_at_call 65; refine HC.out.mono ?_; rintro e6 W6 ⟨rfl, hb6⟩; (have hN6 := five_keep HN0.out hb6))
                      | (go_at_call 66; refine (rbetw _ _ _ _ _ (by first | exact H1.out | exact H2.out)).mono ?_; rintro e7 w7 ⟨rfl, hw7⟩; (obtain rfl := hw7.symm)))
                  all_goals
                    have hbF : Below W1.heap.size W1 W6 := (Below.refl _ _).drew.trans hb6
                    have hI6 := (HI3.out.keep (HBX.out) hs0).keep (hbF) (by omega)
                    have dp := hI6 (j * 2) (by omega)
                    rw [hBj] at dp
                    clear hI6
                    obtain ⟨m0, m1, m2, m3, m4⟩ := (id hN6)
                    go_wp2_with fail
                    go_quiet (fail)
                    go_wp2
                    go_ret
                    exact ⟨by rw [HF.out (by decide)]; rfl, HBE.out (hbF.trans ⟨rfl, rfl, rfl, Nat.le_refl _, fun _ _ => rfl⟩)⟩
                · have HK2 : Hid (∀ j, j < q + 1 → lmAt m e j = 0) := lmAt_ok HK.out HEk.out rfl
                  by_cases h0 : q = 0
                  · have q4 : decide ((0 : Int) < (q : Int)) = false := by simp; omega
                    have q6 : decide (0 < q) = false := by simp; omega
                    clear h0
                    go_wp2_with fail
                    rw [← hW1]
                    clear hW1
                    go_region_held3 (fun W' => W'.cell? ⟨w.heap.size, 0, none⟩ = some (.slice a i c) ∧ W'.cell? ⟨w.heap.size, 1, none⟩ = some (.slice za k zc) ∧ W'.cell? ⟨w.heap.size, 2, none⟩ = some (.slice (some ⟨b, o, none⟩) nl lc) ∧
                      W'.cell? ⟨wr.heap.size, 0, none⟩ = some (.int .i64 F) ∧ W'.cell? ⟨wr.heap.size, 1, none⟩ = some (.int .i64 M))
                      (first | (exact HN0.out) | (exact hN6))
                      (first
                        | (go_at_call 65; refine HC.out.mono ?_; rintro e6 W6 ⟨rfl, hb6⟩; (have hN6 := five_keep HN0.out hb6))
                        | (go_at_call 66; refine (rbetw _ _ _ _ _ (by first | exact H1.out | exact H2.out)).mono ?_; rintro e7 w7 ⟨rfl, hw7⟩; (obtain rfl := hw7.symm)))
                    all_goals
                      have hbF : Below W1.heap.size W1 W6 := (Below.refl _ _).drew.trans hb6
                      obtain ⟨m0, m1, m2, m3, m4⟩ := (id hN6)
                      go_wp2_with fail
                      go_quiet (fail)
                      go_wp2
                      exact ⟨⟨q + 1, by omega, by go_num, HK2, HBF.out (hbF.trans ⟨rfl, rfl, rfl, Nat.le_refl _, fun _ _ => rfl⟩)⟩, by simp [intOf]; omega⟩
                  · obtain ⟨j, rfl⟩ : ∃ j, q = j + 1 := ⟨q - 1, by omega⟩
                    have hBj : m (j * 2) = B := by have := HBv.out; simpa using this
                    have q4 : (0 : Int) < ((j + 1 : Nat) : Int) := by omega
                    have q5 : decide (F ≤ B) = false := by simpa using p3
                    have hji : (((j + 1 : Nat) : Int) - 1) = (j : Int) := by omega
                    go_wp2_with fail
                    rw [← hW1]
                    clear hW1
                    go_region_held3 (fun W' => W'.cell? ⟨w.heap.size, 0, none⟩ = some (.slice a i c) ∧ W'.cell? ⟨w.heap.size, 1, none⟩ = some (.slice za k zc) ∧ W'.cell? ⟨w.heap.size, 2, none⟩ = some (.slice (some ⟨b, o, none⟩) nl lc) ∧
                      W'.cell? ⟨wr.heap.size, 0, none⟩ = some (.int .i64 F) ∧ W'.cell? ⟨wr.heap.size, 1, none⟩ = some (.int .i64 M))
                      (first | (exact HN0.out) | (exact hN6))
                      (first
                        | (go_at_call 65; refine HC.out.mono ?_; rintro e6 W6 ⟨rfl, hb6⟩; (have hN6 := five_keep HN0.out hb6))
                        | (go_at_call 66; refine (rbetw _ _ _ _ _ (by first | exact H1.out | exact H2.out)).mono ?_; rintro e7 w7 ⟨rfl, hw7⟩; (obtain rfl := hw7.symm)))
                    all_goals
                      have hbF : Below W1.heap.size W1 W6 := (Below.refl _ _).drew.trans hb6
                      have hI6 := (HI3.out.keep (HBX.out) hs0).keep (hbF) (by omega)
                      have dp := hI6 (j * 2) (by omega)
                      rw [hBj] at dp
                      clear hI6
                      obtain ⟨m0, m1, m2, m3, m4⟩ := (id hN6)
                      go_wp2_with fail
                      go_quiet (fail)
                      go_wp2
                      exact ⟨⟨j + 1 + 1, by omega, by go_num, HK2, HBF.out (hbF.trans ⟨rfl, rfl, rfl, Nat.le_refl _, fun _ _ => rfl⟩)⟩, by simp [intOf]; omega⟩
              · obtain rfl : q = nl := by omega
                have hz1 : E = 0 := by rw [HE3.out]; exact first_zero HK.out
                have HE4 := Lib.hid hz1
                clear hz1
                go_wp2
                go_ret
                exact ⟨by rw [HE4.out]; rfl, HBW.out⟩
end Go.Proofs.YtbpifllkimkokaaDoor
