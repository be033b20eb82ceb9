/-
  WALKS: Weak, by the program.
-/
import Derived.Test.YtbpifllkimkokaaDoorLrG
import Derived.Deep.DeepCutAuto
namespace Go.Proofs.YtbpifllkimkokaaDoor
open Go.RowKit

theorem rowS_five {w : World} {B g cap : Nat} {S : List Sec} (h : RowS w B (.slice (some ⟨g, 0, none⟩) S.length cap) S) (i : Nat) (hi : i < S.length) :
    w.cell? ⟨g, i * 5, none⟩ = some (.int .i64 (S[i]'hi).fr) ∧ w.cell? ⟨g, i * 5 + 1, none⟩ = some (.int .i64 (S[i]'hi).en) ∧ w.cell? ⟨g, i * 5 + 2, none⟩ = some (.int .i64 (S[i]'hi).it) ∧ w.cell? ⟨g, i * 5 + 3, none⟩ = some (.int .i64 (S[i]'hi).cl) ∧ w.cell? ⟨g, i * 5 + 4, none⟩ = some (.int .i64 (S[i]'hi).mo) :=
  ⟨h.cell i hi 0 (by omega), h.cell i hi 1 (by omega), h.cell i hi 2 (by omega), h.cell i hi 3 (by omega), h.cell i hi 4 (by omega)⟩

set_option maxRecDepth 8000 in
set_option maxHeartbeats 6400000 in
theorem weak_of (w : World) (hT : Tabs w) (a za la : Option Addr) (n c nz zc nl lc : Nat) (f z m : Nat → Int) (hS : Sl w 7 a n f) (hZ : Sl w 3 za nz z) (hL : Sl w 2 la nl m) :
    Calls Tryd.prog 29 #[.agg #[.slice a n c, .slice za nz zc, .slice la nl lc]] w (WeP (chk n nz nl f z m) (wkL f (secsOf f z m n nz nl) (secsOf f z m n nz nl).length) w) := by
  obtain ⟨i0, hi0, hz0, hz1, hz2⟩ := info_parts x_infoInt
  have HCK : Hid (∀ w', Below w.heap.size w w' → Calls Tryd.prog 56 #[.agg #[.slice a n c, .slice za nz zc, .slice la nl lc]] w' fun e' w2 => e' = .returned (.int .i64 (chk n nz nl f z m)) ∧ Below w'.heap.size w' w2) :=
    fun w' hb => check_of w' a za la n c nz zc nl lc f z m (hS.keep (by omega) hb) (hZ.keep (by omega) hb) (hL.keep (by omega) hb)
  obtain ⟨W, hW⟩ : ∃ W, W = w.alloc (.cells #[.slice a n c, .slice za nz zc, .slice la nl lc] 26) := ⟨_, rfl⟩
  have hBW : Hid (Below w.heap.size w W) := by rw [hW]; exact (Below.refl _ _).alloc (Nat.le_refl _) _
  have HX : Hid (W.cell? ⟨w.heap.size, 0, none⟩ = some (.slice a n c) ∧ W.cell? ⟨w.heap.size, 1, none⟩ = some (.slice za nz zc) ∧ W.cell? ⟨w.heap.size, 2, none⟩ = some (.slice la nl lc)) := by
    rw [hW]; exact ⟨by go_simp, by go_simp, by go_simp⟩
  have HW := Lib.hid hW
  clear hW
  by_cases hE : chk n nz nl f z m = 0
  case neg =>
    generalize chk n nz nl f z m = E at HCK hE ⊢
    have e2 : (E == 0) = false := by simpa using hE
    have e3 : (E != 0) = true := by simpa using hE
    have HE := Lib.hid hE
    clear hE hS hZ hL hT
    go_enter Tryd.func29, Tryd.ntmps29
    go_wp2_with fail
    rw [← HW.out]
    refine (HCK.out W hBW.out).mono ?_
    rintro e' w2 ⟨rfl, hb2⟩
    have HB2 : Hid (Below w.heap.size w w2) := hBW.out.trans (hb2.mono hBW.out.size)
    clear hb2
    go_wp2
    go_ret2
    exact ⟨HB2.out, .inl ⟨HE.out, rfl⟩⟩
  have h := hE
  rw [hE] at HCK ⊢
  have HSO : Hid (∀ W', Below w.heap.size w W' → Calls Tryd.prog 71 #[.agg #[.slice a n c, .slice za nz zc, .slice la nl lc]] W' fun e w2 => (∃ v, e = .returned v ∧ RowS w2 W'.heap.size v (secsOf f z m n nz nl)) ∧ Below W'.heap.size W' w2) :=
    fun W' hb => sectionsOf_of sortC compactC W' a za la n c nz zc nl lc f z m h (hS.keep (by omega) hb) (hZ.keep (by omega) hb) (hL.keep (by omega) hb)
  have HOk : Hid (∀ j (hj : j < (secsOf f z m n nz nl).length), ∃ k g c, SecOk f n ((secsOf f z m n nz nl)[j]'hj) k g c) := fun j hj => sec_ok h (secs_of h) j hj
  have hlen : (secsOf f z m n nz nl).length ≤ 256 := secs_le h
  have hn : n ≤ 64 := (chk_ok h).1.2
  have HTab : Hid (∀ W', Below w.heap.size w W' → Tabs W') := fun W' hb => hT.keep hb
  generalize secsOf f z m n nz nl = S at HSO HOk hlen ⊢
  have HS := Lib.hid hS
  clear hS hZ hL h hE hT
  go_enter Tryd.func29, Tryd.ntmps29
  go_wp2_with fail
  rw [← HW.out]
  refine (HCK.out W hBW.out).mono ?_
  rintro e' w1 ⟨rfl, hb1⟩
  have HB1 : Hid (Below w.heap.size w w1) := hBW.out.trans (hb1.mono hBW.out.size)
  have HX1 := Lib.hid (three_keep HX.out hb1)
  clear hb1
  obtain ⟨x0, x1, x2⟩ := HX1.out
  go_wp2_with fail
  refine (HSO.out w1 HB1.out).mono ?_
  rintro e' w2 ⟨⟨v, rfl, hrow⟩, hb2⟩
  have HB2 : Hid (Below w.heap.size w w2) := HB1.out.trans (hb2.mono HB1.out.size)
  have HX2 := Lib.hid (three_keep HX1.out hb2)
  obtain ⟨aS, cS, rfl⟩ : ∃ a3 k3, v = .slice a3 S.length k3 := own_slice hrow
  have HRS := Lib.hid hrow
  clear hb2 hrow x0 x1 x2
  go_wp2_with fail
  go_loopw [5, 18] (fun vo vi wr => ∃ (j : Nat) (O : List Int) (kO : Nat), j ≤ S.length ∧ vi = .int .i64 j ∧ kO ≤ j ∧ Hid (O.length = kO) ∧ (∃ a k, vo = .slice a kO k) ∧ Hid (O = wkL f S j) ∧ Hid (RowL wr w2.heap.size vo O) ∧ Hid (Below w2.heap.size w2 wr)) (fun _ vi _ => S.length - (intOf vi).toNat)
  case atStart => exact ⟨0, [], 0, by omega, rfl, by omega, rfl, ⟨none, 0, rfl⟩, rfl, World.ownsRow_nil _ _ _ _, Below.refl _ _⟩
  case round =>
    obtain ⟨j, O, kO, hj, rfl, hkl, hkO, ⟨oa, ok, rfl⟩, HOe, HR, HD⟩ := hrel
    have hss := HD.out.size
    have HB : Hid (Below w.heap.size w wr) := HB2.out.trans (HD.out.mono HB2.out.size)
    by_cases hlt : j < S.length
    · obtain ⟨gS, cS2, hv⟩ := RowS.form HRS.out (by omega)
      obtain rfl : aS = some ⟨gS, 0, none⟩ := (Value.slice.inj hv).1
      have HRS2 : Hid (RowS w2 w1.heap.size (.slice (some ⟨gS, 0, none⟩) S.length cS) S) := HRS.out
      have hgS : gS < w2.heap.size := (HRS2.out.lt gS rfl).2
      obtain ⟨k, g, cN, hsok⟩ := HOk.out j hlt
      have h5 := rowS_five HRS2.out j hlt
      have HWs : Hid (wkL f S (j + 1) = wkL f S j ++ (if wkB f (S[j]'hlt) = true then [(j : Int)] else [])) := wkL_succ hlt
      generalize S[j]'hlt = s at hsok h5 HWs
      have hwb := wkB_eq hsok
      obtain ⟨⟨q1, hk⟩, ⟨q2, hg⟩, ⟨q3, hc⟩, hmo, hO, hWl⟩ := hsok
      have hbd := wk_bd hmo hO
      have e1 : IntKind.i64.wrap (s.mo * (100 * f (k * 7 + 2))) = s.mo * (100 * f (k * 7 + 2)) := IntWalk.i64_in _ (by omega)
      obtain ⟨b, o, rfl, hI⟩ := HS.out (by omega)
      have s0 := (HD.out.cell (p := ⟨gS, j * 5, none⟩) hgS).trans h5.1
      have s1 := (HD.out.cell (p := ⟨gS, j * 5 + 1, none⟩) hgS).trans h5.2.1
      have s2 := (HD.out.cell (p := ⟨gS, j * 5 + 2, none⟩) hgS).trans h5.2.2.1
      have s3 := (HD.out.cell (p := ⟨gS, j * 5 + 3, none⟩) hgS).trans h5.2.2.2.1
      have s4 := (HD.out.cell (p := ⟨gS, j * 5 + 4, none⟩) hgS).trans h5.2.2.2.2
      rw [q1] at s2
      rw [q3] at s3
      have t0 : (0 : Int) ≤ (j : Int) := by omega
      have t1 : (j : Int) < (S.length : Int) := by omega
      have t2 : (0 : Int) ≤ (k : Int) := by omega
      have t3 : (k : Int) < (n : Int) := by omega
      have hX0 := three_keep HX2.out HD.out
      obtain ⟨x0, x1, x2⟩ := hX0
      go_upto_region 8 with fail
      obtain ⟨wx, hwx⟩ : ∃ wx, wx = wr.alloc (.cells #[.int .i64 s.fr, .int .i64 s.en, .int .i64 k, .int .i64 ((cN : Int) + 1), .int .i64 s.mo] 60) := ⟨_, rfl⟩
      have hDx : Below wr.heap.size wr wx := by rw [hwx]; exact (Below.refl _ _).alloc (Nat.le_refl _) _
      have y2 : wx.cell? ⟨wr.heap.size, 2, none⟩ = some (.int .i64 k) := by rw [hwx]; go_simp
      have y3 : wx.cell? ⟨wr.heap.size, 3, none⟩ = some (.int .i64 ((cN : Int) + 1)) := by rw [hwx]; go_simp
      have y4 : wx.cell? ⟨wr.heap.size, 4, none⟩ = some (.int .i64 s.mo) := by rw [hwx]; go_simp
      have HBx : Hid (Below w.heap.size w wx) := HB.out.trans (hDx.mono HB.out.size)
      have HDx : Hid (Below w2.heap.size w2 wx) := HD.out.trans (hDx.mono hss)
      have hI2 := hI.keep HBx.out (hI.lt (by omega))
      have z0 := (three_keep HX2.out HDx.out).1
      have HRx : Hid (RowL wx w2.heap.size (.slice oa kO ok) O) := HR.out.below hDx
      have hssx := HDx.out.size
      rw [← hwx]
      clear hwx hDx x0 x1 x2 s0 s1 s2 s3 s4
      have d0 := hI2 (k * 7) (by omega)
      have d1 := hI2.at (k * 7) 1 (by omega)
      have d2 := hI2.at (k * 7) 2 (by omega)
      have d3 := hI2.at (k * 7) 3 (by omega)
      have d4 := hI2.at (k * 7) 4 (by omega)
      have d5 := hI2.at (k * 7) 5 (by omega)
      have d6 := hI2.at (k * 7) 6 (by omega)
      rw [q2] at d4
      have HN := Lib.hid (show wx.drew.cell? ⟨w.heap.size, 0, none⟩ = _ ∧ wx.drew.cell? ⟨wr.heap.size, 2, none⟩ = _ ∧ wx.drew.cell? ⟨wr.heap.size, 3, none⟩ = _ ∧ wx.drew.cell? ⟨b, o + k * 7, none⟩ = _ ∧ wx.drew.cell? ⟨b, o + k * 7 + 1, none⟩ = _ ∧ wx.drew.cell? ⟨b, o + k * 7 + 2, none⟩ = _ ∧ wx.drew.cell? ⟨b, o + k * 7 + 3, none⟩ = _ ∧ wx.drew.cell? ⟨b, o + k * 7 + 4, none⟩ = _ ∧ wx.drew.cell? ⟨b, o + k * 7 + 5, none⟩ = _ ∧ wx.drew.cell? ⟨b, o + k * 7 + 6, none⟩ = _ from ⟨z0, y2, y3, d0, d1, d2, d3, d4, d5, d6⟩)
      have HAL := Lib.hid (allowed_of wx.drew (f (k * 7)) (f (k * 7 + 1)) (f (k * 7 + 2)) (f (k * 7 + 3)) (f (k * 7 + 5)) (f (k * 7 + 6)) g cN (HTab.out wx.drew HBx.out.drew) hO hWl hg hc)
      have HS4 := Lib.hid y4
      generalize alwA (f (k * 7 + 3)) g cN = AW at HAL hwb
      clear hI hI2 q1 q2 q3 h5 y4
      go_wp2_with fail
      go_region_held3 (fun W' => W'.cell? ⟨w.heap.size, 0, none⟩ = some (.slice (some ⟨b, o, none⟩) n c) ∧ W'.cell? ⟨wr.heap.size, 2, none⟩ = some (.int .i64 k) ∧ W'.cell? ⟨wr.heap.size, 3, none⟩ = some (.int .i64 ((cN : Int) + 1)) ∧ W'.cell? ⟨b, o + k * 7, none⟩ = some (.int .i64 (f (k * 7))) ∧ W'.cell? ⟨b, o + k * 7 + 1, none⟩ = some (.int .i64 (f (k * 7 + 1))) ∧ W'.cell? ⟨b, o + k * 7 + 2, none⟩ = some (.int .i64 (f (k * 7 + 2))) ∧ W'.cell? ⟨b, o + k * 7 + 3, none⟩ = some (.int .i64 (f (k * 7 + 3))) ∧ W'.cell? ⟨b, o + k * 7 + 4, none⟩ = some (.int .i64 g) ∧ W'.cell? ⟨b, o + k * 7 + 5, none⟩ = some (.int .i64 (f (k * 7 + 5))) ∧ W'.cell? ⟨b, o + k * 7 + 6, none⟩ = some (.int .i64 (f (k * 7 + 6))))
        (first | (with_reducible exact HN.out) | (with_reducible exact hN8))
        (first | (go_at_call 72; refine HAL.out.mono ?_; rintro e8 W8 ⟨rfl, hb8⟩; (have hN8 := ten_keep HN.out hb8)))
      have HB8 : Hid (Below w.heap.size w W8) := HBx.out.drew.trans (hb8.mono HBx.out.size)
      have HD8 : Hid (Below w2.heap.size w2 W8) := HDx.out.drew.trans (hb8.mono hssx)
      have HR8 : Hid (W8.ownsRow w2.heap.size 3 1 (.slice oa kO ok) kO (O.map (.int .i64))) := by
        have h1 := RowL.below (w := wx.drew) HRx.out hb8
        unfold RowL at h1
        rw [hkO.out] at h1
        exact h1
      have s4 : W8.cell? ⟨wr.heap.size, 4, none⟩ = some (.int .i64 s.mo) := (hb8.cell (p := ⟨wr.heap.size, 4, none⟩) (World.block_lt_of_cell? wx _ HS4.out)).trans HS4.out
      have hss8 := HD8.out.size
      clear hb8 hN8 z0 y2 y3 d0 d1 d2 d3 d4 d5 d6
      by_cases hw : AW < s.mo * (100 * f (k * 7 + 2))
      · have p1 : decide (AW < s.mo * (100 * f (k * 7 + 2))) = true := by simpa using hw
        have HOn : Hid (O ++ [(j : Int)] = wkL f S (j + 1)) := by
          show _ = _
          rw [HWs.out, hwb, p1, HOe.out]
          rfl
        have HLn : Hid ((O ++ [(j : Int)]).length = kO + 1) := by show _ = _; rw [List.length_append, hkO.out]; rfl
        clear hw hwb
        go_wp2_with (at_builtin; refine wpList_append_lies _ rfl (.tmp 41) (.tmp 43) 35 rfl w2.heap.size 3 i0 (.int .i64 0) 1 8 Tryd.underlying35 hi0 hz0 hz1 hz2 rfl (by decide) (.slice oa kO ok) kO (O.map (.int .i64)) rfl (HR8.out.alloc _) ⟨W8.heap.size, 0, none⟩ 1 1 [.int .i64 j] rfl rfl (cell_one_new _ _ _) (by simp [Value.oneCell']) (by decide) (by unfold maxLen; omega) (by omega) (by simp; omega) (W8.heap.size + 1) (by simp) ?_; intro g2 cap2 w7 hown7 hg7 hat7 hlt7)
        have HRn : Hid (RowL w7 w2.heap.size (.slice (some ⟨g2, 0, none⟩) (kO + 1) cap2) (O ++ [(j : Int)])) := RowL.snoc (by rw [hkO.out]; exact hown7)
        have HDn : Hid (Below w2.heap.size w2 w7) := (HD8.out.alloc hss8 _).grown hg7 (by simp; omega) (fun q hq => (HR8.out.lt q hq).1)
        clear hown7 hg7 hat7 s4
        go_wp2
        exact ⟨⟨j + 1, O ++ [(j : Int)], kO + 1, by omega, by go_num, by omega, HLn.out, ⟨_, _, rfl⟩, HOn.out, HRn.out, HDn.out⟩, by simp [intOf]; omega⟩
      · have p1 : decide (AW < s.mo * (100 * f (k * 7 + 2))) = false := by simpa using hw
        have HOn : Hid (O = wkL f S (j + 1)) := by
          show _ = _
          rw [HWs.out, hwb, p1, HOe.out]
          simp
        have HRn : Hid (RowL W8 w2.heap.size (.slice oa kO ok) O) := by show RowL _ _ _ _; unfold RowL; rw [hkO.out]; exact HR8.out
        clear hw hwb
        go_wp2
        exact ⟨⟨j + 1, O, kO, by omega, by go_num, by omega, hkO.out, ⟨_, _, rfl⟩, HOn.out, HRn.out, HD8.out⟩, by simp [intOf]; omega⟩
    · obtain rfl : j = S.length := by omega
      have HFe : Hid (O = wkL f S S.length) := HOe
      go_wp2
      go_ret2
      refine ⟨HB.out, .inr ⟨rfl, _, rfl, ?_⟩⟩
      rw [← HFe.out]
      exact HR.out.base HB2.out.size
end Go.Proofs.YtbpifllkimkokaaDoor
