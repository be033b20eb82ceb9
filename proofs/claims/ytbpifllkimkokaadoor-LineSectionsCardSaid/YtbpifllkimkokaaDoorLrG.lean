/-
  WALKS: Weak, by the program and by the reference.
-/
import Derived.Test.YtbpifllkimkokaaDoorLrF
import Derived.Test.YtbpifllkimkokaaDoorLqG
import Derived.Maps.AppendAt
namespace Go.Proofs.YtbpifllkimkokaaDoor
open Go.RowKit

/-- A section's item, class and limit lie in their ranges. -/
def SecOk (f : Nat → Int) (n : Nat) (s : Sec) (k g c : Nat) : Prop :=
  (s.it = (k : Int) ∧ k < n) ∧ (f (k * 7 + 4) = (g : Int) ∧ g < 8) ∧ (s.cl = (c : Int) + 1 ∧ c < 4) ∧ (0 ≤ s.mo ∧ s.mo ≤ 1048576) ∧ (1 ≤ f (k * 7 + 2) ∧ f (k * 7 + 2) ≤ 2097152) ∧ (1 ≤ f (k * 7 + 3) ∧ f (k * 7 + 3) ≤ 131072)
/-- Whether a section is weak. -/
def wkB (f : Nat → Int) (s : Sec) : Bool := decide (alwA (f (s.it.toNat * 7 + 3)) (f (s.it.toNat * 7 + 4)).toNat (s.cl - 1).toNat < s.mo * (100 * f (s.it.toNat * 7 + 2)))
theorem wkB_eq {f : Nat → Int} {n : Nat} {s : Sec} {k g c : Nat} (h : SecOk f n s k g c) : wkB f s = decide (alwA (f (k * 7 + 3)) g c < s.mo * (100 * f (k * 7 + 2))) := by
  obtain ⟨⟨h1, _⟩, ⟨h2, _⟩, ⟨h3, _⟩, _⟩ := h
  unfold wkB
  rw [h1, h3, Int.toNat_natCast, h2, Int.toNat_natCast, show ((c : Int) + 1 - 1).toNat = c by omega]
/-- The numbers of the weak sections among the first j. -/
def wkL (f : Nat → Int) (S : List Sec) : Nat → List Int
  | 0 => []
  | j + 1 => wkL f S j ++ (if h : j < S.length then (if wkB f (S[j]'h) = true then [(j : Int)] else []) else [])
theorem wkL_succ {f : Nat → Int} {S : List Sec} {j : Nat} (h : j < S.length) : wkL f S (j + 1) = wkL f S j ++ (if wkB f (S[j]'h) = true then [(j : Int)] else []) := by simp [wkL, h]
theorem wkL_length (f : Nat → Int) (S : List Sec) : ∀ j, (wkL f S j).length ≤ j
  | 0 => by simp [wkL]
  | j + 1 => by
    have := wkL_length f S j
    simp only [wkL, List.length_append]
    split
    · split <;> simp <;> omega
    · simp; omega
theorem clsAt_bd {z : Nat → Int} {nz : Nat} (hz : ZOk z nz) (st : Int) : 1 ≤ clsAt z nz st ∧ clsAt z nz st ≤ 4 := by
  unfold clsAt
  cases h : (List.range nz).find? (inZ z st) with
  | none => exact ⟨by show (1 : Int) ≤ 1; omega, by show (1 : Int) ≤ 4; omega⟩
  | some j =>
    have hj : j < nz := by simpa using List.mem_of_find?_eq_some h
    exact (hz j hj).2.2
theorem lmtAt_bd {n nz nl : Nat} {f z m : Nat → Int} (h : chk n nz nl f z m = 0) (st : Int) : ∀ k, k ≤ nl → 0 ≤ lmtAt m st k ∧ lmtAt m st k ≤ 1048576
  | 0, _ => ⟨by show (0 : Int) ≤ 0; omega, by show (0 : Int) ≤ 1048576; omega⟩
  | k + 1, hk => by
    have h1 := lok_of h k (by omega)
    have h2 := lmtAt_bd h st k (by omega)
    simp only [lmtAt]
    split
    · omega
    · exact h2
theorem sec_ok {n nz nl : Nat} {f z m : Nat → Int} (h : chk n nz nl f z m = 0) {S : List Sec} (hs : Secs f z m n nz nl S (endS f n)) (j : Nat) (hj : j < S.length) : ∃ k g c, SecOk f n (S[j]'hj) k g c := by
  have hok := chk_ok h
  have h1 := hs.one j hj
  have ht := h1.2 _ (Int.le_refl _) h1.1.1
  obtain ⟨i, hi, h2, h3⟩ := item_ex (f := f) (n := n) (st := (S[j]'hj).fr) ⟨h1.1.2.1, by omega⟩
  have hit : itemOf f n (S[j]'hj).fr = i := itemOf_eq (by omega) hok.2.2.2.1 hi h2 h3
  have hv := itErr_ok (hok.2.2.2.1 i hi)
  have hc := clsAt_bd (zok_of h) (S[j]'hj).fr
  have hl := lmtAt_bd h (S[j]'hj).fr nl (Nat.le_refl _)
  refine ⟨i, (f (i * 7 + 4)).toNat, (clsAt z nz (S[j]'hj).fr - 1).toNat, ⟨by rw [ht.1, hit], hi⟩, ⟨by omega, by omega⟩, ⟨by rw [ht.2.1]; omega, by omega⟩, by rw [ht.2.2]; exact hl, hv.2.2.1, hv.2.2.2.1⟩
theorem wk_bd {mo O : Int} (h1 : 0 ≤ mo ∧ mo ≤ 1048576) (h2 : 1 ≤ O ∧ O ≤ 2097152) : 0 ≤ mo * (100 * O) ∧ mo * (100 * O) ≤ 219902325555200 := by
  have h3 : 0 ≤ mo * (100 * O) := Int.mul_nonneg h1.1 (by omega)
  have h4 : mo * (100 * O) ≤ 1048576 * 209715200 := Int.mul_le_mul h1.2 (by omega) (by omega) (by omega)
  omega

theorem secs_le {n nz nl : Nat} {f z m : Nat → Int} (h : chk n nz nl f z m = 0) : (secsOf f z m n nz nl).length ≤ 256 := by
  have hok := chk_ok h
  have h1 : ∀ (L : List Int) (S : List Sec), (L.foldl (pstep f z m n nz nl (endS f n)) S).length ≤ S.length + L.length := by
    intro L
    induction L with
    | nil => intro S; simp
    | cons x L ih =>
      intro S
      have h2 := ih (pstep f z m n nz nl (endS f n) S x)
      have h3 := pstep_length f z m n nz nl (endS f n) S x
      simp only [List.foldl_cons, List.length_cons]
      omega
  have h2 := h1 (ascOf (allBs f z m n nz nl)) []
  have h3 := ascOf_length (allBs f z m n nz nl)
  have h4 := (allBs_length f z m n nz nl).2
  unfold secsOf
  simp only [List.length_nil] at h2
  omega
/-- What the program's Weak hands back: E: the line's error. -/
def WeP (E : Int) (L : List Int) (w : World) (e : Ending) (w' : World) : Prop :=
  Below w.heap.size w w' ∧ ((E ≠ 0 ∧ e = .returned (.tuple #[.slice none 0 0, .int .i64 E])) ∨ (E = 0 ∧ ∃ v, e = .returned (.tuple #[v, .int .i64 0]) ∧ RowL w' w.heap.size v L))

set_option maxRecDepth 8000 in
set_option maxHeartbeats 6400000 in
theorem rweak_of (w : World) (a za la : Option Addr) (n c nz zc nl lc : Nat) (f z m : Nat → Int) (h : chk n nz nl f z m = 0) (hS : Sl w 7 a n f) (hZ : Sl w 3 za nz z) (hL : Sl w 2 la nl m) :
    Calls Tryd.prog 33 #[.agg #[.slice a n c, .slice za nz zc, .slice la nl lc]] w fun e w' => (∃ v, e = .returned v ∧ RowL w' w.heap.size v (wkL f (secsOf f z m n nz nl) (secsOf f z m n nz nl).length)) ∧ Below w.heap.size w w' := by
  obtain ⟨i0, hi0, hz0, hz1, hz2⟩ := info_parts x_infoInt
  have HSO : Hid (∀ W', Below w.heap.size w W' → Calls Tryd.prog 32 #[.agg #[.slice a n c, .slice za nz zc, .slice la nl lc]] W' fun e w2 => (∃ v, e = .returned v ∧ RowR w2 W'.heap.size v (secsOf f z m n nz nl)) ∧ Below W'.heap.size W' w2) :=
    fun W' hb => rsections_of W' a za la n c nz zc nl lc f z m h (hS.keep (by omega) hb) (hZ.keep (by omega) hb) (hL.keep (by omega) hb)
  have HOk : Hid (∀ j (hj : j < (secsOf f z m n nz nl).length), ∃ k g c, SecOk f n ((secsOf f z m n nz nl)[j]'hj) k g c) := fun j hj => sec_ok h (secs_of h) j hj
  have hlen : (secsOf f z m n nz nl).length ≤ 256 := secs_le h
  have hn : n ≤ 64 := (chk_ok h).1.2
  generalize secsOf f z m n nz nl = S at HSO HOk hlen ⊢
  have HS := Lib.hid hS
  clear hS hZ hL h
  obtain ⟨W, hW⟩ : ∃ W, W = w.alloc (.cells #[.slice a n c, .slice za nz zc, .slice la nl lc] 31) := ⟨_, rfl⟩
  have hBW : Hid (Below w.heap.size w W) := by rw [hW]; exact (Below.refl _ _).alloc (Nat.le_refl _) _
  have HX : Hid (W.cell? ⟨w.heap.size, 0, none⟩ = some (.slice a n c) ∧ W.cell? ⟨w.heap.size, 1, none⟩ = some (.slice za nz zc) ∧ W.cell? ⟨w.heap.size, 2, none⟩ = some (.slice la nl lc)) := by
    rw [hW]; exact ⟨by go_simp, by go_simp, by go_simp⟩
  have HW := Lib.hid hW
  clear hW
  go_enter Tryd.func33, Tryd.ntmps33
  go_wp2_with fail
  rw [← HW.out]
  refine (HSO.out W hBW.out).mono ?_
  rintro e' w2 ⟨⟨v, rfl, hrow⟩, hb2⟩
  have HB2 : Hid (Below w.heap.size w w2) := hBW.out.trans (hb2.mono hBW.out.size)
  have HX2 := Lib.hid (three_keep HX.out hb2)
  obtain ⟨aS, cS, rfl⟩ : ∃ a3 k3, v = .slice a3 S.length k3 := own_slice hrow
  have HRS := Lib.hid hrow
  clear hb2 hrow
  go_wp2_with fail
  go_loopw [4, 5] (fun vo vi wr => ∃ (j : Nat) (O : List Int) (kO : Nat), j ≤ S.length ∧ vi = .int .i64 j ∧ kO ≤ j ∧ Hid (O.length = kO) ∧ (∃ a k, vo = .slice a kO k) ∧ Hid (O = wkL f S j) ∧ Hid (RowL wr w2.heap.size vo O) ∧ Hid (Below w2.heap.size w2 wr)) (fun _ vi _ => S.length - (intOf vi).toNat)
  case atStart => exact ⟨0, [], 0, by omega, rfl, by omega, rfl, ⟨none, 0, rfl⟩, rfl, World.ownsRow_nil _ _ _ _, Below.refl _ _⟩
  case round =>
    obtain ⟨j, O, kO, hj, rfl, hkl, hkO, ⟨oa, ok, rfl⟩, HOe, HR, HD⟩ := hrel
    have hss := HD.out.size
    have HB : Hid (Below w.heap.size w wr) := HB2.out.trans (HD.out.mono HB2.out.size)
    by_cases hlt : j < S.length
    · obtain ⟨gS, cS2, hv⟩ := RowR.form HRS.out (by omega)
      obtain rfl : aS = some ⟨gS, 0, none⟩ := (Value.slice.inj hv).1
      have HRS2 : Hid (RowR w2 W.heap.size (.slice (some ⟨gS, 0, none⟩) S.length cS) S) := HRS.out
      have hgS : gS < w2.heap.size := (HRS2.out.lt gS rfl).2
      obtain ⟨k, g, cN, hsok⟩ := HOk.out j hlt
      have h5 := HRS2.out.five j hlt
      have HWs : Hid (wkL f S (j + 1) = wkL f S j ++ (if wkB f (S[j]'hlt) = true then [(j : Int)] else [])) := wkL_succ hlt
      generalize S[j]'hlt = s at hsok h5 HWs
      have hwb := wkB_eq hsok
      obtain ⟨⟨q1, hk⟩, ⟨q2, hg⟩, ⟨q3, hc⟩, hmo, hO, hWl⟩ := hsok
      have hbd := wk_bd hmo hO
      have e1 : IntKind.i64.wrap (s.mo * (100 * f (k * 7 + 2))) = s.mo * (100 * f (k * 7 + 2)) := IntWalk.i64_in _ (by omega)
      obtain ⟨b, o, rfl, hI⟩ := HS.out (by omega)
      have hI2 := hI.keep HB.out (hI.lt (by omega))
      have s2 := (HD.out.cell (p := ⟨gS, j * 5 + 2, none⟩) hgS).trans h5.2.2.1
      have s3 := (HD.out.cell (p := ⟨gS, j * 5 + 3, none⟩) hgS).trans h5.2.2.2.1
      have s4 := (HD.out.cell (p := ⟨gS, j * 5 + 4, none⟩) hgS).trans h5.2.2.2.2
      rw [q1] at s2
      rw [q3] at s3
      have d0 := hI2 (k * 7) (by omega)
      have d1 := hI2.at (k * 7) 1 (by omega)
      have d2 := hI2.at (k * 7) 2 (by omega)
      have d3 := hI2.at (k * 7) 3 (by omega)
      have d4 := hI2.at (k * 7) 4 (by omega)
      have d5 := hI2.at (k * 7) 5 (by omega)
      have d6 := hI2.at (k * 7) 6 (by omega)
      rw [q2] at d4
      have x0 := (three_keep HX2.out HD.out).1
      have HN := Lib.hid (show wr.drew.cell? ⟨w.heap.size, 0, none⟩ = _ ∧ wr.drew.cell? ⟨gS, j * 5 + 2, none⟩ = _ ∧ wr.drew.cell? ⟨gS, j * 5 + 3, none⟩ = _ ∧ wr.drew.cell? ⟨b, o + k * 7, none⟩ = _ ∧ wr.drew.cell? ⟨b, o + k * 7 + 1, none⟩ = _ ∧ wr.drew.cell? ⟨b, o + k * 7 + 2, none⟩ = _ ∧ wr.drew.cell? ⟨b, o + k * 7 + 3, none⟩ = _ ∧ wr.drew.cell? ⟨b, o + k * 7 + 4, none⟩ = _ ∧ wr.drew.cell? ⟨b, o + k * 7 + 5, none⟩ = _ ∧ wr.drew.cell? ⟨b, o + k * 7 + 6, none⟩ = _ from ⟨x0, s2, s3, d0, d1, d2, d3, d4, d5, d6⟩)
      have HAL := Lib.hid (rallowed_of wr.drew (f (k * 7)) (f (k * 7 + 1)) (f (k * 7 + 2)) (f (k * 7 + 3)) (f (k * 7 + 5)) (f (k * 7 + 6)) g cN hO hWl hg hc)
      have HS4 := Lib.hid s4
      have t0 : (0 : Int) ≤ (j : Int) := by omega
      have t1 : (j : Int) < (S.length : Int) := by omega
      have t2 : (0 : Int) ≤ (k : Int) := by omega
      have t3 : (k : Int) < (n : Int) := by omega
      generalize alwA (f (k * 7 + 3)) g cN = AW at HAL hwb
      clear hI hI2 q1 q2 q3 h5 s4 hv
      go_wp2_with fail
      go_region_held3 (fun W' => W'.cell? ⟨w.heap.size, 0, none⟩ = some (.slice (some ⟨b, o, none⟩) n c) ∧ W'.cell? ⟨gS, j * 5 + 2, none⟩ = some (.int .i64 k) ∧ W'.cell? ⟨gS, j * 5 + 3, none⟩ = some (.int .i64 ((cN : Int) + 1)) ∧ W'.cell? ⟨b, o + k * 7, none⟩ = some (.int .i64 (f (k * 7))) ∧ W'.cell? ⟨b, o + k * 7 + 1, none⟩ = some (.int .i64 (f (k * 7 + 1))) ∧ W'.cell? ⟨b, o + k * 7 + 2, none⟩ = some (.int .i64 (f (k * 7 + 2))) ∧ W'.cell? ⟨b, o + k * 7 + 3, none⟩ = some (.int .i64 (f (k * 7 + 3))) ∧ W'.cell? ⟨b, o + k * 7 + 4, none⟩ = some (.int .i64 g) ∧ W'.cell? ⟨b, o + k * 7 + 5, none⟩ = some (.int .i64 (f (k * 7 + 5))) ∧ W'.cell? ⟨b, o + k * 7 + 6, none⟩ = some (.int .i64 (f (k * 7 + 6))))
        (first | (with_reducible exact HN.out) | (with_reducible exact hN8))
        (first | (go_at_call 75; refine HAL.out.mono ?_; rintro e8 W8 ⟨rfl, hb8⟩; (have hN8 := ten_keep HN.out hb8)))
      have HB8 : Hid (Below w.heap.size w W8) := HB.out.drew.trans (hb8.mono HB.out.size)
      have HD8 : Hid (Below w2.heap.size w2 W8) := HD.out.drew.trans (hb8.mono hss)
      have HR8 : Hid (W8.ownsRow w2.heap.size 3 1 (.slice oa kO ok) kO (O.map (.int .i64))) := by
        have h1 := RowL.below (w := wr.drew) HR.out hb8
        unfold RowL at h1
        rw [hkO.out] at h1
        exact h1
      have s4 : W8.cell? ⟨gS, j * 5 + 4, none⟩ = some (.int .i64 s.mo) := (hb8.cell (p := ⟨gS, j * 5 + 4, none⟩) (World.block_lt_of_cell? wr _ HS4.out)).trans HS4.out
      have hss8 := HD8.out.size
      clear hb8 hN8 x0 s2 s3 d0 d1 d2 d3 d4 d5 d6
      by_cases hw : AW < s.mo * (100 * f (k * 7 + 2))
      · have p1 : decide (AW < s.mo * (100 * f (k * 7 + 2))) = true := by simpa using hw
        have HOn : Hid (O ++ [(j : Int)] = wkL f S (j + 1)) := by
          show _ = _
          rw [HWs.out, hwb, p1, HOe.out]
          rfl
        have HLn : Hid ((O ++ [(j : Int)]).length = kO + 1) := by show _ = _; rw [List.length_append, hkO.out]; rfl
        clear hw hwb
        go_wp2_with (at_builtin; refine wpList_append_lies _ rfl (.tmp 43) (.tmp 45) 35 rfl w2.heap.size 3 i0 (.int .i64 0) 1 8 Tryd.underlying35 hi0 hz0 hz1 hz2 rfl (by decide) (.slice oa kO ok) kO (O.map (.int .i64)) rfl (HR8.out.alloc _) ⟨W8.heap.size, 0, none⟩ 1 1 [.int .i64 j] rfl rfl (cell_one_new _ _ _) (by simp [Value.oneCell']) (by decide) (by unfold maxLen; omega) (by omega) (by simp; omega) (W8.heap.size + 1) (by simp) ?_; intro g2 cap2 w7 hown7 hg7 hat7 hlt7)
        have HRn : Hid (RowL w7 w2.heap.size (.slice (some ⟨g2, 0, none⟩) (kO + 1) cap2) (O ++ [(j : Int)])) := RowL.snoc (by rw [hkO.out]; exact hown7)
        have HDn : Hid (Below w2.heap.size w2 w7) := (HD8.out.alloc hss8 _).grown hg7 (by simp; omega) (fun q hq => (HR8.out.lt q hq).1)
        clear hown7 hg7 hat7 s4
        go_wp2
        exact ⟨⟨j + 1, O ++ [(j : Int)], kO + 1, by omega, by go_num, by omega, HLn.out, ⟨_, _, rfl⟩, HOn.out, HRn.out, HDn.out⟩, by simp [intOf]; omega⟩
      · have p1 : decide (AW < s.mo * (100 * f (k * 7 + 2))) = false := by simpa using hw
        have HOn : Hid (O = wkL f S (j + 1)) := by
          show _ = _
          rw [HWs.out, hwb, p1, HOe.out]
          simp
        have HRn : Hid (RowL W8 w2.heap.size (.slice oa kO ok) O) := by show RowL _ _ _ _; unfold RowL; rw [hkO.out]; exact HR8.out
        clear hw hwb
        go_wp2
        exact ⟨⟨j + 1, O, kO, by omega, by go_num, by omega, hkO.out, ⟨_, _, rfl⟩, HOn.out, HRn.out, HD8.out⟩, by simp [intOf]; omega⟩
    · obtain rfl : j = S.length := by omega
      have HFe : Hid (O = wkL f S S.length) := HOe
      go_wp2
      go_ret
      refine ⟨⟨_, rfl, ?_⟩, HB.out⟩
      rw [← HFe.out]
      exact HR.out.base HB2.out.size
end Go.Proofs.YtbpifllkimkokaaDoor
