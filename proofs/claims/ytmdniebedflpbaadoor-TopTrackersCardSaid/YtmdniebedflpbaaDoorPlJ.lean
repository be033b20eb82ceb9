/-
  WALKS: Limits of bounds that do not clash.
-/
import Derived.Test.YtmdniebedflpbaaDoorPlI
import Derived.StillTailTactics
namespace Go.Proofs.YtmdniebedflpbaaDoor
open Go.RowKit

theorem pt_new_a (w : World) (t : TypeId) (p : Pt) (o : Obj) : PtAt ((w.alloc (.cells p.cells t)).alloc o) w.heap.size t p :=
  (PtAt.new w t p).keep ((Below.refl _ _).alloc (Nat.le_refl _) _) (by simp)
theorem pt_new_b (w : World) (t : TypeId) (p : Pt) (o : Obj) (c : Array Value) : PtAt (((w.alloc o).alloc (.cells p.cells t)).setRow w.heap.size c) (w.heap.size + 1) t p := by
  have h := PtAt.new (w.alloc o) t p
  rw [World.size_alloc] at h
  exact (setRow_other _ _ _ _ (by omega)).trans h

theorem PtAt.other {w : World} {b b' : Nat} {t : TypeId} {p : Pt} (h : PtAt w b t p) (hne : b ≠ b') (o : Nat) (v : Value) : PtAt (w.setCell ⟨b', o, Option.none⟩ v) b t p :=
  (Below.heap_setCell w ⟨b', o, Option.none⟩ v b hne).trans h

/-- The cells of intervals. -/
def lmV (u d : Pt) (i : Nat) : Value := if i % 4 = 0 then .int .i64 (-(d.mo (i / 4))) else if i % 4 = 1 then .int .i64 (u.mo (i / 4)) else if i % 4 = 2 then .bool (d.kn (i / 4)) else .bool (u.kn (i / 4))
theorem lmV_0 (u d : Pt) (i : Nat) : lmV u d (i * 4) = .int .i64 (-(d.mo i)) := by unfold lmV; rw [if_pos (by omega), show i * 4 / 4 = i by omega]
theorem lmV_1 (u d : Pt) (i : Nat) : lmV u d (i * 4 + 1) = .int .i64 (u.mo i) := by unfold lmV; rw [if_neg (by omega), if_pos (by omega), show (i * 4 + 1) / 4 = i by omega]
theorem lmV_2 (u d : Pt) (i : Nat) : lmV u d (i * 4 + 2) = .bool (d.kn i) := by unfold lmV; rw [if_neg (by omega), if_neg (by omega), if_pos (by omega), show (i * 4 + 2) / 4 = i by omega]
theorem lmV_3 (u d : Pt) (i : Nat) : lmV u d (i * 4 + 3) = .bool (u.kn i) := by unfold lmV; rw [if_neg (by omega), if_neg (by omega), if_neg (by omega), show (i * 4 + 3) / 4 = i by omega]
def lmZ : Value := .agg #[.int .i64 0, .int .i64 0, .bool false, .bool false]
def lmG (u d : Pt) (k i : Nat) : Value := if i < k * 4 then lmV u d i else zc lmZ 4 i
theorem lmG_step (u d : Pt) (k i : Nat) : turn (turn (turn (turn (lmG u d k) (k * 4) (.int .i64 (-(d.mo k)))) (k * 4 + 1) (.int .i64 (u.mo k))) (k * 4 + 2) (.bool (d.kn k))) (k * 4 + 3) (.bool (u.kn k)) i = lmG u d (k + 1) i := by
  unfold turn lmG
  by_cases e3 : i = k * 4 + 3
  · subst e3; rw [if_pos rfl, if_pos (by omega), lmV_3]
  · by_cases e2 : i = k * 4 + 2
    · subst e2; rw [if_neg (by omega), if_pos rfl, if_pos (by omega), lmV_2]
    · by_cases e1 : i = k * 4 + 1
      · subst e1; rw [if_neg (by omega), if_neg (by omega), if_pos rfl, if_pos (by omega), lmV_1]
      · by_cases e0 : i = k * 4
        · subst e0; rw [if_neg (by omega), if_neg (by omega), if_neg (by omega), if_pos rfl, if_pos (by omega), lmV_0]
        · rw [if_neg e3, if_neg e2, if_neg e1, if_neg e0]
          by_cases h : i < k * 4
          · rw [if_pos h, if_pos (by omega)]
          · rw [if_neg h, if_neg (by omega)]
theorem x_interval : (Tryd.prog.info? 46).map (fun i => (i.zero, i.size, i.bytes)) = some (some lmZ, 4, 24) := by kernel_rfl

/-- The paths up and down. -/
def ptU (f : Nat → Int) (len E : Nat) : Pt := (relS f len E Pt.start (-1)).1
def ptD (f : Nat → Int) (len E : Nat) : Pt := (relS (tF f) len E Pt.start (-1)).1

theorem relS_le {E n : Nat} {f : Nat → Int} (hf : BOk E n f) : ∀ (r : Nat) {q : Pt} {s : Int} {B : Int}, q.Le B → (relS f n r q s).1.Le (B + r * 274877906944)
  | 0, q, s, B, h => by simpa [relS] using h
  | r + 1, q, s, B, h => by
    have h1 := ysOf_le hf h n (Nat.le_refl _)
    have hn := hf.1
    have h2 : (q.ups f (ysOf f q n)).Le (B + 274877906944) := h1.mono (by omega)
    simp only [relS]
    split
    · exact h2.mono (by push_cast; omega)
    · exact (relS_le hf r h2).mono (by push_cast; omega)
theorem ptU_le {E n : Nat} {f : Nat → Int} (hf : BOk E n f) : (ptU f n E).Le 17592186044416 := by
  have := hf.1
  exact (relS_le hf E (q := Pt.start) (s := -1) (B := 0) (fun i => by simp [Pt.start])).mono (by omega)
theorem ptD_le {E n : Nat} {f : Nat → Int} (hf : BOk E n f) : (ptD f n E).Le 17592186044416 := ptU_le (tF_ok hf)

set_option maxRecDepth 100000 in
set_option maxHeartbeats 4000000 in
theorem limits_ok (w : World) (f : Nat → Int) (E len c : Nat) (a : Option Addr) (hf : BOk E len f) (hS : Sl w 3 a len f) (hc : clash f len E < 0) :
    Calls Tryd.prog 10 #[.int .i64 (E : Int), .slice a len c] w fun e W' => ∃ B, e = .returned (.tuple #[.slice (some ⟨B, 0, none⟩) E E, .int .i64 0]) ∧ w.heap.size ≤ B ∧
      Blk W' B 46 (E * 4) (lmV (ptU f len E) (ptD f len E)) ∧ Below w.heap.size w W' := by
  have HF := Lib.hid hf
  have HS := Lib.hid hS
  have HC := Lib.hid hc
  have hl := hf.1
  clear hf hS hc
  have hz := paths_zero
  go_enter Tryd.func10, Tryd.ntmps10
  go_wp2_with fail
  refine (checkClash_none w f E len c a HF.out HS.out HC.out).mono ?_
  rintro e w1 ⟨rfl, hB1⟩
  have HB1 := Lib.hid hB1
  clear hB1
  go_wp2_with fail
  refine (fromStart_of w1 f E len c a HF.out (HS.out.keep (by decide) HB1.out)).mono ?_
  rintro e w2 ⟨rfl, hB2⟩
  have HB2 := Lib.hid (HB1.out.trans (hB2.mono HB1.out.size))
  clear hB2
  go_wp2_with fail
  refine (turned_of w2 f len c a (by omega) (HS.out.keep (by decide) HB2.out)).mono ?_
  rintro e w3 ⟨rfl, hI3, hB3⟩
  have HB3 := Lib.hid (HB2.out.trans (hB3.mono HB2.out.size))
  have HI3 := Lib.hid hI3
  clear hB3 hI3
  go_wp2_with fail
  refine (fromStart_of w3 (tF f) E len len (some ⟨w2.heap.size, 0, none⟩) (tF_ok HF.out) (fun _ => ⟨_, _, rfl, HI3.out⟩)).mono ?_
  rintro e w4 ⟨rfl, hB4⟩
  have HB4 := Lib.hid (HB3.out.trans (hB4.mono HB3.out.size))
  clear hB4
  have eu : (relS f len E Pt.start (-1)).1 = ptU f len E := rfl
  have ed : (relS (tF f) len E Pt.start (-1)).1 = ptD f len E := rfl
  rw [eu, ed]
  clear eu ed
  go_wp2_with (first | ((with_reducible refine wpList_store_paths (b := w4.heap.size) (p := Pt.none) (q := ptU f len E) rfl (.tmp 7) (.tmp 19) rfl ?_ ?_ (pt_new_a w4 _ Pt.none _) ?_); rfl; rfl) | ((with_reducible refine wpList_store_paths (b := w4.heap.size + 1) (p := Pt.none) (q := ptD f len E) rfl (.tmp 8) (.tmp 23) rfl ?_ ?_ (pt_new_b w4 _ Pt.none _ _) ?_); rfl; rfl) |
    (at_make; refine wp_makeB _ rfl _ _ 42 46 rfl Tryd.underlying42 x_interval rfl (by decide) _ _ E rfl rfl rfl rfl (by omega) (by decide) ?_))
  obtain ⟨W5, hW5⟩ : ∃ W5, (((w4.alloc (.cells Pt.none.cells 72)).alloc (.cells Pt.none.cells 72)).setRow w4.heap.size (ptU f len E).cells).setRow (w4.heap.size + 1) (ptD f len E).cells = W5 := ⟨_, rfl⟩
  rw [hW5]
  have hz5 : W5.heap.size = w4.heap.size + 2 := by rw [← hW5]; simp
  have hU : PtAt W5 w4.heap.size 72 (ptU f len E) := by
    rw [← hW5]
    exact (setRow_other _ _ _ _ (by omega)).trans ((pt_new_a w4 _ _ _).row _)
  have hD : PtAt W5 (w4.heap.size + 1) 72 (ptD f len E) := by
    rw [← hW5]
    exact (pt_new_b w4 _ _ _ _).row _
  have hB5 : Below w4.heap.size w4 W5 := by
    rw [← hW5]
    exact ((((Below.refl _ w4).alloc (Nat.le_refl _) _).alloc (by simp) _).trans (below_setRow _ _ (Nat.le_refl _))).trans (below_setRow _ _ (by omega))
  clear hW5
  obtain ⟨W6, hW6⟩ : ∃ W6, W5.alloc (.cells (vrow (E * 4) (zc lmZ 4)) 46) = W6 := ⟨_, rfl⟩
  have h6 : Below W5.heap.size W5 W6 := by rw [← hW6]; exact (Below.refl _ _).alloc (Nat.le_refl _) _
  have hK : Blk W6 W5.heap.size 46 (E * 4) (lmG (ptU f len E) (ptD f len E) 0) := by
    rw [← hW6]
    refine (Blk.new W5 _ _ _).congr fun i _ => ?_
    unfold lmG
    rw [if_neg (by omega)]
  simp only [hz5] at hK h6 ⊢
  rw [hW6]
  have hU6 := hU.keep h6 (by omega)
  have hD6 := hD.keep h6 (by omega)
  have h4s := HB4.out.size
  have h66 : Below w.heap.size w W6 := HB4.out.trans ((hB5.mono h4s).trans (h6.mono (by omega)))
  have hdl := ptD_le HF.out
  have HU6 := Lib.hid hU6
  have HD6 := Lib.hid hD6
  have HK6 := Lib.hid hK
  have H66 := Lib.hid h66
  have HDl := Lib.hid hdl
  have HBw := HB4.out.size
  clear hU hD hB5 hz5 h6 hW6 hK hU6 hD6 h66 hdl h4s HB1 HB2 HB3 HI3 HB4
  go_loopw [28] (fun i wr => ∃ k : Nat, k ≤ E ∧ i = .int .i64 k ∧ Hid (Blk wr (w4.heap.size + 1 + 1) 46 (E * 4) (lmG (ptU f len E) (ptD f len E) k)) ∧ Hid (PtAt wr w4.heap.size 72 (ptU f len E)) ∧ Hid (PtAt wr (w4.heap.size + 1) 72 (ptD f len E)) ∧ Hid (Below w.heap.size w wr)) (fun i _ => E - (intOf i).toNat)
  case atStart => exact ⟨0, by omega, rfl, HK6.out, HU6.out, HD6.out, H66.out⟩
  case round =>
    obtain ⟨k, hk, rfl, HK, HU, HD, HB⟩ := hrel
    by_cases hlt : k < E
    · have u0 := HU.out.kn (k := k) (by omega)
      have u1 := HU.out.mo (k := k) (by omega)
      have d0 := HD.out.kn (k := k) (by omega)
      have d1 := HD.out.mo (k := k) (by omega)
      have g0 := HK.out.cell (k := k * 4) (by omega)
      have g1 := HK.out.cell (k := k * 4 + 1) (by omega)
      have g2 := HK.out.cell (k := k * 4 + 2) (by omega)
      have g3 := HK.out.cell (k := k * 4 + 3) (by omega)
      have z0 := HK.out.fz (k * 4)
      have z1 := HK.out.fz (k * 4 + 1)
      have z2 := HK.out.fz (k * 4 + 2)
      have z3 := HK.out.fz (k * 4 + 3)
      have hk64 : (k : Int) < 64 := by omega
      have hkE : (k : Int) < E := by omega
      have hdm := HDl.out k
      have hw : IntKind.i64.wrap (-(ptD f len E).mo k) = -(ptD f len E).mo k := IntWalk.i64_in _ (by omega)
      go_wp2_with fail
      go_still_tail 21, (by kernel_rfl)
      change wpList _ _ _ _ _ wr.drew
      go_wp2_with fail
      have e1 := ((((HK.out.set (k * 4) (.int .i64 (-(ptD f len E).mo k))).set (k * 4 + 1) (.int .i64 ((ptU f len E).mo k))).set (k * 4 + 2) (.bool ((ptD f len E).kn k))).set (k * 4 + 3) (.bool ((ptU f len E).kn k))).congr (fun i _ => lmG_step (ptU f len E) (ptD f len E) k i)
      have e2 := (((HU.out.other (b' := w4.heap.size + 1 + 1) (by omega) (k * 4) (.int .i64 (-(ptD f len E).mo k))).other (b' := w4.heap.size + 1 + 1) (by omega) (k * 4 + 1) (.int .i64 ((ptU f len E).mo k))).other (b' := w4.heap.size + 1 + 1) (by omega) (k * 4 + 2) (.bool ((ptD f len E).kn k))).other (b' := w4.heap.size + 1 + 1) (by omega) (k * 4 + 3) (.bool ((ptU f len E).kn k))
      have e3 := (((HD.out.other (b' := w4.heap.size + 1 + 1) (by omega) (k * 4) (.int .i64 (-(ptD f len E).mo k))).other (b' := w4.heap.size + 1 + 1) (by omega) (k * 4 + 1) (.int .i64 ((ptU f len E).mo k))).other (b' := w4.heap.size + 1 + 1) (by omega) (k * 4 + 2) (.bool ((ptD f len E).kn k))).other (b' := w4.heap.size + 1 + 1) (by omega) (k * 4 + 3) (.bool ((ptU f len E).kn k))
      have e4 := (((HB.out.setCell (p := ⟨w4.heap.size + 1 + 1, k * 4, none⟩) (by show w.heap.size ≤ w4.heap.size + 1 + 1; omega) (.int .i64 (-(ptD f len E).mo k))).setCell (p := ⟨w4.heap.size + 1 + 1, k * 4 + 1, none⟩) (by show w.heap.size ≤ w4.heap.size + 1 + 1; omega) (.int .i64 ((ptU f len E).mo k))).setCell (p := ⟨w4.heap.size + 1 + 1, k * 4 + 2, none⟩) (by show w.heap.size ≤ w4.heap.size + 1 + 1; omega) (.bool ((ptD f len E).kn k))).setCell (p := ⟨w4.heap.size + 1 + 1, k * 4 + 3, none⟩) (by show w.heap.size ≤ w4.heap.size + 1 + 1; omega) (.bool ((ptU f len E).kn k))
      exact ⟨⟨k + 1, by omega, by go_num, e1, e2, e3, e4.drew⟩, by simp [intOf]; omega⟩
    · obtain rfl : k = E := by omega
      go_wp2_with fail
      refine bodyPost_ret (v := .tuple #[.slice (some ⟨w4.heap.size + 1 + 1, 0, none⟩) k k, .int .i64 0]) (by simp [results, Tryd.f10, go_sem]) rfl ⟨w4.heap.size + 1 + 1, rfl, by omega, HK.out.congr fun i hi => ?_, HB.out⟩
      unfold lmG; rw [if_pos hi]
end Go.Proofs.YtmdniebedflpbaaDoor
