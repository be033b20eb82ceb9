/-
  WALKS: breaks: the stations at which something may change, ascending.
-/
import Derived.Test.YtbpifllkimkokaaDoorLqA
import Derived.Test.YtbpifllkimkokaaDoorLoB
import Derived.Deep.RegionHeld3
import Derived.Deep.AppendLies
import Derived.Maps.AppendAt
namespace Go.Proofs.YtbpifllkimkokaaDoor
open Go.RowKit Go.Sort

theorem RowL.sorted {w : World} {base g cap n : Nat} {os : Array Obj} {ss : List Int} (h : RowL w base (.slice (some ⟨g, 0, none⟩) ss.length cap) ss) (h0 : base ≤ g) (ts : List Int) (hl : ts.length = ss.length) :
    RowL (grow (putRow (Value.int .i64) (Sort.ahead w n) g 0 ts.toArray) os) base (.slice (some ⟨g, 0, none⟩) ts.length cap) ts := by
  rcases h.2 with ⟨h1, _⟩ | ⟨g', cap', cur, hv, hg, hb, h1, h2, h3, h4⟩
  · cases h1
  cases hv
  have := ownsRow_sortedI (n := n) (os := os) (ts := ts) hl h0 hb h1 h2 h3
  unfold RowL
  rw [hl]
  exact this
theorem five_keepB {W W' : World} {B : Nat} {g h : Nat} {a0 a1 a2 b0 b1 : Value} (hx : W.cell? ⟨g, 0, none⟩ = some a0 ∧ W.cell? ⟨g, 1, none⟩ = some a1 ∧ W.cell? ⟨g, 2, none⟩ = some a2 ∧ W.cell? ⟨h, 0, none⟩ = some b0 ∧ W.cell? ⟨h, 1, none⟩ = some b1) (hb : Below B W W') (hg : g < B) (hh : h < B) :
    W'.cell? ⟨g, 0, none⟩ = some a0 ∧ W'.cell? ⟨g, 1, none⟩ = some a1 ∧ W'.cell? ⟨g, 2, none⟩ = some a2 ∧ W'.cell? ⟨h, 0, none⟩ = some b0 ∧ W'.cell? ⟨h, 1, none⟩ = some b1 :=
  ⟨(hb.cell (p := ⟨g, 0, none⟩) hg).trans hx.1, (hb.cell (p := ⟨g, 1, none⟩) hg).trans hx.2.1, (hb.cell (p := ⟨g, 2, none⟩) hg).trans hx.2.2.1, (hb.cell (p := ⟨h, 0, none⟩) hh).trans hx.2.2.2.1, (hb.cell (p := ⟨h, 1, none⟩) hh).trans hx.2.2.2.2⟩
theorem RowL.snoc2 {w : World} {B : Nat} {v : Value} {L : List Int} {x y : Int} (h : w.ownsRow B 3 1 v (L.length + 1 + 1) (L.map (.int .i64) ++ [.int .i64 x] ++ [.int .i64 y])) : RowL w B v (L ++ [x] ++ [y]) := by
  unfold RowL
  rw [List.length_append, List.length_append, List.map_append, List.map_append]
  exact h
theorem RowL.holds {w : World} {base g cap : Nat} {ss : List Int} (h : RowL w base (.slice (some ⟨g, 0, none⟩) ss.length cap) ss) : Holds (Value.int .i64) w g 0 ss.toArray ∧ g < w.heap.size ∧ ss.length ≤ cap := by
  rcases h.2 with ⟨h1, _⟩ | ⟨g', cap', cur, hv, hg, hb, h1, h2, h3, h4⟩
  · cases h1
  cases hv
  exact ⟨holds_of_blockI hb (by simpa using h4), (Array.getElem?_eq_some_iff.1 hb).1, h1⟩
theorem RowL.take {w : World} {base g cap : Nat} {ss : List Int} (h : RowL w base (.slice (some ⟨g, 0, none⟩) ss.length cap) ss) (ts us : List Int) (he : ss = ts ++ us) : RowL w base (.slice (some ⟨g, 0, none⟩) ts.length cap) ts := by
  rcases h.2 with ⟨h1, _⟩ | ⟨g', cap', cur, hv, hg, hb, h1, h2, h3, h4⟩
  · cases h1
  cases hv
  subst he
  refine ⟨by simp, .inr ⟨g, cap, cur, rfl, hg, hb, by simp at h1; omega, h2, h3, ?_⟩⟩
  rw [Nat.mul_one] at h4 ⊢
  have := congrArg (List.take ts.length) h4
  rw [List.take_take, List.length_append, Nat.min_eq_left (by omega)] at this
  rw [this]
  simp

/-- slices.Sort and slices.Compact at ints. -/
def SortC : Prop := ∀ (blk off cap : Nat) (zs : List Int) (w : World), Holds (Value.int .i64) w blk off zs.toArray → blk < w.heap.size → zs.length < 4611686018427387904 →
  Calls Tryd.prog 50 #[.slice (some ⟨blk, off, none⟩) zs.length cap] w fun e w' => e = .returned (.tuple #[]) ∧ ∃ n os, w' = grow (putRow (Value.int .i64) (Sort.ahead w n) blk off (zs.mergeSort fun x y => decide (x ≤ y)).toArray) os
def CompactC : Prop := ∀ (blk off cap : Nat) (zs : List Int) (w : World), Holds (Value.int .i64) w blk off zs.toArray → zs.length ≤ 9223372036854775807 → zs.length ≤ cap →
  Calls Tryd.prog 124 #[.slice (some ⟨blk, off, none⟩) zs.length cap] w fun e w' => e = .returned (.slice (some ⟨blk, off, none⟩) (Lib.compact zs).length cap) ∧ ∃ q, w' = putRow (Value.int .i64) (Sort.ahead w q) blk off (Lib.compact zs ++ List.replicate (zs.length - (Lib.compact zs).length) 0).toArray

set_option maxRecDepth 8000 in
set_option maxHeartbeats 3200000 in
theorem breaks_of (HSort : SortC) (HComp : CompactC) (w : World) (a za la : Option Addr) (n c nz zc nl lc : Nat) (f z m : Nat → Int) (hn : 1 ≤ n ∧ n ≤ 64) (hnz : nz ≤ 64) (hnl : nl ≤ 64) (hv : ∀ i, i < n → itAt f i = 0) (hS : Sl w 7 a n f) (hZ : Sl w 3 za nz z) (hL : Sl w 2 la nl m) :
    Calls Tryd.prog 100 #[.agg #[.slice a n c, .slice za nz zc, .slice la nl lc]] w fun e w' => (∃ v, e = .returned v ∧ RowL w' w.heap.size v (ascOf (allBs f z m n nz nl))) ∧ Below w.heap.size w w' := by
  obtain ⟨i0, hi0, hz0, hz1, hz2⟩ := info_parts x_infoInt
  have HST : Hid (∀ W', Below w.heap.size w W' → Calls Tryd.prog 57 #[.agg #[.slice a n c, .slice za nz zc, .slice la nl lc]] W' fun e W3 => ∃ v, e = .returned v ∧ W3.ownsRow W'.heap.size 3 1 v n (irow (endS f) n) ∧ Below W'.heap.size W' W3) :=
    fun W' hb => startsOf_of a za la n c nz zc nl lc f (by omega) hv W' (hS.keep (by omega) hb)
  have HEN : Hid (∀ W', Below w.heap.size w W' → Calls Tryd.prog 58 #[.agg #[.slice a n c, .slice za nz zc, .slice la nl lc]] W' fun e W3 => e = .returned (.int .i64 (endS f n)) ∧ Below W'.heap.size W' W3) :=
    fun W' hb => endOf_of a za la n c nz zc nl lc f (by omega) hv W' (hS.keep (by omega) hb)
  have HSort := Lib.hid HSort
  have HComp := Lib.hid HComp
  have HZ := Lib.hid hZ
  have HL := Lib.hid hL
  clear hS hv hZ hL
  go_enter Tryd.func100, Tryd.ntmps100
  go_wp2_with fail
  obtain ⟨W, hW⟩ : ∃ W, W = w.alloc (.cells #[.slice a n c, .slice za nz zc, .slice la nl lc] 26) := ⟨_, rfl⟩
  have hBW : Hid (Below w.heap.size w W) := by rw [hW]; exact (Below.refl _ _).alloc (Nat.le_refl _) _
  have hsz : W.heap.size = w.heap.size + 1 := by rw [hW]; simp
  have HX : Hid (W.cell? ⟨w.heap.size, 0, none⟩ = some (.slice a n c) ∧ W.cell? ⟨w.heap.size, 1, none⟩ = some (.slice za nz zc) ∧ W.cell? ⟨w.heap.size, 2, none⟩ = some (.slice la nl lc)) := by
    rw [hW]; exact ⟨by go_simp, by go_simp, by go_simp⟩
  rw [← hW]
  clear hW
  refine (HST.out W hBW.out).mono ?_
  rintro e' w2 ⟨v, rfl, hown, hb2⟩
  rw [hsz] at hown hb2
  have HB2 : Hid (Below w.heap.size w w2) := hBW.out.trans (hb2.mono (by omega))
  have HD2 : Hid (Below (w.heap.size + 1) W w2) := hb2
  have HR2 : Hid (RowL w2 (w.heap.size + 1) v ((List.range n).map (endS f))) := rowL_irow hown
  have hX2 : w2.cell? ⟨w.heap.size, 0, none⟩ = some (.slice a n c) ∧ w2.cell? ⟨w.heap.size, 1, none⟩ = some (.slice za nz zc) ∧ w2.cell? ⟨w.heap.size, 2, none⟩ = some (.slice la nl lc) :=
    three_keep HX.out (hsz ▸ hb2)
  obtain ⟨L0, hL0⟩ : ∃ L, L = (List.range n).map (endS f) := ⟨_, rfl⟩
  have hl0 : 1 ≤ L0.length ∧ L0.length ≤ 64 := by rw [hL0]; simp; omega
  rw [← hL0] at HR2
  have HL0 := Lib.hid hL0
  obtain ⟨E, hE⟩ : ∃ E, E = endS f n := ⟨_, rfl⟩
  rw [← hE] at HEN
  have HE := Lib.hid hE
  obtain ⟨g0, cap0, rfl⟩ := HR2.out.form (by omega)
  obtain ⟨x0, x1, x2⟩ := hX2
  clear hb2 hown hL0 hE
  go_wp2_with fail
  clear x0 x1 x2
  go_loopw [3, 13] (fun vs vi wr => ∃ (i : Nat) (L : List Int), i ≤ nz ∧ vi = .int .i64 i ∧ (1 ≤ L.length ∧ L.length ≤ 64 + 2 * i) ∧ Hid (L = L0 ++ zbs z E i) ∧ Hid (RowL wr (w.heap.size + 1) vs L) ∧ Hid (Below (w.heap.size + 1) W wr)) (fun _ vi _ => nz - (intOf vi).toNat)
  case atStart => exact ⟨0, L0, by omega, rfl, by omega, by show L0 = L0 ++ []; simp, HR2.out, HD2.out⟩
  case round =>
    obtain ⟨i, L, hi, rfl, hLl, HLe, HR, HD⟩ := hrel
    obtain ⟨g, cap, rfl⟩ := HR.out.form (by omega)
    have hss : w.heap.size + 1 ≤ wr.heap.size := by have := HD.out.size; omega
    have hX : wr.cell? ⟨w.heap.size, 0, none⟩ = some (.slice a n c) ∧ wr.cell? ⟨w.heap.size, 1, none⟩ = some (.slice za nz zc) ∧ wr.cell? ⟨w.heap.size, 2, none⟩ = some (.slice la nl lc) := three_keep HX.out (hsz ▸ HD.out)
    have HXr := Lib.hid hX
    have hgl : g < wr.heap.size := (HR.out.lt g rfl).2
    have hgb : w.heap.size + 1 ≤ g := (HR.out.lt g rfl).1
    by_cases hlt : i < nz
    · obtain ⟨b, o, rfl, hI⟩ := HZ.out (by omega)
      have hlb := hI.lt (by omega)
      have hI2 := hI.keep (hBW.out.trans (HD.out.mono (by omega))) hlb
      have d0 := hI2 (i * 3) (by omega)
      have d1 := hI2.at (i * 3) 1 (by omega)
      have d2 := hI2.at (i * 3) 2 (by omega)
      obtain ⟨x0, x1, x2⟩ := hX
      obtain ⟨F, hF⟩ : ∃ F, F = z (i * 3) := ⟨_, rfl⟩
      obtain ⟨T, hT⟩ : ∃ T, T = z (i * 3 + 1) := ⟨_, rfl⟩
      rw [← hF] at d0
      rw [← hT] at d1
      have HZB : Hid (zbs z E (i + 1) = zbs z E i ++ [F] ++ (if T < E then [T] else [])) := by rw [hF, hT]; rfl
      clear hI hI2 hF hT
      go_wp2_with (at_builtin; refine wpList_append_lies _ rfl (.tmp 17) (.tmp 20) 35 rfl (w.heap.size + 1) 3 i0 (.int .i64 0) 1 8 Tryd.underlying35 hi0 hz0 hz1 hz2 rfl (by decide) (.slice (some ⟨g, 0, none⟩) L.length cap) L.length (L.map (.int .i64)) rfl ((HR.out.alloc _).alloc _) ⟨wr.heap.size + 1, 0, none⟩ 1 1 [.int .i64 F] rfl rfl (cells_new2 _ _ [.int .i64 F] _) (by simp [Value.oneCell']) (by decide) (by unfold maxLen; omega) (by omega) (by simp; omega) (wr.heap.size + 1 + 1) (by simp) ?_; intro g2 cap2 w3 hown3 hg3 hat3 hlt3)
      have hD3 : Below (w.heap.size + 1) W w3 := ((HD.out.alloc hss _).alloc (by simp; omega) _).grown hg3 (by simp; omega) (fun k hk => by cases hk; exact hgb)
      have hX3 : w3.cell? ⟨w.heap.size, 0, none⟩ = some (.slice a n c) ∧ w3.cell? ⟨w.heap.size, 1, none⟩ = some (.slice (some ⟨b, o, none⟩) nz zc) ∧ w3.cell? ⟨w.heap.size, 2, none⟩ = some (.slice la nl lc) := three_keep HX.out (hsz ▸ hD3)
      have hbx : w3.heap[wr.heap.size]? = (wr.alloc (.cells #[.int .i64 F, .int .i64 T, .int .i64 (z (i * 3 + 2))] 84)).heap[wr.heap.size]? := by
        rw [hg3.block wr.heap.size (by simp; omega) (fun e => by have h9 : wr.heap.size = g := Option.some.inj e; omega)]
        exact Below.heap_alloc _ _ _ (by simp)
      have c1 : w3.cell? ⟨wr.heap.size, 1, none⟩ = some (.int .i64 T) := by rw [World.cell?_of_block (a := ⟨wr.heap.size, 1, none⟩) hbx]; go_simp
      have c0 : w3.cell? ⟨wr.heap.size, 0, none⟩ = some (.int .i64 F) := by rw [World.cell?_of_block (a := ⟨wr.heap.size, 0, none⟩) hbx]; go_simp
      have hs3 : wr.heap.size + 2 ≤ w3.heap.size := by have := hg3.size; simp at this; omega
      have HO3 : Hid (w3.ownsRow (w.heap.size + 1) 3 1 (.slice (some ⟨g2, 0, none⟩) (L.length + 1) cap2) (L.length + 1) (L.map (.int .i64) ++ [.int .i64 F])) := hown3
      have HD3 := Lib.hid hD3
      have HN3 : Hid (w3.drew.cell? ⟨w.heap.size, 0, none⟩ = some (.slice a n c) ∧ w3.drew.cell? ⟨w.heap.size, 1, none⟩ = some (.slice (some ⟨b, o, none⟩) nz zc) ∧ w3.drew.cell? ⟨w.heap.size, 2, none⟩ = some (.slice la nl lc) ∧ w3.drew.cell? ⟨wr.heap.size, 0, none⟩ = some (.int .i64 F) ∧ w3.drew.cell? ⟨wr.heap.size, 1, none⟩ = some (.int .i64 T)) := ⟨hX3.1, hX3.2.1, hX3.2.2, c0, c1⟩
      have HBD : Hid (Below w.heap.size w w3.drew) := (hBW.out.trans (hD3.mono (by omega))).drew
      clear hown3 hg3 hat3 hD3 hX3 hbx c0 c1 x0 x1 x2 d0 d1 d2
      by_cases hle : T < E
      · have q : decide (T < E) = true := by simpa using hle
        have HZ2 : Hid (zbs z E (i + 1) = zbs z E i ++ [F] ++ [T]) := by show _ = _; rw [HZB.out, if_pos hle]
        clear HZB
        go_wp2_with fail
        go_region_held3 (fun W' => W'.cell? ⟨w.heap.size, 0, none⟩ = some (.slice a n c) ∧ W'.cell? ⟨w.heap.size, 1, none⟩ = some (.slice (some ⟨b, o, none⟩) nz zc) ∧ W'.cell? ⟨w.heap.size, 2, none⟩ = some (.slice la nl lc) ∧ W'.cell? ⟨wr.heap.size, 0, none⟩ = some (.int .i64 F) ∧ W'.cell? ⟨wr.heap.size, 1, none⟩ = some (.int .i64 T))
          (first | (exact HN3.out) | (exact hN4))
          (first
            | (go_at_call 58; refine (HEN.out _ HBD.out).mono ?_; rintro e4 W4 ⟨rfl, hb4⟩; (have hN4 := five_keepB HN3.out hb4 (by show w.heap.size < w3.heap.size; omega) (by show wr.heap.size < w3.heap.size; omega))))
        have HO4 : Hid (W4.ownsRow (w.heap.size + 1) 3 1 (.slice (some ⟨g2, 0, none⟩) (L.length + 1) cap2) (L.length + 1) (L.map (.int .i64) ++ [.int .i64 F])) := own_below (w := w3.drew) HO3.out hb4
        have hs4 : w3.heap.size ≤ W4.heap.size := hb4.size
        have HD4 : Hid (Below (w.heap.size + 1) W W4) := HD3.out.drew.trans (hb4.mono (by show w.heap.size + 1 ≤ w3.heap.size; omega))
        have hgb2 : w.heap.size + 1 ≤ g2 := (HO4.out.lt g2 rfl).1
        obtain ⟨-, -, -, c0, c1⟩ := hN4
        clear hb4
        go_wp2_with (at_builtin; refine wpList_append_lies _ rfl (.tmp 27) (.tmp 30) 35 rfl (w.heap.size + 1) 3 i0 (.int .i64 0) 1 8 Tryd.underlying35 hi0 hz0 hz1 hz2 rfl (by decide) (.slice (some ⟨g2, 0, none⟩) (L.length + 1) cap2) (L.length + 1) (L.map (.int .i64) ++ [.int .i64 F]) rfl (HO4.out.alloc _) ⟨W4.heap.size, 0, none⟩ 1 1 [.int .i64 T] rfl rfl (cell_one_new _ _ _) (by simp [Value.oneCell']) (by decide) (by unfold maxLen; omega) (by omega) (by simp; omega) (W4.heap.size + 1) (by simp) ?_; intro g5 cap5 w5 hown5 hg5 hat5 hlt5)
        have HR5 : Hid (RowL w5 (w.heap.size + 1) (.slice (some ⟨g5, 0, none⟩) (L.length + 1 + 1) cap5) (L ++ [F] ++ [T])) := RowL.snoc2 hown5
        have HD5 : Hid (Below (w.heap.size + 1) W w5) := (HD4.out.alloc (by omega) _).grown hg5 (by simp; omega) (fun k hk => by cases hk; exact hgb2)
        have HLe2 : Hid (L ++ [F] ++ [T] = L0 ++ zbs z E (i + 1)) := by show _ = _; rw [HZ2.out, HLe.out]; simp
        have hl2 : (L ++ [F] ++ [T]).length = L.length + 2 := by simp
        have hl3 : 1 ≤ (L ++ [F] ++ [T]).length ∧ (L ++ [F] ++ [T]).length ≤ 64 + 2 * (i + 1) := by omega
        clear hown5 hg5 hat5 hl2 c0 c1
        go_wp2
        exact ⟨⟨i + 1, L ++ [F] ++ [T], by omega, by go_num, hl3, HLe2.out, HR5.out, HD5.out⟩, by simp [intOf]; omega⟩
      · have q : decide (T < E) = false := by simpa using hle
        have HZ2 : Hid (zbs z E (i + 1) = zbs z E i ++ [F]) := by show _ = _; rw [HZB.out, if_neg hle]; simp
        clear HZB
        go_wp2_with fail
        go_region_held3 (fun W' => W'.cell? ⟨w.heap.size, 0, none⟩ = some (.slice a n c) ∧ W'.cell? ⟨w.heap.size, 1, none⟩ = some (.slice (some ⟨b, o, none⟩) nz zc) ∧ W'.cell? ⟨w.heap.size, 2, none⟩ = some (.slice la nl lc) ∧ W'.cell? ⟨wr.heap.size, 0, none⟩ = some (.int .i64 F) ∧ W'.cell? ⟨wr.heap.size, 1, none⟩ = some (.int .i64 T))
          (first | (exact HN3.out) | (exact hN4))
          (first
            | (go_at_call 58; refine (HEN.out _ HBD.out).mono ?_; rintro e4 W4 ⟨rfl, hb4⟩; (have hN4 := five_keepB HN3.out hb4 (by show w.heap.size < w3.heap.size; omega) (by show wr.heap.size < w3.heap.size; omega))))
        have HR4 : Hid (RowL W4 (w.heap.size + 1) (.slice (some ⟨g2, 0, none⟩) (L.length + 1) cap2) (L ++ [F])) := RowL.snoc (own_below (w := w3.drew) HO3.out hb4)
        have HD4 : Hid (Below (w.heap.size + 1) W W4) := HD3.out.drew.trans (hb4.mono (by show w.heap.size + 1 ≤ w3.heap.size; omega))
        have HLe2 : Hid (L ++ [F] = L0 ++ zbs z E (i + 1)) := by show _ = _; rw [HZ2.out, HLe.out]; simp
        have hl2 : (L ++ [F]).length = L.length + 1 := by simp
        have hl3 : 1 ≤ (L ++ [F]).length ∧ (L ++ [F]).length ≤ 64 + 2 * (i + 1) := by omega
        clear hb4 hl2 hN4
        go_wp2
        exact ⟨⟨i + 1, L ++ [F], by omega, by go_num, hl3, HLe2.out, HR4.out, HD4.out⟩, by simp [intOf]; omega⟩
    · obtain rfl : i = nz := by omega
      obtain ⟨x0, x1, x2⟩ := hX
      go_wp2_with fail
      clear x0 x1 x2
      go_loopw [3, 36] (fun vs vi wq => ∃ (j : Nat) (M : List Int), j ≤ nl ∧ vi = .int .i64 j ∧ (1 ≤ M.length ∧ M.length ≤ 64 + 2 * i + j) ∧ Hid (M = L ++ lbs m j) ∧ Hid (RowL wq (w.heap.size + 1) vs M) ∧ Hid (Below (w.heap.size + 1) W wq)) (fun _ vi _ => nl - (intOf vi).toNat)
      case atStart => exact ⟨0, L, by omega, rfl, by omega, by show L = L ++ []; simp, HR.out, HD.out⟩
      case round =>
        obtain ⟨j, M, hj, rfl, hMl, HMe, HR, HD⟩ := hrel
        obtain ⟨g, cap, rfl⟩ := HR.out.form (by omega)
        have hss : w.heap.size + 1 ≤ wr.heap.size := by have := HD.out.size; omega
        have hX : wr.cell? ⟨w.heap.size, 0, none⟩ = some (.slice a n c) ∧ wr.cell? ⟨w.heap.size, 1, none⟩ = some (.slice za i zc) ∧ wr.cell? ⟨w.heap.size, 2, none⟩ = some (.slice la nl lc) := three_keep HX.out (hsz ▸ HD.out)
        have hgl : g < wr.heap.size := (HR.out.lt g rfl).2
        have hgb : w.heap.size + 1 ≤ g := (HR.out.lt g rfl).1
        by_cases hlt : j < nl
        · obtain ⟨b, o, rfl, hI⟩ := HL.out (by omega)
          have hlb := hI.lt (by omega)
          have hI2 := hI.keep (hBW.out.trans (HD.out.mono (by omega))) hlb
          have d0 := hI2 (j * 2) (by omega)
          have d1 := hI2.at (j * 2) 1 (by omega)
          obtain ⟨x0, x1, x2⟩ := hX
          obtain ⟨F, hF⟩ : ∃ F, F = m (j * 2) := ⟨_, rfl⟩
          rw [← hF] at d0
          have HLB : Hid (M ++ [F] = L ++ lbs m (j + 1)) := by show _ = _; rw [hF, lbs_succ, HMe.out]; simp
          clear hI hI2 hF
          go_wp2_with (at_builtin; refine wpList_append_lies _ rfl (.tmp 40) (.tmp 43) 35 rfl (w.heap.size + 1) 3 i0 (.int .i64 0) 1 8 Tryd.underlying35 hi0 hz0 hz1 hz2 rfl (by decide) (.slice (some ⟨g, 0, none⟩) M.length cap) M.length (M.map (.int .i64)) rfl ((HR.out.alloc _).alloc _) ⟨wr.heap.size + 1, 0, none⟩ 1 1 [.int .i64 F] rfl rfl (cells_new2 _ _ [.int .i64 F] _) (by simp [Value.oneCell']) (by decide) (by unfold maxLen; omega) (by omega) (by simp; omega) (wr.heap.size + 1 + 1) (by simp) ?_; intro g2 cap2 w3 hown3 hg3 hat3 hlt3)
          have HD3 : Hid (Below (w.heap.size + 1) W w3) := ((HD.out.alloc hss _).alloc (by simp; omega) _).grown hg3 (by simp; omega) (fun k hk => by cases hk; exact hgb)
          have HR3 : Hid (RowL w3 (w.heap.size + 1) (.slice (some ⟨g2, 0, none⟩) (M.length + 1) cap2) (M ++ [F])) := RowL.snoc hown3
          have hl2 : (M ++ [F]).length = M.length + 1 := by simp
          have hl3 : 1 ≤ (M ++ [F]).length ∧ (M ++ [F]).length ≤ 64 + 2 * i + (j + 1) := by omega
          clear hown3 hg3 hat3 hl2 x0 x1 x2 d0 d1
          go_wp2
          exact ⟨⟨j + 1, M ++ [F], by omega, by go_num, hl3, HLB.out, HR3.out, HD3.out⟩, by simp [intOf]; omega⟩
        · obtain rfl : j = nl := by omega
          obtain ⟨hH, hgw, hcap⟩ := HR.out.holds
          have hc := HSort.out g 0 cap M wr hH hgw (by omega)
          have HC := Lib.hid hc
          obtain ⟨S, hS⟩ : ∃ S, S = M.mergeSort fun x y => decide (x ≤ y) := ⟨_, rfl⟩
          have hSl : S.length = M.length := by rw [hS]; exact (List.mergeSort_perm _ _).length_eq
          have HSe := Lib.hid hS
          clear hH hgw hX hc hS
          go_wp2_with fail
          refine HC.out.mono ?_
          rintro e' w5 ⟨rfl, nn, os, hw5⟩
          have HR5 : Hid (RowL w5 (w.heap.size + 1) (.slice (some ⟨g, 0, none⟩) S.length cap) S) := by rw [hw5, ← HSe.out]; exact HR.out.sorted hgb S hSl
          have HD5 : Hid (Below (w.heap.size + 1) W w5) := HD.out.grown (by rw [hw5]; exact grownBy_sortedI _) hss (fun k hk => by cases hk; exact hgb)
          have hs5 : w.heap.size + 1 ≤ w5.heap.size := by have := HD5.out.size; omega
          obtain ⟨hH, hgw, hcap2⟩ := HR5.out.holds
          have hc := HComp.out g 0 cap S w5 hH (by omega) hcap2
          rw [hSl] at hc
          have HC2 := Lib.hid hc
          have HSl := Lib.hid hSl
          clear hw5 hH hgw hcap2 hc hSl HC
          go_wp2_with fail
          refine HC2.out.mono ?_
          rintro e' w6 ⟨rfl, q, hw6⟩
          have hcl := compact_length S
          have hfull : (Lib.compact S ++ List.replicate (M.length - (Lib.compact S).length) 0).length = S.length := by rw [List.length_append, List.length_replicate]; have := HSl.out; omega
          have HR6 : Hid (RowL w6 (w.heap.size + 1) (.slice (some ⟨g, 0, none⟩) (Lib.compact S).length cap) (Lib.compact S)) := by
            have h1 := HR5.out.sorted (n := q) (os := #[]) hgb _ hfull
            rw [grow_empty, ← hw6] at h1
            exact h1.take _ _ rfl
          have HD6 : Hid (Below (w.heap.size + 1) W w6) := HD5.out.grown (by have h1 := grownBy_sortedI (w := w5) (g := g) (n := q) (os := #[]) (Lib.compact S ++ List.replicate (M.length - (Lib.compact S).length) 0).toArray; rwa [grow_empty, ← hw6] at h1) hs5 (fun k hk => by cases hk; exact hgb)
          have HFe : Hid (Lib.compact S = ascOf (allBs f z m n i j)) := by
            show _ = _
            unfold ascOf allBs
            rw [HSe.out, HMe.out, HLe.out, HL0.out, HE.out]
          clear hw6 hcl hfull HC2
          go_wp2
          go_ret
          refine ⟨⟨_, rfl, ?_⟩, hBW.out.trans (HD6.out.mono (by omega))⟩
          rw [← HFe.out]
          exact HR6.out.base (by omega)
end Go.Proofs.YtbpifllkimkokaaDoor
