/-
  WALKS: the reference's copy of a line.
-/
import Derived.Test.YtbpifllkimkokaaDoorLnM
namespace Go.Proofs.YtbpifllkimkokaaDoor
open Go.RowKit

/-- What the copy is: b: whether the line is short enough. -/
def MdP (b : Bool) (n nz nl : Nat) (f z m : Nat → Int) (w : World) (e : Ending) (w' : World) : Prop :=
  Below w.heap.size w w' ∧ ((b = false ∧ e = .returned (.tuple #[.agg #[.slice none 0 0, .slice none 0 0, .slice none 0 0], .bool false])) ∨
    (b = true ∧ ∃ a c za zc la lc, e = .returned (.tuple #[.agg #[.slice a n c, .slice za nz zc, .slice la nl lc], .bool true]) ∧ Sl w' 7 a n f ∧ Sl w' 3 za nz z ∧ Sl w' 2 la nl m))

set_option maxRecDepth 8000 in
set_option maxHeartbeats 3200000 in
theorem model_no (w : World) (a za la : Option Addr) (n c nz zc nl lc : Nat) (f z m : Nat → Int) (h : 70 < n ∨ 70 < nz ∨ 70 < nl) (hc : n ≤ maxLen ∧ nz ≤ maxLen ∧ nl ≤ maxLen) :
    Calls Tryd.prog 12 #[.agg #[.slice a n c, .slice za nz zc, .slice la nl lc]] w (MdP false n nz nl f z m w) := by
  unfold maxLen at hc
  have hw : (70 < n) ∨ (¬ 70 < n ∧ 70 < nz) ∨ (¬ 70 < n ∧ ¬ 70 < nz ∧ 70 < nl) := by omega
  clear h
  rcases hw with h | ⟨h0, h⟩ | ⟨h0, h1, h⟩
  all_goals
    go_enter Tryd.func12, Tryd.ntmps12
    go_wp2
    refine bodyPost_ret (v := .tuple #[.agg #[.slice none 0 0, .slice none 0 0, .slice none 0 0], .bool false]) (by simp [results, Tryd.results12, go_sem]) rfl ⟨?_, .inl ⟨rfl, rfl⟩⟩
    exact (((Below.refl _ _).alloc (Nat.le_refl _) _).alloc (by simp) _).alloc (by simp; omega) _

set_option maxRecDepth 8000 in
set_option maxHeartbeats 6400000 in
theorem model_yes (w : World) (a za la : Option Addr) (n c nz zc nl lc : Nat) (f z m : Nat → Int) (h : n ≤ 70 ∧ nz ≤ 70 ∧ nl ≤ 70) (hS : Sl w 7 a n f) (hZ : Sl w 3 za nz z) (hL : Sl w 2 la nl m) :
    Calls Tryd.prog 12 #[.agg #[.slice a n c, .slice za nz zc, .slice la nl lc]] w (MdP true n nz nl f z m w) := by
  obtain ⟨i7, hi7, hz70, hz71, hz72⟩ := info_parts YtbpifllkimkokaaDoor.x_info7
  obtain ⟨i3, hi3, hz30, hz31, hz32⟩ := info_parts YtbpifllkimkokaaDoor.x_info3
  obtain ⟨i2, hi2, hz20, hz21, hz22⟩ := info_parts YtbpifllkimkokaaDoor.x_info2
  have HS := Lib.hid hS
  have HZ := Lib.hid hZ
  have HL := Lib.hid hL
  clear hS hZ hL
  obtain ⟨h1, h2, h3⟩ := h
  go_enter Tryd.func12, Tryd.ntmps12
  go_wp2
  obtain ⟨W, hW⟩ : ∃ W, W = ((w.alloc (.cells #[.slice a n c, .slice za nz zc, .slice la nl lc] 26)).alloc (.cells #[.slice none 0 0, .slice none 0 0, .slice none 0 0] 31)).alloc (.cells #[.slice none 0 0, .slice none 0 0, .slice none 0 0] 31) := ⟨_, rfl⟩
  have hBW : Hid (Below w.heap.size w W) := by rw [hW]; exact (((Below.refl _ _).alloc (Nat.le_refl _) _).alloc (by simp) _).alloc (by simp; omega) _
  have hsz : W.heap.size = w.heap.size + 3 := by rw [hW]; simp
  have x1 : W.cell? ⟨w.heap.size, 1, none⟩ = some (.slice za nz zc) := by rw [hW]; go_simp
  have x2 : W.cell? ⟨w.heap.size, 2, none⟩ = some (.slice la nl lc) := by rw [hW]; go_simp
  have hO : OutAt W (w.heap.size + 1 + 1) (.slice none 0 0) (.slice none 0 0) (.slice none 0 0) := by
    have hh := World.alloc_heap_new ((w.alloc (.cells #[.slice a n c, .slice za nz zc, .slice la nl lc] 26)).alloc (.cells #[.slice none 0 0, .slice none 0 0, .slice none 0 0] 31)) (.cells #[.slice none 0 0, .slice none 0 0, .slice none 0 0] 31)
    simp only [World.size_alloc] at hh
    unfold OutAt
    rw [hW]; exact hh
  have hR : OutAt W (w.heap.size + 1) (.slice none 0 0) (.slice none 0 0) (.slice none 0 0) := by
    unfold OutAt
    have hh := World.alloc_heap_new (w.alloc (.cells #[.slice a n c, .slice za nz zc, .slice la nl lc] 26)) (.cells #[.slice none 0 0, .slice none 0 0, .slice none 0 0] 31)
    simp only [World.size_alloc] at hh
    rw [hW]
    exact (Below.heap_alloc _ _ _ (by simp)).trans hh
  have HO := Lib.hid hO
  have HR := Lib.hid hR
  clear hO hR
  rw [← hW]
  clear hW
  go_loopw [31] (fun vi wr => ∃ i : Nat, i ≤ n ∧ vi = .int .i64 i ∧ ∃ v, Hid (wr.ownsRow W.heap.size 101 7 v i (irow f (i * 7))) ∧ Hid (OutAt wr (w.heap.size + 1 + 1) v (.slice none 0 0) (.slice none 0 0)) ∧ Hid (KpB (w.heap.size + 1 + 1) W wr)) (fun vi _ => n - (intOf vi).toNat)
  case atStart => exact ⟨0, by omega, rfl, .slice none 0 0, own_nil _ _ _ _ _, HO.out, KpB.refl _ _⟩
  case round =>
    obtain ⟨i, hi, rfl, v, HV, HX, HB⟩ := hrel
    by_cases hlt : i < n
    · obtain ⟨b, o, rfl, hI⟩ := HS.out (by omega)
      have hbl := hI.lt (by omega)
      have hI2 := hI.keep hBW.out hbl
      have hk : ∀ o, wr.cell? ⟨b, o, none⟩ = W.cell? ⟨b, o, none⟩ := fun o => HB.out.cell (by omega) (by omega)
      have d0 := (hk _).trans (hI2 (i * 7) (by omega))
      have d1 := (hk _).trans (hI2.at (i * 7) 1 (by omega))
      have d2 := (hk _).trans (hI2.at (i * 7) 2 (by omega))
      have d3 := (hk _).trans (hI2.at (i * 7) 3 (by omega))
      have d4 := (hk _).trans (hI2.at (i * 7) 4 (by omega))
      have d5 := (hk _).trans (hI2.at (i * 7) 5 (by omega))
      have d6 := (hk _).trans (hI2.at (i * 7) 6 (by omega))
      have e0 := HX.out.c0
      have hXl := HX.out.lt
      have hss := HB.out.size
      clear hI hI2 hk
      go_wp2_with (first | (at_builtin; refine wpList_append_own _ rfl (.tmp 36) (.tmp 38) 27 rfl W.heap.size 101 i7 (.agg #[.int .i64 0, .int .i64 0, .int .i64 0, .int .i64 0, .int .i64 0, .int .i64 0, .int .i64 0]) 7 56 Tryd.underlying27 hi7 hz70 hz71 hz72 rfl (by decide) v i (irow f (i * 7)) rfl ((HV.out.alloc _).alloc _) ⟨wr.heap.size + 1, 0, none⟩ 1 1 [.int .i64 (f (i * 7)), .int .i64 (f (i * 7 + 1)), .int .i64 (f (i * 7 + 2)), .int .i64 (f (i * 7 + 3)), .int .i64 (f (i * 7 + 4)), .int .i64 (f (i * 7 + 5)), .int .i64 (f (i * 7 + 6))] rfl rfl (cells_new2 _ _ _ _) (fun x hx => by simp at hx; rcases hx with rfl | rfl | rfl | rfl | rfl | rfl | rfl <;> rfl) (by unfold maxLen; omega) (by omega) (by simp; omega) ?_; intro v' w3 hown' hgrow3 _; (obtain ⟨a', c', rfl⟩ := own_slice hown'); (have hst := model_step (X := w.heap.size + 1 + 1) (by omega) HV.out HX.out HB.out hown' hgrow3); (have c3 := hst.1.c0); (have f3 := hst.1.fr 0); (have HOw := Lib.hid hown'); (have HST := Lib.hid hst); clear hown' hgrow3 hst))
      refine ⟨⟨i + 1, by omega, by go_num, .slice a' (i + 1) c', ?_, HST.out.1.set0 _, HST.out.2.set 0 _⟩, by simp [intOf]; omega⟩
      have := own_set HOw.out (X := w.heap.size + 1 + 1) (by omega) 0 (.slice a' (i + 1) c')
      rw [irow7]
      exact this
    · obtain rfl : i = n := by omega
      obtain ⟨a1, c1, rfl, _, hS1, hg1⟩ := own_sl HV.out
      obtain ⟨W2, rfl⟩ : ∃ W2 : World, W2 = wr := ⟨_, rfl⟩
      have HS1 := Lib.hid hS1
      have HG1 : Hid (∀ b o, a1 = some ⟨b, o, none⟩ → b ≠ w.heap.size + 1 + 1 ∧ b ≠ w.heap.size + 1) := fun b o e => by have := hg1 b o e; omega
      have HX2 := HX
      have HB2 := HB
      have e1 : W2.cell? ⟨w.heap.size, 1, none⟩ = some (.slice za nz zc) := (HB.out.cell (by omega) (by omega)).trans x1
      have hs2 := HB.out.size
      clear hS1 hg1 HV HX HB
      go_wp2_with fail
      go_loopw [45] (fun vk wr => ∃ k : Nat, k ≤ nz ∧ vk = .int .i64 k ∧ ∃ v, Hid (wr.ownsRow W2.heap.size 102 3 v k (irow z (k * 3))) ∧ Hid (OutAt wr (w.heap.size + 1 + 1) (.slice a1 i c1) v (.slice none 0 0)) ∧ Hid (KpB (w.heap.size + 1 + 1) W2 wr)) (fun vk _ => nz - (intOf vk).toNat)
      case atStart => exact ⟨0, by omega, rfl, .slice none 0 0, own_nil _ _ _ _ _, HX2.out, KpB.refl _ _⟩
      case round =>
        obtain ⟨k, hk, rfl, v, HV, HX, HB⟩ := hrel
        by_cases hlt : k < nz
        · obtain ⟨b, o, rfl, hI⟩ := HZ.out (by omega)
          have hbl := hI.lt (by omega)
          have hI2 := hI.keep hBW.out hbl
          have hk2 : ∀ o, wr.cell? ⟨b, o, none⟩ = W.cell? ⟨b, o, none⟩ := fun o => (HB.out.cell (by omega) (by omega)).trans (HB2.out.cell (by omega) (by omega))
          have d0 := (hk2 _).trans (hI2 (k * 3) (by omega))
          have d1 := (hk2 _).trans (hI2.at (k * 3) 1 (by omega))
          have d2 := (hk2 _).trans (hI2.at (k * 3) 2 (by omega))
          have e0 := HX.out.c1
          have hXl := HX.out.lt
          have hss := HB.out.size
          clear hI hI2 hk2
          go_wp2_with (first | (at_builtin; refine wpList_append_own _ rfl (.tmp 50) (.tmp 52) 28 rfl W2.heap.size 102 i3 (.agg #[.int .i64 0, .int .i64 0, .int .i64 0]) 3 24 Tryd.underlying28 hi3 hz30 hz31 hz32 rfl (by decide) v k (irow z (k * 3)) rfl ((HV.out.alloc _).alloc _) ⟨wr.heap.size + 1, 0, none⟩ 1 1 [.int .i64 (z (k * 3)), .int .i64 (z (k * 3 + 1)), .int .i64 (z (k * 3 + 2))] rfl rfl (cells_new2 _ _ _ _) (fun x hx => by simp at hx; rcases hx with rfl | rfl | rfl <;> rfl) (by unfold maxLen; omega) (by omega) (by simp; omega) ?_; intro v' w3 hown' hgrow3 _; (obtain ⟨a', c', rfl⟩ := own_slice hown'); (have hst := model_step (X := w.heap.size + 1 + 1) (by omega) HV.out HX.out HB.out hown' hgrow3); (have c3 := hst.1.c1); (have f3 := hst.1.fr 1); (have HOw := Lib.hid hown'); (have HST := Lib.hid hst); clear hown' hgrow3 hst))
          refine ⟨⟨k + 1, by omega, by go_num, .slice a' (k + 1) c', ?_, HST.out.1.set1 _, HST.out.2.set 1 _⟩, by simp [intOf]; omega⟩
          have := own_set HOw.out (X := w.heap.size + 1 + 1) (by omega) 1 (.slice a' (k + 1) c')
          rw [irow3]
          exact this
        · obtain rfl : k = nz := by omega
          obtain ⟨a2, c2, rfl, _, hS2, hg2⟩ := own_sl HV.out
          obtain ⟨W3, rfl⟩ : ∃ W3 : World, W3 = wr := ⟨_, rfl⟩
          have HS2 := Lib.hid hS2
          have HG2 : Hid (∀ b o, a2 = some ⟨b, o, none⟩ → b ≠ w.heap.size + 1 + 1 ∧ b ≠ w.heap.size + 1) := fun b o e => by have := hg2 b o e; omega
          have HS13 : Hid (Sl W3 7 a1 i f) := HS1.out.kpb (by omega) HB.out (fun b o e => (HG1.out b o e).1)
          have HX3 := HX
          have HB3 : Hid (KpB (w.heap.size + 1 + 1) W W3) := HB2.out.trans HB.out
          have e2 : W3.cell? ⟨w.heap.size, 2, none⟩ = some (.slice la nl lc) := (HB3.out.cell (by omega) (by omega)).trans x2
          have hs3 := HB.out.size
          clear hS2 hg2 HV HX HB e1
          go_wp2_with fail
          go_loopw [59] (fun vq wr => ∃ q : Nat, q ≤ nl ∧ vq = .int .i64 q ∧ ∃ v, Hid (wr.ownsRow W3.heap.size 105 2 v q (irow m (q * 2))) ∧ Hid (OutAt wr (w.heap.size + 1 + 1) (.slice a1 i c1) (.slice a2 k c2) v) ∧ Hid (KpB (w.heap.size + 1 + 1) W3 wr)) (fun vq _ => nl - (intOf vq).toNat)
          case atStart => exact ⟨0, by omega, rfl, .slice none 0 0, own_nil _ _ _ _ _, HX3.out, KpB.refl _ _⟩
          case round =>
            obtain ⟨q, hq, rfl, v, HV, HX, HB⟩ := hrel
            by_cases hlt : q < nl
            · obtain ⟨b, o, rfl, hI⟩ := HL.out (by omega)
              have hbl := hI.lt (by omega)
              have hI2 := hI.keep hBW.out hbl
              have hk2 : ∀ o, wr.cell? ⟨b, o, none⟩ = W.cell? ⟨b, o, none⟩ := fun o => (HB.out.cell (by omega) (by omega)).trans (HB3.out.cell (by omega) (by omega))
              have d0 := (hk2 _).trans (hI2 (q * 2) (by omega))
              have d1 := (hk2 _).trans (hI2.at (q * 2) 1 (by omega))
              have e0 := HX.out.c2
              have hXl := HX.out.lt
              have hss := HB.out.size
              clear hI hI2 hk2
              go_wp2_with (first | (at_builtin; refine wpList_append_own _ rfl (.tmp 64) (.tmp 66) 29 rfl W3.heap.size 105 i2 (.agg #[.int .i64 0, .int .i64 0]) 2 16 Tryd.underlying29 hi2 hz20 hz21 hz22 rfl (by decide) v q (irow m (q * 2)) rfl ((HV.out.alloc _).alloc _) ⟨wr.heap.size + 1, 0, none⟩ 1 1 [.int .i64 (m (q * 2)), .int .i64 (m (q * 2 + 1))] rfl rfl (cells_new2 _ _ _ _) (fun x hx => by simp at hx; rcases hx with rfl | rfl <;> rfl) (by unfold maxLen; omega) (by omega) (by simp; omega) ?_; intro v' w3 hown' hgrow3 _; (obtain ⟨a', c', rfl⟩ := own_slice hown'); (have hst := model_step (X := w.heap.size + 1 + 1) (by omega) HV.out HX.out HB.out hown' hgrow3); (have c3 := hst.1.c2); (have f3 := hst.1.fr 2); (have HOw := Lib.hid hown'); (have HST := Lib.hid hst); clear hown' hgrow3 hst))
              refine ⟨⟨q + 1, by omega, by go_num, .slice a' (q + 1) c', ?_, HST.out.1.set2 _, HST.out.2.set 2 _⟩, by simp [intOf]; omega⟩
              have := own_set HOw.out (X := w.heap.size + 1 + 1) (by omega) 2 (.slice a' (q + 1) c')
              rw [irow2]
              exact this
            · obtain rfl : q = nl := by omega
              obtain ⟨a3, c3, rfl, _, hS3, hg3⟩ := own_sl HV.out
              have HS3 := Lib.hid hS3
              have HG3 : Hid (∀ b o, a3 = some ⟨b, o, none⟩ → b ≠ w.heap.size + 1) := fun b o e => by have := hg3 b o e; omega
              have HS14 : Hid (Sl wr 7 a1 i f) := HS13.out.kpb (by omega) HB.out (fun b o e => (HG1.out b o e).1)
              have HS24 : Hid (Sl wr 3 a2 k z) := HS2.out.kpb (by omega) HB.out (fun b o e => (HG2.out b o e).1)
              have HB4 : Hid (KpB (w.heap.size + 1 + 1) W wr) := HB3.out.trans HB.out
              have HRO : Hid (OutAt wr (w.heap.size + 1) (.slice none 0 0) (.slice none 0 0) (.slice none 0 0)) := (HB4.out.block _ (by omega) (by omega)).trans HR.out
              have hs4 := HB.out.size
              have g0 := HX.out.c0
              have g1 := HX.out.c1
              have g2 := HX.out.c2
              have r0 := HRO.out.c0
              have r1 := HRO.out.c1
              have r2 := HRO.out.c2
              have f0 := HRO.out.fr 0
              have f1 := HRO.out.fr 1
              have f2 := HRO.out.fr 2
              clear hS3 hg3 HV HX HB e2
              go_wp2_with fail
              clear g0 g1 g2 r0 r1 r2 f0 f1 f2
              have hF := ((HRO.out.set0 (.slice a1 i c1)).set1 (.slice a2 k c2)).set2 (.slice a3 q c3)
              have h0 := hF.c0
              have h1' := hF.c1
              have h2' := hF.c2
              have hK := (((KpB.refl (w.heap.size + 1) wr).set 0 (.slice a1 i c1)).set 1 (.slice a2 k c2)).set 2 (.slice a3 q c3)
              have HK := Lib.hid hK
              clear hF hK
              refine bodyPost_ret (v := .tuple #[.agg #[.slice a1 i c1, .slice a2 k c2, .slice a3 q c3], .bool true]) (by simp [results, Tryd.results12, go_sem, h0, h1', h2']) rfl ⟨?_, .inr ⟨rfl, a1, c1, a2, c2, a3, c3, rfl, ?_, ?_, ?_⟩⟩
              · exact (hBW.out.trans (HB4.out.below (by omega) (by omega))).trans (HK.out.below (by omega) (by omega))
              · exact HS14.out.kpb (by omega) HK.out (fun b o e => (HG1.out b o e).2)
              · exact HS24.out.kpb (by omega) HK.out (fun b o e => (HG2.out b o e).2)
              · exact HS3.out.kpb (by omega) HK.out HG3.out
end Go.Proofs.YtbpifllkimkokaaDoor
