/-
  WALKS: strength: whole numbers multiplied, added, compared; bulge for the example of chapter 9.
-/
import Derived.Test.YtlphlbgbbblnpaaGreatDoorStUP
import Derived.Test.YtlphlbgbbblnpaaGreatDoorStST
namespace Go.Proofs.YtlphlbgbbblnpaaGreatDoor
open Go.RowKit

theorem bx62 {a : Int} (h : a.natAbs < 4611686018427387904) : Dy.Box (Dy.mk a 0) 62 0 := ⟨a, rfl, h⟩
theorem imul (w : World) (v1 v2 : Value) (a b c : Int) (h1 : Dy.Nm w v1 (Dy.mk a 0)) (h2 : Dy.Nm w v2 (Dy.mk b 0)) (ha : a.natAbs < 4611686018427387904) (hb : b.natAbs < 4611686018427387904) (hc : a * b = c) (hT : Dy.Tab w) :
    Calls Tryz.prog 98 #[v1, v2] w (Dy.Ret w fun w' v => Dy.Nm w' v (Dy.mk c 0)) := by
  have h := Dy.mul_nm w v1 v2 _ _ 62 0 62 0 h1 h2 (bx62 ha) (bx62 hb) (by decide) hT
  rw [Dy.mk_mul, hc] at h
  exact h
theorem iadd (w : World) (v1 v2 : Value) (a b c : Int) (h1 : Dy.Nm w v1 (Dy.mk a 0)) (h2 : Dy.Nm w v2 (Dy.mk b 0)) (ha : a.natAbs < 4611686018427387904) (hb : b.natAbs < 4611686018427387904) (hc : a + b = c) (hT : Dy.Tab w) :
    Calls Tryz.prog 85 #[v1, v2] w (Dy.Ret w fun w' v => Dy.Nm w' v (Dy.mk c 0)) := by
  have h := Dy.add_nm w v1 v2 _ _ 62 0 62 0 h1 h2 (bx62 ha) (bx62 hb) (by decide) hT
  rw [Dy.mk_add, hc] at h
  exact h
theorem isub (w : World) (v1 v2 : Value) (a b c : Int) (h1 : Dy.Nm w v1 (Dy.mk a 0)) (h2 : Dy.Nm w v2 (Dy.mk b 0)) (ha : a.natAbs < 4611686018427387904) (hb : b.natAbs < 4611686018427387904) (hc : a - b = c) (hT : Dy.Tab w) :
    Calls Tryz.prog 72 #[v1, v2] w (Dy.Ret w fun w' v => Dy.Nm w' v (Dy.mk c 0)) := by
  have h := Dy.sub_nm w v1 v2 _ _ 62 0 62 0 h1 h2 (bx62 ha) (bx62 hb) (by decide) hT
  rw [mk_sub, hc] at h
  exact h
theorem icmp_lt (w : World) (v1 v2 : Value) (a b : Int) (h1 : Dy.Nm w v1 (Dy.mk a 0)) (h2 : Dy.Nm w v2 (Dy.mk b 0)) (ha : a.natAbs < 4611686018427387904) (hb : b.natAbs < 4611686018427387904) (hc : a < b) (hT : Dy.Tab w) :
    Calls Tryz.prog 26 #[v1, v2] w fun e w' => (∃ s : Int, s < 0 ∧ e = .returned (.int .i64 s)) ∧ Below w.heap.size w w' := by
  have h := Dy.cmp_nm w v1 v2 _ _ 62 0 62 0 h1 h2 (bx62 ha) (bx62 hb) (by decide) hT
  rw [mk_sub] at h
  have hs := (sgn_mk (a - b)).1.2 (by omega)
  exact h.mono fun e w' hh => ⟨⟨_, hs, hh.1⟩, hh.2⟩
theorem set3_blk {W : World} {g b : Nat} {v0 v1 v2 : Value} (hb : ¬(b = g)) : (((W.setCell ⟨g, 0, none⟩ v0).setCell ⟨g, 1, none⟩ v1).setCell ⟨g, 2, none⟩ v2).heap[b]? = W.heap[b]? := by
  rw [Below.heap_setCell _ _ _ _ (by exact hb), Below.heap_setCell _ _ _ _ (by exact hb), Below.heap_setCell _ _ _ _ (by exact hb)]
set_option maxRecDepth 100000 in
set_option maxHeartbeats 16000000 in
theorem sbulge_of (w : World) (hT : Dy.Tab w) :
    Calls Tryz.prog 132 #[.agg #[.int .i64 1000, .int .i64 10000, .int .i64 400000], .int .i64 100, .int .i64 20] w (Dy.Ret w fun w' v => ∃ r r' : Nat, (0 < r ∧ r < 2 ^ 40) ∧ (0 < r' ∧ r' < 2 ^ 41) ∧ Dy.Sp w' v (Dy.mk (r : Int) (-20)) (Dy.mk (r' : Int) (-20))) := by
  have hF1 : ∀ f, Fence.wide.fn f := fun _ => trivial
  have HT := Lib.hid hT
  clear hT
  go_enter Tryz.func132, Tryz.ntmps132
  go_upto_region 1 with fail
  obtain ⟨W, hW⟩ : ∃ W, (w.alloc (.cells #[.int .i64 1000, .int .i64 10000, .int .i64 400000] 114)).alloc (.cells #[.bool false, .slice none 0 0, .int .i64 0, .bool false, .slice none 0 0, .int .i64 0] 116) = W := ⟨_, rfl⟩
  rw [hW]
  have hB : Below w.heap.size w W := by rw [← hW]; exact ((Below.refl _ _).alloc (Nat.le_refl _) _).alloc (by simp) _
  have hP : W.heap[w.heap.size]? = some (.cells #[.int .i64 1000, .int .i64 10000, .int .i64 400000] 114 (0, 0)) := by rw [← hW]; exact al_old (World.alloc_heap_new w _) _
  have hR : W.heap[w.heap.size + 1]? = some (.cells #[.bool false, .slice none 0 0, .int .i64 0, .bool false, .slice none 0 0, .int .i64 0] 116 (0, 0)) := by rw [← hW]; exact al_1 w _ _
  have HB := Lib.hid hB
  have HP := Lib.hid hP
  have HR := Lib.hid hR
  clear hW hB hP hR
  have HKS : Hid (∀ V, Below W.heap.size W V → V.cell? ⟨w.heap.size, 0, none⟩ = some (.int .i64 1000) ∧ V.cell? ⟨w.heap.size, 1, none⟩ = some (.int .i64 10000) ∧ V.cell? ⟨w.heap.size, 2, none⟩ = some (.int .i64 400000)) := fun V hV => ⟨cell_h (blk1 HP.out hV) rfl, cell_h (blk1 HP.out hV) rfl, cell_h (blk1 HP.out hV) rfl⟩
  go_cut [7, 8] (fun s7 s8 wx => ∃ (K1 K2 : Nat) (b2 : Bool) (q2 : Option Addr) (l2 c2 : Nat) (f2 : Int) (b3 : Bool) (q3 : Option Addr) (l3 c3 : Nat) (f3 : Int), s7 = .pointer (some ⟨K1, 0, none⟩) ∧ s8 = .pointer (some ⟨K2, 0, none⟩) ∧ (W.heap.size ≤ K1 ∧ W.heap.size ≤ K2) ∧ wx.heap[K1]? = some (.cells #[.bool b2, .slice q2 l2 c2, .int .i64 f2] 75 (0, 0)) ∧ wx.heap[K2]? = some (.cells #[.bool b3, .slice q3 l3 c3, .int .i64 f3] 75 (0, 0)) ∧ Dy.Nm wx (.agg #[.bool b2, .slice q2 l2 c2, .int .i64 f2]) (Dy.mk 10000000 0) ∧ Dy.Nm wx (.agg #[.bool b3, .slice q3 l3 c3, .int .i64 f3]) (Dy.mk 10000000 0) ∧ Below W.heap.size W wx)
  case first =>
    have ww1 : IntKind.i64.wrap 100000 = 100000 := by rfl
    have ww2 : IntKind.i64.wrap (100000 * 100) = 10000000 := by rfl
    have ww3 : IntKind.i64.wrap 10000000 = 10000000 := by rfl
    refine (wpIn_wide (n := 5)).1 ?_
    refine wpIn_region_T 14 (fun W2 : World => W2.cell? ⟨w.heap.size, 0, none⟩ = some (.int .i64 1000) ∧ W2.cell? ⟨w.heap.size, 1, none⟩ = some (.int .i64 10000) ∧ W2.cell? ⟨w.heap.size, 2, none⟩ = some (.int .i64 400000)) (by kernel_rfl) ?_
    change anyT _ _ _ _ _ _ _ _ 15 (Array.replicate 15 false) _ _
    have hqd : Below W.heap.size W W.drew := (Below.refl _ _).drew
    generalize W.drew = Wd at *
    have hS0 := HKS.out Wd hqd
    refine anyT_takeD hF1 0 13 (v := ?_) rfl rfl (by kernel_rfl) (by kernel_rfl) (by kernel_rfl) (by kernel_rfl) (by kernel_rfl) (fun _ _ _ h => h) hS0 rfl ?_ ?_
    rotate_left
    · intro W2 hSw; obtain ⟨r0, r1, r2⟩ := hSw; go_simp; try with_reducible rfl
    simp only [List.setIfInBounds_toArray, List.set_cons_zero, List.set_cons_succ]
    refine anyT_takeD hF1 1 14 (v := ?_) rfl rfl (by kernel_rfl) (by kernel_rfl) (by kernel_rfl) (by kernel_rfl) (by kernel_rfl) (fun _ _ _ h => h) hS0 rfl ?_ ?_
    rotate_left
    · intro W2 hSw; obtain ⟨r0, r1, r2⟩ := hSw; go_simp; try with_reducible rfl
    simp only [List.setIfInBounds_toArray, List.set_cons_zero, List.set_cons_succ]
    refine anyT_takeD hF1 2 15 (v := ?_) rfl rfl (by kernel_rfl) (by kernel_rfl) (by kernel_rfl) (by kernel_rfl) (by kernel_rfl) (fun _ _ _ h => h) hS0 rfl ?_ ?_
    rotate_left
    · intro W2 hSw; obtain ⟨r0, r1, r2⟩ := hSw; go_simp; try with_reducible rfl
    simp only [List.setIfInBounds_toArray, List.set_cons_zero, List.set_cons_succ]
    refine anyT_takeD hF1 3 16 (v := ?_) rfl rfl (by kernel_rfl) (by kernel_rfl) (by kernel_rfl) (by kernel_rfl) (by kernel_rfl) (fun _ _ _ h => h) hS0 rfl ?_ ?_
    rotate_left
    · intro W2 hSw; obtain ⟨r0, r1, r2⟩ := hSw; go_simp; try with_reducible rfl
    simp only [List.setIfInBounds_toArray, List.set_cons_zero, List.set_cons_succ]
    refine anyT_takeD hF1 5 18 (v := ?_) rfl rfl (by kernel_rfl) (by kernel_rfl) (by kernel_rfl) (by kernel_rfl) (by kernel_rfl) (fun _ _ _ h => h) hS0 rfl ?_ ?_
    rotate_left
    · intro W2 hSw; obtain ⟨r0, r1, r2⟩ := hSw; go_simp; try with_reducible rfl
    simp only [List.setIfInBounds_toArray, List.set_cons_zero, List.set_cons_succ]
    refine anyT_takeD hF1 6 19 (v := ?_) rfl rfl (by kernel_rfl) (by kernel_rfl) (by kernel_rfl) (by kernel_rfl) (by kernel_rfl) (fun _ _ _ h => h) hS0 rfl ?_ ?_
    rotate_left
    · intro W2 hSw; obtain ⟨r0, r1, r2⟩ := hSw; go_simp; try with_reducible rfl
    simp only [List.setIfInBounds_toArray, List.set_cons_zero, List.set_cons_succ]
    refine anyT_takeD hF1 7 20 (v := ?_) rfl rfl (by kernel_rfl) (by kernel_rfl) (by kernel_rfl) (by kernel_rfl) (by kernel_rfl) (fun _ _ _ h => h) hS0 rfl ?_ ?_
    rotate_left
    · intro W2 hSw; obtain ⟨r0, r1, r2⟩ := hSw; go_simp; try with_reducible rfl
    simp only [List.setIfInBounds_toArray, List.set_cons_zero, List.set_cons_succ]
    refine anyT_takeD hF1 8 21 (v := ?_) rfl rfl (by kernel_rfl) (by kernel_rfl) (by kernel_rfl) (by kernel_rfl) (by kernel_rfl) (fun _ _ _ h => h) hS0 rfl ?_ ?_
    rotate_left
    · intro W2 hSw; obtain ⟨r0, r1, r2⟩ := hSw; go_simp; try with_reducible rfl
    simp only [List.setIfInBounds_toArray, List.set_cons_zero, List.set_cons_succ]
    refine anyT_takeD hF1 9 22 (v := ?_) rfl rfl (by kernel_rfl) (by kernel_rfl) (by kernel_rfl) (by kernel_rfl) (by kernel_rfl) (fun _ _ _ h => h) hS0 rfl ?_ ?_
    rotate_left
    · intro W2 hSw; obtain ⟨r0, r1, r2⟩ := hSw; go_simp; try with_reducible rfl
    simp only [List.setIfInBounds_toArray, List.set_cons_zero, List.set_cons_succ]
    refine anyT_l [4, 11, 12] (by kernel_rfl) (by decide) ⟨?_, ?_, ?_, trivial⟩
    · skip
      refine opT_call hF1 (fun h => absurd h (by decide)) 4 17 (w := Wd) rfl rfl (by kernel_rfl) (by rfl) (by go_simp; try with_reducible rfl; try decide) (callsIn_wide.2 (snumber_of Wd 10000000 (by unfold Dy.I64; omega) (HT.out.keep (low_trans HB.out hqd)))) ?_
      rintro e9 V2x1 ⟨v2, rfl, hv2, hb2⟩
      replace hqd := low_trans hqd hb2
      replace hS0 := HKS.out V2x1 hqd
      obtain ⟨b2, q2, l2, c2, f2, m2, rfl, _, _⟩ := id (Dy.Nm.fields hv2)
      have hv2d := hv2
      refine ⟨_, rfl, hS0, ?_⟩
      simp only [List.setIfInBounds_toArray, List.set_cons_zero, List.set_cons_succ]
      refine anyT_l [10, 11, 12] (by kernel_rfl) (by decide) ⟨?_, ?_, ?_, trivial⟩
      · skip
        refine opT_call hF1 (fun h => absurd h (by decide)) 10 23 (w := V2x1) rfl rfl (by kernel_rfl) (by rfl) (by go_simp; try with_reducible rfl; try decide) (callsIn_wide.2 (snumber_of V2x1 10000000 (by unfold Dy.I64; omega) (HT.out.keep (low_trans HB.out hqd)))) ?_
        rintro e9 V3x2 ⟨v3, rfl, hv3, hb3⟩
        replace hqd := low_trans hqd hb3
        replace hS0 := HKS.out V3x2 hqd
        replace hv2d := Dy.Nm.keep hv2d hb3
        obtain ⟨b3, q3, l3, c3, f3, m3, rfl, _, _⟩ := id (Dy.Nm.fields hv3)
        have hv3d := hv3
        refine ⟨_, rfl, hS0, ?_⟩
        simp only [List.setIfInBounds_toArray, List.set_cons_zero, List.set_cons_succ]
        refine anyT_l [11, 12] (by kernel_rfl) (by decide) ⟨?_, ?_, trivial⟩
        · skip
          refine opT_val hF1 11 7 (w2 := V3x2.alloc (.cells #[.bool false, .slice none 0 0, .int .i64 0] 75)) (v := .pointer (some ⟨V3x2.heap.size, 0, none⟩)) rfl rfl (by kernel_rfl) rfl (by go_simp; try with_reducible rfl) (HKS.out _ (low_trans hqd ((Below.refl V3x2.heap.size V3x2).alloc (Nat.le_refl _) _))) ?_
          simp only [List.setIfInBounds_toArray, List.set_cons_zero, List.set_cons_succ]
          have hba := (Below.refl V3x2.heap.size V3x2).alloc (Nat.le_refl _) (.cells #[.bool false, .slice none 0 0, .int .i64 0] 75)
          have hzK := World.alloc_heap_new V3x2 (.cells #[.bool false, .slice none 0 0, .int .i64 0] 75)
          have hkK := hqd.size
          replace hqd := low_trans hqd hba
          replace hS0 := HKS.out _ hqd
          replace hv2d := Dy.Nm.keep hv2d hba
          replace hv3d := Dy.Nm.keep hv3d hba
          generalize V3x2.alloc (.cells #[.bool false, .slice none 0 0, .int .i64 0] 75) = K3 at *
          refine anyT_l [12] (by kernel_rfl) (by decide) ⟨?_, trivial⟩
          refine opT_val hF1 12 8 (w2 := K3.alloc (.cells #[.bool false, .slice none 0 0, .int .i64 0] 75)) (v := .pointer (some ⟨K3.heap.size, 0, none⟩)) rfl rfl (by kernel_rfl) rfl (by go_simp; try with_reducible rfl) (HKS.out _ (low_trans hqd ((Below.refl K3.heap.size K3).alloc (Nat.le_refl _) _))) ?_
          simp only [List.setIfInBounds_toArray, List.set_cons_zero, List.set_cons_succ]
          have hba := (Below.refl K3.heap.size K3).alloc (Nat.le_refl _) (.cells #[.bool false, .slice none 0 0, .int .i64 0] 75)
          have hzL := World.alloc_heap_new K3 (.cells #[.bool false, .slice none 0 0, .int .i64 0] 75)
          have hkL := hqd.size
          have hnKL : ¬(V3x2.heap.size = K3.heap.size) := by have := (Array.getElem?_eq_some_iff.1 hzK).1; omega
          replace hzK := blk1 hzK hba
          replace hqd := low_trans hqd hba
          replace hS0 := HKS.out _ hqd
          replace hv2d := Dy.Nm.keep hv2d hba
          replace hv3d := Dy.Nm.keep hv3d hba
          generalize K3.alloc (.cells #[.bool false, .slice none 0 0, .int .i64 0] 75) = L4 at *
          have z0 := cell_h (k := 0) hzK rfl
          have z1 := cell_h (k := 1) hzK rfl
          have z2 := cell_h (k := 2) hzK rfl
          have zf : ∀ o, L4.frozen? ⟨V3x2.heap.size, o, none⟩ = false := fun o => by simp [World.frozen?, hzK]
          have hst := num_store (a := b2) (p := q2) (n := l2) (k := c2) (e := f2) hzK hv2d
          have hsb : Below W.heap.size W ((((L4).setCell ⟨V3x2.heap.size, 0, none⟩ (.bool b2)).setCell ⟨V3x2.heap.size, 1, none⟩ (.slice q2 l2 c2)).setCell ⟨V3x2.heap.size, 2, none⟩ (.int .i64 f2)) := Dy.below_set3 hqd hkK
          have hv3e := hv3d.set3 (i := 0) (j := 1) (k := 2) (a := b2) (p := q2) (n := l2) (c := c2) (e := f2) (num_nodig hzK)
          have hyL := (set3_blk (W := L4) (v0 := .bool b2) (v1 := .slice q2 l2 c2) (v2 := .int .i64 f2) (g := V3x2.heap.size) (b := K3.heap.size) (by omega)).trans hzL
          refine anyT_l [13] (by kernel_rfl) (by decide) ⟨?_, trivial⟩
          refine opT_skip hF1 13 (w2 := (((L4).setCell ⟨V3x2.heap.size, 0, none⟩ (.bool b2)).setCell ⟨V3x2.heap.size, 1, none⟩ (.slice q2 l2 c2)).setCell ⟨V3x2.heap.size, 2, none⟩ (.int .i64 f2)) rfl rfl (by kernel_rfl) rfl (by go_simp; try with_reducible rfl) (.inr (HKS.out _ hsb)) ?_
          clear z0 z1 z2 zf
          generalize (((L4).setCell ⟨V3x2.heap.size, 0, none⟩ (.bool b2)).setCell ⟨V3x2.heap.size, 1, none⟩ (.slice q2 l2 c2)).setCell ⟨V3x2.heap.size, 2, none⟩ (.int .i64 f2) = Y0z4 at *
          replace hqd := hsb
          replace hv3d := hv3e
          replace hzK := hst.1
          replace hv2d := hst.2
          clear hsb hst
          replace hzL := hyL
          clear hyL
          clear hv3e
          have z0 := cell_h (k := 0) hzL rfl
          have z1 := cell_h (k := 1) hzL rfl
          have z2 := cell_h (k := 2) hzL rfl
          have zf : ∀ o, Y0z4.frozen? ⟨K3.heap.size, o, none⟩ = false := fun o => by simp [World.frozen?, hzL]
          have hst := num_store (a := b3) (p := q3) (n := l3) (k := c3) (e := f3) hzL hv3d
          have hsb : Below W.heap.size W ((((Y0z4).setCell ⟨K3.heap.size, 0, none⟩ (.bool b3)).setCell ⟨K3.heap.size, 1, none⟩ (.slice q3 l3 c3)).setCell ⟨K3.heap.size, 2, none⟩ (.int .i64 f3)) := Dy.below_set3 hqd hkL
          have hv2e := hv2d.set3 (i := 0) (j := 1) (k := 2) (a := b3) (p := q3) (n := l3) (c := c3) (e := f3) (num_nodig hzL)
          have hyK := (set3_blk (W := Y0z4) (v0 := .bool b3) (v1 := .slice q3 l3 c3) (v2 := .int .i64 f3) (g := K3.heap.size) (b := V3x2.heap.size) (by omega)).trans hzK
          refine anyT_skipN hF1 (w2 := (((Y0z4).setCell ⟨K3.heap.size, 0, none⟩ (.bool b3)).setCell ⟨K3.heap.size, 1, none⟩ (.slice q3 l3 c3)).setCell ⟨K3.heap.size, 2, none⟩ (.int .i64 f3)) rfl rfl (by kernel_rfl) (by kernel_rfl) rfl (by go_simp; try with_reducible rfl) ?_
          refine anyT_done (by kernel_rfl) ?_ _
          clear z0 z1 z2 zf
          generalize (((Y0z4).setCell ⟨K3.heap.size, 0, none⟩ (.bool b3)).setCell ⟨K3.heap.size, 1, none⟩ (.slice q3 l3 c3)).setCell ⟨K3.heap.size, 2, none⟩ (.int .i64 f3) = Y1z4 at *
          replace hqd := hsb
          replace hv2d := hv2e
          replace hzL := hst.1
          replace hv3d := hst.2
          replace hzK := hyK
          go_wp2_with fail
          go_meet
          exact ⟨V3x2.heap.size, K3.heap.size, _, _, _, _, _, _, _, _, _, _, rfl, rfl, ⟨hkK, hkL⟩, hzK, hzL, hv2d, hv3d, hqd⟩
        · skip
          refine opT_val hF1 12 8 (w2 := V3x2.alloc (.cells #[.bool false, .slice none 0 0, .int .i64 0] 75)) (v := .pointer (some ⟨V3x2.heap.size, 0, none⟩)) rfl rfl (by kernel_rfl) rfl (by go_simp; try with_reducible rfl) (HKS.out _ (low_trans hqd ((Below.refl V3x2.heap.size V3x2).alloc (Nat.le_refl _) _))) ?_
          simp only [List.setIfInBounds_toArray, List.set_cons_zero, List.set_cons_succ]
          have hba := (Below.refl V3x2.heap.size V3x2).alloc (Nat.le_refl _) (.cells #[.bool false, .slice none 0 0, .int .i64 0] 75)
          have hzL := World.alloc_heap_new V3x2 (.cells #[.bool false, .slice none 0 0, .int .i64 0] 75)
          have hkL := hqd.size
          replace hqd := low_trans hqd hba
          replace hS0 := HKS.out _ hqd
          replace hv2d := Dy.Nm.keep hv2d hba
          replace hv3d := Dy.Nm.keep hv3d hba
          generalize V3x2.alloc (.cells #[.bool false, .slice none 0 0, .int .i64 0] 75) = L5 at *
          refine anyT_l [11] (by kernel_rfl) (by decide) ⟨?_, trivial⟩
          refine opT_val hF1 11 7 (w2 := L5.alloc (.cells #[.bool false, .slice none 0 0, .int .i64 0] 75)) (v := .pointer (some ⟨L5.heap.size, 0, none⟩)) rfl rfl (by kernel_rfl) rfl (by go_simp; try with_reducible rfl) (HKS.out _ (low_trans hqd ((Below.refl L5.heap.size L5).alloc (Nat.le_refl _) _))) ?_
          simp only [List.setIfInBounds_toArray, List.set_cons_zero, List.set_cons_succ]
          have hba := (Below.refl L5.heap.size L5).alloc (Nat.le_refl _) (.cells #[.bool false, .slice none 0 0, .int .i64 0] 75)
          have hzK := World.alloc_heap_new L5 (.cells #[.bool false, .slice none 0 0, .int .i64 0] 75)
          have hkK := hqd.size
          have hnLK : ¬(V3x2.heap.size = L5.heap.size) := by have := (Array.getElem?_eq_some_iff.1 hzL).1; omega
          replace hzL := blk1 hzL hba
          replace hqd := low_trans hqd hba
          replace hS0 := HKS.out _ hqd
          replace hv2d := Dy.Nm.keep hv2d hba
          replace hv3d := Dy.Nm.keep hv3d hba
          generalize L5.alloc (.cells #[.bool false, .slice none 0 0, .int .i64 0] 75) = K6 at *
          have z0 := cell_h (k := 0) hzK rfl
          have z1 := cell_h (k := 1) hzK rfl
          have z2 := cell_h (k := 2) hzK rfl
          have zf : ∀ o, K6.frozen? ⟨L5.heap.size, o, none⟩ = false := fun o => by simp [World.frozen?, hzK]
          have hst := num_store (a := b2) (p := q2) (n := l2) (k := c2) (e := f2) hzK hv2d
          have hsb : Below W.heap.size W ((((K6).setCell ⟨L5.heap.size, 0, none⟩ (.bool b2)).setCell ⟨L5.heap.size, 1, none⟩ (.slice q2 l2 c2)).setCell ⟨L5.heap.size, 2, none⟩ (.int .i64 f2)) := Dy.below_set3 hqd hkK
          have hv3e := hv3d.set3 (i := 0) (j := 1) (k := 2) (a := b2) (p := q2) (n := l2) (c := c2) (e := f2) (num_nodig hzK)
          have hyL := (set3_blk (W := K6) (v0 := .bool b2) (v1 := .slice q2 l2 c2) (v2 := .int .i64 f2) (g := L5.heap.size) (b := V3x2.heap.size) (by omega)).trans hzL
          refine anyT_l [13] (by kernel_rfl) (by decide) ⟨?_, trivial⟩
          refine opT_skip hF1 13 (w2 := (((K6).setCell ⟨L5.heap.size, 0, none⟩ (.bool b2)).setCell ⟨L5.heap.size, 1, none⟩ (.slice q2 l2 c2)).setCell ⟨L5.heap.size, 2, none⟩ (.int .i64 f2)) rfl rfl (by kernel_rfl) rfl (by go_simp; try with_reducible rfl) (.inr (HKS.out _ hsb)) ?_
          clear z0 z1 z2 zf
          generalize (((K6).setCell ⟨L5.heap.size, 0, none⟩ (.bool b2)).setCell ⟨L5.heap.size, 1, none⟩ (.slice q2 l2 c2)).setCell ⟨L5.heap.size, 2, none⟩ (.int .i64 f2) = Y0z6 at *
          replace hqd := hsb
          replace hv3d := hv3e
          replace hzK := hst.1
          replace hv2d := hst.2
          clear hsb hst
          replace hzL := hyL
          clear hyL
          clear hv3e
          have z0 := cell_h (k := 0) hzL rfl
          have z1 := cell_h (k := 1) hzL rfl
          have z2 := cell_h (k := 2) hzL rfl
          have zf : ∀ o, Y0z6.frozen? ⟨V3x2.heap.size, o, none⟩ = false := fun o => by simp [World.frozen?, hzL]
          have hst := num_store (a := b3) (p := q3) (n := l3) (k := c3) (e := f3) hzL hv3d
          have hsb : Below W.heap.size W ((((Y0z6).setCell ⟨V3x2.heap.size, 0, none⟩ (.bool b3)).setCell ⟨V3x2.heap.size, 1, none⟩ (.slice q3 l3 c3)).setCell ⟨V3x2.heap.size, 2, none⟩ (.int .i64 f3)) := Dy.below_set3 hqd hkL
          have hv2e := hv2d.set3 (i := 0) (j := 1) (k := 2) (a := b3) (p := q3) (n := l3) (c := c3) (e := f3) (num_nodig hzL)
          have hyK := (set3_blk (W := Y0z6) (v0 := .bool b3) (v1 := .slice q3 l3 c3) (v2 := .int .i64 f3) (g := V3x2.heap.size) (b := L5.heap.size) (by omega)).trans hzK
          refine anyT_skipN hF1 (w2 := (((Y0z6).setCell ⟨V3x2.heap.size, 0, none⟩ (.bool b3)).setCell ⟨V3x2.heap.size, 1, none⟩ (.slice q3 l3 c3)).setCell ⟨V3x2.heap.size, 2, none⟩ (.int .i64 f3)) rfl rfl (by kernel_rfl) (by kernel_rfl) rfl (by go_simp; try with_reducible rfl) ?_
          refine anyT_done (by kernel_rfl) ?_ _
          clear z0 z1 z2 zf
          generalize (((Y0z6).setCell ⟨V3x2.heap.size, 0, none⟩ (.bool b3)).setCell ⟨V3x2.heap.size, 1, none⟩ (.slice q3 l3 c3)).setCell ⟨V3x2.heap.size, 2, none⟩ (.int .i64 f3) = Y1z6 at *
          replace hqd := hsb
          replace hv2d := hv2e
          replace hzL := hst.1
          replace hv3d := hst.2
          replace hzK := hyK
          go_wp2_with fail
          go_meet
          exact ⟨L5.heap.size, V3x2.heap.size, _, _, _, _, _, _, _, _, _, _, rfl, rfl, ⟨hkK, hkL⟩, hzK, hzL, hv2d, hv3d, hqd⟩
      · skip
        refine opT_val hF1 11 7 (w2 := V2x1.alloc (.cells #[.bool false, .slice none 0 0, .int .i64 0] 75)) (v := .pointer (some ⟨V2x1.heap.size, 0, none⟩)) rfl rfl (by kernel_rfl) rfl (by go_simp; try with_reducible rfl) (HKS.out _ (low_trans hqd ((Below.refl V2x1.heap.size V2x1).alloc (Nat.le_refl _) _))) ?_
        simp only [List.setIfInBounds_toArray, List.set_cons_zero, List.set_cons_succ]
        have hba := (Below.refl V2x1.heap.size V2x1).alloc (Nat.le_refl _) (.cells #[.bool false, .slice none 0 0, .int .i64 0] 75)
        have hzK := World.alloc_heap_new V2x1 (.cells #[.bool false, .slice none 0 0, .int .i64 0] 75)
        have hkK := hqd.size
        replace hqd := low_trans hqd hba
        replace hS0 := HKS.out _ hqd
        replace hv2d := Dy.Nm.keep hv2d hba
        generalize V2x1.alloc (.cells #[.bool false, .slice none 0 0, .int .i64 0] 75) = K7 at *
        refine anyT_l [10, 12] (by kernel_rfl) (by decide) ⟨?_, ?_, trivial⟩
        · skip
          refine opT_call hF1 (fun h => absurd h (by decide)) 10 23 (w := K7) rfl rfl (by kernel_rfl) (by rfl) (by go_simp; try with_reducible rfl; try decide) (callsIn_wide.2 (snumber_of K7 10000000 (by unfold Dy.I64; omega) (HT.out.keep (low_trans HB.out hqd)))) ?_
          rintro e9 V3x8 ⟨v3, rfl, hv3, hb3⟩
          replace hqd := low_trans hqd hb3
          replace hS0 := HKS.out V3x8 hqd
          replace hv2d := Dy.Nm.keep hv2d hb3
          replace hzK := blk1 hzK hb3
          obtain ⟨b3, q3, l3, c3, f3, m3, rfl, _, _⟩ := id (Dy.Nm.fields hv3)
          have hv3d := hv3
          refine ⟨_, rfl, hS0, ?_⟩
          simp only [List.setIfInBounds_toArray, List.set_cons_zero, List.set_cons_succ]
          refine anyT_l [12] (by kernel_rfl) (by decide) ⟨?_, trivial⟩
          refine opT_val hF1 12 8 (w2 := V3x8.alloc (.cells #[.bool false, .slice none 0 0, .int .i64 0] 75)) (v := .pointer (some ⟨V3x8.heap.size, 0, none⟩)) rfl rfl (by kernel_rfl) rfl (by go_simp; try with_reducible rfl) (HKS.out _ (low_trans hqd ((Below.refl V3x8.heap.size V3x8).alloc (Nat.le_refl _) _))) ?_
          simp only [List.setIfInBounds_toArray, List.set_cons_zero, List.set_cons_succ]
          have hba := (Below.refl V3x8.heap.size V3x8).alloc (Nat.le_refl _) (.cells #[.bool false, .slice none 0 0, .int .i64 0] 75)
          have hzL := World.alloc_heap_new V3x8 (.cells #[.bool false, .slice none 0 0, .int .i64 0] 75)
          have hkL := hqd.size
          have hnKL : ¬(V2x1.heap.size = V3x8.heap.size) := by have := (Array.getElem?_eq_some_iff.1 hzK).1; omega
          replace hzK := blk1 hzK hba
          replace hqd := low_trans hqd hba
          replace hS0 := HKS.out _ hqd
          replace hv2d := Dy.Nm.keep hv2d hba
          replace hv3d := Dy.Nm.keep hv3d hba
          generalize V3x8.alloc (.cells #[.bool false, .slice none 0 0, .int .i64 0] 75) = L9 at *
          have z0 := cell_h (k := 0) hzK rfl
          have z1 := cell_h (k := 1) hzK rfl
          have z2 := cell_h (k := 2) hzK rfl
          have zf : ∀ o, L9.frozen? ⟨V2x1.heap.size, o, none⟩ = false := fun o => by simp [World.frozen?, hzK]
          have hst := num_store (a := b2) (p := q2) (n := l2) (k := c2) (e := f2) hzK hv2d
          have hsb : Below W.heap.size W ((((L9).setCell ⟨V2x1.heap.size, 0, none⟩ (.bool b2)).setCell ⟨V2x1.heap.size, 1, none⟩ (.slice q2 l2 c2)).setCell ⟨V2x1.heap.size, 2, none⟩ (.int .i64 f2)) := Dy.below_set3 hqd hkK
          have hv3e := hv3d.set3 (i := 0) (j := 1) (k := 2) (a := b2) (p := q2) (n := l2) (c := c2) (e := f2) (num_nodig hzK)
          have hyL := (set3_blk (W := L9) (v0 := .bool b2) (v1 := .slice q2 l2 c2) (v2 := .int .i64 f2) (g := V2x1.heap.size) (b := V3x8.heap.size) (by omega)).trans hzL
          refine anyT_l [13] (by kernel_rfl) (by decide) ⟨?_, trivial⟩
          refine opT_skip hF1 13 (w2 := (((L9).setCell ⟨V2x1.heap.size, 0, none⟩ (.bool b2)).setCell ⟨V2x1.heap.size, 1, none⟩ (.slice q2 l2 c2)).setCell ⟨V2x1.heap.size, 2, none⟩ (.int .i64 f2)) rfl rfl (by kernel_rfl) rfl (by go_simp; try with_reducible rfl) (.inr (HKS.out _ hsb)) ?_
          clear z0 z1 z2 zf
          generalize (((L9).setCell ⟨V2x1.heap.size, 0, none⟩ (.bool b2)).setCell ⟨V2x1.heap.size, 1, none⟩ (.slice q2 l2 c2)).setCell ⟨V2x1.heap.size, 2, none⟩ (.int .i64 f2) = Y0z9 at *
          replace hqd := hsb
          replace hv3d := hv3e
          replace hzK := hst.1
          replace hv2d := hst.2
          clear hsb hst
          replace hzL := hyL
          clear hyL
          clear hv3e
          have z0 := cell_h (k := 0) hzL rfl
          have z1 := cell_h (k := 1) hzL rfl
          have z2 := cell_h (k := 2) hzL rfl
          have zf : ∀ o, Y0z9.frozen? ⟨V3x8.heap.size, o, none⟩ = false := fun o => by simp [World.frozen?, hzL]
          have hst := num_store (a := b3) (p := q3) (n := l3) (k := c3) (e := f3) hzL hv3d
          have hsb : Below W.heap.size W ((((Y0z9).setCell ⟨V3x8.heap.size, 0, none⟩ (.bool b3)).setCell ⟨V3x8.heap.size, 1, none⟩ (.slice q3 l3 c3)).setCell ⟨V3x8.heap.size, 2, none⟩ (.int .i64 f3)) := Dy.below_set3 hqd hkL
          have hv2e := hv2d.set3 (i := 0) (j := 1) (k := 2) (a := b3) (p := q3) (n := l3) (c := c3) (e := f3) (num_nodig hzL)
          have hyK := (set3_blk (W := Y0z9) (v0 := .bool b3) (v1 := .slice q3 l3 c3) (v2 := .int .i64 f3) (g := V3x8.heap.size) (b := V2x1.heap.size) (by omega)).trans hzK
          refine anyT_skipN hF1 (w2 := (((Y0z9).setCell ⟨V3x8.heap.size, 0, none⟩ (.bool b3)).setCell ⟨V3x8.heap.size, 1, none⟩ (.slice q3 l3 c3)).setCell ⟨V3x8.heap.size, 2, none⟩ (.int .i64 f3)) rfl rfl (by kernel_rfl) (by kernel_rfl) rfl (by go_simp; try with_reducible rfl) ?_
          refine anyT_done (by kernel_rfl) ?_ _
          clear z0 z1 z2 zf
          generalize (((Y0z9).setCell ⟨V3x8.heap.size, 0, none⟩ (.bool b3)).setCell ⟨V3x8.heap.size, 1, none⟩ (.slice q3 l3 c3)).setCell ⟨V3x8.heap.size, 2, none⟩ (.int .i64 f3) = Y1z9 at *
          replace hqd := hsb
          replace hv2d := hv2e
          replace hzL := hst.1
          replace hv3d := hst.2
          replace hzK := hyK
          go_wp2_with fail
          go_meet
          exact ⟨V2x1.heap.size, V3x8.heap.size, _, _, _, _, _, _, _, _, _, _, rfl, rfl, ⟨hkK, hkL⟩, hzK, hzL, hv2d, hv3d, hqd⟩
        · skip
          refine opT_val hF1 12 8 (w2 := K7.alloc (.cells #[.bool false, .slice none 0 0, .int .i64 0] 75)) (v := .pointer (some ⟨K7.heap.size, 0, none⟩)) rfl rfl (by kernel_rfl) rfl (by go_simp; try with_reducible rfl) (HKS.out _ (low_trans hqd ((Below.refl K7.heap.size K7).alloc (Nat.le_refl _) _))) ?_
          simp only [List.setIfInBounds_toArray, List.set_cons_zero, List.set_cons_succ]
          have hba := (Below.refl K7.heap.size K7).alloc (Nat.le_refl _) (.cells #[.bool false, .slice none 0 0, .int .i64 0] 75)
          have hzL := World.alloc_heap_new K7 (.cells #[.bool false, .slice none 0 0, .int .i64 0] 75)
          have hkL := hqd.size
          have hnKL : ¬(V2x1.heap.size = K7.heap.size) := by have := (Array.getElem?_eq_some_iff.1 hzK).1; omega
          replace hzK := blk1 hzK hba
          replace hqd := low_trans hqd hba
          replace hS0 := HKS.out _ hqd
          replace hv2d := Dy.Nm.keep hv2d hba
          generalize K7.alloc (.cells #[.bool false, .slice none 0 0, .int .i64 0] 75) = L10 at *
          refine anyT_l [10] (by kernel_rfl) (by decide) ⟨?_, trivial⟩
          refine opT_call hF1 (fun h => absurd h (by decide)) 10 23 (w := L10) rfl rfl (by kernel_rfl) (by rfl) (by go_simp; try with_reducible rfl; try decide) (callsIn_wide.2 (snumber_of L10 10000000 (by unfold Dy.I64; omega) (HT.out.keep (low_trans HB.out hqd)))) ?_
          rintro e9 V3x11 ⟨v3, rfl, hv3, hb3⟩
          replace hqd := low_trans hqd hb3
          replace hS0 := HKS.out V3x11 hqd
          replace hv2d := Dy.Nm.keep hv2d hb3
          replace hzK := blk1 hzK hb3
          replace hzL := blk1 hzL hb3
          obtain ⟨b3, q3, l3, c3, f3, m3, rfl, _, _⟩ := id (Dy.Nm.fields hv3)
          have hv3d := hv3
          refine ⟨_, rfl, hS0, ?_⟩
          simp only [List.setIfInBounds_toArray, List.set_cons_zero, List.set_cons_succ]
          have z0 := cell_h (k := 0) hzK rfl
          have z1 := cell_h (k := 1) hzK rfl
          have z2 := cell_h (k := 2) hzK rfl
          have zf : ∀ o, V3x11.frozen? ⟨V2x1.heap.size, o, none⟩ = false := fun o => by simp [World.frozen?, hzK]
          have hst := num_store (a := b2) (p := q2) (n := l2) (k := c2) (e := f2) hzK hv2d
          have hsb : Below W.heap.size W ((((V3x11).setCell ⟨V2x1.heap.size, 0, none⟩ (.bool b2)).setCell ⟨V2x1.heap.size, 1, none⟩ (.slice q2 l2 c2)).setCell ⟨V2x1.heap.size, 2, none⟩ (.int .i64 f2)) := Dy.below_set3 hqd hkK
          have hv3e := hv3d.set3 (i := 0) (j := 1) (k := 2) (a := b2) (p := q2) (n := l2) (c := c2) (e := f2) (num_nodig hzK)
          have hyL := (set3_blk (W := V3x11) (v0 := .bool b2) (v1 := .slice q2 l2 c2) (v2 := .int .i64 f2) (g := V2x1.heap.size) (b := K7.heap.size) (by omega)).trans hzL
          refine anyT_l [13] (by kernel_rfl) (by decide) ⟨?_, trivial⟩
          refine opT_skip hF1 13 (w2 := (((V3x11).setCell ⟨V2x1.heap.size, 0, none⟩ (.bool b2)).setCell ⟨V2x1.heap.size, 1, none⟩ (.slice q2 l2 c2)).setCell ⟨V2x1.heap.size, 2, none⟩ (.int .i64 f2)) rfl rfl (by kernel_rfl) rfl (by go_simp; try with_reducible rfl) (.inr (HKS.out _ hsb)) ?_
          clear z0 z1 z2 zf
          generalize (((V3x11).setCell ⟨V2x1.heap.size, 0, none⟩ (.bool b2)).setCell ⟨V2x1.heap.size, 1, none⟩ (.slice q2 l2 c2)).setCell ⟨V2x1.heap.size, 2, none⟩ (.int .i64 f2) = Y0z11 at *
          replace hqd := hsb
          replace hv3d := hv3e
          replace hzK := hst.1
          replace hv2d := hst.2
          clear hsb hst
          replace hzL := hyL
          clear hyL
          clear hv3e
          have z0 := cell_h (k := 0) hzL rfl
          have z1 := cell_h (k := 1) hzL rfl
          have z2 := cell_h (k := 2) hzL rfl
          have zf : ∀ o, Y0z11.frozen? ⟨K7.heap.size, o, none⟩ = false := fun o => by simp [World.frozen?, hzL]
          have hst := num_store (a := b3) (p := q3) (n := l3) (k := c3) (e := f3) hzL hv3d
          have hsb : Below W.heap.size W ((((Y0z11).setCell ⟨K7.heap.size, 0, none⟩ (.bool b3)).setCell ⟨K7.heap.size, 1, none⟩ (.slice q3 l3 c3)).setCell ⟨K7.heap.size, 2, none⟩ (.int .i64 f3)) := Dy.below_set3 hqd hkL
          have hv2e := hv2d.set3 (i := 0) (j := 1) (k := 2) (a := b3) (p := q3) (n := l3) (c := c3) (e := f3) (num_nodig hzL)
          have hyK := (set3_blk (W := Y0z11) (v0 := .bool b3) (v1 := .slice q3 l3 c3) (v2 := .int .i64 f3) (g := K7.heap.size) (b := V2x1.heap.size) (by omega)).trans hzK
          refine anyT_skipN hF1 (w2 := (((Y0z11).setCell ⟨K7.heap.size, 0, none⟩ (.bool b3)).setCell ⟨K7.heap.size, 1, none⟩ (.slice q3 l3 c3)).setCell ⟨K7.heap.size, 2, none⟩ (.int .i64 f3)) rfl rfl (by kernel_rfl) (by kernel_rfl) rfl (by go_simp; try with_reducible rfl) ?_
          refine anyT_done (by kernel_rfl) ?_ _
          clear z0 z1 z2 zf
          generalize (((Y0z11).setCell ⟨K7.heap.size, 0, none⟩ (.bool b3)).setCell ⟨K7.heap.size, 1, none⟩ (.slice q3 l3 c3)).setCell ⟨K7.heap.size, 2, none⟩ (.int .i64 f3) = Y1z11 at *
          replace hqd := hsb
          replace hv2d := hv2e
          replace hzL := hst.1
          replace hv3d := hst.2
          replace hzK := hyK
          go_wp2_with fail
          go_meet
          exact ⟨V2x1.heap.size, K7.heap.size, _, _, _, _, _, _, _, _, _, _, rfl, rfl, ⟨hkK, hkL⟩, hzK, hzL, hv2d, hv3d, hqd⟩
      · skip
        refine opT_val hF1 12 8 (w2 := V2x1.alloc (.cells #[.bool false, .slice none 0 0, .int .i64 0] 75)) (v := .pointer (some ⟨V2x1.heap.size, 0, none⟩)) rfl rfl (by kernel_rfl) rfl (by go_simp; try with_reducible rfl) (HKS.out _ (low_trans hqd ((Below.refl V2x1.heap.size V2x1).alloc (Nat.le_refl _) _))) ?_
        simp only [List.setIfInBounds_toArray, List.set_cons_zero, List.set_cons_succ]
        have hba := (Below.refl V2x1.heap.size V2x1).alloc (Nat.le_refl _) (.cells #[.bool false, .slice none 0 0, .int .i64 0] 75)
        have hzL := World.alloc_heap_new V2x1 (.cells #[.bool false, .slice none 0 0, .int .i64 0] 75)
        have hkL := hqd.size
        replace hqd := low_trans hqd hba
        replace hS0 := HKS.out _ hqd
        replace hv2d := Dy.Nm.keep hv2d hba
        generalize V2x1.alloc (.cells #[.bool false, .slice none 0 0, .int .i64 0] 75) = L12 at *
        refine anyT_l [10, 11] (by kernel_rfl) (by decide) ⟨?_, ?_, trivial⟩
        · skip
          refine opT_call hF1 (fun h => absurd h (by decide)) 10 23 (w := L12) rfl rfl (by kernel_rfl) (by rfl) (by go_simp; try with_reducible rfl; try decide) (callsIn_wide.2 (snumber_of L12 10000000 (by unfold Dy.I64; omega) (HT.out.keep (low_trans HB.out hqd)))) ?_
          rintro e9 V3x13 ⟨v3, rfl, hv3, hb3⟩
          replace hqd := low_trans hqd hb3
          replace hS0 := HKS.out V3x13 hqd
          replace hv2d := Dy.Nm.keep hv2d hb3
          replace hzL := blk1 hzL hb3
          obtain ⟨b3, q3, l3, c3, f3, m3, rfl, _, _⟩ := id (Dy.Nm.fields hv3)
          have hv3d := hv3
          refine ⟨_, rfl, hS0, ?_⟩
          simp only [List.setIfInBounds_toArray, List.set_cons_zero, List.set_cons_succ]
          refine anyT_l [11] (by kernel_rfl) (by decide) ⟨?_, trivial⟩
          refine opT_val hF1 11 7 (w2 := V3x13.alloc (.cells #[.bool false, .slice none 0 0, .int .i64 0] 75)) (v := .pointer (some ⟨V3x13.heap.size, 0, none⟩)) rfl rfl (by kernel_rfl) rfl (by go_simp; try with_reducible rfl) (HKS.out _ (low_trans hqd ((Below.refl V3x13.heap.size V3x13).alloc (Nat.le_refl _) _))) ?_
          simp only [List.setIfInBounds_toArray, List.set_cons_zero, List.set_cons_succ]
          have hba := (Below.refl V3x13.heap.size V3x13).alloc (Nat.le_refl _) (.cells #[.bool false, .slice none 0 0, .int .i64 0] 75)
          have hzK := World.alloc_heap_new V3x13 (.cells #[.bool false, .slice none 0 0, .int .i64 0] 75)
          have hkK := hqd.size
          have hnLK : ¬(V2x1.heap.size = V3x13.heap.size) := by have := (Array.getElem?_eq_some_iff.1 hzL).1; omega
          replace hzL := blk1 hzL hba
          replace hqd := low_trans hqd hba
          replace hS0 := HKS.out _ hqd
          replace hv2d := Dy.Nm.keep hv2d hba
          replace hv3d := Dy.Nm.keep hv3d hba
          generalize V3x13.alloc (.cells #[.bool false, .slice none 0 0, .int .i64 0] 75) = K14 at *
          have z0 := cell_h (k := 0) hzK rfl
          have z1 := cell_h (k := 1) hzK rfl
          have z2 := cell_h (k := 2) hzK rfl
          have zf : ∀ o, K14.frozen? ⟨V3x13.heap.size, o, none⟩ = false := fun o => by simp [World.frozen?, hzK]
          have hst := num_store (a := b2) (p := q2) (n := l2) (k := c2) (e := f2) hzK hv2d
          have hsb : Below W.heap.size W ((((K14).setCell ⟨V3x13.heap.size, 0, none⟩ (.bool b2)).setCell ⟨V3x13.heap.size, 1, none⟩ (.slice q2 l2 c2)).setCell ⟨V3x13.heap.size, 2, none⟩ (.int .i64 f2)) := Dy.below_set3 hqd hkK
          have hv3e := hv3d.set3 (i := 0) (j := 1) (k := 2) (a := b2) (p := q2) (n := l2) (c := c2) (e := f2) (num_nodig hzK)
          have hyL := (set3_blk (W := K14) (v0 := .bool b2) (v1 := .slice q2 l2 c2) (v2 := .int .i64 f2) (g := V3x13.heap.size) (b := V2x1.heap.size) (by omega)).trans hzL
          refine anyT_l [13] (by kernel_rfl) (by decide) ⟨?_, trivial⟩
          refine opT_skip hF1 13 (w2 := (((K14).setCell ⟨V3x13.heap.size, 0, none⟩ (.bool b2)).setCell ⟨V3x13.heap.size, 1, none⟩ (.slice q2 l2 c2)).setCell ⟨V3x13.heap.size, 2, none⟩ (.int .i64 f2)) rfl rfl (by kernel_rfl) rfl (by go_simp; try with_reducible rfl) (.inr (HKS.out _ hsb)) ?_
          clear z0 z1 z2 zf
          generalize (((K14).setCell ⟨V3x13.heap.size, 0, none⟩ (.bool b2)).setCell ⟨V3x13.heap.size, 1, none⟩ (.slice q2 l2 c2)).setCell ⟨V3x13.heap.size, 2, none⟩ (.int .i64 f2) = Y0z14 at *
          replace hqd := hsb
          replace hv3d := hv3e
          replace hzK := hst.1
          replace hv2d := hst.2
          clear hsb hst
          replace hzL := hyL
          clear hyL
          clear hv3e
          have z0 := cell_h (k := 0) hzL rfl
          have z1 := cell_h (k := 1) hzL rfl
          have z2 := cell_h (k := 2) hzL rfl
          have zf : ∀ o, Y0z14.frozen? ⟨V2x1.heap.size, o, none⟩ = false := fun o => by simp [World.frozen?, hzL]
          have hst := num_store (a := b3) (p := q3) (n := l3) (k := c3) (e := f3) hzL hv3d
          have hsb : Below W.heap.size W ((((Y0z14).setCell ⟨V2x1.heap.size, 0, none⟩ (.bool b3)).setCell ⟨V2x1.heap.size, 1, none⟩ (.slice q3 l3 c3)).setCell ⟨V2x1.heap.size, 2, none⟩ (.int .i64 f3)) := Dy.below_set3 hqd hkL
          have hv2e := hv2d.set3 (i := 0) (j := 1) (k := 2) (a := b3) (p := q3) (n := l3) (c := c3) (e := f3) (num_nodig hzL)
          have hyK := (set3_blk (W := Y0z14) (v0 := .bool b3) (v1 := .slice q3 l3 c3) (v2 := .int .i64 f3) (g := V2x1.heap.size) (b := V3x13.heap.size) (by omega)).trans hzK
          refine anyT_skipN hF1 (w2 := (((Y0z14).setCell ⟨V2x1.heap.size, 0, none⟩ (.bool b3)).setCell ⟨V2x1.heap.size, 1, none⟩ (.slice q3 l3 c3)).setCell ⟨V2x1.heap.size, 2, none⟩ (.int .i64 f3)) rfl rfl (by kernel_rfl) (by kernel_rfl) rfl (by go_simp; try with_reducible rfl) ?_
          refine anyT_done (by kernel_rfl) ?_ _
          clear z0 z1 z2 zf
          generalize (((Y0z14).setCell ⟨V2x1.heap.size, 0, none⟩ (.bool b3)).setCell ⟨V2x1.heap.size, 1, none⟩ (.slice q3 l3 c3)).setCell ⟨V2x1.heap.size, 2, none⟩ (.int .i64 f3) = Y1z14 at *
          replace hqd := hsb
          replace hv2d := hv2e
          replace hzL := hst.1
          replace hv3d := hst.2
          replace hzK := hyK
          go_wp2_with fail
          go_meet
          exact ⟨V3x13.heap.size, V2x1.heap.size, _, _, _, _, _, _, _, _, _, _, rfl, rfl, ⟨hkK, hkL⟩, hzK, hzL, hv2d, hv3d, hqd⟩
        · skip
          refine opT_val hF1 11 7 (w2 := L12.alloc (.cells #[.bool false, .slice none 0 0, .int .i64 0] 75)) (v := .pointer (some ⟨L12.heap.size, 0, none⟩)) rfl rfl (by kernel_rfl) rfl (by go_simp; try with_reducible rfl) (HKS.out _ (low_trans hqd ((Below.refl L12.heap.size L12).alloc (Nat.le_refl _) _))) ?_
          simp only [List.setIfInBounds_toArray, List.set_cons_zero, List.set_cons_succ]
          have hba := (Below.refl L12.heap.size L12).alloc (Nat.le_refl _) (.cells #[.bool false, .slice none 0 0, .int .i64 0] 75)
          have hzK := World.alloc_heap_new L12 (.cells #[.bool false, .slice none 0 0, .int .i64 0] 75)
          have hkK := hqd.size
          have hnLK : ¬(V2x1.heap.size = L12.heap.size) := by have := (Array.getElem?_eq_some_iff.1 hzL).1; omega
          replace hzL := blk1 hzL hba
          replace hqd := low_trans hqd hba
          replace hS0 := HKS.out _ hqd
          replace hv2d := Dy.Nm.keep hv2d hba
          generalize L12.alloc (.cells #[.bool false, .slice none 0 0, .int .i64 0] 75) = K15 at *
          refine anyT_l [10] (by kernel_rfl) (by decide) ⟨?_, trivial⟩
          refine opT_call hF1 (fun h => absurd h (by decide)) 10 23 (w := K15) rfl rfl (by kernel_rfl) (by rfl) (by go_simp; try with_reducible rfl; try decide) (callsIn_wide.2 (snumber_of K15 10000000 (by unfold Dy.I64; omega) (HT.out.keep (low_trans HB.out hqd)))) ?_
          rintro e9 V3x16 ⟨v3, rfl, hv3, hb3⟩
          replace hqd := low_trans hqd hb3
          replace hS0 := HKS.out V3x16 hqd
          replace hv2d := Dy.Nm.keep hv2d hb3
          replace hzL := blk1 hzL hb3
          replace hzK := blk1 hzK hb3
          obtain ⟨b3, q3, l3, c3, f3, m3, rfl, _, _⟩ := id (Dy.Nm.fields hv3)
          have hv3d := hv3
          refine ⟨_, rfl, hS0, ?_⟩
          simp only [List.setIfInBounds_toArray, List.set_cons_zero, List.set_cons_succ]
          have z0 := cell_h (k := 0) hzK rfl
          have z1 := cell_h (k := 1) hzK rfl
          have z2 := cell_h (k := 2) hzK rfl
          have zf : ∀ o, V3x16.frozen? ⟨L12.heap.size, o, none⟩ = false := fun o => by simp [World.frozen?, hzK]
          have hst := num_store (a := b2) (p := q2) (n := l2) (k := c2) (e := f2) hzK hv2d
          have hsb : Below W.heap.size W ((((V3x16).setCell ⟨L12.heap.size, 0, none⟩ (.bool b2)).setCell ⟨L12.heap.size, 1, none⟩ (.slice q2 l2 c2)).setCell ⟨L12.heap.size, 2, none⟩ (.int .i64 f2)) := Dy.below_set3 hqd hkK
          have hv3e := hv3d.set3 (i := 0) (j := 1) (k := 2) (a := b2) (p := q2) (n := l2) (c := c2) (e := f2) (num_nodig hzK)
          have hyL := (set3_blk (W := V3x16) (v0 := .bool b2) (v1 := .slice q2 l2 c2) (v2 := .int .i64 f2) (g := L12.heap.size) (b := V2x1.heap.size) (by omega)).trans hzL
          refine anyT_l [13] (by kernel_rfl) (by decide) ⟨?_, trivial⟩
          refine opT_skip hF1 13 (w2 := (((V3x16).setCell ⟨L12.heap.size, 0, none⟩ (.bool b2)).setCell ⟨L12.heap.size, 1, none⟩ (.slice q2 l2 c2)).setCell ⟨L12.heap.size, 2, none⟩ (.int .i64 f2)) rfl rfl (by kernel_rfl) rfl (by go_simp; try with_reducible rfl) (.inr (HKS.out _ hsb)) ?_
          clear z0 z1 z2 zf
          generalize (((V3x16).setCell ⟨L12.heap.size, 0, none⟩ (.bool b2)).setCell ⟨L12.heap.size, 1, none⟩ (.slice q2 l2 c2)).setCell ⟨L12.heap.size, 2, none⟩ (.int .i64 f2) = Y0z16 at *
          replace hqd := hsb
          replace hv3d := hv3e
          replace hzK := hst.1
          replace hv2d := hst.2
          clear hsb hst
          replace hzL := hyL
          clear hyL
          clear hv3e
          have z0 := cell_h (k := 0) hzL rfl
          have z1 := cell_h (k := 1) hzL rfl
          have z2 := cell_h (k := 2) hzL rfl
          have zf : ∀ o, Y0z16.frozen? ⟨V2x1.heap.size, o, none⟩ = false := fun o => by simp [World.frozen?, hzL]
          have hst := num_store (a := b3) (p := q3) (n := l3) (k := c3) (e := f3) hzL hv3d
          have hsb : Below W.heap.size W ((((Y0z16).setCell ⟨V2x1.heap.size, 0, none⟩ (.bool b3)).setCell ⟨V2x1.heap.size, 1, none⟩ (.slice q3 l3 c3)).setCell ⟨V2x1.heap.size, 2, none⟩ (.int .i64 f3)) := Dy.below_set3 hqd hkL
          have hv2e := hv2d.set3 (i := 0) (j := 1) (k := 2) (a := b3) (p := q3) (n := l3) (c := c3) (e := f3) (num_nodig hzL)
          have hyK := (set3_blk (W := Y0z16) (v0 := .bool b3) (v1 := .slice q3 l3 c3) (v2 := .int .i64 f3) (g := V2x1.heap.size) (b := L12.heap.size) (by omega)).trans hzK
          refine anyT_skipN hF1 (w2 := (((Y0z16).setCell ⟨V2x1.heap.size, 0, none⟩ (.bool b3)).setCell ⟨V2x1.heap.size, 1, none⟩ (.slice q3 l3 c3)).setCell ⟨V2x1.heap.size, 2, none⟩ (.int .i64 f3)) rfl rfl (by kernel_rfl) (by kernel_rfl) rfl (by go_simp; try with_reducible rfl) ?_
          refine anyT_done (by kernel_rfl) ?_ _
          clear z0 z1 z2 zf
          generalize (((Y0z16).setCell ⟨V2x1.heap.size, 0, none⟩ (.bool b3)).setCell ⟨V2x1.heap.size, 1, none⟩ (.slice q3 l3 c3)).setCell ⟨V2x1.heap.size, 2, none⟩ (.int .i64 f3) = Y1z16 at *
          replace hqd := hsb
          replace hv2d := hv2e
          replace hzL := hst.1
          replace hv3d := hst.2
          replace hzK := hyK
          go_wp2_with fail
          go_meet
          exact ⟨L12.heap.size, V2x1.heap.size, _, _, _, _, _, _, _, _, _, _, rfl, rfl, ⟨hkK, hkL⟩, hzK, hzL, hv2d, hv3d, hqd⟩
    · skip
      refine opT_val hF1 11 7 (w2 := Wd.alloc (.cells #[.bool false, .slice none 0 0, .int .i64 0] 75)) (v := .pointer (some ⟨Wd.heap.size, 0, none⟩)) rfl rfl (by kernel_rfl) rfl (by go_simp; try with_reducible rfl) (HKS.out _ (low_trans hqd ((Below.refl Wd.heap.size Wd).alloc (Nat.le_refl _) _))) ?_
      simp only [List.setIfInBounds_toArray, List.set_cons_zero, List.set_cons_succ]
      have hba := (Below.refl Wd.heap.size Wd).alloc (Nat.le_refl _) (.cells #[.bool false, .slice none 0 0, .int .i64 0] 75)
      have hzK := World.alloc_heap_new Wd (.cells #[.bool false, .slice none 0 0, .int .i64 0] 75)
      have hkK := hqd.size
      replace hqd := low_trans hqd hba
      replace hS0 := HKS.out _ hqd
      generalize Wd.alloc (.cells #[.bool false, .slice none 0 0, .int .i64 0] 75) = K17 at *
      refine anyT_l [4, 12] (by kernel_rfl) (by decide) ⟨?_, ?_, trivial⟩
      · skip
        refine opT_call hF1 (fun h => absurd h (by decide)) 4 17 (w := K17) rfl rfl (by kernel_rfl) (by rfl) (by go_simp; try with_reducible rfl; try decide) (callsIn_wide.2 (snumber_of K17 10000000 (by unfold Dy.I64; omega) (HT.out.keep (low_trans HB.out hqd)))) ?_
        rintro e9 V2x18 ⟨v2, rfl, hv2, hb2⟩
        replace hqd := low_trans hqd hb2
        replace hS0 := HKS.out V2x18 hqd
        replace hzK := blk1 hzK hb2
        obtain ⟨b2, q2, l2, c2, f2, m2, rfl, _, _⟩ := id (Dy.Nm.fields hv2)
        have hv2d := hv2
        refine ⟨_, rfl, hS0, ?_⟩
        simp only [List.setIfInBounds_toArray, List.set_cons_zero, List.set_cons_succ]
        refine anyT_l [10, 12] (by kernel_rfl) (by decide) ⟨?_, ?_, trivial⟩
        · skip
          refine opT_call hF1 (fun h => absurd h (by decide)) 10 23 (w := V2x18) rfl rfl (by kernel_rfl) (by rfl) (by go_simp; try with_reducible rfl; try decide) (callsIn_wide.2 (snumber_of V2x18 10000000 (by unfold Dy.I64; omega) (HT.out.keep (low_trans HB.out hqd)))) ?_
          rintro e9 V3x19 ⟨v3, rfl, hv3, hb3⟩
          replace hqd := low_trans hqd hb3
          replace hS0 := HKS.out V3x19 hqd
          replace hv2d := Dy.Nm.keep hv2d hb3
          replace hzK := blk1 hzK hb3
          obtain ⟨b3, q3, l3, c3, f3, m3, rfl, _, _⟩ := id (Dy.Nm.fields hv3)
          have hv3d := hv3
          refine ⟨_, rfl, hS0, ?_⟩
          simp only [List.setIfInBounds_toArray, List.set_cons_zero, List.set_cons_succ]
          refine anyT_l [12] (by kernel_rfl) (by decide) ⟨?_, trivial⟩
          refine opT_val hF1 12 8 (w2 := V3x19.alloc (.cells #[.bool false, .slice none 0 0, .int .i64 0] 75)) (v := .pointer (some ⟨V3x19.heap.size, 0, none⟩)) rfl rfl (by kernel_rfl) rfl (by go_simp; try with_reducible rfl) (HKS.out _ (low_trans hqd ((Below.refl V3x19.heap.size V3x19).alloc (Nat.le_refl _) _))) ?_
          simp only [List.setIfInBounds_toArray, List.set_cons_zero, List.set_cons_succ]
          have hba := (Below.refl V3x19.heap.size V3x19).alloc (Nat.le_refl _) (.cells #[.bool false, .slice none 0 0, .int .i64 0] 75)
          have hzL := World.alloc_heap_new V3x19 (.cells #[.bool false, .slice none 0 0, .int .i64 0] 75)
          have hkL := hqd.size
          have hnKL : ¬(Wd.heap.size = V3x19.heap.size) := by have := (Array.getElem?_eq_some_iff.1 hzK).1; omega
          replace hzK := blk1 hzK hba
          replace hqd := low_trans hqd hba
          replace hS0 := HKS.out _ hqd
          replace hv2d := Dy.Nm.keep hv2d hba
          replace hv3d := Dy.Nm.keep hv3d hba
          generalize V3x19.alloc (.cells #[.bool false, .slice none 0 0, .int .i64 0] 75) = L20 at *
          have z0 := cell_h (k := 0) hzK rfl
          have z1 := cell_h (k := 1) hzK rfl
          have z2 := cell_h (k := 2) hzK rfl
          have zf : ∀ o, L20.frozen? ⟨Wd.heap.size, o, none⟩ = false := fun o => by simp [World.frozen?, hzK]
          have hst := num_store (a := b2) (p := q2) (n := l2) (k := c2) (e := f2) hzK hv2d
          have hsb : Below W.heap.size W ((((L20).setCell ⟨Wd.heap.size, 0, none⟩ (.bool b2)).setCell ⟨Wd.heap.size, 1, none⟩ (.slice q2 l2 c2)).setCell ⟨Wd.heap.size, 2, none⟩ (.int .i64 f2)) := Dy.below_set3 hqd hkK
          have hv3e := hv3d.set3 (i := 0) (j := 1) (k := 2) (a := b2) (p := q2) (n := l2) (c := c2) (e := f2) (num_nodig hzK)
          have hyL := (set3_blk (W := L20) (v0 := .bool b2) (v1 := .slice q2 l2 c2) (v2 := .int .i64 f2) (g := Wd.heap.size) (b := V3x19.heap.size) (by omega)).trans hzL
          refine anyT_l [13] (by kernel_rfl) (by decide) ⟨?_, trivial⟩
          refine opT_skip hF1 13 (w2 := (((L20).setCell ⟨Wd.heap.size, 0, none⟩ (.bool b2)).setCell ⟨Wd.heap.size, 1, none⟩ (.slice q2 l2 c2)).setCell ⟨Wd.heap.size, 2, none⟩ (.int .i64 f2)) rfl rfl (by kernel_rfl) rfl (by go_simp; try with_reducible rfl) (.inr (HKS.out _ hsb)) ?_
          clear z0 z1 z2 zf
          generalize (((L20).setCell ⟨Wd.heap.size, 0, none⟩ (.bool b2)).setCell ⟨Wd.heap.size, 1, none⟩ (.slice q2 l2 c2)).setCell ⟨Wd.heap.size, 2, none⟩ (.int .i64 f2) = Y0z20 at *
          replace hqd := hsb
          replace hv3d := hv3e
          replace hzK := hst.1
          replace hv2d := hst.2
          clear hsb hst
          replace hzL := hyL
          clear hyL
          clear hv3e
          have z0 := cell_h (k := 0) hzL rfl
          have z1 := cell_h (k := 1) hzL rfl
          have z2 := cell_h (k := 2) hzL rfl
          have zf : ∀ o, Y0z20.frozen? ⟨V3x19.heap.size, o, none⟩ = false := fun o => by simp [World.frozen?, hzL]
          have hst := num_store (a := b3) (p := q3) (n := l3) (k := c3) (e := f3) hzL hv3d
          have hsb : Below W.heap.size W ((((Y0z20).setCell ⟨V3x19.heap.size, 0, none⟩ (.bool b3)).setCell ⟨V3x19.heap.size, 1, none⟩ (.slice q3 l3 c3)).setCell ⟨V3x19.heap.size, 2, none⟩ (.int .i64 f3)) := Dy.below_set3 hqd hkL
          have hv2e := hv2d.set3 (i := 0) (j := 1) (k := 2) (a := b3) (p := q3) (n := l3) (c := c3) (e := f3) (num_nodig hzL)
          have hyK := (set3_blk (W := Y0z20) (v0 := .bool b3) (v1 := .slice q3 l3 c3) (v2 := .int .i64 f3) (g := V3x19.heap.size) (b := Wd.heap.size) (by omega)).trans hzK
          refine anyT_skipN hF1 (w2 := (((Y0z20).setCell ⟨V3x19.heap.size, 0, none⟩ (.bool b3)).setCell ⟨V3x19.heap.size, 1, none⟩ (.slice q3 l3 c3)).setCell ⟨V3x19.heap.size, 2, none⟩ (.int .i64 f3)) rfl rfl (by kernel_rfl) (by kernel_rfl) rfl (by go_simp; try with_reducible rfl) ?_
          refine anyT_done (by kernel_rfl) ?_ _
          clear z0 z1 z2 zf
          generalize (((Y0z20).setCell ⟨V3x19.heap.size, 0, none⟩ (.bool b3)).setCell ⟨V3x19.heap.size, 1, none⟩ (.slice q3 l3 c3)).setCell ⟨V3x19.heap.size, 2, none⟩ (.int .i64 f3) = Y1z20 at *
          replace hqd := hsb
          replace hv2d := hv2e
          replace hzL := hst.1
          replace hv3d := hst.2
          replace hzK := hyK
          go_wp2_with fail
          go_meet
          exact ⟨Wd.heap.size, V3x19.heap.size, _, _, _, _, _, _, _, _, _, _, rfl, rfl, ⟨hkK, hkL⟩, hzK, hzL, hv2d, hv3d, hqd⟩
        · skip
          refine opT_val hF1 12 8 (w2 := V2x18.alloc (.cells #[.bool false, .slice none 0 0, .int .i64 0] 75)) (v := .pointer (some ⟨V2x18.heap.size, 0, none⟩)) rfl rfl (by kernel_rfl) rfl (by go_simp; try with_reducible rfl) (HKS.out _ (low_trans hqd ((Below.refl V2x18.heap.size V2x18).alloc (Nat.le_refl _) _))) ?_
          simp only [List.setIfInBounds_toArray, List.set_cons_zero, List.set_cons_succ]
          have hba := (Below.refl V2x18.heap.size V2x18).alloc (Nat.le_refl _) (.cells #[.bool false, .slice none 0 0, .int .i64 0] 75)
          have hzL := World.alloc_heap_new V2x18 (.cells #[.bool false, .slice none 0 0, .int .i64 0] 75)
          have hkL := hqd.size
          have hnKL : ¬(Wd.heap.size = V2x18.heap.size) := by have := (Array.getElem?_eq_some_iff.1 hzK).1; omega
          replace hzK := blk1 hzK hba
          replace hqd := low_trans hqd hba
          replace hS0 := HKS.out _ hqd
          replace hv2d := Dy.Nm.keep hv2d hba
          generalize V2x18.alloc (.cells #[.bool false, .slice none 0 0, .int .i64 0] 75) = L21 at *
          refine anyT_l [10] (by kernel_rfl) (by decide) ⟨?_, trivial⟩
          refine opT_call hF1 (fun h => absurd h (by decide)) 10 23 (w := L21) rfl rfl (by kernel_rfl) (by rfl) (by go_simp; try with_reducible rfl; try decide) (callsIn_wide.2 (snumber_of L21 10000000 (by unfold Dy.I64; omega) (HT.out.keep (low_trans HB.out hqd)))) ?_
          rintro e9 V3x22 ⟨v3, rfl, hv3, hb3⟩
          replace hqd := low_trans hqd hb3
          replace hS0 := HKS.out V3x22 hqd
          replace hv2d := Dy.Nm.keep hv2d hb3
          replace hzK := blk1 hzK hb3
          replace hzL := blk1 hzL hb3
          obtain ⟨b3, q3, l3, c3, f3, m3, rfl, _, _⟩ := id (Dy.Nm.fields hv3)
          have hv3d := hv3
          refine ⟨_, rfl, hS0, ?_⟩
          simp only [List.setIfInBounds_toArray, List.set_cons_zero, List.set_cons_succ]
          have z0 := cell_h (k := 0) hzK rfl
          have z1 := cell_h (k := 1) hzK rfl
          have z2 := cell_h (k := 2) hzK rfl
          have zf : ∀ o, V3x22.frozen? ⟨Wd.heap.size, o, none⟩ = false := fun o => by simp [World.frozen?, hzK]
          have hst := num_store (a := b2) (p := q2) (n := l2) (k := c2) (e := f2) hzK hv2d
          have hsb : Below W.heap.size W ((((V3x22).setCell ⟨Wd.heap.size, 0, none⟩ (.bool b2)).setCell ⟨Wd.heap.size, 1, none⟩ (.slice q2 l2 c2)).setCell ⟨Wd.heap.size, 2, none⟩ (.int .i64 f2)) := Dy.below_set3 hqd hkK
          have hv3e := hv3d.set3 (i := 0) (j := 1) (k := 2) (a := b2) (p := q2) (n := l2) (c := c2) (e := f2) (num_nodig hzK)
          have hyL := (set3_blk (W := V3x22) (v0 := .bool b2) (v1 := .slice q2 l2 c2) (v2 := .int .i64 f2) (g := Wd.heap.size) (b := V2x18.heap.size) (by omega)).trans hzL
          refine anyT_l [13] (by kernel_rfl) (by decide) ⟨?_, trivial⟩
          refine opT_skip hF1 13 (w2 := (((V3x22).setCell ⟨Wd.heap.size, 0, none⟩ (.bool b2)).setCell ⟨Wd.heap.size, 1, none⟩ (.slice q2 l2 c2)).setCell ⟨Wd.heap.size, 2, none⟩ (.int .i64 f2)) rfl rfl (by kernel_rfl) rfl (by go_simp; try with_reducible rfl) (.inr (HKS.out _ hsb)) ?_
          clear z0 z1 z2 zf
          generalize (((V3x22).setCell ⟨Wd.heap.size, 0, none⟩ (.bool b2)).setCell ⟨Wd.heap.size, 1, none⟩ (.slice q2 l2 c2)).setCell ⟨Wd.heap.size, 2, none⟩ (.int .i64 f2) = Y0z22 at *
          replace hqd := hsb
          replace hv3d := hv3e
          replace hzK := hst.1
          replace hv2d := hst.2
          clear hsb hst
          replace hzL := hyL
          clear hyL
          clear hv3e
          have z0 := cell_h (k := 0) hzL rfl
          have z1 := cell_h (k := 1) hzL rfl
          have z2 := cell_h (k := 2) hzL rfl
          have zf : ∀ o, Y0z22.frozen? ⟨V2x18.heap.size, o, none⟩ = false := fun o => by simp [World.frozen?, hzL]
          have hst := num_store (a := b3) (p := q3) (n := l3) (k := c3) (e := f3) hzL hv3d
          have hsb : Below W.heap.size W ((((Y0z22).setCell ⟨V2x18.heap.size, 0, none⟩ (.bool b3)).setCell ⟨V2x18.heap.size, 1, none⟩ (.slice q3 l3 c3)).setCell ⟨V2x18.heap.size, 2, none⟩ (.int .i64 f3)) := Dy.below_set3 hqd hkL
          have hv2e := hv2d.set3 (i := 0) (j := 1) (k := 2) (a := b3) (p := q3) (n := l3) (c := c3) (e := f3) (num_nodig hzL)
          have hyK := (set3_blk (W := Y0z22) (v0 := .bool b3) (v1 := .slice q3 l3 c3) (v2 := .int .i64 f3) (g := V2x18.heap.size) (b := Wd.heap.size) (by omega)).trans hzK
          refine anyT_skipN hF1 (w2 := (((Y0z22).setCell ⟨V2x18.heap.size, 0, none⟩ (.bool b3)).setCell ⟨V2x18.heap.size, 1, none⟩ (.slice q3 l3 c3)).setCell ⟨V2x18.heap.size, 2, none⟩ (.int .i64 f3)) rfl rfl (by kernel_rfl) (by kernel_rfl) rfl (by go_simp; try with_reducible rfl) ?_
          refine anyT_done (by kernel_rfl) ?_ _
          clear z0 z1 z2 zf
          generalize (((Y0z22).setCell ⟨V2x18.heap.size, 0, none⟩ (.bool b3)).setCell ⟨V2x18.heap.size, 1, none⟩ (.slice q3 l3 c3)).setCell ⟨V2x18.heap.size, 2, none⟩ (.int .i64 f3) = Y1z22 at *
          replace hqd := hsb
          replace hv2d := hv2e
          replace hzL := hst.1
          replace hv3d := hst.2
          replace hzK := hyK
          go_wp2_with fail
          go_meet
          exact ⟨Wd.heap.size, V2x18.heap.size, _, _, _, _, _, _, _, _, _, _, rfl, rfl, ⟨hkK, hkL⟩, hzK, hzL, hv2d, hv3d, hqd⟩
      · skip
        refine opT_val hF1 12 8 (w2 := K17.alloc (.cells #[.bool false, .slice none 0 0, .int .i64 0] 75)) (v := .pointer (some ⟨K17.heap.size, 0, none⟩)) rfl rfl (by kernel_rfl) rfl (by go_simp; try with_reducible rfl) (HKS.out _ (low_trans hqd ((Below.refl K17.heap.size K17).alloc (Nat.le_refl _) _))) ?_
        simp only [List.setIfInBounds_toArray, List.set_cons_zero, List.set_cons_succ]
        have hba := (Below.refl K17.heap.size K17).alloc (Nat.le_refl _) (.cells #[.bool false, .slice none 0 0, .int .i64 0] 75)
        have hzL := World.alloc_heap_new K17 (.cells #[.bool false, .slice none 0 0, .int .i64 0] 75)
        have hkL := hqd.size
        have hnKL : ¬(Wd.heap.size = K17.heap.size) := by have := (Array.getElem?_eq_some_iff.1 hzK).1; omega
        replace hzK := blk1 hzK hba
        replace hqd := low_trans hqd hba
        replace hS0 := HKS.out _ hqd
        generalize K17.alloc (.cells #[.bool false, .slice none 0 0, .int .i64 0] 75) = L23 at *
        refine anyT_l [4] (by kernel_rfl) (by decide) ⟨?_, trivial⟩
        refine opT_call hF1 (fun h => absurd h (by decide)) 4 17 (w := L23) rfl rfl (by kernel_rfl) (by rfl) (by go_simp; try with_reducible rfl; try decide) (callsIn_wide.2 (snumber_of L23 10000000 (by unfold Dy.I64; omega) (HT.out.keep (low_trans HB.out hqd)))) ?_
        rintro e9 V2x24 ⟨v2, rfl, hv2, hb2⟩
        replace hqd := low_trans hqd hb2
        replace hS0 := HKS.out V2x24 hqd
        replace hzK := blk1 hzK hb2
        replace hzL := blk1 hzL hb2
        obtain ⟨b2, q2, l2, c2, f2, m2, rfl, _, _⟩ := id (Dy.Nm.fields hv2)
        have hv2d := hv2
        refine ⟨_, rfl, hS0, ?_⟩
        simp only [List.setIfInBounds_toArray, List.set_cons_zero, List.set_cons_succ]
        refine anyT_l [10] (by kernel_rfl) (by decide) ⟨?_, trivial⟩
        refine opT_call hF1 (fun h => absurd h (by decide)) 10 23 (w := V2x24) rfl rfl (by kernel_rfl) (by rfl) (by go_simp; try with_reducible rfl; try decide) (callsIn_wide.2 (snumber_of V2x24 10000000 (by unfold Dy.I64; omega) (HT.out.keep (low_trans HB.out hqd)))) ?_
        rintro e9 V3x25 ⟨v3, rfl, hv3, hb3⟩
        replace hqd := low_trans hqd hb3
        replace hS0 := HKS.out V3x25 hqd
        replace hv2d := Dy.Nm.keep hv2d hb3
        replace hzK := blk1 hzK hb3
        replace hzL := blk1 hzL hb3
        obtain ⟨b3, q3, l3, c3, f3, m3, rfl, _, _⟩ := id (Dy.Nm.fields hv3)
        have hv3d := hv3
        refine ⟨_, rfl, hS0, ?_⟩
        simp only [List.setIfInBounds_toArray, List.set_cons_zero, List.set_cons_succ]
        have z0 := cell_h (k := 0) hzK rfl
        have z1 := cell_h (k := 1) hzK rfl
        have z2 := cell_h (k := 2) hzK rfl
        have zf : ∀ o, V3x25.frozen? ⟨Wd.heap.size, o, none⟩ = false := fun o => by simp [World.frozen?, hzK]
        have hst := num_store (a := b2) (p := q2) (n := l2) (k := c2) (e := f2) hzK hv2d
        have hsb : Below W.heap.size W ((((V3x25).setCell ⟨Wd.heap.size, 0, none⟩ (.bool b2)).setCell ⟨Wd.heap.size, 1, none⟩ (.slice q2 l2 c2)).setCell ⟨Wd.heap.size, 2, none⟩ (.int .i64 f2)) := Dy.below_set3 hqd hkK
        have hv3e := hv3d.set3 (i := 0) (j := 1) (k := 2) (a := b2) (p := q2) (n := l2) (c := c2) (e := f2) (num_nodig hzK)
        have hyL := (set3_blk (W := V3x25) (v0 := .bool b2) (v1 := .slice q2 l2 c2) (v2 := .int .i64 f2) (g := Wd.heap.size) (b := K17.heap.size) (by omega)).trans hzL
        refine anyT_l [13] (by kernel_rfl) (by decide) ⟨?_, trivial⟩
        refine opT_skip hF1 13 (w2 := (((V3x25).setCell ⟨Wd.heap.size, 0, none⟩ (.bool b2)).setCell ⟨Wd.heap.size, 1, none⟩ (.slice q2 l2 c2)).setCell ⟨Wd.heap.size, 2, none⟩ (.int .i64 f2)) rfl rfl (by kernel_rfl) rfl (by go_simp; try with_reducible rfl) (.inr (HKS.out _ hsb)) ?_
        clear z0 z1 z2 zf
        generalize (((V3x25).setCell ⟨Wd.heap.size, 0, none⟩ (.bool b2)).setCell ⟨Wd.heap.size, 1, none⟩ (.slice q2 l2 c2)).setCell ⟨Wd.heap.size, 2, none⟩ (.int .i64 f2) = Y0z25 at *
        replace hqd := hsb
        replace hv3d := hv3e
        replace hzK := hst.1
        replace hv2d := hst.2
        clear hsb hst
        replace hzL := hyL
        clear hyL
        clear hv3e
        have z0 := cell_h (k := 0) hzL rfl
        have z1 := cell_h (k := 1) hzL rfl
        have z2 := cell_h (k := 2) hzL rfl
        have zf : ∀ o, Y0z25.frozen? ⟨K17.heap.size, o, none⟩ = false := fun o => by simp [World.frozen?, hzL]
        have hst := num_store (a := b3) (p := q3) (n := l3) (k := c3) (e := f3) hzL hv3d
        have hsb : Below W.heap.size W ((((Y0z25).setCell ⟨K17.heap.size, 0, none⟩ (.bool b3)).setCell ⟨K17.heap.size, 1, none⟩ (.slice q3 l3 c3)).setCell ⟨K17.heap.size, 2, none⟩ (.int .i64 f3)) := Dy.below_set3 hqd hkL
        have hv2e := hv2d.set3 (i := 0) (j := 1) (k := 2) (a := b3) (p := q3) (n := l3) (c := c3) (e := f3) (num_nodig hzL)
        have hyK := (set3_blk (W := Y0z25) (v0 := .bool b3) (v1 := .slice q3 l3 c3) (v2 := .int .i64 f3) (g := K17.heap.size) (b := Wd.heap.size) (by omega)).trans hzK
        refine anyT_skipN hF1 (w2 := (((Y0z25).setCell ⟨K17.heap.size, 0, none⟩ (.bool b3)).setCell ⟨K17.heap.size, 1, none⟩ (.slice q3 l3 c3)).setCell ⟨K17.heap.size, 2, none⟩ (.int .i64 f3)) rfl rfl (by kernel_rfl) (by kernel_rfl) rfl (by go_simp; try with_reducible rfl) ?_
        refine anyT_done (by kernel_rfl) ?_ _
        clear z0 z1 z2 zf
        generalize (((Y0z25).setCell ⟨K17.heap.size, 0, none⟩ (.bool b3)).setCell ⟨K17.heap.size, 1, none⟩ (.slice q3 l3 c3)).setCell ⟨K17.heap.size, 2, none⟩ (.int .i64 f3) = Y1z25 at *
        replace hqd := hsb
        replace hv2d := hv2e
        replace hzL := hst.1
        replace hv3d := hst.2
        replace hzK := hyK
        go_wp2_with fail
        go_meet
        exact ⟨Wd.heap.size, K17.heap.size, _, _, _, _, _, _, _, _, _, _, rfl, rfl, ⟨hkK, hkL⟩, hzK, hzL, hv2d, hv3d, hqd⟩
    · skip
      refine opT_val hF1 12 8 (w2 := Wd.alloc (.cells #[.bool false, .slice none 0 0, .int .i64 0] 75)) (v := .pointer (some ⟨Wd.heap.size, 0, none⟩)) rfl rfl (by kernel_rfl) rfl (by go_simp; try with_reducible rfl) (HKS.out _ (low_trans hqd ((Below.refl Wd.heap.size Wd).alloc (Nat.le_refl _) _))) ?_
      simp only [List.setIfInBounds_toArray, List.set_cons_zero, List.set_cons_succ]
      have hba := (Below.refl Wd.heap.size Wd).alloc (Nat.le_refl _) (.cells #[.bool false, .slice none 0 0, .int .i64 0] 75)
      have hzL := World.alloc_heap_new Wd (.cells #[.bool false, .slice none 0 0, .int .i64 0] 75)
      have hkL := hqd.size
      replace hqd := low_trans hqd hba
      replace hS0 := HKS.out _ hqd
      generalize Wd.alloc (.cells #[.bool false, .slice none 0 0, .int .i64 0] 75) = L26 at *
      refine anyT_l [4, 11] (by kernel_rfl) (by decide) ⟨?_, ?_, trivial⟩
      · skip
        refine opT_call hF1 (fun h => absurd h (by decide)) 4 17 (w := L26) rfl rfl (by kernel_rfl) (by rfl) (by go_simp; try with_reducible rfl; try decide) (callsIn_wide.2 (snumber_of L26 10000000 (by unfold Dy.I64; omega) (HT.out.keep (low_trans HB.out hqd)))) ?_
        rintro e9 V2x27 ⟨v2, rfl, hv2, hb2⟩
        replace hqd := low_trans hqd hb2
        replace hS0 := HKS.out V2x27 hqd
        replace hzL := blk1 hzL hb2
        obtain ⟨b2, q2, l2, c2, f2, m2, rfl, _, _⟩ := id (Dy.Nm.fields hv2)
        have hv2d := hv2
        refine ⟨_, rfl, hS0, ?_⟩
        simp only [List.setIfInBounds_toArray, List.set_cons_zero, List.set_cons_succ]
        refine anyT_l [10, 11] (by kernel_rfl) (by decide) ⟨?_, ?_, trivial⟩
        · skip
          refine opT_call hF1 (fun h => absurd h (by decide)) 10 23 (w := V2x27) rfl rfl (by kernel_rfl) (by rfl) (by go_simp; try with_reducible rfl; try decide) (callsIn_wide.2 (snumber_of V2x27 10000000 (by unfold Dy.I64; omega) (HT.out.keep (low_trans HB.out hqd)))) ?_
          rintro e9 V3x28 ⟨v3, rfl, hv3, hb3⟩
          replace hqd := low_trans hqd hb3
          replace hS0 := HKS.out V3x28 hqd
          replace hv2d := Dy.Nm.keep hv2d hb3
          replace hzL := blk1 hzL hb3
          obtain ⟨b3, q3, l3, c3, f3, m3, rfl, _, _⟩ := id (Dy.Nm.fields hv3)
          have hv3d := hv3
          refine ⟨_, rfl, hS0, ?_⟩
          simp only [List.setIfInBounds_toArray, List.set_cons_zero, List.set_cons_succ]
          refine anyT_l [11] (by kernel_rfl) (by decide) ⟨?_, trivial⟩
          refine opT_val hF1 11 7 (w2 := V3x28.alloc (.cells #[.bool false, .slice none 0 0, .int .i64 0] 75)) (v := .pointer (some ⟨V3x28.heap.size, 0, none⟩)) rfl rfl (by kernel_rfl) rfl (by go_simp; try with_reducible rfl) (HKS.out _ (low_trans hqd ((Below.refl V3x28.heap.size V3x28).alloc (Nat.le_refl _) _))) ?_
          simp only [List.setIfInBounds_toArray, List.set_cons_zero, List.set_cons_succ]
          have hba := (Below.refl V3x28.heap.size V3x28).alloc (Nat.le_refl _) (.cells #[.bool false, .slice none 0 0, .int .i64 0] 75)
          have hzK := World.alloc_heap_new V3x28 (.cells #[.bool false, .slice none 0 0, .int .i64 0] 75)
          have hkK := hqd.size
          have hnLK : ¬(Wd.heap.size = V3x28.heap.size) := by have := (Array.getElem?_eq_some_iff.1 hzL).1; omega
          replace hzL := blk1 hzL hba
          replace hqd := low_trans hqd hba
          replace hS0 := HKS.out _ hqd
          replace hv2d := Dy.Nm.keep hv2d hba
          replace hv3d := Dy.Nm.keep hv3d hba
          generalize V3x28.alloc (.cells #[.bool false, .slice none 0 0, .int .i64 0] 75) = K29 at *
          have z0 := cell_h (k := 0) hzK rfl
          have z1 := cell_h (k := 1) hzK rfl
          have z2 := cell_h (k := 2) hzK rfl
          have zf : ∀ o, K29.frozen? ⟨V3x28.heap.size, o, none⟩ = false := fun o => by simp [World.frozen?, hzK]
          have hst := num_store (a := b2) (p := q2) (n := l2) (k := c2) (e := f2) hzK hv2d
          have hsb : Below W.heap.size W ((((K29).setCell ⟨V3x28.heap.size, 0, none⟩ (.bool b2)).setCell ⟨V3x28.heap.size, 1, none⟩ (.slice q2 l2 c2)).setCell ⟨V3x28.heap.size, 2, none⟩ (.int .i64 f2)) := Dy.below_set3 hqd hkK
          have hv3e := hv3d.set3 (i := 0) (j := 1) (k := 2) (a := b2) (p := q2) (n := l2) (c := c2) (e := f2) (num_nodig hzK)
          have hyL := (set3_blk (W := K29) (v0 := .bool b2) (v1 := .slice q2 l2 c2) (v2 := .int .i64 f2) (g := V3x28.heap.size) (b := Wd.heap.size) (by omega)).trans hzL
          refine anyT_l [13] (by kernel_rfl) (by decide) ⟨?_, trivial⟩
          refine opT_skip hF1 13 (w2 := (((K29).setCell ⟨V3x28.heap.size, 0, none⟩ (.bool b2)).setCell ⟨V3x28.heap.size, 1, none⟩ (.slice q2 l2 c2)).setCell ⟨V3x28.heap.size, 2, none⟩ (.int .i64 f2)) rfl rfl (by kernel_rfl) rfl (by go_simp; try with_reducible rfl) (.inr (HKS.out _ hsb)) ?_
          clear z0 z1 z2 zf
          generalize (((K29).setCell ⟨V3x28.heap.size, 0, none⟩ (.bool b2)).setCell ⟨V3x28.heap.size, 1, none⟩ (.slice q2 l2 c2)).setCell ⟨V3x28.heap.size, 2, none⟩ (.int .i64 f2) = Y0z29 at *
          replace hqd := hsb
          replace hv3d := hv3e
          replace hzK := hst.1
          replace hv2d := hst.2
          clear hsb hst
          replace hzL := hyL
          clear hyL
          clear hv3e
          have z0 := cell_h (k := 0) hzL rfl
          have z1 := cell_h (k := 1) hzL rfl
          have z2 := cell_h (k := 2) hzL rfl
          have zf : ∀ o, Y0z29.frozen? ⟨Wd.heap.size, o, none⟩ = false := fun o => by simp [World.frozen?, hzL]
          have hst := num_store (a := b3) (p := q3) (n := l3) (k := c3) (e := f3) hzL hv3d
          have hsb : Below W.heap.size W ((((Y0z29).setCell ⟨Wd.heap.size, 0, none⟩ (.bool b3)).setCell ⟨Wd.heap.size, 1, none⟩ (.slice q3 l3 c3)).setCell ⟨Wd.heap.size, 2, none⟩ (.int .i64 f3)) := Dy.below_set3 hqd hkL
          have hv2e := hv2d.set3 (i := 0) (j := 1) (k := 2) (a := b3) (p := q3) (n := l3) (c := c3) (e := f3) (num_nodig hzL)
          have hyK := (set3_blk (W := Y0z29) (v0 := .bool b3) (v1 := .slice q3 l3 c3) (v2 := .int .i64 f3) (g := Wd.heap.size) (b := V3x28.heap.size) (by omega)).trans hzK
          refine anyT_skipN hF1 (w2 := (((Y0z29).setCell ⟨Wd.heap.size, 0, none⟩ (.bool b3)).setCell ⟨Wd.heap.size, 1, none⟩ (.slice q3 l3 c3)).setCell ⟨Wd.heap.size, 2, none⟩ (.int .i64 f3)) rfl rfl (by kernel_rfl) (by kernel_rfl) rfl (by go_simp; try with_reducible rfl) ?_
          refine anyT_done (by kernel_rfl) ?_ _
          clear z0 z1 z2 zf
          generalize (((Y0z29).setCell ⟨Wd.heap.size, 0, none⟩ (.bool b3)).setCell ⟨Wd.heap.size, 1, none⟩ (.slice q3 l3 c3)).setCell ⟨Wd.heap.size, 2, none⟩ (.int .i64 f3) = Y1z29 at *
          replace hqd := hsb
          replace hv2d := hv2e
          replace hzL := hst.1
          replace hv3d := hst.2
          replace hzK := hyK
          go_wp2_with fail
          go_meet
          exact ⟨V3x28.heap.size, Wd.heap.size, _, _, _, _, _, _, _, _, _, _, rfl, rfl, ⟨hkK, hkL⟩, hzK, hzL, hv2d, hv3d, hqd⟩
        · skip
          refine opT_val hF1 11 7 (w2 := V2x27.alloc (.cells #[.bool false, .slice none 0 0, .int .i64 0] 75)) (v := .pointer (some ⟨V2x27.heap.size, 0, none⟩)) rfl rfl (by kernel_rfl) rfl (by go_simp; try with_reducible rfl) (HKS.out _ (low_trans hqd ((Below.refl V2x27.heap.size V2x27).alloc (Nat.le_refl _) _))) ?_
          simp only [List.setIfInBounds_toArray, List.set_cons_zero, List.set_cons_succ]
          have hba := (Below.refl V2x27.heap.size V2x27).alloc (Nat.le_refl _) (.cells #[.bool false, .slice none 0 0, .int .i64 0] 75)
          have hzK := World.alloc_heap_new V2x27 (.cells #[.bool false, .slice none 0 0, .int .i64 0] 75)
          have hkK := hqd.size
          have hnLK : ¬(Wd.heap.size = V2x27.heap.size) := by have := (Array.getElem?_eq_some_iff.1 hzL).1; omega
          replace hzL := blk1 hzL hba
          replace hqd := low_trans hqd hba
          replace hS0 := HKS.out _ hqd
          replace hv2d := Dy.Nm.keep hv2d hba
          generalize V2x27.alloc (.cells #[.bool false, .slice none 0 0, .int .i64 0] 75) = K30 at *
          refine anyT_l [10] (by kernel_rfl) (by decide) ⟨?_, trivial⟩
          refine opT_call hF1 (fun h => absurd h (by decide)) 10 23 (w := K30) rfl rfl (by kernel_rfl) (by rfl) (by go_simp; try with_reducible rfl; try decide) (callsIn_wide.2 (snumber_of K30 10000000 (by unfold Dy.I64; omega) (HT.out.keep (low_trans HB.out hqd)))) ?_
          rintro e9 V3x31 ⟨v3, rfl, hv3, hb3⟩
          replace hqd := low_trans hqd hb3
          replace hS0 := HKS.out V3x31 hqd
          replace hv2d := Dy.Nm.keep hv2d hb3
          replace hzL := blk1 hzL hb3
          replace hzK := blk1 hzK hb3
          obtain ⟨b3, q3, l3, c3, f3, m3, rfl, _, _⟩ := id (Dy.Nm.fields hv3)
          have hv3d := hv3
          refine ⟨_, rfl, hS0, ?_⟩
          simp only [List.setIfInBounds_toArray, List.set_cons_zero, List.set_cons_succ]
          have z0 := cell_h (k := 0) hzK rfl
          have z1 := cell_h (k := 1) hzK rfl
          have z2 := cell_h (k := 2) hzK rfl
          have zf : ∀ o, V3x31.frozen? ⟨V2x27.heap.size, o, none⟩ = false := fun o => by simp [World.frozen?, hzK]
          have hst := num_store (a := b2) (p := q2) (n := l2) (k := c2) (e := f2) hzK hv2d
          have hsb : Below W.heap.size W ((((V3x31).setCell ⟨V2x27.heap.size, 0, none⟩ (.bool b2)).setCell ⟨V2x27.heap.size, 1, none⟩ (.slice q2 l2 c2)).setCell ⟨V2x27.heap.size, 2, none⟩ (.int .i64 f2)) := Dy.below_set3 hqd hkK
          have hv3e := hv3d.set3 (i := 0) (j := 1) (k := 2) (a := b2) (p := q2) (n := l2) (c := c2) (e := f2) (num_nodig hzK)
          have hyL := (set3_blk (W := V3x31) (v0 := .bool b2) (v1 := .slice q2 l2 c2) (v2 := .int .i64 f2) (g := V2x27.heap.size) (b := Wd.heap.size) (by omega)).trans hzL
          refine anyT_l [13] (by kernel_rfl) (by decide) ⟨?_, trivial⟩
          refine opT_skip hF1 13 (w2 := (((V3x31).setCell ⟨V2x27.heap.size, 0, none⟩ (.bool b2)).setCell ⟨V2x27.heap.size, 1, none⟩ (.slice q2 l2 c2)).setCell ⟨V2x27.heap.size, 2, none⟩ (.int .i64 f2)) rfl rfl (by kernel_rfl) rfl (by go_simp; try with_reducible rfl) (.inr (HKS.out _ hsb)) ?_
          clear z0 z1 z2 zf
          generalize (((V3x31).setCell ⟨V2x27.heap.size, 0, none⟩ (.bool b2)).setCell ⟨V2x27.heap.size, 1, none⟩ (.slice q2 l2 c2)).setCell ⟨V2x27.heap.size, 2, none⟩ (.int .i64 f2) = Y0z31 at *
          replace hqd := hsb
          replace hv3d := hv3e
          replace hzK := hst.1
          replace hv2d := hst.2
          clear hsb hst
          replace hzL := hyL
          clear hyL
          clear hv3e
          have z0 := cell_h (k := 0) hzL rfl
          have z1 := cell_h (k := 1) hzL rfl
          have z2 := cell_h (k := 2) hzL rfl
          have zf : ∀ o, Y0z31.frozen? ⟨Wd.heap.size, o, none⟩ = false := fun o => by simp [World.frozen?, hzL]
          have hst := num_store (a := b3) (p := q3) (n := l3) (k := c3) (e := f3) hzL hv3d
          have hsb : Below W.heap.size W ((((Y0z31).setCell ⟨Wd.heap.size, 0, none⟩ (.bool b3)).setCell ⟨Wd.heap.size, 1, none⟩ (.slice q3 l3 c3)).setCell ⟨Wd.heap.size, 2, none⟩ (.int .i64 f3)) := Dy.below_set3 hqd hkL
          have hv2e := hv2d.set3 (i := 0) (j := 1) (k := 2) (a := b3) (p := q3) (n := l3) (c := c3) (e := f3) (num_nodig hzL)
          have hyK := (set3_blk (W := Y0z31) (v0 := .bool b3) (v1 := .slice q3 l3 c3) (v2 := .int .i64 f3) (g := Wd.heap.size) (b := V2x27.heap.size) (by omega)).trans hzK
          refine anyT_skipN hF1 (w2 := (((Y0z31).setCell ⟨Wd.heap.size, 0, none⟩ (.bool b3)).setCell ⟨Wd.heap.size, 1, none⟩ (.slice q3 l3 c3)).setCell ⟨Wd.heap.size, 2, none⟩ (.int .i64 f3)) rfl rfl (by kernel_rfl) (by kernel_rfl) rfl (by go_simp; try with_reducible rfl) ?_
          refine anyT_done (by kernel_rfl) ?_ _
          clear z0 z1 z2 zf
          generalize (((Y0z31).setCell ⟨Wd.heap.size, 0, none⟩ (.bool b3)).setCell ⟨Wd.heap.size, 1, none⟩ (.slice q3 l3 c3)).setCell ⟨Wd.heap.size, 2, none⟩ (.int .i64 f3) = Y1z31 at *
          replace hqd := hsb
          replace hv2d := hv2e
          replace hzL := hst.1
          replace hv3d := hst.2
          replace hzK := hyK
          go_wp2_with fail
          go_meet
          exact ⟨V2x27.heap.size, Wd.heap.size, _, _, _, _, _, _, _, _, _, _, rfl, rfl, ⟨hkK, hkL⟩, hzK, hzL, hv2d, hv3d, hqd⟩
      · skip
        refine opT_val hF1 11 7 (w2 := L26.alloc (.cells #[.bool false, .slice none 0 0, .int .i64 0] 75)) (v := .pointer (some ⟨L26.heap.size, 0, none⟩)) rfl rfl (by kernel_rfl) rfl (by go_simp; try with_reducible rfl) (HKS.out _ (low_trans hqd ((Below.refl L26.heap.size L26).alloc (Nat.le_refl _) _))) ?_
        simp only [List.setIfInBounds_toArray, List.set_cons_zero, List.set_cons_succ]
        have hba := (Below.refl L26.heap.size L26).alloc (Nat.le_refl _) (.cells #[.bool false, .slice none 0 0, .int .i64 0] 75)
        have hzK := World.alloc_heap_new L26 (.cells #[.bool false, .slice none 0 0, .int .i64 0] 75)
        have hkK := hqd.size
        have hnLK : ¬(Wd.heap.size = L26.heap.size) := by have := (Array.getElem?_eq_some_iff.1 hzL).1; omega
        replace hzL := blk1 hzL hba
        replace hqd := low_trans hqd hba
        replace hS0 := HKS.out _ hqd
        generalize L26.alloc (.cells #[.bool false, .slice none 0 0, .int .i64 0] 75) = K32 at *
        refine anyT_l [4] (by kernel_rfl) (by decide) ⟨?_, trivial⟩
        refine opT_call hF1 (fun h => absurd h (by decide)) 4 17 (w := K32) rfl rfl (by kernel_rfl) (by rfl) (by go_simp; try with_reducible rfl; try decide) (callsIn_wide.2 (snumber_of K32 10000000 (by unfold Dy.I64; omega) (HT.out.keep (low_trans HB.out hqd)))) ?_
        rintro e9 V2x33 ⟨v2, rfl, hv2, hb2⟩
        replace hqd := low_trans hqd hb2
        replace hS0 := HKS.out V2x33 hqd
        replace hzL := blk1 hzL hb2
        replace hzK := blk1 hzK hb2
        obtain ⟨b2, q2, l2, c2, f2, m2, rfl, _, _⟩ := id (Dy.Nm.fields hv2)
        have hv2d := hv2
        refine ⟨_, rfl, hS0, ?_⟩
        simp only [List.setIfInBounds_toArray, List.set_cons_zero, List.set_cons_succ]
        refine anyT_l [10] (by kernel_rfl) (by decide) ⟨?_, trivial⟩
        refine opT_call hF1 (fun h => absurd h (by decide)) 10 23 (w := V2x33) rfl rfl (by kernel_rfl) (by rfl) (by go_simp; try with_reducible rfl; try decide) (callsIn_wide.2 (snumber_of V2x33 10000000 (by unfold Dy.I64; omega) (HT.out.keep (low_trans HB.out hqd)))) ?_
        rintro e9 V3x34 ⟨v3, rfl, hv3, hb3⟩
        replace hqd := low_trans hqd hb3
        replace hS0 := HKS.out V3x34 hqd
        replace hv2d := Dy.Nm.keep hv2d hb3
        replace hzL := blk1 hzL hb3
        replace hzK := blk1 hzK hb3
        obtain ⟨b3, q3, l3, c3, f3, m3, rfl, _, _⟩ := id (Dy.Nm.fields hv3)
        have hv3d := hv3
        refine ⟨_, rfl, hS0, ?_⟩
        simp only [List.setIfInBounds_toArray, List.set_cons_zero, List.set_cons_succ]
        have z0 := cell_h (k := 0) hzK rfl
        have z1 := cell_h (k := 1) hzK rfl
        have z2 := cell_h (k := 2) hzK rfl
        have zf : ∀ o, V3x34.frozen? ⟨L26.heap.size, o, none⟩ = false := fun o => by simp [World.frozen?, hzK]
        have hst := num_store (a := b2) (p := q2) (n := l2) (k := c2) (e := f2) hzK hv2d
        have hsb : Below W.heap.size W ((((V3x34).setCell ⟨L26.heap.size, 0, none⟩ (.bool b2)).setCell ⟨L26.heap.size, 1, none⟩ (.slice q2 l2 c2)).setCell ⟨L26.heap.size, 2, none⟩ (.int .i64 f2)) := Dy.below_set3 hqd hkK
        have hv3e := hv3d.set3 (i := 0) (j := 1) (k := 2) (a := b2) (p := q2) (n := l2) (c := c2) (e := f2) (num_nodig hzK)
        have hyL := (set3_blk (W := V3x34) (v0 := .bool b2) (v1 := .slice q2 l2 c2) (v2 := .int .i64 f2) (g := L26.heap.size) (b := Wd.heap.size) (by omega)).trans hzL
        refine anyT_l [13] (by kernel_rfl) (by decide) ⟨?_, trivial⟩
        refine opT_skip hF1 13 (w2 := (((V3x34).setCell ⟨L26.heap.size, 0, none⟩ (.bool b2)).setCell ⟨L26.heap.size, 1, none⟩ (.slice q2 l2 c2)).setCell ⟨L26.heap.size, 2, none⟩ (.int .i64 f2)) rfl rfl (by kernel_rfl) rfl (by go_simp; try with_reducible rfl) (.inr (HKS.out _ hsb)) ?_
        clear z0 z1 z2 zf
        generalize (((V3x34).setCell ⟨L26.heap.size, 0, none⟩ (.bool b2)).setCell ⟨L26.heap.size, 1, none⟩ (.slice q2 l2 c2)).setCell ⟨L26.heap.size, 2, none⟩ (.int .i64 f2) = Y0z34 at *
        replace hqd := hsb
        replace hv3d := hv3e
        replace hzK := hst.1
        replace hv2d := hst.2
        clear hsb hst
        replace hzL := hyL
        clear hyL
        clear hv3e
        have z0 := cell_h (k := 0) hzL rfl
        have z1 := cell_h (k := 1) hzL rfl
        have z2 := cell_h (k := 2) hzL rfl
        have zf : ∀ o, Y0z34.frozen? ⟨Wd.heap.size, o, none⟩ = false := fun o => by simp [World.frozen?, hzL]
        have hst := num_store (a := b3) (p := q3) (n := l3) (k := c3) (e := f3) hzL hv3d
        have hsb : Below W.heap.size W ((((Y0z34).setCell ⟨Wd.heap.size, 0, none⟩ (.bool b3)).setCell ⟨Wd.heap.size, 1, none⟩ (.slice q3 l3 c3)).setCell ⟨Wd.heap.size, 2, none⟩ (.int .i64 f3)) := Dy.below_set3 hqd hkL
        have hv2e := hv2d.set3 (i := 0) (j := 1) (k := 2) (a := b3) (p := q3) (n := l3) (c := c3) (e := f3) (num_nodig hzL)
        have hyK := (set3_blk (W := Y0z34) (v0 := .bool b3) (v1 := .slice q3 l3 c3) (v2 := .int .i64 f3) (g := Wd.heap.size) (b := L26.heap.size) (by omega)).trans hzK
        refine anyT_skipN hF1 (w2 := (((Y0z34).setCell ⟨Wd.heap.size, 0, none⟩ (.bool b3)).setCell ⟨Wd.heap.size, 1, none⟩ (.slice q3 l3 c3)).setCell ⟨Wd.heap.size, 2, none⟩ (.int .i64 f3)) rfl rfl (by kernel_rfl) (by kernel_rfl) rfl (by go_simp; try with_reducible rfl) ?_
        refine anyT_done (by kernel_rfl) ?_ _
        clear z0 z1 z2 zf
        generalize (((Y0z34).setCell ⟨Wd.heap.size, 0, none⟩ (.bool b3)).setCell ⟨Wd.heap.size, 1, none⟩ (.slice q3 l3 c3)).setCell ⟨Wd.heap.size, 2, none⟩ (.int .i64 f3) = Y1z34 at *
        replace hqd := hsb
        replace hv2d := hv2e
        replace hzL := hst.1
        replace hv3d := hst.2
        replace hzK := hyK
        go_wp2_with fail
        go_meet
        exact ⟨L26.heap.size, Wd.heap.size, _, _, _, _, _, _, _, _, _, _, rfl, rfl, ⟨hkK, hkL⟩, hzK, hzL, hv2d, hv3d, hqd⟩
  case rest =>
    obtain ⟨K1, K2, b2, q2, l2, c2, f2, b3, q3, l3, c3, f3, rfl, rfl, ⟨hk1, hk2⟩, hK1, hK2, hN1, hN2, hBw⟩ := hcut
    have HBx := Lib.hid (low_trans HB.out hBw)
    have HR1 := Lib.hid (blk1 HR.out hBw)
    have HK1 := Lib.hid hK1
    have HK2 := Lib.hid hK2
    have HN1 := Lib.hid hN1
    have HN2 := Lib.hid hN2
    have HK0 : Hid (w.heap.size + 1 < K1 ∧ w.heap.size + 1 < K2) := by have := (Array.getElem?_eq_some_iff.1 HR.out).1; exact Lib.hid ⟨by omega, by omega⟩
    clear hK1 hK2 hBw hk1 hk2 HKS HP HR HB
    have hKP : ∀ V, Below wc.heap.size wc V → V.cell? ⟨K1, 0, none⟩ = some (.bool b2) ∧ V.cell? ⟨K1, 1, none⟩ = some (.slice q2 l2 c2) ∧ V.cell? ⟨K1, 2, none⟩ = some (.int .i64 f2) ∧ V.cell? ⟨K2, 0, none⟩ = some (.bool b3) ∧ V.cell? ⟨K2, 1, none⟩ = some (.slice q3 l3 c3) ∧ V.cell? ⟨K2, 2, none⟩ = some (.int .i64 f3) := fun V hV => ⟨cell_h (blk1 HK1.out hV) rfl, cell_h (blk1 HK1.out hV) rfl, cell_h (blk1 HK1.out hV) rfl, cell_h (blk1 HK2.out hV) rfl, cell_h (blk1 HK2.out hV) rfl, cell_h (blk1 HK2.out hV) rfl⟩
    have hd0 : Below wc.heap.size wc wc := Below.refl _ _
    have hd1 : Below wc.heap.size wc wc.drew := hd0.drew
    have hS0 := hKP wc hd0
    have hS1 := hKP wc.drew hd1
    obtain ⟨x0, x1, x2, x3, x4, x5⟩ := id hS0
    have HTv : Hid (∀ V, Below wc.heap.size wc V → Dy.Tab V) := fun V hV => HT.out.keep (low_trans HBx.out hV)
    go_upto_region 2 with fail
    go_region_held3 (fun W2 => W2.cell? ⟨K1, 0, none⟩ = some (.bool b2) ∧ W2.cell? ⟨K1, 1, none⟩ = some (.slice q2 l2 c2) ∧ W2.cell? ⟨K1, 2, none⟩ = some (.int .i64 f2) ∧ W2.cell? ⟨K2, 0, none⟩ = some (.bool b3) ∧ W2.cell? ⟨K2, 1, none⟩ = some (.slice q3 l3 c3) ∧ W2.cell? ⟨K2, 2, none⟩ = some (.int .i64 f3))
      (first | (with_reducible assumption) | (exact hKP _ (by assumption)))
      (first
        | (go_at_call 66; refine (snumber_of _ 50 (by unfold Dy.I64; omega) (HTv.out _ (by first | assumption | exact Below.drew (by assumption)))).mono ?_; rintro e9 V4 ⟨v4, rfl, hv4, hb4⟩; (have hd4 := low_trans (w := wc) (by first | assumption | exact Below.drew (by assumption)) hb4); (have hS4 := hKP V4 hd4); (have hNa4 := Dy.Nm.keep hN1 hd4); (have hNb4 := Dy.Nm.keep hN2 hd4); (obtain ⟨b4, q4, l4, c4, f4, m4, rfl, _, _⟩ := id (Dy.Nm.fields hv4)))
        | (go_at_call 98; refine (imul V4 _ _ 10000000 50 500000000 hNb4 hv4 (by decide) (by decide) (by decide) (HTv.out V4 hd4)).mono ?_; rintro e9 V5 ⟨v5, rfl, hv5, hb5⟩; (have hd5 := low_trans (w := wc) hd4 hb5); (have hS5 := hKP V5 hd5); (have hNa5 := Dy.Nm.keep hN1 hd5); (obtain ⟨b5, q5, l5, c5, f5, m5, rfl, _, _⟩ := id (Dy.Nm.fields hv5)))
        | (go_at_call 26; refine (icmp_lt V5 _ _ 10000000 500000000 hNa5 hv5 (by decide) (by decide) (by decide) (HTv.out V5 hd5)).mono ?_; rintro e9 V6 ⟨⟨s1, hs1, rfl⟩, hb6⟩; (have hd6 := low_trans (w := wc) hd5 hb6); (have hS6 := hKP V6 hd6); (have hc1 : decide (s1 > 0) = false := by rw [decide_eq_false_iff_not]; omega)))
    replace HK1 := Lib.hid (blk1 HK1.out hd6)
    replace HK2 := Lib.hid (blk1 HK2.out hd6)
    replace HN1 := Lib.hid (Dy.Nm.keep HN1.out hd6)
    replace HN2 := Lib.hid (Dy.Nm.keep HN2.out hd6)
    replace HR1 := Lib.hid (blk1 HR1.out hd6)
    replace HBx := Lib.hid (low_trans HBx.out hd6)
    obtain ⟨Vs, hVs⟩ : ∃ Vs, V6 = Vs := ⟨_, rfl⟩
    subst hVs
    clear hKP hS0 hS1 x0 x1 x2 x3 x4 x5 hd0 hd1 hN1 hN2 HTv
    go_upto_region 4 with fail
    clear hc1 hs1
    have k0 := cell_h (k := 0) HK2.out rfl
    have k1 := cell_h (k := 1) HK2.out rfl
    have k2 := cell_h (k := 2) HK2.out rfl
    go_wp2_with fail
    refine (imul _ _ _ 10000000 10000000 100000000000000 HN2.out HN2.out (by decide) (by decide) (by decide) (HT.out.keep HBx.out)).mono ?_
    rintro e V7 ⟨v7, rfl, hv7, hb7⟩
    obtain ⟨b7, q7, l7, c7, f7, m7, rfl, _, _⟩ := id (Dy.Nm.fields hv7)
    replace HK1 := Lib.hid (blk1 HK1.out hb7)
    replace HK2 := Lib.hid (blk1 HK2.out hb7)
    replace HN1 := Lib.hid (Dy.Nm.keep HN1.out hb7)
    replace HN2 := Lib.hid (Dy.Nm.keep HN2.out hb7)
    replace HR1 := Lib.hid (blk1 HR1.out hb7)
    replace HBx := Lib.hid (low_trans HBx.out hb7)
    have HV7 := Lib.hid hv7
    clear hv7 hb7
    clear k0 k1 k2
    go_wp2_with fail
    refine (snumber_of _ 8000 (by unfold Dy.I64; omega) (HT.out.keep HBx.out)).mono ?_
    rintro e V8 ⟨v8, rfl, hv8, hb8⟩
    obtain ⟨b8, q8, l8, c8, f8, m8, rfl, _, _⟩ := id (Dy.Nm.fields hv8)
    replace HK1 := Lib.hid (blk1 HK1.out hb8)
    replace HK2 := Lib.hid (blk1 HK2.out hb8)
    replace HN1 := Lib.hid (Dy.Nm.keep HN1.out hb8)
    replace HN2 := Lib.hid (Dy.Nm.keep HN2.out hb8)
    replace HR1 := Lib.hid (blk1 HR1.out hb8)
    replace HBx := Lib.hid (low_trans HBx.out hb8)
    replace HV7 := Lib.hid (Dy.Nm.keep HV7.out hb8)
    have HV8 := Lib.hid hv8
    clear hv8 hb8
    go_wp2_with fail
    refine (imul _ _ _ 100000000000000 8000 800000000000000000 HV7.out HV8.out (by decide) (by decide) (by decide) (HT.out.keep HBx.out)).mono ?_
    rintro e V9 ⟨v9, rfl, hv9, hb9⟩
    obtain ⟨b9, q9, l9, c9, f9, m9, rfl, _, _⟩ := id (Dy.Nm.fields hv9)
    replace HK1 := Lib.hid (blk1 HK1.out hb9)
    replace HK2 := Lib.hid (blk1 HK2.out hb9)
    replace HN1 := Lib.hid (Dy.Nm.keep HN1.out hb9)
    replace HN2 := Lib.hid (Dy.Nm.keep HN2.out hb9)
    replace HR1 := Lib.hid (blk1 HR1.out hb9)
    replace HBx := Lib.hid (low_trans HBx.out hb9)
    have HV9 := Lib.hid hv9
    clear hv9 hb9
    go_upto_region 5 with fail
    have hba := (Below.refl V9.heap.size V9).alloc (Nat.le_refl _) (.cells #[.bool b9, .slice q9 l9 c9, .int .i64 f9] 75)
    have hz9 := World.alloc_heap_new V9 (.cells #[.bool b9, .slice q9 l9 c9, .int .i64 f9] 75)
    have hK9 : w.heap.size + 1 < V9.heap.size := (Array.getElem?_eq_some_iff.1 HR1.out).1
    have hN9 := Dy.Nm.keep HV9.out hba
    replace HK1 := Lib.hid (blk1 HK1.out hba)
    replace HK2 := Lib.hid (blk1 HK2.out hba)
    replace HN1 := Lib.hid (Dy.Nm.keep HN1.out hba)
    replace HN2 := Lib.hid (Dy.Nm.keep HN2.out hba)
    replace HR1 := Lib.hid (blk1 HR1.out hba)
    replace HBx := Lib.hid (low_trans HBx.out hba)
    have HZ9 := Lib.hid hz9
    have HN9 := Lib.hid hN9
    clear hz9 hN9 hba HV7 HV8 HV9
    generalize V9.alloc (.cells #[.bool b9, .slice q9 l9 c9, .int .i64 f9] 75) = Wf at *
    generalize V9.heap.size = K9 at *
    have HKS : Hid (∀ V, Below Wf.heap.size Wf V → V.cell? ⟨K1, 0, none⟩ = some (.bool b2) ∧ V.cell? ⟨K1, 1, none⟩ = some (.slice q2 l2 c2) ∧ V.cell? ⟨K1, 2, none⟩ = some (.int .i64 f2) ∧ V.cell? ⟨K2, 0, none⟩ = some (.bool b3) ∧ V.cell? ⟨K2, 1, none⟩ = some (.slice q3 l3 c3) ∧ V.cell? ⟨K2, 2, none⟩ = some (.int .i64 f3) ∧ V.cell? ⟨K9, 0, none⟩ = some (.bool b9) ∧ V.cell? ⟨K9, 1, none⟩ = some (.slice q9 l9 c9) ∧ V.cell? ⟨K9, 2, none⟩ = some (.int .i64 f9)) := fun V hV => ⟨cell_h (blk1 HK1.out hV) rfl, cell_h (blk1 HK1.out hV) rfl, cell_h (blk1 HK1.out hV) rfl, cell_h (blk1 HK2.out hV) rfl, cell_h (blk1 HK2.out hV) rfl, cell_h (blk1 HK2.out hV) rfl, cell_h (blk1 HZ9.out hV) rfl, cell_h (blk1 HZ9.out hV) rfl, cell_h (blk1 HZ9.out hV) rfl⟩
    go_cut [10] (fun s10 wx => ∃ (K : Nat) (b6 : Bool) (q6 : Option Addr) (l6 c6 : Nat) (f6 : Int), s10 = .pointer (some ⟨K, 0, none⟩) ∧ wx.heap[K]? = some (.cells #[.bool b6, .slice q6 l6 c6, .int .i64 f6] 75 (0, 0)) ∧ Dy.Nm wx (.agg #[.bool b6, .slice q6 l6 c6, .int .i64 f6]) (Dy.mk 1299300000000000000 0) ∧ Below Wf.heap.size Wf wx)
    case first =>
      have hN1 := HN1.out
      have hN2 := HN2.out
      have hN9 := HN9.out
      refine (wpIn_wide (n := 5)).1 ?_
      refine wpIn_region_T 14 (fun W2 : World => W2.cell? ⟨K1, 0, none⟩ = some (.bool b2) ∧ W2.cell? ⟨K1, 1, none⟩ = some (.slice q2 l2 c2) ∧ W2.cell? ⟨K1, 2, none⟩ = some (.int .i64 f2) ∧ W2.cell? ⟨K2, 0, none⟩ = some (.bool b3) ∧ W2.cell? ⟨K2, 1, none⟩ = some (.slice q3 l3 c3) ∧ W2.cell? ⟨K2, 2, none⟩ = some (.int .i64 f3) ∧ W2.cell? ⟨K9, 0, none⟩ = some (.bool b9) ∧ W2.cell? ⟨K9, 1, none⟩ = some (.slice q9 l9 c9) ∧ W2.cell? ⟨K9, 2, none⟩ = some (.int .i64 f9)) (by kernel_rfl) ?_
      change anyT _ _ _ _ _ _ _ _ 15 (Array.replicate 15 false) _ _
      have hqd : Below Wf.heap.size Wf Wf.drew := (Below.refl _ _).drew
      have hN1d := Dy.Nm.keep hN1 hqd
      have hN2d := Dy.Nm.keep hN2 hqd
      have hN9d := Dy.Nm.keep hN9 hqd
      generalize Wf.drew = Wd at *
      have hS0 := HKS.out Wd hqd
      refine anyT_takeD hF1 0 47 (v := ?_) rfl rfl (by kernel_rfl) (by kernel_rfl) (by kernel_rfl) (by kernel_rfl) (by kernel_rfl) (fun _ _ _ h => h) hS0 rfl ?_ ?_
      rotate_left
      · intro W2 hSw; obtain ⟨r0, r1, r2, r3, r4, r5, r6, r7, r8⟩ := hSw; go_simp; try with_reducible rfl
      simp only [List.setIfInBounds_toArray, List.set_cons_zero, List.set_cons_succ]
      refine anyT_takeD hF1 1 48 (v := ?_) rfl rfl (by kernel_rfl) (by kernel_rfl) (by kernel_rfl) (by kernel_rfl) (by kernel_rfl) (fun _ _ _ h => h) hS0 rfl ?_ ?_
      rotate_left
      · intro W2 hSw; obtain ⟨r0, r1, r2, r3, r4, r5, r6, r7, r8⟩ := hSw; go_simp; try with_reducible rfl
      simp only [List.setIfInBounds_toArray, List.set_cons_zero, List.set_cons_succ]
      refine anyT_takeD hF1 2 49 (v := ?_) rfl rfl (by kernel_rfl) (by kernel_rfl) (by kernel_rfl) (by kernel_rfl) (by kernel_rfl) (fun _ _ _ h => h) hS0 rfl ?_ ?_
      rotate_left
      · intro W2 hSw; obtain ⟨r0, r1, r2, r3, r4, r5, r6, r7, r8⟩ := hSw; go_simp; try with_reducible rfl
      simp only [List.setIfInBounds_toArray, List.set_cons_zero, List.set_cons_succ]
      refine anyT_takeD hF1 7 54 (v := ?_) rfl rfl (by kernel_rfl) (by kernel_rfl) (by kernel_rfl) (by kernel_rfl) (by kernel_rfl) (fun _ _ _ h => h) hS0 rfl ?_ ?_
      rotate_left
      · intro W2 hSw; obtain ⟨r0, r1, r2, r3, r4, r5, r6, r7, r8⟩ := hSw; go_simp; try with_reducible rfl
      simp only [List.setIfInBounds_toArray, List.set_cons_zero, List.set_cons_succ]
      refine anyT_takeD hF1 8 55 (v := ?_) rfl rfl (by kernel_rfl) (by kernel_rfl) (by kernel_rfl) (by kernel_rfl) (by kernel_rfl) (fun _ _ _ h => h) hS0 rfl ?_ ?_
      rotate_left
      · intro W2 hSw; obtain ⟨r0, r1, r2, r3, r4, r5, r6, r7, r8⟩ := hSw; go_simp; try with_reducible rfl
      simp only [List.setIfInBounds_toArray, List.set_cons_zero, List.set_cons_succ]
      refine anyT_l [3, 13] (by kernel_rfl) (by decide) ⟨?_, ?_, trivial⟩
      · skip
        refine opT_call hF1 (fun h => absurd h (by decide)) 3 50 (w := Wd) rfl rfl (by kernel_rfl) (by rfl) (by go_simp; try with_reducible rfl; try decide) (callsIn_wide.2 (imul Wd _ _ 10000000 10000000 100000000000000 hN1d hN2d (by decide) (by decide) (by decide) (HT.out.keep (low_trans HBx.out hqd)))) ?_
        rintro e9 V10x1 ⟨v10, rfl, hv10, hb10⟩
        replace hqd := low_trans hqd hb10
        replace hS0 := HKS.out V10x1 hqd
        replace hN1d := Dy.Nm.keep hN1d hb10
        replace hN2d := Dy.Nm.keep hN2d hb10
        replace hN9d := Dy.Nm.keep hN9d hb10
        obtain ⟨b10, q10, l10, c10, f10, m10, rfl, _, _⟩ := id (Dy.Nm.fields hv10)
        have hv10d := hv10
        refine ⟨_, rfl, hS0, ?_⟩
        simp only [List.setIfInBounds_toArray, List.set_cons_zero, List.set_cons_succ]
        refine anyT_l [4, 13] (by kernel_rfl) (by decide) ⟨?_, ?_, trivial⟩
        · skip
          refine opT_call hF1 (fun h => absurd h (by decide)) 4 51 (w := V10x1) rfl rfl (by kernel_rfl) (by rfl) (by go_simp; try with_reducible rfl; try decide) (callsIn_wide.2 (snumber_of V10x1 5020 (by unfold Dy.I64; omega) (HT.out.keep (low_trans HBx.out hqd)))) ?_
          rintro e9 V11x2 ⟨v11, rfl, hv11, hb11⟩
          replace hqd := low_trans hqd hb11
          replace hS0 := HKS.out V11x2 hqd
          replace hN1d := Dy.Nm.keep hN1d hb11
          replace hN2d := Dy.Nm.keep hN2d hb11
          replace hN9d := Dy.Nm.keep hN9d hb11
          replace hv10d := Dy.Nm.keep hv10d hb11
          obtain ⟨b11, q11, l11, c11, f11, m11, rfl, _, _⟩ := id (Dy.Nm.fields hv11)
          have hv11d := hv11
          refine ⟨_, rfl, hS0, ?_⟩
          simp only [List.setIfInBounds_toArray, List.set_cons_zero, List.set_cons_succ]
          refine anyT_l [5, 13] (by kernel_rfl) (by decide) ⟨?_, ?_, trivial⟩
          · skip
            refine opT_call hF1 (fun h => absurd h (by decide)) 5 52 (w := V11x2) rfl rfl (by kernel_rfl) (by rfl) (by go_simp; try with_reducible rfl; try decide) (callsIn_wide.2 (imul V11x2 _ _ 100000000000000 5020 502000000000000000 hv10d hv11d (by decide) (by decide) (by decide) (HT.out.keep (low_trans HBx.out hqd)))) ?_
            rintro e9 V12x3 ⟨v12, rfl, hv12, hb12⟩
            replace hqd := low_trans hqd hb12
            replace hS0 := HKS.out V12x3 hqd
            replace hN1d := Dy.Nm.keep hN1d hb12
            replace hN2d := Dy.Nm.keep hN2d hb12
            replace hN9d := Dy.Nm.keep hN9d hb12
            replace hv10d := Dy.Nm.keep hv10d hb12
            replace hv11d := Dy.Nm.keep hv11d hb12
            obtain ⟨b12, q12, l12, c12, f12, m12, rfl, _, _⟩ := id (Dy.Nm.fields hv12)
            have hv12d := hv12
            refine ⟨_, rfl, hS0, ?_⟩
            simp only [List.setIfInBounds_toArray, List.set_cons_zero, List.set_cons_succ]
            refine anyT_l [6, 13] (by kernel_rfl) (by decide) ⟨?_, ?_, trivial⟩
            · skip
              refine opT_call hF1 (fun h => absurd h (by decide)) 6 53 (w := V12x3) rfl rfl (by kernel_rfl) (by rfl) (by go_simp; try with_reducible rfl; try decide) (callsIn_wide.2 (iadd V12x3 _ _ 800000000000000000 502000000000000000 1302000000000000000 hN9d hv12d (by decide) (by decide) (by decide) (HT.out.keep (low_trans HBx.out hqd)))) ?_
              rintro e9 V13x4 ⟨v13, rfl, hv13, hb13⟩
              replace hqd := low_trans hqd hb13
              replace hS0 := HKS.out V13x4 hqd
              replace hN1d := Dy.Nm.keep hN1d hb13
              replace hN2d := Dy.Nm.keep hN2d hb13
              replace hN9d := Dy.Nm.keep hN9d hb13
              replace hv10d := Dy.Nm.keep hv10d hb13
              replace hv11d := Dy.Nm.keep hv11d hb13
              replace hv12d := Dy.Nm.keep hv12d hb13
              obtain ⟨b13, q13, l13, c13, f13, m13, rfl, _, _⟩ := id (Dy.Nm.fields hv13)
              have hv13d := hv13
              refine ⟨_, rfl, hS0, ?_⟩
              simp only [List.setIfInBounds_toArray, List.set_cons_zero, List.set_cons_succ]
              refine anyT_l [9, 13] (by kernel_rfl) (by decide) ⟨?_, ?_, trivial⟩
              · skip
                refine opT_call hF1 (fun h => absurd h (by decide)) 9 56 (w := V13x4) rfl rfl (by kernel_rfl) (by rfl) (by go_simp; try with_reducible rfl; try decide) (callsIn_wide.2 (imul V13x4 _ _ 10000000 10000000 100000000000000 hN1d hN1d (by decide) (by decide) (by decide) (HT.out.keep (low_trans HBx.out hqd)))) ?_
                rintro e9 V14x5 ⟨v14, rfl, hv14, hb14⟩
                replace hqd := low_trans hqd hb14
                replace hS0 := HKS.out V14x5 hqd
                replace hN1d := Dy.Nm.keep hN1d hb14
                replace hN2d := Dy.Nm.keep hN2d hb14
                replace hN9d := Dy.Nm.keep hN9d hb14
                replace hv10d := Dy.Nm.keep hv10d hb14
                replace hv11d := Dy.Nm.keep hv11d hb14
                replace hv12d := Dy.Nm.keep hv12d hb14
                replace hv13d := Dy.Nm.keep hv13d hb14
                obtain ⟨b14, q14, l14, c14, f14, m14, rfl, _, _⟩ := id (Dy.Nm.fields hv14)
                have hv14d := hv14
                refine ⟨_, rfl, hS0, ?_⟩
                simp only [List.setIfInBounds_toArray, List.set_cons_zero, List.set_cons_succ]
                refine anyT_l [10, 13] (by kernel_rfl) (by decide) ⟨?_, ?_, trivial⟩
                · skip
                  refine opT_call hF1 (fun h => absurd h (by decide)) 10 57 (w := V14x5) rfl rfl (by kernel_rfl) (by rfl) (by go_simp; try with_reducible rfl; try decide) (callsIn_wide.2 (snumber_of V14x5 27 (by unfold Dy.I64; omega) (HT.out.keep (low_trans HBx.out hqd)))) ?_
                  rintro e9 V15x6 ⟨v15, rfl, hv15, hb15⟩
                  replace hqd := low_trans hqd hb15
                  replace hS0 := HKS.out V15x6 hqd
                  replace hN1d := Dy.Nm.keep hN1d hb15
                  replace hN2d := Dy.Nm.keep hN2d hb15
                  replace hN9d := Dy.Nm.keep hN9d hb15
                  replace hv10d := Dy.Nm.keep hv10d hb15
                  replace hv11d := Dy.Nm.keep hv11d hb15
                  replace hv12d := Dy.Nm.keep hv12d hb15
                  replace hv13d := Dy.Nm.keep hv13d hb15
                  replace hv14d := Dy.Nm.keep hv14d hb15
                  obtain ⟨b15, q15, l15, c15, f15, m15, rfl, _, _⟩ := id (Dy.Nm.fields hv15)
                  have hv15d := hv15
                  refine ⟨_, rfl, hS0, ?_⟩
                  simp only [List.setIfInBounds_toArray, List.set_cons_zero, List.set_cons_succ]
                  refine anyT_l [11, 13] (by kernel_rfl) (by decide) ⟨?_, ?_, trivial⟩
                  · skip
                    refine opT_call hF1 (fun h => absurd h (by decide)) 11 58 (w := V15x6) rfl rfl (by kernel_rfl) (by rfl) (by go_simp; try with_reducible rfl; try decide) (callsIn_wide.2 (imul V15x6 _ _ 100000000000000 27 2700000000000000 hv14d hv15d (by decide) (by decide) (by decide) (HT.out.keep (low_trans HBx.out hqd)))) ?_
                    rintro e9 V16x7 ⟨v16, rfl, hv16, hb16⟩
                    replace hqd := low_trans hqd hb16
                    replace hS0 := HKS.out V16x7 hqd
                    replace hN1d := Dy.Nm.keep hN1d hb16
                    replace hN2d := Dy.Nm.keep hN2d hb16
                    replace hN9d := Dy.Nm.keep hN9d hb16
                    replace hv10d := Dy.Nm.keep hv10d hb16
                    replace hv11d := Dy.Nm.keep hv11d hb16
                    replace hv12d := Dy.Nm.keep hv12d hb16
                    replace hv13d := Dy.Nm.keep hv13d hb16
                    replace hv14d := Dy.Nm.keep hv14d hb16
                    replace hv15d := Dy.Nm.keep hv15d hb16
                    obtain ⟨b16, q16, l16, c16, f16, m16, rfl, _, _⟩ := id (Dy.Nm.fields hv16)
                    have hv16d := hv16
                    refine ⟨_, rfl, hS0, ?_⟩
                    simp only [List.setIfInBounds_toArray, List.set_cons_zero, List.set_cons_succ]
                    refine anyT_l [12, 13] (by kernel_rfl) (by decide) ⟨?_, ?_, trivial⟩
                    · skip
                      refine opT_call hF1 (fun h => absurd h (by decide)) 12 59 (w := V16x7) rfl rfl (by kernel_rfl) (by rfl) (by go_simp; try with_reducible rfl; try decide) (callsIn_wide.2 (isub V16x7 _ _ 1302000000000000000 2700000000000000 1299300000000000000 hv13d hv16d (by decide) (by decide) (by decide) (HT.out.keep (low_trans HBx.out hqd)))) ?_
                      rintro e9 V17x8 ⟨v17, rfl, hv17, hb17⟩
                      replace hqd := low_trans hqd hb17
                      replace hS0 := HKS.out V17x8 hqd
                      replace hN1d := Dy.Nm.keep hN1d hb17
                      replace hN2d := Dy.Nm.keep hN2d hb17
                      replace hN9d := Dy.Nm.keep hN9d hb17
                      replace hv10d := Dy.Nm.keep hv10d hb17
                      replace hv11d := Dy.Nm.keep hv11d hb17
                      replace hv12d := Dy.Nm.keep hv12d hb17
                      replace hv13d := Dy.Nm.keep hv13d hb17
                      replace hv14d := Dy.Nm.keep hv14d hb17
                      replace hv15d := Dy.Nm.keep hv15d hb17
                      replace hv16d := Dy.Nm.keep hv16d hb17
                      obtain ⟨b17, q17, l17, c17, f17, m17, rfl, _, _⟩ := id (Dy.Nm.fields hv17)
                      have hv17d := hv17
                      refine ⟨_, rfl, hS0, ?_⟩
                      simp only [List.setIfInBounds_toArray, List.set_cons_zero, List.set_cons_succ]
                      refine anyT_l [13] (by kernel_rfl) (by decide) ⟨?_, trivial⟩
                      refine opT_val hF1 13 10 (w2 := V17x8.alloc (.cells #[.bool false, .slice none 0 0, .int .i64 0] 75)) (v := .pointer (some ⟨V17x8.heap.size, 0, none⟩)) rfl rfl (by kernel_rfl) rfl (by go_simp; try with_reducible rfl) (HKS.out _ (low_trans hqd ((Below.refl V17x8.heap.size V17x8).alloc (Nat.le_refl _) _))) ?_
                      simp only [List.setIfInBounds_toArray, List.set_cons_zero, List.set_cons_succ]
                      have hba := (Below.refl V17x8.heap.size V17x8).alloc (Nat.le_refl _) (.cells #[.bool false, .slice none 0 0, .int .i64 0] 75)
                      have hzK := World.alloc_heap_new V17x8 (.cells #[.bool false, .slice none 0 0, .int .i64 0] 75)
                      have hkK := hqd.size
                      replace hqd := low_trans hqd hba
                      replace hS0 := HKS.out _ hqd
                      replace hN1d := Dy.Nm.keep hN1d hba
                      replace hN2d := Dy.Nm.keep hN2d hba
                      replace hN9d := Dy.Nm.keep hN9d hba
                      replace hv10d := Dy.Nm.keep hv10d hba
                      replace hv11d := Dy.Nm.keep hv11d hba
                      replace hv12d := Dy.Nm.keep hv12d hba
                      replace hv13d := Dy.Nm.keep hv13d hba
                      replace hv14d := Dy.Nm.keep hv14d hba
                      replace hv15d := Dy.Nm.keep hv15d hba
                      replace hv16d := Dy.Nm.keep hv16d hba
                      replace hv17d := Dy.Nm.keep hv17d hba
                      generalize V17x8.alloc (.cells #[.bool false, .slice none 0 0, .int .i64 0] 75) = K9 at *
                      have z0 := cell_h (k := 0) hzK rfl
                      have z1 := cell_h (k := 1) hzK rfl
                      have z2 := cell_h (k := 2) hzK rfl
                      have zf : ∀ o, K9.frozen? ⟨V17x8.heap.size, o, none⟩ = false := fun o => by simp [World.frozen?, hzK]
                      have hst := num_store (a := b17) (p := q17) (n := l17) (k := c17) (e := f17) hzK hv17d
                      have hsb : Below Wf.heap.size Wf ((((K9).setCell ⟨V17x8.heap.size, 0, none⟩ (.bool b17)).setCell ⟨V17x8.heap.size, 1, none⟩ (.slice q17 l17 c17)).setCell ⟨V17x8.heap.size, 2, none⟩ (.int .i64 f17)) := Dy.below_set3 hqd hkK
                      have hv10e := hv10d.set3 (i := 0) (j := 1) (k := 2) (a := b17) (p := q17) (n := l17) (c := c17) (e := f17) (num_nodig hzK)
                      have hv11e := hv11d.set3 (i := 0) (j := 1) (k := 2) (a := b17) (p := q17) (n := l17) (c := c17) (e := f17) (num_nodig hzK)
                      have hv12e := hv12d.set3 (i := 0) (j := 1) (k := 2) (a := b17) (p := q17) (n := l17) (c := c17) (e := f17) (num_nodig hzK)
                      have hv13e := hv13d.set3 (i := 0) (j := 1) (k := 2) (a := b17) (p := q17) (n := l17) (c := c17) (e := f17) (num_nodig hzK)
                      have hv14e := hv14d.set3 (i := 0) (j := 1) (k := 2) (a := b17) (p := q17) (n := l17) (c := c17) (e := f17) (num_nodig hzK)
                      have hv15e := hv15d.set3 (i := 0) (j := 1) (k := 2) (a := b17) (p := q17) (n := l17) (c := c17) (e := f17) (num_nodig hzK)
                      have hv16e := hv16d.set3 (i := 0) (j := 1) (k := 2) (a := b17) (p := q17) (n := l17) (c := c17) (e := f17) (num_nodig hzK)
                      refine anyT_skipN hF1 (w2 := (((K9).setCell ⟨V17x8.heap.size, 0, none⟩ (.bool b17)).setCell ⟨V17x8.heap.size, 1, none⟩ (.slice q17 l17 c17)).setCell ⟨V17x8.heap.size, 2, none⟩ (.int .i64 f17)) rfl rfl (by kernel_rfl) (by kernel_rfl) rfl (by go_simp; try with_reducible rfl) ?_
                      refine anyT_done (by kernel_rfl) ?_ _
                      clear z0 z1 z2 zf
                      generalize (((K9).setCell ⟨V17x8.heap.size, 0, none⟩ (.bool b17)).setCell ⟨V17x8.heap.size, 1, none⟩ (.slice q17 l17 c17)).setCell ⟨V17x8.heap.size, 2, none⟩ (.int .i64 f17) = Y0z9 at *
                      replace hqd := hsb
                      replace hv10d := hv10e
                      replace hv11d := hv11e
                      replace hv12d := hv12e
                      replace hv13d := hv13e
                      replace hv14d := hv14e
                      replace hv15d := hv15e
                      replace hv16d := hv16e
                      replace hzK := hst.1
                      replace hv17d := hst.2
                      go_wp2_with fail
                      go_meet
                      exact ⟨V17x8.heap.size, _, _, _, _, _, rfl, hzK, hv17d, hqd⟩
                    · skip
                      refine opT_val hF1 13 10 (w2 := V16x7.alloc (.cells #[.bool false, .slice none 0 0, .int .i64 0] 75)) (v := .pointer (some ⟨V16x7.heap.size, 0, none⟩)) rfl rfl (by kernel_rfl) rfl (by go_simp; try with_reducible rfl) (HKS.out _ (low_trans hqd ((Below.refl V16x7.heap.size V16x7).alloc (Nat.le_refl _) _))) ?_
                      simp only [List.setIfInBounds_toArray, List.set_cons_zero, List.set_cons_succ]
                      have hba := (Below.refl V16x7.heap.size V16x7).alloc (Nat.le_refl _) (.cells #[.bool false, .slice none 0 0, .int .i64 0] 75)
                      have hzK := World.alloc_heap_new V16x7 (.cells #[.bool false, .slice none 0 0, .int .i64 0] 75)
                      have hkK := hqd.size
                      replace hqd := low_trans hqd hba
                      replace hS0 := HKS.out _ hqd
                      replace hN1d := Dy.Nm.keep hN1d hba
                      replace hN2d := Dy.Nm.keep hN2d hba
                      replace hN9d := Dy.Nm.keep hN9d hba
                      replace hv10d := Dy.Nm.keep hv10d hba
                      replace hv11d := Dy.Nm.keep hv11d hba
                      replace hv12d := Dy.Nm.keep hv12d hba
                      replace hv13d := Dy.Nm.keep hv13d hba
                      replace hv14d := Dy.Nm.keep hv14d hba
                      replace hv15d := Dy.Nm.keep hv15d hba
                      replace hv16d := Dy.Nm.keep hv16d hba
                      generalize V16x7.alloc (.cells #[.bool false, .slice none 0 0, .int .i64 0] 75) = K10 at *
                      refine anyT_l [12] (by kernel_rfl) (by decide) ⟨?_, trivial⟩
                      refine opT_call hF1 (fun h => absurd h (by decide)) 12 59 (w := K10) rfl rfl (by kernel_rfl) (by rfl) (by go_simp; try with_reducible rfl; try decide) (callsIn_wide.2 (isub K10 _ _ 1302000000000000000 2700000000000000 1299300000000000000 hv13d hv16d (by decide) (by decide) (by decide) (HT.out.keep (low_trans HBx.out hqd)))) ?_
                      rintro e9 V17x11 ⟨v17, rfl, hv17, hb17⟩
                      replace hqd := low_trans hqd hb17
                      replace hS0 := HKS.out V17x11 hqd
                      replace hN1d := Dy.Nm.keep hN1d hb17
                      replace hN2d := Dy.Nm.keep hN2d hb17
                      replace hN9d := Dy.Nm.keep hN9d hb17
                      replace hv10d := Dy.Nm.keep hv10d hb17
                      replace hv11d := Dy.Nm.keep hv11d hb17
                      replace hv12d := Dy.Nm.keep hv12d hb17
                      replace hv13d := Dy.Nm.keep hv13d hb17
                      replace hv14d := Dy.Nm.keep hv14d hb17
                      replace hv15d := Dy.Nm.keep hv15d hb17
                      replace hv16d := Dy.Nm.keep hv16d hb17
                      replace hzK := blk1 hzK hb17
                      obtain ⟨b17, q17, l17, c17, f17, m17, rfl, _, _⟩ := id (Dy.Nm.fields hv17)
                      have hv17d := hv17
                      refine ⟨_, rfl, hS0, ?_⟩
                      simp only [List.setIfInBounds_toArray, List.set_cons_zero, List.set_cons_succ]
                      have z0 := cell_h (k := 0) hzK rfl
                      have z1 := cell_h (k := 1) hzK rfl
                      have z2 := cell_h (k := 2) hzK rfl
                      have zf : ∀ o, V17x11.frozen? ⟨V16x7.heap.size, o, none⟩ = false := fun o => by simp [World.frozen?, hzK]
                      have hst := num_store (a := b17) (p := q17) (n := l17) (k := c17) (e := f17) hzK hv17d
                      have hsb : Below Wf.heap.size Wf ((((V17x11).setCell ⟨V16x7.heap.size, 0, none⟩ (.bool b17)).setCell ⟨V16x7.heap.size, 1, none⟩ (.slice q17 l17 c17)).setCell ⟨V16x7.heap.size, 2, none⟩ (.int .i64 f17)) := Dy.below_set3 hqd hkK
                      have hv10e := hv10d.set3 (i := 0) (j := 1) (k := 2) (a := b17) (p := q17) (n := l17) (c := c17) (e := f17) (num_nodig hzK)
                      have hv11e := hv11d.set3 (i := 0) (j := 1) (k := 2) (a := b17) (p := q17) (n := l17) (c := c17) (e := f17) (num_nodig hzK)
                      have hv12e := hv12d.set3 (i := 0) (j := 1) (k := 2) (a := b17) (p := q17) (n := l17) (c := c17) (e := f17) (num_nodig hzK)
                      have hv13e := hv13d.set3 (i := 0) (j := 1) (k := 2) (a := b17) (p := q17) (n := l17) (c := c17) (e := f17) (num_nodig hzK)
                      have hv14e := hv14d.set3 (i := 0) (j := 1) (k := 2) (a := b17) (p := q17) (n := l17) (c := c17) (e := f17) (num_nodig hzK)
                      have hv15e := hv15d.set3 (i := 0) (j := 1) (k := 2) (a := b17) (p := q17) (n := l17) (c := c17) (e := f17) (num_nodig hzK)
                      have hv16e := hv16d.set3 (i := 0) (j := 1) (k := 2) (a := b17) (p := q17) (n := l17) (c := c17) (e := f17) (num_nodig hzK)
                      refine anyT_skipN hF1 (w2 := (((V17x11).setCell ⟨V16x7.heap.size, 0, none⟩ (.bool b17)).setCell ⟨V16x7.heap.size, 1, none⟩ (.slice q17 l17 c17)).setCell ⟨V16x7.heap.size, 2, none⟩ (.int .i64 f17)) rfl rfl (by kernel_rfl) (by kernel_rfl) rfl (by go_simp; try with_reducible rfl) ?_
                      refine anyT_done (by kernel_rfl) ?_ _
                      clear z0 z1 z2 zf
                      generalize (((V17x11).setCell ⟨V16x7.heap.size, 0, none⟩ (.bool b17)).setCell ⟨V16x7.heap.size, 1, none⟩ (.slice q17 l17 c17)).setCell ⟨V16x7.heap.size, 2, none⟩ (.int .i64 f17) = Y0z11 at *
                      replace hqd := hsb
                      replace hv10d := hv10e
                      replace hv11d := hv11e
                      replace hv12d := hv12e
                      replace hv13d := hv13e
                      replace hv14d := hv14e
                      replace hv15d := hv15e
                      replace hv16d := hv16e
                      replace hzK := hst.1
                      replace hv17d := hst.2
                      go_wp2_with fail
                      go_meet
                      exact ⟨V16x7.heap.size, _, _, _, _, _, rfl, hzK, hv17d, hqd⟩
                  · skip
                    refine opT_val hF1 13 10 (w2 := V15x6.alloc (.cells #[.bool false, .slice none 0 0, .int .i64 0] 75)) (v := .pointer (some ⟨V15x6.heap.size, 0, none⟩)) rfl rfl (by kernel_rfl) rfl (by go_simp; try with_reducible rfl) (HKS.out _ (low_trans hqd ((Below.refl V15x6.heap.size V15x6).alloc (Nat.le_refl _) _))) ?_
                    simp only [List.setIfInBounds_toArray, List.set_cons_zero, List.set_cons_succ]
                    have hba := (Below.refl V15x6.heap.size V15x6).alloc (Nat.le_refl _) (.cells #[.bool false, .slice none 0 0, .int .i64 0] 75)
                    have hzK := World.alloc_heap_new V15x6 (.cells #[.bool false, .slice none 0 0, .int .i64 0] 75)
                    have hkK := hqd.size
                    replace hqd := low_trans hqd hba
                    replace hS0 := HKS.out _ hqd
                    replace hN1d := Dy.Nm.keep hN1d hba
                    replace hN2d := Dy.Nm.keep hN2d hba
                    replace hN9d := Dy.Nm.keep hN9d hba
                    replace hv10d := Dy.Nm.keep hv10d hba
                    replace hv11d := Dy.Nm.keep hv11d hba
                    replace hv12d := Dy.Nm.keep hv12d hba
                    replace hv13d := Dy.Nm.keep hv13d hba
                    replace hv14d := Dy.Nm.keep hv14d hba
                    replace hv15d := Dy.Nm.keep hv15d hba
                    generalize V15x6.alloc (.cells #[.bool false, .slice none 0 0, .int .i64 0] 75) = K12 at *
                    refine anyT_l [11] (by kernel_rfl) (by decide) ⟨?_, trivial⟩
                    refine opT_call hF1 (fun h => absurd h (by decide)) 11 58 (w := K12) rfl rfl (by kernel_rfl) (by rfl) (by go_simp; try with_reducible rfl; try decide) (callsIn_wide.2 (imul K12 _ _ 100000000000000 27 2700000000000000 hv14d hv15d (by decide) (by decide) (by decide) (HT.out.keep (low_trans HBx.out hqd)))) ?_
                    rintro e9 V16x13 ⟨v16, rfl, hv16, hb16⟩
                    replace hqd := low_trans hqd hb16
                    replace hS0 := HKS.out V16x13 hqd
                    replace hN1d := Dy.Nm.keep hN1d hb16
                    replace hN2d := Dy.Nm.keep hN2d hb16
                    replace hN9d := Dy.Nm.keep hN9d hb16
                    replace hv10d := Dy.Nm.keep hv10d hb16
                    replace hv11d := Dy.Nm.keep hv11d hb16
                    replace hv12d := Dy.Nm.keep hv12d hb16
                    replace hv13d := Dy.Nm.keep hv13d hb16
                    replace hv14d := Dy.Nm.keep hv14d hb16
                    replace hv15d := Dy.Nm.keep hv15d hb16
                    replace hzK := blk1 hzK hb16
                    obtain ⟨b16, q16, l16, c16, f16, m16, rfl, _, _⟩ := id (Dy.Nm.fields hv16)
                    have hv16d := hv16
                    refine ⟨_, rfl, hS0, ?_⟩
                    simp only [List.setIfInBounds_toArray, List.set_cons_zero, List.set_cons_succ]
                    refine anyT_l [12] (by kernel_rfl) (by decide) ⟨?_, trivial⟩
                    refine opT_call hF1 (fun h => absurd h (by decide)) 12 59 (w := V16x13) rfl rfl (by kernel_rfl) (by rfl) (by go_simp; try with_reducible rfl; try decide) (callsIn_wide.2 (isub V16x13 _ _ 1302000000000000000 2700000000000000 1299300000000000000 hv13d hv16d (by decide) (by decide) (by decide) (HT.out.keep (low_trans HBx.out hqd)))) ?_
                    rintro e9 V17x14 ⟨v17, rfl, hv17, hb17⟩
                    replace hqd := low_trans hqd hb17
                    replace hS0 := HKS.out V17x14 hqd
                    replace hN1d := Dy.Nm.keep hN1d hb17
                    replace hN2d := Dy.Nm.keep hN2d hb17
                    replace hN9d := Dy.Nm.keep hN9d hb17
                    replace hv10d := Dy.Nm.keep hv10d hb17
                    replace hv11d := Dy.Nm.keep hv11d hb17
                    replace hv12d := Dy.Nm.keep hv12d hb17
                    replace hv13d := Dy.Nm.keep hv13d hb17
                    replace hv14d := Dy.Nm.keep hv14d hb17
                    replace hv15d := Dy.Nm.keep hv15d hb17
                    replace hv16d := Dy.Nm.keep hv16d hb17
                    replace hzK := blk1 hzK hb17
                    obtain ⟨b17, q17, l17, c17, f17, m17, rfl, _, _⟩ := id (Dy.Nm.fields hv17)
                    have hv17d := hv17
                    refine ⟨_, rfl, hS0, ?_⟩
                    simp only [List.setIfInBounds_toArray, List.set_cons_zero, List.set_cons_succ]
                    have z0 := cell_h (k := 0) hzK rfl
                    have z1 := cell_h (k := 1) hzK rfl
                    have z2 := cell_h (k := 2) hzK rfl
                    have zf : ∀ o, V17x14.frozen? ⟨V15x6.heap.size, o, none⟩ = false := fun o => by simp [World.frozen?, hzK]
                    have hst := num_store (a := b17) (p := q17) (n := l17) (k := c17) (e := f17) hzK hv17d
                    have hsb : Below Wf.heap.size Wf ((((V17x14).setCell ⟨V15x6.heap.size, 0, none⟩ (.bool b17)).setCell ⟨V15x6.heap.size, 1, none⟩ (.slice q17 l17 c17)).setCell ⟨V15x6.heap.size, 2, none⟩ (.int .i64 f17)) := Dy.below_set3 hqd hkK
                    have hv10e := hv10d.set3 (i := 0) (j := 1) (k := 2) (a := b17) (p := q17) (n := l17) (c := c17) (e := f17) (num_nodig hzK)
                    have hv11e := hv11d.set3 (i := 0) (j := 1) (k := 2) (a := b17) (p := q17) (n := l17) (c := c17) (e := f17) (num_nodig hzK)
                    have hv12e := hv12d.set3 (i := 0) (j := 1) (k := 2) (a := b17) (p := q17) (n := l17) (c := c17) (e := f17) (num_nodig hzK)
                    have hv13e := hv13d.set3 (i := 0) (j := 1) (k := 2) (a := b17) (p := q17) (n := l17) (c := c17) (e := f17) (num_nodig hzK)
                    have hv14e := hv14d.set3 (i := 0) (j := 1) (k := 2) (a := b17) (p := q17) (n := l17) (c := c17) (e := f17) (num_nodig hzK)
                    have hv15e := hv15d.set3 (i := 0) (j := 1) (k := 2) (a := b17) (p := q17) (n := l17) (c := c17) (e := f17) (num_nodig hzK)
                    have hv16e := hv16d.set3 (i := 0) (j := 1) (k := 2) (a := b17) (p := q17) (n := l17) (c := c17) (e := f17) (num_nodig hzK)
                    refine anyT_skipN hF1 (w2 := (((V17x14).setCell ⟨V15x6.heap.size, 0, none⟩ (.bool b17)).setCell ⟨V15x6.heap.size, 1, none⟩ (.slice q17 l17 c17)).setCell ⟨V15x6.heap.size, 2, none⟩ (.int .i64 f17)) rfl rfl (by kernel_rfl) (by kernel_rfl) rfl (by go_simp; try with_reducible rfl) ?_
                    refine anyT_done (by kernel_rfl) ?_ _
                    clear z0 z1 z2 zf
                    generalize (((V17x14).setCell ⟨V15x6.heap.size, 0, none⟩ (.bool b17)).setCell ⟨V15x6.heap.size, 1, none⟩ (.slice q17 l17 c17)).setCell ⟨V15x6.heap.size, 2, none⟩ (.int .i64 f17) = Y0z14 at *
                    replace hqd := hsb
                    replace hv10d := hv10e
                    replace hv11d := hv11e
                    replace hv12d := hv12e
                    replace hv13d := hv13e
                    replace hv14d := hv14e
                    replace hv15d := hv15e
                    replace hv16d := hv16e
                    replace hzK := hst.1
                    replace hv17d := hst.2
                    go_wp2_with fail
                    go_meet
                    exact ⟨V15x6.heap.size, _, _, _, _, _, rfl, hzK, hv17d, hqd⟩
                · skip
                  refine opT_val hF1 13 10 (w2 := V14x5.alloc (.cells #[.bool false, .slice none 0 0, .int .i64 0] 75)) (v := .pointer (some ⟨V14x5.heap.size, 0, none⟩)) rfl rfl (by kernel_rfl) rfl (by go_simp; try with_reducible rfl) (HKS.out _ (low_trans hqd ((Below.refl V14x5.heap.size V14x5).alloc (Nat.le_refl _) _))) ?_
                  simp only [List.setIfInBounds_toArray, List.set_cons_zero, List.set_cons_succ]
                  have hba := (Below.refl V14x5.heap.size V14x5).alloc (Nat.le_refl _) (.cells #[.bool false, .slice none 0 0, .int .i64 0] 75)
                  have hzK := World.alloc_heap_new V14x5 (.cells #[.bool false, .slice none 0 0, .int .i64 0] 75)
                  have hkK := hqd.size
                  replace hqd := low_trans hqd hba
                  replace hS0 := HKS.out _ hqd
                  replace hN1d := Dy.Nm.keep hN1d hba
                  replace hN2d := Dy.Nm.keep hN2d hba
                  replace hN9d := Dy.Nm.keep hN9d hba
                  replace hv10d := Dy.Nm.keep hv10d hba
                  replace hv11d := Dy.Nm.keep hv11d hba
                  replace hv12d := Dy.Nm.keep hv12d hba
                  replace hv13d := Dy.Nm.keep hv13d hba
                  replace hv14d := Dy.Nm.keep hv14d hba
                  generalize V14x5.alloc (.cells #[.bool false, .slice none 0 0, .int .i64 0] 75) = K15 at *
                  refine anyT_l [10] (by kernel_rfl) (by decide) ⟨?_, trivial⟩
                  refine opT_call hF1 (fun h => absurd h (by decide)) 10 57 (w := K15) rfl rfl (by kernel_rfl) (by rfl) (by go_simp; try with_reducible rfl; try decide) (callsIn_wide.2 (snumber_of K15 27 (by unfold Dy.I64; omega) (HT.out.keep (low_trans HBx.out hqd)))) ?_
                  rintro e9 V15x16 ⟨v15, rfl, hv15, hb15⟩
                  replace hqd := low_trans hqd hb15
                  replace hS0 := HKS.out V15x16 hqd
                  replace hN1d := Dy.Nm.keep hN1d hb15
                  replace hN2d := Dy.Nm.keep hN2d hb15
                  replace hN9d := Dy.Nm.keep hN9d hb15
                  replace hv10d := Dy.Nm.keep hv10d hb15
                  replace hv11d := Dy.Nm.keep hv11d hb15
                  replace hv12d := Dy.Nm.keep hv12d hb15
                  replace hv13d := Dy.Nm.keep hv13d hb15
                  replace hv14d := Dy.Nm.keep hv14d hb15
                  replace hzK := blk1 hzK hb15
                  obtain ⟨b15, q15, l15, c15, f15, m15, rfl, _, _⟩ := id (Dy.Nm.fields hv15)
                  have hv15d := hv15
                  refine ⟨_, rfl, hS0, ?_⟩
                  simp only [List.setIfInBounds_toArray, List.set_cons_zero, List.set_cons_succ]
                  refine anyT_l [11] (by kernel_rfl) (by decide) ⟨?_, trivial⟩
                  refine opT_call hF1 (fun h => absurd h (by decide)) 11 58 (w := V15x16) rfl rfl (by kernel_rfl) (by rfl) (by go_simp; try with_reducible rfl; try decide) (callsIn_wide.2 (imul V15x16 _ _ 100000000000000 27 2700000000000000 hv14d hv15d (by decide) (by decide) (by decide) (HT.out.keep (low_trans HBx.out hqd)))) ?_
                  rintro e9 V16x17 ⟨v16, rfl, hv16, hb16⟩
                  replace hqd := low_trans hqd hb16
                  replace hS0 := HKS.out V16x17 hqd
                  replace hN1d := Dy.Nm.keep hN1d hb16
                  replace hN2d := Dy.Nm.keep hN2d hb16
                  replace hN9d := Dy.Nm.keep hN9d hb16
                  replace hv10d := Dy.Nm.keep hv10d hb16
                  replace hv11d := Dy.Nm.keep hv11d hb16
                  replace hv12d := Dy.Nm.keep hv12d hb16
                  replace hv13d := Dy.Nm.keep hv13d hb16
                  replace hv14d := Dy.Nm.keep hv14d hb16
                  replace hv15d := Dy.Nm.keep hv15d hb16
                  replace hzK := blk1 hzK hb16
                  obtain ⟨b16, q16, l16, c16, f16, m16, rfl, _, _⟩ := id (Dy.Nm.fields hv16)
                  have hv16d := hv16
                  refine ⟨_, rfl, hS0, ?_⟩
                  simp only [List.setIfInBounds_toArray, List.set_cons_zero, List.set_cons_succ]
                  refine anyT_l [12] (by kernel_rfl) (by decide) ⟨?_, trivial⟩
                  refine opT_call hF1 (fun h => absurd h (by decide)) 12 59 (w := V16x17) rfl rfl (by kernel_rfl) (by rfl) (by go_simp; try with_reducible rfl; try decide) (callsIn_wide.2 (isub V16x17 _ _ 1302000000000000000 2700000000000000 1299300000000000000 hv13d hv16d (by decide) (by decide) (by decide) (HT.out.keep (low_trans HBx.out hqd)))) ?_
                  rintro e9 V17x18 ⟨v17, rfl, hv17, hb17⟩
                  replace hqd := low_trans hqd hb17
                  replace hS0 := HKS.out V17x18 hqd
                  replace hN1d := Dy.Nm.keep hN1d hb17
                  replace hN2d := Dy.Nm.keep hN2d hb17
                  replace hN9d := Dy.Nm.keep hN9d hb17
                  replace hv10d := Dy.Nm.keep hv10d hb17
                  replace hv11d := Dy.Nm.keep hv11d hb17
                  replace hv12d := Dy.Nm.keep hv12d hb17
                  replace hv13d := Dy.Nm.keep hv13d hb17
                  replace hv14d := Dy.Nm.keep hv14d hb17
                  replace hv15d := Dy.Nm.keep hv15d hb17
                  replace hv16d := Dy.Nm.keep hv16d hb17
                  replace hzK := blk1 hzK hb17
                  obtain ⟨b17, q17, l17, c17, f17, m17, rfl, _, _⟩ := id (Dy.Nm.fields hv17)
                  have hv17d := hv17
                  refine ⟨_, rfl, hS0, ?_⟩
                  simp only [List.setIfInBounds_toArray, List.set_cons_zero, List.set_cons_succ]
                  have z0 := cell_h (k := 0) hzK rfl
                  have z1 := cell_h (k := 1) hzK rfl
                  have z2 := cell_h (k := 2) hzK rfl
                  have zf : ∀ o, V17x18.frozen? ⟨V14x5.heap.size, o, none⟩ = false := fun o => by simp [World.frozen?, hzK]
                  have hst := num_store (a := b17) (p := q17) (n := l17) (k := c17) (e := f17) hzK hv17d
                  have hsb : Below Wf.heap.size Wf ((((V17x18).setCell ⟨V14x5.heap.size, 0, none⟩ (.bool b17)).setCell ⟨V14x5.heap.size, 1, none⟩ (.slice q17 l17 c17)).setCell ⟨V14x5.heap.size, 2, none⟩ (.int .i64 f17)) := Dy.below_set3 hqd hkK
                  have hv10e := hv10d.set3 (i := 0) (j := 1) (k := 2) (a := b17) (p := q17) (n := l17) (c := c17) (e := f17) (num_nodig hzK)
                  have hv11e := hv11d.set3 (i := 0) (j := 1) (k := 2) (a := b17) (p := q17) (n := l17) (c := c17) (e := f17) (num_nodig hzK)
                  have hv12e := hv12d.set3 (i := 0) (j := 1) (k := 2) (a := b17) (p := q17) (n := l17) (c := c17) (e := f17) (num_nodig hzK)
                  have hv13e := hv13d.set3 (i := 0) (j := 1) (k := 2) (a := b17) (p := q17) (n := l17) (c := c17) (e := f17) (num_nodig hzK)
                  have hv14e := hv14d.set3 (i := 0) (j := 1) (k := 2) (a := b17) (p := q17) (n := l17) (c := c17) (e := f17) (num_nodig hzK)
                  have hv15e := hv15d.set3 (i := 0) (j := 1) (k := 2) (a := b17) (p := q17) (n := l17) (c := c17) (e := f17) (num_nodig hzK)
                  have hv16e := hv16d.set3 (i := 0) (j := 1) (k := 2) (a := b17) (p := q17) (n := l17) (c := c17) (e := f17) (num_nodig hzK)
                  refine anyT_skipN hF1 (w2 := (((V17x18).setCell ⟨V14x5.heap.size, 0, none⟩ (.bool b17)).setCell ⟨V14x5.heap.size, 1, none⟩ (.slice q17 l17 c17)).setCell ⟨V14x5.heap.size, 2, none⟩ (.int .i64 f17)) rfl rfl (by kernel_rfl) (by kernel_rfl) rfl (by go_simp; try with_reducible rfl) ?_
                  refine anyT_done (by kernel_rfl) ?_ _
                  clear z0 z1 z2 zf
                  generalize (((V17x18).setCell ⟨V14x5.heap.size, 0, none⟩ (.bool b17)).setCell ⟨V14x5.heap.size, 1, none⟩ (.slice q17 l17 c17)).setCell ⟨V14x5.heap.size, 2, none⟩ (.int .i64 f17) = Y0z18 at *
                  replace hqd := hsb
                  replace hv10d := hv10e
                  replace hv11d := hv11e
                  replace hv12d := hv12e
                  replace hv13d := hv13e
                  replace hv14d := hv14e
                  replace hv15d := hv15e
                  replace hv16d := hv16e
                  replace hzK := hst.1
                  replace hv17d := hst.2
                  go_wp2_with fail
                  go_meet
                  exact ⟨V14x5.heap.size, _, _, _, _, _, rfl, hzK, hv17d, hqd⟩
              · skip
                refine opT_val hF1 13 10 (w2 := V13x4.alloc (.cells #[.bool false, .slice none 0 0, .int .i64 0] 75)) (v := .pointer (some ⟨V13x4.heap.size, 0, none⟩)) rfl rfl (by kernel_rfl) rfl (by go_simp; try with_reducible rfl) (HKS.out _ (low_trans hqd ((Below.refl V13x4.heap.size V13x4).alloc (Nat.le_refl _) _))) ?_
                simp only [List.setIfInBounds_toArray, List.set_cons_zero, List.set_cons_succ]
                have hba := (Below.refl V13x4.heap.size V13x4).alloc (Nat.le_refl _) (.cells #[.bool false, .slice none 0 0, .int .i64 0] 75)
                have hzK := World.alloc_heap_new V13x4 (.cells #[.bool false, .slice none 0 0, .int .i64 0] 75)
                have hkK := hqd.size
                replace hqd := low_trans hqd hba
                replace hS0 := HKS.out _ hqd
                replace hN1d := Dy.Nm.keep hN1d hba
                replace hN2d := Dy.Nm.keep hN2d hba
                replace hN9d := Dy.Nm.keep hN9d hba
                replace hv10d := Dy.Nm.keep hv10d hba
                replace hv11d := Dy.Nm.keep hv11d hba
                replace hv12d := Dy.Nm.keep hv12d hba
                replace hv13d := Dy.Nm.keep hv13d hba
                generalize V13x4.alloc (.cells #[.bool false, .slice none 0 0, .int .i64 0] 75) = K19 at *
                refine anyT_l [9] (by kernel_rfl) (by decide) ⟨?_, trivial⟩
                refine opT_call hF1 (fun h => absurd h (by decide)) 9 56 (w := K19) rfl rfl (by kernel_rfl) (by rfl) (by go_simp; try with_reducible rfl; try decide) (callsIn_wide.2 (imul K19 _ _ 10000000 10000000 100000000000000 hN1d hN1d (by decide) (by decide) (by decide) (HT.out.keep (low_trans HBx.out hqd)))) ?_
                rintro e9 V14x20 ⟨v14, rfl, hv14, hb14⟩
                replace hqd := low_trans hqd hb14
                replace hS0 := HKS.out V14x20 hqd
                replace hN1d := Dy.Nm.keep hN1d hb14
                replace hN2d := Dy.Nm.keep hN2d hb14
                replace hN9d := Dy.Nm.keep hN9d hb14
                replace hv10d := Dy.Nm.keep hv10d hb14
                replace hv11d := Dy.Nm.keep hv11d hb14
                replace hv12d := Dy.Nm.keep hv12d hb14
                replace hv13d := Dy.Nm.keep hv13d hb14
                replace hzK := blk1 hzK hb14
                obtain ⟨b14, q14, l14, c14, f14, m14, rfl, _, _⟩ := id (Dy.Nm.fields hv14)
                have hv14d := hv14
                refine ⟨_, rfl, hS0, ?_⟩
                simp only [List.setIfInBounds_toArray, List.set_cons_zero, List.set_cons_succ]
                refine anyT_l [10] (by kernel_rfl) (by decide) ⟨?_, trivial⟩
                refine opT_call hF1 (fun h => absurd h (by decide)) 10 57 (w := V14x20) rfl rfl (by kernel_rfl) (by rfl) (by go_simp; try with_reducible rfl; try decide) (callsIn_wide.2 (snumber_of V14x20 27 (by unfold Dy.I64; omega) (HT.out.keep (low_trans HBx.out hqd)))) ?_
                rintro e9 V15x21 ⟨v15, rfl, hv15, hb15⟩
                replace hqd := low_trans hqd hb15
                replace hS0 := HKS.out V15x21 hqd
                replace hN1d := Dy.Nm.keep hN1d hb15
                replace hN2d := Dy.Nm.keep hN2d hb15
                replace hN9d := Dy.Nm.keep hN9d hb15
                replace hv10d := Dy.Nm.keep hv10d hb15
                replace hv11d := Dy.Nm.keep hv11d hb15
                replace hv12d := Dy.Nm.keep hv12d hb15
                replace hv13d := Dy.Nm.keep hv13d hb15
                replace hv14d := Dy.Nm.keep hv14d hb15
                replace hzK := blk1 hzK hb15
                obtain ⟨b15, q15, l15, c15, f15, m15, rfl, _, _⟩ := id (Dy.Nm.fields hv15)
                have hv15d := hv15
                refine ⟨_, rfl, hS0, ?_⟩
                simp only [List.setIfInBounds_toArray, List.set_cons_zero, List.set_cons_succ]
                refine anyT_l [11] (by kernel_rfl) (by decide) ⟨?_, trivial⟩
                refine opT_call hF1 (fun h => absurd h (by decide)) 11 58 (w := V15x21) rfl rfl (by kernel_rfl) (by rfl) (by go_simp; try with_reducible rfl; try decide) (callsIn_wide.2 (imul V15x21 _ _ 100000000000000 27 2700000000000000 hv14d hv15d (by decide) (by decide) (by decide) (HT.out.keep (low_trans HBx.out hqd)))) ?_
                rintro e9 V16x22 ⟨v16, rfl, hv16, hb16⟩
                replace hqd := low_trans hqd hb16
                replace hS0 := HKS.out V16x22 hqd
                replace hN1d := Dy.Nm.keep hN1d hb16
                replace hN2d := Dy.Nm.keep hN2d hb16
                replace hN9d := Dy.Nm.keep hN9d hb16
                replace hv10d := Dy.Nm.keep hv10d hb16
                replace hv11d := Dy.Nm.keep hv11d hb16
                replace hv12d := Dy.Nm.keep hv12d hb16
                replace hv13d := Dy.Nm.keep hv13d hb16
                replace hv14d := Dy.Nm.keep hv14d hb16
                replace hv15d := Dy.Nm.keep hv15d hb16
                replace hzK := blk1 hzK hb16
                obtain ⟨b16, q16, l16, c16, f16, m16, rfl, _, _⟩ := id (Dy.Nm.fields hv16)
                have hv16d := hv16
                refine ⟨_, rfl, hS0, ?_⟩
                simp only [List.setIfInBounds_toArray, List.set_cons_zero, List.set_cons_succ]
                refine anyT_l [12] (by kernel_rfl) (by decide) ⟨?_, trivial⟩
                refine opT_call hF1 (fun h => absurd h (by decide)) 12 59 (w := V16x22) rfl rfl (by kernel_rfl) (by rfl) (by go_simp; try with_reducible rfl; try decide) (callsIn_wide.2 (isub V16x22 _ _ 1302000000000000000 2700000000000000 1299300000000000000 hv13d hv16d (by decide) (by decide) (by decide) (HT.out.keep (low_trans HBx.out hqd)))) ?_
                rintro e9 V17x23 ⟨v17, rfl, hv17, hb17⟩
                replace hqd := low_trans hqd hb17
                replace hS0 := HKS.out V17x23 hqd
                replace hN1d := Dy.Nm.keep hN1d hb17
                replace hN2d := Dy.Nm.keep hN2d hb17
                replace hN9d := Dy.Nm.keep hN9d hb17
                replace hv10d := Dy.Nm.keep hv10d hb17
                replace hv11d := Dy.Nm.keep hv11d hb17
                replace hv12d := Dy.Nm.keep hv12d hb17
                replace hv13d := Dy.Nm.keep hv13d hb17
                replace hv14d := Dy.Nm.keep hv14d hb17
                replace hv15d := Dy.Nm.keep hv15d hb17
                replace hv16d := Dy.Nm.keep hv16d hb17
                replace hzK := blk1 hzK hb17
                obtain ⟨b17, q17, l17, c17, f17, m17, rfl, _, _⟩ := id (Dy.Nm.fields hv17)
                have hv17d := hv17
                refine ⟨_, rfl, hS0, ?_⟩
                simp only [List.setIfInBounds_toArray, List.set_cons_zero, List.set_cons_succ]
                have z0 := cell_h (k := 0) hzK rfl
                have z1 := cell_h (k := 1) hzK rfl
                have z2 := cell_h (k := 2) hzK rfl
                have zf : ∀ o, V17x23.frozen? ⟨V13x4.heap.size, o, none⟩ = false := fun o => by simp [World.frozen?, hzK]
                have hst := num_store (a := b17) (p := q17) (n := l17) (k := c17) (e := f17) hzK hv17d
                have hsb : Below Wf.heap.size Wf ((((V17x23).setCell ⟨V13x4.heap.size, 0, none⟩ (.bool b17)).setCell ⟨V13x4.heap.size, 1, none⟩ (.slice q17 l17 c17)).setCell ⟨V13x4.heap.size, 2, none⟩ (.int .i64 f17)) := Dy.below_set3 hqd hkK
                have hv10e := hv10d.set3 (i := 0) (j := 1) (k := 2) (a := b17) (p := q17) (n := l17) (c := c17) (e := f17) (num_nodig hzK)
                have hv11e := hv11d.set3 (i := 0) (j := 1) (k := 2) (a := b17) (p := q17) (n := l17) (c := c17) (e := f17) (num_nodig hzK)
                have hv12e := hv12d.set3 (i := 0) (j := 1) (k := 2) (a := b17) (p := q17) (n := l17) (c := c17) (e := f17) (num_nodig hzK)
                have hv13e := hv13d.set3 (i := 0) (j := 1) (k := 2) (a := b17) (p := q17) (n := l17) (c := c17) (e := f17) (num_nodig hzK)
                have hv14e := hv14d.set3 (i := 0) (j := 1) (k := 2) (a := b17) (p := q17) (n := l17) (c := c17) (e := f17) (num_nodig hzK)
                have hv15e := hv15d.set3 (i := 0) (j := 1) (k := 2) (a := b17) (p := q17) (n := l17) (c := c17) (e := f17) (num_nodig hzK)
                have hv16e := hv16d.set3 (i := 0) (j := 1) (k := 2) (a := b17) (p := q17) (n := l17) (c := c17) (e := f17) (num_nodig hzK)
                refine anyT_skipN hF1 (w2 := (((V17x23).setCell ⟨V13x4.heap.size, 0, none⟩ (.bool b17)).setCell ⟨V13x4.heap.size, 1, none⟩ (.slice q17 l17 c17)).setCell ⟨V13x4.heap.size, 2, none⟩ (.int .i64 f17)) rfl rfl (by kernel_rfl) (by kernel_rfl) rfl (by go_simp; try with_reducible rfl) ?_
                refine anyT_done (by kernel_rfl) ?_ _
                clear z0 z1 z2 zf
                generalize (((V17x23).setCell ⟨V13x4.heap.size, 0, none⟩ (.bool b17)).setCell ⟨V13x4.heap.size, 1, none⟩ (.slice q17 l17 c17)).setCell ⟨V13x4.heap.size, 2, none⟩ (.int .i64 f17) = Y0z23 at *
                replace hqd := hsb
                replace hv10d := hv10e
                replace hv11d := hv11e
                replace hv12d := hv12e
                replace hv13d := hv13e
                replace hv14d := hv14e
                replace hv15d := hv15e
                replace hv16d := hv16e
                replace hzK := hst.1
                replace hv17d := hst.2
                go_wp2_with fail
                go_meet
                exact ⟨V13x4.heap.size, _, _, _, _, _, rfl, hzK, hv17d, hqd⟩
            · skip
              refine opT_val hF1 13 10 (w2 := V12x3.alloc (.cells #[.bool false, .slice none 0 0, .int .i64 0] 75)) (v := .pointer (some ⟨V12x3.heap.size, 0, none⟩)) rfl rfl (by kernel_rfl) rfl (by go_simp; try with_reducible rfl) (HKS.out _ (low_trans hqd ((Below.refl V12x3.heap.size V12x3).alloc (Nat.le_refl _) _))) ?_
              simp only [List.setIfInBounds_toArray, List.set_cons_zero, List.set_cons_succ]
              have hba := (Below.refl V12x3.heap.size V12x3).alloc (Nat.le_refl _) (.cells #[.bool false, .slice none 0 0, .int .i64 0] 75)
              have hzK := World.alloc_heap_new V12x3 (.cells #[.bool false, .slice none 0 0, .int .i64 0] 75)
              have hkK := hqd.size
              replace hqd := low_trans hqd hba
              replace hS0 := HKS.out _ hqd
              replace hN1d := Dy.Nm.keep hN1d hba
              replace hN2d := Dy.Nm.keep hN2d hba
              replace hN9d := Dy.Nm.keep hN9d hba
              replace hv10d := Dy.Nm.keep hv10d hba
              replace hv11d := Dy.Nm.keep hv11d hba
              replace hv12d := Dy.Nm.keep hv12d hba
              generalize V12x3.alloc (.cells #[.bool false, .slice none 0 0, .int .i64 0] 75) = K24 at *
              refine anyT_l [6] (by kernel_rfl) (by decide) ⟨?_, trivial⟩
              refine opT_call hF1 (fun h => absurd h (by decide)) 6 53 (w := K24) rfl rfl (by kernel_rfl) (by rfl) (by go_simp; try with_reducible rfl; try decide) (callsIn_wide.2 (iadd K24 _ _ 800000000000000000 502000000000000000 1302000000000000000 hN9d hv12d (by decide) (by decide) (by decide) (HT.out.keep (low_trans HBx.out hqd)))) ?_
              rintro e9 V13x25 ⟨v13, rfl, hv13, hb13⟩
              replace hqd := low_trans hqd hb13
              replace hS0 := HKS.out V13x25 hqd
              replace hN1d := Dy.Nm.keep hN1d hb13
              replace hN2d := Dy.Nm.keep hN2d hb13
              replace hN9d := Dy.Nm.keep hN9d hb13
              replace hv10d := Dy.Nm.keep hv10d hb13
              replace hv11d := Dy.Nm.keep hv11d hb13
              replace hv12d := Dy.Nm.keep hv12d hb13
              replace hzK := blk1 hzK hb13
              obtain ⟨b13, q13, l13, c13, f13, m13, rfl, _, _⟩ := id (Dy.Nm.fields hv13)
              have hv13d := hv13
              refine ⟨_, rfl, hS0, ?_⟩
              simp only [List.setIfInBounds_toArray, List.set_cons_zero, List.set_cons_succ]
              refine anyT_l [9] (by kernel_rfl) (by decide) ⟨?_, trivial⟩
              refine opT_call hF1 (fun h => absurd h (by decide)) 9 56 (w := V13x25) rfl rfl (by kernel_rfl) (by rfl) (by go_simp; try with_reducible rfl; try decide) (callsIn_wide.2 (imul V13x25 _ _ 10000000 10000000 100000000000000 hN1d hN1d (by decide) (by decide) (by decide) (HT.out.keep (low_trans HBx.out hqd)))) ?_
              rintro e9 V14x26 ⟨v14, rfl, hv14, hb14⟩
              replace hqd := low_trans hqd hb14
              replace hS0 := HKS.out V14x26 hqd
              replace hN1d := Dy.Nm.keep hN1d hb14
              replace hN2d := Dy.Nm.keep hN2d hb14
              replace hN9d := Dy.Nm.keep hN9d hb14
              replace hv10d := Dy.Nm.keep hv10d hb14
              replace hv11d := Dy.Nm.keep hv11d hb14
              replace hv12d := Dy.Nm.keep hv12d hb14
              replace hv13d := Dy.Nm.keep hv13d hb14
              replace hzK := blk1 hzK hb14
              obtain ⟨b14, q14, l14, c14, f14, m14, rfl, _, _⟩ := id (Dy.Nm.fields hv14)
              have hv14d := hv14
              refine ⟨_, rfl, hS0, ?_⟩
              simp only [List.setIfInBounds_toArray, List.set_cons_zero, List.set_cons_succ]
              refine anyT_l [10] (by kernel_rfl) (by decide) ⟨?_, trivial⟩
              refine opT_call hF1 (fun h => absurd h (by decide)) 10 57 (w := V14x26) rfl rfl (by kernel_rfl) (by rfl) (by go_simp; try with_reducible rfl; try decide) (callsIn_wide.2 (snumber_of V14x26 27 (by unfold Dy.I64; omega) (HT.out.keep (low_trans HBx.out hqd)))) ?_
              rintro e9 V15x27 ⟨v15, rfl, hv15, hb15⟩
              replace hqd := low_trans hqd hb15
              replace hS0 := HKS.out V15x27 hqd
              replace hN1d := Dy.Nm.keep hN1d hb15
              replace hN2d := Dy.Nm.keep hN2d hb15
              replace hN9d := Dy.Nm.keep hN9d hb15
              replace hv10d := Dy.Nm.keep hv10d hb15
              replace hv11d := Dy.Nm.keep hv11d hb15
              replace hv12d := Dy.Nm.keep hv12d hb15
              replace hv13d := Dy.Nm.keep hv13d hb15
              replace hv14d := Dy.Nm.keep hv14d hb15
              replace hzK := blk1 hzK hb15
              obtain ⟨b15, q15, l15, c15, f15, m15, rfl, _, _⟩ := id (Dy.Nm.fields hv15)
              have hv15d := hv15
              refine ⟨_, rfl, hS0, ?_⟩
              simp only [List.setIfInBounds_toArray, List.set_cons_zero, List.set_cons_succ]
              refine anyT_l [11] (by kernel_rfl) (by decide) ⟨?_, trivial⟩
              refine opT_call hF1 (fun h => absurd h (by decide)) 11 58 (w := V15x27) rfl rfl (by kernel_rfl) (by rfl) (by go_simp; try with_reducible rfl; try decide) (callsIn_wide.2 (imul V15x27 _ _ 100000000000000 27 2700000000000000 hv14d hv15d (by decide) (by decide) (by decide) (HT.out.keep (low_trans HBx.out hqd)))) ?_
              rintro e9 V16x28 ⟨v16, rfl, hv16, hb16⟩
              replace hqd := low_trans hqd hb16
              replace hS0 := HKS.out V16x28 hqd
              replace hN1d := Dy.Nm.keep hN1d hb16
              replace hN2d := Dy.Nm.keep hN2d hb16
              replace hN9d := Dy.Nm.keep hN9d hb16
              replace hv10d := Dy.Nm.keep hv10d hb16
              replace hv11d := Dy.Nm.keep hv11d hb16
              replace hv12d := Dy.Nm.keep hv12d hb16
              replace hv13d := Dy.Nm.keep hv13d hb16
              replace hv14d := Dy.Nm.keep hv14d hb16
              replace hv15d := Dy.Nm.keep hv15d hb16
              replace hzK := blk1 hzK hb16
              obtain ⟨b16, q16, l16, c16, f16, m16, rfl, _, _⟩ := id (Dy.Nm.fields hv16)
              have hv16d := hv16
              refine ⟨_, rfl, hS0, ?_⟩
              simp only [List.setIfInBounds_toArray, List.set_cons_zero, List.set_cons_succ]
              refine anyT_l [12] (by kernel_rfl) (by decide) ⟨?_, trivial⟩
              refine opT_call hF1 (fun h => absurd h (by decide)) 12 59 (w := V16x28) rfl rfl (by kernel_rfl) (by rfl) (by go_simp; try with_reducible rfl; try decide) (callsIn_wide.2 (isub V16x28 _ _ 1302000000000000000 2700000000000000 1299300000000000000 hv13d hv16d (by decide) (by decide) (by decide) (HT.out.keep (low_trans HBx.out hqd)))) ?_
              rintro e9 V17x29 ⟨v17, rfl, hv17, hb17⟩
              replace hqd := low_trans hqd hb17
              replace hS0 := HKS.out V17x29 hqd
              replace hN1d := Dy.Nm.keep hN1d hb17
              replace hN2d := Dy.Nm.keep hN2d hb17
              replace hN9d := Dy.Nm.keep hN9d hb17
              replace hv10d := Dy.Nm.keep hv10d hb17
              replace hv11d := Dy.Nm.keep hv11d hb17
              replace hv12d := Dy.Nm.keep hv12d hb17
              replace hv13d := Dy.Nm.keep hv13d hb17
              replace hv14d := Dy.Nm.keep hv14d hb17
              replace hv15d := Dy.Nm.keep hv15d hb17
              replace hv16d := Dy.Nm.keep hv16d hb17
              replace hzK := blk1 hzK hb17
              obtain ⟨b17, q17, l17, c17, f17, m17, rfl, _, _⟩ := id (Dy.Nm.fields hv17)
              have hv17d := hv17
              refine ⟨_, rfl, hS0, ?_⟩
              simp only [List.setIfInBounds_toArray, List.set_cons_zero, List.set_cons_succ]
              have z0 := cell_h (k := 0) hzK rfl
              have z1 := cell_h (k := 1) hzK rfl
              have z2 := cell_h (k := 2) hzK rfl
              have zf : ∀ o, V17x29.frozen? ⟨V12x3.heap.size, o, none⟩ = false := fun o => by simp [World.frozen?, hzK]
              have hst := num_store (a := b17) (p := q17) (n := l17) (k := c17) (e := f17) hzK hv17d
              have hsb : Below Wf.heap.size Wf ((((V17x29).setCell ⟨V12x3.heap.size, 0, none⟩ (.bool b17)).setCell ⟨V12x3.heap.size, 1, none⟩ (.slice q17 l17 c17)).setCell ⟨V12x3.heap.size, 2, none⟩ (.int .i64 f17)) := Dy.below_set3 hqd hkK
              have hv10e := hv10d.set3 (i := 0) (j := 1) (k := 2) (a := b17) (p := q17) (n := l17) (c := c17) (e := f17) (num_nodig hzK)
              have hv11e := hv11d.set3 (i := 0) (j := 1) (k := 2) (a := b17) (p := q17) (n := l17) (c := c17) (e := f17) (num_nodig hzK)
              have hv12e := hv12d.set3 (i := 0) (j := 1) (k := 2) (a := b17) (p := q17) (n := l17) (c := c17) (e := f17) (num_nodig hzK)
              have hv13e := hv13d.set3 (i := 0) (j := 1) (k := 2) (a := b17) (p := q17) (n := l17) (c := c17) (e := f17) (num_nodig hzK)
              have hv14e := hv14d.set3 (i := 0) (j := 1) (k := 2) (a := b17) (p := q17) (n := l17) (c := c17) (e := f17) (num_nodig hzK)
              have hv15e := hv15d.set3 (i := 0) (j := 1) (k := 2) (a := b17) (p := q17) (n := l17) (c := c17) (e := f17) (num_nodig hzK)
              have hv16e := hv16d.set3 (i := 0) (j := 1) (k := 2) (a := b17) (p := q17) (n := l17) (c := c17) (e := f17) (num_nodig hzK)
              refine anyT_skipN hF1 (w2 := (((V17x29).setCell ⟨V12x3.heap.size, 0, none⟩ (.bool b17)).setCell ⟨V12x3.heap.size, 1, none⟩ (.slice q17 l17 c17)).setCell ⟨V12x3.heap.size, 2, none⟩ (.int .i64 f17)) rfl rfl (by kernel_rfl) (by kernel_rfl) rfl (by go_simp; try with_reducible rfl) ?_
              refine anyT_done (by kernel_rfl) ?_ _
              clear z0 z1 z2 zf
              generalize (((V17x29).setCell ⟨V12x3.heap.size, 0, none⟩ (.bool b17)).setCell ⟨V12x3.heap.size, 1, none⟩ (.slice q17 l17 c17)).setCell ⟨V12x3.heap.size, 2, none⟩ (.int .i64 f17) = Y0z29 at *
              replace hqd := hsb
              replace hv10d := hv10e
              replace hv11d := hv11e
              replace hv12d := hv12e
              replace hv13d := hv13e
              replace hv14d := hv14e
              replace hv15d := hv15e
              replace hv16d := hv16e
              replace hzK := hst.1
              replace hv17d := hst.2
              go_wp2_with fail
              go_meet
              exact ⟨V12x3.heap.size, _, _, _, _, _, rfl, hzK, hv17d, hqd⟩
          · skip
            refine opT_val hF1 13 10 (w2 := V11x2.alloc (.cells #[.bool false, .slice none 0 0, .int .i64 0] 75)) (v := .pointer (some ⟨V11x2.heap.size, 0, none⟩)) rfl rfl (by kernel_rfl) rfl (by go_simp; try with_reducible rfl) (HKS.out _ (low_trans hqd ((Below.refl V11x2.heap.size V11x2).alloc (Nat.le_refl _) _))) ?_
            simp only [List.setIfInBounds_toArray, List.set_cons_zero, List.set_cons_succ]
            have hba := (Below.refl V11x2.heap.size V11x2).alloc (Nat.le_refl _) (.cells #[.bool false, .slice none 0 0, .int .i64 0] 75)
            have hzK := World.alloc_heap_new V11x2 (.cells #[.bool false, .slice none 0 0, .int .i64 0] 75)
            have hkK := hqd.size
            replace hqd := low_trans hqd hba
            replace hS0 := HKS.out _ hqd
            replace hN1d := Dy.Nm.keep hN1d hba
            replace hN2d := Dy.Nm.keep hN2d hba
            replace hN9d := Dy.Nm.keep hN9d hba
            replace hv10d := Dy.Nm.keep hv10d hba
            replace hv11d := Dy.Nm.keep hv11d hba
            generalize V11x2.alloc (.cells #[.bool false, .slice none 0 0, .int .i64 0] 75) = K30 at *
            refine anyT_l [5] (by kernel_rfl) (by decide) ⟨?_, trivial⟩
            refine opT_call hF1 (fun h => absurd h (by decide)) 5 52 (w := K30) rfl rfl (by kernel_rfl) (by rfl) (by go_simp; try with_reducible rfl; try decide) (callsIn_wide.2 (imul K30 _ _ 100000000000000 5020 502000000000000000 hv10d hv11d (by decide) (by decide) (by decide) (HT.out.keep (low_trans HBx.out hqd)))) ?_
            rintro e9 V12x31 ⟨v12, rfl, hv12, hb12⟩
            replace hqd := low_trans hqd hb12
            replace hS0 := HKS.out V12x31 hqd
            replace hN1d := Dy.Nm.keep hN1d hb12
            replace hN2d := Dy.Nm.keep hN2d hb12
            replace hN9d := Dy.Nm.keep hN9d hb12
            replace hv10d := Dy.Nm.keep hv10d hb12
            replace hv11d := Dy.Nm.keep hv11d hb12
            replace hzK := blk1 hzK hb12
            obtain ⟨b12, q12, l12, c12, f12, m12, rfl, _, _⟩ := id (Dy.Nm.fields hv12)
            have hv12d := hv12
            refine ⟨_, rfl, hS0, ?_⟩
            simp only [List.setIfInBounds_toArray, List.set_cons_zero, List.set_cons_succ]
            refine anyT_l [6] (by kernel_rfl) (by decide) ⟨?_, trivial⟩
            refine opT_call hF1 (fun h => absurd h (by decide)) 6 53 (w := V12x31) rfl rfl (by kernel_rfl) (by rfl) (by go_simp; try with_reducible rfl; try decide) (callsIn_wide.2 (iadd V12x31 _ _ 800000000000000000 502000000000000000 1302000000000000000 hN9d hv12d (by decide) (by decide) (by decide) (HT.out.keep (low_trans HBx.out hqd)))) ?_
            rintro e9 V13x32 ⟨v13, rfl, hv13, hb13⟩
            replace hqd := low_trans hqd hb13
            replace hS0 := HKS.out V13x32 hqd
            replace hN1d := Dy.Nm.keep hN1d hb13
            replace hN2d := Dy.Nm.keep hN2d hb13
            replace hN9d := Dy.Nm.keep hN9d hb13
            replace hv10d := Dy.Nm.keep hv10d hb13
            replace hv11d := Dy.Nm.keep hv11d hb13
            replace hv12d := Dy.Nm.keep hv12d hb13
            replace hzK := blk1 hzK hb13
            obtain ⟨b13, q13, l13, c13, f13, m13, rfl, _, _⟩ := id (Dy.Nm.fields hv13)
            have hv13d := hv13
            refine ⟨_, rfl, hS0, ?_⟩
            simp only [List.setIfInBounds_toArray, List.set_cons_zero, List.set_cons_succ]
            refine anyT_l [9] (by kernel_rfl) (by decide) ⟨?_, trivial⟩
            refine opT_call hF1 (fun h => absurd h (by decide)) 9 56 (w := V13x32) rfl rfl (by kernel_rfl) (by rfl) (by go_simp; try with_reducible rfl; try decide) (callsIn_wide.2 (imul V13x32 _ _ 10000000 10000000 100000000000000 hN1d hN1d (by decide) (by decide) (by decide) (HT.out.keep (low_trans HBx.out hqd)))) ?_
            rintro e9 V14x33 ⟨v14, rfl, hv14, hb14⟩
            replace hqd := low_trans hqd hb14
            replace hS0 := HKS.out V14x33 hqd
            replace hN1d := Dy.Nm.keep hN1d hb14
            replace hN2d := Dy.Nm.keep hN2d hb14
            replace hN9d := Dy.Nm.keep hN9d hb14
            replace hv10d := Dy.Nm.keep hv10d hb14
            replace hv11d := Dy.Nm.keep hv11d hb14
            replace hv12d := Dy.Nm.keep hv12d hb14
            replace hv13d := Dy.Nm.keep hv13d hb14
            replace hzK := blk1 hzK hb14
            obtain ⟨b14, q14, l14, c14, f14, m14, rfl, _, _⟩ := id (Dy.Nm.fields hv14)
            have hv14d := hv14
            refine ⟨_, rfl, hS0, ?_⟩
            simp only [List.setIfInBounds_toArray, List.set_cons_zero, List.set_cons_succ]
            refine anyT_l [10] (by kernel_rfl) (by decide) ⟨?_, trivial⟩
            refine opT_call hF1 (fun h => absurd h (by decide)) 10 57 (w := V14x33) rfl rfl (by kernel_rfl) (by rfl) (by go_simp; try with_reducible rfl; try decide) (callsIn_wide.2 (snumber_of V14x33 27 (by unfold Dy.I64; omega) (HT.out.keep (low_trans HBx.out hqd)))) ?_
            rintro e9 V15x34 ⟨v15, rfl, hv15, hb15⟩
            replace hqd := low_trans hqd hb15
            replace hS0 := HKS.out V15x34 hqd
            replace hN1d := Dy.Nm.keep hN1d hb15
            replace hN2d := Dy.Nm.keep hN2d hb15
            replace hN9d := Dy.Nm.keep hN9d hb15
            replace hv10d := Dy.Nm.keep hv10d hb15
            replace hv11d := Dy.Nm.keep hv11d hb15
            replace hv12d := Dy.Nm.keep hv12d hb15
            replace hv13d := Dy.Nm.keep hv13d hb15
            replace hv14d := Dy.Nm.keep hv14d hb15
            replace hzK := blk1 hzK hb15
            obtain ⟨b15, q15, l15, c15, f15, m15, rfl, _, _⟩ := id (Dy.Nm.fields hv15)
            have hv15d := hv15
            refine ⟨_, rfl, hS0, ?_⟩
            simp only [List.setIfInBounds_toArray, List.set_cons_zero, List.set_cons_succ]
            refine anyT_l [11] (by kernel_rfl) (by decide) ⟨?_, trivial⟩
            refine opT_call hF1 (fun h => absurd h (by decide)) 11 58 (w := V15x34) rfl rfl (by kernel_rfl) (by rfl) (by go_simp; try with_reducible rfl; try decide) (callsIn_wide.2 (imul V15x34 _ _ 100000000000000 27 2700000000000000 hv14d hv15d (by decide) (by decide) (by decide) (HT.out.keep (low_trans HBx.out hqd)))) ?_
            rintro e9 V16x35 ⟨v16, rfl, hv16, hb16⟩
            replace hqd := low_trans hqd hb16
            replace hS0 := HKS.out V16x35 hqd
            replace hN1d := Dy.Nm.keep hN1d hb16
            replace hN2d := Dy.Nm.keep hN2d hb16
            replace hN9d := Dy.Nm.keep hN9d hb16
            replace hv10d := Dy.Nm.keep hv10d hb16
            replace hv11d := Dy.Nm.keep hv11d hb16
            replace hv12d := Dy.Nm.keep hv12d hb16
            replace hv13d := Dy.Nm.keep hv13d hb16
            replace hv14d := Dy.Nm.keep hv14d hb16
            replace hv15d := Dy.Nm.keep hv15d hb16
            replace hzK := blk1 hzK hb16
            obtain ⟨b16, q16, l16, c16, f16, m16, rfl, _, _⟩ := id (Dy.Nm.fields hv16)
            have hv16d := hv16
            refine ⟨_, rfl, hS0, ?_⟩
            simp only [List.setIfInBounds_toArray, List.set_cons_zero, List.set_cons_succ]
            refine anyT_l [12] (by kernel_rfl) (by decide) ⟨?_, trivial⟩
            refine opT_call hF1 (fun h => absurd h (by decide)) 12 59 (w := V16x35) rfl rfl (by kernel_rfl) (by rfl) (by go_simp; try with_reducible rfl; try decide) (callsIn_wide.2 (isub V16x35 _ _ 1302000000000000000 2700000000000000 1299300000000000000 hv13d hv16d (by decide) (by decide) (by decide) (HT.out.keep (low_trans HBx.out hqd)))) ?_
            rintro e9 V17x36 ⟨v17, rfl, hv17, hb17⟩
            replace hqd := low_trans hqd hb17
            replace hS0 := HKS.out V17x36 hqd
            replace hN1d := Dy.Nm.keep hN1d hb17
            replace hN2d := Dy.Nm.keep hN2d hb17
            replace hN9d := Dy.Nm.keep hN9d hb17
            replace hv10d := Dy.Nm.keep hv10d hb17
            replace hv11d := Dy.Nm.keep hv11d hb17
            replace hv12d := Dy.Nm.keep hv12d hb17
            replace hv13d := Dy.Nm.keep hv13d hb17
            replace hv14d := Dy.Nm.keep hv14d hb17
            replace hv15d := Dy.Nm.keep hv15d hb17
            replace hv16d := Dy.Nm.keep hv16d hb17
            replace hzK := blk1 hzK hb17
            obtain ⟨b17, q17, l17, c17, f17, m17, rfl, _, _⟩ := id (Dy.Nm.fields hv17)
            have hv17d := hv17
            refine ⟨_, rfl, hS0, ?_⟩
            simp only [List.setIfInBounds_toArray, List.set_cons_zero, List.set_cons_succ]
            have z0 := cell_h (k := 0) hzK rfl
            have z1 := cell_h (k := 1) hzK rfl
            have z2 := cell_h (k := 2) hzK rfl
            have zf : ∀ o, V17x36.frozen? ⟨V11x2.heap.size, o, none⟩ = false := fun o => by simp [World.frozen?, hzK]
            have hst := num_store (a := b17) (p := q17) (n := l17) (k := c17) (e := f17) hzK hv17d
            have hsb : Below Wf.heap.size Wf ((((V17x36).setCell ⟨V11x2.heap.size, 0, none⟩ (.bool b17)).setCell ⟨V11x2.heap.size, 1, none⟩ (.slice q17 l17 c17)).setCell ⟨V11x2.heap.size, 2, none⟩ (.int .i64 f17)) := Dy.below_set3 hqd hkK
            have hv10e := hv10d.set3 (i := 0) (j := 1) (k := 2) (a := b17) (p := q17) (n := l17) (c := c17) (e := f17) (num_nodig hzK)
            have hv11e := hv11d.set3 (i := 0) (j := 1) (k := 2) (a := b17) (p := q17) (n := l17) (c := c17) (e := f17) (num_nodig hzK)
            have hv12e := hv12d.set3 (i := 0) (j := 1) (k := 2) (a := b17) (p := q17) (n := l17) (c := c17) (e := f17) (num_nodig hzK)
            have hv13e := hv13d.set3 (i := 0) (j := 1) (k := 2) (a := b17) (p := q17) (n := l17) (c := c17) (e := f17) (num_nodig hzK)
            have hv14e := hv14d.set3 (i := 0) (j := 1) (k := 2) (a := b17) (p := q17) (n := l17) (c := c17) (e := f17) (num_nodig hzK)
            have hv15e := hv15d.set3 (i := 0) (j := 1) (k := 2) (a := b17) (p := q17) (n := l17) (c := c17) (e := f17) (num_nodig hzK)
            have hv16e := hv16d.set3 (i := 0) (j := 1) (k := 2) (a := b17) (p := q17) (n := l17) (c := c17) (e := f17) (num_nodig hzK)
            refine anyT_skipN hF1 (w2 := (((V17x36).setCell ⟨V11x2.heap.size, 0, none⟩ (.bool b17)).setCell ⟨V11x2.heap.size, 1, none⟩ (.slice q17 l17 c17)).setCell ⟨V11x2.heap.size, 2, none⟩ (.int .i64 f17)) rfl rfl (by kernel_rfl) (by kernel_rfl) rfl (by go_simp; try with_reducible rfl) ?_
            refine anyT_done (by kernel_rfl) ?_ _
            clear z0 z1 z2 zf
            generalize (((V17x36).setCell ⟨V11x2.heap.size, 0, none⟩ (.bool b17)).setCell ⟨V11x2.heap.size, 1, none⟩ (.slice q17 l17 c17)).setCell ⟨V11x2.heap.size, 2, none⟩ (.int .i64 f17) = Y0z36 at *
            replace hqd := hsb
            replace hv10d := hv10e
            replace hv11d := hv11e
            replace hv12d := hv12e
            replace hv13d := hv13e
            replace hv14d := hv14e
            replace hv15d := hv15e
            replace hv16d := hv16e
            replace hzK := hst.1
            replace hv17d := hst.2
            go_wp2_with fail
            go_meet
            exact ⟨V11x2.heap.size, _, _, _, _, _, rfl, hzK, hv17d, hqd⟩
        · skip
          refine opT_val hF1 13 10 (w2 := V10x1.alloc (.cells #[.bool false, .slice none 0 0, .int .i64 0] 75)) (v := .pointer (some ⟨V10x1.heap.size, 0, none⟩)) rfl rfl (by kernel_rfl) rfl (by go_simp; try with_reducible rfl) (HKS.out _ (low_trans hqd ((Below.refl V10x1.heap.size V10x1).alloc (Nat.le_refl _) _))) ?_
          simp only [List.setIfInBounds_toArray, List.set_cons_zero, List.set_cons_succ]
          have hba := (Below.refl V10x1.heap.size V10x1).alloc (Nat.le_refl _) (.cells #[.bool false, .slice none 0 0, .int .i64 0] 75)
          have hzK := World.alloc_heap_new V10x1 (.cells #[.bool false, .slice none 0 0, .int .i64 0] 75)
          have hkK := hqd.size
          replace hqd := low_trans hqd hba
          replace hS0 := HKS.out _ hqd
          replace hN1d := Dy.Nm.keep hN1d hba
          replace hN2d := Dy.Nm.keep hN2d hba
          replace hN9d := Dy.Nm.keep hN9d hba
          replace hv10d := Dy.Nm.keep hv10d hba
          generalize V10x1.alloc (.cells #[.bool false, .slice none 0 0, .int .i64 0] 75) = K37 at *
          refine anyT_l [4] (by kernel_rfl) (by decide) ⟨?_, trivial⟩
          refine opT_call hF1 (fun h => absurd h (by decide)) 4 51 (w := K37) rfl rfl (by kernel_rfl) (by rfl) (by go_simp; try with_reducible rfl; try decide) (callsIn_wide.2 (snumber_of K37 5020 (by unfold Dy.I64; omega) (HT.out.keep (low_trans HBx.out hqd)))) ?_
          rintro e9 V11x38 ⟨v11, rfl, hv11, hb11⟩
          replace hqd := low_trans hqd hb11
          replace hS0 := HKS.out V11x38 hqd
          replace hN1d := Dy.Nm.keep hN1d hb11
          replace hN2d := Dy.Nm.keep hN2d hb11
          replace hN9d := Dy.Nm.keep hN9d hb11
          replace hv10d := Dy.Nm.keep hv10d hb11
          replace hzK := blk1 hzK hb11
          obtain ⟨b11, q11, l11, c11, f11, m11, rfl, _, _⟩ := id (Dy.Nm.fields hv11)
          have hv11d := hv11
          refine ⟨_, rfl, hS0, ?_⟩
          simp only [List.setIfInBounds_toArray, List.set_cons_zero, List.set_cons_succ]
          refine anyT_l [5] (by kernel_rfl) (by decide) ⟨?_, trivial⟩
          refine opT_call hF1 (fun h => absurd h (by decide)) 5 52 (w := V11x38) rfl rfl (by kernel_rfl) (by rfl) (by go_simp; try with_reducible rfl; try decide) (callsIn_wide.2 (imul V11x38 _ _ 100000000000000 5020 502000000000000000 hv10d hv11d (by decide) (by decide) (by decide) (HT.out.keep (low_trans HBx.out hqd)))) ?_
          rintro e9 V12x39 ⟨v12, rfl, hv12, hb12⟩
          replace hqd := low_trans hqd hb12
          replace hS0 := HKS.out V12x39 hqd
          replace hN1d := Dy.Nm.keep hN1d hb12
          replace hN2d := Dy.Nm.keep hN2d hb12
          replace hN9d := Dy.Nm.keep hN9d hb12
          replace hv10d := Dy.Nm.keep hv10d hb12
          replace hv11d := Dy.Nm.keep hv11d hb12
          replace hzK := blk1 hzK hb12
          obtain ⟨b12, q12, l12, c12, f12, m12, rfl, _, _⟩ := id (Dy.Nm.fields hv12)
          have hv12d := hv12
          refine ⟨_, rfl, hS0, ?_⟩
          simp only [List.setIfInBounds_toArray, List.set_cons_zero, List.set_cons_succ]
          refine anyT_l [6] (by kernel_rfl) (by decide) ⟨?_, trivial⟩
          refine opT_call hF1 (fun h => absurd h (by decide)) 6 53 (w := V12x39) rfl rfl (by kernel_rfl) (by rfl) (by go_simp; try with_reducible rfl; try decide) (callsIn_wide.2 (iadd V12x39 _ _ 800000000000000000 502000000000000000 1302000000000000000 hN9d hv12d (by decide) (by decide) (by decide) (HT.out.keep (low_trans HBx.out hqd)))) ?_
          rintro e9 V13x40 ⟨v13, rfl, hv13, hb13⟩
          replace hqd := low_trans hqd hb13
          replace hS0 := HKS.out V13x40 hqd
          replace hN1d := Dy.Nm.keep hN1d hb13
          replace hN2d := Dy.Nm.keep hN2d hb13
          replace hN9d := Dy.Nm.keep hN9d hb13
          replace hv10d := Dy.Nm.keep hv10d hb13
          replace hv11d := Dy.Nm.keep hv11d hb13
          replace hv12d := Dy.Nm.keep hv12d hb13
          replace hzK := blk1 hzK hb13
          obtain ⟨b13, q13, l13, c13, f13, m13, rfl, _, _⟩ := id (Dy.Nm.fields hv13)
          have hv13d := hv13
          refine ⟨_, rfl, hS0, ?_⟩
          simp only [List.setIfInBounds_toArray, List.set_cons_zero, List.set_cons_succ]
          refine anyT_l [9] (by kernel_rfl) (by decide) ⟨?_, trivial⟩
          refine opT_call hF1 (fun h => absurd h (by decide)) 9 56 (w := V13x40) rfl rfl (by kernel_rfl) (by rfl) (by go_simp; try with_reducible rfl; try decide) (callsIn_wide.2 (imul V13x40 _ _ 10000000 10000000 100000000000000 hN1d hN1d (by decide) (by decide) (by decide) (HT.out.keep (low_trans HBx.out hqd)))) ?_
          rintro e9 V14x41 ⟨v14, rfl, hv14, hb14⟩
          replace hqd := low_trans hqd hb14
          replace hS0 := HKS.out V14x41 hqd
          replace hN1d := Dy.Nm.keep hN1d hb14
          replace hN2d := Dy.Nm.keep hN2d hb14
          replace hN9d := Dy.Nm.keep hN9d hb14
          replace hv10d := Dy.Nm.keep hv10d hb14
          replace hv11d := Dy.Nm.keep hv11d hb14
          replace hv12d := Dy.Nm.keep hv12d hb14
          replace hv13d := Dy.Nm.keep hv13d hb14
          replace hzK := blk1 hzK hb14
          obtain ⟨b14, q14, l14, c14, f14, m14, rfl, _, _⟩ := id (Dy.Nm.fields hv14)
          have hv14d := hv14
          refine ⟨_, rfl, hS0, ?_⟩
          simp only [List.setIfInBounds_toArray, List.set_cons_zero, List.set_cons_succ]
          refine anyT_l [10] (by kernel_rfl) (by decide) ⟨?_, trivial⟩
          refine opT_call hF1 (fun h => absurd h (by decide)) 10 57 (w := V14x41) rfl rfl (by kernel_rfl) (by rfl) (by go_simp; try with_reducible rfl; try decide) (callsIn_wide.2 (snumber_of V14x41 27 (by unfold Dy.I64; omega) (HT.out.keep (low_trans HBx.out hqd)))) ?_
          rintro e9 V15x42 ⟨v15, rfl, hv15, hb15⟩
          replace hqd := low_trans hqd hb15
          replace hS0 := HKS.out V15x42 hqd
          replace hN1d := Dy.Nm.keep hN1d hb15
          replace hN2d := Dy.Nm.keep hN2d hb15
          replace hN9d := Dy.Nm.keep hN9d hb15
          replace hv10d := Dy.Nm.keep hv10d hb15
          replace hv11d := Dy.Nm.keep hv11d hb15
          replace hv12d := Dy.Nm.keep hv12d hb15
          replace hv13d := Dy.Nm.keep hv13d hb15
          replace hv14d := Dy.Nm.keep hv14d hb15
          replace hzK := blk1 hzK hb15
          obtain ⟨b15, q15, l15, c15, f15, m15, rfl, _, _⟩ := id (Dy.Nm.fields hv15)
          have hv15d := hv15
          refine ⟨_, rfl, hS0, ?_⟩
          simp only [List.setIfInBounds_toArray, List.set_cons_zero, List.set_cons_succ]
          refine anyT_l [11] (by kernel_rfl) (by decide) ⟨?_, trivial⟩
          refine opT_call hF1 (fun h => absurd h (by decide)) 11 58 (w := V15x42) rfl rfl (by kernel_rfl) (by rfl) (by go_simp; try with_reducible rfl; try decide) (callsIn_wide.2 (imul V15x42 _ _ 100000000000000 27 2700000000000000 hv14d hv15d (by decide) (by decide) (by decide) (HT.out.keep (low_trans HBx.out hqd)))) ?_
          rintro e9 V16x43 ⟨v16, rfl, hv16, hb16⟩
          replace hqd := low_trans hqd hb16
          replace hS0 := HKS.out V16x43 hqd
          replace hN1d := Dy.Nm.keep hN1d hb16
          replace hN2d := Dy.Nm.keep hN2d hb16
          replace hN9d := Dy.Nm.keep hN9d hb16
          replace hv10d := Dy.Nm.keep hv10d hb16
          replace hv11d := Dy.Nm.keep hv11d hb16
          replace hv12d := Dy.Nm.keep hv12d hb16
          replace hv13d := Dy.Nm.keep hv13d hb16
          replace hv14d := Dy.Nm.keep hv14d hb16
          replace hv15d := Dy.Nm.keep hv15d hb16
          replace hzK := blk1 hzK hb16
          obtain ⟨b16, q16, l16, c16, f16, m16, rfl, _, _⟩ := id (Dy.Nm.fields hv16)
          have hv16d := hv16
          refine ⟨_, rfl, hS0, ?_⟩
          simp only [List.setIfInBounds_toArray, List.set_cons_zero, List.set_cons_succ]
          refine anyT_l [12] (by kernel_rfl) (by decide) ⟨?_, trivial⟩
          refine opT_call hF1 (fun h => absurd h (by decide)) 12 59 (w := V16x43) rfl rfl (by kernel_rfl) (by rfl) (by go_simp; try with_reducible rfl; try decide) (callsIn_wide.2 (isub V16x43 _ _ 1302000000000000000 2700000000000000 1299300000000000000 hv13d hv16d (by decide) (by decide) (by decide) (HT.out.keep (low_trans HBx.out hqd)))) ?_
          rintro e9 V17x44 ⟨v17, rfl, hv17, hb17⟩
          replace hqd := low_trans hqd hb17
          replace hS0 := HKS.out V17x44 hqd
          replace hN1d := Dy.Nm.keep hN1d hb17
          replace hN2d := Dy.Nm.keep hN2d hb17
          replace hN9d := Dy.Nm.keep hN9d hb17
          replace hv10d := Dy.Nm.keep hv10d hb17
          replace hv11d := Dy.Nm.keep hv11d hb17
          replace hv12d := Dy.Nm.keep hv12d hb17
          replace hv13d := Dy.Nm.keep hv13d hb17
          replace hv14d := Dy.Nm.keep hv14d hb17
          replace hv15d := Dy.Nm.keep hv15d hb17
          replace hv16d := Dy.Nm.keep hv16d hb17
          replace hzK := blk1 hzK hb17
          obtain ⟨b17, q17, l17, c17, f17, m17, rfl, _, _⟩ := id (Dy.Nm.fields hv17)
          have hv17d := hv17
          refine ⟨_, rfl, hS0, ?_⟩
          simp only [List.setIfInBounds_toArray, List.set_cons_zero, List.set_cons_succ]
          have z0 := cell_h (k := 0) hzK rfl
          have z1 := cell_h (k := 1) hzK rfl
          have z2 := cell_h (k := 2) hzK rfl
          have zf : ∀ o, V17x44.frozen? ⟨V10x1.heap.size, o, none⟩ = false := fun o => by simp [World.frozen?, hzK]
          have hst := num_store (a := b17) (p := q17) (n := l17) (k := c17) (e := f17) hzK hv17d
          have hsb : Below Wf.heap.size Wf ((((V17x44).setCell ⟨V10x1.heap.size, 0, none⟩ (.bool b17)).setCell ⟨V10x1.heap.size, 1, none⟩ (.slice q17 l17 c17)).setCell ⟨V10x1.heap.size, 2, none⟩ (.int .i64 f17)) := Dy.below_set3 hqd hkK
          have hv10e := hv10d.set3 (i := 0) (j := 1) (k := 2) (a := b17) (p := q17) (n := l17) (c := c17) (e := f17) (num_nodig hzK)
          have hv11e := hv11d.set3 (i := 0) (j := 1) (k := 2) (a := b17) (p := q17) (n := l17) (c := c17) (e := f17) (num_nodig hzK)
          have hv12e := hv12d.set3 (i := 0) (j := 1) (k := 2) (a := b17) (p := q17) (n := l17) (c := c17) (e := f17) (num_nodig hzK)
          have hv13e := hv13d.set3 (i := 0) (j := 1) (k := 2) (a := b17) (p := q17) (n := l17) (c := c17) (e := f17) (num_nodig hzK)
          have hv14e := hv14d.set3 (i := 0) (j := 1) (k := 2) (a := b17) (p := q17) (n := l17) (c := c17) (e := f17) (num_nodig hzK)
          have hv15e := hv15d.set3 (i := 0) (j := 1) (k := 2) (a := b17) (p := q17) (n := l17) (c := c17) (e := f17) (num_nodig hzK)
          have hv16e := hv16d.set3 (i := 0) (j := 1) (k := 2) (a := b17) (p := q17) (n := l17) (c := c17) (e := f17) (num_nodig hzK)
          refine anyT_skipN hF1 (w2 := (((V17x44).setCell ⟨V10x1.heap.size, 0, none⟩ (.bool b17)).setCell ⟨V10x1.heap.size, 1, none⟩ (.slice q17 l17 c17)).setCell ⟨V10x1.heap.size, 2, none⟩ (.int .i64 f17)) rfl rfl (by kernel_rfl) (by kernel_rfl) rfl (by go_simp; try with_reducible rfl) ?_
          refine anyT_done (by kernel_rfl) ?_ _
          clear z0 z1 z2 zf
          generalize (((V17x44).setCell ⟨V10x1.heap.size, 0, none⟩ (.bool b17)).setCell ⟨V10x1.heap.size, 1, none⟩ (.slice q17 l17 c17)).setCell ⟨V10x1.heap.size, 2, none⟩ (.int .i64 f17) = Y0z44 at *
          replace hqd := hsb
          replace hv10d := hv10e
          replace hv11d := hv11e
          replace hv12d := hv12e
          replace hv13d := hv13e
          replace hv14d := hv14e
          replace hv15d := hv15e
          replace hv16d := hv16e
          replace hzK := hst.1
          replace hv17d := hst.2
          go_wp2_with fail
          go_meet
          exact ⟨V10x1.heap.size, _, _, _, _, _, rfl, hzK, hv17d, hqd⟩
      · skip
        refine opT_val hF1 13 10 (w2 := Wd.alloc (.cells #[.bool false, .slice none 0 0, .int .i64 0] 75)) (v := .pointer (some ⟨Wd.heap.size, 0, none⟩)) rfl rfl (by kernel_rfl) rfl (by go_simp; try with_reducible rfl) (HKS.out _ (low_trans hqd ((Below.refl Wd.heap.size Wd).alloc (Nat.le_refl _) _))) ?_
        simp only [List.setIfInBounds_toArray, List.set_cons_zero, List.set_cons_succ]
        have hba := (Below.refl Wd.heap.size Wd).alloc (Nat.le_refl _) (.cells #[.bool false, .slice none 0 0, .int .i64 0] 75)
        have hzK := World.alloc_heap_new Wd (.cells #[.bool false, .slice none 0 0, .int .i64 0] 75)
        have hkK := hqd.size
        replace hqd := low_trans hqd hba
        replace hS0 := HKS.out _ hqd
        replace hN1d := Dy.Nm.keep hN1d hba
        replace hN2d := Dy.Nm.keep hN2d hba
        replace hN9d := Dy.Nm.keep hN9d hba
        generalize Wd.alloc (.cells #[.bool false, .slice none 0 0, .int .i64 0] 75) = K45 at *
        refine anyT_l [3] (by kernel_rfl) (by decide) ⟨?_, trivial⟩
        refine opT_call hF1 (fun h => absurd h (by decide)) 3 50 (w := K45) rfl rfl (by kernel_rfl) (by rfl) (by go_simp; try with_reducible rfl; try decide) (callsIn_wide.2 (imul K45 _ _ 10000000 10000000 100000000000000 hN1d hN2d (by decide) (by decide) (by decide) (HT.out.keep (low_trans HBx.out hqd)))) ?_
        rintro e9 V10x46 ⟨v10, rfl, hv10, hb10⟩
        replace hqd := low_trans hqd hb10
        replace hS0 := HKS.out V10x46 hqd
        replace hN1d := Dy.Nm.keep hN1d hb10
        replace hN2d := Dy.Nm.keep hN2d hb10
        replace hN9d := Dy.Nm.keep hN9d hb10
        replace hzK := blk1 hzK hb10
        obtain ⟨b10, q10, l10, c10, f10, m10, rfl, _, _⟩ := id (Dy.Nm.fields hv10)
        have hv10d := hv10
        refine ⟨_, rfl, hS0, ?_⟩
        simp only [List.setIfInBounds_toArray, List.set_cons_zero, List.set_cons_succ]
        refine anyT_l [4] (by kernel_rfl) (by decide) ⟨?_, trivial⟩
        refine opT_call hF1 (fun h => absurd h (by decide)) 4 51 (w := V10x46) rfl rfl (by kernel_rfl) (by rfl) (by go_simp; try with_reducible rfl; try decide) (callsIn_wide.2 (snumber_of V10x46 5020 (by unfold Dy.I64; omega) (HT.out.keep (low_trans HBx.out hqd)))) ?_
        rintro e9 V11x47 ⟨v11, rfl, hv11, hb11⟩
        replace hqd := low_trans hqd hb11
        replace hS0 := HKS.out V11x47 hqd
        replace hN1d := Dy.Nm.keep hN1d hb11
        replace hN2d := Dy.Nm.keep hN2d hb11
        replace hN9d := Dy.Nm.keep hN9d hb11
        replace hv10d := Dy.Nm.keep hv10d hb11
        replace hzK := blk1 hzK hb11
        obtain ⟨b11, q11, l11, c11, f11, m11, rfl, _, _⟩ := id (Dy.Nm.fields hv11)
        have hv11d := hv11
        refine ⟨_, rfl, hS0, ?_⟩
        simp only [List.setIfInBounds_toArray, List.set_cons_zero, List.set_cons_succ]
        refine anyT_l [5] (by kernel_rfl) (by decide) ⟨?_, trivial⟩
        refine opT_call hF1 (fun h => absurd h (by decide)) 5 52 (w := V11x47) rfl rfl (by kernel_rfl) (by rfl) (by go_simp; try with_reducible rfl; try decide) (callsIn_wide.2 (imul V11x47 _ _ 100000000000000 5020 502000000000000000 hv10d hv11d (by decide) (by decide) (by decide) (HT.out.keep (low_trans HBx.out hqd)))) ?_
        rintro e9 V12x48 ⟨v12, rfl, hv12, hb12⟩
        replace hqd := low_trans hqd hb12
        replace hS0 := HKS.out V12x48 hqd
        replace hN1d := Dy.Nm.keep hN1d hb12
        replace hN2d := Dy.Nm.keep hN2d hb12
        replace hN9d := Dy.Nm.keep hN9d hb12
        replace hv10d := Dy.Nm.keep hv10d hb12
        replace hv11d := Dy.Nm.keep hv11d hb12
        replace hzK := blk1 hzK hb12
        obtain ⟨b12, q12, l12, c12, f12, m12, rfl, _, _⟩ := id (Dy.Nm.fields hv12)
        have hv12d := hv12
        refine ⟨_, rfl, hS0, ?_⟩
        simp only [List.setIfInBounds_toArray, List.set_cons_zero, List.set_cons_succ]
        refine anyT_l [6] (by kernel_rfl) (by decide) ⟨?_, trivial⟩
        refine opT_call hF1 (fun h => absurd h (by decide)) 6 53 (w := V12x48) rfl rfl (by kernel_rfl) (by rfl) (by go_simp; try with_reducible rfl; try decide) (callsIn_wide.2 (iadd V12x48 _ _ 800000000000000000 502000000000000000 1302000000000000000 hN9d hv12d (by decide) (by decide) (by decide) (HT.out.keep (low_trans HBx.out hqd)))) ?_
        rintro e9 V13x49 ⟨v13, rfl, hv13, hb13⟩
        replace hqd := low_trans hqd hb13
        replace hS0 := HKS.out V13x49 hqd
        replace hN1d := Dy.Nm.keep hN1d hb13
        replace hN2d := Dy.Nm.keep hN2d hb13
        replace hN9d := Dy.Nm.keep hN9d hb13
        replace hv10d := Dy.Nm.keep hv10d hb13
        replace hv11d := Dy.Nm.keep hv11d hb13
        replace hv12d := Dy.Nm.keep hv12d hb13
        replace hzK := blk1 hzK hb13
        obtain ⟨b13, q13, l13, c13, f13, m13, rfl, _, _⟩ := id (Dy.Nm.fields hv13)
        have hv13d := hv13
        refine ⟨_, rfl, hS0, ?_⟩
        simp only [List.setIfInBounds_toArray, List.set_cons_zero, List.set_cons_succ]
        refine anyT_l [9] (by kernel_rfl) (by decide) ⟨?_, trivial⟩
        refine opT_call hF1 (fun h => absurd h (by decide)) 9 56 (w := V13x49) rfl rfl (by kernel_rfl) (by rfl) (by go_simp; try with_reducible rfl; try decide) (callsIn_wide.2 (imul V13x49 _ _ 10000000 10000000 100000000000000 hN1d hN1d (by decide) (by decide) (by decide) (HT.out.keep (low_trans HBx.out hqd)))) ?_
        rintro e9 V14x50 ⟨v14, rfl, hv14, hb14⟩
        replace hqd := low_trans hqd hb14
        replace hS0 := HKS.out V14x50 hqd
        replace hN1d := Dy.Nm.keep hN1d hb14
        replace hN2d := Dy.Nm.keep hN2d hb14
        replace hN9d := Dy.Nm.keep hN9d hb14
        replace hv10d := Dy.Nm.keep hv10d hb14
        replace hv11d := Dy.Nm.keep hv11d hb14
        replace hv12d := Dy.Nm.keep hv12d hb14
        replace hv13d := Dy.Nm.keep hv13d hb14
        replace hzK := blk1 hzK hb14
        obtain ⟨b14, q14, l14, c14, f14, m14, rfl, _, _⟩ := id (Dy.Nm.fields hv14)
        have hv14d := hv14
        refine ⟨_, rfl, hS0, ?_⟩
        simp only [List.setIfInBounds_toArray, List.set_cons_zero, List.set_cons_succ]
        refine anyT_l [10] (by kernel_rfl) (by decide) ⟨?_, trivial⟩
        refine opT_call hF1 (fun h => absurd h (by decide)) 10 57 (w := V14x50) rfl rfl (by kernel_rfl) (by rfl) (by go_simp; try with_reducible rfl; try decide) (callsIn_wide.2 (snumber_of V14x50 27 (by unfold Dy.I64; omega) (HT.out.keep (low_trans HBx.out hqd)))) ?_
        rintro e9 V15x51 ⟨v15, rfl, hv15, hb15⟩
        replace hqd := low_trans hqd hb15
        replace hS0 := HKS.out V15x51 hqd
        replace hN1d := Dy.Nm.keep hN1d hb15
        replace hN2d := Dy.Nm.keep hN2d hb15
        replace hN9d := Dy.Nm.keep hN9d hb15
        replace hv10d := Dy.Nm.keep hv10d hb15
        replace hv11d := Dy.Nm.keep hv11d hb15
        replace hv12d := Dy.Nm.keep hv12d hb15
        replace hv13d := Dy.Nm.keep hv13d hb15
        replace hv14d := Dy.Nm.keep hv14d hb15
        replace hzK := blk1 hzK hb15
        obtain ⟨b15, q15, l15, c15, f15, m15, rfl, _, _⟩ := id (Dy.Nm.fields hv15)
        have hv15d := hv15
        refine ⟨_, rfl, hS0, ?_⟩
        simp only [List.setIfInBounds_toArray, List.set_cons_zero, List.set_cons_succ]
        refine anyT_l [11] (by kernel_rfl) (by decide) ⟨?_, trivial⟩
        refine opT_call hF1 (fun h => absurd h (by decide)) 11 58 (w := V15x51) rfl rfl (by kernel_rfl) (by rfl) (by go_simp; try with_reducible rfl; try decide) (callsIn_wide.2 (imul V15x51 _ _ 100000000000000 27 2700000000000000 hv14d hv15d (by decide) (by decide) (by decide) (HT.out.keep (low_trans HBx.out hqd)))) ?_
        rintro e9 V16x52 ⟨v16, rfl, hv16, hb16⟩
        replace hqd := low_trans hqd hb16
        replace hS0 := HKS.out V16x52 hqd
        replace hN1d := Dy.Nm.keep hN1d hb16
        replace hN2d := Dy.Nm.keep hN2d hb16
        replace hN9d := Dy.Nm.keep hN9d hb16
        replace hv10d := Dy.Nm.keep hv10d hb16
        replace hv11d := Dy.Nm.keep hv11d hb16
        replace hv12d := Dy.Nm.keep hv12d hb16
        replace hv13d := Dy.Nm.keep hv13d hb16
        replace hv14d := Dy.Nm.keep hv14d hb16
        replace hv15d := Dy.Nm.keep hv15d hb16
        replace hzK := blk1 hzK hb16
        obtain ⟨b16, q16, l16, c16, f16, m16, rfl, _, _⟩ := id (Dy.Nm.fields hv16)
        have hv16d := hv16
        refine ⟨_, rfl, hS0, ?_⟩
        simp only [List.setIfInBounds_toArray, List.set_cons_zero, List.set_cons_succ]
        refine anyT_l [12] (by kernel_rfl) (by decide) ⟨?_, trivial⟩
        refine opT_call hF1 (fun h => absurd h (by decide)) 12 59 (w := V16x52) rfl rfl (by kernel_rfl) (by rfl) (by go_simp; try with_reducible rfl; try decide) (callsIn_wide.2 (isub V16x52 _ _ 1302000000000000000 2700000000000000 1299300000000000000 hv13d hv16d (by decide) (by decide) (by decide) (HT.out.keep (low_trans HBx.out hqd)))) ?_
        rintro e9 V17x53 ⟨v17, rfl, hv17, hb17⟩
        replace hqd := low_trans hqd hb17
        replace hS0 := HKS.out V17x53 hqd
        replace hN1d := Dy.Nm.keep hN1d hb17
        replace hN2d := Dy.Nm.keep hN2d hb17
        replace hN9d := Dy.Nm.keep hN9d hb17
        replace hv10d := Dy.Nm.keep hv10d hb17
        replace hv11d := Dy.Nm.keep hv11d hb17
        replace hv12d := Dy.Nm.keep hv12d hb17
        replace hv13d := Dy.Nm.keep hv13d hb17
        replace hv14d := Dy.Nm.keep hv14d hb17
        replace hv15d := Dy.Nm.keep hv15d hb17
        replace hv16d := Dy.Nm.keep hv16d hb17
        replace hzK := blk1 hzK hb17
        obtain ⟨b17, q17, l17, c17, f17, m17, rfl, _, _⟩ := id (Dy.Nm.fields hv17)
        have hv17d := hv17
        refine ⟨_, rfl, hS0, ?_⟩
        simp only [List.setIfInBounds_toArray, List.set_cons_zero, List.set_cons_succ]
        have z0 := cell_h (k := 0) hzK rfl
        have z1 := cell_h (k := 1) hzK rfl
        have z2 := cell_h (k := 2) hzK rfl
        have zf : ∀ o, V17x53.frozen? ⟨Wd.heap.size, o, none⟩ = false := fun o => by simp [World.frozen?, hzK]
        have hst := num_store (a := b17) (p := q17) (n := l17) (k := c17) (e := f17) hzK hv17d
        have hsb : Below Wf.heap.size Wf ((((V17x53).setCell ⟨Wd.heap.size, 0, none⟩ (.bool b17)).setCell ⟨Wd.heap.size, 1, none⟩ (.slice q17 l17 c17)).setCell ⟨Wd.heap.size, 2, none⟩ (.int .i64 f17)) := Dy.below_set3 hqd hkK
        have hv10e := hv10d.set3 (i := 0) (j := 1) (k := 2) (a := b17) (p := q17) (n := l17) (c := c17) (e := f17) (num_nodig hzK)
        have hv11e := hv11d.set3 (i := 0) (j := 1) (k := 2) (a := b17) (p := q17) (n := l17) (c := c17) (e := f17) (num_nodig hzK)
        have hv12e := hv12d.set3 (i := 0) (j := 1) (k := 2) (a := b17) (p := q17) (n := l17) (c := c17) (e := f17) (num_nodig hzK)
        have hv13e := hv13d.set3 (i := 0) (j := 1) (k := 2) (a := b17) (p := q17) (n := l17) (c := c17) (e := f17) (num_nodig hzK)
        have hv14e := hv14d.set3 (i := 0) (j := 1) (k := 2) (a := b17) (p := q17) (n := l17) (c := c17) (e := f17) (num_nodig hzK)
        have hv15e := hv15d.set3 (i := 0) (j := 1) (k := 2) (a := b17) (p := q17) (n := l17) (c := c17) (e := f17) (num_nodig hzK)
        have hv16e := hv16d.set3 (i := 0) (j := 1) (k := 2) (a := b17) (p := q17) (n := l17) (c := c17) (e := f17) (num_nodig hzK)
        refine anyT_skipN hF1 (w2 := (((V17x53).setCell ⟨Wd.heap.size, 0, none⟩ (.bool b17)).setCell ⟨Wd.heap.size, 1, none⟩ (.slice q17 l17 c17)).setCell ⟨Wd.heap.size, 2, none⟩ (.int .i64 f17)) rfl rfl (by kernel_rfl) (by kernel_rfl) rfl (by go_simp; try with_reducible rfl) ?_
        refine anyT_done (by kernel_rfl) ?_ _
        clear z0 z1 z2 zf
        generalize (((V17x53).setCell ⟨Wd.heap.size, 0, none⟩ (.bool b17)).setCell ⟨Wd.heap.size, 1, none⟩ (.slice q17 l17 c17)).setCell ⟨Wd.heap.size, 2, none⟩ (.int .i64 f17) = Y0z53 at *
        replace hqd := hsb
        replace hv10d := hv10e
        replace hv11d := hv11e
        replace hv12d := hv12e
        replace hv13d := hv13e
        replace hv14d := hv14e
        replace hv15d := hv15e
        replace hv16d := hv16e
        replace hzK := hst.1
        replace hv17d := hst.2
        go_wp2_with fail
        go_meet
        exact ⟨Wd.heap.size, _, _, _, _, _, rfl, hzK, hv17d, hqd⟩
    case rest =>
      obtain ⟨K, b6, q6, l6, c6, f6, rfl, hK, hN, hBw⟩ := hcut
      replace HZ9 := Lib.hid (blk1 HZ9.out hBw)
      replace HN9 := Lib.hid (Dy.Nm.keep HN9.out hBw)
      replace HR1 := Lib.hid (blk1 HR1.out hBw)
      replace HBx := Lib.hid (low_trans HBx.out hBw)
      have g0 := cell_h (k := 0) HZ9.out rfl
      have g1 := cell_h (k := 1) HZ9.out rfl
      have g2 := cell_h (k := 2) HZ9.out rfl
      have k0 := cell_h (k := 0) hK rfl
      have k1 := cell_h (k := 1) hK rfl
      have k2 := cell_h (k := 2) hK rfl
      have HN := Lib.hid hN
      clear hBw HK1 HK2 HN1 HN2 HKS hK hN
      have HQ : Hid (∀ V, Below wc.heap.size wc V → Calls Tryz.prog 100 #[.agg #[.bool b6, .slice q6 l6 c6, .int .i64 f6], .agg #[.bool b9, .slice q9 l9 c9, .int .i64 f9], .int .i64 20] V (Dy.Ret2 V fun w' v e => e = .int .i64 0 ∧ Dy.Sp w' v (Dy.mk ((1703018 : Nat) : Int) (-20)) (Dy.mk ((1703019 : Nat) : Int) (-20)))) := fun V hV => by
        refine (quo20 V _ _ 1299300000000000000 800000000000000000 (Dy.Nm.keep HN.out hV) (Dy.Nm.keep HN9.out hV) (by decide) (by decide) (by decide) (by decide) (HT.out.keep (low_trans HBx.out hV))).mono ?_
        rintro e w' ⟨v, e', rfl, ⟨rfl, ex, hs, hx⟩, hb⟩
        rw [show decide (1299300000000000000 * 2 ^ 20 % 800000000000000000 = 0) = false by decide] at hx
        subst hx
        rw [rLo_eq, rHi_eq, show 1299300000000000000 * 2 ^ 20 / 800000000000000000 = 1703018 by decide] at hs
        exact ⟨v, _, rfl, ⟨rfl, hs⟩, hb⟩
      go_wp2_with fail
      refine (squot_of wc _ _ 20 _ _ _ _ HN.out HN9.out HQ.out).mono ?_
      rintro e Va ⟨va, rfl, hva, hba⟩
      obtain ⟨b1, q1, l1, c1, f1, B1, Q1, L1, C1, F1, rfl, _, _⟩ := id hva
      have HVa := Lib.hid hva
      replace HR1 := Lib.hid (blk1 HR1.out hba)
      replace HBx := Lib.hid (low_trans HBx.out hba)
      clear hva hba g0 g1 g2 k0 k1 k2 HN HN9 HZ9 HQ
      go_wp2_with fail
      refine (sroot_of Va _ 1703018 1703019 HVa.out (by decide) (by decide) (by decide) (by decide) (HT.out.keep HBx.out)).mono ?_
      rintro e Vb ⟨vb, e9, rfl, ⟨rfl, r, r', hr, hr', hvb⟩, hbb⟩
      have HX : Hid ((0 < r ∧ r < 2 ^ 40) ∧ (0 < r' ∧ r' < 2 ^ 41)) := ⟨hr, hr'⟩
      obtain ⟨b3, q3, l3, c3, f3, B3, Q3, L3, C3, F3, rfl, _, _⟩ := id hvb
      have HVb := Lib.hid hvb
      replace HR1 := Lib.hid (blk1 HR1.out hbb)
      replace HBx := Lib.hid (low_trans HBx.out hbb)
      clear hvb hbb HVa hr hr'
      go_upto_region 7 with fail
      have ha := (Below.refl Vb.heap.size Vb).alloc (Nat.le_refl _) (.cells #[.bool b3, .slice q3 l3 c3, .int .i64 f3, .bool B3, .slice Q3 L3 C3, .int .i64 F3] 116)
      have hN2 := World.alloc_heap_new Vb (.cells #[.bool b3, .slice q3 l3 c3, .int .i64 f3, .bool B3, .slice Q3 L3 C3, .int .i64 F3] 116)
      have hR7 := blk1 HR1.out ha
      have hb7 := low_trans HBx.out ha
      have hs3 := Dy.Sp.keep HVb.out ha
      have hl9 : w.heap.size + 1 < Vb.heap.size := (Array.getElem?_eq_some_iff.1 HR1.out).1
      clear ha HVb HR1 HBx
      generalize Vb.alloc (.cells #[.bool b3, .slice q3 l3 c3, .int .i64 f3, .bool B3, .slice Q3 L3 C3, .int .i64 F3] 116) = V3 at *
      generalize Vb.heap.size = nb at *
      have u0 := cell_h (k := 0) hN2 rfl
      have u1 := cell_h (k := 1) hN2 rfl
      have u2 := cell_h (k := 2) hN2 rfl
      have u3 := cell_h (k := 3) hN2 rfl
      have u4 := cell_h (k := 4) hN2 rfl
      have u5 := cell_h (k := 5) hN2 rfl
      clear hN2
      have HA := Lib.hid (set6_all (b1 := b3) (q1 := q3) (l1 := l3) (c1 := c3) (f1 := f3) (b2 := B3) (q2 := Q3) (l2 := L3) (c2 := C3) (f2 := F3) hR7 hb7 (by omega : w.heap.size ≤ w.heap.size + 1))
      have z0 := cell_h (k := 0) hR7 rfl
      have z1 := cell_h (k := 1) hR7 rfl
      have z2 := cell_h (k := 2) hR7 rfl
      have z3 := cell_h (k := 3) hR7 rfl
      have z4 := cell_h (k := 4) hR7 rfl
      have z5 := cell_h (k := 5) hR7 rfl
      have zf : ∀ o, V3.frozen? ⟨w.heap.size + 1, o, none⟩ = false := fun o => by simp [World.frozen?, hR7]
      have HS3 := Lib.hid hs3
      clear hR7 hb7 hs3
      go_wp2_with fail
      generalize hW9 : (((((V3.setCell ⟨w.heap.size + 1, 0, none⟩ (.bool b3)).setCell ⟨w.heap.size + 1, 1, none⟩ (.slice q3 l3 c3)).setCell ⟨w.heap.size + 1, 2, none⟩ (.int .i64 f3)).setCell ⟨w.heap.size + 1, 3, none⟩ (.bool B3)).setCell ⟨w.heap.size + 1, 4, none⟩ (.slice Q3 L3 C3)).setCell ⟨w.heap.size + 1, 5, none⟩ (.int .i64 F3) = W9
      obtain ⟨hR9, hB9, hS9, _⟩ := HA.out W9 hW9
      have y0 := cell_h (k := 0) hR9 rfl
      have y1 := cell_h (k := 1) hR9 rfl
      have y2 := cell_h (k := 2) hR9 rfl
      have y3 := cell_h (k := 3) hR9 rfl
      have y4 := cell_h (k := 4) hR9 rfl
      have y5 := cell_h (k := 5) hR9 rfl
      exact bodyPost_ret (v := .agg #[.bool b3, .slice q3 l3 c3, .int .i64 f3, .bool B3, .slice Q3 L3 C3, .int .i64 F3]) (by simp [results, Tryz.results132, go_sem, y0, y1, y2, y3, y4, y5]) rfl ⟨_, rfl, ⟨r, r', HX.out.1, HX.out.2, hS9 _ _ _ HS3.out⟩, hB9⟩
end Go.Proofs.YtlphlbgbbblnpaaGreatDoor
