/-
  WALKS: the law of GrowthTriples.
-/
import Derived.Test.YtlbffdgojmjijaaGreatDoorGtB
namespace Go.Proofs.YtlbffdgojmjijaaGreatDoor
open Go.RowKit

theorem blk_keep {W V : World} {B : Nat} {o : Obj} (h : W.heap[B]? = some o) (hb : Below W.heap.size W V) : V.heap[B]? = some o := (hb.block B (Array.getElem?_eq_some_iff.1 h).1).trans h
theorem lf_at {l : List Nat} {j : Nat} (h : j < l.length) : ∃ z, z ∈ l ∧ lf l j = (z : Int) :=
  ⟨l[j], List.getElem_mem h, by unfold lf; rw [List.getD, List.getElem?_eq_getElem h]; rfl⟩
theorem tk_succ (l : List Tri) (k : Nat) (h : k < l.length) (u : Tri) : decide (u ∈ l.take (k + 1)) = (decide (u ∈ l.take k) || decide (l[k] = u)) := by
  have e : l.take (k + 1) = l.take k ++ [l[k]] := by rw [List.take_add_one, List.getElem?_eq_getElem h]; rfl
  rw [e]
  generalize l.take k = L
  generalize l[k] = v
  by_cases h1 : u ∈ L <;> by_cases h2 : v = u
  · simp [h1]
  · simp [h1]
  · simp [h2]
  · have h3 : ¬ u = v := fun e => h2 e.symm
    simp [h1, h2, h3]

set_option maxRecDepth 100000 in
set_option maxHeartbeats 8000000 in
theorem growthTriples_law (w : World) (a b : Option Addr) (n m ca cb : Nat) (s t : Nat → Int) (i k q : Int) (hn : n ≤ maxLen) (hm : m ≤ maxLen) (hs : bpok s n) (ht : bpok t m) (hS : Sb w a n s) (hR : Sb w b m t)
    (hi : 0 ≤ i ∧ i ≤ 255) (hk : 0 ≤ k ∧ k ≤ 255) (hq : 0 ≤ q ∧ q ≤ 255) (hT : Dy.Tab w) (hP : Dy.Pow w) :
    Calls Tryz.prog 7 #[.slice a n ca, .slice b m cb, .int .u8 i, .int .u8 k, .int .u8 q] w fun e w' => e = .returned (.bool true) ∧ Below w.heap.size w w' := by
  have HK : Hid (∀ V, Below w.heap.size w V → Calls Tryz.prog 8 #[] V fun e w' => e = .returned (.bool true) ∧ Below V.heap.size V w') := fun V hV => awake8_of V (hT.keep hV) (hP.keep hV)
  have HS := Lib.hid hS
  have HR := Lib.hid hR
  have HSs := Lib.hid hs
  have HTt := Lib.hid ht
  clear hT hP hS hR hs ht
  have hn2 : (n : Int) ≤ 9223372036854775807 := by unfold maxLen at hn; omega
  have hm2 : (m : Int) ≤ 9223372036854775807 := by unfold maxLen at hm; omega
  by_cases hg : n ≤ 20 ∧ m ≤ 20
  rotate_left
  · rcases (by omega : 20 < n ∨ (n ≤ 20 ∧ 20 < m)) with h | ⟨h1, h2⟩
    all_goals
      go_enter Tryz.func7, Tryz.ntmps7
      go_wp2_with fail
      refine (HK.out w (Below.refl _ _)).mono ?_
      rintro e W3 ⟨rfl, hb⟩
      have HB3 := Lib.hid hb
      clear hb
      go_wp2_with fail
      go_ret
      exact ⟨rfl, HB3.out⟩
  obtain ⟨h1, h2⟩ := hg
  go_enter Tryz.func7, Tryz.ntmps7
  go_wp2_with fail
  refine (whole_of w a n ca s h1 HSs.out HS.out).mono ?_
  rintro e W1 ⟨x, cx, rfl, hx, hb⟩
  have HB1 := Lib.hid hb
  have HX1 := Lib.hid hx
  have HR1 := Lib.hid (HR.out.keep hb)
  clear hx hb HS HR
  go_wp2_with fail
  refine (whole_of W1 b m cb t h2 HTt.out HR1.out).mono ?_
  rintro e W2 ⟨y, cy, rfl, hy, hb⟩
  have HB2 := Lib.hid (low_trans HB1.out hb)
  have HX2 := Lib.hid (HX1.out.keep (by decide) hb)
  have HY2 := Lib.hid hy
  clear hy hb HX1 HR1 HB1
  go_wp2_with fail
  refine (gChain_of W2 x y n m cx cy (bpF s) (bpF t) (by omega) (by omega) HX2.out HY2.out).mono ?_
  rintro e W3 ⟨lx, lc, rfl, hx, hb⟩
  have HB3 := Lib.hid (low_trans HB2.out hb)
  have HX3 := Lib.hid (HX2.out.keep (by decide) hb)
  have HY3 := Lib.hid (HY2.out.keep (by decide) hb)
  have HL3 := Lib.hid hx
  clear hx hb HX2 HY2 HB2
  rcases chE_bp s t (n := n) (m := m) (by omega) (by omega) with hE | hE
  rotate_left
  · rw [hE]
    clear hE HL3
    go_wp2_with fail
    refine (HK.out W3 HB3.out).mono ?_
    rintro e W4 ⟨rfl, hb⟩
    have HB4 := Lib.hid (low_trans HB3.out hb)
    clear hb
    go_wp2_with fail
    go_ret
    exact ⟨rfl, HB4.out⟩
  have hfz := chE_zero (by omega) (by omega) hE
  have HPz : Hid (∀ j, j < n → pErr 24 24 (bpF s) j = 0) := first_all hfz
  have hTr : chT (bpF s) (bpF t) n m = tris (bpF s) (bpF t) m n := by unfold chT; rw [if_pos hE]
  have HAE : Hid (alE 24 24 (bpF s) n = 0) := by unfold alE; rw [if_pos ⟨⟨by decide, by decide⟩, by decide, by decide⟩]; exact hfz
  rw [hTr] at HL3
  rw [hE, hTr]
  have hll := tris_len (bpF s) (bpF t) m (by omega) n
  have HTri : Hid (∀ u0 u1 u2, (u0, u1, u2) ∈ tris (bpF s) (bpF t) m n ↔ hp (bpF s) n u0 u1 = true ∧ hp (bpF t) m u1 u2 = true) := fun u0 u1 u2 => tris_iff
  clear hE hTr hfz HSs HTt
  generalize tris (bpF s) (bpF t) m n = l at *
  generalize bpF s = f at *
  generalize bpF t = g at *
  go_wp2_with fail
  have ea : 0 ≤ i % 24 ∧ 0 ≤ k % 24 ∧ 0 ≤ q % 24 := by omega
  clear hi hk hq
  generalize i % 24 = u0 at ea ⊢
  generalize k % 24 = u1 at ea ⊢
  generalize q % 24 = u2 at ea ⊢
  have hU := World.alloc_heap_new W3 (.cells #[.int .i64 u0, .int .i64 u1, .int .i64 u2] 54)
  have hBU := (Below.refl W3.heap.size W3).alloc (Nat.le_refl _) (.cells #[.int .i64 u0, .int .i64 u1, .int .i64 u2] 54)
  have HX4 := Lib.hid (HX3.out.keep (by decide) hBU)
  have HY4 := Lib.hid (HY3.out.keep (by decide) hBU)
  have HL4 := Lib.hid (HL3.out.keep (by decide) hBU)
  have HB4 := Lib.hid (low_trans HB3.out hBU)
  clear HX3 HY3 HL3 HB3 hBU
  generalize W3.alloc (.cells #[.int .i64 u0, .int .i64 u1, .int .i64 u2] 54) = W4 at hU HX4 HY4 HL4 HB4 ⊢
  generalize W3.heap.size = B at hU ⊢
  have HU := Lib.hid hU
  clear hU
  go_loopw [18, 69] (fun vi vj wr => ∃ j : Nat, j ≤ l.length ∧ vj = .int .i64 j ∧ vi = .bool (decide ((u0, u1, u2) ∈ l.take j)) ∧ Hid (Below W4.heap.size W4 wr)) (fun _ vj _ => l.length - (intOf vj).toNat)
  case atStart => exact ⟨0, by omega, rfl, by simp, Below.refl _ _⟩
  case round =>
    obtain ⟨j, hj, rfl, rfl, HB⟩ := hrel
    by_cases hlt : j < l.length
    · have HX := Lib.hid (HX4.out.keep (by decide) HB.out)
      have HY := Lib.hid (HY4.out.keep (by decide) HB.out)
      have HUr := Lib.hid (blk_keep HU.out HB.out)
      obtain ⟨b1, o1, rfl, k1⟩ := HL4.out (by omega)
      have k2 := k1.keep HB.out (k1.lt (by omega))
      have d0 := k2 (j * 3) (by omega)
      have d1 := k2.at (j * 3) 1 (by omega)
      have d2 := k2.at (j * 3) 2 (by omega)
      have hT3 := tf_at l j hlt
      have HTk := Lib.hid (tk_succ l j hlt (u0, u1, u2))
      have hmem : l[j] ∈ l := List.getElem_mem hlt
      obtain ⟨⟨z0, z1, z2⟩, hz⟩ : ∃ z, l[j] = z := ⟨_, rfl⟩
      rw [hz] at hT3 hmem HTk
      rw [hT3.1] at d0
      rw [hT3.2.1] at d1
      rw [hT3.2.2] at d2
      dsimp only at d0 d1 d2
      have HM := Lib.hid ((HTri.out z0 z1 z2).1 hmem)
      clear k1 k2 hT3 hmem hz
      go_upto_region 14 with fail
      have hA := World.alloc_heap_new wr (.cells #[.int .i64 z0, .int .i64 z1, .int .i64 z2] 54)
      have hBA := (Below.refl wr.heap.size wr).alloc (Nat.le_refl _) (.cells #[.int .i64 z0, .int .i64 z1, .int .i64 z2] 54)
      have HX5 := Lib.hid (HX.out.keep (by decide) hBA)
      have HY5 := Lib.hid (HY.out.keep (by decide) hBA)
      have HU5 := Lib.hid (blk_keep HUr.out hBA)
      have HB5 := Lib.hid (low_trans HB.out hBA)
      clear d0 d1 d2 HX HY HUr HB hBA
      generalize wr.alloc (.cells #[.int .i64 z0, .int .i64 z1, .int .i64 z2] 54) = V5 at hA HX5 HY5 HU5 HB5 ⊢
      generalize wr.heap.size = B2 at hA ⊢
      have HA := Lib.hid hA
      clear hA
      have e0 := cell_h (k := 0) HA.out rfl
      have e1 := cell_h (k := 1) HA.out rfl
      have e2 := cell_h (k := 2) HA.out rfl
      have g0 := cell_h (k := 0) HU5.out rfl
      have g1 := cell_h (k := 1) HU5.out rfl
      have g2 := cell_h (k := 2) HU5.out rfl
      have heq := fun V => eq_three V z0 z1 z2 u0 u1 u2
      obtain ⟨r, hr⟩ : ∃ r, decide ((u0, u1, u2) ∈ l.take j) = r := ⟨_, rfl⟩
      obtain ⟨r2, hr2⟩ : ∃ r, decide ((z0, z1, z2) = (u0, u1, u2)) = r := ⟨_, rfl⟩
      rw [hr2] at heq HTk
      rw [hr] at HTk ⊢
      clear hr hr2
      have hB2 : B2 < V5.heap.size := (Array.getElem?_eq_some_iff.1 HA.out).1
      cases r with
      | true =>
        go_wp2_with fail
        refine (has_of V5 x n cx f z0 z1 (by omega) HX5.out).mono ?_
        rw [HM.out.1]
        rintro e V6 ⟨rfl, hb⟩
        have e1 := cell_h (k := 1) (blk_keep HA.out hb) rfl
        have e2 := cell_h (k := 2) (blk_keep HA.out hb) rfl
        have HB6 := Lib.hid (low_trans HB5.out hb)
        have HY6 := Lib.hid (HY5.out.keep (by decide) hb)
        clear hb
        go_wp2_with fail
        refine (has_of V6 y m cy g z1 z2 (by omega) HY6.out).mono ?_
        rw [HM.out.2]
        rintro e V7 ⟨rfl, hb⟩
        have HB7 := Lib.hid (low_trans HB6.out hb)
        clear hb
        go_wp2_with fail
        exact ⟨⟨j + 1, by omega, by go_num, by rw [HTk.out]; rfl, HB7.out⟩, by simp [intOf]; omega⟩
      | false =>
        go_wp2_with fail
        refine (has_of V5 x n cx f z0 z1 (by omega) HX5.out).mono ?_
        rw [HM.out.1]
        rintro e V6 ⟨rfl, hb⟩
        have e1 := cell_h (k := 1) (blk_keep HA.out hb) rfl
        have e2 := cell_h (k := 2) (blk_keep HA.out hb) rfl
        have HB6 := Lib.hid (low_trans HB5.out hb)
        have HY6 := Lib.hid (HY5.out.keep (by decide) hb)
        clear hb
        go_wp2_with fail
        refine (has_of V6 y m cy g z1 z2 (by omega) HY6.out).mono ?_
        rw [HM.out.2]
        rintro e V7 ⟨rfl, hb⟩
        have HB7 := Lib.hid (low_trans HB6.out hb)
        clear hb
        go_wp2_with fail
        exact ⟨⟨j + 1, by omega, by go_num, by rw [HTk.out]; rfl, HB7.out⟩, by simp [intOf]; omega⟩
    · obtain rfl : j = l.length := by omega
      rw [List.take_length]
      have HX := Lib.hid (HX4.out.keep (by decide) HB.out)
      have HY := Lib.hid (HY4.out.keep (by decide) HB.out)
      have HUr := Lib.hid (blk_keep HU.out HB.out)
      have HBr := Lib.hid (HB4.out.trans (HB.out.mono HB4.out.size))
      have hw := HTri.out u0 u1 u2
      have g0 := cell_h (k := 0) HUr.out rfl
      have g1 := cell_h (k := 1) HUr.out rfl
      have g2 := cell_h (k := 2) HUr.out rfl
      obtain ⟨r1, hr1⟩ : ∃ r, hp f n u0 u1 = r := ⟨_, rfl⟩
      obtain ⟨r2, hr2⟩ : ∃ r, hp g m u1 u2 = r := ⟨_, rfl⟩
      rw [hr1, hr2] at hw
      have hw2 : decide ((u0, u1, u2) ∈ l) = (r1 && r2) := by
        by_cases h : (u0, u1, u2) ∈ l
        · rw [decide_eq_true h]; have := hw.1 h; rw [this.1, this.2]; rfl
        · rw [decide_eq_false h]
          cases r1 <;> cases r2 <;> first | rfl | exact absurd (hw.2 ⟨rfl, rfl⟩) h
      rw [hw2]
      have HR1 := Lib.hid hr1
      have HR2 := Lib.hid hr2
      clear hw hw2 hr1 hr2 HX4 HY4 HL4 HB4 HU HB HTri
      go_wp2_with fail
      refine (has_of wr x n cx f u0 u1 (by omega) HX.out).mono ?_
      rw [HR1.out]
      rintro e V1 ⟨rfl, hb⟩
      have g1' := cell_h (k := 1) (blk_keep HUr.out hb) rfl
      have g2' := cell_h (k := 2) (blk_keep HUr.out hb) rfl
      have HY1 := Lib.hid (HY.out.keep (by decide) hb)
      have HX1 := Lib.hid (HX.out.keep (by decide) hb)
      have HB1 := Lib.hid (low_trans HBr.out hb)
      clear hb g0 g1 g2 HX HY HBr HUr HR1
      cases r1
      case' false =>
        rw [Bool.false_and]
        go_wp2_with fail
        generalize V1 = V at *
        have HXz := HX1
        have HBz := HB1
        clear HX1 HB1
      case' true =>
        rw [Bool.true_and]
        go_wp2_with fail
        refine (has_of V1 y m cy g u1 u2 (by omega) HY1.out).mono ?_
        rw [HR2.out]
        rintro e V ⟨rfl, hb⟩
        have HXz := Lib.hid (HX1.out.keep (by decide) hb)
        have HBz := Lib.hid (low_trans HB1.out hb)
        clear hb HX1 HB1 HR2
        cases r2
      all_goals (try go_wp2_with fail)
      all_goals
        refine (gAlone_of V 24 24 x n cx f (by omega) HXz.out).mono ?_
        rintro e V2 ⟨gx, gc, fx, fc, rfl, hgx, hfx, hb⟩
        rw [HAE.out] at hgx hfx ⊢
        have e0 : als 0 f n 0 24 = lone f n 0 24 := by unfold als; rw [if_pos rfl]; rfl
        have e1 : als 0 f n 1 24 = lone f n 1 24 := by unfold als; rw [if_pos rfl]; rfl
        rw [e0] at hgx ⊢
        rw [e1] at hfx ⊢
        have HBa := Lib.hid (low_trans HBz.out hb)
        have HXa := Lib.hid (HXz.out.keep (by decide) hb)
        have HGx := Lib.hid hgx
        have HFx := Lib.hid hfx
        have hl0 := lone_cnt (side := 0) (.inl rfl) HPz.out
        have hl1 := lone_cnt (side := 1) (.inr rfl) HPz.out
        have HN0 : Hid (∀ z ∈ lone f n 0 24, ∀ j, j < n → f (j * 2) ≠ (z : Int)) := fun z hz j hj => lone_not hz hj
        have HN1 : Hid (∀ z ∈ lone f n 1 24, ∀ j, j < n → f (j * 2 + 1) ≠ (z : Int)) := fun z hz j hj => lone_not hz hj
        clear e0 e1 hgx hfx hb HXz HBz
        generalize lone f n 0 24 = G at *
        generalize lone f n 1 24 = F at *
        have hw : IntKind.i64.wrap (24 - (n : Int)) = 24 - (n : Int) := IntWalk.i64_in _ (by omega)
        have hg0 : (G.length : Int) = 24 - (n : Int) := by omega
        have hg1 : (F.length : Int) = 24 - (n : Int) := by omega
        go_wp2_with fail
        go_loopw [146] (fun vi wr => ∃ i : Nat, i ≤ n ∧ vi = .int .i64 i ∧ Hid (Below V2.heap.size V2 wr)) (fun vi _ => n - (intOf vi).toNat)
        case atStart => exact ⟨0, by omega, rfl, Below.refl _ _⟩
        case round =>
          obtain ⟨i, hi, rfl, HB⟩ := hrel
          by_cases hlt : i < n
          · obtain ⟨b1, o1, rfl, k1⟩ := HXa.out (by omega)
            have k2 := k1.keep HB.out (k1.lt (by omega))
            have d0 := k2 (i * 2) (by omega)
            have d1 := k2.at (i * 2) 1 (by omega)
            have HM0 : Hid (∀ z ∈ G, f (i * 2) ≠ (z : Int)) := fun z hz => HN0.out z hz i hlt
            have HM1 : Hid (∀ z ∈ F, f (i * 2 + 1) ≠ (z : Int)) := fun z hz => HN1.out z hz i hlt
            clear k1 k2
            generalize f (i * 2) = x0 at d0 HM0
            generalize f (i * 2 + 1) = x1 at d1 HM1
            go_wp2_with fail
            have hA := World.alloc_heap_new wr (.cells #[.int .i64 x0, .int .i64 x1] 60)
            have hBA := HB.out.alloc HB.out.size (.cells #[.int .i64 x0, .int .i64 x1] 60)
            clear d0 d1
            generalize wr.alloc (.cells #[.int .i64 x0, .int .i64 x1] 60) = V3 at hA hBA ⊢
            generalize wr.heap.size = B2 at hA ⊢
            have HA := Lib.hid hA
            have HBA := Lib.hid hBA
            have HG3 := Lib.hid (HGx.out.keep (by decide) hBA)
            have HF3 := Lib.hid (HFx.out.keep (by decide) hBA)
            clear hA hBA
            go_loopw [152] (fun vj w1 => ∃ j : Nat, j ≤ G.length ∧ vj = .int .i64 j ∧ Hid (Below V3.heap.size V3 w1)) (fun vj _ => G.length - (intOf vj).toNat)
            case atStart => exact ⟨0, by omega, rfl, Below.refl _ _⟩
            case round =>
              obtain ⟨j, hj, rfl, HB4⟩ := hrel
              by_cases hlt2 : j < G.length
              · obtain ⟨b5, o5, rfl, k5⟩ := HG3.out (by omega)
                have d5 := k5.keep HB4.out (k5.lt (by omega)) j (by omega)
                have s0 := cell_h (k := 0) (blk_keep HA.out HB4.out) rfl
                obtain ⟨z, hz, hzv⟩ := lf_at hlt2
                rw [hzv] at d5
                have hne : ¬ ((z : Int) = x0) := fun e => HM0.out z hz e.symm
                clear k5 hz hzv
                go_wp2_with fail
                exact ⟨⟨j + 1, by omega, by go_num, HB4.out⟩, by simp [intOf]; omega⟩
              · obtain rfl : j = G.length := by omega
                have HA4 := Lib.hid (blk_keep HA.out HB4.out)
                have HF4 := Lib.hid (HF3.out.keep (by decide) HB4.out)
                have HB5 := Lib.hid (HBA.out.trans (HB4.out.mono HBA.out.size))
                clear HB4 HA HF3 HG3 HBA
                go_wp2_with fail
                generalize hwq : wr = V4 at *
                clear hwq
                go_loopw [163] (fun vj w1 => ∃ j : Nat, j ≤ F.length ∧ vj = .int .i64 j ∧ Hid (Below V4.heap.size V4 w1)) (fun vj _ => F.length - (intOf vj).toNat)
                case atStart => exact ⟨0, by omega, rfl, Below.refl _ _⟩
                case round =>
                  obtain ⟨j, hj, rfl, HB6⟩ := hrel
                  by_cases hlt3 : j < F.length
                  · obtain ⟨b5, o5, rfl, k5⟩ := HF4.out (by omega)
                    have d5 := k5.keep HB6.out (k5.lt (by omega)) j (by omega)
                    have s1 := cell_h (k := 1) (blk_keep HA4.out HB6.out) rfl
                    obtain ⟨z, hz, hzv⟩ := lf_at hlt3
                    rw [hzv] at d5
                    have hne : ¬ ((z : Int) = x1) := fun e => HM1.out z hz e.symm
                    clear k5 hz hzv
                    go_wp2_with fail
                    exact ⟨⟨j + 1, by omega, by go_num, HB6.out⟩, by simp [intOf]; omega⟩
                  · obtain rfl : j = F.length := by omega
                    have HB7 := Lib.hid (HB5.out.trans (HB6.out.mono HB5.out.size))
                    go_wp2_with fail
                    exact ⟨⟨i + 1, by omega, by go_num, HB7.out⟩, by simp [intOf]; omega⟩
          · obtain rfl : i = n := by omega
            have HB8 := Lib.hid (HBa.out.trans (HB.out.mono HBa.out.size))
            go_wp2_with fail
            refine (HK.out wr HB8.out).mono ?_
            rintro e W8 ⟨rfl, hb⟩
            have HB9 := Lib.hid (low_trans HB8.out hb)
            clear hb
            go_wp2_with fail
            go_ret
            exact ⟨rfl, HB9.out⟩
end Go.Proofs.YtlbffdgojmjijaaGreatDoor
