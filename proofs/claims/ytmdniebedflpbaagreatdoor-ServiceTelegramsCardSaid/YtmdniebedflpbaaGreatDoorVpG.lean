/-
  WALKS: Pack (the reference).
-/
import Derived.Test.YtmdniebedflpbaaGreatDoorVpE
namespace Go.Proofs.YtmdniebedflpbaaGreatDoor
open Go.RowKit

theorem u8a_step {X : List Nat} {j : Nat} (hX : X.length = 24) (hj : j < 24) : (u8a (X.take j ++ List.replicate (24 - j) 0)).setIfInBounds j (.int .u8 ((X.getD j 0 : Nat) : Int)) = u8a (X.take (j + 1) ++ List.replicate (24 - (j + 1)) 0) := by
  have e : X.take j ++ List.replicate (24 - j) 0 = X.take j ++ 0 :: List.replicate (24 - (j + 1)) 0 := by
    rw [show 24 - j = 24 - (j + 1) + 1 by omega, List.replicate_succ]
  have e2 : X.take (j + 1) = X.take j ++ [X.getD j 0] := by
    rw [List.take_succ_eq_append_getElem (by omega), List.getD_eq_getElem?_getD, List.getElem?_eq_getElem (by omega)]
    rfl
  have hl : (X.take j).length = j := by rw [List.length_take]; omega
  rw [e, e2]
  unfold u8a u8l
  rw [List.setIfInBounds_toArray]
  congr 1
  rw [List.map_append, List.map_append, List.map_append, List.map_cons, List.set_append_right _ _ (by simp; omega)]
  simp
  rw [show j - min j X.length = 0 by omega]
  rfl

set_option maxRecDepth 100000 in
set_option maxHeartbeats 16000000 in
theorem rpack_of (w : World) (t : Tg) : Calls Tryz.prog 20 #[t.val] w fun e W => e = .returned (.tuple #[.agg (u8a t.pk.1), .int .i64 t.pk.2]) ∧ Below w.heap.size w W := by
  obtain ⟨a, b, c, d⟩ := t
  have HR : Hid (∀ r, (¬ (Tg.mk a b c d).ok → r = (z24, 1)) → ((Tg.mk a b c d).ok → r = ((Tg.mk a b c d).tp, 0)) → (Tg.mk a b c d).pk = r) := fun r h1 h2 => by
    by_cases h : (Tg.mk a b c d).ok
    · rw [h2 h]; exact if_pos h
    · rw [h1 h]; exact if_neg h
  obtain ⟨r, hr⟩ : ∃ r, (Tg.mk a b c d).pk = r := ⟨_, rfl⟩
  have HPK := Lib.hid hr
  rw [hr]
  clear hr HR
  show Calls Tryz.prog 20 #[.agg #[.int .i64 a, .int .i64 b, .int .i64 c, .int .i64 d]] w _
  go_enter Tryz.func20, Tryz.ntmps20
  go_upto_region 2 with fail
  rw [← zero24]
  obtain ⟨W, hW⟩ : ∃ W, ((w.alloc (.cells #[.int .i64 a, .int .i64 b, .int .i64 c, .int .i64 d] 48)).alloc (.cells (u8a z24) 44)).alloc (.cells (u8a z24) 44) = W := ⟨_, rfl⟩
  have k1 : Tb W w.heap.size 48 ⟨a, b, c, d⟩ := by rw [← hW]; exact al_old (al_old (new_heap w _) _) _
  have k2 : Ba W (w.heap.size + 1) z24 := by rw [← hW]; exact al_old (al_1 w _ _) _
  have k4 : Ba W (w.heap.size + 1 + 1) z24 := by rw [← hW]; exact al_2 w _ _ _
  have hB : Below w.heap.size w W := by rw [← hW]; exact (((Below.refl _ _).alloc (Nat.le_refl _) _).alloc (by simp) _).alloc (by simp; omega) _
  rw [hW]
  obtain ⟨b4, hb4⟩ : ∃ b4, w.heap.size + 1 + 1 = b4 := ⟨_, rfl⟩
  obtain ⟨b2, hb2⟩ : ∃ b2, w.heap.size + 1 = b2 := ⟨_, rfl⟩
  rw [hb4] at k4 ⊢
  rw [hb2] at k2 ⊢
  have hb2l : w.heap.size < b2 := by omega
  have hb4l : b2 < b4 := by omega
  have K1 := Lib.hid k1
  have K2 := Lib.hid k2
  have K4 := Lib.hid k4
  have HB := Lib.hid hB
  clear hW hb2 hb4 hB
  have s0 := cell_h (k := 0) k1 rfl
  have s1 := cell_h (k := 1) k1 rfl
  have s2 := cell_h (k := 2) k1 rfl
  have s3 := cell_h (k := 3) k1 rfl
  dsimp only at s0 s1 s2 s3
  have KK4 := Lib.hid k4
  have KK2 := Lib.hid k2
  have hl2 := (Ba.set (L := z24) k2).load z24_len
  clear k1 k2 k4
  by_cases h0 : a < 0
  · obtain rfl : r = (z24, 1) := by rw [← HPK.out]; exact if_neg (by simp only [Tg.ok]; omega)
    go_wp2_with (first | (refine Ba.wpLoad KK4.out z24_len rfl _ rfl rfl ?_) | (refine Ba.wpStore (L := z24) KK2.out z24_len z24_len rfl _ _ rfl rfl rfl ?_))
    refine bodyPost_ret (v := .tuple #[.agg (u8a z24), .int .i64 1]) ?_ rfl ⟨rfl, ?_⟩
    · rw [results_cell_tmp rfl]; simp [asAddr, Result.andThen, hl2]
    · exact below_setRow HB.out (by omega) _
  by_cases h1 : 65535 < a
  · obtain rfl : r = (z24, 1) := by rw [← HPK.out]; exact if_neg (by simp only [Tg.ok]; omega)
    go_wp2_with (first | (refine Ba.wpLoad KK4.out z24_len rfl _ rfl rfl ?_) | (refine Ba.wpStore (L := z24) KK2.out z24_len z24_len rfl _ _ rfl rfl rfl ?_))
    refine bodyPost_ret (v := .tuple #[.agg (u8a z24), .int .i64 1]) ?_ rfl ⟨rfl, ?_⟩
    · rw [results_cell_tmp rfl]; simp [asAddr, Result.andThen, hl2]
    · exact below_setRow HB.out (by omega) _
  by_cases h2 : b < 0
  · obtain rfl : r = (z24, 1) := by rw [← HPK.out]; exact if_neg (by simp only [Tg.ok]; omega)
    go_wp2_with (first | (refine Ba.wpLoad KK4.out z24_len rfl _ rfl rfl ?_) | (refine Ba.wpStore (L := z24) KK2.out z24_len z24_len rfl _ _ rfl rfl rfl ?_))
    refine bodyPost_ret (v := .tuple #[.agg (u8a z24), .int .i64 1]) ?_ rfl ⟨rfl, ?_⟩
    · rw [results_cell_tmp rfl]; simp [asAddr, Result.andThen, hl2]
    · exact below_setRow HB.out (by omega) _
  by_cases h3 : 1099511627776 < b
  · obtain rfl : r = (z24, 1) := by rw [← HPK.out]; exact if_neg (by simp only [Tg.ok]; omega)
    go_wp2_with (first | (refine Ba.wpLoad KK4.out z24_len rfl _ rfl rfl ?_) | (refine Ba.wpStore (L := z24) KK2.out z24_len z24_len rfl _ _ rfl rfl rfl ?_))
    refine bodyPost_ret (v := .tuple #[.agg (u8a z24), .int .i64 1]) ?_ rfl ⟨rfl, ?_⟩
    · rw [results_cell_tmp rfl]; simp [asAddr, Result.andThen, hl2]
    · exact below_setRow HB.out (by omega) _
  by_cases h4 : c < 0
  · obtain rfl : r = (z24, 1) := by rw [← HPK.out]; exact if_neg (by simp only [Tg.ok]; omega)
    go_wp2_with (first | (refine Ba.wpLoad KK4.out z24_len rfl _ rfl rfl ?_) | (refine Ba.wpStore (L := z24) KK2.out z24_len z24_len rfl _ _ rfl rfl rfl ?_))
    refine bodyPost_ret (v := .tuple #[.agg (u8a z24), .int .i64 1]) ?_ rfl ⟨rfl, ?_⟩
    · rw [results_cell_tmp rfl]; simp [asAddr, Result.andThen, hl2]
    · exact below_setRow HB.out (by omega) _
  by_cases h5 : 1073741824 < c
  · obtain rfl : r = (z24, 1) := by rw [← HPK.out]; exact if_neg (by simp only [Tg.ok]; omega)
    go_wp2_with (first | (refine Ba.wpLoad KK4.out z24_len rfl _ rfl rfl ?_) | (refine Ba.wpStore (L := z24) KK2.out z24_len z24_len rfl _ _ rfl rfl rfl ?_))
    refine bodyPost_ret (v := .tuple #[.agg (u8a z24), .int .i64 1]) ?_ rfl ⟨rfl, ?_⟩
    · rw [results_cell_tmp rfl]; simp [asAddr, Result.andThen, hl2]
    · exact below_setRow HB.out (by omega) _
  by_cases h6 : d < 0
  · obtain rfl : r = (z24, 1) := by rw [← HPK.out]; exact if_neg (by simp only [Tg.ok]; omega)
    go_wp2_with (first | (refine Ba.wpLoad KK4.out z24_len rfl _ rfl rfl ?_) | (refine Ba.wpStore (L := z24) KK2.out z24_len z24_len rfl _ _ rfl rfl rfl ?_))
    refine bodyPost_ret (v := .tuple #[.agg (u8a z24), .int .i64 1]) ?_ rfl ⟨rfl, ?_⟩
    · rw [results_cell_tmp rfl]; simp [asAddr, Result.andThen, hl2]
    · exact below_setRow HB.out (by omega) _
  by_cases h7 : 1000 < d
  · obtain rfl : r = (z24, 1) := by rw [← HPK.out]; exact if_neg (by simp only [Tg.ok]; omega)
    go_wp2_with (first | (refine Ba.wpLoad KK4.out z24_len rfl _ rfl rfl ?_) | (refine Ba.wpStore (L := z24) KK2.out z24_len z24_len rfl _ _ rfl rfl rfl ?_))
    refine bodyPost_ret (v := .tuple #[.agg (u8a z24), .int .i64 1]) ?_ rfl ⟨rfl, ?_⟩
    · rw [results_cell_tmp rfl]; simp [asAddr, Result.andThen, hl2]
    · exact below_setRow HB.out (by omega) _
  have hok : (Tg.mk a b c d).ok := by simp only [Tg.ok]; omega
  obtain ⟨X, rz⟩ := r
  obtain ⟨e0, e1⟩ := Prod.mk.inj (show (X, rz) = ((Tg.mk a b c d).tp, 0) by rw [← HPK.out]; exact if_pos hok)
  subst e1
  clear HPK hl2 hok
  obtain ⟨a, rfl⟩ := Int.eq_ofNat_of_zero_le (show 0 ≤ a by omega)
  obtain ⟨b, rfl⟩ := Int.eq_ofNat_of_zero_le (show 0 ≤ b by omega)
  obtain ⟨c, rfl⟩ := Int.eq_ofNat_of_zero_le (show 0 ≤ c by omega)
  obtain ⟨d, rfl⟩ := Int.eq_ofNat_of_zero_le (show 0 ≤ d by omega)
  have qa : IntKind.u64.wrap (a : Int) = a := by rw [IntKind.wrap_u64]; omega
  have qb : IntKind.u64.wrap (b : Int) = b := by rw [IntKind.wrap_u64]; omega
  have qc : IntKind.u64.wrap (c : Int) = c := by rw [IntKind.wrap_u64]; omega
  have qd : IntKind.u64.wrap (d : Int) = d := by rw [IntKind.wrap_u64]; omega
  have HT : Hid ((Tg.mk a b c d).tb = leN a 2 ++ leN b 6 ++ leN c 6 ++ leN d 2) := rfl
  have HP : Hid (X = (Tg.mk a b c d).tb ++ leN (dgN (Tg.mk a b c d).tb) 8) := e0
  have hpl : X.length = 24 := by rw [e0]; exact (Tg.mk a b c d).tp_len
  have htl := (Tg.mk a b c d).tb_len
  have HTL := Lib.hid (Tg.mk a b c d).tb_lt
  clear e0
  obtain ⟨Y, hY⟩ : ∃ Y, (Tg.mk a b c d).tb = Y := ⟨_, rfl⟩
  rw [hY] at HP
  rw [hY] at HT HTL htl
  clear hY
  have hbw : W.heap.size ≤ W.heap.size := Nat.le_refl _
  go_upto_region 4 with fail
  go_wp2_with fail
  refine (number_of W W W.heap.size (.slice none 0 0) [] a 2 hbw (World.ownsRow_nil _ _ _ _) (Below.refl _ _) (by omega) (by decide) (by decide)).mono ?_
  rintro e W3 ⟨v1, rfl, hO, hB⟩
  have HO1 : Hid (W3.ownsRow W.heap.size 5 1 v1 (leN a 2).length (u8l (leN a 2))) := hO
  have HB1 := Lib.hid hB
  have k1 := K1.out.keep hB
  clear hO hB s0
  have s1 := cell_h (k := 1) k1 rfl
  dsimp only at s1
  clear k1
  go_wp2_with fail
  refine (number_of W W3 W.heap.size v1 _ b 6 hbw HO1.out HB1.out (by omega) (by decide) (by simp [leN_len])).mono ?_
  rintro e W4 ⟨v2, rfl, hO, hB⟩
  have HO2 := Lib.hid hO
  have HB2 := Lib.hid hB
  have k1 := K1.out.keep hB
  clear hO hB HO1 HB1 s1
  have s2 := cell_h (k := 2) k1 rfl
  dsimp only at s2
  clear k1
  go_wp2_with fail
  refine (number_of W W4 W.heap.size v2 _ c 6 hbw HO2.out HB2.out (by omega) (by decide) (by simp [leN_len])).mono ?_
  rintro e W5 ⟨v3, rfl, hO, hB⟩
  have HO3 := Lib.hid hO
  have HB3 := Lib.hid hB
  have k1 := K1.out.keep hB
  clear hO hB HO2 HB2 s2
  have s3 := cell_h (k := 3) k1 rfl
  dsimp only at s3
  clear k1
  go_wp2_with fail
  refine (number_of W W5 W.heap.size v3 _ d 2 hbw HO3.out HB3.out (by omega) (by decide) (by simp [leN_len])).mono ?_
  rintro e W6 ⟨v4, rfl, hO, hB⟩
  rw [← HT.out, htl] at hO
  obtain ⟨g, cap, rfl⟩ := ownsRow_succ hO
  obtain ⟨g', hg', hgb, hcap, hcl⟩ := own_cell hO (by decide)
  obtain rfl : g = g' := by simpa using hg'
  have hby : Lib.Bytes W6 g 0 (bsOf Y) := bytes_of HTL.out fun j hj => by rw [Nat.zero_add]; exact hcl j _ (u8l_get hj)
  have hcv := Lib.run_convert_whole (P := Tryz.prog) W6 57 5 9 Tryz.underlying57 Tryz.underlying5 Tryz.underlying9 g 0 (bsOf Y) hby cap
  rw [bsOf_size, htl] at hcv
  have hdg : Hid (∀ W, Calls Tryz.prog 24 #[.int .u64 7, .string (bsOf Y)] W fun e w' => e = .returned (.int .u64 ((dgN Y : Nat) : Int)) ∧ w' = W) := fun W => by
    have q := rdigest_of W 7 (by decide) (bsOf Y) (by rw [bsOf_size, htl]; decide)
    rw [bsOf_list] at q
    exact q
  have HO4 : Hid (W6.ownsRow W.heap.size 5 1 (.slice (some ⟨g, 0, none⟩) 16 cap) Y.length (u8l Y)) := by rw [htl]; exact hO
  have HB4 := Lib.hid hB
  have hdl := dgN_lt Y
  obtain ⟨z, hz⟩ : ∃ z, dgN Y = z := ⟨_, rfl⟩
  rw [hz] at hdg hdl HP
  clear hO hB HO3 HB3 s3 hcl hby hg' hz
  go_wp2_with fail
  refine (hdg.out _).mono ?_
  rintro e w9 ⟨rfl, rfl⟩
  go_wp2_with fail
  refine (number_of W w9 W.heap.size _ _ z 8 hbw HO4.out HB4.out (by omega) (by decide) (by omega)).mono ?_
  rintro e W7 ⟨v5, rfl, hO, hB⟩
  rw [← HP.out, hpl] at hO
  obtain ⟨g2, cap2, rfl⟩ := ownsRow_succ hO
  obtain ⟨g', hg', hgb2, hcap2, hcl⟩ := own_cell hO (by decide)
  obtain rfl : g2 = g' := by simpa using hg'
  have HCL : Hid (∀ wr, BelowX W7.heap.size b4 W7 wr → ∀ j, j < 24 → wr.cell? ⟨g2, j, none⟩ = some (.int .u8 ((X.getD j 0 : Nat) : Int))) := fun wr h j hj => by
    have hc := hcl j _ (u8l_get (L := X) (by omega))
    exact (World.cell?_of_block (w := W7) (h.block g2 (World.block_lt_of_cell? _ _ hc) (by have := K4.out.lt; omega))).trans hc
  have K2_7 := Lib.hid (K2.out.keep hB)
  have K4_7 := Lib.hid (K4.out.keep hB)
  have HB7 := Lib.hid (low_trans HB.out hB)
  have hg24 := hcap2
  clear hO hB hcl hg' hcv hdg HO4 HB4 K1 K2 K4
  go_wp2_with fail
  go_loopw [6] (fun vi wr => ∃ j : Nat, j ≤ 24 ∧ vi = .int .i64 (j : Int) ∧ Hid (Ba wr b4 (X.take j ++ List.replicate (24 - j) 0)) ∧ Hid (BelowX W7.heap.size b4 W7 wr)) (fun vi _ => 24 - (intOf vi).toNat)
  case atStart => exact ⟨0, by omega, rfl, K4_7, Lib.hid (BelowX.refl _ _ _)⟩
  case round =>
    obtain ⟨j, hj, rfl, K, HX⟩ := hrel
    by_cases hlt : j < 24
    · have c0 := HCL.out _ HX.out j hlt
      have d0 := K.out.cell (j := j) (by simp; omega)
      have df := fz_h K.out j
      have hj24 : (j : Int) < 24 := by omega
      have EJ : Hid (X.getD j 0 = X[j]'(by omega)) := Lib.hid (by rw [List.getD_eq_getElem?_getD, List.getElem?_eq_getElem (by omega)]; rfl)
      go_wp2_with fail
      refine ⟨⟨j + 1, by omega, by go_num, ?_, ?_⟩, by simp [intOf]; omega⟩
      · exact Lib.hid (by have h := heap_set (k := j) K.out (.int .u8 ((X.getD j 0 : Nat) : Int)); rw [u8a_step hpl hlt, EJ.out] at h; exact h)
      · exact Lib.hid (HX.out.trans (BelowX.set _ _ _ _ _))
    · obtain rfl : j = 24 := by omega
      have e24 : X.take 24 ++ List.replicate (24 - 24) 0 = X := by rw [List.take_of_length_le (by omega)]; simp
      rw [e24] at K
      have k2 : Ba _ b2 z24 := (HX.out.block b2 K2_7.out.lt (by omega)).trans K2_7.out
      have KK2 := Lib.hid k2
      have hl2 := (Ba.set (L := X) k2).load hpl
      clear k2
      go_wp2_with (first | (refine Ba.wpLoad K.out hpl rfl _ rfl rfl ?_) | (refine Ba.wpStore KK2.out z24_len hpl rfl _ _ rfl rfl rfl ?_))
      refine bodyPost_ret (v := .tuple #[.agg (u8a X), .int .i64 0]) ?_ rfl ⟨rfl, ?_⟩
      · rw [results_cell_tmp rfl]; simp [asAddr, Result.andThen, hl2]
      · exact below_setRow (HB7.out.trans (below_of_x (HX.out.mono HB7.out.size) (by omega))) (by omega) _
end Go.Proofs.YtmdniebedflpbaaGreatDoor
