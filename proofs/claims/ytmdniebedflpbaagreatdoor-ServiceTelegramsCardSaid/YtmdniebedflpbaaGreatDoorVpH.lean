/-
  WALKS: Unpack (the reference).
-/
import Derived.Test.YtmdniebedflpbaaGreatDoorVpF
import Derived.Test.YtmdniebedflpbaaGreatDoorVpG
namespace Go.Proofs.YtmdniebedflpbaaGreatDoor
open Go.RowKit

set_option maxRecDepth 100000 in
set_option maxHeartbeats 16000000 in
theorem runpack_of (w : World) (L : List Nat) (hL : L.length = 24) (hlt : ∀ x ∈ L, x < 256) : Calls Tryz.prog 22 #[.agg (u8a L)] w fun e W => e = .returned (.tuple #[(upR L).1.val, .int .i64 (upR L).2]) ∧ Below w.heap.size w W := by
  have HP : Hid (∀ W, Calls Tryz.prog 20 #[(tgOf L).val] W fun e w' => e = .returned (.tuple #[.agg (u8a (tgOf L).pk.1), .int .i64 (tgOf L).pk.2]) ∧ Below W.heap.size W w') := fun W => rpack_of W (tgOf L)
  have hpl := (tgOf L).pk_len
  have HPK : Hid (((tgOf L).ok → (tgOf L).pk.2 = 0) ∧ (¬ (tgOf L).ok → (tgOf L).pk.2 = 1)) := ⟨fun h => by unfold Tg.pk; rw [if_pos h], fun h => by unfold Tg.pk; rw [if_neg h]⟩
  obtain ⟨⟨pb, pe⟩, hpk⟩ : ∃ r, (tgOf L).pk = r := ⟨_, rfl⟩
  rw [hpk] at HP HPK hpl
  dsimp only at HP HPK hpl
  clear hpk
  have HVA : ∀ (o n : Nat), o + n ≤ 24 → n ≤ 8 → ∀ W g c, Ba W g L → Calls Tryz.prog 54 #[.slice (some ⟨g, o, none⟩) n c] W fun e W' => e = .returned (.int .u64 ((valN ((L.drop o).take n) : Nat) : Int)) ∧ W' = W := fun o n h1 h2 W g c h =>
    value_of W g o n c ((L.drop o).take n) h2 (by rw [List.length_take, List.length_drop]; omega) (fun x hx => hlt x (List.mem_of_mem_drop (List.mem_of_mem_take hx))) (fun j hj => by
      rw [h.cell (by omega)]
      congr 3
      simp only [List.getD_eq_getElem?_getD]
      rw [List.getElem?_take_of_lt hj, List.getElem?_drop])
  have bx := take_lt hlt 0 2
  have by_ := take_lt hlt 2 6
  have bz := take_lt hlt 8 6
  have bt := take_lt hlt 14 2
  have hV0 := HVA 0 2 (by decide) (by decide)
  have hV1 := HVA 2 6 (by decide) (by decide)
  have hV2 := HVA 8 6 (by decide) (by decide)
  have hV3 := HVA 14 2 (by decide) (by decide)
  have hV4 := HVA 16 8 (by decide) (by decide)
  have HVB := Lib.hid HVA
  clear HVA
  have hsv : valN ((L.drop 16).take 8) = valN (L.drop 16) := by rw [List.take_of_length_le (by rw [List.length_drop]; omega)]
  rw [hsv] at hV4
  have hT : tgOf L = ⟨((valN ((L.drop 0).take 2) : Nat) : Int), ((valN ((L.drop 2).take 6) : Nat) : Int), ((valN ((L.drop 8).take 6) : Nat) : Int), ((valN ((L.drop 14).take 2) : Nat) : Int)⟩ := rfl
  have hR : upR L = if valN (L.drop 16) = dgN (L.take 16) then (if (tgOf L).ok then (tgOf L, 0) else (tg0, 2)) else (tg0, 102) := rfl
  obtain ⟨x, hx⟩ : ∃ x, valN ((L.drop 0).take 2) = x := ⟨_, rfl⟩
  obtain ⟨y, hy⟩ : ∃ x, valN ((L.drop 2).take 6) = x := ⟨_, rfl⟩
  obtain ⟨z, hz⟩ : ∃ x, valN ((L.drop 8).take 6) = x := ⟨_, rfl⟩
  obtain ⟨t, ht⟩ : ∃ x, valN ((L.drop 14).take 2) = x := ⟨_, rfl⟩
  rw [hx] at hV0 hT bx
  rw [hy] at hV1 hT by_
  rw [hz] at hV2 hT bz
  rw [ht] at hV3 hT bt
  have q0 : IntKind.i64.wrap (x : Int) = (x : Int) := IntWalk.i64_in _ (by omega)
  have q1 : IntKind.i64.wrap (y : Int) = (y : Int) := IntWalk.i64_in _ (by omega)
  have q2 : IntKind.i64.wrap (z : Int) = (z : Int) := IntWalk.i64_in _ (by omega)
  have q3 : IntKind.i64.wrap (t : Int) = (t : Int) := IntWalk.i64_in _ (by omega)
  have hby : ∀ W g, Ba W g L → Lib.Bytes W g 0 (bsOf (L.take 16)) := fun W g h => bytes_of (fun x hx => hlt x (List.mem_of_mem_take hx)) fun j hj => by
    rw [List.length_take] at hj
    rw [Nat.zero_add, h.cell (by omega)]
    congr 3
    simp only [List.getD_eq_getElem?_getD]
    rw [List.getElem?_take_of_lt (by omega)]
  have h16 : (L.take 16).length = 16 := by rw [List.length_take]; omega
  have hcv : ∀ W g, Ba W g L → (convert 57 9 (.slice (some ⟨g, 0, none⟩) 16 24)).run Tryz.prog W = .ok (.string (bsOf (L.take 16))) W := fun W g h => by
    have q := Lib.run_convert_whole (P := Tryz.prog) W 57 5 9 Tryz.underlying57 Tryz.underlying5 Tryz.underlying9 g 0 (bsOf (L.take 16)) (hby W g h) 24
    rw [bsOf_size, h16] at q
    exact q
  have hdg : Hid (∀ W, Calls Tryz.prog 24 #[.int .u64 7, .string (bsOf (L.take 16))] W fun e w' => e = .returned (.int .u64 ((dgN (L.take 16) : Nat) : Int)) ∧ w' = W) := fun W => by
    have q := rdigest_of W 7 (by decide) (bsOf (L.take 16)) (by rw [bsOf_size, h16]; decide)
    rw [bsOf_list] at q
    exact q
  obtain ⟨sv, hsv2⟩ : ∃ sv, valN (L.drop 16) = sv := ⟨_, rfl⟩
  obtain ⟨dv, hdv⟩ : ∃ dv, dgN (L.take 16) = dv := ⟨_, rfl⟩
  rw [hsv2] at hV4 hR
  rw [hdv] at hdg hR
  have HV0 := Lib.hid hV0
  have HV1 := Lib.hid hV1
  have HV2 := Lib.hid hV2
  have HV3 := Lib.hid hV3
  have HV4 := Lib.hid hV4
  have HCV := Lib.hid hcv
  have HP2 : Hid (∀ W, Calls Tryz.prog 20 #[.agg #[.int .i64 (x : Int), .int .i64 (y : Int), .int .i64 (z : Int), .int .i64 (t : Int)]] W fun e w' => e = .returned (.tuple #[.agg (u8a pb), .int .i64 pe]) ∧ Below W.heap.size W w') := fun W => by
    have q := HP.out W
    rw [show (tgOf L).val = .agg #[.int .i64 (x : Int), .int .i64 (y : Int), .int .i64 (z : Int), .int .i64 (t : Int)] by rw [hT]; rfl] at q
    exact q
  have HR : Hid (upR L = if sv = dv then (if (tgOf L).ok then (⟨(x : Int), (y : Int), (z : Int), (t : Int)⟩, 0) else (tg0, 2)) else (tg0, 102)) := by rw [← hT]; exact hR
  have HX0 : Hid (valN (List.take 2 L) = x) := hx
  have HY0 : Hid (valN (List.take 6 (List.drop 2 L)) = y) := hy
  have HZ0 : Hid (valN (List.take 6 (List.drop 8 L)) = z) := hz
  have HT0 : Hid (valN (List.take 2 (List.drop 14 L)) = t) := ht
  clear bx by_ bz bt hsv hR hby h16 hx hy hz ht hV0 hV1 hV2 hV3 hV4 hsv2 hdv hcv HP hT hlt
  go_enter Tryz.func22, Tryz.ntmps22
  go_upto_region 1 with fail
  obtain ⟨W, hW⟩ : ∃ W, ((w.alloc (.cells (u8a L) 44)).alloc (.cells #[.int .i64 0, .int .i64 0, .int .i64 0, .int .i64 0] 48)) = W := ⟨_, rfl⟩
  have kb : Ba W w.heap.size L := by rw [← hW]; exact al_old (new_heap w _) _
  have kr : Tb W (w.heap.size + 1) 48 tg0 := by rw [← hW]; exact al_1 w _ _
  have hB : Below w.heap.size w W := by rw [← hW]; exact ((Below.refl _ _).alloc (Nat.le_refl _) _).alloc (by simp) _
  rw [hW]
  obtain ⟨g1, hg1⟩ : ∃ g1, w.heap.size + 1 = g1 := ⟨_, rfl⟩
  rw [hg1] at kr ⊢
  have h1 : w.heap.size < g1 := by omega
  have KB := Lib.hid kb
  have KR := Lib.hid kr
  have HB := Lib.hid hB
  clear hW kb kr hB hg1
  have kb : Ba W.drew w.heap.size L := KB.out
  have hcv := HCV.out
  go_region_held3 (fun W' => Ba W' w.heap.size L) (first | (with_reducible assumption) | go_keep) (first | (go_at_call 54; refine (HV4.out _ _ _ kb).mono ?_; rintro e V4 ⟨rfl, rfl⟩) | (go_at_call 24; refine (hdg.out _).mono ?_; rintro e w9 ⟨rfl, rfl⟩))
  generalize hWd : W.drew = Z
  have HBZ : Hid (Below w.heap.size w Z) := by rw [← hWd]; exact HB.out.drew
  have KBZ : Hid (Ba Z w.heap.size L) := by rw [← hWd]; exact KB.out
  have KRZ : Hid (Tb Z g1 48 tg0) := by rw [← hWd]; exact KR.out
  clear hWd HB KB KR hdg hcv HCV HV4 kb
  by_cases hsd : sv = dv
  · have hne : ((sv : Int) != (dv : Int)) = false := by rw [hsd]; simp
    have hr2 := HR.out
    rw [if_pos hsd] at hr2
    clear HR hsd
    go_upto_region 3 with fail
    have kb : Ba Z.drew w.heap.size L := KBZ.out
    have kb2 : ∀ cs, Ba (Z.alloc (.cells cs 48)).drew w.heap.size L := fun cs => al_old KBZ.out _
    have kb3 := kb2 #[.int .i64 0, .int .i64 0, .int .i64 0, .int .i64 0]
    have kb4 := kb2 #[.int .i64 (x : Int), .int .i64 (y : Int), .int .i64 (z : Int), .int .i64 (t : Int)]
    clear kb2
    have hx0 := HX0.out
    have hy0 := HY0.out
    have hz0 := HZ0.out
    have ht0 := HT0.out
    go_region_held3 (fun W' => Ba W' w.heap.size L) (first | (with_reducible assumption) | go_keep) (first | (go_at_call 54; (with_reducible (show Calls _ _ #[Value.slice (some ⟨_, 0, none⟩) 2 _] (World.drew Z) _)); refine (HV0.out _ _ _ kb).mono ?_; rintro e V4 ⟨rfl, rfl⟩) | (go_at_call 54; (with_reducible (show Calls _ _ #[Value.slice (some ⟨_, 0, none⟩) 2 _] (World.drew (World.alloc Z _)) _)); refine (HV0.out _ _ _ kb3).mono ?_; rintro e V4 ⟨rfl, rfl⟩) | (go_at_call 54; (with_reducible (show Calls _ _ #[Value.slice (some ⟨_, 2, none⟩) 6 _] (World.drew Z) _)); refine (HV1.out _ _ _ kb).mono ?_; rintro e V4 ⟨rfl, rfl⟩) | (go_at_call 54; (with_reducible (show Calls _ _ #[Value.slice (some ⟨_, 2, none⟩) 6 _] (World.drew (World.alloc Z _)) _)); refine (HV1.out _ _ _ kb3).mono ?_; rintro e V4 ⟨rfl, rfl⟩) | (go_at_call 54; (with_reducible (show Calls _ _ #[Value.slice (some ⟨_, 8, none⟩) 6 _] (World.drew Z) _)); refine (HV2.out _ _ _ kb).mono ?_; rintro e V4 ⟨rfl, rfl⟩) | (go_at_call 54; (with_reducible (show Calls _ _ #[Value.slice (some ⟨_, 8, none⟩) 6 _] (World.drew (World.alloc Z _)) _)); refine (HV2.out _ _ _ kb3).mono ?_; rintro e V4 ⟨rfl, rfl⟩) | (go_at_call 54; (with_reducible (show Calls _ _ #[Value.slice (some ⟨_, 14, none⟩) 2 _] (World.drew Z) _)); refine (HV3.out _ _ _ kb).mono ?_; rintro e V4 ⟨rfl, rfl⟩) | (go_at_call 54; (with_reducible (show Calls _ _ #[Value.slice (some ⟨_, 14, none⟩) 2 _] (World.drew (World.alloc Z _)) _)); refine (HV3.out _ _ _ kb3).mono ?_; rintro e V4 ⟨rfl, rfl⟩))
    all_goals
      have kt : Tb (Z.alloc (.cells #[.int .i64 (x : Int), .int .i64 (y : Int), .int .i64 (z : Int), .int .i64 (t : Int)] 48)).drew Z.heap.size 48 ⟨x, y, z, t⟩ := new_heap _ _
      have kr : Tb (Z.alloc (.cells #[.int .i64 (x : Int), .int .i64 (y : Int), .int .i64 (z : Int), .int .i64 (t : Int)] 48)).drew g1 48 tg0 := al_old KRZ.out _
      have hB : Below w.heap.size w (Z.alloc (.cells #[.int .i64 (x : Int), .int .i64 (y : Int), .int .i64 (z : Int), .int .i64 (t : Int)] 48)).drew := (HBZ.out.alloc HBZ.out.size _).drew
      have hgz : g1 < Z.heap.size := KRZ.out.lt
      generalize (Z.alloc (.cells #[.int .i64 (x : Int), .int .i64 (y : Int), .int .i64 (z : Int), .int .i64 (t : Int)] 48)).drew = V at kt kr hB ⊢
      generalize Z.heap.size = gt at kt hgz ⊢
      have KT := Lib.hid kt
      have KR := Lib.hid kr
      have HB := Lib.hid hB
      have t0 := cell_h (k := 0) kt rfl
      have t1 := cell_h (k := 1) kt rfl
      have t2 := cell_h (k := 2) kt rfl
      have t3 := cell_h (k := 3) kt rfl
      dsimp only at t0 t1 t2 t3
      clear kt kr hB kb kb3 kb4 HBZ KBZ KRZ HV0 HV1 HV2 HV3 HVB hx0 hy0 hz0 ht0 HX0 HY0 HZ0 HT0
      go_wp2_with fail
      refine (HP2.out _).mono ?_
      rintro e V2 ⟨rfl, hB⟩
      have KT2 := Lib.hid (KT.out.keep hB)
      have KR2 := Lib.hid (KR.out.keep hB)
      have HB2 := Lib.hid (low_trans HB.out hB)
      clear hB KT KR HB t0 t1 t2 t3 HP2
      have kn : Ba (V2.alloc (.cells #[.int .u8 0, .int .u8 0, .int .u8 0, .int .u8 0, .int .u8 0, .int .u8 0, .int .u8 0, .int .u8 0, .int .u8 0, .int .u8 0, .int .u8 0, .int .u8 0, .int .u8 0, .int .u8 0, .int .u8 0, .int .u8 0, .int .u8 0, .int .u8 0, .int .u8 0, .int .u8 0, .int .u8 0, .int .u8 0, .int .u8 0, .int .u8 0] 44)) V2.heap.size z24 := new_heap _ _
      have KN := Lib.hid kn
      clear kn
      go_upto_region 5 with (refine Ba.wpStore (L := pb) KN.out z24_len hpl rfl _ _ rfl rfl rfl ?_)
      have kt : Tb ((V2.alloc (.cells #[.int .u8 0, .int .u8 0, .int .u8 0, .int .u8 0, .int .u8 0, .int .u8 0, .int .u8 0, .int .u8 0, .int .u8 0, .int .u8 0, .int .u8 0, .int .u8 0, .int .u8 0, .int .u8 0, .int .u8 0, .int .u8 0, .int .u8 0, .int .u8 0, .int .u8 0, .int .u8 0, .int .u8 0, .int .u8 0, .int .u8 0, .int .u8 0] 44)).setRow V2.heap.size (u8a pb)) gt 48 ⟨x, y, z, t⟩ := (setRow_other _ _ _ _ (by have := KT2.out.lt; omega)).trans (al_old KT2.out _)
      have kr : Tb ((V2.alloc (.cells #[.int .u8 0, .int .u8 0, .int .u8 0, .int .u8 0, .int .u8 0, .int .u8 0, .int .u8 0, .int .u8 0, .int .u8 0, .int .u8 0, .int .u8 0, .int .u8 0, .int .u8 0, .int .u8 0, .int .u8 0, .int .u8 0, .int .u8 0, .int .u8 0, .int .u8 0, .int .u8 0, .int .u8 0, .int .u8 0, .int .u8 0, .int .u8 0] 44)).setRow V2.heap.size (u8a pb)) g1 48 tg0 := (setRow_other _ _ _ _ (by have := KR2.out.lt; omega)).trans (al_old KR2.out _)
      have hB : Below w.heap.size w ((V2.alloc (.cells #[.int .u8 0, .int .u8 0, .int .u8 0, .int .u8 0, .int .u8 0, .int .u8 0, .int .u8 0, .int .u8 0, .int .u8 0, .int .u8 0, .int .u8 0, .int .u8 0, .int .u8 0, .int .u8 0, .int .u8 0, .int .u8 0, .int .u8 0, .int .u8 0, .int .u8 0, .int .u8 0, .int .u8 0, .int .u8 0, .int .u8 0, .int .u8 0] 44)).setRow V2.heap.size (u8a pb)) := below_setRow (HB2.out.alloc HB2.out.size _) HB2.out.size _
      generalize (V2.alloc (.cells #[.int .u8 0, .int .u8 0, .int .u8 0, .int .u8 0, .int .u8 0, .int .u8 0, .int .u8 0, .int .u8 0, .int .u8 0, .int .u8 0, .int .u8 0, .int .u8 0, .int .u8 0, .int .u8 0, .int .u8 0, .int .u8 0, .int .u8 0, .int .u8 0, .int .u8 0, .int .u8 0, .int .u8 0, .int .u8 0, .int .u8 0, .int .u8 0] 44)).setRow V2.heap.size (u8a pb) = Y at kt kr hB ⊢
      have HY := Lib.hid hB
      have r0 : Y.cell? ⟨g1, 0, none⟩ = some (.int .i64 0) := cell_h (k := 0) kr rfl
      have r1 : Y.cell? ⟨g1, 1, none⟩ = some (.int .i64 0) := cell_h (k := 1) kr rfl
      have r2 : Y.cell? ⟨g1, 2, none⟩ = some (.int .i64 0) := cell_h (k := 2) kr rfl
      have r3 : Y.cell? ⟨g1, 3, none⟩ = some (.int .i64 0) := cell_h (k := 3) kr rfl
      have rf := fz_h kr
      have t0 := cell_h (k := 0) kt rfl
      have t1 := cell_h (k := 1) kt rfl
      have t2 := cell_h (k := 2) kt rfl
      have t3 := cell_h (k := 3) kt rfl
      dsimp only at t0 t1 t2 t3
      clear kt kr hB KN KT2 KR2 HB2
      by_cases hok : (tgOf L).ok
      · rw [if_pos hok] at hr2
        have hpe := HPK.out.1 hok
        subst hpe
        clear hok HPK
        go_wp2_with fail
        refine bodyPost_ret (v := .tuple #[.agg #[.int .i64 (x : Int), .int .i64 (y : Int), .int .i64 (z : Int), .int .i64 (t : Int)], .int .i64 0]) (by simp [results, Tryz.f22, go_sem, r0, r1, r2, r3]) rfl ⟨by rw [hr2]; rfl, ?_⟩
        iterate 4 refine Below.setCell ?_ (by simp; omega) _
        exact HY.out
      · rw [if_neg hok] at hr2
        have hpe := HPK.out.2 hok
        subst hpe
        clear hok HPK
        go_wp2_with fail
        refine bodyPost_ret (v := .tuple #[.agg #[.int .i64 0, .int .i64 0, .int .i64 0, .int .i64 0], .int .i64 2]) (by simp [results, Tryz.f22, go_sem, r0, r1, r2, r3]) rfl ⟨by rw [hr2]; rfl, ?_⟩
        iterate 4 refine Below.setCell ?_ (by simp; omega) _
        exact HY.out
  · have hne : ((sv : Int) != (dv : Int)) = true := by simp; omega
    have hr2 := HR.out
    rw [if_neg hsd] at hr2
    clear HR hsd HV0 HV1 HV2 HV3 HP2
    have r0 : Z.cell? ⟨g1, 0, none⟩ = some (.int .i64 0) := cell_h (k := 0) KRZ.out rfl
    have r1 : Z.cell? ⟨g1, 1, none⟩ = some (.int .i64 0) := cell_h (k := 1) KRZ.out rfl
    have r2 : Z.cell? ⟨g1, 2, none⟩ = some (.int .i64 0) := cell_h (k := 2) KRZ.out rfl
    have r3 : Z.cell? ⟨g1, 3, none⟩ = some (.int .i64 0) := cell_h (k := 3) KRZ.out rfl
    have rf := fz_h KRZ.out
    go_wp2_with fail
    refine bodyPost_ret (v := .tuple #[.agg #[.int .i64 0, .int .i64 0, .int .i64 0, .int .i64 0], .int .i64 102]) (by simp [results, Tryz.f22, go_sem, r0, r1, r2, r3]) rfl ⟨by rw [hr2]; rfl, ?_⟩
    iterate 4 refine Below.setCell ?_ (by simp; omega) _
    exact HBZ.out
end Go.Proofs.YtmdniebedflpbaaGreatDoor
