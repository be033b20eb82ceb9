/-
  MATHEMATICS: telegrams there and back; WALKS: the law of ServiceTelegrams.
-/
import Derived.Test.YtmdniebedflpbaaGreatDoorVpH
import Derived.Test.YtmdniebedflpbaaGreatDoorVtF
namespace Go.Proofs.YtmdniebedflpbaaGreatDoor
open Go.RowKit

theorem Tg.tp_take (t : Tg) : t.tp.take 16 = t.tb := List.take_left' t.tb_len
theorem Tg.tp_drop (t : Tg) : t.tp.drop 16 = leN (dgN t.tb) 8 := List.drop_left' t.tb_len
theorem valN_le {x k : Nat} (h : x < 256 ^ k) : valN (leN x k) = x := by rw [val_leN, Nat.mod_eq_of_lt h]
theorem Tg.back (t : Tg) (h : t.ok) : tgOf t.tp = t := by
  obtain ⟨a, b, c, d⟩ := t
  obtain ⟨⟨ha0, ha⟩, ⟨hb0, hb⟩, ⟨hc0, hc⟩, hd0, hd⟩ := h
  dsimp only at ha0 ha hb0 hb hc0 hc hd0 hd
  obtain ⟨a, rfl⟩ := Int.eq_ofNat_of_zero_le ha0
  obtain ⟨b, rfl⟩ := Int.eq_ofNat_of_zero_le hb0
  obtain ⟨c, rfl⟩ := Int.eq_ofNat_of_zero_le hc0
  obtain ⟨d, rfl⟩ := Int.eq_ofNat_of_zero_le hd0
  have e : (Tg.mk a b c d).tp = leN a 2 ++ (leN b 6 ++ (leN c 6 ++ (leN d 2 ++ leN (dgN (Tg.mk a b c d).tb) 8))) := by
    show leN a 2 ++ leN b 6 ++ leN c 6 ++ leN d 2 ++ _ = _
    simp only [List.append_assoc]
  have d2 : (Tg.mk a b c d).tp.drop 2 = leN b 6 ++ (leN c 6 ++ (leN d 2 ++ leN (dgN (Tg.mk a b c d).tb) 8)) := by rw [e]; exact List.drop_left' (leN_len _ _)
  have d8 : (Tg.mk a b c d).tp.drop 8 = leN c 6 ++ (leN d 2 ++ leN (dgN (Tg.mk a b c d).tb) 8) := by
    rw [show (8 : Nat) = 2 + 6 from rfl, ← List.drop_drop, d2]; exact List.drop_left' (leN_len _ _)
  have d14 : (Tg.mk a b c d).tp.drop 14 = leN d 2 ++ leN (dgN (Tg.mk a b c d).tb) 8 := by
    rw [show (14 : Nat) = 8 + 6 from rfl, ← List.drop_drop, d8]; exact List.drop_left' (leN_len _ _)
  unfold tgOf
  rw [d2, d8, d14, e, List.take_left' (leN_len _ _), List.take_left' (leN_len _ _), List.take_left' (leN_len _ _), List.take_left' (leN_len _ _), valN_le (by omega), valN_le (by omega), valN_le (by omega), valN_le (by omega)]
theorem Tg.up (t : Tg) (h : t.ok) : upR t.tp = (t, 0) := by
  unfold upR
  rw [t.tp_take, t.tp_drop, valN_le (dgN_lt _), if_pos rfl, t.back h, if_pos h]
/-- Another byte changes the digest, or the one that is written. -/
theorem Tg.up_set (t : Tg) (k : Nat) (hk : k < 24) (y : Nat) (hy : y < 256) (hne : y ≠ t.tp.getD k 0) : (upR (t.tp.set k y)).2 = 102 := by
  have hx : valN ((t.tp.set k y).drop 16) ≠ dgN ((t.tp.set k y).take 16) := by
    by_cases h : k < 16
    · have e1 : (t.tp.set k y).drop 16 = leN (dgN t.tb) 8 := by rw [← t.tp_drop, List.drop_set_of_lt h]
      have e2 : (t.tp.set k y).take 16 = t.tb.set k y := by rw [List.take_set, t.tp_take]
      rw [e1, e2, valN_le (dgN_lt _)]
      unfold dgN
      rw [List.map_set]
      have hl : k < t.tb.length := by rw [t.tb_len]; exact h
      have eg : t.tp.getD k 0 = t.tb[k] := by
        show (t.tb ++ _).getD k 0 = _
        rw [List.getD_eq_getElem?_getD, List.getElem?_append_left hl, List.getElem?_eq_getElem hl]
        rfl
      refine Ne.symm (dig_set (by decide) _ k (by simpa using hl) _ ?_)
      rw [List.getElem_map]
      intro e
      have e3 := congrArg UInt8.toNat e
      rw [UInt8.toNat_ofNat', UInt8.toNat_ofNat', Nat.mod_eq_of_lt (t.tb_lt _ (List.getElem_mem _)), Nat.mod_eq_of_lt hy] at e3
      exact hne (by rw [eg, e3])
    · have e2 : (t.tp.set k y).take 16 = t.tb := by rw [List.take_set_of_le (by omega), t.tp_take]
      have hl : k - 16 < (leN (dgN t.tb) 8).length := by rw [leN_len]; omega
      have e1 : (t.tp.set k y).drop 16 = (leN (dgN t.tb) 8).set (k - 16) y := by
        rw [← t.tp_drop, List.drop_set, if_neg (by omega)]
      rw [e1, e2]
      intro e
      have e4 : valN ((leN (dgN t.tb) 8).set (k - 16) y) = valN (leN (dgN t.tb) 8) := by rw [e, valN_le (dgN_lt _)]
      have e5 := val_inj _ _ (fun x hx => by
        rcases List.mem_or_eq_of_mem_set hx with h | rfl
        · exact leN_lt _ _ _ h
        · exact hy) (leN_lt _ _) (by rw [List.length_set]) e4
      have e6 : y = (leN (dgN t.tb) 8)[k - 16] := by
        have := congrArg (fun l => l[k - 16]?) e5
        simpa [List.getElem?_eq_getElem hl, hl] using this
      refine hne ?_
      rw [e6, List.getD_eq_getElem?_getD, List.getElem?_eq_getElem (by rw [t.tp_len]; omega)]
      simp only [← t.tp_drop, List.getElem_drop, Option.getD_some]
      congr 1
      omega
  unfold upR
  rw [if_neg hx]

theorem u8a_set (X : List Nat) (k v : Nat) : (u8a X).setIfInBounds k (.int .u8 (v : Int)) = u8a (X.set k v) := by
  unfold u8a u8l
  rw [List.setIfInBounds_toArray, List.map_set]
theorem Ba.wpLoadG {W : World} {g : Nat} {L : List Nat} (h : Ba W g L) (hL : L.length = 24) {ops : Array Oper} {rest : List Oper} {o : Oper} {a : Act} {Q : Exit → Act → World → Prop} (x : Operand) (ho : o.op = .load 44 x)
    (hx : a.eval x = .pointer (some ⟨g, 0, none⟩)) (hw : Region.wanted o (yielded ops a.tmps) = true) (k : wpList Tryz.prog ops Q rest (a.put o.dst (.agg (u8a L))) W) : wpList Tryz.prog ops Q (o :: rest) a W :=
  BigFrame.wpList_want hw fun _ hK => wp_load_mid 44 x ho g 0 hx (u8l L) _ (fun j v hj => by rw [Nat.zero_add]; exact cell_h h (by simpa [u8a] using hj)) Tryz.underlying44 rfl (by rw [u8l_len, hL]; exact x_24) (hK _ _ k)
theorem Tb.al {W : World} {g : Nat} {T : TypeId} {t : Tg} (h : Tb W g T t) (o : Obj) : Tb (W.alloc o) g T t := al_old h o
theorem Ba.al {W : World} {g : Nat} {L : List Nat} (h : Ba W g L) (o : Obj) : Ba (W.alloc o) g L := al_old h o
theorem Tb.alr {W : World} {g : Nat} {T : TypeId} {t : Tg} (h : Tb W g T t) (o : Obj) (cs : Array Value) : Tb ((W.alloc o).setRow W.heap.size cs) g T t := (setRow_other _ _ _ _ (by have := h.lt; omega)).trans (al_old h o)
theorem Ba.alr {W : World} {g : Nat} {L : List Nat} (h : Ba W g L) (o : Obj) (cs : Array Value) : Ba ((W.alloc o).setRow W.heap.size cs) g L := (setRow_other _ _ _ _ (by have := h.lt; omega)).trans (al_old h o)
theorem Ba.newr (W : World) (L M : List Nat) : Ba ((W.alloc (.cells (u8a M) 44)).setRow W.heap.size (u8a L)) W.heap.size L := setRow_heap _ _ _ _ _ _ (new_heap W _)
theorem low_alr {w W : World} (h : Below w.heap.size w W) (o : Obj) (cs : Array Value) : Below w.heap.size w ((W.alloc o).setRow W.heap.size cs) := below_setRow (h.alloc h.size _) h.size _

theorem u8_part (v : World) (L : List Nat) (j : Nat) (hj : j < L.length) : (part 5 (u8a L) j).run Tryz.prog v = .ok (.int .u8 ((L.getD j 0 : Nat) : Int)) v := by
  have e : (u8a L)[j]? = some (.int .u8 ((L.getD j 0 : Nat) : Int)) := by rw [← u8l_get hj]; simp [u8a]
  obtain ⟨i0, hi, _, hz1, _⟩ := info_parts x_u8
  simp [part, isAgg, run_underlying Tryz.underlying5, e]
theorem eqItems_self (v : World) (L : List Nat) : ∀ l : List Nat, (∀ j ∈ l, j < L.length) → (Op.eqItems 9999 5 1 (u8a L) (u8a L) l).run Tryz.prog v = .ok true v
  | [], _ => by simp [Op.eqItems]
  | j :: l, h => by
    have p := u8_part v L j (h j (by simp))
    have q : ∀ x, (Op.equalIn 9999 5 (.int .u8 x) (.int .u8 x)).run Tryz.prog v = .ok true v := fun x => by
      rw [show (9999 : Nat) = 9998 + 1 from rfl, run_equalIn_int v 9998 5 .u8 .u8 x x Tryz.underlying5, beq_self_eq_true]
    have ih := eqItems_self v L l (fun j hj => h j (by simp [hj]))
    simp [Op.eqItems, p, q, ih]
theorem eq_arr (w : World) (L : List Nat) (hL : L.length = 24) : (Op.equalIn 10000 44 (.agg (u8a L)) (.agg (u8a L))).run Tryz.prog w = .ok true w := by
  obtain ⟨i0, hi, _, _, _⟩ := info_parts x_u8
  rw [show (10000 : Nat) = 9999 + 1 from rfl, run_equalIn_array w 9999 (u8a L) (u8a L) Tryz.underlying44 hi]
  rw [show Tryz.prog.cellsOf 5 = 1 by kernel_rfl]
  exact eqItems_self w L _ (fun j hj => by rw [hL]; simpa using hj)

set_option maxRecDepth 100000 in
set_option maxHeartbeats 16000000 in
theorem serviceTelegrams_law (w : World) (t : Tg) (L : List Nat) (hL : L.length = 24) (hlt : ∀ x ∈ L, x < 256) (at_ by_ : Int) (hat : 0 ≤ at_ ∧ at_ ≤ 255) (hby : 0 ≤ by_ ∧ by_ ≤ 255) (hG : Gl w) :
    Calls Tryz.prog 5 #[t.val, .agg (u8a L), .int .u8 at_, .int .u8 by_] w fun e w' => e = .returned (.bool true) ∧ Below w.heap.size w w' := by
  have HA : Hid (∀ W, Below w.heap.size w W → Calls Tryz.prog 18 #[] W fun e w' => e = .returned (.bool true) ∧ Below W.heap.size W w') := fun W hW => awake10_of W (hG.keep hW)
  clear hG
  have HP1 : Hid (∀ W, Calls Tryz.prog 19 #[.agg #[.int .i64 t.a, .int .i64 t.b, .int .i64 t.c, .int .i64 t.d]] W fun e w' => e = .returned (.tuple #[.agg (u8a t.pk.1), .int .i64 t.pk.2]) ∧ Below W.heap.size W w') := fun W => pack_of W t
  have HP2 : Hid (∀ W, Calls Tryz.prog 20 #[.agg #[.int .i64 t.a, .int .i64 t.b, .int .i64 t.c, .int .i64 t.d]] W fun e w' => e = .returned (.tuple #[.agg (u8a t.pk.1), .int .i64 t.pk.2]) ∧ Below W.heap.size W w') := fun W => rpack_of W t
  have hXl := t.pk_len
  have HPK : Hid ((t.ok ∧ t.pk = (t.tp, 0)) ∨ t.pk.2 = 1) := by
    by_cases h : t.ok
    · exact .inl ⟨h, if_pos h⟩
    · exact .inr (by unfold Tg.pk; rw [if_neg h])
  obtain ⟨⟨X, pe⟩, hpk⟩ : ∃ r, t.pk = r := ⟨_, rfl⟩
  rw [hpk] at HP1 HP2 hXl HPK
  dsimp only at HP1 HP2 hXl HPK
  clear hpk
  have hU1 := fun W => unpack_of W L hL hlt
  have hU2 := fun W => runpack_of W L hL hlt
  obtain ⟨⟨u, ue⟩, hup⟩ : ∃ r, upR L = r := ⟨_, rfl⟩
  rw [hup] at hU1 hU2
  have HU1 : Hid (∀ W, Calls Tryz.prog 21 #[.agg (u8a L)] W fun e w' => e = .returned (.tuple #[.agg #[.int .i64 u.a, .int .i64 u.b, .int .i64 u.c, .int .i64 u.d], .int .i64 ue]) ∧ Below W.heap.size W w') := hU1
  have HU2 : Hid (∀ W, Calls Tryz.prog 22 #[.agg (u8a L)] W fun e w' => e = .returned (.tuple #[.agg #[.int .i64 u.a, .int .i64 u.b, .int .i64 u.c, .int .i64 u.d], .int .i64 ue]) ∧ Below W.heap.size W w') := hU2
  clear hU1 hU2 hup hlt
  have heqA := fun W => eq_arr W X hXl
  have HEQ := Lib.hid heqA
  clear heqA
  dsimp only [Tg.val]
  go_enter Tryz.func5, Tryz.ntmps5
  go_upto_region 1 with fail
  have k4 : Tb _ w.heap.size 43 t := al_old (new_heap w (.cells #[.int .i64 t.a, .int .i64 t.b, .int .i64 t.c, .int .i64 t.d] 43)) (.cells (u8a L) 44)
  have k5 : Ba _ (w.heap.size + 1) L := al_1 w (.cells #[.int .i64 t.a, .int .i64 t.b, .int .i64 t.c, .int .i64 t.d] 43) (.cells (u8a L) 44)
  have hB := ((Below.refl w.heap.size w).alloc (Nat.le_refl _) (.cells #[.int .i64 t.a, .int .i64 t.b, .int .i64 t.c, .int .i64 t.d] 43)).alloc (by simp) (.cells (u8a L) 44)
  generalize (w.alloc (.cells #[.int .i64 t.a, .int .i64 t.b, .int .i64 t.c, .int .i64 t.d] 43)).alloc (.cells (u8a L) 44) = W1 at k4 k5 hB ⊢
  obtain ⟨b5, hb5⟩ : ∃ b5, w.heap.size + 1 = b5 := ⟨_, rfl⟩
  rw [hb5] at k5 ⊢
  have hb5l : w.heap.size < b5 := by omega
  have K4_1 := Lib.hid k4
  have K5_1 := Lib.hid k5
  have HB_1 := Lib.hid hB
  clear k4 k5 hB hb5
  have s0 := cell_h (k := 0) K4_1.out rfl
  have s1 := cell_h (k := 1) K4_1.out rfl
  have s2 := cell_h (k := 2) K4_1.out rfl
  have s3 := cell_h (k := 3) K4_1.out rfl
  go_wp2_with fail
  refine (HP1.out _).mono ?_
  rintro e V2 ⟨rfl, hB⟩
  have K4_2 := Lib.hid (K4_1.out.keep hB)
  have K5_2 := Lib.hid (K5_1.out.keep hB)
  have HB_2 := Lib.hid (low_trans HB_1.out hB)
  clear hB HP1 K4_1 K5_1 HB_1 s0 s1 s2 s3
  have kn : Ba (World.alloc V2 (.cells #[.int .u8 0, .int .u8 0, .int .u8 0, .int .u8 0, .int .u8 0, .int .u8 0, .int .u8 0, .int .u8 0, .int .u8 0, .int .u8 0, .int .u8 0, .int .u8 0, .int .u8 0, .int .u8 0, .int .u8 0, .int .u8 0, .int .u8 0, .int .u8 0, .int .u8 0, .int .u8 0, .int .u8 0, .int .u8 0, .int .u8 0, .int .u8 0] 44)) V2.heap.size z24 := new_heap _ _
  have KN := Lib.hid kn
  clear kn
  go_upto_region 2 with (refine Ba.wpStore (L := X) KN.out z24_len hXl rfl _ _ rfl rfl rfl ?_)
  clear KN
  rw [← zero24]
  have K4_3 := Lib.hid (K4_2.out.alr (.cells (u8a z24) 44) (u8a X))
  have K5_3 := Lib.hid (K5_2.out.alr (.cells (u8a z24) 44) (u8a X))
  have kn : Ba ((World.alloc V2 (.cells (u8a z24) 44)).setRow V2.heap.size (u8a X)) V2.heap.size X := Ba.newr _ _ _
  have HB_3 := Lib.hid (low_alr HB_2.out (.cells (u8a z24) 44) (u8a X))
  generalize ((World.alloc V2 (.cells (u8a z24) 44)).setRow V2.heap.size (u8a X)) = V3 at kn K4_3 K5_3 HB_3 ⊢
  have hb9 : w.heap.size ≤ V2.heap.size := HB_2.out.size
  generalize V2.heap.size = b9 at kn hb9 ⊢
  have K9_3 := Lib.hid kn
  clear kn K4_2 K5_2 HB_2
  have s0 := cell_h (k := 0) K4_3.out rfl
  have s1 := cell_h (k := 1) K4_3.out rfl
  have s2 := cell_h (k := 2) K4_3.out rfl
  have s3 := cell_h (k := 3) K4_3.out rfl
  go_wp2_with fail
  refine (HP2.out _).mono ?_
  rintro e V4 ⟨rfl, hB⟩
  have K4_4 := Lib.hid (K4_3.out.keep hB)
  have K5_4 := Lib.hid (K5_3.out.keep hB)
  have K9_4 := Lib.hid (K9_3.out.keep hB)
  have HB_4 := Lib.hid (low_trans HB_3.out hB)
  clear hB HP2 K4_3 K5_3 K9_3 HB_3 s0 s1 s2 s3
  have kn : Ba (World.alloc V4 (.cells #[.int .u8 0, .int .u8 0, .int .u8 0, .int .u8 0, .int .u8 0, .int .u8 0, .int .u8 0, .int .u8 0, .int .u8 0, .int .u8 0, .int .u8 0, .int .u8 0, .int .u8 0, .int .u8 0, .int .u8 0, .int .u8 0, .int .u8 0, .int .u8 0, .int .u8 0, .int .u8 0, .int .u8 0, .int .u8 0, .int .u8 0, .int .u8 0] 44)) V4.heap.size z24 := new_heap _ _
  have KN := Lib.hid kn
  clear kn
  go_upto_region 3 with (refine Ba.wpStore (L := X) KN.out z24_len hXl rfl _ _ rfl rfl rfl ?_)
  clear KN
  rw [← zero24]
  have K4_5 := Lib.hid (K4_4.out.alr (.cells (u8a z24) 44) (u8a X))
  have K5_5 := Lib.hid (K5_4.out.alr (.cells (u8a z24) 44) (u8a X))
  have K9_5 := Lib.hid (K9_4.out.alr (.cells (u8a z24) 44) (u8a X))
  have kn : Ba ((World.alloc V4 (.cells (u8a z24) 44)).setRow V4.heap.size (u8a X)) V4.heap.size X := Ba.newr _ _ _
  have HB_5 := Lib.hid (low_alr HB_4.out (.cells (u8a z24) 44) (u8a X))
  generalize ((World.alloc V4 (.cells (u8a z24) 44)).setRow V4.heap.size (u8a X)) = V5 at kn K4_5 K5_5 K9_5 HB_5 ⊢
  have hb11 : w.heap.size ≤ V4.heap.size := HB_4.out.size
  generalize V4.heap.size = b11 at kn hb11 ⊢
  have K11_5 := Lib.hid kn
  clear kn K4_4 K5_4 K9_4 HB_4
  go_wp2_with (refine Ba.wpLoad K5_5.out hL rfl _ rfl rfl ?_)
  refine (HU1.out _).mono ?_
  rintro e V6 ⟨rfl, hB⟩
  have K4_6 := Lib.hid (K4_5.out.keep hB)
  have K5_6 := Lib.hid (K5_5.out.keep hB)
  have K9_6 := Lib.hid (K9_5.out.keep hB)
  have K11_6 := Lib.hid (K11_5.out.keep hB)
  have HB_6 := Lib.hid (low_trans HB_5.out hB)
  clear hB HU1 K4_5 K5_5 K9_5 K11_5 HB_5
  go_upto_region 4 with fail
  have K4_7 := Lib.hid (K4_6.out.al (.cells #[.int .i64 u.a, .int .i64 u.b, .int .i64 u.c, .int .i64 u.d] 43))
  have K5_7 := Lib.hid (K5_6.out.al (.cells #[.int .i64 u.a, .int .i64 u.b, .int .i64 u.c, .int .i64 u.d] 43))
  have K9_7 := Lib.hid (K9_6.out.al (.cells #[.int .i64 u.a, .int .i64 u.b, .int .i64 u.c, .int .i64 u.d] 43))
  have K11_7 := Lib.hid (K11_6.out.al (.cells #[.int .i64 u.a, .int .i64 u.b, .int .i64 u.c, .int .i64 u.d] 43))
  have kn : Tb (World.alloc V6 (.cells #[.int .i64 u.a, .int .i64 u.b, .int .i64 u.c, .int .i64 u.d] 43)) V6.heap.size 43 u := new_heap _ _
  have HB_7 := Lib.hid (HB_6.out.alloc HB_6.out.size (.cells #[.int .i64 u.a, .int .i64 u.b, .int .i64 u.c, .int .i64 u.d] 43))
  generalize (World.alloc V6 (.cells #[.int .i64 u.a, .int .i64 u.b, .int .i64 u.c, .int .i64 u.d] 43)) = V7 at kn K4_7 K5_7 K9_7 K11_7 HB_7 ⊢
  generalize V6.heap.size = b13 at kn ⊢
  have K13_7 := Lib.hid kn
  clear kn K4_6 K5_6 K9_6 K11_6 HB_6
  go_wp2_with (refine Ba.wpLoad K5_7.out hL rfl _ rfl rfl ?_)
  refine (HU2.out _).mono ?_
  rintro e V8 ⟨rfl, hB⟩
  have K4_8 := Lib.hid (K4_7.out.keep hB)
  have K5_8 := Lib.hid (K5_7.out.keep hB)
  have K9_8 := Lib.hid (K9_7.out.keep hB)
  have K11_8 := Lib.hid (K11_7.out.keep hB)
  have K13_8 := Lib.hid (K13_7.out.keep hB)
  have HB_8 := Lib.hid (low_trans HB_7.out hB)
  clear hB HU2 K4_7 K5_7 K9_7 K11_7 K13_7 HB_7
  go_upto_region 5 with fail
  have K4_9 := Lib.hid (K4_8.out.al (.cells #[.int .i64 u.a, .int .i64 u.b, .int .i64 u.c, .int .i64 u.d] 48))
  have K5_9 := Lib.hid (K5_8.out.al (.cells #[.int .i64 u.a, .int .i64 u.b, .int .i64 u.c, .int .i64 u.d] 48))
  have K9_9 := Lib.hid (K9_8.out.al (.cells #[.int .i64 u.a, .int .i64 u.b, .int .i64 u.c, .int .i64 u.d] 48))
  have K11_9 := Lib.hid (K11_8.out.al (.cells #[.int .i64 u.a, .int .i64 u.b, .int .i64 u.c, .int .i64 u.d] 48))
  have K13_9 := Lib.hid (K13_8.out.al (.cells #[.int .i64 u.a, .int .i64 u.b, .int .i64 u.c, .int .i64 u.d] 48))
  have kn : Tb (World.alloc V8 (.cells #[.int .i64 u.a, .int .i64 u.b, .int .i64 u.c, .int .i64 u.d] 48)) V8.heap.size 48 u := new_heap _ _
  have HB_9 := Lib.hid (HB_8.out.alloc HB_8.out.size (.cells #[.int .i64 u.a, .int .i64 u.b, .int .i64 u.c, .int .i64 u.d] 48))
  generalize (World.alloc V8 (.cells #[.int .i64 u.a, .int .i64 u.b, .int .i64 u.c, .int .i64 u.d] 48)) = V9 at kn K4_9 K5_9 K9_9 K11_9 K13_9 HB_9 ⊢
  generalize V8.heap.size = b15 at kn ⊢
  have K15_9 := Lib.hid kn
  clear kn K4_8 K5_8 K9_8 K11_8 K13_8 HB_8
  have heqA := HEQ.out
  have a0 := cell_h (k := 0) K13_9.out rfl
  have c0 := cell_h (k := 0) K15_9.out rfl
  have a1 := cell_h (k := 1) K13_9.out rfl
  have c1 := cell_h (k := 1) K15_9.out rfl
  have a2 := cell_h (k := 2) K13_9.out rfl
  have c2 := cell_h (k := 2) K15_9.out rfl
  have a3 := cell_h (k := 3) K13_9.out rfl
  have c3 := cell_h (k := 3) K15_9.out rfl
  go_upto_region 7 with (first | (refine Ba.wpLoadG K9_9.out hXl _ rfl rfl rfl ?_) | (refine Ba.wpLoadG K11_9.out hXl _ rfl rfl rfl ?_))
  clear heqA HEQ K5_9 K11_9 K13_9 K15_9 a0 a1 a2 a3 c0 c1 c2 c3
  rcases HPK.out with ⟨hok, e⟩ | e
  · obtain ⟨e0, e1⟩ := Prod.mk.inj e
    subst e1
    have HXt := Lib.hid e0
    have hbk := fun W => unpack_of W X hXl (by rw [e0]; exact t.tp_lt)
    have hup := t.up hok
    rw [← e0] at hup
    rw [hup] at hbk
    have HBK : Hid (∀ W, Calls Tryz.prog 21 #[.agg (u8a X)] W fun e w' => e = .returned (.tuple #[.agg #[.int .i64 t.a, .int .i64 t.b, .int .i64 t.c, .int .i64 t.d], .int .i64 0]) ∧ Below W.heap.size W w') := hbk
    clear hbk hup e e0 HPK hok
    go_wp2_with (refine Ba.wpLoad K9_9.out hXl rfl _ rfl rfl ?_)
    refine (HBK.out _).mono ?_
    rintro e V10 ⟨rfl, hB⟩
    have K4_10 := Lib.hid (K4_9.out.keep hB)
    have K9_10 := Lib.hid (K9_9.out.keep hB)
    have HB_10 := Lib.hid (low_trans HB_9.out hB)
    clear hB HBK K4_9 K9_9 HB_9
    go_upto_region 10 with fail
    have K4_11 := Lib.hid (K4_10.out.al (.cells #[.int .i64 t.a, .int .i64 t.b, .int .i64 t.c, .int .i64 t.d] 43))
    have K9_11 := Lib.hid (K9_10.out.al (.cells #[.int .i64 t.a, .int .i64 t.b, .int .i64 t.c, .int .i64 t.d] 43))
    have kn : Tb (World.alloc V10 (.cells #[.int .i64 t.a, .int .i64 t.b, .int .i64 t.c, .int .i64 t.d] 43)) V10.heap.size 43 t := new_heap _ _
    have HB_11 := Lib.hid (HB_10.out.alloc HB_10.out.size (.cells #[.int .i64 t.a, .int .i64 t.b, .int .i64 t.c, .int .i64 t.d] 43))
    generalize World.alloc V10 (.cells #[.int .i64 t.a, .int .i64 t.b, .int .i64 t.c, .int .i64 t.d] 43) = V11 at kn K4_11 K9_11 HB_11 ⊢
    generalize V10.heap.size = b17 at kn ⊢
    clear K4_10 K9_10 HB_10
    have a0 := cell_h (k := 0) kn rfl
    have a1 := cell_h (k := 1) kn rfl
    have a2 := cell_h (k := 2) kn rfl
    have a3 := cell_h (k := 3) kn rfl
    have c0 := cell_h (k := 0) K4_11.out rfl
    have c1 := cell_h (k := 1) K4_11.out rfl
    have c2 := cell_h (k := 2) K4_11.out rfl
    have c3 := cell_h (k := 3) K4_11.out rfl
    clear kn
    obtain ⟨at0, rfl⟩ := Int.eq_ofNat_of_zero_le hat.1
    obtain ⟨y, rfl⟩ := Int.eq_ofNat_of_zero_le hby.1
    obtain ⟨k, hk⟩ : ∃ k, at0 % 24 = k := ⟨_, rfl⟩
    have hk24 : k < 24 := by omega
    have w1 : IntKind.u8.wrap ((at0 : Int).tmod 24) = (k : Int) := by rw [Int.tmod_eq_emod_of_nonneg (by omega), IntKind.wrap_u8]; omega
    have w2 : IntKind.u8.wrap ((at0 : Int) % 24) = (k : Int) := by rw [IntKind.wrap_u8]; omega
    have w3 : (at0 : Int) % 24 = (k : Int) := by omega
    have hki : (k : Int) < 24 := by omega
    obtain ⟨c, hc⟩ : ∃ c, X.getD k 0 = c := ⟨_, rfl⟩
    have hcl : c < 256 := by
      rw [← hc, List.getD_eq_getElem?_getD, List.getElem?_eq_getElem (by omega)]
      have h := t.tp_lt
      rw [← HXt.out] at h
      exact h _ (List.getElem_mem _)
    have ck := K9_11.out.cell (j := k) (by omega)
    rw [hc] at ck
    have cf := fz_h K9_11.out k
    have hx : bits .xor .u8 ((c : Nat) : Int) ((y : Nat) : Int) = ((c ^^^ y : Nat) : Int) := u8_xor_nat _ _ hcl (by omega)
    go_upto_region 13 with fail
    have hy256 : c ^^^ y < 256 := Nat.xor_lt_two_pow (n := 8) hcl (by omega)
    have kn : Ba (V11.setCell ⟨b9, k, none⟩ (.int .u8 ((c ^^^ y : Nat) : Int))) b9 (X.set k (c ^^^ y)) := by
      have q := heap_set (k := k) K9_11.out (.int .u8 ((c ^^^ y : Nat) : Int))
      rwa [u8a_set] at q
    have HB_12 := Lib.hid (HB_11.out.setCell (p := ⟨b9, k, none⟩) hb9 (.int .u8 ((c ^^^ y : Nat) : Int)))
    generalize V11.setCell ⟨b9, k, none⟩ (.int .u8 ((c ^^^ y : Nat) : Int)) = V12 at kn HB_12 ⊢
    have K9_12 := Lib.hid kn
    have hsl : (X.set k (c ^^^ y)).length = 24 := by rw [List.length_set]; exact hXl
    have hbk := fun W => unpack_of W (X.set k (c ^^^ y)) hsl (fun x hx => by
      rcases List.mem_or_eq_of_mem_set hx with h | rfl
      · rw [HXt.out] at h
        exact t.tp_lt _ h
      · exact hy256)
    have h102 : y ≠ 0 → (upR (X.set k (c ^^^ y))).2 = 102 := fun hy0 => by
      rw [HXt.out]
      refine t.up_set k hk24 _ hy256 ?_
      rw [← HXt.out, hc]
      intro e
      exact hy0 (xor_left_inj (h := c) (c := y) (c' := 0) (by rw [e, Nat.xor_zero]))
    obtain ⟨⟨u2, ue2⟩, hup2⟩ : ∃ r, upR (X.set k (c ^^^ y)) = r := ⟨_, rfl⟩
    rw [hup2] at hbk h102
    have HBK : Hid (∀ W, Calls Tryz.prog 21 #[.agg (u8a (X.set k (c ^^^ y)))] W fun e w' => e = .returned (.tuple #[.agg #[.int .i64 u2.a, .int .i64 u2.b, .int .i64 u2.c, .int .i64 u2.d], .int .i64 ue2]) ∧ Below W.heap.size W w') := hbk
    have H102 : Hid (y ≠ 0 → ue2 = 102) := h102
    clear hbk h102 hup2 kn K4_11 K9_11 HB_11 a0 a1 a2 a3 c0 c1 c2 c3 ck cf hx w1 w2 w3 hki hcl hy256 hc hk hk24
    go_wp2_with (refine Ba.wpLoad K9_12.out hsl rfl _ rfl rfl ?_)
    refine (HBK.out _).mono ?_
    rintro e V13 ⟨rfl, hB⟩
    have HB_13 := Lib.hid (low_trans HB_12.out hB)
    clear hB HBK K9_12 HB_12
    by_cases hy0 : y = 0
    · subst hy0
      clear H102
      go_wp2_with fail
      refine (HA.out _ HB_13.out).mono ?_
      rintro e V ⟨rfl, hB⟩
      have HB := Lib.hid (low_trans HB_13.out hB)
      clear hB HA HB_13
      go_wp2_with fail
      go_ret
      exact ⟨rfl, HB.out⟩
    · have e2 := H102.out hy0
      subst e2
      have hyb : ((y : Int) == 0) = false := by simpa using hy0
      clear H102
      go_wp2_with fail
      refine (HA.out _ HB_13.out).mono ?_
      rintro e V ⟨rfl, hB⟩
      have HB := Lib.hid (low_trans HB_13.out hB)
      clear hB HA HB_13
      go_wp2_with fail
      go_ret
      exact ⟨rfl, HB.out⟩
  · subst e
    go_wp2_with fail
    refine (HA.out _ HB_9.out).mono ?_
    rintro e V ⟨rfl, hB⟩
    have HB := Lib.hid (low_trans HB_9.out hB)
    clear hB HA HB_9
    go_wp2_with fail
    go_ret
    exact ⟨rfl, HB.out⟩
end Go.Proofs.YtmdniebedflpbaaGreatDoor
