/-
  WORDS: telegrams as bytes; blocks that hold arrays of bytes; WALKS: Pack (the program).
-/
import Derived.Test.YtmdniebedflpbaaGreatDoorVpC
import Derived.Laws.CopyOwn
import Derived.Laws.ResultCell
namespace Go.Proofs.YtmdniebedflpbaaGreatDoor
open Go.RowKit

/-- The bytes of a telegram, their digest, all of them; what Pack returns. -/
def Tg.tb (t : Tg) : List Nat := leN t.a.toNat 2 ++ leN t.b.toNat 6 ++ leN t.c.toNat 6 ++ leN t.d.toNat 2
def dgN (L : List Nat) : Nat := dig 7 (L.map UInt8.ofNat)
def Tg.tp (t : Tg) : List Nat := t.tb ++ leN (dgN t.tb) 8
def z24 : List Nat := [0, 0, 0, 0, 0, 0, 0, 0, 0, 0, 0, 0, 0, 0, 0, 0, 0, 0, 0, 0, 0, 0, 0, 0]
theorem z24_len : z24.length = 24 := rfl
theorem z24_rep : z24 = List.replicate 24 0 := rfl
def Tg.pk (t : Tg) : List Nat × Int := if t.ok then (t.tp, 0) else (z24, 1)
theorem Tg.tb_len (t : Tg) : t.tb.length = 16 := by simp [Tg.tb, leN_len]
theorem Tg.tp_len (t : Tg) : t.tp.length = 24 := by simp [Tg.tp, Tg.tb_len, leN_len]
theorem Tg.tb_lt (t : Tg) : ∀ x ∈ t.tb, x < 256 := by
  intro x hx
  simp only [Tg.tb, List.mem_append] at hx
  rcases hx with ((h | h) | h) | h <;> exact leN_lt _ _ _ h
theorem Tg.tp_lt (t : Tg) : ∀ x ∈ t.tp, x < 256 := by
  intro x hx
  rcases List.mem_append.1 hx with h | h
  · exact t.tb_lt x h
  · exact leN_lt _ _ _ h
theorem dgN_lt (L : List Nat) : dgN L < 18446744073709551616 := dig_lt _ (by decide)
theorem Tg.pk_len (t : Tg) : t.pk.1.length = 24 := by unfold Tg.pk; split <;> simp [Tg.tp_len, z24_len]
/-- An array of bytes; a block that holds one. -/
def u8a (L : List Nat) : Array Value := (u8l L).toArray
theorem u8a_size (L : List Nat) : (u8a L).size = L.length := by simp [u8a, u8l]
theorem u8a_one (L : List Nat) : (u8a L).all (·.oneCell') = true := all_oneCell_toArray (u8l_one L)
def Ba (W : World) (g : Nat) (L : List Nat) : Prop := W.heap[g]? = some (.cells (u8a L) 44 (0, 0))
theorem Ba.lt {W : World} {g : Nat} {L : List Nat} (h : Ba W g L) : g < W.heap.size := (Array.getElem?_eq_some_iff.1 h).1
theorem Ba.keep {W W' : World} {g : Nat} {L : List Nat} (h : Ba W g L) (hb : Below W.heap.size W W') : Ba W' g L := (hb.block _ h.lt).trans h
theorem Ba.cell {W : World} {g j : Nat} {L : List Nat} (h : Ba W g L) (hj : j < L.length) : W.cell? ⟨g, j, none⟩ = some (.int .u8 ((L.getD j 0 : Nat) : Int)) :=
  cell_h h (by rw [← u8l_get hj]; simp [u8a])
theorem x_24 : (Tryz.prog.info? 44).map (·.size) = some 24 := by kernel_rfl
theorem Ba.load {W : World} {g : Nat} {L : List Nat} (h : Ba W g L) (hL : L.length = 24) : (loadVar 44 ⟨g, 0, none⟩).run Tryz.prog W = .ok (.agg (u8a L)) W :=
  run_loadVar_row W g 44 44 (u8a L) (0, 0) _ h Tryz.underlying44 rfl (by rw [u8a_size, hL]; exact x_24)
theorem Ba.loadAt {W : World} {g : Nat} {L : List Nat} (h : Ba W g L) (hL : L.length = 24) : (Instr.loadAt 44 (.pointer (some ⟨g, 0, none⟩))).run Tryz.prog W = .ok (.agg (u8a L)) W := by
  simp only [Instr.loadAt, Instr.sureAddr, Sem.run_bind, Sem.run_pure, Result.andThen_ok, h.load hL]
theorem Ba.storeAt {W : World} {g : Nat} {M L : List Nat} (h : Ba W g M) (hM : M.length = 24) (hL : L.length = 24) : (Instr.storeAt 44 (.pointer (some ⟨g, 0, none⟩)) (.agg (u8a L))).run Tryz.prog W = .ok () (W.setRow g (u8a L)) := by
  simp only [Instr.storeAt, Instr.sureAddr, Sem.run_bind, Sem.run_pure, Result.andThen_ok]
  exact run_storeVar_row W g 44 44 (u8a M) (u8a L) h (by rw [u8a_size, hL]; exact x_24) (by rw [u8a_size, u8a_size, hM, hL]) (u8a_one L)
theorem Ba.set {W : World} {g : Nat} {M L : List Nat} (h : Ba W g M) : Ba (W.setRow g (u8a L)) g L := setRow_heap W g _ _ _ _ h
theorem zero24 : u8a z24 = #[.int .u8 0, .int .u8 0, .int .u8 0, .int .u8 0, .int .u8 0, .int .u8 0, .int .u8 0, .int .u8 0, .int .u8 0, .int .u8 0, .int .u8 0, .int .u8 0, .int .u8 0, .int .u8 0, .int .u8 0, .int .u8 0, .int .u8 0, .int .u8 0, .int .u8 0, .int .u8 0, .int .u8 0, .int .u8 0, .int .u8 0, .int .u8 0] := rfl
/-- A load and a store of a whole array, as a walk's arms. -/
theorem Ba.wpLoad {W : World} {g : Nat} {L : List Nat} (h : Ba W g L) (hL : L.length = 24) {ops : Array Oper} {rest : List Oper} {o : Oper} {a : Act} {Q : Exit → Act → World → Prop} (hgd : o.guard = none) (x : Operand) (ho : o.op = .load 44 x)
    (hx : a.eval x = .pointer (some ⟨g, 0, none⟩)) (k : wpList Tryz.prog ops Q rest (a.put o.dst (.agg (u8a L))) W) : wpList Tryz.prog ops Q (o :: rest) a W :=
  wpList_load_mid hgd 44 x ho g 0 hx (u8l L) _ (fun j v hj => by rw [Nat.zero_add]; exact cell_h h (by simpa [u8a] using hj)) Tryz.underlying44 rfl (by rw [u8l_len, hL]; exact x_24) k
theorem Ba.wpStore {W : World} {g : Nat} {M L : List Nat} (h : Ba W g M) (hM : M.length = 24) (hL : L.length = 24) {ops : Array Oper} {rest : List Oper} {o : Oper} {a : Act} {Q : Exit → Act → World → Prop} (hgd : o.guard = none) (x y : Operand) (ho : o.op = .store 44 x y)
    (hx : a.eval x = .pointer (some ⟨g, 0, none⟩)) (hy : a.eval y = .agg (u8a L)) (k : wpList Tryz.prog ops Q rest (a.put o.dst undef) (W.setRow g (u8a L))) : wpList Tryz.prog ops Q (o :: rest) a W :=
  wpList_store_row hgd 44 x y ho g (u8a L) hx hy 44 (u8a M) h (by rw [u8a_size, hL]; exact x_24) (by rw [u8a_size, u8a_size, hM, hL]) (u8a_one L) k
/-- A box with a telegram. -/
def Tb (W : World) (g : Nat) (T : TypeId) (t : Tg) : Prop := W.heap[g]? = some (.cells #[.int .i64 t.a, .int .i64 t.b, .int .i64 t.c, .int .i64 t.d] T (0, 0))
theorem Tb.lt {W : World} {g : Nat} {T : TypeId} {t : Tg} (h : Tb W g T t) : g < W.heap.size := (Array.getElem?_eq_some_iff.1 h).1
theorem Tb.keep {W W' : World} {g : Nat} {T : TypeId} {t : Tg} (h : Tb W g T t) (hb : Below W.heap.size W W') : Tb W' g T t := (hb.block _ h.lt).trans h

set_option maxRecDepth 100000 in
set_option maxHeartbeats 8000000 in
theorem pack_of (w : World) (t : Tg) : Calls Tryz.prog 19 #[t.val] w fun e W => e = .returned (.tuple #[.agg (u8a t.pk.1), .int .i64 t.pk.2]) ∧ Below w.heap.size w W := by
  have HF : Hid (∀ W, Calls Tryz.prog 50 #[.agg #[.int .i64 t.a, .int .i64 t.b, .int .i64 t.c, .int .i64 t.d]] W fun e w' => e = .returned (.bool (decide t.ok)) ∧ Below W.heap.size W w') := fun W => fits_of W t
  by_cases hok : t.ok
  · have e0 : t.pk = (t.tp, 0) := if_pos hok
    rw [e0]
    rw [decide_eq_true hok] at HF
    obtain ⟨a, b, c, d⟩ := t
    obtain ⟨⟨ha0, ha⟩, ⟨hb0, hb⟩, ⟨hc0, hc⟩, hd0, hd⟩ := hok
    dsimp only at ha0 ha hb0 hb hc0 hc hd0 hd HF
    obtain ⟨a, rfl⟩ := Int.eq_ofNat_of_zero_le ha0
    obtain ⟨b, rfl⟩ := Int.eq_ofNat_of_zero_le hb0
    obtain ⟨c, rfl⟩ := Int.eq_ofNat_of_zero_le hc0
    obtain ⟨d, rfl⟩ := Int.eq_ofNat_of_zero_le hd0
    have qa : IntKind.u64.wrap (a : Int) = a := by rw [IntKind.wrap_u64]; omega
    have qb : IntKind.u64.wrap (b : Int) = b := by rw [IntKind.wrap_u64]; omega
    have qc : IntKind.u64.wrap (c : Int) = c := by rw [IntKind.wrap_u64]; omega
    have qd : IntKind.u64.wrap (d : Int) = d := by rw [IntKind.wrap_u64]; omega
    have HT : Hid ((Tg.mk a b c d).tb = leN a 2 ++ leN b 6 ++ leN c 6 ++ leN d 2) := rfl
    have HP : Hid ((Tg.mk a b c d).tp = (Tg.mk a b c d).tb ++ leN (dgN (Tg.mk a b c d).tb) 8) := rfl
    have hpl := (Tg.mk a b c d).tp_len
    have htl := (Tg.mk a b c d).tb_len
    have HTL := Lib.hid (Tg.mk a b c d).tb_lt
    obtain ⟨X, hX⟩ : ∃ X, (Tg.mk a b c d).tp = X := ⟨_, rfl⟩
    obtain ⟨Y, hY⟩ : ∃ Y, (Tg.mk a b c d).tb = Y := ⟨_, rfl⟩
    rw [hX, hY] at HP
    rw [hX] at hpl
    rw [hY] at HT HTL htl
    dsimp only
    rw [hX]
    clear hX hY
    show Calls Tryz.prog 19 #[.agg #[.int .i64 (a : Int), .int .i64 (b : Int), .int .i64 (c : Int), .int .i64 (d : Int)]] w _
    go_enter Tryz.func19, Tryz.ntmps19
    go_upto_region 1 with fail
    rw [← zero24]
    obtain ⟨W, hW⟩ : ∃ W, (w.alloc (.cells #[.int .i64 (a : Int), .int .i64 (b : Int), .int .i64 (c : Int), .int .i64 (d : Int)] 43)).alloc (.cells (u8a z24) 44) = W := ⟨_, rfl⟩
    have k1 : Tb W w.heap.size 43 ⟨a, b, c, d⟩ := by rw [← hW]; exact al_old (new_heap w _) _
    have k2 : Ba W (w.heap.size + 1) z24 := by rw [← hW]; exact al_1 w _ _
    have hB : Below w.heap.size w W := by rw [← hW]; exact ((Below.refl _ _).alloc (Nat.le_refl _) _).alloc (by simp) _
    rw [hW]
    obtain ⟨b2, hb2⟩ : ∃ b2, w.heap.size + 1 = b2 := ⟨_, rfl⟩
    rw [hb2] at k2 ⊢
    have hb2l : w.heap.size < b2 := by omega
    have K1 := Lib.hid k1
    have K2 := Lib.hid k2
    have HB := Lib.hid hB
    clear hW k1 k2 hB hb2
    have s0 := cell_h (k := 0) K1.out rfl
    have s1 := cell_h (k := 1) K1.out rfl
    have s2 := cell_h (k := 2) K1.out rfl
    have s3 := cell_h (k := 3) K1.out rfl
    dsimp only at s0 s1 s2 s3
    go_wp2_with fail
    refine (HF.out _).mono ?_
    rintro e V ⟨rfl, hV⟩
    have K1_1 := Lib.hid (K1.out.keep hV)
    have K2_1 := Lib.hid (K2.out.keep hV)
    have HB_1 := Lib.hid (low_trans HB.out hV)
    clear hV HF s0 s1 s2 s3 K1 K2 HB
    go_upto_region 5 with fail
    obtain ⟨W2, hW2⟩ : ∃ W2, V.alloc (.cells #[.slice none 0 0] 57) = W2 := ⟨_, rfl⟩
    rw [hW2]
    have P0 : Hid (Pts V W2 V.heap.size []) := ⟨Nat.le_refl _, ⟨_, by rw [← hW2]; exact new_heap _ _, World.ownsRow_nil _ _ _ _⟩, by rw [← hW2]; exact (Below.refl _ _).alloc (Nat.le_refl _) _⟩
    clear hW2
    have k1 := K1_1.out.keep P0.out.below
    have s0 := cell_h (k := 0) k1 rfl
    dsimp only at s0
    clear k1
    go_wp2_with fail
    refine (put_of V W2 V.heap.size [] a 2 P0.out (by omega) (by decide) (by decide)).mono ?_
    rintro e W3 ⟨rfl, h⟩
    have P1 : Hid (Pts V W3 V.heap.size (leN a 2)) := h
    clear h s0 P0
    have k1 := K1_1.out.keep P1.out.below
    have s1 := cell_h (k := 1) k1 rfl
    dsimp only at s1
    clear k1
    go_wp2_with fail
    refine (put_of V W3 V.heap.size _ b 6 P1.out (by omega) (by decide) (by simp [leN_len])).mono ?_
    rintro e W4 ⟨rfl, h⟩
    have P2 := Lib.hid h
    clear h s1 P1
    have k1 := K1_1.out.keep P2.out.below
    have s2 := cell_h (k := 2) k1 rfl
    dsimp only at s2
    clear k1
    go_wp2_with fail
    refine (put_of V W4 V.heap.size _ c 6 P2.out (by omega) (by decide) (by simp [leN_len])).mono ?_
    rintro e W5 ⟨rfl, h⟩
    have P3 := Lib.hid h
    clear h s2 P2
    have k1 := K1_1.out.keep P3.out.below
    have s3 := cell_h (k := 3) k1 rfl
    dsimp only at s3
    clear k1
    go_wp2_with fail
    refine (put_of V W5 V.heap.size _ d 2 P3.out (by omega) (by decide) (by simp [leN_len])).mono ?_
    rintro e W6 ⟨rfl, h⟩
    rw [← HT.out] at h
    obtain ⟨hlo, ⟨v, hv, hO⟩, hbel⟩ := h
    rw [htl] at hO
    obtain ⟨g, cap, rfl⟩ := ownsRow_succ hO
    obtain ⟨g', hg', hgb, hcap, hcl⟩ := own_cell hO (by decide)
    obtain rfl : g = g' := by simpa using hg'
    have hby : Lib.Bytes W6 g 0 (bsOf Y) := bytes_of HTL.out fun j hj => by rw [Nat.zero_add]; exact hcl j _ (u8l_get hj)
    have hcv := Lib.run_convert_whole (P := Tryz.prog) W6 57 5 9 Tryz.underlying57 Tryz.underlying5 Tryz.underlying9 g 0 (bsOf Y) hby cap
    rw [bsOf_size, htl] at hcv
    have hdg : Hid (∀ W, Calls Tryz.prog 23 #[.int .u64 7, .string (bsOf Y)] W fun e w' => e = .returned (.int .u64 ((dgN Y : Nat) : Int)) ∧ w' = W) := fun W => by
      have q := digest_of W 7 (by decide) (bsOf Y) (by rw [bsOf_size, htl]; decide)
      rw [bsOf_list] at q
      exact q
    have P4 : Hid (Pts V W6 V.heap.size Y) := ⟨hlo, ⟨_, hv, by rw [htl]; exact hO⟩, hbel⟩
    have r0 := cell_h (k := 0) hv rfl
    have hdl := dgN_lt Y
    obtain ⟨z, hz⟩ : ∃ z, dgN Y = z := ⟨_, rfl⟩
    rw [hz] at hdg hdl HP
    clear hlo hv hO hbel hcl hby hg' P3 s3 hz
    go_wp2_with fail
    refine (hdg.out _).mono ?_
    rintro e w9 ⟨rfl, rfl⟩
    go_wp2_with fail
    refine (put_of V w9 V.heap.size _ z 8 P4.out (by omega) (by decide) (by omega)).mono ?_
    rintro e W7 ⟨rfl, h⟩
    rw [← HP.out] at h
    obtain ⟨hlo, ⟨v, hv, hO⟩, hbel⟩ := h
    rw [hpl] at hO
    obtain ⟨g2, cap2, rfl⟩ := ownsRow_succ hO
    obtain ⟨g', hg', hgb2, hcap2, hcl⟩ := own_cell hO (by decide)
    obtain rfl : g2 = g' := by simpa using hg'
    have hap : ∀ W, (Instr.arrayAt 44 (.slice (some ⟨g2, 0, none⟩) 24 cap2)).run Tryz.prog W = .ok (.pointer (some ⟨g2, 0, none⟩)) W := fun W => by simp [Instr.arrayAt, run_underlying Tryz.underlying44]
    have HR : Hid (W7.rangeAt g2 0 (u8l X)) := fun j v hj => by rw [Nat.zero_add]; exact hcl j v hj
    have k2 := K2_1.out.keep hbel
    have KK := Lib.hid k2
    have r1 := cell_h (k := 0) hv rfl
    have k3 := Ba.set (L := X) k2
    have hl2 := k3.load hpl
    have hB7 : Below w.heap.size w (W7.setRow b2 (u8a X)) := below_setRow (HB_1.out.trans (hbel.mono HB_1.out.size)) (by omega) _
    have HB7 := Lib.hid hB7
    clear hlo hv hO hbel hcl hg' r0 hcv hdg P4 k2 k3 K1_1 K2_1 HB_1 hB7
    go_wp2_with (first | (refine wpList_load_mid rfl 44 _ rfl g2 0 rfl (u8l X) _ HR.out Tryz.underlying44 rfl (by rw [u8l_len, hpl]; exact x_24) ?_; change wpList _ _ _ _ (Act.put _ _ (.agg (u8a X))) _) | (refine Ba.wpStore KK.out z24_len hpl rfl _ _ rfl rfl rfl ?_))
    refine bodyPost_ret (v := .tuple #[.agg (u8a X), .int .i64 0]) ?_ rfl ⟨rfl, HB7.out⟩
    rw [results_cell_tmp rfl]
    simp [asAddr, Result.andThen, hl2]
  · have e0 : t.pk = (z24, 1) := if_neg hok
    rw [e0]
    rw [decide_eq_false hok] at HF
    obtain ⟨a, b, c, d⟩ := t
    show Calls Tryz.prog 19 #[.agg #[.int .i64 a, .int .i64 b, .int .i64 c, .int .i64 d]] w _
    clear e0 hok
    dsimp only at HF
    go_enter Tryz.func19, Tryz.ntmps19
    go_upto_region 1 with fail
    rw [← zero24]
    obtain ⟨W, hW⟩ : ∃ W, (w.alloc (.cells #[.int .i64 a, .int .i64 b, .int .i64 c, .int .i64 d] 43)).alloc (.cells (u8a z24) 44) = W := ⟨_, rfl⟩
    have k1 : Tb W w.heap.size 43 ⟨a, b, c, d⟩ := by rw [← hW]; exact al_old (new_heap w _) _
    have k2 : Ba W (w.heap.size + 1) z24 := by rw [← hW]; exact al_1 w _ _
    have hB : Below w.heap.size w W := by rw [← hW]; exact ((Below.refl _ _).alloc (Nat.le_refl _) _).alloc (by simp) _
    rw [hW]
    obtain ⟨b2, hb2⟩ : ∃ b2, w.heap.size + 1 = b2 := ⟨_, rfl⟩
    rw [hb2] at k2 ⊢
    have hb2l : w.heap.size < b2 := by omega
    have K1 := Lib.hid k1
    have K2 := Lib.hid k2
    have HB := Lib.hid hB
    clear hW k1 k2 hB hb2
    have s0 := cell_h (k := 0) K1.out rfl
    have s1 := cell_h (k := 1) K1.out rfl
    have s2 := cell_h (k := 2) K1.out rfl
    have s3 := cell_h (k := 3) K1.out rfl
    dsimp only at s0 s1 s2 s3
    go_wp2_with fail
    refine (HF.out _).mono ?_
    rintro e V ⟨rfl, hV⟩
    have K2_1 := Lib.hid (K2.out.keep hV)
    have HB_1 := Lib.hid (low_trans HB.out hV)
    clear hV HF s0 s1 s2 s3 K1 K2 HB
    go_wp2_with (refine Ba.wpStore (L := z24) K2_1.out z24_len z24_len rfl _ _ rfl rfl rfl ?_)
    refine bodyPost_ret (v := .tuple #[.agg (u8a z24), .int .i64 1]) ?_ rfl ⟨rfl, below_setRow HB_1.out (by omega) _⟩
    rw [results_cell_tmp rfl]
    have hl2 := (Ba.set (L := z24) K2_1.out).load z24_len
    simp [asAddr, Result.andThen, hl2]
end Go.Proofs.YtmdniebedflpbaaGreatDoor
