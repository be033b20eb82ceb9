/-
  WALKS: the table of prices.
-/
import Derived.Test.YtonlamkpehakdaaPmG
namespace Go.Proofs.Ytonlamkpehakdaa
open Go.RowKit

theorem Blk.other {w : World} {b b' : Nat} {t : TypeId} {n : Nat} {g : Nat → Value} (h : Blk w b t n g) (hne : b ≠ b') (o : Nat) (v : Value) : Blk (w.setCell ⟨b', o, none⟩ v) b t n g :=
  (Below.heap_setCell w ⟨b', o, none⟩ v b hne).trans h
theorem x_intv : (Try.prog.info? 3).map (fun i => (i.zero, i.size, i.bytes)) = some (some (.int .i64 0), 1, 8) := by kernel_rfl
theorem x_ints : (Try.prog.info? 23).map (fun i => (i.zero, i.size, i.bytes)) = some (some (.slice none 0 0), 1, 24) := by kernel_rfl

/-- The cells of the table's own block: r rows are laid. -/
def rwG (m : Nat) (rb : Nat → Nat) (r i : Nat) : Value := if i < r then .slice (some ⟨rb i, 0, none⟩) (m + 1) (m + 1) else .slice none 0 0
/-- The elements when the row i has been told up to k. -/
def Tik (L F M : Int) (g h : Nat → Int) (i k a b : Nat) : Int := if a < i then prc L F M g h a b else if b < k then prc L F M g h i b else 0

/-- The table while it is filled: r rows are laid, with the elements T. -/
structure Tbl (B : Nat) (w : World) (bt n m : Nat) (rb : Nat → Nat) (T : Nat → Nat → Int) (r : Nat) : Prop where
  tb : Blk w bt 23 (n + 1) (rwG m rb r)
  rw : ∀ i, i < r → Blk w (rb i) 3 (m + 1) (fun k => .int .i64 (T i k)) ∧ rb i ≠ bt ∧ B ≤ rb i
  inj : ∀ i j, i < r → j < r → i ≠ j → rb i ≠ rb j
  lo : B ≤ bt
theorem Tbl.keep {B : Nat} {w w' : World} {bt n m : Nat} {rb : Nat → Nat} {T : Nat → Nat → Int} {r : Nat} (h : Tbl B w bt n m rb T r) (hb : Below w.heap.size w w') : Tbl B w' bt n m rb T r :=
  ⟨h.tb.keep hb h.tb.lt, fun i hi => ⟨(h.rw i hi).1.keep hb (h.rw i hi).1.lt, (h.rw i hi).2⟩, h.inj, h.lo⟩
theorem Tbl.congr {B : Nat} {w : World} {bt n m : Nat} {rb : Nat → Nat} {T T' : Nat → Nat → Int} {r : Nat} (h : Tbl B w bt n m rb T r) (e : ∀ i, i < r → ∀ k, k ≤ m → T i k = T' i k) : Tbl B w bt n m rb T' r :=
  ⟨h.tb, fun i hi => ⟨(h.rw i hi).1.congr fun k hk => by rw [e i hi k (by omega)], (h.rw i hi).2⟩, h.inj, h.lo⟩
theorem Tbl.at {B : Nat} {w : World} {bt n m : Nat} {rb : Nat → Nat} {T : Nat → Nat → Int} {r : Nat} (h : Tbl B w bt n m rb T r) (hr : r ≤ n + 1) (hb : ∀ i, i < r → ∀ k, k ≤ m → -1125899906842624 ≤ T i k ∧ T i k ≤ 1125899906842624) : TbAt w bt m rb T r :=
  ⟨fun i hi => by rw [h.tb.cell (by omega)]; unfold rwG; rw [if_pos hi], fun i hi k hk => (h.rw i hi).1.cell (by omega), hb⟩
/-- One element. -/
theorem Tbl.set {B : Nat} {w : World} {bt n m : Nat} {rb : Nat → Nat} {T : Nat → Nat → Int} {r : Nat} (h : Tbl B w bt n m rb T r) (i k : Nat) (hi : i < r) (v : Int) :
    Tbl B (w.setCell ⟨rb i, k, none⟩ (.int .i64 v)) bt n m rb (fun a b => if a = i then turn (T i) k v b else T a b) r := by
  refine ⟨h.tb.other (Ne.symm (h.rw i hi).2.1) _ _, fun a ha => ⟨?_, (h.rw a ha).2⟩, h.inj, h.lo⟩
  by_cases e : a = i
  · subst e
    refine ((h.rw a ha).1.set k (.int .i64 v)).congr fun b _ => ?_
    unfold turn
    rw [if_pos rfl]
    split <;> rfl
  · refine ((h.rw a ha).1.other (h.inj a i ha hi e) _ _).congr fun b _ => ?_
    rw [if_neg e]
/-- One row more, of zeros. -/
theorem Tbl.row {B : Nat} {w : World} {bt n m : Nat} {rb : Nat → Nat} {T : Nat → Nat → Int} {r : Nat} (h : Tbl B w bt n m rb T r) (hB : B ≤ w.heap.size) :
    Tbl B ((w.setCell ⟨bt, r, none⟩ (.slice (some ⟨w.heap.size, 0, none⟩) (m + 1) (m + 1))).alloc (.cells (vrow (m + 1) (zc (.int .i64 0) 1)) 3)) bt n m (turn rb r w.heap.size) (fun a b => if a < r then T a b else 0) (r + 1) := by
  have hne : ∀ i, i < r → rb i ≠ w.heap.size := fun i hi => Nat.ne_of_lt (h.rw i hi).1.lt
  have hbt : bt ≠ w.heap.size := Nat.ne_of_lt h.tb.lt
  refine ⟨?_, fun i hi => ?_, fun i j hi hj hij => ?_, h.lo⟩
  · refine ((h.tb.set r _).alloc _).congr fun i _ => ?_
    unfold rwG turn
    by_cases e : i = r
    · subst e; simp
    · rw [if_neg e]
      dsimp only
      by_cases h1 : i < r
      · rw [if_pos h1, if_pos (by omega), if_neg e]
      · rw [if_neg h1, if_neg (by omega)]
  · by_cases e : i = r
    · subst e
      rw [turn_same]
      have hnw := Blk.new (w.setCell ⟨bt, i, none⟩ (.slice (some ⟨w.heap.size, 0, none⟩) (m + 1) (m + 1))) 3 (m + 1) (zc (.int .i64 0) 1)
      rw [show (w.setCell ⟨bt, i, none⟩ (.slice (some ⟨w.heap.size, 0, none⟩) (m + 1) (m + 1))).heap.size = w.heap.size by simp [World.setCell]] at hnw
      refine ⟨hnw.congr fun k _ => ?_, Ne.symm hbt, hB⟩
      rw [if_neg (by omega)]
      simp [zc, Nat.mod_one, Value.cells]
    · rw [turn_other _ _ _ e]
      have hi' : i < r := by omega
      refine ⟨(((h.rw i hi').1.other (h.rw i hi').2.1 _ _).alloc _).congr fun k _ => ?_, (h.rw i hi').2⟩
      rw [if_pos hi']
  · unfold turn
    split
    · split
      · omega
      · exact Ne.symm (hne j (by omega))
    · split
      · exact hne i (by omega)
      · exact h.inj i j (by omega) (by omega) hij

theorem Tik_step (L F M : Int) (g h : Nat → Int) (i k a b : Nat) (ha : a ≤ i) : (if a = i then turn (Tik L F M g h i k i) k (prc L F M g h i k) b else Tik L F M g h i k a b) = Tik L F M g h i (k + 1) a b := by
  by_cases e : a = i
  · subst e
    rw [if_pos rfl]
    by_cases e2 : b = k
    · subst e2; rw [turn_same]; unfold Tik; rw [if_neg (by omega), if_pos (by omega)]
    · rw [turn_other _ _ _ e2]
      unfold Tik
      simp only [if_neg (Nat.lt_irrefl a)]
      by_cases e3 : b < k
      · rw [if_pos e3, if_pos (by omega)]
      · rw [if_neg e3, if_neg (by omega)]
  · rw [if_neg e]; unfold Tik; rw [if_pos (by omega), if_pos (by omega)]
def PriceEnd (w : World) (n m : Nat) (T : Nat → Nat → Int) (e : Ending) (w' : World) : Prop := ∃ bt rb, e = .returned (.slice (some ⟨bt, 0, none⟩) (n + 1) (n + 1)) ∧ Tbl w.heap.size w' bt n m rb T (n + 1) ∧ Below w.heap.size w w'
set_option maxRecDepth 100000 in
set_option maxHeartbeats 8000000 in
theorem priceTable_of (w : World) (wa ha : Option Addr) (n wc m hc : Nat) (g h : Nat → Int) (L F M : Int) (s1 : Sl w 1 wa n g) (s2 : Sl w 1 ha m h) (hp : PbOk n m g h L F M) :
    Calls Try.prog 62 #[.slice wa n wc, .slice ha m hc, .agg #[.int .i64 L, .int .i64 F, .int .i64 M]] w (PriceEnd w n m (prc L F M g h)) := by
  have S1 := Lib.hid s1
  have S2 := Lib.hid s2
  have HP := Lib.hid hp
  have hn40 := hp.n40
  have hm40 := hp.m40
  clear s1 s2 hp
  go_enter Try.func62, Try.ntmps62
  go_wp2_with fail
  have hBA : Below w.heap.size w (w.alloc (.cells #[.int .i64 L, .int .i64 F, .int .i64 M] 36)) := (Below.refl _ w).alloc (Nat.le_refl _) _
  refine (endings_of _ wa ha n wc m hc g h L F M (S1.out.keep (by decide) hBA) (S2.out.keep (by decide) hBA) HP.out).mono ?_
  rintro e w1 ⟨rfl, hE, hB1⟩
  have HB1 := Lib.hid (hBA.trans (hB1.mono hBA.size))
  simp only [World.size_alloc] at hE ⊢
  have HE := Lib.hid hE
  clear hE hB1 hBA
  obtain ⟨S, hS⟩ : ∃ S, w.heap.size = S := ⟨_, rfl⟩
  go_wp2_with (at_make; refine wp_makeB _ rfl _ _ 41 23 rfl Try.underlying41 x_ints rfl (by decide) _ _ (n + 1) rfl rfl (by push_cast; rfl) (by push_cast; rfl) (by omega) (by decide) ?_)
  obtain ⟨bt, hbt⟩ : ∃ bt, w1.heap.size = bt := ⟨_, rfl⟩
  obtain ⟨W2, hW2⟩ : ∃ W2, w1.alloc (.cells (vrow (n + 1) (zc (.slice none 0 0) 1)) 23) = W2 := ⟨_, rfl⟩
  have hb2 : Below w1.heap.size w1 W2 := by rw [← hW2]; exact (Below.refl _ _).alloc (Nat.le_refl _) _
  have hT2 : Tbl bt W2 bt n m (fun _ => 0) (prc L F M g h) 0 := by
    refine ⟨?_, fun i hi => by omega, fun i j hi => by omega, Nat.le_refl _⟩
    rw [← hW2, ← hbt]
    refine (Blk.new w1 _ _ _).congr fun i _ => ?_
    unfold rwG
    rw [if_neg (by omega)]
    simp [zc, Nat.mod_one, Value.cells]
  have hE1 : EnAt w1 (S + 1) (S + 1 + 1 + 1 + 1) (S + 1 + 1) (S + 1 + 1 + 1) wa ha n wc m hc g h L F M := by rw [← hS]; exact HE.out
  rw [hW2]
  simp only [hbt]
  rw [hbt] at hb2
  have HT2 := Lib.hid hT2
  have HB2 := Lib.hid hb2
  have HE1 := Lib.hid hE1
  have HSz := Lib.hid hS
  have HBz := Lib.hid hbt
  clear hW2 hbt hb2 hT2 hE1 hS HE
  go_loopw [22] (fun vi wr => ∃ (i : Nat) (rb : Nat → Nat), i ≤ n + 1 ∧ vi = .int .i64 i ∧ Hid (Tbl bt wr bt n m rb (prc L F M g h) i) ∧ Hid (Below bt w1 wr)) (fun vi _ => n + 1 - (intOf vi).toNat)
  case atStart => exact ⟨0, _, by omega, rfl, HT2.out, HB2.out⟩
  case round =>
    obtain ⟨i, rb, hi, rfl, HT, HB⟩ := hrel
    clear HT2 HB2
    by_cases hlt : i < n + 1
    · have g0 := HT.out.tb.cell (k := i) (by omega)
      have g1 := HT.out.tb.fz i
      have gb := HT.out.tb.lt
      have hgv : rwG m rb i i = .slice none 0 0 := by unfold rwG; rw [if_neg (by omega)]
      rw [hgv] at g0
      have hii : (i : Int) < (n : Int) + 1 := by omega
      have hii2 : (i : Int) < ((n + 1 : Nat) : Int) := by omega
      clear hgv
      go_wp2_with (at_make; refine wp_makeB _ rfl _ _ 23 3 rfl Try.underlying23 x_intv rfl (by decide) _ _ (m + 1) rfl rfl (by push_cast; rfl) (by push_cast; rfl) (by omega) (by decide) ?_)
      obtain ⟨ri, hri⟩ : ∃ ri, wr.heap.size = ri := ⟨_, rfl⟩
      obtain ⟨W3, hW3⟩ : ∃ W3, (wr.setCell ⟨bt, i, none⟩ (.slice (some ⟨wr.heap.size, 0, none⟩) (m + 1) (m + 1))).alloc (.cells (vrow (m + 1) (zc (.int .i64 0) 1)) 3) = W3 := ⟨_, rfl⟩
      have hT3 : Tbl bt W3 bt n m (turn rb i ri) (Tik L F M g h i 0) (i + 1) := by
        have := HT.out.row (by omega)
        rw [hW3, hri] at this
        refine this.congr fun a ha k hk => ?_
        unfold Tik
        by_cases e : a < i
        · rw [if_pos e, if_pos e]
        · rw [if_neg e, if_neg e, if_neg (by omega)]
      have hB3 : Below bt w1 W3 := by
        rw [← hW3]
        have h1 := HB.out.setCell (p := ⟨bt, i, none⟩) (Nat.le_refl _) (.slice (some ⟨wr.heap.size, 0, none⟩) (m + 1) (m + 1))
        exact h1.alloc (by have := h1.size; have := HBz.out; omega) _
      rw [hW3]
      simp only [hri]
      have HT3 := Lib.hid hT3
      have HB3 := Lib.hid hB3
      clear hT3 hB3 hW3 hri g0 g1 gb HT HB
      go_loopw [37] (fun vk wk => ∃ k : Nat, k ≤ m + 1 ∧ vk = .int .i64 k ∧ Hid (Tbl bt wk bt n m (turn rb i ri) (Tik L F M g h i k) (i + 1)) ∧ Hid (Below bt w1 wk)) (fun vk _ => m + 1 - (intOf vk).toNat)
      case atStart => exact ⟨0, by omega, rfl, HT3.out, HB3.out⟩
      case round =>
        obtain ⟨k, hk, rfl, HT, HB⟩ := hrel
        clear HT3 HB3
        by_cases hlk : k < m + 1
        · by_cases hik : 0 < i ∨ 0 < k
          · have hE := HE1.out.keep (W := wr) (by rw [HBz.out]; exact HB.out)
            have HE := Lib.hid hE
            have hi1 : i ≤ n := by omega
            have hk1 : k ≤ m := by omega
            have hTb : ∀ a, a < i + 1 → ∀ b, b ≤ m → -1125899906842624 ≤ Tik L F M g h i k a b ∧ Tik L F M g h i k a b ≤ 1125899906842624 := fun a ha b hb => by
              unfold Tik
              split
              · have := prc_bd HP.out a (by omega) b hb; omega
              · split
                · have := prc_bd HP.out i hi1 b hb; omega
                · omega
            have hTA := HT.out.at (by omega) hTb
            have HTA := Lib.hid hTA
            have hki : (k : Int) < (m : Int) + 1 := by omega
            have hki2 : (k : Int) < ((m + 1 : Nat) : Int) := by omega
            have hTb2 := hTb
            clear hE hTA hTb
            by_cases h0 : (0 : Int) < i
            · go_wp2_with fail
              refine (endings1_of _ _ _ _ _).mono ?_
              rintro e w' ⟨rfl, rfl⟩
              go_wp2_with fail
              have hst := HE.out.st i k hi1 hk1
              have hb4 : Below wr.heap.size wr ((wr.alloc (.cells #[.int .i64 ((i : Nat) : Int)] 3)).alloc (.cells #[.int .i64 (k : Int)] 3)) := ((Below.refl _ wr).alloc (Nat.le_refl _) _).alloc (by simp) _
              refine (cheapest_of _ wr.heap.size (wr.heap.size + 1) (S + 1) (S + 1 + 1 + 1 + 1) (S + 1 + 1) (S + 1 + 1 + 1) wa ha n wc m hc g h L F M i k bt (n + 1) (n + 1) m (i + 1) (turn rb i ri) (Tik L F M g h i k) hst (HTA.out.keep hb4) (stp_ok HP.out hi1 hk1 (by omega) (by omega)) (by omega) (by omega)).mono ?_
              rintro e w5 ⟨rfl, hb5⟩
              have hb5' : Below wr.heap.size wr w5 := hb4.trans (hb5.mono (by simp; omega))
              have T5 := HT.out.keep hb5'
              have hmem := best0_mem (T := (Tik L F M g h i k)) (stp_ne (L := L) (F := F) (M := M) (g := g) (h := h) (i := i) (k := k) (by omega))
              have hok := stp_ok HP.out hi1 hk1 (r := i + 1) (N := n + 1) (by omega) (by omega) _ hmem
              have hpr := best_prc (L := L) (F := F) (M := M) (g := g) (h := h) (T := (Tik L F M g h i k)) (i := i) (k := k) (by omega) (fun _ => by unfold Tik; rw [if_pos (by omega)]) (fun _ => by unfold Tik; rw [if_neg (by omega), if_pos (by omega)]) (fun _ _ => by unfold Tik; rw [if_pos (by omega)])
              obtain ⟨⟨sa, sb, sc⟩, hs⟩ : ∃ s, best0 (Tik L F M g h i k) (stp L F M g h i k) = s := ⟨_, rfl⟩
              rw [hs] at hok hpr ⊢
              obtain ⟨q1, q2, q3, q4, q5⟩ := hok
              obtain ⟨W6, hW6⟩ : ∃ W6, w5.alloc (.cells #[.int .i64 (sa : Int), .int .i64 (sb : Int), .int .i64 sc] 147) = W6 := ⟨_, rfl⟩
              have hb6 : Below w5.heap.size w5 W6 := by rw [← hW6]; exact (Below.refl _ _).alloc (Nat.le_refl _) _
              have T6 := T5.keep hb6
              have hbx : W6.heap[w5.heap.size]? = some (.cells #[.int .i64 (sa : Int), .int .i64 (sb : Int), .int .i64 sc] 147 (0, 0)) := by rw [← hW6]; exact World.alloc_heap_new _ _
              have x0 : W6.cell? ⟨w5.heap.size, 0, none⟩ = some (.int .i64 (sa : Int)) := cell_h hbx rfl
              have x1 : W6.cell? ⟨w5.heap.size, 1, none⟩ = some (.int .i64 (sb : Int)) := cell_h hbx rfl
              have x2 : W6.cell? ⟨w5.heap.size, 2, none⟩ = some (.int .i64 sc) := cell_h hbx rfl
              have HW6 := Lib.hid hW6
              clear hbx hW6
              have hpr' : (Tik L F M g h i k) sa sb + sc = prc L F M g h i k := hpr
              have q6 := hTb2 sa q1 sb q3
              dsimp only at q1 q3 q4 q5 q6
              have d1 := T6.tb.cell (k := i) (by omega)
              have d2 := T6.tb.cell (k := sa) (by omega)
              have e1 : rwG m (turn rb i ri) (i + 1) i = .slice (some ⟨ri, 0, none⟩) (m + 1) (m + 1) := by unfold rwG; rw [if_pos (by omega), turn_same]
              have e2 : rwG m (turn rb i ri) (i + 1) sa = .slice (some ⟨turn rb i ri sa, 0, none⟩) (m + 1) (m + 1) := by unfold rwG; rw [if_pos (by omega)]
              rw [e1] at d1
              rw [e2] at d2
              have hrow := T6.rw i (by omega)
              rw [turn_same] at hrow
              have d3 := (T6.rw sa q1).1.cell (k := sb) (by omega)
              have d4 := hrow.1.cell (k := k) (by omega)
              have z4 := hrow.1.fz k
              have hset := T6.set i k (by omega) ((Tik L F M g h i k) sa sb + sc)
              rw [turn_same] at hset
              have r1 := hrow.1.lt
              have r2 := (T6.rw sa q1).1.lt
              have r3 := T6.tb.lt
              have i1 : (sa : Int) < (n : Int) + 1 := by omega
              have i2 : (sa : Int) < ((n + 1 : Nat) : Int) := by omega
              have i3 : (sb : Int) < (m : Int) + 1 := by omega
              have i4 : (sb : Int) < ((m + 1 : Nat) : Int) := by omega
              have i5 : ((i : Nat) : Int) < ((n + 1 : Nat) : Int) := by omega
              have hbs := T5.tb.lt
              have hw : IntKind.i64.wrap ((Tik L F M g h i k) sa sb + sc) = (Tik L F M g h i k) sa sb + sc := IntWalk.i64_in _ (by omega)
              have HSet := Lib.hid hset
              have HPr := Lib.hid hpr'
              have HB5 := Lib.hid ((HB.out.trans (hb5'.mono (by have := HB.out.size; have := HBz.out; omega))).trans (hb6.mono (by omega)))
              have HLo := Lib.hid hrow.2.2
              clear hpr hpr' hmem T5 T6 hb6 e1 e2 hrow hset hst hb4 hb5 hb5' hs hTb2 q6
              generalize (Tik L F M g h i k) sa sb = t at *
              generalize turn rb i ri sa = rs at *
              dsimp only [stV]
              go_wp2_with fail
              rw [HW6.out]
              go_still_tail 18, (by kernel_rfl)
              change wpList _ _ _ _ _ W6.drew
              go_wp2_with fail
              have HT7 : Tbl bt (W6.setCell ⟨ri, k, none⟩ (.int .i64 (t + sc))) bt n m (turn rb i ri) (Tik L F M g h i (k + 1)) (i + 1) := HSet.out.congr fun a ha b hb => by rw [HPr.out]; exact Tik_step L F M g h i k a b (by omega)
              have HB7 := (HB5.out.setCell (p := ⟨ri, k, none⟩) HLo.out (.int .i64 (t + sc))).drew
              exact ⟨⟨k + 1, by omega, by go_num, ⟨HT7.tb, HT7.rw, HT7.inj, HT7.lo⟩, HB7⟩, by simp [intOf]; omega⟩
            · have h00 : decide (0 < i) = false := by simp; omega
              have h1 : (0 : Int) < k := by omega
              clear h0
              go_wp2_with fail
              refine (endings1_of _ _ _ _ _).mono ?_
              rintro e w' ⟨rfl, rfl⟩
              go_wp2_with fail
              have hst := HE.out.st i k hi1 hk1
              have hb4 : Below wr.heap.size wr ((wr.alloc (.cells #[.int .i64 ((i : Nat) : Int)] 3)).alloc (.cells #[.int .i64 (k : Int)] 3)) := ((Below.refl _ wr).alloc (Nat.le_refl _) _).alloc (by simp) _
              refine (cheapest_of _ wr.heap.size (wr.heap.size + 1) (S + 1) (S + 1 + 1 + 1 + 1) (S + 1 + 1) (S + 1 + 1 + 1) wa ha n wc m hc g h L F M i k bt (n + 1) (n + 1) m (i + 1) (turn rb i ri) (Tik L F M g h i k) hst (HTA.out.keep hb4) (stp_ok HP.out hi1 hk1 (by omega) (by omega)) (by omega) (by omega)).mono ?_
              rintro e w5 ⟨rfl, hb5⟩
              have hb5' : Below wr.heap.size wr w5 := hb4.trans (hb5.mono (by simp; omega))
              have T5 := HT.out.keep hb5'
              have hmem := best0_mem (T := (Tik L F M g h i k)) (stp_ne (L := L) (F := F) (M := M) (g := g) (h := h) (i := i) (k := k) (by omega))
              have hok := stp_ok HP.out hi1 hk1 (r := i + 1) (N := n + 1) (by omega) (by omega) _ hmem
              have hpr := best_prc (L := L) (F := F) (M := M) (g := g) (h := h) (T := (Tik L F M g h i k)) (i := i) (k := k) (by omega) (fun _ => by unfold Tik; rw [if_pos (by omega)]) (fun _ => by unfold Tik; rw [if_neg (by omega), if_pos (by omega)]) (fun _ _ => by unfold Tik; rw [if_pos (by omega)])
              obtain ⟨⟨sa, sb, sc⟩, hs⟩ : ∃ s, best0 (Tik L F M g h i k) (stp L F M g h i k) = s := ⟨_, rfl⟩
              rw [hs] at hok hpr ⊢
              obtain ⟨q1, q2, q3, q4, q5⟩ := hok
              obtain ⟨W6, hW6⟩ : ∃ W6, w5.alloc (.cells #[.int .i64 (sa : Int), .int .i64 (sb : Int), .int .i64 sc] 147) = W6 := ⟨_, rfl⟩
              have hb6 : Below w5.heap.size w5 W6 := by rw [← hW6]; exact (Below.refl _ _).alloc (Nat.le_refl _) _
              have T6 := T5.keep hb6
              have hbx : W6.heap[w5.heap.size]? = some (.cells #[.int .i64 (sa : Int), .int .i64 (sb : Int), .int .i64 sc] 147 (0, 0)) := by rw [← hW6]; exact World.alloc_heap_new _ _
              have x0 : W6.cell? ⟨w5.heap.size, 0, none⟩ = some (.int .i64 (sa : Int)) := cell_h hbx rfl
              have x1 : W6.cell? ⟨w5.heap.size, 1, none⟩ = some (.int .i64 (sb : Int)) := cell_h hbx rfl
              have x2 : W6.cell? ⟨w5.heap.size, 2, none⟩ = some (.int .i64 sc) := cell_h hbx rfl
              have HW6 := Lib.hid hW6
              clear hbx hW6
              have hpr' : (Tik L F M g h i k) sa sb + sc = prc L F M g h i k := hpr
              have q6 := hTb2 sa q1 sb q3
              dsimp only at q1 q3 q4 q5 q6
              have d1 := T6.tb.cell (k := i) (by omega)
              have d2 := T6.tb.cell (k := sa) (by omega)
              have e1 : rwG m (turn rb i ri) (i + 1) i = .slice (some ⟨ri, 0, none⟩) (m + 1) (m + 1) := by unfold rwG; rw [if_pos (by omega), turn_same]
              have e2 : rwG m (turn rb i ri) (i + 1) sa = .slice (some ⟨turn rb i ri sa, 0, none⟩) (m + 1) (m + 1) := by unfold rwG; rw [if_pos (by omega)]
              rw [e1] at d1
              rw [e2] at d2
              have hrow := T6.rw i (by omega)
              rw [turn_same] at hrow
              have d3 := (T6.rw sa q1).1.cell (k := sb) (by omega)
              have d4 := hrow.1.cell (k := k) (by omega)
              have z4 := hrow.1.fz k
              have hset := T6.set i k (by omega) ((Tik L F M g h i k) sa sb + sc)
              rw [turn_same] at hset
              have r1 := hrow.1.lt
              have r2 := (T6.rw sa q1).1.lt
              have r3 := T6.tb.lt
              have i1 : (sa : Int) < (n : Int) + 1 := by omega
              have i2 : (sa : Int) < ((n + 1 : Nat) : Int) := by omega
              have i3 : (sb : Int) < (m : Int) + 1 := by omega
              have i4 : (sb : Int) < ((m + 1 : Nat) : Int) := by omega
              have i5 : ((i : Nat) : Int) < ((n + 1 : Nat) : Int) := by omega
              have hbs := T5.tb.lt
              have hw : IntKind.i64.wrap ((Tik L F M g h i k) sa sb + sc) = (Tik L F M g h i k) sa sb + sc := IntWalk.i64_in _ (by omega)
              have HSet := Lib.hid hset
              have HPr := Lib.hid hpr'
              have HB5 := Lib.hid ((HB.out.trans (hb5'.mono (by have := HB.out.size; have := HBz.out; omega))).trans (hb6.mono (by omega)))
              have HLo := Lib.hid hrow.2.2
              clear hpr hpr' hmem T5 T6 hb6 e1 e2 hrow hset hst hb4 hb5 hb5' hs hTb2 q6
              generalize (Tik L F M g h i k) sa sb = t at *
              generalize turn rb i ri sa = rs at *
              dsimp only [stV]
              go_wp2_with fail
              rw [HW6.out]
              go_still_tail 18, (by kernel_rfl)
              change wpList _ _ _ _ _ W6.drew
              go_wp2_with fail
              have HT7 : Tbl bt (W6.setCell ⟨ri, k, none⟩ (.int .i64 (t + sc))) bt n m (turn rb i ri) (Tik L F M g h i (k + 1)) (i + 1) := HSet.out.congr fun a ha b hb => by rw [HPr.out]; exact Tik_step L F M g h i k a b (by omega)
              have HB7 := (HB5.out.setCell (p := ⟨ri, k, none⟩) HLo.out (.int .i64 (t + sc))).drew
              exact ⟨⟨k + 1, by omega, by go_num, ⟨HT7.tb, HT7.rw, HT7.inj, HT7.lo⟩, HB7⟩, by simp [intOf]; omega⟩
          · obtain rfl : i = 0 := by omega
            obtain rfl : k = 0 := by omega
            go_wp2_with fail
            refine ⟨⟨1, by omega, rfl, HT.out.congr fun a ha b hb => ?_, HB.out⟩, by simp [intOf]⟩
            obtain rfl : a = 0 := by omega
            unfold Tik
            rw [if_neg (by omega), if_neg (by omega), if_neg (by omega)]
            by_cases e : b < 1
            · rw [if_pos e]; obtain rfl : b = 0 := by omega
              rfl
            · rw [if_neg e]
        · obtain rfl : k = m + 1 := by omega
          go_wp2_with fail
          go_roundw
          case rel =>
            refine ⟨i + 1, turn rb i ri, by omega, by go_num, HT.out.congr fun a ha b hb => ?_, HB.out⟩
            unfold Tik
            by_cases e : a < i
            · rw [if_pos e]
            · obtain rfl : a = i := by omega
              rw [if_neg e, if_pos (by omega)]
          case measure => simp [intOf]; omega
    · obtain rfl : i = n + 1 := by omega
      go_wp2_with fail
      go_ret
      have q : w.heap.size ≤ bt := by rw [← HBz.out]; exact HB1.out.size
      exact ⟨bt, rb, rfl, ⟨HT.out.tb, fun i hi => ⟨(HT.out.rw i hi).1, (HT.out.rw i hi).2.1, Nat.le_trans q (HT.out.rw i hi).2.2⟩, HT.out.inj, q⟩, HB1.out.trans (HB.out.mono q)⟩
end Go.Proofs.Ytonlamkpehakdaa
