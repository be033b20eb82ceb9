/-
  WALKS: the sums of Drift. (Printed by gen_drd.py.)
-/
import Derived.Test.YtlbffdgojmjijaaDoorDrC
namespace Go.Proofs.YtlbffdgojmjijaaDoor
open Go.RowKit

/-- The sum of g over the first k ties. -/
def smD (g : Int → Int → Int → Int → Int) (F M : Nat → Int) : Nat → Int
  | 0 => 0
  | k + 1 => smD g F M k + g (F (k * 4)) (M (k * 3)) (M (k * 3 + 1)) (M (k * 3 + 2))
theorem smD_bd {g : Int → Int → Int → Int → Int} {F M : Nat → Int} {k : Nat} (h : ∀ i, i < k → -1099511627776 ≤ g (F (i * 4)) (M (i * 3)) (M (i * 3 + 1)) (M (i * 3 + 2)) ∧ g (F (i * 4)) (M (i * 3)) (M (i * 3 + 1)) (M (i * 3 + 2)) ≤ 1099511627776) : ∀ i, i ≤ k → -1099511627776 * (i : Int) ≤ smD g F M i ∧ smD g F M i ≤ 1099511627776 * (i : Int)
  | 0, _ => by simp [smD]
  | i + 1, hi => by
    have h1 := smD_bd h i (by omega)
    have h2 := h i (by omega)
    simp only [smD]
    push_cast
    omega
def Sm (x : Int) : Prop := -4294967296 ≤ x ∧ x ≤ 4294967296
theorem mul_sm {s x : Int} (hs : 1 ≤ s ∧ s ≤ 64) (hx : Sm x) : -1099511627776 ≤ s * x ∧ s * x ≤ 1099511627776 := by
  unfold Sm at hx
  have h1 : s * x ≤ s * 4294967296 := Int.mul_le_mul_of_nonneg_left hx.2 (by omega)
  have h2 : s * (-4294967296) ≤ s * x := Int.mul_le_mul_of_nonneg_left hx.1 (by omega)
  omega

set_option maxRecDepth 100000 in
set_option maxHeartbeats 4000000 in
theorem of2_of (w : World) (s x y z : Int) (hs : 1 ≤ s ∧ s ≤ 64) (_h : Sm x ∧ Sm y ∧ Sm z) :
    Calls Tryd.prog 26 #[.int .i64 s, .agg #[.int .i64 x, .int .i64 y, .int .i64 z]] w fun e w' => e = .returned (.int .i64 (s * x)) ∧ Below w.heap.size w w' := by
  have e1 : IntKind.i64.wrap (s * x) = s * x := IntWalk.i64_in _ (by have := mul_sm hs _h.1; omega)
  have hB := (Below.refl w.heap.size w).alloc (Nat.le_refl _) (.cells #[.int .i64 x, .int .i64 y, .int .i64 z] 36)
  clear hs
  go_enter Tryd.func26, Tryd.ntmps26
  go_wp2
  go_ret
  exact ⟨rfl, hB⟩

set_option maxRecDepth 100000 in
set_option maxHeartbeats 4000000 in
theorem sum2_of (w : World) (p q b o G k d kd : Nat) (F M : Nat → Int) (hp : w.cell? ⟨p, 0, none⟩ = some (.slice (some ⟨b, o, none⟩) k d)) (hq : w.cell? ⟨q, 0, none⟩ = some (.slice (some ⟨G, 0, none⟩) k kd)) (hk : 1 ≤ k ∧ k ≤ 8) (hF : Ints w b o (k * 4) F) (hM : Ints w G 0 (k * 3) M)
    (h1 : ∀ i, i < k → 1 ≤ F (i * 4) ∧ F (i * 4) ≤ 64) (h2 : ∀ i, i < k → Sm (M (i * 3)) ∧ Sm (M (i * 3 + 1)) ∧ Sm (M (i * 3 + 2))) :
    Calls Tryd.prog 25 #[.func (.func 26) #[] #[], .pointer (some ⟨p, 0, none⟩), .pointer (some ⟨q, 0, none⟩)] w fun e w' => e = .returned (.int .i64 (smD (fun s x _ _ => s * x) F M k)) ∧ Below w.heap.size w w' := by
  have hbd : ∀ i, i ≤ k → -1099511627776 * (i : Int) ≤ smD (fun s x _ _ => s * x) F M i ∧ smD (fun s x _ _ => s * x) F M i ≤ 1099511627776 * (i : Int) := smD_bd (fun i hi => by
    have q1 := h1 i hi
    have q2 := h2 i hi
    exact mul_sm q1 q2.1)
  have HBd := Lib.hid hbd
  have HF := Lib.hid hF
  have HM := Lib.hid hM
  have H1 := Lib.hid h1
  have H2 := Lib.hid h2
  have HQ := Lib.hid hq
  have hbl := hF.lt (by omega)
  have hGl := hM.lt (by omega)
  have hql := World.block_lt_of_cell? _ _ hq
  clear hbd hF hM h1 h2 hq
  go_enter Tryd.func25, Tryd.ntmps25
  go_wp2_with fail
  go_loopw [5, 10] (fun vs vi wr => ∃ i : Nat, i ≤ k ∧ vi = .int .i64 i ∧ vs = .int .i64 (smD (fun s x _ _ => s * x) F M i) ∧ Hid (Below w.heap.size w wr)) (fun _ vi _ => k - (intOf vi).toNat)
  case atStart => exact ⟨0, by omega, rfl, rfl, Below.refl _ _⟩
  case round =>
    obtain ⟨i, hi, rfl, rfl, HB⟩ := hrel
    by_cases hlt : i < k
    · have hJ := HF.out.keep HB.out hbl
      have hL := HM.out.keep HB.out hGl
      have d0 := hJ (i * 4) (by omega)
      have d1 := hJ.at (i * 4) 1 (by omega)
      have d2 := hJ.at (i * 4) 2 (by omega)
      have d3 := hJ.at (i * 4) 3 (by omega)
      have l0 := hL (i * 3) (by omega)
      have l1 := hL (i * 3 + 1) (by omega)
      have l2 := hL (i * 3 + 2) (by omega)
      simp only [Nat.zero_add] at l0 l1 l2
      have q1 := (HB.out.cell (p := ⟨q, 0, none⟩) hql).trans HQ.out
      have HC : Hid (∀ V, Calls Tryd.prog 26 #[.int .i64 (F (i * 4)), .agg #[.int .i64 (M (i * 3)), .int .i64 (M (i * 3 + 1)), .int .i64 (M (i * 3 + 2))]] V fun e w' => e = .returned (.int .i64 ((fun s x _ _ => s * x) (F (i * 4)) (M (i * 3)) (M (i * 3 + 1)) (M (i * 3 + 2)))) ∧ Below V.heap.size V w') := fun V => of2_of V _ _ _ _ (H1.out i hlt) (H2.out i hlt)
      have HE : Hid (smD (fun s x _ _ => s * x) F M (i + 1) = smD (fun s x _ _ => s * x) F M i + (fun s x _ _ => s * x) (F (i * 4)) (M (i * 3)) (M (i * 3 + 1)) (M (i * 3 + 2))) := Lib.hid rfl
      have w1 : IntKind.i64.wrap (smD (fun s x _ _ => s * x) F M i + (fun s x _ _ => s * x) (F (i * 4)) (M (i * 3)) (M (i * 3 + 1)) (M (i * 3 + 2))) = smD (fun s x _ _ => s * x) F M (i + 1) := by
        have hb := HBd.out (i + 1) (by omega)
        rw [← HE.out]
        exact IntWalk.i64_in _ (by push_cast at hb; omega)
      generalize hT2 : smD (fun s x _ _ => s * x) F M (i + 1) = t2 at w1 HE
      have HT2 := Lib.hid hT2
      clear hT2
      generalize smD (fun s x _ _ => s * x) F M i = t1 at w1 ⊢
      generalize (fun s x _ _ => s * x : Int → Int → Int → Int → Int) (F (i * 4)) (M (i * 3)) (M (i * 3 + 1)) (M (i * 3 + 2)) = v at w1 HC
      generalize F (i * 4) = S at d0 HC
      generalize M (i * 3) = m0 at l0 HC
      generalize M (i * 3 + 1) = m1 at l1 HC
      generalize M (i * 3 + 2) = m2 at l2 HC
      have hss := HB.out.size
      clear hJ hL
      go_upto_region 5 with fail
      obtain ⟨W4, hW4⟩ : ∃ W4, wr.alloc (.cells #[.int .i64 S, .int .i64 (F (i * 4 + 1)), .int .i64 (F (i * 4 + 2)), .int .i64 (F (i * 4 + 3))] 38) = W4 := ⟨_, rfl⟩
      rw [hW4]
      have hA : W4.heap[wr.heap.size]? = some (.cells #[.int .i64 S, .int .i64 (F (i * 4 + 1)), .int .i64 (F (i * 4 + 2)), .int .i64 (F (i * 4 + 3))] 38 (0, 0)) := by rw [← hW4]; exact World.alloc_heap_new wr _
      have hB4 : Below wr.heap.size wr W4 := by rw [← hW4]; exact (Below.refl _ _).alloc (Nat.le_refl _) _
      have s0 : W4.cell? ⟨wr.heap.size, 0, none⟩ = some (.int .i64 S) := cell_h hA rfl
      have hGw : G < wr.heap.size := by omega
      have c1 := (hB4.cell (p := ⟨q, 0, none⟩) (by simp; omega)).trans q1
      have c2 := (hB4.cell (p := ⟨G, i * 3, none⟩) hGw).trans l0
      have c3 := (hB4.cell (p := ⟨G, i * 3 + 1, none⟩) hGw).trans l1
      have c4 := (hB4.cell (p := ⟨G, i * 3 + 2, none⟩) hGw).trans l2
      have HBd4 : Hid (Below w.heap.size w W4.drew) := (HB.out.trans (hB4.mono hss)).drew
      have j0 : (0 : Int) ≤ (i : Int) ∧ (i : Int) < (k : Int) := by omega
      clear hW4 hA hB4 d0 d1 d2 d3 l0 l1 l2 q1
      go_region_with
        (go_at_call 26; refine (HC.out _).mono ?_; rintro e W5 ⟨rfl, hb5⟩; have HB5 := Lib.hid (HBd4.out.trans (hb5.mono HBd4.out.size)); clear hb5)
      all_goals
        have HB6 : Hid (Below w.heap.size w W5.drew) := HB5.out.drew
        clear HC s0 c1 c2 c3 c4
        go_wp2_with fail
        exact ⟨⟨i + 1, by omega, by go_num, by rw [HT2.out], by first | exact HB5 | exact HB6⟩, by simp [intOf]; omega⟩
    · obtain rfl : i = k := by omega
      go_wp2_with fail
      go_ret
      exact ⟨rfl, HB.out⟩

set_option maxRecDepth 100000 in
set_option maxHeartbeats 4000000 in
theorem of3_of (w : World) (s x y z : Int) (hs : 1 ≤ s ∧ s ≤ 64) (_h : Sm x ∧ Sm y ∧ Sm z) :
    Calls Tryd.prog 27 #[.int .i64 s, .agg #[.int .i64 x, .int .i64 y, .int .i64 z]] w fun e w' => e = .returned (.int .i64 (s * y)) ∧ Below w.heap.size w w' := by
  have e1 : IntKind.i64.wrap (s * y) = s * y := IntWalk.i64_in _ (by have := mul_sm hs _h.2.1; omega)
  have hB := (Below.refl w.heap.size w).alloc (Nat.le_refl _) (.cells #[.int .i64 x, .int .i64 y, .int .i64 z] 36)
  clear hs
  go_enter Tryd.func27, Tryd.ntmps27
  go_wp2
  go_ret
  exact ⟨rfl, hB⟩

set_option maxRecDepth 100000 in
set_option maxHeartbeats 4000000 in
theorem sum3_of (w : World) (p q b o G k d kd : Nat) (F M : Nat → Int) (hp : w.cell? ⟨p, 0, none⟩ = some (.slice (some ⟨b, o, none⟩) k d)) (hq : w.cell? ⟨q, 0, none⟩ = some (.slice (some ⟨G, 0, none⟩) k kd)) (hk : 1 ≤ k ∧ k ≤ 8) (hF : Ints w b o (k * 4) F) (hM : Ints w G 0 (k * 3) M)
    (h1 : ∀ i, i < k → 1 ≤ F (i * 4) ∧ F (i * 4) ≤ 64) (h2 : ∀ i, i < k → Sm (M (i * 3)) ∧ Sm (M (i * 3 + 1)) ∧ Sm (M (i * 3 + 2))) :
    Calls Tryd.prog 25 #[.func (.func 27) #[] #[], .pointer (some ⟨p, 0, none⟩), .pointer (some ⟨q, 0, none⟩)] w fun e w' => e = .returned (.int .i64 (smD (fun s _ y _ => s * y) F M k)) ∧ Below w.heap.size w w' := by
  have hbd : ∀ i, i ≤ k → -1099511627776 * (i : Int) ≤ smD (fun s _ y _ => s * y) F M i ∧ smD (fun s _ y _ => s * y) F M i ≤ 1099511627776 * (i : Int) := smD_bd (fun i hi => by
    have q1 := h1 i hi
    have q2 := h2 i hi
    exact mul_sm q1 q2.2.1)
  have HBd := Lib.hid hbd
  have HF := Lib.hid hF
  have HM := Lib.hid hM
  have H1 := Lib.hid h1
  have H2 := Lib.hid h2
  have HQ := Lib.hid hq
  have hbl := hF.lt (by omega)
  have hGl := hM.lt (by omega)
  have hql := World.block_lt_of_cell? _ _ hq
  clear hbd hF hM h1 h2 hq
  go_enter Tryd.func25, Tryd.ntmps25
  go_wp2_with fail
  go_loopw [5, 10] (fun vs vi wr => ∃ i : Nat, i ≤ k ∧ vi = .int .i64 i ∧ vs = .int .i64 (smD (fun s _ y _ => s * y) F M i) ∧ Hid (Below w.heap.size w wr)) (fun _ vi _ => k - (intOf vi).toNat)
  case atStart => exact ⟨0, by omega, rfl, rfl, Below.refl _ _⟩
  case round =>
    obtain ⟨i, hi, rfl, rfl, HB⟩ := hrel
    by_cases hlt : i < k
    · have hJ := HF.out.keep HB.out hbl
      have hL := HM.out.keep HB.out hGl
      have d0 := hJ (i * 4) (by omega)
      have d1 := hJ.at (i * 4) 1 (by omega)
      have d2 := hJ.at (i * 4) 2 (by omega)
      have d3 := hJ.at (i * 4) 3 (by omega)
      have l0 := hL (i * 3) (by omega)
      have l1 := hL (i * 3 + 1) (by omega)
      have l2 := hL (i * 3 + 2) (by omega)
      simp only [Nat.zero_add] at l0 l1 l2
      have q1 := (HB.out.cell (p := ⟨q, 0, none⟩) hql).trans HQ.out
      have HC : Hid (∀ V, Calls Tryd.prog 27 #[.int .i64 (F (i * 4)), .agg #[.int .i64 (M (i * 3)), .int .i64 (M (i * 3 + 1)), .int .i64 (M (i * 3 + 2))]] V fun e w' => e = .returned (.int .i64 ((fun s _ y _ => s * y) (F (i * 4)) (M (i * 3)) (M (i * 3 + 1)) (M (i * 3 + 2)))) ∧ Below V.heap.size V w') := fun V => of3_of V _ _ _ _ (H1.out i hlt) (H2.out i hlt)
      have HE : Hid (smD (fun s _ y _ => s * y) F M (i + 1) = smD (fun s _ y _ => s * y) F M i + (fun s _ y _ => s * y) (F (i * 4)) (M (i * 3)) (M (i * 3 + 1)) (M (i * 3 + 2))) := Lib.hid rfl
      have w1 : IntKind.i64.wrap (smD (fun s _ y _ => s * y) F M i + (fun s _ y _ => s * y) (F (i * 4)) (M (i * 3)) (M (i * 3 + 1)) (M (i * 3 + 2))) = smD (fun s _ y _ => s * y) F M (i + 1) := by
        have hb := HBd.out (i + 1) (by omega)
        rw [← HE.out]
        exact IntWalk.i64_in _ (by push_cast at hb; omega)
      generalize hT2 : smD (fun s _ y _ => s * y) F M (i + 1) = t2 at w1 HE
      have HT2 := Lib.hid hT2
      clear hT2
      generalize smD (fun s _ y _ => s * y) F M i = t1 at w1 ⊢
      generalize (fun s _ y _ => s * y : Int → Int → Int → Int → Int) (F (i * 4)) (M (i * 3)) (M (i * 3 + 1)) (M (i * 3 + 2)) = v at w1 HC
      generalize F (i * 4) = S at d0 HC
      generalize M (i * 3) = m0 at l0 HC
      generalize M (i * 3 + 1) = m1 at l1 HC
      generalize M (i * 3 + 2) = m2 at l2 HC
      have hss := HB.out.size
      clear hJ hL
      go_upto_region 5 with fail
      obtain ⟨W4, hW4⟩ : ∃ W4, wr.alloc (.cells #[.int .i64 S, .int .i64 (F (i * 4 + 1)), .int .i64 (F (i * 4 + 2)), .int .i64 (F (i * 4 + 3))] 38) = W4 := ⟨_, rfl⟩
      rw [hW4]
      have hA : W4.heap[wr.heap.size]? = some (.cells #[.int .i64 S, .int .i64 (F (i * 4 + 1)), .int .i64 (F (i * 4 + 2)), .int .i64 (F (i * 4 + 3))] 38 (0, 0)) := by rw [← hW4]; exact World.alloc_heap_new wr _
      have hB4 : Below wr.heap.size wr W4 := by rw [← hW4]; exact (Below.refl _ _).alloc (Nat.le_refl _) _
      have s0 : W4.cell? ⟨wr.heap.size, 0, none⟩ = some (.int .i64 S) := cell_h hA rfl
      have hGw : G < wr.heap.size := by omega
      have c1 := (hB4.cell (p := ⟨q, 0, none⟩) (by simp; omega)).trans q1
      have c2 := (hB4.cell (p := ⟨G, i * 3, none⟩) hGw).trans l0
      have c3 := (hB4.cell (p := ⟨G, i * 3 + 1, none⟩) hGw).trans l1
      have c4 := (hB4.cell (p := ⟨G, i * 3 + 2, none⟩) hGw).trans l2
      have HBd4 : Hid (Below w.heap.size w W4.drew) := (HB.out.trans (hB4.mono hss)).drew
      have j0 : (0 : Int) ≤ (i : Int) ∧ (i : Int) < (k : Int) := by omega
      clear hW4 hA hB4 d0 d1 d2 d3 l0 l1 l2 q1
      go_region_with
        (go_at_call 27; refine (HC.out _).mono ?_; rintro e W5 ⟨rfl, hb5⟩; have HB5 := Lib.hid (HBd4.out.trans (hb5.mono HBd4.out.size)); clear hb5)
      all_goals
        have HB6 : Hid (Below w.heap.size w W5.drew) := HB5.out.drew
        clear HC s0 c1 c2 c3 c4
        go_wp2_with fail
        exact ⟨⟨i + 1, by omega, by go_num, by rw [HT2.out], by first | exact HB5 | exact HB6⟩, by simp [intOf]; omega⟩
    · obtain rfl : i = k := by omega
      go_wp2_with fail
      go_ret
      exact ⟨rfl, HB.out⟩

set_option maxRecDepth 100000 in
set_option maxHeartbeats 4000000 in
theorem of4_of (w : World) (s x y z : Int) (hs : 1 ≤ s ∧ s ≤ 64) (_h : Sm x ∧ Sm y ∧ Sm z) :
    Calls Tryd.prog 28 #[.int .i64 s, .agg #[.int .i64 x, .int .i64 y, .int .i64 z]] w fun e w' => e = .returned (.int .i64 (s * z)) ∧ Below w.heap.size w w' := by
  have e1 : IntKind.i64.wrap (s * z) = s * z := IntWalk.i64_in _ (by have := mul_sm hs _h.2.2; omega)
  have hB := (Below.refl w.heap.size w).alloc (Nat.le_refl _) (.cells #[.int .i64 x, .int .i64 y, .int .i64 z] 36)
  clear hs
  go_enter Tryd.func28, Tryd.ntmps28
  go_wp2
  go_ret
  exact ⟨rfl, hB⟩

set_option maxRecDepth 100000 in
set_option maxHeartbeats 4000000 in
theorem sum4_of (w : World) (p q b o G k d kd : Nat) (F M : Nat → Int) (hp : w.cell? ⟨p, 0, none⟩ = some (.slice (some ⟨b, o, none⟩) k d)) (hq : w.cell? ⟨q, 0, none⟩ = some (.slice (some ⟨G, 0, none⟩) k kd)) (hk : 1 ≤ k ∧ k ≤ 8) (hF : Ints w b o (k * 4) F) (hM : Ints w G 0 (k * 3) M)
    (h1 : ∀ i, i < k → 1 ≤ F (i * 4) ∧ F (i * 4) ≤ 64) (h2 : ∀ i, i < k → Sm (M (i * 3)) ∧ Sm (M (i * 3 + 1)) ∧ Sm (M (i * 3 + 2))) :
    Calls Tryd.prog 25 #[.func (.func 28) #[] #[], .pointer (some ⟨p, 0, none⟩), .pointer (some ⟨q, 0, none⟩)] w fun e w' => e = .returned (.int .i64 (smD (fun s _ _ z => s * z) F M k)) ∧ Below w.heap.size w w' := by
  have hbd : ∀ i, i ≤ k → -1099511627776 * (i : Int) ≤ smD (fun s _ _ z => s * z) F M i ∧ smD (fun s _ _ z => s * z) F M i ≤ 1099511627776 * (i : Int) := smD_bd (fun i hi => by
    have q1 := h1 i hi
    have q2 := h2 i hi
    exact mul_sm q1 q2.2.2)
  have HBd := Lib.hid hbd
  have HF := Lib.hid hF
  have HM := Lib.hid hM
  have H1 := Lib.hid h1
  have H2 := Lib.hid h2
  have HQ := Lib.hid hq
  have hbl := hF.lt (by omega)
  have hGl := hM.lt (by omega)
  have hql := World.block_lt_of_cell? _ _ hq
  clear hbd hF hM h1 h2 hq
  go_enter Tryd.func25, Tryd.ntmps25
  go_wp2_with fail
  go_loopw [5, 10] (fun vs vi wr => ∃ i : Nat, i ≤ k ∧ vi = .int .i64 i ∧ vs = .int .i64 (smD (fun s _ _ z => s * z) F M i) ∧ Hid (Below w.heap.size w wr)) (fun _ vi _ => k - (intOf vi).toNat)
  case atStart => exact ⟨0, by omega, rfl, rfl, Below.refl _ _⟩
  case round =>
    obtain ⟨i, hi, rfl, rfl, HB⟩ := hrel
    by_cases hlt : i < k
    · have hJ := HF.out.keep HB.out hbl
      have hL := HM.out.keep HB.out hGl
      have d0 := hJ (i * 4) (by omega)
      have d1 := hJ.at (i * 4) 1 (by omega)
      have d2 := hJ.at (i * 4) 2 (by omega)
      have d3 := hJ.at (i * 4) 3 (by omega)
      have l0 := hL (i * 3) (by omega)
      have l1 := hL (i * 3 + 1) (by omega)
      have l2 := hL (i * 3 + 2) (by omega)
      simp only [Nat.zero_add] at l0 l1 l2
      have q1 := (HB.out.cell (p := ⟨q, 0, none⟩) hql).trans HQ.out
      have HC : Hid (∀ V, Calls Tryd.prog 28 #[.int .i64 (F (i * 4)), .agg #[.int .i64 (M (i * 3)), .int .i64 (M (i * 3 + 1)), .int .i64 (M (i * 3 + 2))]] V fun e w' => e = .returned (.int .i64 ((fun s _ _ z => s * z) (F (i * 4)) (M (i * 3)) (M (i * 3 + 1)) (M (i * 3 + 2)))) ∧ Below V.heap.size V w') := fun V => of4_of V _ _ _ _ (H1.out i hlt) (H2.out i hlt)
      have HE : Hid (smD (fun s _ _ z => s * z) F M (i + 1) = smD (fun s _ _ z => s * z) F M i + (fun s _ _ z => s * z) (F (i * 4)) (M (i * 3)) (M (i * 3 + 1)) (M (i * 3 + 2))) := Lib.hid rfl
      have w1 : IntKind.i64.wrap (smD (fun s _ _ z => s * z) F M i + (fun s _ _ z => s * z) (F (i * 4)) (M (i * 3)) (M (i * 3 + 1)) (M (i * 3 + 2))) = smD (fun s _ _ z => s * z) F M (i + 1) := by
        have hb := HBd.out (i + 1) (by omega)
        rw [← HE.out]
        exact IntWalk.i64_in _ (by push_cast at hb; omega)
      generalize hT2 : smD (fun s _ _ z => s * z) F M (i + 1) = t2 at w1 HE
      have HT2 := Lib.hid hT2
      clear hT2
      generalize smD (fun s _ _ z => s * z) F M i = t1 at w1 ⊢
      generalize (fun s _ _ z => s * z : Int → Int → Int → Int → Int) (F (i * 4)) (M (i * 3)) (M (i * 3 + 1)) (M (i * 3 + 2)) = v at w1 HC
      generalize F (i * 4) = S at d0 HC
      generalize M (i * 3) = m0 at l0 HC
      generalize M (i * 3 + 1) = m1 at l1 HC
      generalize M (i * 3 + 2) = m2 at l2 HC
      have hss := HB.out.size
      clear hJ hL
      go_upto_region 5 with fail
      obtain ⟨W4, hW4⟩ : ∃ W4, wr.alloc (.cells #[.int .i64 S, .int .i64 (F (i * 4 + 1)), .int .i64 (F (i * 4 + 2)), .int .i64 (F (i * 4 + 3))] 38) = W4 := ⟨_, rfl⟩
      rw [hW4]
      have hA : W4.heap[wr.heap.size]? = some (.cells #[.int .i64 S, .int .i64 (F (i * 4 + 1)), .int .i64 (F (i * 4 + 2)), .int .i64 (F (i * 4 + 3))] 38 (0, 0)) := by rw [← hW4]; exact World.alloc_heap_new wr _
      have hB4 : Below wr.heap.size wr W4 := by rw [← hW4]; exact (Below.refl _ _).alloc (Nat.le_refl _) _
      have s0 : W4.cell? ⟨wr.heap.size, 0, none⟩ = some (.int .i64 S) := cell_h hA rfl
      have hGw : G < wr.heap.size := by omega
      have c1 := (hB4.cell (p := ⟨q, 0, none⟩) (by simp; omega)).trans q1
      have c2 := (hB4.cell (p := ⟨G, i * 3, none⟩) hGw).trans l0
      have c3 := (hB4.cell (p := ⟨G, i * 3 + 1, none⟩) hGw).trans l1
      have c4 := (hB4.cell (p := ⟨G, i * 3 + 2, none⟩) hGw).trans l2
      have HBd4 : Hid (Below w.heap.size w W4.drew) := (HB.out.trans (hB4.mono hss)).drew
      have j0 : (0 : Int) ≤ (i : Int) ∧ (i : Int) < (k : Int) := by omega
      clear hW4 hA hB4 d0 d1 d2 d3 l0 l1 l2 q1
      go_region_with
        (go_at_call 28; refine (HC.out _).mono ?_; rintro e W5 ⟨rfl, hb5⟩; have HB5 := Lib.hid (HBd4.out.trans (hb5.mono HBd4.out.size)); clear hb5)
      all_goals
        have HB6 : Hid (Below w.heap.size w W5.drew) := HB5.out.drew
        clear HC s0 c1 c2 c3 c4
        go_wp2_with fail
        exact ⟨⟨i + 1, by omega, by go_num, by rw [HT2.out], by first | exact HB5 | exact HB6⟩, by simp [intOf]; omega⟩
    · obtain rfl : i = k := by omega
      go_wp2_with fail
      go_ret
      exact ⟨rfl, HB.out⟩

set_option maxRecDepth 100000 in
set_option maxHeartbeats 4000000 in
theorem of5_of (w : World) (s x y z : Int) (hs : 1 ≤ s ∧ s ≤ 64) (_h : Sm x ∧ Sm y ∧ Sm z) :
    Calls Tryd.prog 30 #[.int .i64 s, .agg #[.int .i64 x, .int .i64 y, .int .i64 z]] w fun e w' => e = .returned (.int .i64 (s * s)) ∧ Below w.heap.size w w' := by
  have e1 : IntKind.i64.wrap (s * s) = s * s := IntWalk.i64_in _ (by have := mul_sm hs (x := s) (by unfold Sm; omega); omega)
  have hB := (Below.refl w.heap.size w).alloc (Nat.le_refl _) (.cells #[.int .i64 x, .int .i64 y, .int .i64 z] 36)
  clear hs
  go_enter Tryd.func30, Tryd.ntmps30
  go_wp2
  go_ret
  exact ⟨rfl, hB⟩

set_option maxRecDepth 100000 in
set_option maxHeartbeats 4000000 in
theorem sum5_of (w : World) (p q b o G k d kd : Nat) (F M : Nat → Int) (hp : w.cell? ⟨p, 0, none⟩ = some (.slice (some ⟨b, o, none⟩) k d)) (hq : w.cell? ⟨q, 0, none⟩ = some (.slice (some ⟨G, 0, none⟩) k kd)) (hk : 1 ≤ k ∧ k ≤ 8) (hF : Ints w b o (k * 4) F) (hM : Ints w G 0 (k * 3) M)
    (h1 : ∀ i, i < k → 1 ≤ F (i * 4) ∧ F (i * 4) ≤ 64) (h2 : ∀ i, i < k → Sm (M (i * 3)) ∧ Sm (M (i * 3 + 1)) ∧ Sm (M (i * 3 + 2))) :
    Calls Tryd.prog 25 #[.func (.func 30) #[] #[], .pointer (some ⟨p, 0, none⟩), .pointer (some ⟨q, 0, none⟩)] w fun e w' => e = .returned (.int .i64 (smD (fun s _ _ _ => s * s) F M k)) ∧ Below w.heap.size w w' := by
  have hbd : ∀ i, i ≤ k → -1099511627776 * (i : Int) ≤ smD (fun s _ _ _ => s * s) F M i ∧ smD (fun s _ _ _ => s * s) F M i ≤ 1099511627776 * (i : Int) := smD_bd (fun i hi => by
    have q1 := h1 i hi
    have q2 := h2 i hi
    exact mul_sm q1 (by unfold Sm; omega))
  have HBd := Lib.hid hbd
  have HF := Lib.hid hF
  have HM := Lib.hid hM
  have H1 := Lib.hid h1
  have H2 := Lib.hid h2
  have HQ := Lib.hid hq
  have hbl := hF.lt (by omega)
  have hGl := hM.lt (by omega)
  have hql := World.block_lt_of_cell? _ _ hq
  clear hbd hF hM h1 h2 hq
  go_enter Tryd.func25, Tryd.ntmps25
  go_wp2_with fail
  go_loopw [5, 10] (fun vs vi wr => ∃ i : Nat, i ≤ k ∧ vi = .int .i64 i ∧ vs = .int .i64 (smD (fun s _ _ _ => s * s) F M i) ∧ Hid (Below w.heap.size w wr)) (fun _ vi _ => k - (intOf vi).toNat)
  case atStart => exact ⟨0, by omega, rfl, rfl, Below.refl _ _⟩
  case round =>
    obtain ⟨i, hi, rfl, rfl, HB⟩ := hrel
    by_cases hlt : i < k
    · have hJ := HF.out.keep HB.out hbl
      have hL := HM.out.keep HB.out hGl
      have d0 := hJ (i * 4) (by omega)
      have d1 := hJ.at (i * 4) 1 (by omega)
      have d2 := hJ.at (i * 4) 2 (by omega)
      have d3 := hJ.at (i * 4) 3 (by omega)
      have l0 := hL (i * 3) (by omega)
      have l1 := hL (i * 3 + 1) (by omega)
      have l2 := hL (i * 3 + 2) (by omega)
      simp only [Nat.zero_add] at l0 l1 l2
      have q1 := (HB.out.cell (p := ⟨q, 0, none⟩) hql).trans HQ.out
      have HC : Hid (∀ V, Calls Tryd.prog 30 #[.int .i64 (F (i * 4)), .agg #[.int .i64 (M (i * 3)), .int .i64 (M (i * 3 + 1)), .int .i64 (M (i * 3 + 2))]] V fun e w' => e = .returned (.int .i64 ((fun s _ _ _ => s * s) (F (i * 4)) (M (i * 3)) (M (i * 3 + 1)) (M (i * 3 + 2)))) ∧ Below V.heap.size V w') := fun V => of5_of V _ _ _ _ (H1.out i hlt) (H2.out i hlt)
      have HE : Hid (smD (fun s _ _ _ => s * s) F M (i + 1) = smD (fun s _ _ _ => s * s) F M i + (fun s _ _ _ => s * s) (F (i * 4)) (M (i * 3)) (M (i * 3 + 1)) (M (i * 3 + 2))) := Lib.hid rfl
      have w1 : IntKind.i64.wrap (smD (fun s _ _ _ => s * s) F M i + (fun s _ _ _ => s * s) (F (i * 4)) (M (i * 3)) (M (i * 3 + 1)) (M (i * 3 + 2))) = smD (fun s _ _ _ => s * s) F M (i + 1) := by
        have hb := HBd.out (i + 1) (by omega)
        rw [← HE.out]
        exact IntWalk.i64_in _ (by push_cast at hb; omega)
      generalize hT2 : smD (fun s _ _ _ => s * s) F M (i + 1) = t2 at w1 HE
      have HT2 := Lib.hid hT2
      clear hT2
      generalize smD (fun s _ _ _ => s * s) F M i = t1 at w1 ⊢
      generalize (fun s _ _ _ => s * s : Int → Int → Int → Int → Int) (F (i * 4)) (M (i * 3)) (M (i * 3 + 1)) (M (i * 3 + 2)) = v at w1 HC
      generalize F (i * 4) = S at d0 HC
      generalize M (i * 3) = m0 at l0 HC
      generalize M (i * 3 + 1) = m1 at l1 HC
      generalize M (i * 3 + 2) = m2 at l2 HC
      have hss := HB.out.size
      clear hJ hL
      go_upto_region 5 with fail
      obtain ⟨W4, hW4⟩ : ∃ W4, wr.alloc (.cells #[.int .i64 S, .int .i64 (F (i * 4 + 1)), .int .i64 (F (i * 4 + 2)), .int .i64 (F (i * 4 + 3))] 38) = W4 := ⟨_, rfl⟩
      rw [hW4]
      have hA : W4.heap[wr.heap.size]? = some (.cells #[.int .i64 S, .int .i64 (F (i * 4 + 1)), .int .i64 (F (i * 4 + 2)), .int .i64 (F (i * 4 + 3))] 38 (0, 0)) := by rw [← hW4]; exact World.alloc_heap_new wr _
      have hB4 : Below wr.heap.size wr W4 := by rw [← hW4]; exact (Below.refl _ _).alloc (Nat.le_refl _) _
      have s0 : W4.cell? ⟨wr.heap.size, 0, none⟩ = some (.int .i64 S) := cell_h hA rfl
      have hGw : G < wr.heap.size := by omega
      have c1 := (hB4.cell (p := ⟨q, 0, none⟩) (by simp; omega)).trans q1
      have c2 := (hB4.cell (p := ⟨G, i * 3, none⟩) hGw).trans l0
      have c3 := (hB4.cell (p := ⟨G, i * 3 + 1, none⟩) hGw).trans l1
      have c4 := (hB4.cell (p := ⟨G, i * 3 + 2, none⟩) hGw).trans l2
      have HBd4 : Hid (Below w.heap.size w W4.drew) := (HB.out.trans (hB4.mono hss)).drew
      have j0 : (0 : Int) ≤ (i : Int) ∧ (i : Int) < (k : Int) := by omega
      clear hW4 hA hB4 d0 d1 d2 d3 l0 l1 l2 q1
      go_region_with
        (go_at_call 30; refine (HC.out _).mono ?_; rintro e W5 ⟨rfl, hb5⟩; have HB5 := Lib.hid (HBd4.out.trans (hb5.mono HBd4.out.size)); clear hb5)
      all_goals
        have HB6 : Hid (Below w.heap.size w W5.drew) := HB5.out.drew
        clear HC s0 c1 c2 c3 c4
        go_wp2_with fail
        exact ⟨⟨i + 1, by omega, by go_num, by rw [HT2.out], by first | exact HB5 | exact HB6⟩, by simp [intOf]; omega⟩
    · obtain rfl : i = k := by omega
      go_wp2_with fail
      go_ret
      exact ⟨rfl, HB.out⟩
end Go.Proofs.YtlbffdgojmjijaaDoor
