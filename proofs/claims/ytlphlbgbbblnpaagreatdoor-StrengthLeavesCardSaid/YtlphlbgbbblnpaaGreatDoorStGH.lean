/-
  WALKS AND WORDS: StG StH of my texts, one behind the other.
-/
import Derived.Test.YtlphlbgbbblnpaaGreatDoorStF
-- StG: WALKS: strength: the error of a slot; Left.
namespace Go.Proofs.YtlphlbgbbblnpaaGreatDoor
open Go.RowKit

/-- The error of a slot whose numbers are valid. -/
def okE (f g : Nat → Int) (N J c s : Int) (i : Nat) : Int :=
  if first (twE g J) i = 0 then
    if f (J.toNat * 4 + 2) ≤ s ∧ s + f (J.toNat * 4 + 1) ≤ min (f (J.toNat * 4 + 3)) N then first (ovE f g c s (f (J.toNat * 4 + 1))) i else 91
  else 8
/-- Slots ahead whose numbers are valid. -/
def Ahd (g : Nat → Int) (n : Nat) (N : Int) (i : Nat) : Prop := ∀ k, k < i → (0 ≤ g (k * 3) ∧ g (k * 3) < n) ∧ 0 ≤ g (k * 3 + 2) ∧ g (k * 3 + 2) ≤ N
set_option maxRecDepth 100000 in
set_option maxHeartbeats 8000000 in
theorem sslot_of (w : World) (q p : Option Addr) (n c i pc j : Nat) (f g : Nat → Int) (C N cr st : Int) (hj : jsE f n C N = 0) (hi : i ≤ 4611686018427387903) (hA : Ahd g n N i) (hjn : j < n) (hs : 0 ≤ st ∧ st ≤ N) (hS : Sl w 4 q n f) (hG : Sl w 3 p i g) :
    Calls Tryz.prog 63 #[.slice q n c, .int .i64 N, .slice p i pc, .agg #[.int .i64 (j : Int), .int .i64 cr, .int .i64 st]] w fun e w' => e = .returned (.int .i64 (okE f g N (j : Int) cr st i)) ∧ Below w.heap.size w w' := by
  obtain ⟨hn, hC, hN, hjf⟩ := jok_of hj
  have hj1 := hjf j hjn
  have HJf := Lib.hid hjf
  have HS := Lib.hid hS
  have HG := Lib.hid hG
  have HA := Lib.hid hA
  have hV : okE f g N (j : Int) cr st i = if first (twE g (j : Int)) i = 0 then if f (j * 4 + 2) ≤ st ∧ st + f (j * 4 + 1) ≤ min (f (j * 4 + 3)) N then first (ovE f g cr st (f (j * 4 + 1))) i else 91 else 8 := by unfold okE; rw [Int.toNat_natCast]
  obtain ⟨E, hE⟩ : ∃ E, okE f g N (j : Int) cr st i = E := ⟨_, rfl⟩
  rw [hE] at hV ⊢
  obtain ⟨b, o, rfl, hI⟩ := hS (by omega)
  have d0 := hI (j * 4) (by omega)
  have d1 := hI.at (j * 4) 1 (by omega)
  have d2 := hI.at (j * 4) 2 (by omega)
  have d3 := hI.at (j * 4) 3 (by omega)
  have hbl := hI.lt (by omega)
  have HI := Lib.hid hI
  clear hjf hS hG hA hE hj hI
  generalize f (j * 4) = x0 at d0 hj1
  generalize f (j * 4 + 1) = D at d1 hj1 hV
  generalize f (j * 4 + 2) = A at d2 hj1 hV
  generalize f (j * 4 + 3) = U at d3 hj1 hV
  have HV := Lib.hid hV
  clear hV
  have hjI : (j : Int) < (n : Int) := by omega
  go_enter Tryz.func63, Tryz.ntmps63
  go_upto_region 2 with fail
  obtain ⟨W, hW⟩ : ∃ W, (w.alloc (.cells #[.int .i64 (j : Int), .int .i64 cr, .int .i64 st] 80)).alloc (.cells #[.int .i64 x0, .int .i64 D, .int .i64 A, .int .i64 U] 66) = W := ⟨_, rfl⟩
  rw [hW]
  have hB : Below w.heap.size w W := by rw [← hW]; exact ((Below.refl _ _).alloc (Nat.le_refl _) _).alloc (by simp) _
  have b1 : W.heap[w.heap.size]? = some (.cells #[.int .i64 (j : Int), .int .i64 cr, .int .i64 st] 80 (0, 0)) := by rw [← hW]; exact al_old (World.alloc_heap_new w _) _
  have b2 : W.heap[w.heap.size + 1]? = some (.cells #[.int .i64 x0, .int .i64 D, .int .i64 A, .int .i64 U] 66 (0, 0)) := by rw [← hW]; exact al_1 w _ _
  have hsz : W.heap.size = w.heap.size + 1 + 1 := by rw [← hW]; simp
  obtain ⟨B, hBB⟩ : ∃ B, w.heap.size = B := ⟨_, rfl⟩
  rw [hBB] at b1 b2 hsz
  have HBB := Lib.hid hBB
  have HB := Lib.hid hB
  have HB1 := Lib.hid b1
  have HB2 := Lib.hid b2
  rw [hBB]
  clear hW hB b1 b2 hBB d0 d1 d2 d3
  go_wp2_with fail
  go_loopw [21] (fun vi wr => ∃ k : Nat, k ≤ i ∧ vi = .int .i64 k ∧ Hid (∀ m, m < k → twE g (j : Int) m = 0) ∧ Hid (Below W.heap.size W wr)) (fun vi _ => i - (intOf vi).toNat)
  case atStart => exact ⟨0, by omega, rfl, fun m hm => by omega, Below.refl _ _⟩
  case round =>
    obtain ⟨k, hk, rfl, HZ, HBr⟩ := hrel
    have hszr := HBr.out.size
    by_cases hlt : k < i
    · obtain ⟨b4, o4, rfl, hI4⟩ := HG.out (by omega)
      have hb4 := hI4.lt (by omega)
      have hJ := (hI4.keep HB.out hb4).keep HBr.out (by have := HB.out.size; omega)
      have d0 := hJ (k * 3) (by omega)
      have d1 := hJ.at (k * 3) 1 (by omega)
      have d2 := hJ.at (k * 3) 2 (by omega)
      have s0 := cell_h (k := 0) ((HBr.out.block B (by omega)).trans HB1.out) rfl
      have ht : twE g (j : Int) k = if g (k * 3) = (j : Int) then 8 else 0 := rfl
      have HT := Lib.hid ht
      clear hI4 hJ ht
      have hBl : B < wr.heap.size := by omega
      generalize g (k * 3) = y0 at d0 HT
      generalize g (k * 3 + 1) = y1 at d1
      generalize g (k * 3 + 2) = y2 at d2
      by_cases hy : y0 = (j : Int)
      · subst hy
        have HE : Hid (E = 8) := by
          have h1 := HT.out
          rw [if_pos rfl] at h1
          have h2 := first_at (g := twE g (j : Int)) HZ.out (by rw [h1]; decide) hlt
          rw [HV.out, h2, h1, if_neg (by decide)]
          exact Lib.hid rfl
        clear HT
        go_wp2_with fail
        rw [HE.out]
        go_ret
        exact ⟨rfl, HB.out.trans ((HBr.out.alloc HBr.out.size _).mono HB.out.size)⟩
      · have HT2 := HT.out
        rw [if_neg hy] at HT2
        have HT3 := Lib.hid HT2
        clear HT HT2
        go_wp2_with fail
        exact ⟨⟨k + 1, by omega, by go_num, (fun m hm => by
          by_cases em : m = k
          · subst em; exact HT3.out
          · exact HZ.out m (by omega)), HBr.out.alloc HBr.out.size _⟩, by simp [intOf]; omega⟩
    · obtain rfl : k = i := by omega
      have h1 := HV.out
      rw [first_zero HZ.out, if_pos rfl] at h1
      have HV1 := Lib.hid h1
      clear h1 HV HZ
      have s0 := cell_h (k := 0) ((HBr.out.block B (by omega)).trans HB1.out) rfl
      have s1 := cell_h (k := 1) ((HBr.out.block B (by omega)).trans HB1.out) rfl
      have s2 := cell_h (k := 2) ((HBr.out.block B (by omega)).trans HB1.out) rfl
      have t0 := cell_h (k := 0) ((HBr.out.block (B + 1) (by omega)).trans HB2.out) rfl
      have t1 := cell_h (k := 1) ((HBr.out.block (B + 1) (by omega)).trans HB2.out) rfl
      have t2 := cell_h (k := 2) ((HBr.out.block (B + 1) (by omega)).trans HB2.out) rfl
      have t3 := cell_h (k := 3) ((HBr.out.block (B + 1) (by omega)).trans HB2.out) rfl
      have ww : IntKind.i64.wrap (st + D) = st + D := IntWalk.i64_in _ (by omega)
      by_cases hlt2 : st < A
      · have HE : Hid (E = 91) := by rw [HV1.out, if_neg (by omega)]; exact Lib.hid rfl
        have hd : decide (st < A) = true := by rw [decide_eq_true_iff]; exact hlt2
        go_upto_region 8 with fail
        go_quiet (fail)
        go_wp2_with fail
        rw [HE.out]
        go_ret
        exact ⟨rfl, HB.out.trans ((HBr.out.trans ((Dy.Quiet.of wr nq).below _)).mono HB.out.size)⟩
      · have hd : decide (st < A) = false := by rw [decide_eq_false_iff_not]; exact hlt2
        have HS0 : Hid (wr.cell? ⟨B, 0, none⟩ = some (.int .i64 (j : Int)) ∧ wr.cell? ⟨B, 1, none⟩ = some (.int .i64 cr) ∧ wr.cell? ⟨B, 2, none⟩ = some (.int .i64 st) ∧ wr.cell? ⟨B + 1, 0, none⟩ = some (.int .i64 x0) ∧ wr.cell? ⟨B + 1, 1, none⟩ = some (.int .i64 D) ∧ wr.cell? ⟨B + 1, 2, none⟩ = some (.int .i64 A) ∧ wr.cell? ⟨B + 1, 3, none⟩ = some (.int .i64 U)) := ⟨s0, s1, s2, t0, t1, t2, t3⟩
        go_upto_region 8 with fail
        go_region_held3 (fun W' => W'.cell? ⟨B, 0, none⟩ = some (.int .i64 (j : Int)) ∧ W'.cell? ⟨B, 1, none⟩ = some (.int .i64 cr) ∧ W'.cell? ⟨B, 2, none⟩ = some (.int .i64 st) ∧ W'.cell? ⟨B + 1, 0, none⟩ = some (.int .i64 x0) ∧ W'.cell? ⟨B + 1, 1, none⟩ = some (.int .i64 D) ∧ W'.cell? ⟨B + 1, 2, none⟩ = some (.int .i64 A) ∧ W'.cell? ⟨B + 1, 3, none⟩ = some (.int .i64 U))
          (first | (with_reducible assumption) | (with_reducible exact HS0.out) | go_keep)
          ((go_at_call 60; refine (send_of _ _ _ _ _ _).mono ?_; rintro e8 w8 ⟨rfl, rfl⟩))
        obtain ⟨V, hV⟩ : ∃ V, (wr.alloc (.cells #[.int .i64 x0, .int .i64 D, .int .i64 A, .int .i64 U] 66)).drew = V := ⟨_, rfl⟩
        have hbV : Below wr.heap.size wr V := by rw [← hV]; exact ((Below.refl _ _).alloc (Nat.le_refl _) _).drew
        rw [hV]
        have HBV := Lib.hid (low_trans HBr.out hbV)
        have hszV := hbV.size
        clear hV hbV HBr hszr s0 s1 s2 t0 t1 t2 t3 HS0
        by_cases hle : st + D ≤ min U N
        rotate_left
        · have HE : Hid (E = 91) := by rw [HV1.out, if_neg (by omega)]; exact Lib.hid rfl
          have hgt : st + D > min U N := by omega
          go_wp2_with fail
          rw [HE.out]
          go_ret
          exact ⟨rfl, HB.out.trans (HBV.out.mono HB.out.size)⟩
        have hgt : ¬(st + D > min U N) := by omega
        have HE : Hid (E = first (ovE f g cr st D) k) := by rw [HV1.out, if_pos (by omega)]; exact Lib.hid rfl
        clear HV1
        go_wp2_with fail
        go_loopw [49] (fun vi wr => ∃ m : Nat, m ≤ k ∧ vi = .int .i64 m ∧ Hid (∀ l, l < m → ovE f g cr st D l = 0) ∧ Hid (Below W.heap.size W wr)) (fun vi _ => k - (intOf vi).toNat)
        case atStart => exact ⟨0, by omega, rfl, fun l hl => by omega, HBV.out⟩
        case round =>
          obtain ⟨m, hm, rfl, HZ, HBr⟩ := hrel
          have hszr := HBr.out.size
          by_cases hlt : m < k
          · obtain ⟨b4, o4, rfl, hI4⟩ := HG.out (by omega)
            have hb4 := hI4.lt (by omega)
            have hJ := (hI4.keep HB.out hb4).keep HBr.out (by have := HB.out.size; omega)
            have d0 := hJ (m * 3) (by omega)
            have d1 := hJ.at (m * 3) 1 (by omega)
            have d2 := hJ.at (m * 3) 2 (by omega)
            have ha := HA.out m hlt
            have ht : ovE f g cr st D m = if g (m * 3 + 1) = cr ∧ st < g (m * 3 + 2) + f ((g (m * 3)).toNat * 4 + 1) ∧ g (m * 3 + 2) < st + D then 7 else 0 := rfl
            clear hI4 hJ
            obtain ⟨y0, hy0⟩ : ∃ y : Nat, g (m * 3) = (y : Int) := ⟨(g (m * 3)).toNat, by omega⟩
            rw [hy0] at d0 ha ht
            rw [Int.toNat_natCast] at ht
            have hyn : y0 < n := by omega
            have hK := (HI.out.keep HB.out hbl).keep HBr.out (by have := HB.out.size; omega)
            have e0 := hK (y0 * 4) (by omega)
            have e1 := hK.at (y0 * 4) 1 (by omega)
            have hf := (HJf.out y0 hyn).2.1
            clear hy0 hK
            generalize g (m * 3 + 1) = y1 at d1 ht
            generalize g (m * 3 + 2) = y2 at d2 ht ha
            generalize f (y0 * 4) = z0 at e0
            generalize f (y0 * 4 + 1) = Do at e1 ht hf
            have HT := Lib.hid ht
            clear ht
            have hyI : (y0 : Int) < (n : Int) := by omega
            have hbl2 : b < wr.heap.size := by have := HB.out.size; omega
            have hBl : B < wr.heap.size := by omega
            have hBl1 : B + 1 < wr.heap.size := by omega
            have hb42 : b4 < wr.heap.size := by have := HB.out.size; omega
            go_upto_region 13 with fail
            have hbV : Below wr.heap.size wr (wr.alloc (.cells #[.int .i64 (y0 : Int), .int .i64 y1, .int .i64 y2] 80)) := (Below.refl _ _).alloc (Nat.le_refl _) _
            have a0 := World.alloc_heap_new wr (.cells #[.int .i64 (y0 : Int), .int .i64 y1, .int .i64 y2] 80)
            have e1' := (hbV.cell (p := ⟨b, o + y0 * 4 + 1, none⟩) hbl2).trans e1
            have s0 := cell_h (k := 0) ((hbV.block B hBl).trans ((HBr.out.block B (by omega)).trans HB1.out)) rfl
            have s1 := cell_h (k := 1) ((hbV.block B hBl).trans ((HBr.out.block B (by omega)).trans HB1.out)) rfl
            have s2 := cell_h (k := 2) ((hbV.block B hBl).trans ((HBr.out.block B (by omega)).trans HB1.out)) rfl
            have t1 := cell_h (k := 1) ((hbV.block (B + 1) hBl1).trans ((HBr.out.block (B + 1) (by omega)).trans HB2.out)) rfl
            have HBn := Lib.hid (HBr.out.trans (hbV.mono HBr.out.size))
            obtain ⟨nb, hnb⟩ : ∃ nb, wr.heap.size = nb := ⟨_, rfl⟩
            rw [hnb] at a0
            rw [hnb]
            clear hbV d0 d1 d2 e0 e1 HBr
            generalize wr.alloc (.cells #[.int .i64 (y0 : Int), .int .i64 y1, .int .i64 y2] 80) = V1 at *
            have r0 := cell_h (k := 0) a0 rfl
            have r1 := cell_h (k := 1) a0 rfl
            have r2 := cell_h (k := 2) a0 rfl
            clear a0
            have w1 : IntKind.i64.wrap (st + D) = st + D := ww
            have w2 : IntKind.i64.wrap (y2 + Do) = y2 + Do := IntWalk.i64_in _ (by omega)
            have HQ : Hid (∀ nq, Below W.heap.size W (V1.drewN nq)) := fun nq => HBn.out.trans ((Dy.Quiet.of V1 nq).below _)
            have HN : Hid (¬(y1 = cr ∧ st < y2 + Do ∧ y2 < st + D) → ∀ l, l < m + 1 → ovE f g cr st D l = 0) := fun h l hl => by
              by_cases em : l = m
              · subst em; rw [HT.out, if_neg h]
              · exact HZ.out l (by omega)
            by_cases c1 : y1 = cr
            rotate_left
            · have g1 : (y1 == cr) = false := by simpa using c1
              go_quiet (fail)
              go_wp2_with fail
              exact ⟨⟨m + 1, by omega, by go_num, HN.out (fun e => c1 e.1), HQ.out nq⟩, by simp [intOf]; omega⟩
            have g1 : (y1 == cr) = true := by simpa using c1
            by_cases c2 : st < y2 + Do
            rotate_left
            · have g2 : decide (st < y2 + Do) = false := by rw [decide_eq_false_iff_not]; exact c2
              go_quiet (fail)
              go_wp2_with fail
              exact ⟨⟨m + 1, by omega, by go_num, HN.out (fun e => c2 e.2.1), HQ.out nq⟩, by simp [intOf]; omega⟩
            have g2 : decide (st < y2 + Do) = true := by rw [decide_eq_true_iff]; exact c2
            by_cases c3 : y2 < st + D
            rotate_left
            · have g3 : decide (y2 < st + D) = false := by rw [decide_eq_false_iff_not]; exact c3
              go_quiet (fail)
              go_wp2_with fail
              exact ⟨⟨m + 1, by omega, by go_num, HN.out (fun e => c3 e.2.2), HQ.out nq⟩, by simp [intOf]; omega⟩
            have g3 : decide (y2 < st + D) = true := by rw [decide_eq_true_iff]; exact c3
            have HE7 : Hid (E = 7) := by
              have h1 : ovE f g cr st D m = 7 := by rw [HT.out, if_pos ⟨c1, c2, c3⟩]
              have h2 := first_at (g := ovE f g cr st D) HZ.out (by rw [h1]; decide) hlt
              rw [HE.out, h2, h1]
              exact Lib.hid rfl
            go_quiet (fail)
            go_wp2_with fail
            rw [HE7.out]
            go_ret
            exact ⟨rfl, HB.out.trans ((HQ.out nq).mono HB.out.size)⟩
          · obtain rfl : m = k := by omega
            have HE0 : Hid (E = 0) := by rw [HE.out, first_zero HZ.out]; exact Lib.hid rfl
            go_wp2_with fail
            rw [HE0.out]
            go_ret
            exact ⟨rfl, HB.out.trans (HBr.out.mono HB.out.size)⟩
end Go.Proofs.YtlphlbgbbblnpaaGreatDoor
-- StH: WALKS: strength: Left.
namespace Go.Proofs.YtlphlbgbbblnpaaGreatDoor
open Go.RowKit

theorem slE_bad {f g : Nat → Int} {n : Nat} {C N : Int} {i : Nat} (h : ¬((0 ≤ g (i * 3) ∧ g (i * 3) < n) ∧ (0 ≤ g (i * 3 + 1) ∧ g (i * 3 + 1) < C) ∧ 0 ≤ g (i * 3 + 2) ∧ g (i * 3 + 2) ≤ N)) : slE f g n C N i = 1 := by
  unfold slE; rw [if_neg h]
theorem slE_ok {f g : Nat → Int} {n : Nat} {C N : Int} {i : Nat} (h : (0 ≤ g (i * 3) ∧ g (i * 3) < n) ∧ (0 ≤ g (i * 3 + 1) ∧ g (i * 3 + 1) < C) ∧ 0 ≤ g (i * 3 + 2) ∧ g (i * 3 + 2) ≤ N) : slE f g n C N i = okE f g N (g (i * 3)) (g (i * 3 + 1)) (g (i * 3 + 2)) i := by
  unfold slE okE; rw [if_pos h]
theorem sl_take {w : World} {a : Option Addr} {n k : Nat} {f : Nat → Int} (h : Sl w 3 a n f) (hk : k ≤ n) : Sl w 3 a k f := fun h0 => by
  obtain ⟨b, o, e, hI⟩ := h (by omega)
  exact ⟨b, o, e, fun i hi => hI i (by omega)⟩
theorem keep3S {W W' : World} {b : Nat} {x y z : Value} (h : W.cell? ⟨b, 0, none⟩ = some x ∧ W.cell? ⟨b, 1, none⟩ = some y ∧ W.cell? ⟨b, 2, none⟩ = some z) (hb : Below W.heap.size W W') : W'.cell? ⟨b, 0, none⟩ = some x ∧ W'.cell? ⟨b, 1, none⟩ = some y ∧ W'.cell? ⟨b, 2, none⟩ = some z :=
  have hl := World.block_lt_of_cell? W _ h.1
  ⟨(hb.cell (p := ⟨b, 0, none⟩) hl).trans h.1, (hb.cell (p := ⟨b, 1, none⟩) hl).trans h.2.1, (hb.cell (p := ⟨b, 2, none⟩) hl).trans h.2.2⟩
/-- What Left tells, where the jobs have no error. -/
def lfV (f g : Nat → Int) (n p : Nat) (C N : Int) : Int := if lfE f g n p C N = 0 then rsk f n - tkn f g p else 0
set_option maxRecDepth 100000 in
set_option maxHeartbeats 8000000 in
theorem sleft_of (w : World) (q a : Option Addr) (n c p pc : Nat) (f g : Nat → Int) (C N : Int) (hj : jsE f n C N = 0) (hp : p ≤ 1000000) (hpc : p ≤ pc) (hS : Sl w 4 q n f) (hG : Sl w 3 a p g) :
    Calls Tryz.prog 22 #[.slice q n c, .int .i64 C, .int .i64 N, .slice a p pc] w fun e w' => e = .returned (.tuple #[.int .i64 (lfV f g n p C N), .int .i64 (lfE f g n p C N)]) ∧ Below w.heap.size w w' := by
  obtain ⟨hn, hC, hN, hjf⟩ := jok_of hj
  have HJ := Lib.hid hj
  have HJf := Lib.hid hjf
  have HS := Lib.hid hS
  have HG := Lib.hid hG
  have HIx : Hid (∀ b w x n, b = decide (0 ≤ x ∧ x < n) → Calls Tryz.prog 62 #[.int .i64 x, .int .i64 n] w fun e w' => e = .returned (.bool b) ∧ w' = w) := fun b w x n h => sindex_of b w x n h
  have HI : Hid (∀ b w x lo hi, b = decide (lo ≤ x ∧ x ≤ hi) → Calls Tryz.prog 51 #[.int .i64 x, .int .i64 lo, .int .i64 hi] w fun e w' => e = .returned (.bool b) ∧ w' = w) := fun b w x lo hi h => swithin_of b w x lo hi h
  clear hjf hS hG hj
  have HLE : Hid (lfE f g n p C N = first (slE f g n C N) p) := Lib.hid rfl
  have HLV : Hid (lfV f g n p C N = if lfE f g n p C N = 0 then rsk f n - tkn f g p else 0) := Lib.hid rfl
  obtain ⟨E, hE⟩ : ∃ E, lfE f g n p C N = E := ⟨_, rfl⟩
  rw [hE] at HLE HLV
  rw [hE]
  obtain ⟨L, hL⟩ : ∃ L, lfV f g n p C N = L := ⟨_, rfl⟩
  rw [hL] at HLV
  rw [hL]
  clear hE hL
  go_enter Tryz.func22, Tryz.ntmps22
  go_wp2_with fail
  refine (scheck_of w q n c f C N (by unfold maxLen; omega) HS.out).mono ?_
  rintro e W1 ⟨rfl, hb1⟩
  rw [HJ.out]
  have HB1 := Lib.hid hb1
  clear hb1
  go_wp2_with fail
  refine (srisk_of W1 q n c f hn (fun i hi => (HJf.out i hi).1) (HS.out.keep (by decide) HB1.out)).mono ?_
  rintro e W2 ⟨rfl, hb2⟩
  have HB2 := Lib.hid (low_trans HB1.out hb2)
  have hrk : 0 ≤ rsk f n ∧ rsk f n ≤ 1000000 * n := by
    unfold rsk
    refine ⟨si_nn fun i hi => (HJf.out i hi).1.1, ?_⟩
    have h1 : si n (fun i => f (i * 4)) ≤ si n (fun _ => (1000000 : Int)) := si_le fun i hi => (HJf.out i hi).1.2
    have h2 : ∀ n : Nat, si n (fun _ => (1000000 : Int)) = 1000000 * n := fun n => by
      induction n with
      | zero => rfl
      | succ n ih => simp only [si, ih]; push_cast; omega
    rw [h2] at h1; exact h1
  obtain ⟨r, hr⟩ : ∃ r, rsk f n = r := ⟨_, rfl⟩
  rw [hr] at hrk HLV
  rw [hr]
  clear hb2 HB1 hr
  go_wp2_with fail
  go_loopw [11, 26] (fun vl vi wr => ∃ i : Nat, i ≤ p ∧ vi = .int .i64 i ∧ vl = .int .i64 (r - tkn f g i) ∧ Hid (0 ≤ tkn f g i ∧ tkn f g i ≤ 1000000 * i) ∧ Hid (∀ m, m < i → slE f g n C N m = 0) ∧ Hid (Below w.heap.size w wr)) (fun _ vi _ => p - (intOf vi).toNat)
  case atStart => exact ⟨0, by omega, rfl, by simp [tkn, si], Lib.hid (by simp [tkn, si]), fun m hm => by omega, HB2.out⟩
  case round =>
    obtain ⟨i, hi, rfl, rfl, HTk, HZ, HB⟩ := hrel
    have htk := HTk.out
    by_cases hlt : i < p
    · obtain ⟨b4, o4, rfl, hI4⟩ := HG.out (by omega)
      have hb4 := hI4.lt (by omega)
      have hJ := hI4.keep HB.out hb4
      have d0 := hJ (i * 3) (by omega)
      have d1 := hJ.at (i * 3) 1 (by omega)
      have d2 := hJ.at (i * 3) 2 (by omega)
      have HBad := Lib.hid (slE_bad (f := f) (g := g) (n := n) (C := C) (N := N) (i := i))
      have HOk := Lib.hid (slE_ok (f := f) (g := g) (n := n) (C := C) (N := N) (i := i))
      have HFst : Hid (∀ e, slE f g n C N i = e → e ≠ 0 → E = e ∧ L = 0) := fun e he h0 => by
        have h1 := first_at (g := slE f g n C N) HZ.out (by rw [he]; exact h0) hlt
        have h2 : E = e := by rw [HLE.out, h1, he]
        exact ⟨h2, by rw [HLV.out, if_neg (by rw [h2]; exact h0)]⟩
      have HTs : Hid (tkn f g (i + 1) = tkn f g i + f ((g (i * 3)).toNat * 4)) := Lib.hid rfl
      have HAh : Hid (Ahd g n N i) := fun m hm => by
        have h1 := (sok_of (f := f) (g := g) (n := n) (p := i) (C := C) (N := N) (first_zero HZ.out) m hm).1
        exact ⟨h1.1, h1.2.2⟩
      clear hI4 hJ
      generalize g (i * 3) = y0 at d0 HBad HOk HTs
      generalize g (i * 3 + 1) = y1 at d1 HBad HOk
      generalize g (i * 3 + 2) = y2 at d2 HBad HOk
      generalize tkn f g i = tk at htk ⊢ HTs
      go_upto_region 8 with fail
      have hbV : Below wr.heap.size wr (wr.alloc (.cells #[.int .i64 y0, .int .i64 y1, .int .i64 y2] 80)) := (Below.refl _ _).alloc (Nat.le_refl _) _
      have a0 := World.alloc_heap_new wr (.cells #[.int .i64 y0, .int .i64 y1, .int .i64 y2] 80)
      obtain ⟨nb, hnb⟩ : ∃ nb, wr.heap.size = nb := ⟨_, rfl⟩
      rw [hnb] at a0
      rw [hnb]
      have HBV := Lib.hid (low_trans HB.out hbV)
      clear d0 d1 d2 hbV hnb HB
      generalize wr.alloc (.cells #[.int .i64 y0, .int .i64 y1, .int .i64 y2] 80) = V at *
      have s0 := cell_h (k := 0) a0 rfl
      have s1 := cell_h (k := 1) a0 rfl
      have s2 := cell_h (k := 2) a0 rfl
      go_wp2_with fail
      by_cases k0 : 0 ≤ y0 ∧ y0 < (n : Int)
      rotate_left
      · refine (HIx.out false _ _ _ (by symm; rw [decide_eq_false_iff_not]; exact k0)).mono ?_
        rintro e w8 ⟨rfl, rfl⟩
        obtain ⟨hE, hL⟩ := HFst.out 1 (HBad.out fun e => k0 e.1) (by decide)
        have HE := Lib.hid hE
        have HL := Lib.hid hL
        clear hE hL
        go_wp2_with fail
        exact bodyPost_ret (v := .tuple #[.int .i64 0, .int .i64 1]) (by simp [results, Tryz.f22, go_sem]) rfl ⟨by rw [HE.out, HL.out], HBV.out⟩
      refine (HIx.out true _ _ _ (by symm; rw [decide_eq_true_iff]; exact k0)).mono ?_
      rintro e w8 ⟨rfl, rfl⟩
      go_wp2_with fail
      by_cases k1 : 0 ≤ y1 ∧ y1 < C
      rotate_left
      · refine (HIx.out false _ _ _ (by symm; rw [decide_eq_false_iff_not]; exact k1)).mono ?_
        rintro e w8 ⟨rfl, rfl⟩
        obtain ⟨hE, hL⟩ := HFst.out 1 (HBad.out fun e => k1 e.2.1) (by decide)
        have HE := Lib.hid hE
        have HL := Lib.hid hL
        clear hE hL
        go_wp2_with fail
        exact bodyPost_ret (v := .tuple #[.int .i64 0, .int .i64 1]) (by simp [results, Tryz.f22, go_sem]) rfl ⟨by rw [HE.out, HL.out], HBV.out⟩
      refine (HIx.out true _ _ _ (by symm; rw [decide_eq_true_iff]; exact k1)).mono ?_
      rintro e w8 ⟨rfl, rfl⟩
      go_wp2_with fail
      by_cases k2 : 0 ≤ y2 ∧ y2 ≤ N
      rotate_left
      · refine (HI.out false _ _ _ _ (by symm; rw [decide_eq_false_iff_not]; exact k2)).mono ?_
        rintro e w8 ⟨rfl, rfl⟩
        obtain ⟨hE, hL⟩ := HFst.out 1 (HBad.out fun e => k2 e.2.2) (by decide)
        have HE := Lib.hid hE
        have HL := Lib.hid hL
        clear hE hL
        go_wp2_with fail
        exact bodyPost_ret (v := .tuple #[.int .i64 0, .int .i64 1]) (by simp [results, Tryz.f22, go_sem]) rfl ⟨by rw [HE.out, HL.out], HBV.out⟩
      refine (HI.out true _ _ _ _ (by symm; rw [decide_eq_true_iff]; exact k2)).mono ?_
      rintro e w8 ⟨rfl, rfl⟩
      obtain ⟨y, rfl⟩ : ∃ y : Nat, y0 = (y : Int) := ⟨y0.toNat, by omega⟩
      have HOk2 := Lib.hid (HOk.out ⟨k0, k1, k2⟩)
      have hyn : y < n := by omega
      have HSv := Lib.hid (HS.out.keep (by decide) HBV.out)
      have HGv := Lib.hid (sl_take (HG.out.keep (by decide) HBV.out) hi)
      have HCk : Hid (∀ V, Below w8.heap.size w8 V → Calls Tryz.prog 63 #[.slice q n c, .int .i64 N, .slice (some ⟨b4, o4, none⟩) i pc, .agg #[.int .i64 (y : Int), .int .i64 y1, .int .i64 y2]] V fun e w' => e = .returned (.int .i64 (okE f g N (y : Int) y1 y2 i)) ∧ Below V.heap.size V w') := fun V hV => sslot_of V q (some ⟨b4, o4, none⟩) n c i pc y f g C N y1 y2 HJ.out (by omega) HAh.out hyn k2 (HSv.out.keep (by decide) hV) (HGv.out.keep (by decide) hV)
      have HS0 : Hid (w8.cell? ⟨nb, 0, none⟩ = some (.int .i64 (y : Int)) ∧ w8.cell? ⟨nb, 1, none⟩ = some (.int .i64 y1) ∧ w8.cell? ⟨nb, 2, none⟩ = some (.int .i64 y2)) := ⟨s0, s1, s2⟩
      have hBW : Below w8.heap.size w8 w8 := Below.refl _ _
      have hi0 : (0 : Int) ≤ (i : Int) := by omega
      have hip : (i : Int) ≤ (pc : Int) := by omega
      go_upto_region 10 with fail
      go_region_held3 (fun W' => W'.cell? ⟨nb, 0, none⟩ = some (.int .i64 (y : Int)) ∧ W'.cell? ⟨nb, 1, none⟩ = some (.int .i64 y1) ∧ W'.cell? ⟨nb, 2, none⟩ = some (.int .i64 y2))
        (first | (with_reducible exact HS0.out) | (with_reducible exact hS9) | (with_reducible assumption) | go_keep)
        ((go_at_call 63; refine (HCk.out _ (by first | exact hBW | exact hBW.drew | exact hBW.drew.drew)).mono ?_; rintro e9 V9 ⟨rfl, hB9⟩; (have hL9 : Below w8.heap.size w8 V9 := by first | exact low_trans hBW hB9 | exact low_trans hBW.drew hB9); (have hS9 := keep3S HS0.out hL9)))
      all_goals
        have hbV : Below w8.heap.size w8 V9 := hL9
        have HBv := Lib.hid (low_trans HBV.out hbV)
        obtain ⟨s0, s1, s2⟩ := keep3S HS0.out hbV
        clear hS9 hL9 hB9 HCk
        obtain ⟨e, he⟩ : ∃ e, okE f g N (y : Int) y1 y2 i = e := ⟨_, rfl⟩
        rw [he] at HOk2
        rw [he]
        clear he
        by_cases h0 : e = 0
        · subst h0
          obtain ⟨b, o, rfl, hI⟩ := HSv.out (by omega)
          have hK := hI.keep hbV (hI.lt (by omega))
          have e0 := hK (y * 4) (by omega)
          have hf := (HJf.out y hyn).1
          rw [Int.toNat_natCast] at HTs
          generalize f (y * 4) = fy at e0 hf HTs
          have hyI : (y : Int) < (n : Int) := by omega
          clear hI hK hbV
          go_wp2_with fail
          exact ⟨⟨i + 1, by omega, by go_num, by rw [HTs]; go_num, Lib.hid (by rw [HTs]; omega), (fun m hm => by
            by_cases em : m = i
            · subst em; exact HOk2.out
            · exact HZ.out m (by omega)), HBv.out⟩, by simp [intOf]; omega⟩
        · obtain ⟨hE, hL⟩ := HFst.out e HOk2.out h0
          have HE := Lib.hid hE
          have HL := Lib.hid hL
          clear hE hL
          go_wp2_with fail
          exact bodyPost_ret (v := .tuple #[.int .i64 0, .int .i64 e]) (by simp [results, Tryz.f22, go_sem]) rfl ⟨by rw [HE.out, HL.out], HBv.out⟩
    · obtain rfl : i = p := by omega
      have hE0 : E = 0 := by rw [HLE.out, first_zero HZ.out]
      have HL0 : Hid (L = r - tkn f g i) := by rw [HLV.out, if_pos hE0]; exact Lib.hid rfl
      have HE0 := Lib.hid hE0
      clear hE0
      generalize tkn f g i = tk at htk HL0 ⊢
      go_wp2_with fail
      exact bodyPost_ret (v := .tuple #[.int .i64 (r - tk), .int .i64 0]) (by simp [results, Tryz.f22, go_sem]) rfl ⟨by rw [HE0.out, HL0.out], HB.out⟩
end Go.Proofs.YtlphlbgbbblnpaaGreatDoor
