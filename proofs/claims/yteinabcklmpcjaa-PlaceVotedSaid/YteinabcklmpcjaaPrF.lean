/-
  WALKS: the reference's Missing.
-/
import Derived.Test.YteinabcklmpcjaaPrE
import Derived.Deep.DeepCutAuto
namespace Go.Proofs.Yteinabcklmpcjaa
open Go.RowKit

theorem hasP_succ (f : Nat → Int) (k side i : Nat) : hasP f (k + 1) side i = (hasP f k side i || decide (f (k * 2 + side) = (i : Int))) := by
  have h0 : first (fvP f side i) (k + 1) = if first (fvP f side i) k = 0 then fvP f side i k else first (fvP f side i) k := rfl
  have h1 : fvP f side i k = if f (k * 2 + side) = (i : Int) then (k : Int) + 1 else 0 := rfl
  unfold hasP
  generalize first (fvP f side i) (k + 1) = A at h0 ⊢
  generalize first (fvP f side i) k = B at h0 ⊢
  rw [h1] at h0
  clear h1
  by_cases h : B = 0
  · rw [if_pos h] at h0
    by_cases h2 : f (k * 2 + side) = (i : Int)
    · rw [if_pos h2] at h0
      have : A ≠ 0 := by omega
      simp [h, h2, this]
    · rw [if_neg h2] at h0
      simp [h, h2, h0]
  · rw [if_neg h] at h0
    subst h0
    simp [h]
/-- 'make([]T, n)', as an equation. -/
theorem make_run (w : World) (t e : TypeId) (hu : Try.prog.underlying t = some (.slice e)) {z : Value} {size bytes : Nat} (hin : (Try.prog.info? e).map (fun i => (i.zero, i.size, i.bytes)) = some (some z, size, bytes)) (hzs : z.cells.size = size) (n : Nat) (hn : n ≤ 1000000) (hby : bytes ≤ 1000) :
    Sem.run Try.prog (Instr.makeSlice t (.int .i64 (n : Int)) (.int .i64 (n : Int))) w = .ok (.slice (some ⟨w.heap.size, 0, none⟩) n n) (w.alloc (.cells (vrow (n * size) (zc z size)) e)) := by
  obtain ⟨i, hi, g0, g1, g2⟩ := info_parts hin
  have hb : (i.bytes : Int) * (n : Int) ≤ 281474976710656 := by
    have h : i.bytes * n ≤ 1000 * 1000000 := Nat.mul_le_mul (by omega) hn
    have h2 : ((i.bytes * n : Nat) : Int) ≤ 281474976710656 := by omega
    rwa [Int.natCast_mul] at h2
  have hr := run_make (P := Try.prog) w t e i z hu hi g0 .i64 .i64 n n (by omega) (Int.le_refl _) hb (by omega)
  simp only [Int.toNat_natCast, g1] at hr
  have hm : madeCells z.cells (n * size) = vrow (n * size) (zc z size) := by
    apply Array.ext_getElem?
    intro j
    by_cases hj : j < n * size
    · rw [vrow_get _ hj]; simp [madeCells, hj, hzs, zc]
    · rw [Array.getElem?_eq_none (by rw [size_madeCells]; omega), Array.getElem?_eq_none (by rw [vrow_size]; omega)]
  rw [hm] at hr
  exact hr
theorem x_bools : (Try.prog.info? 4).map (fun i => (i.zero, i.size, i.bytes)) = some (some (.bool false), 1, 1) := by kernel_rfl

set_option maxRecDepth 100000 in
set_option maxHeartbeats 4000000 in
theorem unmarked_of (w : World) (n b : Nat) (f : Nat → Int) (m side : Nat) (hn : n ≤ 40) (hB : Blk w b 4 n (fun i => .bool (hasP f m side i))) :
    Calls Try.prog 51 #[.slice (some ⟨b, 0, none⟩) n n] w fun e w' => ∃ x c', e = .returned (.slice x (lone f m side n).length c') ∧ Sl w' 1 x (lone f m side n).length (nf (lone f m side n)) ∧ Below w.heap.size w w' := by
  obtain ⟨i0, hi, hz0, hz1, hz2⟩ := info_parts x_intv
  have HS := Lib.hid hB
  clear hB
  go_enter Try.func51, Try.ntmps51
  go_wp2_with fail
  go_loopw [3, 4] (fun v i wr => ∃ k : Nat, k ≤ n ∧ i = .int .i64 k ∧ Hid (wr.ownsRow w.heap.size 3 1 v (lone f m side k).length (nrow (lone f m side k))) ∧ Hid (Below w.heap.size w wr)) (fun _ i _ => n - (intOf i).toNat)
  case atStart => exact ⟨0, by omega, rfl, ⟨rfl, .inl ⟨rfl, rfl⟩⟩, Below.refl _ _⟩
  case round =>
    obtain ⟨k, hk, rfl, HR, HB⟩ := hrel
    by_cases hlt : k < n
    · have d0 := (HS.out.keep HB.out HS.out.lt).cell (k := k) hlt
      have HL := Lib.hid (lone_succ f m side k)
      have hLn := lone_len f m side k
      have hsz := HB.out.size
      have hlt2 : (k : Int) < (n : Int) := by omega
      generalize hasP f m side k = q at d0 HL
      cases q with
      | true =>
        go_wp2_with fail
        refine ⟨⟨k + 1, by omega, by go_num, ?_, HB.out⟩, by simp [intOf]; omega⟩
        have hL := HL.out
        simp only [if_true, List.append_nil] at hL
        rw [hL]
        exact HR.out
      | false =>
        go_wp2_with (at_builtin; refine wpList_append_own _ rfl _ _ 23 rfl w.heap.size 3 i0 (.int .i64 0) 1 8 Try.underlying23 hi hz0 hz1 hz2 rfl (by decide) _ (lone f m side k).length _ rfl (HR.out.alloc _) ⟨wr.heap.size, 0, none⟩ 1 1 [.int .i64 (k : Int)] rfl rfl (cells_one wr (.int .i64 (k : Int)) 3) (by simp [Value.oneCell']) (by unfold maxLen; omega) (by omega) (by simp; omega) ?_; intro v' w3 hown' hgrow _)
        refine ⟨⟨k + 1, by omega, by go_num, ?_, (HB.out.alloc HB.out.size _).grown hgrow (by simp; omega) (fun j hj => (HR.out.lt j hj).1)⟩, by simp [intOf]; omega⟩
        have hL := HL.out
        simp only [Bool.false_eq_true, if_false] at hL
        rw [hL, List.length_append, List.length_singleton]
        unfold nrow at hown' ⊢
        rw [List.map_append]
        exact hown'
    · obtain rfl : k = n := by omega
      go_wp2
      obtain ⟨x, c', rfl, hx⟩ := own_Sl1 HR.out
      refine bodyPost_ret (v := .slice x (lone f m side k).length c') (by simp [results, Try.f51, go_sem]) rfl ?_
      exact ⟨x, c', rfl, hx, HB.out⟩

theorem mk0 {W : World} {b n : Nat} (f : Nat → Int) (side : Nat) (h : Blk W b 4 n (zc (.bool false) 1)) : Blk W b 4 n (fun i => .bool (hasP f 0 side i)) :=
  h.congr fun i _ => by simp [zc, Nat.mod_one, Value.cells, hasP, first]
/-- One mark more. -/
theorem mk1 {W : World} {b n i x : Nat} {f : Nat → Int} {side : Nat} (h : Blk W b 4 n (fun z => .bool (hasP f i side z))) (hp : ∀ z, hasP f (i + 1) side z = (hasP f i side z || decide ((x : Int) = (z : Int)))) :
    Blk (W.setCell ⟨b, x, none⟩ (.bool true)) b 4 n (fun z => .bool (hasP f (i + 1) side z)) := by
  refine (h.set x (.bool true)).congr fun z _ => ?_
  unfold turn
  rw [hp z]
  by_cases e : z = x
  · subst e; simp
  · have : ¬((x : Int) = (z : Int)) := by omega
    rw [if_neg e, decide_eq_false this, Bool.or_false]

set_option maxRecDepth 100000 in
set_option maxHeartbeats 4000000 in
theorem rmissing_of (w : World) (N M : Int) (n c : Nat) (a : Option Addr) (f : Nat → Int) (hn : n ≤ 4611686018427387903) (hS : Sl w 2 a n f) :
    Calls Try.prog 18 #[.int .i64 N, .int .i64 M, .slice a n c] w (MisEnd N M n f w) := by
  rcases mis_ways N M n f with ⟨h, he⟩ | ⟨N, M, rfl, rfl, hN, hM, he⟩
  · rcases h with h | ⟨h1, h2⟩ | ⟨h1, h2, h3⟩ | ⟨h1, h2, h3, h4⟩
    all_goals
      have HE := Lib.hid he
      clear he
      go_enter Try.func18, Try.ntmps18
      go_wp2_with (go_at_call 50; first | (refine (wi_of true _ _ _ _ (by symm; rw [decide_eq_true_iff]; omega)).mono ?_; rintro e w9 ⟨rfl, hw9⟩; rw [hw9]; clear hw9 w9) | (refine (wi_of false _ _ _ _ (by symm; rw [decide_eq_false_iff_not]; omega)).mono ?_; rintro e w9 ⟨rfl, hw9⟩; rw [hw9]; clear hw9 w9))
      exact bodyPost_ret (v := .tuple #[.slice none 0 0, .slice none 0 0, .int .i64 4]) (by simp [results, Try.f18, go_sem]) rfl (misEnd_err HE.out (by decide) (Below.refl _ _))
  · have HE := Lib.hid he
    have HS := Lib.hid hS
    clear he hS
    go_enter Try.func18, Try.ntmps18
    go_upto_region 3 with (go_at_call 50; refine (wi_of true _ _ _ _ (by symm; rw [decide_eq_true_iff]; omega)).mono ?_; rintro e w9 ⟨rfl, hw9⟩; rw [hw9]; clear hw9 w9)
    go_cut [9, 10] (fun s9 s10 W => ∃ b1 b2, s9 = .slice (some ⟨b1, 0, none⟩) N N ∧ s10 = .slice (some ⟨b2, 0, none⟩) M M ∧ b1 ≠ b2 ∧ w.heap.size ≤ b1 ∧ w.heap.size ≤ b2 ∧ Blk W b1 4 N (fun i => .bool (hasP f 0 0 i)) ∧ Blk W b2 4 M (fun i => .bool (hasP f 0 1 i)) ∧ Below w.heap.size w W)
    case first =>
      have m1 : ∀ w, _ := fun w => make_run w 106 4 Try.underlying106 x_bools rfl N (by omega) (by decide)
      have m2 : ∀ w, _ := fun w => make_run w 106 4 Try.underlying106 x_bools rfl M (by omega) (by decide)
      simp only [Nat.mul_one] at m1 m2
      go_region
      all_goals
        go_wp2_with fail
        go_meet
      · refine ⟨w.heap.size, w.heap.size + 1, rfl, rfl, by omega, Nat.le_refl _, by omega, mk0 f 0 ((Blk.new w 4 N (zc (.bool false) 1)).alloc _), mk0 f 1 ?_, (((Below.refl _ w).alloc (Nat.le_refl _) _).alloc (by simp) _).drew⟩
        have := Blk.new (w.alloc (.cells (vrow N (zc (.bool false) 1)) 4)) 4 M (zc (.bool false) 1)
        rw [World.size_alloc] at this
        exact this
      · refine ⟨w.heap.size + 1, w.heap.size, rfl, rfl, by omega, by omega, Nat.le_refl _, mk0 f 0 ?_, mk0 f 1 ((Blk.new w 4 M (zc (.bool false) 1)).alloc _), (((Below.refl _ w).alloc (Nat.le_refl _) _).alloc (by simp) _).drew⟩
        have := Blk.new (w.alloc (.cells (vrow M (zc (.bool false) 1)) 4)) 4 N (zc (.bool false) 1)
        rw [World.size_alloc] at this
        exact this
    case rest =>
      obtain ⟨b1, b2, rfl, rfl, hne, h1, h2, hB1, hB2, hBw⟩ := hcut
      have HB1 := Lib.hid hB1
      have HB2 := Lib.hid hB2
      have HBw := Lib.hid hBw
      clear hB1 hB2 hBw
      go_wp2_with fail
      go_loopw [11] (fun vi wr => ∃ i : Nat, i ≤ n ∧ vi = .int .i64 i ∧ Hid (∀ j, j < i → prErr N M f j = 0) ∧ Hid (Blk wr b1 4 N (fun x => .bool (hasP f i 0 x))) ∧ Hid (Blk wr b2 4 M (fun x => .bool (hasP f i 1 x))) ∧ Hid (Below w.heap.size w wr)) (fun vi _ => n - (intOf vi).toNat)
      case atStart => exact ⟨0, by omega, rfl, fun j hj => by omega, HB1.out, HB2.out, HBw.out⟩
      case round =>
        obtain ⟨i, hi, rfl, HI, HR, HS2, HB⟩ := hrel
        clear HB1 HB2 HBw
        by_cases hlt : i < n
        · obtain ⟨b, o, rfl, hI⟩ := HS.out (by omega)
          have hl := hI.lt (by omega)
          have hJ := hI.keep HB.out hl
          have d0 := hJ (i * 2) (by omega)
          have d1 := hJ.at (i * 2) 1 (by omega)
          have hE := pr_ways N M f i
          obtain ⟨R, hR⟩ : ∃ R, prErr N M f i = R := ⟨_, rfl⟩
          rw [hR] at hE
          have HF : Hid (R ≠ 0 → misE N M n f = R) := fun hne => by rw [HE.out, ← hR]; exact first_at HI.out (by rw [hR]; exact hne) hlt
          have HRr := Lib.hid hR
          have hP0 : ∀ x, hasP f (i + 1) 0 x = (hasP f i 0 x || decide (f (i * 2) = (x : Int))) := fun x => hasP_succ f i 0 x
          have hP1 : ∀ x, hasP f (i + 1) 1 x = (hasP f i 1 x || decide (f (i * 2 + 1) = (x : Int))) := fun x => hasP_succ f i 1 x
          have HJ := Lib.hid hJ
          clear hI hJ hR hl
          generalize f (i * 2) = X at d0 hE hP0
          generalize f (i * 2 + 1) = Y at d1 hE hP1
          have HP0 := Lib.hid hP0
          have HP1 := Lib.hid hP1
          clear hP0 hP1
          have hb := HB.out
          rcases hE with ⟨k1, rfl⟩ | ⟨k1, k2, rfl⟩ | ⟨k1, k2, h0, rfl⟩ | ⟨k1, k2, j, hj, hV⟩
          · rcases (by omega : X < 0 ∨ (0 ≤ X ∧ N ≤ X)) with hx | ⟨hx, hx2⟩
            all_goals
              clear k1
              go_wp2_with fail
              go_quiet (fail)
              go_wp2_with fail
              exact bodyPost_ret (v := .tuple #[.slice none 0 0, .slice none 0 0, .int .i64 1]) (by simp [results, Try.f18, go_sem]) rfl (misEnd_err (HF.out (by decide)) (by decide) ⟨hb.os, hb.tape, hb.output, hb.size, hb.block⟩)
          · rcases (by omega : Y < 0 ∨ (0 ≤ Y ∧ M ≤ Y)) with hx | ⟨hx, hx2⟩
            all_goals
              clear k2
              go_wp2_with fail
              go_quiet (fail)
              go_wp2_with fail
              exact bodyPost_ret (v := .tuple #[.slice none 0 0, .slice none 0 0, .int .i64 1]) (by simp [results, Try.f18, go_sem]) rfl (misEnd_err (HF.out (by decide)) (by decide) ⟨hb.os, hb.tape, hb.output, hb.size, hb.block⟩)
          · obtain ⟨x, rfl⟩ : ∃ x : Nat, X = (x : Int) := ⟨X.toNat, by omega⟩
            obtain ⟨y, rfl⟩ : ∃ y : Nat, Y = (y : Int) := ⟨Y.toNat, by omega⟩
            have hg : decide (0 < i) = false := by rw [decide_eq_false_iff_not]; omega
            have g1 := HR.out.cell (k := x) (by omega)
            have g2 := HS2.out.cell (k := y) (by omega)
            have z1 := HR.out.fz x
            have z2 := HS2.out.fz y
            have hxn : x < N := by omega
            have hym : y < M := by omega
            clear h0 k1 k2 hb
            go_wp2_with fail
            go_quiet (fail)
            go_wp2_with fail
            have hb : Below w.heap.size w (wr.drewN nq) := ⟨HB.out.os, HB.out.tape, HB.out.output, HB.out.size, HB.out.block⟩
            exact ⟨⟨i + 1, by omega, by go_num, (fun q hq => by
              by_cases eq : q = i
              · subst eq; exact HRr.out
              · exact HI.out q (by omega)), (mk1 (W := wr.drewN nq) HR.out HP0.out).other hne _ _, mk1 (Blk.other (w := wr.drewN nq) HS2.out (Ne.symm hne) _ _) HP1.out, (hb.setCell h1 _).setCell h2 _⟩, by simp [intOf]; omega⟩
          · obtain ⟨x, rfl⟩ : ∃ x : Nat, X = (x : Int) := ⟨X.toNat, by omega⟩
            obtain ⟨y, rfl⟩ : ∃ y : Nat, Y = (y : Int) := ⟨Y.toNat, by omega⟩
            obtain ⟨X', hX'⟩ : ∃ X', f (j * 2) = X' := ⟨_, rfl⟩
            obtain ⟨Y', hY'⟩ : ∃ Y', f (j * 2 + 1) = Y' := ⟨_, rfl⟩
            have d2 := HJ.out (j * 2) (by omega)
            have d3 := HJ.out.at (j * 2) 1 (by omega)
            rw [hX'] at hV d2
            rw [hY'] at hV d3
            have hg : decide (0 < i) = true := by rw [decide_eq_true_iff]; omega
            obtain rfl : j = i - 1 := by omega
            have hpos : (0 : Int) < i := by omega
            have hw1 : IntKind.i64.wrap ((i : Int) - 1) = (i : Int) - 1 := IntWalk.i64_in _ (by omega)
            have ht1 : ((i : Int) - 1).toNat = i - 1 := by omega
            have hin : (i : Int) - 1 < n := by omega
            have hi0 : 0 ≤ (i : Int) - 1 := by omega
            have g1 := HR.out.cell (k := x) (by omega)
            have g2 := HS2.out.cell (k := y) (by omega)
            have z1 := HR.out.fz x
            have z2 := HS2.out.fz y
            have hxn : x < N := by omega
            have hym : y < M := by omega
            clear hj hX' hY' k1 k2
            rcases hV with ⟨hx | ⟨hx, hy⟩, rfl⟩ | ⟨hx, hy, rfl⟩
            · go_wp2_with fail
              go_quiet (fail)
              go_wp2_with fail
              exact bodyPost_ret (v := .tuple #[.slice none 0 0, .slice none 0 0, .int .i64 7]) (by simp [results, Try.f18, go_sem]) rfl (misEnd_err (HF.out (by decide)) (by decide) ⟨hb.os, hb.tape, hb.output, hb.size, hb.block⟩)
            · go_wp2_with fail
              go_quiet (fail)
              go_wp2_with fail
              exact bodyPost_ret (v := .tuple #[.slice none 0 0, .slice none 0 0, .int .i64 7]) (by simp [results, Try.f18, go_sem]) rfl (misEnd_err (HF.out (by decide)) (by decide) ⟨hb.os, hb.tape, hb.output, hb.size, hb.block⟩)
            · clear hb
              go_wp2_with fail
              go_quiet (fail)
              go_wp2_with fail
              have hb : Below w.heap.size w (wr.drewN nq) := ⟨HB.out.os, HB.out.tape, HB.out.output, HB.out.size, HB.out.block⟩
              exact ⟨⟨i + 1, by omega, by go_num, (fun q hq => by
                by_cases eq : q = i
                · subst eq; exact HRr.out
                · exact HI.out q (by omega)), (mk1 (W := wr.drewN nq) HR.out HP0.out).other hne _ _, mk1 (Blk.other (w := wr.drewN nq) HS2.out (Ne.symm hne) _ _) HP1.out, (hb.setCell h1 _).setCell h2 _⟩, by simp [intOf]; omega⟩
        · obtain rfl : i = n := by omega
          have h0 : misE N M i f = 0 := by rw [HE.out]; exact first_zero HI.out
          have hW : misW N M i f = lone f i 0 N := by unfold misW; rw [h0, if_neg (by simp), Int.toNat_natCast]
          have hC : misC N M i f = lone f i 1 M := by unfold misC; rw [h0, if_neg (by simp), Int.toNat_natCast]
          have H0 := Lib.hid h0
          have HW := Lib.hid hW
          have HC := Lib.hid hC
          clear h0 hW hC
          go_wp2_with fail
          refine (unmarked_of wr N b1 f i 0 hN HR.out).mono ?_
          rintro e w2 ⟨x, c1, rfl, hx, hB2⟩
          have HB2 := Lib.hid (HB.out.trans (hB2.mono HB.out.size))
          have HX := Lib.hid hx
          have HS3 := Lib.hid (HS2.out.keep hB2 HS2.out.lt)
          clear hB2 hx
          generalize hL1 : lone f i 0 N = L1 at HX HW ⊢
          clear hL1
          go_wp2_with fail
          refine (unmarked_of w2 M b2 f i 1 hM HS3.out).mono ?_
          rintro e w3 ⟨y, c2, rfl, hy, hB3⟩
          have HB3 := Lib.hid (HB2.out.trans (hB3.mono HB2.out.size))
          have HX3 := Lib.hid (HX.out.keep (by decide) hB3)
          have HY := Lib.hid hy
          clear hB3 hy HX
          generalize hL2 : lone f i 1 M = L2 at HY HC ⊢
          clear hL2
          go_wp2_with fail
          refine bodyPost_ret (v := .tuple #[.slice x L1.length c1, .slice y L2.length c2, .int .i64 0]) (by simp [results, Try.f18, go_sem]) rfl ⟨x, c1, y, c2, ?_, ?_, ?_, HB3.out⟩
          · rw [HW.out, HC.out, H0.out]
          · rw [HW.out]; exact HX3.out
          · rw [HC.out]; exact HY.out
end Go.Proofs.Yteinabcklmpcjaa
