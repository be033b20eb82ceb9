/-
  WALKS: the reference's Clash.
-/
import Derived.Test.YtonlamkpehakdaaPyE
import Derived.Test.YtonlamkpehakdaaPrA
namespace Go.Proofs.Ytonlamkpehakdaa
open Go.RowKit

/-- A round; r of them. -/
def rd (f : Nat → Int) (n : Nat) (p : Pt) : Pt := p.ups f (ysOf f p n)
def itr (f : Nat → Int) (n : Nat) (p : Pt) : Nat → Pt
  | 0 => p
  | r + 1 => rd f n (itr f n p r)
theorem itr_rd (f : Nat → Int) (n : Nat) (p : Pt) : ∀ r, itr f n (rd f n p) r = itr f n p (r + 1)
  | 0 => rfl
  | r + 1 => by show rd f n (itr f n (rd f n p) r) = rd f n (itr f n p (r + 1)); rw [itr_rd f n p r]
theorem itr_abv (f : Nat → Int) (n : Nat) (p : Pt) : ∀ r, p.Abv (itr f n p r)
  | 0 => Pt.Abv.refl p
  | r + 1 => (itr_abv f n p r).trans (ys_abv f _ n)
theorem itr_le {E n : Nat} {f : Nat → Int} (hf : BOk E n f) {p : Pt} (hp : p.Le 0) : ∀ r : Nat, (itr f n p r).Le (r * 274877906944)
  | 0 => by simpa [itr] using hp
  | r + 1 => by
    have h := ysOf_le hf (itr_le hf hp r) n (Nat.le_refl _)
    have hn := hf.1
    exact h.mono (by push_cast; omega)
/-- Rounds that all shorten: the search's last one does. -/
theorem rel_last {f : Nat → Int} {n : Nat} : ∀ (j : Nat) (p : Pt) (s : Int), 1 ≤ j → (∀ i, i < j → ysOf f (itr f n p i) n ≠ []) → 0 ≤ (relS f n j p s).2
  | j + 1, p, s, _, h => by
    have h0 : ysOf f p n ≠ [] := h 0 (by omega)
    have hl : ¬lastTo f (ysOf f p n) < 0 := fun hl => h0 (lastTo_neg.1 hl)
    simp only [relS]
    rw [if_neg hl]
    cases j with
    | zero => simp only [relS]; omega
    | succ j => exact rel_last (j + 1) _ _ (by omega) (fun i hi => by rw [show p.ups f (ysOf f p n) = rd f n p from rfl, itr_rd]; exact h (i + 1) (by omega))
theorem clash_yes {E n : Nat} {f : Nat → Int} (hf : BOk E n f) (h : ∀ i, i < E → ysOf f (itr f n (Pt.all E) i) n ≠ []) : 0 ≤ clash f n E := rel_last E (Pt.all E) (-1) hf.1.1 h
theorem clash_no {E n : Nat} {f : Nat → Int} (hf : BOk E n f) {r : Nat} (h : ysOf f (itr f n (Pt.all E) r) n = []) : clash f n E < 0 := by
  refine (clash_iff hf).2 fun u es hu hw => ?_
  have hk : (Pt.all E).kn u = true := by simp [Pt.all, hu]
  have hk2 := (itr_abv f n (Pt.all E) r u hk).1
  have := ((ys_stable h).walk es hk2 hw).2
  omega
theorem ups_kn {f : Nat → Int} {n : Nat} {E r : Nat} (hf : BOk E n f) (k : Nat) {v : Nat} (hv : v < E) : ((itr f n (Pt.all E) r).ups f (ysOf f (itr f n (Pt.all E) r) k)).kn v = true := by
  have hk : (Pt.all E).kn v = true := by simp [Pt.all, hv]
  have := hf.1
  exact (ys_abv f _ k v (itr_abv f n (Pt.all E) r v hk).1).1
theorem sh_all {f : Nat → Int} {p : Pt} {i : Nat} (h1 : p.kn (bF f i) = true) (h2 : p.kn (bT f i) = true) : p.sh f i = decide (p.mo (bF f i) + bM f i < p.mo (bT f i)) := by
  unfold Pt.sh
  rw [h1, h2]
  simp
theorem x_intB : (Try.prog.info? 3).map (fun i => (i.zero, i.size, i.bytes)) = some (some (.int .i64 0), 1, 8) := by kernel_rfl

set_option maxRecDepth 100000 in
set_option maxHeartbeats 4000000 in
theorem rclash_of (w : World) (f : Nat → Int) (E n c : Nat) (a : Option Addr) (hf : BOk E n f) (hS : Sl w 3 a n f) :
    Calls Try.prog 36 #[.int .i64 (E : Int), .slice a n c] w fun e w' => e = .returned (.bool (decide (0 ≤ clash f n E))) ∧ Below w.heap.size w w' := by
  have HF := Lib.hid hf
  have HS := Lib.hid hS
  have hl := hf.1
  clear hf hS
  go_enter Try.func36, Try.ntmps36
  go_wp2_with (at_make; refine wp_makeB _ rfl _ _ 23 3 rfl Try.underlying23 x_intB rfl (by decide) _ _ E rfl rfl rfl rfl (by omega) (by decide) ?_)
  obtain ⟨W, hW⟩ : ∃ W, w.alloc (.cells (vrow E (zc (.int .i64 0) 1)) 3) = W := ⟨_, rfl⟩
  have hB : Below w.heap.size w W := by rw [← hW]; exact (Below.refl _ w).alloc (Nat.le_refl _) _
  have hK : Blk W w.heap.size 3 E (fun i => .int .i64 ((itr f n (Pt.all E) 0).mo i)) := by
    rw [← hW]
    refine (Blk.new w _ _ _).congr fun i _ => ?_
    unfold zc
    rw [Nat.mod_one]
    rfl
  rw [hW]
  clear hW
  have HK0 := Lib.hid hK
  have HB0 := Lib.hid hB
  clear hK hB
  go_loopw [6] (fun vr wr => ∃ r : Nat, r ≤ E + 1 ∧ vr = .int .i64 r ∧ Hid (Blk wr w.heap.size 3 E (fun i => .int .i64 ((itr f n (Pt.all E) r).mo i))) ∧ Hid (∀ i, i < r → ysOf f (itr f n (Pt.all E) i) n ≠ []) ∧ Hid (Below w.heap.size w wr)) (fun vr _ => E + 1 - (intOf vr).toNat)
  case atStart => exact ⟨0, by omega, rfl, HK0.out, fun i hi => by omega, HB0.out⟩
  case round =>
    obtain ⟨r, hr, rfl, HK, HN, HB⟩ := hrel
    by_cases hlt : r ≤ E
    · have hle : (itr f n (Pt.all E) r).Le (r * 274877906944) := itr_le HF.out (fun i => by simp [Pt.all]) r
      have HLe := Lib.hid hle
      have HKn : Hid (∀ k v, v < E → ((itr f n (Pt.all E) r).ups f (ysOf f (itr f n (Pt.all E) r) k)).kn v = true) := fun k v hv => ups_kn HF.out k hv
      have HNo : Hid (ysOf f (itr f n (Pt.all E) r) n = [] → clash f n E < 0) := fun h => clash_no HF.out h
      have HNx : Hid (ysOf f (itr f n (Pt.all E) r) n ≠ [] → ∀ i, i < r + 1 → ysOf f (itr f n (Pt.all E) i) n ≠ []) := fun h i hi => by
        by_cases e : i = r
        · subst e; exact h
        · exact HN.out i (by omega)
      have HYe : Hid (itr f n (Pt.all E) (r + 1) = (itr f n (Pt.all E) r).ups f (ysOf f (itr f n (Pt.all E) r) n)) := rfl
      clear hle
      generalize itr f n (Pt.all E) r = p at HK HLe HKn HNo HYe HNx
      go_wp2_with fail
      go_loopw [7, 8] (fun vl vi wi => ∃ k : Nat, k ≤ n ∧ vi = .int .i64 k ∧ vl = .bool (!(ysOf f p k).isEmpty) ∧ Hid (Blk wi w.heap.size 3 E (fun i => .int .i64 ((p.ups f (ysOf f p k)).mo i))) ∧ Hid (Below w.heap.size w wi)) (fun _ vi _ => n - (intOf vi).toNat)
      case atStart => exact ⟨0, by omega, rfl, rfl, HK.out, HB.out⟩
      case round =>
        obtain ⟨k, hk, rfl, rfl, HK2, HB2⟩ := hrel
        by_cases hlt2 : k < n
        · obtain ⟨b, o, rfl, hI⟩ := HS.out (by omega)
          have hI2 := hI.keep HB2.out (hI.lt (by omega))
          have d0 := hI2 (k * 3) (by omega)
          have d1 := hI2.at (k * 3) 1 (by omega)
          have d2 := hI2.at (k * 3) 2 (by omega)
          obtain ⟨f0, l0⟩ := bF_eq HF.out hlt2
          obtain ⟨f1, l1⟩ := bT_eq HF.out hlt2
          rw [f0] at d0
          rw [f1] at d1
          have hmb := (HF.out.2 k hlt2).2.2
          have q0 := HK2.out.cell (k := bF f k) (by omega)
          have q1 := HK2.out.cell (k := bT f k) (by omega)
          have z1 := HK2.out.fz (bT f k)
          have hb0 := (ysOf_le HF.out HLe.out k hk) (bF f k)
          have hsh := sh_all (HKn.out k _ l0) (HKn.out k _ l1)
          have hys : ysOf f p (k + 1) = if (p.ups f (ysOf f p k)).sh f k = true then ysOf f p k ++ [k] else ysOf f p k := rfl
          rw [hsh] at hys
          have hup := Pt.ups_snoc f p (ysOf f p k) k
          have hupm : ∀ i, ((p.ups f (ysOf f p k)).up f k).mo i = turn (p.ups f (ysOf f p k)).mo (bT f k) ((p.ups f (ysOf f p k)).mo (bF f k) + bM f k) i := fun i => rfl
          have hM : bM f k = f (k * 3 + 2) := rfl
          rw [hM] at hys hupm
          have HUp := Lib.hid hup
          have HUm := Lib.hid hupm
          have HSt : Hid (∀ (v : Int) (W : World), Blk W w.heap.size 3 E (fun i => .int .i64 ((p.ups f (ysOf f p k)).mo i)) → Blk (W.setCell ⟨w.heap.size, bT f k, none⟩ (.int .i64 v)) w.heap.size 3 E (fun i => .int .i64 (turn (p.ups f (ysOf f p k)).mo (bT f k) v i))) := fun v W h => (h.set _ _).congr fun i _ => by
            unfold turn
            split <;> rfl
          have hrE : (r : Int) ≤ 64 := by omega
          have hrb : (r : Int) * 274877906944 ≤ 17592186044416 := by omega
          generalize (p.ups f (ysOf f p k)).mo (bF f k) = mf at q0 hb0 hys HUm
          generalize hmt : (p.ups f (ysOf f p k)).mo (bT f k) = mt at q1 hys
          generalize f (k * 3 + 2) = M at d2 hmb hys HUm
          have w1 : IntKind.i64.wrap (mf + M) = mf + M := IntWalk.i64_in _ (by omega)
          have hF64 : (bF f k : Int) < E := by omega
          have hT64 : (bT f k : Int) < E := by omega
          have hk1 : (k : Int) < n := by omega
          have HYS := Lib.hid hys
          have hbl := HB2.out.size
          clear hI hI2 f0 f1 hsh hys hup hupm hM hmb hb0 hmt
          generalize hF : bF f k = u at *
          generalize hT : bT f k = t at *
          by_cases hs : mf + M < mt
          · have HYS2 := HYS.out
            rw [decide_eq_true hs, if_pos rfl] at HYS2
            have HY2 := Lib.hid HYS2
            clear HYS2 HYS
            go_wp2_with fail
            go_quiet (fail)
            go_wp2_with fail
            have hS2 := HSt.out (mf + M) _ HK2.out
            refine ⟨⟨k + 1, by omega, by go_num, ?_, ?_, ?_⟩, by simp [intOf]; omega⟩
            · rw [HY2.out]; simp
            · rw [HY2.out, HUp.out]
              exact hS2.congr fun i _ => by rw [HUm.out]
            · exact (below_drewN HB2.out nq).setCell (p := ⟨w.heap.size, t, none⟩) (Nat.le_refl _) (.int .i64 (mf + M))
          · have HYS2 := HYS.out
            rw [decide_eq_false hs, if_neg (by simp)] at HYS2
            have HY2 := Lib.hid HYS2
            clear HYS2 HYS
            go_wp2_with fail
            go_quiet (fail)
            go_wp2_with fail
            exact ⟨⟨k + 1, by omega, by go_num, by rw [HY2.out], by rw [HY2.out]; exact HK2.out, below_drewN HB2.out nq⟩, by simp [intOf]; omega⟩
        · obtain rfl : k = n := by omega
          obtain ⟨ys, hys⟩ : ∃ ys, ysOf f p k = ys := ⟨_, rfl⟩
          have HYs := Lib.hid hys
          rw [hys]
          clear hys
          rcases last_cases ys with rfl | ⟨ys', i', rfl⟩
          · have hne : (!([] : List Nat).isEmpty) = false := rfl
            rw [hne]
            go_wp2_with fail
            go_ret
            exact ⟨by rw [decide_eq_false (by have := HNo.out HYs.out; omega)]; rfl, HB2.out⟩
          · have hne : (!(ys' ++ [i']).isEmpty) = true := by simp
            rw [hne]
            go_wp2_with fail
            refine ⟨⟨r + 1, by omega, by go_num, ?_, HNx.out (by rw [HYs.out]; simp), HB2.out⟩, by simp [intOf]; omega⟩
            rw [HYe.out]
            exact HK2.out
    · have hrI : ¬((r : Int) ≤ (E : Int)) := by omega
      go_wp2_with fail
      go_ret
      exact ⟨by rw [decide_eq_true (clash_yes HF.out fun i hi => HN.out i (by omega))]; rfl, HB.out⟩
end Go.Proofs.Ytonlamkpehakdaa
