/-
  WALKS: distances (the statement's own): it returns whether they are all apart; that it returns is all that is wanted.
-/
import Derived.Test.YtmdniebedflpbaaGreatDoorVrF
import Derived.Test.YtmdniebedflpbaaGreatDoorShelf2
import Derived.Sort.OwnSortedInts
namespace Go.Proofs.YtmdniebedflpbaaGreatDoor
open Go.RowKit Go.Sort

/-- A list of ints of one's own, sorted. -/
theorem sort_own (W : World) (B : Nat) (v : Value) (zs : List Int) (hB : B ≤ W.heap.size) (h : W.ownsRow B 3 1 v zs.length (irw zs)) (hz : 0 < zs.length) (hl : zs.length ≤ 1000) :
    Calls Tryz.prog 62 #[v] W fun e W' => e = .returned (.tuple #[]) ∧ ∃ ts : List Int, ts.length = zs.length ∧ W'.ownsRow B 3 1 v ts.length (irw ts) ∧ Below B W W' := by
  obtain ⟨hlen, h⟩ := h
  rcases h with ⟨_, h0⟩ | ⟨g, cap, cur, rfl, hb, hg, hn, hc, hs, ht⟩
  · omega
  · have hgl := (Array.getElem?_eq_some_iff.1 hg).1
    have hH : Holds (Value.int .i64) W g 0 zs.toArray := holds_of_blockI hg (by rw [Nat.mul_one] at ht; exact ht)
    refine (Tryz.slices_Sort_int g 0 cap zs W hH hgl (by omega)).mono ?_
    rintro e W' ⟨rfl, n, os, rfl⟩
    have hl2 : (zs.mergeSort fun x y => decide (x ≤ y)).length = zs.length := List.length_mergeSort _
    refine ⟨rfl, _, hl2, ?_, (Below.refl B W).grown (grownBy_sortedI _) hB (fun k hk => by obtain rfl := Option.some.inj hk; exact hb)⟩
    have q := ownsRow_sortedI (base := B) (n := n) (os := os) (ts := zs.mergeSort fun x y => decide (x ≤ y)) (ss := zs) hl2 hb hg hn hc hs
    rw [hl2]
    exact q

theorem own_ne {W : World} {B n g : Nat} {v : Value} {xs : List Value} {x : Fd} (h : W.ownsRow B 3 1 v n xs) (hk : Fb W g x) : some g ≠ v.ownBlock := by
  rcases h.2 with ⟨rfl, _⟩ | ⟨g', cap, cur, rfl, _, hg, _⟩
  · simp [Value.ownBlock]
  · intro e
    obtain rfl : g = g' := by simpa [Value.ownBlock] using e
    have := hk.symm.trans hg
    simp at this
theorem own_cellI {W : World} {B n c : Nat} {a : Option Addr} {e : TypeId} {xs : List Value} (h : W.ownsRow B e 1 (.slice a n c) n xs) (hn : 0 < n) : ∃ g, a = some ⟨g, 0, none⟩ ∧ B ≤ g ∧ n ≤ c ∧ ∀ j v, xs[j]? = some v → W.cell? ⟨g, j, none⟩ = some v := by
  obtain ⟨hl, h⟩ := h
  rcases h with ⟨hv, h0⟩ | ⟨g, cap, cur, hv, hb, hc, hcap, _, hs, ht⟩
  · omega
  · obtain ⟨rfl, _, rfl⟩ : a = some ⟨g, 0, none⟩ ∧ n = n ∧ c = cap := by simpa using hv
    refine ⟨g, rfl, hb, hcap, fun j v hj => ?_⟩
    refine cell_h hc ?_
    rw [← ht] at hj
    rw [List.getElem?_take] at hj
    split at hj
    · simpa using hj
    · exact absurd hj (by simp)
theorem irw_get {L : List Int} {j : Nat} (h : j < L.length) : (irw L)[j]? = some (.int .i64 (L.getD j 0)) := by
  simp [irw, List.getElem?_map, List.getElem?_eq_getElem h, List.getD_eq_getElem?_getD]
set_option maxRecDepth 100000 in
set_option maxHeartbeats 16000000 in
theorem distances_of (w : World) (a b' : Option Addr) (n m ca cb : Nat) (f h : Nat → Int) (hn0 : 0 < n) (hm0 : 0 < m) (hn : n ≤ 24) (hm : m ≤ 24) (hSa : Sl w 6 a n f) (hSb : Sl w 6 b' m h) (hfa : allOk n f) (hfb : allOk m h) :
    Calls Tryz.prog 29 #[.slice a n ca, .slice b' m cb] w fun e W => (∃ r : Bool, e = .returned (.bool r)) ∧ Below w.heap.size w W := by
  have HSa := Lib.hid hSa
  have HSb := Lib.hid hSb
  have HFa := Lib.hid hfa
  have HFb := Lib.hid hfb
  clear hSa hSb hfa hfb
  obtain ⟨i0, hi0, hz0, hz1, hz2⟩ := info_parts x_int
  go_enter Tryz.func29, Tryz.ntmps29
  go_wp2_with fail
  go_loopw [5, 7, 9, 13] (fun v5 v7 v9 v13 wr => ∃ i : Nat, i ≤ n ∧ v13 = .int .i64 (i : Int) ∧ Hid (∃ zs : List Int, zs.length = i * m ∧ wr.ownsRow w.heap.size 3 1 v5 zs.length (irw zs)) ∧ Hid (Below w.heap.size w wr)) (fun _ _ _ v13 _ => n - (intOf v13).toNat)
  case atStart => exact ⟨0, by omega, rfl, Lib.hid ⟨[], by simp, World.ownsRow_nil _ _ _ _⟩, Lib.hid (Below.refl _ _)⟩
  case round =>
    obtain ⟨i, hi, rfl, HZ, HB⟩ := hrel
    by_cases hlt : i < n
    · have hin : (i : Int) < (n : Int) := by omega
      have hwi : IntKind.i64.wrap ((i : Int) + 1) = (i : Int) + 1 := IntWalk.i64_in _ (by omega)
      obtain ⟨b, o, rfl, hI⟩ := HSa.out (by omega)
      have hokx := HFa.out i hlt
      obtain ⟨d0, d1, d2, d3, d4, d5⟩ := Fd.get (hI.keep HB.out (hI.lt (by omega))) hlt
      clear hI
      obtain ⟨x, hx⟩ : ∃ x, Fd.at f i = x := ⟨_, rfl⟩
      rw [hx] at hokx d0 d1 d2 d3 d4 d5
      have HX := Lib.hid hokx
      clear hokx hx
      go_upto_region 5 with fail
      have k1 : Fb (wr.alloc (.cells #[.int .i64 x.a, .int .i64 x.c, .int .i64 x.l, .int .i64 x.w, .int .i64 x.lo, .int .i64 x.hi] 112)) wr.heap.size x := new_heap _ _
      have HB1 := Lib.hid (HB.out.alloc HB.out.size (.cells #[.int .i64 x.a, .int .i64 x.c, .int .i64 x.l, .int .i64 x.w, .int .i64 x.lo, .int .i64 x.hi] 112))
      obtain ⟨zs0, hz0l, hz0o⟩ := HZ.out
      have HZ1 := Lib.hid (hz0o.alloc (.cells #[.int .i64 x.a, .int .i64 x.c, .int .i64 x.l, .int .i64 x.w, .int .i64 x.lo, .int .i64 x.hi] 112))
      clear hz0o
      have hg0 : w.heap.size ≤ wr.heap.size := HB.out.size
      generalize wr.alloc (.cells #[.int .i64 x.a, .int .i64 x.c, .int .i64 x.l, .int .i64 x.w, .int .i64 x.lo, .int .i64 x.hi] 112) = W1 at k1 HB1 HZ1 ⊢
      obtain ⟨g7, hg⟩ : ∃ g7, wr.heap.size = g7 := ⟨_, rfl⟩
      rw [hg] at k1 hg0 ⊢
      have K1 := Lib.hid k1
      clear k1 hg d0 d1 d2 d3 d4 d5 HZ HB
      go_wp2_with fail
      go_loopw [5, 9, 19] (fun v5 v9 v19 wr' => ∃ k : Nat, k ≤ m ∧ v19 = .int .i64 (k : Int) ∧ Hid (∃ zs : List Int, zs.length = i * m + k ∧ wr'.ownsRow w.heap.size 3 1 v5 zs.length (irw zs)) ∧ Hid (Fb wr' g7 x) ∧ Hid (Below w.heap.size w wr')) (fun _ _ v19 _ => m - (intOf v19).toNat)
      case atStart => exact ⟨0, by omega, rfl, Lib.hid ⟨zs0, by rw [hz0l]; rfl, HZ1.out⟩, K1, HB1⟩
      case round =>
        clear HZ1 K1 HB1
        obtain ⟨k, hk, rfl, HZ, K, HB⟩ := hrel
        by_cases hlt2 : k < m
        · have hkm : (k : Int) < (m : Int) := by omega
          have hwi2 : IntKind.i64.wrap ((k : Int) + 1) = (k : Int) + 1 := IntWalk.i64_in _ (by omega)
          obtain ⟨b2, o2, rfl, hI⟩ := HSb.out (by omega)
          have hoky := HFb.out k hlt2
          obtain ⟨d0, d1, d2, d3, d4, d5⟩ := Fd.get (hI.keep HB.out (hI.lt (by omega))) hlt2
          clear hI
          obtain ⟨y, hy⟩ : ∃ y, Fd.at h k = y := ⟨_, rfl⟩
          rw [hy] at hoky d0 d1 d2 d3 d4 d5
          have HY := Lib.hid hoky
          clear hoky hy
          go_upto_region 8 with fail
          have k2 : Fb (wr.alloc (.cells #[.int .i64 y.a, .int .i64 y.c, .int .i64 y.l, .int .i64 y.w, .int .i64 y.lo, .int .i64 y.hi] 112)) wr.heap.size y := new_heap _ _
          have K1 : Hid (Fb (wr.alloc (.cells #[.int .i64 y.a, .int .i64 y.c, .int .i64 y.l, .int .i64 y.w, .int .i64 y.lo, .int .i64 y.hi] 112)) g7 x) := al_old K.out _
          have HB1 := Lib.hid (HB.out.alloc HB.out.size (.cells #[.int .i64 y.a, .int .i64 y.c, .int .i64 y.l, .int .i64 y.w, .int .i64 y.lo, .int .i64 y.hi] 112))
          obtain ⟨zs, hzl, hzo⟩ := HZ.out
          have HZ1 := Lib.hid (hzo.alloc (.cells #[.int .i64 y.a, .int .i64 y.c, .int .i64 y.l, .int .i64 y.w, .int .i64 y.lo, .int .i64 y.hi] 112))
          clear hzo
          generalize wr.alloc (.cells #[.int .i64 y.a, .int .i64 y.c, .int .i64 y.l, .int .i64 y.w, .int .i64 y.lo, .int .i64 y.hi] 112) = W2 at k2 K1 HB1 HZ1 ⊢
          obtain ⟨g9, hg⟩ : ∃ g9, wr.heap.size = g9 := ⟨_, rfl⟩
          rw [hg] at k2 ⊢
          have s0 : W2.cell? ⟨g7, 0, none⟩ = some (.int .i64 x.a) := cell_h (k := 0) K1.out rfl
          have s1 : W2.cell? ⟨g7, 1, none⟩ = some (.int .i64 x.c) := cell_h (k := 1) K1.out rfl
          have s2 : W2.cell? ⟨g7, 2, none⟩ = some (.int .i64 x.l) := cell_h (k := 2) K1.out rfl
          have s3 : W2.cell? ⟨g7, 3, none⟩ = some (.int .i64 x.w) := cell_h (k := 3) K1.out rfl
          have s4 : W2.cell? ⟨g7, 4, none⟩ = some (.int .i64 x.lo) := cell_h (k := 4) K1.out rfl
          have s5 : W2.cell? ⟨g7, 5, none⟩ = some (.int .i64 x.hi) := cell_h (k := 5) K1.out rfl
          have t0 : W2.cell? ⟨g9, 0, none⟩ = some (.int .i64 y.a) := cell_h (k := 0) k2 rfl
          have t1 : W2.cell? ⟨g9, 1, none⟩ = some (.int .i64 y.c) := cell_h (k := 1) k2 rfl
          have t2 : W2.cell? ⟨g9, 2, none⟩ = some (.int .i64 y.l) := cell_h (k := 2) k2 rfl
          have t3 : W2.cell? ⟨g9, 3, none⟩ = some (.int .i64 y.w) := cell_h (k := 3) k2 rfl
          have t4 : W2.cell? ⟨g9, 4, none⟩ = some (.int .i64 y.lo) := cell_h (k := 4) k2 rfl
          have t5 : W2.cell? ⟨g9, 5, none⟩ = some (.int .i64 y.hi) := cell_h (k := 5) k2 rfl
          clear k2 hg d0 d1 d2 d3 d4 d5 HZ HB K
          go_wp2_with fail
          refine (rdist_of _ x y HX.out HY.out).mono ?_
          rintro e V ⟨rfl, hB⟩
          have K3 := Lib.hid (K1.out.keep hB)
          have HZ3 := Lib.hid (own_keep HZ1.out hB)
          have HB3 := Lib.hid (low_trans HB1.out hB)
          clear hB s0 s1 s2 s3 s4 s5 t0 t1 t2 t3 t4 t5 K1 HB1 HZ1
          obtain ⟨q, hq⟩ : ∃ q, dst x y = q := ⟨_, rfl⟩
          rw [hq]
          clear hq
          obtain ⟨ln, hln⟩ : ∃ ln, zs.length = ln := ⟨_, rfl⟩
          have hmul : i * m ≤ 24 * 24 := Nat.mul_le_mul (by omega) (by omega)
          rw [hln] at HZ3 hzl
          have hne := own_ne HZ3.out K3.out
          have h47 := HZ3.out.1
          go_upto_region 9 with (at_builtin; refine wpList_append_own _ rfl _ _ 30 rfl w.heap.size 3 i0 (.int .i64 0) 1 8 Tryz.underlying30 hi0 hz0 hz1 hz2 rfl (by decide) _ ln _ rfl (HZ3.out.alloc _) ⟨_, 0, none⟩ 1 1 [.int .i64 q] rfl rfl (cell_one _ _ _) (by simp [Value.oneCell']) (by unfold maxLen; omega) (by omega) (by simp; have := HB3.out.size; omega) ?_; intro v1 W1' hown1 hgrow1 hnil1; clear hnil1; have hb1 : Below w.heap.size _ W1' := ((Below.refl _ _).alloc (by have := HB3.out.size; omega) _).grown hgrow1 (by simp; have := HB3.out.size; omega) (fun j hj => (HZ3.out.lt j hj).1); have K4 : Hid (Fb W1' g7 x) := Lib.hid ((hgrow1.block g7 (by have := K3.out.lt; simp; omega) hne).trans (al_old K3.out _)); have HZ4 : Hid (∃ us : List Int, us.length = i * m + (k + 1) ∧ W1'.ownsRow w.heap.size 3 1 v1 us.length (irw us)) := Lib.hid ⟨zs ++ [q], by rw [List.length_append, hln, hzl]; rfl, by rw [irw_snoc, List.length_append, hln]; exact hown1⟩; have HB4 := Lib.hid (HB3.out.trans hb1); clear hown1 hgrow1 hb1 HZ3 HB3 K3 h47 hne)
          go_wp2_with fail
          exact ⟨⟨k + 1, by omega, by go_num, HZ4, K4, HB4⟩, by simp [intOf]; omega⟩
        · obtain rfl : k = m := by omega
          obtain ⟨zs, hzl, hzo⟩ := HZ.out
          go_wp2_with fail
          exact ⟨⟨i + 1, by omega, by go_num, Lib.hid ⟨zs, by rw [hzl, Nat.succ_mul], hzo⟩, HB⟩, by simp [intOf]; omega⟩
    · have eN : i = n := by omega
      rw [eN] at HZ
      obtain ⟨zs, hzl, hzo⟩ := HZ.out
      have hin : ¬ (i : Int) < (n : Int) := by omega
      have hmul : n * m ≤ 24 * 24 := Nat.mul_le_mul hn hm
      have hpos : 0 < n * m := Nat.mul_pos hn0 hm0
      obtain ⟨N, hN⟩ : ∃ N, n * m = N := ⟨_, rfl⟩
      rw [hN] at hzl hmul hpos
      have HS := Lib.hid (sort_own _ w.heap.size _ zs HB.out.size hzo (by omega) (by omega))
      rw [hzl] at hzo
      obtain ⟨N', rfl⟩ : ∃ N', N = N' + 1 := ⟨N - 1, by omega⟩
      obtain ⟨g, cap, rfl⟩ := ownsRow_succ hzo
      clear hzo hN HZ
      go_wp2_with fail
      refine HS.out.mono ?_
      rintro e V ⟨rfl, ts, htl, hto, hB⟩
      rw [htl, hzl] at hto
      have HB2 := Lib.hid (HB.out.trans hB)
      obtain ⟨g', hg', _, _, hcell⟩ := own_cellI hto (by omega)
      obtain rfl : g = g' := by simpa using hg'
      have HC : Hid (∀ j, j < N' + 1 → V.cell? ⟨g, j, none⟩ = some (.int .i64 (ts.getD j 0))) := fun j hj => hcell j _ (irw_get (by omega))
      clear hto hcell hg' hB HS HB
      go_wp2_with fail
      have hts : ts.length ≤ 576 := by omega
      have hN9 : N' ≤ 575 := by omega
      go_loopw [10] (fun v10 wr => ∃ t : Nat, t ≤ N' ∧ v10 = .int .i64 ((t : Int) + 1) ∧ Hid (∀ j, j < N' + 1 → wr.cell? ⟨g, j, none⟩ = some (.int .i64 (ts.getD j 0))) ∧ Hid (Below w.heap.size w wr)) (fun v10 _ => N' + 1 - (intOf v10).toNat)
      case atStart => exact ⟨0, by omega, rfl, HC, HB2⟩
      case round =>
        obtain ⟨t, ht, rfl, HK, HB3⟩ := hrel
        by_cases hlt2 : t < N'
        · have ht2 : (t : Int) + 1 < ((N' + 1 : Nat) : Int) := by omega
          have ht3 : (t : Int) < (N' : Int) := by omega
          have hwi : IntKind.i64.wrap ((t : Int) + 1 + 1) = (t : Int) + 1 + 1 := IntWalk.i64_in _ (by omega)
          have hwj : IntKind.i64.wrap ((t : Int) + 1 - 1) = (t : Int) := by rw [Int.add_sub_cancel]; exact IntWalk.i64_in _ (by omega)
          have c0 := HK.out (t + 1) (by omega)
          have c1 := HK.out t (by omega)
          obtain ⟨p, hp⟩ : ∃ p, ts.getD (t + 1) 0 = p := ⟨_, rfl⟩
          obtain ⟨q, hq⟩ : ∃ q, ts.getD t 0 = q := ⟨_, rfl⟩
          rw [hp] at c0
          rw [hq] at c1
          clear hp hq
          go_upto_region 15 with fail
          go_quiet (fail)
          have HBq := Lib.hid (below_drewN HB3.out nq)
          have HKq : Hid (∀ j, j < N' + 1 → (wr.drewN nq).cell? ⟨g, j, none⟩ = some (.int .i64 (ts.getD j 0))) := HK.out
          generalize wr.drewN nq = Wq at HBq HKq ⊢
          clear c0 c1 HK HB3
          by_cases hpq : p = q
          · subst hpq
            go_wp2_with fail
            (try simp only [Exit.inBlock, Exit.then])
            first | go_ret | go_ret2
            exact ⟨⟨_, rfl⟩, HBq.out⟩
          · have hbe : (p == q) = false := by simpa using hpq
            go_wp2_with fail
            exact ⟨⟨t + 1, by omega, by go_num, HKq, HBq⟩, by simp [intOf]; omega⟩
        · obtain rfl : t = N' := by omega
          go_wp2_with fail
          go_ret
          exact ⟨⟨_, rfl⟩, HB3.out⟩
end Go.Proofs.YtmdniebedflpbaaGreatDoor
