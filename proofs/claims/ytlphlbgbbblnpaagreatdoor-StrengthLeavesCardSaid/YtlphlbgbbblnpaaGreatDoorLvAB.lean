/-
  WALKS AND WORDS: PlV LvA LvB of my texts, one behind the other.
-/
import Derived.Test.YtlphlbgbbblnpaaGreatDoorPlR
import Derived.Test.YtlphlbgbbblnpaaGreatDoorPlCJ
import Derived.Test.YtlphlbgbbblnpaaGreatDoorPmAF
import Derived.Test.YtlphlbgbbblnpaaGreatDoorStWM
import Derived.Test.YtlphlbgbbblnpaaGreatDoorStL
import Derived.Laws.AppendOwn
import Derived.Test.YtlphlbgbbblnpaaGreatDoorSpE
import Derived.Test.YtlphlbgbbblnpaaGreatDoorStIK
import Derived.Test.YtlphlbgbbblnpaaGreatDoorShW
-- PlV: REGIONS whose operations are guarded: one that is wanted, one that is not.
namespace Go.Proofs.YtlphlbgbbblnpaaGreatDoor
open Go.RowKit Go.Shelf

attribute [local go_sem] Oper.semAt_some

section
variable {F : Fence} {n : Nat} {P : Program} {ops : Array Oper} {Q : Exit → Act → World → Prop} {md : Region.Mode} {S : World → Prop}
/-- One that is wanted. -/
theorem anyI_tkG (hF : ∀ f, F.fn f) (i d : Nat) {oi : Oper} {v : Value} {fuel : Nat} {listed : Array Bool} {a : Act} {w : World} (hi : ops[i]? = some oi) (hdst : oi.dst = some d)
    (hs : Region.noSelect ops = true) (hd : noDefer ops = true) (hf : Region.free md ops listed i = true) (hr : (Region.ready md ops listed).contains i = true)
    (hQ : ∀ c a w, Q (.panic c) (a.put oi.dst v) w → Q (.panic c) a w) (hS : S w) (hg : Region.wanted oi (yielded ops a.tmps) = true) (hy : ∀ w, S w → (execOp a.eval oi).run P w = .ok (.value v) w)
    (h : anyI F n P md ops Q S fuel (listed.setIfInBounds i true) { tmps := a.tmps.setIfInBounds d v, defers := a.defers } w) : anyI F n P md ops Q S (fuel + 1) listed a w :=
  anyI_take hF i hi hs hd hf hr hQ hS (.inl ⟨hg, hy⟩) (by rw [put_some hdst]; exact h)
/-- One that is not wanted. -/
theorem anyI_tkN (hF : ∀ f, F.fn f) (i d : Nat) {oi : Oper} {fuel : Nat} {listed : Array Bool} {a : Act} {w : World} (hi : ops[i]? = some oi) (hdst : oi.dst = some d)
    (hs : Region.noSelect ops = true) (hd : noDefer ops = true) (hf : Region.free md ops listed i = true) (hr : (Region.ready md ops listed).contains i = true)
    (hQ : ∀ c a w, Q (.panic c) (a.put oi.dst undef) w → Q (.panic c) a w) (hS : S w) (hg : Region.wanted oi (yielded ops a.tmps) = false)
    (h : anyI F n P md ops Q S fuel (listed.setIfInBounds i true) { tmps := a.tmps.setIfInBounds d undef, defers := a.defers } w) : anyI F n P md ops Q S (fuel + 1) listed a w :=
  anyI_take hF i hi hs hd hf hr hQ hS (.inr ⟨hg, rfl⟩) (by rw [put_some hdst]; exact h)
/-- A call that is not wanted, where it alone may come up. -/
theorem anyI_pss (hF : ∀ f, F.fn f) (i d : Nat) {o : Oper} {fuel : Nat} {listed : Array Bool} {a : Act} {w : World} (hi : ops[i]? = some o) (hdst : o.dst = some d) (hr : Region.ready md ops listed = [i])
    (hg : Region.wanted o (yielded ops a.tmps) = false) (hS : S w)
    (h : anyI F n P md ops Q S fuel (listed.setIfInBounds i true) { tmps := a.tmps.setIfInBounds d undef, defers := a.defers } w) : anyI F n P md ops Q S (fuel + 1) listed a w := by
  refine anyI_one i hr ?_
  unfold wpOpIn
  simp only [hi, hg, Bool.false_eq_true, if_false]
  exact ⟨fun f _ => hF f, hS, by rw [put_some hdst]; exact h⟩
end
end Go.Proofs.YtlphlbgbbblnpaaGreatDoor
-- LvA: WORDS: StrengthLeaves: jobs out of bytes; the bound does not rise with crews and days; numbers in a slice of one's own.
namespace Go.Proofs.YtlphlbgbbblnpaaGreatDoor
open Go.RowKit

def lvF (g : Nat → Int) (i : Nat) : Int := if i % 4 = 0 then g i else if i % 4 = 1 then 1 + g i % 9 else if i % 4 = 2 then g i % 20 else g i % 60
theorem lvF_at (g : Nat → Int) (k : Nat) : lvF g (k * 4) = g (k * 4) ∧ lvF g (k * 4 + 1) = 1 + g (k * 4 + 1) % 9 ∧ lvF g (k * 4 + 2) = g (k * 4 + 2) % 20 ∧ lvF g (k * 4 + 3) = g (k * 4 + 3) % 60 := by
  unfold lvF
  refine ⟨?_, ?_, ?_, ?_⟩
  · rw [if_pos (by omega)]
  · rw [if_neg (by omega), if_pos (by omega)]
  · rw [if_neg (by omega), if_neg (by omega), if_pos (by omega)]
  · rw [if_neg (by omega), if_neg (by omega), if_neg (by omega)]
theorem lvF_ok {g : Nat → Int} {n : Nat} {C N : Int} (hn : n ≤ 24) (hC : 1 ≤ C ∧ C ≤ 4) (hN : 0 ≤ N ∧ N ≤ 365) (hg : ∀ i, i < n * 4 → 0 ≤ g i ∧ g i ≤ 255) : jsE (lvF g) n C N = 0 := by
  unfold jsE
  rw [if_neg (by omega), if_pos ⟨hC, hN⟩]
  refine first_zero fun i hi => ?_
  obtain ⟨e0, e1, e2, e3⟩ := lvF_at g i
  have h0 := hg (i * 4) (by omega)
  have h1 := hg (i * 4 + 1) (by omega)
  have h2 := hg (i * 4 + 2) (by omega)
  have h3 := hg (i * 4 + 3) (by omega)
  unfold jbE
  rw [e0, e1, e2, e3, if_pos (by omega)]
/-- The slots of the other plan. -/
def lvS (p : Nat → Int) (C : Int) (i : Nat) : Int := if i % 3 = 0 then p i % 8 else if i % 3 = 1 then p i % C else p i % 40
theorem lvS_at (p : Nat → Int) (C : Int) (k : Nat) : lvS p C (k * 3) = p (k * 3) % 8 ∧ lvS p C (k * 3 + 1) = p (k * 3 + 1) % C ∧ lvS p C (k * 3 + 2) = p (k * 3 + 2) % 40 := by
  unfold lvS
  refine ⟨?_, ?_, ?_⟩
  · rw [if_pos (by omega)]
  · rw [if_neg (by omega), if_pos (by omega)]
  · rw [if_neg (by omega), if_neg (by omega)]
theorem bdI_mono {f : Nat → Int} {n : Nat} {C N C' N' L E : Int} (hC : 0 ≤ C ∧ C ≤ C') (hN : 0 ≤ N ∧ N ≤ N') (hL : 0 ≤ L) : bdI f n C' N' L E ≤ bdI f n C N L E := by
  have h1 : C * N ≤ C' * N' := Int.mul_le_mul hC.2 hN.2 hN.1 (by omega)
  have h2 : C * N * L ≤ C' * N' * L := Int.mul_le_mul_of_nonneg_right h1 hL
  unfold bdI
  omega
theorem new6_math {n f : Int} {m : Nat} {a : Bool} (h : 0 ≤ n ∧ n ≤ 65535) (hc : Dy.Canon a m f (Dy.mk n 0)) : Dy.mk (Dy.sg a m) (f - 6) = Dy.mk (n * 16384) (-20) ∧ m ≤ 65535 ∧ 0 ≤ f ∧ f ≤ 16 := by
  have hv : Dy.mk (Dy.sg a m) (f - 6) = Dy.mk (n * 16384) (-20) := by
    have h1 : Dy.mk (Dy.sg a m) f * Dy.mk 1 (-6) = Dy.mk n 0 * Dy.mk 1 (-6) := by rw [← hc.val]
    rw [Dy.mk_mul, Dy.mk_mul, Int.mul_one, Int.mul_one] at h1
    have h2 := Dy.mk_shift n (-20) 14
    rw [show f - 6 = f + -6 by omega, h1, show n * 16384 = n * 2 ^ 14 from rfl, h2]
    rfl
  obtain ⟨n', rfl⟩ : ∃ k : Nat, n = (k : Int) := ⟨n.toNat, by omega⟩
  by_cases h0 : n' = 0
  · subst h0
    rcases hc with ⟨rfl, rfl, rfl, _⟩ | ⟨ho, hx⟩
    · exact ⟨hv, by omega, by omega, by omega⟩
    · exfalso
      have h9 : Dy.mk ((0 : Nat) : Int) 0 = 0 := rfl
      rw [h9] at hx
      exact Dy.mk_ne_zero (Dy.sg_odd ho) hx.symm
  · obtain ⟨rfl, j, rfl, hD, ho⟩ := odd_split hc h0
    have h1 : m * 1 ≤ m * 2 ^ j := Nat.mul_le_mul_left m (Nat.one_le_two_pow)
    have hj : j ≤ 16 := by
      rcases Nat.lt_or_ge 16 j with h5 | h5
      · exfalso
        have h3 : 2 ^ 17 ≤ 2 ^ j := Nat.pow_le_pow_right (by omega) (by omega)
        have h4 : 1 * 2 ^ j ≤ m * 2 ^ j := Nat.mul_le_mul_right _ (by omega)
        omega
      · exact h5
    exact ⟨hv, by omega, by omega, by omega⟩
set_option maxRecDepth 100000 in
set_option maxHeartbeats 4000000 in
theorem new6_of (w : World) (n : Int) (h : 0 ≤ n ∧ n ≤ 65535) (hT : Dy.Tab w) :
    Calls Tryz.prog 24 #[.int .i64 n, .int .i64 6] w (Dy.Ret2 w fun w' v e => e = .int .i64 0 ∧ Nq w' v (n * 16384)) := by
  have HT := Lib.hid hT
  clear hT
  go_enter Tryz.func24, Tryz.ntmps24
  go_wp2_with fail
  have hB := (Below.refl w.heap.size w).alloc (Nat.le_refl _) (.cells #[.bool false, .slice none 0 0, .int .i64 0] 75)
  have hZ := Zb.new w
  generalize w.alloc (.cells #[.bool false, .slice none 0 0, .int .i64 0] 75) = W at hB hZ ⊢
  refine (Dy.int_nm W n (by unfold Dy.I64; omega) (HT.out.keep hB)).mono ?_
  rintro e V ⟨v, rfl, hv, hb⟩
  obtain ⟨a, p, l, c, f, m, rfl, hn, hc⟩ := id (Dy.Nm.fields hv)
  obtain ⟨hval, hm, hf0, hf1⟩ := new6_math h hc
  have hz := hZ.keep hb
  have hB2 := low_trans hB hb
  have hl2 : w.heap.size < V.heap.size := (Array.getElem?_eq_some_iff.1 (show V.heap[w.heap.size]? = _ from hz)).1
  clear hB hb hZ hv hc
  go_upto_region 4 with fail
  have ha := (Below.refl V.heap.size V).alloc (Nat.le_refl _) (.cells #[.bool a, .slice p l c, .int .i64 f] 75)
  have hN := World.alloc_heap_new V (.cells #[.bool a, .slice p l c, .int .i64 f] 75)
  have HN := Lib.hid (hn.keep ha)
  have HZ := Lib.hid (hz.keep ha)
  have HB := Lib.hid (low_trans hB2 ha)
  clear hz hB2 hn
  generalize V.alloc (.cells #[.bool a, .slice p l c, .int .i64 f] 75) = V2 at *
  generalize V.heap.size = nb at hN hl2 ⊢
  have s0 := cell_h (k := 0) hN rfl
  have s1 := cell_h (k := 1) hN rfl
  have s2 := cell_h (k := 2) hN rfl
  clear hN ha
  go_wp2_with fail
  refine (Dy.build_nm V2 a _ m (f - 6) HN.out (Dy.len_two (A := 63) (by omega) (by decide)) (by omega) (by omega) (HT.out.keep HB.out)).mono ?_
  rintro e V3 ⟨v3, rfl, hv3, hb3⟩
  rw [hval] at hv3
  have HV3 := Lib.hid hv3
  obtain ⟨a3, p3, n3, k3, e3, m3, rfl, _, _⟩ := id (Dy.Nm.fields hv3)
  have hz3 := HZ.out.keep hb3
  have HB3 := Lib.hid (low_trans HB.out hb3)
  have HZ3 := Lib.hid hz3
  have z0 := cell_h (k := 0) (show V3.heap[w.heap.size]? = _ from hz3) rfl
  have z1 := cell_h (k := 1) (show V3.heap[w.heap.size]? = _ from hz3) rfl
  have z2 := cell_h (k := 2) (show V3.heap[w.heap.size]? = _ from hz3) rfl
  have zf := hz3.fr
  clear hb3 hv3 hz3 s0 s1 s2
  go_wp2_with fail
  generalize hW9 : ((V3.setCell ⟨w.heap.size, 0, none⟩ (.bool a3)).setCell ⟨w.heap.size, 1, none⟩ (.slice p3 n3 k3)).setCell ⟨w.heap.size, 2, none⟩ (.int .i64 e3) = W9
  have hS := HZ3.out.store HV3.out
  have hB9 : Below w.heap.size w W9 := by rw [← hW9]; exact Dy.below_set3 HB3.out (Nat.le_refl _)
  rw [hW9] at hS
  have y0 := cell_h (k := 0) hS.1 rfl
  have y1 := cell_h (k := 1) hS.1 rfl
  have y2 := cell_h (k := 2) hS.1 rfl
  exact bodyPost_ret (v := .tuple #[.agg #[.bool a3, .slice p3 n3 k3, .int .i64 e3], .int .i64 0]) (by simp [results, Tryz.results24, go_sem, y0, y1, y2]) rfl ⟨_, _, rfl, ⟨rfl, hS.2⟩, hB9⟩

/-- A slice of numbers of one's own: its cells hold no digits. -/
structure NumRow (W : World) (B g n cap : Nat) (f : Nat → Int) : Prop where
  lo : B ≤ g
  fit : n ≤ cap ∧ cap ≤ maxLen
  blk : ∃ cur, W.heap[g]? = some (.cells cur 75 (0, 0)) ∧ cur.size = cap * 3 ∧ ∀ u : Value, u ∈ cur.toList → ∀ x, u ≠ .int .u64 x
  els : ∀ k, k < n → ∃ (a : Bool) (p : Option Addr) (l c : Nat) (e : Int), W.cell? ⟨g, k * 3, none⟩ = some (.bool a) ∧ W.cell? ⟨g, k * 3 + 1, none⟩ = some (.slice p l c) ∧ W.cell? ⟨g, k * 3 + 2, none⟩ = some (.int .i64 e) ∧ Nq W (.agg #[.bool a, .slice p l c, .int .i64 e]) (f k)
theorem NumRow.lt {W : World} {B g n cap : Nat} {f : Nat → Int} (h : NumRow W B g n cap f) : g < W.heap.size := by
  obtain ⟨cur, h1, _⟩ := h.blk
  exact (Array.getElem?_eq_some_iff.1 h1).1
theorem NumRow.keep {W V : World} {B g n cap : Nat} {f : Nat → Int} (h : NumRow W B g n cap f) (hb : Below W.heap.size W V) : NumRow V B g n cap f := by
  have hl := h.lt
  refine ⟨h.lo, h.fit, ?_, fun k hk => ?_⟩
  · obtain ⟨cur, h1, h2⟩ := h.blk
    exact ⟨cur, blk1 h1 hb, h2⟩
  · obtain ⟨a, p, l, c, e, h1, h2, h3, h4⟩ := h.els k hk
    exact ⟨a, p, l, c, e, (hb.cell (p := ⟨g, _, none⟩) hl).trans h1, (hb.cell (p := ⟨g, _, none⟩) hl).trans h2, (hb.cell (p := ⟨g, _, none⟩) hl).trans h3, h4.keep hb⟩
theorem Nm.other {W V : World} {g : Nat} {v : Value} {x : Dyadic} (h : Dy.Nm W v x) (hd : Dy.NoDig W g) (hs : ∀ k, k ≠ g → V.heap[k]? = W.heap[k]?) : Dy.Nm V v x := by
  obtain ⟨neg, lv, e, m, hv, hn, hc⟩ := h
  refine ⟨neg, lv, e, m, hv, ?_, hc⟩
  rcases hn with h | ⟨b, o, n, cap, f, hv, hn, hcap, hr, hs2, hl, hm⟩
  · exact .inl h
  · refine .inr ⟨b, o, n, cap, f, hv, hn, hcap, fun i hi => ?_, hs2, hl, hm⟩
    have h1 := hr i hi
    have hb : b ≠ g := fun e => by subst e; exact hd _ _ h1
    rw [World.cell?_of_block (w := W) (a := ⟨b, o + i, none⟩) (hs b hb)]
    exact h1
theorem NumRow.nodig {W : World} {B g n cap : Nat} {f : Nat → Int} (h : NumRow W B g n cap f) : Dy.NoDig W g := by
  intro o x hc
  obtain ⟨cur, h1, _, h3⟩ := h.blk
  simp only [World.cell?, h1] at hc
  have hc2 : cur.toList[o]? = some (.int .u64 x) := by rw [Array.getElem?_toList]; simpa using hc
  exact h3 _ (List.mem_of_getElem? hc2) x rfl
theorem numrow_of {W W' : World} {B g n cap g' cap' : Nat} {f : Nat → Int} (h : NumRow W B g n cap f) (hg' : B ≤ g') {cur : Array Value} (hcur : W.heap[g]? = some (.cells cur 75 (0, 0))) (hk : ∀ u : Value, u ∈ cur.toList → ∀ x, u ≠ .int .u64 x) (hsz : cur.size = cap * 3)
    {rest : List Value} (hrest : ∀ u : Value, u ∈ rest → ∀ x, u ≠ .int .u64 x) {a : Bool} {p : Option Addr} {l c : Nat} {e L : Int}
    (hW' : W'.heap[g']? = some (.cells (cur.toList.take (n * 3) ++ [Value.bool a, .slice p l c, .int .i64 e] ++ rest).toArray 75 (0, 0))) (hsz' : (cur.toList.take (n * 3) ++ [Value.bool a, .slice p l c, .int .i64 e] ++ rest).length = cap' * 3) (hcap' : n + 1 ≤ cap' ∧ cap' ≤ maxLen)
    (hkeep : ∀ v x, Dy.Nm W v x → Dy.Nm W' v x) (hv : Nq W (.agg #[.bool a, .slice p l c, .int .i64 e]) L) : NumRow W' B g' (n + 1) cap' (fun k => if k = n then L else f k) := by
  have hl : (cur.toList.take (n * 3)).length = n * 3 := by rw [List.length_take, Array.length_toList, hsz]; have := h.fit.1; omega
  have hcell : ∀ i, W'.cell? ⟨g', i, none⟩ = (cur.toList.take (n * 3) ++ [Value.bool a, .slice p l c, .int .i64 e] ++ rest)[i]? := fun i => by
    rw [cell_of_row W' g' i _ _ _ hW']
    simp
  refine ⟨hg', hcap', ⟨_, hW', by simpa using hsz', fun u hu => ?_⟩, fun k hk2 => ?_⟩
  · rw [List.toList_toArray, List.mem_append, List.mem_append] at hu
    rcases hu with (hu | hu) | hu
    · exact hk u (List.mem_of_mem_take hu)
    · intro x hx
      subst hx
      simp at hu
    · exact hrest u hu
  · by_cases e1 : k = n
    · subst e1
      refine ⟨a, p, l, c, e, ?_, ?_, ?_, ?_⟩
      · rw [hcell, List.getElem?_append_left (by simp [hl]), List.getElem?_append_right (by omega), hl, Nat.sub_self]; rfl
      · rw [hcell, List.getElem?_append_left (by simp [hl]), List.getElem?_append_right (by omega), hl, show k * 3 + 1 - k * 3 = 1 by omega]; rfl
      · rw [hcell, List.getElem?_append_left (by simp [hl]), List.getElem?_append_right (by omega), hl, show k * 3 + 2 - k * 3 = 2 by omega]; rfl
      · show Nq W' _ (if k = k then L else f k)
        rw [if_pos rfl]
        exact hkeep _ _ hv
    · obtain ⟨a', p', l', c', e', h1, h2, h3, h4⟩ := h.els k (by omega)
      have hold : ∀ i, i < n * 3 → W'.cell? ⟨g', i, none⟩ = W.cell? ⟨g, i, none⟩ := fun i hi => by
        rw [hcell, cell_of_row W g i _ _ _ hcur, List.append_assoc, List.getElem?_append_left (by omega), List.getElem?_take, if_pos hi, Array.getElem?_toList]
      refine ⟨a', p', l', c', e', (hold _ (by omega)).trans h1, (hold _ (by omega)).trans h2, (hold _ (by omega)).trans h3, ?_⟩
      show Nq W' _ (if k = n then L else f k)
      rw [if_neg e1]
      exact hkeep _ _ h4
theorem x_num : (Tryz.prog.info? 75).map (fun i => (i.zero, i.size, i.bytes)) = some (some (.agg #[.bool false, .slice none 0 0, .int .i64 0]), 3, 40) := by kernel_rfl
theorem numrow_append (W : World) {B g n cap : Nat} {f : Nat → Int} (h : NumRow W B g n cap f) (hn : n ≤ 100) (hB : B ≤ W.heap.size) (s c2 : Nat) (a : Bool) (p : Option Addr) (l c : Nat) (e L : Int)
    (h0 : W.cell? ⟨s, 0, none⟩ = some (.bool a)) (h1 : W.cell? ⟨s, 1, none⟩ = some (.slice p l c)) (h2 : W.cell? ⟨s, 2, none⟩ = some (.int .i64 e)) (hv : Nq W (.agg #[.bool a, .slice p l c, .int .i64 e]) L) (ty : TypeId) :
    ∃ g' cap' W', (Builtin.append_ #[81, 81] ty #[.slice (some ⟨g, 0, none⟩) n cap, .slice (some ⟨s, 0, none⟩) 1 c2]).run Tryz.prog W = .ok (.slice (some ⟨g', 0, none⟩) (n + 1) cap') W' ∧ NumRow W' B g' (n + 1) cap' (fun k => if k = n then L else f k) ∧ W.grownBy W' (some g) ∧ ∀ v x, Dy.Nm W v x → Dy.Nm W' v x := by
  obtain ⟨i0, hi, hz, hsz, hby⟩ := info_parts x_num
  obtain ⟨cur, hcur, hcs, hk⟩ := h.blk
  have hnews : ∀ (j : Nat) (u : Value), [Value.bool a, .slice p l c, .int .i64 e][j]? = some u → W.cell? ((⟨s, 0, none⟩ : Addr).add j) = some u := fun j u hu => by
    match j, hu with
    | 0, hu => rw [show (⟨s, 0, none⟩ : Addr).add 0 = ⟨s, 0, none⟩ by simp [Addr.add], h0]; simpa using hu
    | 1, hu => rw [show (⟨s, 0, none⟩ : Addr).add 1 = ⟨s, 1, none⟩ by simp [Addr.add], h1]; simpa using hu
    | 2, hu => rw [show (⟨s, 0, none⟩ : Addr).add 2 = ⟨s, 2, none⟩ by simp [Addr.add], h2]; simpa using hu
  have hfit := h.fit
  have hmx : maxLen = 9223372036854775807 := rfl
  by_cases hroom : n + 1 ≤ cap
  · have hr := run_append_room (P := Tryz.prog) W 81 ty 75 i0 Tryz.underlying81 hi g n cap cur hcur ⟨s, 0, none⟩ 1 c2 [.bool a, .slice p l c, .int .i64 e] (by rw [hsz]; rfl) hnews (by simp [Value.oneCell']) hroom (by rw [hsz, hcs]; show n * 3 + 3 ≤ cap * 3; omega)
    rw [hsz] at hr
    have hoth : ∀ k, k ≠ g → (W.setRow g (cur.toList.take (n * 3) ++ [Value.bool a, .slice p l c, .int .i64 e] ++ cur.toList.drop (n * 3 + 3)).toArray).heap[k]? = W.heap[k]? := fun k hk => setRow_other W g k _ hk
    have hkeep : ∀ v x, Dy.Nm W v x → Dy.Nm (W.setRow g (cur.toList.take (n * 3) ++ [Value.bool a, .slice p l c, .int .i64 e] ++ cur.toList.drop (n * 3 + 3)).toArray) v x := fun v x hx => Nm.other hx h.nodig hoth
    refine ⟨g, cap, _, hr, numrow_of h h.lo hcur hk hcs (rest := cur.toList.drop (n * 3 + 3)) (fun u hu => hk u (List.mem_of_mem_drop hu)) (setRow_heap W g cur _ _ _ hcur) ?_ ⟨hroom, hfit.2⟩ hkeep hv, ⟨rfl, rfl, rfl, by simp [World.setRow], fun k _ hk => hoth k (fun e => hk (by rw [e]))⟩, hkeep⟩
    simp only [List.length_append, List.length_take, List.length_drop, Array.length_toList, hcs, List.length_cons, List.length_nil]
    omega
  · have holds : ∀ (j : Nat) (u : Value), (cur.toList.take (n * 3))[j]? = some u → W.cell? ((⟨g, 0, none⟩ : Addr).add j) = some u := fun j u hu => by
      have hadd : (⟨g, 0, none⟩ : Addr).add j = ⟨g, j, none⟩ := by unfold Addr.add; split <;> simp_all
      rw [hadd, cell_of_row W g j cur _ _ hcur]
      rw [List.getElem?_take] at hu
      split at hu
      · simpa using hu
      · cases hu
    have hr := run_append_grow (P := Tryz.prog) W 81 ty 75 i0 _ Tryz.underlying81 hi hz ⟨g, 0, none⟩ n cap (cur.toList.take (n * 3)) (by rw [hsz, List.length_take, Array.length_toList, hcs]; omega) holds ⟨s, 0, none⟩ 1 c2 [.bool a, .slice p l c, .int .i64 e] (by rw [hsz]; rfl) hnews (by omega) (by omega) (growslice_fits (by omega) (by rw [hby]; omega))
    have hge := grownCap_ge W (n + 1) cap 75
    have hle := grownCap_le_maxLen W (n + 1) cap 75 (by omega)
    generalize grownCap W (n + 1) cap 75 = cap' at hr hge hle
    have hbl : Below W.heap.size W (W.drew.alloc (.cells ((cur.toList.take (n * 3)).toArray ++ [Value.bool a, .slice p l c, .int .i64 e].toArray ++ Builtin.zeroCells (Value.agg #[.bool false, .slice none 0 0, .int .i64 0]).cells (cap' - (n + 1))) 75)) := ((Below.refl W.heap.size W).drew).alloc (Nat.le_refl _) _
    have hkeep : ∀ v x, Dy.Nm W v x → Dy.Nm _ v x := fun v x hx => Dy.Nm.keep hx hbl
    have hzk : ∀ u : Value, u ∈ (Builtin.zeroCells (Value.agg #[.bool false, .slice none 0 0, .int .i64 0]).cells (cap' - (n + 1))).toList → ∀ x, u ≠ .int .u64 x := fun u hu x hx => by
      subst hx
      unfold Builtin.zeroCells at hu
      rw [Array.toList_map, List.mem_map] at hu
      obtain ⟨i, _, hi2⟩ := hu
      have h3 : (Value.agg #[.bool false, .slice none 0 0, .int .i64 0]).cells.size = 3 := by rfl
      rw [h3] at hi2
      rcases (by omega : i % 3 = 0 ∨ i % 3 = 1 ∨ i % 3 = 2) with h | h | h
      · rw [h, show (Value.agg #[.bool false, .slice none 0 0, .int .i64 0]).cells[0]! = Value.bool false from rfl] at hi2
        cases hi2
      · rw [h, show (Value.agg #[.bool false, .slice none 0 0, .int .i64 0]).cells[1]! = Value.slice none 0 0 from rfl] at hi2
        cases hi2
      · rw [h, show (Value.agg #[.bool false, .slice none 0 0, .int .i64 0]).cells[2]! = Value.int .i64 0 from rfl] at hi2
        cases hi2
    refine ⟨W.heap.size, cap', _, hr, numrow_of h hB hcur hk hcs (rest := (Builtin.zeroCells (Value.agg #[.bool false, .slice none 0 0, .int .i64 0]).cells (cap' - (n + 1))).toList) hzk ?_ ?_ ⟨hge, hle⟩ hkeep hv, ⟨rfl, rfl, rfl, by simp, fun k hk _ => heap_alloc_old W.drew _ hk⟩, hkeep⟩
    · refine (World.alloc_heap_new W.drew _).trans ?_
      exact congrArg (fun z => some (Obj.cells z 75 (0, 0))) (by apply Array.ext'; simp only [Array.toList_append])
    · simp only [List.length_append, List.length_take, Array.length_toList, hcs, List.length_cons, List.length_nil, size_zeroCells]
      have : (Value.agg #[.bool false, .slice none 0 0, .int .i64 0]).cells.size = 3 := by rfl
      rw [this]
      omega
end Go.Proofs.YtlphlbgbbblnpaaGreatDoor
-- LvB: WORDS: StrengthLeaves: what stays; num of the statements; comparisons; appends.
namespace Go.Proofs.YtlphlbgbbblnpaaGreatDoor
open Go.RowKit Go.Shelf

/-- What stays while the calls of StrengthLeaves follow each other. -/
structure LvSt (W w : World) (x : Option Addr) (n : Nat) (f : Nat → Int) : Prop where
  bel : Below W.heap.size W w
  sl : Sl w 4 x n f
theorem LvSt.keep {W w w' : World} {x : Option Addr} {n : Nat} {f : Nat → Int} (h : LvSt W w x n f) (hb : Below w.heap.size w w') : LvSt W w' x n f := ⟨low_trans h.bel hb, h.sl.keep (by decide) hb⟩
set_option maxHeartbeats 1600000 in
theorem knum_of (w : World) (n : Int) (h : Dy.I64 n) (hT : Dy.Tab w) :
    Calls Tryz.prog 27 #[.int .i64 n] w (Dy.Ret w fun w' v => Dy.Nm w' v (Dy.mk n 0)) := by
  have HT := Lib.hid hT
  have HI := Lib.hid h
  clear hT h
  go_enter Tryz.func27, Tryz.ntmps27
  go_wp2_with fail
  refine (Dy.int_nm _ n HI.out (HT.out.keep ((Below.refl _ _).alloc (Nat.le_refl _) _))).mono ?_
  rintro e1 w1 ⟨v1, rfl, hv1, hb1⟩
  have hb0 : Hid (Below w.heap.size w w1) := ((Below.refl _ _).alloc (Nat.le_refl _) _).trans (hb1.mono (by simp))
  obtain ⟨hcc, hff⟩ := Dy.bcell hb1
  have HND : Hid (Dy.NoDig w1 w.heap.size) := (Dy.noDig_at rfl).keep hb1 (by simp)
  have hz : w.heap.size < w1.heap.size := by have := hb1.size; simp at this; omega
  have H4 := Lib.hid hv1
  obtain ⟨a4, p4, n4, k4, e4, m4, rfl, _, _⟩ := hv1.fields
  clear hb1 hv1
  go_wp2
  refine bodyPost_ret (v := .agg #[.bool a4, .slice p4 n4 k4, .int .i64 e4]) (by simp [results, Tryz.results27, go_sem, hcc]) rfl ⟨_, rfl, H4.out.laid HND.out, ?_⟩
  exact ((hb0.out.setCell (by simp) _).setCell (by simp) _).setCell (by simp) _

theorem knum_q (w : World) (n : Int) (h : -1099511627776 < n ∧ n < 1099511627776) (hT : Dy.Tab w) : Calls Tryz.prog 27 #[.int .i64 n] w (Dy.Ret w fun w' v => Nq w' v (n * 1048576)) := by
  have h2 := knum_of w n (by unfold Dy.I64; omega) hT
  rw [mk20] at h2
  exact h2
theorem cmp_le (w : World) (v1 v2 : Value) (x y : Int) (h1 : Nq w v1 x) (h2 : Nq w v2 y) (hx : -1152921504606846976 < x ∧ x < 1152921504606846976) (hy : -1152921504606846976 < y ∧ y < 1152921504606846976) (hle : x ≤ y) (hT : Dy.Tab w) :
    Calls Tryz.prog 26 #[v1, v2] w fun e w' => (∃ s : Int, s ≤ 0 ∧ e = .returned (.int .i64 s)) ∧ Below w.heap.size w w' := by
  refine (Dy.cmp_nm w v1 v2 _ _ 60 20 60 20 h1 h2 (bx20 hx) (bx20 hy) (by omega) hT).mono ?_
  rintro e w' ⟨rfl, hb⟩
  refine ⟨⟨_, ?_, rfl⟩, hb⟩
  rw [mk_sub]
  have := (sgn_mkE (x - y) (-20)).2
  omega
theorem exec_append {P : Program} {o : Oper} {a : Act} {W W' : World} {v u v' : Value} (s x : Operand) (t : TypeId) (ho : o.op = .call { callee := .builtin .append, args := #[s, x], argTypes := #[t, t] }) (hs : a.eval s = v) (hx : a.eval x = u)
    (hr : (Builtin.append_ #[t, t] o.type #[v, u]).run P W = .ok v' W') : (execOp a.eval o).run P W = .ok (.value v') W' := by
  unfold execOp
  simp only [ho, resolve, invoke, builtin, Sem.run_bind, Sem.run_pure, Result.andThen_ok, List.map_toArray, List.map_cons, List.map_nil, hs, hx, hr]
theorem wpList_numrow {ops : Array Oper} {rest : List Oper} {o : Oper} {a : Act} {Q : Exit → Act → World → Prop} {W : World} (hgd : o.guard = none) (s x : Operand)
    (ho : o.op = .call { callee := .builtin .append, args := #[s, x], argTypes := #[81, 81] }) {B g n cap sb c2 : Nat} {f : Nat → Int} (hs : a.eval s = .slice (some ⟨g, 0, none⟩) n cap) (hx : a.eval x = .slice (some ⟨sb, 0, none⟩) 1 c2)
    (h : NumRow W B g n cap f) (hn : n ≤ 100) (hB : B ≤ W.heap.size) {b : Bool} {p : Option Addr} {l c : Nat} {e L : Int} (h0 : W.cell? ⟨sb, 0, none⟩ = some (.bool b)) (h1 : W.cell? ⟨sb, 1, none⟩ = some (.slice p l c)) (h2 : W.cell? ⟨sb, 2, none⟩ = some (.int .i64 e)) (hv : Nq W (.agg #[.bool b, .slice p l c, .int .i64 e]) L)
    (hk : ∀ g' cap' W', NumRow W' B g' (n + 1) cap' (fun k => if k = n then L else f k) → W.grownBy W' (some g) → wpList Tryz.prog ops Q rest (a.put o.dst (.slice (some ⟨g', 0, none⟩) (n + 1) cap')) W') : wpList Tryz.prog ops Q (o :: rest) a W := by
  refine wpList_plain hgd fun K hK => ?_
  obtain ⟨g', cap', W', hr, h3, h4, _⟩ := numrow_append W h hn hB sb c2 b p l c e L h0 h1 h2 hv o.type
  unfold Oper.wp
  rw [exec_append s x 81 ho hs hx hr]
  exact hK _ _ (hk g' cap' W' h3 h4)
end Go.Proofs.YtlphlbgbbblnpaaGreatDoor
