/-
  WORDS: a block known whole; make; the bounds turned.
-/
import Derived.Test.YtmdniebedflpbaaDoorPlG
import Derived.OwnWalk
namespace Go.Proofs.YtmdniebedflpbaaDoor
open Go.RowKit

/-- The cells g 0 .. g (n - 1). -/
def vrow (n : Nat) (g : Nat → Value) : Array Value := ((List.range n).map g).toArray
theorem vrow_size (n : Nat) (g : Nat → Value) : (vrow n g).size = n := by simp [vrow]
theorem vrow_get {n k : Nat} (g : Nat → Value) (h : k < n) : (vrow n g)[k]? = some (g k) := by simp [vrow, h]
theorem vrow_congr {n : Nat} {g h : Nat → Value} (e : ∀ i, i < n → g i = h i) : vrow n g = vrow n h := by
  unfold vrow; congr 1; exact List.map_congr_left fun i hi => e i (by simpa using hi)
theorem vrow_set {n k : Nat} (g : Nat → Value) (v : Value) : (vrow n g).setIfInBounds k v = vrow n (turn g k v) := by
  apply Array.ext_getElem?
  intro i
  rw [Array.getElem?_setIfInBounds]
  by_cases hi : i < n
  · by_cases e : k = i
    · subst e; rw [if_pos rfl, if_pos (by rw [vrow_size]; exact hi), vrow_get _ hi, turn_same]
    · rw [if_neg e, vrow_get _ hi, vrow_get _ hi, turn_other _ _ _ (Ne.symm e)]
  · rw [Array.getElem?_eq_none (by rw [vrow_size]; omega), Array.getElem?_eq_none (by rw [vrow_size]; omega)]
    by_cases e : k = i
    · subst e; rw [if_pos rfl, if_neg (by rw [vrow_size]; exact hi)]
    · rw [if_neg e]

/-- Block b, of type t, holds n cells: g 0 .. g (n - 1). -/
def Blk (w : World) (b : Nat) (t : TypeId) (n : Nat) (g : Nat → Value) : Prop := w.heap[b]? = some (.cells (vrow n g) t (0, 0))
theorem Blk.lt {w : World} {b : Nat} {t : TypeId} {n : Nat} {g : Nat → Value} (h : Blk w b t n g) : b < w.heap.size := (Array.getElem?_eq_some_iff.1 h).1
theorem Blk.cell {w : World} {b : Nat} {t : TypeId} {n : Nat} {g : Nat → Value} (h : Blk w b t n g) {k : Nat} (hk : k < n) : w.cell? ⟨b, k, none⟩ = some (g k) := by
  simp only [World.cell?, show w.heap[b]? = _ from h]; exact vrow_get g hk
theorem Blk.fz {w : World} {b : Nat} {t : TypeId} {n : Nat} {g : Nat → Value} (h : Blk w b t n g) (k : Nat) : w.frozen? ⟨b, k, none⟩ = false := by
  simp [World.frozen?, show w.heap[b]? = _ from h]
theorem Blk.set {w : World} {b : Nat} {t : TypeId} {n : Nat} {g : Nat → Value} (h : Blk w b t n g) (k : Nat) (v : Value) : Blk (w.setCell ⟨b, k, none⟩ v) b t n (turn g k v) := by
  unfold Blk
  rw [heap_set h, vrow_set]
theorem Blk.keep {w w' : World} {b : Nat} {t : TypeId} {n : Nat} {g : Nat → Value} (h : Blk w b t n g) {B : Nat} (hb : Below B w w') (hB : b < B) : Blk w' b t n g := (hb.block _ hB).trans h
theorem Blk.congr {w : World} {b : Nat} {t : TypeId} {n : Nat} {g g' : Nat → Value} (h : Blk w b t n g) (e : ∀ i, i < n → g i = g' i) : Blk w b t n g' := by
  unfold Blk at *; rw [h, vrow_congr e]
theorem Blk.new (w : World) (t : TypeId) (n : Nat) (g : Nat → Value) : Blk (w.alloc (.cells (vrow n g) t)) w.heap.size t n g := World.alloc_heap_new w _
theorem Blk.alloc {w : World} {b : Nat} {t : TypeId} {n : Nat} {g : Nat → Value} (h : Blk w b t n g) (o : Obj) : Blk (w.alloc o) b t n g := (Below.heap_alloc w o b h.lt).trans h
theorem Blk.ints {w : World} {b : Nat} {t : TypeId} {n : Nat} {f : Nat → Int} (h : Blk w b t n (fun i => .int .i64 (f i))) : Ints w b 0 n f := fun i hi => by rw [Nat.zero_add]; exact h.cell hi

/-- The cells of zero values, one behind the other. -/
def zc (z : Value) (s i : Nat) : Value := z.cells[i % s]!
/-- 'make([]T, n)'. -/
theorem wp_makeB (w : World) {ops : Array Oper} {rest : List Oper} {o : Oper} {a : Act} {Q : Exit → Act → World → Prop}
    (hg : o.guard = none) (l c : Operand) (t e : TypeId) (hop : o.op = Op.makeSlice t l c) (hu : Tryd.prog.underlying t = some (.slice e)) {z : Value} {size bytes : Nat} (hin : (Tryd.prog.info? e).map (fun i => (i.zero, i.size, i.bytes)) = some (some z, size, bytes)) (hzs : z.cells.size = size) (_hz0 : 0 < size)
    (L C : Int) (n : Nat) (hl : a.eval l = .int .i64 L) (hc : a.eval c = .int .i64 C) (hL : L = (n : Int)) (hC : C = (n : Int)) (hn : n ≤ 1000000) (hby : bytes ≤ 1000)
    (hK : wpList Tryd.prog ops Q rest (a.put o.dst (.slice (some ⟨w.heap.size, 0, none⟩) n n)) (w.alloc (.cells (vrow (n * size) (zc z size)) e))) :
    wpList Tryd.prog ops Q (o :: rest) a w := by
  obtain ⟨i, hi, g0, g1, g2⟩ := info_parts hin
  refine wpList_plain hg fun K hK' => ?_
  have hb : (i.bytes : Int) * (n : Int) ≤ 281474976710656 := by
    have h : i.bytes * n ≤ 1000 * 1000000 := Nat.mul_le_mul (by omega) hn
    have h2 : ((i.bytes * n : Nat) : Int) ≤ 281474976710656 := by omega
    rwa [Int.natCast_mul] at h2
  have hr := run_make (P := Tryd.prog) w t e i z hu hi g0 .i64 .i64 n n (by omega) (Int.le_refl _) hb (by omega)
  simp only [Int.toNat_natCast, g1] at hr
  have hm : madeCells z.cells (n * size) = vrow (n * size) (zc z size) := by
    apply Array.ext_getElem?
    intro j
    by_cases hj : j < n * size
    · rw [vrow_get _ hj]; simp [madeCells, hj, hzs, zc]
    · rw [Array.getElem?_eq_none (by rw [size_madeCells]; omega), Array.getElem?_eq_none (by rw [vrow_size]; omega)]
  rw [hm] at hr
  subst hL
  subst hC
  unfold Oper.wp
  simp only [execOp, hop, hl, hc, Sem.run_bind, hr, Result.andThen_ok, Sem.run_pure]
  exact hK' _ _ hK

/-- The bounds turned, as ints. -/
def tF (f : Nat → Int) (i : Nat) : Int := if i % 3 = 0 then f (i + 1) else if i % 3 = 1 then f (i - 1) else f i
theorem tF_0 (f : Nat → Int) (i : Nat) : tF f (i * 3) = f (i * 3 + 1) := by unfold tF; rw [if_pos (by omega)]
theorem tF_1 (f : Nat → Int) (i : Nat) : tF f (i * 3 + 1) = f (i * 3) := by unfold tF; rw [if_neg (by omega), if_pos (by omega), Nat.add_sub_cancel]
theorem tF_2 (f : Nat → Int) (i : Nat) : tF f (i * 3 + 2) = f (i * 3 + 2) := by unfold tF; rw [if_neg (by omega), if_neg (by omega)]
theorem tF_ok {E n : Nat} {f : Nat → Int} (h : BOk E n f) : BOk E n (tF f) := ⟨h.1, fun i hi => by
  have := h.2 i hi
  rw [tF_0, tF_1, tF_2]
  exact ⟨this.2.1, this.1, this.2.2⟩⟩
/-- The row that is filled, k bounds behind its start. -/
def tG (f : Nat → Int) (k : Nat) (i : Nat) : Value := if i < k * 3 then .int .i64 (tF f i) else .int .i64 0
theorem tG_step (f : Nat → Int) (k : Nat) (i : Nat) : turn (turn (turn (tG f k) (k * 3) (.int .i64 (f (k * 3 + 1)))) (k * 3 + 1) (.int .i64 (f (k * 3)))) (k * 3 + 2) (.int .i64 (f (k * 3 + 2))) i = tG f (k + 1) i := by
  unfold turn tG
  by_cases e2 : i = k * 3 + 2
  · subst e2; rw [if_pos rfl, if_pos (by omega), tF_2]
  · by_cases e1 : i = k * 3 + 1
    · subst e1; rw [if_neg (by omega), if_pos rfl, if_pos (by omega), tF_1]
    · by_cases e0 : i = k * 3
      · subst e0; rw [if_neg (by omega), if_neg (by omega), if_pos rfl, if_pos (by omega), tF_0]
      · rw [if_neg e2, if_neg e1, if_neg e0]
        by_cases h : i < k * 3
        · rw [if_pos h, if_pos (by omega)]
        · rw [if_neg h, if_neg (by omega)]

theorem x_bound : (Tryd.prog.info? 62).map (fun i => (i.zero, i.size, i.bytes)) = some (some (.agg #[.int .i64 0, .int .i64 0, .int .i64 0]), 3, 24) := by kernel_rfl

set_option maxRecDepth 100000 in
set_option maxHeartbeats 4000000 in
theorem turned_of (w : World) (f : Nat → Int) (len c : Nat) (a : Option Addr) (hl : len ≤ 256) (hS : Sl w 3 a len f) :
    Calls Tryd.prog 25 #[.slice a len c] w fun e W' =>
      e = .returned (.slice (some ⟨w.heap.size, 0, none⟩) len len) ∧ Ints W' w.heap.size 0 (len * 3) (tF f) ∧ Below w.heap.size w W' := by
  have HS := Lib.hid hS
  clear hS
  go_enter Tryd.func25, Tryd.ntmps25
  go_wp2_with (at_make; refine wp_makeB _ rfl _ _ 34 62 rfl Tryd.underlying34 x_bound rfl (by decide) _ _ len rfl rfl rfl rfl (by omega) (by decide) ?_)
  obtain ⟨W, hW⟩ : ∃ W, w.alloc (.cells (vrow (len * 3) (zc (.agg #[.int .i64 0, .int .i64 0, .int .i64 0]) 3)) 62) = W := ⟨_, rfl⟩
  have hB : Below w.heap.size w W := by rw [← hW]; exact (Below.refl _ w).alloc (Nat.le_refl _) _
  have hK : Blk W w.heap.size 62 (len * 3) (tG f 0) := by
    rw [← hW]
    refine (Blk.new w _ _ _).congr fun i _ => ?_
    unfold tG zc
    rw [if_neg (by omega)]
    have : i % 3 = 0 ∨ i % 3 = 1 ∨ i % 3 = 2 := by omega
    rcases this with h | h | h <;> rw [h] <;> rfl
  rw [hW]
  clear hW
  go_loopw [11] (fun i wr => ∃ k : Nat, k ≤ len ∧ i = .int .i64 k ∧ Hid (Blk wr w.heap.size 62 (len * 3) (tG f k)) ∧ Hid (Below w.heap.size w wr)) (fun i _ => len - (intOf i).toNat)
  case atStart => exact ⟨0, by omega, rfl, hK, hB⟩
  case round =>
    obtain ⟨k, hk, rfl, HK, HB⟩ := hrel
    clear hK hB
    by_cases hlt : k < len
    · obtain ⟨b, o, rfl, hI⟩ := HS.out (by omega)
      have hI2 := hI.keep HB.out (hI.lt (by omega))
      have d0 := hI2 (k * 3) (by omega)
      have d1 := hI2.at (k * 3) 1 (by omega)
      have d2 := hI2.at (k * 3) 2 (by omega)
      have g0 := HK.out.cell (k := k * 3) (by omega)
      have g1 := HK.out.cell (k := k * 3 + 1) (by omega)
      have g2 := HK.out.cell (k := k * 3 + 2) (by omega)
      have z0 := HK.out.fz (k * 3)
      have z1 := HK.out.fz (k * 3 + 1)
      have z2 := HK.out.fz (k * 3 + 2)
      have hbs := HK.out.lt
      clear hI hI2
      go_wp2
      have hb3 := ((HB.out.setCell (p := ⟨w.heap.size, k * 3, none⟩) (Nat.le_refl _) (.int .i64 (f (k * 3 + 1)))).setCell (p := ⟨w.heap.size, k * 3 + 1, none⟩) (Nat.le_refl _) (.int .i64 (f (k * 3)))).setCell (p := ⟨w.heap.size, k * 3 + 2, none⟩) (Nat.le_refl _) (.int .i64 (f (k * 3 + 2)))
      exact ⟨⟨k + 1, by omega, by go_num, ((((HK.out.set _ _).set _ _).set _ _).congr (fun i _ => tG_step f k i)).alloc _, hb3.alloc hb3.size _⟩, by simp [intOf]; omega⟩
    · obtain rfl : k = len := by omega
      go_wp2
      go_ret
      refine ⟨rfl, (HK.out.congr (g' := fun i => .int .i64 (tF f i)) fun i hi => ?_).ints, HB.out⟩
      unfold tG; rw [if_pos hi]
end Go.Proofs.YtmdniebedflpbaaDoor
