/-
  WALKS AND WORDS: PlC PlD PlE PlF PlG PlH PlB PlI PlJ of my texts, one behind the other.
-/
import Derived.Test.YtlphlbgbbblnpaaGreatDoorPlR
import Derived.Sort.LoopGhostIn
import Derived.Deep.MidRow
import Derived.OwnWalk
import Derived.Test.YtlphlbgbbblnpaaGreatDoorPlA
import Derived.StillTailTactics
-- PlC: WALKS: the iterator over the bounds that shorten a path.
namespace Go.Proofs.YtlphlbgbbblnpaaGreatDoor
open Go.RowKit Go.Shelf

attribute [local go_sem] Oper.semAt_some

/-- The bound i as a value. -/
def bdV (f : Nat → Int) (i : Nat) : Value := .agg #[.int .i64 (f (i * 3)), .int .i64 (f (i * 3 + 1)), .int .i64 (f (i * 3 + 2))]
theorem three_new (w : World) (x y z : Value) (t : TypeId) : (w.alloc (.cells #[x, y, z] t)).cell? ⟨w.heap.size, 0, none⟩ = some x ∧ (w.alloc (.cells #[x, y, z] t)).cell? ⟨w.heap.size, 1, none⟩ = some y ∧ (w.alloc (.cells #[x, y, z] t)).cell? ⟨w.heap.size, 2, none⟩ = some z := by
  have h := World.alloc_heap_new w (.cells #[x, y, z] t)
  simp only [World.cell?, h]
  exact ⟨rfl, rfl, rfl⟩
theorem grew_drewN (w : World) (n : Nat) : w.grownBy (w.drewN n) none := ⟨rfl, rfl, rfl, Nat.le_refl _, fun _ _ _ => rfl⟩

end Go.Proofs.YtlphlbgbbblnpaaGreatDoor
-- PlD: WORDS: what a search's rounds keep; the marks of loops over functions.
namespace Go.Proofs.YtlphlbgbbblnpaaGreatDoor
open Go.RowKit Go.Shelf

attribute [local go_sem] Oper.semAt_some

/-- Every block below B but X is as it was, and so is the outside. -/
structure BelowX (B X : Nat) (w w' : World) : Prop where
  os : w'.os = w.os
  tape : w'.tape = w.tape
  output : w'.output = w.output
  size : w.heap.size ≤ w'.heap.size
  block : ∀ k, k < B → k ≠ X → w'.heap[k]? = w.heap[k]?
theorem BelowX.refl (B X : Nat) (w : World) : BelowX B X w w := ⟨rfl, rfl, rfl, Nat.le_refl _, fun _ _ _ => rfl⟩
theorem BelowX.trans {B X : Nat} {u v w : World} (h : BelowX B X u v) (k : BelowX B X v w) : BelowX B X u w :=
  ⟨k.os.trans h.os, k.tape.trans h.tape, k.output.trans h.output, Nat.le_trans h.size k.size, fun i hi hx => (k.block i hi hx).trans (h.block i hi hx)⟩
theorem BelowX.of {B X : Nat} {w w' : World} (h : Below B w w') : BelowX B X w w' := ⟨h.os, h.tape, h.output, h.size, fun k hk _ => h.block k hk⟩
theorem BelowX.mono {B C X : Nat} {w w' : World} (h : BelowX B X w w') (hc : C ≤ B) : BelowX C X w w' := ⟨h.os, h.tape, h.output, h.size, fun k hk hx => h.block k (by omega) hx⟩
theorem BelowX.set (B X o : Nat) (w : World) (v : Value) : BelowX B X w (w.setCell ⟨X, o, none⟩ v) :=
  ⟨rfl, rfl, rfl, by simp [World.setCell], fun k _ hk => Below.heap_setCell w ⟨X, o, none⟩ v k hk⟩
theorem BelowX.sl {B X s : Nat} {w w' : World} {a : Option Addr} {n : Nat} {f : Nat → Int} (hb : BelowX B X w w') (hs : 0 < s) (h : Sl w s a n f) (hB : w.heap.size ≤ B) (hX : ∀ b o, 0 < n → a = some ⟨b, o, none⟩ → b ≠ X) : Sl w' s a n f := by
  intro hn
  obtain ⟨b, o, e, hi⟩ := h hn
  have hlt := hi.lt (Nat.mul_pos hn hs)
  exact ⟨b, o, e, fun i h => (World.cell?_of_block (a := ⟨b, o + i, none⟩) (hb.block b (by omega) (hX b o hn e))).trans (hi i h)⟩
/-- A store into the box itself changes nothing else. -/
theorem below_of_x {B X : Nat} {w w' : World} (h : BelowX B X w w') (hX : B ≤ X) : Below B w w' := ⟨h.os, h.tape, h.output, h.size, fun k hk => h.block k hk (by omega)⟩

/-- One store into paths. -/
theorem heap_set {w : World} {b k : Nat} {cs : Array Value} {t : TypeId} (h : w.heap[b]? = some (.cells cs t (0, 0))) (v : Value) :
    (w.setCell ⟨b, k, none⟩ v).heap[b]? = some (.cells (cs.setIfInBounds k v) t (0, 0)) := by
  obtain ⟨hlt, hk'⟩ := Array.getElem?_eq_some_iff.1 h
  show (w.heap.modify b _)[b]? = _
  rw [Array.getElem?_eq_getElem (by rw [Array.size_modify]; exact hlt), Array.getElem_modify_self, hk']
  rfl
theorem PtAt.set_kn {w : World} {b : Nat} {t : TypeId} {p : Pt} (h : PtAt w b t p) {k : Nat} (hk : k < 64) (v : Bool) : PtAt (w.setCell ⟨b, k, none⟩ (.bool v)) b t { p with kn := turn p.kn k v } := by
  unfold PtAt
  rw [heap_set h]
  congr 2
  refine Pt.cells_ext (by simp [p.cells_size]) (fun j hj => ?_) (fun j hj => ?_) (fun j hj => ?_)
  · rw [Array.getElem?_setIfInBounds]
    by_cases e : k = j
    · subst e; simp [p.cells_size, turn_same]; omega
    · rw [if_neg e, p.cells_kn hj]; simp [turn, Ne.symm e]
  · rw [Array.getElem?_setIfInBounds, if_neg (by omega), p.cells_mo hj]
  · rw [Array.getElem?_setIfInBounds, if_neg (by omega), p.cells_la hj]
theorem PtAt.set_mo {w : World} {b : Nat} {t : TypeId} {p : Pt} (h : PtAt w b t p) {k : Nat} (hk : k < 64) (v : Int) : PtAt (w.setCell ⟨b, 64 + k, none⟩ (.int .i64 v)) b t { p with mo := turn p.mo k v } := by
  unfold PtAt
  rw [heap_set h]
  congr 2
  refine Pt.cells_ext (by simp [p.cells_size]) (fun j hj => ?_) (fun j hj => ?_) (fun j hj => ?_)
  · rw [Array.getElem?_setIfInBounds, if_neg (by omega), p.cells_kn hj]
  · rw [Array.getElem?_setIfInBounds]
    by_cases e : k = j
    · subst e; simp [p.cells_size, turn_same]; omega
    · rw [if_neg (by omega), p.cells_mo hj]; simp [turn, Ne.symm e]
  · rw [Array.getElem?_setIfInBounds, if_neg (by omega), p.cells_la hj]
theorem PtAt.set_la {w : World} {b : Nat} {t : TypeId} {p : Pt} (h : PtAt w b t p) {k : Nat} (hk : k < 64) (v : Int) : PtAt (w.setCell ⟨b, 128 + k, none⟩ (.int .i64 v)) b t { p with la := turn p.la k v } := by
  unfold PtAt
  rw [heap_set h]
  congr 2
  refine Pt.cells_ext (by simp [p.cells_size]) (fun j hj => ?_) (fun j hj => ?_) (fun j hj => ?_)
  · rw [Array.getElem?_setIfInBounds, if_neg (by omega), p.cells_kn hj]
  · rw [Array.getElem?_setIfInBounds, if_neg (by omega), p.cells_mo hj]
  · rw [Array.getElem?_setIfInBounds]
    by_cases e : k = j
    · subst e; simp [p.cells_size, turn_same]; omega
    · rw [if_neg (by omega), p.cells_la hj]; simp [turn, Ne.symm e]

/-- The marks of loops over functions, among the deferred calls. -/
def mks (rs : List Nat) : List Deferred := rs.map fun r => { target := .collected r, args := #[] }
/-- Each mark's block is there, from B on. -/
def MkAt (B : Nat) (rs : List Nat) (w : World) : Prop := rs.Nodup ∧ ∀ r, r ∈ rs → B ≤ r ∧ r < w.heap.size ∧ w.heap[r]? = some (.deferred (some []))
theorem leaves_mks {F : Fence} {n : Nat} {P : Program} {fn : Func} {tmps : Array Value} {R : Ending → World → Prop} {B : Nat} : ∀ (rs : List Nat) (w : World), MkAt B rs w →
    (∀ w', Below B w w' → LeavesInM F n P fn tmps R [] .returning w') → LeavesInM F n P fn tmps R (mks rs) .returning w
  | [], w, _, h => h w (Below.refl _ _)
  | r :: rs, w, hm, h => by
    obtain ⟨hn, ha⟩ := hm
    obtain ⟨hnr, hn2⟩ := List.nodup_cons.1 hn
    obtain ⟨h1, h2, h3⟩ := ha r (by simp)
    refine ⟨by simp, .inl ⟨r, _, rfl, run_takeDeferred h3, ?_⟩⟩
    have hb : Below B w (w.putObj r (.deferred none)) := ⟨rfl, rfl, rfl, by simp, fun k hk => World.putObj_heap_other (by omega)⟩
    refine leaves_mks rs _ ⟨hn2, fun q hq => ?_⟩ (fun w' hw' => h w' (hb.trans hw'))
    obtain ⟨g1, g2, g3⟩ := ha q (by simp [hq])
    exact ⟨g1, by simpa using g2, (World.putObj_heap_other (by rintro rfl; exact hnr hq)).trans g3⟩

/-- What speaks of the blocks below B alone is its owner's from B on. -/
theorem ownFrom_low {β : Type} {B : Nat} {I : β → World → Prop} (hs : ∀ s W, I s W → B ≤ W.heap.size) (h : ∀ s W W', I s W → Below B W W' → I s W') : OwnFrom B I := fun s W W' row hi hg hr =>
  h s W W' hi ⟨hg.os, hg.tape, hg.output, hg.size, fun k hk => hg.block k (Nat.lt_of_lt_of_le hk (hs s W hi)) (fun e => by have := (hr k e.symm).1; omega)⟩

end Go.Proofs.YtlphlbgbbblnpaaGreatDoor
-- PlE: WALKS: one bound shortens a path (a region that draws its order, within a round).
namespace Go.Proofs.YtlphlbgbbblnpaaGreatDoor
open Go.RowKit Go.Shelf

attribute [local go_sem] Oper.semAt_some

/-- What stands while a bound is taken: the two boxes that are read. -/
structure Two (W : World) (B3 bp Bx : Nat) (F T : Nat) (M : Int) : Prop where
  b3 : W.cell? ⟨B3, 0, none⟩ = some (.pointer (some ⟨bp, 0, none⟩))
  c0 : W.cell? ⟨Bx, 0, none⟩ = some (.int .i64 (F : Int))
  c1 : W.cell? ⟨Bx, 1, none⟩ = some (.int .i64 (T : Int))
  c2 : W.cell? ⟨Bx, 2, none⟩ = some (.int .i64 M)
theorem Two.set {W : World} {B3 bp Bx F T : Nat} {M : Int} (h : Two W B3 bp Bx F T M) (h3 : B3 ≠ bp) (hx : Bx ≠ bp) (o : Nat) (v : Value) : Two (W.setCell ⟨bp, o, none⟩ v) B3 bp Bx F T M := by
  have hk : ∀ b q, b ≠ bp → (W.setCell ⟨bp, o, none⟩ v).cell? ⟨b, q, none⟩ = W.cell? ⟨b, q, none⟩ := fun b q hb =>
    World.cell?_of_block (a := ⟨b, q, none⟩) (by
      have := Below.heap_setCell W ⟨bp, o, none⟩ v b hb
      exact this)
  exact ⟨(hk _ _ h3).trans h.b3, (hk _ _ hx).trans h.c0, (hk _ _ hx).trans h.c1, (hk _ _ hx).trans h.c2⟩
theorem PtAt.fz {w : World} {b : Nat} {t : TypeId} {p : Pt} (h : PtAt w b t p) (k : Nat) : w.frozen? ⟨b, k, none⟩ = false := by simp [World.frozen?, show w.heap[b]? = _ from h]

section
variable {F : Fence} {n : Nat} {P : Program} {ops : Array Oper} {Q : Exit → Act → World → Prop} {md : Region.Mode} {S : World → Prop}
theorem put_some {a : Act} {d : Nat} {v : Value} {o : Option Tmp} (h : o = some d) : a.put o v = { tmps := a.tmps.setIfInBounds d v, defers := a.defers } := by subst h; rfl
theorem put_none {a : Act} {v : Value} {o : Option Tmp} (h : o = none) : a.put o v = a := by subst h; rfl
/-- anyI_take where the place is told. -/
theorem anyI_takeD (hF : ∀ f, F.fn f) (i d : Nat) {oi : Oper} {v : Value} {fuel : Nat} {listed : Array Bool} {a : Act} {w : World} (hi : ops[i]? = some oi) (hdst : oi.dst = some d)
    (hs : Region.noSelect ops = true) (hd : noDefer ops = true) (hf : Region.free md ops listed i = true) (hr : (Region.ready md ops listed).contains i = true)
    (hQ : ∀ c a w, Q (.panic c) (a.put oi.dst v) w → Q (.panic c) a w) (hS : S w) (hg : oi.guard = none) (hy : ∀ w, S w → (execOp a.eval oi).run P w = .ok (.value v) w)
    (h : anyI F n P md ops Q S fuel (listed.setIfInBounds i true) { tmps := a.tmps.setIfInBounds d v, defers := a.defers } w) : anyI F n P md ops Q S (fuel + 1) listed a w :=
  anyI_take hF i hi hs hd hf hr hQ hS (.inl ⟨by simp [Region.wanted, hg], hy⟩) (by rw [put_some hdst]; exact h)
theorem anyI_valueD (hF : ∀ f, F.fn f) (i d : Nat) {o : Oper} {v : Value} {fuel : Nat} {listed : Array Bool} {a : Act} {w w2 : World} (hi : ops[i]? = some o) (hdst : o.dst = some d) (hd : noDefer ops = true) (hr : Region.ready md ops listed = [i])
    (hg : o.guard = none) (hv : (execOp a.eval o).run P w = .ok (.value v) w2) (hS : S w2)
    (h : anyI F n P md ops Q S fuel (listed.setIfInBounds i true) { tmps := a.tmps.setIfInBounds d v, defers := a.defers } w2) : anyI F n P md ops Q S (fuel + 1) listed a w :=
  anyI_value hF i hi hd hr (by simp [Region.wanted, hg]) hv hS (by rw [put_some hdst]; exact h)
theorem anyI_skipN (hF : ∀ f, F.fn f) (i : Nat) {o : Oper} {fuel : Nat} {listed : Array Bool} {a : Act} {w w2 : World} (hi : ops[i]? = some o) (hdst : o.dst = none) (hd : noDefer ops = true) (hr : Region.ready md ops listed = [i])
    (hg : o.guard = none) (hv : (execOp a.eval o).run P w = .ok .skip w2) (hS : S w2)
    (h : anyI F n P md ops Q S fuel (listed.setIfInBounds i true) a w2) : anyI F n P md ops Q S (fuel + 1) listed a w :=
  anyI_skip hF i hi hd hr (by simp [Region.wanted, hg]) hv hS (by rw [put_none hdst]; exact h)
end
end Go.Proofs.YtlphlbgbbblnpaaGreatDoor
-- PlF: WALKS: relax.
namespace Go.Proofs.YtlphlbgbbblnpaaGreatDoor
open Go.RowKit Go.Shelf

attribute [local go_sem] Oper.semAt_some

end Go.Proofs.YtlphlbgbbblnpaaGreatDoor
-- PlG: WALKS: paths by value; fromStart; the bounds turned.
namespace Go.Proofs.YtlphlbgbbblnpaaGreatDoor
open Go.RowKit

def Pt.none : Pt := ⟨fun _ => false, fun _ => 0, fun _ => 0⟩
theorem PtAt.row {w : World} {b : Nat} {t : TypeId} {p : Pt} (h : PtAt w b t p) (q : Pt) : PtAt (w.setRow b q.cells) b t q := setRow_heap w b _ _ _ _ h
theorem PtAt.new (w : World) (t : TypeId) (p : Pt) : PtAt (w.alloc (.cells p.cells t)) w.heap.size t p := World.alloc_heap_new w _
theorem below_setRow {B b : Nat} (w : World) (cs : Array Value) (h : B ≤ b) : Below B w (w.setRow b cs) := ⟨rfl, rfl, rfl, by simp, fun k hk => setRow_other w b k cs (by omega)⟩

theorem results_cell {P : Program} {fn : Func} {s : Tmp} {ty : TypeId} {ad : Addr} {v : Value} {w : World} (h : fn.results = #[.cell s ty]) (tmps : Array Value) (ht : tmps.getD s undef = .pointer (some ad)) (hl : (loadVar ty ad).run P w = .ok v w) :
    (results fn tmps).run P w = .ok v w := by
  have ht' : tmps[s]?.getD undef = .pointer (some ad) := by simpa using ht
  simp [results, h, ht', asAddr, hl]

/-- The paths at the start: the event 0 alone. -/
def Pt.start : Pt := ⟨turn (fun _ => false) 0 true, fun _ => 0, turn (fun _ => 0) 0 (-1)⟩

end Go.Proofs.YtlphlbgbbblnpaaGreatDoor
-- PlH: WORDS: a block known whole; make; the bounds turned.
namespace Go.Proofs.YtlphlbgbbblnpaaGreatDoor
open Go.RowKit

/-- The cells g 0 .. g (n - 1). -/
def vrow (n : Nat) (g : Nat → Value) : Array Value := ((List.range n).map g).toArray
theorem vrow_size (n : Nat) (g : Nat → Value) : (vrow n g).size = n := by simp [vrow]
theorem vrow_get {n k : Nat} (g : Nat → Value) (h : k < n) : (vrow n g)[k]? = some (g k) := by simp [vrow, h]
theorem vrow_congr {n : Nat} {g h : Nat → Value} (e : ∀ i, i < n → g i = h i) : vrow n g = vrow n h := by
  unfold vrow; congr 1; exact List.map_congr_left fun i hi => e i (by simpa using hi)
theorem vrow_set {n k : Nat} (g : Nat → Value) (v : Value) : (vrow n g).setIfInBounds k v = vrow n (turn g k v) := by
  apply Array.ext_getElem?
  intro i
  rw [Array.getElem?_setIfInBounds]
  by_cases hi : i < n
  · by_cases e : k = i
    · subst e; rw [if_pos rfl, if_pos (by rw [vrow_size]; exact hi), vrow_get _ hi, turn_same]
    · rw [if_neg e, vrow_get _ hi, vrow_get _ hi, turn_other _ _ _ (Ne.symm e)]
  · rw [Array.getElem?_eq_none (by rw [vrow_size]; omega), Array.getElem?_eq_none (by rw [vrow_size]; omega)]
    by_cases e : k = i
    · subst e; rw [if_pos rfl, if_neg (by rw [vrow_size]; exact hi)]
    · rw [if_neg e]

/-- Block b, of type t, holds n cells: g 0 .. g (n - 1). -/
def Blk (w : World) (b : Nat) (t : TypeId) (n : Nat) (g : Nat → Value) : Prop := w.heap[b]? = some (.cells (vrow n g) t (0, 0))
theorem Blk.lt {w : World} {b : Nat} {t : TypeId} {n : Nat} {g : Nat → Value} (h : Blk w b t n g) : b < w.heap.size := (Array.getElem?_eq_some_iff.1 h).1
theorem Blk.cell {w : World} {b : Nat} {t : TypeId} {n : Nat} {g : Nat → Value} (h : Blk w b t n g) {k : Nat} (hk : k < n) : w.cell? ⟨b, k, none⟩ = some (g k) := by
  simp only [World.cell?, show w.heap[b]? = _ from h]; exact vrow_get g hk
theorem Blk.fz {w : World} {b : Nat} {t : TypeId} {n : Nat} {g : Nat → Value} (h : Blk w b t n g) (k : Nat) : w.frozen? ⟨b, k, none⟩ = false := by
  simp [World.frozen?, show w.heap[b]? = _ from h]
theorem Blk.set {w : World} {b : Nat} {t : TypeId} {n : Nat} {g : Nat → Value} (h : Blk w b t n g) (k : Nat) (v : Value) : Blk (w.setCell ⟨b, k, none⟩ v) b t n (turn g k v) := by
  unfold Blk
  rw [heap_set h, vrow_set]
theorem Blk.keep {w w' : World} {b : Nat} {t : TypeId} {n : Nat} {g : Nat → Value} (h : Blk w b t n g) {B : Nat} (hb : Below B w w') (hB : b < B) : Blk w' b t n g := (hb.block _ hB).trans h
theorem Blk.congr {w : World} {b : Nat} {t : TypeId} {n : Nat} {g g' : Nat → Value} (h : Blk w b t n g) (e : ∀ i, i < n → g i = g' i) : Blk w b t n g' := by
  unfold Blk at *; rw [h, vrow_congr e]
theorem Blk.new (w : World) (t : TypeId) (n : Nat) (g : Nat → Value) : Blk (w.alloc (.cells (vrow n g) t)) w.heap.size t n g := World.alloc_heap_new w _
theorem Blk.alloc {w : World} {b : Nat} {t : TypeId} {n : Nat} {g : Nat → Value} (h : Blk w b t n g) (o : Obj) : Blk (w.alloc o) b t n g := (Below.heap_alloc w o b h.lt).trans h
theorem Blk.ints {w : World} {b : Nat} {t : TypeId} {n : Nat} {f : Nat → Int} (h : Blk w b t n (fun i => .int .i64 (f i))) : Ints w b 0 n f := fun i hi => by rw [Nat.zero_add]; exact h.cell hi

/-- The cells of zero values, one behind the other. -/
def zc (z : Value) (s i : Nat) : Value := z.cells[i % s]!
/-- 'make([]T, n)'. -/
theorem wp_makeB (w : World) {ops : Array Oper} {rest : List Oper} {o : Oper} {a : Act} {Q : Exit → Act → World → Prop}
    (hg : o.guard = none) (l c : Operand) (t e : TypeId) (hop : o.op = Op.makeSlice t l c) (hu : Tryz.prog.underlying t = some (.slice e)) {z : Value} {size bytes : Nat} (hin : (Tryz.prog.info? e).map (fun i => (i.zero, i.size, i.bytes)) = some (some z, size, bytes)) (hzs : z.cells.size = size) (_hz0 : 0 < size)
    (L C : Int) (n : Nat) (hl : a.eval l = .int .i64 L) (hc : a.eval c = .int .i64 C) (hL : L = (n : Int)) (hC : C = (n : Int)) (hn : n ≤ 1000000) (hby : bytes ≤ 1000)
    (hK : wpList Tryz.prog ops Q rest (a.put o.dst (.slice (some ⟨w.heap.size, 0, none⟩) n n)) (w.alloc (.cells (vrow (n * size) (zc z size)) e))) :
    wpList Tryz.prog ops Q (o :: rest) a w := by
  obtain ⟨i, hi, g0, g1, g2⟩ := info_parts hin
  refine wpList_plain hg fun K hK' => ?_
  have hb : (i.bytes : Int) * (n : Int) ≤ 281474976710656 := by
    have h : i.bytes * n ≤ 1000 * 1000000 := Nat.mul_le_mul (by omega) hn
    have h2 : ((i.bytes * n : Nat) : Int) ≤ 281474976710656 := by omega
    rwa [Int.natCast_mul] at h2
  have hr := run_make (P := Tryz.prog) w t e i z hu hi g0 .i64 .i64 n n (by omega) (Int.le_refl _) hb (by omega)
  simp only [Int.toNat_natCast, g1] at hr
  have hm : madeCells z.cells (n * size) = vrow (n * size) (zc z size) := by
    apply Array.ext_getElem?
    intro j
    by_cases hj : j < n * size
    · rw [vrow_get _ hj]; simp [madeCells, hj, hzs, zc]
    · rw [Array.getElem?_eq_none (by rw [size_madeCells]; omega), Array.getElem?_eq_none (by rw [vrow_size]; omega)]
  rw [hm] at hr
  subst hL
  subst hC
  unfold Oper.wp
  simp only [execOp, hop, hl, hc, Sem.run_bind, hr, Result.andThen_ok, Sem.run_pure]
  exact hK' _ _ hK

/-- The bounds turned, as ints. -/
def tF (f : Nat → Int) (i : Nat) : Int := if i % 3 = 0 then f (i + 1) else if i % 3 = 1 then f (i - 1) else f i
theorem tF_0 (f : Nat → Int) (i : Nat) : tF f (i * 3) = f (i * 3 + 1) := by unfold tF; rw [if_pos (by omega)]
theorem tF_1 (f : Nat → Int) (i : Nat) : tF f (i * 3 + 1) = f (i * 3) := by unfold tF; rw [if_neg (by omega), if_pos (by omega), Nat.add_sub_cancel]
theorem tF_2 (f : Nat → Int) (i : Nat) : tF f (i * 3 + 2) = f (i * 3 + 2) := by unfold tF; rw [if_neg (by omega), if_neg (by omega)]
theorem tF_ok {E n : Nat} {f : Nat → Int} (h : BOk E n f) : BOk E n (tF f) := ⟨h.1, fun i hi => by
  have := h.2 i hi
  rw [tF_0, tF_1, tF_2]
  exact ⟨this.2.1, this.1, this.2.2⟩⟩
/-- The row that is filled, k bounds behind its start. -/
def tG (f : Nat → Int) (k : Nat) (i : Nat) : Value := if i < k * 3 then .int .i64 (tF f i) else .int .i64 0
theorem tG_step (f : Nat → Int) (k : Nat) (i : Nat) : turn (turn (turn (tG f k) (k * 3) (.int .i64 (f (k * 3 + 1)))) (k * 3 + 1) (.int .i64 (f (k * 3)))) (k * 3 + 2) (.int .i64 (f (k * 3 + 2))) i = tG f (k + 1) i := by
  unfold turn tG
  by_cases e2 : i = k * 3 + 2
  · subst e2; rw [if_pos rfl, if_pos (by omega), tF_2]
  · by_cases e1 : i = k * 3 + 1
    · subst e1; rw [if_neg (by omega), if_pos rfl, if_pos (by omega), tF_1]
    · by_cases e0 : i = k * 3
      · subst e0; rw [if_neg (by omega), if_neg (by omega), if_pos rfl, if_pos (by omega), tF_0]
      · rw [if_neg e2, if_neg e1, if_neg e0]
        by_cases h : i < k * 3
        · rw [if_pos h, if_pos (by omega)]
        · rw [if_neg h, if_neg (by omega)]

end Go.Proofs.YtlphlbgbbblnpaaGreatDoor
-- PlB: WALKS: isIndex, isPlace, the error of bounds.
namespace Go.Proofs.YtlphlbgbbblnpaaGreatDoor
open Go.RowKit

theorem bd_ways (b1 b2 b3 : Bool) (E F T M : Int) (h1 : b1 = decide (0 ≤ F ∧ F < E)) (h2 : b2 = decide (0 ≤ T ∧ T < E)) (h3 : b3 = decide (-1073741824 ≤ M ∧ M ≤ 1073741824)) :
    (b1 = false ∧ bdErr E F T M = 1) ∨ (b1 = true ∧ b2 = false ∧ bdErr E F T M = 1) ∨ (b1 = true ∧ b2 = true ∧ b3 = false ∧ bdErr E F T M = 1) ∨ (b1 = true ∧ b2 = true ∧ b3 = true ∧ bdErr E F T M = 0) := by
  have no : ∀ {p : Prop} [Decidable p] {b : Bool}, b = decide p → ¬p → b = false := fun h hn => by rw [h]; simp [hn]
  have yes : ∀ {p : Prop} [Decidable p] {b : Bool}, b = decide p → p → b = true := fun h hn => by rw [h]; simp [hn]
  by_cases p1 : 0 ≤ F ∧ F < E
  · by_cases p2 : 0 ≤ T ∧ T < E
    · by_cases p3 : -1073741824 ≤ M ∧ M ≤ 1073741824
      · exact .inr (.inr (.inr ⟨yes h1 p1, yes h2 p2, yes h3 p3, by unfold bdErr; rw [if_neg (by omega)]⟩))
      · exact .inr (.inr (.inl ⟨yes h1 p1, yes h2 p2, no h3 p3, by unfold bdErr; rw [if_pos (by omega)]⟩))
    · exact .inr (.inl ⟨yes h1 p1, no h2 p2, by unfold bdErr; rw [if_pos (by omega)]⟩)
  · exact .inl ⟨no h1 p1, by unfold bdErr; rw [if_pos (by omega)]⟩

end Go.Proofs.YtlphlbgbbblnpaaGreatDoor
-- PlI: WALKS: round (where nothing clashes), checkClash.
namespace Go.Proofs.YtlphlbgbbblnpaaGreatDoor
open Go.RowKit

/-- The paths of a search for a round: each of E events with an empty chain; k of them laid. -/
def Pt.all (k : Nat) : Pt := ⟨fun i => decide (i < k), fun _ => 0, fun i => if i < k then -1 else 0⟩
theorem Pt.all_zero : Pt.all 0 = Pt.none := by unfold Pt.all Pt.none; simp
theorem Pt.all_succ (k : Nat) : ({ ({ Pt.all k with kn := turn (Pt.all k).kn k true } : Pt) with la := turn (Pt.all k).la k (-1) } : Pt) = Pt.all (k + 1) := by
  show (⟨turn (fun i => decide (i < k)) k true, fun _ => 0, turn (fun i => if i < k then -1 else 0) k (-1)⟩ : Pt) = ⟨fun i => decide (i < k + 1), fun _ => 0, fun i => if i < k + 1 then -1 else 0⟩
  congr 1
  · funext i
    unfold turn
    by_cases e : i = k
    · subst e; simp
    · rw [if_neg e]; dsimp only; congr 1; apply propext; omega
  · funext i
    unfold turn
    by_cases e : i = k
    · subst e; simp
    · rw [if_neg e]
      dsimp only
      by_cases h : i < k
      · rw [if_pos h, if_pos (by omega)]
      · rw [if_neg h, if_neg (by omega)]
/-- The bounds clash: the last of the rounds has shortened a path. -/
def clash (f : Nat → Int) (n E : Nat) : Int := (relS f n E (Pt.all E) (-1)).2

theorem bchk_of {E n : Nat} {f : Nat → Int} (h : BOk E n f) : bchk E n f = 0 := by
  unfold bchk
  rw [if_neg (by have := h.1; omega)]
  refine first_zero fun i hi => ?_
  unfold bdAt bdErr
  have := h.2 i hi
  rw [if_neg (by omega)]

end Go.Proofs.YtlphlbgbbblnpaaGreatDoor
-- PlJ: WALKS: Limits of bounds that do not clash.
namespace Go.Proofs.YtlphlbgbbblnpaaGreatDoor
open Go.RowKit

theorem pt_new_a (w : World) (t : TypeId) (p : Pt) (o : Obj) : PtAt ((w.alloc (.cells p.cells t)).alloc o) w.heap.size t p :=
  (PtAt.new w t p).keep ((Below.refl _ _).alloc (Nat.le_refl _) _) (by simp)
theorem pt_new_b (w : World) (t : TypeId) (p : Pt) (o : Obj) (c : Array Value) : PtAt (((w.alloc o).alloc (.cells p.cells t)).setRow w.heap.size c) (w.heap.size + 1) t p := by
  have h := PtAt.new (w.alloc o) t p
  rw [World.size_alloc] at h
  exact (setRow_other _ _ _ _ (by omega)).trans h

theorem PtAt.other {w : World} {b b' : Nat} {t : TypeId} {p : Pt} (h : PtAt w b t p) (hne : b ≠ b') (o : Nat) (v : Value) : PtAt (w.setCell ⟨b', o, Option.none⟩ v) b t p :=
  (Below.heap_setCell w ⟨b', o, Option.none⟩ v b hne).trans h

/-- The cells of intervals. -/
def lmV (u d : Pt) (i : Nat) : Value := if i % 4 = 0 then .int .i64 (-(d.mo (i / 4))) else if i % 4 = 1 then .int .i64 (u.mo (i / 4)) else if i % 4 = 2 then .bool (d.kn (i / 4)) else .bool (u.kn (i / 4))
theorem lmV_0 (u d : Pt) (i : Nat) : lmV u d (i * 4) = .int .i64 (-(d.mo i)) := by unfold lmV; rw [if_pos (by omega), show i * 4 / 4 = i by omega]
theorem lmV_1 (u d : Pt) (i : Nat) : lmV u d (i * 4 + 1) = .int .i64 (u.mo i) := by unfold lmV; rw [if_neg (by omega), if_pos (by omega), show (i * 4 + 1) / 4 = i by omega]
theorem lmV_2 (u d : Pt) (i : Nat) : lmV u d (i * 4 + 2) = .bool (d.kn i) := by unfold lmV; rw [if_neg (by omega), if_neg (by omega), if_pos (by omega), show (i * 4 + 2) / 4 = i by omega]
theorem lmV_3 (u d : Pt) (i : Nat) : lmV u d (i * 4 + 3) = .bool (u.kn i) := by unfold lmV; rw [if_neg (by omega), if_neg (by omega), if_neg (by omega), show (i * 4 + 3) / 4 = i by omega]
def lmZ : Value := .agg #[.int .i64 0, .int .i64 0, .bool false, .bool false]
def lmG (u d : Pt) (k i : Nat) : Value := if i < k * 4 then lmV u d i else zc lmZ 4 i
theorem lmG_step (u d : Pt) (k i : Nat) : turn (turn (turn (turn (lmG u d k) (k * 4) (.int .i64 (-(d.mo k)))) (k * 4 + 1) (.int .i64 (u.mo k))) (k * 4 + 2) (.bool (d.kn k))) (k * 4 + 3) (.bool (u.kn k)) i = lmG u d (k + 1) i := by
  unfold turn lmG
  by_cases e3 : i = k * 4 + 3
  · subst e3; rw [if_pos rfl, if_pos (by omega), lmV_3]
  · by_cases e2 : i = k * 4 + 2
    · subst e2; rw [if_neg (by omega), if_pos rfl, if_pos (by omega), lmV_2]
    · by_cases e1 : i = k * 4 + 1
      · subst e1; rw [if_neg (by omega), if_neg (by omega), if_pos rfl, if_pos (by omega), lmV_1]
      · by_cases e0 : i = k * 4
        · subst e0; rw [if_neg (by omega), if_neg (by omega), if_neg (by omega), if_pos rfl, if_pos (by omega), lmV_0]
        · rw [if_neg e3, if_neg e2, if_neg e1, if_neg e0]
          by_cases h : i < k * 4
          · rw [if_pos h, if_pos (by omega)]
          · rw [if_neg h, if_neg (by omega)]
/-- The paths up and down. -/
def ptU (f : Nat → Int) (len E : Nat) : Pt := (relS f len E Pt.start (-1)).1
def ptD (f : Nat → Int) (len E : Nat) : Pt := (relS (tF f) len E Pt.start (-1)).1

theorem relS_le {E n : Nat} {f : Nat → Int} (hf : BOk E n f) : ∀ (r : Nat) {q : Pt} {s : Int} {B : Int}, q.Le B → (relS f n r q s).1.Le (B + r * 274877906944)
  | 0, q, s, B, h => by simpa [relS] using h
  | r + 1, q, s, B, h => by
    have h1 := ysOf_le hf h n (Nat.le_refl _)
    have hn := hf.1
    have h2 : (q.ups f (ysOf f q n)).Le (B + 274877906944) := h1.mono (by omega)
    simp only [relS]
    split
    · exact h2.mono (by push_cast; omega)
    · exact (relS_le hf r h2).mono (by push_cast; omega)
theorem ptU_le {E n : Nat} {f : Nat → Int} (hf : BOk E n f) : (ptU f n E).Le 17592186044416 := by
  have := hf.1
  exact (relS_le hf E (q := Pt.start) (s := -1) (B := 0) (fun i => by simp [Pt.start])).mono (by omega)
theorem ptD_le {E n : Nat} {f : Nat → Int} (hf : BOk E n f) : (ptD f n E).Le 17592186044416 := ptU_le (tF_ok hf)

end Go.Proofs.YtlphlbgbbblnpaaGreatDoor
