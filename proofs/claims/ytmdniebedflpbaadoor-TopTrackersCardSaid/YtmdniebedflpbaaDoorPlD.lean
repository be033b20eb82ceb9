/-
  WORDS: what a search's rounds keep; the marks of loops over functions.
-/
import Derived.Test.YtmdniebedflpbaaDoorPlC
namespace Go.Proofs.YtmdniebedflpbaaDoor
open Go.RowKit Go.Shelf

attribute [local go_sem] Oper.semAt_some

/-- Every block below B but X is as it was, and so is the outside. -/
structure BelowX (B X : Nat) (w w' : World) : Prop where
  os : w'.os = w.os
  tape : w'.tape = w.tape
  output : w'.output = w.output
  size : w.heap.size ≤ w'.heap.size
  block : ∀ k, k < B → k ≠ X → w'.heap[k]? = w.heap[k]?
theorem BelowX.refl (B X : Nat) (w : World) : BelowX B X w w := ⟨rfl, rfl, rfl, Nat.le_refl _, fun _ _ _ => rfl⟩
theorem BelowX.trans {B X : Nat} {u v w : World} (h : BelowX B X u v) (k : BelowX B X v w) : BelowX B X u w :=
  ⟨k.os.trans h.os, k.tape.trans h.tape, k.output.trans h.output, Nat.le_trans h.size k.size, fun i hi hx => (k.block i hi hx).trans (h.block i hi hx)⟩
theorem BelowX.of {B X : Nat} {w w' : World} (h : Below B w w') : BelowX B X w w' := ⟨h.os, h.tape, h.output, h.size, fun k hk _ => h.block k hk⟩
theorem BelowX.mono {B C X : Nat} {w w' : World} (h : BelowX B X w w') (hc : C ≤ B) : BelowX C X w w' := ⟨h.os, h.tape, h.output, h.size, fun k hk hx => h.block k (by omega) hx⟩
theorem BelowX.set (B X o : Nat) (w : World) (v : Value) : BelowX B X w (w.setCell ⟨X, o, none⟩ v) :=
  ⟨rfl, rfl, rfl, by simp [World.setCell], fun k _ hk => Below.heap_setCell w ⟨X, o, none⟩ v k hk⟩
theorem BelowX.sl {B X s : Nat} {w w' : World} {a : Option Addr} {n : Nat} {f : Nat → Int} (hb : BelowX B X w w') (hs : 0 < s) (h : Sl w s a n f) (hB : w.heap.size ≤ B) (hX : ∀ b o, 0 < n → a = some ⟨b, o, none⟩ → b ≠ X) : Sl w' s a n f := by
  intro hn
  obtain ⟨b, o, e, hi⟩ := h hn
  have hlt := hi.lt (Nat.mul_pos hn hs)
  exact ⟨b, o, e, fun i h => (World.cell?_of_block (a := ⟨b, o + i, none⟩) (hb.block b (by omega) (hX b o hn e))).trans (hi i h)⟩
/-- A store into the box itself changes nothing else. -/
theorem below_of_x {B X : Nat} {w w' : World} (h : BelowX B X w w') (hX : B ≤ X) : Below B w w' := ⟨h.os, h.tape, h.output, h.size, fun k hk => h.block k hk (by omega)⟩

/-- One store into paths. -/
theorem heap_set {w : World} {b k : Nat} {cs : Array Value} {t : TypeId} (h : w.heap[b]? = some (.cells cs t (0, 0))) (v : Value) :
    (w.setCell ⟨b, k, none⟩ v).heap[b]? = some (.cells (cs.setIfInBounds k v) t (0, 0)) := by
  obtain ⟨hlt, hk'⟩ := Array.getElem?_eq_some_iff.1 h
  show (w.heap.modify b _)[b]? = _
  rw [Array.getElem?_eq_getElem (by rw [Array.size_modify]; exact hlt), Array.getElem_modify_self, hk']
  rfl
theorem PtAt.set_kn {w : World} {b : Nat} {t : TypeId} {p : Pt} (h : PtAt w b t p) {k : Nat} (hk : k < 64) (v : Bool) : PtAt (w.setCell ⟨b, k, none⟩ (.bool v)) b t { p with kn := turn p.kn k v } := by
  unfold PtAt
  rw [heap_set h]
  congr 2
  refine Pt.cells_ext (by simp [p.cells_size]) (fun j hj => ?_) (fun j hj => ?_) (fun j hj => ?_)
  · rw [Array.getElem?_setIfInBounds]
    by_cases e : k = j
    · subst e; simp [p.cells_size, turn_same]; omega
    · rw [if_neg e, p.cells_kn hj]; simp [turn, Ne.symm e]
  · rw [Array.getElem?_setIfInBounds, if_neg (by omega), p.cells_mo hj]
  · rw [Array.getElem?_setIfInBounds, if_neg (by omega), p.cells_la hj]
theorem PtAt.set_mo {w : World} {b : Nat} {t : TypeId} {p : Pt} (h : PtAt w b t p) {k : Nat} (hk : k < 64) (v : Int) : PtAt (w.setCell ⟨b, 64 + k, none⟩ (.int .i64 v)) b t { p with mo := turn p.mo k v } := by
  unfold PtAt
  rw [heap_set h]
  congr 2
  refine Pt.cells_ext (by simp [p.cells_size]) (fun j hj => ?_) (fun j hj => ?_) (fun j hj => ?_)
  · rw [Array.getElem?_setIfInBounds, if_neg (by omega), p.cells_kn hj]
  · rw [Array.getElem?_setIfInBounds]
    by_cases e : k = j
    · subst e; simp [p.cells_size, turn_same]; omega
    · rw [if_neg (by omega), p.cells_mo hj]; simp [turn, Ne.symm e]
  · rw [Array.getElem?_setIfInBounds, if_neg (by omega), p.cells_la hj]
theorem PtAt.set_la {w : World} {b : Nat} {t : TypeId} {p : Pt} (h : PtAt w b t p) {k : Nat} (hk : k < 64) (v : Int) : PtAt (w.setCell ⟨b, 128 + k, none⟩ (.int .i64 v)) b t { p with la := turn p.la k v } := by
  unfold PtAt
  rw [heap_set h]
  congr 2
  refine Pt.cells_ext (by simp [p.cells_size]) (fun j hj => ?_) (fun j hj => ?_) (fun j hj => ?_)
  · rw [Array.getElem?_setIfInBounds, if_neg (by omega), p.cells_kn hj]
  · rw [Array.getElem?_setIfInBounds, if_neg (by omega), p.cells_mo hj]
  · rw [Array.getElem?_setIfInBounds]
    by_cases e : k = j
    · subst e; simp [p.cells_size, turn_same]; omega
    · rw [if_neg (by omega), p.cells_la hj]; simp [turn, Ne.symm e]

/-- The marks of loops over functions, among the deferred calls. -/
def mks (rs : List Nat) : List Deferred := rs.map fun r => { target := .collected r, args := #[] }
/-- Each mark's block is there, from B on. -/
def MkAt (B : Nat) (rs : List Nat) (w : World) : Prop := rs.Nodup ∧ ∀ r, r ∈ rs → B ≤ r ∧ r < w.heap.size ∧ w.heap[r]? = some (.deferred (some []))
theorem leaves_mks {F : Fence} {n : Nat} {P : Program} {fn : Func} {tmps : Array Value} {R : Ending → World → Prop} {B : Nat} : ∀ (rs : List Nat) (w : World), MkAt B rs w →
    (∀ w', Below B w w' → LeavesInM F n P fn tmps R [] .returning w') → LeavesInM F n P fn tmps R (mks rs) .returning w
  | [], w, _, h => h w (Below.refl _ _)
  | r :: rs, w, hm, h => by
    obtain ⟨hn, ha⟩ := hm
    obtain ⟨hnr, hn2⟩ := List.nodup_cons.1 hn
    obtain ⟨h1, h2, h3⟩ := ha r (by simp)
    refine ⟨by simp, .inl ⟨r, _, rfl, run_takeDeferred h3, ?_⟩⟩
    have hb : Below B w (w.putObj r (.deferred none)) := ⟨rfl, rfl, rfl, by simp, fun k hk => World.putObj_heap_other (by omega)⟩
    refine leaves_mks rs _ ⟨hn2, fun q hq => ?_⟩ (fun w' hw' => h w' (hb.trans hw'))
    obtain ⟨g1, g2, g3⟩ := ha q (by simp [hq])
    exact ⟨g1, by simpa using g2, (World.putObj_heap_other (by rintro rfl; exact hnr hq)).trans g3⟩

/-- What speaks of the blocks below B alone is its owner's from B on. -/
theorem ownFrom_low {β : Type} {B : Nat} {I : β → World → Prop} (hs : ∀ s W, I s W → B ≤ W.heap.size) (h : ∀ s W W', I s W → Below B W W' → I s W') : OwnFrom B I := fun s W W' row hi hg hr =>
  h s W W' hi ⟨hg.os, hg.tape, hg.output, hg.size, fun k hk => hg.block k (Nat.lt_of_lt_of_le hk (hs s W hi)) (fun e => by have := (hr k e.symm).1; omega)⟩

/-- What holds while the bounds are gone through. -/
structure Mid (w W : World) (S bp : Nat) (p : Pt) (f : Nat → Int) (a : Option Addr) (len c : Nat) (rs pre : List Nat) : Prop where
  hB : S + 2 ≤ W.heap.size
  pt : PtAt W bp 72 (p.ups f pre)
  b3 : W.cell? ⟨w.heap.size, 0, none⟩ = some (.pointer (some ⟨bp, 0, none⟩))
  b7 : Boxed W (w.heap.size + 1) 3 (.int .i64 (lastTo f pre))
  bb : W.cell? ⟨S, 0, none⟩ = some (.pointer (some ⟨bp, 0, none⟩))
  bl : W.cell? ⟨S + 1, 0, none⟩ = some (.slice a len c)
  low : BelowX w.heap.size bp w W
  marks : rs.Nodup ∧ ∀ r, r ∈ rs → w.heap.size ≤ r ∧ r < S ∧ W.heap[r]? = some (.deferred (some []))
theorem Mid.keep {w W W' : World} {S bp : Nat} {p : Pt} {f : Nat → Int} {a : Option Addr} {len c : Nat} {rs pre : List Nat} (h : Mid w W S bp p f a len c rs pre) (hb : Below (S + 2) W W') (h1 : w.heap.size + 2 ≤ S) (h2 : bp < w.heap.size) : Mid w W' S bp p f a len c rs pre :=
  ⟨Nat.le_trans h.hB hb.size, h.pt.keep hb (by omega), (hb.cell (p := ⟨w.heap.size, 0, none⟩) (by show w.heap.size < S + 2; omega)).trans h.b3, (hb.block _ (by omega)).trans h.b7,
    (hb.cell (p := ⟨S, 0, none⟩) (by show S < S + 2; omega)).trans h.bb, (hb.cell (p := ⟨S + 1, 0, none⟩) (by show S + 1 < S + 2; omega)).trans h.bl, h.low.trans (BelowX.of (hb.mono (by omega))),
    h.marks.1, fun r hr => ⟨(h.marks.2 r hr).1, (h.marks.2 r hr).2.1, (hb.block _ (by have := (h.marks.2 r hr).2.1; omega)).trans (h.marks.2 r hr).2.2⟩⟩
end Go.Proofs.YtmdniebedflpbaaDoor
