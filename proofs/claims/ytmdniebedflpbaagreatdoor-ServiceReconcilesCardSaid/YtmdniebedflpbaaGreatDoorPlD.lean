/-
  WORDS: what a search's rounds keep; the marks of loops over functions.
-/
import Derived.Test.YtmdniebedflpbaaGreatDoorPlC
import Derived.Test.YtmdniebedflpbaaGreatDoorVwA
namespace Go.Proofs.YtmdniebedflpbaaGreatDoor
open Go.RowKit Go.Shelf

attribute [local go_sem] Oper.semAt_some

theorem BelowX.sl {B X s : Nat} {w w' : World} {a : Option Addr} {n : Nat} {f : Nat → Int} (hb : BelowX B X w w') (hs : 0 < s) (h : Sl w s a n f) (hB : w.heap.size ≤ B) (hX : ∀ b o, 0 < n → a = some ⟨b, o, none⟩ → b ≠ X) : Sl w' s a n f := by
  intro hn
  obtain ⟨b, o, e, hi⟩ := h hn
  have hlt := hi.lt (Nat.mul_pos hn hs)
  exact ⟨b, o, e, fun i h => (World.cell?_of_block (a := ⟨b, o + i, none⟩) (hb.block b (by omega) (hX b o hn e))).trans (hi i h)⟩
theorem PtAt.set_kn {w : World} {b : Nat} {t : TypeId} {p : Pt} (h : PtAt w b t p) {k : Nat} (hk : k < 64) (v : Bool) : PtAt (w.setCell ⟨b, k, none⟩ (.bool v)) b t { p with kn := turn p.kn k v } := by
  unfold PtAt
  rw [heap_set h]
  congr 2
  refine Pt.cells_ext (by simp [p.cells_size]) (fun j hj => ?_) (fun j hj => ?_) (fun j hj => ?_)
  · rw [Array.getElem?_setIfInBounds]
    by_cases e : k = j
    · subst e; simp [p.cells_size, turn_same]; omega
    · rw [if_neg e, p.cells_kn hj]; simp [turn, Ne.symm e]
  · rw [Array.getElem?_setIfInBounds, if_neg (by omega), p.cells_mo hj]
  · rw [Array.getElem?_setIfInBounds, if_neg (by omega), p.cells_la hj]
theorem PtAt.set_mo {w : World} {b : Nat} {t : TypeId} {p : Pt} (h : PtAt w b t p) {k : Nat} (hk : k < 64) (v : Int) : PtAt (w.setCell ⟨b, 64 + k, none⟩ (.int .i64 v)) b t { p with mo := turn p.mo k v } := by
  unfold PtAt
  rw [heap_set h]
  congr 2
  refine Pt.cells_ext (by simp [p.cells_size]) (fun j hj => ?_) (fun j hj => ?_) (fun j hj => ?_)
  · rw [Array.getElem?_setIfInBounds, if_neg (by omega), p.cells_kn hj]
  · rw [Array.getElem?_setIfInBounds]
    by_cases e : k = j
    · subst e; simp [p.cells_size, turn_same]; omega
    · rw [if_neg (by omega), p.cells_mo hj]; simp [turn, Ne.symm e]
  · rw [Array.getElem?_setIfInBounds, if_neg (by omega), p.cells_la hj]
theorem PtAt.set_la {w : World} {b : Nat} {t : TypeId} {p : Pt} (h : PtAt w b t p) {k : Nat} (hk : k < 64) (v : Int) : PtAt (w.setCell ⟨b, 128 + k, none⟩ (.int .i64 v)) b t { p with la := turn p.la k v } := by
  unfold PtAt
  rw [heap_set h]
  congr 2
  refine Pt.cells_ext (by simp [p.cells_size]) (fun j hj => ?_) (fun j hj => ?_) (fun j hj => ?_)
  · rw [Array.getElem?_setIfInBounds, if_neg (by omega), p.cells_kn hj]
  · rw [Array.getElem?_setIfInBounds, if_neg (by omega), p.cells_mo hj]
  · rw [Array.getElem?_setIfInBounds]
    by_cases e : k = j
    · subst e; simp [p.cells_size, turn_same]; omega
    · rw [if_neg (by omega), p.cells_la hj]; simp [turn, Ne.symm e]

/-- The marks of loops over functions, among the deferred calls. -/
def mks (rs : List Nat) : List Deferred := rs.map fun r => { target := .collected r, args := #[] }
/-- Each mark's block is there, from B on. -/
def MkAt (B : Nat) (rs : List Nat) (w : World) : Prop := rs.Nodup ∧ ∀ r, r ∈ rs → B ≤ r ∧ r < w.heap.size ∧ w.heap[r]? = some (.deferred (some []))
theorem leaves_mks {F : Fence} {n : Nat} {P : Program} {fn : Func} {tmps : Array Value} {R : Ending → World → Prop} {B : Nat} : ∀ (rs : List Nat) (w : World), MkAt B rs w →
    (∀ w', Below B w w' → LeavesInM F n P fn tmps R [] .returning w') → LeavesInM F n P fn tmps R (mks rs) .returning w
  | [], w, _, h => h w (Below.refl _ _)
  | r :: rs, w, hm, h => by
    obtain ⟨hn, ha⟩ := hm
    obtain ⟨hnr, hn2⟩ := List.nodup_cons.1 hn
    obtain ⟨h1, h2, h3⟩ := ha r (by simp)
    refine ⟨by simp, .inl ⟨r, _, rfl, run_takeDeferred h3, ?_⟩⟩
    have hb : Below B w (w.putObj r (.deferred none)) := ⟨rfl, rfl, rfl, by simp, fun k hk => World.putObj_heap_other (by omega)⟩
    refine leaves_mks rs _ ⟨hn2, fun q hq => ?_⟩ (fun w' hw' => h w' (hb.trans hw'))
    obtain ⟨g1, g2, g3⟩ := ha q (by simp [hq])
    exact ⟨g1, by simpa using g2, (World.putObj_heap_other (by rintro rfl; exact hnr hq)).trans g3⟩

/-- What speaks of the blocks below B alone is its owner's from B on. -/
theorem ownFrom_low {β : Type} {B : Nat} {I : β → World → Prop} (hs : ∀ s W, I s W → B ≤ W.heap.size) (h : ∀ s W W', I s W → Below B W W' → I s W') : OwnFrom B I := fun s W W' row hi hg hr =>
  h s W W' hi ⟨hg.os, hg.tape, hg.output, hg.size, fun k hk => hg.block k (Nat.lt_of_lt_of_le hk (hs s W hi)) (fun e => by have := (hr k e.symm).1; omega)⟩

end Go.Proofs.YtmdniebedflpbaaGreatDoor
