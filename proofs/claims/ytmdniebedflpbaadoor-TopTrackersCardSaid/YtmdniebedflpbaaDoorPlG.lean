/-
  WALKS: paths by value; fromStart; the bounds turned.
-/
import Derived.Test.YtmdniebedflpbaaDoorPlF
import Derived.Deep.MidRow
namespace Go.Proofs.YtmdniebedflpbaaDoor
open Go.RowKit

def Pt.none : Pt := ⟨fun _ => false, fun _ => 0, fun _ => 0⟩
theorem x_paths : (Tryd.prog.info? 72).map (fun i => (i.zero, i.size)) = some (some (.agg Pt.none.cells), 192) := by kernel_rfl
theorem x_pathsU : ∃ fs, Tryd.prog.underlying 72 = some (.struct fs) := by
  exact ⟨_, Tryd.underlying72⟩
theorem paths_zero (w : World) : (zeroValue 72).run Tryd.prog w = .ok (.agg Pt.none.cells) w := by
  have h := x_paths
  cases hq : Tryd.prog.info? 72 with
  | none => simp [hq] at h
  | some i =>
    simp [hq] at h
    simp [zeroValue, typeInfo, hq, h.1]
theorem paths_size (p : Pt) : (Tryd.prog.info? 72).map (·.size) = some p.cells.size := by
  have h := x_paths
  rw [p.cells_size]
  cases hq : Tryd.prog.info? 72 with
  | none => simp [hq] at h
  | some i => simp [hq] at h; simp [h.2]
theorem paths_load {w : World} {b : Nat} {p : Pt} (h : PtAt w b 72 p) : (loadVar 72 ⟨b, 0, none⟩).run Tryd.prog w = .ok (.agg p.cells) w := by
  obtain ⟨fs, hu⟩ := x_pathsU
  exact run_loadVar_row w b _ _ _ _ _ h hu rfl (paths_size p)
theorem paths_loadAt {w : World} {b : Nat} {p : Pt} (h : PtAt w b 72 p) : (Instr.loadAt 72 (.pointer (some ⟨b, 0, none⟩))).run Tryd.prog w = .ok (.agg p.cells) w := by
  simp only [Instr.loadAt, Instr.sureAddr, Sem.run_bind, Sem.run_pure, Result.andThen_ok, paths_load h]
theorem paths_storeAt {w : World} {b : Nat} {p q : Pt} (h : PtAt w b 72 p) : (Instr.storeAt 72 (.pointer (some ⟨b, 0, none⟩)) (.agg q.cells)).run Tryd.prog w = .ok () (w.setRow b q.cells) := by
  simp only [Instr.storeAt, Instr.sureAddr, Sem.run_bind, Sem.run_pure, Result.andThen_ok]
  exact run_storeVar_row w b _ _ _ _ h (paths_size q) (by rw [p.cells_size, q.cells_size]) q.cells_one
theorem PtAt.row {w : World} {b : Nat} {t : TypeId} {p : Pt} (h : PtAt w b t p) (q : Pt) : PtAt (w.setRow b q.cells) b t q := setRow_heap w b _ _ _ _ h
theorem PtAt.new (w : World) (t : TypeId) (p : Pt) : PtAt (w.alloc (.cells p.cells t)) w.heap.size t p := World.alloc_heap_new w _
theorem below_setRow {B b : Nat} (w : World) (cs : Array Value) (h : B ≤ b) : Below B w (w.setRow b cs) := ⟨rfl, rfl, rfl, by simp, fun k hk => setRow_other w b k cs (by omega)⟩

theorem wpList_load_paths {ops : Array Oper} {rest : List Oper} {o : Oper} {a : Act} {w : World} {Q : Exit → Act → World → Prop} (hg : o.guard = none) (x : Operand) (hop : o.op = .load 72 x)
    {b : Nat} {p : Pt} (hx : a.eval x = .pointer (some ⟨b, 0, none⟩)) (hP : PtAt w b 72 p) (h : wpList Tryd.prog ops Q rest (a.put o.dst (.agg p.cells)) w) : wpList Tryd.prog ops Q (o :: rest) a w :=
  wpList_plain hg fun K hK => by
    unfold Oper.wp execOp
    simp only [hop, hx, Instr.loadAt, Instr.sureAddr, Sem.run_bind, Sem.run_pure, Result.andThen_ok, paths_load hP]
    exact hK _ _ h
theorem wpList_store_paths {ops : Array Oper} {rest : List Oper} {o : Oper} {a : Act} {w : World} {Q : Exit → Act → World → Prop} (hg : o.guard = none) (x y : Operand) (hop : o.op = .store 72 x y)
    {b : Nat} {p q : Pt} (hx : a.eval x = .pointer (some ⟨b, 0, none⟩)) (hy : a.eval y = .agg q.cells) (hP : PtAt w b 72 p) (h : wpList Tryd.prog ops Q rest (a.put o.dst undef) (w.setRow b q.cells)) : wpList Tryd.prog ops Q (o :: rest) a w :=
  wpList_plain hg fun K hK => by
    unfold Oper.wp execOp
    have h2 := run_storeVar_row (P := Tryd.prog) w b _ 72 _ _ hP (paths_size q) (by rw [p.cells_size, q.cells_size]) q.cells_one
    simp only [hop, hx, hy, Instr.storeAt, Instr.sureAddr, Sem.run_bind, Sem.run_pure, Result.andThen_ok, h2]
    exact hK _ _ h

theorem results_cell {P : Program} {fn : Func} {s : Tmp} {ty : TypeId} {ad : Addr} {v : Value} {w : World} (h : fn.results = #[.cell s ty]) (tmps : Array Value) (ht : tmps.getD s undef = .pointer (some ad)) (hl : (loadVar ty ad).run P w = .ok v w) :
    (results fn tmps).run P w = .ok v w := by
  have ht' : tmps[s]?.getD undef = .pointer (some ad) := by simpa using ht
  simp [results, h, ht', asAddr, hl]

/-- The paths at the start: the event 0 alone. -/
def Pt.start : Pt := ⟨turn (fun _ => false) 0 true, fun _ => 0, turn (fun _ => 0) 0 (-1)⟩

set_option maxRecDepth 100000 in
set_option maxHeartbeats 4000000 in
theorem fromStart_of (w : World) (f : Nat → Int) (E len c : Nat) (a : Option Addr) (hf : BOk E len f) (hS : Sl w 3 a len f) :
    Calls Tryd.prog 24 #[.int .i64 (E : Int), .slice a len c] w fun e W' =>
      e = .returned (.agg (relS f len E Pt.start (-1)).1.cells) ∧ Below w.heap.size w W' := by
  have HF := Lib.hid hf
  have HS := Lib.hid hS
  clear hf hS
  have hz := paths_zero
  have z0 := Pt.cells_kn Pt.none (k := 0) (by decide)
  have z1 := Pt.cells_la Pt.none (k := 0) (by decide)
  go_enter Tryd.func24, Tryd.ntmps24
  go_wp2_with fail
  obtain ⟨W, hW⟩ : ∃ W, (w.alloc (.cells Pt.none.cells 72)).alloc (.cells ((Pt.none.cells.setIfInBounds 0 (.bool true)).setIfInBounds 128 (.int .i64 (-1))) 72) = W := ⟨_, rfl⟩
  rw [hW]
  have hb : Below w.heap.size w W := by rw [← hW]; exact ((Below.refl _ w).alloc (Nat.le_refl _) _).alloc (by simp) _
  have hs : W.heap.size = w.heap.size + 2 := by rw [← hW]; simp
  have hP : PtAt W (w.heap.size + 1) 72 Pt.start := by
    have h := World.alloc_heap_new (w.alloc (.cells Pt.none.cells 72)) (.cells ((Pt.none.cells.setIfInBounds 0 (.bool true)).setIfInBounds 128 (.int .i64 (-1))) 72)
    rw [World.size_alloc, hW] at h
    have e : (Pt.none.cells.setIfInBounds 0 (.bool true)).setIfInBounds 128 (.int .i64 (-1)) = Pt.start.cells := rfl
    rw [e] at h
    exact h
  have hN : PtAt W w.heap.size 72 Pt.none := by
    rw [← hW]
    exact (PtAt.new w _ Pt.none).keep ((Below.refl _ _).alloc (Nat.le_refl _) _) (by simp)
  clear hW z0 z1
  have HB := Lib.hid hb
  have HN := Lib.hid hN
  have HZ := Lib.hid hs
  clear hb hN hs
  refine (relax_of W (w.heap.size + 1) Pt.start f E len c a HF.out (fun i => by simp [Pt.start]) hP (HS.out.keep (by decide) HB.out) (fun b o hp e => ?_)).mono ?_
  · obtain ⟨b2, o2, e2, hI⟩ := HS.out hp
    rw [e] at e2
    cases e2
    have := hI.lt (by omega)
    omega
  rintro e W2 ⟨rfl, hP2, hX2⟩
  have hz := HZ.out
  have hN2 : PtAt W2 w.heap.size 72 Pt.none := (hX2.block _ (by omega) (by omega)).trans HN.out
  have hB2 : Below w.heap.size w W2 := HB.out.trans ⟨hX2.os, hX2.tape, hX2.output, hX2.size, fun k hk => hX2.block k (by omega) (by omega)⟩
  have HP2 := Lib.hid hP2
  have HN2 := Lib.hid hN2
  have HB2 := Lib.hid hB2
  clear hP2 hN2 hB2 hX2 hP hz
  go_wp2_with (first | (refine wpList_load_paths rfl (.tmp 5) rfl rfl HP2.out ?_) | (refine wpList_store_paths rfl (.tmp 4) (.tmp 13) rfl rfl rfl HN2.out ?_))
  have h4 := HN2.out.row (relS f len E Pt.start (-1)).1
  refine bodyPost_ret (v := .agg (relS f len E Pt.start (-1)).1.cells) ?_ rfl ⟨rfl, HB2.out.trans (below_setRow W2 _ (Nat.le_refl _))⟩
  exact results_cell (s := 4) rfl _ (ad := ⟨w.heap.size, 0, none⟩) rfl (paths_load h4)
end Go.Proofs.YtmdniebedflpbaaDoor
