/-
  WALKS: the functions that tell the steps.
-/
import Derived.Test.YtonlamkpehakdaaPmE
namespace Go.Proofs.Ytonlamkpehakdaa
open Go.RowKit

theorem cell_h {w : World} {b k : Nat} {cs : Array Value} {t : TypeId} {fz : Nat × Nat} {v : Value} (h : w.heap[b]? = some (.cells cs t fz)) (hv : cs[k]? = some v) : w.cell? ⟨b, k, none⟩ = some v := by
  simp only [World.cell?, h]; exact hv
/-- What the function that tells the steps has: the costs' box, and that of the distances. -/
structure EnAt (w : World) (cb db wb hb : Nat) (wa ha : Option Addr) (n wc m hc : Nat) (g h : Nat → Int) (L F M : Int) : Prop where
  c0 : w.cell? ⟨cb, 0, none⟩ = some (.int .i64 L)
  c1 : w.cell? ⟨cb, 1, none⟩ = some (.int .i64 F)
  c2 : w.cell? ⟨cb, 2, none⟩ = some (.int .i64 M)
  cd : w.cell? ⟨db, 0, none⟩ = some (.func (.func 87) #[] #[.pointer (some ⟨wb, 0, none⟩), .pointer (some ⟨hb, 0, none⟩)])
  ds : DsAt w wb hb wa ha n wc m hc g h
theorem EnAt.keep {w W : World} {cb db wb hb : Nat} {wa ha : Option Addr} {n wc m hc : Nat} {g h : Nat → Int} {L F M : Int} (H : EnAt w cb db wb hb wa ha n wc m hc g h L F M) (hW : Below w.heap.size w W) : EnAt W cb db wb hb wa ha n wc m hc g h L F M :=
  have k : ∀ (b o : Nat) (v : Value), w.cell? ⟨b, o, none⟩ = some v → W.cell? ⟨b, o, none⟩ = some v := fun b o v hc => (hW.cell (p := ⟨b, o, none⟩) (World.block_lt_of_cell? w _ hc)).trans hc
  ⟨k _ _ _ H.c0, k _ _ _ H.c1, k _ _ _ H.c2, k _ _ _ H.cd, ⟨k _ _ _ H.ds.c1, k _ _ _ H.ds.c2, H.ds.s1.keep (by decide) hW, H.ds.s2.keep (by decide) hW, H.ds.p1, H.ds.p2, H.ds.l1, H.ds.l2⟩⟩

theorem distances_of (w : World) (wa ha : Option Addr) (n wc m hc : Nat) :
    Calls Try.prog 59 #[.slice wa n wc, .slice ha m hc] w fun e w' => e = .returned (.func (.func 87) #[] #[.pointer (some ⟨w.heap.size, 0, none⟩), .pointer (some ⟨w.heap.size + 1, 0, none⟩)]) ∧
      w' = (w.alloc (.cells #[.slice wa n wc] 23)).alloc (.cells #[.slice ha m hc] 23) := by
  go_enter Try.func59, Try.ntmps59
  go_wp2
  go_ret
  exact ⟨rfl, rfl⟩

set_option maxHeartbeats 1000000 in
theorem endings_of (w : World) (wa ha : Option Addr) (n wc m hc : Nat) (g h : Nat → Int) (L F M : Int) (s1 : Sl w 1 wa n g) (s2 : Sl w 1 ha m h) (hp : PbOk n m g h L F M) :
    Calls Try.prog 76 #[.slice wa n wc, .slice ha m hc, .agg #[.int .i64 L, .int .i64 F, .int .i64 M]] w fun e w' => e = .returned (.func (.func 94) #[] #[.pointer (some ⟨w.heap.size, 0, none⟩), .pointer (some ⟨w.heap.size + 1 + 1 + 1, 0, none⟩)]) ∧
      EnAt w' w.heap.size (w.heap.size + 1 + 1 + 1) (w.heap.size + 1) (w.heap.size + 1 + 1) wa ha n wc m hc g h L F M ∧ Below w.heap.size w w' := by
  have S1 := Lib.hid s1
  have S2 := Lib.hid s2
  have HP := Lib.hid hp
  clear s1 s2 hp
  go_enter Try.func76, Try.ntmps76
  go_wp2_with (go_at_call 59; refine (distances_of _ _ _ _ _ _ _).mono ?_; rintro e w' ⟨rfl, rfl⟩)
  go_ret
  obtain ⟨C, hC⟩ : ∃ C, Obj.cells #[.int .i64 L, .int .i64 F, .int .i64 M] 36 = C := ⟨_, rfl⟩
  have a0 := al_old (al_old (al_old (World.alloc_heap_new w C) (.cells #[.slice wa n wc] 23)) (.cells #[.slice ha m hc] 23)) (.cells #[.func (.func 87) #[] #[.pointer (some ⟨w.heap.size + 1, 0, none⟩), .pointer (some ⟨w.heap.size + 1 + 1, 0, none⟩)]] 116)
  have a1 := al_old (al_old (al_1 w C (.cells #[.slice wa n wc] 23)) (.cells #[.slice ha m hc] 23)) (.cells #[.func (.func 87) #[] #[.pointer (some ⟨w.heap.size + 1, 0, none⟩), .pointer (some ⟨w.heap.size + 1 + 1, 0, none⟩)]] 116)
  have a2 := al_old (al_2 w C (.cells #[.slice wa n wc] 23) (.cells #[.slice ha m hc] 23)) (.cells #[.func (.func 87) #[] #[.pointer (some ⟨w.heap.size + 1, 0, none⟩), .pointer (some ⟨w.heap.size + 1 + 1, 0, none⟩)]] 116)
  have a3 := al_3 w C (.cells #[.slice wa n wc] 23) (.cells #[.slice ha m hc] 23) (.cells #[.func (.func 87) #[] #[.pointer (some ⟨w.heap.size + 1, 0, none⟩), .pointer (some ⟨w.heap.size + 1 + 1, 0, none⟩)]] 116)
  have hB : Below w.heap.size w ((((w.alloc C).alloc (.cells #[.slice wa n wc] 23)).alloc (.cells #[.slice ha m hc] 23)).alloc (.cells #[.func (.func 87) #[] #[.pointer (some ⟨w.heap.size + 1, 0, none⟩), .pointer (some ⟨w.heap.size + 1 + 1, 0, none⟩)]] 116)) :=
    ((((Below.refl _ w).alloc (Nat.le_refl _) _).alloc (by simp) _).alloc (by simp; omega) _).alloc (by simp; omega) _
  subst hC
  have hp := HP.out
  exact ⟨rfl, ⟨cell_h a0 rfl, cell_h a0 rfl, cell_h a0 rfl, cell_h a3 rfl, ⟨cell_h a1 rfl, cell_h a2 rfl, S1.out.keep (by decide) hB, S2.out.keep (by decide) hB, hp.pg, hp.ph, hp.n40, hp.m40⟩⟩, hB⟩

theorem endings1_of (w : World) (cb db : Nat) (x y : Int) :
    Calls Try.prog 94 #[.int .i64 x, .int .i64 y, .pointer (some ⟨cb, 0, none⟩), .pointer (some ⟨db, 0, none⟩)] w fun e w' => e = .returned (.func (.func 95) #[] #[.pointer (some ⟨w.heap.size, 0, none⟩), .pointer (some ⟨w.heap.size + 1, 0, none⟩), .pointer (some ⟨cb, 0, none⟩), .pointer (some ⟨db, 0, none⟩)]) ∧
      w' = (w.alloc (.cells #[.int .i64 x] 3)).alloc (.cells #[.int .i64 y] 3) := by
  go_enter Try.func94, Try.ntmps94
  go_wp2
  go_ret
  exact ⟨rfl, rfl⟩
theorem EnAt.st {w : World} {cb db wb hb : Nat} {wa ha : Option Addr} {n wc m hc : Nat} {g h : Nat → Int} {L F M : Int} (H : EnAt w cb db wb hb wa ha n wc m hc g h L F M) (i k : Nat) (hi : i ≤ n) (hk : k ≤ m) :
    StAt ((w.alloc (.cells #[.int .i64 (i : Int)] 3)).alloc (.cells #[.int .i64 (k : Int)] 3)) w.heap.size (w.heap.size + 1) cb db wb hb wa ha n wc m hc g h L F M i k := by
  have hb2 : Below w.heap.size w ((w.alloc (.cells #[.int .i64 (i : Int)] 3)).alloc (.cells #[.int .i64 (k : Int)] 3)) := ((Below.refl _ w).alloc (Nat.le_refl _) _).alloc (by simp) _
  have H2 := H.keep hb2
  have e1 := al_old (World.alloc_heap_new w (.cells #[.int .i64 (i : Int)] 3)) (.cells #[.int .i64 (k : Int)] 3)
  have e2 := al_1 w (.cells #[.int .i64 (i : Int)] 3) (.cells #[.int .i64 (k : Int)] 3)
  exact ⟨cell_h e1 rfl, cell_h e2 rfl, H2.c0, H2.c1, H2.c2, H2.cd, H2.ds, hi, hk⟩
end Go.Proofs.Ytonlamkpehakdaa
