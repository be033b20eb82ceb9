/-
  WALKS: the reference's distances.
-/
import Derived.Test.YtonlamkpehakdaaPyN
import Derived.Test.YtonlamkpehakdaaPyJ
namespace Go.Proofs.Ytonlamkpehakdaa
open Go.RowKit

theorem x_far : (Try.prog.info? 136).map (fun i => (i.zero, i.size, i.bytes)) = some (some (.agg #[.int .i64 0, .bool false]), 2, 16) := by kernel_rfl
theorem x_fars : (Try.prog.info? 137).map (fun i => (i.zero, i.size, i.bytes)) = some (some (.slice none 0 0), 1, 24) := by kernel_rfl

theorem far_load {W : World} {b : Nat} {a : Int} {k : Bool} (h : W.heap[b]? = some (.cells #[.int .i64 a, .bool k] 136 (0, 0))) : (loadVar 136 ⟨b, 0, none⟩).run Try.prog W = .ok (.agg #[.int .i64 a, .bool k]) W := by
  have hs : (Try.prog.info? 136).map (·.size) = some (#[Value.int .i64 a, Value.bool k] : Array Value).size := by
    have h := x_far
    cases hq : Try.prog.info? 136 with
    | none => simp [hq] at h
    | some i => simp [hq] at h; simp [h.2]
  exact run_loadVar_row W b _ _ _ _ _ h Try.underlying136 rfl hs
set_option maxRecDepth 100000 in
set_option maxHeartbeats 4000000 in
theorem lesser_of (w : World) (am bm : Int) (ak : Bool) :
    Calls Try.prog 93 #[.agg #[.int .i64 am, .bool ak], .agg #[.int .i64 bm, .bool true]] w fun e w' => e = .returned (.agg #[.int .i64 (if ak = true ∧ am ≤ bm then am else bm), .bool true]) ∧ Below w.heap.size w w' := by
  have h3 : (ak = false ∧ (if ak = true ∧ am ≤ bm then am else bm) = bm) ∨ (ak = true ∧ bm < am ∧ (if ak = true ∧ am ≤ bm then am else bm) = bm) ∨ (ak = true ∧ ¬bm < am ∧ (if ak = true ∧ am ≤ bm then am else bm) = am) := by
    cases ak
    · exact .inl ⟨rfl, by simp⟩
    · by_cases h : am ≤ bm
      · exact .inr (.inr ⟨rfl, by omega, by simp [h]⟩)
      · exact .inr (.inl ⟨rfl, by omega, by simp [h]⟩)
  generalize (if ak = true ∧ am ≤ bm then am else bm) = R at h3 ⊢
  rcases h3 with ⟨rfl, rfl⟩ | ⟨rfl, h, rfl⟩ | ⟨rfl, h, rfl⟩
  all_goals
    go_enter Try.func93, Try.ntmps93
    go_wp2_with fail
    first
      | exact bodyPost_ret (v := .agg #[.int .i64 R, .bool true]) (results_cell (s := 4) rfl _ (ad := ⟨w.heap.size + 1 + 1, 0, none⟩) rfl (far_load (by have h9 := World.alloc_heap_new ((w.alloc (.cells #[.int .i64 am, .bool false] 136)).alloc (.cells #[.int .i64 R, .bool true] 136)) (.cells #[.int .i64 R, .bool true] 136); rwa [World.size_alloc, World.size_alloc] at h9))) rfl ⟨rfl, (((Below.refl _ w).alloc (Nat.le_refl _) _).alloc (by simp) _).alloc (by simp; omega) _⟩
      | exact bodyPost_ret (v := .agg #[.int .i64 R, .bool true]) (results_cell (s := 4) rfl _ (ad := ⟨w.heap.size + 1 + 1, 0, none⟩) rfl (far_load (by have h9 := World.alloc_heap_new ((w.alloc (.cells #[.int .i64 am, .bool true] 136)).alloc (.cells #[.int .i64 R, .bool true] 136)) (.cells #[.int .i64 R, .bool true] 136); rwa [World.size_alloc, World.size_alloc] at h9))) rfl ⟨rfl, (((Below.refl _ w).alloc (Nat.le_refl _) _).alloc (by simp) _).alloc (by simp; omega) _⟩
      | exact bodyPost_ret (v := .agg #[.int .i64 R, .bool true]) (results_cell (s := 4) rfl _ (ad := ⟨w.heap.size + 1 + 1, 0, none⟩) rfl (far_load (by have h9 := World.alloc_heap_new ((w.alloc (.cells #[.int .i64 R, .bool true] 136)).alloc (.cells #[.int .i64 bm, .bool true] 136)) (.cells #[.int .i64 R, .bool true] 136); rwa [World.size_alloc, World.size_alloc] at h9))) rfl ⟨rfl, (((Below.refl _ w).alloc (Nat.le_refl _) _).alloc (by simp) _).alloc (by simp; omega) _⟩

/-- The rows of distances. -/
def rwM (E : Nat) (rb : Nat → Nat) (r i : Nat) : Value := if i < r then .slice (some ⟨rb i, 0, none⟩) E E else .slice none 0 0
def c2M (D : Mx) (a p : Nat) : Value := if p % 2 = 0 then .int .i64 (D.mo a (p / 2)) else .bool (D.kn a (p / 2))
theorem c2M_0 (D : Mx) (a b : Nat) : c2M D a (b * 2) = .int .i64 (D.mo a b) := by unfold c2M; rw [if_pos (by omega), show b * 2 / 2 = b by omega]
theorem c2M_1 (D : Mx) (a b : Nat) : c2M D a (b * 2 + 1) = .bool (D.kn a b) := by unfold c2M; rw [if_neg (by omega), show (b * 2 + 1) / 2 = b by omega]
structure MxT (B : Nat) (w : World) (bt E : Nat) (rb : Nat → Nat) (D : Mx) (r : Nat) : Prop where
  tb : Blk w bt 137 E (rwM E rb r)
  rw : ∀ i, i < r → Blk w (rb i) 136 (E * 2) (c2M D i) ∧ rb i ≠ bt ∧ B ≤ rb i
  inj : ∀ i j, i < r → j < r → i ≠ j → rb i ≠ rb j
  lo : B ≤ bt
theorem MxT.keep {B : Nat} {w w' : World} {bt E : Nat} {rb : Nat → Nat} {D : Mx} {r : Nat} (h : MxT B w bt E rb D r) (hb : Below w.heap.size w w') : MxT B w' bt E rb D r :=
  ⟨h.tb.keep hb h.tb.lt, fun i hi => ⟨(h.rw i hi).1.keep hb (h.rw i hi).1.lt, (h.rw i hi).2⟩, h.inj, h.lo⟩
theorem MxT.congr {B : Nat} {w : World} {bt E : Nat} {rb : Nat → Nat} {D D' : Mx} {r : Nat} (h : MxT B w bt E rb D r) (e : ∀ i, i < r → ∀ k, k < E → D.kn i k = D'.kn i k ∧ D.mo i k = D'.mo i k) : MxT B w bt E rb D' r :=
  ⟨h.tb, fun i hi => ⟨(h.rw i hi).1.congr fun p hp => by
    unfold c2M
    have := e i hi (p / 2) (by omega)
    rw [this.1, this.2], (h.rw i hi).2⟩, h.inj, h.lo⟩
theorem MxT.row_at {B : Nat} {w : World} {bt E : Nat} {rb : Nat → Nat} {D : Mx} {r : Nat} (h : MxT B w bt E rb D r) {i : Nat} (hi : i < r) (hE : i < E) : w.cell? ⟨bt, i, none⟩ = some (.slice (some ⟨rb i, 0, none⟩) E E) := by
  rw [h.tb.cell hE]; unfold rwM; rw [if_pos hi]
theorem MxT.mo_at {B : Nat} {w : World} {bt E : Nat} {rb : Nat → Nat} {D : Mx} {r : Nat} (h : MxT B w bt E rb D r) {i j : Nat} (hi : i < r) (hj : j < E) : w.cell? ⟨rb i, j * 2, none⟩ = some (.int .i64 (D.mo i j)) := by
  rw [(h.rw i hi).1.cell (by omega), c2M_0]
theorem MxT.kn_at {B : Nat} {w : World} {bt E : Nat} {rb : Nat → Nat} {D : Mx} {r : Nat} (h : MxT B w bt E rb D r) {i j : Nat} (hi : i < r) (hj : j < E) : w.cell? ⟨rb i, j * 2 + 1, none⟩ = some (.bool (D.kn i j)) := by
  rw [(h.rw i hi).1.cell (by omega), c2M_1]
/-- One element. -/
theorem MxT.put {B : Nat} {w : World} {bt E : Nat} {rb : Nat → Nat} {D : Mx} {r : Nat} (h : MxT B w bt E rb D r) (i j : Nat) (hi : i < r) (v : Int) :
    MxT B ((w.setCell ⟨rb i, j * 2, none⟩ (.int .i64 v)).setCell ⟨rb i, j * 2 + 1, none⟩ (.bool true)) bt E rb (D.put i j v) r := by
  refine ⟨(h.tb.other (Ne.symm (h.rw i hi).2.1) _ _).other (Ne.symm (h.rw i hi).2.1) _ _, fun a ha => ⟨?_, (h.rw a ha).2⟩, h.inj, h.lo⟩
  by_cases e : a = i
  · subst e
    refine (((h.rw a ha).1.set (j * 2) (.int .i64 v)).set (j * 2 + 1) (.bool true)).congr fun p _ => ?_
    unfold turn c2M Mx.put
    by_cases e1 : p = j * 2 + 1
    · rw [if_pos e1, if_neg (by omega)]
      simp [show p / 2 = j by omega]
    · rw [if_neg e1]
      by_cases e0 : p = j * 2
      · rw [if_pos e0, if_pos (by omega)]
        simp [show p / 2 = j by omega]
      · rw [if_neg e0]
        have : ¬p / 2 = j := by omega
        simp [this]
  · refine (((h.rw a ha).1.other (h.inj a i ha hi e) _ _).other (h.inj a i ha hi e) _ _).congr fun p _ => ?_
    unfold c2M Mx.put
    simp [e]
/-- One row more, of nothing. -/
theorem MxT.row {B : Nat} {w : World} {bt E : Nat} {rb : Nat → Nat} {D : Mx} {r : Nat} (h : MxT B w bt E rb D r) (hB : B ≤ w.heap.size) :
    MxT B ((w.setCell ⟨bt, r, none⟩ (.slice (some ⟨w.heap.size, 0, none⟩) E E)).alloc (.cells (vrow (E * 2) (zc (.agg #[.int .i64 0, .bool false]) 2)) 136)) bt E (turn rb r w.heap.size) ⟨fun a b => if a < r then D.kn a b else false, fun a b => if a < r then D.mo a b else 0⟩ (r + 1) := by
  have hne : ∀ i, i < r → rb i ≠ w.heap.size := fun i hi => Nat.ne_of_lt (h.rw i hi).1.lt
  have hbt : bt ≠ w.heap.size := Nat.ne_of_lt h.tb.lt
  refine ⟨?_, fun i hi => ?_, fun i j hi hj hij => ?_, h.lo⟩
  · refine ((h.tb.set r _).alloc _).congr fun i _ => ?_
    unfold rwM turn
    by_cases e : i = r
    · subst e; simp
    · rw [if_neg e]
      dsimp only
      by_cases h1 : i < r
      · rw [if_pos h1, if_pos (by omega), if_neg e]
      · rw [if_neg h1, if_neg (by omega)]
  · by_cases e : i = r
    · subst e
      rw [turn_same]
      have hnw := Blk.new (w.setCell ⟨bt, i, none⟩ (.slice (some ⟨w.heap.size, 0, none⟩) E E)) 136 (E * 2) (zc (.agg #[.int .i64 0, .bool false]) 2)
      rw [show (w.setCell ⟨bt, i, none⟩ (.slice (some ⟨w.heap.size, 0, none⟩) E E)).heap.size = w.heap.size by simp [World.setCell]] at hnw
      refine ⟨hnw.congr fun p _ => ?_, Ne.symm hbt, hB⟩
      unfold c2M zc
      dsimp only
      rw [if_neg (Nat.lt_irrefl i), if_neg (Nat.lt_irrefl i)]
      rcases (by omega : p % 2 = 0 ∨ p % 2 = 1) with e | e <;> rw [e] <;> simp [Value.cells]
    · rw [turn_other _ _ _ e]
      have hir : i < r := by omega
      refine ⟨(((h.rw i hir).1.other (h.rw i hir).2.1 _ _).alloc _).congr fun p _ => ?_, (h.rw i hir).2⟩
      unfold c2M
      dsimp only
      rw [if_pos hir, if_pos hir]
  · unfold turn
    by_cases e1 : i = r
    · by_cases e2 : j = r
      · omega
      · rw [if_pos e1, if_neg e2]; exact Ne.symm (hne j (by omega))
    · by_cases e2 : j = r
      · rw [if_neg e1, if_pos e2]; exact hne i (by omega)
      · rw [if_neg e1, if_neg e2]; exact h.inj i j (by omega) (by omega) hij
end Go.Proofs.Ytonlamkpehakdaa
