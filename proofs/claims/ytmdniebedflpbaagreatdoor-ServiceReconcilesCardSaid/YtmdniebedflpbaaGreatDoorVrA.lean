/-
  MATHEMATICS: distances of findings, nearest ones, pairs (for ServiceReconciles); WALKS: distance of both.
-/
import Derived.Test.YtmdniebedflpbaaGreatDoorVsA
import Derived.StillTailTactics
namespace Go.Proofs.YtmdniebedflpbaaGreatDoor
open Go.RowKit

/-- A finding: at, clock, and what the service does not look at. -/
structure Fd where
  a : Int
  c : Int
  l : Int
  w : Int
  lo : Int
  hi : Int
def Fd.cells (x : Fd) : Array Value := #[.int .i64 x.a, .int .i64 x.c, .int .i64 x.l, .int .i64 x.w, .int .i64 x.lo, .int .i64 x.hi]
def Fd.at (f : Nat → Int) (i : Nat) : Fd := ⟨f (i * 6), f (i * 6 + 1), f (i * 6 + 2), f (i * 6 + 3), f (i * 6 + 4), f (i * 6 + 5)⟩
def Fd.ok (x : Fd) : Prop := (0 ≤ x.a ∧ x.a ≤ 1073741824) ∧ 0 ≤ x.c ∧ x.c ≤ 719
instance Fd.okDec (x : Fd) : Decidable x.ok := by unfold Fd.ok; infer_instance
def dst (x y : Fd) : Int := max (x.a - y.a) (y.a - x.a) + min (max (x.c - y.c) (y.c - x.c)) (720 - max (x.c - y.c) (y.c - x.c))
theorem dst_comm (x y : Fd) : dst x y = dst y x := by unfold dst; omega
theorem dst_eq {x y : Fd} {p q : Int} (hp : p = max (x.a - y.a) (y.a - x.a)) (hq : q = max (x.c - y.c) (y.c - x.c)) : dst x y = p + min q (720 - q) := by rw [hp, hq]; rfl
theorem dst_lo {x y : Fd} (hx : x.ok) (hy : y.ok) : 0 ≤ dst x y ∧ dst x y ≤ 1073742184 := by
  obtain ⟨⟨_, _⟩, _, _⟩ := hx
  obtain ⟨⟨_, _⟩, _, _⟩ := hy
  unfold dst
  omega

/-- The first index of the least value. -/
def nr (d : Nat → Int) : Nat → Int
  | 0 => -1
  | i + 1 => if nr d i < 0 ∨ d i < d (nr d i).toNat then (i : Int) else nr d i
theorem nr_pos (d : Nat → Int) : ∀ i, 0 < i → 0 ≤ nr d i ∧ nr d i < i
  | 0, h => by omega
  | i + 1, _ => by
    rw [nr]
    split
    · omega
    · rename_i h
      rcases Nat.eq_zero_or_pos i with rfl | hi
      · exact absurd (.inl (show (-1 : Int) < 0 by decide)) h
      · have := nr_pos d i hi
        omega
theorem nr_lt (d : Nat → Int) (i : Nat) : nr d i < i := by
  rcases Nat.eq_zero_or_pos i with rfl | hi
  · exact (show (-1 : Int) < 0 by decide)
  · exact (nr_pos d i hi).2
theorem nr_ge (d : Nat → Int) (i : Nat) : -1 ≤ nr d i := by
  rcases Nat.eq_zero_or_pos i with rfl | hi
  · exact Int.le_refl _
  · have := nr_pos d i hi
    omega
/-- The pairs of those that are each other's nearest. -/
def isP (D : Nat → Nat → Int) (n m : Nat) (near : Int) (i : Nat) : Bool := decide (0 ≤ nr (D i) m) && decide (nr (fun j => D j (nr (D i) m).toNat) n = (i : Int)) && decide (D i (nr (D i) m).toNat ≤ near)
def rcU (D : Nat → Nat → Int) (n m : Nat) (near : Int) : Nat → List (Nat × Nat)
  | 0 => []
  | i + 1 => if isP D n m near i = true then rcU D n m near i ++ [(i, (nr (D i) m).toNat)] else rcU D n m near i
theorem mem_rcU {D : Nat → Nat → Int} {n m : Nat} {near : Int} : ∀ {t : Nat} {p : Nat × Nat}, p ∈ rcU D n m near t ↔ p.1 < t ∧ isP D n m near p.1 = true ∧ p.2 = (nr (D p.1) m).toNat
  | 0, p => by simp [rcU]
  | t + 1, p => by
    rw [rcU]
    split
    · rename_i h
      rw [List.mem_append, mem_rcU]
      constructor
      · rintro (⟨h1, h2⟩ | h1)
        · exact ⟨by omega, h2⟩
        · obtain rfl := List.mem_singleton.1 h1
          exact ⟨by simp, h, rfl⟩
      · rintro ⟨h1, h2, h3⟩
        by_cases e : p.1 = t
        · refine .inr ?_
          rw [List.mem_singleton]
          obtain ⟨p1, p2⟩ := p
          dsimp only at e h3
          rw [h3, e]
        · exact .inl ⟨by omega, h2, h3⟩
    · rename_i h
      rw [mem_rcU]
      constructor
      · rintro ⟨h1, h2⟩
        exact ⟨by omega, h2⟩
      · rintro ⟨h1, h2, h3⟩
        refine ⟨?_, h2, h3⟩
        rcases Nat.lt_or_eq_of_le (Nat.lt_succ_iff.1 h1) with h4 | h4
        · exact h4
        · rw [h4] at h2; exact absurd h2 h
theorem nodup_rcU (D : Nat → Nat → Int) (n m : Nat) (near : Int) : ∀ t, (rcU D n m near t).Nodup
  | 0 => by simp [rcU]
  | t + 1 => by
    rw [rcU]
    split
    · rw [List.nodup_append]
      refine ⟨nodup_rcU D n m near t, by simp, ?_⟩
      intro x hx y hy e
      obtain rfl := List.mem_singleton.1 hy
      subst e
      have := (mem_rcU.1 hx).1
      simp at this
    · exact nodup_rcU D n m near t
theorem len_rcU (D : Nat → Nat → Int) (n m : Nat) (near : Int) : ∀ t, (rcU D n m near t).length ≤ t
  | 0 => by simp [rcU]
  | t + 1 => by
    have := len_rcU D n m near t
    rw [rcU]
    split <;> simp <;> omega
/-- Exchanged lists have the exchanged pairs. -/
theorem rc_swap {D : Nat → Nat → Int} {n m : Nat} {near : Int} {i k : Nat} (h : (i, k) ∈ rcU D n m near n) : (k, i) ∈ rcU (fun x y => D y x) m n near m := by
  obtain ⟨h1, h2, h3⟩ := mem_rcU.1 h
  dsimp only at h1 h2 h3
  simp only [isP, Bool.and_eq_true, decide_eq_true_eq] at h2
  obtain ⟨⟨h4, h5⟩, h6⟩ := h2
  rw [← h3] at h5 h6
  have hm : 0 < m := by
    rcases Nat.eq_zero_or_pos m with rfl | h
    · exact absurd h4 (show ¬ (0 : Int) ≤ -1 by decide)
    · exact h
  have hk := (nr_pos (D i) m hm).2
  rw [mem_rcU]
  refine ⟨by dsimp only; omega, ?_, ?_⟩
  · simp only [isP, Bool.and_eq_true, decide_eq_true_eq]
    rw [show nr (fun y => D y k) n = (i : Int) from h5]
    refine ⟨⟨by omega, ?_⟩, by simpa using h6⟩
    show nr (fun j => D ((i : Int)).toNat j) m = (k : Int)
    rw [show ((i : Int)).toNat = i from rfl]
    show nr (D i) m = _
    omega
  · dsimp only
    rw [show nr (fun y => D y k) n = (i : Int) from h5]
    rfl
theorem sub_len {α : Type} [DecidableEq α] : ∀ (l m : List α), l.Nodup → (∀ x ∈ l, x ∈ m) → l.length ≤ m.length
  | [], _, _, _ => by simp
  | x :: l, m, hd, hs => by
    have hx := hs x (by simp)
    have h1 := List.length_erase_of_mem hx
    have h2 := sub_len l (m.erase x) (List.nodup_cons.1 hd).2 (fun y hy => (List.mem_erase_of_ne (by
      intro e
      subst e
      exact (List.nodup_cons.1 hd).1 hy)).2 (hs y (by simp [hy])))
    have h3 := List.length_pos_of_mem hx
    simp only [List.length_cons]
    omega
theorem nodup_swap {l : List (Nat × Nat)} (h : l.Nodup) : (l.map fun p => (p.2, p.1)).Nodup := by
  rw [List.Nodup, List.pairwise_map]
  exact h.imp (fun {a b} hab e => hab (by
    obtain ⟨a1, a2⟩ := a
    obtain ⟨b1, b2⟩ := b
    simp only [Prod.mk.injEq] at e ⊢
    exact ⟨e.2, e.1⟩))
theorem rc_len (D : Nat → Nat → Int) (n m : Nat) (near : Int) : (rcU (fun x y => D y x) m n near m).length = (rcU D n m near n).length := by
  have h1 := sub_len ((rcU D n m near n).map fun p => (p.2, p.1)) (rcU (fun x y => D y x) m n near m) (nodup_swap (nodup_rcU _ _ _ _ _)) (by
    intro x hx
    obtain ⟨p, hp, rfl⟩ := List.mem_map.1 hx
    exact rc_swap hp)
  have h2 := sub_len ((rcU (fun x y => D y x) m n near m).map fun p => (p.2, p.1)) (rcU D n m near n) (nodup_swap (nodup_rcU _ _ _ _ _)) (by
    intro x hx
    obtain ⟨p, hp, rfl⟩ := List.mem_map.1 hx
    exact rc_swap (D := fun x y => D y x) hp)
  simp only [List.length_map] at h1 h2
  omega
/-- A greater near loses none. -/
theorem rc_wide {D : Nat → Nat → Int} {n m : Nat} {near far : Int} (h : near ≤ far) {t : Nat} {p : Nat × Nat} (hp : p ∈ rcU D n m near t) : p ∈ rcU D n m far t := by
  obtain ⟨h1, h2, h3⟩ := mem_rcU.1 hp
  refine mem_rcU.2 ⟨h1, ?_, h3⟩
  simp only [isP, Bool.and_eq_true, decide_eq_true_eq] at h2 ⊢
  exact ⟨h2.1, by omega⟩

/-- A box with a finding. -/
def Fb (W : World) (g : Nat) (x : Fd) : Prop := W.heap[g]? = some (.cells x.cells 112 (0, 0))
theorem Fb.lt {W : World} {g : Nat} {x : Fd} (h : Fb W g x) : g < W.heap.size := (Array.getElem?_eq_some_iff.1 h).1
theorem Fb.keep {W W' : World} {g : Nat} {x : Fd} (h : Fb W g x) (hb : Below W.heap.size W W') : Fb W' g x := (hb.block _ h.lt).trans h
set_option maxRecDepth 100000 in
set_option maxHeartbeats 8000000 in
theorem vdist_of (w : World) (x y : Fd) (hx : x.ok) (hy : y.ok) : Calls Tryz.prog 58 #[.agg x.cells, .agg y.cells] w fun e W => e = .returned (.int .i64 (dst x y)) ∧ Below w.heap.size w W := by
  have HE := Lib.hid (fun p q => @dst_eq x y p q)
  obtain ⟨r, hr⟩ : ∃ r, dst x y = r := ⟨_, rfl⟩
  rw [hr]
  have HR := Lib.hid hr
  clear hr
  obtain ⟨⟨hx1, hx2⟩, hx3, hx4⟩ := hx
  obtain ⟨⟨hy1, hy2⟩, hy3, hy4⟩ := hy
  dsimp only [Fd.cells]
  go_enter Tryz.func58, Tryz.ntmps58
  go_upto_region 1 with fail
  have k0 : Fb _ w.heap.size x := al_old (new_heap w (.cells #[.int .i64 x.a, .int .i64 x.c, .int .i64 x.l, .int .i64 x.w, .int .i64 x.lo, .int .i64 x.hi] 112)) (.cells #[.int .i64 y.a, .int .i64 y.c, .int .i64 y.l, .int .i64 y.w, .int .i64 y.lo, .int .i64 y.hi] 112)
  have k1 : Fb _ (w.heap.size + 1) y := al_1 w (.cells #[.int .i64 x.a, .int .i64 x.c, .int .i64 x.l, .int .i64 x.w, .int .i64 x.lo, .int .i64 x.hi] 112) (.cells #[.int .i64 y.a, .int .i64 y.c, .int .i64 y.l, .int .i64 y.w, .int .i64 y.lo, .int .i64 y.hi] 112)
  have hB := ((Below.refl w.heap.size w).alloc (Nat.le_refl _) (.cells #[.int .i64 x.a, .int .i64 x.c, .int .i64 x.l, .int .i64 x.w, .int .i64 x.lo, .int .i64 x.hi] 112)).alloc (by simp) (.cells #[.int .i64 y.a, .int .i64 y.c, .int .i64 y.l, .int .i64 y.w, .int .i64 y.lo, .int .i64 y.hi] 112)
  generalize (w.alloc (.cells #[.int .i64 x.a, .int .i64 x.c, .int .i64 x.l, .int .i64 x.w, .int .i64 x.lo, .int .i64 x.hi] 112)).alloc (.cells #[.int .i64 y.a, .int .i64 y.c, .int .i64 y.l, .int .i64 y.w, .int .i64 y.lo, .int .i64 y.hi] 112) = W at k0 k1 hB ⊢
  have HB := Lib.hid hB
  have s0 : W.cell? ⟨w.heap.size, 0, none⟩ = some (.int .i64 x.a) := cell_h (k := 0) k0 rfl
  have s1 : W.cell? ⟨w.heap.size, 1, none⟩ = some (.int .i64 x.c) := cell_h (k := 1) k0 rfl
  have t0 : W.cell? ⟨w.heap.size + 1, 0, none⟩ = some (.int .i64 y.a) := cell_h (k := 0) k1 rfl
  have t1 : W.cell? ⟨w.heap.size + 1, 1, none⟩ = some (.int .i64 y.c) := cell_h (k := 1) k1 rfl
  clear k0 k1 hB
  obtain ⟨xa, exa⟩ : ∃ z, x.a = z := ⟨_, rfl⟩
  obtain ⟨xc, exc⟩ : ∃ z, x.c = z := ⟨_, rfl⟩
  obtain ⟨ya, eya⟩ : ∃ z, y.a = z := ⟨_, rfl⟩
  obtain ⟨yc, eyc⟩ : ∃ z, y.c = z := ⟨_, rfl⟩
  rw [exa] at s0 hx1 hx2
  rw [exc] at s1 hx3 hx4
  rw [eya] at t0 hy1 hy2
  rw [eyc] at t1 hy3 hy4
  rw [exa, exc, eya, eyc] at HE
  by_cases hc : xc - yc < yc - xc
  all_goals
    go_wp2_with fail
    all_goals
      (go_ret; refine ⟨congrArg (fun z => Ending.returned (.int .i64 z)) (?_ : _ = r), HB.out⟩; rw [← HR.out]; unfold dst; (repeat' split) <;> omega)

set_option maxRecDepth 100000 in
set_option maxHeartbeats 8000000 in
theorem rdist_of (w : World) (x y : Fd) (hx : x.ok) (hy : y.ok) : Calls Tryz.prog 60 #[.agg x.cells, .agg y.cells] w fun e W => e = .returned (.int .i64 (dst x y)) ∧ Below w.heap.size w W := by
  obtain ⟨r, hr⟩ : ∃ r, dst x y = r := ⟨_, rfl⟩
  rw [hr]
  have HR := Lib.hid hr
  clear hr
  obtain ⟨⟨hx1, hx2⟩, hx3, hx4⟩ := hx
  obtain ⟨⟨hy1, hy2⟩, hy3, hy4⟩ := hy
  dsimp only [Fd.cells]
  go_enter Tryz.func60, Tryz.ntmps60
  go_upto_region 1 with fail
  have k0 : Fb _ w.heap.size x := al_old (new_heap w (.cells #[.int .i64 x.a, .int .i64 x.c, .int .i64 x.l, .int .i64 x.w, .int .i64 x.lo, .int .i64 x.hi] 112)) (.cells #[.int .i64 y.a, .int .i64 y.c, .int .i64 y.l, .int .i64 y.w, .int .i64 y.lo, .int .i64 y.hi] 112)
  have k1 : Fb _ (w.heap.size + 1) y := al_1 w (.cells #[.int .i64 x.a, .int .i64 x.c, .int .i64 x.l, .int .i64 x.w, .int .i64 x.lo, .int .i64 x.hi] 112) (.cells #[.int .i64 y.a, .int .i64 y.c, .int .i64 y.l, .int .i64 y.w, .int .i64 y.lo, .int .i64 y.hi] 112)
  have hB := ((Below.refl w.heap.size w).alloc (Nat.le_refl _) (.cells #[.int .i64 x.a, .int .i64 x.c, .int .i64 x.l, .int .i64 x.w, .int .i64 x.lo, .int .i64 x.hi] 112)).alloc (by simp) (.cells #[.int .i64 y.a, .int .i64 y.c, .int .i64 y.l, .int .i64 y.w, .int .i64 y.lo, .int .i64 y.hi] 112)
  generalize (w.alloc (.cells #[.int .i64 x.a, .int .i64 x.c, .int .i64 x.l, .int .i64 x.w, .int .i64 x.lo, .int .i64 x.hi] 112)).alloc (.cells #[.int .i64 y.a, .int .i64 y.c, .int .i64 y.l, .int .i64 y.w, .int .i64 y.lo, .int .i64 y.hi] 112) = W at k0 k1 hB ⊢
  have HB := Lib.hid hB
  have s0 : W.cell? ⟨w.heap.size, 0, none⟩ = some (.int .i64 x.a) := cell_h (k := 0) k0 rfl
  have s1 : W.cell? ⟨w.heap.size, 1, none⟩ = some (.int .i64 x.c) := cell_h (k := 1) k0 rfl
  have t0 : W.cell? ⟨w.heap.size + 1, 0, none⟩ = some (.int .i64 y.a) := cell_h (k := 0) k1 rfl
  have t1 : W.cell? ⟨w.heap.size + 1, 1, none⟩ = some (.int .i64 y.c) := cell_h (k := 1) k1 rfl
  clear k0 k1 hB
  obtain ⟨xa, exa⟩ : ∃ z, x.a = z := ⟨_, rfl⟩
  obtain ⟨xc, exc⟩ : ∃ z, x.c = z := ⟨_, rfl⟩
  obtain ⟨ya, eya⟩ : ∃ z, y.a = z := ⟨_, rfl⟩
  obtain ⟨yc, eyc⟩ : ∃ z, y.c = z := ⟨_, rfl⟩
  rw [exa] at s0 hx1 hx2
  rw [exc] at s1 hx3 hx4
  rw [eya] at t0 hy1 hy2
  rw [eyc] at t1 hy3 hy4
  go_quiet (fail)
  have HB2 : Hid (Below w.heap.size w (W.drewN nq)) := below_drewN HB.out nq
  generalize W.drewN nq = W2 at HB2 ⊢
  clear HB s0 s1 t0 t1
  by_cases h1 : xa - ya < 0
  · by_cases h2 : xc - yc < 0
    · go_wp2_with fail
      all_goals
        (go_ret; refine ⟨congrArg (fun z => Ending.returned (.int .i64 z)) (?_ : _ = r), HB2.out⟩; rw [← HR.out]; unfold dst; (repeat' split) <;> omega)
    · go_wp2_with fail
      all_goals
        (go_ret; refine ⟨congrArg (fun z => Ending.returned (.int .i64 z)) (?_ : _ = r), HB2.out⟩; rw [← HR.out]; unfold dst; (repeat' split) <;> omega)
  · by_cases h2 : xc - yc < 0
    · go_wp2_with fail
      all_goals
        (go_ret; refine ⟨congrArg (fun z => Ending.returned (.int .i64 z)) (?_ : _ = r), HB2.out⟩; rw [← HR.out]; unfold dst; (repeat' split) <;> omega)
    · go_wp2_with fail
      all_goals
        (go_ret; refine ⟨congrArg (fun z => Ending.returned (.int .i64 z)) (?_ : _ = r), HB2.out⟩; rw [← HR.out]; unfold dst; (repeat' split) <;> omega)
end Go.Proofs.YtmdniebedflpbaaGreatDoor
