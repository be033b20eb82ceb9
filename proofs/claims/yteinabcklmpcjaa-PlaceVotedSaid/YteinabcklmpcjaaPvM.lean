/-
  WALKS: the ranges of a number, and the same ones turned.
-/
import Derived.Test.YteinabcklmpcjaaPvN
import Derived.Test.YteinabcklmpcjaaPsF
import Derived.Deep.RegionHeld3
namespace Go.Proofs.Yteinabcklmpcjaa
open Go.RowKit

set_option maxRecDepth 100000 in
theorem span_of (w : World) (x y : Int) (hw : IntKind.i64.wrap (x + y) = x + y) : Calls Try.prog 28 #[.int .i64 x, .int .i64 y] w fun e w' => e = .returned (.agg #[.int .i64 x, .int .i64 (x + y)]) ∧ Below w.heap.size w w' := by
  go_enter Try.func28, Try.ntmps28
  go_wp2_with fail
  exact bodyPost_ret (v := .agg #[.int .i64 x, .int .i64 (x + y)]) (by simp [results, Try.f28, go_sem]) rfl ⟨rfl, (Below.refl _ w).alloc (Nat.le_refl _) _⟩

/-- A slice of triples of bytes. -/
def Sb (w : World) (a : Option Addr) (n : Nat) (g : Nat → Int) : Prop := 0 < n → ∃ b o, a = some ⟨b, o, none⟩ ∧ ∀ i, i < n * 3 → w.cell? ⟨b, o + i, none⟩ = some (.int .u8 (g i))
theorem Sb.cells {w w' : World} {a : Option Addr} {n : Nat} {g : Nat → Int} (h : Sb w a n g) (hb : Below w.heap.size w w') {i : Nat} (hi : i < n) : ∃ b o, a = some ⟨b, o, none⟩ ∧ w'.cell? ⟨b, o + i * 3, none⟩ = some (.int .u8 (g (i * 3))) ∧ w'.cell? ⟨b, o + i * 3 + 1, none⟩ = some (.int .u8 (g (i * 3 + 1))) ∧ w'.cell? ⟨b, o + i * 3 + 2, none⟩ = some (.int .u8 (g (i * 3 + 2))) := by
  obtain ⟨b, o, rfl, hc⟩ := h (by omega)
  have h0 := hc 0 (by omega)
  have hlt : b < w.heap.size := by
    unfold World.cell? at h0
    cases e : w.heap[b]? with
    | none => simp [e] at h0
    | some x => exact (Array.getElem?_eq_some_iff.1 e).1
  refine ⟨b, o, rfl, ?_, ?_, ?_⟩
  · exact (hb.cell (p := ⟨b, o + i * 3, none⟩) hlt).trans (hc (i * 3) (by omega))
  · exact (hb.cell (p := ⟨b, o + i * 3 + 1, none⟩) hlt).trans (hc (i * 3 + 1) (by omega))
  · exact (hb.cell (p := ⟨b, o + i * 3 + 2, none⟩) hlt).trans (hc (i * 3 + 2) (by omega))

set_option maxRecDepth 100000 in
set_option maxHeartbeats 4000000 in
theorem voted_law (w : World) (N : Int) (a : Option Addr) (n c : Nat) (g : Nat → Int) (v : Int) (hN : -32768 ≤ N ∧ N ≤ 32767) (hv : 0 ≤ v ∧ v ≤ 255) (hn : n ≤ maxLen) (hS : Sb w a n g) (hg : ∀ i, i < n * 3 → 0 ≤ g i ∧ g i ≤ 255) :
    Calls Try.prog 6 #[.int .i16 N, .slice a n c, .int .u8 v] w fun e w' => e = .returned (.bool true) ∧ Below w.heap.size w w' := by
  have hmx : maxLen = 9223372036854775807 := rfl
  by_cases h1 : n < 1 ∨ 8 < n
  · clear hS hg
    have HC : Hid (n < 1 ∨ 8 < n) := h1
    rcases (by omega : n = 0 ∨ (0 < n ∧ 8 < n)) with rfl | ⟨h2, h3⟩
    · clear h1 HC
      go_enter Try.func6, Try.ntmps6
      go_wp2_with fail
      refine (awake_of w).mono ?_
      rintro e w2 ⟨rfl, hB⟩
      have HB := Lib.hid hB
      clear hB
      go_wp2_with fail
      go_ret
      exact ⟨rfl, HB.out⟩
    · clear h1 HC
      go_enter Try.func6, Try.ntmps6
      go_wp2_with fail
      refine (awake_of w).mono ?_
      rintro e w2 ⟨rfl, hB⟩
      have HB := Lib.hid hB
      clear hB
      go_wp2_with fail
      go_ret
      exact ⟨rfl, HB.out⟩
  have hn8 : 1 ≤ n ∧ n ≤ 8 := by omega
  have wN : IntKind.i64.wrap N = N := IntWalk.i64_in _ (by omega)
  have HS := Lib.hid hS
  have HG := Lib.hid hg
  clear hS hg h1 hn hmx
  go_enter Try.func6, Try.ntmps6
  go_wp2_with fail
  go_loopw [7, 8, 9, 30] (fun v1 v2 vb vi wr => ∃ k : Nat, k ≤ n ∧ vi = .int .i64 k ∧ vb = .int .i64 (bdC g k) ∧ Hid (wr.ownsRow w.heap.size 25 2 v1 k (rcl (rgF N g) k)) ∧ Hid (wr.ownsRow w.heap.size 25 2 v2 k (rcl (rvF (rgF N g) k) k)) ∧ Hid ((v2.ownBlock = none ∨ v2.ownBlock ≠ v1.ownBlock) ∧ (k = 0 → v2 = .slice none 0 0)) ∧ Hid (Below w.heap.size w wr)) (fun _ _ _ vi _ => n - (intOf vi).toNat)
  case atStart => exact ⟨0, by omega, rfl, rfl, ⟨rfl, .inl ⟨rfl, rfl⟩⟩, ⟨rfl, .inl ⟨rfl, rfl⟩⟩, ⟨.inl rfl, fun _ => rfl⟩, Below.refl _ _⟩
  case round =>
    obtain ⟨k, hk, rfl, rfl, H1, H2, HD, HB⟩ := hrel
    by_cases hlt : k < n
    · obtain ⟨b, o, rfl, d0, d1, d2⟩ := HS.out.cells HB.out hlt
      have g0 := HG.out (k * 3) (by omega)
      have g1 := HG.out (k * 3 + 1) (by omega)
      have g2 := HG.out (k * 3 + 2) (by omega)
      have f0 : rgF N g (k * 2) = rgLo N g k := rgF_0 N g k
      have f1 : rgF N g (k * 2 + 1) = rgHi N g k := rgF_1 N g k
      have fb : bdC g (k + 1) = if g (k * 3 + 2) % 4 = 0 then bdC g k + 1 else bdC g k := rfl
      have hbc := bdC_le g k
      unfold rgLo at f0
      unfold rgHi at f1
      generalize g (k * 3) = x0 at d0 g0 f0 f1
      generalize g (k * 3 + 1) = x1 at d1 g1 f1
      generalize g (k * 3 + 2) = x2 at d2 g2 f0 f1 fb
      have w0 : IntKind.i64.wrap x0 = x0 := IntWalk.i64_in _ (by omega)
      have w1 : IntKind.i64.wrap x1 = x1 := IntWalk.i64_in _ (by omega)
      have w2 : IntKind.i64.wrap (N - x0) = N - x0 := IntWalk.i64_in _ (by omega)
      have w3 : IntKind.i64.wrap (N + x1) = N + x1 := IntWalk.i64_in _ (by omega)
      by_cases hm : x2 % 4 = 0
      · have hmb : (x2 % 4 == 0) = true := by simpa using hm
        rw [if_pos hm] at f0 f1 fb
        have F0 := Lib.hid f0
        have F1 := Lib.hid f1
        have FB := Lib.hid fb
        have w4 : IntKind.i64.wrap (N + 1) = N + 1 := IntWalk.i64_in _ (by omega)
        have w5 : IntKind.i64.wrap (N + 1 + x0) = N + 1 + x0 := IntWalk.i64_in _ (by omega)
        have w6 : IntKind.i64.wrap (N + 1 + x0 + x1) = N + 1 + x0 + x1 := IntWalk.i64_in _ (by omega)
        have w7 : IntKind.i64.wrap ((bdC g k : Int) + 1) = (bdC g k : Int) + 1 := IntWalk.i64_in _ (by omega)
        have HW6 := Lib.hid w6
        clear hm f0 f1 fb w6
        go_wp2_with fail
        obtain ⟨W4, hW⟩ : ∃ W, (wr.alloc (.cells #[.int .u8 x0, .int .u8 x1, .int .u8 x2] 52)).alloc (.cells #[.int .i64 (N - x0), .int .i64 (N + x1)] 25) = W := ⟨_, rfl⟩
        have hBr : Below wr.heap.size wr W4 := by rw [← hW]; exact ((Below.refl _ _).alloc (Nat.le_refl _) _).alloc (by simp) _
        have a4 : W4.heap[wr.heap.size + 1]? = some (.cells #[.int .i64 (N - x0), .int .i64 (N + x1)] 25 (0, 0)) := by rw [← hW]; exact al_1 wr _ _
        rw [hW]
        refine (span_of W4 (N + 1 + x0) x1 HW6.out).mono ?_
        rintro e W5 ⟨rfl, hB5⟩
        have HBr5 := Lib.hid (hBr.trans (hB5.mono hBr.size))
        have HA5 := Lib.hid ((hB5.block _ (Array.getElem?_eq_some_iff.1 a4).1).trans a4)
        have z : ∀ o, W5.frozen? ⟨wr.heap.size + 1, o, none⟩ = false := fun o => frozen_own HA5.out o
        have q0 : W5.cell? ⟨wr.heap.size + 1, 0, none⟩ = some (.int .i64 (N - x0)) := cell_h HA5.out rfl
        have q1 : W5.cell? ⟨wr.heap.size + 1, 1, none⟩ = some (.int .i64 (N + x1)) := cell_h HA5.out rfl
        clear hW d0 d1 d2 w0 w1 w2 w3 hBr a4 hB5
        go_wp2_with fail
        obtain ⟨W, hW⟩ : ∃ W, (W5.setCell ⟨wr.heap.size + 1, 0, none⟩ (.int .i64 (N + 1 + x0))).setCell ⟨wr.heap.size + 1, 1, none⟩ (.int .i64 (N + 1 + x0 + x1)) = W := ⟨_, rfl⟩
        have hBr : Below wr.heap.size wr W := by rw [← hW]; exact bset (bset HBr5.out (by omega) _) (by omega) _
        have a0 : W.heap[wr.heap.size + 1]? = some (.cells #[.int .i64 (N + 1 + x0), .int .i64 (N + 1 + x0 + x1)] 25 (0, 0)) := by rw [← hW]; exact set_1 (set_0 HA5.out)
        rw [hW]
        clear hW q0 q1 z w4 w5
        have hb7 : ∀ j, u7.ownBlock = some j → j < wr.heap.size := fun j e => (H1.out.lt j e).2
        have R1 := Lib.hid (own_below H1.out hBr)
        have R2 := Lib.hid (own_below H2.out hBr)
        have HBW := Lib.hid (HB.out.trans (hBr.mono HB.out.size))
        have hwW : w.heap.size ≤ W.heap.size := HBW.out.size
        have hbx : wr.heap.size + 1 < W.heap.size := (Array.getElem?_eq_some_iff.1 a0).1
        have c0 : W.cell? ⟨wr.heap.size + 1, 0, none⟩ = some (.int .i64 (N + 1 + x0)) := cell_h a0 rfl
        have c1 : W.cell? ⟨wr.heap.size + 1, 1, none⟩ = some (.int .i64 (N + 1 + x0 + x1)) := cell_h a0 rfl
        have HA := Lib.hid a0
        have HB7 := Lib.hid hb7
        clear hb7 a0 hBr H1 H2 HB
        go_region_held3 (fun w' => w'.cell? ⟨wr.heap.size + 1, 0, none⟩ = some (.int .i64 (N + 1 + x0)) ∧ w'.cell? ⟨wr.heap.size + 1, 1, none⟩ = some (.int .i64 (N + 1 + x0 + x1))) (go_keep)
          (first
            | (refine step_rng (by rfl) (.tmp 64) (.tmp 66) (by rfl) (v1 := u7) (k := k) (f := rgF N g) (B := w.heap.size) (by rfl) (by rfl) (by first | exact R1.out | exact R1.out.alloc _ | exact (R1.out.alloc _).alloc _) (by first | exact World.alloc_heap_new _ _ | exact al_old (World.alloc_heap_new _ _) _ | exact al_1 _ _ _) F0.out.symm F1.out.symm (by omega) (by first | omega | (simp; done) | (simp; omega)) ?_
               intro g1 cap1 w1 o1 gr1 at1 lt1
               have n7 : some (wr.heap.size + 1) ≠ u7.ownBlock := fun e => absurd (HB7.out _ e.symm) (by omega)
               have A1 : w1.heap[wr.heap.size + 1]? = some (.cells #[.int .i64 (N + 1 + x0), .int .i64 (N + 1 + x0 + x1)] 25 (0, 0)) := (gr1.block _ (by first | omega | (simp; done) | (simp; omega)) n7).trans (by first | exact al_old HA.out _ | exact al_old (al_old HA.out _) _)
               have e0 : w1.cell? ⟨wr.heap.size + 1, 0, none⟩ = some (.int .i64 (N + 1 + x0)) := cell_h A1 rfl
               have e1 : w1.cell? ⟨wr.heap.size + 1, 1, none⟩ = some (.int .i64 (N + 1 + x0 + x1)) := cell_h A1 rfl
               have R2w : w1.ownsRow w.heap.size 25 2 u8 k (rcl (rvF (rgF N g) k) k) := World.ownsRow.kept (by first | exact R2.out.alloc _ | exact (R2.out.alloc _).alloc _) gr1 HD.out.1
               have hr1 : ∀ k, u7.ownBlock = some k → w.heap.size ≤ k := fun k e => (R1.out.lt k e).1
               have s1 := gr1.size
               simp at s1 at1
               have b1 : Below w.heap.size w w1 := Below.grown (by first | exact HBW.out.drew.alloc hwW _ | exact (HBW.out.drew.alloc hwW _).alloc (by first | omega | (simp; done) | (simp; omega)) _) gr1 (by first | omega | (simp; done) | (simp; omega)) hr1)
            | (refine step_turn (by rfl) (.tmp 69) (.tmp 70) (by rfl) (v2 := u8) (k := k) (f := rgF N g) (B := w.heap.size) (by rfl) (by rfl) (by first | exact R2w | exact R2w.alloc _) HD.out.2
                 (by first | exact World.alloc_heap_new _ _ | exact (gr1.block _ (by first | omega | (simp; done) | (simp; omega)) (fun e => absurd (HB7.out _ e.symm) (by first | omega | (simp; omega)))).trans (al_1 _ _ _) | exact (gr1.block _ (by first | omega | (simp; done) | (simp; omega)) (fun e => absurd (HB7.out _ e.symm) (by first | omega | (simp; omega)))).trans (al_old (World.alloc_heap_new _ _) _))
                 F0.out.symm F1.out.symm (by omega) (by first | omega | (simp; done) | (simp; omega)) ?_
               intro g2 cap2 w2 o2 gr2 at2 lt2
               have A2 : w2.heap[wr.heap.size + 1]? = some (.cells #[.int .i64 (N + 1 + x0), .int .i64 (N + 1 + x0 + x1)] 25 (0, 0)) := (gr2.block _ (by first | omega | (simp; done) | (simp; omega)) (fun e => by have e := Option.some.inj e; (try simp at e); omega)).trans (by first | exact A1 | exact al_old A1 _)
               have q0 : w2.cell? ⟨wr.heap.size + 1, 0, none⟩ = some (.int .i64 (N + 1 + x0)) := cell_h A2 rfl
               have q1 : w2.cell? ⟨wr.heap.size + 1, 1, none⟩ = some (.int .i64 (N + 1 + x0 + x1)) := cell_h A2 rfl
               have o1w : w2.ownsRow w.heap.size 25 2 (.slice (some ⟨g1, 0, none⟩) (k + 1) cap1) (k + 1) (rcl (rgF N g) (k + 1)) := World.ownsRow.kept (by first | exact o1 | exact o1.alloc _) gr2 (.inr (fun e => by
                 have e : g1 = _ := Option.some.inj e
                 rcases at1 with h | h
                 · have h := HB7.out _ h; (try simp at e); omega
                 · (try simp at e); omega))
               have sep : g2 ≠ g1 := fun e => by
                 rcases at2 with h | h
                 · rcases at1 with h' | h'
                   · have h' := HB7.out _ h'; (try simp at h); omega
                   · (try simp at h); omega
                 · (try simp at h); omega
               have b2 : Below w.heap.size w w2 := Below.grown (by first | exact b1 | exact b1.alloc b1.size _) gr2 (by have := b1.size; first | omega | (simp; omega)) (fun k e => by have e := Option.some.inj e; (try simp at e); omega)))
        all_goals
          have O1 := Lib.hid o1w
          have O2 := Lib.hid o2
          have B2 := Lib.hid b2
          have SP := Lib.hid sep
          clear o1w o2 b2 sep at1 at2 gr1 gr2 o1 A1 A2 R2w
          go_wp2_with fail
          exact ⟨⟨k + 1, by omega, by go_num, (by rw [FB.out]; push_cast; rfl), O1.out, O2.out, ⟨.inr (fun e => SP.out (Option.some.inj e)), fun h => absurd h (by omega)⟩, B2.out⟩, by simp [intOf]; omega⟩
      · have hmb : (x2 % 4 == 0) = false := by simpa using hm
        rw [if_neg hm] at f0 f1 fb
        have F0 := Lib.hid f0
        have F1 := Lib.hid f1
        have FB := Lib.hid fb
        clear hm f0 f1 fb
        go_wp2_with fail
        obtain ⟨W, hW⟩ : ∃ W, (wr.alloc (.cells #[.int .u8 x0, .int .u8 x1, .int .u8 x2] 52)).alloc (.cells #[.int .i64 (N - x0), .int .i64 (N + x1)] 25) = W := ⟨_, rfl⟩
        have hBr : Below wr.heap.size wr W := by rw [← hW]; exact ((Below.refl _ _).alloc (Nat.le_refl _) _).alloc (by simp) _
        have a0 : W.heap[wr.heap.size + 1]? = some (.cells #[.int .i64 (N - x0), .int .i64 (N + x1)] 25 (0, 0)) := by rw [← hW]; exact al_1 wr _ _
        rw [hW]
        clear hW d0 d1 d2 w0 w1 w2 w3
        have hb7 : ∀ j, u7.ownBlock = some j → j < wr.heap.size := fun j e => (H1.out.lt j e).2
        have R1 := Lib.hid (own_below H1.out hBr)
        have R2 := Lib.hid (own_below H2.out hBr)
        have HBW := Lib.hid (HB.out.trans (hBr.mono HB.out.size))
        have hwW : w.heap.size ≤ W.heap.size := HBW.out.size
        have hbx : wr.heap.size + 1 < W.heap.size := (Array.getElem?_eq_some_iff.1 a0).1
        have c0 : W.cell? ⟨wr.heap.size + 1, 0, none⟩ = some (.int .i64 (N - x0)) := cell_h a0 rfl
        have c1 : W.cell? ⟨wr.heap.size + 1, 1, none⟩ = some (.int .i64 (N + x1)) := cell_h a0 rfl
        have HA := Lib.hid a0
        have HB7 := Lib.hid hb7
        clear hb7 a0 hBr H1 H2 HB
        go_region_held3 (fun w' => w'.cell? ⟨wr.heap.size + 1, 0, none⟩ = some (.int .i64 (N - x0)) ∧ w'.cell? ⟨wr.heap.size + 1, 1, none⟩ = some (.int .i64 (N + x1))) (go_keep)
          (first
            | (refine step_rng (by rfl) (.tmp 64) (.tmp 66) (by rfl) (v1 := u7) (k := k) (f := rgF N g) (B := w.heap.size) (by rfl) (by rfl) (by first | exact R1.out | exact R1.out.alloc _ | exact (R1.out.alloc _).alloc _) (by first | exact World.alloc_heap_new _ _ | exact al_old (World.alloc_heap_new _ _) _ | exact al_1 _ _ _) F0.out.symm F1.out.symm (by omega) (by first | omega | (simp; done) | (simp; omega)) ?_
               intro g1 cap1 w1 o1 gr1 at1 lt1
               have n7 : some (wr.heap.size + 1) ≠ u7.ownBlock := fun e => absurd (HB7.out _ e.symm) (by omega)
               have A1 : w1.heap[wr.heap.size + 1]? = some (.cells #[.int .i64 (N - x0), .int .i64 (N + x1)] 25 (0, 0)) := (gr1.block _ (by first | omega | (simp; done) | (simp; omega)) n7).trans (by first | exact al_old HA.out _ | exact al_old (al_old HA.out _) _)
               have e0 : w1.cell? ⟨wr.heap.size + 1, 0, none⟩ = some (.int .i64 (N - x0)) := cell_h A1 rfl
               have e1 : w1.cell? ⟨wr.heap.size + 1, 1, none⟩ = some (.int .i64 (N + x1)) := cell_h A1 rfl
               have R2w : w1.ownsRow w.heap.size 25 2 u8 k (rcl (rvF (rgF N g) k) k) := World.ownsRow.kept (by first | exact R2.out.alloc _ | exact (R2.out.alloc _).alloc _) gr1 HD.out.1
               have hr1 : ∀ k, u7.ownBlock = some k → w.heap.size ≤ k := fun k e => (R1.out.lt k e).1
               have s1 := gr1.size
               simp at s1 at1
               have b1 : Below w.heap.size w w1 := Below.grown (by first | exact HBW.out.drew.alloc hwW _ | exact (HBW.out.drew.alloc hwW _).alloc (by first | omega | (simp; done) | (simp; omega)) _) gr1 (by first | omega | (simp; done) | (simp; omega)) hr1)
            | (refine step_turn (by rfl) (.tmp 69) (.tmp 70) (by rfl) (v2 := u8) (k := k) (f := rgF N g) (B := w.heap.size) (by rfl) (by rfl) (by first | exact R2w | exact R2w.alloc _) HD.out.2
                 (by first | exact World.alloc_heap_new _ _ | exact (gr1.block _ (by first | omega | (simp; done) | (simp; omega)) (fun e => absurd (HB7.out _ e.symm) (by first | omega | (simp; omega)))).trans (al_1 _ _ _) | exact (gr1.block _ (by first | omega | (simp; done) | (simp; omega)) (fun e => absurd (HB7.out _ e.symm) (by first | omega | (simp; omega)))).trans (al_old (World.alloc_heap_new _ _) _))
                 F0.out.symm F1.out.symm (by omega) (by first | omega | (simp; done) | (simp; omega)) ?_
               intro g2 cap2 w2 o2 gr2 at2 lt2
               have A2 : w2.heap[wr.heap.size + 1]? = some (.cells #[.int .i64 (N - x0), .int .i64 (N + x1)] 25 (0, 0)) := (gr2.block _ (by first | omega | (simp; done) | (simp; omega)) (fun e => by have e := Option.some.inj e; (try simp at e); omega)).trans (by first | exact A1 | exact al_old A1 _)
               have q0 : w2.cell? ⟨wr.heap.size + 1, 0, none⟩ = some (.int .i64 (N - x0)) := cell_h A2 rfl
               have q1 : w2.cell? ⟨wr.heap.size + 1, 1, none⟩ = some (.int .i64 (N + x1)) := cell_h A2 rfl
               have o1w : w2.ownsRow w.heap.size 25 2 (.slice (some ⟨g1, 0, none⟩) (k + 1) cap1) (k + 1) (rcl (rgF N g) (k + 1)) := World.ownsRow.kept (by first | exact o1 | exact o1.alloc _) gr2 (.inr (fun e => by
                 have e : g1 = _ := Option.some.inj e
                 rcases at1 with h | h
                 · have h := HB7.out _ h; (try simp at e); omega
                 · (try simp at e); omega))
               have sep : g2 ≠ g1 := fun e => by
                 rcases at2 with h | h
                 · rcases at1 with h' | h'
                   · have h' := HB7.out _ h'; (try simp at h); omega
                   · (try simp at h); omega
                 · (try simp at h); omega
               have b2 : Below w.heap.size w w2 := Below.grown (by first | exact b1 | exact b1.alloc b1.size _) gr2 (by have := b1.size; first | omega | (simp; omega)) (fun k e => by have e := Option.some.inj e; (try simp at e); omega)))
        all_goals
          have O1 := Lib.hid o1w
          have O2 := Lib.hid o2
          have B2 := Lib.hid b2
          have SP := Lib.hid sep
          clear o1w o2 b2 sep at1 at2 gr1 gr2 o1 A1 A2 R2w
          go_wp2_with fail
          exact ⟨⟨k + 1, by omega, by go_num, (by rw [FB.out]), O1.out, O2.out, ⟨.inr (fun e => SP.out (Option.some.inj e)), fun h => absurd h (by omega)⟩, B2.out⟩, by simp [intOf]; omega⟩
    · obtain rfl : k = n := by omega
      have hgood : Good k (rgF N g) := rg_good hN HG.out hn8
      have hvt : (k : Int) - bdC g k ≤ vts (rgF N g) N k := rg_votes HG.out
      obtain ⟨x1, y1, rfl, T1⟩ := own_SlR H1.out
      obtain ⟨x2, y2, rfl, T2⟩ := own_SlR H2.out
      have HGd := Lib.hid hgood
      have HVt := Lib.hid hvt
      have S1 := Lib.hid T1
      have S2 := Lib.hid T2
      have hbc := bdC_le g k
      have wv : IntKind.i64.wrap v = v := IntWalk.i64_in _ (by omega)
      obtain ⟨r, hr⟩ : ∃ r, v % (k : Int) = r := ⟨_, rfl⟩
      have hr0 : 0 ≤ r := by rw [← hr]; exact Int.emod_nonneg _ (by omega)
      have hrk : r < k := by rw [← hr]; exact Int.emod_lt_of_pos _ (by omega)
      have hk0 : ((k : Int) == 0) = false := by simp; omega
      have HC : Hid (∀ (W : World) (x : Option Addr) (c : Nat) (f : Nat → Int) (v : Int), Sl W 2 x k f → Calls Try.prog 26 #[.slice x k c, .int .i64 v] W fun e w' => ∃ lo hi er, e = .returned (resW lo hi er) ∧ VoteOut k f v lo hi er ∧ Below W.heap.size W w') := fun W x c f v h => vote_of W x k c f v (by unfold maxLen; omega) h
      generalize bdC g k = bd at HVt hbc ⊢
      clear hgood hvt T1 T2 H1 H2 HD HS HG
      go_wp2_with fail
      refine (HC.out wr x1 y1 (rgF N g) r S1.out).mono ?_
      rintro e W1 ⟨lo, hi, er, rfl, hO1, hB1⟩
      have HO1 := Lib.hid hO1
      have hB2 : Below wr.heap.size wr (W1.alloc (.cells #[.int .i64 lo, .int .i64 hi] 25)) := hB1.alloc hB1.size _
      have a2 := World.alloc_heap_new W1 (.cells #[.int .i64 lo, .int .i64 hi] 25)
      have HB2 := Lib.hid hB2
      have HA2 := Lib.hid a2
      clear hO1 hB1 hB2 a2
      dsimp only [resW]
      go_wp2_with fail
      generalize W1.alloc (.cells #[.int .i64 lo, .int .i64 hi] 25) = W2 at HB2 HA2 ⊢
      generalize W1.heap.size = b1 at HA2 ⊢
      refine (HC.out W2 x2 y2 (rvF (rgF N g) k) r (S2.out.keep (by decide) HB2.out)).mono ?_
      rintro e W3 ⟨lo', hi', er', rfl, hO2, hB3⟩
      obtain ⟨rfl, rfl, rfl⟩ := HO1.out.eq (hO2.unrv HGd.out ⟨hr0, hrk⟩)
      have hBk : Below wr.heap.size wr (W3.alloc (.cells #[.int .i64 lo, .int .i64 hi] 25)) := (HB2.out.trans (hB3.mono HB2.out.size)).alloc (Nat.le_trans HB2.out.size hB3.size) _
      have a4 := World.alloc_heap_new W3 (.cells #[.int .i64 lo, .int .i64 hi] 25)
      have b4 := al_old ((hB3.block _ (Array.getElem?_eq_some_iff.1 HA2.out).1).trans HA2.out) (.cells #[.int .i64 lo, .int .i64 hi] 25)
      have z0 : (W3.alloc (.cells #[.int .i64 lo, .int .i64 hi] 25)).cell? ⟨W3.heap.size, 0, none⟩ = some (.int .i64 lo) := cell_h a4 rfl
      have z1 : (W3.alloc (.cells #[.int .i64 lo, .int .i64 hi] 25)).cell? ⟨W3.heap.size, 1, none⟩ = some (.int .i64 hi) := cell_h a4 rfl
      have r0 : (W3.alloc (.cells #[.int .i64 lo, .int .i64 hi] 25)).cell? ⟨b1, 0, none⟩ = some (.int .i64 lo) := cell_h b4 rfl
      have r1 : (W3.alloc (.cells #[.int .i64 lo, .int .i64 hi] 25)).cell? ⟨b1, 1, none⟩ = some (.int .i64 hi) := cell_h b4 rfl
      have A4 := Lib.hid b4
      have HB4' := Lib.hid hBk
      have HB4 := Lib.hid (HB.out.trans (hBk.mono HB.out.size))
      have wr1 : IntKind.i64.wrap (r + 1) = r + 1 := IntWalk.i64_in _ (by omega)
      have hc := VoteOut.holds HGd.out ⟨hr0, hrk⟩ HVt.out HO1.out
      clear hB3 hBk a4 b4 hO2 HA2 HB2 S2
      rcases hc with ⟨rfl, rfl, rfl, hnb⟩ | ⟨rfl, himp⟩
      · by_cases hlast : r + 1 = k
        · dsimp only [resW]
          go_wp2_with fail
          refine (awake_of _).mono ?_
          rintro e W9 ⟨rfl, hB9⟩
          have HB9 := Lib.hid (HB4.out.trans (hB9.mono HB4.out.size))
          clear hB9
          go_wp2_with fail
          go_ret
          exact ⟨rfl, HB9.out⟩
        · dsimp only [resW]
          go_wp2_with fail
          refine (HC.out _ x1 y1 (rgF N g) (r + 1) (S1.out.keep (by decide) HB4'.out)).mono ?_
          rintro e W5 ⟨lo3, hi3, er3, rfl, hO3, hB5⟩
          clear hO3
          have hB6 : Below w.heap.size w (W5.alloc (.cells #[.int .i64 lo3, .int .i64 hi3] 25)) := (HB4.out.trans (hB5.mono HB4.out.size)).alloc (Nat.le_trans HB4.out.size hB5.size) _
          have a6 := World.alloc_heap_new W5 (.cells #[.int .i64 lo3, .int .i64 hi3] 25)
          have b6 := al_old ((hB5.block _ (Array.getElem?_eq_some_iff.1 A4.out).1).trans A4.out) (.cells #[.int .i64 lo3, .int .i64 hi3] 25)
          have p0 : (W5.alloc (.cells #[.int .i64 lo3, .int .i64 hi3] 25)).cell? ⟨W5.heap.size, 0, none⟩ = some (.int .i64 lo3) := cell_h a6 rfl
          have p1 : (W5.alloc (.cells #[.int .i64 lo3, .int .i64 hi3] 25)).cell? ⟨W5.heap.size, 1, none⟩ = some (.int .i64 hi3) := cell_h a6 rfl
          clear r0 r1 z0 z1
          have r0 : (W5.alloc (.cells #[.int .i64 lo3, .int .i64 hi3] 25)).cell? ⟨b1, 0, none⟩ = some (.int .i64 0) := cell_h b6 rfl
          have r1 : (W5.alloc (.cells #[.int .i64 lo3, .int .i64 hi3] 25)).cell? ⟨b1, 1, none⟩ = some (.int .i64 0) := cell_h b6 rfl
          have HB6 := Lib.hid hB6
          clear hB5 hB6 a6 b6 A4 HB4 HB4'
          dsimp only [resW]
          go_wp2_with fail
          refine (awake_of _).mono ?_
          rintro e W9 ⟨rfl, hB9⟩
          have HB9 := Lib.hid (HB6.out.trans (hB9.mono HB6.out.size))
          clear hB9
          go_wp2_with fail
          go_ret
          exact ⟨rfl, HB9.out⟩
      · by_cases hb : (bd : Int) ≤ r
        · obtain ⟨hl1, hh1⟩ := himp hb
          by_cases hlast : r + 1 = k
          · dsimp only [resW]
            go_wp2_with fail
            refine (awake_of _).mono ?_
            rintro e W9 ⟨rfl, hB9⟩
            have HB9 := Lib.hid (HB4.out.trans (hB9.mono HB4.out.size))
            clear hB9
            go_wp2_with fail
            go_ret
            exact ⟨rfl, HB9.out⟩
          · dsimp only [resW]
            go_wp2_with fail
            refine (HC.out _ x1 y1 (rgF N g) (r + 1) (S1.out.keep (by decide) HB4'.out)).mono ?_
            rintro e W5 ⟨lo3, hi3, er3, rfl, hO3, hB5⟩
            obtain ⟨rfl, hl3, hh3⟩ := VoteOut.wide HGd.out (by omega) HO1.out hO3
            have hB6 : Below w.heap.size w (W5.alloc (.cells #[.int .i64 lo3, .int .i64 hi3] 25)) := (HB4.out.trans (hB5.mono HB4.out.size)).alloc (Nat.le_trans HB4.out.size hB5.size) _
            have a6 := World.alloc_heap_new W5 (.cells #[.int .i64 lo3, .int .i64 hi3] 25)
            have b6 := al_old ((hB5.block _ (Array.getElem?_eq_some_iff.1 A4.out).1).trans A4.out) (.cells #[.int .i64 lo3, .int .i64 hi3] 25)
            have p0 : (W5.alloc (.cells #[.int .i64 lo3, .int .i64 hi3] 25)).cell? ⟨W5.heap.size, 0, none⟩ = some (.int .i64 lo3) := cell_h a6 rfl
            have p1 : (W5.alloc (.cells #[.int .i64 lo3, .int .i64 hi3] 25)).cell? ⟨W5.heap.size, 1, none⟩ = some (.int .i64 hi3) := cell_h a6 rfl
            clear r0 r1 z0 z1
            have r0 : (W5.alloc (.cells #[.int .i64 lo3, .int .i64 hi3] 25)).cell? ⟨b1, 0, none⟩ = some (.int .i64 lo) := cell_h b6 rfl
            have r1 : (W5.alloc (.cells #[.int .i64 lo3, .int .i64 hi3] 25)).cell? ⟨b1, 1, none⟩ = some (.int .i64 hi) := cell_h b6 rfl
            have HB6 := Lib.hid hB6
            clear hB5 hB6 a6 b6 A4 HB4 HB4'
            dsimp only [resW]
            go_wp2_with fail
            refine (awake_of _).mono ?_
            rintro e W9 ⟨rfl, hB9⟩
            have HB9 := Lib.hid (HB6.out.trans (hB9.mono HB6.out.size))
            clear hB9
            go_wp2_with fail
            go_ret
            exact ⟨rfl, HB9.out⟩
        · clear himp
          by_cases hlast : r + 1 = k
          · dsimp only [resW]
            go_wp2_with fail
            refine (awake_of _).mono ?_
            rintro e W9 ⟨rfl, hB9⟩
            have HB9 := Lib.hid (HB4.out.trans (hB9.mono HB4.out.size))
            clear hB9
            go_wp2_with fail
            go_ret
            exact ⟨rfl, HB9.out⟩
          · dsimp only [resW]
            go_wp2_with fail
            refine (HC.out _ x1 y1 (rgF N g) (r + 1) (S1.out.keep (by decide) HB4'.out)).mono ?_
            rintro e W5 ⟨lo3, hi3, er3, rfl, hO3, hB5⟩
            obtain ⟨rfl, hl3, hh3⟩ := VoteOut.wide HGd.out (by omega) HO1.out hO3
            have hB6 : Below w.heap.size w (W5.alloc (.cells #[.int .i64 lo3, .int .i64 hi3] 25)) := (HB4.out.trans (hB5.mono HB4.out.size)).alloc (Nat.le_trans HB4.out.size hB5.size) _
            have a6 := World.alloc_heap_new W5 (.cells #[.int .i64 lo3, .int .i64 hi3] 25)
            have b6 := al_old ((hB5.block _ (Array.getElem?_eq_some_iff.1 A4.out).1).trans A4.out) (.cells #[.int .i64 lo3, .int .i64 hi3] 25)
            have p0 : (W5.alloc (.cells #[.int .i64 lo3, .int .i64 hi3] 25)).cell? ⟨W5.heap.size, 0, none⟩ = some (.int .i64 lo3) := cell_h a6 rfl
            have p1 : (W5.alloc (.cells #[.int .i64 lo3, .int .i64 hi3] 25)).cell? ⟨W5.heap.size, 1, none⟩ = some (.int .i64 hi3) := cell_h a6 rfl
            clear r0 r1 z0 z1
            have r0 : (W5.alloc (.cells #[.int .i64 lo3, .int .i64 hi3] 25)).cell? ⟨b1, 0, none⟩ = some (.int .i64 lo) := cell_h b6 rfl
            have r1 : (W5.alloc (.cells #[.int .i64 lo3, .int .i64 hi3] 25)).cell? ⟨b1, 1, none⟩ = some (.int .i64 hi) := cell_h b6 rfl
            have HB6 := Lib.hid hB6
            clear hB5 hB6 a6 b6 A4 HB4 HB4'
            dsimp only [resW]
            go_wp2_with fail
            refine (awake_of _).mono ?_
            rintro e W9 ⟨rfl, hB9⟩
            have HB9 := Lib.hid (HB6.out.trans (hB9.mono HB6.out.size))
            clear hB9
            go_wp2_with fail
            go_ret
            exact ⟨rfl, HB9.out⟩
end Go.Proofs.Yteinabcklmpcjaa
