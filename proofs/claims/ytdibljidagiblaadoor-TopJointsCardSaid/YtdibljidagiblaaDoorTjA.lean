/-
  WALKS: a line of pipes, and its girth welds.
-/
import Derived.Test.YtdibljidagiblaaDoorLnP
import Derived.Test.YtdibljidagiblaaDoorOwB
import Derived.Test.YtdibljidagiblaaDoorShW
import Derived.Test.YtdibljidagiblaaDoorPmF
import Derived.Below
import Derived.BigQuiet
import Derived.Deep.QuietTactic
namespace Go.Proofs.YtdibljidagiblaaDoor
open Go.RowKit

/-- The ints of the pipes. -/
def ppF (s : Nat → Int) (i : Nat) : Int := [0, 300 + s (i / 7), 610000, 10000, 2, 0, 0].getD (i % 7) 0
theorem ppF_at (s : Nat → Int) (k j : Nat) (hj : j < 7) : ppF s (k * 7 + j) = [0, 300 + s k, 610000, 10000, 2, 0, 0].getD j 0 := by
  unfold ppF
  rw [show (k * 7 + j) / 7 = k by omega, show (k * 7 + j) % 7 = j by omega]
theorem pp_it {s : Nat → Int} {n : Nat} (hs : ∀ i, i < n → 0 ≤ s i ∧ s i ≤ 65535) : ∀ i, i < n → Ln.itAt (ppF s) i = 0 := fun i hi => by
  have h := hs i hi
  unfold Ln.itAt
  have e0 := ppF_at s i 0 (by omega)
  rw [Nat.add_zero] at e0
  rw [e0, ppF_at s i 1 (by omega), ppF_at s i 2 (by omega), ppF_at s i 3 (by omega), ppF_at s i 4 (by omega), ppF_at s i 5 (by omega), ppF_at s i 6 (by omega)]
  show Ln.itErr 0 (300 + s i) 610000 10000 2 0 0 = 0
  unfold Ln.itErr
  rw [if_neg (by omega), if_neg (by omega), if_neg (by omega), if_neg (by omega)]
theorem pp_chk {s : Nat → Int} {n : Nat} (hs : ∀ i, i < n → 0 ≤ s i ∧ s i ≤ 65535) (hn : 1 ≤ n ∧ n ≤ 64) (z m : Nat → Int) : Ln.chk n 0 0 (ppF s) z m = 0 := by
  unfold Ln.chk
  rw [if_neg (by omega), Ln.first_zero (pp_it hs)]
  rfl
theorem pp_step (s : Nat → Int) (k : Nat) : Ln.endS (ppF s) (k + 1) = Ln.endS (ppF s) k + (300 + s k) := by
  show Ln.endS (ppF s) k + ppF s (k * 7 + 1) = _
  rw [ppF_at s k 1 (by omega)]
  rfl
theorem pp_end {s : Nat → Int} {n : Nat} (hs : ∀ i, i < n → 0 ≤ s i ∧ s i ≤ 65535) : ∀ k, k ≤ n → (k : Int) * 300 ≤ Ln.endS (ppF s) k ∧ Ln.endS (ppF s) k ≤ (k : Int) * 65835
  | 0, _ => by simp [Ln.endS]
  | k + 1, hk => by
    have h1 := pp_end hs k (by omega)
    have h2 := hs k (by omega)
    rw [pp_step]
    push_cast
    omega
theorem pp_lt {s : Nat → Int} {n : Nat} (hs : ∀ i, i < n → 0 ≤ s i ∧ s i ≤ 65535) : ∀ {i j : Nat}, i < j → j ≤ n → Ln.endS (ppF s) i + 300 ≤ Ln.endS (ppF s) j := by
  intro i j hij hj
  obtain ⟨d, rfl⟩ : ∃ d, j = i + 1 + d := ⟨j - (i + 1), by omega⟩
  induction d with
  | zero =>
    have := hs i (by omega)
    rw [Nat.add_zero, pp_step]; omega
  | succ d ih =>
    have h1 := ih (by omega) (by omega)
    have h2 := hs (i + 1 + d) (by omega)
    rw [show i + 1 + (d + 1) = i + 1 + d + 1 by omega, pp_step]
    omega
theorem x_item7 : (Tryd.prog.info? 123).map (fun i => (i.zero, i.size, i.bytes)) = some (some (.agg #[.int .i64 0, .int .i64 0, .int .i64 0, .int .i64 0, .int .i64 0, .int .i64 0, .int .i64 0]), 7, 56) := by kernel_rfl

set_option maxRecDepth 100000 in
set_option maxHeartbeats 4000000 in
theorem pipes_of (w : World) (a : Option Addr) (n c : Nat) (s : Nat → Int) (hn : n ≤ 12) (hs : ∀ i, i < n → 0 ≤ s i ∧ s i ≤ 65535) (hS : Sh w a n s) :
    Calls Tryd.prog 18 #[.slice a n c] w fun e W' => ∃ x c', e = .returned (.agg #[.slice x n c', .slice none 0 0, .slice none 0 0]) ∧ Ln.Sl W' 7 x n (ppF s) ∧ Below w.heap.size w W' := by
  obtain ⟨i0, hi0, hz0, hz1, hz2⟩ := info_parts x_item7
  have HI0 : Hid (Tryd.prog.info? 123 = some i0 ∧ i0.zero = some (.agg #[.int .i64 0, .int .i64 0, .int .i64 0, .int .i64 0, .int .i64 0, .int .i64 0, .int .i64 0]) ∧ i0.size = 7 ∧ i0.bytes = 56) := ⟨hi0, hz0, hz1, hz2⟩
  have HS := Lib.hid hS
  have HSb := Lib.hid hs
  clear hS hs hi0 hz0 hz1 hz2
  go_enter Tryd.func18, Tryd.ntmps18
  go_wp2_with fail
  obtain ⟨W0, hW0⟩ : ∃ W0, W0 = (w.alloc (.cells #[.slice none 0 0, .slice none 0 0, .slice none 0 0] 55)).alloc (.cells #[.slice none 0 0, .slice none 0 0, .slice none 0 0] 55) := ⟨_, rfl⟩
  rw [← hW0]
  have hB0 : Below w.heap.size w W0 := by rw [hW0]; exact ((Below.refl _ _).alloc (Nat.le_refl _) _).alloc (by simp) _
  have hsz : W0.heap.size = w.heap.size + 2 := by rw [hW0]; simp
  have hA0 : W0.heap[w.heap.size]? = some (.cells #[.slice none 0 0, .slice none 0 0, .slice none 0 0] 55 (0, 0)) := by rw [hW0]; exact al_old (World.alloc_heap_new w _) _
  have hA1 : W0.heap[w.heap.size + 1]? = some (.cells #[.slice none 0 0, .slice none 0 0, .slice none 0 0] 55 (0, 0)) := by rw [hW0]; exact al_1 w _ _
  have HSZ := Lib.hid hsz
  have HB0 := Lib.hid hB0
  have H0 := Lib.hid hA0
  have H1 := Lib.hid hA1
  clear hW0 hB0 hsz hA0 hA1
  have HR0 : Hid (W0.ownsRow (w.heap.size + 2) 123 7 (.slice none 0 0) 0 (Ln.irow (ppF s) (0 * 7))) := Ln.own_nil W0 _ _ 7 (ppF s)
  go_loopw [8] (fun vi wr => ∃ k : Nat, k ≤ n ∧ vi = .int .i64 k ∧ Hid (∃ x cx, wr.heap[w.heap.size + 1]? = some (.cells #[.slice x k cx, .slice none 0 0, .slice none 0 0] 55 (0, 0)) ∧ wr.ownsRow (w.heap.size + 2) 123 7 (.slice x k cx) k (Ln.irow (ppF s) (k * 7))) ∧ Hid (wr.heap[w.heap.size]? = some (.cells #[.slice none 0 0, .slice none 0 0, .slice none 0 0] 55 (0, 0))) ∧ Hid (Below w.heap.size w wr) ∧ Hid (w.heap.size + 2 ≤ wr.heap.size)) (fun vi _ => n - (intOf vi).toNat)
  case atStart => exact ⟨0, by omega, rfl, ⟨none, 0, H1.out, HR0.out⟩, H0, HB0, Nat.le_of_eq HSZ.out.symm⟩
  case round =>
    obtain ⟨k, hk, rfl, HX, HZ, HB, HN⟩ := hrel
    obtain ⟨x, cx, hx, hrow⟩ := HX.out
    have HX1 := Lib.hid hx
    have HR := Lib.hid hrow
    have hss := HN.out
    have c0 : wr.cell? ⟨w.heap.size + 1, 0, none⟩ = some (.slice x k cx) := cell_h hx rfl
    have c1 : wr.cell? ⟨w.heap.size + 1, 1, none⟩ = some (.slice none 0 0) := cell_h hx rfl
    have c2 : wr.cell? ⟨w.heap.size + 1, 2, none⟩ = some (.slice none 0 0) := cell_h hx rfl
    clear HX hx hrow H0 H1 HR0 HSZ
    by_cases hlt : k < n
    · obtain ⟨b, o, rfl, d0⟩ := HS.out.cell HB.out hlt
      have hb3 := HSb.out k hlt
      have e0 : IntKind.i64.wrap (s k) = s k := IntWalk.i64_in _ (by omega)
      have e1 : IntKind.i64.wrap (300 + s k) = 300 + s k := IntWalk.i64_in _ (by omega)
      have hnew := World.news_of_block (World.alloc_heap_new wr (.cells #[.int .i64 0, .int .i64 (300 + s k), .int .i64 610000, .int .i64 10000, .int .i64 2, .int .i64 0, .int .i64 0] 123))
      have HNew := Lib.hid hnew
      have HIr : Hid (Ln.irow (ppF s) (k * 7) ++ [.int .i64 0, .int .i64 (300 + s k), .int .i64 610000, .int .i64 10000, .int .i64 2, .int .i64 0, .int .i64 0] = Ln.irow (ppF s) ((k + 1) * 7)) := by
        have e0 := ppF_at s k 0 (by omega)
        rw [Nat.add_zero] at e0
        have h := Ln.irow7 (ppF s) k
        rw [e0, ppF_at s k 1 (by omega), ppF_at s k 2 (by omega), ppF_at s k 3 (by omega), ppF_at s k 4 (by omega), ppF_at s k 5 (by omega), ppF_at s k 6 (by omega)] at h
        exact h.symm
      clear hnew
      go_wp2_with (at_builtin; refine wpList_append_own _ rfl _ _ 51 rfl (w.heap.size + 2) 123 i0 (.agg #[.int .i64 0, .int .i64 0, .int .i64 0, .int .i64 0, .int .i64 0, .int .i64 0, .int .i64 0]) 7 56 Tryd.underlying51 HI0.out.1 HI0.out.2.1 HI0.out.2.2.1 HI0.out.2.2.2 rfl (by decide) _ k _ rfl (HR.out.alloc _) ⟨wr.heap.size, 0, none⟩ 1 1 [.int .i64 0, .int .i64 (300 + s k), .int .i64 610000, .int .i64 10000, .int .i64 2, .int .i64 0, .int .i64 0] rfl rfl HNew.out (by simp [Value.oneCell']) (by unfold maxLen; omega) (by omega) (by simp; omega) ?_; intro v4 W4 hown4 hgrow4 _; have hgr4 : (wr.alloc (.cells #[.int .i64 0, .int .i64 (300 + s k), .int .i64 610000, .int .i64 10000, .int .i64 2, .int .i64 0, .int .i64 0] 123)).grownBy W4 (Value.slice x k cx).ownBlock := hgrow4; have hne : ∀ q, q < w.heap.size + 2 → some q ≠ (Value.slice x k cx).ownBlock := (fun q hq e => absurd (HR.out.lt q e.symm).1 (by omega)); have HA4 : Hid (W4.heap[w.heap.size + 1]? = some (.cells #[.slice x k cx, .slice none 0 0, .slice none 0 0] 55 (0, 0))) := (hgr4.block _ (by simp; omega) (hne _ (by omega))).trans (al_old HX1.out _); have HZ4 : Hid (W4.heap[w.heap.size]? = some (.cells #[.slice none 0 0, .slice none 0 0, .slice none 0 0] 55 (0, 0))) := (hgr4.block _ (by simp; omega) (hne _ (by omega))).trans (al_old HZ.out _); have HB4 : Hid (Below w.heap.size w W4) := (HB.out.alloc (by omega) _).grown hgr4 (by simp; omega) (fun j hj => by have := (HR.out.lt j hj).1; omega); have hs4 : w.heap.size + 2 ≤ W4.heap.size := Nat.le_trans hss (Nat.le_trans (by simp) hgr4.size); obtain ⟨g4, cap4, rfl⟩ := ownsRow_succ hown4; have HO4 := Lib.hid hown4; have z0 : W4.cell? ⟨w.heap.size + 1, 0, none⟩ = some (.slice x k cx) := cell_h HA4.out rfl; have zf : W4.frozen? ⟨w.heap.size + 1, 0, none⟩ = false := (by simp [World.frozen?, HA4.out]); clear hown4 hgrow4 hgr4 hne)
      refine ⟨⟨k + 1, by omega, by go_num, ⟨some ⟨g4, 0, none⟩, cap4, ?_, ?_⟩, ?_, ?_, ?_⟩, by simp [intOf]; omega⟩
      · rw [heap_set HA4.out]; rfl
      · have h := ownsRow_setCell_below HO4.out (a := ⟨w.heap.size + 1, 0, none⟩) (by show w.heap.size + 1 < w.heap.size + 2; omega) (.slice (some ⟨g4, 0, none⟩) (k + 1) cap4)
        rw [HIr.out] at h
        exact h
      · exact (Below.heap_setCell W4 ⟨w.heap.size + 1, 0, none⟩ _ w.heap.size (by show w.heap.size ≠ w.heap.size + 1; omega)).trans HZ4.out
      · exact HB4.out.setCell (by show w.heap.size ≤ w.heap.size + 1; omega) _
      · show w.heap.size + 2 ≤ (W4.setCell _ _).heap.size
        simpa using hs4
    · obtain rfl : k = n := by omega
      have zz0 : wr.cell? ⟨w.heap.size, 0, none⟩ = some (.slice none 0 0) := cell_h HZ.out rfl
      have zz1 : wr.cell? ⟨w.heap.size, 1, none⟩ = some (.slice none 0 0) := cell_h HZ.out rfl
      have zz2 : wr.cell? ⟨w.heap.size, 2, none⟩ = some (.slice none 0 0) := cell_h HZ.out rfl
      have zf : ∀ o, wr.frozen? ⟨w.heap.size, o, none⟩ = false := fun o => by simp [World.frozen?, HZ.out]
      go_wp2_with fail
      have HR3 := ownsRow_setCell_below (ownsRow_setCell_below (ownsRow_setCell_below HR.out (a := ⟨w.heap.size, 0, none⟩) (by show w.heap.size < w.heap.size + 2; omega) (.slice x k cx)) (a := ⟨w.heap.size, 1, none⟩) (by show w.heap.size < w.heap.size + 2; omega) (.slice none 0 0)) (a := ⟨w.heap.size, 2, none⟩) (by show w.heap.size < w.heap.size + 2; omega) (.slice none 0 0)
      obtain ⟨x', c', hv, _, hSl, _⟩ := Ln.own_sl HR3
      cases hv
      exact bodyPost_ret (v := .agg #[.slice x k cx, .slice none 0 0, .slice none 0 0]) (by simp [results, Tryd.results18, go_sem, zz0, zz1, zz2]) rfl ⟨x, cx, rfl, hSl, ((HB.out.setCell (Nat.le_refl _) _).setCell (Nat.le_refl _) _).setCell (Nat.le_refl _) _⟩

/-- What welds tells of a line. -/
def WdEnd (w : World) (n : Nat) (f : Nat → Int) (e : Ending) (W : World) : Prop := ∃ g c, e = .returned (.tuple #[.slice (some ⟨g, 1, none⟩) (n - 1) c, .int .i64 (Ln.endS f n), .bool true]) ∧ Sl W 1 (some ⟨g, 1, none⟩) (n - 1) (fun j => Ln.endS f (j + 1)) ∧ Below w.heap.size w W
set_option maxRecDepth 100000 in
set_option maxHeartbeats 4000000 in
theorem welds_of (w : World) (a : Option Addr) (n c : Nat) (f : Nat → Int) (hS : Ln.Sl w 7 a n f) (h : Ln.chk n 0 0 f (fun _ => 0) (fun _ => 0) = 0) :
    Calls Tryd.prog 19 #[.agg #[.slice a n c, .slice none 0 0, .slice none 0 0]] w (WdEnd w n f) := by
  have hn := (Ln.chk_ok h).1
  have HN : ∀ W, Ln.Sl W 3 none 0 (fun _ => 0) ∧ Ln.Sl W 2 none 0 (fun _ => 0) := fun W => ⟨fun h => absurd h (by decide), fun h => absurd h (by decide)⟩
  have HST : Hid (∀ w', Below w.heap.size w w' → Calls Tryd.prog 54 #[.agg #[.slice a n c, .slice none 0 0, .slice none 0 0]] w' (Ln.StP 0 n f w')) := fun w' hb => by
    have := Ln.starts_of w' a none none n c 0 0 0 0 f (fun _ => 0) (fun _ => 0) (hS.keep (by omega) hb) (HN w').1 (HN w').2
    rwa [h] at this
  obtain ⟨m, rfl⟩ : ∃ m, n = m + 1 := ⟨n - 1, by omega⟩
  clear hS h HN
  go_enter Tryd.func19, Tryd.ntmps19
  go_wp2_with fail
  generalize hW : w.alloc (.cells #[.slice a (m + 1) c, .slice none 0 0, .slice none 0 0] 55) = W
  have hB : Below w.heap.size w W := by rw [← hW]; exact (Below.refl _ _).alloc (Nat.le_refl _) _
  have hA : W.heap[w.heap.size]? = some (.cells #[.slice a (m + 1) c, .slice none 0 0, .slice none 0 0] 55 (0, 0)) := by rw [← hW]; exact World.alloc_heap_new w _
  have HB := Lib.hid hB
  clear hW hB
  refine (HST.out W HB.out).mono ?_
  rintro e W2 ⟨hb2, ⟨h0, _⟩ | ⟨_, v, rfl, hown⟩⟩
  · exact absurd rfl h0
  obtain ⟨g, cap, rfl⟩ := ownsRow_succ hown
  have HB2 := Lib.hid (HB.out.trans (hb2.mono HB.out.size))
  have c0 : W2.cell? ⟨w.heap.size, 0, none⟩ = some (.slice a (m + 1) c) := cell_h ((hb2.block _ (Array.getElem?_eq_some_iff.1 hA).1).trans hA) rfl
  have d0 : W2.cell? ⟨g, m + 1, none⟩ = some (.int .i64 (Ln.endS f (m + 1))) := by
    rw [World.ownsRow.cellAt hown (m + 1) (by omega), Ln.irow_at _ (by omega)]
  have hcap : m + 2 ≤ cap := by
    rcases hown.2 with ⟨h, _⟩ | ⟨_, _, _, h, _, _, h2, _⟩
    · cases h
    · cases h; omega
  have HSl : Hid (Sl W2 1 (some ⟨g, 1, none⟩) m (fun j => Ln.endS f (j + 1))) := fun _ => ⟨g, 1, rfl, fun i hi => by
    rw [World.ownsRow.cellAt hown (1 + i) (by omega), Ln.irow_at _ (by omega), Nat.add_comm 1 i]⟩
  have j1 : (m : Int) + 1 + 1 - 1 = (m : Int) + 1 := by omega
  have k1 : (1 : Int) ≤ (m : Int) + 1 := by omega
  have k2 : (m : Int) + 1 ≤ (cap : Int) := by omega
  have k3 : ¬((cap : Int) = 1) := by omega
  have k4 : (1 : Int) ≤ (cap : Int) := by omega
  have k5 : (0 : Int) ≤ (m : Int) + 1 := by omega
  have k6 : (m : Int) + 1 < (m : Int) + 1 + 1 := by omega
  have k7 : IntKind.i64.wrap ((m : Int) + 1 + 1 - 1) = (m : Int) + 1 := by rw [j1]; exact IntWalk.i64_in _ (by omega)
  have k8 : ¬(cap = 1) := by omega
  have k9 : 1 ≤ cap := by omega
  clear hown hb2 hA hcap j1
  go_wp2_with fail
  go_quiet (fail)
  go_wp2_with fail
  have hb := HB2.out
  exact bodyPost_ret (v := .tuple #[.slice (some ⟨g, 1, none⟩) m (cap - 1), .int .i64 (Ln.endS f (m + 1)), .bool true]) (by simp [results, Tryd.f19, go_sem]) rfl ⟨g, cap - 1, rfl, HSl.out, ⟨hb.os, hb.tape, hb.output, hb.size, hb.block⟩⟩
end Go.Proofs.YtdibljidagiblaaDoor
