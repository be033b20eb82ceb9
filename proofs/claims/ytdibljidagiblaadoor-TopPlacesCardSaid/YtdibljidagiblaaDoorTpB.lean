/-
  WALKS: the law of TopPlaces.
-/
import Derived.Test.YtdibljidagiblaaDoorTpA
import Derived.Test.YtdibljidagiblaaDoorDyK
import Derived.BigQuiet
import Derived.Deep.QuietTactic
import Derived.Deep.RegionHeld3
import Derived.Deep.DeepCutAuto
namespace Go.Proofs.YtdibljidagiblaaDoor
open Go.RowKit

theorem cells_at {W : World} {b o n : Nat} {f : Nat → Int} (h : Ints W b o n f) (l : List Value) (hl : ∀ j u, l[j]? = some u → j < n ∧ u = .int .i64 (f j)) : ∀ (j : Nat) (u : Value), l[j]? = some u → W.cell? ((⟨b, o, none⟩ : Addr).add j) = some u := by
  intro j u hj
  obtain ⟨h1, rfl⟩ := hl j u hj
  have e : (⟨b, o, none⟩ : Addr).add j = ⟨b, o + j, none⟩ := by
    by_cases e : j = 0
    · subst e; simp [Addr.add]
    · simp [Addr.add, e]
  rw [e]
  exact h j h1
theorem brow_cells {f : Nat → Int} {n : Nat} : ∀ (j : Nat) (u : Value), (brow f n)[j]? = some u → j < n * 3 ∧ u = .int .i64 (f j) := by
  intro j u h
  have h1 : j < (brow f n).length := (List.getElem?_eq_some_iff.1 h).1
  rw [brow_length] at h1
  rw [brow_get f h1] at h
  exact ⟨h1, (Option.some.inj h).symm⟩
theorem odo_true {t y x0 x1 : Int} (ht : 0 ≤ t ∧ t ≤ 65535) (hy : 1 ≤ y ∧ y ≤ 256) (h0 : 0 ≤ x0 ∧ x0 ≤ 255) (h1 : 0 ≤ x1 ∧ x1 ≤ 255) :
    ∃ L H, odo t (max (1000 * y - x0) 0) (1000 * y + x1) = (L, H, 0) ∧ 0 ≤ L ∧ L ≤ t * y ∧ t * y ≤ H ∧ H ≤ 16793672 := by
  obtain ⟨lo, hlo⟩ : ∃ lo, max (1000 * y - x0) 0 = lo := ⟨_, rfl⟩
  obtain ⟨hi, hhi⟩ : ∃ hi, 1000 * y + x1 = hi := ⟨_, rfl⟩
  have b1 : 0 ≤ lo ∧ lo ≤ 1000 * y := by omega
  have b2 : 1000 * y ≤ hi ∧ hi ≤ 256255 := by omega
  rw [hlo, hhi]
  have e : odo t lo hi = (t * lo / 1000, ce (t * hi) 1000, 0) := by
    unfold odo
    have hr : rgErr lo hi 0 1000000 = 0 := by
      rcases rg_ways lo hi 0 1000000 with ⟨h, _⟩ | ⟨h, _⟩ | ⟨_, h⟩
      · omega
      · omega
      · exact h
    rw [if_neg (by omega), if_neg (by rw [hr]; simp)]
  have m1 : t * lo ≤ t * y * 1000 := by
    have := Int.mul_le_mul_of_nonneg_left b1.2 ht.1
    rwa [show t * (1000 * y) = t * y * 1000 by rw [Int.mul_left_comm, Int.mul_comm]] at this
  have m2 : t * y * 1000 ≤ t * hi := by
    have := Int.mul_le_mul_of_nonneg_left b2.1 ht.1
    rwa [show t * (1000 * y) = t * y * 1000 by rw [Int.mul_left_comm, Int.mul_comm]] at this
  have m3 := mul_bd ht (show 0 ≤ lo ∧ lo ≤ 1000 * y by omega)
  have m4 := mul_bd ht (show 0 ≤ hi ∧ hi ≤ 256255 by omega)
  refine ⟨_, _, e, by omega, by omega, ?_, ?_⟩ <;> (unfold ce; omega)
theorem btE_ok {a b lo hi : Int} (ha : 0 ≤ a ∧ a < 64) (hb : 0 ≤ b ∧ b < 64) (h : -1073741824 ≤ lo ∧ lo ≤ hi ∧ hi ≤ 1073741824) : btE a b lo hi = 0 := by
  unfold btE
  rw [if_pos ⟨ha, hb⟩]
  rcases rg_ways lo hi (-1073741824) 1073741824 with ⟨h, _⟩ | ⟨h, _⟩ | ⟨_, h⟩
  · omega
  · omega
  · exact h
/-- Between of a range without an error. -/
theorem between_ok (w : World) (a b : Nat) (lo hi : Int) (ha : a < 64) (hb : b < 64) (h : -1073741824 ≤ lo ∧ lo ≤ hi ∧ hi ≤ 1073741824) :
    Calls Tryd.prog 12 #[.int .i64 (a : Int), .int .i64 (b : Int), .agg #[.int .i64 lo, .int .i64 hi]] w fun e W => ∃ x o c, e = .returned (.tuple #[.slice (some ⟨x, o, none⟩) 2 c, .int .i64 0]) ∧ (∀ (j : Nat) (u : Value), (brow (btF a b lo hi) 2)[j]? = some u → W.cell? ((⟨x, o, none⟩ : Addr).add j) = some u) ∧ Below w.heap.size w W := by
  have hE : btE (a : Int) b lo hi = 0 := btE_ok (by omega) (by omega) h
  have hN : btN (a : Int) b lo hi = 2 := by unfold btN; rw [if_pos hE]
  refine (between_of w a b lo hi).mono ?_
  rintro e W ⟨x, c, rfl, hS, hB⟩
  rw [hN] at hS ⊢
  rw [hE]
  obtain ⟨x2, o2, rfl, hI⟩ := hS (by omega)
  exact ⟨x2, o2, c, rfl, cells_at hI _ brow_cells, hB⟩
theorem row_keep {W W' : World} {B e sz m : Nat} {v : Value} {xs : List Value} (h : W.ownsRow B e sz v m xs) (hb : Below W.heap.size W W') : W'.ownsRow B e sz v m xs := by
  refine ⟨h.1, ?_⟩
  rcases h.2 with hn | ⟨g, cap, cur, rfl, hg, hc, hr⟩
  · exact .inl hn
  · exact .inr ⟨g, cap, cur, rfl, hg, (hb.block g (Array.getElem?_eq_some_iff.1 hc).1).trans hc, hr⟩
/-- What the loop over the ticks keeps. -/
structure Tk (w W : World) (N : Nat) (pl : Nat → Int) (k : Nat) (vt vl : Value) : Prop where
  row : ∃ g cap, vt = .slice (some ⟨g, 0, none⟩) (k + 1) cap ∧ W.ownsRow w.heap.size 3 1 vt (k + 1) (jrow pl (k + 1))
  bds : ∃ g cap cnt F, vl = .slice (some ⟨g, 0, none⟩) cnt cap ∧ cnt ≤ 9 + k * 4 ∧ TrueB N pl cnt F ∧ (∀ j, j ≤ k → Wy F cnt j) ∧ W.ownsRow w.heap.size 104 3 vl cnt (brow F cnt)
  below : Below w.heap.size w W

set_option maxRecDepth 100000 in
set_option maxHeartbeats 8000000 in
theorem topPlaces_law (w : World) (a : Option Addr) (n c : Nat) (s : Nat → Int) (z x0 x1 M q : Int)
    (hn : n ≤ maxLen) (hs : ∀ i, i < n → 0 ≤ s i ∧ s i ≤ 65535) (hS : Sh w a n s) (hz : 0 ≤ z ∧ z ≤ 255) (h0 : 0 ≤ x0 ∧ x0 ≤ 255) (h1 : 0 ≤ x1 ∧ x1 ≤ 255) (hq : 0 ≤ q ∧ q ≤ 255) (hT : Dy.Tab w) :
    Calls Tryd.prog 3 #[.slice a n c, .int .u8 z, .agg #[.int .u8 x0, .int .u8 x1], .int .u16 M, .int .u8 q] w fun e w' => e = .returned (.bool true) ∧ Below w.heap.size w w' := by
  have hmx : maxLen = 9223372036854775807 := rfl
  have HT := Lib.hid hT
  have HA : Hid (∀ W, Below w.heap.size w W → Calls Tryd.prog 9 #[] W fun e w' => e = .returned (.bool true) ∧ Below W.heap.size W w') := fun W hW => Dy.adds_of W (HT.out.keep hW)
  clear hT
  by_cases hc : n < 1 ∨ 9 < n
  · clear hs hS HT
    rcases (by omega : n = 0 ∨ (1 ≤ n ∧ 9 < n)) with h2 | ⟨h2, h3⟩
    all_goals
      clear hc
      go_enter Tryd.func3, Tryd.ntmps3
      go_wp2_with fail
      refine (HA.out _ ((Below.refl _ _).alloc (Nat.le_refl _) _)).mono ?_
      rintro e w2 ⟨rfl, hB2⟩
      have HB2 := Lib.hid (((Below.refl _ w).alloc (Nat.le_refl _) (.cells #[.int .u8 x0, .int .u8 x1] 23)).trans (hB2.mono (by simp)))
      clear hB2
      go_wp2_with fail
      go_ret
      exact ⟨rfl, HB2.out⟩
  have hn1 : 1 ≤ n ∧ n ≤ 9 := by omega
  have ez : IntKind.i64.wrap z = z := IntWalk.i64_in _ (by omega)
  have ez1 : IntKind.i64.wrap (1 + z) = 1 + z := IntWalk.i64_in _ (by omega)
  obtain ⟨y, hy⟩ : ∃ y, 1 + z = y := ⟨_, rfl⟩
  have hy1 : 1 ≤ y ∧ y ≤ 256 := by omega
  rw [hy] at ez1
  have HS := Lib.hid hS
  have HSb := Lib.hid hs
  have HPb : Hid (∀ k, k ≤ n → 0 ≤ tkP s y k ∧ tkP s y k ≤ k * 16776960) := tkP_bd HSb.out hy1
  have HTb : Hid (∀ i, i < n → 0 ≤ s i * y ∧ s i * y ≤ 16776960) := tk_bd HSb.out hy1
  clear hs hS hc hmx hn
  have ec : (1 : Int) ≤ (n : Int) ∧ (n : Int) ≤ 9 := by omega
  go_enter Tryd.func3, Tryd.ntmps3
  go_wp2_with fail
  generalize hW1 : w.alloc (.cells #[.int .u8 x0, .int .u8 x1] 23) = W1
  have hB1 : Below w.heap.size w W1 := by rw [← hW1]; exact (Below.refl _ _).alloc (Nat.le_refl _) _
  have hA1 : W1.heap[w.heap.size]? = some (.cells #[.int .u8 x0, .int .u8 x1] 23 (0, 0)) := by rw [← hW1]; exact World.alloc_heap_new w _
  have hsz : W1.heap.size = w.heap.size + 1 := by rw [← hW1]; simp
  rw [← hsz]
  have HX : Hid (∀ W, Below W1.heap.size W1 W → W.cell? ⟨w.heap.size, 0, none⟩ = some (.int .u8 x0) ∧ W.cell? ⟨w.heap.size, 1, none⟩ = some (.int .u8 x1)) := fun W hW => by
    have h := (hW.block _ (Array.getElem?_eq_some_iff.1 hA1).1).trans hA1
    exact ⟨cell_h h rfl, cell_h h rfl⟩
  have hL0 := World.ownsRow_lit (base := W1.heap.size) (e := 3) (size := 1) W1 #[.int .i64 0] 1 (by omega) (by decide) rfl
  have HL0 : Hid ((W1.alloc (.cells #[.int .i64 0] 3)).ownsRow W1.heap.size 3 1 (.slice (some ⟨W1.heap.size, 0, none⟩) 1 1) 1 (jrow (tkP s y) 1)) := hL0
  have HB1 := Lib.hid hB1
  have HSZ := Lib.hid hsz
  have hB2 : Below W1.heap.size W1 (W1.alloc (.cells #[.int .i64 0] 3)) := (Below.refl _ _).alloc (Nat.le_refl _) _
  clear hW1 hA1 hsz hB1 hL0
  generalize hW2 : W1.alloc (.cells #[.int .i64 0] 3) = W2 at HL0 hB2
  clear hW2
  have HB2 := Lib.hid hB2
  clear hB2
  refine (forward_row W2 n (by omega)).mono ?_
  rintro e W3 ⟨g3, cap3, rfl, hO3, hB3⟩
  have hk0 : Hid (W3.ownsRow W1.heap.size 3 1 (.slice (some ⟨W1.heap.size, 0, none⟩) 1 1) 1 (jrow (tkP s y) 1)) := by
    rcases HL0.out.2 with ⟨h, _⟩ | ⟨g, cap, cur, h, hg, hh, hr⟩
    · cases h
    · exact ⟨HL0.out.1, .inr ⟨g, cap, cur, h, hg, (hB3.block _ (Array.getElem?_eq_some_iff.1 hh).1).trans hh, hr⟩⟩
  have hmono : ∀ i, i < n → tkP s y i ≤ tkP s y (i + 1) := fun i hi => by rw [tkP_succ]; have := HTb.out i hi; omega
  have HK3 : Hid (Tk W1 W3 (n + 1) (tkP s y) 0 (.slice (some ⟨W1.heap.size, 0, none⟩) 1 1) (.slice (some ⟨g3, 0, none⟩) n cap3)) := ⟨⟨_, _, rfl, hk0.out⟩, ⟨_, _, n, fwF, rfl, by omega, fw_true hmono (Nat.le_refl _), fun j hj => by
      obtain rfl : j = 0 := by omega
      exact Wy.zero _ _, own_base hO3 HB2.out.size⟩, HB2.out.trans (hB3.mono HB2.out.size)⟩
  clear hO3 hB3 hk0 hmono HL0 HB2
  go_wp2_with fail
  go_loopw [12, 13, 58] (fun vt vl vi wr => ∃ k : Nat, k ≤ n ∧ vi = .int .i64 k ∧ Hid (Tk W1 wr (n + 1) (tkP s y) k vt vl)) (fun _ _ vi _ => n - (intOf vi).toNat)
  case atStart => exact ⟨0, by omega, rfl, HK3⟩
  case round =>
    obtain ⟨k, hk, rfl, HK⟩ := hrel
    obtain ⟨g, cap, rfl, hO⟩ := HK.out.row
    obtain ⟨gb, capb, cnt, F, rfl, hcnt, hTr, hWy, hOb⟩ := HK.out.bds
    have HB := Lib.hid HK.out.below
    have HO := Lib.hid hO
    have HOb := Lib.hid hOb
    have HTr := Lib.hid hTr
    have HWy := Lib.hid hWy
    clear hO hOb hTr hWy HK HK3
    by_cases hlt : k < n
    · obtain ⟨b, o, rfl, d0⟩ := HS.out.cell (HB1.out.trans (HB.out.mono (by rw [HSZ.out]; omega))) hlt
      have dg : wr.cell? ⟨g, k, none⟩ = some (.int .i64 (tkP s y k)) := by
        rw [World.ownsRow.cellAt HO.out k (by omega), jrow_get _ (by omega)]
      have hb1 := HPb.out k hk
      have hb2 := HTb.out k hlt
      have hb3 := HSb.out k hlt
      have hb4 := HPb.out (k + 1) (by omega)
      have e0 : IntKind.i64.wrap (s k) = s k := IntWalk.i64_in _ (by omega)
      have e1 : IntKind.i64.wrap (s k * y) = s k * y := IntWalk.i64_in _ (by omega)
      have e2 : IntKind.i64.wrap (tkP s y k + s k * y) = tkP s y (k + 1) := by rw [← tkP_succ]; exact IntWalk.i64_in _ (by omega)
      have hss := HB.out.size
      have hap : gb ≠ g := own_apart HOb.out HO.out (by decide)
      obtain ⟨i0, hi0, hz0, hz1, hz2⟩ := info_parts x_int
      have HI0 : Hid (Tryd.prog.info? 3 = some i0 ∧ i0.zero = some (.int .i64 0) ∧ i0.size = 1 ∧ i0.bytes = 8) := ⟨hi0, hz0, hz1, hz2⟩
      have f0 : IntKind.i64.wrap x0 = x0 := IntWalk.i64_in _ (by omega)
      have f1 : IntKind.i64.wrap x1 = x1 := IntWalk.i64_in _ (by omega)
      have f2 : IntKind.i64.wrap (1000 * y) = 1000 * y := IntWalk.i64_in _ (by omega)
      have f3 : IntKind.i64.wrap (1000 * y - x0) = 1000 * y - x0 := IntWalk.i64_in _ (by omega)
      have f4 : IntKind.i64.wrap (1000 * y + x1) = 1000 * y + x1 := IntWalk.i64_in _ (by omega)
      obtain ⟨L, H, hodo, hL0, hL1, hH1, hH2⟩ := odo_true hb3 hy1 h0 h1
      have HODO := Lib.hid hodo
      clear hi0 hz0 hz1 hz2 hodo
      go_wp2_with (at_builtin; refine wpList_append_own _ rfl _ _ 26 rfl W1.heap.size 3 i0 (.int .i64 0) 1 8 Tryd.underlying26 HI0.out.1 HI0.out.2.1 HI0.out.2.2.1 HI0.out.2.2.2 rfl (by decide) _ (k + 1) _ rfl (HO.out.alloc _) ⟨wr.heap.size, 0, none⟩ 1 1 [.int .i64 (tkP s y (k + 1))] rfl rfl (cell_one _ _ _) (by simp [Value.oneCell']) (by unfold maxLen; omega) (by omega) (by simp; omega) ?_; intro v4 W4 hown4 hgrow4 _; have hgr4 : (wr.alloc (.cells #[.int .i64 (tkP s y (k + 1))] 3)).grownBy W4 (some g) := hgrow4; have HO4 : Hid (W4.ownsRow W1.heap.size 3 1 v4 (k + 1 + 1) (jrow (tkP s y) (k + 1 + 1))) := (by rw [jrow_succ _ (k + 1)]; exact hown4); have HOb4 : Hid (W4.ownsRow W1.heap.size 104 3 (.slice (some ⟨gb, 0, none⟩) cnt capb) cnt (brow F cnt)) := ((HOb.out.alloc _).kept hgr4 (.inr (by simp [Value.ownBlock, hap]))); have HB4 : Hid (Below W1.heap.size W1 W4) := (HB.out.alloc hss _).grown hgrow4 (by simp; omega) (fun j hj => (HO.out.lt j hj).1); obtain ⟨c0, c1⟩ := HX.out W4 HB4.out; obtain ⟨g4, cap4, rfl⟩ := ownsRow_succ hown4; clear hown4 hgrow4 hgr4 dg d0)
      refine (odometer_of W4 (s k) (max (1000 * y - x0) 0) (1000 * y + x1)).mono ?_
      rintro e W5 ⟨rfl, hB5⟩
      rw [HODO.out]
      dsimp only [resV]
      have HO5 := Lib.hid (row_keep HO4.out hB5)
      have HOb5 := Lib.hid (row_keep HOb4.out hB5)
      have HB5 := Lib.hid (HB4.out.trans (hB5.mono HB4.out.size))
      have hs5 := HB5.out.size
      have ek : IntKind.i64.wrap ((k : Int) + 1) = (k : Int) + 1 := IntWalk.i64_in _ (by omega)
      clear hB5 c0 c1 HO4 HOb4 HB4 HO HOb HB f0 f1 f2 f3 f4 e0 e1 e2
      have hB6 : Below W5.heap.size W5 (W5.alloc (.cells #[.int .i64 L, .int .i64 H] 32)) := (Below.refl _ _).alloc (Nat.le_refl _) _
      go_wp2_with fail
      generalize W5.alloc (.cells #[.int .i64 L, .int .i64 H] 32) = W6 at hB6 ⊢
      have HO6 := Lib.hid (row_keep HO5.out hB6)
      have HOb6 := Lib.hid (row_keep HOb5.out hB6)
      have HB6 := Lib.hid (HB5.out.trans (hB6.mono HB5.out.size))
      clear hB6 HO5 HOb5 HB5 hs5
      have hbt : Calls Tryd.prog 12 #[.int .i64 (k : Int), .int .i64 ((k : Int) + 1), .agg #[.int .i64 L, .int .i64 H]] W6 fun e W => ∃ x o c, e = .returned (.tuple #[.slice (some ⟨x, o, none⟩) 2 c, .int .i64 0]) ∧ (∀ (j : Nat) (u : Value), (brow (btF (k : Int) ((k + 1 : Nat) : Int) L H) 2)[j]? = some u → W.cell? ((⟨x, o, none⟩ : Addr).add j) = some u) ∧ Below W6.heap.size W6 W := between_ok W6 k (k + 1) L H (by omega) (by omega) (by omega)
      refine hbt.mono ?_
      rintro e W7 ⟨bx, bo, bc, rfl, hcl7, hB7⟩
      have HCl7 := Lib.hid hcl7
      have HO7 := Lib.hid (row_keep HO6.out hB7)
      have HOb7 := Lib.hid (row_keep HOb6.out hB7)
      have HB7 := Lib.hid (HB6.out.trans (hB7.mono HB6.out.size))
      have hs7 := HB7.out.size
      have HTr7 : Hid (TrueB (n + 1) (tkP s y) (cnt + 2) (cat F cnt (btF (k : Int) ((k + 1 : Nat) : Int) L H))) := HTr.out.cat (bt_true (by omega) (by omega) (by rw [tkP_succ]; omega) (by rw [tkP_succ]; omega))
      have HWy7 : Hid (∀ j, j ≤ k + 1 → Wy (cat F cnt (btF (k : Int) ((k + 1 : Nat) : Int) L H)) (cnt + 2) j) := fun j hj => by
        by_cases e : j = k + 1
        · subst e; exact (HWy.out k (Nat.le_refl _)).next
        · exact (HWy.out j (by omega)).more
      clear hcl7 hB7 HO6 HOb6 HB6 HTr HWy hbt
      generalize hF7 : cat F cnt (btF (k : Int) ((k + 1 : Nat) : Int) L H) = F7 at HTr7 HWy7
      obtain ⟨ib, hib, hbz0, hbz1, hbz2⟩ := info_parts x_bd3
      have HIB : Hid (Tryd.prog.info? 104 = some ib ∧ ib.zero = some (.agg #[.int .i64 0, .int .i64 0, .int .i64 0]) ∧ ib.size = 3 ∧ ib.bytes = 24) := ⟨hib, hbz0, hbz1, hbz2⟩
      clear hib hbz0 hbz1 hbz2
      have hF7' : Hid (brow F cnt ++ brow (btF (k : Int) ((k + 1 : Nat) : Int) L H) 2 = brow F7 (cnt + 2)) := by rw [← hF7]; exact (brow_cat _ _ _ _).symm
      have hap4 : g4 ≠ gb := fun e => by
        have := own_apart HOb7.out HO7.out (by decide)
        exact this e.symm
      clear hF7
      go_wp2_with (at_builtin; refine wpList_append_own _ rfl _ _ 27 rfl W1.heap.size 104 ib (.agg #[.int .i64 0, .int .i64 0, .int .i64 0]) 3 24 Tryd.underlying27 HIB.out.1 HIB.out.2.1 HIB.out.2.2.1 HIB.out.2.2.2 rfl (by decide) _ cnt _ rfl HOb7.out ⟨bx, bo, none⟩ 2 bc (brow (btF (k : Int) ((k + 1 : Nat) : Int) L H) 2) rfl (brow_length _ _) HCl7.out (brow_ints _ _) (by unfold maxLen; omega) (by omega) hs7 ?_; intro v8 W8 hown8 hgrow8 _; have hgr8 : W7.grownBy W8 (some gb) := hgrow8; have HOb8 : Hid (W8.ownsRow W1.heap.size 104 3 v8 (cnt + 2) (brow F7 (cnt + 2))) := (by rw [← hF7'.out]; exact hown8); have HO8 : Hid (W8.ownsRow W1.heap.size 3 1 (.slice (some ⟨g4, 0, none⟩) (k + 1 + 1) cap4) (k + 1 + 1) (jrow (tkP s y) (k + 1 + 1))) := (HO7.out.kept hgr8 (.inr (by simp [Value.ownBlock, hap4]))); have HB8 : Hid (Below W1.heap.size W1 W8) := HB7.out.grown hgr8 hs7 (fun j hj => by cases hj; exact (HOb7.out.lt gb rfl).1); obtain ⟨g8, cap8, rfl⟩ := ownsRow_succ hown8; clear hown8 hgrow8 hgr8)
      · have wq : IntKind.i64.wrap q = q := IntWalk.i64_in _ (by omega)
        have q1 : IntKind.i64.wrap (tkP s y (k + 1) - q) = tkP s y (k + 1) - q := IntWalk.i64_in _ (by omega)
        have q2 : IntKind.i64.wrap (tkP s y (k + 1) + q) = tkP s y (k + 1) + q := IntWalk.i64_in _ (by omega)
        have HB8d : Hid (Below W1.heap.size W1 W8.drew) := HB8.out.drew
        have HO8d := Lib.hid HO8.out.drew
        have HOb8d := Lib.hid HOb8.out.drew
        have hcd : W8.drew.cell? ⟨g4, k + 1, none⟩ = some (.int .i64 (tkP s y (k + 1))) := by
          rw [World.ownsRow.cellAt HO8d.out (k + 1) (by omega), jrow_get _ (by omega)]
        have hTr9 : TrueB (n + 1) (tkP s y) (cnt + 2 + 2) (cat F7 (cnt + 2) (btF ((0 : Nat) : Int) ((k + 1 : Nat) : Int) (tkP s y (k + 1) - q) (tkP s y (k + 1) + q))) := HTr7.out.cat (bt_true (by omega) (by omega) (by show _ ∧ _ ≤ tkP s y (k + 1) - 0; omega) (by show tkP s y (k + 1) - 0 ≤ _ ∧ _; omega))
        have HTr9 := Lib.hid hTr9
        have HWy9 : Hid (∀ j, j ≤ k + 1 → Wy (cat F7 (cnt + 2) (btF ((0 : Nat) : Int) ((k + 1 : Nat) : Int) (tkP s y (k + 1) - q) (tkP s y (k + 1) + q))) (cnt + 2 + 2) j) := fun j hj => (HWy7.out j hj).more
        have HBt : Hid (∀ W, Calls Tryd.prog 12 #[.int .i64 0, .int .i64 ((k : Int) + 1), .agg #[.int .i64 (tkP s y (k + 1) - q), .int .i64 (tkP s y (k + 1) + q)]] W fun e W' => ∃ x o c, e = .returned (.tuple #[.slice (some ⟨x, o, none⟩) 2 c, .int .i64 0]) ∧ (∀ (j : Nat) (u : Value), (brow (btF ((0 : Nat) : Int) ((k + 1 : Nat) : Int) (tkP s y (k + 1) - q) (tkP s y (k + 1) + q)) 2)[j]? = some u → W'.cell? ((⟨x, o, none⟩ : Addr).add j) = some u) ∧ Below W.heap.size W W') := fun W => between_ok W 0 (k + 1) _ _ (by omega) (by omega) (by omega)
        have j0 : (0 : Int) ≤ (k : Int) + 1 := by omega
        have j1 : (k : Int) + 1 < (k : Int) + 1 + 1 := by omega
        have j2 : (k : Int) + 1 ≤ (k : Int) + 1 + 1 := by omega
        clear hTr9
        generalize btF ((0 : Nat) : Int) ((k + 1 : Nat) : Int) (tkP s y (k + 1) - q) (tkP s y (k + 1) + q) = G9 at HTr9 HWy9 HBt
        go_region_held3 (fun W' => W'.cell? ⟨g4, k + 1, none⟩ = some (.int .i64 (tkP s y (k + 1)))) (with_reducible assumption) ((go_at_call 12; refine (HBt.out _).mono ?_; rintro e W9 ⟨x9, o9, c9, rfl, hcl9, hB9⟩; have hcd9 : W9.cell? ⟨g4, k + 1, none⟩ = some (.int .i64 (tkP s y (k + 1))) := (hB9.cell (p := ⟨g4, k + 1, none⟩) (World.block_lt_of_cell? _ _ hcd)).trans hcd))
        all_goals
          have HCl9 := Lib.hid hcl9
          have HO9 := Lib.hid (row_keep HO8d.out hB9)
          have HOb9 := Lib.hid (row_keep HOb8d.out hB9)
          have HB9 := Lib.hid (HB8d.out.trans (hB9.mono HB8d.out.size))
          have hs9 := HB9.out.size
          have hap8 : g4 ≠ g8 := fun e => by
            have := own_apart HOb9.out HO9.out (by decide)
            exact this e.symm
          have hF9 : Hid (brow F7 (cnt + 2) ++ brow G9 2 = brow (cat F7 (cnt + 2) G9) (cnt + 2 + 2)) := (brow_cat _ _ _ _).symm
          generalize cat F7 (cnt + 2) G9 = F9 at HTr9 HWy9 hF9
          clear hcl9 hB9 hcd9 hcd HO8 HO8d HOb8 HOb8d HB8d HB8 HBt
          go_wp2_with (at_builtin; refine wpList_append_own _ rfl _ _ 27 rfl W1.heap.size 104 ib (.agg #[.int .i64 0, .int .i64 0, .int .i64 0]) 3 24 Tryd.underlying27 HIB.out.1 HIB.out.2.1 HIB.out.2.2.1 HIB.out.2.2.2 rfl (by decide) _ (cnt + 2) _ rfl HOb9.out ⟨x9, o9, none⟩ 2 c9 (brow G9 2) rfl (brow_length _ _) HCl9.out (brow_ints _ _) (by unfold maxLen; omega) (by omega) hs9 ?_; intro v10 W10 hown10 hgrow10 _; have hgr10 : W9.grownBy W10 (some g8) := hgrow10; have HOb10 : Hid (W10.ownsRow W1.heap.size 104 3 v10 (cnt + 2 + 2) (brow F9 (cnt + 2 + 2))) := (by rw [← hF9.out]; exact hown10); have HO10 : Hid (W10.ownsRow W1.heap.size 3 1 (.slice (some ⟨g4, 0, none⟩) (k + 1 + 1) cap4) (k + 1 + 1) (jrow (tkP s y) (k + 1 + 1))) := (HO9.out.kept hgr10 (.inr (by simp [Value.ownBlock, hap8]))); have HB10 : Hid (Below W1.heap.size W1 W10) := HB9.out.grown hgr10 hs9 (fun j hj => by cases hj; exact (HOb9.out.lt g8 rfl).1); obtain ⟨g10, cap10, rfl⟩ := ownsRow_succ hown10; clear hown10 hgrow10 hgr10)
          exact ⟨⟨k + 1, by omega, by go_num, ⟨⟨g4, cap4, rfl, HO10.out⟩, ⟨g10, cap10, cnt + 2 + 2, F9, rfl, by omega, HTr9.out, HWy9.out, HOb10.out⟩, HB10.out⟩⟩, by simp [intOf]; omega⟩
      · exact ⟨⟨k + 1, by omega, by go_num, ⟨⟨g4, cap4, rfl, HO8.out⟩, ⟨g8, cap8, cnt + 2, F7, rfl, by omega, HTr7.out, HWy7.out, HOb8.out⟩, HB8.out⟩⟩, by simp [intOf]; omega⟩
    · obtain rfl : k = n := by omega
      have HL : Hid (Sl wr 3 (some ⟨gb, 0, none⟩) cnt F) := by
        obtain ⟨x, c', e1, h⟩ := brow_own HOb.out
        cases e1
        exact h
      have HI := Lib.hid (own_in HO.out)
      have hN64 : 1 ≤ k + 1 ∧ k + 1 ≤ 64 := by omega
      have hcn : cnt ≤ 256 := by omega
      have HBk := Lib.hid (HTr.out.bok hN64 hcn)
      have HNc := Lib.hid (true_noclash HTr.out hN64 hcn)
      have HFt : Hid (fitR ((k + 1 : Nat) : Int) cnt F (k + 1) (tkP s y) = (-1, 0)) := fits_true2 HTr.out hN64 hcn fun i hi => by have := HPb.out i (by omega); omega
      clear HO HOb HX HSb HTb HS
      go_wp2_with fail
      refine (fits_of wr ((k + 1 : Nat) : Int) (some ⟨gb, 0, none⟩) (some ⟨g, 0, none⟩) cnt capb (k + 1) cap F (tkP s y) (by omega) HL.out HI.out).mono ?_
      rintro e V1 ⟨rfl, hb1⟩
      rw [HFt.out]
      dsimp only [ft2]
      have HV1 := Lib.hid (HB.out.trans (hb1.mono HB.out.size))
      have HL1 := Lib.hid (HL.out.keep (by decide) hb1)
      have HI1 := Lib.hid (HI.out.keep (by decide) hb1)
      clear hb1 HL HI HB HFt
      go_wp2_with fail
      refine (clash_none V1 F (k + 1) cnt capb (some ⟨gb, 0, none⟩) HBk.out HL1.out HNc.out).mono ?_
      rintro e V2 ⟨rfl, hb2⟩
      have HV2 := Lib.hid (HV1.out.trans (hb2.mono HV1.out.size))
      have HL2 := Lib.hid (HL1.out.keep (by decide) hb2)
      have HI2 := Lib.hid (HI1.out.keep (by decide) hb2)
      clear hb2 HL1 HI1 HV1
      go_wp2_with fail
      refine (limits_ok V2 F (k + 1) cnt capb (some ⟨gb, 0, none⟩) HBk.out HL2.out HNc.out).mono ?_
      rintro e V3 ⟨B, rfl, hb, hLm, hb3⟩
      have HV3 := Lib.hid (HV2.out.trans (hb3.mono HV2.out.size))
      have HL3 := Lib.hid (HL2.out.keep (by decide) hb3)
      have HI3 := Lib.hid (HI2.out.keep (by decide) hb3)
      have HLm := Lib.hid hLm
      have hBV : B < V3.heap.size := hLm.lt
      have HW3 : Hid (Below V3.heap.size V3 V3) := Below.refl _ _
      clear hb3 HL2 HI2 HV2 hLm hb
      go_wp2_with fail
      go_loopw [191] (fun vi vr => ∃ j : Nat, j ≤ k + 1 ∧ vi = .int .i64 j ∧ Hid (Below V3.heap.size V3 vr)) (fun vi _ => k + 1 - (intOf vi).toNat)
      case atStart => exact ⟨0, by omega, rfl, HW3⟩
      case round =>
        obtain ⟨j, hj, rfl, HR⟩ := hrel
        by_cases hlt2 : j < k + 1
        · have hjE : j < k + 1 := hlt2
          have hjn : (j : Int) < (k : Int) + 1 := by omega
          have hjn2 : (j : Int) ≤ (k : Int) + 1 := by omega
          have hBK := HLm.out.keep HR.out hBV
          have e0 := hBK.cell (k := j * 4) (by omega)
          have e1 := hBK.cell (k := j * 4 + 1) (by omega)
          have e2 := hBK.cell (k := j * 4 + 2) (by omega)
          have e3 := hBK.cell (k := j * 4 + 3) (by omega)
          rw [lmV_0] at e0
          rw [lmV_1] at e1
          rw [lmV_2] at e2
          rw [lmV_3] at e3
          have hu := (ptU_min HBk.out HTr.out.keeps.noNeg j).2 (HWy.out j (by omega)).1
          have hd := (ptD_min HBk.out HTr.out.keeps.noNeg j).2 (HWy.out j (by omega)).2
          have hin := holds_lim HTr.out HTr.out hN64 (Nat.le_refl _) hcn (fun _ _ => rfl) rfl j
          have hl1 := (hin.1 hd).1
          have hl2 := (hin.2 hu).1
          have CU : Hid (∀ W, Below V3.heap.size V3 W → Calls Tryd.prog 16 #[.int .i64 ((k + 1 : Nat) : Int), .slice (some ⟨gb, 0, none⟩) cnt capb, .int .i64 (j : Int), .bool true] W (ChEnd W (k + 1) cnt F j 0 j ((ptU F cnt (k + 1)).kn j) ((ptU F cnt (k + 1)).mo j))) := fun W hW => chain_up W F (k + 1) cnt capb j (some ⟨gb, 0, none⟩) HBk.out hjE (HL3.out.keep (by decide) hW) HNc.out
          rw [hu] at e3 CU
          rw [hd] at e2
          have di := (HI3.out.keep (by decide) HR.out)
          obtain ⟨xb, xo, hx, hI⟩ := di (by omega)
          cases hx
          have d0 := hI j (by omega)
          rw [Nat.zero_add] at d0
          have hpb := HPb.out j (by omega)
          have hde := ptD_le HBk.out j
          generalize (ptU F cnt (k + 1)).mo j = H1 at e1 CU hl2
          generalize (ptD F cnt (k + 1)).mo j = M1 at e0 hl1 hde
          generalize hP : tkP s y j = P at d0 hl1 hl2 hpb
          have t1 : decide (P < -M1) = false := decide_eq_false (by omega)
          have t2 : decide (H1 < P) = false := decide_eq_false (by omega)
          clear hu hd hin hBK hI di hl1 hl2 hpb hde
          have hB4 : Below wr.heap.size wr (wr.alloc (.cells #[.int .i64 (-M1), .int .i64 H1, .bool true, .bool true] 44)) := (Below.refl _ _).alloc (Nat.le_refl _) _
          have a4 := World.alloc_heap_new wr (.cells #[.int .i64 (-M1), .int .i64 H1, .bool true, .bool true] 44)
          have d4 := (hB4.cell (p := ⟨g, j, none⟩) (World.block_lt_of_cell? _ _ d0)).trans d0
          have hj0 : (0 : Int) ≤ (j : Int) := by omega
          have HLast : Hid (∀ wz, Hid (Below V3.heap.size V3 wz) → (∃ j' : Nat, j' ≤ k + 1 ∧ (.int .i64 ((j : Int) + 1) : Value) = .int .i64 j' ∧ Hid (Below V3.heap.size V3 wz))) := fun wz hz => ⟨j + 1, by omega, by go_num, hz⟩
          go_wp2_with fail
          generalize wr.alloc (.cells #[.int .i64 (-M1), .int .i64 H1, .bool true, .bool true] 44) = W4 at hB4 a4 d4 ⊢
          have c0 : W4.cell? ⟨wr.heap.size, 0, none⟩ = some (.int .i64 (-M1)) := cell_h a4 rfl
          have c1 : W4.cell? ⟨wr.heap.size, 1, none⟩ = some (.int .i64 H1) := cell_h a4 rfl
          have c2 : W4.cell? ⟨wr.heap.size, 2, none⟩ = some (.bool true) := cell_h a4 rfl
          have c3 : W4.cell? ⟨wr.heap.size, 3, none⟩ = some (.bool true) := cell_h a4 rfl
          have HB4 := Lib.hid (HR.out.trans (hB4.mono HR.out.size))
          have HA4 := Lib.hid a4
          clear hB4 a4 d0 e0 e1 e2 e3
          go_quiet (fail)
          have HA5 : Hid ((W4.drewN nq).heap[wr.heap.size]? = some (.cells #[.int .i64 (-M1), .int .i64 H1, .bool true, .bool true] 44 (0, 0))) := HA4.out
          have HB5 : Hid (Below V3.heap.size V3 (W4.drewN nq)) := ⟨HB4.out.os, HB4.out.tape, HB4.out.output, HB4.out.size, HB4.out.block⟩
          clear c0 c1 c2 c3 d4 HA4 HB4 t1 t2
          generalize W4.drewN nq = W5 at HA5 HB5 ⊢
          by_cases hj1 : j = 0
          · subst hj1
            go_wp2_with fail
            exact ⟨HLast.out _ HB5, by first | (simp [intOf]; omega) | simp [intOf]⟩
          · have hne : ((j : Int) == 0) = false := by simp; omega
            go_wp2_with fail
            refine (CU.out W5 HB5.out).mono ?_
            rintro e W6 ⟨vv, l, ev, rfl, hO6, hB6, hway⟩
            obtain ⟨xu, cu, rfl⟩ := own_form hO6
            rcases hway with ⟨h1, _, _⟩ | ⟨_, h0, _⟩ | ⟨_, _, h2, h3, rfl, h5, h6, _⟩
            · cases h1
            · exact absurd h0 hj1
            have hr : chR ((k + 1 : Nat) : Int) cnt F l.length (lf l) = (0, (j : Int), H1, 0) := by
              rw [chR_wk HBk.out h2 (by omega) h5, h6]; rfl
            have hll : l.length ≤ 64 := by omega
            have HRr := Lib.hid hr
            have HA6 := Lib.hid ((hB6.block _ (Array.getElem?_eq_some_iff.1 HA5.out).1).trans HA5.out)
            have HB6 := Lib.hid (HB5.out.trans (hB6.mono HB5.out.size))
            have Su := Lib.hid (own_ln hO6)
            clear hO6 hB6 h2 h3 h5 h6 hr HA5 HB5
            go_wp2_with fail
            refine (chain_of W6 ((k + 1 : Nat) : Int) (some ⟨gb, 0, none⟩) xu cnt capb l.length cu F (lf l) (by omega) (HL3.out.keep (by decide) HB6.out) Su.out).mono ?_
            rintro e W7 ⟨rfl, hB7⟩
            rw [HRr.out]
            dsimp only [ch4]
            have HA7 := Lib.hid ((hB7.block _ (Array.getElem?_eq_some_iff.1 HA6.out).1).trans HA6.out)
            have HB7 := Lib.hid (HB6.out.trans (hB7.mono HB6.out.size))
            have c7 : W7.cell? ⟨wr.heap.size, 1, none⟩ = some (.int .i64 H1) := cell_h HA7.out rfl
            clear hB7 HA6 HB6 Su HRr
            go_wp2_with fail
            exact ⟨HLast.out _ HB7, by simp [intOf]; omega⟩
        · obtain rfl : j = k + 1 := by omega
          go_wp2_with fail
          refine (HA.out _ (HB1.out.trans ((HV3.out.trans (HR.out.mono HV3.out.size)).mono HB1.out.size))).mono ?_
          rintro e V6 ⟨rfl, hB6⟩
          have HB6 := Lib.hid ((HB1.out.trans ((HV3.out.trans (HR.out.mono HV3.out.size)).mono HB1.out.size)).trans (hB6.mono (HB1.out.trans ((HV3.out.trans (HR.out.mono HV3.out.size)).mono HB1.out.size)).size))
          clear hB6
          go_wp2_with fail
          go_ret
          exact ⟨rfl, HB6.out⟩
end Go.Proofs.YtdibljidagiblaaDoor
