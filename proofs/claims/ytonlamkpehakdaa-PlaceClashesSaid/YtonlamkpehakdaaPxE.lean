/-
  WALKS: bounds that are told of places.
-/
import Derived.Test.YtonlamkpehakdaaPxD
import Derived.Deep.AppendLies
import Derived.BigQuiet
import Derived.Deep.QuietTactic
namespace Go.Proofs.Ytonlamkpehakdaa
open Go.RowKit

/-- The ints of n bounds, as cells. -/
def brow (f : Nat → Int) (n : Nat) : List Value := (List.range (n * 3)).map fun i => .int .i64 (f i)
theorem brow_get (f : Nat → Int) {k i : Nat} (h : i < k * 3) : (brow f k)[i]? = some (.int .i64 (f i)) := by simp [brow, h]
theorem brow_length (f : Nat → Int) (n : Nat) : (brow f n).length = n * 3 := by simp [brow]
/-- Bounds, and behind them others. -/
def cat (F : Nat → Int) (a : Nat) (G : Nat → Int) (j : Nat) : Int := if j < a * 3 then F j else G (j - a * 3)
theorem cat_lo (F : Nat → Int) (a : Nat) (G : Nat → Int) {j : Nat} (h : j < a * 3) : cat F a G j = F j := by unfold cat; rw [if_pos h]
theorem cat_hi (F : Nat → Int) (a : Nat) (G : Nat → Int) (j : Nat) : cat F a G (a * 3 + j) = G j := by unfold cat; rw [if_neg (by omega), Nat.add_sub_cancel_left]
theorem brow_cat (F : Nat → Int) (a : Nat) (G : Nat → Int) (b : Nat) : brow (cat F a G) (a + b) = brow F a ++ brow G b := by
  unfold brow
  rw [show (a + b) * 3 = a * 3 + b * 3 by omega, List.range_add, List.map_append, List.map_map]
  congr 1
  · refine List.map_congr_left fun j hj => ?_
    rw [cat_lo F a G (List.mem_range.1 hj)]
  · refine List.map_congr_left fun j _ => ?_
    show Value.int .i64 (cat F a G (a * 3 + j)) = _
    rw [cat_hi]
def one3 (u t m : Int) (j : Nat) : Int := if j = 0 then u else if j = 1 then t else m
theorem brow_one (u t m : Int) : brow (one3 u t m) 1 = [.int .i64 u, .int .i64 t, .int .i64 m] := rfl
theorem brow_own {W : World} {B : Nat} {e : TypeId} {v : Value} {n : Nat} {f : Nat → Int} (h : W.ownsRow B e 3 v n (brow f n)) : ∃ x c, v = .slice x n c ∧ Sl W 3 x n f := by
  cases n with
  | zero =>
    rcases h.2 with ⟨rfl, _⟩ | ⟨g, cap, cur, rfl, _⟩
    · exact ⟨none, 0, rfl, fun h => absurd h (by decide)⟩
    · exact ⟨some ⟨g, 0, none⟩, cap, rfl, fun h => absurd h (by decide)⟩
  | succ m =>
    obtain ⟨g, cap, rfl⟩ := ownsRow_succ h
    refine ⟨some ⟨g, 0, none⟩, cap, rfl, fun _ => ⟨g, 0, rfl, fun i hi => ?_⟩⟩
    rw [Nat.zero_add, World.ownsRow.cellAt h i hi, brow_get f hi]

/-- Bounds of N events that are true of their places. -/
def TrueB (N : Nat) (pl : Nat → Int) (n : Nat) (F : Nat → Int) : Prop := ∀ i, i < n → (0 ≤ F (i * 3) ∧ F (i * 3) < N) ∧ (0 ≤ F (i * 3 + 1) ∧ F (i * 3 + 1) < N) ∧ (-1073741824 ≤ F (i * 3 + 2) ∧ F (i * 3 + 2) ≤ 1073741824) ∧ pl (F (i * 3 + 1)).toNat - pl (F (i * 3)).toNat ≤ F (i * 3 + 2)
theorem TrueB.cat {N : Nat} {pl : Nat → Int} {a b : Nat} {F G : Nat → Int} (h : TrueB N pl a F) (h' : TrueB N pl b G) : TrueB N pl (a + b) (cat F a G) := fun i hi => by
  by_cases e : i < a
  · rw [cat_lo F a G (by omega), cat_lo F a G (by omega), cat_lo F a G (by omega)]
    exact h i e
  · obtain ⟨j, rfl⟩ : ∃ j, i = a + j := ⟨i - a, by omega⟩
    rw [show (a + j) * 3 = a * 3 + j * 3 by omega, Nat.add_assoc, Nat.add_assoc, cat_hi, cat_hi, cat_hi]
    exact h' j (by omega)
theorem TrueB.one {N : Nat} {pl : Nat → Int} {u t : Nat} {m : Int} (hu : u < N) (ht : t < N) (hm : -1073741824 ≤ m ∧ m ≤ 1073741824) (hp : pl t - pl u ≤ m) : TrueB N pl 1 (one3 u t m) := fun i hi => by
  obtain rfl : i = 0 := by omega
  show (0 ≤ (u : Int) ∧ (u : Int) < N) ∧ (0 ≤ (t : Int) ∧ (t : Int) < N) ∧ _ ∧ pl ((t : Int)).toNat - pl ((u : Int)).toNat ≤ m
  rw [Int.toNat_natCast, Int.toNat_natCast]
  exact ⟨⟨by omega, by omega⟩, ⟨by omega, by omega⟩, hm, hp⟩
theorem TrueB.bok {N : Nat} {pl : Nat → Int} {n : Nat} {F : Nat → Int} (h : TrueB N pl n F) (h1 : 1 ≤ N ∧ N ≤ 64) (hn : n ≤ 256) : BOk N n F := ⟨⟨h1.1, h1.2, hn⟩, fun i hi => ⟨(h i hi).1, (h i hi).2.1, (h i hi).2.2.1⟩⟩
theorem TrueB.keeps {N : Nat} {pl : Nat → Int} {n : Nat} {F : Nat → Int} (h : TrueB N pl n F) : Keeps F n pl := fun i hi => (h i hi).2.2.2

/-- A slice of quadruples of bytes. -/
def Sq (w : World) (a : Option Addr) (n : Nat) (g : Nat → Int) : Prop := 0 < n → ∃ b o, a = some ⟨b, o, none⟩ ∧ ∀ i, i < n * 4 → w.cell? ⟨b, o + i, none⟩ = some (.int .u8 (g i))
theorem Sq.cells {w w' : World} {a : Option Addr} {n : Nat} {g : Nat → Int} (h : Sq w a n g) (hb : Below w.heap.size w w') {i : Nat} (hi : i < n) : ∃ b o, a = some ⟨b, o, none⟩ ∧ w'.cell? ⟨b, o + i * 4, none⟩ = some (.int .u8 (g (i * 4))) ∧ w'.cell? ⟨b, o + i * 4 + 1, none⟩ = some (.int .u8 (g (i * 4 + 1))) ∧ w'.cell? ⟨b, o + i * 4 + 2, none⟩ = some (.int .u8 (g (i * 4 + 2))) ∧ w'.cell? ⟨b, o + i * 4 + 3, none⟩ = some (.int .u8 (g (i * 4 + 3))) := by
  obtain ⟨b, o, rfl, hc⟩ := h (by omega)
  have hlt : b < w.heap.size := cell_lt (hc 0 (by omega))
  refine ⟨b, o, rfl, ?_, ?_, ?_, ?_⟩
  · exact (hb.cell (p := ⟨b, o + i * 4, none⟩) hlt).trans (hc (i * 4) (by omega))
  · exact (hb.cell (p := ⟨b, o + i * 4 + 1, none⟩) hlt).trans (hc (i * 4 + 1) (by omega))
  · exact (hb.cell (p := ⟨b, o + i * 4 + 2, none⟩) hlt).trans (hc (i * 4 + 2) (by omega))
  · exact (hb.cell (p := ⟨b, o + i * 4 + 3, none⟩) hlt).trans (hc (i * 4 + 3) (by omega))
theorem x_bd3 : (Try.prog.info? 98).map (fun i => (i.zero, i.size, i.bytes)) = some (some (.agg #[.int .i64 0, .int .i64 0, .int .i64 0]), 3, 24) := by kernel_rfl
theorem cells_3 (W : World) (a b c : Value) (t : TypeId) : ∀ (j : Nat) (u : Value), [a, b, c][j]? = some u → (W.alloc (.cells #[a, b, c] t)).cell? ((⟨W.heap.size, 0, none⟩ : Addr).add j) = some u :=
  World.news_of_block (World.alloc_heap_new W (.cells #[a, b, c] t))

set_option maxRecDepth 100000 in
set_option maxHeartbeats 8000000 in
theorem told_of (w : World) (x : Option Addr) (N c1 : Nat) (pl : Nat → Int) (a : Option Addr) (m c : Nat) (g : Nat → Int) (hN : 1 ≤ N ∧ N ≤ 10) (hm : m ≤ 20) (hp : ∀ i, i < N → 0 ≤ pl i ∧ pl i ≤ 589815) (hg : ∀ i, i < m * 4 → 0 ≤ g i ∧ g i ≤ 255) (hP : Sl w 1 x N pl) (hS : Sq w a m g) :
    Calls Try.prog 44 #[.slice x N c1, .slice a m c] w fun e W' => ∃ v n F, e = .returned v ∧ n ≤ m * 2 ∧ TrueB N pl n F ∧ (n = 0 → v = .slice none 0 0) ∧ W'.ownsRow w.heap.size 98 3 v n (brow F n) ∧ Below w.heap.size w W' := by
  obtain ⟨i0, hi0, hz0, hz1, hz2⟩ := info_parts x_bd3
  have HS := Lib.hid hS
  have HPl := Lib.hid hP
  have HPb := Lib.hid hp
  have HG := Lib.hid hg
  have hN0 : ((N : Int) == 0) = false := by simp; omega
  clear hS hP hp hg
  go_enter Try.func44, Try.ntmps44
  go_wp2_with fail
  go_loopw [5, 13] (fun vo vi wr => ∃ k : Nat, k ≤ m ∧ vi = .int .i64 k ∧ Hid (∃ n F, n ≤ k * 2 ∧ TrueB N pl n F ∧ (n = 0 → vo = .slice none 0 0) ∧ wr.ownsRow w.heap.size 98 3 vo n (brow F n)) ∧ Hid (Below w.heap.size w wr)) (fun _ vi _ => m - (intOf vi).toNat)
  case atStart => exact ⟨0, by omega, rfl, ⟨0, fun _ => 0, by omega, fun i hi => absurd hi (by omega), fun _ => rfl, rfl, .inl ⟨rfl, rfl⟩⟩, Below.refl _ _⟩
  case round =>
    obtain ⟨k, hk, rfl, HO, HB⟩ := hrel
    obtain ⟨n, F, hn, hT, hz, hO⟩ := HO.out
    have HZ := Lib.hid hz
    have HR := Lib.hid hO
    have HT := Lib.hid hT
    clear hO hT HO hz
    by_cases hlt : k < m
    · obtain ⟨b, o, rfl, d0, d1, d2, d3⟩ := HS.out.cells HB.out hlt
      have g0 := HG.out (k * 4) (by omega)
      have g1 := HG.out (k * 4 + 1) (by omega)
      have g2 := HG.out (k * 4 + 2) (by omega)
      have g3 := HG.out (k * 4 + 3) (by omega)
      generalize g (k * 4) = x0 at d0 g0
      generalize g (k * 4 + 1) = x1 at d1 g1
      generalize g (k * 4 + 2) = x2 at d2 g2
      generalize g (k * 4 + 3) = x3 at d3 g3
      have w0 : IntKind.i64.wrap x0 = x0 := IntWalk.i64_in _ (by omega)
      have w1 : IntKind.i64.wrap x1 = x1 := IntWalk.i64_in _ (by omega)
      have w2 : IntKind.i64.wrap x2 = x2 := IntWalk.i64_in _ (by omega)
      have w3 : IntKind.i64.wrap x3 = x3 := IntWalk.i64_in _ (by omega)
      have m0 := Int.emod_nonneg x0 (show (N : Int) ≠ 0 by omega)
      have m1 := Int.emod_nonneg x1 (show (N : Int) ≠ 0 by omega)
      have l0 := Int.emod_lt_of_pos x0 (show (0 : Int) < N by omega)
      have l1 := Int.emod_lt_of_pos x1 (show (0 : Int) < N by omega)
      obtain ⟨r0, hr0⟩ : ∃ r : Nat, x0 % (N : Int) = r := ⟨(x0 % (N : Int)).toNat, by omega⟩
      obtain ⟨r1, hr1⟩ : ∃ r : Nat, x1 % (N : Int) = r := ⟨(x1 % (N : Int)).toNat, by omega⟩
      rw [hr0] at m0 l0
      rw [hr1] at m1 l1
      obtain ⟨bp, op, rfl, hI⟩ := HPl.out (by omega)
      have hJ := hI.keep HB.out (hI.lt (by omega))
      have b0 := HPb.out r0 (by omega)
      have b1 := HPb.out r1 (by omega)
      clear hI
      have e0 : IntKind.i64.wrap (pl r1 - pl r0) = pl r1 - pl r0 := IntWalk.i64_in _ (by omega)
      have e1 : IntKind.i64.wrap (pl r1 - pl r0 + x3) = pl r1 - pl r0 + x3 := IntWalk.i64_in _ (by omega)
      have e2 : IntKind.i64.wrap (x2 - (pl r1 - pl r0)) = x2 - (pl r1 - pl r0) := IntWalk.i64_in _ (by omega)
      have hss := HB.out.size
      have hB1 : Below wr.heap.size wr (wr.alloc (.cells #[.int .u8 x0, .int .u8 x1, .int .u8 x2, .int .u8 x3] 91)) := (Below.refl _ _).alloc (Nat.le_refl _) _
      have a1 := World.alloc_heap_new wr (.cells #[.int .u8 x0, .int .u8 x1, .int .u8 x2, .int .u8 x3] 91)
      have HR1 := Lib.hid (HR.out.alloc (.cells #[.int .u8 x0, .int .u8 x1, .int .u8 x2, .int .u8 x3] 91))
      have HJ := Lib.hid hJ
      have HB5 : Hid (∀ j, u5.ownBlock = some j → w.heap.size ≤ j ∧ j < wr.heap.size) := fun j e => HR.out.lt j e
      clear hJ
      go_wp2_with fail
      generalize wr.alloc (.cells #[.int .u8 x0, .int .u8 x1, .int .u8 x2, .int .u8 x3] 91) = W1 at hB1 a1 HR1 ⊢
      have hbp : bp < wr.heap.size := (HJ.out.lt (by omega))
      have p0 := (HJ.out.keep hB1 hbp) r0 (by omega)
      have p1 := (HJ.out.keep hB1 hbp) r1 (by omega)
      have HB1 := Lib.hid (HB.out.trans (hB1.mono HB.out.size))
      have q0 : W1.cell? ⟨wr.heap.size, 0, none⟩ = some (.int .u8 x0) := cell_h a1 rfl
      have q1 : W1.cell? ⟨wr.heap.size, 1, none⟩ = some (.int .u8 x1) := cell_h a1 rfl
      have q2 : W1.cell? ⟨wr.heap.size, 2, none⟩ = some (.int .u8 x2) := cell_h a1 rfl
      have q3 : W1.cell? ⟨wr.heap.size, 3, none⟩ = some (.int .u8 x3) := cell_h a1 rfl
      have HA1 := Lib.hid a1
      have hs1 : wr.heap.size < W1.heap.size := (Array.getElem?_eq_some_iff.1 a1).1
      clear a1 hB1 HR HB HJ
      go_quiet (fail)
      go_wp2_with fail
      rw [hr0, hr1]
      have HR2 : Hid ((W1.drewN nq).ownsRow w.heap.size 98 3 u5 n (brow F n)) := HR1.out
      have HB2 : Hid (Below w.heap.size w (W1.drewN nq)) := ⟨HB1.out.os, HB1.out.tape, HB1.out.output, HB1.out.size, HB1.out.block⟩
      have HA2 : Hid ((W1.drewN nq).heap[wr.heap.size]? = some (.cells #[.int .u8 x0, .int .u8 x1, .int .u8 x2, .int .u8 x3] 91 (0, 0))) := HA1.out
      have p0' : (W1.drewN nq).cell? ⟨bp, op + r0, none⟩ = some (.int .i64 (pl r0)) := p0
      have p1' : (W1.drewN nq).cell? ⟨bp, op + r1, none⟩ = some (.int .i64 (pl r1)) := p1
      clear p0 p1 q0 q1 q2 q3 HA1 HB1 HR1
      generalize W1.drewN nq = W2 at HR2 HB2 HA2 p0' p1' ⊢
      go_quiet (fail)
      have HR3 : Hid ((W2.drewN nq).ownsRow w.heap.size 98 3 u5 n (brow F n)) := HR2.out
      have HB3 : Hid (Below w.heap.size w (W2.drewN nq)) := ⟨HB2.out.os, HB2.out.tape, HB2.out.output, HB2.out.size, HB2.out.block⟩
      have HA3 : Hid ((W2.drewN nq).heap[wr.heap.size]? = some (.cells #[.int .u8 x0, .int .u8 x1, .int .u8 x2, .int .u8 x3] 91 (0, 0))) := HA2.out
      clear p0' p1' HA2 HB2 HR2
      generalize W2.drewN nq = W3 at HR3 HB3 HA3 ⊢
      have q2 : W3.cell? ⟨wr.heap.size, 2, none⟩ = some (.int .u8 x2) := cell_h HA3.out rfl
      have q3 : W3.cell? ⟨wr.heap.size, 3, none⟩ = some (.int .u8 x3) := cell_h HA3.out rfl
      generalize hP0 : pl r0 = P0 at b0 e0 e1 e2 ⊢
      generalize hP1 : pl r1 = P1 at b1 e0 e1 e2 ⊢
      by_cases hrr : r0 = r1
      · subst hrr
        go_wp2_with fail
        exact ⟨⟨k + 1, by omega, by go_num, ⟨n, F, by omega, HT.out, HZ.out, HR3.out⟩, HB3.out⟩, by simp [intOf]; omega⟩
      · have hne : ((r0 : Int) == (r1 : Int)) = false := by simp; omega
        have hs3 : w.heap.size ≤ W3.heap.size := HB3.out.size
        have hw3 : wr.heap.size < W3.heap.size := (Array.getElem?_eq_some_iff.1 HA3.out).1
        have HTA : Hid (TrueB N pl (n + 1) (cat F n (one3 r0 r1 (P1 - P0 + x3)))) := HT.out.cat (TrueB.one (by omega) (by omega) (by omega) (by rw [hP0, hP1]; omega))
        have HTB : Hid (TrueB N pl (n + 1) (cat F n (one3 r1 r0 (x2 - (P1 - P0))))) := HT.out.cat (TrueB.one (by omega) (by omega) (by omega) (by rw [hP0, hP1]; omega))
        have HTC : Hid (TrueB N pl (n + 1 + 1) (cat (cat F n (one3 r0 r1 (P1 - P0 + x3))) (n + 1) (one3 r1 r0 (x2 - (P1 - P0))))) := HTA.out.cat (TrueB.one (by omega) (by omega) (by omega) (by rw [hP0, hP1]; omega))
        by_cases h3 : x3 = 255
        · subst h3
          by_cases h2 : x2 = 255
          · subst h2
            go_wp2_with fail
            exact ⟨⟨k + 1, by omega, by go_num, ⟨n, F, by omega, HT.out, HZ.out, HR3.out⟩, HB3.out⟩, by simp [intOf]; omega⟩
          · have n2 : (x2 == 255) = false := by simpa using h2
            have n2' : (x2 != 255) = true := by simpa using h2
            go_wp2_with (at_builtin; refine wpList_append_own _ rfl _ _ 55 rfl w.heap.size 98 i0 (.agg #[.int .i64 0, .int .i64 0, .int .i64 0]) 3 24 Try.underlying55 hi0 hz0 hz1 hz2 rfl (by decide) _ (n) _ rfl (HR3.out.alloc _) ⟨W3.heap.size, 0, none⟩ 1 1 [.int .i64 r1, .int .i64 r0, .int .i64 (x2 - (P1 - P0))] rfl rfl (cells_3 W3 _ _ _ _) (by simp [Value.oneCell']) (by unfold maxLen; omega) (by omega) (by simp; omega) ?_; intro v4 W4 hown4 hgrow4 _; have HR4 : Hid (W4.ownsRow w.heap.size 98 3 v4 (n + 1) (brow (cat F n (one3 r1 r0 (x2 - (P1 - P0)))) (n + 1))) := (by rw [brow_cat, brow_one]; exact hown4); have HB4 : Hid (Below w.heap.size w W4) := (HB3.out.alloc hs3 _).grown hgrow4 (by simp; omega) (fun j hj => (HB5.out j hj).1))
            exact ⟨⟨k + 1, by omega, by go_num, ⟨_, _, by omega, HTB.out, fun h => absurd h (by omega), HR4.out⟩, HB4.out⟩, by simp [intOf]; omega⟩
        · have n3 : (x3 == 255) = false := by simpa using h3
          have n3' : (x3 != 255) = true := by simpa using h3
          by_cases h2 : x2 = 255
          · have n2 : (x2 == 255) = true := by simpa using h2
            have n2' : (x2 != 255) = false := by simpa using h2
            go_wp2_with (at_builtin; refine wpList_append_own _ rfl _ _ 55 rfl w.heap.size 98 i0 (.agg #[.int .i64 0, .int .i64 0, .int .i64 0]) 3 24 Try.underlying55 hi0 hz0 hz1 hz2 rfl (by decide) _ (n) _ rfl (HR3.out.alloc _) ⟨W3.heap.size, 0, none⟩ 1 1 [.int .i64 r0, .int .i64 r1, .int .i64 (P1 - P0 + x3)] rfl rfl (cells_3 W3 _ _ _ _) (by simp [Value.oneCell']) (by unfold maxLen; omega) (by omega) (by simp; omega) ?_; intro v4 W4 hown4 hgrow4 _; have HR4 : Hid (W4.ownsRow w.heap.size 98 3 v4 (n + 1) (brow (cat F n (one3 r0 r1 (P1 - P0 + x3))) (n + 1))) := (by rw [brow_cat, brow_one]; exact hown4); have HA4 : Hid (W4.heap[wr.heap.size]? = some (.cells #[.int .u8 x0, .int .u8 x1, .int .u8 x2, .int .u8 x3] 91 (0, 0))) := (hgrow4.block _ (by simp; omega) (fun e => absurd (HB5.out _ e.symm).2 (by omega))).trans (al_old HA3.out _); have q4 : W4.cell? ⟨wr.heap.size, 2, none⟩ = some (.int .u8 x2) := cell_h HA4.out rfl; have HB4 : Hid (Below w.heap.size w W4) := (HB3.out.alloc hs3 _).grown hgrow4 (by simp; omega) (fun j hj => (HB5.out j hj).1); have hs4 : w.heap.size ≤ W4.heap.size := HB4.out.size)
            exact ⟨⟨k + 1, by omega, by go_num, ⟨_, _, by omega, HTA.out, fun h => absurd h (by omega), HR4.out⟩, HB4.out⟩, by simp [intOf]; omega⟩
          · have n2 : (x2 == 255) = false := by simpa using h2
            have n2' : (x2 != 255) = true := by simpa using h2
            go_wp2_with (first | (at_builtin; refine wpList_append_own _ rfl _ _ 55 rfl w.heap.size 98 i0 (.agg #[.int .i64 0, .int .i64 0, .int .i64 0]) 3 24 Try.underlying55 hi0 hz0 hz1 hz2 rfl (by decide) _ (n) _ rfl (HR3.out.alloc _) ⟨W3.heap.size, 0, none⟩ 1 1 [.int .i64 r0, .int .i64 r1, .int .i64 (P1 - P0 + x3)] rfl rfl (cells_3 W3 _ _ _ _) (by simp [Value.oneCell']) (by unfold maxLen; omega) (by omega) (by simp; omega) ?_; intro v4 W4 hown4 hgrow4 _; have HR4 : Hid (W4.ownsRow w.heap.size 98 3 v4 (n + 1) (brow (cat F n (one3 r0 r1 (P1 - P0 + x3))) (n + 1))) := (by rw [brow_cat, brow_one]; exact hown4); have HA4 : Hid (W4.heap[wr.heap.size]? = some (.cells #[.int .u8 x0, .int .u8 x1, .int .u8 x2, .int .u8 x3] 91 (0, 0))) := (hgrow4.block _ (by simp; omega) (fun e => absurd (HB5.out _ e.symm).2 (by omega))).trans (al_old HA3.out _); have q4 : W4.cell? ⟨wr.heap.size, 2, none⟩ = some (.int .u8 x2) := cell_h HA4.out rfl; have HB4 : Hid (Below w.heap.size w W4) := (HB3.out.alloc hs3 _).grown hgrow4 (by simp; omega) (fun j hj => (HB5.out j hj).1); have hs4 : w.heap.size ≤ W4.heap.size := HB4.out.size) | (at_builtin; refine wpList_append_own _ rfl _ _ 55 rfl w.heap.size 98 i0 (.agg #[.int .i64 0, .int .i64 0, .int .i64 0]) 3 24 Try.underlying55 hi0 hz0 hz1 hz2 rfl (by decide) _ (n + 1) _ rfl (HR4.out.alloc _) ⟨W4.heap.size, 0, none⟩ 1 1 [.int .i64 r1, .int .i64 r0, .int .i64 (x2 - (P1 - P0))] rfl rfl (cells_3 W4 _ _ _ _) (by simp [Value.oneCell']) (by unfold maxLen; omega) (by omega) (by simp; omega) ?_; intro v6 W6 hown6 hgrow6 _; have HR6 : Hid (W6.ownsRow w.heap.size 98 3 v6 (n + 1 + 1) (brow (cat (cat F n (one3 r0 r1 (P1 - P0 + x3))) (n + 1) (one3 r1 r0 (x2 - (P1 - P0)))) (n + 1 + 1))) := (by rw [brow_cat, brow_one]; exact hown6); have HB6 : Hid (Below w.heap.size w W6) := (HB4.out.alloc hs4 _).grown hgrow6 (by simp; omega) (fun j hj => (HR4.out.lt j hj).1)))
            exact ⟨⟨k + 1, by omega, by go_num, ⟨_, _, by omega, HTC.out, fun h => absurd h (by omega), HR6.out⟩, HB6.out⟩, by simp [intOf]; omega⟩
    · obtain rfl : k = m := by omega
      go_wp2_with fail
      exact bodyPost_ret (by simp [results, Try.f44, go_sem]) rfl ⟨_, n, F, rfl, hn, HT.out, HZ.out, HR.out, HB.out⟩
end Go.Proofs.Ytonlamkpehakdaa
