/-
  WALKS: the law of the cheapest alignment.
-/
import Derived.Test.YtonlamkpehakdaaPzD
namespace Go.Proofs.Ytonlamkpehakdaa
open Go.RowKit

/-- Slices of bytes that stay. -/
def Syk (w : World) (s : Nat) (a : Option Addr) (n : Nat) (g : Nat → Int) : Prop := 0 < n → ∃ b o, a = some ⟨b, o, none⟩ ∧ b < w.heap.size ∧ ∀ W, Below w.heap.size w W → ∀ i, i < n * s → W.cell? ⟨b, o + i, none⟩ = some (.int .u8 (g i))
theorem Sy.stay {s : Nat} {w : World} {a : Option Addr} {n : Nat} {g : Nat → Int} (h : Sy s w a n g) : Syk w s a n g := fun hn => by
  obtain ⟨b, o, e, h1, h2⟩ := h hn
  exact ⟨b, o, e, h1, fun W hb i hi => (hb.cell (p := ⟨b, o + i, none⟩) h1).trans (h2 i hi)⟩
/-- What the law has while it goes on. -/
structure PS (w W : World) (wa ka : Option Addr) (n m : Nat) (g h : Nat → Int) (bc : Nat) (L F M : Int) : Prop where
  sw : Sl W 1 wa n g
  sk : Sl W 1 ka m h
  bx : W.heap[bc]? = some (.cells #[.int .i64 L, .int .i64 F, .int .i64 M] 36 (0, 0))
  bl : Below w.heap.size w W
theorem PS.keep {w W W' : World} {wa ka : Option Addr} {n m : Nat} {g h : Nat → Int} {bc : Nat} {L F M : Int} (p : PS w W wa ka n m g h bc L F M) (hb : Below W.heap.size W W') : PS w W' wa ka n m g h bc L F M :=
  ⟨p.sw.keep (by decide) hb, p.sk.keep (by decide) hb, (hb.block _ (Array.getElem?_eq_some_iff.1 p.bx).1).trans p.bx, p.bl.trans (hb.mono p.bl.size)⟩
theorem PS.c0 {w W : World} {wa ka : Option Addr} {n m : Nat} {g h : Nat → Int} {bc : Nat} {L F M : Int} (p : PS w W wa ka n m g h bc L F M) : W.cell? ⟨bc, 0, none⟩ = some (.int .i64 L) := cell_h p.bx rfl
theorem PS.c1 {w W : World} {wa ka : Option Addr} {n m : Nat} {g h : Nat → Int} {bc : Nat} {L F M : Int} (p : PS w W wa ka n m g h bc L F M) : W.cell? ⟨bc, 1, none⟩ = some (.int .i64 F) := cell_h p.bx rfl
theorem PS.c2 {w W : World} {wa ka : Option Addr} {n m : Nat} {g h : Nat → Int} {bc : Nat} {L F M : Int} (p : PS w W wa ka n m g h bc L F M) : W.cell? ⟨bc, 2, none⟩ = some (.int .i64 M) := cell_h p.bx rfl

theorem own_SlI {W : World} {B g n cap : Nat} {p : Nat → Int} (h : W.ownsRow B 3 1 (.slice (some ⟨g, 0, none⟩) n cap) n (jrow p n)) : Sl W 1 (some ⟨g, 0, none⟩) n p := fun _ => ⟨g, 0, rfl, fun i hi => by
  rw [Nat.zero_add, World.ownsRow.cellAt h i (by omega), jrow_get p (by omega)]⟩
theorem run_max6 {P : Program} {w : World} (ts : Array TypeId) (t : TypeId) (k : IntKind) : (Builtin.max_ ts t #[.int k 0, .int k 0, .int k 0, .int k 0, .int k 0, .int k 0]).run P w = .ok (.int k 0) w := by
  have h2 : (Builtin.max2 (.int k 0) (.int k 0)) = (pure (.int k 0) : Sem Value) := rfl
  simp [Builtin.max_, h2]
attribute [local go_sem] run_max6
theorem Goods.co {n m : Nat} {g h : Nat → Int} {L F M : Int} {l : List (Nat × Nat)} (H : Goods n m g h M l) (hk : pbChk n m g h L F M = 0) : ∃ V, co2 (coV n m g h L F M l.length (pcF l)) (coE n m g h L F M l.length (pcF l)) = .tuple #[.int .i64 V, .int .i64 0] ∧ prc L F M g h n m ≤ V :=
  ⟨_, by rw [(H.cost hk).1]; rfl, (H.cost hk).2⟩
set_option maxRecDepth 100000 in
set_option maxHeartbeats 16000000 in
theorem cheapest_law (w : World) (a1 : Option Addr) (n e1 : Nat) (s : Nat → Int) (a2 : Option Addr) (m e2 : Nat) (d : Nat → Int) (L F M : Int) (a3 : Option Addr) (p e3 : Nat) (q : Nat → Int) (z : Int)
    (hn : n ≤ maxLen) (hm : m ≤ maxLen) (hp : p ≤ maxLen) (hs : ∀ i, i < n → 0 ≤ s i ∧ s i ≤ 255) (hd : ∀ i, i < m * 2 → 0 ≤ d i ∧ d i ≤ 255) (hq : ∀ i, i < p * 2 → 0 ≤ q i ∧ q i ≤ 255) (hL : 0 ≤ L ∧ L ≤ 255) (hF : 0 ≤ F ∧ F ≤ 255) (hM : 0 ≤ M ∧ M ≤ 255) (hz : 0 ≤ z ∧ z ≤ 255)
    (s1 : Sy 1 w a1 n s) (s2 : Sy 2 w a2 m d) (s3 : Sy 2 w a3 p q) :
    Calls Try.prog 11 #[.slice a1 n e1, .slice a2 m e2, .agg #[.int .u8 L, .int .u8 F, .int .u8 M], .slice a3 p e3, .int .u8 z] w fun e w' => e = .returned (.bool true) ∧ Below w.heap.size w w' := by
  have hmx : maxLen = 9223372036854775807 := rfl
  have hB0 : Below w.heap.size w (w.alloc (.cells #[.int .u8 L, .int .u8 F, .int .u8 M] 52)) := (Below.refl _ w).alloc (Nat.le_refl _) _
  by_cases h1 : 12 < n ∨ 12 < m ∨ 12 < p
  · clear hs hd hq s1 s2 s3
    have HB0 := Lib.hid hB0
    clear hB0
    rcases (by omega : 12 < n ∨ (n ≤ 12 ∧ 12 < m) ∨ (n ≤ 12 ∧ m ≤ 12 ∧ 12 < p)) with h2 | ⟨h2, h3⟩ | ⟨h2, h3, h4⟩
    all_goals
      clear h1
      go_enter Try.func11, Try.ntmps11
      go_wp2_with fail
      refine (awake_of _).mono ?_
      rintro e w2 ⟨rfl, hB2⟩
      have HB2 := Lib.hid (HB0.out.trans (hB2.mono HB0.out.size))
      clear hB2
      go_wp2_with fail
      go_ret
      exact ⟨rfl, HB2.out⟩
  have hn12 : n ≤ 12 := by omega
  have hm12 : m ≤ 12 := by omega
  have hp12 : p ≤ 12 := by omega
  clear h1 hmx hn hm hp
  have hD : ∀ i, i < m → 0 ≤ (fun (i : Nat) => d (i * 2)) i ∧ (fun (i : Nat) => d (i * 2)) i ≤ 255 := fun i hi => hd (i * 2) (by omega)
  have hg := cmP_plc (z := 1) (by decide) hn12 hs
  have hh := cmP_plc (z := 0) (by decide) hm12 hD
  have hk1 : plChk 1 n (cmP 1 s) = 0 := plChk_zero hn12 hg (cmP_up hs)
  have hk0 : plChk 0 n (cmP 1 s) = 0 := plChk_zero hn12 hg (fun i h0 hi => by have := cmP_up (z := 1) hs i h0 hi; omega)
  have hk2 : plChk 0 m (cmP 0 (fun (i : Nat) => d (i * 2))) = 0 := plChk_zero hm12 hh (cmP_up hD)
  have hcb1 := cm_bd (z := 1) (by decide) hs
  have hcb0 := cm_bd (z := 0) (by decide) hD
  have HPK := Lib.hid (pb_zero hk1 hk2 hL hF hM)
  have HPW := Lib.hid (pb_zero hk1 hk0 hL hF hM)
  have HIg := Lib.hid (plc_i64 hg)
  have HIh := Lib.hid (plc_i64 hh)
  have HG := Lib.hid hg
  have HH := Lib.hid hh
  have HU := Lib.hid (cmP_up (z := 0) hD)
  have HK1 := Lib.hid hk1
  have HCB1 := Lib.hid hcb1
  have HCB0 := Lib.hid hcb0
  have HS := Lib.hid hs
  have HDb := Lib.hid hd
  have HQb := Lib.hid hq
  clear hD hg hh hk1 hk0 hk2 hs hd hq hcb1 hcb0
  obtain ⟨W0, hW0⟩ : ∃ W0, w.alloc (.cells #[.int .u8 L, .int .u8 F, .int .u8 M] 52) = W0 := ⟨_, rfl⟩
  have a0 : W0.heap[w.heap.size]? = some (.cells #[.int .u8 L, .int .u8 F, .int .u8 M] 52 (0, 0)) := by rw [← hW0]; exact World.alloc_heap_new _ _
  rw [hW0] at hB0
  have hlt0 : w.heap.size < W0.heap.size := (Array.getElem?_eq_some_iff.1 a0).1
  have Y1 : Hid (Syk W0 1 a1 n s) := (s1.keep hB0).stay
  have Y2 : Hid (Syk W0 2 a2 m d) := (s2.keep hB0).stay
  have Y3 : Hid (Sy 2 W0 a3 p q) := s3.keep hB0
  have HA0 := Lib.hid a0
  have HB0 := Lib.hid hB0
  have HR0 : Hid (Below W0.heap.size W0 W0) := Below.refl _ _
  have HO0 : Hid (W0.ownsRow W0.heap.size 3 1 (.slice none 0 0) 0 (jrow (cmP 1 s) 0)) := ⟨rfl, .inl ⟨rfl, rfl⟩⟩
  obtain ⟨i0, hi0, hz0, hz1, hz2⟩ := info_parts x_int
  clear s1 s2 s3 a0 hB0
  go_enter Try.func11, Try.ntmps11
  go_wp2_with fail
  clear hW0
  go_loopw [11, 13, 55] (fun vw vt vi wr => ∃ k : Nat, k ≤ n ∧ vi = .int .i64 k ∧ vt = .int .i64 (cm 1 s k) ∧ Hid (wr.ownsRow W0.heap.size 3 1 vw k (jrow (cmP 1 s) k)) ∧ Hid (Below W0.heap.size W0 wr)) (fun _ _ vi _ => n - (intOf vi).toNat)
  case atStart => exact ⟨0, by omega, rfl, rfl, HO0.out, HR0.out⟩
  case round =>
    obtain ⟨k, hk, rfl, rfl, HO, HB⟩ := hrel
    obtain ⟨xw, cw, rfl, hSw, _⟩ := own_ints HO.out
    have HSw := Lib.hid hSw
    clear hSw
    by_cases hlt : k < n
    · obtain ⟨b, o, rfl, _, hc⟩ := Y1.out (by omega)
      have d0 := hc wr HB.out k (by omega)
      have hb1 := HCB1.out k hk
      have hb2 := HS.out k hlt
      have hcs : cm 1 s (k + 1) = cm 1 s k + (1 + s k) := rfl
      have e0 : IntKind.i64.wrap (s k) = s k := IntWalk.i64_in _ (by omega)
      have e1 : IntKind.i64.wrap (1 + s k) = 1 + s k := IntWalk.i64_in _ (by omega)
      have e2 : IntKind.i64.wrap (cm 1 s k + (1 + s k)) = cm 1 s (k + 1) := IntWalk.i64_in _ (by omega)
      have hss := HB.out.size
      clear hc hcs
      go_wp2_with (at_builtin; refine wpList_append_own _ rfl _ _ 23 rfl W0.heap.size 3 i0 (.int .i64 0) 1 8 Try.underlying23 hi0 hz0 hz1 hz2 rfl (by decide) _ k _ rfl (HO.out.alloc _) ⟨wr.heap.size, 0, none⟩ 1 1 [.int .i64 (cm 1 s (k + 1))] rfl rfl (cell_one _ _ _) (by simp [Value.oneCell']) (by unfold maxLen; omega) (by omega) (by simp; omega) ?_; intro v' w1 hown' hgrow _)
      exact ⟨⟨k + 1, by omega, by go_num, rfl, by rw [jrow_succ _ k]; exact hown', (HB.out.alloc hss _).grown hgrow (by simp; omega) (fun j hj => (HO.out.lt j hj).1)⟩, by simp [intOf]; omega⟩
    · obtain rfl : k = n := by omega
      have HB1 := Lib.hid HB.out
      have HO1 : Hid (wr.ownsRow W0.heap.size 3 1 (.slice xw k cw) k (jrow (cmP 1 s) k)) := HO.out
      have HR1 : Hid (Below wr.heap.size wr wr) := Below.refl _ _
      have HO2 : Hid (wr.ownsRow wr.heap.size 3 1 (.slice none 0 0) 0 (jrow (cmP 0 (fun (i : Nat) => d (i * 2))) 0)) := ⟨rfl, .inl ⟨rfl, rfl⟩⟩
      clear HO HB
      go_wp2_with fail
      generalize hW1 : wr = W1 at *
      clear hW1
      go_loopw [12, 13, 71] (fun vk vt vi wr => ∃ j : Nat, j ≤ m ∧ vi = .int .i64 j ∧ vt = .int .i64 (cm 0 (fun (i : Nat) => d (i * 2)) j) ∧ Hid (wr.ownsRow W1.heap.size 3 1 vk j (jrow (cmP 0 (fun (i : Nat) => d (i * 2))) j)) ∧ Hid (Below W1.heap.size W1 wr)) (fun _ _ vi _ => m - (intOf vi).toNat)
      case atStart => exact ⟨0, by omega, rfl, rfl, HO2.out, HR1.out⟩
      case round =>
        obtain ⟨j, hj, rfl, rfl, HO, HB⟩ := hrel
        obtain ⟨xk, ck, rfl, hSk, hjck⟩ := own_ints HO.out
        have HSk := Lib.hid hSk
        clear hSk
        by_cases hlt : j < m
        · obtain ⟨b, o, rfl, _, hc⟩ := Y2.out (by omega)
          have hB01 := HB1.out.trans (HB.out.mono HB1.out.size)
          have d0 := hc wr hB01 (j * 2) (by omega)
          have d1 := hc wr hB01 (j * 2 + 1) (by omega)
          rw [← Nat.add_assoc] at d1
          have hb1 := HCB0.out j hj
          have hb2 := HDb.out (j * 2) (by omega)
          have hcs : cm 0 (fun (i : Nat) => d (i * 2)) (j + 1) = cm 0 (fun (i : Nat) => d (i * 2)) j + (0 + d (j * 2)) := rfl
          rw [Int.zero_add] at hcs
          have hjr : cmP 0 (fun (i : Nat) => d (i * 2)) j = cm 0 (fun (i : Nat) => d (i * 2)) (j + 1) := rfl
          have HHO := Lib.hid HO.out
          have hss := HB.out.size
          generalize d (j * 2 + 1) = x1 at d1
          generalize cm 0 (fun (i : Nat) => d (i * 2)) j = C0 at hb1 hcs ⊢
          obtain ⟨C1, hC1⟩ : ∃ C1, cm 0 (fun (i : Nat) => d (i * 2)) (j + 1) = C1 := ⟨_, rfl⟩
          rw [hC1] at hcs hjr
          have HJR := Lib.hid hjr
          have HC1 := Lib.hid hC1
          generalize d (j * 2) = x0 at d0 hb2 hcs ⊢
          have e0 : IntKind.i64.wrap x0 = x0 := IntWalk.i64_in _ (by omega)
          have e1 : IntKind.i64.wrap (C0 + x0) = C1 := by rw [hcs]; exact IntWalk.i64_in _ (by omega)
          clear hc hcs hB01 hjr hC1
          go_upto_region 15 with fail
          have a2 := World.alloc_heap_new wr (.cells #[.int .u8 x0, .int .u8 x1] 84)
          have hb2 : Below wr.heap.size wr (wr.alloc (.cells #[.int .u8 x0, .int .u8 x1] 84)) := (Below.refl _ _).alloc (Nat.le_refl _) _
          generalize wr.alloc (.cells #[.int .u8 x0, .int .u8 x1] 84) = W2 at a2 hb2 ⊢
          have f0 : W2.cell? ⟨wr.heap.size, 0, none⟩ = some (.int .u8 x0) := cell_h a2 rfl
          have HO3 := Lib.hid (own_below HHO.out hb2)
          have HB3 := Lib.hid (HB.out.trans (hb2.mono hss))
          have hs3 := HB3.out.size
          clear a2 hb2
          go_wp2_with (at_builtin; refine wpList_append_own _ rfl _ _ 23 rfl W1.heap.size 3 i0 (.int .i64 0) 1 8 Try.underlying23 hi0 hz0 hz1 hz2 rfl (by decide) _ j _ rfl (HO3.out.alloc _) ⟨W2.heap.size, 0, none⟩ 1 1 [.int .i64 C1] rfl rfl (cell_one _ _ _) (by simp [Value.oneCell']) (by unfold maxLen; omega) (by omega) (by simp; omega) ?_; intro v' w1 hown' hgrow _)
          exact ⟨⟨j + 1, by omega, by go_num, by rw [HC1.out], by rw [jrow_succ _ j, HJR.out]; exact hown', (HB3.out.alloc hs3 _).grown hgrow (by simp; omega) (fun j hj => (HO3.out.lt j hj).1)⟩, by simp [intOf]; omega⟩
        · obtain rfl : j = m := by omega
          have hB02 := HB1.out.trans (HB.out.mono HB1.out.size)
          have A1 := (hB02.block _ hlt0).trans HA0.out
          have c0 : wr.cell? ⟨w.heap.size, 0, none⟩ = some (.int .u8 L) := cell_h A1 rfl
          have c1 : wr.cell? ⟨w.heap.size, 1, none⟩ = some (.int .u8 F) := cell_h A1 rfl
          have c2 : wr.cell? ⟨w.heap.size, 2, none⟩ = some (.int .u8 M) := cell_h A1 rfl
          have wL : IntKind.i64.wrap L = L := IntWalk.i64_in _ (by omega)
          have wF : IntKind.i64.wrap F = F := IntWalk.i64_in _ (by omega)
          have wM : IntKind.i64.wrap M = M := IntWalk.i64_in _ (by omega)
          have HSw2 := Lib.hid (HSw.out.keep (by decide) HB.out)
          have HB02 := Lib.hid hB02
          obtain ⟨g, hg⟩ : ∃ g, cmP 1 s = g := ⟨_, rfl⟩
          obtain ⟨h, hh⟩ : ∃ h, cmP 0 (fun (i : Nat) => d (i * 2)) = h := ⟨_, rfl⟩
          rw [hg] at HPW HIg HG HK1 HSw2 HPK
          rw [hh] at HPK HIh HH HU HSk
          clear hB02 A1 HO HB HO1 HO2 HO0 HB1 HSw HR1 HCB1 HCB0 HS HDb Y1 Y2 hg hh
          go_upto_region 19 with fail
          have a4 := World.alloc_heap_new wr (.cells #[.int .i64 L, .int .i64 F, .int .i64 M] 36)
          have hb4 : Below wr.heap.size wr (wr.alloc (.cells #[.int .i64 L, .int .i64 F, .int .i64 M] 36)) := (Below.refl _ _).alloc (Nat.le_refl _) _
          generalize wr.alloc (.cells #[.int .i64 L, .int .i64 F, .int .i64 M] 36) = W3 at a4 hb4 ⊢
          have P3 : Hid (PS W0 W3 xw xk k j g h wr.heap.size L F M) := ⟨HSw2.out.keep (by decide) hb4, HSk.out.keep (by decide) hb4, a4, HB02.out.trans (hb4.mono HB02.out.size)⟩
          clear c0 c1 c2 wL wF wM a4 hb4 HSw2 HSk HB02 HA0
          generalize wr.heap.size = bc at P3 ⊢
          have c0 := P3.out.c0
          have c1 := P3.out.c1
          have c2 := P3.out.c2
          go_wp2_with fail
          refine (align_ok W3 xw xk k cw j ck g h L F M P3.out.sw P3.out.sk HIg.out HIh.out HPK.out).mono ?_
          rintro e W4 ⟨v4, rfl, hO4, hB4⟩
          obtain ⟨l, hl⟩ : ∃ l, (bkP (prc L F M g h) L F M g h (k + j) k j).reverse = l := ⟨_, rfl⟩
          have hlen : (bkP (prc L F M g h) L F M g h (k + j) k j).length = l.length := by rw [← hl, List.length_reverse]
          have hGl : Goods k j g h M l := by rw [← hl]; exact goods_back
          obtain ⟨hE4, hV4⟩ := align_cost HPK.out hl.symm
          rw [hl, hlen] at hO4
          obtain ⟨xp, cp, rfl, hS4⟩ := own_pairs hO4 rfl
          have hll := goods_len hGl
          have HGl := Lib.hid hGl
          have S4 := Lib.hid hS4
          have P4 := Lib.hid (P3.out.keep hB4)
          have B4 : Hid (Below W4.heap.size W4 W4) := Below.refl _ _
          have HC4 : Hid (co2 (coV k j g h L F M l.length (pcF l)) (coE k j g h L F M l.length (pcF l)) = .tuple #[.int .i64 (prc L F M g h k j), .int .i64 0]) := by rw [hE4, hV4]; rfl
          obtain ⟨X, hX⟩ : ∃ X, prc L F M g h k j = X := ⟨_, rfl⟩
          have HX := Lib.hid hX
          rw [hX] at HC4 ⊢
          clear hl hlen hGl hE4 hV4 hO4 hS4 hB4 hX c0 c1 c2 P3
          have c0 := P4.out.c0
          have c1 := P4.out.c1
          have c2 := P4.out.c2
          go_wp2_with fail
          refine (cost_of W4 xw xk xp k cw j ck l.length cp g h (pcF l) L F M P4.out.sw P4.out.sk S4.out HIg.out HIh.out (by omega)).mono ?_
          rintro e W5 ⟨he, hB5⟩
          rw [HC4.out] at he
          subst he
          have P5 := Lib.hid (P4.out.keep hB5)
          have B5 := Lib.hid (B4.out.trans hB5)
          clear hB5 c0 c1 c2 P4 B4
          have c0 := P5.out.c0
          have c1 := P5.out.c1
          have c2 := P5.out.c2
          go_wp2_with fail
          have Y5 := Lib.hid (Y3.out.keep P5.out.bl)
          have PGx : Hid (Plc k g) := fun i hi => by have := HG.out i hi; omega
          have PHx : Hid (Plc j h) := fun i hi => by have := HH.out i hi; omega
          go_region_held3 (fun w' => w'.cell? ⟨bc, 0, none⟩ = some (.int .i64 L) ∧ w'.cell? ⟨bc, 1, none⟩ = some (.int .i64 F) ∧ w'.cell? ⟨bc, 2, none⟩ = some (.int .i64 M)) (go_keep)
            (first
              | (go_at_call 41
                 refine (greedy_of _ xw xk a3 k cw j ck p e3 g h q M (by omega) (by omega) PGx.out PHx.out hp12 HQb.out (P5.out.keep (Below.refl _ _).drew).sw (P5.out.keep (Below.refl _ _).drew).sk (Y5.out.keep (Below.refl _ _).drew)).mono ?_
                 rintro e W6 ⟨v6, G, rfl, hG6, hGp, hO6, hB6⟩
                 obtain ⟨x6, c6, rfl, hS6⟩ := own_pairs hO6 rfl
                 have P6 := (P5.out.keep (Below.refl _ _).drew).keep hB6
                 have q0 := P6.c0
                 have q1 := P6.c1
                 have q2 := P6.c2
                 have hB56 := ((Below.refl _ W5).drew).trans hB6)
              | (go_at_call 22
                 refine (cost_of W6 xw xk x6 k cw j ck G.length c6 g h (pcF G) L F M P6.sw P6.sk hS6 HIg.out HIh.out (by omega)).mono ?_
                 rintro e W7 ⟨he, hB7⟩
                 obtain ⟨V, hV, hXV⟩ := hG6.co HPK.out
                 rw [hV] at he
                 subst he
                 have P7 := P6.keep hB7
                 have r0 := P7.c0
                 have r1 := P7.c1
                 have r2 := P7.c2
                 have hB57 := hB56.trans (hB7.mono hB56.size)))
          have hXV' : X ≤ V := by rw [← HX.out]; exact hXV
          have HP7 := Lib.hid P7
          have B7 := Lib.hid (B5.out.trans (hB57.mono B5.out.size))
          clear hXV hV P7 P6 r0 r1 r2 q0 q1 q2 hB57 hB56 hB7 hB6 hS6 hO6 hG6 hGp c0 c1 c2 P5 B5 Y5 PGx PHx
          have c0 := HP7.out.c0
          have c1 := HP7.out.c1
          have c2 := HP7.out.c2
          go_wp2_with fail
          refine (prices_of W7 xw xk k cw j ck g h L F M HP7.out.sw HP7.out.sk HIg.out HIh.out).mono ?_
          rintro e W8 (⟨hne, _⟩ | ⟨_, bt, rb, rfl, hT8, hB8⟩)
          · exact absurd HPK.out hne
          have P8 := Lib.hid (HP7.out.keep hB8)
          have B8 := Lib.hid (B7.out.trans (hB8.mono B7.out.size))
          have T8 := Lib.hid hT8
          clear c0 c1 c2 HP7 B7 hT8 hB8
          have c0 := P8.out.c0
          have c1 := P8.out.c1
          have c2 := P8.out.c2
          go_wp2_with fail
          refine (floor_of W8 xw xk k cw j ck g h L F M bt rb (prc L F M g h) P8.out.sw P8.out.sk HIg.out HIh.out HPK.out (T8.out.at (Nat.le_refl _) (fun i hi x hx => by have := prc_bd (pb_ok HPK.out).1 i (by omega) x hx; omega)) (flT_prc HPK.out hn12 hm12)).mono ?_
          rintro e W9 ⟨he, hB9⟩
          have h00 : prc L F M g h 0 0 = 0 := rfl
          rw [h00, HX.out, Int.sub_zero] at he
          subst he
          have P9 := Lib.hid (P8.out.keep hB9)
          have B9 := Lib.hid (B8.out.trans (hB9.mono B8.out.size))
          clear c0 c1 c2 P8 B8 T8 hB9 h00
          go_wp2_with fail
          refine (missing_of W9 (k : Int) (j : Int) l.length cp xp (pcF l) (by omega) (S4.out.keep (by decide) B9.out)).mono ?_
          rintro e W10 ⟨xx, xc, yy, yc, he, _, _, hB10⟩
          obtain ⟨m0, m1, m2⟩ := HGl.out.mis hn12 hm12
          rw [m0] at he
          obtain ⟨A, hA⟩ : ∃ A, (misW k j l.length (pcF l)).length = A := ⟨_, rfl⟩
          obtain ⟨B, hB⟩ : ∃ B, (misC k j l.length (pcF l)).length = B := ⟨_, rfl⟩
          rw [hA] at he m1
          rw [hB] at he m2
          subst he
          have P10 := Lib.hid (P9.out.keep hB10)
          clear hA hB hB10 P9 B9 m0 S4 HGl
          have wA : IntKind.i64.wrap ((A : Int) + l.length) = (k : Int) := by rw [show (A : Int) + l.length = k by omega]; exact IntWalk.i64_in _ (by omega)
          have wB : IntKind.i64.wrap ((B : Int) + l.length) = (j : Int) := by rw [show (B : Int) + l.length = j by omega]; exact IntWalk.i64_in _ (by omega)
          have c0 := P10.out.c0
          have c1 := P10.out.c1
          have c2 := P10.out.c2
          go_wp2_with fail
          refine (align_ok W10 xw xw k cw k cw g g L F M P10.out.sw P10.out.sw HIg.out HIg.out HPW.out).mono ?_
          rintro e W11 ⟨v11, rfl, _, hB11⟩
          have hself := prc_self HPW.out
          rw [hself]
          have P11 := Lib.hid (P10.out.keep hB11)
          have HBz := Lib.hid (HB0.out.trans (P11.out.bl.mono HB0.out.size))
          clear hB11 c0 c1 c2 P10 hself wA wB HPW
          by_cases hj0 : j = 0
          · have hj1 : (j : Int) = 0 := by omega
            clear hj0
            go_wp2_with fail
            refine (awake_of _).mono ?_
            rintro e w2 ⟨rfl, hB2⟩
            have HB2 := Lib.hid (HBz.out.trans (hB2.mono HBz.out.size))
            clear hB2
            go_wp2_with fail
            go_ret
            exact ⟨rfl, HB2.out⟩
          have hj1 : ¬ (j : Int) = 0 := by omega
          obtain ⟨t, ht, HT⟩ : ∃ t : Nat, t < j ∧ Hid (z % (j : Int) = (t : Int)) := by
            have h1 := Int.emod_nonneg z hj1
            have h2 := Int.emod_lt_of_pos z (b := (j : Int)) (by omega)
            exact ⟨(z % (j : Int)).toNat, by omega, Lib.hid (by omega)⟩
          obtain ⟨jj, hjj⟩ : ∃ jj, j = jj + 1 := ⟨j - 1, by omega⟩
          have HK3 : plChk 0 jj (gone t h) = 0 := plChk_zero (by omega) (gone_plc (fun i hi => HH.out i (by omega))) (gone_up (fun i h0 hi => HU.out i h0 (by omega)))
          have HPG := Lib.hid (pb_zero HK1.out HK3 hL hF hM)
          have HIG := Lib.hid (plc_i64 (gone_plc (q := t) (m := jj) (fun i hi => HH.out i (by omega))))
          obtain ⟨g1, g2⟩ := prc_gone (F := F) (M := M) (g := g) (h := h) hL.1 hF.1 k jj (show t ≤ jj by omega)
          rw [← hjj, HX.out] at g1 g2
          have b1 := prc_bd (pb_ok HPG.out).1 k (Nat.le_refl _) jj (Nat.le_refl _)
          have b2 := prc_bd (pb_ok HPK.out).1 k (Nat.le_refl _) j (Nat.le_refl _)
          rw [HX.out] at b2
          obtain ⟨Z, hZ⟩ : ∃ Z, prc L F M g (gone t h) k jj = Z := ⟨_, rfl⟩
          rw [hZ] at g1 g2 b1
          have HZ := Lib.hid hZ
          have wz : IntKind.i64.wrap z = z := IntWalk.i64_in _ (by omega)
          have wZ1 : IntKind.i64.wrap (Z - X) = Z - X := IntWalk.i64_in _ (by omega)
          have wZ2 : IntKind.i64.wrap (X - Z) = X - Z := IntWalk.i64_in _ (by omega)
          have l1 : Z - X ≤ L := by omega
          have l2 : X - Z ≤ F := by omega
          have HWZ : Hid (IntKind.i64.wrap (Z - X) = Z - X ∧ IntKind.i64.wrap (X - Z) = X - Z ∧ Z - X ≤ L ∧ X - Z ≤ F) := ⟨wZ1, wZ2, l1, l2⟩
          have hj3 : jj + 1 ≤ j := by omega
          have hj4 : j ≤ jj + 1 := by omega
          clear wZ1 wZ2 l1 l2 g1 g2 b1 b2 hZ HK3 HK1 HU HX HPK HIh hjj
          have c0 := P11.out.c0
          have c1 := P11.out.c1
          have c2 := P11.out.c2
          go_upto_region 33 with fail
          rw [HT.out]
          obtain ⟨bk, ok, exk, hIk⟩ := P11.out.sk (by omega)
          subst exk
          have HIk := Lib.hid hIk
          have hbk := hIk.lt (by omega)
          have HR : Hid (Below W11.heap.size W11 W11) := Below.refl _ _
          have wt : IntKind.i64.wrap ((t : Int) + 1) = (t : Int) + 1 := IntWalk.i64_in _ (by omega)
          have t0 : (0 : Int) ≤ (t : Int) := by omega
          have t1 : (0 : Int) ≤ (t : Int) + 1 := by omega
          have t2 : (t : Int) ≤ (ck : Int) := by omega
          have t3 : (t : Int) + 1 ≤ (j : Int) := by omega
          have t4 : ((t : Int) + 1).toNat = t + 1 := by omega
          have t5 : ¬ ck = 0 := by omega
          have t7 : (t : Int) ≤ (t : Int) + 1 := by omega
          obtain ⟨wZ1, wZ2, l1, l2⟩ := HWZ.out
          clear hIk wz HT
          rcases (by omega : ck = t + 1 ∨ ¬ ck = t + 1) with t6 | t6
          all_goals
            go_region_held3 (fun w' => w'.cell? ⟨bc, 0, none⟩ = some (.int .i64 L) ∧ w'.cell? ⟨bc, 1, none⟩ = some (.int .i64 F) ∧ w'.cell? ⟨bc, 2, none⟩ = some (.int .i64 M)) (go_keep)
              (first
              | (refine step_ints (by rfl) (.tmp 217) (.tmp 220) (by rfl) (k := 0) (b := t) (kb := t) (F := h) (G := h) (H := h) (B := W11.heap.size) (by omega) (by rfl) (by rfl) (own_nil0 _ (World.alloc_heap_new _ _) (Nat.le_refl _)) (fun i hi => by have := cells_from (W := W11.drew.alloc (.cells #[] 3)) (HIk.out.keep (HR.out.drew.alloc (Nat.le_refl _) _) hbk) (s := 0) (c := t) (fun _ => rfl) (by omega) i hi; rwa [Nat.zero_add] at this) (fun i hi => absurd hi (by omega)) (fun i hi => by rw [Nat.zero_add]) (by omega) (by omega) (by simp) ?_
                 intro gb1 cap1 w1 o1 gr1 at1
                 have s1 := gr1.size
                 simp at s1 at1
                 have b1 : Below W11.heap.size W11 w1 := Below.grown (HR.out.drew.alloc (Nat.le_refl _) _) gr1 (by first | omega | (simp; done) | (simp; omega)) (fun k e => by have e := Option.some.inj e; first | omega | (simp at e; omega) | simp at e)
                 have P1 := P11.out.keep b1
                 have q0 := P1.c0
                 have q1 := P1.c1
                 have q2 := P1.c2)
              | (refine step_ints (by rfl) (.tmp 221) (.tmp 225) (by rfl) (k := t) (b := j - (t + 1)) (kb := jj) (F := h) (G := fun i => h (t + 1 + i)) (H := gone t h) (B := W11.heap.size) (by omega) (by rfl) (by rfl) o1 (cells_from (HIk.out.keep b1 hbk) (s := t + 1) (c := j - (t + 1)) (fun hc => by first | rfl | exact absurd hc (by omega)) (by omega)) (fun i hi => by unfold gone; rw [if_pos hi]) (fun i hi => by unfold gone; rw [if_neg (by omega), show t + i + 1 = t + 1 + i by omega]) (by omega) (by omega) (by omega) ?_
                 intro gb2 cap2 w2 o2 gr2 at2
                 have s2 := gr2.size
                 have b2 : Below W11.heap.size W11 w2 := b1.grown gr2 b1.size (fun k e => by have e := Option.some.inj e; omega)
                 have P2 := P11.out.keep b2
                 have r0 := P2.c0
                 have r1 := P2.c1
                 have r2 := P2.c2
                 have SG : Sl w2 1 (some ⟨gb2, 0, none⟩) jj (gone t h) := own_SlI o2)
              | (go_at_call 40
                 refine (align_ok w2 xw (some ⟨gb2, 0, none⟩) k cw jj cap2 g (gone t h) L F M P2.sw SG HIg.out HIG.out HPG.out).mono ?_
                 rintro e W12 ⟨v12, rfl, _, hB12⟩
                 rw [HZ.out]
                 have P12 := P2.keep hB12
                 have v0 := P12.c0
                 have v1 := P12.c1
                 have v2 := P12.c2))
            have HBw := Lib.hid (HBz.out.trans ((b2.trans (hB12.mono b2.size)).mono HBz.out.size))
            clear SG P12 P2 P1 r0 r1 r2 q0 q1 q2 c0 c1 c2 hB12 b1 o1 o2 gr1 gr2 HIk HR
            go_wp2_with fail
            refine (awake_of _).mono ?_
            rintro e w3 ⟨rfl, hB3⟩
            have HB3 := Lib.hid (HBw.out.trans (hB3.mono HBw.out.size))
            clear hB3
            go_wp2_with fail
            go_ret
            exact ⟨rfl, HB3.out⟩
end Go.Proofs.Ytonlamkpehakdaa
