/-
  WALKS: Align of a problem without an error.
-/
import Derived.Test.YtonlamkpehakdaaPmJ
namespace Go.Proofs.Ytonlamkpehakdaa
open Go.RowKit

theorem x_pair : (Try.prog.info? 107).map (fun i => (i.zero, i.size, i.bytes)) = some (some (.agg #[.int .i64 0, .int .i64 0]), 2, 16) := by kernel_rfl
def AlignEnd (w : World) (n m : Nat) (g h : Nat → Int) (L F M : Int) (e : Ending) (w' : World) : Prop :=
  ∃ v, e = .returned (.tuple #[v, .int .i64 (prc L F M g h n m), .int .i64 0]) ∧ w'.ownsRow w.heap.size 107 2 v (bkP (prc L F M g h) L F M g h (n + m) n m).length (pcells (bkP (prc L F M g h) L F M g h (n + m) n m).reverse) ∧ Below w.heap.size w w'

theorem stp_lt {L F M : Int} {g h : Nat → Int} {i k : Nat} {s : Stp} (hs : s ∈ stp L F M g h i k) : s.1 ≤ i ∧ s.2.1 ≤ k ∧ s.1 + s.2.1 < i + k := by
  unfold stp at hs
  rcases List.mem_append.1 hs with hs | hs
  · rcases List.mem_append.1 hs with hs | hs
    · unfold stp1 at hs
      split at hs
      · obtain rfl := List.mem_singleton.1 hs; dsimp only; omega
      · cases hs
    · unfold stp2 at hs
      split at hs
      · obtain rfl := List.mem_singleton.1 hs; dsimp only; omega
      · cases hs
  · unfold stp3 at hs
    split at hs
    · obtain rfl := List.mem_singleton.1 hs; dsimp only; omega
    · cases hs
theorem own_block {w : World} {base : Nat} {e : TypeId} {size : Nat} {v : Value} {k : Nat} {xs : List Value} (h : w.ownsRow base e size v k xs) : ∀ r, v.ownBlock = some r → base ≤ r ∧ ∃ cur, w.heap[r]? = some (.cells cur e (0, 0)) := by
  intro r hr
  rcases h.2 with ⟨rfl, _⟩ | ⟨g, cap, cur, rfl, h1, h2, _⟩
  · cases hr
  · simp only [Value.ownBlock, Option.some.injEq] at hr
    subst hr
    exact ⟨h1, cur, h2⟩
theorem cells_two (w : World) (x y : Value) (t : TypeId) : ∀ (j : Nat) (u : Value), [x, y][j]? = some u → (w.alloc (.cells #[x, y] t)).cell? ((⟨w.heap.size, 0, none⟩ : Addr).add j) = some u := by
  intro j u hu
  have h := World.alloc_heap_new w (.cells #[x, y] t)
  match j, hu with
  | 0, hu => cases hu; exact cell_h h rfl
  | 1, hu => cases hu; exact cell_h h rfl
theorem own_base {w : World} {base base' : Nat} {e : TypeId} {size : Nat} {v : Value} {k : Nat} {xs : List Value} (h : w.ownsRow base e size v k xs) (hb : base' ≤ base) : w.ownsRow base' e size v k xs := by
  obtain ⟨hl, h⟩ := h
  refine ⟨hl, ?_⟩
  rcases h with h | ⟨g, cap, cur, h0, h1, h2⟩
  · exact .inl h
  · exact .inr ⟨g, cap, cur, h0, Nat.le_trans hb h1, h2⟩
theorem rev_own (w : World) (base : Nat) (v : Value) (l : List (Nat × Nat)) (h : w.ownsRow base 107 2 v l.length (pcells l)) (hl : l.length ≤ 1000) :
    Calls Try.prog 78 #[v] w fun e w' => (∃ x, e = .returned x) ∧ w'.ownsRow base 107 2 v l.length (pcells l.reverse) ∧ Below base w w' := by
  rcases h.2 with ⟨rfl, h0⟩ | ⟨b, cap, cur, rfl, h1, h2, h3⟩
  · refine (rev_nil w).mono ?_
    rintro e w' ⟨hx, rfl⟩
    have e0 : l = [] := List.length_eq_zero_iff.1 h0
    subst e0
    exact ⟨hx, h, Below.refl _ _⟩
  · obtain ⟨_, hb, hk, hc, G, hG⟩ := own_mix h
    refine (rev_of w b l.length cap (cap * 2) (pcF l) G hG (by omega) hl).mono ?_
    rintro e w' ⟨hx, hB, hX⟩
    refine ⟨hx, mix_own hB rfl hb hk hc, ⟨hX.os, hX.tape, hX.output, hX.size, fun k hk2 => ?_⟩⟩
    by_cases hkw : k < w.heap.size
    · exact hX.block k hkw (by omega)
    · have := hG.lt; omega
theorem own_below {w W : World} {base : Nat} {e : TypeId} {size : Nat} {v : Value} {k : Nat} {xs : List Value} (h : w.ownsRow base e size v k xs) (hb : Below w.heap.size w W) : W.ownsRow base e size v k xs := by
  obtain ⟨hl, h⟩ := h
  refine ⟨hl, ?_⟩
  rcases h with h | ⟨g, cap, cur, h0, h1, h2, h3⟩
  · exact .inl h
  · exact .inr ⟨g, cap, cur, h0, h1, (hb.block _ (Array.getElem?_eq_some_iff.1 h2).1).trans h2, h3⟩

set_option maxRecDepth 100000 in
set_option maxHeartbeats 8000000 in
theorem align_ok (w : World) (wa ha : Option Addr) (n wc m hc : Nat) (g h : Nat → Int) (L F M : Int) (s1 : Sl w 1 wa n g) (s2 : Sl w 1 ha m h) (i1 : I64s g n) (i2 : I64s h m) (hp : pbChk n m g h L F M = 0) :
    Calls Try.prog 40 #[.slice wa n wc, .slice ha m hc, .agg #[.int .i64 L, .int .i64 F, .int .i64 M]] w (AlignEnd w n m g h L F M) := by
  have S1 := Lib.hid s1
  have S2 := Lib.hid s2
  have I1 := Lib.hid i1
  have I2 := Lib.hid i2
  have HP0 := Lib.hid hp
  have HP := Lib.hid (pb_ok hp).1
  have hn40 := HP.out.n40
  have hm40 := HP.out.m40
  have hF1 : ∀ f, Fence.wide.fn f := fun _ => trivial
  clear s1 s2 i1 i2 hp
  go_enter Try.func40, Try.ntmps40
  go_wp2_with fail
  obtain ⟨w0, hw0⟩ : ∃ w0, w.alloc (.cells #[.int .i64 L, .int .i64 F, .int .i64 M] 36) = w0 := ⟨_, rfl⟩
  have hB0 : Below w.heap.size w w0 := by rw [← hw0]; exact (Below.refl _ w).alloc (Nat.le_refl _) _
  have hbx : w0.heap[w.heap.size]? = some (.cells #[.int .i64 L, .int .i64 F, .int .i64 M] 36 (0, 0)) := by rw [← hw0]; exact World.alloc_heap_new _ _
  rw [hw0]
  clear hw0
  refine (checkProblem_of w0 wa ha n wc m hc g h L F M (S1.out.keep (by decide) hB0) (S2.out.keep (by decide) hB0) I1.out I2.out).mono ?_
  rintro e w2 ⟨rfl, hB2⟩
  rw [HP0.out]
  have hbx2 := (hB2.block _ (Array.getElem?_eq_some_iff.1 hbx).1).trans hbx
  have hBw2 := hB0.trans (hB2.mono hB0.size)
  have HBX := Lib.hid hbx2
  have HB2 := Lib.hid hBw2
  clear hbx hbx2 hB2 hB0 hBw2
  go_wp2_with fail
  refine (wpIn_wide (n := 5)).1 ?_
  refine wpIn_region_I (fun W2 : World => W2.cell? ⟨w.heap.size, 0, none⟩ = some (.int .i64 L) ∧ W2.cell? ⟨w.heap.size, 1, none⟩ = some (.int .i64 F) ∧ W2.cell? ⟨w.heap.size, 2, none⟩ = some (.int .i64 M)) (by kernel_rfl) ?_
  change anyI _ _ _ _ _ _ _ 10 (Array.replicate 10 false) _ _
  have hS0 : (fun W2 : World => W2.cell? ⟨w.heap.size, 0, none⟩ = some (.int .i64 L) ∧ W2.cell? ⟨w.heap.size, 1, none⟩ = some (.int .i64 F) ∧ W2.cell? ⟨w.heap.size, 2, none⟩ = some (.int .i64 M)) w2.drew := ⟨cell_h HBX.out rfl, cell_h HBX.out rfl, cell_h HBX.out rfl⟩
  dsimp only at hS0
  refine anyI_takeD hF1 0 23 (v := ?_) rfl rfl (by kernel_rfl) (by kernel_rfl) (by kernel_rfl) (by kernel_rfl) (fun _ _ _ h => h) hS0 rfl ?_ ?_
  rotate_left
  · intro W2 hSw; obtain ⟨s0, s1, s2⟩ := hSw; go_simp; try with_reducible rfl
  simp only [List.setIfInBounds_toArray, List.set_cons_zero, List.set_cons_succ]
  refine anyI_takeD hF1 1 24 (v := ?_) rfl rfl (by kernel_rfl) (by kernel_rfl) (by kernel_rfl) (by kernel_rfl) (fun _ _ _ h => h) hS0 rfl ?_ ?_
  rotate_left
  · intro W2 hSw; obtain ⟨s0, s1, s2⟩ := hSw; go_simp; try with_reducible rfl
  simp only [List.setIfInBounds_toArray, List.set_cons_zero, List.set_cons_succ]
  refine anyI_takeD hF1 2 25 (v := ?_) rfl rfl (by kernel_rfl) (by kernel_rfl) (by kernel_rfl) (by kernel_rfl) (fun _ _ _ h => h) hS0 rfl ?_ ?_
  rotate_left
  · intro W2 hSw; obtain ⟨s0, s1, s2⟩ := hSw; go_simp; try with_reducible rfl
  simp only [List.setIfInBounds_toArray, List.set_cons_zero, List.set_cons_succ]
  refine anyI_takeD hF1 4 27 (v := ?_) rfl rfl (by kernel_rfl) (by kernel_rfl) (by kernel_rfl) (by kernel_rfl) (fun _ _ _ h => h) hS0 rfl ?_ ?_
  rotate_left
  · intro W2 hSw; obtain ⟨s0, s1, s2⟩ := hSw; go_simp; try with_reducible rfl
  simp only [List.setIfInBounds_toArray, List.set_cons_zero, List.set_cons_succ]
  refine anyI_takeD hF1 5 28 (v := ?_) rfl rfl (by kernel_rfl) (by kernel_rfl) (by kernel_rfl) (by kernel_rfl) (fun _ _ _ h => h) hS0 rfl ?_ ?_
  rotate_left
  · intro W2 hSw; obtain ⟨s0, s1, s2⟩ := hSw; go_simp; try with_reducible rfl
  simp only [List.setIfInBounds_toArray, List.set_cons_zero, List.set_cons_succ]
  refine anyI_takeD hF1 6 29 (v := ?_) rfl rfl (by kernel_rfl) (by kernel_rfl) (by kernel_rfl) (by kernel_rfl) (fun _ _ _ h => h) hS0 rfl ?_ ?_
  rotate_left
  · intro W2 hSw; obtain ⟨s0, s1, s2⟩ := hSw; go_simp; try with_reducible rfl
  simp only [List.setIfInBounds_toArray, List.set_cons_zero, List.set_cons_succ]
  have hBd : Below w.heap.size w w2.drew := HB2.out.drew
  obtain ⟨wd, hwd⟩ : ∃ wd, w2.drew = wd := ⟨_, rfl⟩
  have hbxd : wd.heap[w.heap.size]? = some (.cells #[.int .i64 L, .int .i64 F, .int .i64 M] 36 (0, 0)) := by rw [← hwd]; exact HBX.out
  rw [hwd] at hS0 hBd ⊢
  clear hwd HB2 HBX
  refine anyI_call hF1 (fun h => absurd h (by decide)) 3 26 (w := wd) rfl rfl (by kernel_rfl) (by kernel_rfl) (by rfl) (by go_simp; try with_reducible rfl) (callsIn_wide.2 (endings_of wd wa ha n wc m hc g h L F M (S1.out.keep (by decide) hBd) (S2.out.keep (by decide) hBd) HP.out)) ?_
  rintro e w3 ⟨rfl, hE3, hB3⟩
  have hbx3 := (hB3.block _ (Array.getElem?_eq_some_iff.1 hbxd).1).trans hbxd
  replace hS0 : w3.cell? ⟨w.heap.size, 0, none⟩ = some (.int .i64 L) ∧ w3.cell? ⟨w.heap.size, 1, none⟩ = some (.int .i64 F) ∧ w3.cell? ⟨w.heap.size, 2, none⟩ = some (.int .i64 M) := ⟨cell_h hbx3 rfl, cell_h hbx3 rfl, cell_h hbx3 rfl⟩
  refine ⟨_, rfl, hS0, ?_⟩
  simp only [List.setIfInBounds_toArray, List.set_cons_zero, List.set_cons_succ]
  have hBw3 := hBd.trans (hB3.mono hBd.size)
  refine anyI_call hF1 (fun h => absurd h (by decide)) 7 30 (w := w3) rfl rfl (by kernel_rfl) (by kernel_rfl) (by rfl) (by go_simp; try with_reducible rfl) (callsIn_wide.2 (priceTable_of w3 wa ha n wc m hc g h L F M (S1.out.keep (by decide) hBw3) (S2.out.keep (by decide) hBw3) HP.out)) ?_
  rintro e w4 ⟨bt, rb, rfl, hT4, hB4⟩
  have hbx4 := (hB4.block _ (Array.getElem?_eq_some_iff.1 hbx3).1).trans hbx3
  replace hS0 : w4.cell? ⟨w.heap.size, 0, none⟩ = some (.int .i64 L) ∧ w4.cell? ⟨w.heap.size, 1, none⟩ = some (.int .i64 F) ∧ w4.cell? ⟨w.heap.size, 2, none⟩ = some (.int .i64 M) := ⟨cell_h hbx4 rfl, cell_h hbx4 rfl, cell_h hbx4 rfl⟩
  refine ⟨_, rfl, hS0, ?_⟩
  simp only [List.setIfInBounds_toArray, List.set_cons_zero, List.set_cons_succ]
  refine anyI_takeD hF1 8 10 (v := ?_) rfl rfl (by kernel_rfl) (by kernel_rfl) (by kernel_rfl) (by kernel_rfl) (fun _ _ _ h => h) hS0 rfl ?_ ?_
  rotate_left
  · intro W2 hSw; obtain ⟨s0, s1, s2⟩ := hSw; go_simp; try with_reducible rfl
  simp only [List.setIfInBounds_toArray, List.set_cons_zero, List.set_cons_succ]
  refine anyI_takeD hF1 9 11 (v := ?_) rfl rfl (by kernel_rfl) (by kernel_rfl) (by kernel_rfl) (by kernel_rfl) (fun _ _ _ h => h) hS0 rfl ?_ ?_
  rotate_left
  · intro W2 hSw; obtain ⟨s0, s1, s2⟩ := hSw; go_simp; try with_reducible rfl
  simp only [List.setIfInBounds_toArray, List.set_cons_zero, List.set_cons_succ]
  refine anyI_done (by kernel_rfl) ?_ _
  have hE4 := hE3.keep hB4
  have hBw4 := hBw3.trans (hB4.mono hBw3.size)
  generalize wd.heap.size = S at *
  have HE := Lib.hid hE4
  have HBw := Lib.hid hBw4
  have HT := Lib.hid hT4
  clear hE3 hE4 hB3 hB4 hbx3 hbx4 hBw3 hBw4 hBd hbxd hS0 hT4
  have hTA : TbAt w4 bt m rb (prc L F M g h) (n + 1) := HT.out.at (Nat.le_refl _) (fun i hi k hk => by have := prc_bd HP.out i (by omega) k hk; omega)
  have HTA := Lib.hid hTA
  clear hTA HP0
  obtain ⟨i0, hi0, hz0, hz1, hz2⟩ := info_parts x_pair
  go_wp2_with fail
  go_loopw [12, 13, 14] (fun v vi vk wr => ∃ (i k r : Nat) (l : List (Nat × Nat)), vi = .int .i64 i ∧ vk = .int .i64 k ∧ i ≤ n ∧ k ≤ m ∧ i + k ≤ r ∧ l.length + i ≤ n ∧ Hid (l ++ bkP (prc L F M g h) L F M g h r i k = bkP (prc L F M g h) L F M g h (n + m) n m) ∧ Hid (wr.ownsRow w4.heap.size 107 2 v l.length (pcells l)) ∧ Hid (Below w4.heap.size w4 wr)) (fun _ vi vk _ => (intOf vi + intOf vk).toNat)
  case atStart => exact ⟨n, m, n + m, [], rfl, rfl, by omega, by omega, by omega, by simp, rfl, ⟨rfl, .inl ⟨rfl, rfl⟩⟩, Below.refl _ _⟩
  case round =>
    obtain ⟨i, k, r, l, rfl, rfl, hi, hk, hr, hll, HL, HO, HB⟩ := hrel
    by_cases hik : 0 < i ∧ 0 < k
    · obtain ⟨hi0', hk0'⟩ := hik
      obtain ⟨r, rfl⟩ : ∃ q, r = q + 1 := ⟨r - 1, by omega⟩
      have hE5 := HE.out.keep HB.out
      have hst := hE5.st i k hi hk
      have hb2 : Below wr.heap.size wr ((wr.alloc (.cells #[.int .i64 (i : Int)] 3)).alloc (.cells #[.int .i64 (k : Int)] 3)) := ((Below.refl _ wr).alloc (Nat.le_refl _) _).alloc (by simp) _
      have hmem := best0_mem (T := prc L F M g h) (stp_ne (L := L) (F := F) (M := M) (g := g) (h := h) (i := i) (k := k) (.inl hi0'))
      have hlt := stp_lt hmem
      have HS := Lib.hid hst
      have Hb2 := Lib.hid hb2
      have hip : (0 : Int) < i := by omega
      have hkp : (0 : Int) < k := by omega
      have hLr : bkP (prc L F M g h) L F M g h (r + 1) i k = (if (best0 (prc L F M g h) (stp L F M g h i k)).1 < i ∧ (best0 (prc L F M g h) (stp L F M g h i k)).2.1 < k then [((best0 (prc L F M g h) (stp L F M g h i k)).1, (best0 (prc L F M g h) (stp L F M g h i k)).2.1)] else []) ++ bkP (prc L F M g h) L F M g h r (best0 (prc L F M g h) (stp L F M g h i k)).1 (best0 (prc L F M g h) (stp L F M g h i k)).2.1 := by
        show (if 0 < i ∧ 0 < k then _ else _) = _
        rw [if_pos ⟨hi0', hk0'⟩]
      have HLr := Lib.hid hLr
      clear hE5 hst hb2 hmem hLr
      go_wp2_with fail
      refine (endings1_of _ _ _ _ _).mono ?_
      rintro e w' ⟨rfl, rfl⟩
      go_wp2_with fail
      refine (cheapest_of _ wr.heap.size (wr.heap.size + 1) S (S + 1 + 1 + 1) (S + 1) (S + 1 + 1) wa ha n wc m hc g h L F M i k bt (n + 1) (n + 1) m (n + 1) rb (prc L F M g h) HS.out ((HTA.out.keep HB.out).keep Hb2.out) (stp_ok HP.out hi hk (by omega) (by omega)) (by omega) (by omega)).mono ?_
      rintro e w5 ⟨rfl, hb5⟩
      have hb5' : Below wr.heap.size wr w5 := Hb2.out.trans (hb5.mono (by simp; omega))
      obtain ⟨⟨sa, sb, sc⟩, hs⟩ : ∃ s, best0 (prc L F M g h) (stp L F M g h i k) = s := ⟨_, rfl⟩
      rw [hs] at hlt HLr ⊢
      dsimp only at hlt HLr
      obtain ⟨W6, hW6⟩ : ∃ W6, w5.alloc (.cells #[.int .i64 (sa : Int), .int .i64 (sb : Int), .int .i64 sc] 147) = W6 := ⟨_, rfl⟩
      have hb6 : Below w5.heap.size w5 W6 := by rw [← hW6]; exact (Below.refl _ _).alloc (Nat.le_refl _) _
      have hbx : W6.heap[w5.heap.size]? = some (.cells #[.int .i64 (sa : Int), .int .i64 (sb : Int), .int .i64 sc] 147 (0, 0)) := by rw [← hW6]; exact World.alloc_heap_new _ _
      have x0 : W6.cell? ⟨w5.heap.size, 0, none⟩ = some (.int .i64 (sa : Int)) := cell_h hbx rfl
      have x1 : W6.cell? ⟨w5.heap.size, 1, none⟩ = some (.int .i64 (sb : Int)) := cell_h hbx rfl
      have x2 : W6.cell? ⟨w5.heap.size, 2, none⟩ = some (.int .i64 sc) := cell_h hbx rfl
      have hb56 := hb5'.trans (hb6.mono hb5'.size)
      have hO6 : W6.ownsRow w4.heap.size 107 2 u12 l.length (pcells l) := own_below HO.out hb56
      have hB6 : Below w4.heap.size w4 W6 := HB.out.trans (hb56.mono HB.out.size)
      have hz6 : W6.heap.size = w5.heap.size + 1 := by rw [← hW6]; simp
      have HZ6 := Lib.hid hz6
      have HW6 := Lib.hid hW6
      have HBX := Lib.hid hbx
      have HO6 := Lib.hid hO6
      have HB6 := Lib.hid hB6
      have hW5lt : w5.heap.size < W6.heap.size := (Array.getElem?_eq_some_iff.1 hbx).1
      clear hW6 hz6 hbx hO6 hB6 hb56 hb6 hb5' hb5 hs HS Hb2 HO HB
      dsimp only [stV]
      obtain ⟨q1, q2, q3⟩ := hlt
      have HX0 := Lib.hid x0
      have HX1 := Lib.hid x1
      by_cases hpair : sa < i ∧ sb < k
      · obtain ⟨p1, p2⟩ := hpair
        rw [if_pos ⟨p1, p2⟩] at HLr
        have j1 : (sa : Int) < i := by omega
        have j2 : (sb : Int) < k := by omega
        go_wp2_with (at_builtin; rw [HW6.out]; refine wpList_append_own _ rfl (.tmp 57) (.tmp 63) 22 rfl w4.heap.size 107 i0 (.agg #[.int .i64 0, .int .i64 0]) 2 16 Try.underlying22 hi0 hz0 hz1 hz2 rfl (by decide) _ l.length (pcells l) rfl (HO6.out.alloc _) ⟨w5.heap.size + 1, 0, none⟩ 1 1 [.int .i64 (sa : Int), .int .i64 (sb : Int)] rfl rfl (by rw [← HZ6.out]; exact cells_two W6 _ _ _) (by simp [Value.oneCell']) (by unfold maxLen; omega) (by omega) (by have := HB6.out.size; simp; omega) ?_)
        intro v7 w7 hown7 hgrow7 _
        have hk7 : ∀ j : Nat, j < W6.heap.size → some j ≠ u12.ownBlock → w7.heap[j]? = W6.heap[j]? := fun j hj hne => (hgrow7.block j (by simp; omega) hne).trans (Below.heap_alloc W6 _ j hj)
        have hob := own_block HO6.out
        have hx7 := (hk7 _ hW5lt (fun e => by obtain ⟨_, cur, hc⟩ := hob _ e.symm; rw [HBX.out] at hc; cases hc)).trans HBX.out
        have y0 : w7.cell? ⟨w5.heap.size, 0, none⟩ = some (.int .i64 (sa : Int)) := cell_h hx7 rfl
        have y1 : w7.cell? ⟨w5.heap.size, 1, none⟩ = some (.int .i64 (sb : Int)) := cell_h hx7 rfl
        have hB7 : Below w4.heap.size w4 w7 := (HB6.out.alloc HB6.out.size _).grown hgrow7 (by have := HB6.out.size; simp; omega) (fun r hr => (hob r hr).1)
        have HO7 := Lib.hid hown7
        have HB7 := Lib.hid hB7
        clear hown7 hgrow7 hk7 hob hx7 hB7 x0 x1 x2
        go_wp2_with fail
        go_quiet (fail)
        go_wp2_with fail
        refine ⟨⟨sa, sb, r, l ++ [(sa, sb)], rfl, rfl, by omega, by omega, by omega, by simp; omega, ?_, ?_, below_drewN HB7.out nq⟩, by simp [intOf]; omega⟩
        · show l ++ [(sa, sb)] ++ bkP (prc L F M g h) L F M g h r sa sb = _
          rw [← HL.out, HLr.out, List.append_assoc]
        · have h7 := HO7.out
          rw [← pcells_snoc l (sa, sb)] at h7
          rw [List.length_append]
          exact h7
      · rw [if_neg hpair] at HLr
        have hcs : (i : Int) ≤ sa ∨ ((sa : Int) < i ∧ (k : Int) ≤ sb) := by omega
        clear hpair
        rcases hcs with j1 | ⟨j1, j2⟩
        all_goals
          go_wp2_with fail
          rw [HW6.out]
          go_quiet (fail)
          go_wp2_with fail
          refine ⟨⟨sa, sb, r, l, rfl, rfl, by omega, by omega, by omega, by omega, ?_, HO6.out, below_drewN HB6.out nq⟩, by simp [intOf]; omega⟩
          show l ++ bkP (prc L F M g h) L F M g h r sa sb = _
          rw [← HL.out, HLr.out, List.nil_append]
    · have hend : bkP (prc L F M g h) L F M g h r i k = [] := by
        cases r with
        | zero => rfl
        | succ r => show (if 0 < i ∧ 0 < k then _ else _) = _; rw [if_neg hik]
      have hL := HL.out
      rw [hend, List.append_nil] at hL
      have HL' := Lib.hid hL
      clear hend hL HL
      have hcs : (i : Int) ≤ 0 ∨ ((0 : Int) < i ∧ (k : Int) ≤ 0) := by omega
      clear hik
      have HIK := Lib.hid hi
      rcases hcs with j1 | ⟨j1, j2⟩
      all_goals
        go_wp2_with fail
        refine (rev_own wr w4.heap.size u12 l HO.out (by omega)).mono ?_
        rintro e w8 ⟨⟨x8, rfl⟩, hO8, hB8⟩
        have hB48 := HB.out.trans hB8
        have T8 := HTA.out.keep hB48
        have d1 := T8.ct n (by omega)
        have d2 := T8.cr n (by omega) m (by omega)
        have f1 : (n : Int) < ((n + 1 : Nat) : Int) := by omega
        have f2 : (m : Int) < ((m + 1 : Nat) : Int) := by omega
        have HO8 := Lib.hid hO8
        have HB8 := Lib.hid hB48
        clear hO8 hB8 hB48 T8
        go_wp2_with fail
        go_quiet (fail)
        go_wp2_with fail
        have hBz := HBw.out.size
        refine bodyPost_ret (v := .tuple #[u12, .int .i64 (prc L F M g h n m), .int .i64 0]) (by simp [results, Try.f40, go_sem]) rfl ⟨u12, rfl, ?_, below_drewN (HBw.out.trans (HB8.out.mono hBz)) nq⟩
        rw [← HL'.out]
        exact own_base HO8.out hBz
end Go.Proofs.Ytonlamkpehakdaa
