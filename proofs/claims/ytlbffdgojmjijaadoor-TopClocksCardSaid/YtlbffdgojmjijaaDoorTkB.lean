/-
  WALKS: the law of TopClocks.
-/
import Derived.Test.YtlbffdgojmjijaaDoorTkA
import Derived.Test.YtlbffdgojmjijaaDoorDeG
import Derived.Test.YtlbffdgojmjijaaDoorDyK
import Derived.BigQuiet
import Derived.BigRegion
namespace Go.Proofs.YtlbffdgojmjijaaDoor
open Go.RowKit

theorem ar_roll {p q r : Int} (hp : 0 ≤ p ∧ p < 720) (hq : 0 ≤ q ∧ q < 720) : arV ((p + r) % 720) ((q + r) % 720) = arV p q := by
  unfold arV
  omega
theorem ar_sym (p q : Int) : arV p q = arV q p := by unfold arV; omega
theorem ar_in {p q : Int} (hp : 0 ≤ p ∧ p < 720) (hq : 0 ≤ q ∧ q < 720) : 0 ≤ arV p q ∧ arV p q ≤ 360 ∧ (arV p q = 0 ↔ p = q) := by unfold arV; omega
set_option maxRecDepth 100000 in
set_option maxHeartbeats 4000000 in
/-- The closure of TopClocks: how far two arms are apart. -/
theorem apart_of (w : World) (B1 B2 B3 : Nat) (i l k r d : Int) (hi : w.cell? ⟨B1, 0, none⟩ = some (.int .i64 i)) (hl : w.cell? ⟨B2, 0, none⟩ = some (.int .i64 l)) (hk : w.cell? ⟨B3, 0, none⟩ = some (.int .i64 k))
    (h1 : 1 ≤ l ∧ l ≤ 64) (h2 : 0 ≤ i ∧ i < l) (h3 : 0 ≤ k ∧ k < l) (h4 : 0 ≤ r ∧ r < 720) (hd : d = arV (ckv i l 0) (ckv k l 0)) :
    Calls Tryd.prog 14 #[.int .i64 r, .pointer (some ⟨B1, 0, none⟩), .pointer (some ⟨B2, 0, none⟩), .pointer (some ⟨B3, 0, none⟩)] w fun e w' => e = .returned (.tuple #[.int .i64 d, .int .i64 0]) ∧ w' = w := by
  obtain ⟨x, hx⟩ : ∃ x, ckv i l r = x := ⟨_, rfl⟩
  obtain ⟨y, hy⟩ : ∃ y, ckv k l r = y := ⟨_, rfl⟩
  have hx2 : 0 ≤ x ∧ x < 720 := by rw [← hx]; exact ckv_in _ _ _
  have hy2 : 0 ≤ y ∧ y < 720 := by rw [← hy]; exact ckv_in _ _ _
  have hxy : arV x y = d := by rw [← hx, ← hy, ck_roll, ck_roll (a := k), ar_roll (ckv_in _ _ _) (ckv_in _ _ _), hd]
  have hyx : arV y x = d := by rw [ar_sym, hxy]
  have HC1 : Hid (∀ w, Calls Tryd.prog 15 #[.int .i64 i, .int .i64 l, .int .i64 r] w fun e w' => e = .returned (.tuple #[.int .i64 x, .int .i64 0]) ∧ w' = w) := fun w => by rw [← hx]; exact clock_yes w i l r ⟨h1, h2, h4⟩
  have HC2 : Hid (∀ w, Calls Tryd.prog 15 #[.int .i64 k, .int .i64 l, .int .i64 r] w fun e w' => e = .returned (.tuple #[.int .i64 y, .int .i64 0]) ∧ w' = w) := fun w => by rw [← hy]; exact clock_yes w k l r ⟨h1, h3, h4⟩
  have HA1 : Hid (∀ w, Calls Tryd.prog 16 #[.int .i64 x, .int .i64 y] w fun e w' => e = .returned (.tuple #[.int .i64 d, .int .i64 0]) ∧ w' = w) := fun w => by rw [← hxy]; exact gAround_yes w x y ⟨hx2, hy2⟩
  have HA2 : Hid (∀ w, Calls Tryd.prog 16 #[.int .i64 y, .int .i64 x] w fun e w' => e = .returned (.tuple #[.int .i64 d, .int .i64 0]) ∧ w' = w) := fun w => by rw [← hyx]; exact gAround_yes w y x ⟨hy2, hx2⟩
  clear hx hy hx2 hy2 hxy hyx hd h1 h2 h3 h4
  go_enter Tryd.func14, Tryd.ntmps14
  go_wp2_with fail
  refine (HC1.out _).mono ?_
  rintro e w9 ⟨rfl, rfl⟩
  go_wp2_with fail
  refine (HC2.out _).mono ?_
  rintro e w9 ⟨rfl, rfl⟩
  go_wp2_with fail
  refine (HA1.out _).mono ?_
  rintro e w9 ⟨rfl, rfl⟩
  go_wp2_with fail
  refine (HA2.out _).mono ?_
  rintro e w9 ⟨rfl, rfl⟩
  go_wp2_with fail
  refine bodyPost_ret (v := .tuple #[.int .i64 d, .int .i64 0]) (by simp [results, Tryd.f14, go_sem]) rfl ?_
  exact ⟨rfl, rfl⟩

set_option maxRecDepth 100000 in
set_option maxHeartbeats 4000000 in
theorem topClocks_law (w : World) (a b n r m : Int) (ha : 0 ≤ a ∧ a ≤ 255) (hb : 0 ≤ b ∧ b ≤ 255) (hn : 0 ≤ n ∧ n ≤ 255) (hr : 0 ≤ r ∧ r ≤ 65535) (hm : 0 ≤ m ∧ m ≤ 65535) (hT : Dy.Tab w) :
    Calls Tryd.prog 5 #[.int .u8 a, .int .u8 b, .int .u8 n, .int .u16 r, .int .u16 m] w fun e w' => e = .returned (.bool true) ∧ Below w.heap.size w w' := by
  have HK : Hid (∀ W, Below w.heap.size w W → Calls Tryd.prog 17 #[] W fun e w' => e = .returned (.bool true) ∧ Below W.heap.size W w') := fun W hW => Dy.adds_of W (hT.keep hW)
  clear hT
  obtain ⟨l, hl⟩ : ∃ l, 1 + n % 64 = l := ⟨_, rfl⟩
  have hl2 : 1 ≤ l ∧ l ≤ 64 := by omega
  have hl0 : ¬l = 0 := by omega
  obtain ⟨x, hx⟩ : ∃ x, a % l = x := ⟨_, rfl⟩
  obtain ⟨y, hy⟩ : ∃ x, b % l = x := ⟨_, rfl⟩
  have hx2 : 0 ≤ x ∧ x < l := by rw [← hx]; exact ⟨Int.emod_nonneg _ hl0, Int.emod_lt_of_pos _ (by omega)⟩
  have hy2 : 0 ≤ y ∧ y < l := by rw [← hy]; exact ⟨Int.emod_nonneg _ hl0, Int.emod_lt_of_pos _ (by omega)⟩
  have HX := Lib.hid hx
  have HY := Lib.hid hy
  have HL := Lib.hid hl
  clear hx hy hl
  go_enter Tryd.func5, Tryd.ntmps5
  go_upto_region 2 with fail
  obtain ⟨W0, hW0⟩ : ∃ W0, w.alloc (.cells #[.int .i64 (1 + n % 64)] 3) = W0 := ⟨_, rfl⟩
  rw [hW0]
  have hB0 : Below w.heap.size w W0 := by rw [← hW0]; exact (Below.refl _ _).alloc (Nat.le_refl _) _
  have x0 : W0.cell? ⟨w.heap.size, 0, none⟩ = some (.int .i64 l) := by rw [← hW0, ← HL.out]; exact cell_h (World.alloc_heap_new w _) rfl
  have hs0 : W0.heap.size = w.heap.size + 1 := by rw [← hW0]; simp
  have HB0 := Lib.hid hB0
  clear hB0 hW0
  go_region
  · simp only [HX.out, HY.out]
    obtain ⟨W1, hW1⟩ : ∃ W1, ((W0.alloc (.cells #[.int .i64 x] 3)).alloc (.cells #[.int .i64 y] 3)).drew = W1 := ⟨_, rfl⟩
    rw [hW1]
    have hB1 : Below W0.heap.size W0 W1 := by rw [← hW1]; exact (((Below.refl _ _).alloc (Nat.le_refl _) _).alloc (by simp) _).drew
    have y1 : W1.cell? ⟨w.heap.size + 1, 0, none⟩ = some (.int .i64 x) := by rw [← hW1, ← hs0]; exact cell_h (al_old (World.alloc_heap_new W0 _) _) rfl
    have y2 : W1.cell? ⟨w.heap.size + 1 + 1, 0, none⟩ = some (.int .i64 y) := by rw [← hW1, ← hs0]; exact cell_h (al_1 W0 _ _) rfl
    have y0 : W1.cell? ⟨w.heap.size, 0, none⟩ = some (.int .i64 l) := (hB1.cell (p := ⟨w.heap.size, 0, none⟩) (World.block_lt_of_cell? _ _ x0)).trans x0
    have HB1 := Lib.hid (HB0.out.trans (hB1.mono HB0.out.size))
    obtain ⟨d, hd⟩ : ∃ d, d = arV (ckv x l 0) (ckv y l 0) := ⟨_, rfl⟩
    obtain ⟨hd1, hd2, hd3⟩ := ar_in (ckv_in x l 0) (ckv_in y l 0)
    have hor : (x = y ∧ d = 0) ∨ (¬x = y ∧ ¬d = 0) := by
      rw [← hd] at hd3
      by_cases h : x = y
      · exact .inl ⟨h, hd3.2 (by rw [h])⟩
      · exact .inr ⟨h, fun e => h (ck_same hl2 hx2 hy2 (hd3.1 e))⟩
    rw [← hd] at hd1 hd2
    have HC1 : Hid (Calls Tryd.prog 14 #[.int .i64 (r % 720), .pointer (some ⟨w.heap.size + 1, 0, none⟩), .pointer (some ⟨w.heap.size, 0, none⟩), .pointer (some ⟨w.heap.size + 1 + 1, 0, none⟩)] W1 fun e w' => e = .returned (.tuple #[.int .i64 d, .int .i64 0]) ∧ w' = W1) := apart_of W1 _ _ _ x l y _ d y1 y0 y2 hl2 hx2 hy2 (by omega) hd
    have HC2 : Hid (Calls Tryd.prog 14 #[.int .i64 (m % 720), .pointer (some ⟨w.heap.size + 1, 0, none⟩), .pointer (some ⟨w.heap.size, 0, none⟩), .pointer (some ⟨w.heap.size + 1 + 1, 0, none⟩)] W1 fun e w' => e = .returned (.tuple #[.int .i64 d, .int .i64 0]) ∧ w' = W1) := apart_of W1 _ _ _ x l y _ d y1 y0 y2 hl2 hx2 hy2 (by omega) hd
    have HKd : Hid (Calls Tryd.prog 17 #[] W1 fun e w' => e = .returned (.bool true) ∧ Below W1.heap.size W1 w') := HK.out W1 HB1.out
    have e7 : (0 : Int) ≤ r % 720 ∧ (0 : Int) ≤ m % 720 := by omega
    clear hW1 hB1 hd hd3 HK HX HY HB0 HL x0 hs0
    go_wp2_with fail
    refine HC1.out.mono ?_
    rintro e w9 ⟨rfl, rfl⟩
    go_wp2_with fail
    refine HC2.out.mono ?_
    rintro e w8 ⟨rfl, rfl⟩
    clear HC1 HC2
    rcases hor with ⟨h1, h2⟩ | ⟨h1, h2⟩
    · subst h1
      subst h2
      go_wp2_with fail
      refine HKd.out.mono ?_
      rintro e W3 ⟨rfl, hB3⟩
      have HB3 := Lib.hid (HB1.out.trans (hB3.mono HB1.out.size))
      clear hB3
      go_wp2_with fail
      go_ret
      exact ⟨rfl, HB3.out⟩
    · go_wp2_with fail
      rotate_left
      · rename_i hne; exact absurd (by rw [beq_eq_false_iff_ne.2 h2, beq_eq_false_iff_ne.2 h1]) hne
      refine HKd.out.mono ?_
      rintro e W3 ⟨rfl, hB3⟩
      have HB3 := Lib.hid (HB1.out.trans (hB3.mono HB1.out.size))
      clear hB3
      go_wp2_with fail
      go_ret
      exact ⟨rfl, HB3.out⟩
  · simp only [HX.out, HY.out]
    obtain ⟨W1, hW1⟩ : ∃ W1, ((W0.alloc (.cells #[.int .i64 y] 3)).alloc (.cells #[.int .i64 x] 3)).drew = W1 := ⟨_, rfl⟩
    rw [hW1]
    have hB1 : Below W0.heap.size W0 W1 := by rw [← hW1]; exact (((Below.refl _ _).alloc (Nat.le_refl _) _).alloc (by simp) _).drew
    have y1 : W1.cell? ⟨w.heap.size + 1, 0, none⟩ = some (.int .i64 y) := by rw [← hW1, ← hs0]; exact cell_h (al_old (World.alloc_heap_new W0 _) _) rfl
    have y2 : W1.cell? ⟨w.heap.size + 1 + 1, 0, none⟩ = some (.int .i64 x) := by rw [← hW1, ← hs0]; exact cell_h (al_1 W0 _ _) rfl
    have y0 : W1.cell? ⟨w.heap.size, 0, none⟩ = some (.int .i64 l) := (hB1.cell (p := ⟨w.heap.size, 0, none⟩) (World.block_lt_of_cell? _ _ x0)).trans x0
    have HB1 := Lib.hid (HB0.out.trans (hB1.mono HB0.out.size))
    obtain ⟨d, hd⟩ : ∃ d, d = arV (ckv x l 0) (ckv y l 0) := ⟨_, rfl⟩
    obtain ⟨hd1, hd2, hd3⟩ := ar_in (ckv_in x l 0) (ckv_in y l 0)
    have hor : (x = y ∧ d = 0) ∨ (¬x = y ∧ ¬d = 0) := by
      rw [← hd] at hd3
      by_cases h : x = y
      · exact .inl ⟨h, hd3.2 (by rw [h])⟩
      · exact .inr ⟨h, fun e => h (ck_same hl2 hx2 hy2 (hd3.1 e))⟩
    rw [← hd] at hd1 hd2
    have HC1 : Hid (Calls Tryd.prog 14 #[.int .i64 (r % 720), .pointer (some ⟨w.heap.size + 1 + 1, 0, none⟩), .pointer (some ⟨w.heap.size, 0, none⟩), .pointer (some ⟨w.heap.size + 1, 0, none⟩)] W1 fun e w' => e = .returned (.tuple #[.int .i64 d, .int .i64 0]) ∧ w' = W1) := apart_of W1 _ _ _ x l y _ d y2 y0 y1 hl2 hx2 hy2 (by omega) hd
    have HC2 : Hid (Calls Tryd.prog 14 #[.int .i64 (m % 720), .pointer (some ⟨w.heap.size + 1 + 1, 0, none⟩), .pointer (some ⟨w.heap.size, 0, none⟩), .pointer (some ⟨w.heap.size + 1, 0, none⟩)] W1 fun e w' => e = .returned (.tuple #[.int .i64 d, .int .i64 0]) ∧ w' = W1) := apart_of W1 _ _ _ x l y _ d y2 y0 y1 hl2 hx2 hy2 (by omega) hd
    have HKd : Hid (Calls Tryd.prog 17 #[] W1 fun e w' => e = .returned (.bool true) ∧ Below W1.heap.size W1 w') := HK.out W1 HB1.out
    have e7 : (0 : Int) ≤ r % 720 ∧ (0 : Int) ≤ m % 720 := by omega
    clear hW1 hB1 hd hd3 HK HX HY HB0 HL x0 hs0
    go_wp2_with fail
    refine HC1.out.mono ?_
    rintro e w9 ⟨rfl, rfl⟩
    go_wp2_with fail
    refine HC2.out.mono ?_
    rintro e w8 ⟨rfl, rfl⟩
    clear HC1 HC2
    rcases hor with ⟨h1, h2⟩ | ⟨h1, h2⟩
    · subst h1
      subst h2
      go_wp2_with fail
      refine HKd.out.mono ?_
      rintro e W3 ⟨rfl, hB3⟩
      have HB3 := Lib.hid (HB1.out.trans (hB3.mono HB1.out.size))
      clear hB3
      go_wp2_with fail
      go_ret
      exact ⟨rfl, HB3.out⟩
    · go_wp2_with fail
      rotate_left
      · rename_i hne; exact absurd (by rw [beq_eq_false_iff_ne.2 h2, beq_eq_false_iff_ne.2 h1]) hne
      refine HKd.out.mono ?_
      rintro e W3 ⟨rfl, hB3⟩
      have HB3 := Lib.hid (HB1.out.trans (hB3.mono HB1.out.size))
      clear hB3
      go_wp2_with fail
      go_ret
      exact ⟨rfl, HB3.out⟩
end Go.Proofs.YtlbffdgojmjijaaDoor
