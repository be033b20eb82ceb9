/-
  WALKS: the law of DentClocks.
-/
import Derived.Test.YtdibljidagiblaaDoorDeI
import Derived.Test.YtdibljidagiblaaDoorDeH
import Derived.StillTailTactics
namespace Go.Proofs.YtdibljidagiblaaDoor
open Go.RowKit

theorem ck_same {a b l : Int} (hl : 1 ≤ l ∧ l ≤ 64) (ha : 0 ≤ a ∧ a < l) (hb : 0 ≤ b ∧ b < l) (h : ckv a l 0 = ckv b l 0) : a = b := by
  have q : ∀ x, 0 ≤ x ∧ x < l → ckv x l 0 = 720 * x / l := fun x hx => by
    have q0 : 0 ≤ 720 * x / l := Int.ediv_nonneg (by omega) (by omega)
    have q1 : 720 * x / l < 720 := Int.ediv_lt_of_lt_mul (by omega) (by omega)
    rw [ckv]; omega
  rw [q a ha, q b hb] at h
  have A1 := Int.mul_ediv_self_le (x := 720 * a) (k := l) (by omega)
  have A2 := Int.lt_mul_ediv_self_add (x := 720 * a) (k := l) (by omega)
  have B1 := Int.mul_ediv_self_le (x := 720 * b) (k := l) (by omega)
  have B2 := Int.lt_mul_ediv_self_add (x := 720 * b) (k := l) (by omega)
  rw [h] at A1 A2
  omega
theorem ck_roll {a l r : Int} : ckv a l r = (ckv a l 0 + r) % 720 := by
  simp only [ckv]; omega
theorem rs_more {m u v : Int} (h : rsv m u = true) (hv : 0 ≤ v) : rsv m (u + v) = true := by
  simp only [rsv, decide_eq_true_iff] at h ⊢; omega

set_option maxRecDepth 100000 in
set_option maxHeartbeats 4000000 in
theorem dentClocks_law (w : World) (a b n r u v : Int) (ha : 0 ≤ a ∧ a ≤ 255) (hb : 0 ≤ b ∧ b ≤ 255) (hn : 0 ≤ n ∧ n ≤ 255) (hr : 0 ≤ r ∧ r ≤ 65535) (hu : 0 ≤ u ∧ u ≤ 255) (hv : 0 ≤ v ∧ v ≤ 255) (hT : Dy.Tab w) :
    Calls Tryd.prog 6 #[.int .u8 a, .int .u8 b, .int .u8 n, .int .u16 r, .int .u8 u, .int .u8 v] w fun e w' => e = .returned (.bool true) ∧ Below w.heap.size w w' := by
  have HK : Hid (∀ W, Below w.heap.size w W → Calls Tryd.prog 23 #[] W fun e w' => e = .returned (.bool true) ∧ Below W.heap.size W w') := fun W hW => awake7_of W (hT.keep hW)
  clear hT
  go_enter Tryd.func6, Tryd.ntmps6
  go_wp2_with fail
  obtain ⟨l, hl⟩ : ∃ l, 1 + n % 64 = l := ⟨_, rfl⟩
  have hl2 : 1 ≤ l ∧ l ≤ 64 := by omega
  have hl0 : ¬l = 0 := by omega
  obtain ⟨x, hx⟩ : ∃ x, a % l = x := ⟨_, rfl⟩
  obtain ⟨y, hy⟩ : ∃ x, b % l = x := ⟨_, rfl⟩
  obtain ⟨z, hz⟩ : ∃ x, r % 720 = x := ⟨_, rfl⟩
  have hx2 : 0 ≤ x ∧ x < l := by rw [← hx]; exact ⟨Int.emod_nonneg _ hl0, Int.emod_lt_of_pos _ (by omega)⟩
  have hy2 : 0 ≤ y ∧ y < l := by rw [← hy]; exact ⟨Int.emod_nonneg _ hl0, Int.emod_lt_of_pos _ (by omega)⟩
  have hz2 : 0 ≤ z ∧ z < 720 := by omega
  rw [hl]
  have HX := Lib.hid hx
  have HY := Lib.hid hy
  have HZ := Lib.hid hz
  clear hx hy hz hl
  go_quiet (fail)
  simp only [HX.out, HY.out, HZ.out]
  have HB : Hid (Below w.heap.size w (w.drewN nq)) := below_drewN (Below.refl _ _) nq
  generalize w.drewN nq = V at HB ⊢
  clear HX HY HZ
  obtain ⟨cx, hcx⟩ : ∃ c, ckv x l 0 = c := ⟨_, rfl⟩
  obtain ⟨cy, hcy⟩ : ∃ c, ckv y l 0 = c := ⟨_, rfl⟩
  obtain ⟨cz, hcz⟩ : ∃ c, ckv x l z = c := ⟨_, rfl⟩
  have hS : cx = cy ↔ x = y := ⟨fun h => ck_same hl2 hx2 hy2 (by rw [hcx, hcy, h]), fun h => by rw [← hcx, ← hcy, h]⟩
  have hE : (cx + z) % 720 = cz := by rw [← hcx, ← hcz]; simp only [ckv]; omega
  have hcx2 : 0 ≤ cx ∧ cx < 720 := by rw [← hcx]; exact ckv_in _ _ _
  have hcy2 : 0 ≤ cy ∧ cy < 720 := by rw [← hcy]; exact ckv_in _ _ _
  have hcz2 : 0 ≤ cz ∧ cz < 720 := by rw [← hcz]; exact ckv_in _ _ _
  have HC1 : Hid (∀ V, Calls Tryd.prog 26 #[.int .i64 x, .int .i64 l, .int .i64 0] V fun e w' => e = .returned (.tuple #[.int .i64 cx, .int .i64 0]) ∧ w' = V) := fun V => by rw [← hcx]; exact clock_yes V x l 0 ⟨hl2, hx2, by omega⟩
  have HC2 : Hid (∀ V, Calls Tryd.prog 26 #[.int .i64 y, .int .i64 l, .int .i64 0] V fun e w' => e = .returned (.tuple #[.int .i64 cy, .int .i64 0]) ∧ w' = V) := fun V => by rw [← hcy]; exact clock_yes V y l 0 ⟨hl2, hy2, by omega⟩
  have HC3 : Hid (∀ V, Calls Tryd.prog 26 #[.int .i64 x, .int .i64 l, .int .i64 z] V fun e w' => e = .returned (.tuple #[.int .i64 cz, .int .i64 0]) ∧ w' = V) := fun V => by rw [← hcz]; exact clock_yes V x l z ⟨hl2, hx2, hz2⟩
  clear hcx hcy hcz
  obtain ⟨p, hp⟩ : ∃ c, rsv cz (u % 180) = c := ⟨_, rfl⟩
  obtain ⟨q, hq⟩ : ∃ c, rsv cz (u % 180 + v % 180) = c := ⟨_, rfl⟩
  have hpq : p = true → q = true := fun h => by rw [← hq]; exact rs_more (hp.trans h) (by omega)
  have HR1 : Hid (∀ V, Calls Tryd.prog 28 #[.int .i64 cz, .int .i64 (u % 180)] V fun e w' => e = .returned (.tuple #[.bool p, .int .i64 0]) ∧ w' = V) := fun V => by rw [← hp]; exact restr_yes V cz _ hcz2 (by omega)
  have HR2 : Hid (∀ V, Calls Tryd.prog 28 #[.int .i64 cz, .int .i64 (u % 180 + v % 180)] V fun e w' => e = .returned (.tuple #[.bool q, .int .i64 0]) ∧ w' = V) := fun V => by rw [← hq]; exact restr_yes V cz _ hcz2 (by omega)
  clear hp hq
  have HK2 : Hid (Calls Tryd.prog 23 #[] V fun e w' => e = .returned (.bool true) ∧ Below V.heap.size V w') := HK.out V HB.out
  clear HK
  go_wp2_with fail
  refine (HC1.out _).mono ?_
  rintro e w9 ⟨rfl, rfl⟩
  go_wp2_with fail
  refine (HC2.out _).mono ?_
  rintro e w9 ⟨rfl, rfl⟩
  go_wp2_with fail
  refine (HC3.out _).mono ?_
  rintro e w9 ⟨rfl, rfl⟩
  clear HC1 HC2 HC3
  go_wp2_with fail
  refine (HK2.out).mono ?_
  rintro e V2 ⟨rfl, hB2⟩
  have HB2 := Lib.hid (HB.out.trans (hB2.mono HB.out.size))
  clear hB2 HK2 HB
  have hor : (x = y ∧ cx = cy) ∨ (¬x = y ∧ ¬cx = cy) := by
    by_cases h : x = y
    · exact .inl ⟨h, hS.2 h⟩
    · exact .inr ⟨h, fun e => h (hS.1 e)⟩
  clear hS
  rcases hor with ⟨h1, h2⟩ | ⟨h1, h2⟩
  · subst h1
    subst h2
    go_wp2_with fail
    refine (HR1.out _).mono ?_
    rintro e w8 ⟨rfl, rfl⟩
    go_wp2_with fail
    refine (HR2.out _).mono ?_
    rintro e w8 ⟨rfl, rfl⟩
    clear HR1 HR2
    cases p
    · clear hpq
      go_wp2_with fail
      go_ret
      exact ⟨rfl, HB2.out⟩
    · obtain rfl := hpq rfl
      clear hpq
      go_wp2_with fail
      go_ret
      exact ⟨rfl, HB2.out⟩
  · go_wp2_with fail
    rotate_left
    · rename_i hne; exact absurd (by rw [beq_eq_false_iff_ne.2 h2, beq_eq_false_iff_ne.2 h1]) hne
    refine (HR1.out _).mono ?_
    rintro e w8 ⟨rfl, rfl⟩
    go_wp2_with fail
    refine (HR2.out _).mono ?_
    rintro e w8 ⟨rfl, rfl⟩
    clear HR1 HR2
    cases p
    · clear hpq
      go_wp2_with fail
      go_ret
      exact ⟨rfl, HB2.out⟩
    · obtain rfl := hpq rfl
      clear hpq
      go_wp2_with fail
      go_ret
      exact ⟨rfl, HB2.out⟩
end Go.Proofs.YtdibljidagiblaaDoor
