/-
  WALKS: the law of GrowthAround.
-/
import Derived.Test.YtlbffdgojmjijaaGreatDoorTkA
import Derived.Test.YtlbffdgojmjijaaGreatDoorGrE
import Derived.BigQuiet
namespace Go.Proofs.YtlbffdgojmjijaaGreatDoor
open Go.RowKit

set_option maxRecDepth 100000 in
set_option maxHeartbeats 4000000 in
theorem growthAround_law (w : World) (a b c t : Int) (ha : 0 ≤ a ∧ a ≤ 65535) (hb : 0 ≤ b ∧ b ≤ 65535) (hc : 0 ≤ c ∧ c ≤ 65535) (ht : 0 ≤ t ∧ t ≤ 65535) (hT : Dy.Tab w) (hP : Dy.Pow w) :
    Calls Tryz.prog 6 #[.int .u16 a, .int .u16 b, .int .u16 c, .int .u16 t] w fun e w' => e = .returned (.bool true) ∧ Below w.heap.size w w' := by
  have HK : Hid (Calls Tryz.prog 8 #[] w fun e w' => e = .returned (.bool true) ∧ Below w.heap.size w w') := awake8_of w hT hP
  clear hT hP
  obtain ⟨x, hx⟩ : ∃ x, a % 720 = x := ⟨_, rfl⟩
  obtain ⟨y, hy⟩ : ∃ x, b % 720 = x := ⟨_, rfl⟩
  obtain ⟨z, hz⟩ : ∃ x, c % 720 = x := ⟨_, rfl⟩
  obtain ⟨n, hn⟩ : ∃ x, t % 720 = x := ⟨_, rfl⟩
  have hx2 : 0 ≤ x ∧ x < 720 := by omega
  have hy2 : 0 ≤ y ∧ y < 720 := by omega
  have hz2 : 0 ≤ z ∧ z < 720 := by omega
  have hn2 : 0 ≤ n ∧ n < 720 := by omega
  have HX := Lib.hid (And.intro hx (And.intro hy (And.intro hz hn)))
  obtain ⟨p, hp⟩ : ∃ p, arV x y = p := ⟨_, rfl⟩
  obtain ⟨q, hq⟩ : ∃ p, arV y z = p := ⟨_, rfl⟩
  obtain ⟨r, hr⟩ : ∃ p, arV x z = p := ⟨_, rfl⟩
  have hs : arV ((x + n) % 720) ((y + n) % 720) = p := by rw [ar_roll hx2 hy2, hp]
  have hi := ar_in hx2 hy2
  rw [hp] at hi
  have htri : r ≤ p + q := by rw [← hp, ← hq, ← hr]; exact ar_tri hx2 hy2 hz2
  have hrb := ar_in hx2 hz2
  have hqb := ar_in hy2 hz2
  rw [hr] at hrb
  rw [hq] at hqb
  have HA1 : Hid (∀ w, Calls Tryz.prog 9 #[.int .i64 x, .int .i64 y] w fun e w' => e = .returned (.tuple #[.int .i64 p, .int .i64 0]) ∧ w' = w) := fun w => by rw [← hp]; exact gAround_yes w x y ⟨hx2, hy2⟩
  have HA2 : Hid (∀ w, Calls Tryz.prog 9 #[.int .i64 y, .int .i64 z] w fun e w' => e = .returned (.tuple #[.int .i64 q, .int .i64 0]) ∧ w' = w) := fun w => by rw [← hq]; exact gAround_yes w y z ⟨hy2, hz2⟩
  have HA3 : Hid (∀ w, Calls Tryz.prog 9 #[.int .i64 x, .int .i64 z] w fun e w' => e = .returned (.tuple #[.int .i64 r, .int .i64 0]) ∧ w' = w) := fun w => by rw [← hr]; exact gAround_yes w x z ⟨hx2, hz2⟩
  have HA4 : Hid (∀ w, Calls Tryz.prog 9 #[.int .i64 ((x + n) % 720), .int .i64 ((y + n) % 720)] w fun e w' => e = .returned (.tuple #[.int .i64 p, .int .i64 0]) ∧ w' = w) := fun w => by rw [← hs]; exact gAround_yes w _ _ ⟨by omega, by omega⟩
  have w1 : IntKind.i64.wrap (x + n) = x + n := IntWalk.i64_in _ (by omega)
  have w2 : IntKind.i64.wrap (y + n) = y + n := IntWalk.i64_in _ (by omega)
  have w3 : IntKind.i64.wrap (p + q) = p + q := IntWalk.i64_in _ (by omega)
  have hor : (x = y ∧ p = 0) ∨ (¬x = y ∧ ¬p = 0) := by
    by_cases h : x = y
    · exact .inl ⟨h, hi.2.2.2 h⟩
    · exact .inr ⟨h, fun e => h (hi.2.2.1 e)⟩
  have hi1 := hi.1
  have hi2 := hi.2.1
  have g1 : (0 : Int) ≤ x + n := by omega
  have g2 : (0 : Int) ≤ y + n := by omega
  have hqi : Hid (-9223372036854775808 ≤ q ∧ q ≤ 9223372036854775807) := Lib.hid (by omega)
  clear hx hy hz hn hp hq hr hs hi hrb hqb
  go_enter Tryz.func6, Tryz.ntmps6
  go_upto_region 2 with fail
  simp only [HX.out.1, HX.out.2.1, HX.out.2.2.1, HX.out.2.2.2]
  clear HX
  go_wp2_with fail
  refine (HA1.out _).mono ?_
  rintro e w9 ⟨rfl, rfl⟩
  go_wp2_with fail
  refine (HA2.out _).mono ?_
  rintro e w9 ⟨rfl, rfl⟩
  go_wp2_with fail
  refine (HA3.out _).mono ?_
  rintro e w9 ⟨rfl, rfl⟩
  go_wp2_with fail
  refine (HA4.out _).mono ?_
  rintro e w9 ⟨rfl, rfl⟩
  clear HA1 HA2 HA3 HA4
  rcases hor with ⟨h1, h2⟩ | ⟨h1, h2⟩
  · subst h1
    subst h2
    have w4 : IntKind.i64.wrap q = q := IntWalk.i64_in _ hqi.out
    have htr2 : r ≤ q := by omega
    go_wp2_with fail
    refine HK.out.mono ?_
    rintro e W3 ⟨rfl, hB3⟩
    have HB3 := Lib.hid hB3
    clear hB3
    go_wp2_with fail
    go_ret
    exact ⟨rfl, HB3.out⟩
  · go_wp2_with fail
    rotate_left
    · rename_i hne; exact absurd (by rw [beq_eq_false_iff_ne.2 h2, beq_eq_false_iff_ne.2 h1]) hne
    refine HK.out.mono ?_
    rintro e W3 ⟨rfl, hB3⟩
    have HB3 := Lib.hid hB3
    clear hB3
    go_wp2_with fail
    go_ret
    exact ⟨rfl, HB3.out⟩
end Go.Proofs.YtlbffdgojmjijaaGreatDoor
