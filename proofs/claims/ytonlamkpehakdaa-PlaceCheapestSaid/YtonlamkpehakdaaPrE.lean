/-
  WALKS: Missing, in the program.
-/
import Derived.Test.YtonlamkpehakdaaPrD
namespace Go.Proofs.Ytonlamkpehakdaa
open Go.RowKit

/-- What Missing tells: the error; the welds and the calls. -/
def misE (N M : Int) (n : Nat) (f : Nat → Int) : Int := if N < 0 ∨ 40 < N ∨ M < 0 ∨ 40 < M then 4 else first (prErr N M f) n
def misW (N M : Int) (n : Nat) (f : Nat → Int) : List Nat := if misE N M n f ≠ 0 then [] else lone f n 0 N.toNat
def misC (N M : Int) (n : Nat) (f : Nat → Int) : List Nat := if misE N M n f ≠ 0 then [] else lone f n 1 M.toNat
def nf (l : List Nat) : Nat → Int := fun i => (l.getD i 0 : Nat)
def MisEnd (N M : Int) (n : Nat) (f : Nat → Int) (w : World) (e : Ending) (W : World) : Prop :=
  ∃ x c y d, e = .returned (.tuple #[.slice x (misW N M n f).length c, .slice y (misC N M n f).length d, .int .i64 (misE N M n f)]) ∧ Sl W 1 x (misW N M n f).length (nf (misW N M n f)) ∧ Sl W 1 y (misC N M n f).length (nf (misC N M n f)) ∧ Below w.heap.size w W
theorem misEnd_err {N M : Int} {n : Nat} {f : Nat → Int} {w W : World} {E : Int} (h : misE N M n f = E) (h0 : E ≠ 0) (hb : Below w.heap.size w W) : MisEnd N M n f w (.returned (.tuple #[.slice none 0 0, .slice none 0 0, .int .i64 E])) W := by
  have h1 : misW N M n f = [] := by unfold misW; rw [h, if_pos h0]
  have h2 : misC N M n f = [] := by unfold misC; rw [h, if_pos h0]
  refine ⟨none, 0, none, 0, ?_, ?_, ?_, hb⟩
  · rw [h1, h2, h]; rfl
  · rw [h1]; exact fun h => absurd h (by decide)
  · rw [h2]; exact fun h => absurd h (by decide)
theorem mis_ways (N M : Int) (n : Nat) (f : Nat → Int) : ((N < 0 ∨ (0 ≤ N ∧ 40 < N) ∨ (0 ≤ N ∧ N ≤ 40 ∧ M < 0) ∨ (0 ≤ N ∧ N ≤ 40 ∧ 0 ≤ M ∧ 40 < M)) ∧ misE N M n f = 4) ∨ (∃ a b : Nat, N = (a : Int) ∧ M = (b : Int) ∧ a ≤ 40 ∧ b ≤ 40 ∧ misE N M n f = first (prErr N M f) n) := by
  unfold misE
  by_cases h : N < 0 ∨ 40 < N ∨ M < 0 ∨ 40 < M
  · rw [if_pos h]; exact .inl ⟨by omega, rfl⟩
  · rw [if_neg h]; exact .inr ⟨N.toNat, M.toNat, by omega, by omega, by omega, by omega, rfl⟩

set_option maxRecDepth 100000 in
set_option maxHeartbeats 4000000 in
theorem missing_of (w : World) (N M : Int) (n c : Nat) (a : Option Addr) (f : Nat → Int) (hn : n ≤ 4611686018427387903) (hS : Sl w 2 a n f) :
    Calls Try.prog 17 #[.int .i64 N, .int .i64 M, .slice a n c] w (MisEnd N M n f w) := by
  rcases mis_ways N M n f with ⟨h, he⟩ | ⟨N, M, rfl, rfl, hN, hM, he⟩
  · rcases h with h | ⟨h1, h2⟩ | ⟨h1, h2, h3⟩ | ⟨h1, h2, h3, h4⟩
    all_goals
      have HE := Lib.hid he
      clear he
      go_enter Try.func17, Try.ntmps17
      go_wp2_with fail
      exact bodyPost_ret (v := .tuple #[.slice none 0 0, .slice none 0 0, .int .i64 4]) (by simp [results, Try.f17, go_sem]) rfl (misEnd_err HE.out (by decide) (Below.refl _ _))
  · have HE := Lib.hid he
    have HS := Lib.hid hS
    clear he hS
    go_enter Try.func17, Try.ntmps17
    go_wp2_with fail
    go_loopw [27] (fun vi wr => ∃ i : Nat, i ≤ n ∧ vi = .int .i64 i ∧ Hid (∀ j, j < i → prErr N M f j = 0) ∧ Hid (Below w.heap.size w wr)) (fun vi _ => n - (intOf vi).toNat)
    case atStart => exact ⟨0, by omega, rfl, fun j hj => by omega, Below.refl _ _⟩
    case round =>
      obtain ⟨i, hi, rfl, HI, HB⟩ := hrel
      by_cases hlt : i < n
      · have hC := checkPair_of wr N M a n c f i hlt hn (HS.out.keep (by decide) HB.out)
        obtain ⟨R, hR⟩ : ∃ R, prErr N M f i = R := ⟨_, rfl⟩
        rw [hR] at hC
        have HF : Hid (R ≠ 0 → misE N M n f = R) := fun hne => by rw [HE.out, ← hR]; exact first_at HI.out (by rw [hR]; exact hne) hlt
        have HC := Lib.hid hC
        have HR := Lib.hid hR
        clear hC hR
        by_cases h0 : R = 0
        · subst h0
          go_wp2_with (go_at_call 48; refine HC.out.mono ?_; rintro e w9 ⟨rfl, hB9⟩)
          exact ⟨⟨i + 1, by omega, by go_num, (fun j hj => by
            by_cases ej : j = i
            · subst ej; exact HR.out
            · exact HI.out j (by omega)), HB.out.trans (hB9.mono HB.out.size)⟩, by simp [intOf]; omega⟩
        · have hne : (R == 0) = false := by simpa using h0
          have hne2 : (R != 0) = true := by simpa using h0
          have HN := Lib.hid h0
          clear h0
          go_wp2_with (go_at_call 48; refine HC.out.mono ?_; rintro e w9 ⟨rfl, hB9⟩)
          exact bodyPost_ret (v := .tuple #[.slice none 0 0, .slice none 0 0, .int .i64 R]) (by simp [results, Try.f17, go_sem]) rfl (misEnd_err (HF.out HN.out) HN.out (HB.out.trans (hB9.mono HB.out.size)))
      · obtain rfl : i = n := by omega
        have h0 : misE N M i f = 0 := by rw [HE.out]; exact first_zero HI.out
        have hW : misW N M i f = lone f i 0 N := by unfold misW; rw [h0, if_neg (by simp), Int.toNat_natCast]
        have hC : misC N M i f = lone f i 1 M := by unfold misC; rw [h0, if_neg (by simp), Int.toNat_natCast]
        have H0 := Lib.hid h0
        have HW := Lib.hid hW
        have HC := Lib.hid hC
        clear h0 hW hC
        go_wp2_with fail
        refine (alone_of wr N 0 i c a f hN (by decide) hn (HS.out.keep (by decide) HB.out)).mono ?_
        rintro e w2 ⟨x, c1, rfl, hx, hB2⟩
        have HB2 := Lib.hid (HB.out.trans (hB2.mono HB.out.size))
        have HX := Lib.hid hx
        clear hB2 hx
        generalize hL1 : lone f i 0 N = L1 at HX HW ⊢
        clear hL1
        go_wp2_with fail
        refine (alone_of w2 M 1 i c a f hM (by decide) hn (HS.out.keep (by decide) HB2.out)).mono ?_
        rintro e w3 ⟨y, c2, rfl, hy, hB3⟩
        have HB3 := Lib.hid (HB2.out.trans (hB3.mono HB2.out.size))
        have HX3 := Lib.hid (HX.out.keep (by decide) hB3)
        have HY := Lib.hid hy
        clear hB3 hy HX
        generalize hL2 : lone f i 1 M = L2 at HY HC ⊢
        clear hL2
        go_wp2_with fail
        refine bodyPost_ret (v := .tuple #[.slice x L1.length c1, .slice y L2.length c2, .int .i64 0]) (by simp [results, Try.f17, go_sem]) rfl ⟨x, c1, y, c2, ?_, ?_, ?_, HB3.out⟩
        · rw [HW.out, HC.out, H0.out]
        · rw [HW.out]; exact HX3.out
        · rw [HC.out]; exact HY.out
end Go.Proofs.Ytonlamkpehakdaa
