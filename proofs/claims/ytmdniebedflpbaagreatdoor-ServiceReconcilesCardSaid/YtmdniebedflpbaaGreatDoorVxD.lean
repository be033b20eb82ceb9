/-
  WORDS: slices of findings, opened.
-/
import Derived.Test.YtmdniebedflpbaaGreatDoorVxB
import Derived.Test.YtmdniebedflpbaaGreatDoorPW
import Derived.ChangeSame
namespace Go.Proofs.YtmdniebedflpbaaGreatDoor
open Go.ChangeShapes Go.WideShapes Go.ChangeAt Go.RowKit Go.Deep Go.Joins

set_option maxRecDepth 100000 in
/-- The cells of a finding. -/
theorem trod_fd {H : Type} {enc : TypeId × Value → H} {w : World} {base : Nat} {spare : Nat → Bool} {held : Bool} {fuel : Nat} {cs : List Value} {x : DataW H × List MemPlace}
    (h : DataW.trod enc Tryz.prog w base spare held fuel 112 cs = some x) : ∃ a c l wd lo hi : Int, cs = [.int .i64 a, .int .i64 c, .int .i64 l, .int .i64 wd, .int .i64 lo, .int .i64 hi] ∧
      ∀ z ∈ [a, c, l, wd, lo, hi], -9223372036854775808 ≤ z ∧ z ≤ 9223372036854775807 := by
  have hC : Tryz.prog.cellsOf 112 = 6 := by kernel_rfl
  have hC1 : Tryz.prog.cellsOf 3 = 1 := by kernel_rfl
  have hC2 : Tryz.prog.cellsOf 110 = 2 := by kernel_rfl
  obtain ⟨xs, n, _, _, hl, hlen, hf⟩ := DataW.trod_struct Tryz.underlying112 h
  rw [hC] at hl
  match cs, hl with
  | [c0, c1, c2, c3, c4, c5], _ =>
    match xs, hlen with
    | [y0, y1, y2, y3, y4], _ =>
      have k0 : DataW.trod enc Tryz.prog w base spare held n 3 [c0] = some y0 := by
        have h0 := hf 0 _ rfl
        simpa [hC1, hC2] using h0
      have k1 : DataW.trod enc Tryz.prog w base spare held n 3 [c1] = some y1 := by
        have h0 := hf 1 _ rfl
        simpa [hC1, hC2] using h0
      have k2 : DataW.trod enc Tryz.prog w base spare held n 3 [c2] = some y2 := by
        have h0 := hf 2 _ rfl
        simpa [hC1, hC2] using h0
      have k3 : DataW.trod enc Tryz.prog w base spare held n 3 [c3] = some y3 := by
        have h0 := hf 3 _ rfl
        simpa [hC1, hC2] using h0
      have k4 : DataW.trod enc Tryz.prog w base spare held n 110 [c4, c5] = some y4 := by
        have h0 := hf 4 _ rfl
        simpa [hC1, hC2] using h0
      obtain ⟨z0, e0, _, w0⟩ := DataW.trod_int Tryz.underlying3 k0
      obtain ⟨z1, e1, _, w1⟩ := DataW.trod_int Tryz.underlying3 k1
      obtain ⟨z2, e2, _, w2⟩ := DataW.trod_int Tryz.underlying3 k2
      obtain ⟨z3, e3, _, w3⟩ := DataW.trod_int Tryz.underlying3 k3
      obtain ⟨u0, u1, m, _, _, j0, j1⟩ := trod_struct2 Tryz.underlying110 k4
      simp [hC1] at j0 j1
      obtain ⟨z4, e4, _, w4⟩ := DataW.trod_int Tryz.underlying3 j0
      obtain ⟨z5, e5, _, w5⟩ := DataW.trod_int Tryz.underlying3 j1
      simp at e0 e1 e2 e3 e4 e5
      subst e0 e1 e2 e3 e4 e5
      refine ⟨z0, z1, z2, z3, z4, z5, rfl, ?_⟩
      intro z hz
      simp only [List.mem_cons, List.not_mem_nil, or_false] at hz
      rcases hz with rfl | rfl | rfl | rfl | rfl | rfl
      · exact wf_i64 w0
      · exact wf_i64 w1
      · exact wf_i64 w2
      · exact wf_i64 w3
      · exact wf_i64 w4
      · exact wf_i64 w5
set_option maxRecDepth 100000 in
/-- A slice of findings. -/
theorem open_fds {H : Type} {enc : TypeId × Value → H} {w : World} {base b0 : Nat} {spare : Nat → Bool} {held : Bool} {r : Reach} {v : Value} {d : DataW H} {p : List MemPlace}
    (hv : Value.okWide Tryz.prog w r b0 59 v) (h : DataW.Trod enc Tryz.prog w base spare held 59 v d p) : ∃ a n c f, v = .slice a n c ∧ n ≤ maxLen ∧ Sl w 6 a n f ∧ (a = none → n = 0 ∧ c = 0) := by
  have hC : Tryz.prog.cellsOf 112 = 6 := by kernel_rfl
  obtain ⟨a0, len, cap, rfl⟩ := okWide_slice Tryz.underlying59 hv
  obtain ⟨fuel, hf⟩ := h
  have hf' : DataW.trod enc Tryz.prog w base spare held fuel 59 [.slice a0 len cap] = some (d, p) := hf
  rcases open_slice Tryz.underlying59 hf' with h0 | ⟨a, len', cap', m, k, D, Pl, hcs, hb, hl, hm, hmm, hx, hi⟩
  · have h1 := h0.1
    simp only [List.cons.injEq, and_true, Value.slice.injEq] at h1
    obtain ⟨rfl, rfl, rfl⟩ := h1
    exact ⟨none, 0, 0, fun _ => 0, rfl, by decide, fun h => by omega, fun _ => ⟨rfl, rfl⟩⟩
  · simp only [List.cons.injEq, and_true, Value.slice.injEq] at hcs
    obtain ⟨rfl, rfl, rfl⟩ := hcs
    have h1 := sl_of (w := w) (a := a) (n := len) (s := 6) (by decide) (fun i hi2 j hj => by
      obtain ⟨cs', hc, ht'⟩ := hi i (by rw [hmm]; split <;> omega)
      rw [hC] at hc
      obtain ⟨_, hcl, hat⟩ := World.cells?_some hc
      obtain ⟨z0, z1, z2, z3, z4, z5, rfl, hz⟩ := trod_fd ht'
      have hcell := hat j hj
      rw [Go.Deep.add_add] at hcell
      rcases (by omega : j = 0 ∨ j = 1 ∨ j = 2 ∨ j = 3 ∨ j = 4 ∨ j = 5) with rfl | rfl | rfl | rfl | rfl | rfl
      · exact ⟨z0, hcell, hz _ (by simp)⟩
      · exact ⟨z1, hcell, hz _ (by simp)⟩
      · exact ⟨z2, hcell, hz _ (by simp)⟩
      · exact ⟨z3, hcell, hz _ (by simp)⟩
      · exact ⟨z4, hcell, hz _ (by simp)⟩
      · exact ⟨z5, hcell, hz _ (by simp)⟩)
    exact ⟨some a, len, cap, intsAt w a, rfl, by omega, h1.1, fun h => absurd h (by simp)⟩
end Go.Proofs.YtmdniebedflpbaaGreatDoor
