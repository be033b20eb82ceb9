/-
  WORDS: traps and slices of ints, opened.
-/
import Derived.Test.YtmdniebedflpbaaGreatDoorVxA
import Derived.Test.YtmdniebedflpbaaGreatDoorVsL
namespace Go.Proofs.YtmdniebedflpbaaGreatDoor
open Go.ChangeShapes Go.WideShapes Go.ChangeAt Go.RowKit Go.Deep Go.Joins

/-- The numbers of a kind from an address on. -/
def numAt (k : IntKind) (w : World) (a : Addr) (i : Nat) : Int := match w.cell? (a.add i) with
  | some (.int k' z) => if k' = k then z else 0
  | _ => 0
theorem numAt_eq {k : IntKind} {w : World} {a : Addr} {i : Nat} {z : Int} (h : w.cell? (a.add i) = some (.int k z)) : numAt k w a i = z := by
  unfold numAt; rw [h]; simp
theorem nums_of {k : IntKind} {w : World} {a : Addr} {n : Nat} (h : ∀ i, i < n → ∃ z, w.cell? (a.add i) = some (.int k z) ∧ k.min ≤ z ∧ z ≤ k.max) :
    (0 < n → ∃ b o, some a = some (⟨b, o, none⟩ : Addr) ∧ ∀ i, i < n → w.cell? ⟨b, o + i, none⟩ = some (.int k (numAt k w a i))) ∧ ∀ i, i < n → k.min ≤ numAt k w a i ∧ numAt k w a i ≤ k.max := by
  refine ⟨fun hn => ?_, fun i hi => ?_⟩
  · obtain ⟨b, o, sp⟩ := a
    obtain ⟨z0, h0, _⟩ := h 0 (by omega)
    have hsp : sp = none := by
      cases sp with
      | none => rfl
      | some x =>
        exfalso
        simp only [Addr.add, if_true, World.cell?] at h0
        cases hg : w.heap[b]? with
        | none => simp [hg] at h0
        | some ob => cases ob <;> simp [hg] at h0
    subst hsp
    refine ⟨b, o, rfl, fun i hi => ?_⟩
    obtain ⟨z, hz, _⟩ := h i hi
    have e : (⟨b, o, none⟩ : Addr).add i = ⟨b, o + i, none⟩ := by
      by_cases e : i = 0
      · subst e; simp [Addr.add]
      · simp [Addr.add, e]
    rw [numAt_eq hz, ← e]
    exact hz
  · obtain ⟨z, hz, hb⟩ := h i hi
    rw [numAt_eq hz]
    exact hb
set_option maxRecDepth 100000 in
/-- A slice of ints. -/
theorem open_is {H : Type} {enc : TypeId × Value → H} {w : World} {base b0 : Nat} {spare : Nat → Bool} {held : Bool} {r : Reach} {v : Value} {d : DataW H} {p : List MemPlace}
    (hv : Value.okWide Tryz.prog w r b0 30 v) (h : DataW.Trod enc Tryz.prog w base spare held 30 v d p) : ∃ a n c s, v = .slice a n c ∧ n ≤ maxLen ∧ Sl w 1 a n s ∧ I64s s n := by
  obtain ⟨a0, len, cap, rfl⟩ := okWide_slice Tryz.underlying30 hv
  obtain ⟨fuel, hf⟩ := h
  rcases open_ints Tryz.underlying30 Tryz.underlying3 (by kernel_rfl) hf with ⟨hcs, _⟩ | ⟨a, len', cap', zs, hcs, _, hl, hm, hz, _, hcell, hwz⟩
  · simp [Value.cells] at hcs
    obtain ⟨rfl, rfl, rfl⟩ := hcs
    exact ⟨none, 0, 0, fun _ => 0, rfl, by decide, fun h => absurd h (by decide), fun i hi => absurd hi (by omega)⟩
  · simp [Value.cells] at hcs
    obtain ⟨rfl, rfl, rfl⟩ := hcs
    have h1 := nums_of (k := .i64) (w := w) (a := a) (n := len) (fun i hi => by
      have hi2 : i < zs.length := by rw [hz]; split <;> omega
      have hc := hcell i hi2
      refine ⟨_, by simpa using hc, wf_k (hwz _ ?_)⟩
      simp [hi2])
    exact ⟨some a, len, cap, numAt .i64 w a, rfl, by omega, fun hp => by
      obtain ⟨b, o, e, hc⟩ := h1.1 hp
      exact ⟨b, o, e, fun i hi => hc i (by omega)⟩, fun i hi => h1.2 i hi⟩
set_option maxRecDepth 100000 in
/-- The cells of a trap. -/
theorem trod_trap {H : Type} {enc : TypeId × Value → H} {w : World} {base : Nat} {spare : Nat → Bool} {held : Bool} {fuel : Nat} {cs : List Value} {x : DataW H × List MemPlace}
    (h : DataW.trod enc Tryz.prog w base spare held fuel 23 cs = some x) : ∃ (x0 x1 x2 x3 x4 : Bool) (x5 x6 x7 : Int), cs = [.bool x0, .bool x1, .bool x2, .bool x3, .bool x4, .int .i64 x5, .int .i64 x6, .int .i64 x7] := by
  have hC : Tryz.prog.cellsOf 23 = 8 := by kernel_rfl
  have hC1 : Tryz.prog.cellsOf 3 = 1 := by kernel_rfl
  have hC2 : Tryz.prog.cellsOf 4 = 1 := by kernel_rfl
  obtain ⟨xs, n, _, _, hl, hlen, hf⟩ := DataW.trod_struct Tryz.underlying23 h
  rw [hC] at hl
  match cs, hl with
  | [c0, c1, c2, c3, c4, c5, c6, c7], _ =>
    match xs, hlen with
    | [y0, y1, y2, y3, y4, y5, y6, y7], _ =>
      have k0 : DataW.trod enc Tryz.prog w base spare held n 4 [c0] = some y0 := by
        have h0 := hf 0 _ rfl
        simpa [hC1, hC2] using h0
      have k1 : DataW.trod enc Tryz.prog w base spare held n 4 [c1] = some y1 := by
        have h0 := hf 1 _ rfl
        simpa [hC1, hC2] using h0
      have k2 : DataW.trod enc Tryz.prog w base spare held n 4 [c2] = some y2 := by
        have h0 := hf 2 _ rfl
        simpa [hC1, hC2] using h0
      have k3 : DataW.trod enc Tryz.prog w base spare held n 4 [c3] = some y3 := by
        have h0 := hf 3 _ rfl
        simpa [hC1, hC2] using h0
      have k4 : DataW.trod enc Tryz.prog w base spare held n 4 [c4] = some y4 := by
        have h0 := hf 4 _ rfl
        simpa [hC1, hC2] using h0
      have k5 : DataW.trod enc Tryz.prog w base spare held n 3 [c5] = some y5 := by
        have h0 := hf 5 _ rfl
        simpa [hC1, hC2] using h0
      have k6 : DataW.trod enc Tryz.prog w base spare held n 3 [c6] = some y6 := by
        have h0 := hf 6 _ rfl
        simpa [hC1, hC2] using h0
      have k7 : DataW.trod enc Tryz.prog w base spare held n 3 [c7] = some y7 := by
        have h0 := hf 7 _ rfl
        simpa [hC1, hC2] using h0
      obtain ⟨z0, e0, _⟩ := DataW.trod_bool Tryz.underlying4 k0
      obtain ⟨z1, e1, _⟩ := DataW.trod_bool Tryz.underlying4 k1
      obtain ⟨z2, e2, _⟩ := DataW.trod_bool Tryz.underlying4 k2
      obtain ⟨z3, e3, _⟩ := DataW.trod_bool Tryz.underlying4 k3
      obtain ⟨z4, e4, _⟩ := DataW.trod_bool Tryz.underlying4 k4
      obtain ⟨z5, e5, _, _⟩ := DataW.trod_int Tryz.underlying3 k5
      obtain ⟨z6, e6, _, _⟩ := DataW.trod_int Tryz.underlying3 k6
      obtain ⟨z7, e7, _, _⟩ := DataW.trod_int Tryz.underlying3 k7
      simp at e0 e1 e2 e3 e4 e5 e6 e7
      subst e0 e1 e2 e3 e4 e5 e6 e7
      exact ⟨z0, z1, z2, z3, z4, z5, z6, z7, rfl⟩
set_option maxRecDepth 100000 in
/-- A trap. -/
theorem open_trap {H : Type} {enc : TypeId × Value → H} {w : World} {base b0 : Nat} {spare : Nat → Bool} {held : Bool} {r : Reach} {v : Value} {d : DataW H} {p : List MemPlace}
    (hv : Value.okWide Tryz.prog w r b0 23 v) (h : DataW.Trod enc Tryz.prog w base spare held 23 v d p) : ∃ t : Tp, v = t.val ∧ True := by
  obtain ⟨cs, rfl, hsz⟩ := okWide_struct Tryz.underlying23 hv
  obtain ⟨fuel, hf⟩ := h
  obtain ⟨x0, x1, x2, x3, x4, x5, x6, x7, e⟩ := trod_trap hf
  simp only [Value.cells] at e
  refine ⟨⟨x0, x1, x2, x3, x4, x5, x6, x7⟩, ?_, trivial⟩
  rw [← Array.toArray_toList (xs := cs), e]
  rfl
end Go.Proofs.YtmdniebedflpbaaGreatDoor
