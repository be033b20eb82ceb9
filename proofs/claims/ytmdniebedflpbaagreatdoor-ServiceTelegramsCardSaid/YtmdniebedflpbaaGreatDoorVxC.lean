/-
  WORDS: telegrams and arrays of 24 bytes, opened.
-/
import Derived.Test.YtmdniebedflpbaaGreatDoorVxB
import Derived.Test.YtmdniebedflpbaaGreatDoorVpD
namespace Go.Proofs.YtmdniebedflpbaaGreatDoor
open Go.ChangeShapes Go.WideShapes Go.ChangeAt Go.RowKit Go.Deep Go.Joins

def byteOf : Value → Nat
  | .int _ z => z.toNat
  | _ => 0
theorem u8l_back : ∀ l : List Value, (∀ v ∈ l, ∃ z : Int, v = .int .u8 z ∧ 0 ≤ z ∧ z ≤ 255) → u8l (l.map byteOf) = l ∧ ∀ x ∈ l.map byteOf, x < 256
  | [], _ => ⟨rfl, fun x hx => by simp at hx⟩
  | v :: l, h => by
    obtain ⟨h1, h2⟩ := u8l_back l (fun v hv => h v (by simp [hv]))
    obtain ⟨z, rfl, h0, h255⟩ := h v (by simp)
    have e : ((byteOf (.int .u8 z) : Nat) : Int) = z := by show ((z.toNat : Nat) : Int) = z; omega
    refine ⟨?_, fun x hx => ?_⟩
    · rw [List.map_cons]
      show Value.int .u8 _ :: u8l _ = _
      rw [h1, e]
    · rw [List.map_cons] at hx
      rcases List.mem_cons.1 hx with rfl | hx
      · show z.toNat < 256; omega
      · exact h2 x hx
set_option maxRecDepth 100000 in
/-- An array of 24 bytes. -/
theorem open_24 {H : Type} {enc : TypeId × Value → H} {w : World} {base b0 : Nat} {spare : Nat → Bool} {held : Bool} {r : Reach} {v : Value} {d : DataW H} {p : List MemPlace}
    (hv : Value.okWide Tryz.prog w r b0 44 v) (h : DataW.Trod enc Tryz.prog w base spare held 44 v d p) : ∃ L : List Nat, v = .agg (u8a L) ∧ L.length = 24 ∧ ∀ x ∈ L, x < 256 := by
  simp only [Value.okWide, Tryz.underlying44] at hv
  obtain ⟨cs, rfl, hz, _⟩ := hv
  rw [show Tryz.prog.cellsOf 44 = 24 by kernel_rfl] at hz
  obtain ⟨fuel, hf⟩ := h
  obtain ⟨xs, m, _, _, _, hl, hel⟩ := DataW.trod_array Tryz.underlying44 hf
  have hall : ∀ v ∈ cs.toList, ∃ z : Int, v = .int .u8 z ∧ 0 ≤ z ∧ z ≤ 255 := by
    intro v hv
    obtain ⟨j, hj, rfl⟩ := List.mem_iff_getElem.1 hv
    have hj24 : j < 24 := by simpa [hz] using hj
    have he' := hel j hj24
    rw [show Tryz.prog.cellsOf 5 = 1 by kernel_rfl, Nat.mul_one] at he'
    have hone : ((Value.agg cs).cells.toList.drop j).take 1 = [cs.toList[j]] := by
      show (cs.toList.drop j).take 1 = _
      rw [List.drop_eq_getElem_cons hj]
      rfl
    rw [hone, List.getElem?_eq_getElem (by omega)] at he'
    obtain ⟨z, e, _, hwf⟩ := DataW.trod_int Tryz.underlying5 he'
    simp only [List.cons.injEq, and_true] at e
    have hw := wf_k hwf
    exact ⟨z, e, hw.1, hw.2⟩
  obtain ⟨h1, h2⟩ := u8l_back cs.toList hall
  exact ⟨cs.toList.map byteOf, by rw [u8a, h1], by simp [hz], h2⟩
set_option maxRecDepth 100000 in
/-- A telegram. -/
theorem open_tg {H : Type} {enc : TypeId × Value → H} {w : World} {base b0 : Nat} {spare : Nat → Bool} {held : Bool} {r : Reach} {v : Value} {d : DataW H} {p : List MemPlace}
    (hv : Value.okWide Tryz.prog w r b0 43 v) (h : DataW.Trod enc Tryz.prog w base spare held 43 v d p) : ∃ t : Tg, v = t.val ∧ True := by
  obtain ⟨cs, rfl, hsz⟩ := okWide_struct Tryz.underlying43 hv
  obtain ⟨fuel, hf⟩ := h
  have hC : Tryz.prog.cellsOf 43 = 4 := by kernel_rfl
  have hC1 : Tryz.prog.cellsOf 3 = 1 := by kernel_rfl
  obtain ⟨xs, n, _, _, hl, hlen, hf⟩ := DataW.trod_struct Tryz.underlying43 hf
  rw [hC] at hl
  obtain ⟨l⟩ := cs
  simp only [Value.cells] at hl hf
  match l, hl with
  | [c0, c1, c2, c3], _ =>
    match xs, hlen with
    | [y0, y1, y2, y3], _ =>
      have k0 : DataW.trod enc Tryz.prog w base spare held n 3 [c0] = some y0 := by
        have h0 := hf 0 _ rfl
        simpa [hC1] using h0
      have k1 : DataW.trod enc Tryz.prog w base spare held n 3 [c1] = some y1 := by
        have h0 := hf 1 _ rfl
        simpa [hC1] using h0
      have k2 : DataW.trod enc Tryz.prog w base spare held n 3 [c2] = some y2 := by
        have h0 := hf 2 _ rfl
        simpa [hC1] using h0
      have k3 : DataW.trod enc Tryz.prog w base spare held n 3 [c3] = some y3 := by
        have h0 := hf 3 _ rfl
        simpa [hC1] using h0
      obtain ⟨z0, e0, _, _⟩ := DataW.trod_int Tryz.underlying3 k0
      obtain ⟨z1, e1, _, _⟩ := DataW.trod_int Tryz.underlying3 k1
      obtain ⟨z2, e2, _, _⟩ := DataW.trod_int Tryz.underlying3 k2
      obtain ⟨z3, e3, _, _⟩ := DataW.trod_int Tryz.underlying3 k3
      simp at e0 e1 e2 e3
      subst e0 e1 e2 e3
      exact ⟨⟨z0, z1, z2, z3⟩, rfl, trivial⟩
end Go.Proofs.YtmdniebedflpbaaGreatDoor
