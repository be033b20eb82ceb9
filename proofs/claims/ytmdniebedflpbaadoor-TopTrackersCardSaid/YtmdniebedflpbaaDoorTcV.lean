/-
  WALKS AND WORDS: TcW TrW of my texts, one behind the other.
-/
import Derived.Test.YtmdniebedflpbaaDoorPW
import Derived.Test.YtmdniebedflpbaaDoorDyK
import Derived.Test.YtmdniebedflpbaaDoorShW
import Derived.Test.YtmdniebedflpbaaDoorTie
import Derived.Test.YtmdniebedflpbaaDoorCards
-- TcW: WORDS: the arguments of the statements of dents and of the whole, opened; the table that math/bits reads.
namespace Go.Proofs.YtmdniebedflpbaaDoor
open Go.ChangeShapes Go.WideShapes Go.ChangeAt Go.RowKit Go.Deep Go.Joins

theorem wf_k {k : IntKind} {z : Int} (h : (Lit.int k z).wf = true) : k.min ≤ z ∧ z ≤ k.max := by simpa [Lit.wf] using h
/-- The numbers of a kind from an address on. -/
def numAt (k : IntKind) (w : World) (a : Addr) (i : Nat) : Int := match w.cell? (a.add i) with
  | some (.int k' z) => if k' = k then z else 0
  | _ => 0
theorem numAt_eq {k : IntKind} {w : World} {a : Addr} {i : Nat} {z : Int} (h : w.cell? (a.add i) = some (.int k z)) : numAt k w a i = z := by
  unfold numAt; rw [h]; simp
theorem nums_of {k : IntKind} {w : World} {a : Addr} {n : Nat} (h : ∀ i, i < n → ∃ z, w.cell? (a.add i) = some (.int k z) ∧ k.min ≤ z ∧ z ≤ k.max) :
    (0 < n → ∃ b o, some a = some (⟨b, o, none⟩ : Addr) ∧ ∀ i, i < n → w.cell? ⟨b, o + i, none⟩ = some (.int k (numAt k w a i))) ∧ ∀ i, i < n → k.min ≤ numAt k w a i ∧ numAt k w a i ≤ k.max := by
  refine ⟨fun hn => ?_, fun i hi => ?_⟩
  · obtain ⟨b, o, sp⟩ := a
    obtain ⟨z0, h0, _⟩ := h 0 (by omega)
    have hsp : sp = none := by
      cases sp with
      | none => rfl
      | some x =>
        exfalso
        simp only [Addr.add, if_true, World.cell?] at h0
        cases hg : w.heap[b]? with
        | none => simp [hg] at h0
        | some ob => cases ob <;> simp [hg] at h0
    subst hsp
    refine ⟨b, o, rfl, fun i hi => ?_⟩
    obtain ⟨z, hz, _⟩ := h i hi
    have e : (⟨b, o, none⟩ : Addr).add i = ⟨b, o + i, none⟩ := by
      by_cases e : i = 0
      · subst e; simp [Addr.add]
      · simp [Addr.add, e]
    rw [numAt_eq hz, ← e]
    exact hz
  · obtain ⟨z, hz, hb⟩ := h i hi
    rw [numAt_eq hz]
    exact hb
set_option maxRecDepth 100000 in
/-- A slice of ints. -/
theorem open_is {H : Type} {enc : TypeId × Value → H} {w : World} {base b0 : Nat} {spare : Nat → Bool} {held : Bool} {r : Reach} {v : Value} {d : DataW H} {p : List MemPlace}
    (hv : Value.okWide Tryd.prog w r b0 84 v) (h : DataW.Trod enc Tryd.prog w base spare held 84 v d p) : ∃ a n c s, v = .slice a n c ∧ n ≤ maxLen ∧ Sl w 1 a n s ∧ I64s s n := by
  obtain ⟨a0, len, cap, rfl⟩ := okWide_slice Tryd.underlying84 hv
  obtain ⟨fuel, hf⟩ := h
  rcases open_ints Tryd.underlying84 Tryd.underlying3 (by kernel_rfl) hf with ⟨hcs, _⟩ | ⟨a, len', cap', zs, hcs, _, hl, hm, hz, _, hcell, hwz⟩
  · simp [Value.cells] at hcs
    obtain ⟨rfl, rfl, rfl⟩ := hcs
    exact ⟨none, 0, 0, fun _ => 0, rfl, by decide, fun h => absurd h (by decide), fun i hi => absurd hi (by omega)⟩
  · simp [Value.cells] at hcs
    obtain ⟨rfl, rfl, rfl⟩ := hcs
    have h1 := nums_of (k := .i64) (w := w) (a := a) (n := len) (fun i hi => by
      have hi2 : i < zs.length := by rw [hz]; split <;> omega
      have hc := hcell i hi2
      refine ⟨_, by simpa using hc, wf_k (hwz _ ?_)⟩
      simp [hi2])
    exact ⟨some a, len, cap, numAt .i64 w a, rfl, by omega, fun hp => by
      obtain ⟨b, o, e, hc⟩ := h1.1 hp
      exact ⟨b, o, e, fun i hi => hc i (by omega)⟩, fun i hi => h1.2 i hi⟩
section
variable {P : Program} {H : Type} {enc : TypeId × Value → H} {w : World} {base b0 : Nat} {spare : Nat → Bool} {held : Bool} {r : Reach} {t e : TypeId} {k : IntKind} {v : Value} {d : DataW H} {p : List MemPlace}
/-- A number. -/
theorem open_k (ht : P.underlying t = some (.int k)) (hv : Value.okWide P w r b0 t v) (h : DataW.Trod enc P w base spare held t v d p) : ∃ z, v = .int k z ∧ k.min ≤ z ∧ z ≤ k.max := by
  obtain ⟨z, rfl, _, _, hw⟩ := open_int ht hv h
  exact ⟨z, rfl, wf_k hw⟩
/-- An array of two numbers. -/
theorem open_arr2 (ht : P.underlying t = some (.array 2 e)) (he : P.underlying e = some (.int k)) (h1 : P.cellsOf e = 1) (h2 : P.cellsOf t = 2) (hv : Value.okWide P w r b0 t v) (h : DataW.Trod enc P w base spare held t v d p) :
    ∃ a b, v = .agg #[.int k a, .int k b] ∧ (k.min ≤ a ∧ a ≤ k.max) ∧ k.min ≤ b ∧ b ≤ k.max := by
  simp only [Value.okWide, ht] at hv
  obtain ⟨cs, rfl, hz, _⟩ := hv
  rw [h2] at hz
  obtain ⟨fuel, hf⟩ := h
  obtain ⟨xs, m, _, _, _, hl, hel⟩ := DataW.trod_array ht hf
  obtain ⟨l⟩ := cs
  match l, hz with
  | [a, b], _ =>
    match xs, hl with
    | [x0, x1], _ =>
      have k0 := hel 0 (by omega)
      have k1 := hel 1 (by omega)
      rw [h1] at k0 k1
      obtain ⟨z0, a0, _, w0⟩ := DataW.trod_int he k0
      obtain ⟨z1, a1, _, w1⟩ := DataW.trod_int he k1
      have e0 : a = .int k z0 := by simpa [Value.cells] using a0
      have e1 : b = .int k z1 := by simpa [Value.cells] using a1
      subst e0 e1
      exact ⟨z0, z1, rfl, wf_k w0, wf_k w1⟩
end
theorem laid_tail {P : Program} {W : World} {x : String × DataW Unit} {rest : List (String × DataW Unit)} (h : laidMet P (x :: rest) W) : laidMet P rest W := by
  obtain ⟨ps, ⟨g, t, cs, fuel, p, q, hg, ht, hv, hd, hr, rfl⟩, hnd, hrows⟩ := h
  exact ⟨q, hr, (List.nodup_append.1 hnd).2.1, fun b off hp => hrows b off (List.mem_append_right _ hp)⟩
def debr : List Int := [0,1,56,2,57,49,28,3,61,58,42,50,38,29,17,4,62,47,59,36,45,43,51,22,53,39,33,30,24,18,12,5,63,55,48,27,60,41,37,16,46,35,44,21,52,32,23,11,54,26,40,15,34,20,31,10,25,14,19,9,13,8,7,6]
theorem debr_at : ∀ j, j < Lib.deBruijn64tab.length → debr.getD j 0 = ((Lib.deBruijn64tab.getD j 0 : Nat) : Int) := by decide
set_option maxRecDepth 100000 in
/-- What the rows' list gives: the table. -/
theorem tab_of {W : World} (h : laidMetH Tryd.prog [("math/bits.deBruijn32tab", Rows.laid_math_bits_deBruijn32tab), ("math/bits.deBruijn64tab", Rows.laid_math_bits_deBruijn64tab), ("internal/strconv.uint64pow10", Rows.laid_internal_strconv_uint64pow10)] W) : Dy.Tab W := by
  have h0 : laidMet Tryd.prog [("math/bits.deBruijn32tab", Rows.laid_math_bits_deBruijn32tab), ("math/bits.deBruijn64tab", Rows.laid_math_bits_deBruijn64tab), ("internal/strconv.uint64pow10", Rows.laid_internal_strconv_uint64pow10)] W := h
  have h2 := laid_tail h0
  have hg : Tryd.prog.globalNamed "math/bits.deBruijn64tab" = some 0 := by kernel_rfl
  have t2 : Lib.TabIs Tryd.prog W "math/bits.deBruijn64tab" .u8 debr :=
    Lib.tabIs_of_head (g := 0) (t := 117) hg (by kernel_rfl) Tryd.underlying117 Tryd.underlying5 (by kernel_rfl) (by kernel_rfl) h2
  intro j hj
  rw [← debr_at j hj]
  exact t2.cell hg j hj
end Go.Proofs.YtmdniebedflpbaaDoor
-- TrW: WORDS: a slice of bytes, opened.
namespace Go.Proofs.YtmdniebedflpbaaDoor
open Go.ChangeShapes Go.WideShapes Go.ChangeAt Go.RowKit Go.Deep Go.Joins

set_option maxRecDepth 100000 in
/-- A slice of bytes. -/
theorem open_w8 {H : Type} {enc : TypeId × Value → H} {w : World} {base b0 : Nat} {spare : Nat → Bool} {held : Bool} {r : Reach} {v : Value} {d : DataW H} {p : List MemPlace}
    (hv : Value.okWide Tryd.prog w r b0 22 v) (h : DataW.Trod enc Tryd.prog w base spare held 22 v d p) : ∃ a n c, ∃ s : Nat → Int, v = .slice a n c ∧ n ≤ maxLen ∧ (0 < n → ∃ b o, a = some (⟨b, o, none⟩ : Addr) ∧ ∀ i, i < n → w.cell? ⟨b, o + i, none⟩ = some (.int .u8 (s i))) ∧ ∀ i, i < n → 0 ≤ s i ∧ s i ≤ 255 := by
  obtain ⟨a0, len, cap, rfl⟩ := okWide_slice Tryd.underlying22 hv
  obtain ⟨fuel, hf⟩ := h
  rcases open_ints Tryd.underlying22 Tryd.underlying5 (by kernel_rfl) hf with ⟨hcs, _⟩ | ⟨a, len', cap', zs, hcs, _, hl, hm, hz, _, hcell, hwz⟩
  · simp [Value.cells] at hcs
    obtain ⟨rfl, rfl, rfl⟩ := hcs
    exact ⟨none, 0, 0, fun _ => 0, rfl, by decide, fun h => absurd h (by decide), fun i hi => absurd hi (by omega)⟩
  · simp [Value.cells] at hcs
    obtain ⟨rfl, rfl, rfl⟩ := hcs
    have h1 := nums_of (k := .u8) (w := w) (a := a) (n := len) (fun i hi => by
      have hi2 : i < zs.length := by rw [hz]; split <;> omega
      have hc := hcell i hi2
      refine ⟨_, by simpa using hc, wf_k (hwz _ ?_)⟩
      simp [hi2])
    exact ⟨some a, len, cap, numAt .u8 w a, rfl, by omega, h1.1, h1.2⟩
end Go.Proofs.YtmdniebedflpbaaDoor
