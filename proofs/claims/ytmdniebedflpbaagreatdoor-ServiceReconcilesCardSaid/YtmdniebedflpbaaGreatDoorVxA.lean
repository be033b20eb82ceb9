/-
  WORDS: the arguments of the statements of the service, opened; what the package variables hold.
-/
import Derived.Test.YtmdniebedflpbaaGreatDoorPW
import Derived.Test.YtmdniebedflpbaaGreatDoorVuL
import Derived.Test.YtmdniebedflpbaaGreatDoorTie
import Derived.Test.YtmdniebedflpbaaGreatDoorCards
import Derived.ChangeMaps5
namespace Go.Proofs.YtmdniebedflpbaaGreatDoor
open Go.ChangeShapes Go.WideShapes Go.ChangeAt Go.RowKit Go.Deep Go.Joins

theorem wf_k {k : IntKind} {z : Int} (h : (Lit.int k z).wf = true) : k.min ≤ z ∧ z ≤ k.max := by simpa [Lit.wf] using h
section
variable {P : Program} {H : Type} {enc : TypeId × Value → H} {w : World} {base b0 : Nat} {spare : Nat → Bool} {held : Bool} {r : Reach} {t e : TypeId} {k : IntKind} {v : Value} {d : DataW H} {p : List MemPlace}
/-- A number. -/
theorem open_k (ht : P.underlying t = some (.int k)) (hv : Value.okWide P w r b0 t v) (h : DataW.Trod enc P w base spare held t v d p) : ∃ z, v = .int k z ∧ k.min ≤ z ∧ z ≤ k.max := by
  obtain ⟨z, rfl, _, _, hw⟩ := open_int ht hv h
  exact ⟨z, rfl, wf_k hw⟩
/-- A number of 64 bits. -/
theorem open_u64 (ht : P.underlying t = some (.int .u64)) (hv : Value.okWide P w r b0 t v) (h : DataW.Trod enc P w base spare held t v d p) : ∃ n : Nat, v = .int .u64 (n : Int) ∧ n < 18446744073709551616 := by
  obtain ⟨z, rfl, h0, h1⟩ := open_k ht hv h
  obtain ⟨n, rfl⟩ := Int.eq_ofNat_of_zero_le (show 0 ≤ z from h0)
  have h2 : (n : Int) ≤ 18446744073709551615 := h1
  exact ⟨n, rfl, by omega⟩
/-- A string. -/
theorem open_str (ht : P.underlying t = some .string) (hv : Value.okWide P w r b0 t v) (h : DataW.Trod enc P w base spare held t v d p) : ∃ s : ByteArray, v = .string s ∧ s.size ≤ maxLen := by
  obtain ⟨s, rfl, _, _, hs⟩ := Go.ChangeMaps.open_string ht hv h
  exact ⟨s, rfl, hs⟩
end
theorem laid_tail {P : Program} {W : World} {x : String × DataW Unit} {rest : List (String × DataW Unit)} (h : laidMet P (x :: rest) W) : laidMet P rest W := by
  obtain ⟨ps, ⟨g, t, cs, fuel, p, q, hg, ht, hv, hd, hr, rfl⟩, hnd, hrows⟩ := h
  exact ⟨q, hr, (List.nodup_append.1 hnd).2.1, fun b off hp => hrows b off (List.mem_append_right _ hp)⟩
def debr : List Int := [0,1,56,2,57,49,28,3,61,58,42,50,38,29,17,4,62,47,59,36,45,43,51,22,53,39,33,30,24,18,12,5,63,55,48,27,60,41,37,16,46,35,44,21,52,32,23,11,54,26,40,15,34,20,31,10,25,14,19,9,13,8,7,6]
theorem strs_of_tab {H : Type} {enc : TypeId × Value → H} {P : Program} {w : World} {base : Nat} {sp : Nat → Bool} {held : Bool} {fuel : Nat} {t e : TypeId} {n : Nat} {cs : List Value} {zs : List (List UInt8)} {p : List MemPlace}
    (ht : P.underlying t = some (.array n e)) (he : P.underlying e = some .string) (hce : P.cellsOf e = 1) (hct : P.cellsOf t = n)
    (h : DataW.trod enc P w base sp held fuel t cs = some (.agg (zs.map fun z => .lit (.string z)), p)) : cs = zs.map fun z => Value.string ⟨z.toArray⟩ := by
  cases fuel with
  | zero => simp [DataW.trod] at h
  | succ fuel =>
    simp only [DataW.trod, ht, hce, hct, Nat.mul_one] at h
    split at h
    · rename_i hl
      obtain ⟨xs, hm, hx⟩ := Option.map_eq_some_iff.1 h
      have hxs : xs.map (·.1) = zs.map fun z => (DataW.lit (.string z) : DataW H) := by
        have := congrArg Prod.fst hx
        simpa using this
      have hxl : xs.length = n := by simpa using Lib.mapM_length hm
      have hzl : zs.length = n := by
        have := congrArg List.length hxs
        simp at this
        omega
      apply List.ext_getElem?
      intro i
      by_cases hi : i < n
      · obtain ⟨b, hb, hf⟩ := Lib.mapM_at hm i i (by simp [hi])
        obtain ⟨s, hc, rfl, _⟩ := DataW.trod_string he hf
        have h1 : cs[i]? = some (.string s) := by
          have := congrArg (·[0]?) hc
          simpa [List.getElem?_take, List.getElem?_drop] using this
        have h2 : (xs.map (·.1))[i]? = some (DataW.lit (.string s.data.toList) : DataW H) := by simp [hb]
        rw [hxs] at h2
        simp only [List.getElem?_map, Option.map_eq_some_iff, DataW.lit.injEq, Lit.string.injEq] at h2
        obtain ⟨z', hz', rfl⟩ := h2
        simp [h1, hz']
      · rw [List.getElem?_eq_none (by omega), List.getElem?_eq_none (by simp; omega)]
    · cases h
def rolesD : List (List UInt8) := [[114, 117, 110], [114, 101, 97, 100], [100, 105, 103], [115, 105, 103, 110]]

set_option maxRecDepth 100000 in
/-- What the rows' list gives, and the world's shape. -/
theorem gl_of {W : World} (h : laidMetH Tryz.prog Rows.serviceDigestsRow.laid W) (hS : W.ShapedOpen Tryz.prog) : Gl W := by
  have h0 : laidMet Tryz.prog [("math/bits.deBruijn32tab", Rows.laid_math_bits_deBruijn32tab), ("math/bits.deBruijn64tab", Rows.laid_math_bits_deBruijn64tab), ("internal/strconv.uint64pow10", Rows.laid_internal_strconv_uint64pow10), ("unicode/utf8.acceptRanges", Rows.laid_unicode_utf8_acceptRanges), ("strconv.ErrRange", Rows.laid_strconv_ErrRange), ("strconv.ErrSyntax", Rows.laid_strconv_ErrSyntax), ("wallgauge/service.roles", Rows.laid_wallgauge_service_roles), ("unicode/utf8.first", Rows.laid_unicode_utf8_first)] W := h
  have h2 := laid_tail h0
  have hg : Tryz.prog.globalNamed "math/bits.deBruijn64tab" = some 8 := by kernel_rfl
  have t2 : Lib.TabIs Tryz.prog W "math/bits.deBruijn64tab" .u8 debr :=
    Lib.tabIs_of_head (g := 8) (t := 271) hg (by kernel_rfl) Tryz.underlying271 Tryz.underlying5 (by kernel_rfl) (by kernel_rfl) h2
  have h7 := laid_tail (laid_tail (laid_tail (laid_tail (laid_tail h2))))
  have hr : W.var? Tryz.prog "wallgauge/service.roles" = some (rolesD.map fun z => Value.string ⟨z.toArray⟩).toArray := by
    obtain ⟨ps, ⟨g', t', cs, fuel, p, q, hg', ht', hvar, hd, _, _⟩, _⟩ := h7
    have e1 : Tryz.prog.globalNamed "wallgauge/service.roles" = some 0 := by kernel_rfl
    obtain rfl := Option.some.inj (e1.symm.trans hg')
    have e2 : (Tryz.prog.globals[0]?).map (·.type) = some 225 := by kernel_rfl
    obtain rfl := Option.some.inj (e2.symm.trans ht')
    rw [hvar, ← strs_of_tab (zs := rolesD) Tryz.underlying225 Tryz.underlying9 (by kernel_rfl) (by kernel_rfl) hd]
  have hgr : Tryz.prog.globalNamed "wallgauge/service.roles" = some 0 := by kernel_rfl
  have hc := fun i => World.var?_cell hgr hr i
  exact ⟨Tryz.laysM146.s1_3 W hS, t2.cell hg 15 (by decide), hc 0, hc 1, hc 2, hc 3⟩
end Go.Proofs.YtmdniebedflpbaaGreatDoor
