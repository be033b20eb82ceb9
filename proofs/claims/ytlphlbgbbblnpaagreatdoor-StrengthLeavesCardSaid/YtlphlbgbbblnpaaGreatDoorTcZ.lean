/-
  WORDS: the table of the powers of ten, out of the rows' list.
-/
import Derived.Test.YtlphlbgbbblnpaaGreatDoorTcW
import Derived.Test.YtlphlbgbbblnpaaGreatDoorDyM
namespace Go.Proofs.YtlphlbgbbblnpaaGreatDoor
open Go.ChangeShapes Go.WideShapes Go.ChangeAt Go.RowKit Go.Deep Go.Joins

def pw10 : List Int := [1, 10, 100, 1000, 10000, 100000, 1000000, 10000000, 100000000, 1000000000, 10000000000, 100000000000, 1000000000000, 10000000000000, 100000000000000, 1000000000000000, 10000000000000000, 100000000000000000, 1000000000000000000, 10000000000000000000]
set_option maxRecDepth 100000 in
theorem pow_of {W : World} (h : laidMetH Tryz.prog [("math/bits.deBruijn32tab", Rows.laid_math_bits_deBruijn32tab), ("math/bits.deBruijn64tab", Rows.laid_math_bits_deBruijn64tab), ("internal/strconv.uint64pow10", Rows.laid_internal_strconv_uint64pow10)] W) : Dy.Pow W := by
  have h0 : laidMet Tryz.prog [("math/bits.deBruijn32tab", Rows.laid_math_bits_deBruijn32tab), ("math/bits.deBruijn64tab", Rows.laid_math_bits_deBruijn64tab), ("internal/strconv.uint64pow10", Rows.laid_internal_strconv_uint64pow10)] W := h
  have h2 := laid_tail (laid_tail h0)
  have hg : Tryz.prog.globalNamed "internal/strconv.uint64pow10" = some 3 := by kernel_rfl
  have t2 : Lib.TabIs Tryz.prog W "internal/strconv.uint64pow10" .u64 pw10 :=
    Lib.tabIs_of_head (g := 3) (t := 264) hg (by kernel_rfl) Tryz.underlying264 Tryz.underlying170 (by kernel_rfl) (by kernel_rfl) h2
  exact ⟨t2.cell hg 2 (by decide), t2.cell hg 3 (by decide)⟩
end Go.Proofs.YtlphlbgbbblnpaaGreatDoor
