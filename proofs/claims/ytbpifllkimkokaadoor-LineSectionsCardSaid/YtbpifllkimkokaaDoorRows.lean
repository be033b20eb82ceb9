/-
  NARROWER THAN 'FOR EVERY INPUT', by the rows' own cells (each row's printed sentence says how): LineStations: laid · LineSections: laid · LinePasses: laid · LineThere: laid · LineParts: laid · LineTools: laid · LineMirrors: laid · LineChanges: laid · LineCuts: laid.
  DERIVED. THE GIVEN ROWS OF THIS SEAT. 9 by the template 'for every input the law returns true; each argument reads behind the call as it read before'; 0 by the template 'total and deterministic' (their statements: YtbpifllkimkokaaDoorTotals.lean).
  GIVEN WITH THE SEED: the statements are not yours to turn. If you find one false, say at which input.
  Laid BY PROGRAM, IN A SANDBOX (cutbox-rows.mjs): the forced cells as the released guide's own fill.sh prints them over the translation 83c955da665b2198… (all of the seat's roots in one cut). By AI agents, Wed Nov 11 2026. No macro, syntax, notation, axiom, sorry.
-/
import Derived.Test.YtbpifllkimkokaaDoorChecked
import GoSem.Claim
import GoSem.ClaimJoined
import GoSem.ClaimMapViews
import Derived.JoinedTies
import Derived.KernelRfl
namespace Go.Proofs.YtbpifllkimkokaaDoor
/- THE CELL 'sum', in the pinned program and in every row, IS THE sha256 OF THE DUMP (.gsa) THAT YtbpifllkimkokaaDoorProg.lean LOADS. Nothing in Lean hashes anything: it is a label: what it is worth is what the hold of that sum in a sandbox is worth. -/
noncomputable def Tryd.pinned : Pinned := { name := "ytbpifllkimkokaadoor", sum := "83c955da665b2198f43e03991e9d2b21b9cfb4672de60de4ac3677b53e258ed1", checked := Tryd.checked }
namespace Rows
def none {H : Type} : Left H := { results := [], args := [] }

/- WHAT THE LISTED PACKAGE-LEVEL VARIABLES READ AS WHEN THE CALL BEGINS. Each datum BY PROGRAM (the guide's laid-datum.mjs) off the statement by which the dump's own 'gosem.cut.vars' lays the variable. In a bare row this is a premise. The card (YtbpifllkimkokaaDoorCards.lean) ties it to the program's text. -/
def laid_math_bits_deBruijn32tab {H : Type} : DataW H := .agg [.lit (.int .u8 0), .lit (.int .u8 1), .lit (.int .u8 28), .lit (.int .u8 2), .lit (.int .u8 29), .lit (.int .u8 14), .lit (.int .u8 24), .lit (.int .u8 3), .lit (.int .u8 30), .lit (.int .u8 22), .lit (.int .u8 20), .lit (.int .u8 15), .lit (.int .u8 25), .lit (.int .u8 17), .lit (.int .u8 4), .lit (.int .u8 8), .lit (.int .u8 31), .lit (.int .u8 27), .lit (.int .u8 13), .lit (.int .u8 23), .lit (.int .u8 21), .lit (.int .u8 19), .lit (.int .u8 16), .lit (.int .u8 7), .lit (.int .u8 26), .lit (.int .u8 12), .lit (.int .u8 18), .lit (.int .u8 6), .lit (.int .u8 11), .lit (.int .u8 5), .lit (.int .u8 10), .lit (.int .u8 9)]
def laid_math_bits_deBruijn64tab {H : Type} : DataW H := .agg [.lit (.int .u8 0), .lit (.int .u8 1), .lit (.int .u8 56), .lit (.int .u8 2), .lit (.int .u8 57), .lit (.int .u8 49), .lit (.int .u8 28), .lit (.int .u8 3), .lit (.int .u8 61), .lit (.int .u8 58), .lit (.int .u8 42), .lit (.int .u8 50), .lit (.int .u8 38), .lit (.int .u8 29), .lit (.int .u8 17), .lit (.int .u8 4), .lit (.int .u8 62), .lit (.int .u8 47), .lit (.int .u8 59), .lit (.int .u8 36), .lit (.int .u8 45), .lit (.int .u8 43), .lit (.int .u8 51), .lit (.int .u8 22), .lit (.int .u8 53), .lit (.int .u8 39), .lit (.int .u8 33), .lit (.int .u8 30), .lit (.int .u8 24), .lit (.int .u8 18), .lit (.int .u8 12), .lit (.int .u8 5), .lit (.int .u8 63), .lit (.int .u8 55), .lit (.int .u8 48), .lit (.int .u8 27), .lit (.int .u8 60), .lit (.int .u8 41), .lit (.int .u8 37), .lit (.int .u8 16), .lit (.int .u8 46), .lit (.int .u8 35), .lit (.int .u8 44), .lit (.int .u8 21), .lit (.int .u8 52), .lit (.int .u8 32), .lit (.int .u8 23), .lit (.int .u8 11), .lit (.int .u8 54), .lit (.int .u8 26), .lit (.int .u8 40), .lit (.int .u8 15), .lit (.int .u8 34), .lit (.int .u8 20), .lit (.int .u8 31), .lit (.int .u8 10), .lit (.int .u8 25), .lit (.int .u8 14), .lit (.int .u8 19), .lit (.int .u8 9), .lit (.int .u8 13), .lit (.int .u8 8), .lit (.int .u8 7), .lit (.int .u8 6)]
def laid_internal_strconv_uint64pow10 {H : Type} : DataW H := .agg [.lit (.int .u64 1), .lit (.int .u64 10), .lit (.int .u64 100), .lit (.int .u64 1000), .lit (.int .u64 10000), .lit (.int .u64 100000), .lit (.int .u64 1000000), .lit (.int .u64 10000000), .lit (.int .u64 100000000), .lit (.int .u64 1000000000), .lit (.int .u64 10000000000), .lit (.int .u64 100000000000), .lit (.int .u64 1000000000000), .lit (.int .u64 10000000000000), .lit (.int .u64 100000000000000), .lit (.int .u64 1000000000000000), .lit (.int .u64 10000000000000000), .lit (.int .u64 100000000000000000), .lit (.int .u64 1000000000000000000), .lit (.int .u64 10000000000000000000)]
def laid_wallgauge_line_yields {H : Type} : DataW H := .agg [.lit (.int .i64 290000), .lit (.int .i64 317000), .lit (.int .i64 359000), .lit (.int .i64 386000), .lit (.int .i64 414000), .lit (.int .i64 448000), .lit (.int .i64 483000), .lit (.int .i64 552000)]
def laid_wallgauge_line_words {H : Type} : DataW H := .agg [.lit (.string [112, 105, 112, 101]), .lit (.string [98, 101, 110, 100]), .lit (.string [118, 97, 108, 118, 101])]
def laid_wallgauge_line_factors {H : Type} : DataW H := .agg [.lit (.int .i64 72), .lit (.int .i64 60), .lit (.int .i64 50), .lit (.int .i64 40)]

/-- 'wallgaugelaw02.LineStations': WHATEVER THE INPUT: true; the input reads as it did. -/
def lineStationsSpec : ChangeSpec := { name := "lineStations", fn := fun _ => fun
  | [d1, d2, d3, d4, d5] => { results := [.lit (.bool true)], args := [d1, d2, d3, d4, d5] }
  | _ => none }
def lineStationsRow : OpenClaim := { program := "ytbpifllkimkokaadoor", sum := "83c955da665b2198f43e03991e9d2b21b9cfb4672de60de4ac3677b53e258ed1", func := "wallgauge/wallgaugelaw02.LineStations", spec := "lineStations", inPlace := ["internal/abi.NoEscape"], unfollowed := true, recurses := true, named := ["wallgauge/line.words", "internal/strconv.uint64pow10", "math/bits.deBruijn32tab", "math/bits.deBruijn64tab", "wallgauge/line.yields"], apart := false, laid := [("math/bits.deBruijn32tab", laid_math_bits_deBruijn32tab), ("math/bits.deBruijn64tab", laid_math_bits_deBruijn64tab), ("internal/strconv.uint64pow10", laid_internal_strconv_uint64pow10), ("wallgauge/line.yields", laid_wallgauge_line_yields), ("wallgauge/line.words", laid_wallgauge_line_words)] }
def LineStationsSaid : Prop := lineStationsRow.holds Tryd.pinned (OpenSpec.ofChange lineStationsSpec)

/-- ITS FALSE NEIGHBOUR: 'it returns false'. Refute it at one input. -/
def lineStationsWrong : ChangeSpec := { name := "lineStations", fn := fun _ => fun
  | [d1, d2, d3, d4, d5] => { results := [.lit (.bool false)], args := [d1, d2, d3, d4, d5] }
  | _ => none }
def LineStationsWrongFalsely : Prop := lineStationsRow.holds Tryd.pinned (OpenSpec.ofChange lineStationsWrong)

/-- 'wallgaugelaw02.LineSections': WHATEVER THE INPUT: true; the input reads as it did. -/
def lineSectionsSpec : ChangeSpec := { name := "lineSections", fn := fun _ => fun
  | [d1, d2] => { results := [.lit (.bool true)], args := [d1, d2] }
  | _ => none }
def lineSectionsRow : OpenClaim := { program := "ytbpifllkimkokaadoor", sum := "83c955da665b2198f43e03991e9d2b21b9cfb4672de60de4ac3677b53e258ed1", func := "wallgauge/wallgaugelaw02.LineSections", spec := "lineSections", inPlace := ["internal/abi.NoEscape"], unfollowed := true, recurses := true, named := ["wallgauge/line.words", "internal/strconv.uint64pow10", "math/bits.deBruijn32tab", "math/bits.deBruijn64tab", "wallgauge/line.yields", "wallgauge/line.factors"], apart := false, laid := [("math/bits.deBruijn32tab", laid_math_bits_deBruijn32tab), ("math/bits.deBruijn64tab", laid_math_bits_deBruijn64tab), ("internal/strconv.uint64pow10", laid_internal_strconv_uint64pow10), ("wallgauge/line.yields", laid_wallgauge_line_yields), ("wallgauge/line.factors", laid_wallgauge_line_factors), ("wallgauge/line.words", laid_wallgauge_line_words)] }
def LineSectionsSaid : Prop := lineSectionsRow.holds Tryd.pinned (OpenSpec.ofChange lineSectionsSpec)

/-- ITS FALSE NEIGHBOUR: 'it returns false'. Refute it at one input. -/
def lineSectionsWrong : ChangeSpec := { name := "lineSections", fn := fun _ => fun
  | [d1, d2] => { results := [.lit (.bool false)], args := [d1, d2] }
  | _ => none }
def LineSectionsWrongFalsely : Prop := lineSectionsRow.holds Tryd.pinned (OpenSpec.ofChange lineSectionsWrong)

/-- 'wallgaugelaw02.LinePasses': WHATEVER THE INPUT: true; the input reads as it did. -/
def linePassesSpec : ChangeSpec := { name := "linePasses", fn := fun _ => fun
  | [d1, d2] => { results := [.lit (.bool true)], args := [d1, d2] }
  | _ => none }
def linePassesRow : OpenClaim := { program := "ytbpifllkimkokaadoor", sum := "83c955da665b2198f43e03991e9d2b21b9cfb4672de60de4ac3677b53e258ed1", func := "wallgauge/wallgaugelaw02.LinePasses", spec := "linePasses", inPlace := ["internal/abi.NoEscape"], unfollowed := true, recurses := true, named := ["wallgauge/line.words", "internal/strconv.uint64pow10", "math/bits.deBruijn32tab", "math/bits.deBruijn64tab", "wallgauge/line.yields"], apart := false, laid := [("math/bits.deBruijn32tab", laid_math_bits_deBruijn32tab), ("math/bits.deBruijn64tab", laid_math_bits_deBruijn64tab), ("internal/strconv.uint64pow10", laid_internal_strconv_uint64pow10), ("wallgauge/line.yields", laid_wallgauge_line_yields), ("wallgauge/line.words", laid_wallgauge_line_words)] }
def LinePassesSaid : Prop := linePassesRow.holds Tryd.pinned (OpenSpec.ofChange linePassesSpec)

/-- ITS FALSE NEIGHBOUR: 'it returns false'. Refute it at one input. -/
def linePassesWrong : ChangeSpec := { name := "linePasses", fn := fun _ => fun
  | [d1, d2] => { results := [.lit (.bool false)], args := [d1, d2] }
  | _ => none }
def LinePassesWrongFalsely : Prop := linePassesRow.holds Tryd.pinned (OpenSpec.ofChange linePassesWrong)

/-- 'wallgaugelaw02.LineThere': WHATEVER THE INPUT: true; the input reads as it did. -/
def lineThereSpec : ChangeSpec := { name := "lineThere", fn := fun _ => fun
  | [d1, d2, d3, d4] => { results := [.lit (.bool true)], args := [d1, d2, d3, d4] }
  | _ => none }
def lineThereRow : OpenClaim := { program := "ytbpifllkimkokaadoor", sum := "83c955da665b2198f43e03991e9d2b21b9cfb4672de60de4ac3677b53e258ed1", func := "wallgauge/wallgaugelaw02.LineThere", spec := "lineThere", inPlace := ["internal/abi.NoEscape"], unfollowed := true, recurses := true, named := ["wallgauge/line.words", "internal/strconv.uint64pow10", "math/bits.deBruijn32tab", "math/bits.deBruijn64tab", "wallgauge/line.yields"], apart := false, laid := [("math/bits.deBruijn32tab", laid_math_bits_deBruijn32tab), ("math/bits.deBruijn64tab", laid_math_bits_deBruijn64tab), ("internal/strconv.uint64pow10", laid_internal_strconv_uint64pow10), ("wallgauge/line.yields", laid_wallgauge_line_yields), ("wallgauge/line.words", laid_wallgauge_line_words)] }
def LineThereSaid : Prop := lineThereRow.holds Tryd.pinned (OpenSpec.ofChange lineThereSpec)

/-- ITS FALSE NEIGHBOUR: 'it returns false'. Refute it at one input. -/
def lineThereWrong : ChangeSpec := { name := "lineThere", fn := fun _ => fun
  | [d1, d2, d3, d4] => { results := [.lit (.bool false)], args := [d1, d2, d3, d4] }
  | _ => none }
def LineThereWrongFalsely : Prop := lineThereRow.holds Tryd.pinned (OpenSpec.ofChange lineThereWrong)

/-- 'wallgaugelaw02.LineParts': WHATEVER THE INPUT: true; the input reads as it did. -/
def linePartsSpec : ChangeSpec := { name := "lineParts", fn := fun _ => fun
  | [d1, d2] => { results := [.lit (.bool true)], args := [d1, d2] }
  | _ => none }
def linePartsRow : OpenClaim := { program := "ytbpifllkimkokaadoor", sum := "83c955da665b2198f43e03991e9d2b21b9cfb4672de60de4ac3677b53e258ed1", func := "wallgauge/wallgaugelaw02.LineParts", spec := "lineParts", inPlace := ["internal/abi.NoEscape"], unfollowed := true, recurses := true, named := ["wallgauge/line.words", "internal/strconv.uint64pow10", "math/bits.deBruijn32tab", "math/bits.deBruijn64tab", "wallgauge/line.yields"], apart := false, laid := [("math/bits.deBruijn32tab", laid_math_bits_deBruijn32tab), ("math/bits.deBruijn64tab", laid_math_bits_deBruijn64tab), ("internal/strconv.uint64pow10", laid_internal_strconv_uint64pow10), ("wallgauge/line.yields", laid_wallgauge_line_yields), ("wallgauge/line.words", laid_wallgauge_line_words)] }
def LinePartsSaid : Prop := linePartsRow.holds Tryd.pinned (OpenSpec.ofChange linePartsSpec)

/-- ITS FALSE NEIGHBOUR: 'it returns false'. Refute it at one input. -/
def linePartsWrong : ChangeSpec := { name := "lineParts", fn := fun _ => fun
  | [d1, d2] => { results := [.lit (.bool false)], args := [d1, d2] }
  | _ => none }
def LinePartsWrongFalsely : Prop := linePartsRow.holds Tryd.pinned (OpenSpec.ofChange linePartsWrong)

/-- 'wallgaugelaw02.LineTools': WHATEVER THE INPUT: true; the input reads as it did. -/
def lineToolsSpec : ChangeSpec := { name := "lineTools", fn := fun _ => fun
  | [d1, d2, d3, d4] => { results := [.lit (.bool true)], args := [d1, d2, d3, d4] }
  | _ => none }
def lineToolsRow : OpenClaim := { program := "ytbpifllkimkokaadoor", sum := "83c955da665b2198f43e03991e9d2b21b9cfb4672de60de4ac3677b53e258ed1", func := "wallgauge/wallgaugelaw02.LineTools", spec := "lineTools", inPlace := ["internal/abi.NoEscape"], unfollowed := true, recurses := true, named := ["wallgauge/line.words", "internal/strconv.uint64pow10", "math/bits.deBruijn32tab", "math/bits.deBruijn64tab", "wallgauge/line.yields"], apart := false, laid := [("math/bits.deBruijn32tab", laid_math_bits_deBruijn32tab), ("math/bits.deBruijn64tab", laid_math_bits_deBruijn64tab), ("internal/strconv.uint64pow10", laid_internal_strconv_uint64pow10), ("wallgauge/line.yields", laid_wallgauge_line_yields), ("wallgauge/line.words", laid_wallgauge_line_words)] }
def LineToolsSaid : Prop := lineToolsRow.holds Tryd.pinned (OpenSpec.ofChange lineToolsSpec)

/-- ITS FALSE NEIGHBOUR: 'it returns false'. Refute it at one input. -/
def lineToolsWrong : ChangeSpec := { name := "lineTools", fn := fun _ => fun
  | [d1, d2, d3, d4] => { results := [.lit (.bool false)], args := [d1, d2, d3, d4] }
  | _ => none }
def LineToolsWrongFalsely : Prop := lineToolsRow.holds Tryd.pinned (OpenSpec.ofChange lineToolsWrong)

/-- 'wallgaugelaw02.LineMirrors': WHATEVER THE INPUT: true; the input reads as it did. -/
def lineMirrorsSpec : ChangeSpec := { name := "lineMirrors", fn := fun _ => fun
  | [d1, d2, d3] => { results := [.lit (.bool true)], args := [d1, d2, d3] }
  | _ => none }
def lineMirrorsRow : OpenClaim := { program := "ytbpifllkimkokaadoor", sum := "83c955da665b2198f43e03991e9d2b21b9cfb4672de60de4ac3677b53e258ed1", func := "wallgauge/wallgaugelaw02.LineMirrors", spec := "lineMirrors", inPlace := ["internal/abi.NoEscape", "slices.overlaps[wallgauge/line.Limit]"], unfollowed := true, recurses := true, named := ["wallgauge/line.words", "internal/strconv.uint64pow10", "math/bits.deBruijn32tab", "math/bits.deBruijn64tab", "wallgauge/line.yields"], apart := false, laid := [("math/bits.deBruijn32tab", laid_math_bits_deBruijn32tab), ("math/bits.deBruijn64tab", laid_math_bits_deBruijn64tab), ("internal/strconv.uint64pow10", laid_internal_strconv_uint64pow10), ("wallgauge/line.yields", laid_wallgauge_line_yields), ("wallgauge/line.words", laid_wallgauge_line_words)] }
def LineMirrorsSaid : Prop := lineMirrorsRow.holds Tryd.pinned (OpenSpec.ofChange lineMirrorsSpec)

/-- ITS FALSE NEIGHBOUR: 'it returns false'. Refute it at one input. -/
def lineMirrorsWrong : ChangeSpec := { name := "lineMirrors", fn := fun _ => fun
  | [d1, d2, d3] => { results := [.lit (.bool false)], args := [d1, d2, d3] }
  | _ => none }
def LineMirrorsWrongFalsely : Prop := lineMirrorsRow.holds Tryd.pinned (OpenSpec.ofChange lineMirrorsWrong)

/-- 'wallgaugelaw02.LineChanges': WHATEVER THE INPUT: true; the input reads as it did. -/
def lineChangesSpec : ChangeSpec := { name := "lineChanges", fn := fun _ => fun
  | [d1, d2, d3] => { results := [.lit (.bool true)], args := [d1, d2, d3] }
  | _ => none }
def lineChangesRow : OpenClaim := { program := "ytbpifllkimkokaadoor", sum := "83c955da665b2198f43e03991e9d2b21b9cfb4672de60de4ac3677b53e258ed1", func := "wallgauge/wallgaugelaw02.LineChanges", spec := "lineChanges", inPlace := ["internal/abi.NoEscape", "slices.overlaps[wallgauge/line.Limit]", "slices.overlaps[wallgauge/line.Item]"], unfollowed := true, recurses := true, named := ["wallgauge/line.words", "internal/strconv.uint64pow10", "math/bits.deBruijn32tab", "math/bits.deBruijn64tab", "wallgauge/line.yields"], apart := false, laid := [("math/bits.deBruijn32tab", laid_math_bits_deBruijn32tab), ("math/bits.deBruijn64tab", laid_math_bits_deBruijn64tab), ("internal/strconv.uint64pow10", laid_internal_strconv_uint64pow10), ("wallgauge/line.yields", laid_wallgauge_line_yields), ("wallgauge/line.words", laid_wallgauge_line_words)] }
def LineChangesSaid : Prop := lineChangesRow.holds Tryd.pinned (OpenSpec.ofChange lineChangesSpec)

/-- ITS FALSE NEIGHBOUR: 'it returns false'. Refute it at one input. -/
def lineChangesWrong : ChangeSpec := { name := "lineChanges", fn := fun _ => fun
  | [d1, d2, d3] => { results := [.lit (.bool false)], args := [d1, d2, d3] }
  | _ => none }
def LineChangesWrongFalsely : Prop := lineChangesRow.holds Tryd.pinned (OpenSpec.ofChange lineChangesWrong)

/-- 'wallgaugelaw02.LineCuts': WHATEVER THE INPUT: true; the input reads as it did. -/
def lineCutsSpec : ChangeSpec := { name := "lineCuts", fn := fun _ => fun
  | [d1, d2, d3, d4] => { results := [.lit (.bool true)], args := [d1, d2, d3, d4] }
  | _ => none }
def lineCutsRow : OpenClaim := { program := "ytbpifllkimkokaadoor", sum := "83c955da665b2198f43e03991e9d2b21b9cfb4672de60de4ac3677b53e258ed1", func := "wallgauge/wallgaugelaw02.LineCuts", spec := "lineCuts", inPlace := ["internal/abi.NoEscape", "slices.overlaps[wallgauge/line.Item]"], unfollowed := true, recurses := true, named := ["wallgauge/line.words", "internal/strconv.uint64pow10", "math/bits.deBruijn32tab", "math/bits.deBruijn64tab", "wallgauge/line.yields", "wallgauge/line.factors"], apart := false, laid := [("math/bits.deBruijn32tab", laid_math_bits_deBruijn32tab), ("math/bits.deBruijn64tab", laid_math_bits_deBruijn64tab), ("internal/strconv.uint64pow10", laid_internal_strconv_uint64pow10), ("wallgauge/line.yields", laid_wallgauge_line_yields), ("wallgauge/line.factors", laid_wallgauge_line_factors), ("wallgauge/line.words", laid_wallgauge_line_words)] }
def LineCutsSaid : Prop := lineCutsRow.holds Tryd.pinned (OpenSpec.ofChange lineCutsSpec)

/-- ITS FALSE NEIGHBOUR: 'it returns false'. Refute it at one input. -/
def lineCutsWrong : ChangeSpec := { name := "lineCuts", fn := fun _ => fun
  | [d1, d2, d3, d4] => { results := [.lit (.bool false)], args := [d1, d2, d3, d4] }
  | _ => none }
def LineCutsWrongFalsely : Prop := lineCutsRow.holds Tryd.pinned (OpenSpec.ofChange lineCutsWrong)

/- THE SECOND FORM. 'bulk': how many values and letters a reading holds, each counted each time it is reached (what is shared counts as often as it is met; a slice's spare places count too). A statement '..UptoSaid' is the law's where the arguments, and the package variables that the reading takes, are together of bulk at most 1048576: NARROWER than '..Said'. Prove '..Said' where nothing that the law and all that it calls make is longer than what came in: it says more and counts as full. Else prove '..UptoSaid'. A law counts once. -/
mutual
def uptoBulk {H : Type} : DataW H → Nat
  | .lit (.string bytes) => bytes.length + 1
  | .lit _ => 1
  | .nil => 1
  | .ptr d => uptoBulk d + 1
  | .slice elems spare => uptoBulkAll elems + uptoBulkAll spare + 1
  | .agg parts => uptoBulkAll parts + 1
  | .iface _ d => uptoBulk d + 1
  | .map entries => uptoBulkEntries entries + 1
  | .held _ => 1
def uptoBulkAll {H : Type} : List (DataW H) → Nat
  | [] => 0
  | d :: r => uptoBulk d + uptoBulkAll r
def uptoBulkEntries {H : Type} : List (Lit × DataW H) → Nat
  | [] => 0
  | x :: r => uptoBulkEntry x + uptoBulkEntries r
def uptoBulkEntry {H : Type} : Lit × DataW H → Nat
  | (.string bytes, d) => bytes.length + uptoBulk d + 1
  | (_, d) => uptoBulk d + 1
 end
def uptoSmall : (H : Type) → List (DataW H) → Bool := fun _ ds => decide (uptoBulkAll ds ≤ 1048576)
def OpenSpec.upto (s : _root_.Go.ChangeSpec) : _root_.Go.OpenSpec := { _root_.Go.OpenSpec.ofChange s with cond := some uptoSmall }

/-- 'wallgaugelaw02.LineStations', WHERE WHAT IT READS IS OF BULK AT MOST 1048576: true; the input reads as it did. -/
def lineStationsUptoRow : OpenClaim := { program := "ytbpifllkimkokaadoor", sum := "83c955da665b2198f43e03991e9d2b21b9cfb4672de60de4ac3677b53e258ed1", func := "wallgauge/wallgaugelaw02.LineStations", spec := "lineStations", inPlace := ["internal/abi.NoEscape"], unfollowed := true, recurses := true, named := ["wallgauge/line.words", "internal/strconv.uint64pow10", "math/bits.deBruijn32tab", "math/bits.deBruijn64tab", "wallgauge/line.yields"], apart := false, laid := [("math/bits.deBruijn32tab", laid_math_bits_deBruijn32tab), ("math/bits.deBruijn64tab", laid_math_bits_deBruijn64tab), ("internal/strconv.uint64pow10", laid_internal_strconv_uint64pow10), ("wallgauge/line.yields", laid_wallgauge_line_yields), ("wallgauge/line.words", laid_wallgauge_line_words)], narrowed := true }
def LineStationsUptoSaid : Prop := lineStationsUptoRow.holds Tryd.pinned (OpenSpec.upto lineStationsSpec)

/-- 'wallgaugelaw02.LineSections', WHERE WHAT IT READS IS OF BULK AT MOST 1048576: true; the input reads as it did. -/
def lineSectionsUptoRow : OpenClaim := { program := "ytbpifllkimkokaadoor", sum := "83c955da665b2198f43e03991e9d2b21b9cfb4672de60de4ac3677b53e258ed1", func := "wallgauge/wallgaugelaw02.LineSections", spec := "lineSections", inPlace := ["internal/abi.NoEscape"], unfollowed := true, recurses := true, named := ["wallgauge/line.words", "internal/strconv.uint64pow10", "math/bits.deBruijn32tab", "math/bits.deBruijn64tab", "wallgauge/line.yields", "wallgauge/line.factors"], apart := false, laid := [("math/bits.deBruijn32tab", laid_math_bits_deBruijn32tab), ("math/bits.deBruijn64tab", laid_math_bits_deBruijn64tab), ("internal/strconv.uint64pow10", laid_internal_strconv_uint64pow10), ("wallgauge/line.yields", laid_wallgauge_line_yields), ("wallgauge/line.factors", laid_wallgauge_line_factors), ("wallgauge/line.words", laid_wallgauge_line_words)], narrowed := true }
def LineSectionsUptoSaid : Prop := lineSectionsUptoRow.holds Tryd.pinned (OpenSpec.upto lineSectionsSpec)

/-- 'wallgaugelaw02.LinePasses', WHERE WHAT IT READS IS OF BULK AT MOST 1048576: true; the input reads as it did. -/
def linePassesUptoRow : OpenClaim := { program := "ytbpifllkimkokaadoor", sum := "83c955da665b2198f43e03991e9d2b21b9cfb4672de60de4ac3677b53e258ed1", func := "wallgauge/wallgaugelaw02.LinePasses", spec := "linePasses", inPlace := ["internal/abi.NoEscape"], unfollowed := true, recurses := true, named := ["wallgauge/line.words", "internal/strconv.uint64pow10", "math/bits.deBruijn32tab", "math/bits.deBruijn64tab", "wallgauge/line.yields"], apart := false, laid := [("math/bits.deBruijn32tab", laid_math_bits_deBruijn32tab), ("math/bits.deBruijn64tab", laid_math_bits_deBruijn64tab), ("internal/strconv.uint64pow10", laid_internal_strconv_uint64pow10), ("wallgauge/line.yields", laid_wallgauge_line_yields), ("wallgauge/line.words", laid_wallgauge_line_words)], narrowed := true }
def LinePassesUptoSaid : Prop := linePassesUptoRow.holds Tryd.pinned (OpenSpec.upto linePassesSpec)

/-- 'wallgaugelaw02.LineThere', WHERE WHAT IT READS IS OF BULK AT MOST 1048576: true; the input reads as it did. -/
def lineThereUptoRow : OpenClaim := { program := "ytbpifllkimkokaadoor", sum := "83c955da665b2198f43e03991e9d2b21b9cfb4672de60de4ac3677b53e258ed1", func := "wallgauge/wallgaugelaw02.LineThere", spec := "lineThere", inPlace := ["internal/abi.NoEscape"], unfollowed := true, recurses := true, named := ["wallgauge/line.words", "internal/strconv.uint64pow10", "math/bits.deBruijn32tab", "math/bits.deBruijn64tab", "wallgauge/line.yields"], apart := false, laid := [("math/bits.deBruijn32tab", laid_math_bits_deBruijn32tab), ("math/bits.deBruijn64tab", laid_math_bits_deBruijn64tab), ("internal/strconv.uint64pow10", laid_internal_strconv_uint64pow10), ("wallgauge/line.yields", laid_wallgauge_line_yields), ("wallgauge/line.words", laid_wallgauge_line_words)], narrowed := true }
def LineThereUptoSaid : Prop := lineThereUptoRow.holds Tryd.pinned (OpenSpec.upto lineThereSpec)

/-- 'wallgaugelaw02.LineParts', WHERE WHAT IT READS IS OF BULK AT MOST 1048576: true; the input reads as it did. -/
def linePartsUptoRow : OpenClaim := { program := "ytbpifllkimkokaadoor", sum := "83c955da665b2198f43e03991e9d2b21b9cfb4672de60de4ac3677b53e258ed1", func := "wallgauge/wallgaugelaw02.LineParts", spec := "lineParts", inPlace := ["internal/abi.NoEscape"], unfollowed := true, recurses := true, named := ["wallgauge/line.words", "internal/strconv.uint64pow10", "math/bits.deBruijn32tab", "math/bits.deBruijn64tab", "wallgauge/line.yields"], apart := false, laid := [("math/bits.deBruijn32tab", laid_math_bits_deBruijn32tab), ("math/bits.deBruijn64tab", laid_math_bits_deBruijn64tab), ("internal/strconv.uint64pow10", laid_internal_strconv_uint64pow10), ("wallgauge/line.yields", laid_wallgauge_line_yields), ("wallgauge/line.words", laid_wallgauge_line_words)], narrowed := true }
def LinePartsUptoSaid : Prop := linePartsUptoRow.holds Tryd.pinned (OpenSpec.upto linePartsSpec)

/-- 'wallgaugelaw02.LineTools', WHERE WHAT IT READS IS OF BULK AT MOST 1048576: true; the input reads as it did. -/
def lineToolsUptoRow : OpenClaim := { program := "ytbpifllkimkokaadoor", sum := "83c955da665b2198f43e03991e9d2b21b9cfb4672de60de4ac3677b53e258ed1", func := "wallgauge/wallgaugelaw02.LineTools", spec := "lineTools", inPlace := ["internal/abi.NoEscape"], unfollowed := true, recurses := true, named := ["wallgauge/line.words", "internal/strconv.uint64pow10", "math/bits.deBruijn32tab", "math/bits.deBruijn64tab", "wallgauge/line.yields"], apart := false, laid := [("math/bits.deBruijn32tab", laid_math_bits_deBruijn32tab), ("math/bits.deBruijn64tab", laid_math_bits_deBruijn64tab), ("internal/strconv.uint64pow10", laid_internal_strconv_uint64pow10), ("wallgauge/line.yields", laid_wallgauge_line_yields), ("wallgauge/line.words", laid_wallgauge_line_words)], narrowed := true }
def LineToolsUptoSaid : Prop := lineToolsUptoRow.holds Tryd.pinned (OpenSpec.upto lineToolsSpec)

/-- 'wallgaugelaw02.LineMirrors', WHERE WHAT IT READS IS OF BULK AT MOST 1048576: true; the input reads as it did. -/
def lineMirrorsUptoRow : OpenClaim := { program := "ytbpifllkimkokaadoor", sum := "83c955da665b2198f43e03991e9d2b21b9cfb4672de60de4ac3677b53e258ed1", func := "wallgauge/wallgaugelaw02.LineMirrors", spec := "lineMirrors", inPlace := ["internal/abi.NoEscape", "slices.overlaps[wallgauge/line.Limit]"], unfollowed := true, recurses := true, named := ["wallgauge/line.words", "internal/strconv.uint64pow10", "math/bits.deBruijn32tab", "math/bits.deBruijn64tab", "wallgauge/line.yields"], apart := false, laid := [("math/bits.deBruijn32tab", laid_math_bits_deBruijn32tab), ("math/bits.deBruijn64tab", laid_math_bits_deBruijn64tab), ("internal/strconv.uint64pow10", laid_internal_strconv_uint64pow10), ("wallgauge/line.yields", laid_wallgauge_line_yields), ("wallgauge/line.words", laid_wallgauge_line_words)], narrowed := true }
def LineMirrorsUptoSaid : Prop := lineMirrorsUptoRow.holds Tryd.pinned (OpenSpec.upto lineMirrorsSpec)

/-- 'wallgaugelaw02.LineChanges', WHERE WHAT IT READS IS OF BULK AT MOST 1048576: true; the input reads as it did. -/
def lineChangesUptoRow : OpenClaim := { program := "ytbpifllkimkokaadoor", sum := "83c955da665b2198f43e03991e9d2b21b9cfb4672de60de4ac3677b53e258ed1", func := "wallgauge/wallgaugelaw02.LineChanges", spec := "lineChanges", inPlace := ["internal/abi.NoEscape", "slices.overlaps[wallgauge/line.Limit]", "slices.overlaps[wallgauge/line.Item]"], unfollowed := true, recurses := true, named := ["wallgauge/line.words", "internal/strconv.uint64pow10", "math/bits.deBruijn32tab", "math/bits.deBruijn64tab", "wallgauge/line.yields"], apart := false, laid := [("math/bits.deBruijn32tab", laid_math_bits_deBruijn32tab), ("math/bits.deBruijn64tab", laid_math_bits_deBruijn64tab), ("internal/strconv.uint64pow10", laid_internal_strconv_uint64pow10), ("wallgauge/line.yields", laid_wallgauge_line_yields), ("wallgauge/line.words", laid_wallgauge_line_words)], narrowed := true }
def LineChangesUptoSaid : Prop := lineChangesUptoRow.holds Tryd.pinned (OpenSpec.upto lineChangesSpec)

/-- 'wallgaugelaw02.LineCuts', WHERE WHAT IT READS IS OF BULK AT MOST 1048576: true; the input reads as it did. -/
def lineCutsUptoRow : OpenClaim := { program := "ytbpifllkimkokaadoor", sum := "83c955da665b2198f43e03991e9d2b21b9cfb4672de60de4ac3677b53e258ed1", func := "wallgauge/wallgaugelaw02.LineCuts", spec := "lineCuts", inPlace := ["internal/abi.NoEscape", "slices.overlaps[wallgauge/line.Item]"], unfollowed := true, recurses := true, named := ["wallgauge/line.words", "internal/strconv.uint64pow10", "math/bits.deBruijn32tab", "math/bits.deBruijn64tab", "wallgauge/line.yields", "wallgauge/line.factors"], apart := false, laid := [("math/bits.deBruijn32tab", laid_math_bits_deBruijn32tab), ("math/bits.deBruijn64tab", laid_math_bits_deBruijn64tab), ("internal/strconv.uint64pow10", laid_internal_strconv_uint64pow10), ("wallgauge/line.yields", laid_wallgauge_line_yields), ("wallgauge/line.factors", laid_wallgauge_line_factors), ("wallgauge/line.words", laid_wallgauge_line_words)], narrowed := true }
def LineCutsUptoSaid : Prop := lineCutsUptoRow.holds Tryd.pinned (OpenSpec.upto lineCutsSpec)

end Rows
end Go.Proofs.YtbpifllkimkokaaDoor
