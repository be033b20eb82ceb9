/-
  No cell of these rows narrows 'for every input' (looked for: loops, veiled, ifaces, maps, wideKeys, modest, calm, conditions, laid).
  DERIVED. THE GIVEN ROWS OF THIS SEAT. 12 by the template 'for every input the law returns true; each argument reads behind the call as it read before'; 0 by the template 'total and deterministic' (their statements: YtmfdgnjhlhkbbaaTotals.lean).
  GIVEN WITH THE SEED: the statements are not yours to turn. If you find one false, say at which input.
  Laid BY PROGRAM, IN A SANDBOX (cutbox-rows.mjs): the forced cells as the released guide's own fill.sh prints them over the translation 7bf5f1611db49223… (all of the seat's roots in one cut). By AI agents, Wed Nov 11 2026. No macro, syntax, notation, axiom, sorry.
-/
import Derived.Test.YtmfdgnjhlhkbbaaChecked
import GoSem.Claim
import GoSem.ClaimJoined
import GoSem.ClaimMapViews
import Derived.JoinedTies
import Derived.KernelRfl
namespace Go.Proofs.Ytmfdgnjhlhkbbaa
/- THE CELL 'sum', in the pinned program and in every row, IS THE sha256 OF THE DUMP (.gsa) THAT YtmfdgnjhlhkbbaaProg.lean LOADS. Nothing in Lean hashes anything: it is a label: what it is worth is what the hold of that sum in a sandbox is worth. -/
noncomputable def Try.pinned : Pinned := { name := "ytmfdgnjhlhkbbaa", sum := "7bf5f1611db492230f8bd3dd14e42d2b902a3b04e80757e82420cc10518923b7", checked := Try.checked }
namespace Rows
def none {H : Type} : Left H := { results := [], args := [] }

/-- 'wallgaugelaw04.PlaceRolled': WHATEVER THE INPUT: true; the input reads as it did. -/
def placeRolledSpec : ChangeSpec := { name := "placeRolled", fn := fun _ => fun
  | [d1, d2, d3, d4, d5, d6] => { results := [.lit (.bool true)], args := [d1, d2, d3, d4, d5, d6] }
  | _ => none }
def placeRolledRow : OpenClaim := { program := "ytmfdgnjhlhkbbaa", sum := "7bf5f1611db492230f8bd3dd14e42d2b902a3b04e80757e82420cc10518923b7", func := "wallgauge/wallgaugelaw04.PlaceRolled", spec := "placeRolled", unfollowed := true, recurses := true, apart := false }
def PlaceRolledSaid : Prop := placeRolledRow.holds Try.pinned (OpenSpec.ofChange placeRolledSpec)

/-- ITS FALSE NEIGHBOUR: 'it returns false'. Refute it at one input. -/
def placeRolledWrong : ChangeSpec := { name := "placeRolled", fn := fun _ => fun
  | [d1, d2, d3, d4, d5, d6] => { results := [.lit (.bool false)], args := [d1, d2, d3, d4, d5, d6] }
  | _ => none }
def PlaceRolledWrongFalsely : Prop := placeRolledRow.holds Try.pinned (OpenSpec.ofChange placeRolledWrong)

/-- 'wallgaugelaw04.PlaceSources': WHATEVER THE INPUT: true; the input reads as it did. -/
def placeSourcesSpec : ChangeSpec := { name := "placeSources", fn := fun _ => fun
  | [d1, d2, d3, d4] => { results := [.lit (.bool true)], args := [d1, d2, d3, d4] }
  | _ => none }
def placeSourcesRow : OpenClaim := { program := "ytmfdgnjhlhkbbaa", sum := "7bf5f1611db492230f8bd3dd14e42d2b902a3b04e80757e82420cc10518923b7", func := "wallgauge/wallgaugelaw04.PlaceSources", spec := "placeSources", unfollowed := true, recurses := true, apart := false }
def PlaceSourcesSaid : Prop := placeSourcesRow.holds Try.pinned (OpenSpec.ofChange placeSourcesSpec)

/-- ITS FALSE NEIGHBOUR: 'it returns false'. Refute it at one input. -/
def placeSourcesWrong : ChangeSpec := { name := "placeSources", fn := fun _ => fun
  | [d1, d2, d3, d4] => { results := [.lit (.bool false)], args := [d1, d2, d3, d4] }
  | _ => none }
def PlaceSourcesWrongFalsely : Prop := placeSourcesRow.holds Try.pinned (OpenSpec.ofChange placeSourcesWrong)

/-- 'wallgaugelaw04.PlaceWheels': WHATEVER THE INPUT: true; the input reads as it did. -/
def placeWheelsSpec : ChangeSpec := { name := "placeWheels", fn := fun _ => fun
  | [d1, d2, d3, d4, d5] => { results := [.lit (.bool true)], args := [d1, d2, d3, d4, d5] }
  | _ => none }
def placeWheelsRow : OpenClaim := { program := "ytmfdgnjhlhkbbaa", sum := "7bf5f1611db492230f8bd3dd14e42d2b902a3b04e80757e82420cc10518923b7", func := "wallgauge/wallgaugelaw04.PlaceWheels", spec := "placeWheels", unfollowed := true, recurses := true, apart := false }
def PlaceWheelsSaid : Prop := placeWheelsRow.holds Try.pinned (OpenSpec.ofChange placeWheelsSpec)

/-- ITS FALSE NEIGHBOUR: 'it returns false'. Refute it at one input. -/
def placeWheelsWrong : ChangeSpec := { name := "placeWheels", fn := fun _ => fun
  | [d1, d2, d3, d4, d5] => { results := [.lit (.bool false)], args := [d1, d2, d3, d4, d5] }
  | _ => none }
def PlaceWheelsWrongFalsely : Prop := placeWheelsRow.holds Try.pinned (OpenSpec.ofChange placeWheelsWrong)

/-- 'wallgaugelaw04.PlaceHolds': WHATEVER THE INPUT: true; the input reads as it did. -/
def placeHoldsSpec : ChangeSpec := { name := "placeHolds", fn := fun _ => fun
  | [d1, d2, d3] => { results := [.lit (.bool true)], args := [d1, d2, d3] }
  | _ => none }
def placeHoldsRow : OpenClaim := { program := "ytmfdgnjhlhkbbaa", sum := "7bf5f1611db492230f8bd3dd14e42d2b902a3b04e80757e82420cc10518923b7", func := "wallgauge/wallgaugelaw04.PlaceHolds", spec := "placeHolds", unfollowed := true, recurses := true, apart := false }
def PlaceHoldsSaid : Prop := placeHoldsRow.holds Try.pinned (OpenSpec.ofChange placeHoldsSpec)

/-- ITS FALSE NEIGHBOUR: 'it returns false'. Refute it at one input. -/
def placeHoldsWrong : ChangeSpec := { name := "placeHolds", fn := fun _ => fun
  | [d1, d2, d3] => { results := [.lit (.bool false)], args := [d1, d2, d3] }
  | _ => none }
def PlaceHoldsWrongFalsely : Prop := placeHoldsRow.holds Try.pinned (OpenSpec.ofChange placeHoldsWrong)

/-- 'wallgaugelaw04.PlaceTight': WHATEVER THE INPUT: true; the input reads as it did. -/
def placeTightSpec : ChangeSpec := { name := "placeTight", fn := fun _ => fun
  | [d1, d2] => { results := [.lit (.bool true)], args := [d1, d2] }
  | _ => none }
def placeTightRow : OpenClaim := { program := "ytmfdgnjhlhkbbaa", sum := "7bf5f1611db492230f8bd3dd14e42d2b902a3b04e80757e82420cc10518923b7", func := "wallgauge/wallgaugelaw04.PlaceTight", spec := "placeTight", unfollowed := true, recurses := true, apart := false }
def PlaceTightSaid : Prop := placeTightRow.holds Try.pinned (OpenSpec.ofChange placeTightSpec)

/-- ITS FALSE NEIGHBOUR: 'it returns false'. Refute it at one input. -/
def placeTightWrong : ChangeSpec := { name := "placeTight", fn := fun _ => fun
  | [d1, d2] => { results := [.lit (.bool false)], args := [d1, d2] }
  | _ => none }
def PlaceTightWrongFalsely : Prop := placeTightRow.holds Try.pinned (OpenSpec.ofChange placeTightWrong)

/-- 'wallgaugelaw04.PlaceLimits': WHATEVER THE INPUT: true; the input reads as it did. -/
def placeLimitsSpec : ChangeSpec := { name := "placeLimits", fn := fun _ => fun
  | [d1, d2] => { results := [.lit (.bool true)], args := [d1, d2] }
  | _ => none }
def placeLimitsRow : OpenClaim := { program := "ytmfdgnjhlhkbbaa", sum := "7bf5f1611db492230f8bd3dd14e42d2b902a3b04e80757e82420cc10518923b7", func := "wallgauge/wallgaugelaw04.PlaceLimits", spec := "placeLimits", unfollowed := true, recurses := true, apart := false }
def PlaceLimitsSaid : Prop := placeLimitsRow.holds Try.pinned (OpenSpec.ofChange placeLimitsSpec)

/-- ITS FALSE NEIGHBOUR: 'it returns false'. Refute it at one input. -/
def placeLimitsWrong : ChangeSpec := { name := "placeLimits", fn := fun _ => fun
  | [d1, d2] => { results := [.lit (.bool false)], args := [d1, d2] }
  | _ => none }
def PlaceLimitsWrongFalsely : Prop := placeLimitsRow.holds Try.pinned (OpenSpec.ofChange placeLimitsWrong)

/-- 'wallgaugelaw04.PlaceChecks': WHATEVER THE INPUT: true; the input reads as it did. -/
def placeChecksSpec : ChangeSpec := { name := "placeChecks", fn := fun _ => fun
  | [d1, d2, d3, d4] => { results := [.lit (.bool true)], args := [d1, d2, d3, d4] }
  | _ => none }
def placeChecksRow : OpenClaim := { program := "ytmfdgnjhlhkbbaa", sum := "7bf5f1611db492230f8bd3dd14e42d2b902a3b04e80757e82420cc10518923b7", func := "wallgauge/wallgaugelaw04.PlaceChecks", spec := "placeChecks", unfollowed := true, recurses := true, apart := false }
def PlaceChecksSaid : Prop := placeChecksRow.holds Try.pinned (OpenSpec.ofChange placeChecksSpec)

/-- ITS FALSE NEIGHBOUR: 'it returns false'. Refute it at one input. -/
def placeChecksWrong : ChangeSpec := { name := "placeChecks", fn := fun _ => fun
  | [d1, d2, d3, d4] => { results := [.lit (.bool false)], args := [d1, d2, d3, d4] }
  | _ => none }
def PlaceChecksWrongFalsely : Prop := placeChecksRow.holds Try.pinned (OpenSpec.ofChange placeChecksWrong)

/-- 'wallgaugelaw04.PlaceClashes': WHATEVER THE INPUT: true; the input reads as it did. -/
def placeClashesSpec : ChangeSpec := { name := "placeClashes", fn := fun _ => fun
  | [d1, d2] => { results := [.lit (.bool true)], args := [d1, d2] }
  | _ => none }
def placeClashesRow : OpenClaim := { program := "ytmfdgnjhlhkbbaa", sum := "7bf5f1611db492230f8bd3dd14e42d2b902a3b04e80757e82420cc10518923b7", func := "wallgauge/wallgaugelaw04.PlaceClashes", spec := "placeClashes", unfollowed := true, recurses := true, apart := false }
def PlaceClashesSaid : Prop := placeClashesRow.holds Try.pinned (OpenSpec.ofChange placeClashesSpec)

/-- ITS FALSE NEIGHBOUR: 'it returns false'. Refute it at one input. -/
def placeClashesWrong : ChangeSpec := { name := "placeClashes", fn := fun _ => fun
  | [d1, d2] => { results := [.lit (.bool false)], args := [d1, d2] }
  | _ => none }
def PlaceClashesWrongFalsely : Prop := placeClashesRow.holds Try.pinned (OpenSpec.ofChange placeClashesWrong)

/-- 'wallgaugelaw04.PlaceChains': WHATEVER THE INPUT: true; the input reads as it did. -/
def placeChainsSpec : ChangeSpec := { name := "placeChains", fn := fun _ => fun
  | [d1, d2, d3, d4] => { results := [.lit (.bool true)], args := [d1, d2, d3, d4] }
  | _ => none }
def placeChainsRow : OpenClaim := { program := "ytmfdgnjhlhkbbaa", sum := "7bf5f1611db492230f8bd3dd14e42d2b902a3b04e80757e82420cc10518923b7", func := "wallgauge/wallgaugelaw04.PlaceChains", spec := "placeChains", unfollowed := true, recurses := true, apart := false }
def PlaceChainsSaid : Prop := placeChainsRow.holds Try.pinned (OpenSpec.ofChange placeChainsSpec)

/-- ITS FALSE NEIGHBOUR: 'it returns false'. Refute it at one input. -/
def placeChainsWrong : ChangeSpec := { name := "placeChains", fn := fun _ => fun
  | [d1, d2, d3, d4] => { results := [.lit (.bool false)], args := [d1, d2, d3, d4] }
  | _ => none }
def PlaceChainsWrongFalsely : Prop := placeChainsRow.holds Try.pinned (OpenSpec.ofChange placeChainsWrong)

/-- 'wallgaugelaw04.PlaceMissing': WHATEVER THE INPUT: true; the input reads as it did. -/
def placeMissingSpec : ChangeSpec := { name := "placeMissing", fn := fun _ => fun
  | [d1, d2, d3, d4, d5] => { results := [.lit (.bool true)], args := [d1, d2, d3, d4, d5] }
  | _ => none }
def placeMissingRow : OpenClaim := { program := "ytmfdgnjhlhkbbaa", sum := "7bf5f1611db492230f8bd3dd14e42d2b902a3b04e80757e82420cc10518923b7", func := "wallgauge/wallgaugelaw04.PlaceMissing", spec := "placeMissing", unfollowed := true, recurses := true, apart := false }
def PlaceMissingSaid : Prop := placeMissingRow.holds Try.pinned (OpenSpec.ofChange placeMissingSpec)

/-- ITS FALSE NEIGHBOUR: 'it returns false'. Refute it at one input. -/
def placeMissingWrong : ChangeSpec := { name := "placeMissing", fn := fun _ => fun
  | [d1, d2, d3, d4, d5] => { results := [.lit (.bool false)], args := [d1, d2, d3, d4, d5] }
  | _ => none }
def PlaceMissingWrongFalsely : Prop := placeMissingRow.holds Try.pinned (OpenSpec.ofChange placeMissingWrong)

/-- 'wallgaugelaw04.PlaceAligns': WHATEVER THE INPUT: true; the input reads as it did. -/
def placeAlignsSpec : ChangeSpec := { name := "placeAligns", fn := fun _ => fun
  | [d1, d2, d3] => { results := [.lit (.bool true)], args := [d1, d2, d3] }
  | _ => none }
def placeAlignsRow : OpenClaim := { program := "ytmfdgnjhlhkbbaa", sum := "7bf5f1611db492230f8bd3dd14e42d2b902a3b04e80757e82420cc10518923b7", func := "wallgauge/wallgaugelaw04.PlaceAligns", spec := "placeAligns", unfollowed := true, recurses := true, apart := false }
def PlaceAlignsSaid : Prop := placeAlignsRow.holds Try.pinned (OpenSpec.ofChange placeAlignsSpec)

/-- ITS FALSE NEIGHBOUR: 'it returns false'. Refute it at one input. -/
def placeAlignsWrong : ChangeSpec := { name := "placeAligns", fn := fun _ => fun
  | [d1, d2, d3] => { results := [.lit (.bool false)], args := [d1, d2, d3] }
  | _ => none }
def PlaceAlignsWrongFalsely : Prop := placeAlignsRow.holds Try.pinned (OpenSpec.ofChange placeAlignsWrong)

/-- 'wallgaugelaw04.PlaceCheapest': WHATEVER THE INPUT: true; the input reads as it did. -/
def placeCheapestSpec : ChangeSpec := { name := "placeCheapest", fn := fun _ => fun
  | [d1, d2, d3, d4, d5] => { results := [.lit (.bool true)], args := [d1, d2, d3, d4, d5] }
  | _ => none }
def placeCheapestRow : OpenClaim := { program := "ytmfdgnjhlhkbbaa", sum := "7bf5f1611db492230f8bd3dd14e42d2b902a3b04e80757e82420cc10518923b7", func := "wallgauge/wallgaugelaw04.PlaceCheapest", spec := "placeCheapest", unfollowed := true, recurses := true, apart := false }
def PlaceCheapestSaid : Prop := placeCheapestRow.holds Try.pinned (OpenSpec.ofChange placeCheapestSpec)

/-- ITS FALSE NEIGHBOUR: 'it returns false'. Refute it at one input. -/
def placeCheapestWrong : ChangeSpec := { name := "placeCheapest", fn := fun _ => fun
  | [d1, d2, d3, d4, d5] => { results := [.lit (.bool false)], args := [d1, d2, d3, d4, d5] }
  | _ => none }
def PlaceCheapestWrongFalsely : Prop := placeCheapestRow.holds Try.pinned (OpenSpec.ofChange placeCheapestWrong)

/- THE SECOND FORM. 'bulk': how many values and letters a reading holds, each counted each time it is reached (what is shared counts as often as it is met; a slice's spare places count too). A statement '..UptoSaid' is the law's where the arguments, and the package variables that the reading takes, are together of bulk at most 1048576: NARROWER than '..Said'. Prove '..Said' where nothing that the law and all that it calls make is longer than what came in: it says more and counts as full. Else prove '..UptoSaid'. A law counts once. -/
mutual
def uptoBulk {H : Type} : DataW H → Nat
  | .lit (.string bytes) => bytes.length + 1
  | .lit _ => 1
  | .nil => 1
  | .ptr d => uptoBulk d + 1
  | .slice elems spare => uptoBulkAll elems + uptoBulkAll spare + 1
  | .agg parts => uptoBulkAll parts + 1
  | .iface _ d => uptoBulk d + 1
  | .map entries => uptoBulkEntries entries + 1
  | .held _ => 1
def uptoBulkAll {H : Type} : List (DataW H) → Nat
  | [] => 0
  | d :: r => uptoBulk d + uptoBulkAll r
def uptoBulkEntries {H : Type} : List (Lit × DataW H) → Nat
  | [] => 0
  | x :: r => uptoBulkEntry x + uptoBulkEntries r
def uptoBulkEntry {H : Type} : Lit × DataW H → Nat
  | (.string bytes, d) => bytes.length + uptoBulk d + 1
  | (_, d) => uptoBulk d + 1
 end
def uptoSmall : (H : Type) → List (DataW H) → Bool := fun _ ds => decide (uptoBulkAll ds ≤ 1048576)
def OpenSpec.upto (s : _root_.Go.ChangeSpec) : _root_.Go.OpenSpec := { _root_.Go.OpenSpec.ofChange s with cond := some uptoSmall }

/-- 'wallgaugelaw04.PlaceRolled', WHERE WHAT IT READS IS OF BULK AT MOST 1048576: true; the input reads as it did. -/
def placeRolledUptoRow : OpenClaim := { program := "ytmfdgnjhlhkbbaa", sum := "7bf5f1611db492230f8bd3dd14e42d2b902a3b04e80757e82420cc10518923b7", func := "wallgauge/wallgaugelaw04.PlaceRolled", spec := "placeRolled", unfollowed := true, recurses := true, apart := false, narrowed := true }
def PlaceRolledUptoSaid : Prop := placeRolledUptoRow.holds Try.pinned (OpenSpec.upto placeRolledSpec)

/-- 'wallgaugelaw04.PlaceSources', WHERE WHAT IT READS IS OF BULK AT MOST 1048576: true; the input reads as it did. -/
def placeSourcesUptoRow : OpenClaim := { program := "ytmfdgnjhlhkbbaa", sum := "7bf5f1611db492230f8bd3dd14e42d2b902a3b04e80757e82420cc10518923b7", func := "wallgauge/wallgaugelaw04.PlaceSources", spec := "placeSources", unfollowed := true, recurses := true, apart := false, narrowed := true }
def PlaceSourcesUptoSaid : Prop := placeSourcesUptoRow.holds Try.pinned (OpenSpec.upto placeSourcesSpec)

/-- 'wallgaugelaw04.PlaceWheels', WHERE WHAT IT READS IS OF BULK AT MOST 1048576: true; the input reads as it did. -/
def placeWheelsUptoRow : OpenClaim := { program := "ytmfdgnjhlhkbbaa", sum := "7bf5f1611db492230f8bd3dd14e42d2b902a3b04e80757e82420cc10518923b7", func := "wallgauge/wallgaugelaw04.PlaceWheels", spec := "placeWheels", unfollowed := true, recurses := true, apart := false, narrowed := true }
def PlaceWheelsUptoSaid : Prop := placeWheelsUptoRow.holds Try.pinned (OpenSpec.upto placeWheelsSpec)

/-- 'wallgaugelaw04.PlaceHolds', WHERE WHAT IT READS IS OF BULK AT MOST 1048576: true; the input reads as it did. -/
def placeHoldsUptoRow : OpenClaim := { program := "ytmfdgnjhlhkbbaa", sum := "7bf5f1611db492230f8bd3dd14e42d2b902a3b04e80757e82420cc10518923b7", func := "wallgauge/wallgaugelaw04.PlaceHolds", spec := "placeHolds", unfollowed := true, recurses := true, apart := false, narrowed := true }
def PlaceHoldsUptoSaid : Prop := placeHoldsUptoRow.holds Try.pinned (OpenSpec.upto placeHoldsSpec)

/-- 'wallgaugelaw04.PlaceTight', WHERE WHAT IT READS IS OF BULK AT MOST 1048576: true; the input reads as it did. -/
def placeTightUptoRow : OpenClaim := { program := "ytmfdgnjhlhkbbaa", sum := "7bf5f1611db492230f8bd3dd14e42d2b902a3b04e80757e82420cc10518923b7", func := "wallgauge/wallgaugelaw04.PlaceTight", spec := "placeTight", unfollowed := true, recurses := true, apart := false, narrowed := true }
def PlaceTightUptoSaid : Prop := placeTightUptoRow.holds Try.pinned (OpenSpec.upto placeTightSpec)

/-- 'wallgaugelaw04.PlaceLimits', WHERE WHAT IT READS IS OF BULK AT MOST 1048576: true; the input reads as it did. -/
def placeLimitsUptoRow : OpenClaim := { program := "ytmfdgnjhlhkbbaa", sum := "7bf5f1611db492230f8bd3dd14e42d2b902a3b04e80757e82420cc10518923b7", func := "wallgauge/wallgaugelaw04.PlaceLimits", spec := "placeLimits", unfollowed := true, recurses := true, apart := false, narrowed := true }
def PlaceLimitsUptoSaid : Prop := placeLimitsUptoRow.holds Try.pinned (OpenSpec.upto placeLimitsSpec)

/-- 'wallgaugelaw04.PlaceChecks', WHERE WHAT IT READS IS OF BULK AT MOST 1048576: true; the input reads as it did. -/
def placeChecksUptoRow : OpenClaim := { program := "ytmfdgnjhlhkbbaa", sum := "7bf5f1611db492230f8bd3dd14e42d2b902a3b04e80757e82420cc10518923b7", func := "wallgauge/wallgaugelaw04.PlaceChecks", spec := "placeChecks", unfollowed := true, recurses := true, apart := false, narrowed := true }
def PlaceChecksUptoSaid : Prop := placeChecksUptoRow.holds Try.pinned (OpenSpec.upto placeChecksSpec)

/-- 'wallgaugelaw04.PlaceClashes', WHERE WHAT IT READS IS OF BULK AT MOST 1048576: true; the input reads as it did. -/
def placeClashesUptoRow : OpenClaim := { program := "ytmfdgnjhlhkbbaa", sum := "7bf5f1611db492230f8bd3dd14e42d2b902a3b04e80757e82420cc10518923b7", func := "wallgauge/wallgaugelaw04.PlaceClashes", spec := "placeClashes", unfollowed := true, recurses := true, apart := false, narrowed := true }
def PlaceClashesUptoSaid : Prop := placeClashesUptoRow.holds Try.pinned (OpenSpec.upto placeClashesSpec)

/-- 'wallgaugelaw04.PlaceChains', WHERE WHAT IT READS IS OF BULK AT MOST 1048576: true; the input reads as it did. -/
def placeChainsUptoRow : OpenClaim := { program := "ytmfdgnjhlhkbbaa", sum := "7bf5f1611db492230f8bd3dd14e42d2b902a3b04e80757e82420cc10518923b7", func := "wallgauge/wallgaugelaw04.PlaceChains", spec := "placeChains", unfollowed := true, recurses := true, apart := false, narrowed := true }
def PlaceChainsUptoSaid : Prop := placeChainsUptoRow.holds Try.pinned (OpenSpec.upto placeChainsSpec)

/-- 'wallgaugelaw04.PlaceMissing', WHERE WHAT IT READS IS OF BULK AT MOST 1048576: true; the input reads as it did. -/
def placeMissingUptoRow : OpenClaim := { program := "ytmfdgnjhlhkbbaa", sum := "7bf5f1611db492230f8bd3dd14e42d2b902a3b04e80757e82420cc10518923b7", func := "wallgauge/wallgaugelaw04.PlaceMissing", spec := "placeMissing", unfollowed := true, recurses := true, apart := false, narrowed := true }
def PlaceMissingUptoSaid : Prop := placeMissingUptoRow.holds Try.pinned (OpenSpec.upto placeMissingSpec)

/-- 'wallgaugelaw04.PlaceAligns', WHERE WHAT IT READS IS OF BULK AT MOST 1048576: true; the input reads as it did. -/
def placeAlignsUptoRow : OpenClaim := { program := "ytmfdgnjhlhkbbaa", sum := "7bf5f1611db492230f8bd3dd14e42d2b902a3b04e80757e82420cc10518923b7", func := "wallgauge/wallgaugelaw04.PlaceAligns", spec := "placeAligns", unfollowed := true, recurses := true, apart := false, narrowed := true }
def PlaceAlignsUptoSaid : Prop := placeAlignsUptoRow.holds Try.pinned (OpenSpec.upto placeAlignsSpec)

/-- 'wallgaugelaw04.PlaceCheapest', WHERE WHAT IT READS IS OF BULK AT MOST 1048576: true; the input reads as it did. -/
def placeCheapestUptoRow : OpenClaim := { program := "ytmfdgnjhlhkbbaa", sum := "7bf5f1611db492230f8bd3dd14e42d2b902a3b04e80757e82420cc10518923b7", func := "wallgauge/wallgaugelaw04.PlaceCheapest", spec := "placeCheapest", unfollowed := true, recurses := true, apart := false, narrowed := true }
def PlaceCheapestUptoSaid : Prop := placeCheapestUptoRow.holds Try.pinned (OpenSpec.upto placeCheapestSpec)

end Rows
end Go.Proofs.Ytmfdgnjhlhkbbaa
