/-
  No cell of these rows narrows 'for every input' (looked for: loops, veiled, ifaces, maps, wideKeys, modest, calm, conditions, laid).
  DERIVED. THE GIVEN ROWS OF THIS SEAT. 12 by the template 'for every input the law returns true; each argument reads behind the call as it read before'; 0 by the template 'total and deterministic' (their statements: YtonlamkpehakdaaTotals.lean).
  GIVEN WITH THE SEED: the statements are not yours to turn. If you find one false, say at which input.
  Laid BY PROGRAM, IN A SANDBOX (cutbox-rows.mjs): the forced cells as the released guide's own fill.sh prints them over the translation 8bff38dc1077ba7f… (all of the seat's roots in one cut). By AI agents, Wed Nov 11 2026. No macro, syntax, notation, axiom, sorry.
-/
import Derived.Test.YtonlamkpehakdaaChecked
import GoSem.Claim
import GoSem.ClaimJoined
import GoSem.ClaimMapViews
import Derived.JoinedTies
import Derived.KernelRfl
namespace Go.Proofs.Ytonlamkpehakdaa
/- THE CELL 'sum', in the pinned program and in every row, IS THE sha256 OF THE DUMP (.gsa) THAT YtonlamkpehakdaaProg.lean LOADS. Nothing in Lean hashes anything: it is a label: what it is worth is what the hold of that sum in a sandbox is worth. -/
noncomputable def Try.pinned : Pinned := { name := "ytonlamkpehakdaa", sum := "8bff38dc1077ba7f2f0b8e8342218c6c069fc4666e138e92344d0c56390a2fb8", checked := Try.checked }
namespace Rows
def none {H : Type} : Left H := { results := [], args := [] }

/-- 'wallgaugelaw04.PlaceMissing': WHATEVER THE INPUT: true; the input reads as it did. -/
def placeMissingSpec : ChangeSpec := { name := "placeMissing", fn := fun _ => fun
  | [d1, d2, d3, d4, d5] => { results := [.lit (.bool true)], args := [d1, d2, d3, d4, d5] }
  | _ => none }
def placeMissingRow : OpenClaim := { program := "ytonlamkpehakdaa", sum := "8bff38dc1077ba7f2f0b8e8342218c6c069fc4666e138e92344d0c56390a2fb8", func := "wallgauge/wallgaugelaw04.PlaceMissing", spec := "placeMissing", unfollowed := true, recurses := true, apart := false }
def PlaceMissingSaid : Prop := placeMissingRow.holds Try.pinned (OpenSpec.ofChange placeMissingSpec)

/-- ITS FALSE NEIGHBOUR: 'it returns false'. Refute it at one input. -/
def placeMissingWrong : ChangeSpec := { name := "placeMissing", fn := fun _ => fun
  | [d1, d2, d3, d4, d5] => { results := [.lit (.bool false)], args := [d1, d2, d3, d4, d5] }
  | _ => none }
def PlaceMissingWrongFalsely : Prop := placeMissingRow.holds Try.pinned (OpenSpec.ofChange placeMissingWrong)

/-- 'wallgaugelaw04.PlaceCosts': WHATEVER THE INPUT: true; the input reads as it did. -/
def placeCostsSpec : ChangeSpec := { name := "placeCosts", fn := fun _ => fun
  | [d1, d2, d3, d4] => { results := [.lit (.bool true)], args := [d1, d2, d3, d4] }
  | _ => none }
def placeCostsRow : OpenClaim := { program := "ytonlamkpehakdaa", sum := "8bff38dc1077ba7f2f0b8e8342218c6c069fc4666e138e92344d0c56390a2fb8", func := "wallgauge/wallgaugelaw04.PlaceCosts", spec := "placeCosts", unfollowed := true, recurses := true, apart := false }
def PlaceCostsSaid : Prop := placeCostsRow.holds Try.pinned (OpenSpec.ofChange placeCostsSpec)

/-- ITS FALSE NEIGHBOUR: 'it returns false'. Refute it at one input. -/
def placeCostsWrong : ChangeSpec := { name := "placeCosts", fn := fun _ => fun
  | [d1, d2, d3, d4] => { results := [.lit (.bool false)], args := [d1, d2, d3, d4] }
  | _ => none }
def PlaceCostsWrongFalsely : Prop := placeCostsRow.holds Try.pinned (OpenSpec.ofChange placeCostsWrong)

/-- 'wallgaugelaw04.PlaceVotes': WHATEVER THE INPUT: true; the input reads as it did. -/
def placeVotesSpec : ChangeSpec := { name := "placeVotes", fn := fun _ => fun
  | [d1, d2] => { results := [.lit (.bool true)], args := [d1, d2] }
  | _ => none }
def placeVotesRow : OpenClaim := { program := "ytonlamkpehakdaa", sum := "8bff38dc1077ba7f2f0b8e8342218c6c069fc4666e138e92344d0c56390a2fb8", func := "wallgauge/wallgaugelaw04.PlaceVotes", spec := "placeVotes", unfollowed := true, recurses := true, apart := false }
def PlaceVotesSaid : Prop := placeVotesRow.holds Try.pinned (OpenSpec.ofChange placeVotesSpec)

/-- ITS FALSE NEIGHBOUR: 'it returns false'. Refute it at one input. -/
def placeVotesWrong : ChangeSpec := { name := "placeVotes", fn := fun _ => fun
  | [d1, d2] => { results := [.lit (.bool false)], args := [d1, d2] }
  | _ => none }
def PlaceVotesWrongFalsely : Prop := placeVotesRow.holds Try.pinned (OpenSpec.ofChange placeVotesWrong)

/-- 'wallgaugelaw04.PlaceVoted': WHATEVER THE INPUT: true; the input reads as it did. -/
def placeVotedSpec : ChangeSpec := { name := "placeVoted", fn := fun _ => fun
  | [d1, d2, d3] => { results := [.lit (.bool true)], args := [d1, d2, d3] }
  | _ => none }
def placeVotedRow : OpenClaim := { program := "ytonlamkpehakdaa", sum := "8bff38dc1077ba7f2f0b8e8342218c6c069fc4666e138e92344d0c56390a2fb8", func := "wallgauge/wallgaugelaw04.PlaceVoted", spec := "placeVoted", unfollowed := true, recurses := true, apart := false }
def PlaceVotedSaid : Prop := placeVotedRow.holds Try.pinned (OpenSpec.ofChange placeVotedSpec)

/-- ITS FALSE NEIGHBOUR: 'it returns false'. Refute it at one input. -/
def placeVotedWrong : ChangeSpec := { name := "placeVoted", fn := fun _ => fun
  | [d1, d2, d3] => { results := [.lit (.bool false)], args := [d1, d2, d3] }
  | _ => none }
def PlaceVotedWrongFalsely : Prop := placeVotedRow.holds Try.pinned (OpenSpec.ofChange placeVotedWrong)

/-- 'wallgaugelaw04.PlaceLimits': WHATEVER THE INPUT: true; the input reads as it did. -/
def placeLimitsSpec : ChangeSpec := { name := "placeLimits", fn := fun _ => fun
  | [d1, d2] => { results := [.lit (.bool true)], args := [d1, d2] }
  | _ => none }
def placeLimitsRow : OpenClaim := { program := "ytonlamkpehakdaa", sum := "8bff38dc1077ba7f2f0b8e8342218c6c069fc4666e138e92344d0c56390a2fb8", func := "wallgauge/wallgaugelaw04.PlaceLimits", spec := "placeLimits", unfollowed := true, recurses := true, apart := false }
def PlaceLimitsSaid : Prop := placeLimitsRow.holds Try.pinned (OpenSpec.ofChange placeLimitsSpec)

/-- ITS FALSE NEIGHBOUR: 'it returns false'. Refute it at one input. -/
def placeLimitsWrong : ChangeSpec := { name := "placeLimits", fn := fun _ => fun
  | [d1, d2] => { results := [.lit (.bool false)], args := [d1, d2] }
  | _ => none }
def PlaceLimitsWrongFalsely : Prop := placeLimitsRow.holds Try.pinned (OpenSpec.ofChange placeLimitsWrong)

/-- 'wallgaugelaw04.PlaceClashes': WHATEVER THE INPUT: true; the input reads as it did. -/
def placeClashesSpec : ChangeSpec := { name := "placeClashes", fn := fun _ => fun
  | [d1, d2] => { results := [.lit (.bool true)], args := [d1, d2] }
  | _ => none }
def placeClashesRow : OpenClaim := { program := "ytonlamkpehakdaa", sum := "8bff38dc1077ba7f2f0b8e8342218c6c069fc4666e138e92344d0c56390a2fb8", func := "wallgauge/wallgaugelaw04.PlaceClashes", spec := "placeClashes", unfollowed := true, recurses := true, apart := false }
def PlaceClashesSaid : Prop := placeClashesRow.holds Try.pinned (OpenSpec.ofChange placeClashesSpec)

/-- ITS FALSE NEIGHBOUR: 'it returns false'. Refute it at one input. -/
def placeClashesWrong : ChangeSpec := { name := "placeClashes", fn := fun _ => fun
  | [d1, d2] => { results := [.lit (.bool false)], args := [d1, d2] }
  | _ => none }
def PlaceClashesWrongFalsely : Prop := placeClashesRow.holds Try.pinned (OpenSpec.ofChange placeClashesWrong)

/-- 'wallgaugelaw04.PlaceChains': WHATEVER THE INPUT: true; the input reads as it did. -/
def placeChainsSpec : ChangeSpec := { name := "placeChains", fn := fun _ => fun
  | [d1, d2, d3, d4] => { results := [.lit (.bool true)], args := [d1, d2, d3, d4] }
  | _ => none }
def placeChainsRow : OpenClaim := { program := "ytonlamkpehakdaa", sum := "8bff38dc1077ba7f2f0b8e8342218c6c069fc4666e138e92344d0c56390a2fb8", func := "wallgauge/wallgaugelaw04.PlaceChains", spec := "placeChains", unfollowed := true, recurses := true, apart := false }
def PlaceChainsSaid : Prop := placeChainsRow.holds Try.pinned (OpenSpec.ofChange placeChainsSpec)

/-- ITS FALSE NEIGHBOUR: 'it returns false'. Refute it at one input. -/
def placeChainsWrong : ChangeSpec := { name := "placeChains", fn := fun _ => fun
  | [d1, d2, d3, d4] => { results := [.lit (.bool false)], args := [d1, d2, d3, d4] }
  | _ => none }
def PlaceChainsWrongFalsely : Prop := placeChainsRow.holds Try.pinned (OpenSpec.ofChange placeChainsWrong)

/-- 'wallgaugelaw04.PlaceAligns': WHATEVER THE INPUT: true; the input reads as it did. -/
def placeAlignsSpec : ChangeSpec := { name := "placeAligns", fn := fun _ => fun
  | [d1, d2, d3] => { results := [.lit (.bool true)], args := [d1, d2, d3] }
  | _ => none }
def placeAlignsRow : OpenClaim := { program := "ytonlamkpehakdaa", sum := "8bff38dc1077ba7f2f0b8e8342218c6c069fc4666e138e92344d0c56390a2fb8", func := "wallgauge/wallgaugelaw04.PlaceAligns", spec := "placeAligns", unfollowed := true, recurses := true, apart := false }
def PlaceAlignsSaid : Prop := placeAlignsRow.holds Try.pinned (OpenSpec.ofChange placeAlignsSpec)

/-- ITS FALSE NEIGHBOUR: 'it returns false'. Refute it at one input. -/
def placeAlignsWrong : ChangeSpec := { name := "placeAligns", fn := fun _ => fun
  | [d1, d2, d3] => { results := [.lit (.bool false)], args := [d1, d2, d3] }
  | _ => none }
def PlaceAlignsWrongFalsely : Prop := placeAlignsRow.holds Try.pinned (OpenSpec.ofChange placeAlignsWrong)

/-- 'wallgaugelaw04.PlaceCheapest': WHATEVER THE INPUT: true; the input reads as it did. -/
def placeCheapestSpec : ChangeSpec := { name := "placeCheapest", fn := fun _ => fun
  | [d1, d2, d3, d4, d5] => { results := [.lit (.bool true)], args := [d1, d2, d3, d4, d5] }
  | _ => none }
def placeCheapestRow : OpenClaim := { program := "ytonlamkpehakdaa", sum := "8bff38dc1077ba7f2f0b8e8342218c6c069fc4666e138e92344d0c56390a2fb8", func := "wallgauge/wallgaugelaw04.PlaceCheapest", spec := "placeCheapest", unfollowed := true, recurses := true, apart := false }
def PlaceCheapestSaid : Prop := placeCheapestRow.holds Try.pinned (OpenSpec.ofChange placeCheapestSpec)

/-- ITS FALSE NEIGHBOUR: 'it returns false'. Refute it at one input. -/
def placeCheapestWrong : ChangeSpec := { name := "placeCheapest", fn := fun _ => fun
  | [d1, d2, d3, d4, d5] => { results := [.lit (.bool false)], args := [d1, d2, d3, d4, d5] }
  | _ => none }
def PlaceCheapestWrongFalsely : Prop := placeCheapestRow.holds Try.pinned (OpenSpec.ofChange placeCheapestWrong)

/-- 'wallgaugelaw04.PlaceHolds': WHATEVER THE INPUT: true; the input reads as it did. -/
def placeHoldsSpec : ChangeSpec := { name := "placeHolds", fn := fun _ => fun
  | [d1, d2, d3] => { results := [.lit (.bool true)], args := [d1, d2, d3] }
  | _ => none }
def placeHoldsRow : OpenClaim := { program := "ytonlamkpehakdaa", sum := "8bff38dc1077ba7f2f0b8e8342218c6c069fc4666e138e92344d0c56390a2fb8", func := "wallgauge/wallgaugelaw04.PlaceHolds", spec := "placeHolds", unfollowed := true, recurses := true, apart := false }
def PlaceHoldsSaid : Prop := placeHoldsRow.holds Try.pinned (OpenSpec.ofChange placeHoldsSpec)

/-- ITS FALSE NEIGHBOUR: 'it returns false'. Refute it at one input. -/
def placeHoldsWrong : ChangeSpec := { name := "placeHolds", fn := fun _ => fun
  | [d1, d2, d3] => { results := [.lit (.bool false)], args := [d1, d2, d3] }
  | _ => none }
def PlaceHoldsWrongFalsely : Prop := placeHoldsRow.holds Try.pinned (OpenSpec.ofChange placeHoldsWrong)

/-- 'wallgaugelaw04.PlaceTight': WHATEVER THE INPUT: true; the input reads as it did. -/
def placeTightSpec : ChangeSpec := { name := "placeTight", fn := fun _ => fun
  | [d1, d2] => { results := [.lit (.bool true)], args := [d1, d2] }
  | _ => none }
def placeTightRow : OpenClaim := { program := "ytonlamkpehakdaa", sum := "8bff38dc1077ba7f2f0b8e8342218c6c069fc4666e138e92344d0c56390a2fb8", func := "wallgauge/wallgaugelaw04.PlaceTight", spec := "placeTight", unfollowed := true, recurses := true, apart := false }
def PlaceTightSaid : Prop := placeTightRow.holds Try.pinned (OpenSpec.ofChange placeTightSpec)

/-- ITS FALSE NEIGHBOUR: 'it returns false'. Refute it at one input. -/
def placeTightWrong : ChangeSpec := { name := "placeTight", fn := fun _ => fun
  | [d1, d2] => { results := [.lit (.bool false)], args := [d1, d2] }
  | _ => none }
def PlaceTightWrongFalsely : Prop := placeTightRow.holds Try.pinned (OpenSpec.ofChange placeTightWrong)

/-- 'wallgaugelaw04.PlaceFloors': WHATEVER THE INPUT: true; the input reads as it did. -/
def placeFloorsSpec : ChangeSpec := { name := "placeFloors", fn := fun _ => fun
  | [d1, d2, d3, d4, d5, d6] => { results := [.lit (.bool true)], args := [d1, d2, d3, d4, d5, d6] }
  | _ => none }
def placeFloorsRow : OpenClaim := { program := "ytonlamkpehakdaa", sum := "8bff38dc1077ba7f2f0b8e8342218c6c069fc4666e138e92344d0c56390a2fb8", func := "wallgauge/wallgaugelaw04.PlaceFloors", spec := "placeFloors", unfollowed := true, recurses := true, apart := false }
def PlaceFloorsSaid : Prop := placeFloorsRow.holds Try.pinned (OpenSpec.ofChange placeFloorsSpec)

/-- ITS FALSE NEIGHBOUR: 'it returns false'. Refute it at one input. -/
def placeFloorsWrong : ChangeSpec := { name := "placeFloors", fn := fun _ => fun
  | [d1, d2, d3, d4, d5, d6] => { results := [.lit (.bool false)], args := [d1, d2, d3, d4, d5, d6] }
  | _ => none }
def PlaceFloorsWrongFalsely : Prop := placeFloorsRow.holds Try.pinned (OpenSpec.ofChange placeFloorsWrong)

/- THE SECOND FORM. 'bulk': how many values and letters a reading holds, each counted each time it is reached (what is shared counts as often as it is met; a slice's spare places count too). A statement '..UptoSaid' is the law's where the arguments, and the package variables that the reading takes, are together of bulk at most 1048576: NARROWER than '..Said'. Prove '..Said' where nothing that the law and all that it calls make is longer than what came in: it says more and counts as full. Else prove '..UptoSaid'. A law counts once. -/
mutual
def uptoBulk {H : Type} : DataW H → Nat
  | .lit (.string bytes) => bytes.length + 1
  | .lit _ => 1
  | .nil => 1
  | .ptr d => uptoBulk d + 1
  | .slice elems spare => uptoBulkAll elems + uptoBulkAll spare + 1
  | .agg parts => uptoBulkAll parts + 1
  | .iface _ d => uptoBulk d + 1
  | .map entries => uptoBulkEntries entries + 1
  | .held _ => 1
def uptoBulkAll {H : Type} : List (DataW H) → Nat
  | [] => 0
  | d :: r => uptoBulk d + uptoBulkAll r
def uptoBulkEntries {H : Type} : List (Lit × DataW H) → Nat
  | [] => 0
  | x :: r => uptoBulkEntry x + uptoBulkEntries r
def uptoBulkEntry {H : Type} : Lit × DataW H → Nat
  | (.string bytes, d) => bytes.length + uptoBulk d + 1
  | (_, d) => uptoBulk d + 1
 end
def uptoSmall : (H : Type) → List (DataW H) → Bool := fun _ ds => decide (uptoBulkAll ds ≤ 1048576)
def OpenSpec.upto (s : _root_.Go.ChangeSpec) : _root_.Go.OpenSpec := { _root_.Go.OpenSpec.ofChange s with cond := some uptoSmall }

/-- 'wallgaugelaw04.PlaceMissing', WHERE WHAT IT READS IS OF BULK AT MOST 1048576: true; the input reads as it did. -/
def placeMissingUptoRow : OpenClaim := { program := "ytonlamkpehakdaa", sum := "8bff38dc1077ba7f2f0b8e8342218c6c069fc4666e138e92344d0c56390a2fb8", func := "wallgauge/wallgaugelaw04.PlaceMissing", spec := "placeMissing", unfollowed := true, recurses := true, apart := false, narrowed := true }
def PlaceMissingUptoSaid : Prop := placeMissingUptoRow.holds Try.pinned (OpenSpec.upto placeMissingSpec)

/-- 'wallgaugelaw04.PlaceCosts', WHERE WHAT IT READS IS OF BULK AT MOST 1048576: true; the input reads as it did. -/
def placeCostsUptoRow : OpenClaim := { program := "ytonlamkpehakdaa", sum := "8bff38dc1077ba7f2f0b8e8342218c6c069fc4666e138e92344d0c56390a2fb8", func := "wallgauge/wallgaugelaw04.PlaceCosts", spec := "placeCosts", unfollowed := true, recurses := true, apart := false, narrowed := true }
def PlaceCostsUptoSaid : Prop := placeCostsUptoRow.holds Try.pinned (OpenSpec.upto placeCostsSpec)

/-- 'wallgaugelaw04.PlaceVotes', WHERE WHAT IT READS IS OF BULK AT MOST 1048576: true; the input reads as it did. -/
def placeVotesUptoRow : OpenClaim := { program := "ytonlamkpehakdaa", sum := "8bff38dc1077ba7f2f0b8e8342218c6c069fc4666e138e92344d0c56390a2fb8", func := "wallgauge/wallgaugelaw04.PlaceVotes", spec := "placeVotes", unfollowed := true, recurses := true, apart := false, narrowed := true }
def PlaceVotesUptoSaid : Prop := placeVotesUptoRow.holds Try.pinned (OpenSpec.upto placeVotesSpec)

/-- 'wallgaugelaw04.PlaceVoted', WHERE WHAT IT READS IS OF BULK AT MOST 1048576: true; the input reads as it did. -/
def placeVotedUptoRow : OpenClaim := { program := "ytonlamkpehakdaa", sum := "8bff38dc1077ba7f2f0b8e8342218c6c069fc4666e138e92344d0c56390a2fb8", func := "wallgauge/wallgaugelaw04.PlaceVoted", spec := "placeVoted", unfollowed := true, recurses := true, apart := false, narrowed := true }
def PlaceVotedUptoSaid : Prop := placeVotedUptoRow.holds Try.pinned (OpenSpec.upto placeVotedSpec)

/-- 'wallgaugelaw04.PlaceLimits', WHERE WHAT IT READS IS OF BULK AT MOST 1048576: true; the input reads as it did. -/
def placeLimitsUptoRow : OpenClaim := { program := "ytonlamkpehakdaa", sum := "8bff38dc1077ba7f2f0b8e8342218c6c069fc4666e138e92344d0c56390a2fb8", func := "wallgauge/wallgaugelaw04.PlaceLimits", spec := "placeLimits", unfollowed := true, recurses := true, apart := false, narrowed := true }
def PlaceLimitsUptoSaid : Prop := placeLimitsUptoRow.holds Try.pinned (OpenSpec.upto placeLimitsSpec)

/-- 'wallgaugelaw04.PlaceClashes', WHERE WHAT IT READS IS OF BULK AT MOST 1048576: true; the input reads as it did. -/
def placeClashesUptoRow : OpenClaim := { program := "ytonlamkpehakdaa", sum := "8bff38dc1077ba7f2f0b8e8342218c6c069fc4666e138e92344d0c56390a2fb8", func := "wallgauge/wallgaugelaw04.PlaceClashes", spec := "placeClashes", unfollowed := true, recurses := true, apart := false, narrowed := true }
def PlaceClashesUptoSaid : Prop := placeClashesUptoRow.holds Try.pinned (OpenSpec.upto placeClashesSpec)

/-- 'wallgaugelaw04.PlaceChains', WHERE WHAT IT READS IS OF BULK AT MOST 1048576: true; the input reads as it did. -/
def placeChainsUptoRow : OpenClaim := { program := "ytonlamkpehakdaa", sum := "8bff38dc1077ba7f2f0b8e8342218c6c069fc4666e138e92344d0c56390a2fb8", func := "wallgauge/wallgaugelaw04.PlaceChains", spec := "placeChains", unfollowed := true, recurses := true, apart := false, narrowed := true }
def PlaceChainsUptoSaid : Prop := placeChainsUptoRow.holds Try.pinned (OpenSpec.upto placeChainsSpec)

/-- 'wallgaugelaw04.PlaceAligns', WHERE WHAT IT READS IS OF BULK AT MOST 1048576: true; the input reads as it did. -/
def placeAlignsUptoRow : OpenClaim := { program := "ytonlamkpehakdaa", sum := "8bff38dc1077ba7f2f0b8e8342218c6c069fc4666e138e92344d0c56390a2fb8", func := "wallgauge/wallgaugelaw04.PlaceAligns", spec := "placeAligns", unfollowed := true, recurses := true, apart := false, narrowed := true }
def PlaceAlignsUptoSaid : Prop := placeAlignsUptoRow.holds Try.pinned (OpenSpec.upto placeAlignsSpec)

/-- 'wallgaugelaw04.PlaceCheapest', WHERE WHAT IT READS IS OF BULK AT MOST 1048576: true; the input reads as it did. -/
def placeCheapestUptoRow : OpenClaim := { program := "ytonlamkpehakdaa", sum := "8bff38dc1077ba7f2f0b8e8342218c6c069fc4666e138e92344d0c56390a2fb8", func := "wallgauge/wallgaugelaw04.PlaceCheapest", spec := "placeCheapest", unfollowed := true, recurses := true, apart := false, narrowed := true }
def PlaceCheapestUptoSaid : Prop := placeCheapestUptoRow.holds Try.pinned (OpenSpec.upto placeCheapestSpec)

/-- 'wallgaugelaw04.PlaceHolds', WHERE WHAT IT READS IS OF BULK AT MOST 1048576: true; the input reads as it did. -/
def placeHoldsUptoRow : OpenClaim := { program := "ytonlamkpehakdaa", sum := "8bff38dc1077ba7f2f0b8e8342218c6c069fc4666e138e92344d0c56390a2fb8", func := "wallgauge/wallgaugelaw04.PlaceHolds", spec := "placeHolds", unfollowed := true, recurses := true, apart := false, narrowed := true }
def PlaceHoldsUptoSaid : Prop := placeHoldsUptoRow.holds Try.pinned (OpenSpec.upto placeHoldsSpec)

/-- 'wallgaugelaw04.PlaceTight', WHERE WHAT IT READS IS OF BULK AT MOST 1048576: true; the input reads as it did. -/
def placeTightUptoRow : OpenClaim := { program := "ytonlamkpehakdaa", sum := "8bff38dc1077ba7f2f0b8e8342218c6c069fc4666e138e92344d0c56390a2fb8", func := "wallgauge/wallgaugelaw04.PlaceTight", spec := "placeTight", unfollowed := true, recurses := true, apart := false, narrowed := true }
def PlaceTightUptoSaid : Prop := placeTightUptoRow.holds Try.pinned (OpenSpec.upto placeTightSpec)

/-- 'wallgaugelaw04.PlaceFloors', WHERE WHAT IT READS IS OF BULK AT MOST 1048576: true; the input reads as it did. -/
def placeFloorsUptoRow : OpenClaim := { program := "ytonlamkpehakdaa", sum := "8bff38dc1077ba7f2f0b8e8342218c6c069fc4666e138e92344d0c56390a2fb8", func := "wallgauge/wallgaugelaw04.PlaceFloors", spec := "placeFloors", unfollowed := true, recurses := true, apart := false, narrowed := true }
def PlaceFloorsUptoSaid : Prop := placeFloorsUptoRow.holds Try.pinned (OpenSpec.upto placeFloorsSpec)

end Rows
end Go.Proofs.Ytonlamkpehakdaa
