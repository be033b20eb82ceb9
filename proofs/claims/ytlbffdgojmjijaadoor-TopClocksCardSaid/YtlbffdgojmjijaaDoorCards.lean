/-
  DERIVED. GIVEN WITH THE SEED: THE CARDS: each row of YtlbffdgojmjijaaDoorRows.lean that lists a variable, with what it lists TIED to the program's text (the seventh form; the later family's looks); each row that meets fmt, with fmt's text TOLD by the authors' own Lean function (tested against real Go, not proved from fmt's source: count such statements apart). THE CARD IS WHAT COUNTS. Prove the row's statement (the work); the ties are given (YtlbffdgojmjijaaDoorTie.lean); close each card by the builder's one call (the guide's Derived/Test/ToyasCard.lean, 'card_holds'). Laid BY PROGRAM, IN A SANDBOX (cutbox-door.mjs). By AI agents, Wed Nov 11 2026. No macro, syntax, notation, axiom, sorry.
-/
import Derived.Test.YtlbffdgojmjijaaDoorRows
import GoSem.ClaimSeven
namespace Go.Proofs.YtlbffdgojmjijaaDoor
namespace Rows

/-- THE TIED CARD OF 'wallgaugelaw07.DentCloses'. -/
def dentClosesCard : Claim7 := { stood := { row := dentClosesRow, standIns := [], harness := (true, "841c5ceede8e15cf1b7f31c59fab96758a15e419bc47c3ab51d9bf987b801407"), looks := false }, kinds := [], alts := [], laidByText := true, laidKinds := [.data, .data, .data], laidTests := true, laidLooks := .later }
def DentClosesCardSaid : Prop := Claim7.holds Tryd.pinned (.plain (OpenSpec.ofChange dentClosesSpec)) dentClosesCard

/-- THE TIED CARD OF 'wallgaugelaw07.DentDrifts'. -/
def dentDriftsCard : Claim7 := { stood := { row := dentDriftsRow, standIns := [], harness := (true, "841c5ceede8e15cf1b7f31c59fab96758a15e419bc47c3ab51d9bf987b801407"), looks := false }, kinds := [], alts := [], laidByText := true, laidKinds := [.data, .data, .data], laidTests := true, laidLooks := .later }
def DentDriftsCardSaid : Prop := Claim7.holds Tryd.pinned (.plain (OpenSpec.ofChange dentDriftsSpec)) dentDriftsCard

/-- THE TIED CARD OF 'wallgaugetop.TopClocks'. -/
def topClocksCard : Claim7 := { stood := { row := topClocksRow, standIns := [], harness := (true, "841c5ceede8e15cf1b7f31c59fab96758a15e419bc47c3ab51d9bf987b801407"), looks := false }, kinds := [], alts := [], laidByText := true, laidKinds := [.data, .data, .data], laidTests := true, laidLooks := .later }
def TopClocksCardSaid : Prop := Claim7.holds Tryd.pinned (.plain (OpenSpec.ofChange topClocksSpec)) topClocksCard

/-- THE SECOND FORM's CARD OF 'wallgaugelaw07.DentCloses'. -/
def dentClosesUptoCard : Claim7 := { stood := { row := dentClosesUptoRow, standIns := [], harness := (true, "841c5ceede8e15cf1b7f31c59fab96758a15e419bc47c3ab51d9bf987b801407"), looks := false }, kinds := [], alts := [], laidByText := true, laidKinds := [.data, .data, .data], laidTests := true, laidLooks := .later }
def DentClosesUptoCardSaid : Prop := Claim7.holds Tryd.pinned (.plain (OpenSpec.upto dentClosesSpec)) dentClosesUptoCard

/-- THE SECOND FORM's CARD OF 'wallgaugelaw07.DentDrifts'. -/
def dentDriftsUptoCard : Claim7 := { stood := { row := dentDriftsUptoRow, standIns := [], harness := (true, "841c5ceede8e15cf1b7f31c59fab96758a15e419bc47c3ab51d9bf987b801407"), looks := false }, kinds := [], alts := [], laidByText := true, laidKinds := [.data, .data, .data], laidTests := true, laidLooks := .later }
def DentDriftsUptoCardSaid : Prop := Claim7.holds Tryd.pinned (.plain (OpenSpec.upto dentDriftsSpec)) dentDriftsUptoCard

/-- THE SECOND FORM's CARD OF 'wallgaugetop.TopClocks'. -/
def topClocksUptoCard : Claim7 := { stood := { row := topClocksUptoRow, standIns := [], harness := (true, "841c5ceede8e15cf1b7f31c59fab96758a15e419bc47c3ab51d9bf987b801407"), looks := false }, kinds := [], alts := [], laidByText := true, laidKinds := [.data, .data, .data], laidTests := true, laidLooks := .later }
def TopClocksUptoCardSaid : Prop := Claim7.holds Tryd.pinned (.plain (OpenSpec.upto topClocksSpec)) topClocksUptoCard
end Rows
end Go.Proofs.YtlbffdgojmjijaaDoor
