/-
  DERIVED. GIVEN WITH THE SEED: THE CARDS: each row of YtlbffdgojmjijaaGreatDoorRows.lean that lists a variable, with what it lists TIED to the program's text (the seventh form; the later family's looks); each row that meets fmt, with fmt's text TOLD by the authors' own Lean function (tested against real Go, not proved from fmt's source: count such statements apart). THE CARD IS WHAT COUNTS. Prove the row's statement (the work); the ties are given (YtlbffdgojmjijaaGreatDoorTie.lean); close each card by the builder's one call (the guide's Derived/Test/ToyasCard.lean, 'card_holds'). Laid BY PROGRAM, IN A SANDBOX (cutbox-door.mjs). By AI agents, Wed Nov 11 2026. No macro, syntax, notation, axiom, sorry.
-/
import Derived.Test.YtlbffdgojmjijaaGreatDoorRows
import GoSem.ClaimSeven
namespace Go.Proofs.YtlbffdgojmjijaaGreatDoor
namespace Rows

/-- THE TIED CARD OF 'wallgaugelaw08.GrowthCosts'. -/
def growthCostsCard : Claim7 := { stood := { row := growthCostsRow, standIns := [], harness := (true, "8831220889406916bde8847664019d06e96412f1c615989e1f698f506798f5c6"), looks := false }, kinds := [], alts := [], laidByText := true, laidKinds := [.data, .data, .data], laidTests := true, laidLooks := .later }
def GrowthCostsCardSaid : Prop := Claim7.holds Tryz.pinned (.plain (OpenSpec.ofChange growthCostsSpec)) growthCostsCard

/-- THE TIED CARD OF 'wallgaugelaw08.GrowthChecks'. -/
def growthChecksCard : Claim7 := { stood := { row := growthChecksRow, standIns := [], harness := (true, "8831220889406916bde8847664019d06e96412f1c615989e1f698f506798f5c6"), looks := false }, kinds := [], alts := [], laidByText := true, laidKinds := [.data, .data, .data], laidTests := true, laidLooks := .later }
def GrowthChecksCardSaid : Prop := Claim7.holds Tryz.pinned (.plain (OpenSpec.ofChange growthChecksSpec)) growthChecksCard

/-- THE TIED CARD OF 'wallgaugelaw08.GrowthChains'. -/
def growthChainsCard : Claim7 := { stood := { row := growthChainsRow, standIns := [], harness := (true, "8831220889406916bde8847664019d06e96412f1c615989e1f698f506798f5c6"), looks := false }, kinds := [], alts := [], laidByText := true, laidKinds := [.data, .data, .data], laidTests := true, laidLooks := .later }
def GrowthChainsCardSaid : Prop := Claim7.holds Tryz.pinned (.plain (OpenSpec.ofChange growthChainsSpec)) growthChainsCard

/-- THE TIED CARD OF 'wallgaugelaw08.GrowthAround'. -/
def growthAroundCard : Claim7 := { stood := { row := growthAroundRow, standIns := [], harness := (true, "8831220889406916bde8847664019d06e96412f1c615989e1f698f506798f5c6"), looks := false }, kinds := [], alts := [], laidByText := true, laidKinds := [.data, .data, .data], laidTests := true, laidLooks := .later }
def GrowthAroundCardSaid : Prop := Claim7.holds Tryz.pinned (.plain (OpenSpec.ofChange growthAroundSpec)) growthAroundCard

/-- THE TIED CARD OF 'wallgaugelaw08.GrowthTriples'. -/
def growthTriplesCard : Claim7 := { stood := { row := growthTriplesRow, standIns := [], harness := (true, "8831220889406916bde8847664019d06e96412f1c615989e1f698f506798f5c6"), looks := false }, kinds := [], alts := [], laidByText := true, laidKinds := [.data, .data, .data], laidTests := true, laidLooks := .later }
def GrowthTriplesCardSaid : Prop := Claim7.holds Tryz.pinned (.plain (OpenSpec.ofChange growthTriplesSpec)) growthTriplesCard

/-- THE SECOND FORM's CARD OF 'wallgaugelaw08.GrowthCosts'. -/
def growthCostsUptoCard : Claim7 := { stood := { row := growthCostsUptoRow, standIns := [], harness := (true, "8831220889406916bde8847664019d06e96412f1c615989e1f698f506798f5c6"), looks := false }, kinds := [], alts := [], laidByText := true, laidKinds := [.data, .data, .data], laidTests := true, laidLooks := .later }
def GrowthCostsUptoCardSaid : Prop := Claim7.holds Tryz.pinned (.plain (OpenSpec.upto growthCostsSpec)) growthCostsUptoCard

/-- THE SECOND FORM's CARD OF 'wallgaugelaw08.GrowthChecks'. -/
def growthChecksUptoCard : Claim7 := { stood := { row := growthChecksUptoRow, standIns := [], harness := (true, "8831220889406916bde8847664019d06e96412f1c615989e1f698f506798f5c6"), looks := false }, kinds := [], alts := [], laidByText := true, laidKinds := [.data, .data, .data], laidTests := true, laidLooks := .later }
def GrowthChecksUptoCardSaid : Prop := Claim7.holds Tryz.pinned (.plain (OpenSpec.upto growthChecksSpec)) growthChecksUptoCard

/-- THE SECOND FORM's CARD OF 'wallgaugelaw08.GrowthChains'. -/
def growthChainsUptoCard : Claim7 := { stood := { row := growthChainsUptoRow, standIns := [], harness := (true, "8831220889406916bde8847664019d06e96412f1c615989e1f698f506798f5c6"), looks := false }, kinds := [], alts := [], laidByText := true, laidKinds := [.data, .data, .data], laidTests := true, laidLooks := .later }
def GrowthChainsUptoCardSaid : Prop := Claim7.holds Tryz.pinned (.plain (OpenSpec.upto growthChainsSpec)) growthChainsUptoCard

/-- THE SECOND FORM's CARD OF 'wallgaugelaw08.GrowthAround'. -/
def growthAroundUptoCard : Claim7 := { stood := { row := growthAroundUptoRow, standIns := [], harness := (true, "8831220889406916bde8847664019d06e96412f1c615989e1f698f506798f5c6"), looks := false }, kinds := [], alts := [], laidByText := true, laidKinds := [.data, .data, .data], laidTests := true, laidLooks := .later }
def GrowthAroundUptoCardSaid : Prop := Claim7.holds Tryz.pinned (.plain (OpenSpec.upto growthAroundSpec)) growthAroundUptoCard

/-- THE SECOND FORM's CARD OF 'wallgaugelaw08.GrowthTriples'. -/
def growthTriplesUptoCard : Claim7 := { stood := { row := growthTriplesUptoRow, standIns := [], harness := (true, "8831220889406916bde8847664019d06e96412f1c615989e1f698f506798f5c6"), looks := false }, kinds := [], alts := [], laidByText := true, laidKinds := [.data, .data, .data], laidTests := true, laidLooks := .later }
def GrowthTriplesUptoCardSaid : Prop := Claim7.holds Tryz.pinned (.plain (OpenSpec.upto growthTriplesSpec)) growthTriplesUptoCard
end Rows
end Go.Proofs.YtlbffdgojmjijaaGreatDoor
