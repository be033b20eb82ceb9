/-
  DERIVED. GIVEN WITH THE SEED: THE CARDS: each row of YtmdniebedflpbaaGreatDoorRows.lean that lists a variable, with what it lists TIED to the program's text (the seventh form; the later family's looks); each row that meets fmt, with fmt's text TOLD by the authors' own Lean function (tested against real Go, not proved from fmt's source: count such statements apart). THE CARD IS WHAT COUNTS. Prove the row's statement (the work); the ties are given (YtmdniebedflpbaaGreatDoorTie.lean); close each card by the builder's one call (the guide's Derived/Test/ToyasCard.lean, 'card_holds'). Laid BY PROGRAM, IN A SANDBOX (cutbox-door.mjs). By AI agents, Wed Nov 11 2026. No macro, syntax, notation, axiom, sorry.
-/
import Derived.Test.YtmdniebedflpbaaGreatDoorRows
import GoSem.ClaimSeven
namespace Go.Proofs.YtmdniebedflpbaaGreatDoor
namespace Rows

/-- THE TIED CARD OF 'wallgaugelaw10.ServiceTraps'. -/
def serviceTrapsCard : Claim7 := { stood := { row := serviceTrapsRow, standIns := [], harness := (true, "90bf32700132b3dd8f1d4627b636c07fd84ed1421f762b4bf27ffe3013d4a686"), looks := true }, kinds := [], alts := [], laidByText := true, laidKinds := [.data, .data, .data, .data, .sentinel, .sentinel, .data, .pinned], laidTests := true, laidLooks := .later }
def ServiceTrapsCardSaid : Prop := Claim7.holds Tryz.pinned (.plain (OpenSpec.ofChange serviceTrapsSpec)) serviceTrapsCard

/-- THE TIED CARD OF 'wallgaugelaw10.ServiceDoors'. -/
def serviceDoorsCard : Claim7 := { stood := { row := serviceDoorsRow, standIns := [], harness := (true, "90bf32700132b3dd8f1d4627b636c07fd84ed1421f762b4bf27ffe3013d4a686"), looks := true }, kinds := [], alts := [], laidByText := true, laidKinds := [.data, .data, .data, .data, .sentinel, .sentinel, .data, .pinned], laidTests := true, laidLooks := .later }
def ServiceDoorsCardSaid : Prop := Claim7.holds Tryz.pinned (.plain (OpenSpec.ofChange serviceDoorsSpec)) serviceDoorsCard

/-- THE TIED CARD OF 'wallgaugelaw10.ServiceTelegrams'. -/
def serviceTelegramsCard : Claim7 := { stood := { row := serviceTelegramsRow, standIns := [], harness := (true, "90bf32700132b3dd8f1d4627b636c07fd84ed1421f762b4bf27ffe3013d4a686"), looks := true }, kinds := [], alts := [], laidByText := true, laidKinds := [.data, .data, .data, .data, .sentinel, .sentinel, .data, .pinned], laidTests := true, laidLooks := .later }
def ServiceTelegramsCardSaid : Prop := Claim7.holds Tryz.pinned (.plain (OpenSpec.ofChange serviceTelegramsSpec)) serviceTelegramsCard

/-- THE TIED CARD OF 'wallgaugelaw10.ServiceDigests'. -/
def serviceDigestsCard : Claim7 := { stood := { row := serviceDigestsRow, standIns := [], harness := (true, "90bf32700132b3dd8f1d4627b636c07fd84ed1421f762b4bf27ffe3013d4a686"), looks := true }, kinds := [], alts := [], laidByText := true, laidKinds := [.data, .data, .data, .data, .sentinel, .sentinel, .data, .pinned], laidTests := true, laidLooks := .later }
def ServiceDigestsCardSaid : Prop := Claim7.holds Tryz.pinned (.plain (OpenSpec.ofChange serviceDigestsSpec)) serviceDigestsCard

/-- THE TIED CARD OF 'wallgaugelaw10.ServiceReconciles'. -/
def serviceReconcilesCard : Claim7 := { stood := { row := serviceReconcilesRow, standIns := [], harness := (true, "90bf32700132b3dd8f1d4627b636c07fd84ed1421f762b4bf27ffe3013d4a686"), looks := true }, kinds := [], alts := [], laidByText := true, laidKinds := [.data, .data, .data, .data, .sentinel, .sentinel, .data, .pinned], laidTests := true, laidLooks := .later }
def ServiceReconcilesCardSaid : Prop := Claim7.holds Tryz.pinned (.plain (OpenSpec.ofChange serviceReconcilesSpec)) serviceReconcilesCard

/-- THE TIED CARD OF 'wallgaugelaw10.ServiceNone'. -/
def serviceNoneCard : Claim7 := { stood := { row := serviceNoneRow, standIns := [], harness := (true, "90bf32700132b3dd8f1d4627b636c07fd84ed1421f762b4bf27ffe3013d4a686"), looks := true }, kinds := [], alts := [], laidByText := true, laidKinds := [.data, .data, .data, .data, .sentinel, .sentinel, .data, .pinned], laidTests := true, laidLooks := .later }
def ServiceNoneCardSaid : Prop := Claim7.holds Tryz.pinned (.plain (OpenSpec.ofChange serviceNoneSpec)) serviceNoneCard

/-- THE SECOND FORM's CARD OF 'wallgaugelaw10.ServiceTraps'. -/
def serviceTrapsUptoCard : Claim7 := { stood := { row := serviceTrapsUptoRow, standIns := [], harness := (true, "90bf32700132b3dd8f1d4627b636c07fd84ed1421f762b4bf27ffe3013d4a686"), looks := true }, kinds := [], alts := [], laidByText := true, laidKinds := [.data, .data, .data, .data, .sentinel, .sentinel, .data, .pinned], laidTests := true, laidLooks := .later }
def ServiceTrapsUptoCardSaid : Prop := Claim7.holds Tryz.pinned (.plain (OpenSpec.upto serviceTrapsSpec)) serviceTrapsUptoCard

/-- THE SECOND FORM's CARD OF 'wallgaugelaw10.ServiceDoors'. -/
def serviceDoorsUptoCard : Claim7 := { stood := { row := serviceDoorsUptoRow, standIns := [], harness := (true, "90bf32700132b3dd8f1d4627b636c07fd84ed1421f762b4bf27ffe3013d4a686"), looks := true }, kinds := [], alts := [], laidByText := true, laidKinds := [.data, .data, .data, .data, .sentinel, .sentinel, .data, .pinned], laidTests := true, laidLooks := .later }
def ServiceDoorsUptoCardSaid : Prop := Claim7.holds Tryz.pinned (.plain (OpenSpec.upto serviceDoorsSpec)) serviceDoorsUptoCard

/-- THE SECOND FORM's CARD OF 'wallgaugelaw10.ServiceTelegrams'. -/
def serviceTelegramsUptoCard : Claim7 := { stood := { row := serviceTelegramsUptoRow, standIns := [], harness := (true, "90bf32700132b3dd8f1d4627b636c07fd84ed1421f762b4bf27ffe3013d4a686"), looks := true }, kinds := [], alts := [], laidByText := true, laidKinds := [.data, .data, .data, .data, .sentinel, .sentinel, .data, .pinned], laidTests := true, laidLooks := .later }
def ServiceTelegramsUptoCardSaid : Prop := Claim7.holds Tryz.pinned (.plain (OpenSpec.upto serviceTelegramsSpec)) serviceTelegramsUptoCard

/-- THE SECOND FORM's CARD OF 'wallgaugelaw10.ServiceDigests'. -/
def serviceDigestsUptoCard : Claim7 := { stood := { row := serviceDigestsUptoRow, standIns := [], harness := (true, "90bf32700132b3dd8f1d4627b636c07fd84ed1421f762b4bf27ffe3013d4a686"), looks := true }, kinds := [], alts := [], laidByText := true, laidKinds := [.data, .data, .data, .data, .sentinel, .sentinel, .data, .pinned], laidTests := true, laidLooks := .later }
def ServiceDigestsUptoCardSaid : Prop := Claim7.holds Tryz.pinned (.plain (OpenSpec.upto serviceDigestsSpec)) serviceDigestsUptoCard

/-- THE SECOND FORM's CARD OF 'wallgaugelaw10.ServiceReconciles'. -/
def serviceReconcilesUptoCard : Claim7 := { stood := { row := serviceReconcilesUptoRow, standIns := [], harness := (true, "90bf32700132b3dd8f1d4627b636c07fd84ed1421f762b4bf27ffe3013d4a686"), looks := true }, kinds := [], alts := [], laidByText := true, laidKinds := [.data, .data, .data, .data, .sentinel, .sentinel, .data, .pinned], laidTests := true, laidLooks := .later }
def ServiceReconcilesUptoCardSaid : Prop := Claim7.holds Tryz.pinned (.plain (OpenSpec.upto serviceReconcilesSpec)) serviceReconcilesUptoCard

/-- THE SECOND FORM's CARD OF 'wallgaugelaw10.ServiceNone'. -/
def serviceNoneUptoCard : Claim7 := { stood := { row := serviceNoneUptoRow, standIns := [], harness := (true, "90bf32700132b3dd8f1d4627b636c07fd84ed1421f762b4bf27ffe3013d4a686"), looks := true }, kinds := [], alts := [], laidByText := true, laidKinds := [.data, .data, .data, .data, .sentinel, .sentinel, .data, .pinned], laidTests := true, laidLooks := .later }
def ServiceNoneUptoCardSaid : Prop := Claim7.holds Tryz.pinned (.plain (OpenSpec.upto serviceNoneSpec)) serviceNoneUptoCard
end Rows
end Go.Proofs.YtmdniebedflpbaaGreatDoor
