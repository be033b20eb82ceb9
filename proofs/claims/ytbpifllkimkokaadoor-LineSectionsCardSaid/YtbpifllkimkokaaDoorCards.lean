/-
  DERIVED. GIVEN WITH THE SEED: THE CARDS: each row of YtbpifllkimkokaaDoorRows.lean that lists a variable, with what it lists TIED to the program's text (the seventh form; the later family's looks); each row that meets fmt, with fmt's text TOLD by the authors' own Lean function (tested against real Go, not proved from fmt's source: count such statements apart). THE CARD IS WHAT COUNTS. Prove the row's statement (the work); the ties are given (YtbpifllkimkokaaDoorTie.lean); close each card by the builder's one call (the guide's Derived/Test/ToyasCard.lean, 'card_holds'). Laid BY PROGRAM, IN A SANDBOX (cutbox-door.mjs). By AI agents, Wed Nov 11 2026. No macro, syntax, notation, axiom, sorry.
-/
import Derived.Test.YtbpifllkimkokaaDoorRows
import GoSem.ClaimSeven
namespace Go.Proofs.YtbpifllkimkokaaDoor
namespace Rows

/-- THE TIED CARD OF 'wallgaugelaw02.LineStations'. -/
def lineStationsCard : Claim7 := { stood := { row := lineStationsRow, standIns := [], harness := (true, "000e07bd0290f62967c9a4f713c98b8c296d812d45af80dbf01a1ea594e48e08"), looks := false }, kinds := [], alts := [], laidByText := true, laidKinds := [.data, .data, .data, .data, .data], laidTests := true, laidLooks := .later }
def LineStationsCardSaid : Prop := Claim7.holds Tryd.pinned (.plain (OpenSpec.ofChange lineStationsSpec)) lineStationsCard

/-- THE TIED CARD OF 'wallgaugelaw02.LineSections'. -/
def lineSectionsCard : Claim7 := { stood := { row := lineSectionsRow, standIns := [], harness := (true, "000e07bd0290f62967c9a4f713c98b8c296d812d45af80dbf01a1ea594e48e08"), looks := false }, kinds := [], alts := [], laidByText := true, laidKinds := [.data, .data, .data, .data, .data, .data], laidTests := true, laidLooks := .later }
def LineSectionsCardSaid : Prop := Claim7.holds Tryd.pinned (.plain (OpenSpec.ofChange lineSectionsSpec)) lineSectionsCard

/-- THE TIED CARD OF 'wallgaugelaw02.LinePasses'. -/
def linePassesCard : Claim7 := { stood := { row := linePassesRow, standIns := [], harness := (true, "000e07bd0290f62967c9a4f713c98b8c296d812d45af80dbf01a1ea594e48e08"), looks := false }, kinds := [], alts := [], laidByText := true, laidKinds := [.data, .data, .data, .data, .data], laidTests := true, laidLooks := .later }
def LinePassesCardSaid : Prop := Claim7.holds Tryd.pinned (.plain (OpenSpec.ofChange linePassesSpec)) linePassesCard

/-- THE TIED CARD OF 'wallgaugelaw02.LineThere'. -/
def lineThereCard : Claim7 := { stood := { row := lineThereRow, standIns := [], harness := (true, "000e07bd0290f62967c9a4f713c98b8c296d812d45af80dbf01a1ea594e48e08"), looks := false }, kinds := [], alts := [], laidByText := true, laidKinds := [.data, .data, .data, .data, .data], laidTests := true, laidLooks := .later }
def LineThereCardSaid : Prop := Claim7.holds Tryd.pinned (.plain (OpenSpec.ofChange lineThereSpec)) lineThereCard

/-- THE TIED CARD OF 'wallgaugelaw02.LineParts'. -/
def linePartsCard : Claim7 := { stood := { row := linePartsRow, standIns := [], harness := (true, "000e07bd0290f62967c9a4f713c98b8c296d812d45af80dbf01a1ea594e48e08"), looks := false }, kinds := [], alts := [], laidByText := true, laidKinds := [.data, .data, .data, .data, .data], laidTests := true, laidLooks := .later }
def LinePartsCardSaid : Prop := Claim7.holds Tryd.pinned (.plain (OpenSpec.ofChange linePartsSpec)) linePartsCard

/-- THE TIED CARD OF 'wallgaugelaw02.LineTools'. -/
def lineToolsCard : Claim7 := { stood := { row := lineToolsRow, standIns := [], harness := (true, "000e07bd0290f62967c9a4f713c98b8c296d812d45af80dbf01a1ea594e48e08"), looks := false }, kinds := [], alts := [], laidByText := true, laidKinds := [.data, .data, .data, .data, .data], laidTests := true, laidLooks := .later }
def LineToolsCardSaid : Prop := Claim7.holds Tryd.pinned (.plain (OpenSpec.ofChange lineToolsSpec)) lineToolsCard

/-- THE TIED CARD OF 'wallgaugelaw02.LineMirrors'. -/
def lineMirrorsCard : Claim7 := { stood := { row := lineMirrorsRow, standIns := [], harness := (true, "000e07bd0290f62967c9a4f713c98b8c296d812d45af80dbf01a1ea594e48e08"), looks := false }, kinds := [], alts := [], laidByText := true, laidKinds := [.data, .data, .data, .data, .data], laidTests := true, laidLooks := .later }
def LineMirrorsCardSaid : Prop := Claim7.holds Tryd.pinned (.plain (OpenSpec.ofChange lineMirrorsSpec)) lineMirrorsCard

/-- THE TIED CARD OF 'wallgaugelaw02.LineChanges'. -/
def lineChangesCard : Claim7 := { stood := { row := lineChangesRow, standIns := [], harness := (true, "000e07bd0290f62967c9a4f713c98b8c296d812d45af80dbf01a1ea594e48e08"), looks := false }, kinds := [], alts := [], laidByText := true, laidKinds := [.data, .data, .data, .data, .data], laidTests := true, laidLooks := .later }
def LineChangesCardSaid : Prop := Claim7.holds Tryd.pinned (.plain (OpenSpec.ofChange lineChangesSpec)) lineChangesCard

/-- THE TIED CARD OF 'wallgaugelaw02.LineCuts'. -/
def lineCutsCard : Claim7 := { stood := { row := lineCutsRow, standIns := [], harness := (true, "000e07bd0290f62967c9a4f713c98b8c296d812d45af80dbf01a1ea594e48e08"), looks := false }, kinds := [], alts := [], laidByText := true, laidKinds := [.data, .data, .data, .data, .data, .data], laidTests := true, laidLooks := .later }
def LineCutsCardSaid : Prop := Claim7.holds Tryd.pinned (.plain (OpenSpec.ofChange lineCutsSpec)) lineCutsCard

/-- THE SECOND FORM's CARD OF 'wallgaugelaw02.LineStations'. -/
def lineStationsUptoCard : Claim7 := { stood := { row := lineStationsUptoRow, standIns := [], harness := (true, "000e07bd0290f62967c9a4f713c98b8c296d812d45af80dbf01a1ea594e48e08"), looks := false }, kinds := [], alts := [], laidByText := true, laidKinds := [.data, .data, .data, .data, .data], laidTests := true, laidLooks := .later }
def LineStationsUptoCardSaid : Prop := Claim7.holds Tryd.pinned (.plain (OpenSpec.upto lineStationsSpec)) lineStationsUptoCard

/-- THE SECOND FORM's CARD OF 'wallgaugelaw02.LineSections'. -/
def lineSectionsUptoCard : Claim7 := { stood := { row := lineSectionsUptoRow, standIns := [], harness := (true, "000e07bd0290f62967c9a4f713c98b8c296d812d45af80dbf01a1ea594e48e08"), looks := false }, kinds := [], alts := [], laidByText := true, laidKinds := [.data, .data, .data, .data, .data, .data], laidTests := true, laidLooks := .later }
def LineSectionsUptoCardSaid : Prop := Claim7.holds Tryd.pinned (.plain (OpenSpec.upto lineSectionsSpec)) lineSectionsUptoCard

/-- THE SECOND FORM's CARD OF 'wallgaugelaw02.LinePasses'. -/
def linePassesUptoCard : Claim7 := { stood := { row := linePassesUptoRow, standIns := [], harness := (true, "000e07bd0290f62967c9a4f713c98b8c296d812d45af80dbf01a1ea594e48e08"), looks := false }, kinds := [], alts := [], laidByText := true, laidKinds := [.data, .data, .data, .data, .data], laidTests := true, laidLooks := .later }
def LinePassesUptoCardSaid : Prop := Claim7.holds Tryd.pinned (.plain (OpenSpec.upto linePassesSpec)) linePassesUptoCard

/-- THE SECOND FORM's CARD OF 'wallgaugelaw02.LineThere'. -/
def lineThereUptoCard : Claim7 := { stood := { row := lineThereUptoRow, standIns := [], harness := (true, "000e07bd0290f62967c9a4f713c98b8c296d812d45af80dbf01a1ea594e48e08"), looks := false }, kinds := [], alts := [], laidByText := true, laidKinds := [.data, .data, .data, .data, .data], laidTests := true, laidLooks := .later }
def LineThereUptoCardSaid : Prop := Claim7.holds Tryd.pinned (.plain (OpenSpec.upto lineThereSpec)) lineThereUptoCard

/-- THE SECOND FORM's CARD OF 'wallgaugelaw02.LineParts'. -/
def linePartsUptoCard : Claim7 := { stood := { row := linePartsUptoRow, standIns := [], harness := (true, "000e07bd0290f62967c9a4f713c98b8c296d812d45af80dbf01a1ea594e48e08"), looks := false }, kinds := [], alts := [], laidByText := true, laidKinds := [.data, .data, .data, .data, .data], laidTests := true, laidLooks := .later }
def LinePartsUptoCardSaid : Prop := Claim7.holds Tryd.pinned (.plain (OpenSpec.upto linePartsSpec)) linePartsUptoCard

/-- THE SECOND FORM's CARD OF 'wallgaugelaw02.LineTools'. -/
def lineToolsUptoCard : Claim7 := { stood := { row := lineToolsUptoRow, standIns := [], harness := (true, "000e07bd0290f62967c9a4f713c98b8c296d812d45af80dbf01a1ea594e48e08"), looks := false }, kinds := [], alts := [], laidByText := true, laidKinds := [.data, .data, .data, .data, .data], laidTests := true, laidLooks := .later }
def LineToolsUptoCardSaid : Prop := Claim7.holds Tryd.pinned (.plain (OpenSpec.upto lineToolsSpec)) lineToolsUptoCard

/-- THE SECOND FORM's CARD OF 'wallgaugelaw02.LineMirrors'. -/
def lineMirrorsUptoCard : Claim7 := { stood := { row := lineMirrorsUptoRow, standIns := [], harness := (true, "000e07bd0290f62967c9a4f713c98b8c296d812d45af80dbf01a1ea594e48e08"), looks := false }, kinds := [], alts := [], laidByText := true, laidKinds := [.data, .data, .data, .data, .data], laidTests := true, laidLooks := .later }
def LineMirrorsUptoCardSaid : Prop := Claim7.holds Tryd.pinned (.plain (OpenSpec.upto lineMirrorsSpec)) lineMirrorsUptoCard

/-- THE SECOND FORM's CARD OF 'wallgaugelaw02.LineChanges'. -/
def lineChangesUptoCard : Claim7 := { stood := { row := lineChangesUptoRow, standIns := [], harness := (true, "000e07bd0290f62967c9a4f713c98b8c296d812d45af80dbf01a1ea594e48e08"), looks := false }, kinds := [], alts := [], laidByText := true, laidKinds := [.data, .data, .data, .data, .data], laidTests := true, laidLooks := .later }
def LineChangesUptoCardSaid : Prop := Claim7.holds Tryd.pinned (.plain (OpenSpec.upto lineChangesSpec)) lineChangesUptoCard

/-- THE SECOND FORM's CARD OF 'wallgaugelaw02.LineCuts'. -/
def lineCutsUptoCard : Claim7 := { stood := { row := lineCutsUptoRow, standIns := [], harness := (true, "000e07bd0290f62967c9a4f713c98b8c296d812d45af80dbf01a1ea594e48e08"), looks := false }, kinds := [], alts := [], laidByText := true, laidKinds := [.data, .data, .data, .data, .data, .data], laidTests := true, laidLooks := .later }
def LineCutsUptoCardSaid : Prop := Claim7.holds Tryd.pinned (.plain (OpenSpec.upto lineCutsSpec)) lineCutsUptoCard
end Rows
end Go.Proofs.YtbpifllkimkokaaDoor
