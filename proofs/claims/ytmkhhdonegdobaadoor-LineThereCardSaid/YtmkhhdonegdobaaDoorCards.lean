/-
  DERIVED. GIVEN WITH THE SEED: THE CARDS: each row of YtmkhhdonegdobaaDoorRows.lean that lists a variable, with what it lists TIED to the program's text (the seventh form; the later family's looks); each row that meets fmt, with fmt's text TOLD by the authors' own Lean function (tested against real Go, not proved from fmt's source: count such statements apart). THE CARD IS WHAT COUNTS. Prove the row's statement (the work); the ties are given (YtmkhhdonegdobaaDoorTie.lean); close each card by the builder's one call (the guide's Derived/Test/ToyasCard.lean, 'card_holds'). Laid BY PROGRAM, IN A SANDBOX (cutbox-door.mjs). By AI agents, Wed Nov 11 2026. No macro, syntax, notation, axiom, sorry.
-/
import Derived.Test.YtmkhhdonegdobaaDoorRows
import GoSem.ClaimSeven
namespace Go.Proofs.YtmkhhdonegdobaaDoor
namespace Rows

/-- THE TIED CARD OF 'wallgaugelaw02.LineStations'. -/
def lineStationsCard : Claim7 := { stood := { row := lineStationsRow, standIns := [], harness := (true, "a7d3c1df020fc3b363c61a969bbca5f708ebd4fa6fd2c0205d7784138a67089f"), looks := false }, kinds := [], alts := [], laidByText := true, laidKinds := [.data, .data, .data, .data, .data], laidTests := true, laidLooks := .later }
def LineStationsCardSaid : Prop := Claim7.holds Tryd.pinned (.plain (OpenSpec.ofChange lineStationsSpec)) lineStationsCard

/-- THE TIED CARD OF 'wallgaugelaw02.LineSections'. -/
def lineSectionsCard : Claim7 := { stood := { row := lineSectionsRow, standIns := [], harness := (true, "a7d3c1df020fc3b363c61a969bbca5f708ebd4fa6fd2c0205d7784138a67089f"), looks := false }, kinds := [], alts := [], laidByText := true, laidKinds := [.data, .data, .data, .data, .data, .data], laidTests := true, laidLooks := .later }
def LineSectionsCardSaid : Prop := Claim7.holds Tryd.pinned (.plain (OpenSpec.ofChange lineSectionsSpec)) lineSectionsCard

/-- THE TIED CARD OF 'wallgaugelaw02.LinePasses'. -/
def linePassesCard : Claim7 := { stood := { row := linePassesRow, standIns := [], harness := (true, "a7d3c1df020fc3b363c61a969bbca5f708ebd4fa6fd2c0205d7784138a67089f"), looks := false }, kinds := [], alts := [], laidByText := true, laidKinds := [.data, .data, .data, .data, .data], laidTests := true, laidLooks := .later }
def LinePassesCardSaid : Prop := Claim7.holds Tryd.pinned (.plain (OpenSpec.ofChange linePassesSpec)) linePassesCard

/-- THE TIED CARD OF 'wallgaugelaw02.LineThere'. -/
def lineThereCard : Claim7 := { stood := { row := lineThereRow, standIns := [], harness := (true, "a7d3c1df020fc3b363c61a969bbca5f708ebd4fa6fd2c0205d7784138a67089f"), looks := false }, kinds := [], alts := [], laidByText := true, laidKinds := [.data, .data, .data, .data, .data], laidTests := true, laidLooks := .later }
def LineThereCardSaid : Prop := Claim7.holds Tryd.pinned (.plain (OpenSpec.ofChange lineThereSpec)) lineThereCard

/-- THE TIED CARD OF 'wallgaugelaw02.LineParts'. -/
def linePartsCard : Claim7 := { stood := { row := linePartsRow, standIns := [], harness := (true, "a7d3c1df020fc3b363c61a969bbca5f708ebd4fa6fd2c0205d7784138a67089f"), looks := false }, kinds := [], alts := [], laidByText := true, laidKinds := [.data, .data, .data, .data, .data], laidTests := true, laidLooks := .later }
def LinePartsCardSaid : Prop := Claim7.holds Tryd.pinned (.plain (OpenSpec.ofChange linePartsSpec)) linePartsCard

/-- THE TIED CARD OF 'wallgaugelaw02.LineTools'. -/
def lineToolsCard : Claim7 := { stood := { row := lineToolsRow, standIns := [], harness := (true, "a7d3c1df020fc3b363c61a969bbca5f708ebd4fa6fd2c0205d7784138a67089f"), looks := false }, kinds := [], alts := [], laidByText := true, laidKinds := [.data, .data, .data, .data, .data], laidTests := true, laidLooks := .later }
def LineToolsCardSaid : Prop := Claim7.holds Tryd.pinned (.plain (OpenSpec.ofChange lineToolsSpec)) lineToolsCard

/-- THE SECOND FORM's CARD OF 'wallgaugelaw02.LineStations'. -/
def lineStationsUptoCard : Claim7 := { stood := { row := lineStationsUptoRow, standIns := [], harness := (true, "a7d3c1df020fc3b363c61a969bbca5f708ebd4fa6fd2c0205d7784138a67089f"), looks := false }, kinds := [], alts := [], laidByText := true, laidKinds := [.data, .data, .data, .data, .data], laidTests := true, laidLooks := .later }
def LineStationsUptoCardSaid : Prop := Claim7.holds Tryd.pinned (.plain (OpenSpec.upto lineStationsSpec)) lineStationsUptoCard

/-- THE SECOND FORM's CARD OF 'wallgaugelaw02.LineSections'. -/
def lineSectionsUptoCard : Claim7 := { stood := { row := lineSectionsUptoRow, standIns := [], harness := (true, "a7d3c1df020fc3b363c61a969bbca5f708ebd4fa6fd2c0205d7784138a67089f"), looks := false }, kinds := [], alts := [], laidByText := true, laidKinds := [.data, .data, .data, .data, .data, .data], laidTests := true, laidLooks := .later }
def LineSectionsUptoCardSaid : Prop := Claim7.holds Tryd.pinned (.plain (OpenSpec.upto lineSectionsSpec)) lineSectionsUptoCard

/-- THE SECOND FORM's CARD OF 'wallgaugelaw02.LinePasses'. -/
def linePassesUptoCard : Claim7 := { stood := { row := linePassesUptoRow, standIns := [], harness := (true, "a7d3c1df020fc3b363c61a969bbca5f708ebd4fa6fd2c0205d7784138a67089f"), looks := false }, kinds := [], alts := [], laidByText := true, laidKinds := [.data, .data, .data, .data, .data], laidTests := true, laidLooks := .later }
def LinePassesUptoCardSaid : Prop := Claim7.holds Tryd.pinned (.plain (OpenSpec.upto linePassesSpec)) linePassesUptoCard

/-- THE SECOND FORM's CARD OF 'wallgaugelaw02.LineThere'. -/
def lineThereUptoCard : Claim7 := { stood := { row := lineThereUptoRow, standIns := [], harness := (true, "a7d3c1df020fc3b363c61a969bbca5f708ebd4fa6fd2c0205d7784138a67089f"), looks := false }, kinds := [], alts := [], laidByText := true, laidKinds := [.data, .data, .data, .data, .data], laidTests := true, laidLooks := .later }
def LineThereUptoCardSaid : Prop := Claim7.holds Tryd.pinned (.plain (OpenSpec.upto lineThereSpec)) lineThereUptoCard

/-- THE SECOND FORM's CARD OF 'wallgaugelaw02.LineParts'. -/
def linePartsUptoCard : Claim7 := { stood := { row := linePartsUptoRow, standIns := [], harness := (true, "a7d3c1df020fc3b363c61a969bbca5f708ebd4fa6fd2c0205d7784138a67089f"), looks := false }, kinds := [], alts := [], laidByText := true, laidKinds := [.data, .data, .data, .data, .data], laidTests := true, laidLooks := .later }
def LinePartsUptoCardSaid : Prop := Claim7.holds Tryd.pinned (.plain (OpenSpec.upto linePartsSpec)) linePartsUptoCard

/-- THE SECOND FORM's CARD OF 'wallgaugelaw02.LineTools'. -/
def lineToolsUptoCard : Claim7 := { stood := { row := lineToolsUptoRow, standIns := [], harness := (true, "a7d3c1df020fc3b363c61a969bbca5f708ebd4fa6fd2c0205d7784138a67089f"), looks := false }, kinds := [], alts := [], laidByText := true, laidKinds := [.data, .data, .data, .data, .data], laidTests := true, laidLooks := .later }
def LineToolsUptoCardSaid : Prop := Claim7.holds Tryd.pinned (.plain (OpenSpec.upto lineToolsSpec)) lineToolsUptoCard
end Rows
end Go.Proofs.YtmkhhdonegdobaaDoor
