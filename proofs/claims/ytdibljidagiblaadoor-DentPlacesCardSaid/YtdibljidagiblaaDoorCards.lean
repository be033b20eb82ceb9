/-
  DERIVED. GIVEN WITH THE SEED: THE CARDS: each row of YtdibljidagiblaaDoorRows.lean that lists a variable, with what it lists TIED to the program's text (the seventh form; the later family's looks); each row that meets fmt, with fmt's text TOLD by the authors' own Lean function (tested against real Go, not proved from fmt's source: count such statements apart). THE CARD IS WHAT COUNTS. Prove the row's statement (the work); the ties are given (YtdibljidagiblaaDoorTie.lean); close each card by the builder's one call (the guide's Derived/Test/ToyasCard.lean, 'card_holds'). Laid BY PROGRAM, IN A SANDBOX (cutbox-door.mjs). By AI agents, Wed Nov 11 2026. No macro, syntax, notation, axiom, sorry.
-/
import Derived.Test.YtdibljidagiblaaDoorRows
import GoSem.ClaimSeven
namespace Go.Proofs.YtdibljidagiblaaDoor
namespace Rows

/-- THE TIED CARD OF 'wallgaugetop.TopPlaces'. -/
def topPlacesCard : Claim7 := { stood := { row := topPlacesRow, standIns := [], harness := (true, "28e518601a95cc2489063f0d1a160899c69659ddbcc1fa2947c915190f1fd16f"), looks := false }, kinds := [], alts := [], laidByText := true, laidKinds := [.data, .data, .data], laidTests := true, laidLooks := .later }
def TopPlacesCardSaid : Prop := Claim7.holds Tryd.pinned (.plain (OpenSpec.ofChange topPlacesSpec)) topPlacesCard

/-- THE TIED CARD OF 'wallgaugetop.TopJoints'. -/
def topJointsCard : Claim7 := { stood := { row := topJointsRow, standIns := [], harness := (true, "28e518601a95cc2489063f0d1a160899c69659ddbcc1fa2947c915190f1fd16f"), looks := false }, kinds := [], alts := [], laidByText := true, laidKinds := [.data, .data, .data], laidTests := true, laidLooks := .later }
def TopJointsCardSaid : Prop := Claim7.holds Tryd.pinned (.plain (OpenSpec.ofChange topJointsSpec)) topJointsCard

/-- THE TIED CARD OF 'wallgaugelaw07.DentPlaces'. -/
def dentPlacesCard : Claim7 := { stood := { row := dentPlacesRow, standIns := [], harness := (true, "28e518601a95cc2489063f0d1a160899c69659ddbcc1fa2947c915190f1fd16f"), looks := false }, kinds := [], alts := [], laidByText := true, laidKinds := [.data, .data, .data], laidTests := true, laidLooks := .later }
def DentPlacesCardSaid : Prop := Claim7.holds Tryd.pinned (.plain (OpenSpec.ofChange dentPlacesSpec)) dentPlacesCard

/-- THE TIED CARD OF 'wallgaugelaw07.DentClocks'. -/
def dentClocksCard : Claim7 := { stood := { row := dentClocksRow, standIns := [], harness := (true, "28e518601a95cc2489063f0d1a160899c69659ddbcc1fa2947c915190f1fd16f"), looks := false }, kinds := [], alts := [], laidByText := true, laidKinds := [.data, .data, .data], laidTests := true, laidLooks := .later }
def DentClocksCardSaid : Prop := Claim7.holds Tryd.pinned (.plain (OpenSpec.ofChange dentClocksSpec)) dentClocksCard

/-- THE TIED CARD OF 'wallgaugelaw07.DentCloses'. -/
def dentClosesCard : Claim7 := { stood := { row := dentClosesRow, standIns := [], harness := (true, "28e518601a95cc2489063f0d1a160899c69659ddbcc1fa2947c915190f1fd16f"), looks := false }, kinds := [], alts := [], laidByText := true, laidKinds := [.data, .data, .data], laidTests := true, laidLooks := .later }
def DentClosesCardSaid : Prop := Claim7.holds Tryd.pinned (.plain (OpenSpec.ofChange dentClosesSpec)) dentClosesCard

/-- THE TIED CARD OF 'wallgaugelaw07.DentDrifts'. -/
def dentDriftsCard : Claim7 := { stood := { row := dentDriftsRow, standIns := [], harness := (true, "28e518601a95cc2489063f0d1a160899c69659ddbcc1fa2947c915190f1fd16f"), looks := false }, kinds := [], alts := [], laidByText := true, laidKinds := [.data, .data, .data], laidTests := true, laidLooks := .later }
def DentDriftsCardSaid : Prop := Claim7.holds Tryd.pinned (.plain (OpenSpec.ofChange dentDriftsSpec)) dentDriftsCard

/-- THE SECOND FORM's CARD OF 'wallgaugetop.TopPlaces'. -/
def topPlacesUptoCard : Claim7 := { stood := { row := topPlacesUptoRow, standIns := [], harness := (true, "28e518601a95cc2489063f0d1a160899c69659ddbcc1fa2947c915190f1fd16f"), looks := false }, kinds := [], alts := [], laidByText := true, laidKinds := [.data, .data, .data], laidTests := true, laidLooks := .later }
def TopPlacesUptoCardSaid : Prop := Claim7.holds Tryd.pinned (.plain (OpenSpec.upto topPlacesSpec)) topPlacesUptoCard

/-- THE SECOND FORM's CARD OF 'wallgaugetop.TopJoints'. -/
def topJointsUptoCard : Claim7 := { stood := { row := topJointsUptoRow, standIns := [], harness := (true, "28e518601a95cc2489063f0d1a160899c69659ddbcc1fa2947c915190f1fd16f"), looks := false }, kinds := [], alts := [], laidByText := true, laidKinds := [.data, .data, .data], laidTests := true, laidLooks := .later }
def TopJointsUptoCardSaid : Prop := Claim7.holds Tryd.pinned (.plain (OpenSpec.upto topJointsSpec)) topJointsUptoCard

/-- THE SECOND FORM's CARD OF 'wallgaugelaw07.DentPlaces'. -/
def dentPlacesUptoCard : Claim7 := { stood := { row := dentPlacesUptoRow, standIns := [], harness := (true, "28e518601a95cc2489063f0d1a160899c69659ddbcc1fa2947c915190f1fd16f"), looks := false }, kinds := [], alts := [], laidByText := true, laidKinds := [.data, .data, .data], laidTests := true, laidLooks := .later }
def DentPlacesUptoCardSaid : Prop := Claim7.holds Tryd.pinned (.plain (OpenSpec.upto dentPlacesSpec)) dentPlacesUptoCard

/-- THE SECOND FORM's CARD OF 'wallgaugelaw07.DentClocks'. -/
def dentClocksUptoCard : Claim7 := { stood := { row := dentClocksUptoRow, standIns := [], harness := (true, "28e518601a95cc2489063f0d1a160899c69659ddbcc1fa2947c915190f1fd16f"), looks := false }, kinds := [], alts := [], laidByText := true, laidKinds := [.data, .data, .data], laidTests := true, laidLooks := .later }
def DentClocksUptoCardSaid : Prop := Claim7.holds Tryd.pinned (.plain (OpenSpec.upto dentClocksSpec)) dentClocksUptoCard

/-- THE SECOND FORM's CARD OF 'wallgaugelaw07.DentCloses'. -/
def dentClosesUptoCard : Claim7 := { stood := { row := dentClosesUptoRow, standIns := [], harness := (true, "28e518601a95cc2489063f0d1a160899c69659ddbcc1fa2947c915190f1fd16f"), looks := false }, kinds := [], alts := [], laidByText := true, laidKinds := [.data, .data, .data], laidTests := true, laidLooks := .later }
def DentClosesUptoCardSaid : Prop := Claim7.holds Tryd.pinned (.plain (OpenSpec.upto dentClosesSpec)) dentClosesUptoCard

/-- THE SECOND FORM's CARD OF 'wallgaugelaw07.DentDrifts'. -/
def dentDriftsUptoCard : Claim7 := { stood := { row := dentDriftsUptoRow, standIns := [], harness := (true, "28e518601a95cc2489063f0d1a160899c69659ddbcc1fa2947c915190f1fd16f"), looks := false }, kinds := [], alts := [], laidByText := true, laidKinds := [.data, .data, .data], laidTests := true, laidLooks := .later }
def DentDriftsUptoCardSaid : Prop := Claim7.holds Tryd.pinned (.plain (OpenSpec.upto dentDriftsSpec)) dentDriftsUptoCard
end Rows
end Go.Proofs.YtdibljidagiblaaDoor
