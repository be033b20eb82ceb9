/-
  DERIVED. GIVEN WITH THE SEED: THE CARDS: each row of YtlphlbgbbblnpaaGreatDoorRows.lean that lists a variable, with what it lists TIED to the program's text (the seventh form; the later family's looks); each row that meets fmt, with fmt's text TOLD by the authors' own Lean function (tested against real Go, not proved from fmt's source: count such statements apart). THE CARD IS WHAT COUNTS. Prove the row's statement (the work); the ties are given (YtlphlbgbbblnpaaGreatDoorTie.lean); close each card by the builder's one call (the guide's Derived/Test/ToyasCard.lean, 'card_holds'). Laid BY PROGRAM, IN A SANDBOX (cutbox-door.mjs). By AI agents, Wed Nov 11 2026. No macro, syntax, notation, axiom, sorry.
-/
import Derived.Test.YtlphlbgbbblnpaaGreatDoorRows
import GoSem.ClaimSeven
namespace Go.Proofs.YtlphlbgbbblnpaaGreatDoor
namespace Rows

/-- THE TIED CARD OF 'wallgaugelaw09.StrengthJoins'. -/
def strengthJoinsCard : Claim7 := { stood := { row := strengthJoinsRow, standIns := [], harness := (true, "a9313fae8ec38af326d0b0838d073377582cfd97399af7b16cb2f98d7748630d"), looks := false }, kinds := [], alts := [], laidByText := true, laidKinds := [.data, .data, .data], laidTests := true, laidLooks := .later }
def StrengthJoinsCardSaid : Prop := Claim7.holds Tryz.pinned (.plain (OpenSpec.ofChange strengthJoinsSpec)) strengthJoinsCard

/-- THE TIED CARD OF 'wallgaugelaw09.StrengthNarrow'. -/
def strengthNarrowCard : Claim7 := { stood := { row := strengthNarrowRow, standIns := [], harness := (true, "a9313fae8ec38af326d0b0838d073377582cfd97399af7b16cb2f98d7748630d"), looks := false }, kinds := [], alts := [], laidByText := true, laidKinds := [.data, .data, .data], laidTests := true, laidLooks := .later }
def StrengthNarrowCardSaid : Prop := Claim7.holds Tryz.pinned (.plain (OpenSpec.ofChange strengthNarrowSpec)) strengthNarrowCard

/-- THE TIED CARD OF 'wallgaugelaw09.StrengthCracks'. -/
def strengthCracksCard : Claim7 := { stood := { row := strengthCracksRow, standIns := [], harness := (true, "a9313fae8ec38af326d0b0838d073377582cfd97399af7b16cb2f98d7748630d"), looks := false }, kinds := [], alts := [], laidByText := true, laidKinds := [.data, .data, .data], laidTests := true, laidLooks := .later }
def StrengthCracksCardSaid : Prop := Claim7.holds Tryz.pinned (.plain (OpenSpec.ofChange strengthCracksSpec)) strengthCracksCard

/-- THE TIED CARD OF 'wallgaugelaw09.StrengthLeaves'. -/
def strengthLeavesCard : Claim7 := { stood := { row := strengthLeavesRow, standIns := [], harness := (true, "a9313fae8ec38af326d0b0838d073377582cfd97399af7b16cb2f98d7748630d"), looks := false }, kinds := [], alts := [], laidByText := true, laidKinds := [.data, .data, .data], laidTests := true, laidLooks := .later }
def StrengthLeavesCardSaid : Prop := Claim7.holds Tryz.pinned (.plain (OpenSpec.ofChange strengthLeavesSpec)) strengthLeavesCard

/-- THE TIED CARD OF 'wallgaugelaw09.StrengthBounds'. -/
def strengthBoundsCard : Claim7 := { stood := { row := strengthBoundsRow, standIns := [], harness := (true, "a9313fae8ec38af326d0b0838d073377582cfd97399af7b16cb2f98d7748630d"), looks := false }, kinds := [], alts := [], laidByText := true, laidKinds := [.data, .data, .data], laidTests := true, laidLooks := .later }
def StrengthBoundsCardSaid : Prop := Claim7.holds Tryz.pinned (.plain (OpenSpec.ofChange strengthBoundsSpec)) strengthBoundsCard

/-- THE TIED CARD OF 'wallgaugetop.TopPlan'. -/
def topPlanCard : Claim7 := { stood := { row := topPlanRow, standIns := [], harness := (true, "a9313fae8ec38af326d0b0838d073377582cfd97399af7b16cb2f98d7748630d"), looks := false }, kinds := [], alts := [], laidByText := true, laidKinds := [.data, .data, .data], laidTests := true, laidLooks := .later }
def TopPlanCardSaid : Prop := Claim7.holds Tryz.pinned (.plain (OpenSpec.ofChange topPlanSpec)) topPlanCard

/-- THE SECOND FORM's CARD OF 'wallgaugelaw09.StrengthJoins'. -/
def strengthJoinsUptoCard : Claim7 := { stood := { row := strengthJoinsUptoRow, standIns := [], harness := (true, "a9313fae8ec38af326d0b0838d073377582cfd97399af7b16cb2f98d7748630d"), looks := false }, kinds := [], alts := [], laidByText := true, laidKinds := [.data, .data, .data], laidTests := true, laidLooks := .later }
def StrengthJoinsUptoCardSaid : Prop := Claim7.holds Tryz.pinned (.plain (OpenSpec.upto strengthJoinsSpec)) strengthJoinsUptoCard

/-- THE SECOND FORM's CARD OF 'wallgaugelaw09.StrengthNarrow'. -/
def strengthNarrowUptoCard : Claim7 := { stood := { row := strengthNarrowUptoRow, standIns := [], harness := (true, "a9313fae8ec38af326d0b0838d073377582cfd97399af7b16cb2f98d7748630d"), looks := false }, kinds := [], alts := [], laidByText := true, laidKinds := [.data, .data, .data], laidTests := true, laidLooks := .later }
def StrengthNarrowUptoCardSaid : Prop := Claim7.holds Tryz.pinned (.plain (OpenSpec.upto strengthNarrowSpec)) strengthNarrowUptoCard

/-- THE SECOND FORM's CARD OF 'wallgaugelaw09.StrengthCracks'. -/
def strengthCracksUptoCard : Claim7 := { stood := { row := strengthCracksUptoRow, standIns := [], harness := (true, "a9313fae8ec38af326d0b0838d073377582cfd97399af7b16cb2f98d7748630d"), looks := false }, kinds := [], alts := [], laidByText := true, laidKinds := [.data, .data, .data], laidTests := true, laidLooks := .later }
def StrengthCracksUptoCardSaid : Prop := Claim7.holds Tryz.pinned (.plain (OpenSpec.upto strengthCracksSpec)) strengthCracksUptoCard

/-- THE SECOND FORM's CARD OF 'wallgaugelaw09.StrengthLeaves'. -/
def strengthLeavesUptoCard : Claim7 := { stood := { row := strengthLeavesUptoRow, standIns := [], harness := (true, "a9313fae8ec38af326d0b0838d073377582cfd97399af7b16cb2f98d7748630d"), looks := false }, kinds := [], alts := [], laidByText := true, laidKinds := [.data, .data, .data], laidTests := true, laidLooks := .later }
def StrengthLeavesUptoCardSaid : Prop := Claim7.holds Tryz.pinned (.plain (OpenSpec.upto strengthLeavesSpec)) strengthLeavesUptoCard

/-- THE SECOND FORM's CARD OF 'wallgaugelaw09.StrengthBounds'. -/
def strengthBoundsUptoCard : Claim7 := { stood := { row := strengthBoundsUptoRow, standIns := [], harness := (true, "a9313fae8ec38af326d0b0838d073377582cfd97399af7b16cb2f98d7748630d"), looks := false }, kinds := [], alts := [], laidByText := true, laidKinds := [.data, .data, .data], laidTests := true, laidLooks := .later }
def StrengthBoundsUptoCardSaid : Prop := Claim7.holds Tryz.pinned (.plain (OpenSpec.upto strengthBoundsSpec)) strengthBoundsUptoCard

/-- THE SECOND FORM's CARD OF 'wallgaugetop.TopPlan'. -/
def topPlanUptoCard : Claim7 := { stood := { row := topPlanUptoRow, standIns := [], harness := (true, "a9313fae8ec38af326d0b0838d073377582cfd97399af7b16cb2f98d7748630d"), looks := false }, kinds := [], alts := [], laidByText := true, laidKinds := [.data, .data, .data], laidTests := true, laidLooks := .later }
def TopPlanUptoCardSaid : Prop := Claim7.holds Tryz.pinned (.plain (OpenSpec.upto topPlanSpec)) topPlanUptoCard
end Rows
end Go.Proofs.YtlphlbgbbblnpaaGreatDoor
