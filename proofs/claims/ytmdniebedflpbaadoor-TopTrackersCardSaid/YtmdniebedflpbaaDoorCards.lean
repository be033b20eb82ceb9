/-
  DERIVED. GIVEN WITH THE SEED: THE CARDS: each row of YtmdniebedflpbaaDoorRows.lean that lists a variable, with what it lists TIED to the program's text (the seventh form; the later family's looks); each row that meets fmt, with fmt's text TOLD by the authors' own Lean function (tested against real Go, not proved from fmt's source: count such statements apart). THE CARD IS WHAT COUNTS. Prove the row's statement (the work); the ties are given (YtmdniebedflpbaaDoorTie.lean); close each card by the builder's one call (the guide's Derived/Test/ToyasCard.lean, 'card_holds'). Laid BY PROGRAM, IN A SANDBOX (cutbox-door.mjs). By AI agents, Wed Nov 11 2026. No macro, syntax, notation, axiom, sorry.
-/
import Derived.Test.YtmdniebedflpbaaDoorRows
import GoSem.ClaimSeven
namespace Go.Proofs.YtmdniebedflpbaaDoor
namespace Rows

/-- THE TIED CARD OF 'wallgaugetop.TopTrackers'. -/
def topTrackersCard : Claim7 := { stood := { row := topTrackersRow, standIns := [], harness := (true, "b19da595138e1061f78f14f0287db358845d60f682d7846fa6b6b1d5f4969ef4"), looks := false }, kinds := [], alts := [], laidByText := true, laidKinds := [.data, .data, .data], laidTests := true, laidLooks := .later }
def TopTrackersCardSaid : Prop := Claim7.holds Tryd.pinned (.plain (OpenSpec.ofChange topTrackersSpec)) topTrackersCard

/-- THE SECOND FORM's CARD OF 'wallgaugetop.TopTrackers'. -/
def topTrackersUptoCard : Claim7 := { stood := { row := topTrackersUptoRow, standIns := [], harness := (true, "b19da595138e1061f78f14f0287db358845d60f682d7846fa6b6b1d5f4969ef4"), looks := false }, kinds := [], alts := [], laidByText := true, laidKinds := [.data, .data, .data], laidTests := true, laidLooks := .later }
def TopTrackersUptoCardSaid : Prop := Claim7.holds Tryd.pinned (.plain (OpenSpec.upto topTrackersSpec)) topTrackersUptoCard
end Rows
end Go.Proofs.YtmdniebedflpbaaDoor
