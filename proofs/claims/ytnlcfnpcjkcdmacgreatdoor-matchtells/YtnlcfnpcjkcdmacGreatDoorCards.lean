/-
  DERIVED. GIVEN WITH THE SEED: THE CARDS: each row of YtnlcfnpcjkcdmacGreatDoorRows.lean that lists a variable, with what it lists TIED to the program's text (the seventh form; the later family's looks); each row that meets fmt, with fmt's text TOLD by the authors' own Lean function (tested against real Go, not proved from fmt's source: count such statements apart). THE CARD IS WHAT COUNTS. Prove the row's statement (the work); the ties are given (YtnlcfnpcjkcdmacGreatDoorTie.lean); close each card by the builder's one call (the guide's Derived/Test/ToyasCard.lean, 'card_holds'). Laid BY PROGRAM, IN A SANDBOX (cutbox-door.mjs). By AI agents, Wed Nov 11 2026. No macro, syntax, notation, axiom, sorry.
-/
import Derived.Test.YtnlcfnpcjkcdmacGreatDoorRows
import GoSem.ClaimSeven
namespace Go.Proofs.YtnlcfnpcjkcdmacGreatDoor
namespace Rows

/-- THE TIED CARD OF 'stratalaw1.MatchTells'. -/
def matchTellsCard : Claim7 := { stood := { row := matchTellsRow, standIns := [], harness := (true, "2b4b1b528d2a3d2a2d98b964e2f294c1e95ab8519f05d9bf6219c5e177a8beb2"), looks := true }, kinds := [], alts := [], laidByText := true, laidKinds := [.handle], laidTests := true, laidLooks := .later }
def MatchTellsCardSaid : Prop := Claim7.holds Tryz.pinned (.plain (OpenSpec.ofChange matchTellsSpec)) matchTellsCard

/-- THE TIED CARD OF 'stratalaw1.LayerTells'. -/
def layerTellsCard : Claim7 := { stood := { row := layerTellsRow, standIns := [], harness := (true, "2b4b1b528d2a3d2a2d98b964e2f294c1e95ab8519f05d9bf6219c5e177a8beb2"), looks := true }, kinds := [], alts := [], laidByText := true, laidKinds := [.handle], laidTests := true, laidLooks := .later }
def LayerTellsCardSaid : Prop := Claim7.holds Tryz.pinned (.plain (OpenSpec.ofChange layerTellsSpec)) layerTellsCard

/-- THE SECOND FORM's CARD OF 'stratalaw1.MatchTells'. -/
def matchTellsUptoCard : Claim7 := { stood := { row := matchTellsUptoRow, standIns := [], harness := (true, "2b4b1b528d2a3d2a2d98b964e2f294c1e95ab8519f05d9bf6219c5e177a8beb2"), looks := true }, kinds := [], alts := [], laidByText := true, laidKinds := [.handle], laidTests := true, laidLooks := .later }
def MatchTellsUptoCardSaid : Prop := Claim7.holds Tryz.pinned (.plain (OpenSpec.upto matchTellsSpec)) matchTellsUptoCard

/-- THE SECOND FORM's CARD OF 'stratalaw1.LayerTells'. -/
def layerTellsUptoCard : Claim7 := { stood := { row := layerTellsUptoRow, standIns := [], harness := (true, "2b4b1b528d2a3d2a2d98b964e2f294c1e95ab8519f05d9bf6219c5e177a8beb2"), looks := true }, kinds := [], alts := [], laidByText := true, laidKinds := [.handle], laidTests := true, laidLooks := .later }
def LayerTellsUptoCardSaid : Prop := Claim7.holds Tryz.pinned (.plain (OpenSpec.upto layerTellsSpec)) layerTellsUptoCard
end Rows
end Go.Proofs.YtnlcfnpcjkcdmacGreatDoor
