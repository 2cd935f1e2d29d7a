/-
  DERIVED. GIVEN WITH THE SEED: THE CARDS: each row of YtpomdoelihmebaaGreatDoorRows.lean that lists a variable, with what it lists TIED to the program's text (the seventh form; the later family's looks); each row that meets fmt, with fmt's text TOLD by the authors' own Lean function (tested against real Go, not proved from fmt's source: count such statements apart). THE CARD IS WHAT COUNTS. Prove the row's statement (the work); the ties are given (YtpomdoelihmebaaGreatDoorTie.lean); close each card by the builder's one call (the guide's Derived/Test/ToyasCard.lean, 'card_holds'). Laid BY PROGRAM, IN A SANDBOX (cutbox-door.mjs). By AI agents, Wed Nov 11 2026. No macro, syntax, notation, axiom, sorry.
-/
import Derived.Test.YtpomdoelihmebaaGreatDoorRows
import GoSem.ClaimSeven
namespace Go.Proofs.YtpomdoelihmebaaGreatDoor
namespace Rows

/-- THE TIED CARD OF 'stratalaw4.RepoFull'. -/
def repoFullCard : Claim7 := { stood := { row := repoFullRow, standIns := [], harness := (true, "2d41ccab5f5c400fdd3dccb2507404bbc110d65722e2c115a99645ac1c8e0d4e"), looks := true }, kinds := [], alts := [], laidByText := true, laidKinds := [.handle], laidTests := true, laidLooks := .later }
def RepoFullCardSaid : Prop := Claim7.holds Tryz.pinned (.plain (OpenSpec.ofChange repoFullSpec)) repoFullCard

/-- THE TIED CARD OF 'stratalaw2.RepoPlays'. -/
def repoPlaysCard : Claim7 := { stood := { row := repoPlaysRow, standIns := [], harness := (true, "2d41ccab5f5c400fdd3dccb2507404bbc110d65722e2c115a99645ac1c8e0d4e"), looks := true }, kinds := [], alts := [], laidByText := true, laidKinds := [.handle], laidTests := true, laidLooks := .later }
def RepoPlaysCardSaid : Prop := Claim7.holds Tryz.pinned (.plain (OpenSpec.ofChange repoPlaysSpec)) repoPlaysCard

/-- THE SECOND FORM's CARD OF 'stratalaw4.RepoFull'. -/
def repoFullUptoCard : Claim7 := { stood := { row := repoFullUptoRow, standIns := [], harness := (true, "2d41ccab5f5c400fdd3dccb2507404bbc110d65722e2c115a99645ac1c8e0d4e"), looks := true }, kinds := [], alts := [], laidByText := true, laidKinds := [.handle], laidTests := true, laidLooks := .later }
def RepoFullUptoCardSaid : Prop := Claim7.holds Tryz.pinned (.plain (OpenSpec.upto repoFullSpec)) repoFullUptoCard

/-- THE SECOND FORM's CARD OF 'stratalaw2.RepoPlays'. -/
def repoPlaysUptoCard : Claim7 := { stood := { row := repoPlaysUptoRow, standIns := [], harness := (true, "2d41ccab5f5c400fdd3dccb2507404bbc110d65722e2c115a99645ac1c8e0d4e"), looks := true }, kinds := [], alts := [], laidByText := true, laidKinds := [.handle], laidTests := true, laidLooks := .later }
def RepoPlaysUptoCardSaid : Prop := Claim7.holds Tryz.pinned (.plain (OpenSpec.upto repoPlaysSpec)) repoPlaysUptoCard
end Rows
end Go.Proofs.YtpomdoelihmebaaGreatDoor
