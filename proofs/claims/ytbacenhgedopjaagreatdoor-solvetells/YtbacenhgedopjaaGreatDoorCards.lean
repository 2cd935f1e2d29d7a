/-
  DERIVED. GIVEN WITH THE SEED: THE CARDS: each row of YtbacenhgedopjaaGreatDoorRows.lean that lists a variable, with what it lists TIED to the program's text (the seventh form; the later family's looks); each row that meets fmt, with fmt's text TOLD by the authors' own Lean function (tested against real Go, not proved from fmt's source: count such statements apart). THE CARD IS WHAT COUNTS. Prove the row's statement (the work); the ties are given (YtbacenhgedopjaaGreatDoorTie.lean); close each card by the builder's one call (the guide's Derived/Test/ToyasCard.lean, 'card_holds'). Laid BY PROGRAM, IN A SANDBOX (cutbox-door.mjs). By AI agents, Wed Nov 11 2026. No macro, syntax, notation, axiom, sorry.
-/
import Derived.Test.YtbacenhgedopjaaGreatDoorRows
import GoSem.ClaimSeven
namespace Go.Proofs.YtbacenhgedopjaaGreatDoor
namespace Rows

/-- THE TIED CARD OF 'stratalaw2.SolveTells'. -/
def solveTellsCard : Claim7 := { stood := { row := solveTellsRow, standIns := [], harness := (true, "09f3c1170a3521556ffc205229dd0096a8c2dabf5b0e7e5f71403e0ff0eaad06"), looks := true }, kinds := [], alts := [], laidByText := true, laidKinds := [.handle], laidTests := true, laidLooks := .later }
def SolveTellsCardSaid : Prop := Claim7.holds Tryz.pinned (.plain (OpenSpec.ofChange solveTellsSpec)) solveTellsCard

/-- THE SECOND FORM's CARD OF 'stratalaw2.SolveTells'. -/
def solveTellsUptoCard : Claim7 := { stood := { row := solveTellsUptoRow, standIns := [], harness := (true, "09f3c1170a3521556ffc205229dd0096a8c2dabf5b0e7e5f71403e0ff0eaad06"), looks := true }, kinds := [], alts := [], laidByText := true, laidKinds := [.handle], laidTests := true, laidLooks := .later }
def SolveTellsUptoCardSaid : Prop := Claim7.holds Tryz.pinned (.plain (OpenSpec.upto solveTellsSpec)) solveTellsUptoCard
end Rows
end Go.Proofs.YtbacenhgedopjaaGreatDoor
