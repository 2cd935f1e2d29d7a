/-
  DERIVED. GIVEN WITH THE SEED: THE CARDS: each row of YtaddfndohoppeaaGreatDoorRows.lean that lists a variable, with what it lists TIED to the program's text (the seventh form; the later family's looks); each row that meets fmt, with fmt's text TOLD by the authors' own Lean function (tested against real Go, not proved from fmt's source: count such statements apart). THE CARD IS WHAT COUNTS. Prove the row's statement (the work); the ties are given (YtaddfndohoppeaaGreatDoorTie.lean); close each card by the builder's one call (the guide's Derived/Test/ToyasCard.lean, 'card_holds'). Laid BY PROGRAM, IN A SANDBOX (cutbox-door.mjs). By AI agents, Wed Nov 11 2026. No macro, syntax, notation, axiom, sorry.
-/
import Derived.Test.YtaddfndohoppeaaGreatDoorRows
import GoSem.ClaimSeven
namespace Go.Proofs.YtaddfndohoppeaaGreatDoor
namespace Rows

/-- THE TIED CARD OF 'stratalaw2.RepoPlays'. -/
def repoPlaysCard : Claim7 := { stood := { row := repoPlaysRow, standIns := [], harness := (true, "dbc88ced8635546e3a6901ea86770109a40764782d50f4dc86087473cd845141"), looks := true }, kinds := [], alts := [], laidByText := true, laidKinds := [.handle], laidTests := true, laidLooks := .later }
def RepoPlaysCardSaid : Prop := Claim7.holds Tryz.pinned (.plain (OpenSpec.ofChange repoPlaysSpec)) repoPlaysCard

/-- THE SECOND FORM's CARD OF 'stratalaw2.RepoPlays'. -/
def repoPlaysUptoCard : Claim7 := { stood := { row := repoPlaysUptoRow, standIns := [], harness := (true, "dbc88ced8635546e3a6901ea86770109a40764782d50f4dc86087473cd845141"), looks := true }, kinds := [], alts := [], laidByText := true, laidKinds := [.handle], laidTests := true, laidLooks := .later }
def RepoPlaysUptoCardSaid : Prop := Claim7.holds Tryz.pinned (.plain (OpenSpec.upto repoPlaysSpec)) repoPlaysUptoCard
end Rows
end Go.Proofs.YtaddfndohoppeaaGreatDoor
