/-
  DERIVED. GIVEN WITH THE SEED: THE CARDS: each row of YtnlcfnpcjkcdmaaGreatDoorRows.lean that lists a variable, with what it lists TIED to the program's text (the seventh form; the later family's looks); each row that meets fmt, with fmt's text TOLD by the authors' own Lean function (tested against real Go, not proved from fmt's source: count such statements apart). THE CARD IS WHAT COUNTS. Prove the row's statement (the work); the ties are given (YtnlcfnpcjkcdmaaGreatDoorTie.lean); close each card by the builder's one call (the guide's Derived/Test/ToyasCard.lean, 'card_holds'). Laid BY PROGRAM, IN A SANDBOX (cutbox-door.mjs). By AI agents, Wed Nov 11 2026. No macro, syntax, notation, axiom, sorry.
-/
import Derived.Test.YtnlcfnpcjkcdmaaGreatDoorRows
import GoSem.ClaimSeven
namespace Go.Proofs.YtnlcfnpcjkcdmaaGreatDoor
namespace Rows

/-- THE TIED CARD OF 'stratalaw1.TripleTells'. -/
def tripleTellsCard : Claim7 := { stood := { row := tripleTellsRow, standIns := [], harness := (true, "9911dde6f54b1dcfdb3ec528a78a6eef5e9c20520e64203274fd70da6c5f2fb7"), looks := true }, kinds := [], alts := [], laidByText := true, laidKinds := [.handle], laidTests := true, laidLooks := .later }
def TripleTellsCardSaid : Prop := Claim7.holds Tryz.pinned (.plain (OpenSpec.ofChange tripleTellsSpec)) tripleTellsCard

/-- THE SECOND FORM's CARD OF 'stratalaw1.TripleTells'. -/
def tripleTellsUptoCard : Claim7 := { stood := { row := tripleTellsUptoRow, standIns := [], harness := (true, "9911dde6f54b1dcfdb3ec528a78a6eef5e9c20520e64203274fd70da6c5f2fb7"), looks := true }, kinds := [], alts := [], laidByText := true, laidKinds := [.handle], laidTests := true, laidLooks := .later }
def TripleTellsUptoCardSaid : Prop := Claim7.holds Tryz.pinned (.plain (OpenSpec.upto tripleTellsSpec)) tripleTellsUptoCard
end Rows
end Go.Proofs.YtnlcfnpcjkcdmaaGreatDoor
