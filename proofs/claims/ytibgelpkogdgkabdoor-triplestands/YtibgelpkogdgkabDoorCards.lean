/-
  DERIVED. GIVEN WITH THE SEED: THE CARDS: each row of YtibgelpkogdgkabDoorRows.lean that lists a variable, with what it lists TIED to the program's text (the seventh form; the later family's looks); each row that meets fmt, with fmt's text TOLD by the authors' own Lean function (tested against real Go, not proved from fmt's source: count such statements apart). THE CARD IS WHAT COUNTS. Prove the row's statement (the work); the ties are given (YtibgelpkogdgkabDoorTie.lean); close each card by the builder's one call (the guide's Derived/Test/ToyasCard.lean, 'card_holds'). Laid BY PROGRAM, IN A SANDBOX (cutbox-door.mjs). By AI agents, Wed Nov 11 2026. No macro, syntax, notation, axiom, sorry.
-/
import Derived.Test.YtibgelpkogdgkabDoorRows
import GoSem.ClaimSeven
namespace Go.Proofs.YtibgelpkogdgkabDoor
namespace Rows

/-- THE TIED CARD OF 'stratalaw4.TripleStands'. -/
def tripleStandsCard : Claim7 := { stood := { row := tripleStandsRow, standIns := [], harness := (true, "a2edf5d4960b121a10ee3268ecbcf088a960b8b054a7c8619a0846b0ca42f228"), looks := true }, kinds := [], alts := [], laidByText := true, laidKinds := [.handle], laidTests := true, laidLooks := .later }
def TripleStandsCardSaid : Prop := Claim7.holds Tryd.pinned (.plain (OpenSpec.ofChange tripleStandsSpec)) tripleStandsCard

/-- THE SECOND FORM's CARD OF 'stratalaw4.TripleStands'. -/
def tripleStandsUptoCard : Claim7 := { stood := { row := tripleStandsUptoRow, standIns := [], harness := (true, "a2edf5d4960b121a10ee3268ecbcf088a960b8b054a7c8619a0846b0ca42f228"), looks := true }, kinds := [], alts := [], laidByText := true, laidKinds := [.handle], laidTests := true, laidLooks := .later }
def TripleStandsUptoCardSaid : Prop := Claim7.holds Tryd.pinned (.plain (OpenSpec.upto tripleStandsSpec)) tripleStandsUptoCard
end Rows
end Go.Proofs.YtibgelpkogdgkabDoor
