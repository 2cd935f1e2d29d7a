/-
  DERIVED. GIVEN WITH THE SEED: THE CARDS: each row of YtkeholipklfnbabDoorRows.lean that lists a variable, with what it lists TIED to the program's text (the seventh form; the later family's looks); each row that meets fmt, with fmt's text TOLD by the authors' own Lean function (tested against real Go, not proved from fmt's source: count such statements apart). THE CARD IS WHAT COUNTS. Prove the row's statement (the work); the ties are given (YtkeholipklfnbabDoorTie.lean); close each card by the builder's one call (the guide's Derived/Test/ToyasCard.lean, 'card_holds'). Laid BY PROGRAM, IN A SANDBOX (cutbox-door.mjs). By AI agents, Wed Nov 11 2026. No macro, syntax, notation, axiom, sorry.
-/
import Derived.Test.YtkeholipklfnbabDoorRows
import GoSem.ClaimSeven
namespace Go.Proofs.YtkeholipklfnbabDoor
namespace Rows

/-- THE TIED CARD OF 'stratalaw4.TripleStands'. -/
def tripleStandsCard : Claim7 := { stood := { row := tripleStandsRow, standIns := [], harness := (true, "dcc4e47b12dc1edfb91b6ae19fe9243c8317fa485d41c3d2c3fc339505bb3fdc"), looks := true }, kinds := [], alts := [], laidByText := true, laidKinds := [.handle], laidTests := true, laidLooks := .later }
def TripleStandsCardSaid : Prop := Claim7.holds Tryd.pinned (.plain (OpenSpec.ofChange tripleStandsSpec)) tripleStandsCard

/-- THE TIED CARD OF 'stratalaw4.DictFull'. -/
def dictFullCard : Claim7 := { stood := { row := dictFullRow, standIns := [], harness := (true, "dcc4e47b12dc1edfb91b6ae19fe9243c8317fa485d41c3d2c3fc339505bb3fdc"), looks := true }, kinds := [], alts := [], laidByText := true, laidKinds := [.handle], laidTests := true, laidLooks := .later }
def DictFullCardSaid : Prop := Claim7.holds Tryd.pinned (.plain (OpenSpec.ofChange dictFullSpec)) dictFullCard

/-- THE SECOND FORM's CARD OF 'stratalaw4.TripleStands'. -/
def tripleStandsUptoCard : Claim7 := { stood := { row := tripleStandsUptoRow, standIns := [], harness := (true, "dcc4e47b12dc1edfb91b6ae19fe9243c8317fa485d41c3d2c3fc339505bb3fdc"), looks := true }, kinds := [], alts := [], laidByText := true, laidKinds := [.handle], laidTests := true, laidLooks := .later }
def TripleStandsUptoCardSaid : Prop := Claim7.holds Tryd.pinned (.plain (OpenSpec.upto tripleStandsSpec)) tripleStandsUptoCard

/-- THE SECOND FORM's CARD OF 'stratalaw4.DictFull'. -/
def dictFullUptoCard : Claim7 := { stood := { row := dictFullUptoRow, standIns := [], harness := (true, "dcc4e47b12dc1edfb91b6ae19fe9243c8317fa485d41c3d2c3fc339505bb3fdc"), looks := true }, kinds := [], alts := [], laidByText := true, laidKinds := [.handle], laidTests := true, laidLooks := .later }
def DictFullUptoCardSaid : Prop := Claim7.holds Tryd.pinned (.plain (OpenSpec.upto dictFullSpec)) dictFullUptoCard
end Rows
end Go.Proofs.YtkeholipklfnbabDoor
