/-
  DERIVED. GIVEN WITH THE SEED: THE CARDS: each row of YtkeholipklfnbabGreatDoorRows.lean that lists a variable, with what it lists TIED to the program's text (the seventh form; the later family's looks); each row that meets fmt, with fmt's text TOLD by the authors' own Lean function (tested against real Go, not proved from fmt's source: count such statements apart). THE CARD IS WHAT COUNTS. Prove the row's statement (the work); the ties are given (YtkeholipklfnbabGreatDoorTie.lean); close each card by the builder's one call (the guide's Derived/Test/ToyasCard.lean, 'card_holds'). Laid BY PROGRAM, IN A SANDBOX (cutbox-door.mjs). By AI agents, Wed Nov 11 2026. No macro, syntax, notation, axiom, sorry.
-/
import Derived.Test.YtkeholipklfnbabGreatDoorRows
import GoSem.ClaimSeven
namespace Go.Proofs.YtkeholipklfnbabGreatDoor
namespace Rows

/-- THE TIED CARD OF 'stratalaw1.SetTells'. -/
def setTellsCard : Claim7 := { stood := { row := setTellsRow, standIns := [], harness := (true, "0121173b11ad808a7488841d5fb3d768d5bea14c887107120af128ba8ead10e7"), looks := true }, kinds := [], alts := [], laidByText := true, laidKinds := [.handle], laidTests := true, laidLooks := .later }
def SetTellsCardSaid : Prop := Claim7.holds Tryz.pinned (.plain (OpenSpec.ofChange setTellsSpec)) setTellsCard

/-- THE TIED CARD OF 'stratalaw4.SetFull'. -/
def setFullCard : Claim7 := { stood := { row := setFullRow, standIns := [], harness := (true, "0121173b11ad808a7488841d5fb3d768d5bea14c887107120af128ba8ead10e7"), looks := true }, kinds := [], alts := [], laidByText := true, laidKinds := [.handle], laidTests := true, laidLooks := .later }
def SetFullCardSaid : Prop := Claim7.holds Tryz.pinned (.plain (OpenSpec.ofChange setFullSpec)) setFullCard

/-- THE SECOND FORM's CARD OF 'stratalaw1.SetTells'. -/
def setTellsUptoCard : Claim7 := { stood := { row := setTellsUptoRow, standIns := [], harness := (true, "0121173b11ad808a7488841d5fb3d768d5bea14c887107120af128ba8ead10e7"), looks := true }, kinds := [], alts := [], laidByText := true, laidKinds := [.handle], laidTests := true, laidLooks := .later }
def SetTellsUptoCardSaid : Prop := Claim7.holds Tryz.pinned (.plain (OpenSpec.upto setTellsSpec)) setTellsUptoCard

/-- THE SECOND FORM's CARD OF 'stratalaw4.SetFull'. -/
def setFullUptoCard : Claim7 := { stood := { row := setFullUptoRow, standIns := [], harness := (true, "0121173b11ad808a7488841d5fb3d768d5bea14c887107120af128ba8ead10e7"), looks := true }, kinds := [], alts := [], laidByText := true, laidKinds := [.handle], laidTests := true, laidLooks := .later }
def SetFullUptoCardSaid : Prop := Claim7.holds Tryz.pinned (.plain (OpenSpec.upto setFullSpec)) setFullUptoCard
end Rows
end Go.Proofs.YtkeholipklfnbabGreatDoor
