/-
  DERIVED. GIVEN WITH THE SEED: THE CARDS: each row of YtjlifccaoncfcaaDoorRows.lean that lists a variable, with what it lists TIED to the program's text (the seventh form; the later family's looks); each row that meets fmt, with fmt's text TOLD by the authors' own Lean function (tested against real Go, not proved from fmt's source: count such statements apart). THE CARD IS WHAT COUNTS. Prove the row's statement (the work); the ties are given (YtjlifccaoncfcaaDoorTie.lean); close each card by the builder's one call (the guide's Derived/Test/ToyasCard.lean, 'card_holds'). Laid BY PROGRAM, IN A SANDBOX (cutbox-door.mjs). By AI agents, Wed Nov 11 2026. No macro, syntax, notation, axiom, sorry.
-/
import Derived.Test.YtjlifccaoncfcaaDoorRows
import GoSem.ClaimSeven
namespace Go.Proofs.YtjlifccaoncfcaaDoor
namespace Rows

/-- THE TIED CARD OF 'stratalaw2.DagTells'. -/
def dagTellsCard : Claim7 := { stood := { row := dagTellsRow, standIns := [], harness := (true, "6ff7c9aa90c6f8a04fcd93f4dfa3ac20f980d00ae652d5a2cba14266f25dd554"), looks := true }, kinds := [], alts := [], laidByText := true, laidKinds := [.handle], laidTests := true, laidLooks := .later }
def DagTellsCardSaid : Prop := Claim7.holds Tryd.pinned (.plain (OpenSpec.ofChange dagTellsSpec)) dagTellsCard

/-- THE SECOND FORM's CARD OF 'stratalaw2.DagTells'. -/
def dagTellsUptoCard : Claim7 := { stood := { row := dagTellsUptoRow, standIns := [], harness := (true, "6ff7c9aa90c6f8a04fcd93f4dfa3ac20f980d00ae652d5a2cba14266f25dd554"), looks := true }, kinds := [], alts := [], laidByText := true, laidKinds := [.handle], laidTests := true, laidLooks := .later }
def DagTellsUptoCardSaid : Prop := Claim7.holds Tryd.pinned (.plain (OpenSpec.upto dagTellsSpec)) dagTellsUptoCard
end Rows
end Go.Proofs.YtjlifccaoncfcaaDoor
