/- A text that is a triple; Print in one contract. -/
import Derived.Test.YtnlcfnpcjkcdmaaGreatDoorTripleGood
import Derived.Test.YtnlcfnpcjkcdmaaGreatDoorTripleParse
namespace Go.Proofs.YtnlcfnpcjkcdmaaGreatDoor
open Go Go.RowKit Go.Proofs Go.Sort
set_option synthInstance.maxSize 1000

def factTr : Tr := ⟨⟨1, [97], []⟩, ⟨1, [98], []⟩, ⟨3, [99, 32, 100], []⟩⟩
theorem fact_parse : tparseN [97, 32, 98, 32, 34, 99, 32, 100, 34] = 0 ∧ tparseT [97, 32, 98, 32, 34, 99, 32, 100, 34] = factTr := by
  have h : chkTr factTr = 0 := by decide
  exact tparse_show factTr h
theorem show_len3 (x : Tr) (h : chkTr x = 0) : (showTr x).length ≤ 140737488355328 := by
  obtain ⟨h1, h2, h3, _⟩ := chk_zero h
  have a := show_short _ _ _ h1
  have b := show_short _ _ _ h2
  have c := show_short _ _ _ h3
  simp [showTr, joinUpto]
  omega

def printTr (x : Tr) : List UInt8 := if chkTr x = 0 then showTr x else []
theorem TPrint_any (x : Tr) (w : World) (hx : fitTr x) : Calls Tryz.prog 8 #[valTr x] w fun e w' => e = .returned (.tuple #[.string ⟨(printTr x).toArray⟩, errV (chkTr x)]) ∧ RowKit.Below w.heap.size w w' := by
  by_cases h : chkTr x = 0
  · have e : printTr x = showTr x := if_pos h
    rw [e, h]
    exact TPrint_good x w hx h
  · have e : printTr x = [] := if_neg h
    rw [e]
    exact TPrint_bad x w hx h
end Go.Proofs.YtnlcfnpcjkcdmaaGreatDoor
