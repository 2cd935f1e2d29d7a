/- The leaves of package term: which bytes may stand where. Each contract says what the call returns; the world is as it was. -/
import Derived.Test.YtackdedbphfaeafRows
import Derived.WalkKit
namespace Go.Proofs.Ytackdedbphfaeaf
open Go

/-- a letter a to z, a digit, and the three sets of bytes that the chapter names -/
def letB (n : Int) : Bool := decide (97 ≤ n ∧ n ≤ 122)
def digB (n : Int) : Bool := decide (48 ≤ n ∧ n ≤ 57)
def nameB (n : Int) : Bool := letB n || digB n || decide (n = 58 ∨ n = 47 ∨ n = 46)
def anonB (n : Int) : Bool := letB n || digB n
def textB (n : Int) : Bool := decide (32 ≤ n ∧ n ≤ 126)
def markB (n : Int) : Bool := decide (n = 34 ∨ n = 92)

theorem ret_bool {a b : Bool} (h : a = b) : Ending.returned (.bool a) = .returned (.bool b) := by rw [h]

end Go.Proofs.Ytackdedbphfaeaf
