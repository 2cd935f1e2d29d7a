/- DagHolds, its tail: two on one line have the elder one; either way round the same. -/
import Derived.Test.YtackdedbphfaeafDagHoldsPlain
import Derived.Test.YtackdedbphfaeafSameNat
import Derived.Test.YtackdedbphfaeafCodeCut
import Derived.Deep.DeepCutAuto
namespace Go.Proofs.Ytackdedbphfaeaf
open Go Go.RowKit Go.Proofs
set_option synthInstance.maxSize 1000

def HoldAns (w : World) (e : Ending) (w' : World) : Prop := e = .returned (.bool true) ∧ RowKit.Below w.heap.size w w'
theorem two_good {l : List Cm} (hG : GoodC l) {i j : Nat} (hi : i < l.length) (hj : j < l.length) : twoE l (i : Int) (j : Int) = 0 :=
  twoE_zero.2 ⟨ancE_good hG (by omega) (by omega), ancE_good hG (by omega) (by omega)⟩
theorem SlI.natD {W : World} {ad : Option Addr} {m : List Nat} (h : SlI W ad (natI m)) {k : Nat} (hk : k < m.length) : ∃ b o, ad = some ⟨b, o, none⟩ ∧ W.cell? ⟨b, o + k, none⟩ = some (.int .i64 ((m.getD k 0 : Nat) : Int)) := by
  obtain ⟨b, o, e, h1⟩ := h.at (j := k) (by simpa [natI] using hk)
  refine ⟨b, o, e, h1.trans ?_⟩
  rw [List.getD_eq_getElem?_getD, List.getElem?_eq_getElem hk]
  simp [natI]
end Go.Proofs.Ytackdedbphfaeaf
