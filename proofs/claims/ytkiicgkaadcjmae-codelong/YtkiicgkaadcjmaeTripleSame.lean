/- stratasame.Triples: are two lists the same? -/
import Derived.Test.YtkiicgkaadcjmaeTripleSort
import Derived.Deep.Draws
import Derived.RegionTactic
namespace Go.Proofs.Ytkiicgkaadcjmae
open Go Go.RowKit Go.Proofs
set_option synthInstance.maxSize 1000

attribute [local go_sem ↓] eqlTriple neqTriple

theorem bdN' (w : World) (q : Nat) : RowKit.Below w.heap.size w (w.drewN q) := ⟨rfl, rfl, rfl, Nat.le_refl _, fun _ _ => rfl⟩

theorem take_same {l m : List Tr} {k : Nat} (h : l.take k = m.take k) (hl : k < l.length) (hm : k < m.length) (e : l[k] = m[k]) : l.take (k + 1) = m.take (k + 1) := by
  rw [List.take_succ_eq_append_getElem hl, List.take_succ_eq_append_getElem hm, h, e]

end Go.Proofs.Ytkiicgkaadcjmae
