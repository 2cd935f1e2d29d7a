/- DictPlays' code, in pieces. -/
import Derived.Test.YtkeholipklfnbacDoorPlaysTools
namespace Go.Proofs.YtkeholipklfnbacDoor
open Go Go.RowKit Go.Proofs Go.Maps

/-- the first region of a piece of code, and the piece that begins with one -/
def leftmost : Code → Option Nat
  | .region n _ _ => some n
  | .seq a _ => leftmost a
  | .block _ c => leftmost c
  | .loop c => leftmost c
  | .scope c => leftmost c
  | _ => none
def findAt (n : Nat) : Code → Option Code
  | .region m o b => if m = n then some (.region m o b) else none
  | .seq a b => if leftmost a = some n then some (.seq a b) else match findAt n a with
    | some c => some c
    | none => findAt n b
  | .block m c => if leftmost c = some n then some (.block m c) else findAt n c
  | .loop c => if leftmost c = some n then some (.loop c) else findAt n c
  | .scope c => if leftmost c = some n then some (.scope c) else findAt n c
  | .cond _ a b => match findAt n a with
    | some c => some c
    | none => findAt n b
  | _ => none
def codeOf (b : Option Code) (n : Nat) : Code := ((b.bind (findAt n)).getD .skip)
def inner : Code → Code
  | .seq (.block _ c) _ => c
  | _ => .skip
theorem go_on {P : Program} {c : Code} {Q0 : Exit → Act → World → Prop} {K : Act → World → Prop} {a : Act} {w : World} (h : ∀ a w, Code.wp P c Q0 a w → K a w) (hc : Code.wp P c Q0 a w) : K a w := h a w hc
/-- what the walk has in hand: the dict, the list, and all that was there -/
def Hold (w : World) (n0 : Nat) (v : Value) (L : List Tm) (W : World) : Prop := DictAt W n0 L ∧ OwnL W n0 v L ∧ RowKit.Below w.heap.size w W
theorem Hold.below {w W W' : World} {n0 : Nat} {v : Value} {L : List Tm} (h : Hold w n0 v L W) (hb : RowKit.Below W.heap.size W W') : Hold w n0 v L W' := ⟨h.1.below hb, h.2.1.below hb, bstep h.2.2 hb⟩

theorem Hold.put {w W : World} {n0 : Nat} {v : Value} {L : List Tm} (h : Hold w n0 v L W) {p : Addr} (u : Value) (hp : n0 + 3 ≤ p.block) (hw : w.heap.size ≤ p.block) (hv : v.ownBlock ≠ some p.block) : Hold w n0 v L (W.setCell p u) := by
  refine ⟨h.1.put u hp, ?_, h.2.2.setCell hw u⟩
  obtain ⟨h1, h2⟩ := h.2.1
  refine ⟨h1, ?_⟩
  rcases h2 with h2 | ⟨g, cap, cur, rfl, hg, hm, r⟩
  · exact .inl h2
  · exact .inr ⟨g, cap, cur, rfl, hg, (RowKit.Below.heap_setCell W p u g (fun e => hv (by rw [← e]; rfl))).trans hm, r⟩
def askJ (q : List Int) (j : Nat) : Int := q.getD j 0
theorem askJ_at {q : List Int} {j : Nat} (h : j < q.length) : askJ q j = q[j] := by
  unfold askJ
  rw [List.getD_eq_getElem?_getD, List.getElem?_eq_getElem h]
  rfl
theorem askJ_out {q : List Int} {j : Nat} (h : ¬ j < q.length) : askJ q j = 0 := by
  unfold askJ
  rw [List.getD_eq_getElem?_getD, List.getElem?_eq_none (by omega)]
  rfl

end Go.Proofs.YtkeholipklfnbacDoor
