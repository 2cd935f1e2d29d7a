/- What DictPlays' walk carries. -/
import Derived.Test.YtkeholipklfnbacDoorPlaysPlain
import Derived.Test.YtkeholipklfnbacDoorRefTripleD
import Derived.Test.YtkeholipklfnbacDoorAs
namespace Go.Proofs.YtkeholipklfnbacDoor
open Go Go.RowKit Go.Proofs Go.Maps
set_option synthInstance.maxSize 1000

/-- the row of the document's list -/
abbrev OwnL (W : World) (n0 : Nat) (v : Value) (L : List Tm) : Prop := W.ownsRow (n0 + 3) 29 3 v L.length (cellsM L)
/-- between the rounds -/
def PlaySt (w : World) (n0 k : Nat) (v : Value) (W : World) : Prop :=
  ∃ L, DictAt W n0 L ∧ GoodL L ∧ L.length ≤ k ∧ OwnL W n0 v L ∧ RowKit.Below w.heap.size w W

theorem num_low {n0 : Nat} {W W' : World} {v : Value} {L : List Tm} (h : OwnL W n0 v L) (hn : n0 + 3 ≤ W.heap.size) (hg : W.grownBy W' v.ownBlock) : RowKit.Below (n0 + 3) W W' :=
  (RowKit.Below.refl _ _).grown hg hn (fun j hj => (h.lt j hj).1)
theorem OwnL.below {n0 : Nat} {W W' : World} {v : Value} {L : List Tm} (h : OwnL W n0 v L) (hb : RowKit.Below W.heap.size W W') : OwnL W' n0 v L := ownsM_below h hb
theorem OwnL.turned {n0 : Nat} {W W' : World} {v : Value} {L : List Tm} (h : OwnL W n0 v L) (hb : Turned n0 W W') : OwnL W' n0 v L := hb.own h (Nat.le_refl _)
/-- a number's call, in the walk's words -/
theorem numS_any (w : World) (n0 : Nat) (L0 L : List Tm) (v : Value) (x : Tm) (W : World) (hw : w.heap.size ≤ n0) (hD : DictAt W n0 L0) (h : OwnL W n0 v L) (hL : L.length ≤ 1000) (hb : RowKit.Below w.heap.size w W) :
    Calls Tryd.prog 6 #[v, .agg #[.int .i64 x.1, .string ⟨x.2.1.toArray⟩, .string ⟨x.2.2.toArray⟩]] W fun e W' => ∃ v', e = .returned (.tuple #[v', .int .i64 (idN (addL L x) x)]) ∧ DictAt W' n0 L0 ∧ OwnL W' n0 v' (addL L x) ∧ OwnL W' n0 v L ∧ RowKit.Below w.heap.size w W' ∧ W.grownBy W' v.ownBlock ∧ (∀ g, v'.ownBlock = some g → v.ownBlock = some g ∨ W.heap.size ≤ g) := by
  have hlt := hD.lt
  refine (num_any (n0 + 3) L v x W h (by omega) hL).mono ?_
  rintro e W' ⟨v', rfl, h1, h2, h3, h4⟩
  have hlow := num_low h (by omega) h3
  exact ⟨v', rfl, hD.far hlow (by omega), h1, h2, hb.trans (hlow.mono (by omega)), h3, h4⟩
theorem Arr.num {W W' : World} {b : Nat} {vs : Array Value} {t : TypeId} {v : Value} (h : Arr W b vs t) (hg : W.grownBy W' v.ownBlock) (hv : v.ownBlock ≠ some b) : Arr W' b vs t :=
  (hg.block b h.lt (fun e => hv e.symm)).trans h
theorem hide2 {p : Prop} (h : p) : Hid p := h
end Go.Proofs.YtkeholipklfnbacDoor
