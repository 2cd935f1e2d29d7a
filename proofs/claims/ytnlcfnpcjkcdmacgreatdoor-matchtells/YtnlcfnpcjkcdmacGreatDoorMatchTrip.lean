/- A triple in a box; texts held against texts. -/
import Derived.Test.YtnlcfnpcjkcdmacGreatDoorMatchMatch
namespace Go.Proofs.YtnlcfnpcjkcdmacGreatDoor
open Go Go.RowKit Go.Proofs Go.Maps
set_option synthInstance.maxSize 1000

def TripAt (w : World) (b : Nat) (t : Tr) : Prop := ∀ j v, (encTr t)[j]? = some v → w.cell? ⟨b, j, none⟩ = some v
theorem TripAt.below {w w' : World} {b : Nat} {t : Tr} (h : TripAt w b t) (hb : Below w.heap.size w w') : TripAt w' b t := fun j v hv => (hb.cell (World.block_lt_of_cell? w _ (h j v hv))).trans (h j v hv)
theorem tripBox (w : World) (t : Tr) (T : TypeId) : TripAt (w.alloc (.cells (encTr t).toArray T)) w.heap.size t := fun j v hj => by
  have h9 : j < 9 := (List.getElem?_eq_some_iff.1 hj).1
  rcases (by omega : j = 0 ∨ j = 1 ∨ j = 2 ∨ j = 3 ∨ j = 4 ∨ j = 5 ∨ j = 6 ∨ j = 7 ∨ j = 8) with rfl | rfl | rfl | rfl | rfl | rfl | rfl | rfl | rfl
  all_goals
    simp [encTr] at hj
    subst hj
    simp only [encTr]
    go_simp
theorem TripAt.all {w : World} {b : Nat} {t : Tr} (h : TripAt w b t) :
    w.cell? ⟨b, 0, none⟩ = some (.int .i64 t.1.1) ∧ w.cell? ⟨b, 1, none⟩ = some (.string ⟨t.1.2.1.toArray⟩) ∧ w.cell? ⟨b, 2, none⟩ = some (.string ⟨t.1.2.2.toArray⟩) ∧
    w.cell? ⟨b, 3, none⟩ = some (.int .i64 t.2.1.1) ∧ w.cell? ⟨b, 4, none⟩ = some (.string ⟨t.2.1.2.1.toArray⟩) ∧ w.cell? ⟨b, 5, none⟩ = some (.string ⟨t.2.1.2.2.toArray⟩) ∧
    w.cell? ⟨b, 6, none⟩ = some (.int .i64 t.2.2.1) ∧ w.cell? ⟨b, 7, none⟩ = some (.string ⟨t.2.2.2.1.toArray⟩) ∧ w.cell? ⟨b, 8, none⟩ = some (.string ⟨t.2.2.2.2.toArray⟩) :=
  ⟨h _ _ rfl, h _ _ rfl, h _ _ rfl, h _ _ rfl, h _ _ rfl, h _ _ rfl, h _ _ rfl, h _ _ rfl, h _ _ rfl⟩
theorem neqEmpty (v : List UInt8) (w : World) : (binOp .neq 9 (.string ⟨v.toArray⟩) (.string ⟨#[]⟩)).run Tryz.prog w = .ok (.bool (!v.isEmpty)) w := by
  cases v with
  | nil => kernel_rfl
  | cons c r => go_simp
theorem eqlEmpty (v : List UInt8) (w : World) : (binOp .eql 9 (.string ⟨v.toArray⟩) (.string ⟨#[]⟩)).run Tryz.prog w = .ok (.bool v.isEmpty) w := by
  cases v with
  | nil => kernel_rfl
  | cons c r => go_simp
theorem eqlStr (a b : List UInt8) (w : World) : (binOp .eql 9 (.string ⟨a.toArray⟩) (.string ⟨b.toArray⟩)).run Tryz.prog w = .ok (.bool (decide (a = b))) w := by
  by_cases h : a = b
  · subst h; go_simp
  · have h' : ¬ (⟨a.toArray⟩ : ByteArray) = ⟨b.toArray⟩ := fun e => h (by have := congrArg (fun s : ByteArray => s.data.toList) e; simpa using this)
    go_simp
theorem neqStr (a b : List UInt8) (w : World) : (binOp .neq 9 (.string ⟨a.toArray⟩) (.string ⟨b.toArray⟩)).run Tryz.prog w = .ok (.bool (!decide (a = b))) w := by
  by_cases h : a = b
  · subst h; go_simp
  · have h' : ¬ (⟨a.toArray⟩ : ByteArray) = ⟨b.toArray⟩ := fun e => h (by have := congrArg (fun s : ByteArray => s.data.toList) e; simpa using this)
    go_simp
end Go.Proofs.YtnlcfnpcjkcdmacGreatDoor
