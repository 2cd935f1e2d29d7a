/- Marks in a block: who has been found. -/
import Derived.Test.YtackdedbphfaeafDagUp
import Derived.OwnWalk
namespace Go.Proofs.Ytackdedbphfaeaf
open Go Go.RowKit Go.Proofs
set_option synthInstance.maxSize 1000

def rowB (B : List Bool) : Obj := .cells (B.map Value.bool).toArray 4
/-- marks, in a block -/
def MarkAt (W : World) (bi : Nat) (B : List Bool) : Prop := W.heap[bi]? = some (rowB B)
theorem MarkAt.lt {W : World} {bi : Nat} {B : List Bool} (h : MarkAt W bi B) : bi < W.heap.size := (Array.getElem?_eq_some_iff.1 h).1
theorem MarkAt.below {W W' : World} {bi : Nat} {B : List Bool} (h : MarkAt W bi B) (hb : RowKit.Below W.heap.size W W') : MarkAt W' bi B := (hb.block bi h.lt).trans h
theorem MarkAt.cell {W : World} {bi : Nat} {B : List Bool} (h : MarkAt W bi B) {j : Nat} (hj : j < B.length) : W.cell? ⟨bi, j, none⟩ = some (.bool (onB B j)) ∧ W.frozen? ⟨bi, j, none⟩ = false := by
  unfold MarkAt rowB at h
  rw [onB_get hj]
  refine ⟨?_, ?_⟩
  · simp [World.cell?, h, hj]
  · simp [World.frozen?, h]
theorem MarkAt.set {W : World} {bi : Nat} {B : List Bool} (h : MarkAt W bi B) (j : Nat) : MarkAt (W.setCell ⟨bi, j, none⟩ (.bool true)) bi (B.set j true) := by
  have := heap_setCell_same W bi j _ _ (.bool true) h
  unfold MarkAt
  rw [this]
  unfold rowB
  congr 2
  apply Array.ext'
  simp [List.map_set]
/-- how many marks are not set -/
def nW (W : World) (bi : Nat) : Nat := match W.heap[bi]? with
  | some (.cells cs _ _) => nF (cs.toList.map fun v => match v with | .bool b => b | _ => true)
  | _ => 0
theorem MarkAt.count {W : World} {bi : Nat} {B : List Bool} (h : MarkAt W bi B) : nW W bi = nF B := by
  unfold MarkAt rowB at h
  unfold nW
  rw [h]
  have e : ∀ L : List Bool, (L.map Value.bool).map (fun v => match v with | .bool b => b | _ => true) = L := fun L => by
    induction L with
    | nil => rfl
    | cons b r ih => simp only [List.map_cons, ih]
  exact congrArg nF (e B)
set_option maxRecDepth 100000 in
theorem makeBoolsO (n : Nat) (w : World) (h : n ≤ 100) : (Instr.makeSlice 41 (.int .i64 (n : Int)) (.int .i64 (n : Int))).run Try.prog w = .ok (.slice (some ⟨w.heap.size, 0, none⟩) n n) (w.alloc (rowB (List.replicate n false))) := by
  have hi : (Try.prog.info? 4).map (fun i => (i.zero, i.size, i.bytes)) = some (some (.bool false), 1, 1) := by kernel_rfl
  obtain ⟨i, hi, h1, h2, h3⟩ := info_parts hi
  have := run_make (P := Try.prog) w 41 4 i _ Try.underlying41 hi h1 .i64 .i64 (n : Int) (n : Int) (by omega) (Int.le_refl _) (by rw [h3]; omega) (by omega)
  rw [h2] at this
  have e : rowB (List.replicate n false) = .cells (madeCells #[.bool false] n) 4 := by
    unfold rowB
    congr 1
    apply Array.ext'
    simp only [madeCells, Array.toList_map, Array.toList_range]
    rw [List.map_replicate]
    apply List.ext_getElem
    · simp
    · intro j h1 h2
      simp [Nat.mod_one]
  rw [e]
  simpa [Value.cells] using this
end Go.Proofs.Ytackdedbphfaeaf
