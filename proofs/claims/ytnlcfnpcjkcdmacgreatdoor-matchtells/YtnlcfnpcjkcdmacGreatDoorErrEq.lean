/- An error against nil; what is kept of three terms that a law has boxed. -/
import Derived.Test.YtnlcfnpcjkcdmacGreatDoorCheck
namespace Go.Proofs.YtnlcfnpcjkcdmacGreatDoor
open Go Go.RowKit Go.Proofs

theorem eql_errV (n : Int) (w : World) : (binOp .eql 33 (errV n) .nilIface).run Tryz.prog w = .ok (.bool (n == 0)) w := by
  unfold errV
  by_cases h : n = 0
  · subst h; rw [if_pos rfl]; go_simp
  · rw [if_neg h]
    have h' : (n == 0) = false := by simpa using h
    rw [h']
    go_simp
theorem neq_errV (n : Int) (w : World) : (binOp .neq 33 (errV n) .nilIface).run Tryz.prog w = .ok (.bool (!(n == 0))) w := by
  unfold errV
  by_cases h : n = 0
  · subst h; rw [if_pos rfl]; go_simp
  · rw [if_neg h]
    have h' : (n == 0) = false := by simpa using h
    rw [h']
    go_simp
theorem guard_errV (op : BinOp) (t : TypeId) (x : Operand) (c : Value) (n : Int) : eqGuard op t x (.const c) (errV n) .nilIface = pure () := by
  unfold errV
  by_cases h : n = 0
  · subst h; rw [if_pos rfl]; exact eqGuard_nil_constR ..
  · rw [if_neg h]; cases op <;> rfl

/-- three terms that were boxed, read later on -/
theorem boxes {w W : World} {T : TypeId} {a0 a1 a2 b0 b1 b2 c0 c1 c2 : Value}
    (hb : Below (((w.alloc (.cells #[a0, a1, a2] T)).alloc (.cells #[b0, b1, b2] T)).alloc (.cells #[c0, c1, c2] T)).heap.size (((w.alloc (.cells #[a0, a1, a2] T)).alloc (.cells #[b0, b1, b2] T)).alloc (.cells #[c0, c1, c2] T)) W) :
    W.cell? ⟨w.heap.size, 0, none⟩ = some a0 ∧ W.cell? ⟨w.heap.size, 1, none⟩ = some a1 ∧ W.cell? ⟨w.heap.size, 2, none⟩ = some a2 ∧
    W.cell? ⟨w.heap.size + 1, 0, none⟩ = some b0 ∧ W.cell? ⟨w.heap.size + 1, 1, none⟩ = some b1 ∧ W.cell? ⟨w.heap.size + 1, 2, none⟩ = some b2 ∧
    W.cell? ⟨w.heap.size + 1 + 1, 0, none⟩ = some c0 ∧ W.cell? ⟨w.heap.size + 1 + 1, 1, none⟩ = some c1 ∧ W.cell? ⟨w.heap.size + 1 + 1, 2, none⟩ = some c2 ∧
    w.heap.size + 1 + 1 < W.heap.size := by
  obtain ⟨h, _⟩ := bcell hb
  have hs := hb.size
  refine ⟨?_, ?_, ?_, ?_, ?_, ?_, ?_, ?_, ?_, by simp at hs; omega⟩
  all_goals
    rw [h]
    · go_simp
    · simp <;> omega
end Go.Proofs.YtnlcfnpcjkcdmacGreatDoor
