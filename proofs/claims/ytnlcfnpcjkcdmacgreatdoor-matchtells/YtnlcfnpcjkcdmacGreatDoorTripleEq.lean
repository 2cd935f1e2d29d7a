/- '==' on two triples. -/
import Derived.Test.YtnlcfnpcjkcdmacGreatDoorTripleRow
import Derived.Test.YtnlcfnpcjkcdmacGreatDoorTermEq
namespace Go.Proofs.YtnlcfnpcjkcdmacGreatDoor
open Go Go.RowKit Go.Proofs

theorem tr_eq (x y : Tr) : decide (x = y) = (eqTB x.1.1 x.1.2.1 x.1.2.2 y.1.1 y.1.2.1 y.1.2.2 && (eqTB x.2.1.1 x.2.1.2.1 x.2.1.2.2 y.2.1.1 y.2.1.2.1 y.2.1.2.2 && eqTB x.2.2.1 x.2.2.2.1 x.2.2.2.2 y.2.2.1 y.2.2.2.1 y.2.2.2.2)) := by
  obtain ⟨⟨k1, s1, l1⟩, ⟨k2, s2, l2⟩, ⟨k3, s3, l3⟩⟩ := x
  obtain ⟨⟨k1', s1', l1'⟩, ⟨k2', s2', l2'⟩, ⟨k3', s3', l3'⟩⟩ := y
  rw [Bool.eq_iff_iff]
  simp only [decide_eq_true_eq, Bool.and_eq_true, eqTB_iff, Prod.mk.injEq]

set_option maxRecDepth 100000 in
set_option maxHeartbeats 1000000 in
theorem equalTriple (x y : Tr) (w : World) :
    (Op.equalIn 10000 82 (.agg #[.int .i64 x.1.1, .string ⟨x.1.2.1.toArray⟩, .string ⟨x.1.2.2.toArray⟩, .int .i64 x.2.1.1, .string ⟨x.2.1.2.1.toArray⟩, .string ⟨x.2.1.2.2.toArray⟩, .int .i64 x.2.2.1, .string ⟨x.2.2.2.1.toArray⟩, .string ⟨x.2.2.2.2.toArray⟩])
      (.agg #[.int .i64 y.1.1, .string ⟨y.1.2.1.toArray⟩, .string ⟨y.1.2.2.toArray⟩, .int .i64 y.2.1.1, .string ⟨y.2.1.2.1.toArray⟩, .string ⟨y.2.1.2.2.toArray⟩, .int .i64 y.2.2.1, .string ⟨y.2.2.2.1.toArray⟩, .string ⟨y.2.2.2.2.toArray⟩])).run Tryz.prog w = .ok (decide (x = y)) w := by
  have hS : Tryz.prog.underlying 82 = some (.struct (Tryz.prog.fieldsOf 82)) := by kernel_rfl
  rw [show (10000 : Nat) = 9999 + 1 from rfl, run_equalIn_agg w 9999 82 _ _ hS (by kernel_rfl), tr_eq]
  simp only [Program.fieldsOf, Tryz.underlying82]
  unfold eqTB
  go_simp
  by_cases h0 : x.1.1 = y.1.1
  rotate_left
  · simp [h0]
  by_cases h1 : x.1.2.1 = y.1.2.1
  rotate_left
  · simp [h0, h1]
  by_cases h2 : x.1.2.2 = y.1.2.2
  rotate_left
  · simp [h0, h1, h2]
  by_cases h3 : x.2.1.1 = y.2.1.1
  rotate_left
  · simp [h0, h1, h2, h3]
  by_cases h4 : x.2.1.2.1 = y.2.1.2.1
  rotate_left
  · simp [h0, h1, h2, h3, h4]
  by_cases h5 : x.2.1.2.2 = y.2.1.2.2
  rotate_left
  · simp [h0, h1, h2, h3, h4, h5]
  by_cases h6 : x.2.2.1 = y.2.2.1
  rotate_left
  · simp [h0, h1, h2, h3, h4, h5, h6]
  by_cases h7 : x.2.2.2.1 = y.2.2.2.1
  rotate_left
  · simp [h0, h1, h2, h3, h4, h5, h6, h7]
  by_cases h8 : x.2.2.2.2 = y.2.2.2.2
  rotate_left
  · simp [h0, h1, h2, h3, h4, h5, h6, h7, h8]
  simp [h0, h1, h2, h3, h4, h5, h6, h7, h8]

theorem eqlTriple (x y : Tr) (w : World) : (binOp .eql 82 (.agg #[.int .i64 x.1.1, .string ⟨x.1.2.1.toArray⟩, .string ⟨x.1.2.2.toArray⟩, .int .i64 x.2.1.1, .string ⟨x.2.1.2.1.toArray⟩, .string ⟨x.2.1.2.2.toArray⟩, .int .i64 x.2.2.1, .string ⟨x.2.2.2.1.toArray⟩, .string ⟨x.2.2.2.2.toArray⟩]) (.agg #[.int .i64 y.1.1, .string ⟨y.1.2.1.toArray⟩, .string ⟨y.1.2.2.toArray⟩, .int .i64 y.2.1.1, .string ⟨y.2.1.2.1.toArray⟩, .string ⟨y.2.1.2.2.toArray⟩, .int .i64 y.2.2.1, .string ⟨y.2.2.2.1.toArray⟩, .string ⟨y.2.2.2.2.toArray⟩])).run Tryz.prog w = .ok (.bool (decide (x = y))) w := by
  rw [run_eql_struct, equalTriple]; rfl
theorem neqTriple (x y : Tr) (w : World) : (binOp .neq 82 (.agg #[.int .i64 x.1.1, .string ⟨x.1.2.1.toArray⟩, .string ⟨x.1.2.2.toArray⟩, .int .i64 x.2.1.1, .string ⟨x.2.1.2.1.toArray⟩, .string ⟨x.2.1.2.2.toArray⟩, .int .i64 x.2.2.1, .string ⟨x.2.2.2.1.toArray⟩, .string ⟨x.2.2.2.2.toArray⟩]) (.agg #[.int .i64 y.1.1, .string ⟨y.1.2.1.toArray⟩, .string ⟨y.1.2.2.toArray⟩, .int .i64 y.2.1.1, .string ⟨y.2.1.2.1.toArray⟩, .string ⟨y.2.1.2.2.toArray⟩, .int .i64 y.2.2.1, .string ⟨y.2.2.2.1.toArray⟩, .string ⟨y.2.2.2.2.toArray⟩])).run Tryz.prog w = .ok (.bool (!decide (x = y))) w := by
  rw [run_neq_struct, equalTriple]; rfl
end Go.Proofs.YtnlcfnpcjkcdmacGreatDoor
