/- '==' on two triples. -/
import Derived.Test.YtecbbnifohbndaaGreatTripleRow
import Derived.Test.YtecbbnifohbndaaGreatTermEq
namespace Go.Proofs.YtecbbnifohbndaaGreat
open Go Go.RowKit Go.Proofs

theorem tr_eq (x y : Tr) : decide (x = y) = (eqTB x.a.k x.a.s x.a.l y.a.k y.a.s y.a.l && (eqTB x.b.k x.b.s x.b.l y.b.k y.b.s y.b.l && eqTB x.c.k x.c.s x.c.l y.c.k y.c.s y.c.l)) := by
  obtain ⟨⟨k1, s1, l1⟩, ⟨k2, s2, l2⟩, ⟨k3, s3, l3⟩⟩ := x
  obtain ⟨⟨k1', s1', l1'⟩, ⟨k2', s2', l2'⟩, ⟨k3', s3', l3'⟩⟩ := y
  rw [Bool.eq_iff_iff]
  simp only [decide_eq_true_eq, Bool.and_eq_true, eqTB_iff, Tr.mk.injEq, Tm.mk.injEq]

set_option maxRecDepth 100000 in
set_option maxHeartbeats 1000000 in
theorem equalTriple (x y : Tr) (w : World) :
    (Op.equalIn 10000 25 (.agg #[.int .i64 x.a.k, .string ⟨x.a.s.toArray⟩, .string ⟨x.a.l.toArray⟩, .int .i64 x.b.k, .string ⟨x.b.s.toArray⟩, .string ⟨x.b.l.toArray⟩, .int .i64 x.c.k, .string ⟨x.c.s.toArray⟩, .string ⟨x.c.l.toArray⟩])
      (.agg #[.int .i64 y.a.k, .string ⟨y.a.s.toArray⟩, .string ⟨y.a.l.toArray⟩, .int .i64 y.b.k, .string ⟨y.b.s.toArray⟩, .string ⟨y.b.l.toArray⟩, .int .i64 y.c.k, .string ⟨y.c.s.toArray⟩, .string ⟨y.c.l.toArray⟩])).run Tryz.prog w = .ok (decide (x = y)) w := by
  have hS : Tryz.prog.underlying 25 = some (.struct (Tryz.prog.fieldsOf 25)) := by kernel_rfl
  rw [show (10000 : Nat) = 9999 + 1 from rfl, run_equalIn_agg w 9999 25 _ _ hS (by kernel_rfl), tr_eq]
  simp only [Program.fieldsOf, Tryz.underlying25]
  unfold eqTB
  go_simp
  by_cases h0 : x.a.k = y.a.k
  rotate_left
  · simp [h0]
  by_cases h1 : x.a.s = y.a.s
  rotate_left
  · simp [h0, h1]
  by_cases h2 : x.a.l = y.a.l
  rotate_left
  · simp [h0, h1, h2]
  by_cases h3 : x.b.k = y.b.k
  rotate_left
  · simp [h0, h1, h2, h3]
  by_cases h4 : x.b.s = y.b.s
  rotate_left
  · simp [h0, h1, h2, h3, h4]
  by_cases h5 : x.b.l = y.b.l
  rotate_left
  · simp [h0, h1, h2, h3, h4, h5]
  by_cases h6 : x.c.k = y.c.k
  rotate_left
  · simp [h0, h1, h2, h3, h4, h5, h6]
  by_cases h7 : x.c.s = y.c.s
  rotate_left
  · simp [h0, h1, h2, h3, h4, h5, h6, h7]
  by_cases h8 : x.c.l = y.c.l
  rotate_left
  · simp [h0, h1, h2, h3, h4, h5, h6, h7, h8]
  simp [h0, h1, h2, h3, h4, h5, h6, h7, h8]

theorem eqlTriple (x y : Tr) (w : World) : (binOp .eql 25 (.agg #[.int .i64 x.a.k, .string ⟨x.a.s.toArray⟩, .string ⟨x.a.l.toArray⟩, .int .i64 x.b.k, .string ⟨x.b.s.toArray⟩, .string ⟨x.b.l.toArray⟩, .int .i64 x.c.k, .string ⟨x.c.s.toArray⟩, .string ⟨x.c.l.toArray⟩]) (.agg #[.int .i64 y.a.k, .string ⟨y.a.s.toArray⟩, .string ⟨y.a.l.toArray⟩, .int .i64 y.b.k, .string ⟨y.b.s.toArray⟩, .string ⟨y.b.l.toArray⟩, .int .i64 y.c.k, .string ⟨y.c.s.toArray⟩, .string ⟨y.c.l.toArray⟩])).run Tryz.prog w = .ok (.bool (decide (x = y))) w := by
  rw [run_eql_struct, equalTriple]; rfl
theorem neqTriple (x y : Tr) (w : World) : (binOp .neq 25 (.agg #[.int .i64 x.a.k, .string ⟨x.a.s.toArray⟩, .string ⟨x.a.l.toArray⟩, .int .i64 x.b.k, .string ⟨x.b.s.toArray⟩, .string ⟨x.b.l.toArray⟩, .int .i64 x.c.k, .string ⟨x.c.s.toArray⟩, .string ⟨x.c.l.toArray⟩]) (.agg #[.int .i64 y.a.k, .string ⟨y.a.s.toArray⟩, .string ⟨y.a.l.toArray⟩, .int .i64 y.b.k, .string ⟨y.b.s.toArray⟩, .string ⟨y.b.l.toArray⟩, .int .i64 y.c.k, .string ⟨y.c.s.toArray⟩, .string ⟨y.c.l.toArray⟩])).run Tryz.prog w = .ok (.bool (!decide (x = y))) w := by
  rw [run_neq_struct, equalTriple]; rfl
end Go.Proofs.YtecbbnifohbndaaGreat
