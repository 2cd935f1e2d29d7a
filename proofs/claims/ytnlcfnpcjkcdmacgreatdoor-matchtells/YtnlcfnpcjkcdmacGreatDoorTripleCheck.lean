/- triple.Check: what is wrong with a triple: with S, with P, with O, and then where they stand. -/
import Derived.Test.YtnlcfnpcjkcdmacGreatDoorErrEq
namespace Go.Proofs.YtnlcfnpcjkcdmacGreatDoor
open Go Go.RowKit Go.Proofs

/-- the number of the error that triple.Check tells: 0 for none -/
def shapeB (k1 k2 : Int) : Bool := (k1 == 3) || !(k2 == 1)
def check3 (c1 c2 c3 : Int) (k1 k2 : Int) : Int := if c1 = 0 then (if c2 = 0 then (if c3 = 0 then (if shapeB k1 k2 = true then 3 else 0) else c3) else c2) else c1

attribute [local go_sem] eql_errV neq_errV guard_errV

theorem ninebox {w W : World} {T : TypeId} {a0 a1 a2 b0 b1 b2 c0 c1 c2 : Value}
    (hb : Below (w.alloc (.cells #[a0, a1, a2, b0, b1, b2, c0, c1, c2] T)).heap.size (w.alloc (.cells #[a0, a1, a2, b0, b1, b2, c0, c1, c2] T)) W) :
    W.cell? ⟨w.heap.size, 0, none⟩ = some a0 ∧ W.cell? ⟨w.heap.size, 1, none⟩ = some a1 ∧ W.cell? ⟨w.heap.size, 2, none⟩ = some a2 ∧ W.cell? ⟨w.heap.size, 3, none⟩ = some b0 ∧ W.cell? ⟨w.heap.size, 4, none⟩ = some b1 ∧ W.cell? ⟨w.heap.size, 5, none⟩ = some b2 ∧ W.cell? ⟨w.heap.size, 6, none⟩ = some c0 ∧ W.cell? ⟨w.heap.size, 7, none⟩ = some c1 ∧ W.cell? ⟨w.heap.size, 8, none⟩ = some c2 ∧ w.heap.size < W.heap.size := by
  obtain ⟨h, _⟩ := bcell hb
  have hs := hb.size
  refine ⟨?_, ?_, ?_, ?_, ?_, ?_, ?_, ?_, ?_, by simp at hs; omega⟩
  all_goals
    rw [h]
    · go_simp
    · simp <;> omega

set_option maxHeartbeats 1000000 in
theorem misplaced_any (k1 : Int) (S1 L1 : List UInt8) (k2 : Int) (S2 L2 : List UInt8) (k3 : Int) (S3 L3 : List UInt8) (w : World) :
    Calls Tryz.prog 95 #[.agg #[.int .i64 k1, .string ⟨S1.toArray⟩, .string ⟨L1.toArray⟩, .int .i64 k2, .string ⟨S2.toArray⟩, .string ⟨L2.toArray⟩, .int .i64 k3, .string ⟨S3.toArray⟩, .string ⟨L3.toArray⟩]] w
      fun e w' => e = .returned (.bool (shapeB k1 k2)) ∧ Below w.heap.size w w' := by
  have fin2 : Hid (shapeB k1 k2 = ((k1 == 3) || !(k2 == 1))) := rfl
  cases h3 : (k1 == 3)
  · cases h1 : (k2 == 1)
    all_goals
      go_enter Tryz.func95, Tryz.ntmps95
      go_wp2_with fail
      go_ret
      exact ⟨ret_bool (by rw [fin2.out, h3]; rfl), balloc _ _⟩
  · go_enter Tryz.func95, Tryz.ntmps95
    go_wp2_with fail
    go_ret
    exact ⟨ret_bool (by rw [fin2.out, h3]; rfl), balloc _ _⟩

theorem index0 (a0 a1 a2 b0 b1 b2 c0 c1 c2 : Value) (w : World) : (Instr.index 93 (.agg #[a0, a1, a2, b0, b1, b2, c0, c1, c2]) (.int .i64 0)).run Tryz.prog w = .ok (.agg #[a0, a1, a2]) w := by kernel_rfl
theorem index1 (a0 a1 a2 b0 b1 b2 c0 c1 c2 : Value) (w : World) : (Instr.index 93 (.agg #[a0, a1, a2, b0, b1, b2, c0, c1, c2]) (.int .i64 1)).run Tryz.prog w = .ok (.agg #[b0, b1, b2]) w := by kernel_rfl
theorem index2 (a0 a1 a2 b0 b1 b2 c0 c1 c2 : Value) (w : World) : (Instr.index 93 (.agg #[a0, a1, a2, b0, b1, b2, c0, c1, c2]) (.int .i64 2)).run Tryz.prog w = .ok (.agg #[c0, c1, c2]) w := by kernel_rfl
attribute [local go_sem] index0 index1 index2

set_option maxHeartbeats 4000000 in
set_option maxRecDepth 100000 in
theorem TCheck_any (k1 : Int) (S1 L1 : List UInt8) (k2 : Int) (S2 L2 : List UInt8) (k3 : Int) (S3 L3 : List UInt8) (w : World)
    (hs1 : S1.length ≤ maxLen) (hl1 : L1.length ≤ maxLen) (hs2 : S2.length ≤ maxLen) (hl2 : L2.length ≤ maxLen) (hs3 : S3.length ≤ maxLen) (hl3 : L3.length ≤ maxLen) :
    Calls Tryz.prog 69 #[.agg #[.int .i64 k1, .string ⟨S1.toArray⟩, .string ⟨L1.toArray⟩, .int .i64 k2, .string ⟨S2.toArray⟩, .string ⟨L2.toArray⟩, .int .i64 k3, .string ⟨S3.toArray⟩, .string ⟨L3.toArray⟩]] w
      fun e w' => e = .returned (errV (check3 (checkN k1 S1 L1) (checkN k2 S2 L2) (checkN k3 S3 L3) k1 k2)) ∧ Below w.heap.size w w' := by
  have H1 := fun W => Check_any k1 S1 L1 W hs1 hl1
  have H2 := fun W => Check_any k2 S2 L2 W hs2 hl2
  have H3 := fun W => Check_any k3 S3 L3 W hs3 hl3
  generalize checkN k1 S1 L1 = c1 at H1 ⊢
  generalize checkN k2 S2 L2 = c2 at H2 ⊢
  generalize checkN k3 S3 L3 = c3 at H3 ⊢
  have fin : Hid (check3 c1 c2 c3 k1 k2 = if c1 = 0 then (if c2 = 0 then (if c3 = 0 then (if shapeB k1 k2 = true then 3 else 0) else c3) else c2) else c1) := rfl
  clear hs1 hl1 hs2 hl2 hs3 hl3
  go_enter Tryz.func69, Tryz.ntmps69
  go_wp2_with fail
  go_loopw [13] (fun i wr => ∃ k : Int, 0 ≤ k ∧ k ≤ 3 ∧ i = .int .i64 k ∧ Below (w.alloc (.cells #[.int .i64 k1, .string ⟨S1.toArray⟩, .string ⟨L1.toArray⟩, .int .i64 k2, .string ⟨S2.toArray⟩, .string ⟨L2.toArray⟩, .int .i64 k3, .string ⟨S3.toArray⟩, .string ⟨L3.toArray⟩] 82)).heap.size (w.alloc (.cells #[.int .i64 k1, .string ⟨S1.toArray⟩, .string ⟨L1.toArray⟩, .int .i64 k2, .string ⟨S2.toArray⟩, .string ⟨L2.toArray⟩, .int .i64 k3, .string ⟨S3.toArray⟩, .string ⟨L3.toArray⟩] 82)) wr
      ∧ (0 < k → c1 = 0) ∧ (1 < k → c2 = 0) ∧ (2 < k → c3 = 0)) (fun i wr => (3 - intOf i).toNat)
  case atStart => exact ⟨0, by omega, by omega, rfl, Below.refl _ _, by omega, by omega, by omega⟩
  case round =>
    obtain ⟨k, hk, hk', rfl, hbr, q0, q1, q2⟩ := hrel
    rcases (by omega : k = 0 ∨ k = 1 ∨ k = 2 ∨ k = 3) with rfl | rfl | rfl | rfl
    · clear hk hk' q0 q1 q2
      go_wp2_with fail
      refine (H1 _).mono ?_
      rintro e w1 ⟨rfl, hb1⟩
      have hB := bstep (bstep hbr (balloc _ _)) hb1
      cases hc : (c1 == 0)
      · go_wp2_with fail
        go_ret
        simp at hc
        exact ⟨ret_val (by rw [fin.out]; simp [hc]), bstep (balloc _ _) hB⟩
      · go_wp2_with fail
        simp at hc
        exact ⟨⟨1, by omega, by omega, by go_num, hB, fun _ => hc, by omega, by omega⟩, by simp [intOf]⟩
    · have hx : Hid (c1 = 0) := q0 (by omega)
      clear hk hk' q0 q1 q2
      go_wp2_with fail
      refine (H2 _).mono ?_
      rintro e w1 ⟨rfl, hb1⟩
      have hB := bstep (bstep hbr (balloc _ _)) hb1
      cases hc : (c2 == 0)
      · go_wp2_with fail
        go_ret
        simp at hc
        exact ⟨ret_val (by rw [fin.out]; simp [hc, hx.out]), bstep (balloc _ _) hB⟩
      · go_wp2_with fail
        simp at hc
        exact ⟨⟨2, by omega, by omega, by go_num, hB, fun _ => hx.out, fun _ => hc, by omega⟩, by simp [intOf]⟩
    · have hx : Hid (c1 = 0) := q0 (by omega)
      have hy : Hid (c2 = 0) := q1 (by omega)
      clear hk hk' q0 q1 q2
      go_wp2_with fail
      refine (H3 _).mono ?_
      rintro e w1 ⟨rfl, hb1⟩
      have hB := bstep (bstep hbr (balloc _ _)) hb1
      cases hc : (c3 == 0)
      · go_wp2_with fail
        go_ret
        simp at hc
        exact ⟨ret_val (by rw [fin.out]; simp [hc, hx.out, hy.out]), bstep (balloc _ _) hB⟩
      · go_wp2_with fail
        simp at hc
        exact ⟨⟨3, by omega, by omega, by go_num, hB, fun _ => hx.out, fun _ => hy.out, fun _ => hc⟩, by simp [intOf]⟩
    · have hx : Hid (c1 = 0) := q0 (by omega)
      have hy : Hid (c2 = 0) := q1 (by omega)
      have hz : Hid (c3 = 0) := q2 (by omega)
      clear hk hk' q0 q1 q2
      obtain ⟨n0, n1, n2, n3, n4, n5, n6, n7, n8, hz9⟩ := ninebox hbr
      have HM := fun W => misplaced_any k1 S1 L1 k2 S2 L2 k3 S3 L3 W
      generalize shapeB k1 k2 = sh at *
      cases sh
      all_goals
        go_wp2_with fail
        refine (HM _).mono ?_
        rintro e w4 ⟨rfl, hb4⟩
        go_wp2_with fail
        go_ret
        exact ⟨ret_val (by rw [fin.out]; simp [hx.out, hy.out, hz.out]; rfl), bstep (bstep (balloc _ _) hbr) hb4⟩
end Go.Proofs.YtnlcfnpcjkcdmacGreatDoor
