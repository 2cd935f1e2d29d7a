/- parseTerms: three texts read, of whatever length; textFault: a length and a place that are both wrong. -/
import Derived.Test.YtnlcfnpcjkcdmaaGreatDoorTriplePlain
import Derived.Test.YtnlcfnpcjkcdmaaGreatDoorIs
namespace Go.Proofs.YtnlcfnpcjkcdmaaGreatDoor
open Go Go.RowKit Go.Proofs
set_option synthInstance.maxSize 1000

attribute [local go_sem] eql_errV neq_errV guard_errV

theorem str0 (a b c : Value) (w : World) : (Instr.index 59 (.agg #[a, b, c]) (.int .i64 0)).run Tryz.prog w = .ok a w := by kernel_rfl
theorem str1 (a b c : Value) (w : World) : (Instr.index 59 (.agg #[a, b, c]) (.int .i64 1)).run Tryz.prog w = .ok b w := by kernel_rfl
theorem str2 (a b c : Value) (w : World) : (Instr.index 59 (.agg #[a, b, c]) (.int .i64 2)).run Tryz.prog w = .ok c w := by kernel_rfl
attribute [local go_sem] str0 str1 str2

set_option maxHeartbeats 4000000 in
set_option maxRecDepth 100000 in
theorem textFault_any (x : Tr) (w : World) (hx : fitTr x) : Calls Tryz.prog 29 #[valTr x] w fun e w' => e = .returned (errV (textN x)) ∧ Below w.heap.size w w' := by
  have H := fun W => ChkTr_any x W hx
  have HM := fun W => misplaced_any x.1.1 x.1.2.1 x.1.2.2 x.2.1.1 x.2.1.2.1 x.2.1.2.2 x.2.2.1 x.2.2.2.1 x.2.2.2.2 W
  have fin : Hid (textN x = if (chkTr x == 4 && shapeB x.1.1 x.2.1.1) = true then 2 else chkTr x) := rfl
  generalize textN x = N at fin ⊢
  generalize chkTr x = n at H fin
  generalize shapeB x.1.1 x.2.1.1 = sh at HM fin
  clear hx
  unfold valTr at H ⊢
  cases h4 : (n == 4)
  · go_enter Tryz.func29, Tryz.ntmps29
    go_wp2_with fail
    refine (H _).mono ?_
    rintro e w1 ⟨rfl, hb1⟩
    have hB := bstep (balloc _ _) hb1
    go_wp2_with fail
    refine (Is_any n _).mono ?_
    rintro e w2 ⟨rfl, rfl⟩
    go_wp2_with fail
    go_ret
    exact ⟨ret_val (by rw [fin.out, h4]; rfl), hB⟩
  · cases sh
    all_goals
      go_enter Tryz.func29, Tryz.ntmps29
      go_wp2_with fail
      refine (H _).mono ?_
      rintro e w1 ⟨rfl, hb1⟩
      have hB := bstep (balloc _ _) hb1
      obtain ⟨a0, a1, a2, b0, b1, b2, d0, d1, d2, hz1⟩ := ninebox hb1
      go_wp2_with fail
      refine (Is_any n _).mono ?_
      rintro e w2 ⟨rfl, rfl⟩
      go_wp2_with fail
      refine (HM _).mono ?_
      rintro e w3 ⟨rfl, hb3⟩
      go_wp2_with fail
      go_ret
      exact ⟨ret_val (by rw [fin.out, h4]; rfl), bstep hB hb3⟩

set_option maxHeartbeats 16000000 in
set_option maxRecDepth 100000 in
theorem parseTerms_any (a b c : List UInt8) (w : World) (ha : a.length ≤ 140737488355328) (hb : b.length ≤ 140737488355328) (hc : c.length ≤ 140737488355328) :
    Calls Tryz.prog 28 #[.agg #[.string ⟨a.toArray⟩, .string ⟨b.toArray⟩, .string ⟨c.toArray⟩]] w
      fun e w' => e = .returned (.tuple #[valTr (if ptN (anyN a) (anyN b) (anyN c) = 0 then tripleOf a b c else zeroTr), errV (ptN (anyN a) (anyN b) (anyN c))]) ∧ Below w.heap.size w w' := by
  have P1 := fun W => Any_any a W ha
  have P2 := fun W => Any_any b W hb
  have P3 := fun W => Any_any c W hc
  have fin : Hid (tripleOf a b c = ⟨⟨(anyT a).1, (anyT a).2.1, (anyT a).2.2⟩, ⟨(anyT b).1, (anyT b).2.1, (anyT b).2.2⟩, ⟨(anyT c).1, (anyT c).2.1, (anyT c).2.2⟩⟩) := rfl
  simp only [termV] at P1 P2 P3
  generalize anyT a = t1 at P1 fin
  generalize anyT b = t2 at P2 fin
  generalize anyT c = t3 at P3 fin
  generalize anyN a = n1 at P1 ⊢
  generalize anyN b = n2 at P2 ⊢
  generalize anyN c = n3 at P3 ⊢
  generalize tripleOf a b c = T at fin ⊢
  generalize hR : valTr (if ptN n1 n2 n3 = 0 then T else zeroTr) = R
  generalize hN : ptN n1 n2 n3 = N
  have finR : Hid (valTr (if N = 0 then T else zeroTr) = R) := by rw [← hN]; exact hR
  have finN : Hid (ptN n1 n2 n3 = N) := hN
  clear hR hN
  clear ha hb hc
  go_enter Tryz.func28, Tryz.ntmps28
  go_wp2_with fail
  go_loopw [10] (fun i wr => ∃ k : Nat, k ≤ 3 ∧ i = .int .i64 k ∧ Hid ((0 < k → n1 = 0) ∧ (1 < k → n2 = 0) ∧ (2 < k → n3 = 0)) ∧ w.heap.size + 1 + 1 < wr.heap.size ∧ Below (w.heap.size + 1 + 1) (((w.alloc (.cells #[.string ⟨a.toArray⟩, .string ⟨b.toArray⟩, .string ⟨c.toArray⟩] 59)).alloc (.cells #[.int .i64 0, .string ⟨#[]⟩, .string ⟨#[]⟩, .int .i64 0, .string ⟨#[]⟩, .string ⟨#[]⟩, .int .i64 0, .string ⟨#[]⟩, .string ⟨#[]⟩] 25)).alloc (.cells #[.int .i64 0, .string ⟨#[]⟩, .string ⟨#[]⟩, .int .i64 0, .string ⟨#[]⟩, .string ⟨#[]⟩, .int .i64 0, .string ⟨#[]⟩, .string ⟨#[]⟩] 51)) wr ∧ wr.cell? ⟨w.heap.size + 1 + 1, 0, none⟩ = some (.int .i64 ((if 0 < k then t1.1 else 0))) ∧ wr.cell? ⟨w.heap.size + 1 + 1, 1, none⟩ = some (.string ⟨((if 0 < k then t1.2.1 else [])).toArray⟩) ∧ wr.cell? ⟨w.heap.size + 1 + 1, 2, none⟩ = some (.string ⟨((if 0 < k then t1.2.2 else [])).toArray⟩) ∧ wr.cell? ⟨w.heap.size + 1 + 1, 3, none⟩ = some (.int .i64 ((if 1 < k then t2.1 else 0))) ∧ wr.cell? ⟨w.heap.size + 1 + 1, 4, none⟩ = some (.string ⟨((if 1 < k then t2.2.1 else [])).toArray⟩) ∧ wr.cell? ⟨w.heap.size + 1 + 1, 5, none⟩ = some (.string ⟨((if 1 < k then t2.2.2 else [])).toArray⟩) ∧ wr.cell? ⟨w.heap.size + 1 + 1, 6, none⟩ = some (.int .i64 ((if 2 < k then t3.1 else 0))) ∧ wr.cell? ⟨w.heap.size + 1 + 1, 7, none⟩ = some (.string ⟨((if 2 < k then t3.2.1 else [])).toArray⟩) ∧ wr.cell? ⟨w.heap.size + 1 + 1, 8, none⟩ = some (.string ⟨((if 2 < k then t3.2.2 else [])).toArray⟩) ∧ wr.frozen? ⟨w.heap.size + 1 + 1, 0, none⟩ = false ∧ wr.frozen? ⟨w.heap.size + 1 + 1, 1, none⟩ = false ∧ wr.frozen? ⟨w.heap.size + 1 + 1, 2, none⟩ = false ∧ wr.frozen? ⟨w.heap.size + 1 + 1, 3, none⟩ = false ∧ wr.frozen? ⟨w.heap.size + 1 + 1, 4, none⟩ = false ∧ wr.frozen? ⟨w.heap.size + 1 + 1, 5, none⟩ = false ∧ wr.frozen? ⟨w.heap.size + 1 + 1, 6, none⟩ = false ∧ wr.frozen? ⟨w.heap.size + 1 + 1, 7, none⟩ = false ∧ wr.frozen? ⟨w.heap.size + 1 + 1, 8, none⟩ = false) (fun i wr => 3 - (intOf i).toNat)
  case atStart => exact ⟨0, by omega, rfl, ⟨by omega, by omega, by omega⟩, by simp, Below.refl _ _, by go_simp, by go_simp, by go_simp, by go_simp, by go_simp, by go_simp, by go_simp, by go_simp, by go_simp, by go_simp, by go_simp, by go_simp, by go_simp, by go_simp, by go_simp, by go_simp, by go_simp, by go_simp⟩
  case round =>
    obtain ⟨k, hk, rfl, hH, hz, hbr, e0, e1, e2, e3, e4, e5, e6, e7, e8, f0, f1, f2, f3, f4, f5, f6, f7, f8⟩ := hrel
    rcases (by omega : k = 0 ∨ k = 1 ∨ k = 2 ∨ k = 3) with rfl | rfl | rfl | rfl
    · replace e0 : wr.cell? ⟨w.heap.size + 1 + 1, 0, none⟩ = some (.int .i64 (0)) := e0
      replace e1 : wr.cell? ⟨w.heap.size + 1 + 1, 1, none⟩ = some (.string ⟨(([] : List UInt8)).toArray⟩) := e1
      replace e2 : wr.cell? ⟨w.heap.size + 1 + 1, 2, none⟩ = some (.string ⟨(([] : List UInt8)).toArray⟩) := e2
      replace e3 : wr.cell? ⟨w.heap.size + 1 + 1, 3, none⟩ = some (.int .i64 (0)) := e3
      replace e4 : wr.cell? ⟨w.heap.size + 1 + 1, 4, none⟩ = some (.string ⟨(([] : List UInt8)).toArray⟩) := e4
      replace e5 : wr.cell? ⟨w.heap.size + 1 + 1, 5, none⟩ = some (.string ⟨(([] : List UInt8)).toArray⟩) := e5
      replace e6 : wr.cell? ⟨w.heap.size + 1 + 1, 6, none⟩ = some (.int .i64 (0)) := e6
      replace e7 : wr.cell? ⟨w.heap.size + 1 + 1, 7, none⟩ = some (.string ⟨(([] : List UInt8)).toArray⟩) := e7
      replace e8 : wr.cell? ⟨w.heap.size + 1 + 1, 8, none⟩ = some (.string ⟨(([] : List UInt8)).toArray⟩) := e8
      go_wp2_with fail
      refine (P1 _).mono ?_
      rintro e w1 ⟨rfl, hb1⟩
      obtain ⟨kc, kf⟩ := bcell hb1
      have hz2 : w.heap.size + 1 + 1 < w1.heap.size := by have := hb1.size; omega
      have g0 := (kc _ 0 hz).trans e0
      have g1 := (kc _ 1 hz).trans e1
      have g2 := (kc _ 2 hz).trans e2
      have g3 := (kc _ 3 hz).trans e3
      have g4 := (kc _ 4 hz).trans e4
      have g5 := (kc _ 5 hz).trans e5
      have g6 := (kc _ 6 hz).trans e6
      have g7 := (kc _ 7 hz).trans e7
      have g8 := (kc _ 8 hz).trans e8
      have m0 := (kf _ 0 hz).trans f0
      have m1 := (kf _ 1 hz).trans f1
      have m2 := (kf _ 2 hz).trans f2
      have m3 := (kf _ 3 hz).trans f3
      have m4 := (kf _ 4 hz).trans f4
      have m5 := (kf _ 5 hz).trans f5
      have m6 := (kf _ 6 hz).trans f6
      have m7 := (kf _ 7 hz).trans f7
      have m8 := (kf _ 8 hz).trans f8
      have hB1 := hbr.trans (hb1.mono (by omega))
      have hz3 : w.heap.size + 1 < w1.heap.size := by omega
      clear kc kf
      cases h0 : (n1 == 0)
      · have q1 := fun o => hB1.cell (p := ⟨w.heap.size + 1, o, none⟩) (by show w.heap.size + 1 < w.heap.size + 1 + 1; omega)
        have q2 := fun o => hB1.frozen (p := ⟨w.heap.size + 1, o, none⟩) (by show w.heap.size + 1 < w.heap.size + 1 + 1; omega)
        have z0 : w1.cell? ⟨w.heap.size + 1, 0, none⟩ = some (Value.int .i64 0) := (q1 0).trans (by go_simp)
        have y0 : w1.frozen? ⟨w.heap.size + 1, 0, none⟩ = false := (q2 0).trans (by go_simp)
        have z1 : w1.cell? ⟨w.heap.size + 1, 1, none⟩ = some (Value.string ⟨#[]⟩) := (q1 1).trans (by go_simp)
        have y1 : w1.frozen? ⟨w.heap.size + 1, 1, none⟩ = false := (q2 1).trans (by go_simp)
        have z2 : w1.cell? ⟨w.heap.size + 1, 2, none⟩ = some (Value.string ⟨#[]⟩) := (q1 2).trans (by go_simp)
        have y2 : w1.frozen? ⟨w.heap.size + 1, 2, none⟩ = false := (q2 2).trans (by go_simp)
        have z3 : w1.cell? ⟨w.heap.size + 1, 3, none⟩ = some (Value.int .i64 0) := (q1 3).trans (by go_simp)
        have y3 : w1.frozen? ⟨w.heap.size + 1, 3, none⟩ = false := (q2 3).trans (by go_simp)
        have z4 : w1.cell? ⟨w.heap.size + 1, 4, none⟩ = some (Value.string ⟨#[]⟩) := (q1 4).trans (by go_simp)
        have y4 : w1.frozen? ⟨w.heap.size + 1, 4, none⟩ = false := (q2 4).trans (by go_simp)
        have z5 : w1.cell? ⟨w.heap.size + 1, 5, none⟩ = some (Value.string ⟨#[]⟩) := (q1 5).trans (by go_simp)
        have y5 : w1.frozen? ⟨w.heap.size + 1, 5, none⟩ = false := (q2 5).trans (by go_simp)
        have z6 : w1.cell? ⟨w.heap.size + 1, 6, none⟩ = some (Value.int .i64 0) := (q1 6).trans (by go_simp)
        have y6 : w1.frozen? ⟨w.heap.size + 1, 6, none⟩ = false := (q2 6).trans (by go_simp)
        have z7 : w1.cell? ⟨w.heap.size + 1, 7, none⟩ = some (Value.string ⟨#[]⟩) := (q1 7).trans (by go_simp)
        have y7 : w1.frozen? ⟨w.heap.size + 1, 7, none⟩ = false := (q2 7).trans (by go_simp)
        have z8 : w1.cell? ⟨w.heap.size + 1, 8, none⟩ = some (Value.string ⟨#[]⟩) := (q1 8).trans (by go_simp)
        have y8 : w1.frozen? ⟨w.heap.size + 1, 8, none⟩ = false := (q2 8).trans (by go_simp)
        clear q1 q2
        go_wp2_with fail
        have hne : ¬ n1 = 0 := by simpa using h0
        have fin2 : ptN n1 n2 n3 = n1 := by
          have hh := hH.out
          unfold ptN
          rw [if_neg hne]
        refine bodyPost_ret (v := .tuple #[valTr zeroTr, errV n1]) (by unfold results valTr zeroTr; rw [Tryz.results28]; go_simp) rfl ⟨ret_val (by rw [← finR.out, ← finN.out, fin2, if_neg hne]), ?_⟩
        exact (((((((((((bstep (bstep (balloc _ _) (balloc _ _)) (balloc _ _)).trans (hB1.mono (by omega))).setCell (p := ⟨w.heap.size + 1, 0, none⟩) (show w.heap.size ≤ w.heap.size + 1 by omega) _).setCell (p := ⟨w.heap.size + 1, 1, none⟩) (show w.heap.size ≤ w.heap.size + 1 by omega) _).setCell (p := ⟨w.heap.size + 1, 2, none⟩) (show w.heap.size ≤ w.heap.size + 1 by omega) _).setCell (p := ⟨w.heap.size + 1, 3, none⟩) (show w.heap.size ≤ w.heap.size + 1 by omega) _).setCell (p := ⟨w.heap.size + 1, 4, none⟩) (show w.heap.size ≤ w.heap.size + 1 by omega) _).setCell (p := ⟨w.heap.size + 1, 5, none⟩) (show w.heap.size ≤ w.heap.size + 1 by omega) _).setCell (p := ⟨w.heap.size + 1, 6, none⟩) (show w.heap.size ≤ w.heap.size + 1 by omega) _).setCell (p := ⟨w.heap.size + 1, 7, none⟩) (show w.heap.size ≤ w.heap.size + 1 by omega) _).setCell (p := ⟨w.heap.size + 1, 8, none⟩) (show w.heap.size ≤ w.heap.size + 1 by omega) _).alloc (by simp; omega) _
      · go_wp2_with fail
        simp at h0
        refine ⟨⟨1, by omega, by go_num, ?_, by simp; omega, (((hB1.setCell (p := ⟨w.heap.size + 1 + 1, 0, none⟩) (Nat.le_refl _) _).setCell (p := ⟨w.heap.size + 1 + 1, 1, none⟩) (Nat.le_refl _) _).setCell (p := ⟨w.heap.size + 1 + 1, 2, none⟩) (Nat.le_refl _) _).alloc (by simp; omega) _, by go_simp, by go_simp, by go_simp, by go_simp, by go_simp, by go_simp, by go_simp, by go_simp, by go_simp, by go_simp, by go_simp, by go_simp, by go_simp, by go_simp, by go_simp, by go_simp, by go_simp, by go_simp⟩, by simp [intOf]⟩
        have hh := hH.out
        exact ⟨fun _ => h0, fun _ => by omega, fun _ => by omega⟩
    · replace e0 : wr.cell? ⟨w.heap.size + 1 + 1, 0, none⟩ = some (.int .i64 (t1.1)) := e0
      replace e1 : wr.cell? ⟨w.heap.size + 1 + 1, 1, none⟩ = some (.string ⟨(t1.2.1).toArray⟩) := e1
      replace e2 : wr.cell? ⟨w.heap.size + 1 + 1, 2, none⟩ = some (.string ⟨(t1.2.2).toArray⟩) := e2
      replace e3 : wr.cell? ⟨w.heap.size + 1 + 1, 3, none⟩ = some (.int .i64 (0)) := e3
      replace e4 : wr.cell? ⟨w.heap.size + 1 + 1, 4, none⟩ = some (.string ⟨(([] : List UInt8)).toArray⟩) := e4
      replace e5 : wr.cell? ⟨w.heap.size + 1 + 1, 5, none⟩ = some (.string ⟨(([] : List UInt8)).toArray⟩) := e5
      replace e6 : wr.cell? ⟨w.heap.size + 1 + 1, 6, none⟩ = some (.int .i64 (0)) := e6
      replace e7 : wr.cell? ⟨w.heap.size + 1 + 1, 7, none⟩ = some (.string ⟨(([] : List UInt8)).toArray⟩) := e7
      replace e8 : wr.cell? ⟨w.heap.size + 1 + 1, 8, none⟩ = some (.string ⟨(([] : List UInt8)).toArray⟩) := e8
      go_wp2_with fail
      refine (P2 _).mono ?_
      rintro e w1 ⟨rfl, hb1⟩
      obtain ⟨kc, kf⟩ := bcell hb1
      have hz2 : w.heap.size + 1 + 1 < w1.heap.size := by have := hb1.size; omega
      have g0 := (kc _ 0 hz).trans e0
      have g1 := (kc _ 1 hz).trans e1
      have g2 := (kc _ 2 hz).trans e2
      have g3 := (kc _ 3 hz).trans e3
      have g4 := (kc _ 4 hz).trans e4
      have g5 := (kc _ 5 hz).trans e5
      have g6 := (kc _ 6 hz).trans e6
      have g7 := (kc _ 7 hz).trans e7
      have g8 := (kc _ 8 hz).trans e8
      have m0 := (kf _ 0 hz).trans f0
      have m1 := (kf _ 1 hz).trans f1
      have m2 := (kf _ 2 hz).trans f2
      have m3 := (kf _ 3 hz).trans f3
      have m4 := (kf _ 4 hz).trans f4
      have m5 := (kf _ 5 hz).trans f5
      have m6 := (kf _ 6 hz).trans f6
      have m7 := (kf _ 7 hz).trans f7
      have m8 := (kf _ 8 hz).trans f8
      have hB1 := hbr.trans (hb1.mono (by omega))
      have hz3 : w.heap.size + 1 < w1.heap.size := by omega
      clear kc kf
      cases h0 : (n2 == 0)
      · have q1 := fun o => hB1.cell (p := ⟨w.heap.size + 1, o, none⟩) (by show w.heap.size + 1 < w.heap.size + 1 + 1; omega)
        have q2 := fun o => hB1.frozen (p := ⟨w.heap.size + 1, o, none⟩) (by show w.heap.size + 1 < w.heap.size + 1 + 1; omega)
        have z0 : w1.cell? ⟨w.heap.size + 1, 0, none⟩ = some (Value.int .i64 0) := (q1 0).trans (by go_simp)
        have y0 : w1.frozen? ⟨w.heap.size + 1, 0, none⟩ = false := (q2 0).trans (by go_simp)
        have z1 : w1.cell? ⟨w.heap.size + 1, 1, none⟩ = some (Value.string ⟨#[]⟩) := (q1 1).trans (by go_simp)
        have y1 : w1.frozen? ⟨w.heap.size + 1, 1, none⟩ = false := (q2 1).trans (by go_simp)
        have z2 : w1.cell? ⟨w.heap.size + 1, 2, none⟩ = some (Value.string ⟨#[]⟩) := (q1 2).trans (by go_simp)
        have y2 : w1.frozen? ⟨w.heap.size + 1, 2, none⟩ = false := (q2 2).trans (by go_simp)
        have z3 : w1.cell? ⟨w.heap.size + 1, 3, none⟩ = some (Value.int .i64 0) := (q1 3).trans (by go_simp)
        have y3 : w1.frozen? ⟨w.heap.size + 1, 3, none⟩ = false := (q2 3).trans (by go_simp)
        have z4 : w1.cell? ⟨w.heap.size + 1, 4, none⟩ = some (Value.string ⟨#[]⟩) := (q1 4).trans (by go_simp)
        have y4 : w1.frozen? ⟨w.heap.size + 1, 4, none⟩ = false := (q2 4).trans (by go_simp)
        have z5 : w1.cell? ⟨w.heap.size + 1, 5, none⟩ = some (Value.string ⟨#[]⟩) := (q1 5).trans (by go_simp)
        have y5 : w1.frozen? ⟨w.heap.size + 1, 5, none⟩ = false := (q2 5).trans (by go_simp)
        have z6 : w1.cell? ⟨w.heap.size + 1, 6, none⟩ = some (Value.int .i64 0) := (q1 6).trans (by go_simp)
        have y6 : w1.frozen? ⟨w.heap.size + 1, 6, none⟩ = false := (q2 6).trans (by go_simp)
        have z7 : w1.cell? ⟨w.heap.size + 1, 7, none⟩ = some (Value.string ⟨#[]⟩) := (q1 7).trans (by go_simp)
        have y7 : w1.frozen? ⟨w.heap.size + 1, 7, none⟩ = false := (q2 7).trans (by go_simp)
        have z8 : w1.cell? ⟨w.heap.size + 1, 8, none⟩ = some (Value.string ⟨#[]⟩) := (q1 8).trans (by go_simp)
        have y8 : w1.frozen? ⟨w.heap.size + 1, 8, none⟩ = false := (q2 8).trans (by go_simp)
        clear q1 q2
        go_wp2_with fail
        have hne : ¬ n2 = 0 := by simpa using h0
        have fin2 : ptN n1 n2 n3 = n2 := by
          have hh := hH.out
          unfold ptN
          rw [if_pos (hh.1 (by omega)), if_neg hne]
        refine bodyPost_ret (v := .tuple #[valTr zeroTr, errV n2]) (by unfold results valTr zeroTr; rw [Tryz.results28]; go_simp) rfl ⟨ret_val (by rw [← finR.out, ← finN.out, fin2, if_neg hne]), ?_⟩
        exact (((((((((((bstep (bstep (balloc _ _) (balloc _ _)) (balloc _ _)).trans (hB1.mono (by omega))).setCell (p := ⟨w.heap.size + 1, 0, none⟩) (show w.heap.size ≤ w.heap.size + 1 by omega) _).setCell (p := ⟨w.heap.size + 1, 1, none⟩) (show w.heap.size ≤ w.heap.size + 1 by omega) _).setCell (p := ⟨w.heap.size + 1, 2, none⟩) (show w.heap.size ≤ w.heap.size + 1 by omega) _).setCell (p := ⟨w.heap.size + 1, 3, none⟩) (show w.heap.size ≤ w.heap.size + 1 by omega) _).setCell (p := ⟨w.heap.size + 1, 4, none⟩) (show w.heap.size ≤ w.heap.size + 1 by omega) _).setCell (p := ⟨w.heap.size + 1, 5, none⟩) (show w.heap.size ≤ w.heap.size + 1 by omega) _).setCell (p := ⟨w.heap.size + 1, 6, none⟩) (show w.heap.size ≤ w.heap.size + 1 by omega) _).setCell (p := ⟨w.heap.size + 1, 7, none⟩) (show w.heap.size ≤ w.heap.size + 1 by omega) _).setCell (p := ⟨w.heap.size + 1, 8, none⟩) (show w.heap.size ≤ w.heap.size + 1 by omega) _).alloc (by simp; omega) _
      · go_wp2_with fail
        simp at h0
        refine ⟨⟨2, by omega, by go_num, ?_, by simp; omega, (((hB1.setCell (p := ⟨w.heap.size + 1 + 1, 3, none⟩) (Nat.le_refl _) _).setCell (p := ⟨w.heap.size + 1 + 1, 4, none⟩) (Nat.le_refl _) _).setCell (p := ⟨w.heap.size + 1 + 1, 5, none⟩) (Nat.le_refl _) _).alloc (by simp; omega) _, by go_simp, by go_simp, by go_simp, by go_simp, by go_simp, by go_simp, by go_simp, by go_simp, by go_simp, by go_simp, by go_simp, by go_simp, by go_simp, by go_simp, by go_simp, by go_simp, by go_simp, by go_simp⟩, by simp [intOf]⟩
        have hh := hH.out
        exact ⟨fun _ => hh.1 (by omega), fun _ => h0, fun _ => by omega⟩
    · replace e0 : wr.cell? ⟨w.heap.size + 1 + 1, 0, none⟩ = some (.int .i64 (t1.1)) := e0
      replace e1 : wr.cell? ⟨w.heap.size + 1 + 1, 1, none⟩ = some (.string ⟨(t1.2.1).toArray⟩) := e1
      replace e2 : wr.cell? ⟨w.heap.size + 1 + 1, 2, none⟩ = some (.string ⟨(t1.2.2).toArray⟩) := e2
      replace e3 : wr.cell? ⟨w.heap.size + 1 + 1, 3, none⟩ = some (.int .i64 (t2.1)) := e3
      replace e4 : wr.cell? ⟨w.heap.size + 1 + 1, 4, none⟩ = some (.string ⟨(t2.2.1).toArray⟩) := e4
      replace e5 : wr.cell? ⟨w.heap.size + 1 + 1, 5, none⟩ = some (.string ⟨(t2.2.2).toArray⟩) := e5
      replace e6 : wr.cell? ⟨w.heap.size + 1 + 1, 6, none⟩ = some (.int .i64 (0)) := e6
      replace e7 : wr.cell? ⟨w.heap.size + 1 + 1, 7, none⟩ = some (.string ⟨(([] : List UInt8)).toArray⟩) := e7
      replace e8 : wr.cell? ⟨w.heap.size + 1 + 1, 8, none⟩ = some (.string ⟨(([] : List UInt8)).toArray⟩) := e8
      go_wp2_with fail
      refine (P3 _).mono ?_
      rintro e w1 ⟨rfl, hb1⟩
      obtain ⟨kc, kf⟩ := bcell hb1
      have hz2 : w.heap.size + 1 + 1 < w1.heap.size := by have := hb1.size; omega
      have g0 := (kc _ 0 hz).trans e0
      have g1 := (kc _ 1 hz).trans e1
      have g2 := (kc _ 2 hz).trans e2
      have g3 := (kc _ 3 hz).trans e3
      have g4 := (kc _ 4 hz).trans e4
      have g5 := (kc _ 5 hz).trans e5
      have g6 := (kc _ 6 hz).trans e6
      have g7 := (kc _ 7 hz).trans e7
      have g8 := (kc _ 8 hz).trans e8
      have m0 := (kf _ 0 hz).trans f0
      have m1 := (kf _ 1 hz).trans f1
      have m2 := (kf _ 2 hz).trans f2
      have m3 := (kf _ 3 hz).trans f3
      have m4 := (kf _ 4 hz).trans f4
      have m5 := (kf _ 5 hz).trans f5
      have m6 := (kf _ 6 hz).trans f6
      have m7 := (kf _ 7 hz).trans f7
      have m8 := (kf _ 8 hz).trans f8
      have hB1 := hbr.trans (hb1.mono (by omega))
      have hz3 : w.heap.size + 1 < w1.heap.size := by omega
      clear kc kf
      cases h0 : (n3 == 0)
      · have q1 := fun o => hB1.cell (p := ⟨w.heap.size + 1, o, none⟩) (by show w.heap.size + 1 < w.heap.size + 1 + 1; omega)
        have q2 := fun o => hB1.frozen (p := ⟨w.heap.size + 1, o, none⟩) (by show w.heap.size + 1 < w.heap.size + 1 + 1; omega)
        have z0 : w1.cell? ⟨w.heap.size + 1, 0, none⟩ = some (Value.int .i64 0) := (q1 0).trans (by go_simp)
        have y0 : w1.frozen? ⟨w.heap.size + 1, 0, none⟩ = false := (q2 0).trans (by go_simp)
        have z1 : w1.cell? ⟨w.heap.size + 1, 1, none⟩ = some (Value.string ⟨#[]⟩) := (q1 1).trans (by go_simp)
        have y1 : w1.frozen? ⟨w.heap.size + 1, 1, none⟩ = false := (q2 1).trans (by go_simp)
        have z2 : w1.cell? ⟨w.heap.size + 1, 2, none⟩ = some (Value.string ⟨#[]⟩) := (q1 2).trans (by go_simp)
        have y2 : w1.frozen? ⟨w.heap.size + 1, 2, none⟩ = false := (q2 2).trans (by go_simp)
        have z3 : w1.cell? ⟨w.heap.size + 1, 3, none⟩ = some (Value.int .i64 0) := (q1 3).trans (by go_simp)
        have y3 : w1.frozen? ⟨w.heap.size + 1, 3, none⟩ = false := (q2 3).trans (by go_simp)
        have z4 : w1.cell? ⟨w.heap.size + 1, 4, none⟩ = some (Value.string ⟨#[]⟩) := (q1 4).trans (by go_simp)
        have y4 : w1.frozen? ⟨w.heap.size + 1, 4, none⟩ = false := (q2 4).trans (by go_simp)
        have z5 : w1.cell? ⟨w.heap.size + 1, 5, none⟩ = some (Value.string ⟨#[]⟩) := (q1 5).trans (by go_simp)
        have y5 : w1.frozen? ⟨w.heap.size + 1, 5, none⟩ = false := (q2 5).trans (by go_simp)
        have z6 : w1.cell? ⟨w.heap.size + 1, 6, none⟩ = some (Value.int .i64 0) := (q1 6).trans (by go_simp)
        have y6 : w1.frozen? ⟨w.heap.size + 1, 6, none⟩ = false := (q2 6).trans (by go_simp)
        have z7 : w1.cell? ⟨w.heap.size + 1, 7, none⟩ = some (Value.string ⟨#[]⟩) := (q1 7).trans (by go_simp)
        have y7 : w1.frozen? ⟨w.heap.size + 1, 7, none⟩ = false := (q2 7).trans (by go_simp)
        have z8 : w1.cell? ⟨w.heap.size + 1, 8, none⟩ = some (Value.string ⟨#[]⟩) := (q1 8).trans (by go_simp)
        have y8 : w1.frozen? ⟨w.heap.size + 1, 8, none⟩ = false := (q2 8).trans (by go_simp)
        clear q1 q2
        go_wp2_with fail
        have hne : ¬ n3 = 0 := by simpa using h0
        have fin2 : ptN n1 n2 n3 = n3 := by
          have hh := hH.out
          unfold ptN
          rw [if_pos (hh.1 (by omega)), if_pos (hh.2.1 (by omega))]
        refine bodyPost_ret (v := .tuple #[valTr zeroTr, errV n3]) (by unfold results valTr zeroTr; rw [Tryz.results28]; go_simp) rfl ⟨ret_val (by rw [← finR.out, ← finN.out, fin2, if_neg hne]), ?_⟩
        exact (((((((((((bstep (bstep (balloc _ _) (balloc _ _)) (balloc _ _)).trans (hB1.mono (by omega))).setCell (p := ⟨w.heap.size + 1, 0, none⟩) (show w.heap.size ≤ w.heap.size + 1 by omega) _).setCell (p := ⟨w.heap.size + 1, 1, none⟩) (show w.heap.size ≤ w.heap.size + 1 by omega) _).setCell (p := ⟨w.heap.size + 1, 2, none⟩) (show w.heap.size ≤ w.heap.size + 1 by omega) _).setCell (p := ⟨w.heap.size + 1, 3, none⟩) (show w.heap.size ≤ w.heap.size + 1 by omega) _).setCell (p := ⟨w.heap.size + 1, 4, none⟩) (show w.heap.size ≤ w.heap.size + 1 by omega) _).setCell (p := ⟨w.heap.size + 1, 5, none⟩) (show w.heap.size ≤ w.heap.size + 1 by omega) _).setCell (p := ⟨w.heap.size + 1, 6, none⟩) (show w.heap.size ≤ w.heap.size + 1 by omega) _).setCell (p := ⟨w.heap.size + 1, 7, none⟩) (show w.heap.size ≤ w.heap.size + 1 by omega) _).setCell (p := ⟨w.heap.size + 1, 8, none⟩) (show w.heap.size ≤ w.heap.size + 1 by omega) _).alloc (by simp; omega) _
      · go_wp2_with fail
        simp at h0
        refine ⟨⟨3, by omega, by go_num, ?_, by simp; omega, (((hB1.setCell (p := ⟨w.heap.size + 1 + 1, 6, none⟩) (Nat.le_refl _) _).setCell (p := ⟨w.heap.size + 1 + 1, 7, none⟩) (Nat.le_refl _) _).setCell (p := ⟨w.heap.size + 1 + 1, 8, none⟩) (Nat.le_refl _) _).alloc (by simp; omega) _, by go_simp, by go_simp, by go_simp, by go_simp, by go_simp, by go_simp, by go_simp, by go_simp, by go_simp, by go_simp, by go_simp, by go_simp, by go_simp, by go_simp, by go_simp, by go_simp, by go_simp, by go_simp⟩, by simp [intOf]⟩
        have hh := hH.out
        exact ⟨fun _ => hh.1 (by omega), fun _ => hh.2.1 (by omega), fun _ => h0⟩
    · replace e0 : wr.cell? ⟨w.heap.size + 1 + 1, 0, none⟩ = some (.int .i64 (t1.1)) := e0
      replace e1 : wr.cell? ⟨w.heap.size + 1 + 1, 1, none⟩ = some (.string ⟨(t1.2.1).toArray⟩) := e1
      replace e2 : wr.cell? ⟨w.heap.size + 1 + 1, 2, none⟩ = some (.string ⟨(t1.2.2).toArray⟩) := e2
      replace e3 : wr.cell? ⟨w.heap.size + 1 + 1, 3, none⟩ = some (.int .i64 (t2.1)) := e3
      replace e4 : wr.cell? ⟨w.heap.size + 1 + 1, 4, none⟩ = some (.string ⟨(t2.2.1).toArray⟩) := e4
      replace e5 : wr.cell? ⟨w.heap.size + 1 + 1, 5, none⟩ = some (.string ⟨(t2.2.2).toArray⟩) := e5
      replace e6 : wr.cell? ⟨w.heap.size + 1 + 1, 6, none⟩ = some (.int .i64 (t3.1)) := e6
      replace e7 : wr.cell? ⟨w.heap.size + 1 + 1, 7, none⟩ = some (.string ⟨(t3.2.1).toArray⟩) := e7
      replace e8 : wr.cell? ⟨w.heap.size + 1 + 1, 8, none⟩ = some (.string ⟨(t3.2.2).toArray⟩) := e8
      have q1 := fun o => hbr.cell (p := ⟨w.heap.size + 1, o, none⟩) (by show w.heap.size + 1 < w.heap.size + 1 + 1; omega)
      have q2 := fun o => hbr.frozen (p := ⟨w.heap.size + 1, o, none⟩) (by show w.heap.size + 1 < w.heap.size + 1 + 1; omega)
      have z0 : wr.cell? ⟨w.heap.size + 1, 0, none⟩ = some (Value.int .i64 0) := (q1 0).trans (by go_simp)
      have y0 : wr.frozen? ⟨w.heap.size + 1, 0, none⟩ = false := (q2 0).trans (by go_simp)
      have z1 : wr.cell? ⟨w.heap.size + 1, 1, none⟩ = some (Value.string ⟨#[]⟩) := (q1 1).trans (by go_simp)
      have y1 : wr.frozen? ⟨w.heap.size + 1, 1, none⟩ = false := (q2 1).trans (by go_simp)
      have z2 : wr.cell? ⟨w.heap.size + 1, 2, none⟩ = some (Value.string ⟨#[]⟩) := (q1 2).trans (by go_simp)
      have y2 : wr.frozen? ⟨w.heap.size + 1, 2, none⟩ = false := (q2 2).trans (by go_simp)
      have z3 : wr.cell? ⟨w.heap.size + 1, 3, none⟩ = some (Value.int .i64 0) := (q1 3).trans (by go_simp)
      have y3 : wr.frozen? ⟨w.heap.size + 1, 3, none⟩ = false := (q2 3).trans (by go_simp)
      have z4 : wr.cell? ⟨w.heap.size + 1, 4, none⟩ = some (Value.string ⟨#[]⟩) := (q1 4).trans (by go_simp)
      have y4 : wr.frozen? ⟨w.heap.size + 1, 4, none⟩ = false := (q2 4).trans (by go_simp)
      have z5 : wr.cell? ⟨w.heap.size + 1, 5, none⟩ = some (Value.string ⟨#[]⟩) := (q1 5).trans (by go_simp)
      have y5 : wr.frozen? ⟨w.heap.size + 1, 5, none⟩ = false := (q2 5).trans (by go_simp)
      have z6 : wr.cell? ⟨w.heap.size + 1, 6, none⟩ = some (Value.int .i64 0) := (q1 6).trans (by go_simp)
      have y6 : wr.frozen? ⟨w.heap.size + 1, 6, none⟩ = false := (q2 6).trans (by go_simp)
      have z7 : wr.cell? ⟨w.heap.size + 1, 7, none⟩ = some (Value.string ⟨#[]⟩) := (q1 7).trans (by go_simp)
      have y7 : wr.frozen? ⟨w.heap.size + 1, 7, none⟩ = false := (q2 7).trans (by go_simp)
      have z8 : wr.cell? ⟨w.heap.size + 1, 8, none⟩ = some (Value.string ⟨#[]⟩) := (q1 8).trans (by go_simp)
      have y8 : wr.frozen? ⟨w.heap.size + 1, 8, none⟩ = false := (q2 8).trans (by go_simp)
      clear q1 q2
      have hh := hH.out
      have HL : Hid (ptN n1 n2 n3 = 0) := by
        show ptN n1 n2 n3 = 0
        unfold ptN
        rw [if_pos (hh.1 (by omega)), if_pos (hh.2.1 (by omega))]
        exact hh.2.2 (by omega)
      clear hh hH
      go_wp2_with fail
      have hN0 : N = 0 := by rw [← finN.out]; exact HL.out
      refine bodyPost_ret (v := .tuple #[valTr T, .nilIface]) (by rw [fin.out]; simp [results, Tryz.results28, go_sem, valTr, z0, z1, z2, z3, z4, z5, z6, z7, z8]) rfl ⟨ret_val (by rw [← finR.out, hN0]; rfl), ?_⟩
      exact (((((((((((bstep (bstep (balloc _ _) (balloc _ _)) (balloc _ _)).trans (hbr.mono (by omega))).setCell (p := ⟨w.heap.size + 1, 0, none⟩) (show w.heap.size ≤ w.heap.size + 1 by omega) _).setCell (p := ⟨w.heap.size + 1, 1, none⟩) (show w.heap.size ≤ w.heap.size + 1 by omega) _).setCell (p := ⟨w.heap.size + 1, 2, none⟩) (show w.heap.size ≤ w.heap.size + 1 by omega) _).setCell (p := ⟨w.heap.size + 1, 3, none⟩) (show w.heap.size ≤ w.heap.size + 1 by omega) _).setCell (p := ⟨w.heap.size + 1, 4, none⟩) (show w.heap.size ≤ w.heap.size + 1 by omega) _).setCell (p := ⟨w.heap.size + 1, 5, none⟩) (show w.heap.size ≤ w.heap.size + 1 by omega) _).setCell (p := ⟨w.heap.size + 1, 6, none⟩) (show w.heap.size ≤ w.heap.size + 1 by omega) _).setCell (p := ⟨w.heap.size + 1, 7, none⟩) (show w.heap.size ≤ w.heap.size + 1 by omega) _).setCell (p := ⟨w.heap.size + 1, 8, none⟩) (show w.heap.size ≤ w.heap.size + 1 by omega) _)
end Go.Proofs.YtnlcfnpcjkcdmaaGreatDoor
