import Derived.Test.YtaddfndohoppeaaGreatMCTopLayersx3
import Derived.Test.YtaddfndohoppeaaGreatMDx6
import Derived.Test.YtaddfndohoppeaaGreatMA0x2
import Derived.Shelf.SlSortCmp.QuietGrown

/- parseTerms: three texts read, of whatever length; textFault: a length and a place that are both wrong. -/
namespace Go.Proofs.YtaddfndohoppeaaGreat
open Go Go.RowKit Go.Proofs
set_option synthInstance.maxSize 1000

attribute [local go_sem] eql_errV neq_errV guard_errV

theorem str0 (a b c : Value) (w : World) : (Instr.index 240 (.agg #[a, b, c]) (.int .i64 0)).run Tryz.prog w = .ok a w := by kernel_rfl
theorem str1 (a b c : Value) (w : World) : (Instr.index 240 (.agg #[a, b, c]) (.int .i64 1)).run Tryz.prog w = .ok b w := by kernel_rfl
theorem str2 (a b c : Value) (w : World) : (Instr.index 240 (.agg #[a, b, c]) (.int .i64 2)).run Tryz.prog w = .ok c w := by kernel_rfl
attribute [local go_sem] str0 str1 str2

set_option maxHeartbeats 4000000 in
set_option maxRecDepth 100000 in
theorem textFault_any (x : Tr) (w : World) (hx : fitTr x) : Calls Tryz.prog 184 #[valTr x] w fun e w' => e = .returned (errV (textN x)) ∧ Below w.heap.size w w' := by
  have H := fun W => ChkTr_any x W hx
  have HM := fun W => misplaced_any x.1.1 x.1.2.1 x.1.2.2 x.2.1.1 x.2.1.2.1 x.2.1.2.2 x.2.2.1 x.2.2.2.1 x.2.2.2.2 W
  have fin : Hid (textN x = if (chkTr x == 4 && shapeB x.1.1 x.2.1.1) = true then 2 else chkTr x) := rfl
  generalize textN x = N at fin ⊢
  generalize chkTr x = n at H fin
  generalize shapeB x.1.1 x.2.1.1 = sh at HM fin
  clear hx
  unfold valTr at H ⊢
  cases h4 : (n == 4)
  · go_enter Tryz.func184, Tryz.ntmps184
    go_wp2_with fail
    refine (H _).mono ?_
    rintro e w1 ⟨rfl, hb1⟩
    have hB := bstep (balloc _ _) hb1
    go_wp2_with fail
    refine (Is_any n _).mono ?_
    rintro e w2 ⟨rfl, rfl⟩
    go_wp2_with fail
    go_ret
    exact ⟨ret_val (by rw [fin.out, h4]; rfl), hB⟩
  · cases sh
    all_goals
      go_enter Tryz.func184, Tryz.ntmps184
      go_wp2_with fail
      refine (H _).mono ?_
      rintro e w1 ⟨rfl, hb1⟩
      have hB := bstep (balloc _ _) hb1
      obtain ⟨a0, a1, a2, b0, b1, b2, d0, d1, d2, hz1⟩ := ninebox hb1
      go_wp2_with fail
      refine (Is_any n _).mono ?_
      rintro e w2 ⟨rfl, rfl⟩
      go_wp2_with fail
      refine (HM _).mono ?_
      rintro e w3 ⟨rfl, hb3⟩
      go_wp2_with fail
      go_ret
      exact ⟨ret_val (by rw [fin.out, h4]; rfl), bstep hB hb3⟩

set_option maxHeartbeats 16000000 in
set_option maxRecDepth 100000 in
theorem parseTerms_any (a b c : List UInt8) (w : World) (ha : a.length ≤ 140737488355328) (hb : b.length ≤ 140737488355328) (hc : c.length ≤ 140737488355328) :
    Calls Tryz.prog 183 #[.agg #[.string ⟨a.toArray⟩, .string ⟨b.toArray⟩, .string ⟨c.toArray⟩]] w
      fun e w' => e = .returned (.tuple #[valTr (if ptN (anyN a) (anyN b) (anyN c) = 0 then tripleOf a b c else zeroTr), errV (ptN (anyN a) (anyN b) (anyN c))]) ∧ Below w.heap.size w w' := by
  have P1 := fun W => Any_any a W ha
  have P2 := fun W => Any_any b W hb
  have P3 := fun W => Any_any c W hc
  have fin : Hid (tripleOf a b c = ⟨⟨(anyT a).1, (anyT a).2.1, (anyT a).2.2⟩, ⟨(anyT b).1, (anyT b).2.1, (anyT b).2.2⟩, ⟨(anyT c).1, (anyT c).2.1, (anyT c).2.2⟩⟩) := rfl
  simp only [termV] at P1 P2 P3
  generalize anyT a = t1 at P1 fin
  generalize anyT b = t2 at P2 fin
  generalize anyT c = t3 at P3 fin
  generalize anyN a = n1 at P1 ⊢
  generalize anyN b = n2 at P2 ⊢
  generalize anyN c = n3 at P3 ⊢
  generalize tripleOf a b c = T at fin ⊢
  generalize hR : valTr (if ptN n1 n2 n3 = 0 then T else zeroTr) = R
  generalize hN : ptN n1 n2 n3 = N
  have finR : Hid (valTr (if N = 0 then T else zeroTr) = R) := by rw [← hN]; exact hR
  have finN : Hid (ptN n1 n2 n3 = N) := hN
  clear hR hN
  clear ha hb hc
  go_enter Tryz.func183, Tryz.ntmps183
  go_wp2_with fail
  go_loopw [10] (fun i wr => ∃ k : Nat, k ≤ 3 ∧ i = .int .i64 k ∧ Hid ((0 < k → n1 = 0) ∧ (1 < k → n2 = 0) ∧ (2 < k → n3 = 0)) ∧ w.heap.size + 1 + 1 < wr.heap.size ∧ Below (w.heap.size + 1 + 1) (((w.alloc (.cells #[.string ⟨a.toArray⟩, .string ⟨b.toArray⟩, .string ⟨c.toArray⟩] 240)).alloc (.cells #[.int .i64 0, .string ⟨#[]⟩, .string ⟨#[]⟩, .int .i64 0, .string ⟨#[]⟩, .string ⟨#[]⟩, .int .i64 0, .string ⟨#[]⟩, .string ⟨#[]⟩] 58)).alloc (.cells #[.int .i64 0, .string ⟨#[]⟩, .string ⟨#[]⟩, .int .i64 0, .string ⟨#[]⟩, .string ⟨#[]⟩, .int .i64 0, .string ⟨#[]⟩, .string ⟨#[]⟩] 156)) wr ∧ wr.cell? ⟨w.heap.size + 1 + 1, 0, none⟩ = some (.int .i64 ((if 0 < k then t1.1 else 0))) ∧ wr.cell? ⟨w.heap.size + 1 + 1, 1, none⟩ = some (.string ⟨((if 0 < k then t1.2.1 else [])).toArray⟩) ∧ wr.cell? ⟨w.heap.size + 1 + 1, 2, none⟩ = some (.string ⟨((if 0 < k then t1.2.2 else [])).toArray⟩) ∧ wr.cell? ⟨w.heap.size + 1 + 1, 3, none⟩ = some (.int .i64 ((if 1 < k then t2.1 else 0))) ∧ wr.cell? ⟨w.heap.size + 1 + 1, 4, none⟩ = some (.string ⟨((if 1 < k then t2.2.1 else [])).toArray⟩) ∧ wr.cell? ⟨w.heap.size + 1 + 1, 5, none⟩ = some (.string ⟨((if 1 < k then t2.2.2 else [])).toArray⟩) ∧ wr.cell? ⟨w.heap.size + 1 + 1, 6, none⟩ = some (.int .i64 ((if 2 < k then t3.1 else 0))) ∧ wr.cell? ⟨w.heap.size + 1 + 1, 7, none⟩ = some (.string ⟨((if 2 < k then t3.2.1 else [])).toArray⟩) ∧ wr.cell? ⟨w.heap.size + 1 + 1, 8, none⟩ = some (.string ⟨((if 2 < k then t3.2.2 else [])).toArray⟩) ∧ wr.frozen? ⟨w.heap.size + 1 + 1, 0, none⟩ = false ∧ wr.frozen? ⟨w.heap.size + 1 + 1, 1, none⟩ = false ∧ wr.frozen? ⟨w.heap.size + 1 + 1, 2, none⟩ = false ∧ wr.frozen? ⟨w.heap.size + 1 + 1, 3, none⟩ = false ∧ wr.frozen? ⟨w.heap.size + 1 + 1, 4, none⟩ = false ∧ wr.frozen? ⟨w.heap.size + 1 + 1, 5, none⟩ = false ∧ wr.frozen? ⟨w.heap.size + 1 + 1, 6, none⟩ = false ∧ wr.frozen? ⟨w.heap.size + 1 + 1, 7, none⟩ = false ∧ wr.frozen? ⟨w.heap.size + 1 + 1, 8, none⟩ = false) (fun i wr => 3 - (intOf i).toNat)
  case atStart => exact ⟨0, by omega, rfl, ⟨by omega, by omega, by omega⟩, by simp, Below.refl _ _, by go_simp, by go_simp, by go_simp, by go_simp, by go_simp, by go_simp, by go_simp, by go_simp, by go_simp, by go_simp, by go_simp, by go_simp, by go_simp, by go_simp, by go_simp, by go_simp, by go_simp, by go_simp⟩
  case round =>
    obtain ⟨k, hk, rfl, hH, hz, hbr, e0, e1, e2, e3, e4, e5, e6, e7, e8, f0, f1, f2, f3, f4, f5, f6, f7, f8⟩ := hrel
    rcases (by omega : k = 0 ∨ k = 1 ∨ k = 2 ∨ k = 3) with rfl | rfl | rfl | rfl
    · replace e0 : wr.cell? ⟨w.heap.size + 1 + 1, 0, none⟩ = some (.int .i64 (0)) := e0
      replace e1 : wr.cell? ⟨w.heap.size + 1 + 1, 1, none⟩ = some (.string ⟨(([] : List UInt8)).toArray⟩) := e1
      replace e2 : wr.cell? ⟨w.heap.size + 1 + 1, 2, none⟩ = some (.string ⟨(([] : List UInt8)).toArray⟩) := e2
      replace e3 : wr.cell? ⟨w.heap.size + 1 + 1, 3, none⟩ = some (.int .i64 (0)) := e3
      replace e4 : wr.cell? ⟨w.heap.size + 1 + 1, 4, none⟩ = some (.string ⟨(([] : List UInt8)).toArray⟩) := e4
      replace e5 : wr.cell? ⟨w.heap.size + 1 + 1, 5, none⟩ = some (.string ⟨(([] : List UInt8)).toArray⟩) := e5
      replace e6 : wr.cell? ⟨w.heap.size + 1 + 1, 6, none⟩ = some (.int .i64 (0)) := e6
      replace e7 : wr.cell? ⟨w.heap.size + 1 + 1, 7, none⟩ = some (.string ⟨(([] : List UInt8)).toArray⟩) := e7
      replace e8 : wr.cell? ⟨w.heap.size + 1 + 1, 8, none⟩ = some (.string ⟨(([] : List UInt8)).toArray⟩) := e8
      go_wp2_with fail
      refine (P1 _).mono ?_
      rintro e w1 ⟨rfl, hb1⟩
      obtain ⟨kc, kf⟩ := bcell hb1
      have hz2 : w.heap.size + 1 + 1 < w1.heap.size := by have := hb1.size; omega
      have g0 := (kc _ 0 hz).trans e0
      have g1 := (kc _ 1 hz).trans e1
      have g2 := (kc _ 2 hz).trans e2
      have g3 := (kc _ 3 hz).trans e3
      have g4 := (kc _ 4 hz).trans e4
      have g5 := (kc _ 5 hz).trans e5
      have g6 := (kc _ 6 hz).trans e6
      have g7 := (kc _ 7 hz).trans e7
      have g8 := (kc _ 8 hz).trans e8
      have m0 := (kf _ 0 hz).trans f0
      have m1 := (kf _ 1 hz).trans f1
      have m2 := (kf _ 2 hz).trans f2
      have m3 := (kf _ 3 hz).trans f3
      have m4 := (kf _ 4 hz).trans f4
      have m5 := (kf _ 5 hz).trans f5
      have m6 := (kf _ 6 hz).trans f6
      have m7 := (kf _ 7 hz).trans f7
      have m8 := (kf _ 8 hz).trans f8
      have hB1 := hbr.trans (hb1.mono (by omega))
      have hz3 : w.heap.size + 1 < w1.heap.size := by omega
      clear kc kf
      cases h0 : (n1 == 0)
      · have q1 := fun o => hB1.cell (p := ⟨w.heap.size + 1, o, none⟩) (by show w.heap.size + 1 < w.heap.size + 1 + 1; omega)
        have q2 := fun o => hB1.frozen (p := ⟨w.heap.size + 1, o, none⟩) (by show w.heap.size + 1 < w.heap.size + 1 + 1; omega)
        have z0 : w1.cell? ⟨w.heap.size + 1, 0, none⟩ = some (Value.int .i64 0) := (q1 0).trans (by go_simp)
        have y0 : w1.frozen? ⟨w.heap.size + 1, 0, none⟩ = false := (q2 0).trans (by go_simp)
        have z1 : w1.cell? ⟨w.heap.size + 1, 1, none⟩ = some (Value.string ⟨#[]⟩) := (q1 1).trans (by go_simp)
        have y1 : w1.frozen? ⟨w.heap.size + 1, 1, none⟩ = false := (q2 1).trans (by go_simp)
        have z2 : w1.cell? ⟨w.heap.size + 1, 2, none⟩ = some (Value.string ⟨#[]⟩) := (q1 2).trans (by go_simp)
        have y2 : w1.frozen? ⟨w.heap.size + 1, 2, none⟩ = false := (q2 2).trans (by go_simp)
        have z3 : w1.cell? ⟨w.heap.size + 1, 3, none⟩ = some (Value.int .i64 0) := (q1 3).trans (by go_simp)
        have y3 : w1.frozen? ⟨w.heap.size + 1, 3, none⟩ = false := (q2 3).trans (by go_simp)
        have z4 : w1.cell? ⟨w.heap.size + 1, 4, none⟩ = some (Value.string ⟨#[]⟩) := (q1 4).trans (by go_simp)
        have y4 : w1.frozen? ⟨w.heap.size + 1, 4, none⟩ = false := (q2 4).trans (by go_simp)
        have z5 : w1.cell? ⟨w.heap.size + 1, 5, none⟩ = some (Value.string ⟨#[]⟩) := (q1 5).trans (by go_simp)
        have y5 : w1.frozen? ⟨w.heap.size + 1, 5, none⟩ = false := (q2 5).trans (by go_simp)
        have z6 : w1.cell? ⟨w.heap.size + 1, 6, none⟩ = some (Value.int .i64 0) := (q1 6).trans (by go_simp)
        have y6 : w1.frozen? ⟨w.heap.size + 1, 6, none⟩ = false := (q2 6).trans (by go_simp)
        have z7 : w1.cell? ⟨w.heap.size + 1, 7, none⟩ = some (Value.string ⟨#[]⟩) := (q1 7).trans (by go_simp)
        have y7 : w1.frozen? ⟨w.heap.size + 1, 7, none⟩ = false := (q2 7).trans (by go_simp)
        have z8 : w1.cell? ⟨w.heap.size + 1, 8, none⟩ = some (Value.string ⟨#[]⟩) := (q1 8).trans (by go_simp)
        have y8 : w1.frozen? ⟨w.heap.size + 1, 8, none⟩ = false := (q2 8).trans (by go_simp)
        clear q1 q2
        go_wp2_with fail
        have hne : ¬ n1 = 0 := by simpa using h0
        have fin2 : ptN n1 n2 n3 = n1 := by
          have hh := hH.out
          unfold ptN
          rw [if_neg hne]
        refine bodyPost_ret (v := .tuple #[valTr zeroTr, errV n1]) (by unfold results valTr zeroTr; rw [Tryz.results183]; go_simp) rfl ⟨ret_val (by rw [← finR.out, ← finN.out, fin2, if_neg hne]), ?_⟩
        exact (((((((((((bstep (bstep (balloc _ _) (balloc _ _)) (balloc _ _)).trans (hB1.mono (by omega))).setCell (p := ⟨w.heap.size + 1, 0, none⟩) (show w.heap.size ≤ w.heap.size + 1 by omega) _).setCell (p := ⟨w.heap.size + 1, 1, none⟩) (show w.heap.size ≤ w.heap.size + 1 by omega) _).setCell (p := ⟨w.heap.size + 1, 2, none⟩) (show w.heap.size ≤ w.heap.size + 1 by omega) _).setCell (p := ⟨w.heap.size + 1, 3, none⟩) (show w.heap.size ≤ w.heap.size + 1 by omega) _).setCell (p := ⟨w.heap.size + 1, 4, none⟩) (show w.heap.size ≤ w.heap.size + 1 by omega) _).setCell (p := ⟨w.heap.size + 1, 5, none⟩) (show w.heap.size ≤ w.heap.size + 1 by omega) _).setCell (p := ⟨w.heap.size + 1, 6, none⟩) (show w.heap.size ≤ w.heap.size + 1 by omega) _).setCell (p := ⟨w.heap.size + 1, 7, none⟩) (show w.heap.size ≤ w.heap.size + 1 by omega) _).setCell (p := ⟨w.heap.size + 1, 8, none⟩) (show w.heap.size ≤ w.heap.size + 1 by omega) _).alloc (by simp; omega) _
      · go_wp2_with fail
        simp at h0
        refine ⟨⟨1, by omega, by go_num, ?_, by simp; omega, (((hB1.setCell (p := ⟨w.heap.size + 1 + 1, 0, none⟩) (Nat.le_refl _) _).setCell (p := ⟨w.heap.size + 1 + 1, 1, none⟩) (Nat.le_refl _) _).setCell (p := ⟨w.heap.size + 1 + 1, 2, none⟩) (Nat.le_refl _) _).alloc (by simp; omega) _, by go_simp, by go_simp, by go_simp, by go_simp, by go_simp, by go_simp, by go_simp, by go_simp, by go_simp, by go_simp, by go_simp, by go_simp, by go_simp, by go_simp, by go_simp, by go_simp, by go_simp, by go_simp⟩, by simp [intOf]⟩
        have hh := hH.out
        exact ⟨fun _ => h0, fun _ => by omega, fun _ => by omega⟩
    · replace e0 : wr.cell? ⟨w.heap.size + 1 + 1, 0, none⟩ = some (.int .i64 (t1.1)) := e0
      replace e1 : wr.cell? ⟨w.heap.size + 1 + 1, 1, none⟩ = some (.string ⟨(t1.2.1).toArray⟩) := e1
      replace e2 : wr.cell? ⟨w.heap.size + 1 + 1, 2, none⟩ = some (.string ⟨(t1.2.2).toArray⟩) := e2
      replace e3 : wr.cell? ⟨w.heap.size + 1 + 1, 3, none⟩ = some (.int .i64 (0)) := e3
      replace e4 : wr.cell? ⟨w.heap.size + 1 + 1, 4, none⟩ = some (.string ⟨(([] : List UInt8)).toArray⟩) := e4
      replace e5 : wr.cell? ⟨w.heap.size + 1 + 1, 5, none⟩ = some (.string ⟨(([] : List UInt8)).toArray⟩) := e5
      replace e6 : wr.cell? ⟨w.heap.size + 1 + 1, 6, none⟩ = some (.int .i64 (0)) := e6
      replace e7 : wr.cell? ⟨w.heap.size + 1 + 1, 7, none⟩ = some (.string ⟨(([] : List UInt8)).toArray⟩) := e7
      replace e8 : wr.cell? ⟨w.heap.size + 1 + 1, 8, none⟩ = some (.string ⟨(([] : List UInt8)).toArray⟩) := e8
      go_wp2_with fail
      refine (P2 _).mono ?_
      rintro e w1 ⟨rfl, hb1⟩
      obtain ⟨kc, kf⟩ := bcell hb1
      have hz2 : w.heap.size + 1 + 1 < w1.heap.size := by have := hb1.size; omega
      have g0 := (kc _ 0 hz).trans e0
      have g1 := (kc _ 1 hz).trans e1
      have g2 := (kc _ 2 hz).trans e2
      have g3 := (kc _ 3 hz).trans e3
      have g4 := (kc _ 4 hz).trans e4
      have g5 := (kc _ 5 hz).trans e5
      have g6 := (kc _ 6 hz).trans e6
      have g7 := (kc _ 7 hz).trans e7
      have g8 := (kc _ 8 hz).trans e8
      have m0 := (kf _ 0 hz).trans f0
      have m1 := (kf _ 1 hz).trans f1
      have m2 := (kf _ 2 hz).trans f2
      have m3 := (kf _ 3 hz).trans f3
      have m4 := (kf _ 4 hz).trans f4
      have m5 := (kf _ 5 hz).trans f5
      have m6 := (kf _ 6 hz).trans f6
      have m7 := (kf _ 7 hz).trans f7
      have m8 := (kf _ 8 hz).trans f8
      have hB1 := hbr.trans (hb1.mono (by omega))
      have hz3 : w.heap.size + 1 < w1.heap.size := by omega
      clear kc kf
      cases h0 : (n2 == 0)
      · have q1 := fun o => hB1.cell (p := ⟨w.heap.size + 1, o, none⟩) (by show w.heap.size + 1 < w.heap.size + 1 + 1; omega)
        have q2 := fun o => hB1.frozen (p := ⟨w.heap.size + 1, o, none⟩) (by show w.heap.size + 1 < w.heap.size + 1 + 1; omega)
        have z0 : w1.cell? ⟨w.heap.size + 1, 0, none⟩ = some (Value.int .i64 0) := (q1 0).trans (by go_simp)
        have y0 : w1.frozen? ⟨w.heap.size + 1, 0, none⟩ = false := (q2 0).trans (by go_simp)
        have z1 : w1.cell? ⟨w.heap.size + 1, 1, none⟩ = some (Value.string ⟨#[]⟩) := (q1 1).trans (by go_simp)
        have y1 : w1.frozen? ⟨w.heap.size + 1, 1, none⟩ = false := (q2 1).trans (by go_simp)
        have z2 : w1.cell? ⟨w.heap.size + 1, 2, none⟩ = some (Value.string ⟨#[]⟩) := (q1 2).trans (by go_simp)
        have y2 : w1.frozen? ⟨w.heap.size + 1, 2, none⟩ = false := (q2 2).trans (by go_simp)
        have z3 : w1.cell? ⟨w.heap.size + 1, 3, none⟩ = some (Value.int .i64 0) := (q1 3).trans (by go_simp)
        have y3 : w1.frozen? ⟨w.heap.size + 1, 3, none⟩ = false := (q2 3).trans (by go_simp)
        have z4 : w1.cell? ⟨w.heap.size + 1, 4, none⟩ = some (Value.string ⟨#[]⟩) := (q1 4).trans (by go_simp)
        have y4 : w1.frozen? ⟨w.heap.size + 1, 4, none⟩ = false := (q2 4).trans (by go_simp)
        have z5 : w1.cell? ⟨w.heap.size + 1, 5, none⟩ = some (Value.string ⟨#[]⟩) := (q1 5).trans (by go_simp)
        have y5 : w1.frozen? ⟨w.heap.size + 1, 5, none⟩ = false := (q2 5).trans (by go_simp)
        have z6 : w1.cell? ⟨w.heap.size + 1, 6, none⟩ = some (Value.int .i64 0) := (q1 6).trans (by go_simp)
        have y6 : w1.frozen? ⟨w.heap.size + 1, 6, none⟩ = false := (q2 6).trans (by go_simp)
        have z7 : w1.cell? ⟨w.heap.size + 1, 7, none⟩ = some (Value.string ⟨#[]⟩) := (q1 7).trans (by go_simp)
        have y7 : w1.frozen? ⟨w.heap.size + 1, 7, none⟩ = false := (q2 7).trans (by go_simp)
        have z8 : w1.cell? ⟨w.heap.size + 1, 8, none⟩ = some (Value.string ⟨#[]⟩) := (q1 8).trans (by go_simp)
        have y8 : w1.frozen? ⟨w.heap.size + 1, 8, none⟩ = false := (q2 8).trans (by go_simp)
        clear q1 q2
        go_wp2_with fail
        have hne : ¬ n2 = 0 := by simpa using h0
        have fin2 : ptN n1 n2 n3 = n2 := by
          have hh := hH.out
          unfold ptN
          rw [if_pos (hh.1 (by omega)), if_neg hne]
        refine bodyPost_ret (v := .tuple #[valTr zeroTr, errV n2]) (by unfold results valTr zeroTr; rw [Tryz.results183]; go_simp) rfl ⟨ret_val (by rw [← finR.out, ← finN.out, fin2, if_neg hne]), ?_⟩
        exact (((((((((((bstep (bstep (balloc _ _) (balloc _ _)) (balloc _ _)).trans (hB1.mono (by omega))).setCell (p := ⟨w.heap.size + 1, 0, none⟩) (show w.heap.size ≤ w.heap.size + 1 by omega) _).setCell (p := ⟨w.heap.size + 1, 1, none⟩) (show w.heap.size ≤ w.heap.size + 1 by omega) _).setCell (p := ⟨w.heap.size + 1, 2, none⟩) (show w.heap.size ≤ w.heap.size + 1 by omega) _).setCell (p := ⟨w.heap.size + 1, 3, none⟩) (show w.heap.size ≤ w.heap.size + 1 by omega) _).setCell (p := ⟨w.heap.size + 1, 4, none⟩) (show w.heap.size ≤ w.heap.size + 1 by omega) _).setCell (p := ⟨w.heap.size + 1, 5, none⟩) (show w.heap.size ≤ w.heap.size + 1 by omega) _).setCell (p := ⟨w.heap.size + 1, 6, none⟩) (show w.heap.size ≤ w.heap.size + 1 by omega) _).setCell (p := ⟨w.heap.size + 1, 7, none⟩) (show w.heap.size ≤ w.heap.size + 1 by omega) _).setCell (p := ⟨w.heap.size + 1, 8, none⟩) (show w.heap.size ≤ w.heap.size + 1 by omega) _).alloc (by simp; omega) _
      · go_wp2_with fail
        simp at h0
        refine ⟨⟨2, by omega, by go_num, ?_, by simp; omega, (((hB1.setCell (p := ⟨w.heap.size + 1 + 1, 3, none⟩) (Nat.le_refl _) _).setCell (p := ⟨w.heap.size + 1 + 1, 4, none⟩) (Nat.le_refl _) _).setCell (p := ⟨w.heap.size + 1 + 1, 5, none⟩) (Nat.le_refl _) _).alloc (by simp; omega) _, by go_simp, by go_simp, by go_simp, by go_simp, by go_simp, by go_simp, by go_simp, by go_simp, by go_simp, by go_simp, by go_simp, by go_simp, by go_simp, by go_simp, by go_simp, by go_simp, by go_simp, by go_simp⟩, by simp [intOf]⟩
        have hh := hH.out
        exact ⟨fun _ => hh.1 (by omega), fun _ => h0, fun _ => by omega⟩
    · replace e0 : wr.cell? ⟨w.heap.size + 1 + 1, 0, none⟩ = some (.int .i64 (t1.1)) := e0
      replace e1 : wr.cell? ⟨w.heap.size + 1 + 1, 1, none⟩ = some (.string ⟨(t1.2.1).toArray⟩) := e1
      replace e2 : wr.cell? ⟨w.heap.size + 1 + 1, 2, none⟩ = some (.string ⟨(t1.2.2).toArray⟩) := e2
      replace e3 : wr.cell? ⟨w.heap.size + 1 + 1, 3, none⟩ = some (.int .i64 (t2.1)) := e3
      replace e4 : wr.cell? ⟨w.heap.size + 1 + 1, 4, none⟩ = some (.string ⟨(t2.2.1).toArray⟩) := e4
      replace e5 : wr.cell? ⟨w.heap.size + 1 + 1, 5, none⟩ = some (.string ⟨(t2.2.2).toArray⟩) := e5
      replace e6 : wr.cell? ⟨w.heap.size + 1 + 1, 6, none⟩ = some (.int .i64 (0)) := e6
      replace e7 : wr.cell? ⟨w.heap.size + 1 + 1, 7, none⟩ = some (.string ⟨(([] : List UInt8)).toArray⟩) := e7
      replace e8 : wr.cell? ⟨w.heap.size + 1 + 1, 8, none⟩ = some (.string ⟨(([] : List UInt8)).toArray⟩) := e8
      go_wp2_with fail
      refine (P3 _).mono ?_
      rintro e w1 ⟨rfl, hb1⟩
      obtain ⟨kc, kf⟩ := bcell hb1
      have hz2 : w.heap.size + 1 + 1 < w1.heap.size := by have := hb1.size; omega
      have g0 := (kc _ 0 hz).trans e0
      have g1 := (kc _ 1 hz).trans e1
      have g2 := (kc _ 2 hz).trans e2
      have g3 := (kc _ 3 hz).trans e3
      have g4 := (kc _ 4 hz).trans e4
      have g5 := (kc _ 5 hz).trans e5
      have g6 := (kc _ 6 hz).trans e6
      have g7 := (kc _ 7 hz).trans e7
      have g8 := (kc _ 8 hz).trans e8
      have m0 := (kf _ 0 hz).trans f0
      have m1 := (kf _ 1 hz).trans f1
      have m2 := (kf _ 2 hz).trans f2
      have m3 := (kf _ 3 hz).trans f3
      have m4 := (kf _ 4 hz).trans f4
      have m5 := (kf _ 5 hz).trans f5
      have m6 := (kf _ 6 hz).trans f6
      have m7 := (kf _ 7 hz).trans f7
      have m8 := (kf _ 8 hz).trans f8
      have hB1 := hbr.trans (hb1.mono (by omega))
      have hz3 : w.heap.size + 1 < w1.heap.size := by omega
      clear kc kf
      cases h0 : (n3 == 0)
      · have q1 := fun o => hB1.cell (p := ⟨w.heap.size + 1, o, none⟩) (by show w.heap.size + 1 < w.heap.size + 1 + 1; omega)
        have q2 := fun o => hB1.frozen (p := ⟨w.heap.size + 1, o, none⟩) (by show w.heap.size + 1 < w.heap.size + 1 + 1; omega)
        have z0 : w1.cell? ⟨w.heap.size + 1, 0, none⟩ = some (Value.int .i64 0) := (q1 0).trans (by go_simp)
        have y0 : w1.frozen? ⟨w.heap.size + 1, 0, none⟩ = false := (q2 0).trans (by go_simp)
        have z1 : w1.cell? ⟨w.heap.size + 1, 1, none⟩ = some (Value.string ⟨#[]⟩) := (q1 1).trans (by go_simp)
        have y1 : w1.frozen? ⟨w.heap.size + 1, 1, none⟩ = false := (q2 1).trans (by go_simp)
        have z2 : w1.cell? ⟨w.heap.size + 1, 2, none⟩ = some (Value.string ⟨#[]⟩) := (q1 2).trans (by go_simp)
        have y2 : w1.frozen? ⟨w.heap.size + 1, 2, none⟩ = false := (q2 2).trans (by go_simp)
        have z3 : w1.cell? ⟨w.heap.size + 1, 3, none⟩ = some (Value.int .i64 0) := (q1 3).trans (by go_simp)
        have y3 : w1.frozen? ⟨w.heap.size + 1, 3, none⟩ = false := (q2 3).trans (by go_simp)
        have z4 : w1.cell? ⟨w.heap.size + 1, 4, none⟩ = some (Value.string ⟨#[]⟩) := (q1 4).trans (by go_simp)
        have y4 : w1.frozen? ⟨w.heap.size + 1, 4, none⟩ = false := (q2 4).trans (by go_simp)
        have z5 : w1.cell? ⟨w.heap.size + 1, 5, none⟩ = some (Value.string ⟨#[]⟩) := (q1 5).trans (by go_simp)
        have y5 : w1.frozen? ⟨w.heap.size + 1, 5, none⟩ = false := (q2 5).trans (by go_simp)
        have z6 : w1.cell? ⟨w.heap.size + 1, 6, none⟩ = some (Value.int .i64 0) := (q1 6).trans (by go_simp)
        have y6 : w1.frozen? ⟨w.heap.size + 1, 6, none⟩ = false := (q2 6).trans (by go_simp)
        have z7 : w1.cell? ⟨w.heap.size + 1, 7, none⟩ = some (Value.string ⟨#[]⟩) := (q1 7).trans (by go_simp)
        have y7 : w1.frozen? ⟨w.heap.size + 1, 7, none⟩ = false := (q2 7).trans (by go_simp)
        have z8 : w1.cell? ⟨w.heap.size + 1, 8, none⟩ = some (Value.string ⟨#[]⟩) := (q1 8).trans (by go_simp)
        have y8 : w1.frozen? ⟨w.heap.size + 1, 8, none⟩ = false := (q2 8).trans (by go_simp)
        clear q1 q2
        go_wp2_with fail
        have hne : ¬ n3 = 0 := by simpa using h0
        have fin2 : ptN n1 n2 n3 = n3 := by
          have hh := hH.out
          unfold ptN
          rw [if_pos (hh.1 (by omega)), if_pos (hh.2.1 (by omega))]
        refine bodyPost_ret (v := .tuple #[valTr zeroTr, errV n3]) (by unfold results valTr zeroTr; rw [Tryz.results183]; go_simp) rfl ⟨ret_val (by rw [← finR.out, ← finN.out, fin2, if_neg hne]), ?_⟩
        exact (((((((((((bstep (bstep (balloc _ _) (balloc _ _)) (balloc _ _)).trans (hB1.mono (by omega))).setCell (p := ⟨w.heap.size + 1, 0, none⟩) (show w.heap.size ≤ w.heap.size + 1 by omega) _).setCell (p := ⟨w.heap.size + 1, 1, none⟩) (show w.heap.size ≤ w.heap.size + 1 by omega) _).setCell (p := ⟨w.heap.size + 1, 2, none⟩) (show w.heap.size ≤ w.heap.size + 1 by omega) _).setCell (p := ⟨w.heap.size + 1, 3, none⟩) (show w.heap.size ≤ w.heap.size + 1 by omega) _).setCell (p := ⟨w.heap.size + 1, 4, none⟩) (show w.heap.size ≤ w.heap.size + 1 by omega) _).setCell (p := ⟨w.heap.size + 1, 5, none⟩) (show w.heap.size ≤ w.heap.size + 1 by omega) _).setCell (p := ⟨w.heap.size + 1, 6, none⟩) (show w.heap.size ≤ w.heap.size + 1 by omega) _).setCell (p := ⟨w.heap.size + 1, 7, none⟩) (show w.heap.size ≤ w.heap.size + 1 by omega) _).setCell (p := ⟨w.heap.size + 1, 8, none⟩) (show w.heap.size ≤ w.heap.size + 1 by omega) _).alloc (by simp; omega) _
      · go_wp2_with fail
        simp at h0
        refine ⟨⟨3, by omega, by go_num, ?_, by simp; omega, (((hB1.setCell (p := ⟨w.heap.size + 1 + 1, 6, none⟩) (Nat.le_refl _) _).setCell (p := ⟨w.heap.size + 1 + 1, 7, none⟩) (Nat.le_refl _) _).setCell (p := ⟨w.heap.size + 1 + 1, 8, none⟩) (Nat.le_refl _) _).alloc (by simp; omega) _, by go_simp, by go_simp, by go_simp, by go_simp, by go_simp, by go_simp, by go_simp, by go_simp, by go_simp, by go_simp, by go_simp, by go_simp, by go_simp, by go_simp, by go_simp, by go_simp, by go_simp, by go_simp⟩, by simp [intOf]⟩
        have hh := hH.out
        exact ⟨fun _ => hh.1 (by omega), fun _ => hh.2.1 (by omega), fun _ => h0⟩
    · replace e0 : wr.cell? ⟨w.heap.size + 1 + 1, 0, none⟩ = some (.int .i64 (t1.1)) := e0
      replace e1 : wr.cell? ⟨w.heap.size + 1 + 1, 1, none⟩ = some (.string ⟨(t1.2.1).toArray⟩) := e1
      replace e2 : wr.cell? ⟨w.heap.size + 1 + 1, 2, none⟩ = some (.string ⟨(t1.2.2).toArray⟩) := e2
      replace e3 : wr.cell? ⟨w.heap.size + 1 + 1, 3, none⟩ = some (.int .i64 (t2.1)) := e3
      replace e4 : wr.cell? ⟨w.heap.size + 1 + 1, 4, none⟩ = some (.string ⟨(t2.2.1).toArray⟩) := e4
      replace e5 : wr.cell? ⟨w.heap.size + 1 + 1, 5, none⟩ = some (.string ⟨(t2.2.2).toArray⟩) := e5
      replace e6 : wr.cell? ⟨w.heap.size + 1 + 1, 6, none⟩ = some (.int .i64 (t3.1)) := e6
      replace e7 : wr.cell? ⟨w.heap.size + 1 + 1, 7, none⟩ = some (.string ⟨(t3.2.1).toArray⟩) := e7
      replace e8 : wr.cell? ⟨w.heap.size + 1 + 1, 8, none⟩ = some (.string ⟨(t3.2.2).toArray⟩) := e8
      have q1 := fun o => hbr.cell (p := ⟨w.heap.size + 1, o, none⟩) (by show w.heap.size + 1 < w.heap.size + 1 + 1; omega)
      have q2 := fun o => hbr.frozen (p := ⟨w.heap.size + 1, o, none⟩) (by show w.heap.size + 1 < w.heap.size + 1 + 1; omega)
      have z0 : wr.cell? ⟨w.heap.size + 1, 0, none⟩ = some (Value.int .i64 0) := (q1 0).trans (by go_simp)
      have y0 : wr.frozen? ⟨w.heap.size + 1, 0, none⟩ = false := (q2 0).trans (by go_simp)
      have z1 : wr.cell? ⟨w.heap.size + 1, 1, none⟩ = some (Value.string ⟨#[]⟩) := (q1 1).trans (by go_simp)
      have y1 : wr.frozen? ⟨w.heap.size + 1, 1, none⟩ = false := (q2 1).trans (by go_simp)
      have z2 : wr.cell? ⟨w.heap.size + 1, 2, none⟩ = some (Value.string ⟨#[]⟩) := (q1 2).trans (by go_simp)
      have y2 : wr.frozen? ⟨w.heap.size + 1, 2, none⟩ = false := (q2 2).trans (by go_simp)
      have z3 : wr.cell? ⟨w.heap.size + 1, 3, none⟩ = some (Value.int .i64 0) := (q1 3).trans (by go_simp)
      have y3 : wr.frozen? ⟨w.heap.size + 1, 3, none⟩ = false := (q2 3).trans (by go_simp)
      have z4 : wr.cell? ⟨w.heap.size + 1, 4, none⟩ = some (Value.string ⟨#[]⟩) := (q1 4).trans (by go_simp)
      have y4 : wr.frozen? ⟨w.heap.size + 1, 4, none⟩ = false := (q2 4).trans (by go_simp)
      have z5 : wr.cell? ⟨w.heap.size + 1, 5, none⟩ = some (Value.string ⟨#[]⟩) := (q1 5).trans (by go_simp)
      have y5 : wr.frozen? ⟨w.heap.size + 1, 5, none⟩ = false := (q2 5).trans (by go_simp)
      have z6 : wr.cell? ⟨w.heap.size + 1, 6, none⟩ = some (Value.int .i64 0) := (q1 6).trans (by go_simp)
      have y6 : wr.frozen? ⟨w.heap.size + 1, 6, none⟩ = false := (q2 6).trans (by go_simp)
      have z7 : wr.cell? ⟨w.heap.size + 1, 7, none⟩ = some (Value.string ⟨#[]⟩) := (q1 7).trans (by go_simp)
      have y7 : wr.frozen? ⟨w.heap.size + 1, 7, none⟩ = false := (q2 7).trans (by go_simp)
      have z8 : wr.cell? ⟨w.heap.size + 1, 8, none⟩ = some (Value.string ⟨#[]⟩) := (q1 8).trans (by go_simp)
      have y8 : wr.frozen? ⟨w.heap.size + 1, 8, none⟩ = false := (q2 8).trans (by go_simp)
      clear q1 q2
      have hh := hH.out
      have HL : Hid (ptN n1 n2 n3 = 0) := by
        show ptN n1 n2 n3 = 0
        unfold ptN
        rw [if_pos (hh.1 (by omega)), if_pos (hh.2.1 (by omega))]
        exact hh.2.2 (by omega)
      clear hh hH
      go_wp2_with fail
      have hN0 : N = 0 := by rw [← finN.out]; exact HL.out
      refine bodyPost_ret (v := .tuple #[valTr T, .nilIface]) (by rw [fin.out]; simp [results, Tryz.results183, go_sem, valTr, z0, z1, z2, z3, z4, z5, z6, z7, z8]) rfl ⟨ret_val (by rw [← finR.out, hN0]; rfl), ?_⟩
      exact (((((((((((bstep (bstep (balloc _ _) (balloc _ _)) (balloc _ _)).trans (hbr.mono (by omega))).setCell (p := ⟨w.heap.size + 1, 0, none⟩) (show w.heap.size ≤ w.heap.size + 1 by omega) _).setCell (p := ⟨w.heap.size + 1, 1, none⟩) (show w.heap.size ≤ w.heap.size + 1 by omega) _).setCell (p := ⟨w.heap.size + 1, 2, none⟩) (show w.heap.size ≤ w.heap.size + 1 by omega) _).setCell (p := ⟨w.heap.size + 1, 3, none⟩) (show w.heap.size ≤ w.heap.size + 1 by omega) _).setCell (p := ⟨w.heap.size + 1, 4, none⟩) (show w.heap.size ≤ w.heap.size + 1 by omega) _).setCell (p := ⟨w.heap.size + 1, 5, none⟩) (show w.heap.size ≤ w.heap.size + 1 by omega) _).setCell (p := ⟨w.heap.size + 1, 6, none⟩) (show w.heap.size ≤ w.heap.size + 1 by omega) _).setCell (p := ⟨w.heap.size + 1, 7, none⟩) (show w.heap.size ≤ w.heap.size + 1 by omega) _).setCell (p := ⟨w.heap.size + 1, 8, none⟩) (show w.heap.size ≤ w.heap.size + 1 by omega) _)
end Go.Proofs.YtaddfndohoppeaaGreat

/- triple.Parse: of just such a text. -/
namespace Go.Proofs.YtaddfndohoppeaaGreat
open Go Go.RowKit Go.Proofs
set_option synthInstance.maxSize 1000

attribute [local go_sem] eql_errV neq_errV guard_errV

theorem fit_of (a b c : List UInt8) (h : ptN (anyN a) (anyN b) (anyN c) = 0) (ha : a.length ≤ 140737488355328) (hb : b.length ≤ 140737488355328) (hc : c.length ≤ 140737488355328) : fitTr (tripleOf a b c) := by
  obtain ⟨h1, h2, h3⟩ := ptN_zero h
  have q : ∀ l, anyN l = 0 → l.length ≤ 140737488355328 → (anyT l).2.1.length ≤ maxLen ∧ (anyT l).2.2.length ≤ maxLen := fun l hl hll => by
    rcases any_cases l with hh | hh
    · omega
    · obtain ⟨_, _, _, h4, h5⟩ := hh
      unfold maxLen
      omega
  exact ⟨q a h1 ha, q b h2 hb, q c h3 hc⟩

set_option maxHeartbeats 4000000 in
set_option maxRecDepth 100000 in
theorem TParse_any (l : List UInt8) (w : World) (hl : l.length ≤ 140737488355328) :
    Calls Tryz.prog 149 #[.string ⟨l.toArray⟩] w fun e w' => e = .returned (.tuple #[valTr (tparseT l), errV (tparseN l)]) ∧ Below w.heap.size w w' := by
  cases hcut : cutL l with
  | none =>
    have H := fun W => cut_none l W hl hcut
    have fin : Hid (tparseN l = 2 ∧ tparseT l = zeroTr) := by
      have h2 : tparseN l = 2 := by simp [tparseN, hcut]
      exact ⟨h2, by simp [tparseT, h2]⟩
    generalize tparseN l = N at fin ⊢
    generalize hR : valTr (tparseT l) = R
    have finR : Hid (valTr zeroTr = R) := by rw [← hR, fin.out.2]; rfl
    clear hR
    go_enter Tryz.func149, Tryz.ntmps149
    go_wp2_with fail
    refine (H _).mono ?_
    rintro e w1 ⟨rfl, hB⟩
    obtain ⟨kc, kf⟩ := bcell hB
    have z0 : w1.cell? ⟨w.heap.size, 0, none⟩ = some (Value.int .i64 0) := (kc _ 0 (by simp)).trans (by go_simp)
    have y0 : w1.frozen? ⟨w.heap.size, 0, none⟩ = false := (kf _ 0 (by simp)).trans (by go_simp)
    have z1 : w1.cell? ⟨w.heap.size, 1, none⟩ = some (Value.string ⟨#[]⟩) := (kc _ 1 (by simp)).trans (by go_simp)
    have y1 : w1.frozen? ⟨w.heap.size, 1, none⟩ = false := (kf _ 1 (by simp)).trans (by go_simp)
    have z2 : w1.cell? ⟨w.heap.size, 2, none⟩ = some (Value.string ⟨#[]⟩) := (kc _ 2 (by simp)).trans (by go_simp)
    have y2 : w1.frozen? ⟨w.heap.size, 2, none⟩ = false := (kf _ 2 (by simp)).trans (by go_simp)
    have z3 : w1.cell? ⟨w.heap.size, 3, none⟩ = some (Value.int .i64 0) := (kc _ 3 (by simp)).trans (by go_simp)
    have y3 : w1.frozen? ⟨w.heap.size, 3, none⟩ = false := (kf _ 3 (by simp)).trans (by go_simp)
    have z4 : w1.cell? ⟨w.heap.size, 4, none⟩ = some (Value.string ⟨#[]⟩) := (kc _ 4 (by simp)).trans (by go_simp)
    have y4 : w1.frozen? ⟨w.heap.size, 4, none⟩ = false := (kf _ 4 (by simp)).trans (by go_simp)
    have z5 : w1.cell? ⟨w.heap.size, 5, none⟩ = some (Value.string ⟨#[]⟩) := (kc _ 5 (by simp)).trans (by go_simp)
    have y5 : w1.frozen? ⟨w.heap.size, 5, none⟩ = false := (kf _ 5 (by simp)).trans (by go_simp)
    have z6 : w1.cell? ⟨w.heap.size, 6, none⟩ = some (Value.int .i64 0) := (kc _ 6 (by simp)).trans (by go_simp)
    have y6 : w1.frozen? ⟨w.heap.size, 6, none⟩ = false := (kf _ 6 (by simp)).trans (by go_simp)
    have z7 : w1.cell? ⟨w.heap.size, 7, none⟩ = some (Value.string ⟨#[]⟩) := (kc _ 7 (by simp)).trans (by go_simp)
    have y7 : w1.frozen? ⟨w.heap.size, 7, none⟩ = false := (kf _ 7 (by simp)).trans (by go_simp)
    have z8 : w1.cell? ⟨w.heap.size, 8, none⟩ = some (Value.string ⟨#[]⟩) := (kc _ 8 (by simp)).trans (by go_simp)
    have y8 : w1.frozen? ⟨w.heap.size, 8, none⟩ = false := (kf _ 8 (by simp)).trans (by go_simp)
    have hz : w.heap.size < w1.heap.size := by have := hB.size; simp at this; omega
    clear kc kf
    go_wp2_with fail
    refine bodyPost_ret (v := .tuple #[valTr zeroTr, errV 2]) (by unfold results valTr zeroTr; rw [Tryz.results149]; go_simp; rfl) rfl ⟨ret_val (by rw [finR.out, fin.out.1]), ?_⟩
    exact ((((((((((bstep (balloc _ _) hB).setCell (p := ⟨w.heap.size, 0, none⟩) (Nat.le_refl _) _).setCell (p := ⟨w.heap.size, 1, none⟩) (Nat.le_refl _) _).setCell (p := ⟨w.heap.size, 2, none⟩) (Nat.le_refl _) _).setCell (p := ⟨w.heap.size, 3, none⟩) (Nat.le_refl _) _).setCell (p := ⟨w.heap.size, 4, none⟩) (Nat.le_refl _) _).setCell (p := ⟨w.heap.size, 5, none⟩) (Nat.le_refl _) _).setCell (p := ⟨w.heap.size, 6, none⟩) (Nat.le_refl _) _).setCell (p := ⟨w.heap.size, 7, none⟩) (Nat.le_refl _) _).setCell (p := ⟨w.heap.size, 8, none⟩) (Nat.le_refl _) _).alloc (by simp; omega) _
  | some p =>
    obtain ⟨a, b, c⟩ := p
    have hlen := cutL_eq hcut
    have hla : a.length ≤ 140737488355328 := by rw [hlen] at hl; simp at hl; omega
    have hlb : b.length ≤ 140737488355328 := by rw [hlen] at hl; simp at hl; omega
    have hlc : c.length ≤ 140737488355328 := by rw [hlen] at hl; simp at hl; omega
    have H := fun W => cut_some l a b c W hl hcut
    have H2 := fun W => parseTerms_any a b c W hla hlb hlc
    have finN : tparseN l = if ptN (anyN a) (anyN b) (anyN c) = 0 then textN (tripleOf a b c) else ptN (anyN a) (anyN b) (anyN c) := by simp [tparseN, hcut]
    have finT : tparseT l = if tparseN l = 0 then tripleOf a b c else zeroTr := by simp [tparseT, hcut]
    by_cases hN : ptN (anyN a) (anyN b) (anyN c) = 0
    · have HC := fun W => textFault_any (tripleOf a b c) W (fit_of a b c hN hla hlb hlc)
      rw [if_pos hN] at finN
      rw [hN] at H2
      simp only [if_true] at H2
      rw [show errV 0 = .nilIface from rfl] at H2
      rw [finT, finN]
      clear finN finT hN hlen hla hlb hlc hl hcut
      generalize tripleOf a b c = T at *
      have fin : Hid (valTr T = .agg #[.int .i64 T.1.1, .string ⟨T.1.2.1.toArray⟩, .string ⟨T.1.2.2.toArray⟩, .int .i64 T.2.1.1, .string ⟨T.2.1.2.1.toArray⟩, .string ⟨T.2.1.2.2.toArray⟩, .int .i64 T.2.2.1, .string ⟨T.2.2.2.1.toArray⟩, .string ⟨T.2.2.2.2.toArray⟩]) := rfl
      rw [fin.out] at H2 HC
      by_cases hc : textN T = 0
      · rw [hc, if_pos rfl]
        rw [hc] at HC
        rw [show errV 0 = .nilIface from rfl] at HC ⊢
        rw [fin.out]
        clear hc
        go_enter Tryz.func149, Tryz.ntmps149
        go_wp2_with fail
        refine (H _).mono ?_
        rintro e w1 ⟨rfl, hb1⟩
        go_wp2_with fail
        refine (H2 _).mono ?_
        rintro e w2 ⟨rfl, hb2⟩
        have hB2 := bstep (bstep hb1 (balloc _ _)) hb2
        go_wp2_with fail
        refine (HC _).mono ?_
        rintro e w3 ⟨rfl, hb3⟩
        have hB := bstep (bstep hB2 (balloc _ _)) hb3
        obtain ⟨kc, kf⟩ := bcell hB
        have z0 : w3.cell? ⟨w.heap.size, 0, none⟩ = some (Value.int .i64 0) := (kc _ 0 (by simp)).trans (by go_simp)
        have y0 : w3.frozen? ⟨w.heap.size, 0, none⟩ = false := (kf _ 0 (by simp)).trans (by go_simp)
        have z1 : w3.cell? ⟨w.heap.size, 1, none⟩ = some (Value.string ⟨#[]⟩) := (kc _ 1 (by simp)).trans (by go_simp)
        have y1 : w3.frozen? ⟨w.heap.size, 1, none⟩ = false := (kf _ 1 (by simp)).trans (by go_simp)
        have z2 : w3.cell? ⟨w.heap.size, 2, none⟩ = some (Value.string ⟨#[]⟩) := (kc _ 2 (by simp)).trans (by go_simp)
        have y2 : w3.frozen? ⟨w.heap.size, 2, none⟩ = false := (kf _ 2 (by simp)).trans (by go_simp)
        have z3 : w3.cell? ⟨w.heap.size, 3, none⟩ = some (Value.int .i64 0) := (kc _ 3 (by simp)).trans (by go_simp)
        have y3 : w3.frozen? ⟨w.heap.size, 3, none⟩ = false := (kf _ 3 (by simp)).trans (by go_simp)
        have z4 : w3.cell? ⟨w.heap.size, 4, none⟩ = some (Value.string ⟨#[]⟩) := (kc _ 4 (by simp)).trans (by go_simp)
        have y4 : w3.frozen? ⟨w.heap.size, 4, none⟩ = false := (kf _ 4 (by simp)).trans (by go_simp)
        have z5 : w3.cell? ⟨w.heap.size, 5, none⟩ = some (Value.string ⟨#[]⟩) := (kc _ 5 (by simp)).trans (by go_simp)
        have y5 : w3.frozen? ⟨w.heap.size, 5, none⟩ = false := (kf _ 5 (by simp)).trans (by go_simp)
        have z6 : w3.cell? ⟨w.heap.size, 6, none⟩ = some (Value.int .i64 0) := (kc _ 6 (by simp)).trans (by go_simp)
        have y6 : w3.frozen? ⟨w.heap.size, 6, none⟩ = false := (kf _ 6 (by simp)).trans (by go_simp)
        have z7 : w3.cell? ⟨w.heap.size, 7, none⟩ = some (Value.string ⟨#[]⟩) := (kc _ 7 (by simp)).trans (by go_simp)
        have y7 : w3.frozen? ⟨w.heap.size, 7, none⟩ = false := (kf _ 7 (by simp)).trans (by go_simp)
        have z8 : w3.cell? ⟨w.heap.size, 8, none⟩ = some (Value.string ⟨#[]⟩) := (kc _ 8 (by simp)).trans (by go_simp)
        have y8 : w3.frozen? ⟨w.heap.size, 8, none⟩ = false := (kf _ 8 (by simp)).trans (by go_simp)
        have hz : w.heap.size < w3.heap.size := by have := hB.size; simp at this; omega
        clear kc kf
        obtain ⟨kt, _⟩ := bcell hb3
        have hz2 : w2.heap.size < w3.heap.size := by have := hb3.size; simp at this; omega
        have hz0 : w.heap.size ≠ w2.heap.size := by have := hB2.size; simp at this; omega
        have hz0' : w2.heap.size ≠ w.heap.size := fun e => hz0 e.symm
        have x0 : w3.cell? ⟨w2.heap.size, 0, none⟩ = some (.int .i64 T.1.1) := (kt w2.heap.size 0 (by simp)).trans (by go_simp)
        have x1 : w3.cell? ⟨w2.heap.size, 1, none⟩ = some (.string ⟨T.1.2.1.toArray⟩) := (kt w2.heap.size 1 (by simp)).trans (by go_simp)
        have x2 : w3.cell? ⟨w2.heap.size, 2, none⟩ = some (.string ⟨T.1.2.2.toArray⟩) := (kt w2.heap.size 2 (by simp)).trans (by go_simp)
        have x3 : w3.cell? ⟨w2.heap.size, 3, none⟩ = some (.int .i64 T.2.1.1) := (kt w2.heap.size 3 (by simp)).trans (by go_simp)
        have x4 : w3.cell? ⟨w2.heap.size, 4, none⟩ = some (.string ⟨T.2.1.2.1.toArray⟩) := (kt w2.heap.size 4 (by simp)).trans (by go_simp)
        have x5 : w3.cell? ⟨w2.heap.size, 5, none⟩ = some (.string ⟨T.2.1.2.2.toArray⟩) := (kt w2.heap.size 5 (by simp)).trans (by go_simp)
        have x6 : w3.cell? ⟨w2.heap.size, 6, none⟩ = some (.int .i64 T.2.2.1) := (kt w2.heap.size 6 (by simp)).trans (by go_simp)
        have x7 : w3.cell? ⟨w2.heap.size, 7, none⟩ = some (.string ⟨T.2.2.2.1.toArray⟩) := (kt w2.heap.size 7 (by simp)).trans (by go_simp)
        have x8 : w3.cell? ⟨w2.heap.size, 8, none⟩ = some (.string ⟨T.2.2.2.2.toArray⟩) := (kt w2.heap.size 8 (by simp)).trans (by go_simp)
        clear kt
        go_wp2_with fail
        refine bodyPost_ret (v := .tuple #[.agg #[.int .i64 T.1.1, .string ⟨T.1.2.1.toArray⟩, .string ⟨T.1.2.2.toArray⟩, .int .i64 T.2.1.1, .string ⟨T.2.1.2.1.toArray⟩, .string ⟨T.2.1.2.2.toArray⟩, .int .i64 T.2.2.1, .string ⟨T.2.2.2.1.toArray⟩, .string ⟨T.2.2.2.2.toArray⟩], .nilIface]) (by unfold results; rw [Tryz.results149]; go_simp) rfl ⟨rfl, ?_⟩
        exact ((((((((((bstep (balloc _ _) hB).setCell (p := ⟨w.heap.size, 0, none⟩) (Nat.le_refl _) _).setCell (p := ⟨w.heap.size, 1, none⟩) (Nat.le_refl _) _).setCell (p := ⟨w.heap.size, 2, none⟩) (Nat.le_refl _) _).setCell (p := ⟨w.heap.size, 3, none⟩) (Nat.le_refl _) _).setCell (p := ⟨w.heap.size, 4, none⟩) (Nat.le_refl _) _).setCell (p := ⟨w.heap.size, 5, none⟩) (Nat.le_refl _) _).setCell (p := ⟨w.heap.size, 6, none⟩) (Nat.le_refl _) _).setCell (p := ⟨w.heap.size, 7, none⟩) (Nat.le_refl _) _).setCell (p := ⟨w.heap.size, 8, none⟩) (Nat.le_refl _) _)
      · rw [if_neg hc]
        have hc' : (textN T == 0) = false := by simpa using hc
        generalize textN T = N at *
        have finR : Hid (valTr zeroTr = .agg #[.int .i64 0, .string ⟨#[]⟩, .string ⟨#[]⟩, .int .i64 0, .string ⟨#[]⟩, .string ⟨#[]⟩, .int .i64 0, .string ⟨#[]⟩, .string ⟨#[]⟩]) := rfl
        rw [finR.out]
        clear hc
        go_enter Tryz.func149, Tryz.ntmps149
        go_wp2_with fail
        refine (H _).mono ?_
        rintro e w1 ⟨rfl, hb1⟩
        go_wp2_with fail
        refine (H2 _).mono ?_
        rintro e w2 ⟨rfl, hb2⟩
        have hB2 := bstep (bstep hb1 (balloc _ _)) hb2
        go_wp2_with fail
        refine (HC _).mono ?_
        rintro e w3 ⟨rfl, hb3⟩
        have hB := bstep (bstep hB2 (balloc _ _)) hb3
        obtain ⟨kc, kf⟩ := bcell hB
        have z0 : w3.cell? ⟨w.heap.size, 0, none⟩ = some (Value.int .i64 0) := (kc _ 0 (by simp)).trans (by go_simp)
        have y0 : w3.frozen? ⟨w.heap.size, 0, none⟩ = false := (kf _ 0 (by simp)).trans (by go_simp)
        have z1 : w3.cell? ⟨w.heap.size, 1, none⟩ = some (Value.string ⟨#[]⟩) := (kc _ 1 (by simp)).trans (by go_simp)
        have y1 : w3.frozen? ⟨w.heap.size, 1, none⟩ = false := (kf _ 1 (by simp)).trans (by go_simp)
        have z2 : w3.cell? ⟨w.heap.size, 2, none⟩ = some (Value.string ⟨#[]⟩) := (kc _ 2 (by simp)).trans (by go_simp)
        have y2 : w3.frozen? ⟨w.heap.size, 2, none⟩ = false := (kf _ 2 (by simp)).trans (by go_simp)
        have z3 : w3.cell? ⟨w.heap.size, 3, none⟩ = some (Value.int .i64 0) := (kc _ 3 (by simp)).trans (by go_simp)
        have y3 : w3.frozen? ⟨w.heap.size, 3, none⟩ = false := (kf _ 3 (by simp)).trans (by go_simp)
        have z4 : w3.cell? ⟨w.heap.size, 4, none⟩ = some (Value.string ⟨#[]⟩) := (kc _ 4 (by simp)).trans (by go_simp)
        have y4 : w3.frozen? ⟨w.heap.size, 4, none⟩ = false := (kf _ 4 (by simp)).trans (by go_simp)
        have z5 : w3.cell? ⟨w.heap.size, 5, none⟩ = some (Value.string ⟨#[]⟩) := (kc _ 5 (by simp)).trans (by go_simp)
        have y5 : w3.frozen? ⟨w.heap.size, 5, none⟩ = false := (kf _ 5 (by simp)).trans (by go_simp)
        have z6 : w3.cell? ⟨w.heap.size, 6, none⟩ = some (Value.int .i64 0) := (kc _ 6 (by simp)).trans (by go_simp)
        have y6 : w3.frozen? ⟨w.heap.size, 6, none⟩ = false := (kf _ 6 (by simp)).trans (by go_simp)
        have z7 : w3.cell? ⟨w.heap.size, 7, none⟩ = some (Value.string ⟨#[]⟩) := (kc _ 7 (by simp)).trans (by go_simp)
        have y7 : w3.frozen? ⟨w.heap.size, 7, none⟩ = false := (kf _ 7 (by simp)).trans (by go_simp)
        have z8 : w3.cell? ⟨w.heap.size, 8, none⟩ = some (Value.string ⟨#[]⟩) := (kc _ 8 (by simp)).trans (by go_simp)
        have y8 : w3.frozen? ⟨w.heap.size, 8, none⟩ = false := (kf _ 8 (by simp)).trans (by go_simp)
        have hz : w.heap.size < w3.heap.size := by have := hB.size; simp at this; omega
        clear kc kf
        go_wp2_with fail
        refine bodyPost_ret (v := .tuple #[.agg #[.int .i64 0, .string ⟨#[]⟩, .string ⟨#[]⟩, .int .i64 0, .string ⟨#[]⟩, .string ⟨#[]⟩, .int .i64 0, .string ⟨#[]⟩, .string ⟨#[]⟩], errV N]) (by unfold results; rw [Tryz.results149]; go_simp) rfl ⟨rfl, ?_⟩
        exact ((((((((((bstep (balloc _ _) hB).setCell (p := ⟨w.heap.size, 0, none⟩) (Nat.le_refl _) _).setCell (p := ⟨w.heap.size, 1, none⟩) (Nat.le_refl _) _).setCell (p := ⟨w.heap.size, 2, none⟩) (Nat.le_refl _) _).setCell (p := ⟨w.heap.size, 3, none⟩) (Nat.le_refl _) _).setCell (p := ⟨w.heap.size, 4, none⟩) (Nat.le_refl _) _).setCell (p := ⟨w.heap.size, 5, none⟩) (Nat.le_refl _) _).setCell (p := ⟨w.heap.size, 6, none⟩) (Nat.le_refl _) _).setCell (p := ⟨w.heap.size, 7, none⟩) (Nat.le_refl _) _).setCell (p := ⟨w.heap.size, 8, none⟩) (Nat.le_refl _) _)
    · rw [if_neg hN] at finN
      rw [if_neg hN] at H2
      rw [finT, finN, if_neg hN]
      have hN' : (ptN (anyN a) (anyN b) (anyN c) == 0) = false := by simpa using hN
      generalize ptN (anyN a) (anyN b) (anyN c) = N at *
      clear finN finT hN hlen hla hlb hlc hl hcut
      have finR : Hid (valTr zeroTr = .agg #[.int .i64 0, .string ⟨#[]⟩, .string ⟨#[]⟩, .int .i64 0, .string ⟨#[]⟩, .string ⟨#[]⟩, .int .i64 0, .string ⟨#[]⟩, .string ⟨#[]⟩]) := rfl
      rw [finR.out] at H2 ⊢
      go_enter Tryz.func149, Tryz.ntmps149
      go_wp2_with fail
      refine (H _).mono ?_
      rintro e w1 ⟨rfl, hb1⟩
      go_wp2_with fail
      refine (H2 _).mono ?_
      rintro e w2 ⟨rfl, hb2⟩
      have hB := bstep (bstep hb1 (balloc _ _)) hb2
      obtain ⟨kc, kf⟩ := bcell hB
      have z0 : w2.cell? ⟨w.heap.size, 0, none⟩ = some (Value.int .i64 0) := (kc _ 0 (by simp)).trans (by go_simp)
      have y0 : w2.frozen? ⟨w.heap.size, 0, none⟩ = false := (kf _ 0 (by simp)).trans (by go_simp)
      have z1 : w2.cell? ⟨w.heap.size, 1, none⟩ = some (Value.string ⟨#[]⟩) := (kc _ 1 (by simp)).trans (by go_simp)
      have y1 : w2.frozen? ⟨w.heap.size, 1, none⟩ = false := (kf _ 1 (by simp)).trans (by go_simp)
      have z2 : w2.cell? ⟨w.heap.size, 2, none⟩ = some (Value.string ⟨#[]⟩) := (kc _ 2 (by simp)).trans (by go_simp)
      have y2 : w2.frozen? ⟨w.heap.size, 2, none⟩ = false := (kf _ 2 (by simp)).trans (by go_simp)
      have z3 : w2.cell? ⟨w.heap.size, 3, none⟩ = some (Value.int .i64 0) := (kc _ 3 (by simp)).trans (by go_simp)
      have y3 : w2.frozen? ⟨w.heap.size, 3, none⟩ = false := (kf _ 3 (by simp)).trans (by go_simp)
      have z4 : w2.cell? ⟨w.heap.size, 4, none⟩ = some (Value.string ⟨#[]⟩) := (kc _ 4 (by simp)).trans (by go_simp)
      have y4 : w2.frozen? ⟨w.heap.size, 4, none⟩ = false := (kf _ 4 (by simp)).trans (by go_simp)
      have z5 : w2.cell? ⟨w.heap.size, 5, none⟩ = some (Value.string ⟨#[]⟩) := (kc _ 5 (by simp)).trans (by go_simp)
      have y5 : w2.frozen? ⟨w.heap.size, 5, none⟩ = false := (kf _ 5 (by simp)).trans (by go_simp)
      have z6 : w2.cell? ⟨w.heap.size, 6, none⟩ = some (Value.int .i64 0) := (kc _ 6 (by simp)).trans (by go_simp)
      have y6 : w2.frozen? ⟨w.heap.size, 6, none⟩ = false := (kf _ 6 (by simp)).trans (by go_simp)
      have z7 : w2.cell? ⟨w.heap.size, 7, none⟩ = some (Value.string ⟨#[]⟩) := (kc _ 7 (by simp)).trans (by go_simp)
      have y7 : w2.frozen? ⟨w.heap.size, 7, none⟩ = false := (kf _ 7 (by simp)).trans (by go_simp)
      have z8 : w2.cell? ⟨w.heap.size, 8, none⟩ = some (Value.string ⟨#[]⟩) := (kc _ 8 (by simp)).trans (by go_simp)
      have y8 : w2.frozen? ⟨w.heap.size, 8, none⟩ = false := (kf _ 8 (by simp)).trans (by go_simp)
      have hz : w.heap.size < w2.heap.size := by have := hB.size; simp at this; omega
      clear kc kf
      go_wp2_with fail
      refine bodyPost_ret (v := .tuple #[.agg #[.int .i64 0, .string ⟨#[]⟩, .string ⟨#[]⟩, .int .i64 0, .string ⟨#[]⟩, .string ⟨#[]⟩, .int .i64 0, .string ⟨#[]⟩, .string ⟨#[]⟩], errV N]) (by unfold results; rw [Tryz.results149]; go_simp) rfl ⟨rfl, ?_⟩
      exact ((((((((((bstep (balloc _ _) hB).setCell (p := ⟨w.heap.size, 0, none⟩) (Nat.le_refl _) _).setCell (p := ⟨w.heap.size, 1, none⟩) (Nat.le_refl _) _).setCell (p := ⟨w.heap.size, 2, none⟩) (Nat.le_refl _) _).setCell (p := ⟨w.heap.size, 3, none⟩) (Nat.le_refl _) _).setCell (p := ⟨w.heap.size, 4, none⟩) (Nat.le_refl _) _).setCell (p := ⟨w.heap.size, 5, none⟩) (Nat.le_refl _) _).setCell (p := ⟨w.heap.size, 6, none⟩) (Nat.le_refl _) _).setCell (p := ⟨w.heap.size, 7, none⟩) (Nat.le_refl _) _).setCell (p := ⟨w.heap.size, 8, none⟩) (Nat.le_refl _) _).alloc (by simp; omega) _
end Go.Proofs.YtaddfndohoppeaaGreat

/- slices.BinarySearchFunc at triples, by triple.Compare. -/
namespace Go.Proofs.YtaddfndohoppeaaGreat
open Go Go.RowKit Go.Proofs Go.Sort
set_option synthInstance.maxSize 1000

theorem bin_step {l : List Tr} (hr : Rising l) (t : Tr) (h : Nat) (hh : h < l.length) :
    (cmpTr l[h] t < 0 → ∀ j (hj : j < l.length), j ≤ h → cmpTr l[j] t < 0) ∧ (0 ≤ cmpTr l[h] t → ∀ j (hj : j < l.length), h ≤ j → 0 ≤ cmpTr l[j] t) := by
  refine ⟨fun hc j hj hle => ?_, fun hc j hj hle => ?_⟩
  · rcases Nat.lt_or_eq_of_le hle with h1 | h1
    · exact cmpTr_lt_trans (List.pairwise_iff_getElem.1 hr j h hj hh h1) hc
    · subst h1; exact hc
  · rcases Nat.lt_or_eq_of_le hle with h1 | h1
    · have h2 := List.pairwise_iff_getElem.1 hr h j hh hj h1
      refine Int.not_lt.1 fun h3 => ?_
      have := cmpTr_lt_trans h2 h3
      omega
    · subst h1; exact hc

theorem bin_found {l : List Tr} (hr : Rising l) (t : Tr) (i : Nat) (hlo : ∀ j (hj : j < l.length), j < i → cmpTr l[j] t < 0) (hhi : ∀ j (hj : j < l.length), i ≤ j → 0 ≤ cmpTr l[j] t) (hi : i < l.length) :
    decide (t ∈ l) = (cmpTr l[i] t == 0) := by
  rw [Bool.eq_iff_iff, decide_eq_true_eq, beq_iff_eq, cmpTr_zero]
  constructor
  · intro h
    obtain ⟨j, hj, rfl⟩ := List.getElem_of_mem h
    rcases Nat.lt_trichotomy j i with h1 | h1 | h1
    · have := hlo j hj h1
      have := (cmpTr_zero l[j] l[j]).2 rfl
      omega
    · subst h1; rfl
    · have h2 := List.pairwise_iff_getElem.1 hr i j hi hj h1
      have := hhi i hi (Nat.le_refl _)
      omega
  · intro h
    rw [← h]
    exact List.getElem_mem hi
theorem bin_none {l : List Tr} (t : Tr) (hlo : ∀ j (hj : j < l.length), j < l.length → cmpTr l[j] t < 0) : decide (t ∈ l) = false := by
  rw [decide_eq_false_iff_not]
  intro h
  obtain ⟨j, hj, rfl⟩ := List.getElem_of_mem h
  have := hlo j hj hj
  have := (cmpTr_zero l[j] l[j]).2 rfl
  omega

set_option maxHeartbeats 4000000 in
set_option maxRecDepth 100000 in
theorem Bin_any (ad : Option Addr) (cap : Nat) (l : List Tr) (t : Tr) (w : World) (h : SlT w ad l) (hr : Rising l) (h200 : l.length ≤ 200) :
    Calls Tryz.prog 185 #[.slice ad l.length cap, valTr t, .func (.func 47) #[] #[]] w
      fun e w' => ∃ i : Int, e = .returned (.tuple #[.int .i64 i, .bool (decide (t ∈ l))]) ∧ RowKit.Below w.heap.size w w' := by
  have Hl : Hid (SlT w ad l) := h
  have Hr : Hid (Rising l) := hr
  have eg := enters47
  clear h hr
  unfold valTr
  go_enter Tryz.func185, Tryz.ntmps185
  go_wp2_with fail
  go_loopw [9, 10] (fun i j wr => ∃ p q : Nat, p ≤ q ∧ q ≤ l.length ∧ i = .int .i64 p ∧ j = .int .i64 q ∧ Hid ((∀ m (hm : m < l.length), m < p → cmpTr l[m] t < 0) ∧ (∀ m (hm : m < l.length), q ≤ m → 0 ≤ cmpTr l[m] t)) ∧ RowKit.Below (w.alloc (.cells (encTr t).toArray 58)).heap.size (w.alloc (.cells (encTr t).toArray 58)) wr) (fun i j wr => (intOf j - intOf i).toNat)
  case atStart => exact ⟨0, l.length, by omega, by omega, rfl, rfl, ⟨fun m hm h => by omega, fun m hm h => by omega⟩, RowKit.Below.refl _ _⟩
  case round =>
    obtain ⟨p, q, hpq, hq, rfl, rfl, hH, hbr⟩ := hrel
    by_cases hlt : p < q
    · obtain ⟨m, hmd⟩ : ∃ m, m = (p + q) / 2 := ⟨_, rfl⟩
      have hpm : p ≤ m := by omega
      have hmq : m < q := by omega
      have hml : m < l.length := by omega
      have hhalf : ((p : Int) + (q : Int)) / 2 = (m : Int) := by omega
      obtain ⟨b, o, rfl, hrow⟩ := (Hl.out.below (bstep (balloc _ _) hbr)).at m hml
      obtain ⟨d0, d1, d2, d3, d4, d5, d6, d7, d8⟩ := hrow.at m hml
      obtain ⟨e0, e1, e2, e3, e4, e5, e6, e7, e8, hz9⟩ := ninebox hbr
      have i0 : (0 : Int) ≤ (m : Int) := by omega
      have i1 : (m : Int) < (l.length : Int) := by omega
      have HC := fun W => CmpTr_any l[m] t W
      obtain ⟨s1, s2⟩ := bin_step Hr.out t m hml
      have S1 : Hid _ := s1
      have S2 : Hid _ := s2
      have Hmd : Hid (m = (p + q) / 2) := hmd
      clear hrow s1 s2 hmd
      unfold valTr at HC
      generalize hcv : cmpTr l[m] t = c at *
      generalize l[m] = y at *
      cases hcc : decide (c < 0)
      · have hcn : Hid (0 ≤ c) := by simp at hcc; exact hcc
        go_wp2_with fail
        go_region_held3 (fun W => W.cell? ⟨b, o + m * 9, none⟩ = some (.int .i64 y.1.1) ∧ W.cell? ⟨b, o + m * 9 + 1, none⟩ = some (.string ⟨y.1.2.1.toArray⟩) ∧ W.cell? ⟨b, o + m * 9 + 2, none⟩ = some (.string ⟨y.1.2.2.toArray⟩) ∧ W.cell? ⟨b, o + m * 9 + 3, none⟩ = some (.int .i64 y.2.1.1) ∧ W.cell? ⟨b, o + m * 9 + 4, none⟩ = some (.string ⟨y.2.1.2.1.toArray⟩) ∧ W.cell? ⟨b, o + m * 9 + 5, none⟩ = some (.string ⟨y.2.1.2.2.toArray⟩) ∧ W.cell? ⟨b, o + m * 9 + 6, none⟩ = some (.int .i64 y.2.2.1) ∧ W.cell? ⟨b, o + m * 9 + 7, none⟩ = some (.string ⟨y.2.2.2.1.toArray⟩) ∧ W.cell? ⟨b, o + m * 9 + 8, none⟩ = some (.string ⟨y.2.2.2.2.toArray⟩) ∧ W.cell? ⟨w.heap.size, 0, none⟩ = some (.int .i64 t.1.1) ∧ W.cell? ⟨w.heap.size, 1, none⟩ = some (.string ⟨t.1.2.1.toArray⟩) ∧ W.cell? ⟨w.heap.size, 2, none⟩ = some (.string ⟨t.1.2.2.toArray⟩) ∧ W.cell? ⟨w.heap.size, 3, none⟩ = some (.int .i64 t.2.1.1) ∧ W.cell? ⟨w.heap.size, 4, none⟩ = some (.string ⟨t.2.1.2.1.toArray⟩) ∧ W.cell? ⟨w.heap.size, 5, none⟩ = some (.string ⟨t.2.1.2.2.toArray⟩) ∧ W.cell? ⟨w.heap.size, 6, none⟩ = some (.int .i64 t.2.2.1) ∧ W.cell? ⟨w.heap.size, 7, none⟩ = some (.string ⟨t.2.2.2.1.toArray⟩) ∧ W.cell? ⟨w.heap.size, 8, none⟩ = some (.string ⟨t.2.2.2.2.toArray⟩)) (first | exact keep18 (by assumption) hb2 | go_keep) (first
          | (go_at_fn 47; refine (HC _).mono ?_; rintro e w2 ⟨rfl, hb2⟩))
        go_wp2
        exact ⟨⟨p, m, hpm, by omega, rfl, rfl, ⟨hH.out.1, fun j hj hle => S2.out hcn.out j hj hle⟩, bstep hbr.drew hb2.below⟩, by simp [intOf]; omega⟩
      · have hcn : Hid (c < 0) := by simpa [Hid] using hcc
        go_wp2_with fail
        go_region_held3 (fun W => W.cell? ⟨b, o + m * 9, none⟩ = some (.int .i64 y.1.1) ∧ W.cell? ⟨b, o + m * 9 + 1, none⟩ = some (.string ⟨y.1.2.1.toArray⟩) ∧ W.cell? ⟨b, o + m * 9 + 2, none⟩ = some (.string ⟨y.1.2.2.toArray⟩) ∧ W.cell? ⟨b, o + m * 9 + 3, none⟩ = some (.int .i64 y.2.1.1) ∧ W.cell? ⟨b, o + m * 9 + 4, none⟩ = some (.string ⟨y.2.1.2.1.toArray⟩) ∧ W.cell? ⟨b, o + m * 9 + 5, none⟩ = some (.string ⟨y.2.1.2.2.toArray⟩) ∧ W.cell? ⟨b, o + m * 9 + 6, none⟩ = some (.int .i64 y.2.2.1) ∧ W.cell? ⟨b, o + m * 9 + 7, none⟩ = some (.string ⟨y.2.2.2.1.toArray⟩) ∧ W.cell? ⟨b, o + m * 9 + 8, none⟩ = some (.string ⟨y.2.2.2.2.toArray⟩) ∧ W.cell? ⟨w.heap.size, 0, none⟩ = some (.int .i64 t.1.1) ∧ W.cell? ⟨w.heap.size, 1, none⟩ = some (.string ⟨t.1.2.1.toArray⟩) ∧ W.cell? ⟨w.heap.size, 2, none⟩ = some (.string ⟨t.1.2.2.toArray⟩) ∧ W.cell? ⟨w.heap.size, 3, none⟩ = some (.int .i64 t.2.1.1) ∧ W.cell? ⟨w.heap.size, 4, none⟩ = some (.string ⟨t.2.1.2.1.toArray⟩) ∧ W.cell? ⟨w.heap.size, 5, none⟩ = some (.string ⟨t.2.1.2.2.toArray⟩) ∧ W.cell? ⟨w.heap.size, 6, none⟩ = some (.int .i64 t.2.2.1) ∧ W.cell? ⟨w.heap.size, 7, none⟩ = some (.string ⟨t.2.2.2.1.toArray⟩) ∧ W.cell? ⟨w.heap.size, 8, none⟩ = some (.string ⟨t.2.2.2.2.toArray⟩)) (first | exact keep18 (by assumption) hb2 | go_keep) (first
          | (go_at_fn 47; refine (HC _).mono ?_; rintro e w2 ⟨rfl, hb2⟩))
        go_wp2
        exact ⟨⟨m + 1, q, by omega, hq, by go_num, rfl, ⟨fun j hj hle => S1.out hcn.out j hj (by omega), hH.out.2⟩, bstep hbr.drew hb2.below⟩, by simp [intOf]; omega⟩
    · obtain rfl : p = q := by omega
      by_cases hpl : p < l.length
      · obtain ⟨b, o, rfl, hrow⟩ := (Hl.out.below (bstep (balloc _ _) hbr)).at p hpl
        obtain ⟨d0, d1, d2, d3, d4, d5, d6, d7, d8⟩ := hrow.at p hpl
        obtain ⟨e0, e1, e2, e3, e4, e5, e6, e7, e8, hz9⟩ := ninebox hbr
        have i0 : (0 : Int) ≤ (p : Int) := by omega
        have i1 : (p : Int) < (l.length : Int) := by omega
        have HC := fun W => CmpTr_any l[p] t W
        have fin : Hid (decide (t ∈ l) = (cmpTr l[p] t == 0)) := bin_found Hr.out t p hH.out.1 hH.out.2 hpl
        clear hrow hH
        unfold valTr at HC
        generalize cmpTr l[p] t = c at *
        generalize l[p] = y at *
        go_wp2_with fail
        go_region_held3 (fun W => W.cell? ⟨b, o + p * 9, none⟩ = some (.int .i64 y.1.1) ∧ W.cell? ⟨b, o + p * 9 + 1, none⟩ = some (.string ⟨y.1.2.1.toArray⟩) ∧ W.cell? ⟨b, o + p * 9 + 2, none⟩ = some (.string ⟨y.1.2.2.toArray⟩) ∧ W.cell? ⟨b, o + p * 9 + 3, none⟩ = some (.int .i64 y.2.1.1) ∧ W.cell? ⟨b, o + p * 9 + 4, none⟩ = some (.string ⟨y.2.1.2.1.toArray⟩) ∧ W.cell? ⟨b, o + p * 9 + 5, none⟩ = some (.string ⟨y.2.1.2.2.toArray⟩) ∧ W.cell? ⟨b, o + p * 9 + 6, none⟩ = some (.int .i64 y.2.2.1) ∧ W.cell? ⟨b, o + p * 9 + 7, none⟩ = some (.string ⟨y.2.2.2.1.toArray⟩) ∧ W.cell? ⟨b, o + p * 9 + 8, none⟩ = some (.string ⟨y.2.2.2.2.toArray⟩) ∧ W.cell? ⟨w.heap.size, 0, none⟩ = some (.int .i64 t.1.1) ∧ W.cell? ⟨w.heap.size, 1, none⟩ = some (.string ⟨t.1.2.1.toArray⟩) ∧ W.cell? ⟨w.heap.size, 2, none⟩ = some (.string ⟨t.1.2.2.toArray⟩) ∧ W.cell? ⟨w.heap.size, 3, none⟩ = some (.int .i64 t.2.1.1) ∧ W.cell? ⟨w.heap.size, 4, none⟩ = some (.string ⟨t.2.1.2.1.toArray⟩) ∧ W.cell? ⟨w.heap.size, 5, none⟩ = some (.string ⟨t.2.1.2.2.toArray⟩) ∧ W.cell? ⟨w.heap.size, 6, none⟩ = some (.int .i64 t.2.2.1) ∧ W.cell? ⟨w.heap.size, 7, none⟩ = some (.string ⟨t.2.2.2.1.toArray⟩) ∧ W.cell? ⟨w.heap.size, 8, none⟩ = some (.string ⟨t.2.2.2.2.toArray⟩)) (first | exact keep18 (by assumption) hb2 | go_keep) (first
          | (go_at_fn 47; refine (HC _).mono ?_; rintro e w2 ⟨rfl, hb2⟩))
        go_wp2
        refine bodyPost_ret (v := .tuple #[.int .i64 p, .bool (decide (t ∈ l))]) (by simp [results, Tryz.results185, go_sem, fin.out]) rfl ⟨_, rfl, bstep (balloc _ _) (bstep hbr.drew hb2.below)⟩
      · obtain rfl : p = l.length := by omega
        have fin : Hid (decide (t ∈ l) = false) := bin_none t hH.out.1
        clear hH
        go_wp2_with fail
        go_region
        go_wp2
        refine bodyPost_ret (v := .tuple #[.int .i64 l.length, .bool (decide (t ∈ l))]) (by simp [results, Tryz.results185, go_sem, fin.out]) rfl ⟨_, rfl, bstep (balloc _ _) hbr.drew⟩
end Go.Proofs.YtaddfndohoppeaaGreat
