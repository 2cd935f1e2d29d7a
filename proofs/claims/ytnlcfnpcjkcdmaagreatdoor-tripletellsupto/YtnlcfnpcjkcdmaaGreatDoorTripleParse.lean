/- triple.Parse: of just such a text. -/
import Derived.Test.YtnlcfnpcjkcdmaaGreatDoorTripleTerms
namespace Go.Proofs.YtnlcfnpcjkcdmaaGreatDoor
open Go Go.RowKit Go.Proofs
set_option synthInstance.maxSize 1000

attribute [local go_sem] eql_errV neq_errV guard_errV

theorem fit_of (a b c : List UInt8) (h : ptN (anyN a) (anyN b) (anyN c) = 0) (ha : a.length ≤ 140737488355328) (hb : b.length ≤ 140737488355328) (hc : c.length ≤ 140737488355328) : fitTr (tripleOf a b c) := by
  obtain ⟨h1, h2, h3⟩ := ptN_zero h
  have q : ∀ l, anyN l = 0 → l.length ≤ 140737488355328 → (anyT l).2.1.length ≤ maxLen ∧ (anyT l).2.2.length ≤ maxLen := fun l hl hll => by
    rcases any_cases l with hh | hh
    · omega
    · obtain ⟨_, _, _, h4, h5⟩ := hh
      unfold maxLen
      omega
  exact ⟨q a h1 ha, q b h2 hb, q c h3 hc⟩

set_option maxHeartbeats 4000000 in
set_option maxRecDepth 100000 in
theorem TParse_any (l : List UInt8) (w : World) (hl : l.length ≤ 140737488355328) :
    Calls Tryz.prog 10 #[.string ⟨l.toArray⟩] w fun e w' => e = .returned (.tuple #[valTr (tparseT l), errV (tparseN l)]) ∧ Below w.heap.size w w' := by
  cases hcut : cutL l with
  | none =>
    have H := fun W => cut_none l W hl hcut
    have fin : Hid (tparseN l = 2 ∧ tparseT l = zeroTr) := by
      have h2 : tparseN l = 2 := by simp [tparseN, hcut]
      exact ⟨h2, by simp [tparseT, h2]⟩
    generalize tparseN l = N at fin ⊢
    generalize hR : valTr (tparseT l) = R
    have finR : Hid (valTr zeroTr = R) := by rw [← hR, fin.out.2]; rfl
    clear hR
    go_enter Tryz.func10, Tryz.ntmps10
    go_wp2_with fail
    refine (H _).mono ?_
    rintro e w1 ⟨rfl, hB⟩
    obtain ⟨kc, kf⟩ := bcell hB
    have z0 : w1.cell? ⟨w.heap.size, 0, none⟩ = some (Value.int .i64 0) := (kc _ 0 (by simp)).trans (by go_simp)
    have y0 : w1.frozen? ⟨w.heap.size, 0, none⟩ = false := (kf _ 0 (by simp)).trans (by go_simp)
    have z1 : w1.cell? ⟨w.heap.size, 1, none⟩ = some (Value.string ⟨#[]⟩) := (kc _ 1 (by simp)).trans (by go_simp)
    have y1 : w1.frozen? ⟨w.heap.size, 1, none⟩ = false := (kf _ 1 (by simp)).trans (by go_simp)
    have z2 : w1.cell? ⟨w.heap.size, 2, none⟩ = some (Value.string ⟨#[]⟩) := (kc _ 2 (by simp)).trans (by go_simp)
    have y2 : w1.frozen? ⟨w.heap.size, 2, none⟩ = false := (kf _ 2 (by simp)).trans (by go_simp)
    have z3 : w1.cell? ⟨w.heap.size, 3, none⟩ = some (Value.int .i64 0) := (kc _ 3 (by simp)).trans (by go_simp)
    have y3 : w1.frozen? ⟨w.heap.size, 3, none⟩ = false := (kf _ 3 (by simp)).trans (by go_simp)
    have z4 : w1.cell? ⟨w.heap.size, 4, none⟩ = some (Value.string ⟨#[]⟩) := (kc _ 4 (by simp)).trans (by go_simp)
    have y4 : w1.frozen? ⟨w.heap.size, 4, none⟩ = false := (kf _ 4 (by simp)).trans (by go_simp)
    have z5 : w1.cell? ⟨w.heap.size, 5, none⟩ = some (Value.string ⟨#[]⟩) := (kc _ 5 (by simp)).trans (by go_simp)
    have y5 : w1.frozen? ⟨w.heap.size, 5, none⟩ = false := (kf _ 5 (by simp)).trans (by go_simp)
    have z6 : w1.cell? ⟨w.heap.size, 6, none⟩ = some (Value.int .i64 0) := (kc _ 6 (by simp)).trans (by go_simp)
    have y6 : w1.frozen? ⟨w.heap.size, 6, none⟩ = false := (kf _ 6 (by simp)).trans (by go_simp)
    have z7 : w1.cell? ⟨w.heap.size, 7, none⟩ = some (Value.string ⟨#[]⟩) := (kc _ 7 (by simp)).trans (by go_simp)
    have y7 : w1.frozen? ⟨w.heap.size, 7, none⟩ = false := (kf _ 7 (by simp)).trans (by go_simp)
    have z8 : w1.cell? ⟨w.heap.size, 8, none⟩ = some (Value.string ⟨#[]⟩) := (kc _ 8 (by simp)).trans (by go_simp)
    have y8 : w1.frozen? ⟨w.heap.size, 8, none⟩ = false := (kf _ 8 (by simp)).trans (by go_simp)
    have hz : w.heap.size < w1.heap.size := by have := hB.size; simp at this; omega
    clear kc kf
    go_wp2_with fail
    refine bodyPost_ret (v := .tuple #[valTr zeroTr, errV 2]) (by unfold results valTr zeroTr; rw [Tryz.results10]; go_simp; rfl) rfl ⟨ret_val (by rw [finR.out, fin.out.1]), ?_⟩
    exact ((((((((((bstep (balloc _ _) hB).setCell (p := ⟨w.heap.size, 0, none⟩) (Nat.le_refl _) _).setCell (p := ⟨w.heap.size, 1, none⟩) (Nat.le_refl _) _).setCell (p := ⟨w.heap.size, 2, none⟩) (Nat.le_refl _) _).setCell (p := ⟨w.heap.size, 3, none⟩) (Nat.le_refl _) _).setCell (p := ⟨w.heap.size, 4, none⟩) (Nat.le_refl _) _).setCell (p := ⟨w.heap.size, 5, none⟩) (Nat.le_refl _) _).setCell (p := ⟨w.heap.size, 6, none⟩) (Nat.le_refl _) _).setCell (p := ⟨w.heap.size, 7, none⟩) (Nat.le_refl _) _).setCell (p := ⟨w.heap.size, 8, none⟩) (Nat.le_refl _) _).alloc (by simp; omega) _
  | some p =>
    obtain ⟨a, b, c⟩ := p
    have hlen := cutL_eq hcut
    have hla : a.length ≤ 140737488355328 := by rw [hlen] at hl; simp at hl; omega
    have hlb : b.length ≤ 140737488355328 := by rw [hlen] at hl; simp at hl; omega
    have hlc : c.length ≤ 140737488355328 := by rw [hlen] at hl; simp at hl; omega
    have H := fun W => cut_some l a b c W hl hcut
    have H2 := fun W => parseTerms_any a b c W hla hlb hlc
    have finN : tparseN l = if ptN (anyN a) (anyN b) (anyN c) = 0 then textN (tripleOf a b c) else ptN (anyN a) (anyN b) (anyN c) := by simp [tparseN, hcut]
    have finT : tparseT l = if tparseN l = 0 then tripleOf a b c else zeroTr := by simp [tparseT, hcut]
    by_cases hN : ptN (anyN a) (anyN b) (anyN c) = 0
    · have HC := fun W => textFault_any (tripleOf a b c) W (fit_of a b c hN hla hlb hlc)
      rw [if_pos hN] at finN
      rw [hN] at H2
      simp only [if_true] at H2
      rw [show errV 0 = .nilIface from rfl] at H2
      rw [finT, finN]
      clear finN finT hN hlen hla hlb hlc hl hcut
      generalize tripleOf a b c = T at *
      have fin : Hid (valTr T = .agg #[.int .i64 T.1.1, .string ⟨T.1.2.1.toArray⟩, .string ⟨T.1.2.2.toArray⟩, .int .i64 T.2.1.1, .string ⟨T.2.1.2.1.toArray⟩, .string ⟨T.2.1.2.2.toArray⟩, .int .i64 T.2.2.1, .string ⟨T.2.2.2.1.toArray⟩, .string ⟨T.2.2.2.2.toArray⟩]) := rfl
      rw [fin.out] at H2 HC
      by_cases hc : textN T = 0
      · rw [hc, if_pos rfl]
        rw [hc] at HC
        rw [show errV 0 = .nilIface from rfl] at HC ⊢
        rw [fin.out]
        clear hc
        go_enter Tryz.func10, Tryz.ntmps10
        go_wp2_with fail
        refine (H _).mono ?_
        rintro e w1 ⟨rfl, hb1⟩
        go_wp2_with fail
        refine (H2 _).mono ?_
        rintro e w2 ⟨rfl, hb2⟩
        have hB2 := bstep (bstep hb1 (balloc _ _)) hb2
        go_wp2_with fail
        refine (HC _).mono ?_
        rintro e w3 ⟨rfl, hb3⟩
        have hB := bstep (bstep hB2 (balloc _ _)) hb3
        obtain ⟨kc, kf⟩ := bcell hB
        have z0 : w3.cell? ⟨w.heap.size, 0, none⟩ = some (Value.int .i64 0) := (kc _ 0 (by simp)).trans (by go_simp)
        have y0 : w3.frozen? ⟨w.heap.size, 0, none⟩ = false := (kf _ 0 (by simp)).trans (by go_simp)
        have z1 : w3.cell? ⟨w.heap.size, 1, none⟩ = some (Value.string ⟨#[]⟩) := (kc _ 1 (by simp)).trans (by go_simp)
        have y1 : w3.frozen? ⟨w.heap.size, 1, none⟩ = false := (kf _ 1 (by simp)).trans (by go_simp)
        have z2 : w3.cell? ⟨w.heap.size, 2, none⟩ = some (Value.string ⟨#[]⟩) := (kc _ 2 (by simp)).trans (by go_simp)
        have y2 : w3.frozen? ⟨w.heap.size, 2, none⟩ = false := (kf _ 2 (by simp)).trans (by go_simp)
        have z3 : w3.cell? ⟨w.heap.size, 3, none⟩ = some (Value.int .i64 0) := (kc _ 3 (by simp)).trans (by go_simp)
        have y3 : w3.frozen? ⟨w.heap.size, 3, none⟩ = false := (kf _ 3 (by simp)).trans (by go_simp)
        have z4 : w3.cell? ⟨w.heap.size, 4, none⟩ = some (Value.string ⟨#[]⟩) := (kc _ 4 (by simp)).trans (by go_simp)
        have y4 : w3.frozen? ⟨w.heap.size, 4, none⟩ = false := (kf _ 4 (by simp)).trans (by go_simp)
        have z5 : w3.cell? ⟨w.heap.size, 5, none⟩ = some (Value.string ⟨#[]⟩) := (kc _ 5 (by simp)).trans (by go_simp)
        have y5 : w3.frozen? ⟨w.heap.size, 5, none⟩ = false := (kf _ 5 (by simp)).trans (by go_simp)
        have z6 : w3.cell? ⟨w.heap.size, 6, none⟩ = some (Value.int .i64 0) := (kc _ 6 (by simp)).trans (by go_simp)
        have y6 : w3.frozen? ⟨w.heap.size, 6, none⟩ = false := (kf _ 6 (by simp)).trans (by go_simp)
        have z7 : w3.cell? ⟨w.heap.size, 7, none⟩ = some (Value.string ⟨#[]⟩) := (kc _ 7 (by simp)).trans (by go_simp)
        have y7 : w3.frozen? ⟨w.heap.size, 7, none⟩ = false := (kf _ 7 (by simp)).trans (by go_simp)
        have z8 : w3.cell? ⟨w.heap.size, 8, none⟩ = some (Value.string ⟨#[]⟩) := (kc _ 8 (by simp)).trans (by go_simp)
        have y8 : w3.frozen? ⟨w.heap.size, 8, none⟩ = false := (kf _ 8 (by simp)).trans (by go_simp)
        have hz : w.heap.size < w3.heap.size := by have := hB.size; simp at this; omega
        clear kc kf
        obtain ⟨kt, _⟩ := bcell hb3
        have hz2 : w2.heap.size < w3.heap.size := by have := hb3.size; simp at this; omega
        have hz0 : w.heap.size ≠ w2.heap.size := by have := hB2.size; simp at this; omega
        have hz0' : w2.heap.size ≠ w.heap.size := fun e => hz0 e.symm
        have x0 : w3.cell? ⟨w2.heap.size, 0, none⟩ = some (.int .i64 T.1.1) := (kt w2.heap.size 0 (by simp)).trans (by go_simp)
        have x1 : w3.cell? ⟨w2.heap.size, 1, none⟩ = some (.string ⟨T.1.2.1.toArray⟩) := (kt w2.heap.size 1 (by simp)).trans (by go_simp)
        have x2 : w3.cell? ⟨w2.heap.size, 2, none⟩ = some (.string ⟨T.1.2.2.toArray⟩) := (kt w2.heap.size 2 (by simp)).trans (by go_simp)
        have x3 : w3.cell? ⟨w2.heap.size, 3, none⟩ = some (.int .i64 T.2.1.1) := (kt w2.heap.size 3 (by simp)).trans (by go_simp)
        have x4 : w3.cell? ⟨w2.heap.size, 4, none⟩ = some (.string ⟨T.2.1.2.1.toArray⟩) := (kt w2.heap.size 4 (by simp)).trans (by go_simp)
        have x5 : w3.cell? ⟨w2.heap.size, 5, none⟩ = some (.string ⟨T.2.1.2.2.toArray⟩) := (kt w2.heap.size 5 (by simp)).trans (by go_simp)
        have x6 : w3.cell? ⟨w2.heap.size, 6, none⟩ = some (.int .i64 T.2.2.1) := (kt w2.heap.size 6 (by simp)).trans (by go_simp)
        have x7 : w3.cell? ⟨w2.heap.size, 7, none⟩ = some (.string ⟨T.2.2.2.1.toArray⟩) := (kt w2.heap.size 7 (by simp)).trans (by go_simp)
        have x8 : w3.cell? ⟨w2.heap.size, 8, none⟩ = some (.string ⟨T.2.2.2.2.toArray⟩) := (kt w2.heap.size 8 (by simp)).trans (by go_simp)
        clear kt
        go_wp2_with fail
        refine bodyPost_ret (v := .tuple #[.agg #[.int .i64 T.1.1, .string ⟨T.1.2.1.toArray⟩, .string ⟨T.1.2.2.toArray⟩, .int .i64 T.2.1.1, .string ⟨T.2.1.2.1.toArray⟩, .string ⟨T.2.1.2.2.toArray⟩, .int .i64 T.2.2.1, .string ⟨T.2.2.2.1.toArray⟩, .string ⟨T.2.2.2.2.toArray⟩], .nilIface]) (by unfold results; rw [Tryz.results10]; go_simp) rfl ⟨rfl, ?_⟩
        exact ((((((((((bstep (balloc _ _) hB).setCell (p := ⟨w.heap.size, 0, none⟩) (Nat.le_refl _) _).setCell (p := ⟨w.heap.size, 1, none⟩) (Nat.le_refl _) _).setCell (p := ⟨w.heap.size, 2, none⟩) (Nat.le_refl _) _).setCell (p := ⟨w.heap.size, 3, none⟩) (Nat.le_refl _) _).setCell (p := ⟨w.heap.size, 4, none⟩) (Nat.le_refl _) _).setCell (p := ⟨w.heap.size, 5, none⟩) (Nat.le_refl _) _).setCell (p := ⟨w.heap.size, 6, none⟩) (Nat.le_refl _) _).setCell (p := ⟨w.heap.size, 7, none⟩) (Nat.le_refl _) _).setCell (p := ⟨w.heap.size, 8, none⟩) (Nat.le_refl _) _)
      · rw [if_neg hc]
        have hc' : (textN T == 0) = false := by simpa using hc
        generalize textN T = N at *
        have finR : Hid (valTr zeroTr = .agg #[.int .i64 0, .string ⟨#[]⟩, .string ⟨#[]⟩, .int .i64 0, .string ⟨#[]⟩, .string ⟨#[]⟩, .int .i64 0, .string ⟨#[]⟩, .string ⟨#[]⟩]) := rfl
        rw [finR.out]
        clear hc
        go_enter Tryz.func10, Tryz.ntmps10
        go_wp2_with fail
        refine (H _).mono ?_
        rintro e w1 ⟨rfl, hb1⟩
        go_wp2_with fail
        refine (H2 _).mono ?_
        rintro e w2 ⟨rfl, hb2⟩
        have hB2 := bstep (bstep hb1 (balloc _ _)) hb2
        go_wp2_with fail
        refine (HC _).mono ?_
        rintro e w3 ⟨rfl, hb3⟩
        have hB := bstep (bstep hB2 (balloc _ _)) hb3
        obtain ⟨kc, kf⟩ := bcell hB
        have z0 : w3.cell? ⟨w.heap.size, 0, none⟩ = some (Value.int .i64 0) := (kc _ 0 (by simp)).trans (by go_simp)
        have y0 : w3.frozen? ⟨w.heap.size, 0, none⟩ = false := (kf _ 0 (by simp)).trans (by go_simp)
        have z1 : w3.cell? ⟨w.heap.size, 1, none⟩ = some (Value.string ⟨#[]⟩) := (kc _ 1 (by simp)).trans (by go_simp)
        have y1 : w3.frozen? ⟨w.heap.size, 1, none⟩ = false := (kf _ 1 (by simp)).trans (by go_simp)
        have z2 : w3.cell? ⟨w.heap.size, 2, none⟩ = some (Value.string ⟨#[]⟩) := (kc _ 2 (by simp)).trans (by go_simp)
        have y2 : w3.frozen? ⟨w.heap.size, 2, none⟩ = false := (kf _ 2 (by simp)).trans (by go_simp)
        have z3 : w3.cell? ⟨w.heap.size, 3, none⟩ = some (Value.int .i64 0) := (kc _ 3 (by simp)).trans (by go_simp)
        have y3 : w3.frozen? ⟨w.heap.size, 3, none⟩ = false := (kf _ 3 (by simp)).trans (by go_simp)
        have z4 : w3.cell? ⟨w.heap.size, 4, none⟩ = some (Value.string ⟨#[]⟩) := (kc _ 4 (by simp)).trans (by go_simp)
        have y4 : w3.frozen? ⟨w.heap.size, 4, none⟩ = false := (kf _ 4 (by simp)).trans (by go_simp)
        have z5 : w3.cell? ⟨w.heap.size, 5, none⟩ = some (Value.string ⟨#[]⟩) := (kc _ 5 (by simp)).trans (by go_simp)
        have y5 : w3.frozen? ⟨w.heap.size, 5, none⟩ = false := (kf _ 5 (by simp)).trans (by go_simp)
        have z6 : w3.cell? ⟨w.heap.size, 6, none⟩ = some (Value.int .i64 0) := (kc _ 6 (by simp)).trans (by go_simp)
        have y6 : w3.frozen? ⟨w.heap.size, 6, none⟩ = false := (kf _ 6 (by simp)).trans (by go_simp)
        have z7 : w3.cell? ⟨w.heap.size, 7, none⟩ = some (Value.string ⟨#[]⟩) := (kc _ 7 (by simp)).trans (by go_simp)
        have y7 : w3.frozen? ⟨w.heap.size, 7, none⟩ = false := (kf _ 7 (by simp)).trans (by go_simp)
        have z8 : w3.cell? ⟨w.heap.size, 8, none⟩ = some (Value.string ⟨#[]⟩) := (kc _ 8 (by simp)).trans (by go_simp)
        have y8 : w3.frozen? ⟨w.heap.size, 8, none⟩ = false := (kf _ 8 (by simp)).trans (by go_simp)
        have hz : w.heap.size < w3.heap.size := by have := hB.size; simp at this; omega
        clear kc kf
        go_wp2_with fail
        refine bodyPost_ret (v := .tuple #[.agg #[.int .i64 0, .string ⟨#[]⟩, .string ⟨#[]⟩, .int .i64 0, .string ⟨#[]⟩, .string ⟨#[]⟩, .int .i64 0, .string ⟨#[]⟩, .string ⟨#[]⟩], errV N]) (by unfold results; rw [Tryz.results10]; go_simp) rfl ⟨rfl, ?_⟩
        exact ((((((((((bstep (balloc _ _) hB).setCell (p := ⟨w.heap.size, 0, none⟩) (Nat.le_refl _) _).setCell (p := ⟨w.heap.size, 1, none⟩) (Nat.le_refl _) _).setCell (p := ⟨w.heap.size, 2, none⟩) (Nat.le_refl _) _).setCell (p := ⟨w.heap.size, 3, none⟩) (Nat.le_refl _) _).setCell (p := ⟨w.heap.size, 4, none⟩) (Nat.le_refl _) _).setCell (p := ⟨w.heap.size, 5, none⟩) (Nat.le_refl _) _).setCell (p := ⟨w.heap.size, 6, none⟩) (Nat.le_refl _) _).setCell (p := ⟨w.heap.size, 7, none⟩) (Nat.le_refl _) _).setCell (p := ⟨w.heap.size, 8, none⟩) (Nat.le_refl _) _)
    · rw [if_neg hN] at finN
      rw [if_neg hN] at H2
      rw [finT, finN, if_neg hN]
      have hN' : (ptN (anyN a) (anyN b) (anyN c) == 0) = false := by simpa using hN
      generalize ptN (anyN a) (anyN b) (anyN c) = N at *
      clear finN finT hN hlen hla hlb hlc hl hcut
      have finR : Hid (valTr zeroTr = .agg #[.int .i64 0, .string ⟨#[]⟩, .string ⟨#[]⟩, .int .i64 0, .string ⟨#[]⟩, .string ⟨#[]⟩, .int .i64 0, .string ⟨#[]⟩, .string ⟨#[]⟩]) := rfl
      rw [finR.out] at H2 ⊢
      go_enter Tryz.func10, Tryz.ntmps10
      go_wp2_with fail
      refine (H _).mono ?_
      rintro e w1 ⟨rfl, hb1⟩
      go_wp2_with fail
      refine (H2 _).mono ?_
      rintro e w2 ⟨rfl, hb2⟩
      have hB := bstep (bstep hb1 (balloc _ _)) hb2
      obtain ⟨kc, kf⟩ := bcell hB
      have z0 : w2.cell? ⟨w.heap.size, 0, none⟩ = some (Value.int .i64 0) := (kc _ 0 (by simp)).trans (by go_simp)
      have y0 : w2.frozen? ⟨w.heap.size, 0, none⟩ = false := (kf _ 0 (by simp)).trans (by go_simp)
      have z1 : w2.cell? ⟨w.heap.size, 1, none⟩ = some (Value.string ⟨#[]⟩) := (kc _ 1 (by simp)).trans (by go_simp)
      have y1 : w2.frozen? ⟨w.heap.size, 1, none⟩ = false := (kf _ 1 (by simp)).trans (by go_simp)
      have z2 : w2.cell? ⟨w.heap.size, 2, none⟩ = some (Value.string ⟨#[]⟩) := (kc _ 2 (by simp)).trans (by go_simp)
      have y2 : w2.frozen? ⟨w.heap.size, 2, none⟩ = false := (kf _ 2 (by simp)).trans (by go_simp)
      have z3 : w2.cell? ⟨w.heap.size, 3, none⟩ = some (Value.int .i64 0) := (kc _ 3 (by simp)).trans (by go_simp)
      have y3 : w2.frozen? ⟨w.heap.size, 3, none⟩ = false := (kf _ 3 (by simp)).trans (by go_simp)
      have z4 : w2.cell? ⟨w.heap.size, 4, none⟩ = some (Value.string ⟨#[]⟩) := (kc _ 4 (by simp)).trans (by go_simp)
      have y4 : w2.frozen? ⟨w.heap.size, 4, none⟩ = false := (kf _ 4 (by simp)).trans (by go_simp)
      have z5 : w2.cell? ⟨w.heap.size, 5, none⟩ = some (Value.string ⟨#[]⟩) := (kc _ 5 (by simp)).trans (by go_simp)
      have y5 : w2.frozen? ⟨w.heap.size, 5, none⟩ = false := (kf _ 5 (by simp)).trans (by go_simp)
      have z6 : w2.cell? ⟨w.heap.size, 6, none⟩ = some (Value.int .i64 0) := (kc _ 6 (by simp)).trans (by go_simp)
      have y6 : w2.frozen? ⟨w.heap.size, 6, none⟩ = false := (kf _ 6 (by simp)).trans (by go_simp)
      have z7 : w2.cell? ⟨w.heap.size, 7, none⟩ = some (Value.string ⟨#[]⟩) := (kc _ 7 (by simp)).trans (by go_simp)
      have y7 : w2.frozen? ⟨w.heap.size, 7, none⟩ = false := (kf _ 7 (by simp)).trans (by go_simp)
      have z8 : w2.cell? ⟨w.heap.size, 8, none⟩ = some (Value.string ⟨#[]⟩) := (kc _ 8 (by simp)).trans (by go_simp)
      have y8 : w2.frozen? ⟨w.heap.size, 8, none⟩ = false := (kf _ 8 (by simp)).trans (by go_simp)
      have hz : w.heap.size < w2.heap.size := by have := hB.size; simp at this; omega
      clear kc kf
      go_wp2_with fail
      refine bodyPost_ret (v := .tuple #[.agg #[.int .i64 0, .string ⟨#[]⟩, .string ⟨#[]⟩, .int .i64 0, .string ⟨#[]⟩, .string ⟨#[]⟩, .int .i64 0, .string ⟨#[]⟩, .string ⟨#[]⟩], errV N]) (by unfold results; rw [Tryz.results10]; go_simp) rfl ⟨rfl, ?_⟩
      exact ((((((((((bstep (balloc _ _) hB).setCell (p := ⟨w.heap.size, 0, none⟩) (Nat.le_refl _) _).setCell (p := ⟨w.heap.size, 1, none⟩) (Nat.le_refl _) _).setCell (p := ⟨w.heap.size, 2, none⟩) (Nat.le_refl _) _).setCell (p := ⟨w.heap.size, 3, none⟩) (Nat.le_refl _) _).setCell (p := ⟨w.heap.size, 4, none⟩) (Nat.le_refl _) _).setCell (p := ⟨w.heap.size, 5, none⟩) (Nat.le_refl _) _).setCell (p := ⟨w.heap.size, 6, none⟩) (Nat.le_refl _) _).setCell (p := ⟨w.heap.size, 7, none⟩) (Nat.le_refl _) _).setCell (p := ⟨w.heap.size, 8, none⟩) (Nat.le_refl _) _).alloc (by simp; omega) _
end Go.Proofs.YtnlcfnpcjkcdmaaGreatDoor
