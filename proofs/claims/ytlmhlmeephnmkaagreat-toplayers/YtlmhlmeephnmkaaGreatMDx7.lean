import Derived.Test.YtlmhlmeephnmkaaGreatMDx6
import Derived.Test.YtlmhlmeephnmkaaGreatMA0x2
import Derived.Shelf.SlSortCmp.QuietGrown
import Derived.Test.YtlmhlmeephnmkaaGreatMA0x3
import Derived.Deep.AppendLies
import Derived.Deep.RegionHeld3
import Derived.Deep.DeepCutAuto
import Derived.RangeFuncNested
import Derived.RangeFuncLeaves

/- triple.Parse: of just such a text. -/
namespace Go.Proofs.YtlmhlmeephnmkaaGreat
open Go Go.RowKit Go.Proofs
set_option synthInstance.maxSize 1000

attribute [local go_sem] eql_errV neq_errV guard_errV

theorem fit_of (a b c : List UInt8) (h : ptN (anyN a) (anyN b) (anyN c) = 0) (ha : a.length ≤ 140737488355328) (hb : b.length ≤ 140737488355328) (hc : c.length ≤ 140737488355328) : fitTr (tripleOf a b c) := by
  obtain ⟨h1, h2, h3⟩ := ptN_zero h
  have q : ∀ l, anyN l = 0 → l.length ≤ 140737488355328 → (anyT l).2.1.length ≤ maxLen ∧ (anyT l).2.2.length ≤ maxLen := fun l hl hll => by
    rcases any_cases l with hh | hh
    · omega
    · obtain ⟨_, _, _, h4, h5⟩ := hh
      unfold maxLen
      omega
  exact ⟨q a h1 ha, q b h2 hb, q c h3 hc⟩

set_option maxHeartbeats 4000000 in
set_option maxRecDepth 100000 in
theorem TParse_any (l : List UInt8) (w : World) (hl : l.length ≤ 140737488355328) :
    Calls Tryz.prog 145 #[.string ⟨l.toArray⟩] w fun e w' => e = .returned (.tuple #[valTr (tparseT l), errV (tparseN l)]) ∧ Below w.heap.size w w' := by
  cases hcut : cutL l with
  | none =>
    have H := fun W => cut_none l W hl hcut
    have fin : Hid (tparseN l = 2 ∧ tparseT l = zeroTr) := by
      have h2 : tparseN l = 2 := by simp [tparseN, hcut]
      exact ⟨h2, by simp [tparseT, h2]⟩
    generalize tparseN l = N at fin ⊢
    generalize hR : valTr (tparseT l) = R
    have finR : Hid (valTr zeroTr = R) := by rw [← hR, fin.out.2]; rfl
    clear hR
    go_enter Tryz.func145, Tryz.ntmps145
    go_wp2_with fail
    refine (H _).mono ?_
    rintro e w1 ⟨rfl, hB⟩
    obtain ⟨kc, kf⟩ := bcell hB
    have z0 : w1.cell? ⟨w.heap.size, 0, none⟩ = some (Value.int .i64 0) := (kc _ 0 (by simp)).trans (by go_simp)
    have y0 : w1.frozen? ⟨w.heap.size, 0, none⟩ = false := (kf _ 0 (by simp)).trans (by go_simp)
    have z1 : w1.cell? ⟨w.heap.size, 1, none⟩ = some (Value.string ⟨#[]⟩) := (kc _ 1 (by simp)).trans (by go_simp)
    have y1 : w1.frozen? ⟨w.heap.size, 1, none⟩ = false := (kf _ 1 (by simp)).trans (by go_simp)
    have z2 : w1.cell? ⟨w.heap.size, 2, none⟩ = some (Value.string ⟨#[]⟩) := (kc _ 2 (by simp)).trans (by go_simp)
    have y2 : w1.frozen? ⟨w.heap.size, 2, none⟩ = false := (kf _ 2 (by simp)).trans (by go_simp)
    have z3 : w1.cell? ⟨w.heap.size, 3, none⟩ = some (Value.int .i64 0) := (kc _ 3 (by simp)).trans (by go_simp)
    have y3 : w1.frozen? ⟨w.heap.size, 3, none⟩ = false := (kf _ 3 (by simp)).trans (by go_simp)
    have z4 : w1.cell? ⟨w.heap.size, 4, none⟩ = some (Value.string ⟨#[]⟩) := (kc _ 4 (by simp)).trans (by go_simp)
    have y4 : w1.frozen? ⟨w.heap.size, 4, none⟩ = false := (kf _ 4 (by simp)).trans (by go_simp)
    have z5 : w1.cell? ⟨w.heap.size, 5, none⟩ = some (Value.string ⟨#[]⟩) := (kc _ 5 (by simp)).trans (by go_simp)
    have y5 : w1.frozen? ⟨w.heap.size, 5, none⟩ = false := (kf _ 5 (by simp)).trans (by go_simp)
    have z6 : w1.cell? ⟨w.heap.size, 6, none⟩ = some (Value.int .i64 0) := (kc _ 6 (by simp)).trans (by go_simp)
    have y6 : w1.frozen? ⟨w.heap.size, 6, none⟩ = false := (kf _ 6 (by simp)).trans (by go_simp)
    have z7 : w1.cell? ⟨w.heap.size, 7, none⟩ = some (Value.string ⟨#[]⟩) := (kc _ 7 (by simp)).trans (by go_simp)
    have y7 : w1.frozen? ⟨w.heap.size, 7, none⟩ = false := (kf _ 7 (by simp)).trans (by go_simp)
    have z8 : w1.cell? ⟨w.heap.size, 8, none⟩ = some (Value.string ⟨#[]⟩) := (kc _ 8 (by simp)).trans (by go_simp)
    have y8 : w1.frozen? ⟨w.heap.size, 8, none⟩ = false := (kf _ 8 (by simp)).trans (by go_simp)
    have hz : w.heap.size < w1.heap.size := by have := hB.size; simp at this; omega
    clear kc kf
    go_wp2_with fail
    refine bodyPost_ret (v := .tuple #[valTr zeroTr, errV 2]) (by unfold results valTr zeroTr; rw [Tryz.results145]; go_simp; rfl) rfl ⟨ret_val (by rw [finR.out, fin.out.1]), ?_⟩
    exact ((((((((((bstep (balloc _ _) hB).setCell (p := ⟨w.heap.size, 0, none⟩) (Nat.le_refl _) _).setCell (p := ⟨w.heap.size, 1, none⟩) (Nat.le_refl _) _).setCell (p := ⟨w.heap.size, 2, none⟩) (Nat.le_refl _) _).setCell (p := ⟨w.heap.size, 3, none⟩) (Nat.le_refl _) _).setCell (p := ⟨w.heap.size, 4, none⟩) (Nat.le_refl _) _).setCell (p := ⟨w.heap.size, 5, none⟩) (Nat.le_refl _) _).setCell (p := ⟨w.heap.size, 6, none⟩) (Nat.le_refl _) _).setCell (p := ⟨w.heap.size, 7, none⟩) (Nat.le_refl _) _).setCell (p := ⟨w.heap.size, 8, none⟩) (Nat.le_refl _) _).alloc (by simp; omega) _
  | some p =>
    obtain ⟨a, b, c⟩ := p
    have hlen := cutL_eq hcut
    have hla : a.length ≤ 140737488355328 := by rw [hlen] at hl; simp at hl; omega
    have hlb : b.length ≤ 140737488355328 := by rw [hlen] at hl; simp at hl; omega
    have hlc : c.length ≤ 140737488355328 := by rw [hlen] at hl; simp at hl; omega
    have H := fun W => cut_some l a b c W hl hcut
    have H2 := fun W => parseTerms_any a b c W hla hlb hlc
    have finN : tparseN l = if ptN (anyN a) (anyN b) (anyN c) = 0 then textN (tripleOf a b c) else ptN (anyN a) (anyN b) (anyN c) := by simp [tparseN, hcut]
    have finT : tparseT l = if tparseN l = 0 then tripleOf a b c else zeroTr := by simp [tparseT, hcut]
    by_cases hN : ptN (anyN a) (anyN b) (anyN c) = 0
    · have HC := fun W => textFault_any (tripleOf a b c) W (fit_of a b c hN hla hlb hlc)
      rw [if_pos hN] at finN
      rw [hN] at H2
      simp only [if_true] at H2
      rw [show errV 0 = .nilIface from rfl] at H2
      rw [finT, finN]
      clear finN finT hN hlen hla hlb hlc hl hcut
      generalize tripleOf a b c = T at *
      have fin : Hid (valTr T = .agg #[.int .i64 T.1.1, .string ⟨T.1.2.1.toArray⟩, .string ⟨T.1.2.2.toArray⟩, .int .i64 T.2.1.1, .string ⟨T.2.1.2.1.toArray⟩, .string ⟨T.2.1.2.2.toArray⟩, .int .i64 T.2.2.1, .string ⟨T.2.2.2.1.toArray⟩, .string ⟨T.2.2.2.2.toArray⟩]) := rfl
      rw [fin.out] at H2 HC
      by_cases hc : textN T = 0
      · rw [hc, if_pos rfl]
        rw [hc] at HC
        rw [show errV 0 = .nilIface from rfl] at HC ⊢
        rw [fin.out]
        clear hc
        go_enter Tryz.func145, Tryz.ntmps145
        go_wp2_with fail
        refine (H _).mono ?_
        rintro e w1 ⟨rfl, hb1⟩
        go_wp2_with fail
        refine (H2 _).mono ?_
        rintro e w2 ⟨rfl, hb2⟩
        have hB2 := bstep (bstep hb1 (balloc _ _)) hb2
        go_wp2_with fail
        refine (HC _).mono ?_
        rintro e w3 ⟨rfl, hb3⟩
        have hB := bstep (bstep hB2 (balloc _ _)) hb3
        obtain ⟨kc, kf⟩ := bcell hB
        have z0 : w3.cell? ⟨w.heap.size, 0, none⟩ = some (Value.int .i64 0) := (kc _ 0 (by simp)).trans (by go_simp)
        have y0 : w3.frozen? ⟨w.heap.size, 0, none⟩ = false := (kf _ 0 (by simp)).trans (by go_simp)
        have z1 : w3.cell? ⟨w.heap.size, 1, none⟩ = some (Value.string ⟨#[]⟩) := (kc _ 1 (by simp)).trans (by go_simp)
        have y1 : w3.frozen? ⟨w.heap.size, 1, none⟩ = false := (kf _ 1 (by simp)).trans (by go_simp)
        have z2 : w3.cell? ⟨w.heap.size, 2, none⟩ = some (Value.string ⟨#[]⟩) := (kc _ 2 (by simp)).trans (by go_simp)
        have y2 : w3.frozen? ⟨w.heap.size, 2, none⟩ = false := (kf _ 2 (by simp)).trans (by go_simp)
        have z3 : w3.cell? ⟨w.heap.size, 3, none⟩ = some (Value.int .i64 0) := (kc _ 3 (by simp)).trans (by go_simp)
        have y3 : w3.frozen? ⟨w.heap.size, 3, none⟩ = false := (kf _ 3 (by simp)).trans (by go_simp)
        have z4 : w3.cell? ⟨w.heap.size, 4, none⟩ = some (Value.string ⟨#[]⟩) := (kc _ 4 (by simp)).trans (by go_simp)
        have y4 : w3.frozen? ⟨w.heap.size, 4, none⟩ = false := (kf _ 4 (by simp)).trans (by go_simp)
        have z5 : w3.cell? ⟨w.heap.size, 5, none⟩ = some (Value.string ⟨#[]⟩) := (kc _ 5 (by simp)).trans (by go_simp)
        have y5 : w3.frozen? ⟨w.heap.size, 5, none⟩ = false := (kf _ 5 (by simp)).trans (by go_simp)
        have z6 : w3.cell? ⟨w.heap.size, 6, none⟩ = some (Value.int .i64 0) := (kc _ 6 (by simp)).trans (by go_simp)
        have y6 : w3.frozen? ⟨w.heap.size, 6, none⟩ = false := (kf _ 6 (by simp)).trans (by go_simp)
        have z7 : w3.cell? ⟨w.heap.size, 7, none⟩ = some (Value.string ⟨#[]⟩) := (kc _ 7 (by simp)).trans (by go_simp)
        have y7 : w3.frozen? ⟨w.heap.size, 7, none⟩ = false := (kf _ 7 (by simp)).trans (by go_simp)
        have z8 : w3.cell? ⟨w.heap.size, 8, none⟩ = some (Value.string ⟨#[]⟩) := (kc _ 8 (by simp)).trans (by go_simp)
        have y8 : w3.frozen? ⟨w.heap.size, 8, none⟩ = false := (kf _ 8 (by simp)).trans (by go_simp)
        have hz : w.heap.size < w3.heap.size := by have := hB.size; simp at this; omega
        clear kc kf
        obtain ⟨kt, _⟩ := bcell hb3
        have hz2 : w2.heap.size < w3.heap.size := by have := hb3.size; simp at this; omega
        have hz0 : w.heap.size ≠ w2.heap.size := by have := hB2.size; simp at this; omega
        have hz0' : w2.heap.size ≠ w.heap.size := fun e => hz0 e.symm
        have x0 : w3.cell? ⟨w2.heap.size, 0, none⟩ = some (.int .i64 T.1.1) := (kt w2.heap.size 0 (by simp)).trans (by go_simp)
        have x1 : w3.cell? ⟨w2.heap.size, 1, none⟩ = some (.string ⟨T.1.2.1.toArray⟩) := (kt w2.heap.size 1 (by simp)).trans (by go_simp)
        have x2 : w3.cell? ⟨w2.heap.size, 2, none⟩ = some (.string ⟨T.1.2.2.toArray⟩) := (kt w2.heap.size 2 (by simp)).trans (by go_simp)
        have x3 : w3.cell? ⟨w2.heap.size, 3, none⟩ = some (.int .i64 T.2.1.1) := (kt w2.heap.size 3 (by simp)).trans (by go_simp)
        have x4 : w3.cell? ⟨w2.heap.size, 4, none⟩ = some (.string ⟨T.2.1.2.1.toArray⟩) := (kt w2.heap.size 4 (by simp)).trans (by go_simp)
        have x5 : w3.cell? ⟨w2.heap.size, 5, none⟩ = some (.string ⟨T.2.1.2.2.toArray⟩) := (kt w2.heap.size 5 (by simp)).trans (by go_simp)
        have x6 : w3.cell? ⟨w2.heap.size, 6, none⟩ = some (.int .i64 T.2.2.1) := (kt w2.heap.size 6 (by simp)).trans (by go_simp)
        have x7 : w3.cell? ⟨w2.heap.size, 7, none⟩ = some (.string ⟨T.2.2.2.1.toArray⟩) := (kt w2.heap.size 7 (by simp)).trans (by go_simp)
        have x8 : w3.cell? ⟨w2.heap.size, 8, none⟩ = some (.string ⟨T.2.2.2.2.toArray⟩) := (kt w2.heap.size 8 (by simp)).trans (by go_simp)
        clear kt
        go_wp2_with fail
        refine bodyPost_ret (v := .tuple #[.agg #[.int .i64 T.1.1, .string ⟨T.1.2.1.toArray⟩, .string ⟨T.1.2.2.toArray⟩, .int .i64 T.2.1.1, .string ⟨T.2.1.2.1.toArray⟩, .string ⟨T.2.1.2.2.toArray⟩, .int .i64 T.2.2.1, .string ⟨T.2.2.2.1.toArray⟩, .string ⟨T.2.2.2.2.toArray⟩], .nilIface]) (by unfold results; rw [Tryz.results145]; go_simp) rfl ⟨rfl, ?_⟩
        exact ((((((((((bstep (balloc _ _) hB).setCell (p := ⟨w.heap.size, 0, none⟩) (Nat.le_refl _) _).setCell (p := ⟨w.heap.size, 1, none⟩) (Nat.le_refl _) _).setCell (p := ⟨w.heap.size, 2, none⟩) (Nat.le_refl _) _).setCell (p := ⟨w.heap.size, 3, none⟩) (Nat.le_refl _) _).setCell (p := ⟨w.heap.size, 4, none⟩) (Nat.le_refl _) _).setCell (p := ⟨w.heap.size, 5, none⟩) (Nat.le_refl _) _).setCell (p := ⟨w.heap.size, 6, none⟩) (Nat.le_refl _) _).setCell (p := ⟨w.heap.size, 7, none⟩) (Nat.le_refl _) _).setCell (p := ⟨w.heap.size, 8, none⟩) (Nat.le_refl _) _)
      · rw [if_neg hc]
        have hc' : (textN T == 0) = false := by simpa using hc
        generalize textN T = N at *
        have finR : Hid (valTr zeroTr = .agg #[.int .i64 0, .string ⟨#[]⟩, .string ⟨#[]⟩, .int .i64 0, .string ⟨#[]⟩, .string ⟨#[]⟩, .int .i64 0, .string ⟨#[]⟩, .string ⟨#[]⟩]) := rfl
        rw [finR.out]
        clear hc
        go_enter Tryz.func145, Tryz.ntmps145
        go_wp2_with fail
        refine (H _).mono ?_
        rintro e w1 ⟨rfl, hb1⟩
        go_wp2_with fail
        refine (H2 _).mono ?_
        rintro e w2 ⟨rfl, hb2⟩
        have hB2 := bstep (bstep hb1 (balloc _ _)) hb2
        go_wp2_with fail
        refine (HC _).mono ?_
        rintro e w3 ⟨rfl, hb3⟩
        have hB := bstep (bstep hB2 (balloc _ _)) hb3
        obtain ⟨kc, kf⟩ := bcell hB
        have z0 : w3.cell? ⟨w.heap.size, 0, none⟩ = some (Value.int .i64 0) := (kc _ 0 (by simp)).trans (by go_simp)
        have y0 : w3.frozen? ⟨w.heap.size, 0, none⟩ = false := (kf _ 0 (by simp)).trans (by go_simp)
        have z1 : w3.cell? ⟨w.heap.size, 1, none⟩ = some (Value.string ⟨#[]⟩) := (kc _ 1 (by simp)).trans (by go_simp)
        have y1 : w3.frozen? ⟨w.heap.size, 1, none⟩ = false := (kf _ 1 (by simp)).trans (by go_simp)
        have z2 : w3.cell? ⟨w.heap.size, 2, none⟩ = some (Value.string ⟨#[]⟩) := (kc _ 2 (by simp)).trans (by go_simp)
        have y2 : w3.frozen? ⟨w.heap.size, 2, none⟩ = false := (kf _ 2 (by simp)).trans (by go_simp)
        have z3 : w3.cell? ⟨w.heap.size, 3, none⟩ = some (Value.int .i64 0) := (kc _ 3 (by simp)).trans (by go_simp)
        have y3 : w3.frozen? ⟨w.heap.size, 3, none⟩ = false := (kf _ 3 (by simp)).trans (by go_simp)
        have z4 : w3.cell? ⟨w.heap.size, 4, none⟩ = some (Value.string ⟨#[]⟩) := (kc _ 4 (by simp)).trans (by go_simp)
        have y4 : w3.frozen? ⟨w.heap.size, 4, none⟩ = false := (kf _ 4 (by simp)).trans (by go_simp)
        have z5 : w3.cell? ⟨w.heap.size, 5, none⟩ = some (Value.string ⟨#[]⟩) := (kc _ 5 (by simp)).trans (by go_simp)
        have y5 : w3.frozen? ⟨w.heap.size, 5, none⟩ = false := (kf _ 5 (by simp)).trans (by go_simp)
        have z6 : w3.cell? ⟨w.heap.size, 6, none⟩ = some (Value.int .i64 0) := (kc _ 6 (by simp)).trans (by go_simp)
        have y6 : w3.frozen? ⟨w.heap.size, 6, none⟩ = false := (kf _ 6 (by simp)).trans (by go_simp)
        have z7 : w3.cell? ⟨w.heap.size, 7, none⟩ = some (Value.string ⟨#[]⟩) := (kc _ 7 (by simp)).trans (by go_simp)
        have y7 : w3.frozen? ⟨w.heap.size, 7, none⟩ = false := (kf _ 7 (by simp)).trans (by go_simp)
        have z8 : w3.cell? ⟨w.heap.size, 8, none⟩ = some (Value.string ⟨#[]⟩) := (kc _ 8 (by simp)).trans (by go_simp)
        have y8 : w3.frozen? ⟨w.heap.size, 8, none⟩ = false := (kf _ 8 (by simp)).trans (by go_simp)
        have hz : w.heap.size < w3.heap.size := by have := hB.size; simp at this; omega
        clear kc kf
        go_wp2_with fail
        refine bodyPost_ret (v := .tuple #[.agg #[.int .i64 0, .string ⟨#[]⟩, .string ⟨#[]⟩, .int .i64 0, .string ⟨#[]⟩, .string ⟨#[]⟩, .int .i64 0, .string ⟨#[]⟩, .string ⟨#[]⟩], errV N]) (by unfold results; rw [Tryz.results145]; go_simp) rfl ⟨rfl, ?_⟩
        exact ((((((((((bstep (balloc _ _) hB).setCell (p := ⟨w.heap.size, 0, none⟩) (Nat.le_refl _) _).setCell (p := ⟨w.heap.size, 1, none⟩) (Nat.le_refl _) _).setCell (p := ⟨w.heap.size, 2, none⟩) (Nat.le_refl _) _).setCell (p := ⟨w.heap.size, 3, none⟩) (Nat.le_refl _) _).setCell (p := ⟨w.heap.size, 4, none⟩) (Nat.le_refl _) _).setCell (p := ⟨w.heap.size, 5, none⟩) (Nat.le_refl _) _).setCell (p := ⟨w.heap.size, 6, none⟩) (Nat.le_refl _) _).setCell (p := ⟨w.heap.size, 7, none⟩) (Nat.le_refl _) _).setCell (p := ⟨w.heap.size, 8, none⟩) (Nat.le_refl _) _)
    · rw [if_neg hN] at finN
      rw [if_neg hN] at H2
      rw [finT, finN, if_neg hN]
      have hN' : (ptN (anyN a) (anyN b) (anyN c) == 0) = false := by simpa using hN
      generalize ptN (anyN a) (anyN b) (anyN c) = N at *
      clear finN finT hN hlen hla hlb hlc hl hcut
      have finR : Hid (valTr zeroTr = .agg #[.int .i64 0, .string ⟨#[]⟩, .string ⟨#[]⟩, .int .i64 0, .string ⟨#[]⟩, .string ⟨#[]⟩, .int .i64 0, .string ⟨#[]⟩, .string ⟨#[]⟩]) := rfl
      rw [finR.out] at H2 ⊢
      go_enter Tryz.func145, Tryz.ntmps145
      go_wp2_with fail
      refine (H _).mono ?_
      rintro e w1 ⟨rfl, hb1⟩
      go_wp2_with fail
      refine (H2 _).mono ?_
      rintro e w2 ⟨rfl, hb2⟩
      have hB := bstep (bstep hb1 (balloc _ _)) hb2
      obtain ⟨kc, kf⟩ := bcell hB
      have z0 : w2.cell? ⟨w.heap.size, 0, none⟩ = some (Value.int .i64 0) := (kc _ 0 (by simp)).trans (by go_simp)
      have y0 : w2.frozen? ⟨w.heap.size, 0, none⟩ = false := (kf _ 0 (by simp)).trans (by go_simp)
      have z1 : w2.cell? ⟨w.heap.size, 1, none⟩ = some (Value.string ⟨#[]⟩) := (kc _ 1 (by simp)).trans (by go_simp)
      have y1 : w2.frozen? ⟨w.heap.size, 1, none⟩ = false := (kf _ 1 (by simp)).trans (by go_simp)
      have z2 : w2.cell? ⟨w.heap.size, 2, none⟩ = some (Value.string ⟨#[]⟩) := (kc _ 2 (by simp)).trans (by go_simp)
      have y2 : w2.frozen? ⟨w.heap.size, 2, none⟩ = false := (kf _ 2 (by simp)).trans (by go_simp)
      have z3 : w2.cell? ⟨w.heap.size, 3, none⟩ = some (Value.int .i64 0) := (kc _ 3 (by simp)).trans (by go_simp)
      have y3 : w2.frozen? ⟨w.heap.size, 3, none⟩ = false := (kf _ 3 (by simp)).trans (by go_simp)
      have z4 : w2.cell? ⟨w.heap.size, 4, none⟩ = some (Value.string ⟨#[]⟩) := (kc _ 4 (by simp)).trans (by go_simp)
      have y4 : w2.frozen? ⟨w.heap.size, 4, none⟩ = false := (kf _ 4 (by simp)).trans (by go_simp)
      have z5 : w2.cell? ⟨w.heap.size, 5, none⟩ = some (Value.string ⟨#[]⟩) := (kc _ 5 (by simp)).trans (by go_simp)
      have y5 : w2.frozen? ⟨w.heap.size, 5, none⟩ = false := (kf _ 5 (by simp)).trans (by go_simp)
      have z6 : w2.cell? ⟨w.heap.size, 6, none⟩ = some (Value.int .i64 0) := (kc _ 6 (by simp)).trans (by go_simp)
      have y6 : w2.frozen? ⟨w.heap.size, 6, none⟩ = false := (kf _ 6 (by simp)).trans (by go_simp)
      have z7 : w2.cell? ⟨w.heap.size, 7, none⟩ = some (Value.string ⟨#[]⟩) := (kc _ 7 (by simp)).trans (by go_simp)
      have y7 : w2.frozen? ⟨w.heap.size, 7, none⟩ = false := (kf _ 7 (by simp)).trans (by go_simp)
      have z8 : w2.cell? ⟨w.heap.size, 8, none⟩ = some (Value.string ⟨#[]⟩) := (kc _ 8 (by simp)).trans (by go_simp)
      have y8 : w2.frozen? ⟨w.heap.size, 8, none⟩ = false := (kf _ 8 (by simp)).trans (by go_simp)
      have hz : w.heap.size < w2.heap.size := by have := hB.size; simp at this; omega
      clear kc kf
      go_wp2_with fail
      refine bodyPost_ret (v := .tuple #[.agg #[.int .i64 0, .string ⟨#[]⟩, .string ⟨#[]⟩, .int .i64 0, .string ⟨#[]⟩, .string ⟨#[]⟩, .int .i64 0, .string ⟨#[]⟩, .string ⟨#[]⟩], errV N]) (by unfold results; rw [Tryz.results145]; go_simp) rfl ⟨rfl, ?_⟩
      exact ((((((((((bstep (balloc _ _) hB).setCell (p := ⟨w.heap.size, 0, none⟩) (Nat.le_refl _) _).setCell (p := ⟨w.heap.size, 1, none⟩) (Nat.le_refl _) _).setCell (p := ⟨w.heap.size, 2, none⟩) (Nat.le_refl _) _).setCell (p := ⟨w.heap.size, 3, none⟩) (Nat.le_refl _) _).setCell (p := ⟨w.heap.size, 4, none⟩) (Nat.le_refl _) _).setCell (p := ⟨w.heap.size, 5, none⟩) (Nat.le_refl _) _).setCell (p := ⟨w.heap.size, 6, none⟩) (Nat.le_refl _) _).setCell (p := ⟨w.heap.size, 7, none⟩) (Nat.le_refl _) _).setCell (p := ⟨w.heap.size, 8, none⟩) (Nat.le_refl _) _).alloc (by simp; omega) _
end Go.Proofs.YtlmhlmeephnmkaaGreat

/- slices.BinarySearchFunc at triples, by triple.Compare. -/
namespace Go.Proofs.YtlmhlmeephnmkaaGreat
open Go Go.RowKit Go.Proofs Go.Sort
set_option synthInstance.maxSize 1000

theorem bin_step {l : List Tr} (hr : Rising l) (t : Tr) (h : Nat) (hh : h < l.length) :
    (cmpTr l[h] t < 0 → ∀ j (hj : j < l.length), j ≤ h → cmpTr l[j] t < 0) ∧ (0 ≤ cmpTr l[h] t → ∀ j (hj : j < l.length), h ≤ j → 0 ≤ cmpTr l[j] t) := by
  refine ⟨fun hc j hj hle => ?_, fun hc j hj hle => ?_⟩
  · rcases Nat.lt_or_eq_of_le hle with h1 | h1
    · exact cmpTr_lt_trans (List.pairwise_iff_getElem.1 hr j h hj hh h1) hc
    · subst h1; exact hc
  · rcases Nat.lt_or_eq_of_le hle with h1 | h1
    · have h2 := List.pairwise_iff_getElem.1 hr h j hh hj h1
      refine Int.not_lt.1 fun h3 => ?_
      have := cmpTr_lt_trans h2 h3
      omega
    · subst h1; exact hc

theorem bin_found {l : List Tr} (hr : Rising l) (t : Tr) (i : Nat) (hlo : ∀ j (hj : j < l.length), j < i → cmpTr l[j] t < 0) (hhi : ∀ j (hj : j < l.length), i ≤ j → 0 ≤ cmpTr l[j] t) (hi : i < l.length) :
    decide (t ∈ l) = (cmpTr l[i] t == 0) := by
  rw [Bool.eq_iff_iff, decide_eq_true_eq, beq_iff_eq, cmpTr_zero]
  constructor
  · intro h
    obtain ⟨j, hj, rfl⟩ := List.getElem_of_mem h
    rcases Nat.lt_trichotomy j i with h1 | h1 | h1
    · have := hlo j hj h1
      have := (cmpTr_zero l[j] l[j]).2 rfl
      omega
    · subst h1; rfl
    · have h2 := List.pairwise_iff_getElem.1 hr i j hi hj h1
      have := hhi i hi (Nat.le_refl _)
      omega
  · intro h
    rw [← h]
    exact List.getElem_mem hi
theorem bin_none {l : List Tr} (t : Tr) (hlo : ∀ j (hj : j < l.length), j < l.length → cmpTr l[j] t < 0) : decide (t ∈ l) = false := by
  rw [decide_eq_false_iff_not]
  intro h
  obtain ⟨j, hj, rfl⟩ := List.getElem_of_mem h
  have := hlo j hj hj
  have := (cmpTr_zero l[j] l[j]).2 rfl
  omega

set_option maxHeartbeats 4000000 in
set_option maxRecDepth 100000 in
theorem Bin_any (ad : Option Addr) (cap : Nat) (l : List Tr) (t : Tr) (w : World) (h : SlT w ad l) (hr : Rising l) (h200 : l.length ≤ 200) :
    Calls Tryz.prog 181 #[.slice ad l.length cap, valTr t, .func (.func 47) #[] #[]] w
      fun e w' => ∃ i : Int, e = .returned (.tuple #[.int .i64 i, .bool (decide (t ∈ l))]) ∧ RowKit.Below w.heap.size w w' := by
  have Hl : Hid (SlT w ad l) := h
  have Hr : Hid (Rising l) := hr
  have eg := enters47
  clear h hr
  unfold valTr
  go_enter Tryz.func181, Tryz.ntmps181
  go_wp2_with fail
  go_loopw [9, 10] (fun i j wr => ∃ p q : Nat, p ≤ q ∧ q ≤ l.length ∧ i = .int .i64 p ∧ j = .int .i64 q ∧ Hid ((∀ m (hm : m < l.length), m < p → cmpTr l[m] t < 0) ∧ (∀ m (hm : m < l.length), q ≤ m → 0 ≤ cmpTr l[m] t)) ∧ RowKit.Below (w.alloc (.cells (encTr t).toArray 58)).heap.size (w.alloc (.cells (encTr t).toArray 58)) wr) (fun i j wr => (intOf j - intOf i).toNat)
  case atStart => exact ⟨0, l.length, by omega, by omega, rfl, rfl, ⟨fun m hm h => by omega, fun m hm h => by omega⟩, RowKit.Below.refl _ _⟩
  case round =>
    obtain ⟨p, q, hpq, hq, rfl, rfl, hH, hbr⟩ := hrel
    by_cases hlt : p < q
    · obtain ⟨m, hmd⟩ : ∃ m, m = (p + q) / 2 := ⟨_, rfl⟩
      have hpm : p ≤ m := by omega
      have hmq : m < q := by omega
      have hml : m < l.length := by omega
      have hhalf : ((p : Int) + (q : Int)) / 2 = (m : Int) := by omega
      obtain ⟨b, o, rfl, hrow⟩ := (Hl.out.below (bstep (balloc _ _) hbr)).at m hml
      obtain ⟨d0, d1, d2, d3, d4, d5, d6, d7, d8⟩ := hrow.at m hml
      obtain ⟨e0, e1, e2, e3, e4, e5, e6, e7, e8, hz9⟩ := ninebox hbr
      have i0 : (0 : Int) ≤ (m : Int) := by omega
      have i1 : (m : Int) < (l.length : Int) := by omega
      have HC := fun W => CmpTr_any l[m] t W
      obtain ⟨s1, s2⟩ := bin_step Hr.out t m hml
      have S1 : Hid _ := s1
      have S2 : Hid _ := s2
      have Hmd : Hid (m = (p + q) / 2) := hmd
      clear hrow s1 s2 hmd
      unfold valTr at HC
      generalize hcv : cmpTr l[m] t = c at *
      generalize l[m] = y at *
      cases hcc : decide (c < 0)
      · have hcn : Hid (0 ≤ c) := by simp at hcc; exact hcc
        go_wp2_with fail
        go_region_held3 (fun W => W.cell? ⟨b, o + m * 9, none⟩ = some (.int .i64 y.1.1) ∧ W.cell? ⟨b, o + m * 9 + 1, none⟩ = some (.string ⟨y.1.2.1.toArray⟩) ∧ W.cell? ⟨b, o + m * 9 + 2, none⟩ = some (.string ⟨y.1.2.2.toArray⟩) ∧ W.cell? ⟨b, o + m * 9 + 3, none⟩ = some (.int .i64 y.2.1.1) ∧ W.cell? ⟨b, o + m * 9 + 4, none⟩ = some (.string ⟨y.2.1.2.1.toArray⟩) ∧ W.cell? ⟨b, o + m * 9 + 5, none⟩ = some (.string ⟨y.2.1.2.2.toArray⟩) ∧ W.cell? ⟨b, o + m * 9 + 6, none⟩ = some (.int .i64 y.2.2.1) ∧ W.cell? ⟨b, o + m * 9 + 7, none⟩ = some (.string ⟨y.2.2.2.1.toArray⟩) ∧ W.cell? ⟨b, o + m * 9 + 8, none⟩ = some (.string ⟨y.2.2.2.2.toArray⟩) ∧ W.cell? ⟨w.heap.size, 0, none⟩ = some (.int .i64 t.1.1) ∧ W.cell? ⟨w.heap.size, 1, none⟩ = some (.string ⟨t.1.2.1.toArray⟩) ∧ W.cell? ⟨w.heap.size, 2, none⟩ = some (.string ⟨t.1.2.2.toArray⟩) ∧ W.cell? ⟨w.heap.size, 3, none⟩ = some (.int .i64 t.2.1.1) ∧ W.cell? ⟨w.heap.size, 4, none⟩ = some (.string ⟨t.2.1.2.1.toArray⟩) ∧ W.cell? ⟨w.heap.size, 5, none⟩ = some (.string ⟨t.2.1.2.2.toArray⟩) ∧ W.cell? ⟨w.heap.size, 6, none⟩ = some (.int .i64 t.2.2.1) ∧ W.cell? ⟨w.heap.size, 7, none⟩ = some (.string ⟨t.2.2.2.1.toArray⟩) ∧ W.cell? ⟨w.heap.size, 8, none⟩ = some (.string ⟨t.2.2.2.2.toArray⟩)) (first | exact keep18 (by assumption) hb2 | go_keep) (first
          | (go_at_fn 47; refine (HC _).mono ?_; rintro e w2 ⟨rfl, hb2⟩))
        go_wp2
        exact ⟨⟨p, m, hpm, by omega, rfl, rfl, ⟨hH.out.1, fun j hj hle => S2.out hcn.out j hj hle⟩, bstep hbr.drew hb2.below⟩, by simp [intOf]; omega⟩
      · have hcn : Hid (c < 0) := by simpa [Hid] using hcc
        go_wp2_with fail
        go_region_held3 (fun W => W.cell? ⟨b, o + m * 9, none⟩ = some (.int .i64 y.1.1) ∧ W.cell? ⟨b, o + m * 9 + 1, none⟩ = some (.string ⟨y.1.2.1.toArray⟩) ∧ W.cell? ⟨b, o + m * 9 + 2, none⟩ = some (.string ⟨y.1.2.2.toArray⟩) ∧ W.cell? ⟨b, o + m * 9 + 3, none⟩ = some (.int .i64 y.2.1.1) ∧ W.cell? ⟨b, o + m * 9 + 4, none⟩ = some (.string ⟨y.2.1.2.1.toArray⟩) ∧ W.cell? ⟨b, o + m * 9 + 5, none⟩ = some (.string ⟨y.2.1.2.2.toArray⟩) ∧ W.cell? ⟨b, o + m * 9 + 6, none⟩ = some (.int .i64 y.2.2.1) ∧ W.cell? ⟨b, o + m * 9 + 7, none⟩ = some (.string ⟨y.2.2.2.1.toArray⟩) ∧ W.cell? ⟨b, o + m * 9 + 8, none⟩ = some (.string ⟨y.2.2.2.2.toArray⟩) ∧ W.cell? ⟨w.heap.size, 0, none⟩ = some (.int .i64 t.1.1) ∧ W.cell? ⟨w.heap.size, 1, none⟩ = some (.string ⟨t.1.2.1.toArray⟩) ∧ W.cell? ⟨w.heap.size, 2, none⟩ = some (.string ⟨t.1.2.2.toArray⟩) ∧ W.cell? ⟨w.heap.size, 3, none⟩ = some (.int .i64 t.2.1.1) ∧ W.cell? ⟨w.heap.size, 4, none⟩ = some (.string ⟨t.2.1.2.1.toArray⟩) ∧ W.cell? ⟨w.heap.size, 5, none⟩ = some (.string ⟨t.2.1.2.2.toArray⟩) ∧ W.cell? ⟨w.heap.size, 6, none⟩ = some (.int .i64 t.2.2.1) ∧ W.cell? ⟨w.heap.size, 7, none⟩ = some (.string ⟨t.2.2.2.1.toArray⟩) ∧ W.cell? ⟨w.heap.size, 8, none⟩ = some (.string ⟨t.2.2.2.2.toArray⟩)) (first | exact keep18 (by assumption) hb2 | go_keep) (first
          | (go_at_fn 47; refine (HC _).mono ?_; rintro e w2 ⟨rfl, hb2⟩))
        go_wp2
        exact ⟨⟨m + 1, q, by omega, hq, by go_num, rfl, ⟨fun j hj hle => S1.out hcn.out j hj (by omega), hH.out.2⟩, bstep hbr.drew hb2.below⟩, by simp [intOf]; omega⟩
    · obtain rfl : p = q := by omega
      by_cases hpl : p < l.length
      · obtain ⟨b, o, rfl, hrow⟩ := (Hl.out.below (bstep (balloc _ _) hbr)).at p hpl
        obtain ⟨d0, d1, d2, d3, d4, d5, d6, d7, d8⟩ := hrow.at p hpl
        obtain ⟨e0, e1, e2, e3, e4, e5, e6, e7, e8, hz9⟩ := ninebox hbr
        have i0 : (0 : Int) ≤ (p : Int) := by omega
        have i1 : (p : Int) < (l.length : Int) := by omega
        have HC := fun W => CmpTr_any l[p] t W
        have fin : Hid (decide (t ∈ l) = (cmpTr l[p] t == 0)) := bin_found Hr.out t p hH.out.1 hH.out.2 hpl
        clear hrow hH
        unfold valTr at HC
        generalize cmpTr l[p] t = c at *
        generalize l[p] = y at *
        go_wp2_with fail
        go_region_held3 (fun W => W.cell? ⟨b, o + p * 9, none⟩ = some (.int .i64 y.1.1) ∧ W.cell? ⟨b, o + p * 9 + 1, none⟩ = some (.string ⟨y.1.2.1.toArray⟩) ∧ W.cell? ⟨b, o + p * 9 + 2, none⟩ = some (.string ⟨y.1.2.2.toArray⟩) ∧ W.cell? ⟨b, o + p * 9 + 3, none⟩ = some (.int .i64 y.2.1.1) ∧ W.cell? ⟨b, o + p * 9 + 4, none⟩ = some (.string ⟨y.2.1.2.1.toArray⟩) ∧ W.cell? ⟨b, o + p * 9 + 5, none⟩ = some (.string ⟨y.2.1.2.2.toArray⟩) ∧ W.cell? ⟨b, o + p * 9 + 6, none⟩ = some (.int .i64 y.2.2.1) ∧ W.cell? ⟨b, o + p * 9 + 7, none⟩ = some (.string ⟨y.2.2.2.1.toArray⟩) ∧ W.cell? ⟨b, o + p * 9 + 8, none⟩ = some (.string ⟨y.2.2.2.2.toArray⟩) ∧ W.cell? ⟨w.heap.size, 0, none⟩ = some (.int .i64 t.1.1) ∧ W.cell? ⟨w.heap.size, 1, none⟩ = some (.string ⟨t.1.2.1.toArray⟩) ∧ W.cell? ⟨w.heap.size, 2, none⟩ = some (.string ⟨t.1.2.2.toArray⟩) ∧ W.cell? ⟨w.heap.size, 3, none⟩ = some (.int .i64 t.2.1.1) ∧ W.cell? ⟨w.heap.size, 4, none⟩ = some (.string ⟨t.2.1.2.1.toArray⟩) ∧ W.cell? ⟨w.heap.size, 5, none⟩ = some (.string ⟨t.2.1.2.2.toArray⟩) ∧ W.cell? ⟨w.heap.size, 6, none⟩ = some (.int .i64 t.2.2.1) ∧ W.cell? ⟨w.heap.size, 7, none⟩ = some (.string ⟨t.2.2.2.1.toArray⟩) ∧ W.cell? ⟨w.heap.size, 8, none⟩ = some (.string ⟨t.2.2.2.2.toArray⟩)) (first | exact keep18 (by assumption) hb2 | go_keep) (first
          | (go_at_fn 47; refine (HC _).mono ?_; rintro e w2 ⟨rfl, hb2⟩))
        go_wp2
        refine bodyPost_ret (v := .tuple #[.int .i64 p, .bool (decide (t ∈ l))]) (by simp [results, Tryz.results181, go_sem, fin.out]) rfl ⟨_, rfl, bstep (balloc _ _) (bstep hbr.drew hb2.below)⟩
      · obtain rfl : p = l.length := by omega
        have fin : Hid (decide (t ∈ l) = false) := bin_none t hH.out.1
        clear hH
        go_wp2_with fail
        go_region
        go_wp2
        refine bodyPost_ret (v := .tuple #[.int .i64 l.length, .bool (decide (t ∈ l))]) (by simp [results, Tryz.results181, go_sem, fin.out]) rfl ⟨_, rfl, bstep (balloc _ _) hbr.drew⟩
end Go.Proofs.YtlmhlmeephnmkaaGreat

/- The program's patch: has, withNext: a set with the triple of a text behind all others. -/
namespace Go.Proofs.YtlmhlmeephnmkaaGreat
open Go Go.RowKit Go.Proofs
set_option synthInstance.maxSize 1000
attribute [local go_sem] eql_errV neq_errV guard_errV

theorem PHas_any (ad : Option Addr) (cap : Nat) (l : List Tr) (t : Tr) (w : World) (h : SlT w ad l) (hr : Rising l) (h200 : l.length ≤ 200) :
    Calls Tryz.prog 146 #[.slice ad l.length cap, valTr t] w fun e w' => e = .returned (.bool (decide (t ∈ l))) ∧ RowKit.Below w.heap.size w w' := by
  have H := fun W (hW : RowKit.Below w.heap.size w W) => Bin_any ad cap l t W (h.below hW) hr h200
  generalize decide (t ∈ l) = d at *
  clear h hr
  unfold valTr at *
  go_enter Tryz.func146, Tryz.ntmps146
  go_wp2_with fail
  refine (H _ (balloc _ _)).mono ?_
  rintro e w1 ⟨i, rfl, hb1⟩
  dsimp only
  go_wp2_with fail
  go_ret
  exact ⟨rfl, bstep (balloc _ _) hb1⟩

/-- what is wrong with a triple that comes behind a set, the other set beside it -/
def nextN (m o : List Tr) (x : Tr) : Int := if stuckB m x = true then 6 else if x ∈ o then 7 else if 200 ≤ m.length then 4 else 0
def saidN (m o : List Tr) (s : List UInt8) : Int := if tparseN s ≠ 0 then tparseN s else nextN m o (tparseT s)
/-- what is answered: an error, or the set with one triple more -/
def NextAns (B : Nat) (v : Value) (m o : List Tr) (s : List UInt8) (w : World) (e : Ending) (w' : World) : Prop :=
  (saidN m o s ≠ 0 ∧ e = .returned (.tuple #[.slice none 0 0, errV (saidN m o s)]) ∧ RowKit.Below w.heap.size w w') ∨
  (saidN m o s = 0 ∧ ∃ g cap, e = .returned (.tuple #[.slice (some ⟨g, 0, none⟩) (m.length + 1) cap, .nilIface]) ∧ w'.ownsRow B 58 9 (.slice (some ⟨g, 0, none⟩) (m.length + 1) cap) (m.length + 1) (cellsT (m ++ [tparseT s])) ∧ w.grownBy w' v.ownBlock ∧ (v.ownBlock = some g ∨ w.heap.size ≤ g))
theorem NextAns.bad {B : Nat} {v : Value} {m o : List Tr} {s : List UInt8} {w w' : World} {N : Int} (h : saidN m o s = N) (h0 : N ≠ 0) (hb : RowKit.Below w.heap.size w w') : NextAns B v m o s w (.returned (.tuple #[.slice none 0 0, errV N])) w' := by
  subst h
  exact .inl ⟨h0, rfl, hb⟩
theorem newTrN (W : World) (x : Tr) : ∀ (j : Nat) u, (encTr x)[j]? = some u → (W.alloc (.cells (encTr x).toArray 58)).cell? (Addr.add ⟨W.heap.size, 0, none⟩ j) = some u := fun j u hu => by
  have h9 : j < 9 := (List.getElem?_eq_some_iff.1 hu).1
  rw [Addr.add_lit]
  rcases (by omega : j = 0 ∨ j = 1 ∨ j = 2 ∨ j = 3 ∨ j = 4 ∨ j = 5 ∨ j = 6 ∨ j = 7 ∨ j = 8) with rfl | rfl | rfl | rfl | rfl | rfl | rfl | rfl | rfl
  all_goals
    simp [encTr] at hu
    subst hu
    unfold encTr
    go_simp

set_option maxHeartbeats 8000000 in
set_option maxRecDepth 100000 in
theorem PNext_bad (B : Nat) (v : Value) (ad : Option Addr) (ca : Nat) (m : List Tr) (od : Option Addr) (oc : Nat) (o : List Tr) (s : List UInt8) (w : World) (hs : s.length ≤ 140737488355328) (hN : tparseN s ≠ 0) :
    Calls Tryz.prog 102 #[.slice ad m.length ca, .slice od o.length oc, .string ⟨s.toArray⟩] w (NextAns B v m o s w) := by
  have HP := fun W => TParse_any s W hs
  have fin : Hid (saidN m o s = tparseN s) := by show _ = _; unfold saidN; rw [if_pos hN]
  have hN' : (tparseN s == 0) = false := by simpa using hN
  have HN : Hid (tparseN s ≠ 0) := hN
  clear hN
  unfold valTr at HP
  generalize tparseN s = N at *
  generalize tparseT s = x at *
  generalize hQ : NextAns B v m o s w = Q
  have HQ : Hid (NextAns B v m o s w = Q) := hQ
  clear hQ
  go_enter Tryz.func102, Tryz.ntmps102
  go_wp2_with fail
  refine (HP _).mono ?_
  rintro e w1 ⟨rfl, hb1⟩
  dsimp only
  go_wp2_with fail
  rw [← HQ.out]
  exact NextAns.bad fin.out HN.out (bstep hb1 (balloc _ _))

theorem or_rightN {a b c : Prop} (h : a ∨ b) (f : b → c) : a ∨ c := by
  rcases h with h | h
  · exact .inl h
  · exact .inr (f h)
theorem grown_belowN {w w' : World} (h : RowKit.Below w.heap.size w w') (row : Option Nat) : w.grownBy w' row := ⟨h.os, h.tape, h.output, h.size, fun i hi _ => h.block i hi⟩
theorem nineboxN {w W : World} {x : Tr} (hb : RowKit.Below (w.alloc (.cells (encTr x).toArray 58)).heap.size (w.alloc (.cells (encTr x).toArray 58)) W) :
    W.cell? ⟨w.heap.size, 0, none⟩ = some (.int .i64 x.1.1) ∧ W.cell? ⟨w.heap.size, 1, none⟩ = some (.string ⟨x.1.2.1.toArray⟩) ∧ W.cell? ⟨w.heap.size, 2, none⟩ = some (.string ⟨x.1.2.2.toArray⟩) ∧ W.cell? ⟨w.heap.size, 3, none⟩ = some (.int .i64 x.2.1.1) ∧ W.cell? ⟨w.heap.size, 4, none⟩ = some (.string ⟨x.2.1.2.1.toArray⟩) ∧ W.cell? ⟨w.heap.size, 5, none⟩ = some (.string ⟨x.2.1.2.2.toArray⟩) ∧ W.cell? ⟨w.heap.size, 6, none⟩ = some (.int .i64 x.2.2.1) ∧ W.cell? ⟨w.heap.size, 7, none⟩ = some (.string ⟨x.2.2.2.1.toArray⟩) ∧ W.cell? ⟨w.heap.size, 8, none⟩ = some (.string ⟨x.2.2.2.2.toArray⟩) := by
  obtain ⟨a0, a1, a2, a3, a4, a5, a6, a7, a8, _⟩ := ninebox hb
  exact ⟨a0, a1, a2, a3, a4, a5, a6, a7, a8⟩

set_option maxHeartbeats 16000000 in
set_option maxRecDepth 100000 in
theorem PNext_good (B : Nat) (ad : Option Addr) (ca : Nat) (m : List Tr) (od : Option Addr) (oc : Nat) (o : List Tr) (s : List UInt8) (w : World) (hown : w.ownsRow B 58 9 (.slice ad m.length ca) m.length (cellsT m)) (ho : SlT w od o) (hro : Rising o) (ho2 : o.length ≤ 200) (hm2 : m.length ≤ 200) (hs : s.length ≤ 140737488355328) (hB : B ≤ w.heap.size) (hN : tparseN s = 0) :
    Calls Tryz.prog 102 #[.slice ad m.length ca, .slice od o.length oc, .string ⟨s.toArray⟩] w (NextAns B (.slice ad m.length ca) m o s w) := by
  have HP := fun W => TParse_any s W hs
  have fin : Hid (saidN m o s = nextN m o (tparseT s)) := by show _ = _; unfold saidN; rw [if_neg (by simpa using hN)]
  have HH := fun W (hW : RowKit.Below w.heap.size w W) => PHas_any od oc o (tparseT s) W (ho.below hW) hro ho2
  rw [hN, show errV 0 = .nilIface from rfl] at HP
  have Hown : Hid (w.ownsRow B 58 9 (.slice ad m.length ca) m.length (cellsT m)) := hown
  have Hadd : Hid (∀ g cap w', w'.ownsRow B 58 9 (.slice (some ⟨g, 0, none⟩) (m.length + 1) cap) (m.length + 1) (cellsT (m ++ [tparseT s])) → w.grownBy w' (Value.slice ad m.length ca).ownBlock → ((Value.slice ad m.length ca).ownBlock = some g ∨ w.heap.size ≤ g) → nextN m o (tparseT s) = 0 → NextAns B (.slice ad m.length ca) m o s w (.returned (.tuple #[.slice (some ⟨g, 0, none⟩) (m.length + 1) cap, .nilIface])) w') := fun g cap w' h1 h2 h3 h4 => .inr ⟨fin.out.trans h4, g, cap, rfl, h1, h2, h3⟩
  have Hbad : Hid (∀ N w', nextN m o (tparseT s) = N → N ≠ 0 → RowKit.Below w.heap.size w w' → NextAns B (.slice ad m.length ca) m o s w (.returned (.tuple #[.slice none 0 0, errV N])) w') := fun N w' h1 h2 h3 => NextAns.bad (fin.out.trans h1) h2 h3
  have Hso : Hid (SlT w od o) := ho
  have HC := fun y W => CmpTr_any y (tparseT s) W
  clear fin ho hro hN
  generalize NextAns B (.slice ad m.length ca) m o s w = Q at *
  unfold valTr at HP HH HC
  generalize tparseT s = x at *
  obtain ⟨i0, hi, hz⟩ := Option.map_eq_some_iff.1 infoTr
  simp only [Prod.mk.injEq] at hz
  obtain ⟨hz0, hz1, hz2⟩ := hz
  by_cases hm : m = []
  · subst hm
    have hst : stuckB [] x = false := rfl
    clear hown HC
    go_enter Tryz.func102, Tryz.ntmps102
    go_wp2_with fail
    refine (HP _).mono ?_
    rintro e w1 ⟨rfl, hb1⟩
    dsimp only
    go_wp2_with fail
    go_region
    go_wp2_with fail
    have hB2 : RowKit.Below w.heap.size w (w1.alloc (.cells (encTr x).toArray 58)).drew := (bstep hb1 (balloc _ _)).drew
    have hbox : ∀ W, RowKit.Below (w1.alloc (.cells (encTr x).toArray 58)).drew.heap.size (w1.alloc (.cells (encTr x).toArray 58)).drew W → _ := fun W h => nineboxN (bdrewB h)
    refine (HH _ hB2).mono ?_
    rintro e w4 ⟨rfl, hb4⟩
    have hB4 : RowKit.Below w.heap.size w w4 := bstep hB2 hb4
    obtain ⟨a0, a1, a2, a3, a4, a5, a6, a7, a8⟩ := hbox w4 hb4
    by_cases hx : x ∈ o
    · have hd : decide (x ∈ o) = true := by simpa using hx
      rw [hd]
      dsimp only
      go_wp2_with fail
      exact Hbad.out 7 _ (by unfold nextN; rw [if_neg (by rw [hst]; decide), if_pos hx]) (by decide) hB4
    · have hd : decide (x ∈ o) = false := by simpa using hx
      rw [hd]
      dsimp only
      have Hrow : Hid (w4.ownsRow B 58 9 (.slice ad 0 ca) 0 (cellsT [])) := ownsRow_below Hown.out hB4
      have hz4 := hB4.size
      have hfin := Hadd.out
      have hnx : Hid (nextN [] o x = 0) := by
        show _ = _
        unfold nextN
        rw [if_neg (by rw [hst]; decide), if_neg hx, if_neg (by simp)]
      go_wp2_with (at_builtin; refine wpList_append_lies _ rfl _ _ 33 rfl B 58 i0 (.agg (encTr zeroTr).toArray) 9 120 Tryz.underlying33 hi hz0 hz1 hz2 rfl (by decide) (.slice ad 0 ca) 0 (cellsT []) rfl (Hrow.out.alloc _) ⟨w4.heap.size, 0, none⟩ 1 1 (encTr x) rfl rfl (newTrN w4 x) (encTr_one x) (by decide) (by unfold maxLen; omega) (by omega) (by simp; omega) _ rfl ?_; intro g cap w9 hown9 hg9 hat9 hlt9)
      exact hfin g cap w9 (by simpa [cellsT] using hown9) ((grown_belowN hB4 _).trans ((World.grownBy_alloc w4 _ _).trans hg9)) (or_rightN hat9 fun e => by simp at e; omega) hnx.out

  · obtain ⟨k, hk⟩ : ∃ k, m.length = k + 1 := ⟨m.length - 1, by have := List.length_pos_iff.2 hm; omega⟩
    have hkl : k < m.length := by omega
    obtain ⟨ad1, ca1, e1, hsl⟩ := own_slT hown
    have e2 := (Value.slice.inj e1).1
    rw [← e2] at hsl
    clear e2
    obtain ⟨b, off, rfl, hrow⟩ := hsl.at k hkl
    have hst : stuckB m x = decide (0 ≤ cmpTr m[k] x) := by
      rw [show stuckB m x = (match m.getLast? with | some y => decide (0 ≤ cmpTr y x) | none => false) from rfl, List.getLast?_eq_getElem?, show m.length - 1 = k by omega, List.getElem?_eq_getElem hkl]
    have Hcell := fun W (hW : RowKit.Below w.heap.size w W) => (hrow.below hW).at k hkl
    have HC := HC m[k]
    generalize m[k] = y at *
    generalize cmpTr y x = c at *
    have i0' : (0 : Int) ≤ (k : Int) := by omega
    have i1 : (k : Int) < (k : Int) + 1 := by omega
    have hk200 : k + 1 ≤ 200 := by omega
    have wk1 : IntKind.i64.wrap ((k : Int) + 1 - 1) = (k : Int) := by simp [IntKind.wrap, IntKind.bits, IntKind.signed]; omega
    have wk2 : IntKind.i64.wrap (k : Int) = (k : Int) := by simp [IntKind.wrap, IntKind.bits, IntKind.signed]; omega
    have i3 : (k : Int) < ((k + 1 : Nat) : Int) := by omega
    have i4 : k < k + 1 := by omega
    have Hk : Hid (m.length = k + 1) := hk
    rw [hk] at Hown Hadd ⊢
    have Hst : Hid (stuckB m x = decide (0 ≤ c)) := hst
    clear hown e1 hsl hrow hk hm hst hm2 hkl
    by_cases hc : 0 ≤ c
    · have hd : decide (0 ≤ c) = true := by simpa using hc
      have hq : Hid (nextN m o x = 6) := by show _ = _; unfold nextN; rw [Hst.out, hd, if_pos rfl]
      go_enter Tryz.func102, Tryz.ntmps102
      go_wp2_with fail
      refine (HP _).mono ?_
      rintro e w1 ⟨rfl, hb1⟩
      dsimp only
      obtain ⟨d0, d1, d2, d3, d4, d5, d6, d7, d8⟩ := Hcell _ hb1
      go_wp2_with fail
      go_region_held3 (fun W => W.cell? ⟨b, off + k * 9, none⟩ = some (.int .i64 y.1.1) ∧ W.cell? ⟨b, off + k * 9 + 1, none⟩ = some (.string ⟨y.1.2.1.toArray⟩) ∧ W.cell? ⟨b, off + k * 9 + 2, none⟩ = some (.string ⟨y.1.2.2.toArray⟩) ∧ W.cell? ⟨b, off + k * 9 + 3, none⟩ = some (.int .i64 y.2.1.1) ∧ W.cell? ⟨b, off + k * 9 + 4, none⟩ = some (.string ⟨y.2.1.2.1.toArray⟩) ∧ W.cell? ⟨b, off + k * 9 + 5, none⟩ = some (.string ⟨y.2.1.2.2.toArray⟩) ∧ W.cell? ⟨b, off + k * 9 + 6, none⟩ = some (.int .i64 y.2.2.1) ∧ W.cell? ⟨b, off + k * 9 + 7, none⟩ = some (.string ⟨y.2.2.2.1.toArray⟩) ∧ W.cell? ⟨b, off + k * 9 + 8, none⟩ = some (.string ⟨y.2.2.2.2.toArray⟩) ∧ W.cell? ⟨w1.heap.size, 0, none⟩ = some (.int .i64 x.1.1) ∧ W.cell? ⟨w1.heap.size, 1, none⟩ = some (.string ⟨x.1.2.1.toArray⟩) ∧ W.cell? ⟨w1.heap.size, 2, none⟩ = some (.string ⟨x.1.2.2.toArray⟩) ∧ W.cell? ⟨w1.heap.size, 3, none⟩ = some (.int .i64 x.2.1.1) ∧ W.cell? ⟨w1.heap.size, 4, none⟩ = some (.string ⟨x.2.1.2.1.toArray⟩) ∧ W.cell? ⟨w1.heap.size, 5, none⟩ = some (.string ⟨x.2.1.2.2.toArray⟩) ∧ W.cell? ⟨w1.heap.size, 6, none⟩ = some (.int .i64 x.2.2.1) ∧ W.cell? ⟨w1.heap.size, 7, none⟩ = some (.string ⟨x.2.2.2.1.toArray⟩) ∧ W.cell? ⟨w1.heap.size, 8, none⟩ = some (.string ⟨x.2.2.2.2.toArray⟩)) (first | exact keep18 (by assumption) hb2 | go_keep) (first
        | (go_simp; go_at_call 47; refine (HC _).mono ?_; rintro e w2 ⟨rfl, hb2⟩; dsimp only))
      go_wp2_with fail
      exact Hbad.out 6 _ hq.out (by decide) (bstep (bstep hb1 (balloc _ _)).drew hb2.below)
    · have hd : decide (0 ≤ c) = false := by simpa using hc
      have hst : stuckB m x = false := Hst.out.trans hd
      clear Hst
      go_enter Tryz.func102, Tryz.ntmps102
      go_wp2_with fail
      refine (HP _).mono ?_
      rintro e w1 ⟨rfl, hb1⟩
      dsimp only
      obtain ⟨d0, d1, d2, d3, d4, d5, d6, d7, d8⟩ := Hcell _ hb1
      go_wp2_with fail
      go_region_held3 (fun W => W.cell? ⟨b, off + k * 9, none⟩ = some (.int .i64 y.1.1) ∧ W.cell? ⟨b, off + k * 9 + 1, none⟩ = some (.string ⟨y.1.2.1.toArray⟩) ∧ W.cell? ⟨b, off + k * 9 + 2, none⟩ = some (.string ⟨y.1.2.2.toArray⟩) ∧ W.cell? ⟨b, off + k * 9 + 3, none⟩ = some (.int .i64 y.2.1.1) ∧ W.cell? ⟨b, off + k * 9 + 4, none⟩ = some (.string ⟨y.2.1.2.1.toArray⟩) ∧ W.cell? ⟨b, off + k * 9 + 5, none⟩ = some (.string ⟨y.2.1.2.2.toArray⟩) ∧ W.cell? ⟨b, off + k * 9 + 6, none⟩ = some (.int .i64 y.2.2.1) ∧ W.cell? ⟨b, off + k * 9 + 7, none⟩ = some (.string ⟨y.2.2.2.1.toArray⟩) ∧ W.cell? ⟨b, off + k * 9 + 8, none⟩ = some (.string ⟨y.2.2.2.2.toArray⟩) ∧ W.cell? ⟨w1.heap.size, 0, none⟩ = some (.int .i64 x.1.1) ∧ W.cell? ⟨w1.heap.size, 1, none⟩ = some (.string ⟨x.1.2.1.toArray⟩) ∧ W.cell? ⟨w1.heap.size, 2, none⟩ = some (.string ⟨x.1.2.2.toArray⟩) ∧ W.cell? ⟨w1.heap.size, 3, none⟩ = some (.int .i64 x.2.1.1) ∧ W.cell? ⟨w1.heap.size, 4, none⟩ = some (.string ⟨x.2.1.2.1.toArray⟩) ∧ W.cell? ⟨w1.heap.size, 5, none⟩ = some (.string ⟨x.2.1.2.2.toArray⟩) ∧ W.cell? ⟨w1.heap.size, 6, none⟩ = some (.int .i64 x.2.2.1) ∧ W.cell? ⟨w1.heap.size, 7, none⟩ = some (.string ⟨x.2.2.2.1.toArray⟩) ∧ W.cell? ⟨w1.heap.size, 8, none⟩ = some (.string ⟨x.2.2.2.2.toArray⟩)) (first | exact keep18 (by assumption) hb2 | go_keep) (first
        | (go_simp; go_at_call 47; refine (HC _).mono ?_; rintro e w2 ⟨rfl, hb2⟩; dsimp only))
      have hW : RowKit.Below (w1.alloc (.cells (encTr x).toArray 58)).heap.size (w1.alloc (.cells (encTr x).toArray 58)) w2 := bdrewB hb2.below
      have hB2 : RowKit.Below w.heap.size w w2 := bstep (bstep hb1 (balloc _ _)) hW
      have hbox : ∀ W, RowKit.Below w2.heap.size w2 W → _ := fun W h => nineboxN (bstep hW h)
      obtain ⟨z0, z1, z2, z3, z4, z5, z6, z7, z8⟩ := hbox w2 (RowKit.Below.refl _ _)
      clear hb2 d0 d1 d2 d3 d4 d5 d6 d7 d8
      go_wp2_with fail
      refine (HH _ hB2).mono ?_
      rintro e w4 ⟨rfl, hb4⟩
      have hB4 : RowKit.Below w.heap.size w w4 := bstep hB2 hb4
      obtain ⟨a0, a1, a2, a3, a4, a5, a6, a7, a8⟩ := hbox w4 hb4
      by_cases hx : x ∈ o
      · have hd : decide (x ∈ o) = true := by simpa using hx
        rw [hd]
        dsimp only
        go_wp2_with fail
        exact Hbad.out 7 _ (by unfold nextN; rw [if_neg (by rw [hst]; decide), if_pos hx]) (by decide) hB4
      · have hd : decide (x ∈ o) = false := by simpa using hx
        rw [hd]
        dsimp only
        by_cases hf : k = 199
        · have hf' : ((k : Int) + 1 == 200) = true := by simp; omega
          have Hf : Hid (200 ≤ m.length) := by show 200 ≤ m.length; rw [Hk.out]; omega
          clear hf
          go_wp2_with fail
          exact Hbad.out 4 _ (by unfold nextN; rw [if_neg (by rw [hst]; decide), if_neg hx, if_pos Hf.out]) (by decide) hB4
        · have hf' : ((k : Int) + 1 == 200) = false := by simp; omega
          have Hrow : Hid (w4.ownsRow B 58 9 (.slice (some ⟨b, off, none⟩) (k + 1) ca) (k + 1) (cellsT m)) := ownsRow_below Hown.out hB4
          have hz4 := hB4.size
          have hfin := Hadd.out
          have hnx : Hid (nextN m o x = 0) := by
            show _ = _
            unfold nextN
            rw [if_neg (by rw [hst]; decide), if_neg hx, if_neg (by rw [Hk.out]; omega)]
          go_wp2_with (at_builtin; refine wpList_append_lies _ rfl _ _ 33 rfl B 58 i0 (.agg (encTr zeroTr).toArray) 9 120 Tryz.underlying33 hi hz0 hz1 hz2 rfl (by decide) (.slice (some ⟨b, off, none⟩) (k + 1) ca) (k + 1) (cellsT m) rfl (Hrow.out.alloc _) ⟨w4.heap.size, 0, none⟩ 1 1 (encTr x) rfl rfl (newTrN w4 x) (encTr_one x) (by decide) (by unfold maxLen; omega) (by omega) (by simp; omega) _ rfl ?_; intro g cap w9 hown9 hg9 hat9 hlt9)
          exact hfin g cap w9 (by simpa [cellsT] using hown9) ((grown_belowN hB4 _).trans ((World.grownBy_alloc w4 _ _).trans hg9)) (or_rightN hat9 fun e => by simp at e; omega) hnx.out

theorem PNext_any (B : Nat) (ad : Option Addr) (ca : Nat) (m : List Tr) (od : Option Addr) (oc : Nat) (o : List Tr) (s : List UInt8) (w : World) (hown : w.ownsRow B 58 9 (.slice ad m.length ca) m.length (cellsT m)) (ho : SlT w od o) (hro : Rising o) (ho2 : o.length ≤ 200) (hm2 : m.length ≤ 200) (hs : s.length ≤ 140737488355328) (hB : B ≤ w.heap.size) :
    Calls Tryz.prog 102 #[.slice ad m.length ca, .slice od o.length oc, .string ⟨s.toArray⟩] w (NextAns B (.slice ad m.length ca) m o s w) := by
  by_cases hN : tparseN s = 0
  · exact PNext_good B ad ca m od oc o s w hown ho hro ho2 hm2 hs hB hN
  · exact PNext_bad B _ ad ca m od oc o s w hs hN
end Go.Proofs.YtlmhlmeephnmkaaGreat

/- A range over a function whose iterator keeps what is left in a box of its own (strings.Lines does): the loop's law, over whatever program. -/
namespace Go.Proofs.YtlmhlmeephnmkaaGreat
open Go Go.RowKit Go.Proofs

/-- new blocks and whatever is written into block Bs leave it -/
def BoxFree {β : Type} (Bs : Nat) (J : β → World → Prop) : Prop := ∀ s A B row, J s A → A.grownBy B row → (∀ r, row = some r → r = Bs) → J s B
/-- and what is turned from block D on and is no row of cells -/
def Steady {β : Type} (D Bs : Nat) (J : β → World → Prop) : Prop := ∀ s A B row, J s A → A.grownBy B row → (∀ r, row = some r → r = Bs ∨ (D ≤ r ∧ ∃ o : Obj, A.heap[r]? = some o ∧ o.isCells = false)) → J s B
theorem Steady.put {β : Type} {D Bs l : Nat} {J : β → World → Prop} (h : Steady D Bs J) {s : β} {W : World} {o : Obj} (hs : J s W) (hl : W.heap[l]? = some o) (hD : D ≤ l) (ho : o.isCells = false) (o' : Obj) : J s (W.putObj l o') :=
  h s W _ (some l) hs (grownBy_putObj' W l o') fun r e => .inr (by cases e; exact ⟨hD, o, hl, ho⟩)
theorem Steady.new {β : Type} {D Bs : Nat} {J : β → World → Prop} (h : Steady D Bs J) {s : β} {W : World} (hs : J s W) (o : Obj) : J s (W.alloc o) :=
  h s W _ none hs (World.grownBy_alloc W o none) fun r e => by cases e
/-- an iterator's word: it tells members of S in order; what is left lies in block Bs, which the rounds leave alone -/
def SeqBox {α : Type} (F : Fence) (n : Nat) (P : Program) (g : Nat) (lb : Array Value) (enc : α → Array Value) (Bs : Nat) (S T : List α → Prop) (w : World) : Prop :=
  ∀ (l : Nat) (J K : List α → World → Prop) (W : World), W.heap[Bs]? = w.heap[Bs]? → BoxFree Bs J → BoxFree Bs K →
    (∀ pre x V, J pre V → YieldAt F (n - 1) P l (enc x) V fun e V' => (e = .returned (.bool true) ∧ J (pre ++ [x]) V' ∧ V'.heap[Bs]? = V.heap[Bs]?) ∨ (e = .returned (.bool false) ∧ K (pre ++ [x]) V')) →
    J [] W → CallsIn F n P g (#[.func (.yield l) #[] #[]] ++ lb) W fun e W' => (∃ v, e = .returned v) ∧ ((∃ xs, S xs ∧ J xs W') ∨ (∃ xs, T xs ∧ K xs W'))
/-- the loop's record, and the block of what its rounds put off -/
structure Marks (D : Nat) (r : Loop) (W : World) : Prop where
  loop : W.heap[D + 1]? = some (.loop r)
  late : W.heap[D]? = some (.deferred (some []))
theorem Marks.free {D Bs : Nat} {r : Loop} {A B : World} {row : Option Nat} (h : Marks D r A) (hBs : Bs < D) (hg : A.grownBy B row) (hr : ∀ x, row = some x → x = Bs) : Marks D r B := by
  have hne : ∀ k, D ≤ k → some k ≠ row := fun k hk e => by have := hr k e.symm; omega
  exact ⟨(hg.block _ (Array.getElem?_eq_some_iff.1 h.loop).1 (hne _ (by omega))).trans h.loop, (hg.block _ (Array.getElem?_eq_some_iff.1 h.late).1 (hne _ (Nat.le_refl _))).trans h.late⟩
theorem Marks.keep {D : Nat} {r : Loop} {A B : World} (h : Marks D r A) (hk : KeepsFrom D A B) : Marks D r B := ⟨hk.same _ _ (by omega) h.loop rfl, hk.same _ _ (Nat.le_refl _) h.late rfl⟩
theorem Marks.turn {D : Nat} {r : Loop} {W : World} (h : Marks D r W) (r' : Loop) : Marks D r' (W.putObj (D + 1) (.loop r')) :=
  ⟨World.putObj_heap_same (Array.getElem?_eq_some_iff.1 h.loop).1, (World.putObj_heap_other (by omega)).trans h.late⟩
/-- how a round's body may be left: off its end, or by return -/
def boxPost {α : Type} (D Bs : Nat) (I X : List α → World → Prop) (xs : List α) (W : World) : Exit → Act → World → Prop
  | .normal, _, W' => KeepsFrom D W W' ∧ W'.heap[Bs]? = W.heap[Bs]? ∧ I xs W'
  | .ret, _, W' => KeepsFrom D W W' ∧ X xs W'
  | _, _, _ => False

variable {F : Fence} {n : Nat} {P : Program}

/-- one round, as the iterator meets it -/
theorem round_box {α : Type} {fn : FuncId} (hfn : F.fn fn) {D Bs : Nat} (hBs : Bs < D) {ps : Array Tmp} {assign body : Code} {tmps : Array Value} {enc : α → Array Value} (hps : ∀ x, (enc x).size = ps.size)
    {I X : List α → World → Prop} (hI : Steady D Bs I) (hX : Steady D Bs X) {at1 : α → Act}
    (hassign : ∀ (x : α) (W : World) (K : Act → World → Prop), K (at1 x) W → assign.wpIn (F.inRound (D + 1)) n P (Exit.then K (fun _ _ _ => False)) { tmps := (ps.zip (enc x)).foldl (fun t (p, v) => t.setIfInBounds p v) tmps, defers := [] } W)
    (hbody : ∀ (pre : List α) (x : α) (W : World), I pre W → body.wpIn (F.inRound (D + 1)) n P (boxPost D Bs I X (pre ++ [x]) W) (at1 x) W)
    {st : LoopState → Option Code → Loop} (hst : st = fun s p => { state := s, pending := p, fn, tmps, params := ps, assign, body, defers := D })
    (pre : List α) (x : α) (V : World) (hi : I pre V) (hm : Marks D (st .ready none) V) :
    YieldAt F n P (D + 1) (enc x) V fun e V' => (e = .returned (.bool true) ∧ (I (pre ++ [x]) V' ∧ Marks D (st .ready none) V') ∧ V'.heap[Bs]? = V.heap[Bs]?) ∨ (e = .returned (.bool false) ∧ X (pre ++ [x]) V' ∧ Marks D (st .done (some .ret)) V') := by
  have hy := run_yield (P := P) (args := enc x) hm.loop (by rw [hst]; exact hps x)
  have hfin : ∀ (j : Option Code) (V2 : World), Marks D { st .ready none with state := .busy } V2 → (Instr.endRound (D + 1) j).run P V2 = .ok (.bool j.isNone) (V2.putObj (D + 1) (.loop (st (if j.isNone then .ready else .done) j))) := fun j V2 h2 => by
    have := run_endRound (P := P) j h2.loop
    rw [hst] at this ⊢
    exact this
  have hbeg := run_beginRound (P := P) hm.loop (by rw [hst])
  have hm1 := hm.turn { st .ready none with state := .busy }
  have hi1 : I pre (V.putObj (D + 1) (.loop { st .ready none with state := .busy })) := hI.put hi hm.loop (by omega) rfl _
  have hs1 : (V.putObj (D + 1) (.loop { st .ready none with state := .busy })).heap[Bs]? = V.heap[Bs]? := World.putObj_heap_other (by omega)
  generalize V.putObj (D + 1) (.loop { st .ready none with state := .busy }) = V1 at hbeg hm1 hi1 hs1
  refine ⟨_, _, _, _, hy, roundIn_of_wpIn (by rw [hst]; exact hfn) ?_⟩
  rw [hst]
  refine hassign x V _ ⟨V1, hbeg, wpIn_mono (hbody pre x V1 hi1) ?_⟩
  rintro e a V2 hp
  cases e with
  | normal =>
    obtain ⟨hk, hb, hi2⟩ := hp
    have hm2 := hm1.keep hk
    exact ⟨_, _, hfin none V2 hm2, .inl ⟨rfl, ⟨hI.put hi2 hm2.loop (by omega) rfl _, by rw [hst]; exact hm2.turn _⟩, ((World.putObj_heap_other (by omega)).trans hb).trans hs1⟩⟩
  | ret =>
    obtain ⟨hk, hi2⟩ := hp
    have hm2 := hm1.keep hk
    exact ⟨_, _, hfin (some .ret) V2 hm2, .inr ⟨rfl, hX.put hi2 hm2.loop (by omega) rfl _, by rw [hst]; exact hm2.turn _⟩⟩
  | exit id => exact hp.elim
  | goto t => exact hp.elim
  | panic c => exact hp.elim
  | outgrown => exact hp.elim

/-- the loop -/
theorem range_box {α : Type} {g : Operand} {ps : Array Tmp} {assign body : Code} {Q : Exit → Act → World → Prop} {a : Act} {w : World} (hro : F.round = none) (h1 : 1 ≤ n)
    {gf : Nat} {lb : Array Value} (hg : a.eval g = .func (.func gf) #[] lb) (hFg : F.fn gf) (eg : ∀ args w, (callFunc gf args).run P w = .ok (.enter gf args) w)
    {enc : α → Array Value} {Bs : Nat} (hBs : Bs < w.heap.size) {S T : List α → Prop} (hseq : SeqBox F (n - 1) P gf lb enc Bs S T w) (hps : ∀ x, (enc x).size = ps.size)
    (I X : List α → World → Prop) (hI : Steady w.heap.size Bs I) (hX : Steady w.heap.size Bs X) (h0 : I [] w) (at1 : α → Act)
    (hassign : ∀ (l : Nat) (x : α) (W : World) (K : Act → World → Prop), K (at1 x) W → assign.wpIn (F.inRound l) (n - 1 - 1) P (Exit.then K (fun _ _ _ => False)) { tmps := (ps.zip (enc x)).foldl (fun t (p, v) => t.setIfInBounds p v) a.tmps, defers := [] } W)
    (hbody : ∀ (l : Nat) (pre : List α) (x : α) (W : World), I pre W → body.wpIn (F.inRound l) (n - 1 - 1) P (boxPost w.heap.size Bs I X (pre ++ [x]) W) (at1 x) W)
    (hdone : ∀ (xs : List α) (W : World), S xs → I xs W → W.heap[w.heap.size]? = some (.deferred (some [])) → Q .normal { a with defers := { target := .collected w.heap.size, args := #[] } :: a.defers } W)
    (hstop : ∀ (xs : List α) (W : World), T xs → X xs W → W.heap[w.heap.size]? = some (.deferred (some [])) → Code.ret.wpIn F n P Q { a with defers := { target := .collected w.heap.size, args := #[] } :: a.defers } W) :
    (Code.rangeFunc g ps assign body).wpIn F n P Q a w := by
  refine wpIn_rangeFunc fun fn hfn => ?_
  rw [hro]
  obtain ⟨st, hst⟩ : ∃ st : LoopState → Option Code → Loop, st = fun s p => { state := s, pending := p, fn, tmps := a.tmps, params := ps, assign, body, defers := w.heap.size } := ⟨_, rfl⟩
  have hent : (Instr.enterLoop fn a.tmps ps assign body none).run P w = .ok (w.heap.size + 1, [{ target := .collected w.heap.size, args := #[] }]) ((w.alloc (.deferred (some []))).alloc (.loop (st .ready none))) := by
    rw [hst]; exact run_enterLoop_outer _ _ _ _ _
  have hm1 : Marks w.heap.size (st .ready none) ((w.alloc (.deferred (some []))).alloc (.loop (st .ready none))) := by
    refine ⟨?_, (Below.heap_alloc _ _ _ (by simp)).trans (World.alloc_heap_new w _)⟩
    have := World.alloc_heap_new (w.alloc (.deferred (some []))) (.loop (st .ready none))
    rwa [World.size_alloc] at this
  have hi1 : I [] ((w.alloc (.deferred (some []))).alloc (.loop (st .ready none))) := hI.new (hI.new h0 _) _
  have hb1 : ((w.alloc (.deferred (some []))).alloc (.loop (st .ready none))).heap[Bs]? = w.heap[Bs]? := (Below.heap_alloc _ _ _ (by simp; omega)).trans (Below.heap_alloc _ _ _ hBs)
  generalize (w.alloc (.deferred (some []))).alloc (.loop (st .ready none)) = W1 at hent hm1 hi1 hb1
  refine ⟨_, _, W1, { target := .fn (.func gf) lb, args := #[.func (.yield (w.heap.size + 1)) #[] #[]] }, W1, gf, #[.func (.yield (w.heap.size + 1)) #[] #[]] ++ lb, W1, hent, by simp only [resolve, hg]; simp [go_sem], fun f' hf' => by simp [Target.leads] at hf'; subst hf'; exact hFg, by simp [invoke, go_sem, eg], fun _ => h1, ?_⟩
  refine (hseq (w.heap.size + 1) (fun xs W => I xs W ∧ Marks w.heap.size (st .ready none) W) (fun xs W => X xs W ∧ Marks w.heap.size (st .done (some .ret)) W) W1 hb1
    (fun s A B row hs hgr hr => ⟨hI s A B row hs.1 hgr fun r e => .inl (hr r e), hs.2.free hBs hgr hr⟩) (fun s A B row hs hgr hr => ⟨hX s A B row hs.1 hgr fun r e => .inl (hr r e), hs.2.free hBs hgr hr⟩)
    (fun pre x V hv => round_box hfn hBs hps hI hX (hassign _) (hbody _) hst pre x V hv.1 hv.2) ⟨hi1, hm1⟩).mono ?_
  rintro e W2 ⟨⟨v, rfl⟩, (⟨xs, hS, hi, hm⟩ | ⟨xs, hT, hx, hm⟩)⟩
  · exact ⟨none, _, by have := run_endLoop (P := P) hm.loop (by rw [hst]; simp); rw [hst] at this; exact this, hdone xs _ hS (hI.put hi hm.loop (by omega) rfl _) ((World.putObj_heap_other (by omega)).trans hm.late)⟩
  · exact ⟨some .ret, _, by have := run_endLoop (P := P) hm.loop (by rw [hst]; simp); rw [hst] at this; exact this, hstop xs _ hT (hX.put hx hm.loop (by omega) rfl _) ((World.putObj_heap_other (by omega)).trans hm.late)⟩
end Go.Proofs.YtlmhlmeephnmkaaGreat
