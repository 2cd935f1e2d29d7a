/- The document's answer (package strataref1): ReadTriple. -/
import Derived.Test.YtnlcfnpcjkcdmafGreatDoorMCPatchTellsx1

namespace Go.Proofs.YtnlcfnpcjkcdmafGreatDoor
open Go Go.RowKit Go.Proofs
set_option synthInstance.maxSize 1000

/-! ### what three words come to -/
theorem index_none (m : List UInt8) (h : ∀ c ∈ m, c ≠ 32) : Lib.indexByte m 32 = -1 := by
  induction m with
  | nil => rfl
  | cons c q ih =>
    have hc : (c == 32) = false := by simpa using h c (by simp)
    rw [Lib.indexByte, hc, ih (fun x hx => h x (by simp [hx]))]
    rfl
theorem any_cut (c : List UInt8) (h : anyN c = 0) : cutW c = none := by
  rcases any_cases c with hh | ⟨_, hr, hsp, _⟩
  · omega
  · clear h
    generalize anyT c = p at hr hsp
    obtain ⟨k, S, L⟩ := p
    obtain ⟨hs, hk⟩ := show_read c k S L hr
    simp only at hsp
    have key : Lib.indexByte (c.drop (qEnd c)) 32 = -1 := by
      rcases hk with rfl | rfl | rfl
      · have hs' : c = S := hs.symm
        subst hs'
        simp only [spellB, if_true, Bool.and_eq_true] at hsp
        cases c with
        | nil => simp [nameOk] at hsp
        | cons a q =>
          simp only [nameOk, Bool.and_eq_true] at hsp
          have h34 : a ≠ 34 := fun e => by
            have := hsp.2.1
            subst e
            simp [letB] at this
          rw [show qEnd (a :: q) = 0 by simp [qEnd, h34], List.drop_zero]
          refine index_none _ fun x hx e => ?_
          have := allB_mem hsp.2.2 x hx
          subst e
          simp [nameB, letB, digB] at this
      · have hs' : c = 95 :: S := hs.symm
        subst hs'
        have hsp' : anonOk S = true := by simp [spellB] at hsp; exact hsp.2
        rw [show qEnd (95 :: S) = 0 by simp [qEnd], List.drop_zero]
        refine index_none _ fun x hx e => ?_
        rcases List.mem_cons.1 hx with e' | hx'
        · rw [e] at e'; simp at e'
        · cases S with
          | nil => simp at hx'
          | cons a q =>
            have := allB_mem (show allB anonB (a :: q) = true from hsp') x hx'
            subst e
            simp [anonB, letB, digB] at this
      · have hs' : c = 34 :: (escL S ++ 34 :: markL L) := by
          rw [← hs]
          show quoteL S ++ markL L = _
          simp [quoteL]
        subst hs'
        have hsp' : (L.isEmpty || langOk L) = true := by simp [spellB] at hsp; simp; exact hsp.1
        rw [show qEnd (34 :: (escL S ++ 34 :: markL L)) = (escL S).length + 1 + 1 by
          show (if (34 : UInt8) = 34 then 1 + qScan (escL S ++ 34 :: markL L) else 0) = _
          rw [if_pos rfl, qScan_esc]; omega]
        rw [List.drop_succ_cons, show (escL S).length + 1 = (escL S ++ [34]).length by simp, show escL S ++ 34 :: markL L = (escL S ++ [34]) ++ markL L by simp, List.drop_left]
        refine index_none _ fun x hx e => ?_
        cases L with
        | nil => simp [markL] at hx
        | cons a q =>
          have hl : langOk (a :: q) = true := by simpa using hsp'
          simp only [langOk, Bool.and_eq_true] at hl
          rcases List.mem_cons.1 (show x ∈ 64 :: a :: q from hx) with e' | hx'
          · rw [e] at e'; simp at e'
          · have := allB_mem hl.2 x hx'
            subst e
            simp [letB] at this
    unfold cutW
    rw [key, if_pos (by decide)]

/-- the number that is told of three words: of their faults, and whether they may not stand so -/
def rtN (e f g : Int) (sh : Bool) : Int := if e = 2 ∨ f = 2 ∨ g = 2 then 2 else if e = 4 ∨ f = 4 ∨ g = 4 then (if sh = true then 2 else 4) else if sh = true then 3 else 0
theorem parse_any (l : List UInt8) : (anyN l = 2 ∧ parseN l = 2) ∨ (anyN l = 0 ∧ parseN l = (if longB (anyT l).2.1 = true then 4 else 0) ∧ readRT l = (if longB (anyT l).2.1 = true then ((anyT l).1, [], []) else anyT l) ∧ checkN (anyT l).1 (anyT l).2.1 (anyT l).2.2 = if longB (anyT l).2.1 = true then 4 else 0) := by
  cases hr : readL l with
  | none => left; simp [anyN, parseN, hr]
  | some p =>
    cases hsp : spellB p.1 p.2.1 p.2.2
    · left; simp [anyN, parseN, hr, hsp]
    · right
      have e : anyT l = p := by simp [anyT, hr, hsp]
      obtain ⟨_, hk⟩ := show_read l p.1 p.2.1 p.2.2 hr
      have hkb : kindB p.1 = true := by simp [kindB]; exact hk
      rw [e]
      refine ⟨by simp [anyN, hr, hsp], by simp [parseN, hr, hsp], by simp [readRT, hr, hsp], ?_⟩
      cases hlo : longB p.2.1 <;> simp [checkN, hkb, hlo, hsp]
theorem read_kind (l : List UInt8) (h : anyN l = 0) : (readRT l).1 = (anyT l).1 := by
  rcases parse_any l with h' | ⟨_, _, h3, _⟩
  · omega
  · rw [h3]; split <;> rfl
/-- three words, by the document and by triple.Parse -/
theorem three_eq (a b c : List UInt8) : rtN (parseN a) (parseN b) (parseN c) (shapeB (readRT a).1 (readRT b).1) = (if ptN (anyN a) (anyN b) (anyN c) = 0 then textN (tripleOf a b c) else ptN (anyN a) (anyN b) (anyN c))
    ∧ (rtN (parseN a) (parseN b) (parseN c) (shapeB (readRT a).1 (readRT b).1) = 0 → (readRT a, readRT b, readRT c) = tripleOf a b c) := by
  rcases parse_any a with ⟨a1, a2⟩ | ⟨a1, a2, a3, a4⟩
  · unfold rtN ptN
    rw [a1, a2]
    simp
  rcases parse_any b with ⟨b1, b2⟩ | ⟨b1, b2, b3, b4⟩
  · unfold rtN ptN
    rw [a1, b1, b2]
    simp
  rcases parse_any c with ⟨c1, c2⟩ | ⟨c1, c2, c3, c4⟩
  · unfold rtN ptN
    rw [a1, b1, c1, c2]
    simp
  have k1 := read_kind a a1
  have k2 := read_kind b b1
  rw [k1, k2]
  unfold ptN textN chkTr check3 tripleOf tmOf
  simp only
  rw [a1, b1, c1, a4, b4, c4, a2, b2, c2, a3, b3, c3]
  cases longB (anyT a).2.1 <;> cases longB (anyT b).2.1 <;> cases longB (anyT c).2.1 <;> cases shapeB (anyT a).1 (anyT b).1 <;> simp [rtN]

theorem words_three {l : List UInt8} : (∃ a b c, cutL l = some (a, b, c) ∧ wordsL l = [a, b, c]) ∨ ((wordsL l).length ≠ 3 ∧ tparseN l = 2) := by
  cases h1 : cutW l with
  | none =>
    right
    refine ⟨by rw [words_none h1]; simp, ?_⟩
    simp [tparseN, cutL, h1]
  | some p =>
    obtain ⟨a, r⟩ := p
    rw [words_some h1]
    cases h2 : cutW r with
    | none =>
      right
      refine ⟨by rw [words_none h2]; simp, ?_⟩
      simp [tparseN, cutL, h1, h2]
    | some q =>
      obtain ⟨b, c⟩ := q
      rw [words_some h2]
      have hc : cutL l = some (a, b, c) := by simp [cutL, h1, h2]
      cases h3 : cutW c with
      | none => left; exact ⟨a, b, c, hc, by rw [words_none h3]⟩
      | some s =>
        right
        refine ⟨?_, ?_⟩
        · rw [words_some (a := s.1) (r := s.2) h3]
          have : (wordsL s.2).length ≠ 0 := by
            intro h
            rw [words_eq] at h
            split at h <;> simp at h
          rw [List.length_cons, List.length_cons, List.length_cons]
          omega
        · have hcn : anyN c = 2 := by
            rcases any_cases c with hh | hh
            · exact hh.1
            · rw [any_cut c hh.1] at h3; simp at h3
          have hpt : ptN (anyN a) (anyN b) (anyN c) = 2 := by
            unfold ptN
            rw [hcn]
            rcases any_cases a with ha | ha <;> rcases any_cases b with hb | hb <;> simp [ha.1, hb.1]
          simp [tparseN, hc, hpt]

/-! ### the walk -/
set_option maxHeartbeats 8000000 in
set_option maxRecDepth 100000 in
theorem RReadT_any (l : List UInt8) (w : World) (hl : l.length ≤ 100000000) :
    Calls Tryz.prog 68 #[.string ⟨l.toArray⟩] w fun e w' => e = .returned (.tuple #[valTr (tparseT l), .int .i64 (tparseN l)]) ∧ RowKit.Below w.heap.size w w' := by
  have HW := fun W => RWords_any l W hl
  have finZ : Hid (valTr zeroTr = .agg #[.int .i64 0, .string ⟨#[]⟩, .string ⟨#[]⟩, .int .i64 0, .string ⟨#[]⟩, .string ⟨#[]⟩, .int .i64 0, .string ⟨#[]⟩, .string ⟨#[]⟩]) := rfl
  rcases @words_three l with ⟨a, b, c, hcut, hw3⟩ | ⟨hne, h2⟩
  · have hlen := cutL_eq hcut
    have hla : a.length ≤ 140737488355328 := by rw [hlen] at hl; simp at hl; omega
    have hlb : b.length ≤ 140737488355328 := by rw [hlen] at hl; simp at hl; omega
    have hlc : c.length ≤ 140737488355328 := by rw [hlen] at hl; simp at hl; omega
    have R1 := fun W => RRead_any a W hla
    have R2 := fun W => RRead_any b W hlb
    have R3 := fun W => RRead_any c W hlc
    have HS := fun W => RShape_any (readRT a, readRT b, readRT c) W
    obtain ⟨heq1, heq2⟩ := three_eq a b c
    have hN : tparseN l = rtN (parseN a) (parseN b) (parseN c) (shapeB (readRT a).1 (readRT b).1) := by simp [tparseN, hcut, heq1]
    have hT : tparseT l = if rtN (parseN a) (parseN b) (parseN c) (shapeB (readRT a).1 (readRT b).1) = 0 then (readRT a, readRT b, readRT c) else zeroTr := by
      unfold tparseT
      rw [hN, hcut]
      by_cases h0 : rtN (parseN a) (parseN b) (parseN c) (shapeB (readRT a).1 (readRT b).1) = 0
      · rw [if_pos h0, if_pos h0, heq2 h0]
      · rw [if_neg h0, if_neg h0]
    rw [hT, hN]
    rw [hw3] at HW
    clear hT hN heq1 heq2 hlen hla hlb hlc hl hcut hw3
    simp only [termV] at R1 R2 R3
    unfold valTr at HS
    simp only at HS
    generalize readRT a = ta at *
    generalize readRT b = tb at *
    generalize readRT c = tc at *
    generalize parseN a = e at *
    generalize parseN b = f at *
    generalize parseN c = g at *
    have finN : Hid (∀ sh, rtN e f g sh = if e = 2 ∨ f = 2 ∨ g = 2 then 2 else if e = 4 ∨ f = 4 ∨ g = 4 then (if sh = true then 2 else 4) else if sh = true then 3 else 0) := fun _ => rfl
    generalize hsh : shapeB ta.1 tb.1 = sh at *
    generalize hNN : rtN e f g sh = N
    have finNN : Hid (N = if e = 2 ∨ f = 2 ∨ g = 2 then 2 else if e = 4 ∨ f = 4 ∨ g = 4 then (if sh = true then 2 else 4) else if sh = true then 3 else 0) := by rw [← hNN]; exact finN.out sh
    generalize hTT : (if N = 0 then (ta, tb, tc) else zeroTr) = TT
    have finT : Hid (TT = if N = 0 then (ta, tb, tc) else zeroTr) := hTT.symm
    clear hsh hNN hTT finN
    go_enter Tryz.func68, Tryz.ntmps68
    go_wp2_with fail
    refine (HW _).mono ?_
    rintro e1 w1 ⟨ad, cc, rfl, hsl, hb1⟩
    obtain ⟨bw, rfl, hsw⟩ := hsl (by simp)
    have s0 : w1.cell? ⟨bw, 0, none⟩ = some (.string ⟨a.toArray⟩) := hsw 0 (by simp)
    have s1 : w1.cell? ⟨bw, 1, none⟩ = some (.string ⟨b.toArray⟩) := hsw 1 (by simp)
    have s2 : w1.cell? ⟨bw, 2, none⟩ = some (.string ⟨c.toArray⟩) := hsw 2 (by simp)
    have hbw : bw < w1.heap.size := World.block_lt_of_cell? w1 _ s0
    clear hsl hsw HW
    go_wp2_with fail
    refine (R1 _).mono ?_
    rintro e1 w2 ⟨rfl, hb2⟩
    have t1 := (hb2.cell hbw).trans s1
    have t2 := (hb2.cell hbw).trans s2
    have hbw2 : bw < w2.heap.size := World.block_lt_of_cell? w2 _ t1
    go_wp2_with fail
    refine (R2 _).mono ?_
    rintro e1 w3 ⟨rfl, hb3⟩
    have u2 := (hb3.cell (show bw < (w2.alloc _).heap.size by simp; omega)).trans (((balloc w2 _).cell hbw2).trans t2)
    have hbw3 : bw < w3.heap.size := World.block_lt_of_cell? w3 _ u2
    go_wp2_with fail
    refine (R3 _).mono ?_
    rintro e1 w4 ⟨rfl, hb4⟩
    have hBa := bstep (bstep hb3 (balloc _ _)) hb4
    have hB0 := bstep (bstep (bstep hb1 hb2) (balloc _ _)) hBa
    obtain ⟨ka, _⟩ := bcell hBa
    obtain ⟨kb, _⟩ := bcell hb4
    have a0 : w4.cell? ⟨w2.heap.size, 0, none⟩ = some (.int .i64 ta.1) := (ka _ 0 (by simp)).trans (by go_simp)
    have a1 : w4.cell? ⟨w2.heap.size, 1, none⟩ = some (.string ⟨ta.2.1.toArray⟩) := (ka _ 1 (by simp)).trans (by go_simp)
    have a2 : w4.cell? ⟨w2.heap.size, 2, none⟩ = some (.string ⟨ta.2.2.toArray⟩) := (ka _ 2 (by simp)).trans (by go_simp)
    have b0 : w4.cell? ⟨w3.heap.size, 0, none⟩ = some (.int .i64 tb.1) := (kb _ 0 (by simp)).trans (by go_simp)
    have b1 : w4.cell? ⟨w3.heap.size, 1, none⟩ = some (.string ⟨tb.2.1.toArray⟩) := (kb _ 1 (by simp)).trans (by go_simp)
    have b2 : w4.cell? ⟨w3.heap.size, 2, none⟩ = some (.string ⟨tb.2.2.toArray⟩) := (kb _ 2 (by simp)).trans (by go_simp)
    have ha4 : w2.heap.size < w4.heap.size := World.block_lt_of_cell? w4 _ a0
    have hb4' : w3.heap.size < w4.heap.size := World.block_lt_of_cell? w4 _ b0
    clear ka kb s0 s1 s2 t1 t2 u2
    obtain ⟨kc, kf⟩ := bcell hB0
    have z0 : w4.cell? ⟨w.heap.size, 0, none⟩ = some (Value.int .i64 0) := (kc _ 0 (by simp)).trans (by go_simp)
    have y0 : w4.frozen? ⟨w.heap.size, 0, none⟩ = false := (kf _ 0 (by simp)).trans (by go_simp)
    have z1 : w4.cell? ⟨w.heap.size, 1, none⟩ = some (Value.string ⟨#[]⟩) := (kc _ 1 (by simp)).trans (by go_simp)
    have y1 : w4.frozen? ⟨w.heap.size, 1, none⟩ = false := (kf _ 1 (by simp)).trans (by go_simp)
    have z2 : w4.cell? ⟨w.heap.size, 2, none⟩ = some (Value.string ⟨#[]⟩) := (kc _ 2 (by simp)).trans (by go_simp)
    have y2 : w4.frozen? ⟨w.heap.size, 2, none⟩ = false := (kf _ 2 (by simp)).trans (by go_simp)
    have z3 : w4.cell? ⟨w.heap.size, 3, none⟩ = some (Value.int .i64 0) := (kc _ 3 (by simp)).trans (by go_simp)
    have y3 : w4.frozen? ⟨w.heap.size, 3, none⟩ = false := (kf _ 3 (by simp)).trans (by go_simp)
    have z4 : w4.cell? ⟨w.heap.size, 4, none⟩ = some (Value.string ⟨#[]⟩) := (kc _ 4 (by simp)).trans (by go_simp)
    have y4 : w4.frozen? ⟨w.heap.size, 4, none⟩ = false := (kf _ 4 (by simp)).trans (by go_simp)
    have z5 : w4.cell? ⟨w.heap.size, 5, none⟩ = some (Value.string ⟨#[]⟩) := (kc _ 5 (by simp)).trans (by go_simp)
    have y5 : w4.frozen? ⟨w.heap.size, 5, none⟩ = false := (kf _ 5 (by simp)).trans (by go_simp)
    have z6 : w4.cell? ⟨w.heap.size, 6, none⟩ = some (Value.int .i64 0) := (kc _ 6 (by simp)).trans (by go_simp)
    have y6 : w4.frozen? ⟨w.heap.size, 6, none⟩ = false := (kf _ 6 (by simp)).trans (by go_simp)
    have z7 : w4.cell? ⟨w.heap.size, 7, none⟩ = some (Value.string ⟨#[]⟩) := (kc _ 7 (by simp)).trans (by go_simp)
    have y7 : w4.frozen? ⟨w.heap.size, 7, none⟩ = false := (kf _ 7 (by simp)).trans (by go_simp)
    have z8 : w4.cell? ⟨w.heap.size, 8, none⟩ = some (Value.string ⟨#[]⟩) := (kc _ 8 (by simp)).trans (by go_simp)
    have y8 : w4.frozen? ⟨w.heap.size, 8, none⟩ = false := (kf _ 8 (by simp)).trans (by go_simp)
    have hz0 : w.heap.size < w4.heap.size := by have := hB0.size; simp at this; omega
    clear kc kf
    cases h1 : (e == 2)
    · cases h2 : (f == 2)
      · cases h3 : (g == 2)
        · cases e4 : (e == 4)
          · cases f4 : (f == 4)
            · cases g4 : (g == 4)
              · cases sh
                · skip
                  have hN2 : Hid (N = 0) := by rw [finNN.out, if_neg (by simp at h1 h2 h3; omega), if_neg (by simp at e4 f4 g4; omega)]; rfl
                  have hT2 : Hid (valTr TT = .agg #[.int .i64 ta.1, .string ⟨ta.2.1.toArray⟩, .string ⟨ta.2.2.toArray⟩, .int .i64 tb.1, .string ⟨tb.2.1.toArray⟩, .string ⟨tb.2.2.toArray⟩, .int .i64 tc.1, .string ⟨tc.2.1.toArray⟩, .string ⟨tc.2.2.toArray⟩]) := by rw [finT.out, hN2.out]; rfl
                  go_wp2_with fail
                  refine (HS _).mono ?_
                  rintro e1 w5 ⟨rfl, hb5⟩
                  have hB5 := bstep (bstep (bstep hB0 (balloc _ _)) (balloc _ _)) hb5
                  obtain ⟨kt, _⟩ := bcell hb5
                  have x0 : w5.cell? ⟨w4.heap.size + 1, 0, none⟩ = some (.int .i64 ta.1) := (kt _ 0 (by simp)).trans (by go_simp)
                  have x1 : w5.cell? ⟨w4.heap.size + 1, 1, none⟩ = some (.string ⟨ta.2.1.toArray⟩) := (kt _ 1 (by simp)).trans (by go_simp)
                  have x2 : w5.cell? ⟨w4.heap.size + 1, 2, none⟩ = some (.string ⟨ta.2.2.toArray⟩) := (kt _ 2 (by simp)).trans (by go_simp)
                  have x3 : w5.cell? ⟨w4.heap.size + 1, 3, none⟩ = some (.int .i64 tb.1) := (kt _ 3 (by simp)).trans (by go_simp)
                  have x4 : w5.cell? ⟨w4.heap.size + 1, 4, none⟩ = some (.string ⟨tb.2.1.toArray⟩) := (kt _ 4 (by simp)).trans (by go_simp)
                  have x5 : w5.cell? ⟨w4.heap.size + 1, 5, none⟩ = some (.string ⟨tb.2.2.toArray⟩) := (kt _ 5 (by simp)).trans (by go_simp)
                  have x6 : w5.cell? ⟨w4.heap.size + 1, 6, none⟩ = some (.int .i64 tc.1) := (kt _ 6 (by simp)).trans (by go_simp)
                  have x7 : w5.cell? ⟨w4.heap.size + 1, 7, none⟩ = some (.string ⟨tc.2.1.toArray⟩) := (kt _ 7 (by simp)).trans (by go_simp)
                  have x8 : w5.cell? ⟨w4.heap.size + 1, 8, none⟩ = some (.string ⟨tc.2.2.toArray⟩) := (kt _ 8 (by simp)).trans (by go_simp)
                  have hx5 : w4.heap.size + 1 < w5.heap.size := World.block_lt_of_cell? w5 _ x0
                  clear kt z0 z1 z2 z3 z4 z5 z6 z7 z8 y0 y1 y2 y3 y4 y5 y6 y7 y8 hz0
                  obtain ⟨kc, kf⟩ := bcell hB5
                  have z0 : w5.cell? ⟨w.heap.size, 0, none⟩ = some (Value.int .i64 0) := (kc _ 0 (by simp)).trans (by go_simp)
                  have y0 : w5.frozen? ⟨w.heap.size, 0, none⟩ = false := (kf _ 0 (by simp)).trans (by go_simp)
                  have z1 : w5.cell? ⟨w.heap.size, 1, none⟩ = some (Value.string ⟨#[]⟩) := (kc _ 1 (by simp)).trans (by go_simp)
                  have y1 : w5.frozen? ⟨w.heap.size, 1, none⟩ = false := (kf _ 1 (by simp)).trans (by go_simp)
                  have z2 : w5.cell? ⟨w.heap.size, 2, none⟩ = some (Value.string ⟨#[]⟩) := (kc _ 2 (by simp)).trans (by go_simp)
                  have y2 : w5.frozen? ⟨w.heap.size, 2, none⟩ = false := (kf _ 2 (by simp)).trans (by go_simp)
                  have z3 : w5.cell? ⟨w.heap.size, 3, none⟩ = some (Value.int .i64 0) := (kc _ 3 (by simp)).trans (by go_simp)
                  have y3 : w5.frozen? ⟨w.heap.size, 3, none⟩ = false := (kf _ 3 (by simp)).trans (by go_simp)
                  have z4 : w5.cell? ⟨w.heap.size, 4, none⟩ = some (Value.string ⟨#[]⟩) := (kc _ 4 (by simp)).trans (by go_simp)
                  have y4 : w5.frozen? ⟨w.heap.size, 4, none⟩ = false := (kf _ 4 (by simp)).trans (by go_simp)
                  have z5 : w5.cell? ⟨w.heap.size, 5, none⟩ = some (Value.string ⟨#[]⟩) := (kc _ 5 (by simp)).trans (by go_simp)
                  have y5 : w5.frozen? ⟨w.heap.size, 5, none⟩ = false := (kf _ 5 (by simp)).trans (by go_simp)
                  have z6 : w5.cell? ⟨w.heap.size, 6, none⟩ = some (Value.int .i64 0) := (kc _ 6 (by simp)).trans (by go_simp)
                  have y6 : w5.frozen? ⟨w.heap.size, 6, none⟩ = false := (kf _ 6 (by simp)).trans (by go_simp)
                  have z7 : w5.cell? ⟨w.heap.size, 7, none⟩ = some (Value.string ⟨#[]⟩) := (kc _ 7 (by simp)).trans (by go_simp)
                  have y7 : w5.frozen? ⟨w.heap.size, 7, none⟩ = false := (kf _ 7 (by simp)).trans (by go_simp)
                  have z8 : w5.cell? ⟨w.heap.size, 8, none⟩ = some (Value.string ⟨#[]⟩) := (kc _ 8 (by simp)).trans (by go_simp)
                  have y8 : w5.frozen? ⟨w.heap.size, 8, none⟩ = false := (kf _ 8 (by simp)).trans (by go_simp)
                  have hz0 : w.heap.size < w5.heap.size := by have := hB5.size; simp at this; omega
                  clear kc kf
                  go_wp2_with fail
                  refine bodyPost_ret (v := .tuple #[.agg #[.int .i64 ta.1, .string ⟨ta.2.1.toArray⟩, .string ⟨ta.2.2.toArray⟩, .int .i64 tb.1, .string ⟨tb.2.1.toArray⟩, .string ⟨tb.2.2.toArray⟩, .int .i64 tc.1, .string ⟨tc.2.1.toArray⟩, .string ⟨tc.2.2.toArray⟩], .int .i64 0]) (by unfold results; rw [Tryz.results68]; go_simp) rfl ⟨ret_two hT2.out.symm (by rw [hN2.out]), ?_⟩
                  exact ((((((((((bstep (balloc _ _) hB5).setCell (p := ⟨w.heap.size, 0, none⟩) (Nat.le_refl _) _).setCell (p := ⟨w.heap.size, 1, none⟩) (Nat.le_refl _) _).setCell (p := ⟨w.heap.size, 2, none⟩) (Nat.le_refl _) _).setCell (p := ⟨w.heap.size, 3, none⟩) (Nat.le_refl _) _).setCell (p := ⟨w.heap.size, 4, none⟩) (Nat.le_refl _) _).setCell (p := ⟨w.heap.size, 5, none⟩) (Nat.le_refl _) _).setCell (p := ⟨w.heap.size, 6, none⟩) (Nat.le_refl _) _).setCell (p := ⟨w.heap.size, 7, none⟩) (Nat.le_refl _) _).setCell (p := ⟨w.heap.size, 8, none⟩) (Nat.le_refl _) _)
                · skip
                  have hN2 : Hid (N = 3) := by rw [finNN.out, if_neg (by simp at h1 h2 h3; omega), if_neg (by simp at e4 f4 g4; omega)]; rfl
                  have hT2 : Hid (TT = zeroTr) := by rw [finT.out, hN2.out]; rfl
                  go_wp2_with fail
                  refine (HS _).mono ?_
                  rintro e1 w5 ⟨rfl, hb5⟩
                  have hB5 := bstep (bstep (bstep hB0 (balloc _ _)) (balloc _ _)) hb5
                  clear z0 z1 z2 z3 z4 z5 z6 z7 z8 y0 y1 y2 y3 y4 y5 y6 y7 y8 hz0
                  obtain ⟨kc, kf⟩ := bcell hB5
                  have z0 : w5.cell? ⟨w.heap.size, 0, none⟩ = some (Value.int .i64 0) := (kc _ 0 (by simp)).trans (by go_simp)
                  have y0 : w5.frozen? ⟨w.heap.size, 0, none⟩ = false := (kf _ 0 (by simp)).trans (by go_simp)
                  have z1 : w5.cell? ⟨w.heap.size, 1, none⟩ = some (Value.string ⟨#[]⟩) := (kc _ 1 (by simp)).trans (by go_simp)
                  have y1 : w5.frozen? ⟨w.heap.size, 1, none⟩ = false := (kf _ 1 (by simp)).trans (by go_simp)
                  have z2 : w5.cell? ⟨w.heap.size, 2, none⟩ = some (Value.string ⟨#[]⟩) := (kc _ 2 (by simp)).trans (by go_simp)
                  have y2 : w5.frozen? ⟨w.heap.size, 2, none⟩ = false := (kf _ 2 (by simp)).trans (by go_simp)
                  have z3 : w5.cell? ⟨w.heap.size, 3, none⟩ = some (Value.int .i64 0) := (kc _ 3 (by simp)).trans (by go_simp)
                  have y3 : w5.frozen? ⟨w.heap.size, 3, none⟩ = false := (kf _ 3 (by simp)).trans (by go_simp)
                  have z4 : w5.cell? ⟨w.heap.size, 4, none⟩ = some (Value.string ⟨#[]⟩) := (kc _ 4 (by simp)).trans (by go_simp)
                  have y4 : w5.frozen? ⟨w.heap.size, 4, none⟩ = false := (kf _ 4 (by simp)).trans (by go_simp)
                  have z5 : w5.cell? ⟨w.heap.size, 5, none⟩ = some (Value.string ⟨#[]⟩) := (kc _ 5 (by simp)).trans (by go_simp)
                  have y5 : w5.frozen? ⟨w.heap.size, 5, none⟩ = false := (kf _ 5 (by simp)).trans (by go_simp)
                  have z6 : w5.cell? ⟨w.heap.size, 6, none⟩ = some (Value.int .i64 0) := (kc _ 6 (by simp)).trans (by go_simp)
                  have y6 : w5.frozen? ⟨w.heap.size, 6, none⟩ = false := (kf _ 6 (by simp)).trans (by go_simp)
                  have z7 : w5.cell? ⟨w.heap.size, 7, none⟩ = some (Value.string ⟨#[]⟩) := (kc _ 7 (by simp)).trans (by go_simp)
                  have y7 : w5.frozen? ⟨w.heap.size, 7, none⟩ = false := (kf _ 7 (by simp)).trans (by go_simp)
                  have z8 : w5.cell? ⟨w.heap.size, 8, none⟩ = some (Value.string ⟨#[]⟩) := (kc _ 8 (by simp)).trans (by go_simp)
                  have y8 : w5.frozen? ⟨w.heap.size, 8, none⟩ = false := (kf _ 8 (by simp)).trans (by go_simp)
                  have hz0 : w.heap.size < w5.heap.size := by have := hB5.size; simp at this; omega
                  clear kc kf
                  go_wp2_with fail
                  refine bodyPost_ret (v := .tuple #[.agg #[.int .i64 0, .string ⟨#[]⟩, .string ⟨#[]⟩, .int .i64 0, .string ⟨#[]⟩, .string ⟨#[]⟩, .int .i64 0, .string ⟨#[]⟩, .string ⟨#[]⟩], .int .i64 3]) (by unfold results; rw [Tryz.results68]; go_simp) rfl ⟨ret_two (by rw [hT2.out, finZ.out]) (by rw [hN2.out]), ?_⟩
                  exact ((((((((((bstep (balloc _ _) hB5).setCell (p := ⟨w.heap.size, 0, none⟩) (Nat.le_refl _) _).setCell (p := ⟨w.heap.size, 1, none⟩) (Nat.le_refl _) _).setCell (p := ⟨w.heap.size, 2, none⟩) (Nat.le_refl _) _).setCell (p := ⟨w.heap.size, 3, none⟩) (Nat.le_refl _) _).setCell (p := ⟨w.heap.size, 4, none⟩) (Nat.le_refl _) _).setCell (p := ⟨w.heap.size, 5, none⟩) (Nat.le_refl _) _).setCell (p := ⟨w.heap.size, 6, none⟩) (Nat.le_refl _) _).setCell (p := ⟨w.heap.size, 7, none⟩) (Nat.le_refl _) _).setCell (p := ⟨w.heap.size, 8, none⟩) (Nat.le_refl _) _)
              · cases sh
                · skip
                  have hN2 : Hid (N = 4) := by rw [finNN.out, if_neg (by simp at h1 h2 h3; omega), if_pos (by simp at g4; omega)]; rfl
                  have hT2 : Hid (TT = zeroTr) := by rw [finT.out, hN2.out]; rfl
                  go_wp2_with fail
                  refine (HS _).mono ?_
                  rintro e1 w5 ⟨rfl, hb5⟩
                  have hB5 := bstep (bstep (bstep hB0 (balloc _ _)) (balloc _ _)) hb5
                  clear z0 z1 z2 z3 z4 z5 z6 z7 z8 y0 y1 y2 y3 y4 y5 y6 y7 y8 hz0
                  obtain ⟨kc, kf⟩ := bcell hB5
                  have z0 : w5.cell? ⟨w.heap.size, 0, none⟩ = some (Value.int .i64 0) := (kc _ 0 (by simp)).trans (by go_simp)
                  have y0 : w5.frozen? ⟨w.heap.size, 0, none⟩ = false := (kf _ 0 (by simp)).trans (by go_simp)
                  have z1 : w5.cell? ⟨w.heap.size, 1, none⟩ = some (Value.string ⟨#[]⟩) := (kc _ 1 (by simp)).trans (by go_simp)
                  have y1 : w5.frozen? ⟨w.heap.size, 1, none⟩ = false := (kf _ 1 (by simp)).trans (by go_simp)
                  have z2 : w5.cell? ⟨w.heap.size, 2, none⟩ = some (Value.string ⟨#[]⟩) := (kc _ 2 (by simp)).trans (by go_simp)
                  have y2 : w5.frozen? ⟨w.heap.size, 2, none⟩ = false := (kf _ 2 (by simp)).trans (by go_simp)
                  have z3 : w5.cell? ⟨w.heap.size, 3, none⟩ = some (Value.int .i64 0) := (kc _ 3 (by simp)).trans (by go_simp)
                  have y3 : w5.frozen? ⟨w.heap.size, 3, none⟩ = false := (kf _ 3 (by simp)).trans (by go_simp)
                  have z4 : w5.cell? ⟨w.heap.size, 4, none⟩ = some (Value.string ⟨#[]⟩) := (kc _ 4 (by simp)).trans (by go_simp)
                  have y4 : w5.frozen? ⟨w.heap.size, 4, none⟩ = false := (kf _ 4 (by simp)).trans (by go_simp)
                  have z5 : w5.cell? ⟨w.heap.size, 5, none⟩ = some (Value.string ⟨#[]⟩) := (kc _ 5 (by simp)).trans (by go_simp)
                  have y5 : w5.frozen? ⟨w.heap.size, 5, none⟩ = false := (kf _ 5 (by simp)).trans (by go_simp)
                  have z6 : w5.cell? ⟨w.heap.size, 6, none⟩ = some (Value.int .i64 0) := (kc _ 6 (by simp)).trans (by go_simp)
                  have y6 : w5.frozen? ⟨w.heap.size, 6, none⟩ = false := (kf _ 6 (by simp)).trans (by go_simp)
                  have z7 : w5.cell? ⟨w.heap.size, 7, none⟩ = some (Value.string ⟨#[]⟩) := (kc _ 7 (by simp)).trans (by go_simp)
                  have y7 : w5.frozen? ⟨w.heap.size, 7, none⟩ = false := (kf _ 7 (by simp)).trans (by go_simp)
                  have z8 : w5.cell? ⟨w.heap.size, 8, none⟩ = some (Value.string ⟨#[]⟩) := (kc _ 8 (by simp)).trans (by go_simp)
                  have y8 : w5.frozen? ⟨w.heap.size, 8, none⟩ = false := (kf _ 8 (by simp)).trans (by go_simp)
                  have hz0 : w.heap.size < w5.heap.size := by have := hB5.size; simp at this; omega
                  clear kc kf
                  go_wp2_with fail
                  refine bodyPost_ret (v := .tuple #[.agg #[.int .i64 0, .string ⟨#[]⟩, .string ⟨#[]⟩, .int .i64 0, .string ⟨#[]⟩, .string ⟨#[]⟩, .int .i64 0, .string ⟨#[]⟩, .string ⟨#[]⟩], .int .i64 4]) (by unfold results; rw [Tryz.results68]; go_simp) rfl ⟨ret_two (by rw [hT2.out, finZ.out]) (by rw [hN2.out]), ?_⟩
                  exact ((((((((((bstep (balloc _ _) hB5).setCell (p := ⟨w.heap.size, 0, none⟩) (Nat.le_refl _) _).setCell (p := ⟨w.heap.size, 1, none⟩) (Nat.le_refl _) _).setCell (p := ⟨w.heap.size, 2, none⟩) (Nat.le_refl _) _).setCell (p := ⟨w.heap.size, 3, none⟩) (Nat.le_refl _) _).setCell (p := ⟨w.heap.size, 4, none⟩) (Nat.le_refl _) _).setCell (p := ⟨w.heap.size, 5, none⟩) (Nat.le_refl _) _).setCell (p := ⟨w.heap.size, 6, none⟩) (Nat.le_refl _) _).setCell (p := ⟨w.heap.size, 7, none⟩) (Nat.le_refl _) _).setCell (p := ⟨w.heap.size, 8, none⟩) (Nat.le_refl _) _)
                · skip
                  have hN2 : Hid (N = 2) := by rw [finNN.out, if_neg (by simp at h1 h2 h3; omega), if_pos (by simp at g4; omega)]; rfl
                  have hT2 : Hid (TT = zeroTr) := by rw [finT.out, hN2.out]; rfl
                  go_wp2_with fail
                  refine (HS _).mono ?_
                  rintro e1 w5 ⟨rfl, hb5⟩
                  have hB5 := bstep (bstep (bstep hB0 (balloc _ _)) (balloc _ _)) hb5
                  clear z0 z1 z2 z3 z4 z5 z6 z7 z8 y0 y1 y2 y3 y4 y5 y6 y7 y8 hz0
                  obtain ⟨kc, kf⟩ := bcell hB5
                  have z0 : w5.cell? ⟨w.heap.size, 0, none⟩ = some (Value.int .i64 0) := (kc _ 0 (by simp)).trans (by go_simp)
                  have y0 : w5.frozen? ⟨w.heap.size, 0, none⟩ = false := (kf _ 0 (by simp)).trans (by go_simp)
                  have z1 : w5.cell? ⟨w.heap.size, 1, none⟩ = some (Value.string ⟨#[]⟩) := (kc _ 1 (by simp)).trans (by go_simp)
                  have y1 : w5.frozen? ⟨w.heap.size, 1, none⟩ = false := (kf _ 1 (by simp)).trans (by go_simp)
                  have z2 : w5.cell? ⟨w.heap.size, 2, none⟩ = some (Value.string ⟨#[]⟩) := (kc _ 2 (by simp)).trans (by go_simp)
                  have y2 : w5.frozen? ⟨w.heap.size, 2, none⟩ = false := (kf _ 2 (by simp)).trans (by go_simp)
                  have z3 : w5.cell? ⟨w.heap.size, 3, none⟩ = some (Value.int .i64 0) := (kc _ 3 (by simp)).trans (by go_simp)
                  have y3 : w5.frozen? ⟨w.heap.size, 3, none⟩ = false := (kf _ 3 (by simp)).trans (by go_simp)
                  have z4 : w5.cell? ⟨w.heap.size, 4, none⟩ = some (Value.string ⟨#[]⟩) := (kc _ 4 (by simp)).trans (by go_simp)
                  have y4 : w5.frozen? ⟨w.heap.size, 4, none⟩ = false := (kf _ 4 (by simp)).trans (by go_simp)
                  have z5 : w5.cell? ⟨w.heap.size, 5, none⟩ = some (Value.string ⟨#[]⟩) := (kc _ 5 (by simp)).trans (by go_simp)
                  have y5 : w5.frozen? ⟨w.heap.size, 5, none⟩ = false := (kf _ 5 (by simp)).trans (by go_simp)
                  have z6 : w5.cell? ⟨w.heap.size, 6, none⟩ = some (Value.int .i64 0) := (kc _ 6 (by simp)).trans (by go_simp)
                  have y6 : w5.frozen? ⟨w.heap.size, 6, none⟩ = false := (kf _ 6 (by simp)).trans (by go_simp)
                  have z7 : w5.cell? ⟨w.heap.size, 7, none⟩ = some (Value.string ⟨#[]⟩) := (kc _ 7 (by simp)).trans (by go_simp)
                  have y7 : w5.frozen? ⟨w.heap.size, 7, none⟩ = false := (kf _ 7 (by simp)).trans (by go_simp)
                  have z8 : w5.cell? ⟨w.heap.size, 8, none⟩ = some (Value.string ⟨#[]⟩) := (kc _ 8 (by simp)).trans (by go_simp)
                  have y8 : w5.frozen? ⟨w.heap.size, 8, none⟩ = false := (kf _ 8 (by simp)).trans (by go_simp)
                  have hz0 : w.heap.size < w5.heap.size := by have := hB5.size; simp at this; omega
                  clear kc kf
                  go_wp2_with fail
                  refine bodyPost_ret (v := .tuple #[.agg #[.int .i64 0, .string ⟨#[]⟩, .string ⟨#[]⟩, .int .i64 0, .string ⟨#[]⟩, .string ⟨#[]⟩, .int .i64 0, .string ⟨#[]⟩, .string ⟨#[]⟩], .int .i64 2]) (by unfold results; rw [Tryz.results68]; go_simp) rfl ⟨ret_two (by rw [hT2.out, finZ.out]) (by rw [hN2.out]), ?_⟩
                  exact ((((((((((bstep (balloc _ _) hB5).setCell (p := ⟨w.heap.size, 0, none⟩) (Nat.le_refl _) _).setCell (p := ⟨w.heap.size, 1, none⟩) (Nat.le_refl _) _).setCell (p := ⟨w.heap.size, 2, none⟩) (Nat.le_refl _) _).setCell (p := ⟨w.heap.size, 3, none⟩) (Nat.le_refl _) _).setCell (p := ⟨w.heap.size, 4, none⟩) (Nat.le_refl _) _).setCell (p := ⟨w.heap.size, 5, none⟩) (Nat.le_refl _) _).setCell (p := ⟨w.heap.size, 6, none⟩) (Nat.le_refl _) _).setCell (p := ⟨w.heap.size, 7, none⟩) (Nat.le_refl _) _).setCell (p := ⟨w.heap.size, 8, none⟩) (Nat.le_refl _) _)
            · cases sh
              · skip
                have hN2 : Hid (N = 4) := by rw [finNN.out, if_neg (by simp at h1 h2 h3; omega), if_pos (by simp at f4; omega)]; rfl
                have hT2 : Hid (TT = zeroTr) := by rw [finT.out, hN2.out]; rfl
                go_wp2_with fail
                refine (HS _).mono ?_
                rintro e1 w5 ⟨rfl, hb5⟩
                have hB5 := bstep (bstep (bstep hB0 (balloc _ _)) (balloc _ _)) hb5
                clear z0 z1 z2 z3 z4 z5 z6 z7 z8 y0 y1 y2 y3 y4 y5 y6 y7 y8 hz0
                obtain ⟨kc, kf⟩ := bcell hB5
                have z0 : w5.cell? ⟨w.heap.size, 0, none⟩ = some (Value.int .i64 0) := (kc _ 0 (by simp)).trans (by go_simp)
                have y0 : w5.frozen? ⟨w.heap.size, 0, none⟩ = false := (kf _ 0 (by simp)).trans (by go_simp)
                have z1 : w5.cell? ⟨w.heap.size, 1, none⟩ = some (Value.string ⟨#[]⟩) := (kc _ 1 (by simp)).trans (by go_simp)
                have y1 : w5.frozen? ⟨w.heap.size, 1, none⟩ = false := (kf _ 1 (by simp)).trans (by go_simp)
                have z2 : w5.cell? ⟨w.heap.size, 2, none⟩ = some (Value.string ⟨#[]⟩) := (kc _ 2 (by simp)).trans (by go_simp)
                have y2 : w5.frozen? ⟨w.heap.size, 2, none⟩ = false := (kf _ 2 (by simp)).trans (by go_simp)
                have z3 : w5.cell? ⟨w.heap.size, 3, none⟩ = some (Value.int .i64 0) := (kc _ 3 (by simp)).trans (by go_simp)
                have y3 : w5.frozen? ⟨w.heap.size, 3, none⟩ = false := (kf _ 3 (by simp)).trans (by go_simp)
                have z4 : w5.cell? ⟨w.heap.size, 4, none⟩ = some (Value.string ⟨#[]⟩) := (kc _ 4 (by simp)).trans (by go_simp)
                have y4 : w5.frozen? ⟨w.heap.size, 4, none⟩ = false := (kf _ 4 (by simp)).trans (by go_simp)
                have z5 : w5.cell? ⟨w.heap.size, 5, none⟩ = some (Value.string ⟨#[]⟩) := (kc _ 5 (by simp)).trans (by go_simp)
                have y5 : w5.frozen? ⟨w.heap.size, 5, none⟩ = false := (kf _ 5 (by simp)).trans (by go_simp)
                have z6 : w5.cell? ⟨w.heap.size, 6, none⟩ = some (Value.int .i64 0) := (kc _ 6 (by simp)).trans (by go_simp)
                have y6 : w5.frozen? ⟨w.heap.size, 6, none⟩ = false := (kf _ 6 (by simp)).trans (by go_simp)
                have z7 : w5.cell? ⟨w.heap.size, 7, none⟩ = some (Value.string ⟨#[]⟩) := (kc _ 7 (by simp)).trans (by go_simp)
                have y7 : w5.frozen? ⟨w.heap.size, 7, none⟩ = false := (kf _ 7 (by simp)).trans (by go_simp)
                have z8 : w5.cell? ⟨w.heap.size, 8, none⟩ = some (Value.string ⟨#[]⟩) := (kc _ 8 (by simp)).trans (by go_simp)
                have y8 : w5.frozen? ⟨w.heap.size, 8, none⟩ = false := (kf _ 8 (by simp)).trans (by go_simp)
                have hz0 : w.heap.size < w5.heap.size := by have := hB5.size; simp at this; omega
                clear kc kf
                go_wp2_with fail
                refine bodyPost_ret (v := .tuple #[.agg #[.int .i64 0, .string ⟨#[]⟩, .string ⟨#[]⟩, .int .i64 0, .string ⟨#[]⟩, .string ⟨#[]⟩, .int .i64 0, .string ⟨#[]⟩, .string ⟨#[]⟩], .int .i64 4]) (by unfold results; rw [Tryz.results68]; go_simp) rfl ⟨ret_two (by rw [hT2.out, finZ.out]) (by rw [hN2.out]), ?_⟩
                exact ((((((((((bstep (balloc _ _) hB5).setCell (p := ⟨w.heap.size, 0, none⟩) (Nat.le_refl _) _).setCell (p := ⟨w.heap.size, 1, none⟩) (Nat.le_refl _) _).setCell (p := ⟨w.heap.size, 2, none⟩) (Nat.le_refl _) _).setCell (p := ⟨w.heap.size, 3, none⟩) (Nat.le_refl _) _).setCell (p := ⟨w.heap.size, 4, none⟩) (Nat.le_refl _) _).setCell (p := ⟨w.heap.size, 5, none⟩) (Nat.le_refl _) _).setCell (p := ⟨w.heap.size, 6, none⟩) (Nat.le_refl _) _).setCell (p := ⟨w.heap.size, 7, none⟩) (Nat.le_refl _) _).setCell (p := ⟨w.heap.size, 8, none⟩) (Nat.le_refl _) _)
              · skip
                have hN2 : Hid (N = 2) := by rw [finNN.out, if_neg (by simp at h1 h2 h3; omega), if_pos (by simp at f4; omega)]; rfl
                have hT2 : Hid (TT = zeroTr) := by rw [finT.out, hN2.out]; rfl
                go_wp2_with fail
                refine (HS _).mono ?_
                rintro e1 w5 ⟨rfl, hb5⟩
                have hB5 := bstep (bstep (bstep hB0 (balloc _ _)) (balloc _ _)) hb5
                clear z0 z1 z2 z3 z4 z5 z6 z7 z8 y0 y1 y2 y3 y4 y5 y6 y7 y8 hz0
                obtain ⟨kc, kf⟩ := bcell hB5
                have z0 : w5.cell? ⟨w.heap.size, 0, none⟩ = some (Value.int .i64 0) := (kc _ 0 (by simp)).trans (by go_simp)
                have y0 : w5.frozen? ⟨w.heap.size, 0, none⟩ = false := (kf _ 0 (by simp)).trans (by go_simp)
                have z1 : w5.cell? ⟨w.heap.size, 1, none⟩ = some (Value.string ⟨#[]⟩) := (kc _ 1 (by simp)).trans (by go_simp)
                have y1 : w5.frozen? ⟨w.heap.size, 1, none⟩ = false := (kf _ 1 (by simp)).trans (by go_simp)
                have z2 : w5.cell? ⟨w.heap.size, 2, none⟩ = some (Value.string ⟨#[]⟩) := (kc _ 2 (by simp)).trans (by go_simp)
                have y2 : w5.frozen? ⟨w.heap.size, 2, none⟩ = false := (kf _ 2 (by simp)).trans (by go_simp)
                have z3 : w5.cell? ⟨w.heap.size, 3, none⟩ = some (Value.int .i64 0) := (kc _ 3 (by simp)).trans (by go_simp)
                have y3 : w5.frozen? ⟨w.heap.size, 3, none⟩ = false := (kf _ 3 (by simp)).trans (by go_simp)
                have z4 : w5.cell? ⟨w.heap.size, 4, none⟩ = some (Value.string ⟨#[]⟩) := (kc _ 4 (by simp)).trans (by go_simp)
                have y4 : w5.frozen? ⟨w.heap.size, 4, none⟩ = false := (kf _ 4 (by simp)).trans (by go_simp)
                have z5 : w5.cell? ⟨w.heap.size, 5, none⟩ = some (Value.string ⟨#[]⟩) := (kc _ 5 (by simp)).trans (by go_simp)
                have y5 : w5.frozen? ⟨w.heap.size, 5, none⟩ = false := (kf _ 5 (by simp)).trans (by go_simp)
                have z6 : w5.cell? ⟨w.heap.size, 6, none⟩ = some (Value.int .i64 0) := (kc _ 6 (by simp)).trans (by go_simp)
                have y6 : w5.frozen? ⟨w.heap.size, 6, none⟩ = false := (kf _ 6 (by simp)).trans (by go_simp)
                have z7 : w5.cell? ⟨w.heap.size, 7, none⟩ = some (Value.string ⟨#[]⟩) := (kc _ 7 (by simp)).trans (by go_simp)
                have y7 : w5.frozen? ⟨w.heap.size, 7, none⟩ = false := (kf _ 7 (by simp)).trans (by go_simp)
                have z8 : w5.cell? ⟨w.heap.size, 8, none⟩ = some (Value.string ⟨#[]⟩) := (kc _ 8 (by simp)).trans (by go_simp)
                have y8 : w5.frozen? ⟨w.heap.size, 8, none⟩ = false := (kf _ 8 (by simp)).trans (by go_simp)
                have hz0 : w.heap.size < w5.heap.size := by have := hB5.size; simp at this; omega
                clear kc kf
                go_wp2_with fail
                refine bodyPost_ret (v := .tuple #[.agg #[.int .i64 0, .string ⟨#[]⟩, .string ⟨#[]⟩, .int .i64 0, .string ⟨#[]⟩, .string ⟨#[]⟩, .int .i64 0, .string ⟨#[]⟩, .string ⟨#[]⟩], .int .i64 2]) (by unfold results; rw [Tryz.results68]; go_simp) rfl ⟨ret_two (by rw [hT2.out, finZ.out]) (by rw [hN2.out]), ?_⟩
                exact ((((((((((bstep (balloc _ _) hB5).setCell (p := ⟨w.heap.size, 0, none⟩) (Nat.le_refl _) _).setCell (p := ⟨w.heap.size, 1, none⟩) (Nat.le_refl _) _).setCell (p := ⟨w.heap.size, 2, none⟩) (Nat.le_refl _) _).setCell (p := ⟨w.heap.size, 3, none⟩) (Nat.le_refl _) _).setCell (p := ⟨w.heap.size, 4, none⟩) (Nat.le_refl _) _).setCell (p := ⟨w.heap.size, 5, none⟩) (Nat.le_refl _) _).setCell (p := ⟨w.heap.size, 6, none⟩) (Nat.le_refl _) _).setCell (p := ⟨w.heap.size, 7, none⟩) (Nat.le_refl _) _).setCell (p := ⟨w.heap.size, 8, none⟩) (Nat.le_refl _) _)
          · cases sh
            · skip
              have hN2 : Hid (N = 4) := by rw [finNN.out, if_neg (by simp at h1 h2 h3; omega), if_pos (by simp at e4; omega)]; rfl
              have hT2 : Hid (TT = zeroTr) := by rw [finT.out, hN2.out]; rfl
              go_wp2_with fail
              refine (HS _).mono ?_
              rintro e1 w5 ⟨rfl, hb5⟩
              have hB5 := bstep (bstep (bstep hB0 (balloc _ _)) (balloc _ _)) hb5
              clear z0 z1 z2 z3 z4 z5 z6 z7 z8 y0 y1 y2 y3 y4 y5 y6 y7 y8 hz0
              obtain ⟨kc, kf⟩ := bcell hB5
              have z0 : w5.cell? ⟨w.heap.size, 0, none⟩ = some (Value.int .i64 0) := (kc _ 0 (by simp)).trans (by go_simp)
              have y0 : w5.frozen? ⟨w.heap.size, 0, none⟩ = false := (kf _ 0 (by simp)).trans (by go_simp)
              have z1 : w5.cell? ⟨w.heap.size, 1, none⟩ = some (Value.string ⟨#[]⟩) := (kc _ 1 (by simp)).trans (by go_simp)
              have y1 : w5.frozen? ⟨w.heap.size, 1, none⟩ = false := (kf _ 1 (by simp)).trans (by go_simp)
              have z2 : w5.cell? ⟨w.heap.size, 2, none⟩ = some (Value.string ⟨#[]⟩) := (kc _ 2 (by simp)).trans (by go_simp)
              have y2 : w5.frozen? ⟨w.heap.size, 2, none⟩ = false := (kf _ 2 (by simp)).trans (by go_simp)
              have z3 : w5.cell? ⟨w.heap.size, 3, none⟩ = some (Value.int .i64 0) := (kc _ 3 (by simp)).trans (by go_simp)
              have y3 : w5.frozen? ⟨w.heap.size, 3, none⟩ = false := (kf _ 3 (by simp)).trans (by go_simp)
              have z4 : w5.cell? ⟨w.heap.size, 4, none⟩ = some (Value.string ⟨#[]⟩) := (kc _ 4 (by simp)).trans (by go_simp)
              have y4 : w5.frozen? ⟨w.heap.size, 4, none⟩ = false := (kf _ 4 (by simp)).trans (by go_simp)
              have z5 : w5.cell? ⟨w.heap.size, 5, none⟩ = some (Value.string ⟨#[]⟩) := (kc _ 5 (by simp)).trans (by go_simp)
              have y5 : w5.frozen? ⟨w.heap.size, 5, none⟩ = false := (kf _ 5 (by simp)).trans (by go_simp)
              have z6 : w5.cell? ⟨w.heap.size, 6, none⟩ = some (Value.int .i64 0) := (kc _ 6 (by simp)).trans (by go_simp)
              have y6 : w5.frozen? ⟨w.heap.size, 6, none⟩ = false := (kf _ 6 (by simp)).trans (by go_simp)
              have z7 : w5.cell? ⟨w.heap.size, 7, none⟩ = some (Value.string ⟨#[]⟩) := (kc _ 7 (by simp)).trans (by go_simp)
              have y7 : w5.frozen? ⟨w.heap.size, 7, none⟩ = false := (kf _ 7 (by simp)).trans (by go_simp)
              have z8 : w5.cell? ⟨w.heap.size, 8, none⟩ = some (Value.string ⟨#[]⟩) := (kc _ 8 (by simp)).trans (by go_simp)
              have y8 : w5.frozen? ⟨w.heap.size, 8, none⟩ = false := (kf _ 8 (by simp)).trans (by go_simp)
              have hz0 : w.heap.size < w5.heap.size := by have := hB5.size; simp at this; omega
              clear kc kf
              go_wp2_with fail
              refine bodyPost_ret (v := .tuple #[.agg #[.int .i64 0, .string ⟨#[]⟩, .string ⟨#[]⟩, .int .i64 0, .string ⟨#[]⟩, .string ⟨#[]⟩, .int .i64 0, .string ⟨#[]⟩, .string ⟨#[]⟩], .int .i64 4]) (by unfold results; rw [Tryz.results68]; go_simp) rfl ⟨ret_two (by rw [hT2.out, finZ.out]) (by rw [hN2.out]), ?_⟩
              exact ((((((((((bstep (balloc _ _) hB5).setCell (p := ⟨w.heap.size, 0, none⟩) (Nat.le_refl _) _).setCell (p := ⟨w.heap.size, 1, none⟩) (Nat.le_refl _) _).setCell (p := ⟨w.heap.size, 2, none⟩) (Nat.le_refl _) _).setCell (p := ⟨w.heap.size, 3, none⟩) (Nat.le_refl _) _).setCell (p := ⟨w.heap.size, 4, none⟩) (Nat.le_refl _) _).setCell (p := ⟨w.heap.size, 5, none⟩) (Nat.le_refl _) _).setCell (p := ⟨w.heap.size, 6, none⟩) (Nat.le_refl _) _).setCell (p := ⟨w.heap.size, 7, none⟩) (Nat.le_refl _) _).setCell (p := ⟨w.heap.size, 8, none⟩) (Nat.le_refl _) _)
            · skip
              have hN2 : Hid (N = 2) := by rw [finNN.out, if_neg (by simp at h1 h2 h3; omega), if_pos (by simp at e4; omega)]; rfl
              have hT2 : Hid (TT = zeroTr) := by rw [finT.out, hN2.out]; rfl
              go_wp2_with fail
              refine (HS _).mono ?_
              rintro e1 w5 ⟨rfl, hb5⟩
              have hB5 := bstep (bstep (bstep hB0 (balloc _ _)) (balloc _ _)) hb5
              clear z0 z1 z2 z3 z4 z5 z6 z7 z8 y0 y1 y2 y3 y4 y5 y6 y7 y8 hz0
              obtain ⟨kc, kf⟩ := bcell hB5
              have z0 : w5.cell? ⟨w.heap.size, 0, none⟩ = some (Value.int .i64 0) := (kc _ 0 (by simp)).trans (by go_simp)
              have y0 : w5.frozen? ⟨w.heap.size, 0, none⟩ = false := (kf _ 0 (by simp)).trans (by go_simp)
              have z1 : w5.cell? ⟨w.heap.size, 1, none⟩ = some (Value.string ⟨#[]⟩) := (kc _ 1 (by simp)).trans (by go_simp)
              have y1 : w5.frozen? ⟨w.heap.size, 1, none⟩ = false := (kf _ 1 (by simp)).trans (by go_simp)
              have z2 : w5.cell? ⟨w.heap.size, 2, none⟩ = some (Value.string ⟨#[]⟩) := (kc _ 2 (by simp)).trans (by go_simp)
              have y2 : w5.frozen? ⟨w.heap.size, 2, none⟩ = false := (kf _ 2 (by simp)).trans (by go_simp)
              have z3 : w5.cell? ⟨w.heap.size, 3, none⟩ = some (Value.int .i64 0) := (kc _ 3 (by simp)).trans (by go_simp)
              have y3 : w5.frozen? ⟨w.heap.size, 3, none⟩ = false := (kf _ 3 (by simp)).trans (by go_simp)
              have z4 : w5.cell? ⟨w.heap.size, 4, none⟩ = some (Value.string ⟨#[]⟩) := (kc _ 4 (by simp)).trans (by go_simp)
              have y4 : w5.frozen? ⟨w.heap.size, 4, none⟩ = false := (kf _ 4 (by simp)).trans (by go_simp)
              have z5 : w5.cell? ⟨w.heap.size, 5, none⟩ = some (Value.string ⟨#[]⟩) := (kc _ 5 (by simp)).trans (by go_simp)
              have y5 : w5.frozen? ⟨w.heap.size, 5, none⟩ = false := (kf _ 5 (by simp)).trans (by go_simp)
              have z6 : w5.cell? ⟨w.heap.size, 6, none⟩ = some (Value.int .i64 0) := (kc _ 6 (by simp)).trans (by go_simp)
              have y6 : w5.frozen? ⟨w.heap.size, 6, none⟩ = false := (kf _ 6 (by simp)).trans (by go_simp)
              have z7 : w5.cell? ⟨w.heap.size, 7, none⟩ = some (Value.string ⟨#[]⟩) := (kc _ 7 (by simp)).trans (by go_simp)
              have y7 : w5.frozen? ⟨w.heap.size, 7, none⟩ = false := (kf _ 7 (by simp)).trans (by go_simp)
              have z8 : w5.cell? ⟨w.heap.size, 8, none⟩ = some (Value.string ⟨#[]⟩) := (kc _ 8 (by simp)).trans (by go_simp)
              have y8 : w5.frozen? ⟨w.heap.size, 8, none⟩ = false := (kf _ 8 (by simp)).trans (by go_simp)
              have hz0 : w.heap.size < w5.heap.size := by have := hB5.size; simp at this; omega
              clear kc kf
              go_wp2_with fail
              refine bodyPost_ret (v := .tuple #[.agg #[.int .i64 0, .string ⟨#[]⟩, .string ⟨#[]⟩, .int .i64 0, .string ⟨#[]⟩, .string ⟨#[]⟩, .int .i64 0, .string ⟨#[]⟩, .string ⟨#[]⟩], .int .i64 2]) (by unfold results; rw [Tryz.results68]; go_simp) rfl ⟨ret_two (by rw [hT2.out, finZ.out]) (by rw [hN2.out]), ?_⟩
              exact ((((((((((bstep (balloc _ _) hB5).setCell (p := ⟨w.heap.size, 0, none⟩) (Nat.le_refl _) _).setCell (p := ⟨w.heap.size, 1, none⟩) (Nat.le_refl _) _).setCell (p := ⟨w.heap.size, 2, none⟩) (Nat.le_refl _) _).setCell (p := ⟨w.heap.size, 3, none⟩) (Nat.le_refl _) _).setCell (p := ⟨w.heap.size, 4, none⟩) (Nat.le_refl _) _).setCell (p := ⟨w.heap.size, 5, none⟩) (Nat.le_refl _) _).setCell (p := ⟨w.heap.size, 6, none⟩) (Nat.le_refl _) _).setCell (p := ⟨w.heap.size, 7, none⟩) (Nat.le_refl _) _).setCell (p := ⟨w.heap.size, 8, none⟩) (Nat.le_refl _) _)
        · skip
          have hN2 : Hid (N = 2) := by rw [finNN.out, if_pos (by simp at h3; omega)]; rfl
          have hT2 : Hid (TT = zeroTr) := by rw [finT.out, hN2.out]; rfl
          go_wp2_with fail
          refine bodyPost_ret (v := .tuple #[.agg #[.int .i64 0, .string ⟨#[]⟩, .string ⟨#[]⟩, .int .i64 0, .string ⟨#[]⟩, .string ⟨#[]⟩, .int .i64 0, .string ⟨#[]⟩, .string ⟨#[]⟩], .int .i64 2]) (by unfold results; rw [Tryz.results68]; go_simp) rfl ⟨ret_two (by rw [hT2.out, finZ.out]) (by rw [hN2.out]), ?_⟩
          exact ((((((((((bstep (balloc _ _) hB0).setCell (p := ⟨w.heap.size, 0, none⟩) (Nat.le_refl _) _).setCell (p := ⟨w.heap.size, 1, none⟩) (Nat.le_refl _) _).setCell (p := ⟨w.heap.size, 2, none⟩) (Nat.le_refl _) _).setCell (p := ⟨w.heap.size, 3, none⟩) (Nat.le_refl _) _).setCell (p := ⟨w.heap.size, 4, none⟩) (Nat.le_refl _) _).setCell (p := ⟨w.heap.size, 5, none⟩) (Nat.le_refl _) _).setCell (p := ⟨w.heap.size, 6, none⟩) (Nat.le_refl _) _).setCell (p := ⟨w.heap.size, 7, none⟩) (Nat.le_refl _) _).setCell (p := ⟨w.heap.size, 8, none⟩) (Nat.le_refl _) _).alloc (by simp; omega) _
      · skip
        have hN2 : Hid (N = 2) := by rw [finNN.out, if_pos (by simp at h2; omega)]; rfl
        have hT2 : Hid (TT = zeroTr) := by rw [finT.out, hN2.out]; rfl
        go_wp2_with fail
        refine bodyPost_ret (v := .tuple #[.agg #[.int .i64 0, .string ⟨#[]⟩, .string ⟨#[]⟩, .int .i64 0, .string ⟨#[]⟩, .string ⟨#[]⟩, .int .i64 0, .string ⟨#[]⟩, .string ⟨#[]⟩], .int .i64 2]) (by unfold results; rw [Tryz.results68]; go_simp) rfl ⟨ret_two (by rw [hT2.out, finZ.out]) (by rw [hN2.out]), ?_⟩
        exact ((((((((((bstep (balloc _ _) hB0).setCell (p := ⟨w.heap.size, 0, none⟩) (Nat.le_refl _) _).setCell (p := ⟨w.heap.size, 1, none⟩) (Nat.le_refl _) _).setCell (p := ⟨w.heap.size, 2, none⟩) (Nat.le_refl _) _).setCell (p := ⟨w.heap.size, 3, none⟩) (Nat.le_refl _) _).setCell (p := ⟨w.heap.size, 4, none⟩) (Nat.le_refl _) _).setCell (p := ⟨w.heap.size, 5, none⟩) (Nat.le_refl _) _).setCell (p := ⟨w.heap.size, 6, none⟩) (Nat.le_refl _) _).setCell (p := ⟨w.heap.size, 7, none⟩) (Nat.le_refl _) _).setCell (p := ⟨w.heap.size, 8, none⟩) (Nat.le_refl _) _).alloc (by simp; omega) _
    · skip
      have hN2 : Hid (N = 2) := by rw [finNN.out, if_pos (by simp at h1; omega)]; rfl
      have hT2 : Hid (TT = zeroTr) := by rw [finT.out, hN2.out]; rfl
      go_wp2_with fail
      refine bodyPost_ret (v := .tuple #[.agg #[.int .i64 0, .string ⟨#[]⟩, .string ⟨#[]⟩, .int .i64 0, .string ⟨#[]⟩, .string ⟨#[]⟩, .int .i64 0, .string ⟨#[]⟩, .string ⟨#[]⟩], .int .i64 2]) (by unfold results; rw [Tryz.results68]; go_simp) rfl ⟨ret_two (by rw [hT2.out, finZ.out]) (by rw [hN2.out]), ?_⟩
      exact ((((((((((bstep (balloc _ _) hB0).setCell (p := ⟨w.heap.size, 0, none⟩) (Nat.le_refl _) _).setCell (p := ⟨w.heap.size, 1, none⟩) (Nat.le_refl _) _).setCell (p := ⟨w.heap.size, 2, none⟩) (Nat.le_refl _) _).setCell (p := ⟨w.heap.size, 3, none⟩) (Nat.le_refl _) _).setCell (p := ⟨w.heap.size, 4, none⟩) (Nat.le_refl _) _).setCell (p := ⟨w.heap.size, 5, none⟩) (Nat.le_refl _) _).setCell (p := ⟨w.heap.size, 6, none⟩) (Nat.le_refl _) _).setCell (p := ⟨w.heap.size, 7, none⟩) (Nat.le_refl _) _).setCell (p := ⟨w.heap.size, 8, none⟩) (Nat.le_refl _) _).alloc (by simp; omega) _
  · have hT : tparseT l = zeroTr := by unfold tparseT; rw [h2]; rfl
    rw [hT, h2, finZ.out]
    have hne' : (((wordsL l).length : Int) != 3) = true := by simp; omega
    generalize wordsL l = ws at *
    clear hT h2 hne
    go_enter Tryz.func68, Tryz.ntmps68
    go_wp2_with fail
    refine (HW _).mono ?_
    rintro e1 w1 ⟨ad, cc, rfl, hsl, hb1⟩
    have Hsl : Hid _ := hsl
    clear hsl
    obtain ⟨kc, kf⟩ := bcell hb1
    have z0 : w1.cell? ⟨w.heap.size, 0, none⟩ = some (Value.int .i64 0) := (kc _ 0 (by simp)).trans (by go_simp)
    have y0 : w1.frozen? ⟨w.heap.size, 0, none⟩ = false := (kf _ 0 (by simp)).trans (by go_simp)
    have z1 : w1.cell? ⟨w.heap.size, 1, none⟩ = some (Value.string ⟨#[]⟩) := (kc _ 1 (by simp)).trans (by go_simp)
    have y1 : w1.frozen? ⟨w.heap.size, 1, none⟩ = false := (kf _ 1 (by simp)).trans (by go_simp)
    have z2 : w1.cell? ⟨w.heap.size, 2, none⟩ = some (Value.string ⟨#[]⟩) := (kc _ 2 (by simp)).trans (by go_simp)
    have y2 : w1.frozen? ⟨w.heap.size, 2, none⟩ = false := (kf _ 2 (by simp)).trans (by go_simp)
    have z3 : w1.cell? ⟨w.heap.size, 3, none⟩ = some (Value.int .i64 0) := (kc _ 3 (by simp)).trans (by go_simp)
    have y3 : w1.frozen? ⟨w.heap.size, 3, none⟩ = false := (kf _ 3 (by simp)).trans (by go_simp)
    have z4 : w1.cell? ⟨w.heap.size, 4, none⟩ = some (Value.string ⟨#[]⟩) := (kc _ 4 (by simp)).trans (by go_simp)
    have y4 : w1.frozen? ⟨w.heap.size, 4, none⟩ = false := (kf _ 4 (by simp)).trans (by go_simp)
    have z5 : w1.cell? ⟨w.heap.size, 5, none⟩ = some (Value.string ⟨#[]⟩) := (kc _ 5 (by simp)).trans (by go_simp)
    have y5 : w1.frozen? ⟨w.heap.size, 5, none⟩ = false := (kf _ 5 (by simp)).trans (by go_simp)
    have z6 : w1.cell? ⟨w.heap.size, 6, none⟩ = some (Value.int .i64 0) := (kc _ 6 (by simp)).trans (by go_simp)
    have y6 : w1.frozen? ⟨w.heap.size, 6, none⟩ = false := (kf _ 6 (by simp)).trans (by go_simp)
    have z7 : w1.cell? ⟨w.heap.size, 7, none⟩ = some (Value.string ⟨#[]⟩) := (kc _ 7 (by simp)).trans (by go_simp)
    have y7 : w1.frozen? ⟨w.heap.size, 7, none⟩ = false := (kf _ 7 (by simp)).trans (by go_simp)
    have z8 : w1.cell? ⟨w.heap.size, 8, none⟩ = some (Value.string ⟨#[]⟩) := (kc _ 8 (by simp)).trans (by go_simp)
    have y8 : w1.frozen? ⟨w.heap.size, 8, none⟩ = false := (kf _ 8 (by simp)).trans (by go_simp)
    have hz0 : w.heap.size < w1.heap.size := by have := hb1.size; simp at this; omega
    clear kc kf
    go_wp2_with fail
    refine bodyPost_ret (v := .tuple #[.agg #[.int .i64 0, .string ⟨#[]⟩, .string ⟨#[]⟩, .int .i64 0, .string ⟨#[]⟩, .string ⟨#[]⟩, .int .i64 0, .string ⟨#[]⟩, .string ⟨#[]⟩], .int .i64 2]) (by unfold results; rw [Tryz.results68]; go_simp) rfl ⟨rfl, ?_⟩
    exact ((((((((((bstep (balloc _ _) hb1).setCell (p := ⟨w.heap.size, 0, none⟩) (Nat.le_refl _) _).setCell (p := ⟨w.heap.size, 1, none⟩) (Nat.le_refl _) _).setCell (p := ⟨w.heap.size, 2, none⟩) (Nat.le_refl _) _).setCell (p := ⟨w.heap.size, 3, none⟩) (Nat.le_refl _) _).setCell (p := ⟨w.heap.size, 4, none⟩) (Nat.le_refl _) _).setCell (p := ⟨w.heap.size, 5, none⟩) (Nat.le_refl _) _).setCell (p := ⟨w.heap.size, 6, none⟩) (Nat.le_refl _) _).setCell (p := ⟨w.heap.size, 7, none⟩) (Nat.le_refl _) _).setCell (p := ⟨w.heap.size, 8, none⟩) (Nat.le_refl _) _)
end Go.Proofs.YtnlcfnpcjkcdmafGreatDoor
