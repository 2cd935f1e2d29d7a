/- stratalaw1.TermTells: the walk. -/
import Derived.Test.YtibgelpkogdgkaaDoorRefRead
import Derived.Test.YtibgelpkogdgkaaDoorAs
import Derived.Test.YtibgelpkogdgkaaDoorTermEq
import Derived.Test.YtibgelpkogdgkaaDoorPlain
import Derived.Deep.DeepCutAuto
import Derived.Deep.RegionHeld3
namespace Go.Proofs.YtibgelpkogdgkaaDoor
open Go Go.RowKit Go.Proofs

/-- two terms that were boxed, read later on -/
theorem boxes2 {w W : World} {T : TypeId} {a0 a1 a2 b0 b1 b2 : Value}
    (hb : Below ((w.alloc (.cells #[a0, a1, a2] T)).alloc (.cells #[b0, b1, b2] T)).heap.size ((w.alloc (.cells #[a0, a1, a2] T)).alloc (.cells #[b0, b1, b2] T)) W) :
    W.cell? ⟨w.heap.size, 0, none⟩ = some a0 ∧ W.cell? ⟨w.heap.size, 1, none⟩ = some a1 ∧ W.cell? ⟨w.heap.size, 2, none⟩ = some a2 ∧
    W.cell? ⟨w.heap.size + 1, 0, none⟩ = some b0 ∧ W.cell? ⟨w.heap.size + 1, 1, none⟩ = some b1 ∧ W.cell? ⟨w.heap.size + 1, 2, none⟩ = some b2 ∧
    w.heap.size + 1 < W.heap.size := by
  obtain ⟨h, _⟩ := bcell hb
  have hs := hb.size
  refine ⟨?_, ?_, ?_, ?_, ?_, ?_, by simp at hs; omega⟩
  all_goals
    rw [h]
    · go_simp
    · simp <;> omega

theorem parse_ref (l : List UInt8) : parseT l = if parseN l = 0 then readRT l else (0, [], []) := by
  unfold parseT parseN readRT
  cases readL l with
  | none => rfl
  | some p =>
    cases h1 : spellB p.1 p.2.1 p.2.2 <;> cases h2 : longB p.2.1 <;> simp [h1, h2]

/-- twelve cells, behind a call that turned nothing old -/
theorem keepT {W W' : World} {p0 p1 p2 p3 p4 p5 p6 p7 p8 p9 p10 p11 : Addr} {v0 v1 v2 v3 v4 v5 v6 v7 v8 v9 v10 v11 : Value}
    (h : W.cell? p0 = some v0 ∧ W.cell? p1 = some v1 ∧ W.cell? p2 = some v2 ∧ W.cell? p3 = some v3 ∧ W.cell? p4 = some v4 ∧ W.cell? p5 = some v5 ∧ W.cell? p6 = some v6 ∧ W.cell? p7 = some v7 ∧ W.cell? p8 = some v8 ∧ W.cell? p9 = some v9 ∧ W.cell? p10 = some v10 ∧ W.cell? p11 = some v11) (hb : Below W.heap.size W W') : W'.cell? p0 = some v0 ∧ W'.cell? p1 = some v1 ∧ W'.cell? p2 = some v2 ∧ W'.cell? p3 = some v3 ∧ W'.cell? p4 = some v4 ∧ W'.cell? p5 = some v5 ∧ W'.cell? p6 = some v6 ∧ W'.cell? p7 = some v7 ∧ W'.cell? p8 = some v8 ∧ W'.cell? p9 = some v9 ∧ W'.cell? p10 = some v10 ∧ W'.cell? p11 = some v11 := by
  have q : ∀ (p : Addr) (v : Value), W.cell? p = some v → W'.cell? p = some v := fun p v hv => (hb.cell (World.block_lt_of_cell? W p hv)).trans hv
  obtain ⟨h0, h1, h2, h3, h4, h5, h6, h7, h8, h9, h10, h11⟩ := h
  exact ⟨q _ _ h0, q _ _ h1, q _ _ h2, q _ _ h3, q _ _ h4, q _ _ h5, q _ _ h6, q _ _ h7, q _ _ h8, q _ _ h9, q _ _ h10, q _ _ h11⟩

set_option maxHeartbeats 8000000 in
set_option maxRecDepth 100000 in
theorem tells_any (k1 : Int) (S1 L1 : List UInt8) (k2 : Int) (S2 L2 : List UInt8) (l : List UInt8) (w : World) (hg : errVar w)
    (h1 : S1.length ≤ maxLen) (h1' : L1.length ≤ maxLen) (hl : l.length ≤ 140737488355328) :
    Calls Tryd.prog 3 #[.agg #[.int .i64 k1, .string ⟨S1.toArray⟩, .string ⟨L1.toArray⟩], .agg #[.int .i64 k2, .string ⟨S2.toArray⟩, .string ⟨L2.toArray⟩], .string ⟨l.toArray⟩] w
      fun e w' => e = .returned (.bool true) ∧ Below w.heap.size w w' := by
  have Hg : Hid (errVar w) := hg
  clear hg
  go_enter Tryd.func3, Tryd.ntmps3
  go_wp2_with fail
  refine (RTerm_any k1 S1 L1 _ h1 h1').mono ?_
  rintro e w1 ⟨rfl, hb1⟩
  obtain ⟨a0, a1, a2, b0, b1, b2, hz1⟩ := boxes2 hb1
  go_wp2_with fail
  refine (Check_any k1 S1 L1 _ h1 h1').mono ?_
  rintro e w2 ⟨rfl, hb2⟩
  have hB2 := bstep hb1 hb2
  clear a0 a1 a2 b0 b1 b2 hz1
  go_wp2_with fail
  refine (SameError_any _ _ _ ((Hg.out.below (bstep (balloc _ _) (balloc _ _))).below hB2)).mono ?_
  rintro e w3 ⟨rfl, hb3⟩
  have hB3 := bstep hB2 hb3
  clear hb1 hb2 hb3 hB2
  go_upto_if 23 with fail
  go_cut [9] (fun s W => s = .string ⟨(printL k1 S1 L1).toArray⟩ ∧ Below ((w.alloc (.cells #[.int .i64 k1, .string ⟨S1.toArray⟩, .string ⟨L1.toArray⟩] 23)).alloc (.cells #[.int .i64 k2, .string ⟨S2.toArray⟩, .string ⟨L2.toArray⟩] 23)).heap.size ((w.alloc (.cells #[.int .i64 k1, .string ⟨S1.toArray⟩, .string ⟨L1.toArray⟩] 23)).alloc (.cells #[.int .i64 k2, .string ⟨S2.toArray⟩, .string ⟨L2.toArray⟩] 23)) W)
  case first =>
    by_cases hc : checkN k1 S1 L1 = 0
    · have hc' : (checkN k1 S1 L1 == 0) = true := by simpa using hc
      have Hc : Hid (checkN k1 S1 L1 = 0 ∧ printL k1 S1 L1 = showL k1 S1 L1) := ⟨hc, if_pos hc⟩
      clear hc
      obtain ⟨a0, a1, a2, b0, b1, b2, hz3⟩ := boxes2 hB3
      go_wp2_with fail
      refine (RShow_any k1 S1 L1 _ Hc.out.1).mono ?_
      rintro e w4 ⟨rfl, hb4⟩
      have hB4 := bstep hB3 hb4
      go_wp2
      go_meet
      case rel => exact ⟨by rw [Hc.out.2], hB4⟩
    · have hc' : (checkN k1 S1 L1 == 0) = false := by simpa using hc
      have Hp : Hid (printL k1 S1 L1 = []) := if_neg hc
      clear hc
      go_wp2
      go_meet
      case rel => exact ⟨by rw [Hp.out], hB3⟩
  case rest =>
    obtain ⟨rfl, hB4⟩ := hcut
    obtain ⟨a0, a1, a2, b0, b1, b2, hz4⟩ := boxes2 hB4
    go_wp2_with fail
    refine (Print_any k1 S1 L1 _ h1 h1').mono ?_
    rintro e w5 ⟨rfl, hb5⟩
    have hB5 := bstep hB4 hb5
    clear a0 a1 a2 b0 b1 b2 hz4 hB3
    go_wp2_with fail
    refine (SameError_any _ _ _ ((Hg.out.below (bstep (balloc _ _) (balloc _ _))).below hB5)).mono ?_
    rintro e w6 ⟨rfl, hb6⟩
    have hB6 := bstep hB5 hb6
    clear hB4 hb5 hB5 hb6
    go_wp2_with fail
    refine (RRead_any l _ hl).mono ?_
    rintro e w7 ⟨rfl, hb7⟩
    have hB7 := bstep hB6 hb7
    clear hB6 hb7
    simp only [termV]
    go_wp2_with fail
    refine (Parse_any l _ hl).mono ?_
    rintro e w8 ⟨rfl, hb8⟩
    simp only [termV]
    have hB8 := bstep (bstep hB7 (balloc _ _)) hb8
    have hz8 : w7.heap.size < w8.heap.size := by have := hb8.size; simp at this; omega
    go_wp2_with fail
    refine (SameError_any _ _ _ (((Hg.out.below (bstep (balloc _ _) (balloc _ _))).below hB8).below (balloc _ _))).mono ?_
    rintro e w9 ⟨rfl, hb9⟩
    have hB9 := bstep (bstep hB8 (balloc _ _)) hb9
    obtain ⟨ht, htf⟩ := kept2 hb8 hb9 hz8
    obtain ⟨hu, huf⟩ := kept1 hb9
    clear hB8 hb8 hb9
    go_upto_if 48 with fail
    have hB7' : w.heap.size + 1 < w7.heap.size := (boxes2 hB7).2.2.2.2.2.2
    go_cut [] (fun W => Below ((w.alloc (.cells #[.int .i64 k1, .string ⟨S1.toArray⟩, .string ⟨L1.toArray⟩] 23)).alloc (.cells #[.int .i64 k2, .string ⟨S2.toArray⟩, .string ⟨L2.toArray⟩] 23)).heap.size ((w.alloc (.cells #[.int .i64 k1, .string ⟨S1.toArray⟩, .string ⟨L1.toArray⟩] 23)).alloc (.cells #[.int .i64 k2, .string ⟨S2.toArray⟩, .string ⟨L2.toArray⟩] 23)) W ∧ W.cell? ⟨w7.heap.size, 0, none⟩ = some (.int .i64 (parseT l).1) ∧ W.cell? ⟨w7.heap.size, 1, none⟩ = some (.string ⟨(parseT l).2.1.toArray⟩) ∧ W.cell? ⟨w7.heap.size, 2, none⟩ = some (.string ⟨(parseT l).2.2.toArray⟩) ∧ W.cell? ⟨w8.heap.size, 0, none⟩ = some (.int .i64 (parseT l).1) ∧ W.cell? ⟨w8.heap.size, 1, none⟩ = some (.string ⟨(parseT l).2.1.toArray⟩) ∧ W.cell? ⟨w8.heap.size, 2, none⟩ = some (.string ⟨(parseT l).2.2.toArray⟩))
    case first =>
      by_cases hp : parseN l = 0
      · have hp' : (parseN l != 0) = false := by simpa using hp
        have HT : Hid (parseT l = readRT l) := (parse_ref l).trans (if_pos hp)
        clear hp
        go_wp2
        go_meet
        case rel =>
          refine ⟨hB9, ?_, ?_, ?_, ?_, ?_, ?_⟩
          · rw [ht, HT.out]; simp
          · rw [ht, HT.out]; simp
          · rw [ht, HT.out]; simp
          · rw [hu]; simp
          · rw [hu]; simp
          · rw [hu]; simp
      · have hp' : (parseN l != 0) = true := by simpa using hp
        have HT : Hid (parseT l = (0, [], [])) := (parse_ref l).trans (if_neg hp)
        clear hp
        go_wp2
        go_meet
        case rel =>
          have hne : w8.heap.size ≠ w7.heap.size := by omega
          rw [HT.out] at hu ⊢
          refine ⟨((hB9.setCell (p := ⟨w7.heap.size, 0, none⟩) (by simp; omega) _).setCell (p := ⟨w7.heap.size, 1, none⟩) (by simp; omega) _).setCell (p := ⟨w7.heap.size, 2, none⟩) (by simp; omega) _, ?_, ?_, ?_, ?_, ?_, ?_⟩
          all_goals go_simp
    case rest =>
      obtain ⟨hBc, t0, t1, t2, u0, u1, u2⟩ := hcut
      obtain ⟨a0, a1, a2, b0, b1, b2, hzc⟩ := boxes2 hBc
      clear ht htf hu huf hB9 hB7
      go_wp2_with fail
      go_region_held3 (fun W => W.cell? ⟨w.heap.size, 0, none⟩ = some (.int .i64 k1) ∧ W.cell? ⟨w.heap.size, 1, none⟩ = some (.string ⟨S1.toArray⟩) ∧ W.cell? ⟨w.heap.size, 2, none⟩ = some (.string ⟨L1.toArray⟩) ∧ W.cell? ⟨w.heap.size + 1, 0, none⟩ = some (.int .i64 k2) ∧ W.cell? ⟨w.heap.size + 1, 1, none⟩ = some (.string ⟨S2.toArray⟩) ∧ W.cell? ⟨w.heap.size + 1, 2, none⟩ = some (.string ⟨L2.toArray⟩) ∧ W.cell? ⟨w7.heap.size, 0, none⟩ = some (.int .i64 (parseT l).1) ∧ W.cell? ⟨w7.heap.size, 1, none⟩ = some (.string ⟨(parseT l).2.1.toArray⟩) ∧ W.cell? ⟨w7.heap.size, 2, none⟩ = some (.string ⟨(parseT l).2.2.toArray⟩) ∧ W.cell? ⟨w8.heap.size, 0, none⟩ = some (.int .i64 (parseT l).1) ∧ W.cell? ⟨w8.heap.size, 1, none⟩ = some (.string ⟨(parseT l).2.1.toArray⟩) ∧ W.cell? ⟨w8.heap.size, 2, none⟩ = some (.string ⟨(parseT l).2.2.toArray⟩)) (first | exact keepT (by assumption) hb11 | exact keepT (by assumption) hb10 | go_keep) (first
        | (go_at_call 11; refine (Compare_any k1 S1 L1 k2 S2 L2 _).mono ?_; rintro e w10 ⟨rfl, hb10⟩)
        | (go_at_call 12; refine (RCompare_any k1 S1 L1 k2 S2 L2 _).mono ?_; rintro e w11 ⟨rfl, hb11⟩))
      go_wp2
      go_ret
      exact ⟨rfl, bstep (bstep (bstep (bstep (balloc _ _) (balloc _ _)) hBc) (bdrew hb10)) hb11⟩
end Go.Proofs.YtibgelpkogdgkaaDoor
