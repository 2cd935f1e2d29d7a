/- stratalaw1.TripleTells: the walk. -/
import Derived.Test.YtnlcfnpcjkcdmaaGreatDoorRefText
import Derived.Test.YtnlcfnpcjkcdmaaGreatDoorRefReadT
import Derived.Test.YtnlcfnpcjkcdmaaGreatDoorRefSorted
import Derived.Test.YtnlcfnpcjkcdmaaGreatDoorTripleFact
import Derived.Test.YtnlcfnpcjkcdmaaGreatDoorAs
import Derived.Deep.DeepCutAuto
import Derived.Deep.RegionHeld3
namespace Go.Proofs.YtnlcfnpcjkcdmaaGreatDoor
open Go Go.RowKit Go.Proofs
set_option synthInstance.maxSize 1000

attribute [local go_sem] eql_errV neq_errV guard_errV
attribute [local go_sem ↓] eqlTriple neqTriple

/-- thirty-six cells, behind a call that turned nothing old -/
theorem keep36 {W W' : World} {p0 p1 p2 p3 p4 p5 p6 p7 p8 p9 p10 p11 p12 p13 p14 p15 p16 p17 p18 p19 p20 p21 p22 p23 p24 p25 p26 p27 p28 p29 p30 p31 p32 p33 p34 p35 : Addr} {v0 v1 v2 v3 v4 v5 v6 v7 v8 v9 v10 v11 v12 v13 v14 v15 v16 v17 v18 v19 v20 v21 v22 v23 v24 v25 v26 v27 v28 v29 v30 v31 v32 v33 v34 v35 : Value}
    (h : W.cell? p0 = some v0 ∧ W.cell? p1 = some v1 ∧ W.cell? p2 = some v2 ∧ W.cell? p3 = some v3 ∧ W.cell? p4 = some v4 ∧ W.cell? p5 = some v5 ∧ W.cell? p6 = some v6 ∧ W.cell? p7 = some v7 ∧ W.cell? p8 = some v8 ∧ W.cell? p9 = some v9 ∧ W.cell? p10 = some v10 ∧ W.cell? p11 = some v11 ∧ W.cell? p12 = some v12 ∧ W.cell? p13 = some v13 ∧ W.cell? p14 = some v14 ∧ W.cell? p15 = some v15 ∧ W.cell? p16 = some v16 ∧ W.cell? p17 = some v17 ∧ W.cell? p18 = some v18 ∧ W.cell? p19 = some v19 ∧ W.cell? p20 = some v20 ∧ W.cell? p21 = some v21 ∧ W.cell? p22 = some v22 ∧ W.cell? p23 = some v23 ∧ W.cell? p24 = some v24 ∧ W.cell? p25 = some v25 ∧ W.cell? p26 = some v26 ∧ W.cell? p27 = some v27 ∧ W.cell? p28 = some v28 ∧ W.cell? p29 = some v29 ∧ W.cell? p30 = some v30 ∧ W.cell? p31 = some v31 ∧ W.cell? p32 = some v32 ∧ W.cell? p33 = some v33 ∧ W.cell? p34 = some v34 ∧ W.cell? p35 = some v35) (hb : RowKit.Below W.heap.size W W') : W'.cell? p0 = some v0 ∧ W'.cell? p1 = some v1 ∧ W'.cell? p2 = some v2 ∧ W'.cell? p3 = some v3 ∧ W'.cell? p4 = some v4 ∧ W'.cell? p5 = some v5 ∧ W'.cell? p6 = some v6 ∧ W'.cell? p7 = some v7 ∧ W'.cell? p8 = some v8 ∧ W'.cell? p9 = some v9 ∧ W'.cell? p10 = some v10 ∧ W'.cell? p11 = some v11 ∧ W'.cell? p12 = some v12 ∧ W'.cell? p13 = some v13 ∧ W'.cell? p14 = some v14 ∧ W'.cell? p15 = some v15 ∧ W'.cell? p16 = some v16 ∧ W'.cell? p17 = some v17 ∧ W'.cell? p18 = some v18 ∧ W'.cell? p19 = some v19 ∧ W'.cell? p20 = some v20 ∧ W'.cell? p21 = some v21 ∧ W'.cell? p22 = some v22 ∧ W'.cell? p23 = some v23 ∧ W'.cell? p24 = some v24 ∧ W'.cell? p25 = some v25 ∧ W'.cell? p26 = some v26 ∧ W'.cell? p27 = some v27 ∧ W'.cell? p28 = some v28 ∧ W'.cell? p29 = some v29 ∧ W'.cell? p30 = some v30 ∧ W'.cell? p31 = some v31 ∧ W'.cell? p32 = some v32 ∧ W'.cell? p33 = some v33 ∧ W'.cell? p34 = some v34 ∧ W'.cell? p35 = some v35 := by
  have q : ∀ (p : Addr) (v : Value), W.cell? p = some v → W'.cell? p = some v := fun p v hv => (hb.cell (World.block_lt_of_cell? W p hv)).trans hv
  obtain ⟨h0, h1, h2, h3, h4, h5, h6, h7, h8, h9, h10, h11, h12, h13, h14, h15, h16, h17, h18, h19, h20, h21, h22, h23, h24, h25, h26, h27, h28, h29, h30, h31, h32, h33, h34, h35⟩ := h
  exact ⟨q _ _ h0, q _ _ h1, q _ _ h2, q _ _ h3, q _ _ h4, q _ _ h5, q _ _ h6, q _ _ h7, q _ _ h8, q _ _ h9, q _ _ h10, q _ _ h11, q _ _ h12, q _ _ h13, q _ _ h14, q _ _ h15, q _ _ h16, q _ _ h17, q _ _ h18, q _ _ h19, q _ _ h20, q _ _ h21, q _ _ h22, q _ _ h23, q _ _ h24, q _ _ h25, q _ _ h26, q _ _ h27, q _ _ h28, q _ _ h29, q _ _ h30, q _ _ h31, q _ _ h32, q _ _ h33, q _ _ h34, q _ _ h35⟩
theorem SameNil (w : World) : Calls Tryz.prog 15 #[.slice none 0 0, .slice none 0 0] w fun e w' => e = .returned (.bool true) ∧ RowKit.Below w.heap.size w w' := by
  have := SameTriples_any none none 0 0 [] [] w (fun h => absurd rfl h) (fun h => absurd rfl h) (by simp) (by simp)
  rw [show decide (([] : List Tr) = []) = true by simp] at this
  exact this
theorem SameError_same (m : Int) (w : World) (hg : errVar w) : Calls Tryz.prog 5 #[errV m, .int .i64 m] w fun r w' => r = .returned (.bool true) ∧ RowKit.Below w.heap.size w w' := by
  have := SameError_any m m w hg
  rw [show (m == m) = true by simp] at this
  exact this
theorem SameError_nil (w : World) (hg : errVar w) : Calls Tryz.prog 5 #[.nilIface, .int .i64 0] w fun r w' => r = .returned (.bool true) ∧ RowKit.Below w.heap.size w w' := SameError_same 0 w hg

set_option maxHeartbeats 32000000 in
set_option maxRecDepth 100000 in
theorem tells3_any (a b : Tr) (s : List UInt8) (ad : Option Addr) (cap : Nat) (l : List Tr) (w : World) (hg : errVar w) (ha : fitTr a) (hs : s.length ≤ 100000000) (hl : SlT w ad l) (hf : ∀ y ∈ l, fitTr y) (hn : l.length ≤ 9223372036854775807) :
    Calls Tryz.prog 3 #[valTr a, valTr b, .string ⟨s.toArray⟩, .slice ad l.length cap] w fun e w' => e = .returned (.bool true) ∧ RowKit.Below w.heap.size w w' := by
  have Hg : Hid (errVar w) := hg
  have Hl : Hid (SlT w ad l) := hl
  have Hf : Hid (∀ y ∈ l, fitTr y) := hf
  have R1 := fun W => RTriple_any a W ha
  have C1 := fun W => ChkTr_any a W ha
  have P1 := fun W => TPrint_any a W ha
  have X1 := fun W => RText_any a W
  have Q1 := fun W => RReadT_any s W hs
  have Q2 := fun W => TParse_any s W (by omega)
  have D1 := fun W hW => Sorted_any ad cap l W hW hf hn
  have D2 := fun W hW => RSet_any ad cap l W hW hf hn
  have HC : ∀ W, Calls Tryz.prog 16 #[valTr a, valTr b] W fun e w' => e = .returned (.int .i64 (cmpTr a b)) ∧ RowKit.Below W.heap.size W w' := fun W => (CmpTr_any a b W).mono fun e w' h => ⟨h.1, h.2.below⟩
  have HO := fun W => ROrder_any a b W
  have hpr : Hid (printTr a = if chkTr a = 0 then showTr a else []) := rfl
  generalize cmpTr a b = cc at HC HO
  generalize sortedN l = sn at D1 D2
  generalize tparseN s = tn at Q1 Q2
  generalize tparseT s = x at Q1 Q2
  clear hg hl hf ha hs
  unfold valTr at R1 C1 P1 X1 Q1 Q2 HC HO ⊢
  go_enter Tryz.func3, Tryz.ntmps3
  go_wp2_with fail
  refine (R1 _).mono ?_
  rintro e w1 ⟨rfl, hb1⟩
  obtain ⟨A0, A1, A2, A3, A4, A5, A6, A7, A8, hzA⟩ := ninebox2 hb1
  obtain ⟨B0, B1, B2, B3, B4, B5, B6, B7, B8, hzB⟩ := ninebox2' hb1
  go_wp2_with fail
  refine (C1 _).mono ?_
  rintro e w2 ⟨rfl, hb2⟩
  have hB2 := bstep hb1 hb2
  have G0 := Hg.out.below (bstep (balloc w (.cells #[.int .i64 a.1.1, .string ⟨a.1.2.1.toArray⟩, .string ⟨a.1.2.2.toArray⟩, .int .i64 a.2.1.1, .string ⟨a.2.1.2.1.toArray⟩, .string ⟨a.2.1.2.2.toArray⟩, .int .i64 a.2.2.1, .string ⟨a.2.2.2.1.toArray⟩, .string ⟨a.2.2.2.2.toArray⟩] 25)) (balloc _ (.cells #[.int .i64 b.1.1, .string ⟨b.1.2.1.toArray⟩, .string ⟨b.1.2.2.toArray⟩, .int .i64 b.2.1.1, .string ⟨b.2.1.2.1.toArray⟩, .string ⟨b.2.1.2.2.toArray⟩, .int .i64 b.2.2.1, .string ⟨b.2.2.2.1.toArray⟩, .string ⟨b.2.2.2.2.toArray⟩] 25)))
  have HG : Hid (∀ W, RowKit.Below ((w.alloc (.cells #[.int .i64 a.1.1, .string ⟨a.1.2.1.toArray⟩, .string ⟨a.1.2.2.toArray⟩, .int .i64 a.2.1.1, .string ⟨a.2.1.2.1.toArray⟩, .string ⟨a.2.1.2.2.toArray⟩, .int .i64 a.2.2.1, .string ⟨a.2.2.2.1.toArray⟩, .string ⟨a.2.2.2.2.toArray⟩] 25)).alloc (.cells #[.int .i64 b.1.1, .string ⟨b.1.2.1.toArray⟩, .string ⟨b.1.2.2.toArray⟩, .int .i64 b.2.1.1, .string ⟨b.2.1.2.1.toArray⟩, .string ⟨b.2.1.2.2.toArray⟩, .int .i64 b.2.2.1, .string ⟨b.2.2.2.1.toArray⟩, .string ⟨b.2.2.2.2.toArray⟩] 25)).heap.size ((w.alloc (.cells #[.int .i64 a.1.1, .string ⟨a.1.2.1.toArray⟩, .string ⟨a.1.2.2.toArray⟩, .int .i64 a.2.1.1, .string ⟨a.2.1.2.1.toArray⟩, .string ⟨a.2.1.2.2.toArray⟩, .int .i64 a.2.2.1, .string ⟨a.2.2.2.1.toArray⟩, .string ⟨a.2.2.2.2.toArray⟩] 25)).alloc (.cells #[.int .i64 b.1.1, .string ⟨b.1.2.1.toArray⟩, .string ⟨b.1.2.2.toArray⟩, .int .i64 b.2.1.1, .string ⟨b.2.1.2.1.toArray⟩, .string ⟨b.2.1.2.2.toArray⟩, .int .i64 b.2.2.1, .string ⟨b.2.2.2.1.toArray⟩, .string ⟨b.2.2.2.2.toArray⟩] 25)) W → errVar W) := fun W h => G0.below h
  clear G0 hb1 hb2
  clear A0 A1 A2 A3 A4 A5 A6 A7 A8 hzA B0 B1 B2 B3 B4 B5 B6 B7 B8 hzB
  go_wp2_with fail
  refine (SameError_same _ _ (HG.out _ hB2)).mono ?_
  rintro e w3 ⟨rfl, hb3⟩
  have hB3 := bstep hB2 hb3
  clear hb3 hB2
  go_upto_if 31 with fail
  go_cut [11] (fun v W => v = .string ⟨(printTr a).toArray⟩ ∧ RowKit.Below ((w.alloc (.cells #[.int .i64 a.1.1, .string ⟨a.1.2.1.toArray⟩, .string ⟨a.1.2.2.toArray⟩, .int .i64 a.2.1.1, .string ⟨a.2.1.2.1.toArray⟩, .string ⟨a.2.1.2.2.toArray⟩, .int .i64 a.2.2.1, .string ⟨a.2.2.2.1.toArray⟩, .string ⟨a.2.2.2.2.toArray⟩] 25)).alloc (.cells #[.int .i64 b.1.1, .string ⟨b.1.2.1.toArray⟩, .string ⟨b.1.2.2.toArray⟩, .int .i64 b.2.1.1, .string ⟨b.2.1.2.1.toArray⟩, .string ⟨b.2.1.2.2.toArray⟩, .int .i64 b.2.2.1, .string ⟨b.2.2.2.1.toArray⟩, .string ⟨b.2.2.2.2.toArray⟩] 25)).heap.size ((w.alloc (.cells #[.int .i64 a.1.1, .string ⟨a.1.2.1.toArray⟩, .string ⟨a.1.2.2.toArray⟩, .int .i64 a.2.1.1, .string ⟨a.2.1.2.1.toArray⟩, .string ⟨a.2.1.2.2.toArray⟩, .int .i64 a.2.2.1, .string ⟨a.2.2.2.1.toArray⟩, .string ⟨a.2.2.2.2.toArray⟩] 25)).alloc (.cells #[.int .i64 b.1.1, .string ⟨b.1.2.1.toArray⟩, .string ⟨b.1.2.2.toArray⟩, .int .i64 b.2.1.1, .string ⟨b.2.1.2.1.toArray⟩, .string ⟨b.2.1.2.2.toArray⟩, .int .i64 b.2.2.1, .string ⟨b.2.2.2.1.toArray⟩, .string ⟨b.2.2.2.2.toArray⟩] 25)) W)
  case first =>
    by_cases hc : chkTr a = 0
    · have hc' : (chkTr a == 0) = true := by simpa using hc
      have Hc : Hid (chkTr a = 0 ∧ printTr a = showTr a) := ⟨hc, by rw [hpr.out, if_pos hc]⟩
      clear hc
      obtain ⟨A0, A1, A2, A3, A4, A5, A6, A7, A8, hzA⟩ := ninebox2 hB3
      obtain ⟨B0, B1, B2, B3, B4, B5, B6, B7, B8, hzB⟩ := ninebox2' hB3
      go_wp2_with fail
      refine (X1 _ Hc.out.1).mono ?_
      rintro e w4 ⟨rfl, hb4⟩
      have hB4 := bstep hB3 hb4
      go_wp2
      go_meet
      case rel => exact ⟨by rw [Hc.out.2], hB4⟩
    · have hc' : (chkTr a == 0) = false := by simpa using hc
      have Hp : Hid (printTr a = []) := by rw [hpr.out, if_neg hc]; rfl
      clear hc
      go_wp2
      go_meet
      case rel => exact ⟨by rw [Hp.out], hB3⟩
  case rest =>
    obtain ⟨rfl, hB4⟩ := hcut
    clear hB3 X1 R1 C1 hpr
    generalize printTr a = pa at *
    generalize chkTr a = ca at *
    obtain ⟨A0, A1, A2, A3, A4, A5, A6, A7, A8, hzA⟩ := ninebox2 hB4
    obtain ⟨B0, B1, B2, B3, B4, B5, B6, B7, B8, hzB⟩ := ninebox2' hB4
    go_wp2_with fail
    refine (P1 _).mono ?_
    rintro e w5 ⟨rfl, hb5⟩
    have hB5 := bstep hB4 hb5
    clear A0 A1 A2 A3 A4 A5 A6 A7 A8 hzA B0 B1 B2 B3 B4 B5 B6 B7 B8 hzB
    go_wp2_with fail
    refine (SameError_same _ _ (HG.out _ hB5)).mono ?_
    rintro e w6 ⟨rfl, hb6⟩
    have hB6 := bstep hB5 hb6
    clear hb5 hb6 hB4 hB5 P1
    go_wp2_with fail
    refine (Q1 _).mono ?_
    rintro e w7 ⟨rfl, hb7⟩
    have hB7 := bstep hB6 hb7
    clear hb7 hB6 Q1
    go_wp2_with fail
    refine (Q2 _).mono ?_
    rintro e w8 ⟨rfl, hb8⟩
    have hB8 := bstep (bstep hB7 (balloc _ _)) hb8
    have hX8 := hb8
    clear hb8 hB7 Q2
    go_wp2_with fail
    refine (SameError_same _ _ (HG.out _ (bstep hB8 (balloc _ _)))).mono ?_
    rintro e w9 ⟨rfl, hb9⟩
    have hB9 := bstep (bstep hB8 (balloc _ _)) hb9
    have hX9 := bstep (bstep hX8 (balloc _ _)) hb9
    have hY9 := hb9
    have hA9 := bstep (bstep (balloc _ _) (balloc _ _)) hB9
    clear hb9 hB8 hX8
    go_wp2_with fail
    refine (D1 _ (Hl.out.below hA9)).mono ?_
    rintro e w10 ⟨rfl, hb10⟩
    have hA10 := bstep hA9 hb10
    go_wp2_with fail
    refine (D2 _ (Hl.out.below hA10)).mono ?_
    rintro e w11 ⟨rfl, hb11⟩
    have hA11 := bstep hA10 hb11
    have h911 := bstep hb10 hb11
    go_wp2_with fail
    refine (SameError_same _ _ (Hg.out.below hA11)).mono ?_
    rintro e w12 ⟨rfl, hb12⟩
    have h912 := bstep h911 hb12
    have hB12 := bstep hB9 h912
    have hX12 := bstep hX9 h912
    have hY12 := bstep hY9 h912
    have hA12 := bstep hA9 h912
    clear hb10 hb11 hb12 h911 h912 hA9 hA10 hA11 hB9 hX9 hY9 D1 D2
    by_cases h200 : 200 < l.length
    · have hd : decide ((l.length : Int) > 200) = true := by simp; omega
      have hbad : sortN l ≠ 0 := by unfold sortN faultN; rw [if_pos h200]; decide
      obtain ⟨E, hE⟩ : ∃ E, E = sortN l := ⟨_, rfl⟩
      have hE4 : Hid (E = 4) := by show E = 4; rw [hE]; unfold sortN faultN; rw [if_pos h200]
      go_wp2_with fail
      go_loopw [9, 19] (fun ev iv wr => ev = .int .i64 4 ∧ iv = .int .i64 0 ∧ w12 = wr) (fun _ _ _ => 0)
      case atStart => exact ⟨rfl, rfl, rfl⟩
      case round =>
        obtain ⟨rfl, rfl, rfl⟩ := hrel
        have hlp : decide ((0 : Int) < (l.length : Int)) = true := by simp; omega
        have hA := hA12
        have hB := hB12
        have hX := hX12
        have hY := hY12
        have hE := hE
        rw [hE4.out] at hE
        clear hA12 hB12 hX12 hY12
        have HB := fun W hW => Sort_bad ad cap l W hW Hf.out hn hbad
        rw [← hE] at HB
        go_wp2_with fail
        refine (HB _ (Hl.out.below hA)).mono ?_
        rintro e w11 ⟨rfl, hb11⟩
        have hB11 := bstep hB hb11
        have hX11 := bstep hX hb11
        have hY11 := bstep hY hb11
        have hA11 := bstep hA hb11
        go_wp2_with fail
        refine (SameError_same _ _ (Hg.out.below hA11)).mono ?_
        rintro e w12 ⟨rfl, hb12⟩
        have hB12 := bstep hB11 hb12
        have hX12 := bstep hX11 hb12
        have hY12 := bstep hY11 hb12
        have hA12 := bstep hA11 hb12
        go_wp2_with fail
        refine (SameNil _).mono ?_
        rintro e w13 ⟨rfl, hb13⟩
        have hBf := bstep hB12 hb13
        have hXf := bstep hX12 hb13
        have hYf := bstep hY12 hb13
        clear hb11 hb12 hb13 hB11 hB12 hX11 hX12 hY11 hY12 hA11 hA12 hA hB hX hY HB
        obtain ⟨A0, A1, A2, A3, A4, A5, A6, A7, A8, hzA⟩ := ninebox2 hBf
        obtain ⟨B0, B1, B2, B3, B4, B5, B6, B7, B8, hzB⟩ := ninebox2' hBf
        obtain ⟨X0, X1, X2, X3, X4, X5, X6, X7, X8, hzX⟩ := ninebox hXf
        obtain ⟨Y0, Y1, Y2, Y3, Y4, Y5, Y6, Y7, Y8, hzY⟩ := ninebox hYf
        have hAf := bstep (bstep (balloc _ _) (balloc _ _)) hBf
        clear hBf hXf hYf Hl Hf Hg
        go_wp2_with fail
        go_region_held3 (fun W => W.cell? ⟨w.heap.size, 0, none⟩ = some (.int .i64 a.1.1) ∧ W.cell? ⟨w.heap.size, 1, none⟩ = some (.string ⟨a.1.2.1.toArray⟩) ∧ W.cell? ⟨w.heap.size, 2, none⟩ = some (.string ⟨a.1.2.2.toArray⟩) ∧ W.cell? ⟨w.heap.size, 3, none⟩ = some (.int .i64 a.2.1.1) ∧ W.cell? ⟨w.heap.size, 4, none⟩ = some (.string ⟨a.2.1.2.1.toArray⟩) ∧ W.cell? ⟨w.heap.size, 5, none⟩ = some (.string ⟨a.2.1.2.2.toArray⟩) ∧ W.cell? ⟨w.heap.size, 6, none⟩ = some (.int .i64 a.2.2.1) ∧ W.cell? ⟨w.heap.size, 7, none⟩ = some (.string ⟨a.2.2.2.1.toArray⟩) ∧ W.cell? ⟨w.heap.size, 8, none⟩ = some (.string ⟨a.2.2.2.2.toArray⟩) ∧ W.cell? ⟨w.heap.size + 1, 0, none⟩ = some (.int .i64 b.1.1) ∧ W.cell? ⟨w.heap.size + 1, 1, none⟩ = some (.string ⟨b.1.2.1.toArray⟩) ∧ W.cell? ⟨w.heap.size + 1, 2, none⟩ = some (.string ⟨b.1.2.2.toArray⟩) ∧ W.cell? ⟨w.heap.size + 1, 3, none⟩ = some (.int .i64 b.2.1.1) ∧ W.cell? ⟨w.heap.size + 1, 4, none⟩ = some (.string ⟨b.2.1.2.1.toArray⟩) ∧ W.cell? ⟨w.heap.size + 1, 5, none⟩ = some (.string ⟨b.2.1.2.2.toArray⟩) ∧ W.cell? ⟨w.heap.size + 1, 6, none⟩ = some (.int .i64 b.2.2.1) ∧ W.cell? ⟨w.heap.size + 1, 7, none⟩ = some (.string ⟨b.2.2.2.1.toArray⟩) ∧ W.cell? ⟨w.heap.size + 1, 8, none⟩ = some (.string ⟨b.2.2.2.2.toArray⟩) ∧ W.cell? ⟨w7.heap.size, 0, none⟩ = some (.int .i64 x.1.1) ∧ W.cell? ⟨w7.heap.size, 1, none⟩ = some (.string ⟨x.1.2.1.toArray⟩) ∧ W.cell? ⟨w7.heap.size, 2, none⟩ = some (.string ⟨x.1.2.2.toArray⟩) ∧ W.cell? ⟨w7.heap.size, 3, none⟩ = some (.int .i64 x.2.1.1) ∧ W.cell? ⟨w7.heap.size, 4, none⟩ = some (.string ⟨x.2.1.2.1.toArray⟩) ∧ W.cell? ⟨w7.heap.size, 5, none⟩ = some (.string ⟨x.2.1.2.2.toArray⟩) ∧ W.cell? ⟨w7.heap.size, 6, none⟩ = some (.int .i64 x.2.2.1) ∧ W.cell? ⟨w7.heap.size, 7, none⟩ = some (.string ⟨x.2.2.2.1.toArray⟩) ∧ W.cell? ⟨w7.heap.size, 8, none⟩ = some (.string ⟨x.2.2.2.2.toArray⟩) ∧ W.cell? ⟨w8.heap.size, 0, none⟩ = some (.int .i64 x.1.1) ∧ W.cell? ⟨w8.heap.size, 1, none⟩ = some (.string ⟨x.1.2.1.toArray⟩) ∧ W.cell? ⟨w8.heap.size, 2, none⟩ = some (.string ⟨x.1.2.2.toArray⟩) ∧ W.cell? ⟨w8.heap.size, 3, none⟩ = some (.int .i64 x.2.1.1) ∧ W.cell? ⟨w8.heap.size, 4, none⟩ = some (.string ⟨x.2.1.2.1.toArray⟩) ∧ W.cell? ⟨w8.heap.size, 5, none⟩ = some (.string ⟨x.2.1.2.2.toArray⟩) ∧ W.cell? ⟨w8.heap.size, 6, none⟩ = some (.int .i64 x.2.2.1) ∧ W.cell? ⟨w8.heap.size, 7, none⟩ = some (.string ⟨x.2.2.2.1.toArray⟩) ∧ W.cell? ⟨w8.heap.size, 8, none⟩ = some (.string ⟨x.2.2.2.2.toArray⟩)) (first | exact keep36 (by assumption) hbC | exact keep36 (by assumption) hbO | go_keep) (first
          | (go_at_call 16; refine (HC _).mono ?_; rintro e wc ⟨rfl, hbC⟩)
          | (go_at_call 17; refine (HO _).mono ?_; rintro e wo ⟨rfl, hbO⟩))
        all_goals
          go_wp2
          go_ret
          exact ⟨rfl, bstep (bstep hAf.drew hbC) hbO⟩

    · have hd : decide ((l.length : Int) > 200) = false := by simp; omega
      have fin : Hid (sortN l = firstUpto (chkAt l) l.length) := if_neg h200
      go_wp2_with fail
      go_loopw [9, 19] (fun ev iv wr => ∃ k : Nat, k ≤ l.length ∧ iv = .int .i64 k ∧ ev = .int .i64 (firstUpto (chkAt l) k) ∧ RowKit.Below w12.heap.size w12 wr) (fun _ iv wr => l.length - (intOf iv).toNat)
      case atStart => exact ⟨0, Nat.zero_le _, rfl, rfl, RowKit.Below.refl _ _⟩
      case round =>
        obtain ⟨k, hk, rfl, rfl, hbr⟩ := hrel
        have hA := bstep hA12 hbr
        have hB := bstep hB12 hbr
        have hX := bstep hX12 hbr
        have hY := bstep hY12 hbr
        by_cases hkl : k < l.length
        · by_cases h0 : firstUpto (chkAt l) k = 0
          · obtain ⟨bq, oq, rfl, hr⟩ := (Hl.out.below hA).at k hkl
            obtain ⟨c0, c1, c2, c3, c4, c5, c6, c7, c8⟩ := hr.at k hkl
            have HR := fun W => RTriple_any l[k] W (Hf.out _ (List.getElem_mem hkl))
            have hnx : Hid (firstUpto (chkAt l) (k + 1) = chkTr l[k]) := by show _ = _; rw [firstUpto, if_pos h0, chkAt_eq l k hkl]
            have i0 : (0 : Int) ≤ (k : Int) := by omega
            have i1 : (k : Int) < (l.length : Int) := by omega
            rw [h0]
            unfold valTr at HR
            generalize l[k] = y at *
            clear hr h0
            go_wp2_with fail
            refine (HR _).mono ?_
            rintro e w20 ⟨rfl, hb20⟩
            go_wp2_with fail
            exact ⟨⟨k + 1, by omega, by go_num, by rw [hnx.out], bstep hbr hb20⟩, by simp [intOf]; omega⟩
          · have hEs : firstUpto (chkAt l) k = sortN l := by rw [fin.out]; exact (firstUpto_mono _ _ _ h0 hk).symm
            have hbad : sortN l ≠ 0 := by rw [← hEs]; exact h0
            generalize firstUpto (chkAt l) k = E at *
            have hE := hEs
            have hE0 : (E == 0) = false := by simpa using h0
            clear hEs h0 hA12 hB12 hX12 hY12
            have i1 : decide ((k : Int) < (l.length : Int)) = true := by simp; omega
            have HB := fun W hW => Sort_bad ad cap l W hW Hf.out hn hbad
            rw [← hE] at HB
            go_wp2_with fail
            refine (HB _ (Hl.out.below hA)).mono ?_
            rintro e w11 ⟨rfl, hb11⟩
            have hB11 := bstep hB hb11
            have hX11 := bstep hX hb11
            have hY11 := bstep hY hb11
            have hA11 := bstep hA hb11
            go_wp2_with fail
            refine (SameError_same _ _ (Hg.out.below hA11)).mono ?_
            rintro e w12 ⟨rfl, hb12⟩
            have hB12 := bstep hB11 hb12
            have hX12 := bstep hX11 hb12
            have hY12 := bstep hY11 hb12
            have hA12 := bstep hA11 hb12
            go_wp2_with fail
            refine (SameNil _).mono ?_
            rintro e w13 ⟨rfl, hb13⟩
            have hBf := bstep hB12 hb13
            have hXf := bstep hX12 hb13
            have hYf := bstep hY12 hb13
            clear hb11 hb12 hb13 hB11 hB12 hX11 hX12 hY11 hY12 hA11 hA12 hA hB hX hY HB
            obtain ⟨A0, A1, A2, A3, A4, A5, A6, A7, A8, hzA⟩ := ninebox2 hBf
            obtain ⟨B0, B1, B2, B3, B4, B5, B6, B7, B8, hzB⟩ := ninebox2' hBf
            obtain ⟨X0, X1, X2, X3, X4, X5, X6, X7, X8, hzX⟩ := ninebox hXf
            obtain ⟨Y0, Y1, Y2, Y3, Y4, Y5, Y6, Y7, Y8, hzY⟩ := ninebox hYf
            have hAf := bstep (bstep (balloc _ _) (balloc _ _)) hBf
            clear hBf hXf hYf Hl Hf Hg
            go_wp2_with fail
            go_region_held3 (fun W => W.cell? ⟨w.heap.size, 0, none⟩ = some (.int .i64 a.1.1) ∧ W.cell? ⟨w.heap.size, 1, none⟩ = some (.string ⟨a.1.2.1.toArray⟩) ∧ W.cell? ⟨w.heap.size, 2, none⟩ = some (.string ⟨a.1.2.2.toArray⟩) ∧ W.cell? ⟨w.heap.size, 3, none⟩ = some (.int .i64 a.2.1.1) ∧ W.cell? ⟨w.heap.size, 4, none⟩ = some (.string ⟨a.2.1.2.1.toArray⟩) ∧ W.cell? ⟨w.heap.size, 5, none⟩ = some (.string ⟨a.2.1.2.2.toArray⟩) ∧ W.cell? ⟨w.heap.size, 6, none⟩ = some (.int .i64 a.2.2.1) ∧ W.cell? ⟨w.heap.size, 7, none⟩ = some (.string ⟨a.2.2.2.1.toArray⟩) ∧ W.cell? ⟨w.heap.size, 8, none⟩ = some (.string ⟨a.2.2.2.2.toArray⟩) ∧ W.cell? ⟨w.heap.size + 1, 0, none⟩ = some (.int .i64 b.1.1) ∧ W.cell? ⟨w.heap.size + 1, 1, none⟩ = some (.string ⟨b.1.2.1.toArray⟩) ∧ W.cell? ⟨w.heap.size + 1, 2, none⟩ = some (.string ⟨b.1.2.2.toArray⟩) ∧ W.cell? ⟨w.heap.size + 1, 3, none⟩ = some (.int .i64 b.2.1.1) ∧ W.cell? ⟨w.heap.size + 1, 4, none⟩ = some (.string ⟨b.2.1.2.1.toArray⟩) ∧ W.cell? ⟨w.heap.size + 1, 5, none⟩ = some (.string ⟨b.2.1.2.2.toArray⟩) ∧ W.cell? ⟨w.heap.size + 1, 6, none⟩ = some (.int .i64 b.2.2.1) ∧ W.cell? ⟨w.heap.size + 1, 7, none⟩ = some (.string ⟨b.2.2.2.1.toArray⟩) ∧ W.cell? ⟨w.heap.size + 1, 8, none⟩ = some (.string ⟨b.2.2.2.2.toArray⟩) ∧ W.cell? ⟨w7.heap.size, 0, none⟩ = some (.int .i64 x.1.1) ∧ W.cell? ⟨w7.heap.size, 1, none⟩ = some (.string ⟨x.1.2.1.toArray⟩) ∧ W.cell? ⟨w7.heap.size, 2, none⟩ = some (.string ⟨x.1.2.2.toArray⟩) ∧ W.cell? ⟨w7.heap.size, 3, none⟩ = some (.int .i64 x.2.1.1) ∧ W.cell? ⟨w7.heap.size, 4, none⟩ = some (.string ⟨x.2.1.2.1.toArray⟩) ∧ W.cell? ⟨w7.heap.size, 5, none⟩ = some (.string ⟨x.2.1.2.2.toArray⟩) ∧ W.cell? ⟨w7.heap.size, 6, none⟩ = some (.int .i64 x.2.2.1) ∧ W.cell? ⟨w7.heap.size, 7, none⟩ = some (.string ⟨x.2.2.2.1.toArray⟩) ∧ W.cell? ⟨w7.heap.size, 8, none⟩ = some (.string ⟨x.2.2.2.2.toArray⟩) ∧ W.cell? ⟨w8.heap.size, 0, none⟩ = some (.int .i64 x.1.1) ∧ W.cell? ⟨w8.heap.size, 1, none⟩ = some (.string ⟨x.1.2.1.toArray⟩) ∧ W.cell? ⟨w8.heap.size, 2, none⟩ = some (.string ⟨x.1.2.2.toArray⟩) ∧ W.cell? ⟨w8.heap.size, 3, none⟩ = some (.int .i64 x.2.1.1) ∧ W.cell? ⟨w8.heap.size, 4, none⟩ = some (.string ⟨x.2.1.2.1.toArray⟩) ∧ W.cell? ⟨w8.heap.size, 5, none⟩ = some (.string ⟨x.2.1.2.2.toArray⟩) ∧ W.cell? ⟨w8.heap.size, 6, none⟩ = some (.int .i64 x.2.2.1) ∧ W.cell? ⟨w8.heap.size, 7, none⟩ = some (.string ⟨x.2.2.2.1.toArray⟩) ∧ W.cell? ⟨w8.heap.size, 8, none⟩ = some (.string ⟨x.2.2.2.2.toArray⟩)) (first | exact keep36 (by assumption) hbC | exact keep36 (by assumption) hbO | go_keep) (first
              | (go_at_call 16; refine (HC _).mono ?_; rintro e wc ⟨rfl, hbC⟩)
              | (go_at_call 17; refine (HO _).mono ?_; rintro e wo ⟨rfl, hbO⟩))
            all_goals
              go_wp2
              go_ret
              exact ⟨rfl, bstep (bstep hAf.drew hbC) hbO⟩

        · obtain rfl : k = l.length := by omega
          have hEs : firstUpto (chkAt l) l.length = sortN l := fin.out.symm
          have i1 : decide ((l.length : Int) < (l.length : Int)) = false := by simp
          by_cases h0 : sortN l = 0
          · have hgood := h0
            rw [hEs, h0]
            clear hEs h0 hA12 hB12 hX12 hY12 fin
            go_wp2_with fail
            refine (RSorted_any ad cap l _ (Hl.out.below hA) (by omega)).mono ?_
            rintro e w10 ⟨m1, ad1, cc1, rfl, hs1, hr1, hm1, hl1, hb10⟩
            have hB10 := bstep hB hb10
            have hX10 := bstep hX hb10
            have hY10 := bstep hY hb10
            have hA10 := bstep hA hb10
            have Hs1 : Hid (SlT w10 ad1 m1) := hs1
            have Hm1 : Hid (Rising m1 ∧ ∀ x, x ∈ m1 ↔ x ∈ l) := ⟨hr1, hm1⟩
            clear hs1 hr1 hm1
            go_wp2_with fail
            refine (Sort_good ad cap l _ (Hl.out.below hA10) hgood).mono ?_
            rintro e w11 ⟨hb11, m2, ad2, cc2, rfl, hs2, hr2, hm2, hl2⟩
            obtain rfl : m2 = m1 := rising_unique _ _ hr2 Hm1.out.1 fun x => (hm2 x).trans (Hm1.out.2 x).symm
            have hB11 := bstep hB10 hb11
            have hX11 := bstep hX10 hb11
            have hY11 := bstep hY10 hb11
            have hA11 := bstep hA10 hb11
            have Hs2 : Hid (SlT w11 ad2 m2 ∧ SlT w11 ad1 m2) := ⟨hs2, Hs1.out.below hb11⟩
            clear hs2 hr2 hm2 Hs1 Hm1
            go_wp2_with fail
            refine (SameError_nil _ (Hg.out.below hA11)).mono ?_
            rintro e w12 ⟨rfl, hb12⟩
            have hB12 := bstep hB11 hb12
            have hX12 := bstep hX11 hb12
            have hY12 := bstep hY11 hb12
            have hA12 := bstep hA11 hb12
            have HT := SameTriples_any ad2 ad1 cc2 cc1 m2 m2 w12 (Hs2.out.1.below hb12) (Hs2.out.2.below hb12) (by omega) (by omega)
            rw [show decide (m2 = m2) = true by simp] at HT
            clear Hs2
            go_wp2_with fail
            refine HT.mono ?_
            rintro e w13 ⟨rfl, hb13⟩
            have hBf := bstep hB12 hb13
            have hXf := bstep hX12 hb13
            have hYf := bstep hY12 hb13
            clear hb10 hb11 hb12 hb13 hB10 hB11 hB12 hX10 hX11 hX12 hY10 hY11 hY12 hA10 hA11 hA12 hA hB hX hY HT
            obtain ⟨A0, A1, A2, A3, A4, A5, A6, A7, A8, hzA⟩ := ninebox2 hBf
            obtain ⟨B0, B1, B2, B3, B4, B5, B6, B7, B8, hzB⟩ := ninebox2' hBf
            obtain ⟨X0, X1, X2, X3, X4, X5, X6, X7, X8, hzX⟩ := ninebox hXf
            obtain ⟨Y0, Y1, Y2, Y3, Y4, Y5, Y6, Y7, Y8, hzY⟩ := ninebox hYf
            have hAf := bstep (bstep (balloc _ _) (balloc _ _)) hBf
            clear hBf hXf hYf Hl Hf Hg
            go_wp2_with fail
            go_region_held3 (fun W => W.cell? ⟨w.heap.size, 0, none⟩ = some (.int .i64 a.1.1) ∧ W.cell? ⟨w.heap.size, 1, none⟩ = some (.string ⟨a.1.2.1.toArray⟩) ∧ W.cell? ⟨w.heap.size, 2, none⟩ = some (.string ⟨a.1.2.2.toArray⟩) ∧ W.cell? ⟨w.heap.size, 3, none⟩ = some (.int .i64 a.2.1.1) ∧ W.cell? ⟨w.heap.size, 4, none⟩ = some (.string ⟨a.2.1.2.1.toArray⟩) ∧ W.cell? ⟨w.heap.size, 5, none⟩ = some (.string ⟨a.2.1.2.2.toArray⟩) ∧ W.cell? ⟨w.heap.size, 6, none⟩ = some (.int .i64 a.2.2.1) ∧ W.cell? ⟨w.heap.size, 7, none⟩ = some (.string ⟨a.2.2.2.1.toArray⟩) ∧ W.cell? ⟨w.heap.size, 8, none⟩ = some (.string ⟨a.2.2.2.2.toArray⟩) ∧ W.cell? ⟨w.heap.size + 1, 0, none⟩ = some (.int .i64 b.1.1) ∧ W.cell? ⟨w.heap.size + 1, 1, none⟩ = some (.string ⟨b.1.2.1.toArray⟩) ∧ W.cell? ⟨w.heap.size + 1, 2, none⟩ = some (.string ⟨b.1.2.2.toArray⟩) ∧ W.cell? ⟨w.heap.size + 1, 3, none⟩ = some (.int .i64 b.2.1.1) ∧ W.cell? ⟨w.heap.size + 1, 4, none⟩ = some (.string ⟨b.2.1.2.1.toArray⟩) ∧ W.cell? ⟨w.heap.size + 1, 5, none⟩ = some (.string ⟨b.2.1.2.2.toArray⟩) ∧ W.cell? ⟨w.heap.size + 1, 6, none⟩ = some (.int .i64 b.2.2.1) ∧ W.cell? ⟨w.heap.size + 1, 7, none⟩ = some (.string ⟨b.2.2.2.1.toArray⟩) ∧ W.cell? ⟨w.heap.size + 1, 8, none⟩ = some (.string ⟨b.2.2.2.2.toArray⟩) ∧ W.cell? ⟨w7.heap.size, 0, none⟩ = some (.int .i64 x.1.1) ∧ W.cell? ⟨w7.heap.size, 1, none⟩ = some (.string ⟨x.1.2.1.toArray⟩) ∧ W.cell? ⟨w7.heap.size, 2, none⟩ = some (.string ⟨x.1.2.2.toArray⟩) ∧ W.cell? ⟨w7.heap.size, 3, none⟩ = some (.int .i64 x.2.1.1) ∧ W.cell? ⟨w7.heap.size, 4, none⟩ = some (.string ⟨x.2.1.2.1.toArray⟩) ∧ W.cell? ⟨w7.heap.size, 5, none⟩ = some (.string ⟨x.2.1.2.2.toArray⟩) ∧ W.cell? ⟨w7.heap.size, 6, none⟩ = some (.int .i64 x.2.2.1) ∧ W.cell? ⟨w7.heap.size, 7, none⟩ = some (.string ⟨x.2.2.2.1.toArray⟩) ∧ W.cell? ⟨w7.heap.size, 8, none⟩ = some (.string ⟨x.2.2.2.2.toArray⟩) ∧ W.cell? ⟨w8.heap.size, 0, none⟩ = some (.int .i64 x.1.1) ∧ W.cell? ⟨w8.heap.size, 1, none⟩ = some (.string ⟨x.1.2.1.toArray⟩) ∧ W.cell? ⟨w8.heap.size, 2, none⟩ = some (.string ⟨x.1.2.2.toArray⟩) ∧ W.cell? ⟨w8.heap.size, 3, none⟩ = some (.int .i64 x.2.1.1) ∧ W.cell? ⟨w8.heap.size, 4, none⟩ = some (.string ⟨x.2.1.2.1.toArray⟩) ∧ W.cell? ⟨w8.heap.size, 5, none⟩ = some (.string ⟨x.2.1.2.2.toArray⟩) ∧ W.cell? ⟨w8.heap.size, 6, none⟩ = some (.int .i64 x.2.2.1) ∧ W.cell? ⟨w8.heap.size, 7, none⟩ = some (.string ⟨x.2.2.2.1.toArray⟩) ∧ W.cell? ⟨w8.heap.size, 8, none⟩ = some (.string ⟨x.2.2.2.2.toArray⟩)) (first | exact keep36 (by assumption) hbC | exact keep36 (by assumption) hbO | go_keep) (first
              | (go_at_call 16; refine (HC _).mono ?_; rintro e wc ⟨rfl, hbC⟩)
              | (go_at_call 17; refine (HO _).mono ?_; rintro e wo ⟨rfl, hbO⟩))
            all_goals
              go_wp2
              go_ret
              exact ⟨rfl, bstep (bstep hAf.drew hbC) hbO⟩

          · have hbad := h0
            generalize firstUpto (chkAt l) l.length = E at *
            have hE := hEs
            have hE0 : (E == 0) = false := by rw [hE]; simpa using h0
            clear hEs h0 hA12 hB12 hX12 hY12
            have HB := fun W hW => Sort_bad ad cap l W hW Hf.out hn hbad
            rw [← hE] at HB
            go_wp2_with fail
            refine (HB _ (Hl.out.below hA)).mono ?_
            rintro e w11 ⟨rfl, hb11⟩
            have hB11 := bstep hB hb11
            have hX11 := bstep hX hb11
            have hY11 := bstep hY hb11
            have hA11 := bstep hA hb11
            go_wp2_with fail
            refine (SameError_same _ _ (Hg.out.below hA11)).mono ?_
            rintro e w12 ⟨rfl, hb12⟩
            have hB12 := bstep hB11 hb12
            have hX12 := bstep hX11 hb12
            have hY12 := bstep hY11 hb12
            have hA12 := bstep hA11 hb12
            go_wp2_with fail
            refine (SameNil _).mono ?_
            rintro e w13 ⟨rfl, hb13⟩
            have hBf := bstep hB12 hb13
            have hXf := bstep hX12 hb13
            have hYf := bstep hY12 hb13
            clear hb11 hb12 hb13 hB11 hB12 hX11 hX12 hY11 hY12 hA11 hA12 hA hB hX hY HB
            obtain ⟨A0, A1, A2, A3, A4, A5, A6, A7, A8, hzA⟩ := ninebox2 hBf
            obtain ⟨B0, B1, B2, B3, B4, B5, B6, B7, B8, hzB⟩ := ninebox2' hBf
            obtain ⟨X0, X1, X2, X3, X4, X5, X6, X7, X8, hzX⟩ := ninebox hXf
            obtain ⟨Y0, Y1, Y2, Y3, Y4, Y5, Y6, Y7, Y8, hzY⟩ := ninebox hYf
            have hAf := bstep (bstep (balloc _ _) (balloc _ _)) hBf
            clear hBf hXf hYf Hl Hf Hg
            go_wp2_with fail
            go_region_held3 (fun W => W.cell? ⟨w.heap.size, 0, none⟩ = some (.int .i64 a.1.1) ∧ W.cell? ⟨w.heap.size, 1, none⟩ = some (.string ⟨a.1.2.1.toArray⟩) ∧ W.cell? ⟨w.heap.size, 2, none⟩ = some (.string ⟨a.1.2.2.toArray⟩) ∧ W.cell? ⟨w.heap.size, 3, none⟩ = some (.int .i64 a.2.1.1) ∧ W.cell? ⟨w.heap.size, 4, none⟩ = some (.string ⟨a.2.1.2.1.toArray⟩) ∧ W.cell? ⟨w.heap.size, 5, none⟩ = some (.string ⟨a.2.1.2.2.toArray⟩) ∧ W.cell? ⟨w.heap.size, 6, none⟩ = some (.int .i64 a.2.2.1) ∧ W.cell? ⟨w.heap.size, 7, none⟩ = some (.string ⟨a.2.2.2.1.toArray⟩) ∧ W.cell? ⟨w.heap.size, 8, none⟩ = some (.string ⟨a.2.2.2.2.toArray⟩) ∧ W.cell? ⟨w.heap.size + 1, 0, none⟩ = some (.int .i64 b.1.1) ∧ W.cell? ⟨w.heap.size + 1, 1, none⟩ = some (.string ⟨b.1.2.1.toArray⟩) ∧ W.cell? ⟨w.heap.size + 1, 2, none⟩ = some (.string ⟨b.1.2.2.toArray⟩) ∧ W.cell? ⟨w.heap.size + 1, 3, none⟩ = some (.int .i64 b.2.1.1) ∧ W.cell? ⟨w.heap.size + 1, 4, none⟩ = some (.string ⟨b.2.1.2.1.toArray⟩) ∧ W.cell? ⟨w.heap.size + 1, 5, none⟩ = some (.string ⟨b.2.1.2.2.toArray⟩) ∧ W.cell? ⟨w.heap.size + 1, 6, none⟩ = some (.int .i64 b.2.2.1) ∧ W.cell? ⟨w.heap.size + 1, 7, none⟩ = some (.string ⟨b.2.2.2.1.toArray⟩) ∧ W.cell? ⟨w.heap.size + 1, 8, none⟩ = some (.string ⟨b.2.2.2.2.toArray⟩) ∧ W.cell? ⟨w7.heap.size, 0, none⟩ = some (.int .i64 x.1.1) ∧ W.cell? ⟨w7.heap.size, 1, none⟩ = some (.string ⟨x.1.2.1.toArray⟩) ∧ W.cell? ⟨w7.heap.size, 2, none⟩ = some (.string ⟨x.1.2.2.toArray⟩) ∧ W.cell? ⟨w7.heap.size, 3, none⟩ = some (.int .i64 x.2.1.1) ∧ W.cell? ⟨w7.heap.size, 4, none⟩ = some (.string ⟨x.2.1.2.1.toArray⟩) ∧ W.cell? ⟨w7.heap.size, 5, none⟩ = some (.string ⟨x.2.1.2.2.toArray⟩) ∧ W.cell? ⟨w7.heap.size, 6, none⟩ = some (.int .i64 x.2.2.1) ∧ W.cell? ⟨w7.heap.size, 7, none⟩ = some (.string ⟨x.2.2.2.1.toArray⟩) ∧ W.cell? ⟨w7.heap.size, 8, none⟩ = some (.string ⟨x.2.2.2.2.toArray⟩) ∧ W.cell? ⟨w8.heap.size, 0, none⟩ = some (.int .i64 x.1.1) ∧ W.cell? ⟨w8.heap.size, 1, none⟩ = some (.string ⟨x.1.2.1.toArray⟩) ∧ W.cell? ⟨w8.heap.size, 2, none⟩ = some (.string ⟨x.1.2.2.toArray⟩) ∧ W.cell? ⟨w8.heap.size, 3, none⟩ = some (.int .i64 x.2.1.1) ∧ W.cell? ⟨w8.heap.size, 4, none⟩ = some (.string ⟨x.2.1.2.1.toArray⟩) ∧ W.cell? ⟨w8.heap.size, 5, none⟩ = some (.string ⟨x.2.1.2.2.toArray⟩) ∧ W.cell? ⟨w8.heap.size, 6, none⟩ = some (.int .i64 x.2.2.1) ∧ W.cell? ⟨w8.heap.size, 7, none⟩ = some (.string ⟨x.2.2.2.1.toArray⟩) ∧ W.cell? ⟨w8.heap.size, 8, none⟩ = some (.string ⟨x.2.2.2.2.toArray⟩)) (first | exact keep36 (by assumption) hbC | exact keep36 (by assumption) hbO | go_keep) (first
              | (go_at_call 16; refine (HC _).mono ?_; rintro e wc ⟨rfl, hbC⟩)
              | (go_at_call 17; refine (HO _).mono ?_; rintro e wo ⟨rfl, hbO⟩))
            all_goals
              go_wp2
              go_ret
              exact ⟨rfl, bstep (bstep hAf.drew hbC) hbO⟩

end Go.Proofs.YtnlcfnpcjkcdmaaGreatDoor
