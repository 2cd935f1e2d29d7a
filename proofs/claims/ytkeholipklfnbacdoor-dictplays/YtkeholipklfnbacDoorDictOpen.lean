/- dict.Open: what it tells. -/
import Derived.Test.YtkeholipklfnbacDoorDictPack
namespace Go.Proofs.YtkeholipklfnbacDoor
open Go Go.RowKit Go.Proofs Go.Maps
set_option synthInstance.maxSize 1000

attribute [local go_sem] eql_errV neq_errV guard_errV

theorem indexI0 (a b c : Value) (w : World) : (Instr.index 41 (.agg #[a, b, c]) (.int .i64 0)).run Tryd.prog w = .ok a w := by kernel_rfl
theorem indexI1 (a b c : Value) (w : World) : (Instr.index 41 (.agg #[a, b, c]) (.int .i64 1)).run Tryd.prog w = .ok b w := by kernel_rfl
theorem indexI2 (a b c : Value) (w : World) : (Instr.index 41 (.agg #[a, b, c]) (.int .i64 2)).run Tryd.prog w = .ok c w := by kernel_rfl
attribute [local go_sem ↓] indexI0 indexI1 indexI2

/-- what Open tells -/
def zeroTr0 : Tr := (zeroTm, zeroTm, zeroTm)
def atTr (L : List Tm) (i : Int × Int × Int) : Tr := (atN L i.1, atN L i.2.1, atN L i.2.2)
def openE (L : List Tm) (i : Int × Int × Int) : Int := if atE L i.1 = 0 then (if atE L i.2.1 = 0 then (if atE L i.2.2 = 0 then chkTr (atTr L i) else atE L i.2.2) else atE L i.2.1) else atE L i.1
def openT (L : List Tm) (i : Int × Int × Int) : Tr := if openE L i = 0 then atTr L i else zeroTr0
def wfI (i : Int × Int × Int) : Prop := (Lit.int .i64 i.1).wf = true ∧ (Lit.int .i64 i.2.1).wf = true ∧ (Lit.int .i64 i.2.2).wf = true

theorem atE_zero {L : List Tm} {n : Int} : atE L n = 0 ↔ 1 ≤ n ∧ n ≤ L.length := by
  unfold atE
  by_cases h : 1 ≤ n ∧ n ≤ (L.length : Int)
  · rw [if_pos h]; exact ⟨fun _ => h, fun _ => rfl⟩
  · rw [if_neg h]; exact ⟨fun e => absurd e (by decide), fun e => absurd e h⟩
theorem fit_of_chk {x : Tm} (h : chkTm x = 0) : fitTm x := by
  have h1 := (check_zero h).2.1
  have h2 := spell_lang (check_zero h).2.2
  exact ⟨by unfold maxLen; omega, by unfold maxLen; omega⟩
theorem fit_at {L : List Tm} (hL : ∀ x ∈ L, chkTm x = 0) {n : Int} (h : atE L n = 0) : fitTm (atN L n) := fit_of_chk (hL _ (atN_mem (atE_zero.1 h)))

theorem Arr.alloc {W : World} {b : Nat} {vs : Array Value} {t : TypeId} (h : Arr W b vs t) (o : Obj) : Arr (W.alloc o) b vs t := h.below (balloc W o) h.lt
theorem below_nine {B b : Nat} {w W : World} (h : RowKit.Below B w W) (hb : B ≤ b) (v0 v1 v2 v3 v4 v5 v6 v7 v8 : Value) : RowKit.Below B w (((((((((W.setCell ⟨b, 0, none⟩ v0).setCell ⟨b, 1, none⟩ v1).setCell ⟨b, 2, none⟩ v2).setCell ⟨b, 3, none⟩ v3).setCell ⟨b, 4, none⟩ v4).setCell ⟨b, 5, none⟩ v5).setCell ⟨b, 6, none⟩ v6).setCell ⟨b, 7, none⟩ v7).setCell ⟨b, 8, none⟩ v8) :=
  ((((((((h.setCell (p := ⟨b, 0, none⟩) hb v0).setCell (p := ⟨b, 1, none⟩) hb v1).setCell (p := ⟨b, 2, none⟩) hb v2).setCell (p := ⟨b, 3, none⟩) hb v3).setCell (p := ⟨b, 4, none⟩) hb v4).setCell (p := ⟨b, 5, none⟩) hb v5).setCell (p := ⟨b, 6, none⟩) hb v6).setCell (p := ⟨b, 7, none⟩) hb v7).setCell (p := ⟨b, 8, none⟩) hb v8
theorem below_three {B b o : Nat} {w W : World} (h : RowKit.Below B w W) (hb : B ≤ b) (v0 v1 v2 : Value) : RowKit.Below B w (((W.setCell ⟨b, o, none⟩ v0).setCell ⟨b, o + 1, none⟩ v1).setCell ⟨b, o + 2, none⟩ v2) :=
  ((h.setCell (p := ⟨b, o, none⟩) hb v0).setCell (p := ⟨b, o + 1, none⟩) hb v1).setCell (p := ⟨b, o + 2, none⟩) hb v2

set_option maxHeartbeats 8000000 in
set_option maxRecDepth 100000 in
theorem Open_any (n0 : Nat) (L : List Tm) (i : Int × Int × Int) (w : World) (h : DictAt w n0 L) (hL : ∀ x ∈ L, chkTm x = 0) (hi : wfI i) :
    Calls Tryd.prog 13 #[.pointer (some ⟨n0 + 2, 0, none⟩), valI i] w fun e w' => e = .returned (.tuple #[valTr (openT L i), errV (openE L i)]) ∧ RowKit.Below w.heap.size w w' := by
  have T0 := fun W hW => Term_any n0 L i.1 W hW hi.1
  have T1 := fun W hW => Term_any n0 L i.2.1 W hW hi.2.1
  have T2 := fun W hW => Term_any n0 L i.2.2 W hW hi.2.2
  have HC : Hid (atE L i.1 = 0 → atE L i.2.1 = 0 → atE L i.2.2 = 0 → ∀ W, Calls Tryd.prog 23 #[valTr (atTr L i)] W fun e w' => e = .returned (errV (chkTr (atTr L i))) ∧ RowKit.Below W.heap.size W w') :=
    fun h1 h2 h3 W => ChkTr_any (atTr L i) W ⟨fit_at hL h1, fit_at hL h2, fit_at hL h3⟩
  have fin : Hid (openE L i = if atE L i.1 = 0 then (if atE L i.2.1 = 0 then (if atE L i.2.2 = 0 then chkTr (atTr L i) else atE L i.2.2) else atE L i.2.1) else atE L i.1) := rfl
  have fin2 : Hid (openT L i = if openE L i = 0 then atTr L i else zeroTr0) := rfl
  have eT : atTr L i = (atN L i.1, atN L i.2.1, atN L i.2.2) := rfl
  rw [eT] at HC fin fin2
  have hlt := h.lt
  have HD : Hid (DictAt w n0 L) := h
  clear h hL hi eT
  generalize openT L i = T at *
  generalize openE L i = N at *
  generalize atE L i.1 = m0 at *
  generalize atE L i.2.1 = m1 at *
  generalize atE L i.2.2 = m2 at *
  generalize atN L i.1 = y0 at *
  generalize atN L i.2.1 = y1 at *
  generalize atN L i.2.2 = y2 at *
  generalize chkTr (y0, y1, y2) = c at *
  obtain ⟨i0, i1, i2⟩ := i
  simp only at T0 T1 T2
  unfold valTm at T0 T1 T2
  unfold valI
  have ar : Hid (Arr ((w.alloc (.cells #[.int .i64 i0, .int .i64 i1, .int .i64 i2] 41)).alloc (.cells #[.int .i64 0, .string ⟨#[]⟩, .string ⟨#[]⟩, .int .i64 0, .string ⟨#[]⟩, .string ⟨#[]⟩, .int .i64 0, .string ⟨#[]⟩, .string ⟨#[]⟩] 39)) (w.heap.size + 1) #[.int .i64 0, .string ⟨#[]⟩, .string ⟨#[]⟩, .int .i64 0, .string ⟨#[]⟩, .string ⟨#[]⟩, .int .i64 0, .string ⟨#[]⟩, .string ⟨#[]⟩] 39) := by
    have := arr_made (w.alloc (.cells #[.int .i64 i0, .int .i64 i1, .int .i64 i2] 41)) #[.int .i64 0, .string ⟨#[]⟩, .string ⟨#[]⟩, .int .i64 0, .string ⟨#[]⟩, .string ⟨#[]⟩, .int .i64 0, .string ⟨#[]⟩, .string ⟨#[]⟩] 39
    simpa [Hid] using this
  have at3 : Hid (Arr (((w.alloc (.cells #[.int .i64 i0, .int .i64 i1, .int .i64 i2] 41)).alloc (.cells #[.int .i64 0, .string ⟨#[]⟩, .string ⟨#[]⟩, .int .i64 0, .string ⟨#[]⟩, .string ⟨#[]⟩, .int .i64 0, .string ⟨#[]⟩, .string ⟨#[]⟩] 39)).alloc (.cells #[.int .i64 0, .string ⟨#[]⟩, .string ⟨#[]⟩, .int .i64 0, .string ⟨#[]⟩, .string ⟨#[]⟩, .int .i64 0, .string ⟨#[]⟩, .string ⟨#[]⟩] 45)) (w.heap.size + 1 + 1) #[.int .i64 0, .string ⟨#[]⟩, .string ⟨#[]⟩, .int .i64 0, .string ⟨#[]⟩, .string ⟨#[]⟩, .int .i64 0, .string ⟨#[]⟩, .string ⟨#[]⟩] 45) := by
    have := arr_made ((w.alloc (.cells #[.int .i64 i0, .int .i64 i1, .int .i64 i2] 41)).alloc (.cells #[.int .i64 0, .string ⟨#[]⟩, .string ⟨#[]⟩, .int .i64 0, .string ⟨#[]⟩, .string ⟨#[]⟩, .int .i64 0, .string ⟨#[]⟩, .string ⟨#[]⟩] 39)) #[.int .i64 0, .string ⟨#[]⟩, .string ⟨#[]⟩, .int .i64 0, .string ⟨#[]⟩, .string ⟨#[]⟩, .int .i64 0, .string ⟨#[]⟩, .string ⟨#[]⟩] 45
    simpa [Hid] using this
  go_enter Tryd.func13, Tryd.ntmps13
  go_wp2_with fail
  go_loopw [14] (fun i wr => ((i = .int .i64 0 ∧ Hid (Arr wr (w.heap.size + 1 + 1) #[.int .i64 0, .string ⟨#[]⟩, .string ⟨#[]⟩, .int .i64 0, .string ⟨#[]⟩, .string ⟨#[]⟩, .int .i64 0, .string ⟨#[]⟩, .string ⟨#[]⟩] 45))
      ∨ (i = .int .i64 1 ∧ Hid (m0 = 0) ∧ Hid (Arr wr (w.heap.size + 1 + 1) #[.int .i64 y0.1, .string ⟨y0.2.1.toArray⟩, .string ⟨y0.2.2.toArray⟩, .int .i64 0, .string ⟨#[]⟩, .string ⟨#[]⟩, .int .i64 0, .string ⟨#[]⟩, .string ⟨#[]⟩] 45))
      ∨ (i = .int .i64 2 ∧ Hid (m0 = 0 ∧ m1 = 0) ∧ Hid (Arr wr (w.heap.size + 1 + 1) #[.int .i64 y0.1, .string ⟨y0.2.1.toArray⟩, .string ⟨y0.2.2.toArray⟩, .int .i64 y1.1, .string ⟨y1.2.1.toArray⟩, .string ⟨y1.2.2.toArray⟩, .int .i64 0, .string ⟨#[]⟩, .string ⟨#[]⟩] 45))
      ∨ (i = .int .i64 3 ∧ Hid (m0 = 0 ∧ m1 = 0 ∧ m2 = 0) ∧ Hid (Arr wr (w.heap.size + 1 + 1) #[.int .i64 y0.1, .string ⟨y0.2.1.toArray⟩, .string ⟨y0.2.2.toArray⟩, .int .i64 y1.1, .string ⟨y1.2.1.toArray⟩, .string ⟨y1.2.2.toArray⟩, .int .i64 y2.1, .string ⟨y2.2.1.toArray⟩, .string ⟨y2.2.2.toArray⟩] 45)))
      ∧ Hid (Arr wr (w.heap.size + 1) #[.int .i64 0, .string ⟨#[]⟩, .string ⟨#[]⟩, .int .i64 0, .string ⟨#[]⟩, .string ⟨#[]⟩, .int .i64 0, .string ⟨#[]⟩, .string ⟨#[]⟩] 39) ∧ RowKit.Below w.heap.size w wr) (fun i wr => 3 - (intOf i).toNat)
  case atStart =>
    exact ⟨.inl ⟨rfl, at3.out⟩, ar.out.below (balloc _ _) (by simp), bstep (bstep (balloc _ _) (balloc _ _)) (balloc _ _)⟩
  case round =>
    obtain ⟨hcs, hres, hbr⟩ := hrel
    have hDr := hide (HD.out.far hbr hlt)
    have hz1 := hres.out.lt
    rcases hcs with ⟨rfl, ha⟩ | ⟨rfl, hm, ha⟩ | ⟨rfl, hm, ha⟩ | ⟨rfl, hm, ha⟩
    · go_wp2_with fail
      refine (T0 _ hDr.out).mono ?_
      rintro e w1 ⟨rfl, hb1⟩
      have hB1 := bstep hbr hb1
      have hbx := bstep hb1 (balloc w1 (.cells #[.int .i64 y0.1, .string ⟨y0.2.1.toArray⟩, .string ⟨y0.2.2.toArray⟩] 29))
      have hBx := bstep hB1 (balloc w1 (.cells #[.int .i64 y0.1, .string ⟨y0.2.1.toArray⟩, .string ⟨y0.2.2.toArray⟩] 29))
      have ha1 := hide (ha.out.below hb1 ha.out.lt)
      have hq1 := hide (hres.out.below hb1 hz1)
      have hr1 := hide (hres.out.below hbx hz1)
      have hzx : w.heap.size + 1 + 1 < w1.heap.size := Nat.lt_of_lt_of_le ha.out.lt hb1.size
      clear ha hres hbx hb1 T0 T1 T2
      cases hc : (m0 == 0)
      · have hne : ¬ m0 = 0 := by simpa using hc
        have hN : N = m0 := by rw [fin.out, if_neg hne]
        have hT := hide (show T = zeroTr0 by rw [fin2.out, if_neg (by rw [hN]; exact hne)])
        have hN := hide hN
        have r0 := hr1.out.cell 0
        have g0 := hr1.out.thaw 0
        have r1 := hr1.out.cell 1
        have g1 := hr1.out.thaw 1
        have r2 := hr1.out.cell 2
        have g2 := hr1.out.thaw 2
        have r3 := hr1.out.cell 3
        have g3 := hr1.out.thaw 3
        have r4 := hr1.out.cell 4
        have g4 := hr1.out.thaw 4
        have r5 := hr1.out.cell 5
        have g5 := hr1.out.thaw 5
        have r6 := hr1.out.cell 6
        have g6 := hr1.out.thaw 6
        have r7 := hr1.out.cell 7
        have g7 := hr1.out.thaw 7
        have r8 := hr1.out.cell 8
        have g8 := hr1.out.thaw 8
        simp at r0 r1 r2 r3 r4 r5 r6 r7 r8
        clear fin fin2 hne HC ha1 hr1 hq1
        go_wp2_with fail
        exact bodyPost_ret (v := .tuple #[.agg #[.int .i64 0, .string ⟨#[]⟩, .string ⟨#[]⟩, .int .i64 0, .string ⟨#[]⟩, .string ⟨#[]⟩, .int .i64 0, .string ⟨#[]⟩, .string ⟨#[]⟩], errV m0]) (by unfold results; rw [Tryd.results13]; go_simp) rfl ⟨by rw [hN.out, hT.out]; rfl, below_nine hBx (by omega) _ _ _ _ _ _ _ _ _⟩
      · have hk0 : m0 = 0 := by simpa using hc
        have he := hide (show m0 = 0 from hk0)
        clear hk0
        have a0 := ha1.out.cell 0
        have a1 := ha1.out.cell 1
        have a2 := ha1.out.cell 2
        have f0 := ha1.out.thaw 0
        have f1 := ha1.out.thaw 1
        have f2 := ha1.out.thaw 2
        simp at a0 a1 a2
        go_wp2_with fail
        go_roundw
        case rel =>
          refine ⟨.inr (.inl ⟨rfl, he.out, ?_⟩), ?_, ?_⟩
          · exact (((ha1.out.set 0 (.int .i64 y0.1)).set 1 (.string ⟨y0.2.1.toArray⟩)).set 2 (.string ⟨y0.2.2.toArray⟩)).alloc _
          · exact (((hq1.out.set_other (p := ⟨w.heap.size + 1 + 1, 0, none⟩) _ (by simp)).set_other (p := ⟨w.heap.size + 1 + 1, 1, none⟩) _ (by simp)).set_other (p := ⟨w.heap.size + 1 + 1, 2, none⟩) _ (by simp)).alloc _
          · exact bstep (below_three (o := 0) hB1 (by omega) _ _ _) (balloc _ _)
        case measure => simp [intOf]
    · go_wp2_with fail
      refine (T1 _ hDr.out).mono ?_
      rintro e w1 ⟨rfl, hb1⟩
      have hB1 := bstep hbr hb1
      have hbx := bstep hb1 (balloc w1 (.cells #[.int .i64 y1.1, .string ⟨y1.2.1.toArray⟩, .string ⟨y1.2.2.toArray⟩] 29))
      have hBx := bstep hB1 (balloc w1 (.cells #[.int .i64 y1.1, .string ⟨y1.2.1.toArray⟩, .string ⟨y1.2.2.toArray⟩] 29))
      have ha1 := hide (ha.out.below hb1 ha.out.lt)
      have hq1 := hide (hres.out.below hb1 hz1)
      have hr1 := hide (hres.out.below hbx hz1)
      have hzx : w.heap.size + 1 + 1 < w1.heap.size := Nat.lt_of_lt_of_le ha.out.lt hb1.size
      clear ha hres hbx hb1 T0 T1 T2
      cases hc : (m1 == 0)
      · have hne : ¬ m1 = 0 := by simpa using hc
        have hN : N = m1 := by rw [fin.out, if_pos hm.out, if_neg hne]
        have hT := hide (show T = zeroTr0 by rw [fin2.out, if_neg (by rw [hN]; exact hne)])
        have hN := hide hN
        have r0 := hr1.out.cell 0
        have g0 := hr1.out.thaw 0
        have r1 := hr1.out.cell 1
        have g1 := hr1.out.thaw 1
        have r2 := hr1.out.cell 2
        have g2 := hr1.out.thaw 2
        have r3 := hr1.out.cell 3
        have g3 := hr1.out.thaw 3
        have r4 := hr1.out.cell 4
        have g4 := hr1.out.thaw 4
        have r5 := hr1.out.cell 5
        have g5 := hr1.out.thaw 5
        have r6 := hr1.out.cell 6
        have g6 := hr1.out.thaw 6
        have r7 := hr1.out.cell 7
        have g7 := hr1.out.thaw 7
        have r8 := hr1.out.cell 8
        have g8 := hr1.out.thaw 8
        simp at r0 r1 r2 r3 r4 r5 r6 r7 r8
        clear fin fin2 hne HC ha1 hr1 hq1
        go_wp2_with fail
        exact bodyPost_ret (v := .tuple #[.agg #[.int .i64 0, .string ⟨#[]⟩, .string ⟨#[]⟩, .int .i64 0, .string ⟨#[]⟩, .string ⟨#[]⟩, .int .i64 0, .string ⟨#[]⟩, .string ⟨#[]⟩], errV m1]) (by unfold results; rw [Tryd.results13]; go_simp) rfl ⟨by rw [hN.out, hT.out]; rfl, below_nine hBx (by omega) _ _ _ _ _ _ _ _ _⟩
      · have hk0 : m1 = 0 := by simpa using hc
        have he := hide (show m0 = 0 ∧ m1 = 0 from ⟨hm.out, hk0⟩)
        clear hk0
        have a0 := ha1.out.cell 3
        have a1 := ha1.out.cell 4
        have a2 := ha1.out.cell 5
        have f0 := ha1.out.thaw 3
        have f1 := ha1.out.thaw 4
        have f2 := ha1.out.thaw 5
        simp at a0 a1 a2
        go_wp2_with fail
        go_roundw
        case rel =>
          refine ⟨.inr (.inr (.inl ⟨rfl, he.out, ?_⟩)), ?_, ?_⟩
          · exact (((ha1.out.set 3 (.int .i64 y1.1)).set 4 (.string ⟨y1.2.1.toArray⟩)).set 5 (.string ⟨y1.2.2.toArray⟩)).alloc _
          · exact (((hq1.out.set_other (p := ⟨w.heap.size + 1 + 1, 3, none⟩) _ (by simp)).set_other (p := ⟨w.heap.size + 1 + 1, 4, none⟩) _ (by simp)).set_other (p := ⟨w.heap.size + 1 + 1, 5, none⟩) _ (by simp)).alloc _
          · exact bstep (below_three (o := 3) hB1 (by omega) _ _ _) (balloc _ _)
        case measure => simp [intOf]
    · go_wp2_with fail
      refine (T2 _ hDr.out).mono ?_
      rintro e w1 ⟨rfl, hb1⟩
      have hB1 := bstep hbr hb1
      have hbx := bstep hb1 (balloc w1 (.cells #[.int .i64 y2.1, .string ⟨y2.2.1.toArray⟩, .string ⟨y2.2.2.toArray⟩] 29))
      have hBx := bstep hB1 (balloc w1 (.cells #[.int .i64 y2.1, .string ⟨y2.2.1.toArray⟩, .string ⟨y2.2.2.toArray⟩] 29))
      have ha1 := hide (ha.out.below hb1 ha.out.lt)
      have hq1 := hide (hres.out.below hb1 hz1)
      have hr1 := hide (hres.out.below hbx hz1)
      have hzx : w.heap.size + 1 + 1 < w1.heap.size := Nat.lt_of_lt_of_le ha.out.lt hb1.size
      clear ha hres hbx hb1 T0 T1 T2
      cases hc : (m2 == 0)
      · have hne : ¬ m2 = 0 := by simpa using hc
        have hN : N = m2 := by rw [fin.out, if_pos hm.out.1, if_pos hm.out.2, if_neg hne]
        have hT := hide (show T = zeroTr0 by rw [fin2.out, if_neg (by rw [hN]; exact hne)])
        have hN := hide hN
        have r0 := hr1.out.cell 0
        have g0 := hr1.out.thaw 0
        have r1 := hr1.out.cell 1
        have g1 := hr1.out.thaw 1
        have r2 := hr1.out.cell 2
        have g2 := hr1.out.thaw 2
        have r3 := hr1.out.cell 3
        have g3 := hr1.out.thaw 3
        have r4 := hr1.out.cell 4
        have g4 := hr1.out.thaw 4
        have r5 := hr1.out.cell 5
        have g5 := hr1.out.thaw 5
        have r6 := hr1.out.cell 6
        have g6 := hr1.out.thaw 6
        have r7 := hr1.out.cell 7
        have g7 := hr1.out.thaw 7
        have r8 := hr1.out.cell 8
        have g8 := hr1.out.thaw 8
        simp at r0 r1 r2 r3 r4 r5 r6 r7 r8
        clear fin fin2 hne HC ha1 hr1 hq1
        go_wp2_with fail
        exact bodyPost_ret (v := .tuple #[.agg #[.int .i64 0, .string ⟨#[]⟩, .string ⟨#[]⟩, .int .i64 0, .string ⟨#[]⟩, .string ⟨#[]⟩, .int .i64 0, .string ⟨#[]⟩, .string ⟨#[]⟩], errV m2]) (by unfold results; rw [Tryd.results13]; go_simp) rfl ⟨by rw [hN.out, hT.out]; rfl, below_nine hBx (by omega) _ _ _ _ _ _ _ _ _⟩
      · have hk0 : m2 = 0 := by simpa using hc
        have he := hide (show m0 = 0 ∧ m1 = 0 ∧ m2 = 0 from ⟨hm.out.1, hm.out.2, hk0⟩)
        clear hk0
        have a0 := ha1.out.cell 6
        have a1 := ha1.out.cell 7
        have a2 := ha1.out.cell 8
        have f0 := ha1.out.thaw 6
        have f1 := ha1.out.thaw 7
        have f2 := ha1.out.thaw 8
        simp at a0 a1 a2
        go_wp2_with fail
        go_roundw
        case rel =>
          refine ⟨.inr (.inr (.inr ⟨rfl, he.out, ?_⟩)), ?_, ?_⟩
          · exact (((ha1.out.set 6 (.int .i64 y2.1)).set 7 (.string ⟨y2.2.1.toArray⟩)).set 8 (.string ⟨y2.2.2.toArray⟩)).alloc _
          · exact (((hq1.out.set_other (p := ⟨w.heap.size + 1 + 1, 6, none⟩) _ (by simp)).set_other (p := ⟨w.heap.size + 1 + 1, 7, none⟩) _ (by simp)).set_other (p := ⟨w.heap.size + 1 + 1, 8, none⟩) _ (by simp)).alloc _
          · exact bstep (below_three (o := 6) hB1 (by omega) _ _ _) (balloc _ _)
        case measure => simp [intOf]
    · have HK := HC.out hm.out.1 hm.out.2.1 hm.out.2.2
      have hN := hide (show N = c by rw [fin.out, if_pos hm.out.1, if_pos hm.out.2.1, if_pos hm.out.2.2])
      have a0 := ha.out.cell 0
      have a1 := ha.out.cell 1
      have a2 := ha.out.cell 2
      have a3 := ha.out.cell 3
      have a4 := ha.out.cell 4
      have a5 := ha.out.cell 5
      have a6 := ha.out.cell 6
      have a7 := ha.out.cell 7
      have a8 := ha.out.cell 8
      simp at a0 a1 a2 a3 a4 a5 a6 a7 a8
      have hza := ha.out.lt
      clear fin HC T0 T1 T2 ha
      unfold valTr at HK
      go_wp2_with fail
      refine (HK _).mono ?_
      rintro e w2 ⟨rfl, hb2⟩
      have hB2 := bstep (bstep hbr (balloc _ _)) hb2
      have hr2 := hres.out.below (bstep (balloc _ _) hb2) hz1
      have d0 := (hb2.cell (p := ⟨wr.heap.size, 0, none⟩) (by simp)).trans (by go_simp : World.cell? (wr.alloc (.cells #[.int .i64 y0.1, .string ⟨y0.2.1.toArray⟩, .string ⟨y0.2.2.toArray⟩, .int .i64 y1.1, .string ⟨y1.2.1.toArray⟩, .string ⟨y1.2.2.toArray⟩, .int .i64 y2.1, .string ⟨y2.2.1.toArray⟩, .string ⟨y2.2.2.toArray⟩] 39)) ⟨wr.heap.size, 0, none⟩ = some (.int .i64 y0.1))
      have d1 := (hb2.cell (p := ⟨wr.heap.size, 1, none⟩) (by simp)).trans (by go_simp : World.cell? (wr.alloc (.cells #[.int .i64 y0.1, .string ⟨y0.2.1.toArray⟩, .string ⟨y0.2.2.toArray⟩, .int .i64 y1.1, .string ⟨y1.2.1.toArray⟩, .string ⟨y1.2.2.toArray⟩, .int .i64 y2.1, .string ⟨y2.2.1.toArray⟩, .string ⟨y2.2.2.toArray⟩] 39)) ⟨wr.heap.size, 1, none⟩ = some (.string ⟨y0.2.1.toArray⟩))
      have d2 := (hb2.cell (p := ⟨wr.heap.size, 2, none⟩) (by simp)).trans (by go_simp : World.cell? (wr.alloc (.cells #[.int .i64 y0.1, .string ⟨y0.2.1.toArray⟩, .string ⟨y0.2.2.toArray⟩, .int .i64 y1.1, .string ⟨y1.2.1.toArray⟩, .string ⟨y1.2.2.toArray⟩, .int .i64 y2.1, .string ⟨y2.2.1.toArray⟩, .string ⟨y2.2.2.toArray⟩] 39)) ⟨wr.heap.size, 2, none⟩ = some (.string ⟨y0.2.2.toArray⟩))
      have d3 := (hb2.cell (p := ⟨wr.heap.size, 3, none⟩) (by simp)).trans (by go_simp : World.cell? (wr.alloc (.cells #[.int .i64 y0.1, .string ⟨y0.2.1.toArray⟩, .string ⟨y0.2.2.toArray⟩, .int .i64 y1.1, .string ⟨y1.2.1.toArray⟩, .string ⟨y1.2.2.toArray⟩, .int .i64 y2.1, .string ⟨y2.2.1.toArray⟩, .string ⟨y2.2.2.toArray⟩] 39)) ⟨wr.heap.size, 3, none⟩ = some (.int .i64 y1.1))
      have d4 := (hb2.cell (p := ⟨wr.heap.size, 4, none⟩) (by simp)).trans (by go_simp : World.cell? (wr.alloc (.cells #[.int .i64 y0.1, .string ⟨y0.2.1.toArray⟩, .string ⟨y0.2.2.toArray⟩, .int .i64 y1.1, .string ⟨y1.2.1.toArray⟩, .string ⟨y1.2.2.toArray⟩, .int .i64 y2.1, .string ⟨y2.2.1.toArray⟩, .string ⟨y2.2.2.toArray⟩] 39)) ⟨wr.heap.size, 4, none⟩ = some (.string ⟨y1.2.1.toArray⟩))
      have d5 := (hb2.cell (p := ⟨wr.heap.size, 5, none⟩) (by simp)).trans (by go_simp : World.cell? (wr.alloc (.cells #[.int .i64 y0.1, .string ⟨y0.2.1.toArray⟩, .string ⟨y0.2.2.toArray⟩, .int .i64 y1.1, .string ⟨y1.2.1.toArray⟩, .string ⟨y1.2.2.toArray⟩, .int .i64 y2.1, .string ⟨y2.2.1.toArray⟩, .string ⟨y2.2.2.toArray⟩] 39)) ⟨wr.heap.size, 5, none⟩ = some (.string ⟨y1.2.2.toArray⟩))
      have d6 := (hb2.cell (p := ⟨wr.heap.size, 6, none⟩) (by simp)).trans (by go_simp : World.cell? (wr.alloc (.cells #[.int .i64 y0.1, .string ⟨y0.2.1.toArray⟩, .string ⟨y0.2.2.toArray⟩, .int .i64 y1.1, .string ⟨y1.2.1.toArray⟩, .string ⟨y1.2.2.toArray⟩, .int .i64 y2.1, .string ⟨y2.2.1.toArray⟩, .string ⟨y2.2.2.toArray⟩] 39)) ⟨wr.heap.size, 6, none⟩ = some (.int .i64 y2.1))
      have d7 := (hb2.cell (p := ⟨wr.heap.size, 7, none⟩) (by simp)).trans (by go_simp : World.cell? (wr.alloc (.cells #[.int .i64 y0.1, .string ⟨y0.2.1.toArray⟩, .string ⟨y0.2.2.toArray⟩, .int .i64 y1.1, .string ⟨y1.2.1.toArray⟩, .string ⟨y1.2.2.toArray⟩, .int .i64 y2.1, .string ⟨y2.2.1.toArray⟩, .string ⟨y2.2.2.toArray⟩] 39)) ⟨wr.heap.size, 7, none⟩ = some (.string ⟨y2.2.1.toArray⟩))
      have d8 := (hb2.cell (p := ⟨wr.heap.size, 8, none⟩) (by simp)).trans (by go_simp : World.cell? (wr.alloc (.cells #[.int .i64 y0.1, .string ⟨y0.2.1.toArray⟩, .string ⟨y0.2.2.toArray⟩, .int .i64 y1.1, .string ⟨y1.2.1.toArray⟩, .string ⟨y1.2.2.toArray⟩, .int .i64 y2.1, .string ⟨y2.2.1.toArray⟩, .string ⟨y2.2.2.toArray⟩] 39)) ⟨wr.heap.size, 8, none⟩ = some (.string ⟨y2.2.2.toArray⟩))
      have r0 := hr2.cell 0
      have g0 := hr2.thaw 0
      have r1 := hr2.cell 1
      have g1 := hr2.thaw 1
      have r2 := hr2.cell 2
      have g2 := hr2.thaw 2
      have r3 := hr2.cell 3
      have g3 := hr2.thaw 3
      have r4 := hr2.cell 4
      have g4 := hr2.thaw 4
      have r5 := hr2.cell 5
      have g5 := hr2.thaw 5
      have r6 := hr2.cell 6
      have g6 := hr2.thaw 6
      have r7 := hr2.cell 7
      have g7 := hr2.thaw 7
      have r8 := hr2.cell 8
      have g8 := hr2.thaw 8
      simp at r0 r1 r2 r3 r4 r5 r6 r7 r8
      have hz2 : wr.heap.size < w2.heap.size := World.block_lt_of_cell? w2 _ d0
      have hzr := hr2.lt
      clear a0 a1 a2 a3 a4 a5 a6 a7 a8 hr2 hres hb2 HK
      cases hc : (c == 0)
      · have hne : ¬ c = 0 := by simpa using hc
        have hT := hide (show T = zeroTr0 by rw [fin2.out, hN.out, if_neg hne])
        clear fin2 hne
        go_wp2_with fail
        exact bodyPost_ret (v := .tuple #[.agg #[.int .i64 0, .string ⟨#[]⟩, .string ⟨#[]⟩, .int .i64 0, .string ⟨#[]⟩, .string ⟨#[]⟩, .int .i64 0, .string ⟨#[]⟩, .string ⟨#[]⟩], errV c]) (by unfold results; rw [Tryd.results13]; go_simp) rfl ⟨by rw [hN.out, hT.out]; rfl, below_nine hB2 (by omega) _ _ _ _ _ _ _ _ _⟩
      · have he : c = 0 := by simpa using hc
        have hT := hide (show T = (y0, y1, y2) by rw [fin2.out, hN.out, if_pos he])
        have hN0 := hide (show N = 0 by rw [hN.out, he])
        clear fin2 he
        go_wp2_with fail
        exact bodyPost_ret (v := .tuple #[.agg #[.int .i64 y0.1, .string ⟨y0.2.1.toArray⟩, .string ⟨y0.2.2.toArray⟩, .int .i64 y1.1, .string ⟨y1.2.1.toArray⟩, .string ⟨y1.2.2.toArray⟩, .int .i64 y2.1, .string ⟨y2.2.1.toArray⟩, .string ⟨y2.2.2.toArray⟩], .nilIface]) (by unfold results; rw [Tryd.results13]; go_simp) rfl ⟨by rw [hN0.out, hT.out]; rfl, below_nine hB2 (by omega) _ _ _ _ _ _ _ _ _⟩
end Go.Proofs.YtkeholipklfnbacDoor
