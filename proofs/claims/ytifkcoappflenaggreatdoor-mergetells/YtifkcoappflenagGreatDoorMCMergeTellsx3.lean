/- stratalaw2.MergeTells: the walk, over a merge's face. -/
import Derived.Test.YtifkcoappflenagGreatDoorMA0x3
import Derived.Test.YtifkcoappflenagGreatDoorMCMergeTellsx2
import Derived.Deep.DeepCutAuto

namespace Go.Proofs.YtifkcoappflenagGreatDoor
open Go Go.RowKit Go.Proofs
set_option synthInstance.maxSize 1000

attribute [local go_sem] eql_errV neq_errV guard_errV

theorem sameErrM (m : Int) (w : World) (hg : errVar w) : Calls Tryz.prog 9 #[errV m, .int .i64 m] w fun r w' => r = .returned (.bool true) ∧ RowKit.Below w.heap.size w w' := by
  have := SameError_any m m w hg
  rw [show (m == m) = true by simp] at this
  exact this
theorem sameTrM (ad bd : Option Addr) (ca cb : Nat) (l : List Tr) (w : World) (hl : SlT w ad l) (hm : SlT w bd l) (h : l.length ≤ 1000) : Calls Tryz.prog 10 #[.slice ad l.length ca, .slice bd l.length cb] w fun e w' => e = .returned (.bool true) ∧ RowKit.Below w.heap.size w w' := by
  have := SameTriples_any ad bd ca cb l l w hl hm (by omega) (by omega)
  rw [show decide (l = l) = true by simp] at this
  exact this
theorem sameClM (ad bd : Option Addr) (ca cb : Nat) (l : List Pr) (w : World) (hl : SlP w ad l) (hm : SlP w bd l) (h : l.length ≤ 1000) : Calls Tryz.prog 11 #[.slice ad l.length ca, .slice bd l.length cb] w fun e w' => e = .returned (.bool true) ∧ RowKit.Below w.heap.size w w' := by
  have := SameClashes_any ad bd ca cb l l w hl hm (by omega) (by omega)
  rw [show decide (l = l) = true by simp] at this
  exact this
/-- what the document has worked out -/
def TellsAt (o a b : List Tr) (first : Bool) (w W : World) (v10 v11 v12 v13 v14 : Value) : Prop := ∃ xd xc ed ec cd cc, v10 = .slice xd (mergeT o a b).length xc ∧ v11 = .slice ed (preferT o a b first).length ec ∧ v12 = .slice cd (mergeC o a b).length cc ∧ v13 = .int .i64 (mergeN o a b) ∧ v14 = .int .i64 (preferN o a b first) ∧ Hid (SlT W xd (mergeT o a b)) ∧ Hid (SlT W ed (preferT o a b first)) ∧ Hid (SlP W cd (mergeC o a b)) ∧ Hid (RowKit.Below w.heap.size w W)
theorem slT_none (W : World) (ad : Option Addr) : SlT W ad [] := fun h => absurd rfl h
theorem TellsAt.mk {o a b : List Tr} {first : Bool} {w W : World} {xd ed cd : Option Addr} {xc ec cc : Nat} {x e : List Tr} {c : List Pr} {f g : Int} (h1 : mergeT o a b = x) (h2 : preferT o a b first = e) (h3 : mergeC o a b = c) (h4 : mergeN o a b = f) (h5 : preferN o a b first = g) (s1 : SlT W xd x) (s2 : SlT W ed e) (s3 : SlP W cd c) (hb : RowKit.Below w.heap.size w W) :
    TellsAt o a b first w W (.slice xd x.length xc) (.slice ed e.length ec) (.slice cd c.length cc) (.int .i64 f) (.int .i64 g) := by
  subst h1 h2 h3 h4 h5
  exact ⟨xd, xc, ed, ec, cd, cc, rfl, rfl, rfl, rfl, rfl, s1, s2, s3, hb⟩

set_option maxHeartbeats 32000000 in
set_option maxRecDepth 1000000 in
theorem mergeTells_any (M : MFace) (od ad bd : Option Addr) (oc ca cb : Nat) (o a b : List Tr) (first : Bool) (w : World) (hev : errVar w) (ho : SetIn w od o) (ha : SetIn w ad a) (hb : SetIn w bd b) :
    Calls Tryz.prog 3 #[.slice od o.length oc, .slice ad a.length ca, .slice bd b.length cb, .bool first] w fun e w' => e = .returned (.bool true) ∧ RowKit.Below w.heap.size w w' := by
  have HW : Hid (∀ W, RowKit.Below w.heap.size w W → SetIn W od o ∧ SetIn W ad a ∧ SetIn W bd b ∧ errVar W) := fun W h => ⟨ho.below h, ha.below h, hb.below h, hev.below h⟩
  have C1 := fun W (hW : RowKit.Below w.heap.size w W) => RTwo_any od ad oc ca o a W (ho.sl.below hW) (ha.sl.below hW) ho.fit ha.fit ho.max ha.max
  have C2 := fun W (hW : RowKit.Below w.heap.size w W) => RSet_any bd cb b W (hb.sl.below hW) hb.fit hb.max
  have C3 := fun W (hW : RowKit.Below w.heap.size w W) => RTwo_any ad bd ca cb a b W (ha.sl.below hW) (hb.sl.below hW) ha.fit hb.fit ha.max hb.max
  have C4 : Hid (threeN o a b = 0 → ∀ f W, RowKit.Below w.heap.size w W → _) := fun h0 f W hW => RMerge_any od ad bd oc ca cb o a b f W (ho.sl.below hW) (ha.sl.below hW) (hb.sl.below hW) (three_zero.1 h0).1.1 (three_zero.1 h0).2.1.1 (three_zero.1 h0).2.2.1
  have C5 : Hid (bothN a b = 0 → ∀ W, RowKit.Below w.heap.size w W → _) := fun h0 W hW => RDiff_any ad bd ca cb a b W (ha.sl.below hW) (hb.sl.below hW) (bothN_zero.1 h0).1.1 (bothN_zero.1 h0).2.1
  have C6 := fun W (hW : RowKit.Below w.heap.size w W) => M.merge W od ad bd oc ca cb o a b (ho.below hW) (ha.below hW) (hb.below hW)
  have C7 := fun W (hW : RowKit.Below w.heap.size w W) => M.prefer W od ad bd oc ca cb o a b first (ho.below hW) (ha.below hW) (hb.below hW)
  have C8 := fun W (hW : RowKit.Below w.heap.size w W) => M.pairs W ad bd ca cb a b (ha.below hW) (hb.below hW)
  have h3 : Hid (threeN o a b = if bothN o a = 0 then sortedN b else bothN o a) := three_both o a b
  clear hev ho ha hb
  go_enter Tryz.func3, Tryz.ntmps3
  go_wp2_with fail
  refine (C1 _ (RowKit.Below.refl _ _)).mono ?_
  rintro e w1 ⟨rfl, hb1⟩
  dsimp only
  clear C1
  go_upto_if 32 with fail
  go_cut [9] from 33 to 34 (fun v W => v = .int .i64 (threeN o a b) ∧ Hid (RowKit.Below w.heap.size w W))
  case first =>
    by_cases h0 : bothN o a = 0
    · have h0' : (bothN o a == 0) = true := by simpa using h0
      have E : Hid (threeN o a b = sortedN b) := by show _ = _; rw [h3.out, if_pos h0]
      clear h0
      generalize bothN o a = N at *
      go_wp2_with fail
      refine (C2 _ hb1).mono ?_
      rintro e w2 ⟨rfl, hb2⟩
      dsimp only
      go_wp2_with fail
      go_meet
      exact ⟨by rw [E.out], bstep hb1 hb2⟩
    · have h0' : (bothN o a == 0) = false := by simpa using h0
      have E : Hid (threeN o a b = bothN o a) := by show _ = _; rw [h3.out, if_neg h0]
      clear h0
      generalize bothN o a = N at *
      go_wp2_with fail
      go_meet
      exact ⟨by rw [E.out], hb1⟩
  case rest =>
    obtain ⟨rfl, hB2⟩ := hcut
    obtain ⟨w2, rfl, hB2⟩ : ∃ W, W = _ ∧ RowKit.Below w.heap.size w W := ⟨_, rfl, hB2.out⟩
    clear hb1 C2 h3
    go_upto_if 38 with fail
    go_cut [10, 11, 12, 13, 14] from 38 to 62 (fun v10 v11 v12 v13 v14 W => TellsAt o a b first w W v10 v11 v12 v13 v14)
    case first =>
      by_cases h0 : threeN o a b = 0
      · have h0' : (threeN o a b == 0) = true := by simpa using h0
        have H4 := C4.out h0
        have HN : Hid (threeN o a b = 0) := h0
        have Mclash : Hid (clashL o a b ≠ [] → _) := fun hc => merge_clash h0 hc
        have Mfull : Hid (clashL o a b = [] → 200 < (outL o a b true).length → _) := fun hc hl => merge_full h0 hc hl
        have Mgood : Hid (clashL o a b = [] → (outL o a b true).length ≤ 200 → _) := fun hc hl => merge_good h0 hc hl
        have Pfull : Hid (200 < (outL o a b first).length → _) := fun hl => prefer_full h0 hl
        have Pgood : Hid ((outL o a b first).length ≤ 200 → _) := fun hl => prefer_good h0 hl
        clear h0
        generalize threeN o a b = N at *
        go_wp2_with fail
        refine (H4 true _ hB2).mono ?_
        rintro e w3 ⟨xd, xc, cd, cc, rfl, hx, hc, hb3⟩
        have hB3 := bstep hB2 hb3
        have hx3 := hideM hx
        have hc3 := hideM hc
        clear hx hc
        dsimp only
        go_wp2_with fail
        refine (H4 first _ hB3).mono ?_
        rintro e w4 ⟨ed, ec, kd, kc, rfl, he, _, hb4⟩
        have hB4 := bstep hB3 hb4
        have hout : Hid (SlT w4 xd (outL o a b true)) := hx3.out.below hb4
        have hcl : Hid (SlP w4 cd (clashL o a b)) := hc3.out.below hb4
        have hot : Hid (SlT w4 ed (outL o a b first)) := he
        clear H4 he hx3 hc3 hb3 hb4 hB3 hB2
        generalize clashL o a b = cl at *
        generalize outL o a b true = tr at *
        generalize outL o a b first = ot at *
        dsimp only
        by_cases hc0 : cl = []
        · subst hc0
          by_cases t200 : 200 < tr.length
          · have q2 : decide ((tr.length : Int) > 200) = true := by simp; omega
            obtain ⟨m1, m2, m3⟩ := Mfull.out rfl t200
            by_cases g200 : 200 < ot.length
            · have q1 : decide ((ot.length : Int) > 200) = true := by simp; omega
              obtain ⟨p1, p2⟩ := Pfull.out g200
              go_wp2_with fail
              go_meet
              exact TellsAt.mk (x := []) (e := []) (c := []) m2 p2 m3 m1 p1 (slT_none _ _) (slT_none _ _) (slP_nil _ _) hB4
            · have q1 : decide ((ot.length : Int) > 200) = false := by simp; omega
              obtain ⟨p1, p2⟩ := Pgood.out (by omega)
              go_wp2_with fail
              go_meet
              exact TellsAt.mk (x := []) (e := ot) (c := []) m2 p2 m3 m1 (p1.trans HN.out.symm) (slT_none _ _) hot.out (slP_nil _ _) hB4
          · have q2 : decide ((tr.length : Int) > 200) = false := by simp; omega
            obtain ⟨m1, m2, m3⟩ := Mgood.out rfl (by omega)
            by_cases g200 : 200 < ot.length
            · have q1 : decide ((ot.length : Int) > 200) = true := by simp; omega
              obtain ⟨p1, p2⟩ := Pfull.out g200
              go_wp2_with fail
              go_meet
              exact TellsAt.mk (x := tr) (e := []) (c := []) m2 p2 m3 (m1.trans HN.out.symm) p1 hout.out (slT_none _ _) (slP_nil _ _) hB4
            · have q1 : decide ((ot.length : Int) > 200) = false := by simp; omega
              obtain ⟨p1, p2⟩ := Pgood.out (by omega)
              go_wp2_with fail
              go_meet
              exact TellsAt.mk (x := tr) (e := ot) (c := []) m2 p2 m3 (m1.trans HN.out.symm) (p1.trans HN.out.symm) hout.out hot.out (slP_nil _ _) hB4
        · have q3 : 0 < cl.length := List.length_pos_iff.2 hc0
          have q4 : decide (0 < cl.length) = true := by simpa using q3
          obtain ⟨m1, m2, m3⟩ := Mclash.out hc0
          by_cases g200 : 200 < ot.length
          · have q1 : decide ((ot.length : Int) > 200) = true := by simp; omega
            obtain ⟨p1, p2⟩ := Pfull.out g200
            go_wp2_with fail
            go_meet
            exact TellsAt.mk (x := []) (e := []) (c := cl) m2 p2 m3 m1 p1 (slT_none _ _) (slT_none _ _) hcl.out hB4
          · have q1 : decide ((ot.length : Int) > 200) = false := by simp; omega
            obtain ⟨p1, p2⟩ := Pgood.out (by omega)
            go_wp2_with fail
            go_meet
            exact TellsAt.mk (x := []) (e := ot) (c := cl) m2 p2 m3 m1 (p1.trans HN.out.symm) (slT_none _ _) hot.out hcl.out hB4
      · have h0' : (threeN o a b == 0) = false := by simpa using h0
        have Mbad : Hid _ := merge_bad h0
        have Pbad : Hid _ := prefer_bad first h0
        clear h0
        generalize threeN o a b = N at *
        go_wp2_with fail
        go_meet
        exact TellsAt.mk (x := []) (e := []) (c := []) Mbad.out.2.1 Pbad.out.2 Mbad.out.2.2 Mbad.out.1 Pbad.out.1 (slT_none _ _) (slT_none _ _) (slP_nil _ _) hB2
    case rest =>
      obtain ⟨xd, xc, ed, ec, cd, cc, rfl, rfl, rfl, rfl, rfl, hX, hE, hC, hB3⟩ := hcut
      obtain ⟨w3, rfl, hB3⟩ : ∃ W, W = _ ∧ RowKit.Below w.heap.size w W := ⟨_, rfl, hB3.out⟩
      clear hB2 C4
      have lT := mergeT_len o a b
      have lP := preferT_len o a b first
      have lC := mergeC_len o a b
      have lD := pairsC_len a b
      go_wp2_with fail
      refine (C6 _ hB3).mono ?_
      rintro e w4 ⟨yd, yc, zd, zc, rfl, hy, hz, hb4⟩
      have hB4 := bstep hB3 hb4
      have T4 := hideM (And.intro (hX.out.below hb4) (And.intro (hE.out.below hb4) (And.intro (hC.out.below hb4) (And.intro hy hz))))
      clear hX hE hC hy hz hb4 hB3 C6
      dsimp only
      go_wp2_with fail
      refine (sameErrM _ _ (HW.out _ hB4).2.2.2).mono ?_
      rintro e w5 ⟨rfl, hb5⟩
      have hB5 := bstep hB4 hb5
      dsimp only
      go_wp2_with fail
      refine (sameTrM yd xd yc xc _ _ (T4.out.2.2.2.1.below hb5) (T4.out.1.below hb5) (by omega)).mono ?_
      rintro e w6 ⟨rfl, hb6⟩
      have hb6' := bstep hb5 hb6
      dsimp only
      go_wp2_with fail
      refine (sameClM zd cd zc cc _ _ (T4.out.2.2.2.2.below hb6') (T4.out.2.2.1.below hb6') lC).mono ?_
      rintro e w7 ⟨rfl, hb7⟩
      have hb7' := bstep hb6' hb7
      have hB7 := bstep hB4 hb7'
      have E7 := hideM (T4.out.2.1.below hb7')
      clear T4 hb5 hb6 hb6' hb7 hb7' hB4 hB5
      dsimp only
      go_wp2_with fail
      refine (C7 _ hB7).mono ?_
      rintro e w8 ⟨pd, pc, rfl, hp, hb8⟩
      have hB8 := bstep hB7 hb8
      have P8 := hideM (And.intro (E7.out.below hb8) hp)
      clear hp hb8 hB7 E7 C7
      dsimp only
      go_wp2_with fail
      refine (sameErrM _ _ (HW.out _ hB8).2.2.2).mono ?_
      rintro e w9 ⟨rfl, hb9⟩
      dsimp only
      go_wp2_with fail
      refine (sameTrM pd ed pc ec _ _ (P8.out.2.below hb9) (P8.out.1.below hb9) (by omega)).mono ?_
      rintro e w10 ⟨rfl, hb10⟩
      have hB10 := bstep hB8 (bstep hb9 hb10)
      clear P8 hb9 hb10 hB8
      dsimp only
      go_wp2_with fail
      refine (C3 _ hB10).mono ?_
      rintro e w11 ⟨rfl, hb11⟩
      have hB11 := bstep hB10 hb11
      clear hB10 hb11 C3
      dsimp only
      go_upto_if 98 with fail
      go_cut [24] from 98 to 101 (fun v W => ∃ vd vc, v = .slice vd (pairsC a b).length vc ∧ Hid (SlP W vd (pairsC a b)) ∧ Hid (RowKit.Below w.heap.size w W))
      case first =>
        by_cases h0 : bothN a b = 0
        · have h0' : (bothN a b == 0) = true := by simpa using h0
          have H5 := C5.out h0
          have E : Hid (pairsC a b = diffL a b) := by show _ = _; unfold pairsC; rw [if_pos h0]
          clear h0
          generalize bothN a b = N at *
          go_wp2_with fail
          refine (H5 _ hB11).mono ?_
          rintro e w12 ⟨vd, vc, rfl, hv, hb12⟩
          dsimp only
          go_wp2_with fail
          go_meet
          exact ⟨vd, vc, by rw [E.out], by show SlP _ _ _; rw [E.out]; exact hv, bstep hB11 hb12⟩
        · have h0' : (bothN a b == 0) = false := by simpa using h0
          have E : Hid (pairsC a b = []) := by show _ = _; unfold pairsC; rw [if_neg h0]
          clear h0
          generalize bothN a b = N at *
          go_wp2_with fail
          go_meet
          exact ⟨none, 0, by rw [E.out]; rfl, by show SlP _ _ _; rw [E.out]; exact slP_nil _ _, hB11⟩
      case rest =>
        obtain ⟨vd, vc, rfl, hV, hB12⟩ := hcut
        obtain ⟨w12, rfl, hB12⟩ : ∃ W, W = _ ∧ RowKit.Below w.heap.size w W := ⟨_, rfl, hB12.out⟩
        clear hB11 C5
        go_wp2_with fail
        refine (C8 _ hB12).mono ?_
        rintro e w13 ⟨ud, uc, rfl, hu, hb13⟩
        have hB13 := bstep hB12 hb13
        have U13 := hideM (And.intro (hV.out.below hb13) hu)
        clear hV hu hb13 hB12 C8
        dsimp only
        go_wp2_with fail
        refine (sameErrM _ _ (HW.out _ hB13).2.2.2).mono ?_
        rintro e w14 ⟨rfl, hb14⟩
        dsimp only
        go_wp2_with fail
        refine (sameClM ud vd uc vc _ _ (U13.out.2.below hb14) (U13.out.1.below hb14) lD).mono ?_
        rintro e w15 ⟨rfl, hb15⟩
        dsimp only
        go_wp2_with fail
        go_ret
        exact ⟨rfl, bstep hB13 (bstep hb14 hb15)⟩
end Go.Proofs.YtifkcoappflenagGreatDoor
