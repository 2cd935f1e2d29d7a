/- stratalaw1.SetTells: the walk. -/
import Derived.Test.YtibgelpkogdgkabGreatDoorSetTellsPlain
import Derived.Deep.DeepCutAuto
namespace Go.Proofs.YtibgelpkogdgkabGreatDoor
open Go Go.RowKit Go.Proofs
set_option synthInstance.maxSize 1000

attribute [local go_sem] eql_errV neq_errV guard_errV

/-- what the document's first part lays: three lists -/
def FirstPart (a b : List Tr) (mj ml mb : List Tr) : Prop := JoinAns a b mj ∧ LessAns a b ml ∧ BothAns a b mb ∧ mj.length ≤ 1000000 ∧ ml.length ≤ 1000000 ∧ mb.length ≤ 1000000

theorem hidT {w w' : World} {ad : Option Addr} {l : List Tr} (h : Hid (SlT w ad l)) (hb : RowKit.Below w.heap.size w w') : Hid (SlT w' ad l) := h.out.below hb
theorem hidM {w w' : World} {ad : Option Addr} {l : List Tm} (h : Hid (SlM w ad l)) (hb : RowKit.Below w.heap.size w w') : Hid (SlM w' ad l) := h.out.below hb

theorem SameErrorT (m : Int) (w : World) (hg : errVar w) : Calls Tryz.prog 9 #[errV m, .int .i64 m] w fun r w' => r = .returned (.bool true) ∧ RowKit.Below w.heap.size w w' := by
  have := SameError_any m m w hg
  rw [show (m == m) = true by simp] at this
  exact this
theorem SameListT (ad bd : Option Addr) (ca cb : Nat) (l m : List Tr) (w : World) (hl : SlT w ad l) (hm : SlT w bd m) (h2 : m.length ≤ 1000000) (e : l = m) :
    Calls Tryz.prog 12 #[.slice ad l.length ca, .slice bd m.length cb] w fun e w' => e = .returned (.bool true) ∧ RowKit.Below w.heap.size w w' := by
  have := SameTriples_any ad bd ca cb l m w hl hm (by rw [e]; exact h2) h2
  rwa [show decide (l = m) = true by simpa using e] at this
theorem SameListM (ad bd : Option Addr) (ca cb : Nat) (l m : List Tm) (w : World) (hl : SlM w ad l) (hm : SlM w bd m) (h2 : m.length ≤ 1000000) (e : l = m) :
    Calls Tryz.prog 16 #[.slice ad l.length ca, .slice bd m.length cb] w fun e w' => e = .returned (.bool true) ∧ RowKit.Below w.heap.size w w' := by
  have := SameTerms_any ad bd ca cb l m w hl hm (by rw [e]; exact h2) h2
  rwa [show decide (l = m) = true by simpa using e] at this

set_option maxHeartbeats 32000000 in
set_option maxRecDepth 100000 in
theorem setTells_any (ad bd : Option Addr) (ca cb : Nat) (a b : List Tr) (t : Tr) (w : World) (hg : errVar w) (ha : SlT w ad a) (hb : SlT w bd b) (fa : ∀ x ∈ a, fitTr x) (fb : ∀ x ∈ b, fitTr x) (ft : fitTr t) (na : a.length ≤ 9223372036854775807) (nb : b.length ≤ 9223372036854775807) :
    Calls Tryz.prog 3 #[.slice ad a.length ca, .slice bd b.length cb, valTr t] w fun e w' => e = .returned (.bool true) ∧ RowKit.Below w.heap.size w w' := by
  have HA : Hid (∀ W, RowKit.Below (w.alloc (.cells (encTr t).toArray 26)).heap.size (w.alloc (.cells (encTr t).toArray 26)) W → SlT W ad a ∧ SlT W bd b ∧ errVar W) := fun W h => ⟨(ha.below (balloc _ _)).below h, (hb.below (balloc _ _)).below h, (hg.below (balloc _ _)).below h⟩
  have C2 := fun W h1 h2 => RTwo_any ad bd ca cb a b W h1 h2 fa fb na nb
  have CJ := fun W h1 h2 => Join_any' ad bd ca cb a b W h1 h2 fa fb na nb
  have CL := fun W h1 h2 => Less_any ad bd ca cb a b W h1 h2 fa fb na nb
  have CB := fun W h1 h2 => Both_any ad bd ca cb a b W h1 h2 fa fb na nb
  have CS := fun W h1 => RSet_any ad ca a W h1 fa na
  have CT := fun W h1 => STerms_any ad ca a W h1 fa na
  have CR := fun W => RTriple_any t W ft
  have CI := fun W h1 => RIn_any ad ca a t W h1 na
  have CH := fun W h1 => Has_any ad ca a t W h1 fa ft na
  clear hg ha hb fa fb ft na nb
  unfold valTr at CR CI CH ⊢
  have hA0 := HA.out _ (RowKit.Below.refl _ _)
  have HA0 : Hid _ := hA0
  clear hA0
  go_enter Tryz.func3, Tryz.ntmps3
  go_wp2_with fail
  refine (C2 _ HA0.out.1 HA0.out.2.1).mono ?_
  rintro e w1 ⟨rfl, hB1⟩
  clear C2 HA0
  go_upto_if 34 with fail
  go_cut [8, 9, 10, 11] (fun vj vl vb vf W => ∃ (mj ml mb : List Tr) (aj al ab : Option Addr) (cj cl cb : Nat), vj = .slice aj mj.length cj ∧ vl = .slice al ml.length cl ∧ vb = .slice ab mb.length cb ∧ vf = .int .i64 (joinN a b) ∧ Hid (SlT W aj mj) ∧ Hid (SlT W al ml) ∧ Hid (SlT W ab mb) ∧ Hid (FirstPart a b mj ml mb) ∧ RowKit.Below (w.alloc (.cells (encTr t).toArray 26)).heap.size (w.alloc (.cells (encTr t).toArray 26)) W)
  case first =>
    by_cases hz : bothN a b = 0
    · have hz' : (bothN a b == 0) = true := by simpa using hz
      have Hz : Hid (bothN a b = 0) := hz
      have hl2 : a.length ≤ 200 ∧ b.length ≤ 200 := ⟨(bothN_zero.1 hz).1.1, (bothN_zero.1 hz).2.1⟩
      clear hz CJ CL CB CS CT CR CI CH
      go_wp2_with fail
      refine (RUnion_any ad bd ca cb a b _ (HA.out _ hB1).1 (HA.out _ hB1).2.1 hl2.1 hl2.2).mono ?_
      rintro e w2 ⟨m, aj, cj, rfl, hsj0, hjo, hb2⟩
      have hB2 := bstep hB1 hb2
      have hsj : Hid (SlT w2 aj m) := hsj0
      have hjn : Hid (JoinOf a b m) := hjo
      clear hsj0 hjo hb2
      go_wp2_with fail
      refine (RPart_any ad bd ca cb a b false _ (HA.out _ hB2).1 (HA.out _ hB2).2.1 hl2.1 hl2.2).mono ?_
      rintro e w3 ⟨al, cl, rfl, hsl0, hb3⟩
      have hB3 := bstep hB2 hb3
      have hsl : Hid (SlT w3 al (partL a b false)) := hsl0
      replace hsj := hidT hsj hb3
      clear hsl0 hb3
      go_wp2_with fail
      refine (RPart_any ad bd ca cb a b true _ (HA.out _ hB3).1 (HA.out _ hB3).2.1 hl2.1 hl2.2).mono ?_
      rintro e w4 ⟨ab, cbb, rfl, hsb0, hb4⟩
      have hB4 := bstep hB3 hb4
      have hsb : Hid (SlT w4 ab (partL a b true)) := hsb0
      replace hsj := hidT hsj hb4
      replace hsl := hidT hsl hb4
      clear hsb0 hb4
      have hjl : Hid (m.length = a.length + (lessL b a).length) := join_len Hz.out hjn.out
      have hlb : Hid ((lessL b a).length ≤ b.length) := List.length_filter_le _ _
      have hL : Hid (LessAns a b (partL a b false) ∧ BothAns a b (partL a b true)) := by
        refine ⟨?_, ?_⟩
        · show _ = _; rw [if_pos Hz.out, part_less]
        · show _ = _; rw [if_pos Hz.out, part_both]
      have hll : Hid ((partL a b false).length ≤ 1000000 ∧ (partL a b true).length ≤ 1000000) := by
        have h1 : (partL a b false).length ≤ a.length := List.length_filter_le _ _
        have h2 : (partL a b true).length ≤ a.length := List.length_filter_le _ _
        exact ⟨by omega, by omega⟩
      by_cases hm : 200 < m.length
      · have hj4 : Hid (joinN a b = 4) := by show _ = _; unfold joinN; rw [if_pos Hz.out, if_neg (by rw [← hjl.out]; omega)]
        have hd : decide ((m.length : Int) > 200) = true := by simp; omega
        go_wp2_with fail
        go_meet
        case rel => exact ⟨[], _, _, none, al, ab, 0, cl, cbb, rfl, rfl, rfl, by rw [hj4.out], fun h => absurd rfl h, hsl, hsb, ⟨⟨(fun h => by rw [hj4.out] at h; cases h), fun _ => rfl⟩, hL.out.1, hL.out.2, by simp, hll.out.1, hll.out.2⟩, hB4⟩
      · have hj0 : Hid (joinN a b = 0) := by show _ = _; unfold joinN; rw [if_pos Hz.out, if_pos (by rw [← hjl.out]; omega)]
        have hd : decide ((m.length : Int) > 200) = false := by simp; omega
        go_wp2_with fail
        go_meet
        case rel => exact ⟨m, _, _, aj, al, ab, cj, cl, cbb, rfl, rfl, rfl, by rw [hj0.out, Hz.out], hsj, hsl, hsb, ⟨⟨fun _ => hjn.out, fun h => absurd hj0.out h⟩, hL.out.1, hL.out.2, by omega, hll.out.1, hll.out.2⟩, hB4⟩
    · have hz' : (bothN a b == 0) = false := by simpa using hz
      have Hz : Hid (¬ bothN a b = 0) := hz
      have hj : Hid (joinN a b = bothN a b) := by show _ = _; unfold joinN; rw [if_neg hz]
      clear hz CJ CL CB CS CT CR CI CH
      go_wp2_with fail
      go_meet
      case rel => exact ⟨[], [], [], none, none, none, 0, 0, 0, rfl, rfl, rfl, by rw [hj.out], fun h => absurd rfl h, fun h => absurd rfl h, fun h => absurd rfl h, ⟨⟨fun h => absurd (hj.out ▸ h) Hz.out, fun _ => rfl⟩, (if_neg Hz.out).symm, (if_neg Hz.out).symm, by simp, by simp, by simp⟩, hB1⟩
  case rest =>
    obtain ⟨mj, ml, mb, aj, al, ab, cj, cl, cbb, rfl, rfl, rfl, rfl, hsj, hsl, hsb, hfp, hB2⟩ := hcut
    clear hB1
    generalize hjN : joinN a b = jn at *
    go_wp2_with fail
    refine (CJ _ (HA.out _ hB2).1 (HA.out _ hB2).2.1).mono ?_
    rintro e w3 ⟨hb3, mx, ax, cx, rfl, hs0, hp0⟩
    have hB3 := bstep hB2 hb3
    replace hsj := hidT hsj hb3
    replace hsl := hidT hsl hb3
    replace hsb := hidT hsb hb3
    have hsx : Hid (SlT w3 ax mx) := hs0
    have hpx : Hid (mx = mj) := JoinAns.same hp0 hfp.out.1
    clear hs0 hp0
    clear hb3 hB2
    go_wp2_with fail
    refine (SameErrorT _ _ (HA.out _ hB3).2.2).mono ?_
    rintro e w4 ⟨rfl, hb4⟩
    have hB4 := bstep hB3 hb4
    replace hsj := hidT hsj hb4
    replace hsl := hidT hsl hb4
    replace hsb := hidT hsb hb4
    replace hsx := hidT hsx hb4
    clear hb4 hB3
    go_wp2_with fail
    refine (CL _ (HA.out _ hB4).1 (HA.out _ hB4).2.1).mono ?_
    rintro e w5 ⟨hb5, my, ay, cy, rfl, hs0, hp0⟩
    have hB5 := bstep hB4 hb5
    replace hsj := hidT hsj hb5
    replace hsl := hidT hsl hb5
    replace hsb := hidT hsb hb5
    replace hsx := hidT hsx hb5
    have hsy : Hid (SlT w5 ay my) := hs0
    have hpy : Hid (my = ml) := hp0.trans hfp.out.2.1.symm
    clear hs0 hp0
    clear hb5 hB4
    go_wp2_with fail
    refine (SameErrorT _ _ (HA.out _ hB5).2.2).mono ?_
    rintro e w6 ⟨rfl, hb6⟩
    have hB6 := bstep hB5 hb6
    replace hsj := hidT hsj hb6
    replace hsl := hidT hsl hb6
    replace hsb := hidT hsb hb6
    replace hsx := hidT hsx hb6
    replace hsy := hidT hsy hb6
    clear hb6 hB5
    go_wp2_with fail
    refine (CB _ (HA.out _ hB6).1 (HA.out _ hB6).2.1).mono ?_
    rintro e w7 ⟨hb7, mz, az, cz, rfl, hs0, hp0⟩
    have hB7 := bstep hB6 hb7
    replace hsj := hidT hsj hb7
    replace hsl := hidT hsl hb7
    replace hsb := hidT hsb hb7
    replace hsx := hidT hsx hb7
    replace hsy := hidT hsy hb7
    have hsz : Hid (SlT w7 az mz) := hs0
    have hpz : Hid (mz = mb) := hp0.trans hfp.out.2.2.1.symm
    clear hs0 hp0
    clear hb7 hB6
    go_wp2_with fail
    refine (SameErrorT _ _ (HA.out _ hB7).2.2).mono ?_
    rintro e w8 ⟨rfl, hb8⟩
    have hB8 := bstep hB7 hb8
    replace hsj := hidT hsj hb8
    replace hsl := hidT hsl hb8
    replace hsb := hidT hsb hb8
    replace hsx := hidT hsx hb8
    replace hsy := hidT hsy hb8
    replace hsz := hidT hsz hb8
    clear hb8 hB7
    go_wp2_with fail
    refine (SameListT _ _ _ _ mx mj _ hsx.out hsj.out hfp.out.2.2.2.1 hpx.out).mono ?_
    rintro e w9 ⟨rfl, hb9⟩
    have hB9 := bstep hB8 hb9
    replace hsj := hidT hsj hb9
    replace hsl := hidT hsl hb9
    replace hsb := hidT hsb hb9
    replace hsx := hidT hsx hb9
    replace hsy := hidT hsy hb9
    replace hsz := hidT hsz hb9
    clear hsx hsj hpx
    clear hb9 hB8
    go_wp2_with fail
    refine (SameListT _ _ _ _ my ml _ hsy.out hsl.out hfp.out.2.2.2.2.1 hpy.out).mono ?_
    rintro e w10 ⟨rfl, hb10⟩
    have hB10 := bstep hB9 hb10
    replace hsl := hidT hsl hb10
    replace hsb := hidT hsb hb10
    replace hsy := hidT hsy hb10
    replace hsz := hidT hsz hb10
    clear hsy hsl hpy
    clear hb10 hB9
    go_wp2_with fail
    refine (SameListT _ _ _ _ mz mb _ hsz.out hsb.out hfp.out.2.2.2.2.2 hpz.out).mono ?_
    rintro e w11 ⟨rfl, hb11⟩
    have hB11 := bstep hB10 hb11
    replace hsb := hidT hsb hb11
    replace hsz := hidT hsz hb11
    clear hsz hsb hpz hfp
    clear hb11 hB10
    go_wp2_with fail
    refine (CS _ (HA.out _ hB11).1).mono ?_
    rintro e w12 ⟨rfl, hb12⟩
    have hB12 := bstep hB11 hb12
    clear CJ CL CB CS hjN
    clear hb12 hB11
    go_upto_if 86 with fail
    go_cut [22] (fun vt W => ∃ (mt : List Tm) (at0 : Option Addr) (c0 : Nat), vt = .slice at0 mt.length c0 ∧ Hid (SlM W at0 mt) ∧ Hid (TermsAns a mt) ∧ RowKit.Below (w.alloc (.cells (encTr t).toArray 26)).heap.size (w.alloc (.cells (encTr t).toArray 26)) W)
    case first =>
      by_cases hz : sortedN a = 0
      · have hz' : (sortedN a == 0) = true := by simpa using hz
        have Hz : Hid (sortedN a = 0) := hz
        have hl2 : a.length ≤ 200 := (sortedN_set.1 hz).1
        clear hz CT CR CI CH
        go_wp2_with fail
        refine (RTerms_any ad ca a _ (HA.out _ hB12).1 hl2).mono ?_
        rintro e wt ⟨m, at0, c0, rfl, h1, h2, h3, h4, hbt⟩
        have hst : Hid (SlM wt at0 m) := h1
        have hta : Hid (TermsAns a m) := ⟨fun _ => ⟨h2, h3⟩, fun h => absurd Hz.out h, by omega⟩
        have hBt := bstep hB12 hbt
        clear h1 h2 h3 h4 hbt
        go_wp2_with fail
        go_meet
        case rel => exact ⟨m, at0, c0, rfl, hst, hta, hBt⟩
      · have hz' : (sortedN a == 0) = false := by simpa using hz
        have hta : Hid (TermsAns a []) := ⟨fun h => absurd h hz, fun _ => rfl, by simp⟩
        clear hz CT CR CI CH
        go_wp2_with fail
        go_meet
        case rel => exact ⟨[], none, 0, rfl, fun h => absurd rfl h, hta, hB12⟩
    case rest =>
      obtain ⟨mt, at0, c0, rfl, hst, hta, hB13⟩ := hcut
      clear hB12
      go_wp2_with fail
      refine (CT _ (HA.out _ hB13).1).mono ?_
      rintro e w14 ⟨hb14, mu, au, cu, rfl, hs0, hp0⟩
      have hB14 := bstep hB13 hb14
      replace hst := hidM hst hb14
      have hsu : Hid (SlM w14 au mu) := hs0
      have hpu : Hid (mu = mt) := TermsAns.same hp0 hta.out
      clear hs0 hp0
      clear hb14 hB13
      go_wp2_with fail
      refine (SameErrorT _ _ (HA.out _ hB14).2.2).mono ?_
      rintro e w15 ⟨rfl, hb15⟩
      have hB15 := bstep hB14 hb15
      replace hst := hidM hst hb15
      replace hsu := hidM hsu hb15
      clear hb15 hB14
      go_wp2_with fail
      refine (SameListM _ _ _ _ mu mt _ hsu.out hst.out hta.out.2.2 hpu.out).mono ?_
      rintro e w16 ⟨rfl, hb16⟩
      have hB16 := bstep hB15 hb16
      replace hst := hidM hst hb16
      replace hsu := hidM hsu hb16
      clear hsu hst hpu hta CT
      clear hb16 hB15
      go_upto_if 101 with fail
      go_cut [7] (fun ve W => ve = .int .i64 (hasN a t) ∧ RowKit.Below (w.alloc (.cells (encTr t).toArray 26)).heap.size (w.alloc (.cells (encTr t).toArray 26)) W)
      case first =>
        by_cases hz : sortedN a = 0
        · have hz' : (sortedN a == 0) = true := by simpa using hz
          have Hz : Hid (hasN a t = chkTr t) := by show _ = _; unfold hasN; rw [if_pos hz]
          clear hz CI CH
          obtain ⟨A0, A1, A2, A3, A4, A5, A6, A7, A8, hzA⟩ := ninebox hB16
          go_wp2_with fail
          refine (CR _).mono ?_
          rintro e wt ⟨rfl, hbt⟩
          have hBt := bstep hB16 hbt
          go_wp2_with fail
          go_meet
          case rel => exact ⟨by rw [Hz.out], hBt⟩
        · have hz' : (sortedN a == 0) = false := by simpa using hz
          have Hz : Hid (hasN a t = sortedN a) := by show _ = _; unfold hasN; rw [if_neg hz]
          clear hz CI CH
          go_wp2_with fail
          go_meet
          case rel => exact ⟨by rw [Hz.out], hB16⟩
      case rest =>
        obtain ⟨rfl, hB17⟩ := hcut
        clear hB16 CR
        generalize hasN a t = hn at *
        obtain ⟨A0, A1, A2, A3, A4, A5, A6, A7, A8, hzA⟩ := ninebox hB17
        go_wp2_with fail
        refine (CI _ (HA.out _ hB17).1).mono ?_
        rintro e w18 ⟨rfl, hb18⟩
        have hB18 := bstep hB17 hb18
        clear A0 A1 A2 A3 A4 A5 A6 A7 A8 hzA CI
        clear hb18 hB17
        obtain ⟨A0, A1, A2, A3, A4, A5, A6, A7, A8, hzA⟩ := ninebox hB18
        go_wp2_with fail
        refine (CH _ (HA.out _ hB18).1).mono ?_
        rintro e w19 ⟨rfl, hb19⟩
        have hB19 := bstep hB18 hb19
        clear A0 A1 A2 A3 A4 A5 A6 A7 A8 hzA CH
        clear hb19 hB18
        go_wp2_with fail
        refine (SameErrorT _ _ (HA.out _ hB19).2.2).mono ?_
        rintro e w20 ⟨rfl, hb20⟩
        have hB20 := bstep hB19 hb20
        clear hb20 hB19
        have hfin := bstep (balloc w (.cells (encTr t).toArray 26)) hB20
        generalize decide (t ∈ a) = dm at *
        cases hh : (hn == 0)
        all_goals
          have hh' : decide (hn = 0) = _ := hh
          cases dm
          all_goals
            simp only [hh', Bool.and_true, Bool.and_false]
            go_wp2
            go_ret
            exact ⟨rfl, hfin⟩
end Go.Proofs.YtibgelpkogdgkabGreatDoor
