/- stratalaw1.MatchParts: the walk. -/
import Derived.Test.YtnlcfnpcjkcdmacMatchParts
import Derived.Deep.DeepCutAuto
import Derived.RegionTactic
namespace Go.Proofs.Ytnlcfnpcjkcdmac
open Go Go.RowKit Go.Proofs Go.Maps
set_option synthInstance.maxSize 1000

theorem neqFactP (w : World) : (binOp .neq 30 (.agg #[.int .i64 1, .string ⟨#[97]⟩, .string ⟨#[]⟩, .int .i64 1, .string ⟨#[98]⟩, .string ⟨#[]⟩, .int .i64 1, .string ⟨#[99]⟩, .string ⟨#[]⟩]) (.agg #[.int .i64 1, .string ⟨#[97]⟩, .string ⟨#[]⟩, .int .i64 1, .string ⟨#[98]⟩, .string ⟨#[]⟩, .int .i64 1, .string ⟨#[99]⟩, .string ⟨#[]⟩])).run Try.prog w = .ok (.bool false) w := by kernel_rfl

attribute [local go_sem] eql_errV neq_errV guard_errV
attribute [local go_sem ↓] neqFactP neqEmpty

set_option maxHeartbeats 16000000 in
set_option maxRecDepth 100000 in
theorem parts_any (ad : Option Addr) (ca : Nat) (l : List Tr) (p : Pt) (t : Tr) (w : World) (ha : SlT w ad l) (fa : ∀ x ∈ l, fitTr x) (fp : fitPt p) (ft : fitTr t) (na : l.length ≤ 9223372036854775807) :
    Calls Try.prog 3 #[.slice ad l.length ca, valPt p, valTr t] w fun e w' => e = .returned (.bool true) ∧ Below w.heap.size w w' := by
  have Ha : Hid (SlT w ad l) := ha
  have Hft : Hid (fitPt p ∧ fitTr t) := ⟨fp, ft⟩
  have HF := matchFact_any
  have HM := fun W h => matchAll_any ad ca l W h fa na
  have HS := fun W h => Sorted_any ad ca l W h fa na
  clear ha fa fp ft na
  have HBX : Hid (∀ T1 T2 T3, Boxes w p t (((w.alloc (.cells (encPt p).toArray T1)).alloc (.cells (encTr t).toArray T2)).alloc (.cells (encPt pAll).toArray T3))) := boxes_made w p t
  unfold valPt valTr
  go_enter Try.func3, Try.ntmps3
  go_wp2_with fail
  refine (HF _ _ _ ?hf).mono ?_
  case hf =>
    refine fun _ => ⟨_, 0, rfl, fun j v hj => ?_⟩
    have h9 : j < 9 := (List.getElem?_eq_some_iff.1 hj).1
    rcases (by omega : j = 0 ∨ j = 1 ∨ j = 2 ∨ j = 3 ∨ j = 4 ∨ j = 5 ∨ j = 6 ∨ j = 7 ∨ j = 8) with rfl | rfl | rfl | rfl | rfl | rfl | rfl | rfl | rfl
    all_goals
      simp [cellsT, encTr, factP] at hj
      subst hj
      go_simp
  rintro e w1 ⟨hb1, b1, o1, c1, rfl, hr1⟩
  have hX1 : Hid (Boxes w p t w1) := (((HBX.out 28 30 28).below (balloc _ _)).below (balloc _ _)).below hb1
  have c0 : w1.cell? ⟨b1, o1, none⟩ = some (.int .i64 1) := (hr1.at 0 (by decide)).1
  have c1 : w1.cell? ⟨b1, o1 + 1, none⟩ = some (.string ⟨#[97]⟩) := (hr1.at 0 (by decide)).2.1
  have c2 : w1.cell? ⟨b1, o1 + 2, none⟩ = some (.string ⟨#[]⟩) := (hr1.at 0 (by decide)).2.2.1
  have c3 : w1.cell? ⟨b1, o1 + 3, none⟩ = some (.int .i64 1) := (hr1.at 0 (by decide)).2.2.2.1
  have c4 : w1.cell? ⟨b1, o1 + 4, none⟩ = some (.string ⟨#[98]⟩) := (hr1.at 0 (by decide)).2.2.2.2.1
  have c5 : w1.cell? ⟨b1, o1 + 5, none⟩ = some (.string ⟨#[]⟩) := (hr1.at 0 (by decide)).2.2.2.2.2.1
  have c6 : w1.cell? ⟨b1, o1 + 6, none⟩ = some (.int .i64 1) := (hr1.at 0 (by decide)).2.2.2.2.2.2.1
  have c7 : w1.cell? ⟨b1, o1 + 7, none⟩ = some (.string ⟨#[99]⟩) := (hr1.at 0 (by decide)).2.2.2.2.2.2.2.1
  have c8 : w1.cell? ⟨b1, o1 + 8, none⟩ = some (.string ⟨#[]⟩) := (hr1.at 0 (by decide)).2.2.2.2.2.2.2.2
  obtain ⟨kc, _⟩ := bcell hb1
  have x0 : w1.cell? ⟨w.heap.size + 1 + 1 + 1, 0, none⟩ = some (.int .i64 1) := (kc _ 0 (by simp)).trans (by go_simp)
  have x1 : w1.cell? ⟨w.heap.size + 1 + 1 + 1, 1, none⟩ = some (.string ⟨#[97]⟩) := (kc _ 1 (by simp)).trans (by go_simp)
  have x2 : w1.cell? ⟨w.heap.size + 1 + 1 + 1, 2, none⟩ = some (.string ⟨#[]⟩) := (kc _ 2 (by simp)).trans (by go_simp)
  have x3 : w1.cell? ⟨w.heap.size + 1 + 1 + 1, 3, none⟩ = some (.int .i64 1) := (kc _ 3 (by simp)).trans (by go_simp)
  have x4 : w1.cell? ⟨w.heap.size + 1 + 1 + 1, 4, none⟩ = some (.string ⟨#[98]⟩) := (kc _ 4 (by simp)).trans (by go_simp)
  have x5 : w1.cell? ⟨w.heap.size + 1 + 1 + 1, 5, none⟩ = some (.string ⟨#[]⟩) := (kc _ 5 (by simp)).trans (by go_simp)
  have x6 : w1.cell? ⟨w.heap.size + 1 + 1 + 1, 6, none⟩ = some (.int .i64 1) := (kc _ 6 (by simp)).trans (by go_simp)
  have x7 : w1.cell? ⟨w.heap.size + 1 + 1 + 1, 7, none⟩ = some (.string ⟨#[99]⟩) := (kc _ 7 (by simp)).trans (by go_simp)
  have x8 : w1.cell? ⟨w.heap.size + 1 + 1 + 1, 8, none⟩ = some (.string ⟨#[]⟩) := (kc _ 8 (by simp)).trans (by go_simp)
  clear kc hr1 hb1 HF HBX
  go_wp2_with fail
  go_region
  clear c0 c1 c2 c3 c4 c5 c6 c7 c8 x0 x1 x2 x3 x4 x5 x6 x7 x8
  have hX2 : Hid (Boxes w p t w1.drew) := hX1.out.below (Below.refl _ _).drew
  clear hX1
  generalize w1.drew = W1 at *
  go_wp2_with fail
  refine (HS _ (Ha.out.below hX2.out.2.2.2)).mono ?_
  rintro e w2 ⟨rfl, hb2⟩
  have hX : Hid (Boxes w p t w2) := hX2.out.below hb2
  clear hX2 hb2 HS
  obtain ⟨p0, p1, p2, p3, p4, p5, p6, p7, p8, p9, p10, p11⟩ := hX.out.2.2.1.allP
  cases hs : (sortedN l == 0)
  · go_wp2_with fail
    refine (HM _ (Ha.out.below hX.out.2.2.2)).mono ?_
    rintro e w3 ⟨hb3, m, am, cm, rfl, hsm, _⟩
    go_wp2_with fail
    go_ret
    exact ⟨ret_bool (by simp), bstep hX.out.2.2.2 hb3⟩
  · have hs0 : sortedN l = 0 := by simpa using hs
    have Hset : Hid (IsSet l) := sortedN_set.1 hs0
    have h200 := Hset.out.1
    rw [hs0, show errV 0 = .nilIface from rfl] at HM
    clear hs
    go_wp2_with fail
    refine (HM _ (Ha.out.below hX.out.2.2.2)).mono ?_
    rintro e w3 ⟨hb3, m, am, cm, rfl, hsm, hml⟩
    have hml' := hml trivial
    subst hml'
    have hX3 : Hid (Boxes w p t w3) := hX.out.below hb3
    have Hsm : Hid (SlT w3 am m) := hsm
    clear hml hsm hX hb3 HM p0 p1 p2 p3 p4 p5 p6 p7 p8 p9 p10 p11 hs0
    have HSa := fun W h1 h2 => sameSet_any am ad cm ca m m W h1 h2 Hset.out Hset.out
    rw [show decide (m = m) = true by simp] at HSa
    go_wp2_with fail
    refine (HSa _ Hsm.out (Ha.out.below hX3.out.2.2.2)).mono ?_
    rintro e w4 ⟨rfl, hb4⟩
    have hX4 : Hid (Boxes w p t w4) := hX3.out.below hb4
    clear hX3 hb4 Hsm HSa
    obtain ⟨t0, t1, t2, t3, t4, t5, t6, t7, t8⟩ := hX4.out.2.1.all
    have hz4 : w.heap.size + 1 < w4.heap.size := World.block_lt_of_cell? w4 _ t0
    have HC := fun W h => countJust_any ad ca m t W h Hset.out Hft.out.2
    go_wp2_with fail
    refine (HC _ (Ha.out.below (bstep hX4.out.2.2.2 (balloc _ _)))).mono ?_
    rintro e w5 ⟨rfl, hb5⟩
    have hX5 : Hid (Boxes w p t w5) := (hX4.out.below (balloc _ _)).below hb5
    clear hX4 hb5 HC t0 t1 t2 t3 t4 t5 t6 t7 t8 hz4
    obtain ⟨t0, t1, t2, t3, t4, t5, t6, t7, t8⟩ := hX5.out.2.1.all
    have HH := fun W h => hasSet_any ad ca m t W h Hset.out Hft.out.2
    unfold valTr at HH
    go_wp2_with fail
    refine (HH _ (Ha.out.below hX5.out.2.2.2)).mono ?_
    rintro e w6 ⟨rfl, hb6⟩
    have hX6 : Hid (Boxes w p t w6) := hX5.out.below hb6
    clear hX5 hb6 HH t0 t1 t2 t3 t4 t5 t6 t7 t8
    have hjv : Hid (chkTr t = 0 → varsN (justP t) = 0 ∧ CountAns m (justP t) = if t ∈ m then 1 else 0) := fun h => ⟨just_vars h, just_count Hset.out h⟩
    go_upto_region 16 with fail
    go_cut [14, 17, 18, 19, 117] from 90 to 117 (fun _ _ _ _ v W' => v = .bool false ∧ Hid (Boxes w p t W'))
    case first =>
      cases hc : (chkTr t == 0)
      · have hc' : decide (chkTr t = 0) = false := by simpa using hc
        rw [hc']
        go_wp2_with fail
        go_meet
        case rel => exact ⟨rfl, hX6⟩
      · have hc0 : chkTr t = 0 := by simpa using hc
        obtain ⟨e1, e2⟩ := hjv.out hc0
        by_cases hm : t ∈ m
        · rw [if_pos hm] at e2
          have d1 : decide (chkTr t = 0) = true := by simpa using hc
          have d2 : decide (t ∈ m) = true := by simpa using hm
          rw [e1, e2, d1, d2, show errV 0 = .nilIface from rfl]
          clear e1 e2 d1 d2 hc0 hm
          go_wp2_with fail
          go_meet
          case rel => exact ⟨rfl, hX6⟩
        · rw [if_neg hm] at e2
          have d1 : decide (chkTr t = 0) = true := by simpa using hc
          have d2 : decide (t ∈ m) = false := by simpa using hm
          rw [e1, e2, d1, d2, show errV 0 = .nilIface from rfl]
          clear e1 e2 d1 d2 hc0 hm
          go_wp2_with fail
          go_meet
          case rel => exact ⟨rfl, hX6⟩
    case rest =>
      obtain ⟨rfl, hX7⟩ := hcut
      clear hjv hX6
      have HMp := fun W h => matchSet_any ad ca m p W h Hset.out Hft.out.1
      unfold valPt at HMp
      obtain ⟨p0, p1, p2, p3, p4, p5, p6, p7, p8, p9, p10, p11⟩ := hX7.out.1.all
      go_wp2_with fail
      refine (HMp _ (Ha.out.below hX7.out.2.2.2)).mono ?_
      rintro e w7 ⟨hb7, s, az, cs, rfl, hss, hse⟩
      have hX8 : Hid (Boxes w p t w7) := hX7.out.below hb7
      clear p0 p1 p2 p3 p4 p5 p6 p7 p8 p9 p10 p11 hX7 hb7 HMp
      cases hv : (varsN p == 0)
      · go_wp2_with fail
        go_ret
        exact ⟨rfl, hX8.out.2.2.2⟩
      · have hv0 : varsN p = 0 := by simpa using hv
        have hse' := hse hv0
        subst hse'
        have HB1 := fun W h1 h2 => bothSet_any az ad cs ca (matchL m p) m W h1 h2 (match_set Hset.out p) Hset.out
        rw [both_part] at HB1
        have Hs : Hid (IsSet (matchL m p)) := match_set Hset.out p
        have Hss : Hid (SlT w7 az (matchL m p)) := hss
        have Hv0 : Hid (varsN p = 0) := hv0
        clear hse hss hv0
        generalize matchL m p = s at *
        have hs200 := Hs.out.1
        go_wp2_with fail
        refine (HB1 _ Hss.out (Ha.out.below hX8.out.2.2.2)).mono ?_
        rintro e w8 ⟨hb8, apt, cpt, rfl, hpt⟩
        have HT1 := fun W h1 h2 => sameSet_any apt az cpt cs s s W h1 h2 Hs.out Hs.out
        rw [show decide (s = s) = true by simp] at HT1
        have hX9 : Hid (Boxes w p t w8) := hX8.out.below hb8
        have Hpt : Hid (SlT w8 apt s) := hpt
        have Hss8 : Hid (SlT w8 az s) := Hss.out.below hb8
        clear hpt hX8 hb8 HB1 Hss
        go_wp2_with fail
        refine (HT1 _ Hpt.out Hss8.out).mono ?_
        rintro e w9 ⟨rfl, hb9⟩
        have hX : Hid (Boxes w p t w9) := hX9.out.below hb9
        have Hss : Hid (SlT w9 az s) := Hss8.out.below hb9
        clear hX9 Hss8 hb9 HT1 Hpt
        obtain ⟨p0, p1, p2, p3, p4, p5, p6, p7, p8, p9, p10, p11⟩ := hX.out.1.all
        obtain ⟨t0, t1, t2, _, _, _, _, _, _⟩ := hX.out.2.1.all
        have hz9 : w.heap.size + 1 < w9.heap.size := World.block_lt_of_cell? w9 _ t0
        have hz9' : w.heap.size < w9.heap.size := by omega
        have HCk := fun W => Check_any t.1.1 t.1.2.1 t.1.2.2 W Hft.out.2.1.1 Hft.out.2.1.2
        have hck : Hid (checkN t.1.1 t.1.2.1 t.1.2.2 = tmChk t.1) := rfl
        cases hve : p.1.1.isEmpty
        rotate_left
        · have HQ := fun W h => matchSet_any ad ca m p W h Hset.out Hft.out.1
          rw [Hv0.out, show errV 0 = .nilIface from rfl] at HQ
          have HFs : Hid (IsSet (matchL m p)) := match_set Hset.out p
          generalize matchL m p = F at *
          unfold valPt at HQ
          go_wp2_with fail
          have hBW : Below w.heap.size w _ := bstep hX.out.2.2.2 (balloc w9 (.cells (encPt p).toArray 28))
          have HsW : Hid (SlT _ az s) := Hss.out.below (balloc w9 (.cells (encPt p).toArray 28))
          refine (HQ _ (Ha.out.below hBW)).mono ?_
          clear p0 p1 p2 p3 p4 p5 p6 p7 p8 p9 p10 p11 t0 t1 t2 HQ HCk
          rintro e w11 ⟨hb11, f0, af, cf, rfl, hf, hfe⟩
          have ef := hfe trivial
          subst ef
          have hB11 := bstep hBW hb11
          have Hs11 : Hid (SlT w11 az s) := HsW.out.below hb11
          have hf200 := HFs.out.1
          have Hf : Hid (SlT w11 af f0) := hf
          have HB2 := fun W h1 h2 => bothSet_any af az cf cs f0 s W h1 h2 HFs.out Hs.out
          have hbs : (bothL f0 s).length ≤ 200 := Nat.le_trans (List.length_filter_le _ _) hf200
          have HSB : Hid (IsSet (bothL f0 s)) := HFs.out.filter _
          have hlast := last_true f0 s
          clear hf hfe hb11 HsW
          go_wp2_with fail
          refine (HB2 _ Hf.out Hs11.out).mono ?_
          rintro e w12 ⟨hb12, a2, c2, rfl, h2⟩
          have HT2 := fun W h1 h2 => sameSet_any a2 af c2 cf (bothL f0 s) f0 W h1 h2 HSB.out HFs.out
          have Hf2 : Hid (SlT w12 a2 (bothL f0 s) ∧ SlT w12 af f0) := ⟨h2, Hf.out.below hb12⟩
          have hB12 := bstep hB11 hb12
          clear h2 hb12 HB2 Hf Hs11
          generalize decide (bothL f0 s = f0) = d at *
          go_wp2_with fail
          refine (HT2 _ Hf2.out.1 Hf2.out.2).mono ?_
          rintro e w13 ⟨rfl, hb13⟩
          have hB13 := bstep hB12 hb13
          clear HT2 Hf2 hb13
          cases d
          · have hlen : decide ((f0.length : Int) > 0) = true := by simpa using hlast
            clear hlast
            go_wp2_with fail
            go_ret
            exact ⟨ret_bool (by simpa using hlen), hB13⟩
          · clear hlast
            go_wp2_with fail
            go_ret
            exact ⟨rfl, hB13⟩
        · cases hcc : (checkN t.1.1 t.1.2.1 t.1.2.2 == 0)
          · have HQ := fun W h => matchSet_any ad ca m p W h Hset.out Hft.out.1
            rw [Hv0.out, show errV 0 = .nilIface from rfl] at HQ
            have HFs : Hid (IsSet (matchL m p)) := match_set Hset.out p
            generalize matchL m p = F at *
            unfold valPt at HQ
            have Hpq : Hid (PatAt (w9.alloc (.cells (encPt p).toArray 28)) w9.heap.size p) := patBox w9 p 28
            have hbq := balloc w9 (.cells (encPt p).toArray 28)
            go_wp2_with fail
            refine (HCk _).mono ?_
            rintro e w10 ⟨rfl, hb10⟩
            clear p0 p1 p2 p3 p4 p5 p6 p7 p8 p9 p10 p11
            obtain ⟨p0, p1, p2, p3, p4, p5, p6, p7, p8, p9, p10, p11⟩ := (Hpq.out.below hb10).all
            have hBW : Below w.heap.size w w10 := bstep (bstep hX.out.2.2.2 hbq) hb10
            have HsW : Hid (SlT w10 az s) := (Hss.out.below hbq).below hb10
            clear hb10 Hpq hbq HCk
            go_wp2_with fail
            refine (HQ _ (Ha.out.below hBW)).mono ?_
            clear p0 p1 p2 p3 p4 p5 p6 p7 p8 p9 p10 p11 t0 t1 t2 HQ
            rintro e w11 ⟨hb11, f0, af, cf, rfl, hf, hfe⟩
            have ef := hfe trivial
            subst ef
            have hB11 := bstep hBW hb11
            have Hs11 : Hid (SlT w11 az s) := HsW.out.below hb11
            have hf200 := HFs.out.1
            have Hf : Hid (SlT w11 af f0) := hf
            have HB2 := fun W h1 h2 => bothSet_any af az cf cs f0 s W h1 h2 HFs.out Hs.out
            have hbs : (bothL f0 s).length ≤ 200 := Nat.le_trans (List.length_filter_le _ _) hf200
            have HSB : Hid (IsSet (bothL f0 s)) := HFs.out.filter _
            have hlast := last_true f0 s
            clear hf hfe hb11 HsW
            go_wp2_with fail
            refine (HB2 _ Hf.out Hs11.out).mono ?_
            rintro e w12 ⟨hb12, a2, c2, rfl, h2⟩
            have HT2 := fun W h1 h2 => sameSet_any a2 af c2 cf (bothL f0 s) f0 W h1 h2 HSB.out HFs.out
            have Hf2 : Hid (SlT w12 a2 (bothL f0 s) ∧ SlT w12 af f0) := ⟨h2, Hf.out.below hb12⟩
            have hB12 := bstep hB11 hb12
            clear h2 hb12 HB2 Hf Hs11
            generalize decide (bothL f0 s = f0) = d at *
            go_wp2_with fail
            refine (HT2 _ Hf2.out.1 Hf2.out.2).mono ?_
            rintro e w13 ⟨rfl, hb13⟩
            have hB13 := bstep hB12 hb13
            clear HT2 Hf2 hb13
            cases d
            · have hlen : decide ((f0.length : Int) > 0) = true := by simpa using hlast
              clear hlast
              go_wp2_with fail
              go_ret
              exact ⟨ret_bool (by simpa using hlen), hB13⟩
            · clear hlast
              go_wp2_with fail
              go_ret
              exact ⟨rfl, hB13⟩
          · have HQ : ∀ W, SlT W ad m → Calls Try.prog 6 #[.slice ad m.length ca, .agg #[.string ⟨#[]⟩, .int .i64 t.1.1, .string ⟨t.1.2.1.toArray⟩, .string ⟨t.1.2.2.toArray⟩, .string ⟨p.2.1.1.toArray⟩, .int .i64 p.2.1.2.1, .string ⟨p.2.1.2.2.1.toArray⟩, .string ⟨p.2.1.2.2.2.toArray⟩, .string ⟨p.2.2.1.toArray⟩, .int .i64 p.2.2.2.1, .string ⟨p.2.2.2.2.1.toArray⟩, .string ⟨p.2.2.2.2.2.toArray⟩]] W _ := fun W h => matchSet_any ad ca m (([], t.1), p.2) W h Hset.out ⟨⟨by simp, Hft.out.2.1.1, Hft.out.2.1.2⟩, Hft.out.1.2⟩
            rw [turn_vars Hv0.out (by have := hck.out; simp at hcc; rw [← this, hcc]), show errV 0 = .nilIface from rfl] at HQ
            have HFs : Hid (IsSet (matchL m (([], t.1), p.2))) := match_set Hset.out _
            generalize matchL m (([], t.1), p.2) = F at *
            have Hpq : Hid (PatAt (w9.alloc (.cells (encPt p).toArray 28)) w9.heap.size p) := patBox w9 p 28
            have hbq := balloc w9 (.cells (encPt p).toArray 28)
            go_wp2_with fail
            refine (HCk _).mono ?_
            rintro e w10 ⟨rfl, hb10⟩
            clear p0 p1 p2 p3 p4 p5 p6 p7 p8 p9 p10 p11
            obtain ⟨p0, p1, p2, p3, p4, p5, p6, p7, p8, p9, p10, p11⟩ := (Hpq.out.below hb10).all
            have hQ10 : Below w9.heap.size w9 w10 := bstep hbq hb10
            clear t0 t1 t2
            obtain ⟨t0, t1, t2, _, _, _, _, _, _⟩ := ((hX.out.below hbq).below hb10).2.1.all
            obtain ⟨_, ff⟩ := bcell hb10
            have f0 : w10.frozen? ⟨w9.heap.size, 0, none⟩ = false := (ff _ 0 (by simp)).trans (by go_simp)
            have f1 : w10.frozen? ⟨w9.heap.size, 1, none⟩ = false := (ff _ 1 (by simp)).trans (by go_simp)
            have f2 : w10.frozen? ⟨w9.heap.size, 2, none⟩ = false := (ff _ 2 (by simp)).trans (by go_simp)
            have f3 : w10.frozen? ⟨w9.heap.size, 3, none⟩ = false := (ff _ 3 (by simp)).trans (by go_simp)
            clear hb10 Hpq hbq HCk ff
            go_wp2_with fail
            have hQ4 := (((hQ10.setCell (p := ⟨w9.heap.size, 0, none⟩) (Nat.le_refl _) (.string ⟨#[]⟩)).setCell (p := ⟨w9.heap.size, 1, none⟩) (Nat.le_refl _) (.int .i64 t.1.1)).setCell (p := ⟨w9.heap.size, 2, none⟩) (Nat.le_refl _) (.string ⟨t.1.2.1.toArray⟩)).setCell (p := ⟨w9.heap.size, 3, none⟩) (Nat.le_refl _) (.string ⟨t.1.2.2.toArray⟩)
            have hBW := bstep hX.out.2.2.2 hQ4
            have HsW : Hid (SlT _ az s) := Hss.out.below hQ4
            refine (HQ _ (Ha.out.below hBW)).mono ?_
            clear p0 p1 p2 p3 p4 p5 p6 p7 p8 p9 p10 p11 t0 t1 t2 f0 f1 f2 f3 HQ hQ4 hQ10
            rintro e w11 ⟨hb11, f0, af, cf, rfl, hf, hfe⟩
            have ef := hfe trivial
            subst ef
            have hB11 := bstep hBW hb11
            have Hs11 : Hid (SlT w11 az s) := HsW.out.below hb11
            have hf200 := HFs.out.1
            have Hf : Hid (SlT w11 af f0) := hf
            have HB2 := fun W h1 h2 => bothSet_any af az cf cs f0 s W h1 h2 HFs.out Hs.out
            have hbs : (bothL f0 s).length ≤ 200 := Nat.le_trans (List.length_filter_le _ _) hf200
            have HSB : Hid (IsSet (bothL f0 s)) := HFs.out.filter _
            have hlast := last_true f0 s
            clear hf hfe hb11 HsW
            go_wp2_with fail
            refine (HB2 _ Hf.out Hs11.out).mono ?_
            rintro e w12 ⟨hb12, a2, c2, rfl, h2⟩
            have HT2 := fun W h1 h2 => sameSet_any a2 af c2 cf (bothL f0 s) f0 W h1 h2 HSB.out HFs.out
            have Hf2 : Hid (SlT w12 a2 (bothL f0 s) ∧ SlT w12 af f0) := ⟨h2, Hf.out.below hb12⟩
            have hB12 := bstep hB11 hb12
            clear h2 hb12 HB2 Hf Hs11
            generalize decide (bothL f0 s = f0) = d at *
            go_wp2_with fail
            refine (HT2 _ Hf2.out.1 Hf2.out.2).mono ?_
            rintro e w13 ⟨rfl, hb13⟩
            have hB13 := bstep hB12 hb13
            clear HT2 Hf2 hb13
            cases d
            · have hlen : decide ((f0.length : Int) > 0) = true := by simpa using hlast
              clear hlast
              go_wp2_with fail
              go_ret
              exact ⟨ret_bool (by simpa using hlen), hB13⟩
            · clear hlast
              go_wp2_with fail
              go_ret
              exact ⟨rfl, hB13⟩
end Go.Proofs.Ytnlcfnpcjkcdmac
