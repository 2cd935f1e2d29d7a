/- stratalaw1.MatchTells: the walk. -/
import Derived.Test.YtnlcfnpcjkcdmacGreatDoorRefMatch
import Derived.Test.YtnlcfnpcjkcdmacGreatDoorRefVarsL
import Derived.Test.YtnlcfnpcjkcdmacGreatDoorMatchIndex
import Derived.Test.YtnlcfnpcjkcdmacGreatDoorRefPlaces
import Derived.Test.YtnlcfnpcjkcdmacGreatDoorAs
import Derived.Test.YtnlcfnpcjkcdmacGreatDoorTripleSame
import Derived.Deep.DeepCutAuto
namespace Go.Proofs.YtnlcfnpcjkcdmacGreatDoor
open Go Go.RowKit Go.Proofs
set_option synthInstance.maxSize 1000

attribute [local go_sem] eql_errV neq_errV guard_errV

theorem addV_len3 (l : List (List UInt8)) (s : Sl) : (addV l s).length ≤ l.length + 1 := by
  unfold addV
  split
  · omega
  · split
    · omega
    · simp
theorem VarsAns.len {p : Pt} {m : List (List UInt8)} (h : VarsAns p m) : m.length ≤ 3 := by
  unfold VarsAns at h
  rw [h]
  split
  · unfold varsL
    have h1 := addV_len3 [] p.1
    have h2 := addV_len3 (addV [] p.1) p.2.1
    have h3 := addV_len3 (addV (addV [] p.1) p.2.1) p.2.2
    simp at h1
    omega
  · simp
theorem VarsAns.same {p : Pt} {m n : List (List UInt8)} (h : VarsAns p m) (k : VarsAns p n) : m = n := by
  unfold VarsAns at h k
  rw [h, k]
theorem MatchAns.same {l : List Tr} {p : Pt} {m n : List Tr} (h : MatchAns l p m) (k : MatchAns l p n) : m = n := by
  unfold MatchAns at h k
  rw [h, k]
theorem MatchAns.len {l : List Tr} {p : Pt} {m : List Tr} (h : MatchAns l p m) : m.length ≤ 200 ∧ m.length = CountAns l p := by
  unfold MatchAns at h
  unfold CountAns
  rw [h]
  by_cases e : matchN l p = 0
  · rw [if_pos e, if_pos e]
    have hs : sortedN l = 0 := by
      unfold matchN at e
      by_cases h0 : sortedN l = 0
      · exact h0
      · rw [if_neg h0] at e; exact e
    exact ⟨Nat.le_trans (List.length_filter_le _ _) (sortedN_set.1 hs).1, rfl⟩
  · rw [if_neg e, if_neg e]
    simp
theorem indexN_sorted {l : List Tr} {o : List UInt8} (h : indexN l o = 0) : sortedN l = 0 := by
  unfold indexN at h
  by_cases h0 : sortedN l = 0
  · exact h0
  · rw [if_neg h0] at h; exact h
theorem IdxAns.len {l : List Tr} {o : List UInt8} {m : List Nat} (h : IdxAns l o m) : m.length ≤ 200 := by
  by_cases e : indexN l o = 0
  · have h1 := (h.1 e).2.2
    have h2 := (sortedN_set.1 (indexN_sorted e)).1
    omega
  · rw [h.2 e]; simp
theorem IdxAns.same {l : List Tr} {o : List UInt8} {m n : List Nat} (h : IdxAns l o m) (k : IdxAns l o n) : m = n := by
  by_cases e : indexN l o = 0
  · exact places_unique (h.1 e) (k.1 e)
  · rw [h.2 e, k.2 e]

theorem SameErrorM (m : Int) (w : World) (hg : errVar w) : Calls Tryz.prog 7 #[errV m, .int .i64 m] w fun r w' => r = .returned (.bool true) ∧ RowKit.Below w.heap.size w w' := by
  have := SameError_any m m w hg
  rw [show (m == m) = true by simp] at this
  exact this
theorem SameTriplesM (ad bd : Option Addr) (ca cb : Nat) (l m : List Tr) (w : World) (hl : SlT w ad l) (hm : SlT w bd m) (h2 : m.length ≤ 200) (e : l = m) :
    Calls Tryz.prog 12 #[.slice ad l.length ca, .slice bd m.length cb] w fun e w' => e = .returned (.bool true) ∧ RowKit.Below w.heap.size w w' := by
  have := SameTriples_any ad bd ca cb l m w hl hm (by rw [e]; omega) (by omega)
  rwa [show decide (l = m) = true by simpa using e] at this
theorem SameTextsM (ad bd : Option Addr) (ca cb : Nat) (l m : List (List UInt8)) (w : World) (hl : SlV w ad l) (hm : SlV w bd m) (h2 : m.length ≤ 3) (e : l = m) :
    Calls Tryz.prog 8 #[.slice ad l.length ca, .slice bd m.length cb] w fun e w' => e = .returned (.bool true) ∧ RowKit.Below w.heap.size w w' := by
  have := SameTexts_any ad bd ca cb l m w hl hm (by rw [e]; omega) (by omega)
  rwa [show decide (l = m) = true by simpa using e] at this
theorem SameIntsM (ad bd : Option Addr) (ca cb : Nat) (l m : List Nat) (w : World) (hl : IntsAt w ad l) (hm : IntsAt w bd m) (h2 : m.length ≤ 200) (e : l = m) :
    Calls Tryz.prog 16 #[.slice ad l.length ca, .slice bd m.length cb] w fun e w' => e = .returned (.bool true) ∧ RowKit.Below w.heap.size w w' := by
  have := SameInts_any ad bd ca cb l m w hl hm (by rw [e]; omega) (by omega)
  rwa [show decide (l = m) = true by simpa using e] at this

set_option maxHeartbeats 64000000 in
set_option maxRecDepth 100000 in
theorem matchTells_any (ad : Option Addr) (ca : Nat) (l : List Tr) (p : Pt) (o : List UInt8) (w : World) (hg : errVar w) (hl : SlT w ad l) (fl : ∀ x ∈ l, fitTr x) (fp : fitPt p) (nl : l.length ≤ 9223372036854775807) :
    Calls Tryz.prog 3 #[.slice ad l.length ca, valPt p, .string ⟨o.toArray⟩] w fun e w' => e = .returned (.bool true) ∧ RowKit.Below w.heap.size w w' := by
  obtain ⟨B0, hB0⟩ : ∃ B0, B0 = (w.alloc (.cells #[.string ⟨p.1.1.toArray⟩, .int .i64 p.1.2.1, .string ⟨p.1.2.2.1.toArray⟩, .string ⟨p.1.2.2.2.toArray⟩, .string ⟨p.2.1.1.toArray⟩, .int .i64 p.2.1.2.1, .string ⟨p.2.1.2.2.1.toArray⟩, .string ⟨p.2.1.2.2.2.toArray⟩, .string ⟨p.2.2.1.toArray⟩, .int .i64 p.2.2.2.1, .string ⟨p.2.2.2.2.1.toArray⟩, .string ⟨p.2.2.2.2.2.toArray⟩] 28)) := ⟨_, rfl⟩
  have hw0 : RowKit.Below w.heap.size w B0 := by rw [hB0]; exact balloc _ _
  have HA : Hid (∀ W, RowKit.Below B0.heap.size B0 W → SlT W ad l) := fun W h => hl.below (bstep hw0 h)
  have HE : Hid (∀ W, RowKit.Below B0.heap.size B0 W → errVar W) := fun W h => (((bstep hw0 h).cell (World.block_lt_of_cell? w _ hg)).trans hg)
  have HX : Hid (∀ W, RowKit.Below B0.heap.size B0 W → W.cell? ⟨w.heap.size, 0, none⟩ = some (.string ⟨p.1.1.toArray⟩) ∧ W.cell? ⟨w.heap.size, 1, none⟩ = some (.int .i64 p.1.2.1) ∧ W.cell? ⟨w.heap.size, 2, none⟩ = some (.string ⟨p.1.2.2.1.toArray⟩) ∧ W.cell? ⟨w.heap.size, 3, none⟩ = some (.string ⟨p.1.2.2.2.toArray⟩) ∧ W.cell? ⟨w.heap.size, 4, none⟩ = some (.string ⟨p.2.1.1.toArray⟩) ∧ W.cell? ⟨w.heap.size, 5, none⟩ = some (.int .i64 p.2.1.2.1) ∧ W.cell? ⟨w.heap.size, 6, none⟩ = some (.string ⟨p.2.1.2.2.1.toArray⟩) ∧ W.cell? ⟨w.heap.size, 7, none⟩ = some (.string ⟨p.2.1.2.2.2.toArray⟩) ∧ W.cell? ⟨w.heap.size, 8, none⟩ = some (.string ⟨p.2.2.1.toArray⟩) ∧ W.cell? ⟨w.heap.size, 9, none⟩ = some (.int .i64 p.2.2.2.1) ∧ W.cell? ⟨w.heap.size, 10, none⟩ = some (.string ⟨p.2.2.2.2.1.toArray⟩) ∧ W.cell? ⟨w.heap.size, 11, none⟩ = some (.string ⟨p.2.2.2.2.2.toArray⟩)) := by
    intro W h
    rw [hB0] at h
    have hp : PatAt W w.heap.size p := (patBox w p 28).below h
    exact ⟨hp 0 _ rfl, hp 1 _ rfl, hp 2 _ rfl, hp 3 _ rfl, hp 4 _ rfl, hp 5 _ rfl, hp 6 _ rfl, hp 7 _ rfl, hp 8 _ rfl, hp 9 _ rfl, hp 10 _ rfl, hp 11 _ rfl⟩
  have HW : Hid (RowKit.Below w.heap.size w B0) := hw0
  have C1 := fun W => RVars_any p W fp
  have C2 := fun W => Vars_any p W fp
  have C3 := fun W h1 => RSet_any ad ca l W h1 fl nl
  have C4 := fun W h1 => Match_any ad ca l p W h1 fl fp nl
  have C5 := fun W h1 => Count_any ad ca l p W h1 fl fp nl
  have C6 := fun W h1 => Index_any ad ca l o W h1 fl nl
  have C7 : Hid (sortedN l = 0 → ∀ W, SlT W ad l → Calls Tryz.prog 10 #[.slice ad l.length ca, valPt p] W fun e w' => RowKit.Below W.heap.size W w' ∧ ∃ ad' cap', e = .returned (.slice ad' (matchL l p).length cap') ∧ SlT w' ad' (matchL l p)) := fun h W h1 => RMatch_any ad ca l p W h1 (sortedN_set.1 h).1
  clear hg hl fl fp nl hw0
  unfold valPt at C1 C2 C4 C5 C7 ⊢
  go_enter Tryz.func3, Tryz.ntmps3
  go_wp2_with fail
  rw [← hB0]
  have hR := RowKit.Below.refl B0.heap.size B0
  refine (C1 _).mono ?_
  rintro e w1 ⟨hB1, v1, a1, c1, rfl, s1, q1⟩
  have Hv : Hid (SlV w1 a1 v1 ∧ VarsAns p v1) := ⟨s1, q1⟩
  clear hR C1 hB0 s1 q1
  obtain ⟨x0, x1, x2, x3, x4, x5, x6, x7, x8, x9, x10, x11⟩ := HX.out _ hB1
  go_wp2_with fail
  refine (C2 _).mono ?_
  rintro e w2 ⟨hb2, v2, a2, c2, rfl, s2, q2⟩
  have hB2 := bstep hB1 hb2
  have Hv2 : Hid (SlV w2 a1 v1 ∧ SlV w2 a2 v2 ∧ v1.length ≤ 3 ∧ v2 = v1) := ⟨Hv.out.1.below hb2, s2, Hv.out.2.len, q2.same Hv.out.2⟩
  clear hb2 hB1 C2 Hv s2 q2 x0 x1 x2 x3 x4 x5 x6 x7 x8 x9 x10 x11
  go_wp2_with fail
  refine (SameErrorM _ _ (HE.out _ hB2)).mono ?_
  rintro e w3 ⟨rfl, hb3⟩
  have hB3 := bstep hB2 hb3
  have Hv3 : Hid (SlV w3 a1 v1 ∧ SlV w3 a2 v2) := ⟨Hv2.out.1.below hb3, Hv2.out.2.1.below hb3⟩
  clear hb3 hB2
  go_wp2_with fail
  refine (SameTextsM a2 a1 c2 c1 v2 v1 _ Hv3.out.2 Hv3.out.1 Hv2.out.2.2.1 Hv2.out.2.2.2).mono ?_
  rintro e w4 ⟨rfl, hb4⟩
  have hB4 := bstep hB3 hb4
  clear hb4 hB3 Hv2 Hv3
  go_wp2_with fail
  refine (C3 _ (HA.out _ hB4)).mono ?_
  rintro e w5 ⟨rfl, hb5⟩
  have hB5 := bstep hB4 hb5
  clear hb5 hB4
  go_upto_if 45 with fail
  go_cut [13] (fun vf W => vf = .int .i64 (matchN l p) ∧ RowKit.Below B0.heap.size B0 W)
  case first =>
    by_cases hz : sortedN l = 0
    · have hz' : (sortedN l == 0) = true := by simpa using hz
      have Hz : Hid (matchN l p = varsN p) := if_pos hz
      clear hz C3 C4 C5 C6 C7
      go_wp2_with fail
      go_meet
      case rel => exact ⟨by rw [Hz.out], hB5⟩
    · have hz' : (sortedN l == 0) = false := by simpa using hz
      have Hz : Hid (matchN l p = sortedN l) := if_neg hz
      clear hz C3 C4 C5 C6 C7
      go_wp2_with fail
      go_meet
      case rel => exact ⟨by rw [Hz.out], hB5⟩
  case rest =>
    obtain ⟨rfl, hB6⟩ := hcut
    clear hB5
    go_upto_if 48 with fail
    go_cut [14] (fun vm W => ∃ (m : List Tr) (am : Option Addr) (cm : Nat), vm = .slice am m.length cm ∧ Hid (SlT W am m) ∧ Hid (MatchAns l p m) ∧ RowKit.Below B0.heap.size B0 W)
    case first =>
      by_cases hz : matchN l p = 0
      · have hz' : (matchN l p == 0) = true := by simpa using hz
        have hs : sortedN l = 0 := by
          unfold matchN at hz
          by_cases h0 : sortedN l = 0
          · exact h0
          · rw [if_neg h0] at hz; exact hz
        have RM := C7.out hs
        have HP : Hid (MatchAns l p (matchL l p)) := (if_pos hz).symm
        clear hz hs C3 C4 C5 C6 C7
        generalize matchL l p = ML at *
        generalize MatchAns l p = MA at *
        generalize matchN l p = n0 at *
        obtain ⟨x0, x1, x2, x3, x4, x5, x6, x7, x8, x9, x10, x11⟩ := HX.out _ hB6
        go_wp2_with fail
        refine (RM _ (HA.out _ hB6)).mono ?_
        rintro e w7 ⟨hb7, am, cm, rfl, hm⟩
        have hB7 := bstep hB6 hb7
        have Hm : Hid (SlT w7 am ML) := hm
        clear hm hb7 hB6 RM x0 x1 x2 x3 x4 x5 x6 x7 x8 x9 x10 x11
        go_wp2_with fail
        go_meet
        case rel => exact ⟨ML, am, cm, rfl, Hm, HP, hB7⟩
      · have hz' : (matchN l p == 0) = false := by simpa using hz
        have HP : Hid (MatchAns l p []) := (if_neg hz).symm
        clear hz C3 C4 C5 C6 C7
        generalize MatchAns l p = MA at *
        generalize matchN l p = n0 at *
        go_wp2_with fail
        go_meet
        case rel => exact ⟨[], none, 0, rfl, fun h => absurd rfl h, HP, hB6⟩
    case rest =>
      obtain ⟨m, am, cm, rfl, Hm, HP, hB7⟩ := hcut
      clear hB6 C7
      obtain ⟨x0, x1, x2, x3, x4, x5, x6, x7, x8, x9, x10, x11⟩ := HX.out _ hB7
      go_wp2_with fail
      refine (C4 _ (HA.out _ hB7)).mono ?_
      rintro e w8 ⟨hb8, g, ag, cg, rfl, hgs, hga⟩
      have hB8 := bstep hB7 hb8
      have Hq : Hid (SlT w8 am m ∧ SlT w8 ag g ∧ g = m ∧ m.length ≤ 200) := ⟨Hm.out.below hb8, hgs, hga.same HP.out, HP.out.len.1⟩
      have Hcnt : Hid (m.length = CountAns l p) := HP.out.len.2
      have hm200 : m.length ≤ 200 := HP.out.len.1
      clear hgs hga HP Hm hb8 hB7 C4 x0 x1 x2 x3 x4 x5 x6 x7 x8 x9 x10 x11
      generalize CountAns l p = cn at *
      generalize matchN l p = n2 at *
      go_wp2_with fail
      refine (SameErrorM _ _ (HE.out _ hB8)).mono ?_
      rintro e w9 ⟨rfl, hb9⟩
      have hB9 := bstep hB8 hb9
      have Hq : Hid (SlT w9 am m ∧ SlT w9 ag g ∧ g = m ∧ m.length ≤ 200) := ⟨Hq.out.1.below hb9, Hq.out.2.1.below hb9, Hq.out.2.2⟩
      clear hb9 hB8
      go_wp2_with fail
      refine (SameTriplesM ag am cg cm g m _ Hq.out.2.1 Hq.out.1 Hq.out.2.2.2 Hq.out.2.2.1).mono ?_
      rintro e w10 ⟨rfl, hb10⟩
      have hB10 := bstep hB9 hb10
      clear hb10 hB9 Hq
      obtain ⟨x0, x1, x2, x3, x4, x5, x6, x7, x8, x9, x10, x11⟩ := HX.out _ hB10
      go_wp2_with fail
      refine (C5 _ (HA.out _ hB10)).mono ?_
      rintro e w11 ⟨rfl, hb11⟩
      have hB11 := bstep hB10 hb11
      clear hb11 hB10 C5 x0 x1 x2 x3 x4 x5 x6 x7 x8 x9 x10 x11
      go_wp2_with fail
      refine (SameErrorM _ _ (HE.out _ hB11)).mono ?_
      rintro e w12 ⟨rfl, hb12⟩
      have hB12 := bstep hB11 hb12
      clear hb12 hB11
      go_wp2_with fail
      refine (C3 _ (HA.out _ hB12)).mono ?_
      rintro e w13 ⟨rfl, hb13⟩
      have hB13 := bstep hB12 hb13
      clear hb13 hB12 C3
      go_upto_if 76 with fail
      go_cut [20, 8] (fun vp ve W => ∃ (z : List Nat) (az : Option Addr) (cz : Nat), vp = .slice az z.length cz ∧ ve = .int .i64 (indexN l o) ∧ Hid (IntsAt W az z) ∧ Hid (IdxAns l o z) ∧ RowKit.Below B0.heap.size B0 W)
      case first =>
        by_cases hz : sortedN l = 0
        · have hz' : (sortedN l == 0) = true := by simpa using hz
          obtain ⟨t1, _, t3⟩ := sortedN_set.1 hz
          cases hs : (ordN o).isSome
          · have RP := fun W => RPlaces_none ad ca l o W hs
            have hN : Hid (indexN l o = 2) := by show _ = _; unfold indexN; rw [if_pos hz, hs]; rfl
            have HP : Hid (IdxAns l o []) := ⟨fun h => (by rw [hN.out] at h; cases h), fun _ => rfl⟩
            have hpa : Hid (∀ z, PlsAns l o z → z = []) := fun z h => h.2 hs
            clear hz t1 t3 hs C6
            generalize IdxAns l o = IA at *
            generalize indexN l o = n5 at *
            generalize sortedN l = n6 at *
            go_wp2_with fail
            refine (RP _).mono ?_
            rintro e w14 ⟨hb14, z, az, cz, rfl, hI, hA⟩
            obtain rfl := hpa.out z hA
            have hB14 := bstep hB13 hb14
            clear hb14 hB13 RP hA hI hpa
            go_wp2_with fail
            go_meet
            case rel => exact ⟨[], az, cz, rfl, by rw [hN.out], intsNil _ _, HP, hB14⟩
          · obtain ⟨d0, d1, d2, ho, hv⟩ := ordV_bytes hs
            have RP : ∀ W, SlT W ad l → Calls Tryz.prog 14 #[.slice ad l.length ca, .string ⟨o.toArray⟩] W (PAns true (IsPlaces (ordV o) l) W) := fun W h1 => by
              have h6 := ord_six hs
              rw [ho] at h6
              have h7 := RPlaces_some ad ca l d0 d1 d2 (ordV o) W h1 t1 t3 (ord_perm hs) hv h6
              rw [ho] at h7 ⊢
              exact h7
            have hN : Hid (indexN l o = 0) := by show _ = _; unfold indexN; rw [if_pos hz, hs]; rfl
            have HP : Hid (∀ z, IsPlaces (ordV o) l z → IdxAns l o z) := fun z h => ⟨fun _ => h, fun h2 => absurd hN.out h2⟩
            clear hz t1 t3 hs C6 ho hv
            generalize IdxAns l o = IA at *
            generalize indexN l o = n5 at *
            generalize sortedN l = n6 at *
            generalize IsPlaces (ordV o) l = IP at *
            have h60 : n6 = 0 := by simpa using hz'
            subst h60
            go_wp2_with fail
            refine (RP _ (HA.out _ hB13)).mono ?_
            rintro e w14 ⟨hb14, z, az, cz, rfl, hI, hA⟩
            have HI : Hid (IntsAt w14 az z) := hI
            have HZ : Hid (IA z) := HP.out z hA
            have hB14 := bstep hB13 hb14
            clear hb14 hB13 RP hA hI HP
            go_wp2_with fail
            go_meet
            case rel => exact ⟨z, az, cz, rfl, by rw [hN.out], HI, HZ, hB14⟩
        · have hz' : (sortedN l == 0) = false := by simpa using hz
          have hN : Hid (indexN l o = sortedN l) := if_neg hz
          have HP : Hid (IdxAns l o []) := ⟨fun h => absurd (hN.out.symm.trans h) hz, fun _ => rfl⟩
          clear hz C6
          generalize IdxAns l o = IA at *
          generalize indexN l o = n5 at *
          generalize sortedN l = n6 at *
          go_wp2_with fail
          go_meet
          case rel => exact ⟨[], none, 0, rfl, by rw [hN.out], intsNil _ _, HP, hB13⟩
      case rest =>
        obtain ⟨z, az, cz, rfl, rfl, Hz, HZ, hB14⟩ := hcut
        clear hB13
        go_wp2_with fail
        refine (C6 _ (HA.out _ hB14)).mono ?_
        rintro e w15 ⟨hb15, y, ay, cy, rfl, hI, hA⟩
        have hB15 := bstep hB14 hb15
        have Hq : Hid (IntsAt w15 az z ∧ IntsAt w15 ay y ∧ y = z ∧ z.length ≤ 200) := ⟨Hz.out.below hb15, hI, hA.same HZ.out, HZ.out.len⟩
        clear hb15 hB14 hI hA Hz HZ C6
        generalize indexN l o = n5 at *
        go_wp2_with fail
        refine (SameErrorM _ _ (HE.out _ hB15)).mono ?_
        rintro e w16 ⟨rfl, hb16⟩
        have hB16 := bstep hB15 hb16
        have Hq : Hid (IntsAt w16 az z ∧ IntsAt w16 ay y ∧ y = z ∧ z.length ≤ 200) := ⟨Hq.out.1.below hb16, Hq.out.2.1.below hb16, Hq.out.2.2⟩
        clear hb16 hB15
        go_wp2_with fail
        refine (SameIntsM ay az cy cz y z _ Hq.out.2.1 Hq.out.1 Hq.out.2.2.2 Hq.out.2.2.1).mono ?_
        rintro e w17 ⟨rfl, hb17⟩
        have hB17 := bstep HW.out (bstep hB16 hb17)
        have hcc : ((cn : Int) == (m.length : Int)) = true := by have := Hcnt.out; simp; omega
        clear hb17 hB16 Hq
        go_wp2_with fail
        go_ret
        exact ⟨rfl, hB17⟩
end Go.Proofs.YtnlcfnpcjkcdmacGreatDoor
