/- stratalaw1.LayerTells: the walk. -/
import Derived.Test.YtgihagcjnjfpcacGreatDoorLayerTellsPlain
import Derived.Deep.DeepCutAuto
namespace Go.Proofs.YtgihagcjnjfpcacGreatDoor
open Go Go.RowKit Go.Proofs
set_option synthInstance.maxSize 1000

attribute [local go_sem] eql_errV neq_errV guard_errV

/-- the world behind the two boxes -/
def boxed (w : World) (v0 v1 u0 u1 : Value) : World := (w.alloc (.cells #[v0, v1] 53)).alloc (.cells #[u0, u1] 53)

theorem nameW {B0 W : World} (h : RowKit.Below B0.heap.size B0 W) : ∃ W', W' = W ∧ RowKit.Below B0.heap.size B0 W' := ⟨W, rfl, h⟩
theorem thenN_early {a b c d : List Tr} (h : ¬ orN (apartN a b) (apartN c d) = 0) : thenN a b c d = orN (apartN a b) (apartN c d) := by
  unfold thenN followsN
  by_cases h1 : apartN a b = 0
  · rw [orN_pos h1] at h
    rw [orN_pos h1, orN_pos h1, orN_neg h, orN_neg h]
  · rw [orN_neg h1, orN_neg h1, orN_neg h1]

set_option maxHeartbeats 64000000 in
set_option maxRecDepth 100000 in
theorem layerTells_any (sd ad bd cd dd od : Option Addr) (cs ca cb cc ce co : Nat) (s a b c d o : List Tr) (w : World) (hg : errVar w) (hs : SlT w sd s) (ha : SlT w ad a) (hb : SlT w bd b) (hc : SlT w cd c) (hd : SlT w dd d) (ho : SlT w od o)
    (fs : ∀ x ∈ s, fitTr x) (fa : ∀ x ∈ a, fitTr x) (fb : ∀ x ∈ b, fitTr x) (fc : ∀ x ∈ c, fitTr x) (fd : ∀ x ∈ d, fitTr x) (fo : ∀ x ∈ o, fitTr x)
    (ns : s.length ≤ 9223372036854775807) (na : a.length ≤ 9223372036854775807) (nb : b.length ≤ 9223372036854775807) (nc : c.length ≤ 9223372036854775807) (nd : d.length ≤ 9223372036854775807) (no : o.length ≤ 9223372036854775807) :
    Calls Tryz.prog 4 #[.slice sd s.length cs, .agg #[.slice ad a.length ca, .slice bd b.length cb], .agg #[.slice cd c.length cc, .slice dd d.length ce], .slice od o.length co] w fun e w' => e = .returned (.bool true) ∧ RowKit.Below w.heap.size w w' := by
  obtain ⟨B0, hB0⟩ : ∃ B0, B0 = ((w.alloc (.cells #[.slice ad a.length ca, .slice bd b.length cb] 53)).alloc (.cells #[.slice cd c.length cc, .slice dd d.length ce] 53)) := ⟨_, rfl⟩
  have hw0 : RowKit.Below w.heap.size w B0 := by rw [hB0]; exact bstep (balloc _ _) (balloc _ _)
  have HA : Hid (∀ W, RowKit.Below B0.heap.size B0 W → SlT W sd s ∧ SlT W ad a ∧ SlT W bd b ∧ SlT W cd c ∧ SlT W dd d ∧ SlT W od o) := fun W h => ⟨hs.below (bstep hw0 h), ha.below (bstep hw0 h), hb.below (bstep hw0 h), hc.below (bstep hw0 h), hd.below (bstep hw0 h), ho.below (bstep hw0 h)⟩
  have HE : Hid (∀ W, RowKit.Below B0.heap.size B0 W → errVar W) := fun W h => (((bstep hw0 h).cell (World.block_lt_of_cell? w _ hg)).trans hg)
  have HX : Hid (∀ W, RowKit.Below B0.heap.size B0 W → W.cell? ⟨w.heap.size, 0, none⟩ = some (.slice ad a.length ca) ∧ W.cell? ⟨w.heap.size, 1, none⟩ = some (.slice bd b.length cb) ∧ W.cell? ⟨w.heap.size + 1, 0, none⟩ = some (.slice cd c.length cc) ∧ W.cell? ⟨w.heap.size + 1, 1, none⟩ = some (.slice dd d.length ce) ∧ w.heap.size + 1 < W.heap.size) := by
    intro W h
    rw [hB0] at h
    obtain ⟨x0, x1, _, _, _⟩ := twobox1 h
    obtain ⟨y0, y1, hz, _, _⟩ := twobox2 h
    exact ⟨x0, x1, y0, y1, hz⟩
  have HW : Hid (RowKit.Below w.heap.size w B0) := hw0
  have HB : Hid (B0.heap.size = w.heap.size + 1 + 1) := by show _ = _; rw [hB0]; simp
  have C1 := fun W h1 h2 => RLayer_any ad bd ca cb a b W h1 h2 fa fb na nb
  have C2 := fun W h1 h2 => LCheck_any ad bd ca cb a b W h1 h2 fa fb na nb
  have C3 := fun W h1 => RSet_any sd cs s W h1 fs ns
  have C4 := fun W h1 h2 h3 => LApply_any sd ad bd cs ca cb s a b W h1 h2 h3 fs fa fb ns na nb
  have C5 := fun W h1 h2 => RTwo_any sd od cs co s o W h1 h2 fs fo ns no
  have C6 := fun W h1 h2 => LBetween_any sd od cs co s o W h1 h2 fs fo ns no
  have C7 := fun W h1 h2 => LTurn_any ad bd ca cb a b W h1 h2 fa fb na nb
  have C8 := fun W h1 h2 => RLayer_any cd dd cc ce c d W h1 h2 fc fd nc nd
  have C9 := fun W h1 h2 h3 h4 => LThen_any ad bd cd dd ca cb cc ce a b c d W h1 h2 h3 h4 fa fb fc fd na nb nc nd
  clear hg hs ha hb hc hd ho fs fa fb fc fd fo ns na nb nc nd no hw0
  go_enter Tryz.func4, Tryz.ntmps4
  go_wp2_with fail
  rw [← hB0]
  have hR := RowKit.Below.refl B0.heap.size B0
  refine (C1 _ (HA.out _ hR).2.1 (HA.out _ hR).2.2.1).mono ?_
  rintro e w1 ⟨rfl, hB1⟩
  clear hR C1 hB0
  obtain ⟨x0, x1, y0, y1, hz⟩ := HX.out _ hB1
  go_wp2_with fail
  refine (C2 _ (HA.out _ hB1).2.1 (HA.out _ hB1).2.2.1).mono ?_
  rintro e w2 ⟨rfl, hb2⟩
  have hB2 := bstep hB1 hb2
  clear hb2 hB1 C2 x0 x1 y0 y1 hz
  go_wp2_with fail
  refine (SameErrorT _ _ (HE.out _ hB2)).mono ?_
  rintro e w3 ⟨rfl, hb3⟩
  have hB3 := bstep hB2 hb3
  clear hb3 hB2
  go_wp2_with fail
  refine (C3 _ (HA.out _ hB3).1).mono ?_
  rintro e w4 ⟨rfl, hb4⟩
  have hB4 := bstep hB3 hb4
  clear hb4 hB3 C3
  go_upto_if 38 with fail
  go_cut [11] (fun vf W => vf = .int .i64 (orN (sortedN s) (apartN a b)) ∧ RowKit.Below B0.heap.size B0 W)
  case first =>
    by_cases hz : sortedN s = 0
    · have hz' : (sortedN s == 0) = true := by simpa using hz
      have Hz : Hid (orN (sortedN s) (apartN a b) = apartN a b) := orN_pos hz
      clear hz C4 C5 C6 C7 C8 C9
      go_wp2_with fail
      go_meet
      case rel => exact ⟨by rw [Hz.out], hB4⟩
    · have hz' : (sortedN s == 0) = false := by simpa using hz
      have Hz : Hid (orN (sortedN s) (apartN a b) = sortedN s) := orN_neg hz
      clear hz C4 C5 C6 C7 C8 C9
      go_wp2_with fail
      go_meet
      case rel => exact ⟨by rw [Hz.out], hB4⟩
  case rest =>
    obtain ⟨rfl, hB5⟩ := hcut
    clear hB4
    go_upto_if 41 with fail
    go_cut [12, 11] (fun vm vf W => ∃ (m : List Tr) (am : Option Addr) (cm : Nat), vm = .slice am m.length cm ∧ vf = .int .i64 (applyN s a b) ∧ Hid (SlT W am m) ∧ Hid (ApplyAns s a b m) ∧ RowKit.Below B0.heap.size B0 W)
    case first =>
      by_cases hz : orN (sortedN s) (apartN a b) = 0
      · have hz' : (orN (sortedN s) (apartN a b) == 0) = true := by simpa using hz
        obtain ⟨h1, h2⟩ := orN_zero.1 hz
        obtain ⟨g1, g2⟩ := bothN_zero.1 (orN_zero.1 h2).1
        have RA := fun W q1 q2 q3 => RApply_any sd ad bd cs ca cb s a b W q1 q2 q3 (sortedN_set.1 h1) g1 g2 h2
        clear hz h1 h2 g1 g2 C4 C5 C6 C7 C8 C9
        generalize orN (sortedN s) (apartN a b) = n0 at *
        generalize apartN a b = n1 at *
        generalize ApplyAns s a b = AA at *
        generalize applyN s a b = n2 at *
        obtain ⟨x0, x1, y0, y1, hz⟩ := HX.out _ hB5
        go_wp2_with fail
        refine (RA _ (HA.out _ hB5).1 (HA.out _ hB5).2.1 (HA.out _ hB5).2.2.1).mono ?_
        rintro e w6 ⟨hb6, m, am, cm, rfl, hm, hP⟩
        have hB6 := bstep hB5 hb6
        have Hm : Hid (SlT w6 am m) := hm
        have HP : Hid (AA m) := hP
        clear hm hP hb6 hB5 x0 x1 y0 y1 hz RA
        go_wp2_with fail
        go_meet
        case rel => exact ⟨m, am, cm, rfl, rfl, Hm, HP, hB6⟩
      · have hz' : (orN (sortedN s) (apartN a b) == 0) = false := by simpa using hz
        have Hz : Hid (applyN s a b = orN (sortedN s) (apartN a b)) := by
          show _ = _
          unfold applyN
          by_cases h1 : sortedN s = 0
          · rw [orN_pos h1] at hz
            rw [orN_pos h1, orN_pos h1, orN_neg hz]
          · rw [orN_neg h1, orN_neg h1]
        have HP : Hid (ApplyAns s a b []) := ⟨fun h => absurd (Hz.out.symm.trans h) hz, fun _ => rfl⟩
        clear hz C4 C5 C6 C7 C8 C9
        generalize orN (sortedN s) (apartN a b) = n0 at *
        generalize apartN a b = n1 at *
        generalize ApplyAns s a b = AA at *
        generalize applyN s a b = n2 at *
        go_wp2_with fail
        go_meet
        case rel => exact ⟨[], none, 0, rfl, by rw [Hz.out], fun h => absurd rfl h, HP, hB5⟩
    case rest =>
      obtain ⟨m, am, cm, rfl, rfl, Hm, HP, hB6⟩ := hcut
      clear hB5
      obtain ⟨x0, x1, y0, y1, hz⟩ := HX.out _ hB6
      go_wp2_with fail
      refine (C4 _ (HA.out _ hB6).1 (HA.out _ hB6).2.1 (HA.out _ hB6).2.2.1).mono ?_
      rintro e w7 ⟨hb7, q, aq, cq, rfl, hq, hQ⟩
      have hB7 := bstep hB6 hb7
      have Hq : Hid (SlT w7 am m ∧ SlT w7 aq q ∧ q = m ∧ m.length ≤ 200) := ⟨Hm.out.below hb7, hq, hQ.same HP.out, HP.out.len⟩
      clear hq hQ HP Hm hb7 hB6 C4 x0 x1 y0 y1 hz
      generalize applyN s a b = n2 at *
      go_wp2_with fail
      refine (SameErrorT _ _ (HE.out _ hB7)).mono ?_
      rintro e w8 ⟨rfl, hb8⟩
      have hB8 := bstep hB7 hb8
      have Hq : Hid (SlT w8 am m ∧ SlT w8 aq q ∧ q = m ∧ m.length ≤ 200) := ⟨Hq.out.1.below hb8, Hq.out.2.1.below hb8, Hq.out.2.2⟩
      clear hb8 hB7
      go_wp2_with fail
      refine (SameListT aq am cq cm q m _ Hq.out.2.1 Hq.out.1 Hq.out.2.2.2 Hq.out.2.2.1).mono ?_
      rintro e w9 ⟨rfl, hb9⟩
      have hB9 := bstep hB8 hb9
      clear hb9 hB8 Hq
      go_wp2_with fail
      refine (C5 _ (HA.out _ hB9).1 (HA.out _ hB9).2.2.2.2.2).mono ?_
      rintro e w10 ⟨rfl, hb10⟩
      have hB10 := bstep hB9 hb10
      clear hb10 hB9 C5
      have hz10 := hB10.size
      go_upto_if 64 with fail
      go_cut [11] (fun vf W => vf = .int .i64 (bothN s o) ∧ Hid (LayB W w10.heap.size (BtwAns s o)) ∧ RowKit.Below B0.heap.size B0 W)
      case first =>
        by_cases hz : bothN s o = 0
        · have hz' : (bothN s o == 0) = true := by simpa using hz
          obtain ⟨g1, g2⟩ := bothN_zero.1 hz
          have P1 := fun W q1 q2 => RLess_any od sd co cs o s W q1 q2 g2.1 g1.1
          have P2 := fun W q1 q2 => RLess_any sd od cs co s o W q1 q2 g1.1 g2.1
          have HP : Hid (BtwAns s o (lessL o s) (lessL s o)) := ⟨fun _ => ⟨rfl, rfl⟩, fun h => absurd hz h⟩
          clear hz g1 g2 C6 C7 C8 C9
          generalize bothN s o = n0 at *
          generalize BtwAns s o = BA at *
          generalize lessL o s = L1 at *
          generalize lessL s o = L2 at *
          have hBa := bstep hB10 (balloc w10 (.cells #[.slice none 0 0, .slice none 0 0] 53))
          go_wp2_with fail
          refine (P1 _ (HA.out _ hBa).2.2.2.2.2 (HA.out _ hBa).1).mono ?_
          rintro e w11 ⟨a1, c1, rfl, h1, hb11⟩
          have hB11 := bstep hBa hb11
          obtain ⟨z0, z1, hzz, z2, z3⟩ := twobox hb11
          have H1 : Hid (SlT w11 a1 L1) := h1
          clear h1 P1
          go_wp2_with fail
          have hBs := hB11.setCell (p := ⟨w10.heap.size, 0, none⟩) hz10 (.slice a1 L1.length c1)
          have H1' : Hid (SlT (w11.setCell ⟨w10.heap.size, 0, none⟩ (.slice a1 L1.length c1)) a1 L1) := H1.out.put z0 _
          have y0 : (w11.setCell ⟨w10.heap.size, 0, none⟩ (.slice a1 L1.length c1)).cell? ⟨w10.heap.size, 0, none⟩ = some (.slice a1 L1.length c1) := World.cell?_setCell_same _ _ _ z0
          have y1 : (w11.setCell ⟨w10.heap.size, 0, none⟩ (.slice a1 L1.length c1)).cell? ⟨w10.heap.size, 1, none⟩ = some (.slice none 0 0) := by rw [World.cell?_setCell_other _ _ _ _ (by simp)]; exact z1
          have y3 : (w11.setCell ⟨w10.heap.size, 0, none⟩ (.slice a1 L1.length c1)).frozen? ⟨w10.heap.size, 1, none⟩ = false := by rw [World.frozen?_setCell]; exact z3
          refine (P2 _ (HA.out _ hBs).1 (HA.out _ hBs).2.2.2.2.2).mono ?_
          clear H1 z0 z1 z2 z3 hb11
          generalize w11.setCell ⟨w10.heap.size, 0, none⟩ (.slice a1 L1.length c1) = w12 at *
          rintro e w13 ⟨a2, c2, rfl, h2, hb13⟩
          have hB13 := bstep hBs hb13
          have u0 : w13.cell? ⟨w10.heap.size, 0, none⟩ = some (.slice a1 L1.length c1) := (hb13.cell (World.block_lt_of_cell? _ _ y0)).trans y0
          have u1 : w13.cell? ⟨w10.heap.size, 1, none⟩ = some (.slice none 0 0) := (hb13.cell (World.block_lt_of_cell? _ _ y1)).trans y1
          have u3 : w13.frozen? ⟨w10.heap.size, 1, none⟩ = false := (hb13.frozen (World.block_lt_of_cell? _ _ y1)).trans y3
          have HF : Hid (LayB (w13.setCell ⟨w10.heap.size, 1, none⟩ (.slice a2 L2.length c2)) w10.heap.size BA) := ⟨L1, a1, c1, L2, a2, c2, ⟨by rw [World.cell?_setCell_other _ _ _ _ (by simp)]; exact u0, World.cell?_setCell_same _ _ _ u1⟩, (H1'.out.below hb13).put u1 _, h2.put u1 _, HP.out⟩
          have hBf := hB13.setCell (p := ⟨w10.heap.size, 1, none⟩) hz10 (.slice a2 L2.length c2)
          clear y0 y1 y3 u0 h2 hb13 H1' HP P2
          go_wp2_with fail
          go_meet
          case rel => exact ⟨rfl, HF, hBf⟩
        · have hz' : (bothN s o == 0) = false := by simpa using hz
          have HP : Hid (BtwAns s o [] []) := ⟨fun h => absurd h hz, fun _ => ⟨rfl, rfl⟩⟩
          clear hz C6 C7 C8 C9
          generalize bothN s o = n0 at *
          generalize BtwAns s o = BA at *
          have hBa := bstep hB10 (balloc w10 (.cells #[.slice none 0 0, .slice none 0 0] 53))
          have HF : Hid (LayB (w10.alloc (.cells #[.slice none 0 0, .slice none 0 0] 53)) w10.heap.size BA) := ⟨[], none, 0, [], none, 0, BoxL.new _ _ _ _, slT_nil _ _, slT_nil _ _, HP.out⟩
          go_wp2_with fail
          go_meet
          case rel => exact ⟨rfl, HF, hBa⟩
      case rest =>
        obtain ⟨rfl, HF, hB11⟩ := hcut
        clear hB10 hz10
        go_wp2_with fail
        refine (C6 _ (HA.out _ hB11).1 (HA.out _ hB11).2.2.2.2.2).mono ?_
        rintro e w12 ⟨hb12, m1, a1, c1, m2, a2, c2, rfl, g1, g2, hP⟩
        have hB12 := bstep (bstep hB11 hb12) (balloc w12 (.cells #[.slice a1 m1.length c1, .slice a2 m2.length c2] 53))
        have HF0 := (HF.out.below hb12).below (balloc w12 (.cells #[.slice a1 m1.length c1, .slice a2 m2.length c2] 53))
        obtain ⟨n1, a3, c3, n2', a4, c4, hbox, g3, g4, hP2⟩ := HF0
        have HQ : Hid (BoxL (w12.alloc (.cells #[.slice a1 m1.length c1, .slice a2 m2.length c2] 53)) w10.heap.size (.slice a3 n1.length c3) (.slice a4 n2'.length c4) ∧ BoxL (w12.alloc (.cells #[.slice a1 m1.length c1, .slice a2 m2.length c2] 53)) w12.heap.size (.slice a1 m1.length c1) (.slice a2 m2.length c2) ∧ SlT (w12.alloc (.cells #[.slice a1 m1.length c1, .slice a2 m2.length c2] 53)) a1 m1 ∧ SlT (w12.alloc (.cells #[.slice a1 m1.length c1, .slice a2 m2.length c2] 53)) a2 m2 ∧ SlT (w12.alloc (.cells #[.slice a1 m1.length c1, .slice a2 m2.length c2] 53)) a3 n1 ∧ SlT (w12.alloc (.cells #[.slice a1 m1.length c1, .slice a2 m2.length c2] 53)) a4 n2') := ⟨hbox, BoxL.new _ _ _ _, g1.below (balloc _ _), g2.below (balloc _ _), g3, g4⟩
        have HL : Hid ((n1.length ≤ 200 ∧ n2'.length ≤ 200) ∧ m1 = n1 ∧ m2 = n2') := ⟨hP2.len, hP.same hP2⟩
        clear hb12 hP hP2 g1 g2 g3 g4 hbox HF hB11 C6
        generalize bothN s o = n0 at *
        go_wp2_with fail
        refine (SameErrorT _ _ (HE.out _ hB12)).mono ?_
        rintro e w13 ⟨rfl, hb13⟩
        have hB13 := bstep hB12 hb13
        obtain ⟨q1, q2, q3, q4, q5, q6⟩ := HQ.out
        obtain ⟨x0, x1⟩ := q1.below hb13
        obtain ⟨y0, y1⟩ := q2.below hb13
        have HQ : Hid (SlT w13 a1 m1 ∧ SlT w13 a2 m2 ∧ SlT w13 a3 n1 ∧ SlT w13 a4 n2') := ⟨q3.below hb13, q4.below hb13, q5.below hb13, q6.below hb13⟩
        clear hb13 hB12 q1 q2 q3 q4 q5 q6
        go_wp2_with fail
        refine (SameLayT a1 a2 a3 a4 c1 c2 c3 c4 m1 m2 n1 n2' _ HQ.out.1 HQ.out.2.1 HQ.out.2.2.1 HQ.out.2.2.2 HL.out.1 HL.out.2).mono ?_
        rintro e w14 ⟨rfl, hb14⟩
        have hB14 := bstep hB13 hb14
        have hz14 := hB14.size
        clear hb14 hB13 HQ HL x0 x1 y0 y1
        -- Turn
        go_upto_if 86 with fail
        go_cut [9] (fun ve W => ve = .int .i64 (apartN a b) ∧ Hid (LayB W w14.heap.size (TurnAns a b)) ∧ RowKit.Below B0.heap.size B0 W)
        case first =>
          have hBa := bstep hB14 (balloc w14 (.cells #[.slice none 0 0, .slice none 0 0] 53))
          by_cases hz : apartN a b = 0
          · have hz' : (apartN a b == 0) = true := by simpa using hz
            have HP : Hid (TurnAns a b b a) := ⟨fun _ => ⟨rfl, rfl⟩, fun h => absurd hz h⟩
            obtain ⟨x0, x1, y0, y1, hzx⟩ := HX.out _ hB14
            have hzy : w.heap.size < w14.heap.size := by omega
            have HF : Hid (LayB (w14.alloc (.cells #[.slice bd b.length cb, .slice ad a.length ca] 53)) w14.heap.size (TurnAns a b)) := ⟨b, bd, cb, a, ad, ca, BoxL.new _ _ _ _, (HA.out _ (bstep hB14 (balloc _ _))).2.2.1, (HA.out _ (bstep hB14 (balloc _ _))).2.1, HP.out⟩
            have hBf := bstep hB14 (balloc w14 (.cells #[.slice bd b.length cb, .slice ad a.length ca] 53))
            clear hz C7 C8 C9 hBa HP
            generalize apartN a b = n1 at *
            generalize TurnAns a b = TA at *
            go_wp2_with fail
            go_meet
            case rel => exact ⟨rfl, HF, hBf⟩
          · have hz' : (apartN a b == 0) = false := by simpa using hz
            have HP : Hid (TurnAns a b [] []) := ⟨fun h => absurd h hz, fun _ => ⟨rfl, rfl⟩⟩
            have HF : Hid (LayB (w14.alloc (.cells #[.slice none 0 0, .slice none 0 0] 53)) w14.heap.size (TurnAns a b)) := ⟨[], none, 0, [], none, 0, BoxL.new _ _ _ _, slT_nil _ _, slT_nil _ _, HP.out⟩
            clear hz C7 C8 C9 HP
            generalize apartN a b = n1 at *
            generalize TurnAns a b = TA at *
            go_wp2_with fail
            go_meet
            case rel => exact ⟨rfl, HF, hBa⟩
        case rest =>
          obtain ⟨rfl, HF, hB15⟩ := hcut
          clear hB14 hz14
          obtain ⟨x0, x1, y0, y1, hzx⟩ := HX.out _ hB15
          go_wp2_with fail
          refine (C7 _ (HA.out _ hB15).2.1 (HA.out _ hB15).2.2.1).mono ?_
          rintro e w16 ⟨hb16, m1, a1, c1, m2, a2, c2, rfl, g1, g2, hP⟩
          have hB16 := bstep (bstep hB15 hb16) (balloc w16 (.cells #[.slice a1 m1.length c1, .slice a2 m2.length c2] 53))
          have HF0 := (HF.out.below hb16).below (balloc w16 (.cells #[.slice a1 m1.length c1, .slice a2 m2.length c2] 53))
          obtain ⟨n1, a3, c3, n2', a4, c4, hbox, g3, g4, hP2⟩ := HF0
          have HQ : Hid (BoxL (w16.alloc (.cells #[.slice a1 m1.length c1, .slice a2 m2.length c2] 53)) w14.heap.size (.slice a3 n1.length c3) (.slice a4 n2'.length c4) ∧ BoxL (w16.alloc (.cells #[.slice a1 m1.length c1, .slice a2 m2.length c2] 53)) w16.heap.size (.slice a1 m1.length c1) (.slice a2 m2.length c2) ∧ SlT (w16.alloc (.cells #[.slice a1 m1.length c1, .slice a2 m2.length c2] 53)) a1 m1 ∧ SlT (w16.alloc (.cells #[.slice a1 m1.length c1, .slice a2 m2.length c2] 53)) a2 m2 ∧ SlT (w16.alloc (.cells #[.slice a1 m1.length c1, .slice a2 m2.length c2] 53)) a3 n1 ∧ SlT (w16.alloc (.cells #[.slice a1 m1.length c1, .slice a2 m2.length c2] 53)) a4 n2') := ⟨hbox, BoxL.new _ _ _ _, g1.below (balloc _ _), g2.below (balloc _ _), g3, g4⟩
          have HL : Hid ((n1.length ≤ 200 ∧ n2'.length ≤ 200) ∧ m1 = n1 ∧ m2 = n2') := ⟨hP2.len, hP.same hP2⟩
          clear hb16 hP hP2 g1 g2 g3 g4 hbox HF hB15 C7 x0 x1 y0 y1 hzx
          go_wp2_with fail
          refine (SameErrorT _ _ (HE.out _ hB16)).mono ?_
          rintro e w17 ⟨rfl, hb17⟩
          have hB17 := bstep hB16 hb17
          obtain ⟨q1, q2, q3, q4, q5, q6⟩ := HQ.out
          obtain ⟨x0, x1⟩ := q1.below hb17
          obtain ⟨y0, y1⟩ := q2.below hb17
          have HQ : Hid (SlT w17 a1 m1 ∧ SlT w17 a2 m2 ∧ SlT w17 a3 n1 ∧ SlT w17 a4 n2') := ⟨q3.below hb17, q4.below hb17, q5.below hb17, q6.below hb17⟩
          clear hb17 hB16 q1 q2 q3 q4 q5 q6
          go_wp2_with fail
          refine (SameLayT a1 a2 a3 a4 c1 c2 c3 c4 m1 m2 n1 n2' _ HQ.out.1 HQ.out.2.1 HQ.out.2.2.1 HQ.out.2.2.2 HL.out.1 HL.out.2).mono ?_
          rintro e w18 ⟨rfl, hb18⟩
          have hB18 := bstep hB17 hb18
          clear hb18 hB17 HQ HL x0 x1 y0 y1
          -- the other layer
          go_upto_if 105 with fail
          go_cut [9] (fun ve W => ve = .int .i64 (orN (apartN a b) (apartN c d)) ∧ RowKit.Below B0.heap.size B0 W)
          case first =>
            by_cases hz : apartN a b = 0
            · have hz' : (apartN a b == 0) = true := by simpa using hz
              have Hz : Hid (orN (apartN a b) (apartN c d) = apartN c d) := orN_pos hz
              obtain ⟨x0, x1, y0, y1, hzx⟩ := HX.out _ hB18
              clear hz C9
              generalize orN (apartN a b) (apartN c d) = n3 at *
              generalize apartN a b = n1 at *
              generalize apartN c d = n2 at *
              go_wp2_with fail
              refine (C8 _ (HA.out _ hB18).2.2.2.1 (HA.out _ hB18).2.2.2.2.1).mono ?_
              rintro e w19 ⟨rfl, hb19⟩
              have hB19 := bstep hB18 hb19
              go_wp2_with fail
              go_meet
              case rel => exact ⟨by rw [Hz.out], hB19⟩
            · have hz' : (apartN a b == 0) = false := by simpa using hz
              have Hz : Hid (orN (apartN a b) (apartN c d) = apartN a b) := orN_neg hz
              clear hz C8 C9
              generalize orN (apartN a b) (apartN c d) = n3 at *
              generalize apartN a b = n1 at *
              go_wp2_with fail
              go_meet
              case rel => exact ⟨by rw [Hz.out], hB18⟩
          case rest =>
            obtain ⟨rfl, hB19⟩ := hcut
            clear hB18 C8
            obtain ⟨w19, rfl, hB19⟩ := nameW hB19
            have hz19 := hB19.size
            go_upto_if 109 with fail
            go_cut [9] (fun ve W => ve = .int .i64 (thenN a b c d) ∧ Hid (LayB W w19.heap.size (ThenAns a b c d)) ∧ RowKit.Below B0.heap.size B0 W)
            case first =>
              have hBa := bstep hB19 (balloc w19 (.cells #[.slice none 0 0, .slice none 0 0] 53))
              by_cases hz : orN (apartN a b) (apartN c d) = 0
              · have hz' : (orN (apartN a b) (apartN c d) == 0) = true := by simpa using hz
                obtain ⟨h1, h2⟩ := orN_zero.1 hz
                obtain ⟨g1, g2⟩ := bothN_zero.1 (orN_zero.1 h1).1
                obtain ⟨g3, g4⟩ := bothN_zero.1 (orN_zero.1 h2).1
                have RT := fun W q1 q2 q3 q4 => RThen_any ad bd cd dd ca cb cc ce a b c d W q1 q2 q3 q4 g1 g2 g3 g4 h1 h2
                obtain ⟨x0, x1, y0, y1, hzx⟩ := HX.out _ hB19
                have hzy : w.heap.size < w19.heap.size := by omega
                clear hz h1 h2 g1 g2 g3 g4 C9
                generalize orN (apartN a b) (apartN c d) = n3 at *
                generalize thenN a b c d = n4 at *
                generalize ThenAns a b c d = TA at *
                go_wp2_with fail
                refine (RT _ (HA.out _ hBa).2.1 (HA.out _ hBa).2.2.1 (HA.out _ hBa).2.2.2.1 (HA.out _ hBa).2.2.2.2.1).mono ?_
                rintro e w20 ⟨hb20, m1, a1, c1, m2, a2, c2, rfl, g1, g2, hP⟩
                obtain ⟨z0, z1, hzz, z2, z3⟩ := twobox hb20
                have hBf := below_two (bstep hBa hb20) hz19 (.slice a1 m1.length c1) (.slice a2 m2.length c2)
                have HF : Hid (LayB ((w20.setCell ⟨w19.heap.size, 0, none⟩ (.slice a1 m1.length c1)).setCell ⟨w19.heap.size, 1, none⟩ (.slice a2 m2.length c2)) w19.heap.size TA) := ⟨m1, a1, c1, m2, a2, c2, ⟨by rw [World.cell?_setCell_other _ _ _ _ (by simp)]; exact World.cell?_setCell_same _ _ _ z0, World.cell?_setCell_same _ _ _ (by rw [World.cell?_setCell_other _ _ _ _ (by simp)]; exact z1)⟩, g1.put2 z0 z1 _ _, g2.put2 z0 z1 _ _, hP⟩
                clear g1 g2 hP hb20 RT x0 x1 y0 y1 hBa
                go_wp2_with fail
                go_meet
                case rel => exact ⟨rfl, HF, hBf⟩
              · have hz' : (orN (apartN a b) (apartN c d) == 0) = false := by simpa using hz
                have Hz : Hid (thenN a b c d = orN (apartN a b) (apartN c d)) := thenN_early hz
                have HP : Hid (ThenAns a b c d [] []) := ⟨fun h => absurd (Hz.out.symm.trans h) hz, fun _ => ⟨rfl, rfl⟩⟩
                have HF : Hid (LayB (w19.alloc (.cells #[.slice none 0 0, .slice none 0 0] 53)) w19.heap.size (ThenAns a b c d)) := ⟨[], none, 0, [], none, 0, BoxL.new _ _ _ _, slT_nil _ _, slT_nil _ _, HP.out⟩
                clear hz C9 HP
                generalize orN (apartN a b) (apartN c d) = n3 at *
                generalize thenN a b c d = n4 at *
                generalize ThenAns a b c d = TA at *
                go_wp2_with fail
                go_meet
                case rel => exact ⟨by rw [Hz.out], HF, hBa⟩
            case rest =>
              obtain ⟨rfl, HF, hB20⟩ := hcut
              clear hB19 hz19
              obtain ⟨x0, x1, y0, y1, hzx⟩ := HX.out _ hB20
              go_wp2_with fail
              refine (C9 _ (HA.out _ hB20).2.1 (HA.out _ hB20).2.2.1 (HA.out _ hB20).2.2.2.1 (HA.out _ hB20).2.2.2.2.1).mono ?_
              rintro e w21 ⟨hb21, m1, a1, c1, m2, a2, c2, rfl, g1, g2, hP⟩
              have hB21 := bstep (bstep hB20 hb21) (balloc w21 (.cells #[.slice a1 m1.length c1, .slice a2 m2.length c2] 53))
              have HF0 := (HF.out.below hb21).below (balloc w21 (.cells #[.slice a1 m1.length c1, .slice a2 m2.length c2] 53))
              obtain ⟨n1, a3, c3, n2', a4, c4, hbox, g3, g4, hP2⟩ := HF0
              have HQ : Hid (BoxL (w21.alloc (.cells #[.slice a1 m1.length c1, .slice a2 m2.length c2] 53)) w19.heap.size (.slice a3 n1.length c3) (.slice a4 n2'.length c4) ∧ BoxL (w21.alloc (.cells #[.slice a1 m1.length c1, .slice a2 m2.length c2] 53)) w21.heap.size (.slice a1 m1.length c1) (.slice a2 m2.length c2) ∧ SlT (w21.alloc (.cells #[.slice a1 m1.length c1, .slice a2 m2.length c2] 53)) a1 m1 ∧ SlT (w21.alloc (.cells #[.slice a1 m1.length c1, .slice a2 m2.length c2] 53)) a2 m2 ∧ SlT (w21.alloc (.cells #[.slice a1 m1.length c1, .slice a2 m2.length c2] 53)) a3 n1 ∧ SlT (w21.alloc (.cells #[.slice a1 m1.length c1, .slice a2 m2.length c2] 53)) a4 n2') := ⟨hbox, BoxL.new _ _ _ _, g1.below (balloc _ _), g2.below (balloc _ _), g3, g4⟩
              have HL : Hid ((n1.length ≤ 200 ∧ n2'.length ≤ 200) ∧ m1 = n1 ∧ m2 = n2') := ⟨hP2.len, hP.same hP2⟩
              clear hb21 hP hP2 g1 g2 g3 g4 hbox HF hB20 C9 x0 x1 y0 y1 hzx
              generalize thenN a b c d = n4 at *
              go_wp2_with fail
              refine (SameErrorT _ _ (HE.out _ hB21)).mono ?_
              rintro e w22 ⟨rfl, hb22⟩
              have hB22 := bstep hB21 hb22
              obtain ⟨q1, q2, q3, q4, q5, q6⟩ := HQ.out
              obtain ⟨x0, x1⟩ := q1.below hb22
              obtain ⟨y0, y1⟩ := q2.below hb22
              have HQ : Hid (SlT w22 a1 m1 ∧ SlT w22 a2 m2 ∧ SlT w22 a3 n1 ∧ SlT w22 a4 n2') := ⟨q3.below hb22, q4.below hb22, q5.below hb22, q6.below hb22⟩
              clear hb22 hB21 q1 q2 q3 q4 q5 q6
              go_wp2_with fail
              refine (SameLayT a1 a2 a3 a4 c1 c2 c3 c4 m1 m2 n1 n2' _ HQ.out.1 HQ.out.2.1 HQ.out.2.2.1 HQ.out.2.2.2 HL.out.1 HL.out.2).mono ?_
              rintro e w23 ⟨rfl, hb23⟩
              have hB23 := bstep HW.out (bstep hB22 hb23)
              clear hb23 hB22 HQ HL x0 x1 y0 y1
              go_wp2_with fail
              go_ret
              exact ⟨rfl, hB23⟩
end Go.Proofs.YtgihagcjnjfpcacGreatDoor
