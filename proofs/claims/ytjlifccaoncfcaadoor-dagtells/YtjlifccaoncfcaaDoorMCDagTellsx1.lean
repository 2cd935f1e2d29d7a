/- stratalaw2.DagTells over a dag's face: the walk. -/
import Derived.Test.YtjlifccaoncfcaaDoorMA0x0
import Derived.Test.YtjlifccaoncfcaaDoorMCDagTellsx0
import Derived.Deep.DeepCutAuto
import Derived.Maps.AppendAt

namespace Go.Proofs.YtjlifccaoncfcaaDoor
open Go Go.RowKit Go.Proofs
set_option synthInstance.maxSize 1000

theorem SameTrue (m : Int) (w : World) (hg : errVar w) : Calls Tryd.prog 6 #[errV m, .int .i64 m] w fun r w' => r = .returned (.bool true) ∧ RowKit.Below w.heap.size w w' := by
  have := SameError_any m m w hg
  rw [show (m == m) = true by simp] at this
  exact this
/-- the numbers turned, as far as they have come -/
def lastN (m : List Nat) (k : Nat) : List Nat := (m.drop k).reverse
theorem lastN_step {m : List Nat} {k : Nat} (hk : k < m.length) : lastN m k = lastN m (k + 1) ++ [m.getD k 0] := by
  unfold lastN
  rw [List.drop_eq_getElem_cons hk, List.reverse_cons, List.getD_eq_getElem?_getD, List.getElem?_eq_getElem hk]
  rfl

set_option maxHeartbeats 64000000 in
set_option maxRecDepth 100000 in
theorem dagTells_any (F : DFace) (ad : Option Addr) (ca : Nat) (l : List Cm) (a b : Int) (w : World) (hg : errVar w) (h : ComsOK w ad ca l) :
    Calls Tryd.prog 3 #[.slice ad l.length ca, .int .i64 a, .int .i64 b] w fun e w' => e = .returned (.bool true) ∧ RowKit.Below w.heap.size w w' := by
  have HC : Hid (∀ W, RowKit.Below w.heap.size w W → ComsOK W ad ca l) := fun W hb => h.below hb
  have HE : Hid (∀ W, RowKit.Below w.heap.size w W → errVar W) := fun W hb => hg.below hb
  have hlen := h.len
  unfold maxLen at hlen
  have C0 := fun W (q : ComsOK W ad ca l) => RCommits_any ad ca l W q.sl (by have := q.len; unfold maxLen at this; omega) (fun c hc => by have := q.pars c hc; unfold maxLen at this; omega)
  have C1 := fun W q => F.check W ad ca l q
  have C2 := fun W q => F.anc W ad ca l a q
  have C3 := fun W q => F.log W ad ca l a q
  have C4 := fun W q => F.bases W ad ca l a b q
  have C5 := fun W q => F.is W ad ca l a b q
  have H1 : Hid (ancE l a = if (comsN l).2 ≠ 0 then (comsN l).2 else if 0 ≤ a ∧ a < l.length then 0 else 1) := rfl
  have H2 : Hid (twoE l a b = if ancE l a ≠ 0 then ancE l a else if 0 ≤ b ∧ b < l.length then 0 else 1) := by
    show _ = _
    unfold twoE
    by_cases e : ancE l a = 0
    · have := (ancE_zero e).1
      rw [if_neg (by simpa using e), if_neg (by simpa using e)]
      unfold ancE
      rw [if_neg (by simp; exact coms_good.2 this)]
    · rw [if_pos e, if_pos e]
  have H3 : Hid (ancE l a = 0 → GoodC l ∧ 0 ≤ a ∧ a < l.length) := fun e => ancE_zero e
  have H4 : Hid (twoE l a b = 0 → (GoodC l ∧ 0 ≤ a ∧ a < l.length) ∧ 0 ≤ b ∧ b < l.length) := fun e => ⟨ancE_zero (twoE_zero.1 e).1, (ancE_zero (twoE_zero.1 e).2).2⟩
  clear h hg
  generalize twoE l a b = f2 at *
  generalize ancE l a = f1 at *
  generalize (comsN l).2 = f0 at *
  generalize ((comsN l).1 : Int) = at0 at *
  go_enter Tryd.func3, Tryd.ntmps3
  go_wp2_with fail
  refine (C0 _ (HC.out _ (RowKit.Below.refl _ w))).mono ?_
  rintro e w1 ⟨rfl, hB1⟩
  clear C0
  dsimp only
  go_wp2_with fail
  refine (C1 _ (HC.out _ hB1)).mono ?_
  rintro e w2 ⟨rfl, hb2⟩
  have hB2 := bstep hB1 hb2
  clear hb2 hB1 C1
  dsimp only
  go_wp2_with fail
  refine (SameTrue f0 _ (HE.out _ hB2)).mono ?_
  rintro e w3 ⟨rfl, hb3⟩
  have hB3 := bstep hB2 hb3
  clear hb3 hB2
  dsimp only
  go_upto_region 5 with fail
  go_cut [54] (fun v W => v = .bool (decide (f0 = 0 ∧ ¬ (0 ≤ a ∧ a < l.length))) ∧ W = w3)
  case first =>
    clear C2 C3 C4 C5 H1 H2 H3 H4 HC HE
    by_cases e0 : f0 = 0
    · by_cases e1 : a < 0
      · have hv : Hid (decide (f0 = 0 ∧ ¬ (0 ≤ a ∧ a < l.length)) = true) := decide_eq_true ⟨e0, by omega⟩
        subst e0
        go_wp2_with fail
        go_meet
        case rel => exact ⟨by rw [hv.out], rfl⟩
      · by_cases e2 : a < l.length
        · have hv : Hid (decide (f0 = 0 ∧ ¬ (0 ≤ a ∧ a < l.length)) = false) := decide_eq_false fun hh => hh.2 ⟨by omega, e2⟩
          have e3 : ¬ a ≥ l.length := by omega
          subst e0
          go_wp2_with fail
          go_meet
          case rel => exact ⟨by rw [hv.out], rfl⟩
        · have hv : Hid (decide (f0 = 0 ∧ ¬ (0 ≤ a ∧ a < l.length)) = true) := decide_eq_true ⟨e0, fun hh => e2 hh.2⟩
          have e3 : a ≥ l.length := by omega
          subst e0
          go_wp2_with fail
          go_meet
          case rel => exact ⟨by rw [hv.out], rfl⟩
    · have hv : Hid (decide (f0 = 0 ∧ ¬ (0 ≤ a ∧ a < l.length)) = false) := decide_eq_false fun hh => e0 hh.1
      have e0' : (f0 == 0) = false := by simpa using e0
      go_wp2_with fail
      go_meet
      case rel => exact ⟨by rw [hv.out], rfl⟩
  case rest =>
    obtain ⟨rfl, rfl⟩ := hcut
    go_upto_if 54 with fail
    go_cut [12] (fun v W => v = .int .i64 f1 ∧ Hid (RowKit.Below w.heap.size w W))
    case first =>
      clear C2 C3 C4 C5 H2 H3 H4 HC HE
      by_cases e0 : f0 = 0 ∧ ¬ (0 ≤ a ∧ a < l.length)
      · have hf : Hid (f1 = 1) := by show _ = _; rw [H1.out, if_neg (by simpa using e0.1), if_neg e0.2]
        rw [decide_eq_true e0]
        clear e0 H1
        go_wp2_with fail
        go_meet
        case rel => exact ⟨by rw [hf.out], hB3⟩
      · have hf : Hid (f1 = f0) := by
          show _ = _
          rw [H1.out]
          by_cases q : f0 = 0
          · rw [if_neg (by simpa using q), if_pos (Classical.byContradiction fun hh => e0 ⟨q, hh⟩), q]
          · rw [if_pos q]
        rw [decide_eq_false e0]
        clear e0 H1
        go_wp2_with fail
        go_meet
        case rel => exact ⟨by rw [hf.out], hB3⟩
    case rest =>
      obtain ⟨rfl, hB4⟩ := hcut
      clear hB3
      go_upto_if 56 with fail
      go_cut [13, 14] (fun u v W => ∃ (m q : List Nat) (am bm : Option Addr) (cm cn : Nat), u = .slice am m.length cm ∧ v = .slice bm q.length cn ∧ Hid (SlI W am (natI m)) ∧ Hid (SlI W bm (natI q)) ∧ Hid (q = m.reverse ∧ (f1 = 0 → upP l a.toNat m) ∧ (f1 ≠ 0 → m = [])) ∧ Hid (RowKit.Below w.heap.size w W))
      case first =>
        clear C2 C3 C4 C5 H1 H2 H4 HE
        by_cases e1 : f1 = 0
        · obtain ⟨G, a0, a1⟩ := H3.out e1
          obtain ⟨i, hi⟩ : ∃ i : Nat, a = (i : Int) := ⟨a.toNat, by omega⟩
          have RA := RAncestors_any ad ca l i _ (HC.out _ hB4.out).sl G (by omega)
          have Hi : Hid (a.toNat = i) := by show _ = _; omega
          obtain ⟨i0', hi0, hz0, hz1, hz2⟩ := info_parts infoU
          subst hi
          subst e1
          clear H3 G
          go_wp2_with fail
          refine RA.mono ?_
          rintro e w5 ⟨am, cm, m, rfl, hm, um, sm, hb5, lm⟩
          have hB5 := hideO (bstep hB4.out hb5)
          have HM := hideO (And.intro (And.intro hm um) sm)
          clear hm um sm hb5 RA hB4 HC
          dsimp only
          go_wp2_with fail
          go_loopw [14, 15] (fun v kk wr => ∃ (k : Nat), k ≤ m.length ∧ kk = .int .i64 ((k : Int) - 1) ∧ Hid (wr.ownsRow w5.heap.size 3 1 v (lastN m k).length (cellsU (lastN m k))) ∧ Hid (RowKit.Below w5.heap.size w5 wr)) (fun _ kk wr => (intOf kk + 1).toNat)
          case atStart => exact ⟨m.length, by omega, rfl, by show World.ownsRow _ _ _ _ _ _ _; rw [show lastN m m.length = [] by simp [lastN]]; exact World.ownsRow_nil _ _ _ _, RowKit.Below.refl _ _⟩
          case round =>
            obtain ⟨k, hk, rfl, ho, hbw⟩ := hrel
            cases k with
            | zero =>
              obtain ⟨bm, cn, rfl, sb⟩ := ownU_sl ho.out
              have hfin : Hid (SlI wr am (natI m) ∧ SlI wr bm (natI (lastN m 0)) ∧ lastN m 0 = m.reverse ∧ RowKit.Below w.heap.size w wr) := ⟨HM.out.2.below hbw.out, sb, by simp [lastN], bstep hB5.out hbw.out⟩
              clear ho sb
              go_wp2_with fail
              go_meet
              case rel => exact ⟨m, lastN m 0, am, bm, cm, cn, rfl, rfl, hfin.out.1, hfin.out.2.1, ⟨hfin.out.2.2.1, fun _ => by rw [Hi.out]; exact HM.out.1, fun hh => absurd rfl hh⟩, hfin.out.2.2.2⟩
            | succ j =>
              have hj : j < m.length := by omega
              obtain ⟨b1, o1, rfl, c1⟩ := (HM.out.2.below hbw.out).nat hj
              have hst := lastN_step hj
              have h60 : (lastN m (j + 1)).length ≤ 60 := by simp [lastN]; omega
              have k0 : (0 : Int) ≤ (j : Int) := by omega
              have k1 : (j : Int) < (m.length : Int) := by omega
              have Hst := hideO hst
              clear hst
              generalize m.getD j 0 = z at *
              generalize lastN m (j + 1) = q at *
              rw [show ((((j + 1 : Nat) : Int)) - 1) = (j : Int) by omega]
              go_wp2_with (at_builtin; refine wpList_append_own _ rfl _ _ 30 rfl w5.heap.size 3 i0' (.int .i64 0) 1 8 Tryd.underlying30 hi0 hz0 hz1 hz2 rfl (by decide) _ _ _ rfl (ho.out.alloc _) ⟨wr.heap.size, 0, none⟩ 1 1 [.int .i64 (z : Int)] rfl rfl (cell_one_new _ _ _) (by simp [Value.oneCell']) (by unfold maxLen; omega) (by omega) (by have := hbw.out.size; simp; omega) ?_)
              intro v' w7 h2 h3 _
              have hb7 : Hid (RowKit.Below w5.heap.size w5 w7) := (hbw.out.trans ((balloc wr _).mono hbw.out.size)).grown h3 (by have := hbw.out.size; simp; omega) (fun j hj => (ho.out.lt j hj).1)
              have ho7 : Hid (w7.ownsRow w5.heap.size 3 1 v' (q ++ [z]).length (cellsU (q ++ [z]))) := by
                show World.ownsRow _ _ _ _ _ _ _
                rw [List.length_append]
                simpa [cellsU] using h2
              clear h2 h3
              go_wp2_with fail
              go_roundw
              case rel => exact ⟨j, by omega, by go_num, by rw [Hst.out]; exact ho7, hb7⟩
              case measure => simp [intOf]
        · have e1' : (f1 == 0) = false := by simpa using e1
          have e2 := hideO e1
          clear H3 e1 HC
          go_wp2_with fail
          go_meet
          case rel => exact ⟨[], [], none, none, 0, 0, rfl, rfl, fun hh => absurd rfl hh, fun hh => absurd rfl hh, ⟨rfl, fun hh => absurd hh e2.out, fun _ => rfl⟩, hB4⟩
      case rest =>
        obtain ⟨m, q, am, bm, cm, cn, rfl, rfl, sm, sq, hm, hB5⟩ := hcut
        clear hB4
        go_wp2_with fail
        refine (C2 _ (HC.out _ hB5.out)).mono ?_
        rintro e w6 ⟨xd, xc, x, rfl, x1, x2, x3, hb6, x4, _, _⟩
        have HX : Hid (x = m) := by
          by_cases e1 : f1 = 0
          · exact rise_unique (x1 e1).1 (hm.out.2.1 e1).1 fun k => ((x1 e1).2 k).trans ((hm.out.2.1 e1).2 k).symm
          · exact (x2 e1).trans (hm.out.2.2 e1).symm
        have hB6 := hideO (bstep hB5.out hb6)
        have sm6 := hideO (sm.out.below hb6)
        have sq6 := hideO (sq.out.below hb6)
        have sx6 := hideO x3
        clear x1 x2 x3 hb6 hB5 sm sq C2
        dsimp only
        go_wp2_with fail
        refine (SameTrue f1 _ (HE.out _ hB6.out)).mono ?_
        rintro e w7 ⟨rfl, hb7⟩
        have hB7 := hideO (bstep hB6.out hb7)
        have sm7 := hideO (sm6.out.below hb7)
        have sq7 := hideO (sq6.out.below hb7)
        have sx7 := hideO (sx6.out.below hb7)
        clear hb7 hB6 sm6 sq6 sx6
        dsimp only
        go_wp2_with fail
        refine (C3 _ (HC.out _ hB7.out)).mono ?_
        rintro e w8 ⟨yd, yc, y, rfl, y1, y2, y3, hb8, y4, _, _⟩
        have HY : Hid (y = q) := by
          show _ = _
          rw [hm.out.1]
          by_cases e1 : f1 = 0
          · have : y.reverse = m := rise_unique (y1 e1).1 (hm.out.2.1 e1).1 fun k => ((y1 e1).2 k).trans ((hm.out.2.1 e1).2 k).symm
            rw [← this, List.reverse_reverse]
          · rw [y2 e1, hm.out.2.2 e1]; rfl
        have hB8 := hideO (bstep hB7.out hb8)
        have sm8 := hideO (sm7.out.below hb8)
        have sq8 := hideO (sq7.out.below hb8)
        have sx8 := hideO (sx7.out.below hb8)
        have sy8 := hideO y3
        clear y1 y2 y3 hb8 hB7 sm7 sq7 sx7 C3 hm
        dsimp only
        go_wp2_with fail
        refine (SameTrue f1 _ (HE.out _ hB8.out)).mono ?_
        rintro e w9 ⟨rfl, hb9⟩
        have hB9 := hideO (bstep hB8.out hb9)
        have sm9 := hideO (sm8.out.below hb9)
        have sq9 := hideO (sq8.out.below hb9)
        have sx9 := hideO (sx8.out.below hb9)
        have sy9 := hideO (sy8.out.below hb9)
        clear hb9 hB8 sm8 sq8 sx8 sy8
        dsimp only
        go_wp2_with fail
        refine (SameNat xd am xc cm x m _ sx9.out sm9.out HX.out x4).mono ?_
        rintro e w10 ⟨rfl, hb10⟩
        have hB10 := hideO (bstep hB9.out hb10)
        have sq10 := hideO (sq9.out.below hb10)
        have sy10 := hideO (sy9.out.below hb10)
        clear hb10 hB9 sm9 sq9 sx9 sy9
        dsimp only
        go_wp2_with fail
        refine (SameNat yd bm yc cn y q _ sy10.out sq10.out HY.out y4).mono ?_
        rintro e w11 ⟨rfl, hb11⟩
        have hB11 := hideO (bstep hB10.out hb11)
        clear hb11 hB10 sq10 sy10 HX HY x4 y4
        dsimp only
        go_upto_region 20 with fail
        go_cut [109] (fun v W => v = .bool (decide (f1 = 0 ∧ ¬ (0 ≤ b ∧ b < l.length))) ∧ W = w11)
        case first =>
          clear C4 C5 H1 H2 H3 H4 HC HE
          by_cases e0 : f1 = 0
          · by_cases e1 : b < 0
            · have hv : Hid (decide (f1 = 0 ∧ ¬ (0 ≤ b ∧ b < l.length)) = true) := decide_eq_true ⟨e0, by omega⟩
              subst e0
              go_wp2_with fail
              go_meet
              case rel => exact ⟨by rw [hv.out], rfl⟩
            · by_cases e2 : b < l.length
              · have hv : Hid (decide (f1 = 0 ∧ ¬ (0 ≤ b ∧ b < l.length)) = false) := decide_eq_false fun hh => hh.2 ⟨by omega, e2⟩
                have e3 : ¬ b ≥ l.length := by omega
                subst e0
                go_wp2_with fail
                go_meet
                case rel => exact ⟨by rw [hv.out], rfl⟩
              · have hv : Hid (decide (f1 = 0 ∧ ¬ (0 ≤ b ∧ b < l.length)) = true) := decide_eq_true ⟨e0, fun hh => e2 hh.2⟩
                have e3 : b ≥ l.length := by omega
                subst e0
                go_wp2_with fail
                go_meet
                case rel => exact ⟨by rw [hv.out], rfl⟩
          · have hv : Hid (decide (f1 = 0 ∧ ¬ (0 ≤ b ∧ b < l.length)) = false) := decide_eq_false fun hh => e0 hh.1
            have e0' : (f1 == 0) = false := by simpa using e0
            go_wp2_with fail
            go_meet
            case rel => exact ⟨by rw [hv.out], rfl⟩
        case rest =>
          obtain ⟨rfl, rfl⟩ := hcut
          go_upto_if 109 with fail
          go_cut [12] (fun v W => v = .int .i64 f2 ∧ Hid (RowKit.Below w.heap.size w W))
          case first =>
            clear C4 C5 H1 H3 H4 HC HE
            by_cases e0 : f1 = 0 ∧ ¬ (0 ≤ b ∧ b < l.length)
            · have hf : Hid (f2 = 1) := by show _ = _; rw [H2.out, if_neg (by simpa using e0.1), if_neg e0.2]
              rw [decide_eq_true e0]
              clear e0 H2
              go_wp2_with fail
              go_meet
              case rel => exact ⟨by rw [hf.out], hB11⟩
            · have hf : Hid (f2 = f1) := by
                show _ = _
                rw [H2.out]
                by_cases qq : f1 = 0
                · rw [if_neg (by simpa using qq), if_pos (Classical.byContradiction fun hh => e0 ⟨qq, hh⟩), qq]
                · rw [if_pos qq]
              rw [decide_eq_false e0]
              clear e0 H2
              go_wp2_with fail
              go_meet
              case rel => exact ⟨by rw [hf.out], hB11⟩
          case rest =>
            obtain ⟨rfl, hB12⟩ := hcut
            clear hB11
            go_upto_if 111 with fail
            go_cut [22, 23] (fun u v W => ∃ (z : List Nat) (zd : Option Addr) (zc : Nat) (t : Bool), u = .slice zd z.length zc ∧ v = .bool t ∧ Hid (SlI W zd (natI z)) ∧ Hid ((f2 = 0 → baseP l a.toNat b.toNat z ∧ (t = true ↔ Up l b.toNat a.toNat)) ∧ (f2 ≠ 0 → z = [] ∧ t = false)) ∧ Hid (RowKit.Below w.heap.size w W))
            case first =>
              clear C4 C5 H1 H2 H3 HE
              by_cases e2 : f2 = 0
              · obtain ⟨⟨G, a0, a1⟩, b0, b1⟩ := H4.out e2
                obtain ⟨i, hi⟩ : ∃ i : Nat, a = (i : Int) := ⟨a.toNat, by omega⟩
                obtain ⟨j, hj⟩ : ∃ j : Nat, b = (j : Int) := ⟨b.toNat, by omega⟩
                have RB := RBases_any ad ca l i j _ (HC.out _ hB12.out).sl G (by omega) (by omega)
                have RA := fun W q => RAncestors_any ad ca l j W q G (by omega)
                have Hi : Hid (a.toNat = i ∧ b.toNat = j) := ⟨by omega, by omega⟩
                subst hi hj
                subst e2
                clear H4 G
                go_wp2_with fail
                refine RB.mono ?_
                rintro e w13 ⟨zd, zc, z, rfl, hz, uz, sz, hb13, lz⟩
                have hB13 := hideO (bstep hB12.out hb13)
                have HZ := hideO (And.intro (And.intro hz uz) sz)
                clear hz uz sz hb13 RB hB12
                dsimp only
                go_wp2_with fail
                refine (RA _ (HC.out _ hB13.out).sl).mono ?_
                rintro e w14 ⟨am, cm, m, rfl, hm, um, sm, hb14, lm⟩
                have hB14 := hideO (bstep hB13.out hb14)
                have HZ2 := hideO (HZ.out.2.below hb14)
                have HU := hideO um
                have HI := RInN_any am cm m i w14 sm lm
                clear hm um sm hb14 RA hB13 HC
                dsimp only
                go_wp2_with fail
                refine HI.mono ?_
                rintro e w15 ⟨rfl, rfl⟩
                clear HI
                dsimp only
                go_wp2_with fail
                go_meet
                case rel => exact ⟨z, zd, zc, decide (i ∈ m), rfl, rfl, HZ2, ⟨fun _ => by rw [Hi.out.1, Hi.out.2]; exact ⟨HZ.out.1, by rw [decide_eq_true_eq]; exact HU.out i⟩, fun hh => absurd rfl hh⟩, hB14⟩
              · have e2' : (f2 == 0) = false := by simpa using e2
                have e3 := hideO e2
                clear H4 e2 HC
                go_wp2_with fail
                go_meet
                case rel => exact ⟨[], none, 0, false, rfl, rfl, fun hh => absurd rfl hh, ⟨fun hh => absurd hh e3.out, fun _ => ⟨rfl, rfl⟩⟩, hB12⟩
            case rest =>
              obtain ⟨z, zd, zc, t, rfl, rfl, sz, hz, hB15⟩ := hcut
              clear hB12
              go_wp2_with fail
              refine (C4 _ (HC.out _ hB15.out)).mono ?_
              rintro e w16 ⟨xd, xc, x, rfl, x1, x2, x3, hb16, x4, _, _⟩
              have HX : Hid (x = z) := by
                by_cases e2 : f2 = 0
                · exact rise_unique (x1 e2).1 (hz.out.1 e2).1.1 fun k => ((x1 e2).2 k).trans ((hz.out.1 e2).1.2 k).symm
                · exact (x2 e2).trans (hz.out.2 e2).1.symm
              have hB16 := hideO (bstep hB15.out hb16)
              have sz16 := hideO (sz.out.below hb16)
              have sx16 := hideO x3
              clear x1 x2 x3 hb16 hB15 sz C4
              dsimp only
              go_wp2_with fail
              refine (SameTrue f2 _ (HE.out _ hB16.out)).mono ?_
              rintro e w17 ⟨rfl, hb17⟩
              have hB17 := hideO (bstep hB16.out hb17)
              have sz17 := hideO (sz16.out.below hb17)
              have sx17 := hideO (sx16.out.below hb17)
              clear hb17 hB16 sz16 sx16
              dsimp only
              go_wp2_with fail
              refine (SameNat xd zd xc zc x z _ sx17.out sz17.out HX.out x4).mono ?_
              rintro e w18 ⟨rfl, hb18⟩
              have hB18 := hideO (bstep hB17.out hb18)
              clear hb18 hB17 sz17 sx17 HX x4
              dsimp only
              go_wp2_with fail
              refine (C5 _ (HC.out _ hB18.out)).mono ?_
              rintro e w19 ⟨t', rfl, t1, t2, hb19⟩
              have ht : t' = t := by
                by_cases e2 : f2 = 0
                · have h1 := t1 e2
                  have h2 := (hz.out.1 e2).2
                  rw [Bool.eq_iff_iff]
                  exact h1.trans h2.symm
                · rw [t2 e2, (hz.out.2 e2).2]
              subst ht
              have hB19 := hideO (bstep hB18.out hb19)
              clear t1 t2 hb19 hB18 hz C5
              dsimp only
              go_wp2_with fail
              refine (SameTrue f2 _ (HE.out _ hB19.out)).mono ?_
              rintro e w20 ⟨rfl, hb20⟩
              have hB20 := hideO (bstep hB19.out hb20)
              clear hb20 hB19 HE HC
              dsimp only
              cases t' with
              | true =>
                go_wp2_with fail
                go_ret
                exact ⟨by simp, hB20.out⟩
              | false =>
                go_wp2_with fail
                go_ret
                exact ⟨by simp, hB20.out⟩
end Go.Proofs.YtjlifccaoncfcaaDoor
