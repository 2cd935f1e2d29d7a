import Derived.Test.YtbacenhgedopjaaGreatDoorMCSolveTellsx0
import Derived.Test.YtbacenhgedopjaaGreatDoorMA0x5
import Derived.Test.YtbacenhgedopjaaGreatDoorMA0x6
import Derived.Test.YtbacenhgedopjaaGreatDoorMCSolveTellsx1
import Derived.Deep.DeepCutAuto
import Derived.Deep.CutBlock
import Derived.Lib.AppendZeros

/- The document's Answers (package strataref3). -/
namespace Go.Proofs.YtbacenhgedopjaaGreatDoor
open Go Go.RowKit Go.Proofs Go.Maps
set_option synthInstance.maxSize 1000

/-- what the document's Answers tells -/
def AnsAns (S : List Tr) (q : Qu) (w : World) (e : Ending) (w' : World) : Prop := RowKit.Below w.heap.size w w' ∧ match answersL S q.parts with
  | none => e = .returned (.tuple #[.slice none 0 0, .slice none 0 0, .int .i64 0, .int .i64 4])
  | some (vars, rows) => ∃ vd vc rd rc, e = .returned (.tuple #[.slice vd vars.length vc, .slice rd rows.length rc, .int .i64 (looked S q.parts : Int), .int .i64 0]) ∧ SlW w' vd vars ∧ SlR w' rd rows

/-- where Answers stands at the head of a part -/
structure ASt (B : Nat) (w wr : World) (S : List Tr) (ps : List Pt) (A : Option (List (List UInt8) × List (List Tm))) (LK : Nat) (vv rv : Value) (vs : List Value) (n : Nat) (vars : List (List UInt8)) (rows : List (List Tm)) : Prop where
  bel : RowKit.Below w.heap.size w wr
  rowV : wr.ownsRow w.heap.size 9 1 vv vars.length (vars.map encV)
  rowR : OwnR wr B rv rows vs
  ans : answersF S vars rows ps = A
  look : A ≠ none → n + lookedF S vars rows ps = LK
  few : rows.length ≤ 500
  lens : ∀ r ∈ rows, r.length = vars.length
theorem ASt.below {B : Nat} {w wr wr' : World} {S : List Tr} {ps : List Pt} {A : Option (List (List UInt8) × List (List Tm))} {LK : Nat} {vv rv : Value} {vs : List Value} {n : Nat} {vars : List (List UInt8)} {rows : List (List Tm)} (h : ASt B w wr S ps A LK vv rv vs n vars rows) (hb : RowKit.Below wr.heap.size wr wr') : ASt B w wr' S ps A LK vv rv vs n vars rows := ⟨bstep h.bel hb, ownsRow_belowV h.rowV hb, h.rowR.below hb, h.ans, h.look, h.few, h.lens⟩
theorem OwnR.keptS {W W' : World} {B B' n : Nat} {v u : Value} {L : List (List Tm)} {vs cs : List Value} (h : OwnR W B v L vs) (hu : W.ownsRow B' 9 1 u n cs) (hg : W.grownBy W' u.ownBlock) : OwnR W' B v L vs :=
  ⟨h.len, h.row.kept hg (own_types (own_mono hu (Nat.zero_le _)) (own_mono h.row (Nat.zero_le _)) (by decide)), fun j hj => (h.each j hj).kept hg (own_types (own_mono hu (Nat.zero_le _)) (own_mono (h.each j hj) (Nat.zero_le _)) (by decide))⟩
theorem OwnR.mono {W : World} {B C : Nat} {v : Value} {L : List (List Tm)} {vs : List Value} (h : OwnR W B v L vs) (hb : C ≤ B) : OwnR W C v L vs := ⟨h.len, own_mono h.row hb, fun j hj => own_mono (h.each j hj) hb⟩
theorem cell_b {W W' : World} {a : Addr} {v : Value} (h : W.cell? a = some v) (hb : RowKit.Below W.heap.size W W') : W'.cell? a = some v := (hb.cell (World.block_lt_of_cell? _ _ h)).trans h
abbrev S14 (w0 : World) (pb : Nat) (p : Pt) (a : Addr) (v : Value) (W : World) : Prop := RowKit.Below w0.heap.size w0 W ∧ W.cell? ⟨pb, 0, none⟩ = some (.string ⟨p.1.1.toArray⟩) ∧ W.cell? ⟨pb, 1, none⟩ = some (.int .i64 p.1.2.1) ∧ W.cell? ⟨pb, 2, none⟩ = some (.string ⟨p.1.2.2.1.toArray⟩) ∧ W.cell? ⟨pb, 3, none⟩ = some (.string ⟨p.1.2.2.2.toArray⟩) ∧ W.cell? ⟨pb, 4, none⟩ = some (.string ⟨p.2.1.1.toArray⟩) ∧ W.cell? ⟨pb, 5, none⟩ = some (.int .i64 p.2.1.2.1) ∧ W.cell? ⟨pb, 6, none⟩ = some (.string ⟨p.2.1.2.2.1.toArray⟩) ∧ W.cell? ⟨pb, 7, none⟩ = some (.string ⟨p.2.1.2.2.2.toArray⟩) ∧ W.cell? ⟨pb, 8, none⟩ = some (.string ⟨p.2.2.1.toArray⟩) ∧ W.cell? ⟨pb, 9, none⟩ = some (.int .i64 p.2.2.2.1) ∧ W.cell? ⟨pb, 10, none⟩ = some (.string ⟨p.2.2.2.2.1.toArray⟩) ∧ W.cell? ⟨pb, 11, none⟩ = some (.string ⟨p.2.2.2.2.2.toArray⟩) ∧ W.cell? a = some v
theorem S14.keep {w0 W W' : World} {pb : Nat} {p : Pt} {a : Addr} {v : Value} (h : S14 w0 pb p a v W) (hb : RowKit.Below W.heap.size W W') : S14 w0 pb p a v W' := by
  obtain ⟨h0, c0, c1, c2, c3, c4, c5, c6, c7, c8, c9, c10, c11, c12⟩ := h
  exact ⟨bstep h0 hb, cell_b c0 hb, cell_b c1 hb, cell_b c2 hb, cell_b c3 hb, cell_b c4 hb, cell_b c5 hb, cell_b c6 hb, cell_b c7 hb, cell_b c8 hb, cell_b c9 hb, cell_b c10 hb, cell_b c11 hb, cell_b c12 hb⟩
theorem int3 (a b c : Nat) : Value.int .i64 ((a : Int) + (b : Int) + (c : Int)) = .int .i64 ((a + (b + c) : Nat) : Int) := by congr 1; omega
theorem own_first (w : World) (q : Obj) : OwnR ((w.alloc q).alloc (.cells #[.slice none 0 0] 33)) (w.heap.size + 1) (.slice (some ⟨w.heap.size + 1, 0, none⟩) 1 1) [[]] [.slice none 0 0] := by
  refine ⟨rfl, ⟨rfl, .inr ⟨w.heap.size + 1, 1, #[.slice none 0 0], rfl, Nat.le_refl _, ?_, Nat.le_refl _, by decide, rfl, rfl⟩⟩, fun j hj => ?_⟩
  · show ((w.heap.push _).push _)[w.heap.size + 1]? = _
    rw [Array.getElem?_push, if_pos (by simp)]
  · have e : j = 0 := by simpa using hj
    subst e
    exact World.ownsRow_nil _ _ _ _

set_option maxHeartbeats 16000000 in
set_option maxRecDepth 100000 in
theorem Answers_any (S : List Tr) (ad : Option Addr) (cap : Nat) (q : Qu) (vd pd : Option Addr) (vc pc : Nat) (w : World) (hS : SlT w ad S) (h200 : S.length ≤ 200) (hq : QuIn w q vd pd) (h6 : q.parts.length ≤ 6) (hfit : ∀ p ∈ q.parts, fitPt p) (hgood : ∀ p ∈ q.parts, varsN p = 0) :
    Calls Tryz.prog 6 #[.slice ad S.length cap, valQ q vd vc pd pc] w (AnsAns S q w) := by
  have HS := hideQ hS
  have Hp := hideQ hq.parts
  have Hfit := hideQ hfit
  have Hgood := hideQ hgood
  generalize hA : AnsAns S q w = A
  have HA := hideQ hA
  clear hA hS hq hfit hgood
  unfold valQ
  obtain ⟨W1, hW1⟩ : ∃ W1, W1 = (w.alloc (.cells #[.slice vd q.vars.length vc, .slice pd q.parts.length pc, .string ⟨q.order.toArray⟩, .bool q.down, .bool q.dist, .int .i64 q.lim] 26)).alloc (.cells #[.slice none 0 0] 33) := ⟨_, rfl⟩
  have hb1 : RowKit.Below w.heap.size w W1 := by rw [hW1]; exact bstep (balloc _ _) (balloc _ _)
  have hW1s : w.heap.size + 2 ≤ W1.heap.size := by rw [hW1]; show _ ≤ ((w.heap.push _).push _).size; simp
  have HB : Hid (BoxQ W1 w.heap.size q vd pd vc pc) := by show BoxQ _ _ _ _ _ _ _; rw [hW1]; exact BoxQ.below (boxQ_new _ _ _ _ _ _) (balloc _ _)
  have HO : Hid (OwnR W1 (w.heap.size + 1) (.slice (some ⟨w.heap.size + 1, 0, none⟩) 1 1) [[]] [.slice none 0 0]) := by show OwnR _ _ _ _ _; rw [hW1]; exact own_first w _
  have HW1 := hideQ hW1
  clear hW1
  obtain ⟨R, hR⟩ : ∃ R, R = answersL S q.parts := ⟨_, rfl⟩
  obtain ⟨LK, hLK⟩ : ∃ LK, LK = looked S q.parts := ⟨_, rfl⟩
  have T0 : Hid (ASt (w.heap.size + 1) W1 W1 S q.parts R LK (.slice none 0 0) (.slice (some ⟨w.heap.size + 1, 0, none⟩) 1 1) [.slice none 0 0] 0 [] [[]]) := ⟨RowKit.Below.refl _ _, World.ownsRow_nil _ _ _ _, HO.out, hR.symm, fun _ => by rw [hLK]; simp [looked], by simp, fun r hr => by simp at hr; simp [hr]⟩
  have HR := hideQ hR
  have HLK := hideQ hLK
  clear hR hLK HO
  go_enter Tryz.func6, Tryz.ntmps6
  go_upto_region 3 with fail
  rw [← HW1.out]
  clear HW1
  go_wp2_with fail
  go_loopw [8, 9, 10, 11, 12, 13, 14, 15, 16, 17, 18, 19, 20, 21, 22, 23, 24, 25, 26] (fun vv rv lk ii _ _ _ _ _ _ _ _ _ _ _ _ _ _ _ wr => ∃ (i n : Nat) (vars : List (List UInt8)) (rows : List (List Tm)) (vs : List Value), i ≤ q.parts.length ∧ ii = .int .i64 i ∧ lk = .int .i64 n ∧ n ≤ 700 * i ∧ vars.length ≤ 3 * i ∧ Hid (ASt (w.heap.size + 1) W1 wr S (q.parts.drop i) R LK vv rv vs n vars rows)) (fun _ _ _ ii _ _ _ _ _ _ _ _ _ _ _ _ _ _ _ wr => q.parts.length - (intOf ii).toNat)
  case atStart => exact ⟨0, 0, [], [[]], _, Nat.zero_le _, rfl, rfl, by simp, by simp, T0⟩
  case round =>
    clear T0
    obtain ⟨i, n, vars, rows, vs, hi, rfl, rfl, hn, hvl, Ht⟩ := hrel
    obtain ⟨c0, c1, c2, c3, c4, c5⟩ := HB.out.below Ht.out.bel
    by_cases hlt : i < q.parts.length
    · have t1 : decide ((i : Int) < (q.parts.length : Int)) = true := by simp; omega
      obtain ⟨b, off, rfl, hrow⟩ := (Hp.out.below (bstep hb1 Ht.out.bel)).at i hlt
      have hat := hrow.at i hlt
      have e0 := hat 0 _ rfl
      have e1 := hat 1 _ rfl
      have e2 := hat 2 _ rfl
      have e3 := hat 3 _ rfl
      have e4 := hat 4 _ rfl
      have e5 := hat 5 _ rfl
      have e6 := hat 6 _ rfl
      have e7 := hat 7 _ rfl
      have e8 := hat 8 _ rfl
      have e9 := hat 9 _ rfl
      have e10 := hat 10 _ rfl
      have e11 := hat 11 _ rfl
      rw [Nat.add_zero] at e0
      have i0 : (0 : Int) ≤ (i : Int) := by omega
      have i1 : (i : Int) < (q.parts.length : Int) := by omega
      have Hfp := hideQ (Hfit.out _ (List.getElem_mem hlt))
      have Hgp := hideQ (Hgood.out _ (List.getElem_mem hlt))
      have Hd := hideQ (List.drop_eq_getElem_cons hlt)
      generalize q.parts[i] = p at *
      have P1 : Hid (blkP (wr.alloc (.cells (encPt p).toArray 32)) wr.heap.size p) := by
        show (wr.heap.push _)[wr.heap.size]? = _
        rw [Array.getElem?_push, if_pos rfl]
      have hbv := balloc wr (.cells (encPt p).toArray 32)
      unfold encPt at P1 hbv
      clear hat hrow
      go_upto_region 8 with fail
      have Ht1 := hideQ (Ht.out.below hbv)
      clear c0 c1 c2 c3 c4 c5 e0 e1 e2 e3 e4 e5 e6 e7 e8 e9 e10 e11
      generalize hV1 : wr.alloc _ = V1 at P1 hbv Ht1 ⊢
      clear hV1 Ht
      have HV := RVarsO_any p V1 Hfp.out
      obtain ⟨m0, _⟩ := blkP_cells P1.out 0 _ rfl
      obtain ⟨m1, _⟩ := blkP_cells P1.out 1 _ rfl
      obtain ⟨m2, _⟩ := blkP_cells P1.out 2 _ rfl
      obtain ⟨m3, _⟩ := blkP_cells P1.out 3 _ rfl
      obtain ⟨m4, _⟩ := blkP_cells P1.out 4 _ rfl
      obtain ⟨m5, _⟩ := blkP_cells P1.out 5 _ rfl
      obtain ⟨m6, _⟩ := blkP_cells P1.out 6 _ rfl
      obtain ⟨m7, _⟩ := blkP_cells P1.out 7 _ rfl
      obtain ⟨m8, _⟩ := blkP_cells P1.out 8 _ rfl
      obtain ⟨m9, _⟩ := blkP_cells P1.out 9 _ rfl
      obtain ⟨m10, _⟩ := blkP_cells P1.out 10 _ rfl
      obtain ⟨m11, _⟩ := blkP_cells P1.out 11 _ rfl
      have zm := World.block_lt_of_cell? _ _ m0
      unfold valPt at HV
      go_wp2_with fail
      refine HV.mono ?_
      rintro e w2 ⟨hb2, l, md, mc, rfl, hl, hlA⟩
      have hlV : l = varsL p := by
        have h9 : l = if varsN p = 0 then varsL p else [] := hlA
        rw [if_pos Hgp.out] at h9
        exact h9
      have Hl := hideQ hl
      have HlV := hideQ hlV
      have hl3 : l.length ≤ 3 := by rw [hlV]; exact varsL_few p
      have Ht2 := hideQ (Ht1.out.below hb2)
      have P2 := hideQ (blkP_below P1.out hb2)
      clear HV hl hlA hlV Ht1 P1 m0 m1 m2 m3 m4 m5 m6 m7 m8 m9 m10 m11 zm hb2 hbv
      obtain ⟨vd2, vc2, ev, sv⟩ := own_v Ht2.out.rowV
      obtain ⟨md2, mc2, em, sl⟩ := own_v Hl.out
      have Sv := hideQ sv
      have Sl := hideQ sl
      obtain ⟨rfl, _, rfl⟩ : md = md2 ∧ l.length = l.length ∧ mc = mc2 := by simpa using em
      clear sv sl em
      subst ev
      go_upto_block 2 with fail
      go_cut [16, 17, 18] from 45 to 65 (fun fv _ _ W' => Hid (W'.ownsRow w2.heap.size 9 1 fv (freshV vars p).length ((freshV vars p).map encV)) ∧ Hid (RowKit.Below w2.heap.size w2 W'))
      case first =>
        go_wp2_with fail
        go_loopw [16, 17, 18] (fun fv kk _ wk => ∃ k : Nat, k ≤ l.length ∧ kk = .int .i64 k ∧ Hid (wk.ownsRow w2.heap.size 9 1 fv (freshK vars l k).length ((freshK vars l k).map encV)) ∧ Hid (RowKit.Below w2.heap.size w2 wk)) (fun _ kk _ wk => l.length - (intOf kk).toNat)
        case atStart => exact ⟨0, Nat.zero_le _, rfl, World.ownsRow_nil _ _ _ _, RowKit.Below.refl _ _⟩
        case round =>
          obtain ⟨k, hk, rfl, hf, hbk⟩ := hrel
          by_cases hkl : k < l.length
          · obtain ⟨mb, rfl, hmr⟩ := Sl.out (by intro e; rw [e] at hkl; simp at hkl)
            have ck := (hbk.out.cell (World.block_lt_of_cell? _ _ (hmr k hkl))).trans (hmr k hkl)
            unfold encV at ck
            have k0 : (0 : Int) ≤ (k : Int) := by omega
            have k1 : (k : Int) < (l.length : Int) := by omega
            have svk : SlV wr vd2 vars := fun hne => by
              obtain ⟨vb, e9, r9⟩ := Sv.out hne
              exact ⟨vb, e9, fun j hj => (hbk.out.cell (World.block_lt_of_cell? _ _ (r9 j hj))).trans (r9 j hj)⟩
            have HC := RHas_any vd2 vc2 vars l[k] wr svk (by omega)
            have hfl := freshK_len vars l k
            have hnew := hideQ (freshK_new (vars := vars) hkl)
            have hold := hideQ (freshK_old (vars := vars) hkl)
            have hzk := hbk.out.size
            clear svk hmr
            generalize hf1 : freshK vars l (k + 1) = f1 at hnew hold
            have Hf1 := hideQ hf1
            clear hf1
            generalize freshK vars l k = f0 at *
            generalize l[k] = y at *
            cases hd : decide (y ∈ vars)
            · rw [hd] at HC
              have e1 := hideQ (hnew.out (by simpa using hd))
              clear hd hnew hold
              go_wp2_with fail
              refine HC.mono ?_
              rintro e w3 ⟨rfl, hw3⟩
              have hw3 := hw3.symm
              subst hw3
              clear HC
              go_wp2_with (at_builtin; refine wpList_append_text _ rfl _ _ rfl w2.heap.size wr.heap.size _ f0 y rfl rfl (hf.out.alloc _) (by go_simp) (by omega) (by simp; omega) ?_; intro v' w4 hv4 hg4 hat4)
              have hal : RowKit.Below wr.heap.size wr (wr.alloc (.cells #[.string ⟨y.toArray⟩] 9)) := balloc _ _
              have hbel : RowKit.Below w2.heap.size w2 w4 := (bstep hbk.out hal).grown hg4 (by simp; omega) (fun g hg => (hf.out.lt g hg).1)
              have hv5 := hideQ hv4
              clear hv4 hg4 hat4 ck
              go_wp2_with fail
              go_roundw
              case rel => exact ⟨k + 1, by omega, by go_num, by show World.ownsRow _ _ _ _ _ _ _; rw [Hf1.out, e1.out]; exact hv5.out, hbel⟩
              case measure => simp [intOf]; omega
            · rw [hd] at HC
              have e1 := hideQ (hold.out (by simpa using hd))
              clear hd hnew hold
              go_wp2_with fail
              refine HC.mono ?_
              rintro e w3 ⟨rfl, hw3⟩
              have hw3 := hw3.symm
              subst hw3
              clear HC ck
              go_wp2_with fail
              go_roundw
              case rel => exact ⟨k + 1, by omega, by go_num, by show World.ownsRow _ _ _ _ _ _ _; rw [Hf1.out, e1.out]; exact hf.out, hbk⟩
              case measure => simp [intOf]; omega
          · have hke : k = l.length := by omega
            have hfin : Hid (freshK vars l k = freshV vars p) := by show _ = _; rw [hke, HlV.out]; exact freshK_all vars p
            go_wp2_with fail
            go_meet
            case rel => exact ⟨by show World.ownsRow _ _ _ _ _ _ _; rw [← hfin.out]; exact hf.out, hbk⟩
      case rest =>
        obtain ⟨hfr, hbw⟩ := hcut
        obtain ⟨fd, fc, ef, sf⟩ := own_w hfr.out
        have Sf := hideQ sf
        clear sf hfr
        subst ef
        have Ht3 := hideQ (Ht2.out.below hbw.out)
        have P3 := hideQ (blkP_below P2.out hbw.out)
        obtain ⟨yd, yc, er, sr⟩ := Ht3.out.rowR.sl
        subst er
        have Sr := hideQ sr
        have z1 := Ht3.out.bel.size
        have hz1 := hb1.size
        have hff := fresh_few vars p
        have hfew := Ht3.out.few
        clear sr Ht2 P2 Sl Hl hbw
        generalize wr.heap.size = pb at P3 ⊢
        go_wp2_with fail
        go_loopw [10, 13, 19, 20, 21, 22, 23, 24, 25, 26] (fun lk nx jj _ _ _ _ _ _ _ wk => ∃ (j : Nat) (us : List Value), j ≤ rows.length ∧ jj = .int .i64 j ∧ lk = .int .i64 ((n + (stepR S vars p (rows.take j)).length : Nat) : Int) ∧ (stepR S vars p (rows.take j)).length ≤ 500 ∧ Hid (OwnR wk wc.heap.size nx (stepR S vars p (rows.take j)) us) ∧ Hid (RowKit.Below wc.heap.size wc wk)) (fun _ _ jj _ _ _ _ _ _ _ wk => rows.length - (intOf jj).toNat)
        case atStart => exact ⟨0, [], Nat.zero_le _, rfl, by simp [stepR], by simp [stepR], by show OwnR _ _ _ _ _; simpa [stepR] using OwnR.nil _ _, RowKit.Below.refl _ _⟩
        case round =>
          obtain ⟨j, us, hj, rfl, rfl, h5, HN, hbk⟩ := hrel
          by_cases hjl : j < rows.length
          · have tj : decide ((j : Int) < (rows.length : Int)) = true := by simp; omega
            obtain ⟨rb, ro, rd, rc, e9, crow0, srow0⟩ := Sr.out.at j hjl
            subst e9
            have crow := cell_b crow0 hbk.out
            have srow := srow0.below hbk.out
            have Hcell := hideQ crow0
            have P4 := hideQ (blkP_below P3.out hbk.out)
            have Ht4 := hideQ (Ht3.out.below hbk.out)
            obtain ⟨xd, xc, ev, sv4⟩ := own_w Ht4.out.rowV
            obtain ⟨rfl, _, rfl⟩ : vd2 = xd ∧ vars.length = vars.length ∧ vc2 = xc := by simpa using ev
            have j0 : (0 : Int) ≤ (j : Int) := by omega
            have j1 : (j : Int) < (rows.length : Int) := by omega
            have HBd : ∀ W, S14 wr pb p ⟨rb, ro + j, none⟩ (.slice rd rows[j].length rc) W → Calls Tryz.prog 14 #[valPt p, .slice vd2 vars.length vc2, .slice rd rows[j].length rc] W fun e w' => e = .returned (valPt (bindP vars rows[j] p)) ∧ RowKit.Below W.heap.size W w' := fun W hW => Bind_any vd2 rd vc2 rc vars rows[j] p W (sv4.below hW.1) (srow.below hW.1) (by omega)
            have HM : ∀ W, S14 wr pb p ⟨rb, ro + j, none⟩ (.slice rd rows[j].length rc) W → Calls Tryz.prog 20 #[.slice ad S.length cap, valPt (bindP vars rows[j] p)] W fun e w' => ∃ v, e = .returned v ∧ w'.ownsRow wr.heap.size 58 9 v (matchP S (bindP vars rows[j] p)).length (cellsT (matchP S (bindP vars rows[j] p))) ∧ RowKit.Below wr.heap.size wr w' ∧ RowKit.Below W.heap.size W w' := fun W hW => (RMatchO_any ad cap S (bindP vars rows[j] p) W (HS.out.below (bstep (bstep hb1 (bstep Ht3.out.bel hbk.out)) hW.1)) h200).mono fun e w' ⟨h1, v, h2, h3⟩ => ⟨v, h2, own_mono h3 (by have := hW.1.size; omega), bstep hW.1 h1, h1⟩
            have hdr : RowKit.Below wr.heap.size wr wr.drew := (RowKit.Below.refl _ wr).drew
            have hkeep : S14 wr pb p ⟨rb, ro + j, none⟩ (.slice rd rows[j].length rc) wr.drew := by
              refine S14.keep ?_ hdr
              exact ⟨RowKit.Below.refl _ _, (blkP_cells P4.out 0 _ rfl).1, (blkP_cells P4.out 1 _ rfl).1, (blkP_cells P4.out 2 _ rfl).1, (blkP_cells P4.out 3 _ rfl).1, (blkP_cells P4.out 4 _ rfl).1, (blkP_cells P4.out 5 _ rfl).1, (blkP_cells P4.out 6 _ rfl).1, (blkP_cells P4.out 7 _ rfl).1, (blkP_cells P4.out 8 _ rfl).1, (blkP_cells P4.out 9 _ rfl).1, (blkP_cells P4.out 10 _ rfl).1, (blkP_cells P4.out 11 _ rfl).1, crow⟩
            have Hrow := hideQ srow0
            have Hn := hideQ (step_next (S := S) (vars := vars) (p := p) hjl)
            clear srow sv4 crow hdr ev srow0 crow0
            generalize hrj : rows[j] = r at *
            have Hrj := hideQ hrj
            clear hrj
            unfold S14 at HBd HM hkeep
            unfold valPt at HBd HM
            go_wp2_with fail
            go_region_held3 (fun W => RowKit.Below wr.heap.size wr W ∧ W.cell? ⟨pb, 0, none⟩ = some (.string ⟨p.1.1.toArray⟩) ∧ W.cell? ⟨pb, 1, none⟩ = some (.int .i64 p.1.2.1) ∧ W.cell? ⟨pb, 2, none⟩ = some (.string ⟨p.1.2.2.1.toArray⟩) ∧ W.cell? ⟨pb, 3, none⟩ = some (.string ⟨p.1.2.2.2.toArray⟩) ∧ W.cell? ⟨pb, 4, none⟩ = some (.string ⟨p.2.1.1.toArray⟩) ∧ W.cell? ⟨pb, 5, none⟩ = some (.int .i64 p.2.1.2.1) ∧ W.cell? ⟨pb, 6, none⟩ = some (.string ⟨p.2.1.2.2.1.toArray⟩) ∧ W.cell? ⟨pb, 7, none⟩ = some (.string ⟨p.2.1.2.2.2.toArray⟩) ∧ W.cell? ⟨pb, 8, none⟩ = some (.string ⟨p.2.2.1.toArray⟩) ∧ W.cell? ⟨pb, 9, none⟩ = some (.int .i64 p.2.2.2.1) ∧ W.cell? ⟨pb, 10, none⟩ = some (.string ⟨p.2.2.2.2.1.toArray⟩) ∧ W.cell? ⟨pb, 11, none⟩ = some (.string ⟨p.2.2.2.2.2.toArray⟩) ∧ W.cell? ⟨rb, ro + j, none⟩ = some (.slice rd r.length rc)) (first | exact S14.keep (by assumption) hb5 | exact S14.keep (by assumption) hb6 | assumption)
              (first
              | (go_at_call 14; refine (HBd _ (by assumption)).mono ?_; rintro e w5 ⟨rfl, hb5⟩; dsimp only)
              | (go_at_call 20; refine (HM _ (by assumption)).mono ?_; rintro e w6 ⟨mv, rfl, hm, hb7, hb6⟩; dsimp only))
            have hml := match_len S (bindP vars r p)
            have Hm := hideQ hm
            have Hb7 := hideQ hb7
            have Hro := hideQ (rowsOf_len S vars p r)
            have Hma := hideQ (madeK_all S vars p r)
            clear HBd HM hkeep hm hb7 hb6 hb5
            generalize matchP S (bindP vars r p) = m at *
            obtain ⟨md, mc, em, sm⟩ := own_slM3 Hm.out
            subst em
            clear sm
            have HN6 := hideQ (HN.out.below Hb7.out)
            have hb8 := hideQ (bstep hbk.out Hb7.out)
            have Hm6 := hideQ (own_mono Hm.out hbk.out.size)
            have hr90 : r.length ≤ 90 := by have := Ht3.out.lens r (by rw [← Hrj.out]; exact List.getElem_mem hjl); omega
            clear HN Hm P4 Ht4
            have wr1 : IntKind.i64.wrap (((n + (stepR S vars p (rows.take j)).length : Nat) : Int) + (m.length : Int)) = ((n + (stepR S vars p (rows.take j)).length + m.length : Nat) : Int) := by
              have : n ≤ 700 * 6 := by omega
              simp [IntKind.wrap, IntKind.bits, IntKind.signed]; omega
            go_wp2_with fail
            go_loopw [13, 21, 22, 23, 24, 25, 26] (fun nx kk _ _ _ _ _ wk => ∃ (k : Nat) (us' : List Value), k ≤ m.length ∧ kk = .int .i64 k ∧ Hid (OwnR wk wc.heap.size nx (stepR S vars p (rows.take j) ++ madeK vars p r m k) us') ∧ Hid (RowKit.Below wc.heap.size wc wk) ∧ Hid (wk.ownsRow wc.heap.size 58 9 (.slice md m.length mc) m.length (cellsT m))) (fun _ kk _ _ _ _ _ wk => m.length - (intOf kk).toNat)
            case atStart => exact ⟨0, us, Nat.zero_le _, rfl, by show OwnR _ _ _ _ _; simpa [madeK] using HN6.out, hb8, Hm6⟩
            case round =>
              clear HN6 hb8 Hm6 Hb7
              obtain ⟨k, us', hk, rfl, HN, hbq, Hm⟩ := hrel
              have zq := hbq.out.size
              by_cases hkl : k < m.length
              · have t2 : decide ((k : Int) < (m.length : Int)) = true := by simp; omega
                obtain ⟨md', mc', em, sm⟩ := own_slM3 Hm.out
                obtain ⟨rfl, _, rfl⟩ : md = md' ∧ m.length = m.length ∧ mc = mc' := by simpa using em
                obtain ⟨mb, mo, rfl, hr⟩ := sm.at k hkl
                have Hat := hideQ (hr.at k hkl)
                have Hcr := hideQ (cell_b Hcell.out hbq.out)
                have Hsr := hideQ (Hrow.out.below hbq.out)
                have Hpq := hideQ (show PatAt wr pb p from fun j v hv => (blkP_cells (blkP_below P3.out hbq.out) j v hv).1)
                have Hmk := hideQ (madeK_next (vars := vars) (p := p) (r := r) hkl)
                have hLl : (stepR S vars p (rows.take j) ++ madeK vars p r m k).length ≤ 1000 := by have := madeK_len vars p r m k; simp only [List.length_append]; omega
                clear em sm hr
                generalize m[k] = y at Hmk Hat
                go_upto_if 88 with fail
                go_cut [85] from 86 to 88 (fun _ W' => Hid (W' = wr))
                case first =>
                  go_wp2_with fail
                  go_meet
                  case rel => exact rfl
                case rest =>
                  have hw := hcut.out.symm
                  subst hw
                  refine go_on (by assumption) ?_
                  refine ansRow _ _ _ _ _ _ _ _ _ _ _ _ _ _ _ _ _ _ _ _ _ _ _ _ _ _ _ _ _ _ _ _ _ _ _ _ _ _ _ _ _ _ _ _ _ _ _ _ _ _ _ _ _ _ _ _ _ _ _ _ _ _ _ _ _ _ _ _ _ _ _ _ _ _ _ _ _ _ _ _ _ _ _ _ _ _ _ _ _ _ _ _ _ _ _ _ _ _ _ _ _ _ _ _ _ _ _ _ _ _ _ _ _ _ _ _ _ _ _ _ _ _ _ _ _ _ _ _ _ _ _ _ _ _ _ _ _ _ _ _ fd rd fc rc rb ro rows.length yc pb mb mo m.length mc j k wc.heap.size m.length _ _ _ vars (freshV vars p) _ r y p wr hbq.out.size HN.out Hm.out Hcr.out Hsr.out Hat.out Hpq.out (Sf.out.below hbq.out) rfl hff hr90 hLl hjl hkl (by omega) ?_
                  intros
                  rename_i nx' u W' g1 g2 g3
                  have G1 := hideQ (show OwnR W' wc.heap.size nx' (stepR S vars p (rows.take j) ++ madeK vars p r m (k + 1)) _ by rw [Hmk.out, ← List.append_assoc]; exact g1)
                  have G2 := hideQ (RowKit.Below.trans hbq.out (g3.mono (Nat.le_refl _)))
                  have G3 := hideQ g2
                  clear g1 g2 g3
                  go_wp2_with fail
                  go_roundw
                  case rel => exact ⟨k + 1, _, by omega, rfl, G1, G2, G3⟩
                  case measure => simp [intOf]; omega
              · have hke : k = m.length := by omega
                subst hke
                have t2 : decide ((m.length : Int) < (m.length : Int)) = false := by simp
                have e5 : Hid (stepR S vars p (rows.take j) ++ madeK vars p r m m.length = stepR S vars p (rows.take (j + 1))) := by show _ = _; rw [Hma.out, Hn.out]
                have e6 : (stepR S vars p (rows.take (j + 1))).length = (stepR S vars p (rows.take j)).length + m.length := by rw [← e5.out, List.length_append, Hma.out, Hro.out]
                have hn7 := HN.out
                rw [e5.out] at hn7
                have HN7 := hideQ hn7
                clear hn7
                have Hov := hideQ (fun h => answers_over (S := S) (vars := vars) (p := p) (ps := q.parts.drop (i + 1)) (rows := rows) (j := j + 1) h)
                obtain ⟨nd, nc, en, _⟩ := HN7.out.sl
                clear HN e5
                generalize hs1 : stepR S vars p (rows.take (j + 1)) = s1 at *
                have Hs1 := hideQ hs1
                clear hs1
                generalize stepR S vars p (rows.take j) = s0 at *
                subst en
                by_cases h500 : 500 < s1.length
                · have t3 : decide ((s1.length : Int) > 500) = true := by simp; omega
                  have ha : Hid (R = none) := by
                    show _ = _
                    rw [← Ht3.out.ans, Hd.out]
                    exact Hov.out h500
                  have hbz := bstep hb1 (bstep Ht3.out.bel hbq.out)
                  go_wp2_with fail
                  refine bodyPost_ret (v := .tuple #[.slice none 0 0, .slice none 0 0, .int .i64 0, .int .i64 4]) (by simp [results, Tryz.results6, go_sem]) rfl ?_
                  rw [← HA.out]
                  unfold AnsAns
                  rw [← HR.out, ha.out]
                  exact ⟨hbz, rfl⟩
                · have t3 : decide ((s1.length : Int) > 500) = false := by simp; omega
                  go_wp2_with fail
                  go_roundw
                  case rel => exact ⟨j + 1, us', by omega, by go_num, by rw [Hs1.out, e6]; exact int3 _ _ _, by rw [Hs1.out]; exact Nat.not_lt.1 h500, by show OwnR _ _ _ _ _; rw [Hs1.out]; exact HN7.out, hbq⟩
                  case measure => simp [intOf]; omega
          · have hje : j = rows.length := by omega
            subst hje
            have tj : decide ((rows.length : Int) < (rows.length : Int)) = false := by simp
            rw [List.take_length] at h5 HN ⊢
            have rv1 := hideQ (ownsRow_belowV Ht3.out.rowV hbk.out)
            have Sf1 := hideQ (Sf.out.below hbk.out)
            have z2 := hbk.out.size
            have Ha := hideQ (answers_next (ps := q.parts.drop (i + 1)) (show ¬ 500 < (stepR S vars p rows).length by omega))
            have Hk := hideQ (looked_next (S := S) (vars := vars) (p := p) (rows := rows) (ps := q.parts.drop (i + 1)))
            have Hs := hideQ (step_len (S := S) (p := p) Ht3.out.lens)
            generalize stepR S vars p rows = st at *
            generalize freshV vars p = fr at *
            go_wp2_with (at_builtin; refine wpList_append_textsW _ rfl _ _ rfl W1.heap.size _ vars fr fd fc rfl rfl rv1.out Sf1.out (by omega) (by omega) ?_; intro v4 w4 hv4 hg4)
            have hv5 := hideQ hv4
            have hbel := hideQ (((bstep Ht3.out.bel hbk.out).grown hg4 (by omega) (fun g hg => (rv1.out.lt g hg).1)))
            have HN5 := hideQ ((HN.out.keptS rv1.out hg4).mono (show w.heap.size + 1 ≤ wc.heap.size by omega))
            clear hv4 hg4
            go_wp2_with fail
            go_roundw
            case rel => exact ⟨i + 1, n + st.length, vars ++ fr, st, us, by omega, by go_num, by go_num, by omega, by simp; omega, ⟨hbel.out, hv5.out, HN5.out, by rw [← Ha.out, ← Hd.out]; exact Ht3.out.ans, fun hne => by have h9 := Ht3.out.look hne; rw [Hd.out, Hk.out] at h9; omega, h5, Hs.out⟩⟩
            case measure => simp [intOf]; omega
    · have t1 : decide ((i : Int) < (q.parts.length : Int)) = false := by simp; omega
      obtain ⟨xd, xc, ev, sv⟩ := own_w Ht.out.rowV
      obtain ⟨yd, yc, er, sr⟩ := Ht.out.rowR.sl
      subst ev er
      have ha : R = some (vars, rows) := by
        have h9 := Ht.out.ans
        rw [List.drop_eq_nil_of_le (by omega)] at h9
        exact h9.symm
      have hl : n = LK := by
        have h9 := Ht.out.look (by rw [ha]; simp)
        rw [List.drop_eq_nil_of_le (by omega)] at h9
        simpa [lookedF] using h9
      have Ha := hideQ ha
      have Hl := hideQ hl
      have Sv := hideQ sv
      have Sr := hideQ sr
      have hbz := bstep hb1 Ht.out.bel
      clear ha hl sv sr
      go_wp2_with fail
      refine bodyPost_ret (v := .tuple #[.slice xd vars.length xc, .slice yd rows.length yc, .int .i64 n, .int .i64 0]) (by simp [results, Tryz.results6, go_sem]) rfl ?_
      rw [← HA.out]
      unfold AnsAns
      rw [← HR.out, Ha.out]
      refine ⟨hbz, xd, xc, yd, yc, ?_, Sv.out, Sr.out⟩
      rw [Hl.out, HLK.out]
end Go.Proofs.YtbacenhgedopjaaGreatDoor

/- Rows in a list of rows that is one's own: an append of several. -/
namespace Go.Proofs.YtbacenhgedopjaaGreatDoor
open Go Go.RowKit Go.Proofs Go.Maps
set_option synthInstance.maxSize 1000

/-- the slices of a list's rows -/
def CellR (W : World) (us : List Value) (L : List (List Tm)) : Prop := us.length = L.length ∧ ∀ (j : Nat) (hj : j < L.length) (hu : j < us.length), ∃ rd rc, us[j] = .slice rd L[j].length rc ∧ SlQ W rd L[j]
theorem CellR.nil (W : World) : CellR W [] [] := ⟨rfl, fun j hj => by cases hj⟩
theorem CellR.below {W W' : World} {us : List Value} {L : List (List Tm)} (h : CellR W us L) (hb : RowKit.Below W.heap.size W W') : CellR W' us L := ⟨h.1, fun j hj hu => by
  obtain ⟨rd, rc, e, s⟩ := h.2 j hj hu
  exact ⟨rd, rc, e, s.below hb⟩⟩
theorem CellR.app {W : World} {us vs : List Value} {L M : List (List Tm)} (h : CellR W us L) (k : CellR W vs M) : CellR W (us ++ vs) (L ++ M) := by
  refine ⟨by simp [h.1, k.1], fun j hj hu => ?_⟩
  by_cases hl : j < L.length
  · have hl' : j < us.length := by rw [h.1]; exact hl
    rw [List.getElem_append_left hl', List.getElem_append_left hl]
    exact h.2 j hl hl'
  · have hl' : us.length ≤ j := by rw [h.1]; omega
    have e1 : (us ++ vs)[j] = vs[j - us.length]'(by simp at hu; omega) := List.getElem_append_right hl'
    have e2 : (L ++ M)[j] = M[j - L.length]'(by simp at hj; omega) := List.getElem_append_right (by omega)
    have e3 : (L ++ M)[j] = M[j - us.length]'(by simp at hj; have := h.1; omega) := by rw [e2]; congr 1; have := h.1; omega
    rw [e1, e3]
    exact k.2 _ (by simp at hj; have := h.1; omega) (by simp at hu; omega)
theorem CellR.take {W : World} {us : List Value} {L : List (List Tm)} (h : CellR W us L) (k : Nat) : CellR W (us.take k) (L.take k) := by
  refine ⟨by simp [h.1], fun j hj hu => ?_⟩
  rw [List.getElem_take, List.getElem_take]
  exact h.2 j (by simp at hj; omega) (by simp at hu; omega)
theorem CellR.drop {W : World} {us : List Value} {L : List (List Tm)} (h : CellR W us L) (k : Nat) : CellR W (us.drop k) (L.drop k) := by
  refine ⟨by simp [h.1], fun j hj hu => ?_⟩
  rw [List.getElem_drop, List.getElem_drop]
  exact h.2 (k + j) (by simp at hj; omega) (by simp at hu; omega)
theorem CellR.one {W : World} {rd : Option Addr} {rc : Nat} {r : List Tm} (h : SlQ W rd r) : CellR W [.slice rd r.length rc] [r] := ⟨rfl, fun j hj hu => by
  obtain rfl : j = 0 := by simpa using hj
  exact ⟨rd, rc, rfl, h⟩⟩
theorem CellR.all {W : World} {us : List Value} {L : List (List Tm)} (h : CellR W us L) : ∀ u ∈ us, u.oneCell' = true := fun u hu => by
  obtain ⟨j, hj, rfl⟩ := List.getElem_of_mem hu
  obtain ⟨rd, rc, e, _⟩ := h.2 j (by rw [← h.1]; exact hj) hj
  rw [e]
  rfl
/-- a list's row holds these cells -/
def AtR (W : World) (ad : Option Addr) (us : List Value) : Prop := us ≠ [] → ∃ b o, ad = some ⟨b, o, none⟩ ∧ ∀ (j : Nat) (u : Value), us[j]? = some u → W.cell? ⟨b, o + j, none⟩ = some u
theorem AtR.below {W W' : World} {ad : Option Addr} {us : List Value} (h : AtR W ad us) (hb : RowKit.Below W.heap.size W W') : AtR W' ad us := fun hn => by
  obtain ⟨b, o, e, r⟩ := h hn
  exact ⟨b, o, e, fun j u hu => (hb.cell (World.block_lt_of_cell? W _ (r j u hu))).trans (r j u hu)⟩
theorem AtR.slR {W : World} {ad : Option Addr} {us : List Value} {L : List (List Tm)} (h : AtR W ad us) (k : CellR W us L) : SlR W ad L := fun hn => by
  have hu : us ≠ [] := fun e => hn (List.eq_nil_of_length_eq_zero (by rw [← k.1, e]; rfl))
  obtain ⟨b, o, e, r⟩ := h hu
  refine ⟨b, o, e, fun j hj => ?_⟩
  have hju : j < us.length := by rw [k.1]; exact hj
  obtain ⟨rd, rc, e2, s⟩ := k.2 j hj hju
  exact ⟨rd, rc, by rw [r j _ (List.getElem?_eq_getElem hju), e2], s⟩
theorem own_atR {W : World} {base : Nat} {v : Value} {us : List Value} (h : W.ownsRow base 33 1 v us.length us) : ∃ ad c, v = .slice ad us.length c ∧ AtR W ad us ∧ us.length ≤ c ∧ (us = [] ∨ ∃ b, ad = some ⟨b, 0, none⟩) := by
  have h' := h
  rcases h.2 with ⟨rfl, h0⟩ | ⟨g, cap, cur, rfl, _, _, hle, _⟩
  · have hn : us = [] := List.eq_nil_of_length_eq_zero h0
    exact ⟨none, 0, by rw [h0], fun k => absurd hn k, by omega, Or.inl hn⟩
  · refine ⟨some ⟨g, 0, none⟩, cap, rfl, fun _ => ⟨g, 0, rfl, fun j u hu => ?_⟩, hle, Or.inr ⟨g, rfl⟩⟩
    have hc := h'.cells (g := g) rfl j u hu
    rw [Addr.add_lit] at hc
    exact hc
theorem append_emptyR {W : World} {base n : Nat} {v : Value} {vs : List Value} (h : W.ownsRow base 33 1 v n vs) (ad : Option Addr) (c : Nat) (ty : TypeId) : (Builtin.append_ #[36, 36] ty #[v, .slice ad 0 c]).run Tryz.prog W = .ok v W := by
  obtain ⟨i, hi, hz⟩ := Option.map_eq_some_iff.1 infoR
  have hf : (Builtin.firstCells i.size 0 (.slice ad 0 c)).run Tryz.prog W = .ok #[] W := by
    cases ad with
    | none => exact run_firstCells_none W _ _ _ _
    | some a => exact run_firstCells_some (P := Tryz.prog) W i.size 0 a 0 c [] (by simp) (by simp)
  rcases h.2 with ⟨rfl, h0⟩ | ⟨g, cc, cur, rfl, _, _, hle, _⟩
  · simp [Builtin.append_, run_underlying Tryz.underlying36, sizeOf, typeInfo, hi, Builtin.lenOf, hf]
  · simp [Builtin.append_, run_underlying Tryz.underlying36, sizeOf, typeInfo, hi, Builtin.lenOf, hf, hle, storeCells]
/-- an append of several rows: just the list's own row turns -/
theorem wpList_append_rowsQ {ops : Array Oper} {rest : List Oper} {o : Oper} {a : Act} {Q : Exit → Act → World → Prop} (w : World) (hgd : o.guard = none) (s x : Operand)
    (ho : o.op = .call { callee := .builtin .append, args := #[s, x], argTypes := #[36, 36] })
    (base : Nat) (v : Value) (n m : Nat) (vs us : List Value) (ad : Option Addr) (c : Nat) (hs : a.eval s = v) (hx : a.eval x = .slice ad m c) (hm : us.length = m) (hown : w.ownsRow base 33 1 v n vs) (hl : AtR w ad us) (hone : ∀ u ∈ us, u.oneCell' = true)
    (h63 : n + m ≤ 1000000) (hbase : base ≤ w.heap.size)
    (h : ∀ v' w', w'.ownsRow base 33 1 v' (n + m) (vs ++ us) → w.grownBy w' v.ownBlock → wpList Tryz.prog ops Q rest (a.put o.dst v') w') : wpList Tryz.prog ops Q (o :: rest) a w := by
  obtain ⟨i0, hi, hz⟩ := Option.map_eq_some_iff.1 infoR
  simp only [Prod.mk.injEq] at hz
  obtain ⟨hz0, hz1, hz2⟩ := hz
  subst hm
  cases us with
  | nil =>
    refine Lib.wpList_append_run w hgd s x _ _ ho v _ hs hx v w (append_emptyR hown ad c _) (h v w ?_ (World.grownBy.refl _ _))
    simpa using hown
  | cons y r =>
    obtain ⟨b, off, rfl, hr⟩ := hl (by simp)
    refine wpList_append_own w hgd s x _ ho base 33 i0 (.slice none 0 0) 1 24 Tryz.underlying36 hi hz0 hz1 hz2 rfl (by decide) v n vs hs hown ⟨b, off, none⟩ (y :: r).length c (y :: r) hx (by simp) ?_ hone (by unfold maxLen; omega) (by omega) hbase ?_
    · intro j u hj
      rw [Addr.add_lit]
      exact hr j u hj
    · intro v' w' h2 h3 _
      exact h v' w' h2 h3
end Go.Proofs.YtbacenhgedopjaaGreatDoor

/- The document's Solve: a row comes into the rows, at its place (a piece: from region 34 on). -/
namespace Go.Proofs.YtbacenhgedopjaaGreatDoor
open Go Go.RowKit Go.Proofs Go.Maps
set_option synthInstance.maxSize 1000

theorem AtR.take {W : World} {ad : Option Addr} {us : List Value} (h : AtR W ad us) (k : Nat) : AtR W ad (us.take k) := fun hn => by
  obtain ⟨b, o, e, r⟩ := h (fun e => hn (by rw [e, List.take_nil]))
  refine ⟨b, o, e, fun j u hu => r j u ?_⟩
  rw [List.getElem?_take] at hu
  split at hu
  · exact hu
  · cases hu
theorem AtR.drop {W : World} {b o : Nat} {us : List Value} (h : AtR W (some ⟨b, o, none⟩) us) (k : Nat) : AtR W (some ⟨b, o + k, none⟩) (us.drop k) := fun hn => by
  obtain ⟨b', o', e, r⟩ := h (fun e => hn (by rw [e, List.drop_nil]))
  obtain ⟨rfl, rfl⟩ : b = b' ∧ o = o' := by simpa using e
  refine ⟨b, o + k, rfl, fun j u hu => ?_⟩
  rw [List.getElem?_drop] at hu
  rw [Nat.add_assoc]
  exact r _ u hu
theorem slTake (ao : Option Addr) (n co k : Nat) (hk : k ≤ co) (hz : co = 0 ∨ ∃ b, ao = some ⟨b, 0, none⟩) (w : World) : (Instr.slice 36 (.slice ao n co) none (some (.int .i64 (k : Int))) none).run Tryz.prog w = .ok (.slice ao k co) w := by
  rw [run_slice_h w 36 ao n co (by kernel_rfl) .i64 (k : Int) (by omega) (by omega)]
  rw [show (sizeOf (Tryz.prog.elem 36)).run Tryz.prog w = .ok 1 w from by kernel_rfl]
  simp only [Result.andThen, sliced]
  rcases hz with rfl | ⟨b, rfl⟩
  · simp
  · simp [Addr.add]
def dropA (ao : Option Addr) (co k : Nat) : Option Addr := if co = k then ao else ao.map (·.add (k * 1))
theorem slDrop (ao : Option Addr) (n co k : Nat) (hk : k ≤ n) (w : World) : (Instr.slice 36 (.slice ao n co) (some (.int .i64 (k : Int))) none none).run Tryz.prog w = .ok (.slice (dropA ao co k) (n - k) (co - k)) w := by
  rw [run_slice_l w 36 ao n co (by kernel_rfl) .i64 (k : Int) (by omega) (by omega)]
  rw [show (sizeOf (Tryz.prog.elem 36)).run Tryz.prog w = .ok 1 w from by kernel_rfl]
  simp only [Result.andThen, sliced, dropA, Int.toNat_natCast]
theorem AtR.dropA {W : World} {ao : Option Addr} {us : List Value} {n co k : Nat} (h : AtR W ao us) (hl : us.length = n) (hn : n ≤ co) : AtR W (Go.Proofs.YtbacenhgedopjaaGreatDoor.dropA ao co k) (us.drop k) := fun hne => by
  have h1 : us ≠ [] := fun e => hne (by rw [e, List.drop_nil])
  obtain ⟨b, o, rfl, r⟩ := h h1
  have hlt : k < us.length := by
    rcases Nat.lt_or_ge k us.length with h | h
    · exact h
    · exact absurd (List.drop_eq_nil_of_le h) hne
  unfold Go.Proofs.YtbacenhgedopjaaGreatDoor.dropA
  rw [if_neg (by omega), Option.map_some, Addr.add_lit, Nat.mul_one]
  exact AtR.drop (fun _ => ⟨b, o, rfl, r⟩) k hne

set_option maxHeartbeats 8000000 in
set_option maxRecDepth 1000000 in
theorem rsApp (Q0 : Exit → Act → World → Prop) (u0 u1 u2 u3 u4 u5 u6 u7 u8 u9 u10 u11 u13 u15 u16 u17 u19 u20 u21 u22 u23 u24 u25 u26 u27 u28 u29 u30 u31 u32 u33 u34 u35 u36 u37 u38 u39 u40 u41 u42 u43 u44 u45 u46 u47 u48 u49 u50 u51 u52 u53 u54 u55 u56 u57 u58 u59 u60 u61 u62 u63 u64 u65 u66 u67 u68 u69 u70 u71 u72 u73 u74 u75 u76 u77 u78 u79 u80 u81 u82 u83 u84 u85 u86 u87 u88 u89 u90 u91 u92 u93 u94 u95 u96 u97 u98 u99 u100 u101 u102 u103 u104 u105 u106 u107 u108 u109 u110 u111 u112 u113 u114 u115 u116 u117 u118 u119 u120 u121 u122 u123 u124 u125 u126 u127 u128 u129 u130 u131 u132 u133 u134 u135 u136 u137 u138 u139 u140 u141 u142 u143 u144 u145 u146 u147 u148 u149 u150 u151 u152 u153 u154 u155 u156 u157 u158 u159 u160 u161 u162 u163 u164 u165 u166 u167 u168 u169 u170 u171 u172 u173 u174 u175 u176 u177 u178 : Value) (ao rd : Option Addr) (co rc k : Nat) (us : List Value) (L : List (List Tm)) (row : List Tm) (W : World)
    (hA : AtR W ao us) (hC : CellR W us L) (hco : L.length ≤ co) (hz : co = 0 ∨ ∃ b, ao = some ⟨b, 0, none⟩) (hr : SlQ W rd row) (hk : k ≤ L.length) (h5 : L.length ≤ 1000)
    (hQ : ∀ (x23 x150 x151 x152 x153 x154 x155 x156 x157 x158 x159 x160 x161 x162 x163 : Value) (ao' : Option Addr) (co' : Nat) (us' : List Value) (W' : World), AtR W' ao' us' → CellR W' us' (L.take k ++ row :: L.drop k) → L.length + 1 ≤ co' → (∃ b, ao' = some ⟨b, 0, none⟩) → RowKit.Below W.heap.size W W' → Q0 .normal ⟨#[u0, u1, u2, u3, u4, u5, u6, u7, u8, u9, u10, u11, .slice ao' (L.length + 1) co', u13, .slice rd row.length rc, u15, u16, u17, .int .i64 (k : Int), u19, u20, u21, u22, x23, u24, u25, u26, u27, u28, u29, u30, u31, u32, u33, u34, u35, u36, u37, u38, u39, u40, u41, u42, u43, u44, u45, u46, u47, u48, u49, u50, u51, u52, u53, u54, u55, u56, u57, u58, u59, u60, u61, u62, u63, u64, u65, u66, u67, u68, u69, u70, u71, u72, u73, u74, u75, u76, u77, u78, u79, u80, u81, u82, u83, u84, u85, u86, u87, u88, u89, u90, u91, u92, u93, u94, u95, u96, u97, u98, u99, u100, u101, u102, u103, u104, u105, u106, u107, u108, u109, u110, u111, u112, u113, u114, u115, u116, u117, u118, u119, u120, u121, u122, u123, u124, u125, u126, u127, u128, u129, u130, u131, u132, u133, u134, u135, u136, u137, u138, u139, u140, u141, u142, u143, u144, u145, u146, u147, u148, u149, x150, x151, x152, x153, x154, x155, x156, x157, x158, x159, x160, x161, x162, x163, u164, u165, u166, u167, u168, u169, u170, u171, u172, u173, u174, u175, u176, u177, u178], []⟩ W') :
    Code.wp Tryz.prog (codeOf Tryz.f7.body 34) Q0 ⟨#[u0, u1, u2, u3, u4, u5, u6, u7, u8, u9, u10, u11, .slice ao L.length co, u13, .slice rd row.length rc, u15, u16, u17, .int .i64 (k : Int), u19, u20, u21, u22, u23, u24, u25, u26, u27, u28, u29, u30, u31, u32, u33, u34, u35, u36, u37, u38, u39, u40, u41, u42, u43, u44, u45, u46, u47, u48, u49, u50, u51, u52, u53, u54, u55, u56, u57, u58, u59, u60, u61, u62, u63, u64, u65, u66, u67, u68, u69, u70, u71, u72, u73, u74, u75, u76, u77, u78, u79, u80, u81, u82, u83, u84, u85, u86, u87, u88, u89, u90, u91, u92, u93, u94, u95, u96, u97, u98, u99, u100, u101, u102, u103, u104, u105, u106, u107, u108, u109, u110, u111, u112, u113, u114, u115, u116, u117, u118, u119, u120, u121, u122, u123, u124, u125, u126, u127, u128, u129, u130, u131, u132, u133, u134, u135, u136, u137, u138, u139, u140, u141, u142, u143, u144, u145, u146, u147, u148, u149, u150, u151, u152, u153, u154, u155, u156, u157, u158, u159, u160, u161, u162, u163, u164, u165, u166, u167, u168, u169, u170, u171, u172, u173, u174, u175, u176, u177, u178], []⟩ W := by
  have HQ := hideA hQ
  have HA := hideA hA
  have HC := hideA hC
  have HR := hideA hr
  have hs1 := slTake ao L.length co k (by omega) hz
  have hs2 := slDrop ao L.length co k hk
  have hlu := hideA hC.1
  have Hco := hideA hco
  have hm1 : (us.take k).length = k := by rw [List.length_take, hC.1]; omega
  have hm2 : (us.drop k).length = L.length - k := by rw [List.length_drop, hC.1]
  have Hm1 := hideA hm1
  have Hm2 := hideA hm2
  have hOne := hideA hC.all
  have n0 : ¬ ((k : Int) < 0) := by omega
  clear hQ hA hC hr hz hm1 hm2 hco
  conv => arg 2; whnf
  dsimp only
  go_upto_region 36 with (at_builtin; refine wpList_append_rowsQ _ rfl _ _ rfl W.heap.size _ 0 k [] (us.take k) ao co rfl rfl Hm1.out (World.ownsRow_nil _ _ _ _) (HA.out.take k) (fun u hu => hOne.out u (List.mem_of_mem_take hu)) (by omega) (Nat.le_refl _) ?_; intro v4 w4 hv4 hg4)
  have hb4 : RowKit.Below W.heap.size W w4 := (RowKit.Below.refl _ W).grown hg4 (Nat.le_refl _) (fun g hg => by cases hg)
  rw [List.nil_append, Nat.zero_add] at hv4
  have Hv4 := hideA hv4
  have Hb4 := hideA hb4
  have z4 := hb4.size
  clear hv4 hg4 hb4
  go_upto_region 37 with (at_builtin; refine wpList_append_rowQ _ rfl _ _ rfl W.heap.size w4.heap.size _ k _ (.slice rd row.length rc) rfl rfl (Hv4.out.alloc _) (by go_simp) rfl (by omega) (by simp; omega) ?_; intro v5 w5 hv5 hg5 hat5)
  have hal : RowKit.Below w4.heap.size w4 (w4.alloc (.cells #[.slice rd row.length rc] 33)) := balloc _ _
  have hb5 : RowKit.Below W.heap.size W w5 := (bstep Hb4.out hal).grown hg5 (by simp; omega) (fun g hg => (Hv4.out.lt g hg).1)
  have Hv5 := hideA hv5
  have Hb5 := hideA hb5
  have z5 := hb5.size
  clear hv5 hg5 hat5 hb5 hal Hv4 Hb4 z4
  go_wp2_with (at_builtin; refine wpList_append_rowsQ _ rfl _ _ rfl W.heap.size _ (k + 1) (L.length - k) _ (us.drop k) (dropA ao co k) (co - k) rfl rfl Hm2.out Hv5.out ((HA.out.dropA hlu.out Hco.out).below Hb5.out) (fun u hu => hOne.out u (List.mem_of_mem_drop hu)) (by omega) (by omega) ?_; intro v6 w6 hv6 hg6)
  have hb6 : RowKit.Below W.heap.size W w6 := Hb5.out.grown hg6 (by omega) (fun g hg => (Hv5.out.lt g hg).1)
  have Hb6 := hideA hb6
  have hlen : k + 1 + (L.length - k) = (us.take k ++ [Value.slice rd row.length rc] ++ us.drop k).length := by have := Hm1.out; have := Hm2.out; simp only [List.length_append, List.length_singleton]; omega
  rw [hlen] at hv6
  obtain ⟨ad, c, rfl, h1, h2, h3⟩ := own_atR hv6
  have hl2 : (us.take k ++ [Value.slice rd row.length rc] ++ us.drop k).length = L.length + 1 := by omega
  have h4 : ∃ b, ad = some ⟨b, 0, none⟩ := by
    rcases h3 with h3 | h3
    · rw [h3] at hl2; simp at hl2
    · exact h3
  have hcell : CellR w6 (us.take k ++ [Value.slice rd row.length rc] ++ us.drop k) (L.take k ++ row :: L.drop k) := by
    have := (((HC.out.take k).app (CellR.one (rc := rc) HR.out)).app (HC.out.drop k)).below hb6
    simpa using this
  rw [hl2] at h2 ⊢
  have H1 := hideA h1
  have H2 := hideA h2
  have H4 := hideA h4
  have Hcell := hideA hcell
  clear hv6 hg6 hb6 hlen h1 h2 h3 h4 hcell hl2
  go_wp2_with fail
  exact HQ.out _ _ _ _ _ _ _ _ _ _ _ _ _ _ _ ad c _ _ H1.out Hcell.out H2.out H4.out Hb6.out
end Go.Proofs.YtbacenhgedopjaaGreatDoor

/- The document's Solve: where a row comes in (a piece: from the loop from the end on). -/
namespace Go.Proofs.YtbacenhgedopjaaGreatDoor
open Go Go.RowKit Go.Proofs Go.Maps
set_option synthInstance.maxSize 1000

theorem orI_range {a b c : Int} (ha : a = -1 ∨ a = 0 ∨ a = 1) (hb : b = -1 ∨ b = 0 ∨ b = 1) (hc : c = -1 ∨ c = 0 ∨ c = 1) : orI a b c = -1 ∨ orI a b c = 0 ∨ orI a b c = 1 := by
  unfold orI
  split
  · split
    · exact hc
    · exact hb
  · exact ha
theorem bytes_range : ∀ (a b : List UInt8), Lib.compareBytes a b = -1 ∨ Lib.compareBytes a b = 0 ∨ Lib.compareBytes a b = 1
  | [], [] => by simp [Lib.compareBytes]
  | [], _ :: _ => by simp [Lib.compareBytes]
  | _ :: _, [] => by simp [Lib.compareBytes]
  | a :: l, b :: m => by
    unfold Lib.compareBytes
    split
    · simp
    · split
      · simp
      · exact bytes_range l m
theorem cmpTm_range (x y : Tm) : cmpTm x y = -1 ∨ cmpTm x y = 0 ∨ cmpTm x y = 1 := by
  unfold cmpTm cmpT
  refine orI_range ?_ (bytes_range _ _) (bytes_range _ _)
  unfold Lib.compareInt
  repeat' split
  all_goals simp
theorem byC_some {i : Nat} {row x : List Tm} (h1 : i < row.length) (h2 : i < x.length) : byC (some i) false row x = cmpTm row[i] x[i] := by
  unfold byC
  dsimp only
  rw [if_neg (by decide), List.getD_eq_getElem?_getD, List.getD_eq_getElem?_getD, List.getElem?_eq_getElem h1, List.getElem?_eq_getElem h2]
  rfl
theorem byC_down (i : Option Nat) (row x : List Tm) : byC i true row x = - byC i false row x := by
  unfold byC
  cases i with
  | none => rfl
  | some i => rfl
theorem byC_range (i : Option Nat) (d : Bool) (row x : List Tm) : byC i d row x = -1 ∨ byC i d row x = 0 ∨ byC i d row x = 1 := by
  unfold byC
  cases i with
  | none => right; left; rfl
  | some i =>
    have := cmpTm_range (row.getD i tmZero) (x.getD i tmZero)
    cases d
    · exact this
    · dsimp only
      rw [if_pos rfl]
      omega
/-- the row ahead of place k is not behind it -/
def StopK (q : Qu) (row : List Tm) (L : List (List Tm)) (k : Nat) : Prop := ∀ h : 0 < k ∧ k ≤ L.length, ltQ q row (L[k - 1]'(by omega)) = false
theorem neg_wrap {c : Int} (h : c = -1 ∨ c = 0 ∨ c = 1) : IntKind.i64.wrap (-c) = -c := by
  rcases h with rfl | rfl | rfl <;> rfl

set_option maxHeartbeats 16000000 in
set_option maxRecDepth 1000000 in
theorem rsPut (Q0 : Exit → Act → World → Prop) (u0 u1 u2 u4 u5 u6 u7 u8 u9 u11 u13 u15 u16 u17 u19 u20 u21 u22 u23 u24 u25 u26 u27 u28 u29 u30 u31 u32 u33 u34 u35 u36 u37 u38 u39 u40 u41 u42 u43 u44 u45 u46 u47 u48 u49 u50 u51 u52 u53 u54 u55 u56 u57 u58 u59 u60 u61 u62 u63 u64 u65 u66 u67 u68 u69 u70 u71 u72 u73 u74 u75 u76 u77 u78 u79 u80 u81 u82 u83 u84 u85 u86 u87 u88 u89 u90 u91 u92 u93 u94 u95 u96 u97 u98 u99 u100 u101 u102 u103 u104 u105 u106 u107 u108 u109 u110 u111 u112 u113 u114 u115 u116 u117 u118 u119 u120 u121 u122 u123 u124 u125 u126 u127 u128 u129 u130 u131 u132 u133 u134 u135 u136 u137 u138 u139 u140 u141 u142 u143 u144 u145 u146 u147 u148 u149 u150 u151 u152 u153 u154 u155 u156 u157 u158 u159 u160 u161 u162 u163 u164 u165 u166 u167 u168 u169 u170 u171 u172 u173 u174 u175 u176 u177 u178 : Value) (ao rd vd pd : Option Addr) (co rc g vc pc : Nat) (by_ : Int) (us : List Value) (L : List (List Tm)) (row : List Tm) (q : Qu) (W : World)
    (hA : AtR W ao us) (hC : CellR W us L) (hco : L.length ≤ co) (hz : co = 0 ∨ ∃ b, ao = some ⟨b, 0, none⟩) (hr : SlQ W rd row) (hX : BoxQ W g q vd pd vc pc) (hby : (whereV q.vars q.order = none ∧ by_ = -1) ∨ ∃ i, whereV q.vars q.order = some i ∧ by_ = (i : Int) ∧ i < row.length) (hL : LenR row.length L) (hs : SortedR (ltQ q) L) (h5 : L.length ≤ 1000) (hn1 : row.length ≤ 1000)
    (hQ : ∀ (ex : Exit) (x18 x19 x20 x21 x22 x23 x84 x85 x86 x87 x88 x89 x90 x91 x92 x93 x94 x95 x96 x97 x98 x99 x100 x101 x102 x103 x104 x105 x106 x107 x108 x109 x110 x111 x112 x113 x114 x115 x116 x117 x118 x119 x120 x121 x122 x123 x124 x125 x126 x127 x128 x129 x130 x131 x132 x133 x134 x135 x136 x137 x138 x139 x140 x141 x142 x143 x144 x145 x146 x147 x148 x149 x150 x151 x152 x153 x154 x155 x156 x157 x158 x159 x160 x161 x162 x163 : Value) (ao' : Option Addr) (co' : Nat) (us' : List Value) (W' : World), (ex = .normal ∨ ex = .exit 3) → AtR W' ao' us' → CellR W' us' (putR (ltQ q) q.dist L row) → (putR (ltQ q) q.dist L row).length ≤ co' → (co' = 0 ∨ ∃ b, ao' = some ⟨b, 0, none⟩) → RowKit.Below W.heap.size W W' → Q0 ex ⟨#[u0, u1, u2, .pointer (some ⟨g, 0, none⟩), u4, u5, u6, u7, u8, u9, .int .i64 by_, u11, .slice ao' (putR (ltQ q) q.dist L row).length co', u13, .slice rd row.length rc, u15, u16, u17, x18, x19, x20, x21, x22, x23, u24, u25, u26, u27, u28, u29, u30, u31, u32, u33, u34, u35, u36, u37, u38, u39, u40, u41, u42, u43, u44, u45, u46, u47, u48, u49, u50, u51, u52, u53, u54, u55, u56, u57, u58, u59, u60, u61, u62, u63, u64, u65, u66, u67, u68, u69, u70, u71, u72, u73, u74, u75, u76, u77, u78, u79, u80, u81, u82, u83, x84, x85, x86, x87, x88, x89, x90, x91, x92, x93, x94, x95, x96, x97, x98, x99, x100, x101, x102, x103, x104, x105, x106, x107, x108, x109, x110, x111, x112, x113, x114, x115, x116, x117, x118, x119, x120, x121, x122, x123, x124, x125, x126, x127, x128, x129, x130, x131, x132, x133, x134, x135, x136, x137, x138, x139, x140, x141, x142, x143, x144, x145, x146, x147, x148, x149, x150, x151, x152, x153, x154, x155, x156, x157, x158, x159, x160, x161, x162, x163, u164, u165, u166, u167, u168, u169, u170, u171, u172, u173, u174, u175, u176, u177, u178], []⟩ W') :
    Code.wp Tryz.prog (codeOf Tryz.f7.body 21) Q0 ⟨#[u0, u1, u2, .pointer (some ⟨g, 0, none⟩), u4, u5, u6, u7, u8, u9, .int .i64 by_, u11, .slice ao L.length co, u13, .slice rd row.length rc, u15, u16, u17, .int .i64 (L.length : Int), u19, u20, u21, u22, u23, u24, u25, u26, u27, u28, u29, u30, u31, u32, u33, u34, u35, u36, u37, u38, u39, u40, u41, u42, u43, u44, u45, u46, u47, u48, u49, u50, u51, u52, u53, u54, u55, u56, u57, u58, u59, u60, u61, u62, u63, u64, u65, u66, u67, u68, u69, u70, u71, u72, u73, u74, u75, u76, u77, u78, u79, u80, u81, u82, u83, u84, u85, u86, u87, u88, u89, u90, u91, u92, u93, u94, u95, u96, u97, u98, u99, u100, u101, u102, u103, u104, u105, u106, u107, u108, u109, u110, u111, u112, u113, u114, u115, u116, u117, u118, u119, u120, u121, u122, u123, u124, u125, u126, u127, u128, u129, u130, u131, u132, u133, u134, u135, u136, u137, u138, u139, u140, u141, u142, u143, u144, u145, u146, u147, u148, u149, u150, u151, u152, u153, u154, u155, u156, u157, u158, u159, u160, u161, u162, u163, u164, u165, u166, u167, u168, u169, u170, u171, u172, u173, u174, u175, u176, u177, u178], []⟩ W := by
  have HQ := hideA hQ
  have HA := hideA hA
  have HC := hideA hC
  have HR := hideA hr
  have HX := hideA hX
  have Hby := hideA hby
  have HLn := hideA hL
  have HSo := hideA hs
  have Hz := hideA hz
  have Hco := hideA hco
  clear hQ hA hC hr hX hby hL hs hz hco
  conv => arg 2; whnf
  dsimp only
  go_upto_block 6 with fail
  go_cut [18, 19, 20] from 84 to 124 (fun kk _ _ W' => ∃ k : Nat, k ≤ L.length ∧ kk = .int .i64 (k : Int) ∧ Hid (∀ j (hj : j < L.length), k ≤ j → ltQ q row L[j] = true) ∧ Hid (StopK q row L k) ∧ Hid (RowKit.Below W.heap.size W W'))
  case first =>
    go_wp2_with fail
    go_loopw [18, 19, 20] (fun kk _ _ wr => ∃ k : Nat, k ≤ L.length ∧ kk = .int .i64 (k : Int) ∧ Hid (∀ j (hj : j < L.length), k ≤ j → ltQ q row L[j] = true) ∧ Hid (RowKit.Below W.heap.size W wr)) (fun kk _ _ wr => (intOf kk).toNat)
    case atStart => exact ⟨L.length, Nat.le_refl _, rfl, fun j hj h => by omega, RowKit.Below.refl _ _⟩
    case round =>
      obtain ⟨k, hk, rfl, hAft, hbr⟩ := hrel
      by_cases h0 : 0 < k
      · obtain ⟨m, rfl⟩ : ∃ m, k = m + 1 := ⟨k - 1, by omega⟩
        have hml : m < L.length := by omega
        have t1 : decide (((m + 1 : Nat) : Int) > 0) = true := decide_eq_true (by omega)
        obtain ⟨xd, xc, hux, hxs0⟩ := HC.out.2 m hml (by rw [HC.out.1]; exact hml)
        have hmu : m < us.length := by rw [HC.out.1]; exact hml
        obtain ⟨ob, oo, rfl, hcs⟩ := HA.out (fun e => by rw [e] at hmu; cases hmu)
        have oc := cell_b (hcs m _ (List.getElem?_eq_getElem hmu)) hbr.out
        rw [hux] at oc
        have hxs := hideA (hxs0.below hbr.out)
        have hxl := hideA (HLn.out L[m] (List.getElem_mem _))
        have wm : IntKind.i64.wrap (((m + 1 : Nat) : Int) - 1) = (m : Int) := by simp [IntKind.wrap, IntKind.bits, IntKind.signed]; omega
        have m0 : (0 : Int) ≤ (m : Int) := by omega
        have m1 : (m : Int) < (L.length : Int) := by omega
        have Hml := hideA hml
        have HNext := hideA (fun (h : ltQ q row L[m] = true) => (fun j hj hmj => by
          rcases Nat.lt_or_ge m j with h9 | h9
          · exact hAft.out j hj h9
          · obtain rfl : j = m := by omega
            exact h : ∀ j (hj : j < L.length), m ≤ j → ltQ q row L[j] = true))
        have HStop := hideA (fun (h : ltQ q row L[m] = false) => show StopK q row L (m + 1) from fun _ => h)
        have Hq9 := hideA (rfl : ltQ q = aheadB (whereV q.vars q.order) q.down)
        clear hcs hux hxs0 hmu h0
        generalize L[m] = x at HNext HStop hxs hxl oc
        obtain ⟨y0, y1, y2, y3, y4, y5⟩ := HX.out.below hbr.out
        clear y0 y1 y2 y4 y5
        go_upto_if 87 with fail
        go_cut [19] from 86 to 101 (fun c W' => Hid (c = .int .i64 (byC (whereV q.vars q.order) false row x)) ∧ Hid (RowKit.Below wr.heap.size wr W'))
        case first =>
          rcases Hby.out with ⟨ew, rfl⟩ | ⟨i, ew, rfl, hi⟩
          · have Hw := hideA ew
            have tb : decide ((-1 : Int) ≥ 0) = false := by decide
            clear ew
            go_wp2_with fail
            go_meet
            case rel => exact ⟨by show _ = _; rw [Hw.out]; rfl, RowKit.Below.refl _ _⟩
          · have Hw := hideA ew
            have hix : i < x.length := by rw [hxl.out]; exact hi
            have tb : decide ((i : Int) ≥ 0) = true := by simp
            have i0 : (0 : Int) ≤ (i : Int) := by omega
            have i1 : (i : Int) < (row.length : Int) := by omega
            have i2 : (i : Int) < (x.length : Int) := by omega
            obtain ⟨b1, o1, rfl, d0, d1, d2⟩ := (HR.out.below hbr.out).at i hi
            obtain ⟨b2, o2, rfl, e0, e1, e2⟩ := hxs.out.at i hix
            have HB := hideA (byC_some hi hix)
            have HCm : ∀ W, Calls Tryz.prog 24 #[.agg #[.int .i64 row[i].1, .string ⟨row[i].2.1.toArray⟩, .string ⟨row[i].2.2.toArray⟩], .agg #[.int .i64 x[i].1, .string ⟨x[i].2.1.toArray⟩, .string ⟨x[i].2.2.toArray⟩]] W fun e w' => e = .returned (.int .i64 (cmpTm row[i] x[i])) ∧ RowKit.Below W.heap.size W w' := fun W => RCompare_any row[i].1 row[i].2.1 row[i].2.2 x[i].1 x[i].2.1 x[i].2.2 W
            have hne := lat_some wr
            have q0 := lat_cell d0
            have q1 := lat_cell d1
            have q2 := lat_cell d2
            have q3 := lat_cell e0
            have q4 := lat_cell e1
            have q5 := lat_cell e2
            have q6 := lat_cell oc
            clear d0 d1 d2 e0 e1 e2 ew oc y3
            generalize row[i] = u at *
            generalize x[i] = v at *
            generalize cmpTm u v = cv at *
            clear hi hix
            go_wp2_with fail
            refine lat_region (by kernel_rfl) (by kernel_rfl) ?_
            repeat (go_big_quiet_step (fail))
            go_big_quiet_step (exact lat_call (HCm _))
            repeat (go_big_quiet_step (fail))
            refine wpQuiet_nil ?_
            intro w3 hw'
            obtain ⟨nW, rfl⟩ := hw'
            have hb3 := hideA nW.low
            generalize nW.val = w3 at *
            clear q0 q1 q2 q3 q4 q5 q6 hne HCm
            go_wp2_with fail
            go_meet
            case rel => exact ⟨by show _ = _; rw [Hw.out, HB.out], hb3⟩
        case rest =>
          obtain ⟨hc, hb6⟩ := hcut
          have oc6 := cell_b oc hb6.out
          have y6 := cell_b y3 hb6.out
          have Hxs6 := hideA (hxs.out.below hb6.out)
          have Hbr6 := hideA (bstep hbr.out hb6.out)
          have hc' := hc.out
          have hrg := byC_range (whereV q.vars q.order) false row x
          have hrd := byC_range (whereV q.vars q.order) q.down row x
          have hnw := neg_wrap hrg
          have hdn := hideA (byC_down (whereV q.vars q.order) row x)
          clear oc y3 hxs hbr hc hb6
          generalize hcv : byC (whereV q.vars q.order) false row x = c0 at *
          subst hc'
          generalize hgw : wc = w6 at *
          clear hgw
          go_upto_if 102 with fail
          go_cut [19] from 101 to 105 (fun c W' => Hid (c = .int .i64 (byC (whereV q.vars q.order) q.down row x)) ∧ Hid (W' = w6))
          case first =>
            cases hd : q.down
            · rw [hd] at y6
              have Hcv := hideA hcv
              clear hcv
              go_wp2_with fail
              go_meet
              case rel => exact ⟨by show _ = _; rw [hd, Hcv.out], rfl⟩
            · rw [hd] at y6
              have Hcv := hideA hcv
              clear hcv
              go_wp2_with fail
              go_meet
              case rel => exact ⟨by show _ = _; rw [hd, hdn.out], rfl⟩
          case rest =>
            obtain ⟨hc, hw⟩ := hcut
            have hc' := hc.out
            have hw' := hw.out
            subst hw'
            have HAh := hideA (show ltQ q row x = (decide (byC (whereV q.vars q.order) q.down row x < 0) || (decide (byC (whereV q.vars q.order) q.down row x = 0) && lessR row x)) from rfl)
            have HL6 := less_any rd xd rc xc row x wc (HR.out.below Hbr6.out) Hxs6.out hxl.out.symm (by omega)
            clear hc hw hcv hnw hrg hdn y6
            generalize byC (whereV q.vars q.order) q.down row x = cc at *
            generalize hlr : lessR row x = lr at *
            have HLr := hideA hlr
            subst hc'
            clear hlr
            go_wp2_with fail
            refine HL6.mono ?_
            rintro e w7 ⟨rfl, hb7⟩
            have Hb7 := hideA (bstep Hbr6.out hb7)
            clear HL6 hb7 oc6
            dsimp only
            rcases hrd with rfl | rfl | rfl
            · have hl := hideA (HNext.out (by rw [HAh.out]; rfl))
              go_wp2_with fail
              go_roundw
              case rel => exact ⟨m, by omega, rfl, hl, Hb7⟩
              case measure => simp [intOf]
            · cases lr
              · have hl := hideA (HStop.out (by rw [HAh.out]; rfl))
                go_wp2_with fail
                go_meet
                case rel => exact ⟨m + 1, by omega, rfl, hAft, hl, Hb7⟩
              · have hl := hideA (HNext.out (by rw [HAh.out]; rfl))
                go_wp2_with fail
                go_roundw
                case rel => exact ⟨m, by omega, rfl, hl, Hb7⟩
                case measure => simp [intOf]
            · have hl := hideA (HStop.out (by rw [HAh.out]; rfl))
              go_wp2_with fail
              go_meet
              case rel => exact ⟨m + 1, by omega, rfl, hAft, hl, Hb7⟩
      · obtain rfl : k = 0 := by omega
        have t1 : decide (((0 : Nat) : Int) > 0) = false := by decide
        go_wp2_with fail
        go_meet
        case rel => exact ⟨0, by omega, rfl, hAft, fun h => by omega, hbr⟩
  case rest =>
    obtain ⟨k, hk, rfl, hAft, hBef, hbw⟩ := hcut
    have Hmem := hideA (mem_at (ordQ q row.length) rfl HLn.out HSo.out hk hAft.out (fun h => hBef.out ⟨h, hk⟩))
    have Hins := hideA (ins_at (ordQ q row.length) HLn.out HSo.out hk hAft.out (fun h => hBef.out ⟨h, hk⟩))
    obtain ⟨y0, y1, y2, y3, y4, y5⟩ := HX.out.below hbw.out
    clear y0 y1 y2 y3 y5 hAft hBef
    generalize hgw : wc = w6 at *
    clear hgw
    go_upto_region 30 with fail
    go_cut [129] from 124 to 128 (fun v W' => ∃ tv : Bool, v = .bool tv ∧ Hid (tv = (q.dist && decide (0 < k))) ∧ Hid (W' = w6))
    case first =>
      cases hd : q.dist
      · rw [hd] at y4
        go_wp2_with fail
        go_meet
        case rel => exact ⟨false, rfl, by show _ = _; rw [hd]; rfl, rfl⟩
      · rw [hd] at y4
        by_cases h0 : 0 < k
        · have t1 : decide ((k : Int) > 0) = true := decide_eq_true (by omega)
          go_wp2_with fail
          go_meet
          case rel => exact ⟨true, rfl, by show _ = _; rw [hd, decide_eq_true h0]; rfl, rfl⟩
        · have t1 : decide ((k : Int) > 0) = false := decide_eq_false (by omega)
          go_wp2_with fail
          go_meet
          case rel => exact ⟨false, rfl, by show _ = _; rw [hd, decide_eq_false h0]; rfl, rfl⟩
    case rest =>
    obtain ⟨tv, rfl, htv, hw⟩ := hcut
    have hw' := hw.out
    clear hw y4
    generalize hgw : wc = w7 at *
    clear hgw
    subst hw'
    go_upto_if 129 with fail
    go_cut [21, 22] from 130 to 150 (fun _ _ W' => Hid (¬ (q.dist = true ∧ row ∈ L)) ∧ Hid (RowKit.Below w7.heap.size w7 W'))
    case first =>
      cases tv
      · have hno := hideA (show ¬ (q.dist = true ∧ row ∈ L) from fun h => (by
          obtain ⟨h9, _⟩ := Hmem.out.1 h.2
          have := htv.out
          rw [h.1, decide_eq_true h9] at this
          cases this))
        go_wp2_with fail
        go_meet
        case rel => exact ⟨hno, RowKit.Below.refl _ _⟩
      · have htv' := htv.out.symm
        rw [Bool.and_eq_true] at htv'
        obtain ⟨hd, hk9⟩ := htv'
        have h0 : 0 < k := of_decide_eq_true hk9
        clear hk9 htv
        obtain ⟨m, rfl⟩ : ∃ m, k = m + 1 := ⟨k - 1, by omega⟩
        have hml : m < L.length := by omega
        have t1 : decide (((m + 1 : Nat) : Int) > 0) = true := decide_eq_true (by omega)
        obtain ⟨xd, xc, hux, hxs0⟩ := HC.out.2 m hml (by rw [HC.out.1]; exact hml)
        have hmu : m < us.length := by rw [HC.out.1]; exact hml
        obtain ⟨ob, oo, rfl, hcs⟩ := HA.out (fun e => by rw [e] at hmu; cases hmu)
        have oc := cell_b (hcs m _ (List.getElem?_eq_getElem hmu)) hbw.out
        rw [hux] at oc
        have hxs := hideA (hxs0.below hbw.out)
        have hxl := hideA (HLn.out L[m] (List.getElem_mem _))
        have hxr : L[m].length ≤ 1000 := by rw [hxl.out]; exact hn1
        have wm : IntKind.i64.wrap (((m + 1 : Nat) : Int) - 1) = (m : Int) := by simp [IntKind.wrap, IntKind.bits, IntKind.signed]; omega
        have m0 : (0 : Int) ≤ (m : Int) := by omega
        have m1 : (m : Int) < (L.length : Int) := by omega
        have Hsame := hideA (show row ∈ L ↔ L[m] = row from ⟨fun h => (Hmem.out.1 h).2, fun h => h ▸ List.getElem_mem _⟩)
        clear hcs hux hxs0 hmu h0
        generalize L[m] = x at Hsame hxs hxl oc hxr
        have HL1 := less_any rd xd rc xc row x w7 (HR.out.below hbw.out) hxs.out hxl.out.symm (by omega)
        have HL2 := hideA (fun W2 (hb : RowKit.Below w7.heap.size w7 W2) => less_any xd rd xc rc x row W2 (hxs.out.below hb) ((HR.out.below hbw.out).below hb) hxl.out (by omega))
        have Htot := hideA (fun h1 h2 => less_total row x hxl.out.symm h1 h2)
        have Hirr := hideA (fun (e : x = row) => (by subst e; exact ⟨less_irr x, less_irr x⟩ : lessR row x = false ∧ lessR x row = false))
        generalize lessR row x = l1 at *
        generalize lessR x row = l2 at *
        go_wp2_with fail
        refine HL1.mono ?_
        rintro e w8 ⟨rfl, hb7⟩
        have oc7 := cell_b oc hb7
        have HL3 := HL2.out w8 hb7
        have Hb7 := hideA hb7
        clear HL1 HL2 oc hb7
        dsimp only
        go_wp2_with fail
        refine HL3.mono ?_
        rintro e w9 ⟨rfl, hb8⟩
        have Hb8 := hideA (bstep Hb7.out hb8)
        clear HL3 oc7 hb8
        dsimp only
        cases l1
        · cases l2
          · have hmem : row ∈ L := Hsame.out.2 (Htot.out rfl rfl).symm
            have hput : putR (ltQ q) q.dist L row = L := by unfold putR; rw [if_pos ⟨hd, hmem⟩]
            have HQ3 := hideA (bstep hbw.out Hb8.out)
            have HA8 := hideA (HA.out.below HQ3.out)
            have HC8 := hideA (HC.out.below HQ3.out)
            have Hput := hideA hput
            rw [hput] at HQ
            clear hput
            go_wp2_with fail
            exact HQ.out (.exit 3) _ _ _ _ _ _ _ _ _ _ _ _ _ _ _ _ _ _ _ _ _ _ _ _ _ _ _ _ _ _ _ _ _ _ _ _ _ _ _ _ _ _ _ _ _ _ _ _ _ _ _ _ _ _ _ _ _ _ _ _ _ _ _ _ _ _ _ _ _ _ _ _ _ _ _ _ _ _ _ _ _ _ _ _ _ _ _ _ us _ (Or.inr rfl) HA8.out HC8.out Hco.out Hz.out HQ3.out
          · have hno := hideA (show ¬ (q.dist = true ∧ row ∈ L) from fun h => (by have := (Hirr.out (Hsame.out.1 h.2)).2; cases this))
            go_wp2_with fail
            go_meet
            case rel => exact ⟨hno, Hb8⟩
        · have hno := hideA (show ¬ (q.dist = true ∧ row ∈ L) from fun h => (by have := (Hirr.out (Hsame.out.1 h.2)).1; cases this))
          cases l2
          · go_wp2_with fail
            go_meet
            case rel => exact ⟨hno, Hb8⟩
          · go_wp2_with fail
            go_meet
            case rel => exact ⟨hno, Hb8⟩
    case rest =>
      obtain ⟨hno, hb9⟩ := hcut
      have Hb9 := hideA (bstep hbw.out hb9.out)
      have hput : putR (ltQ q) q.dist L row = L.take k ++ row :: L.drop k := by unfold putR; rw [if_neg hno.out, Hins.out]
      have hlen : (L.take k ++ row :: L.drop k).length = L.length + 1 := by simp only [List.length_append, List.length_take, List.length_cons, List.length_drop]; omega
      rw [hput, hlen] at HQ
      clear hput hlen
      refine go_on (by assumption) ?_
      refine rsApp _ _ _ _ _ _ _ _ _ _ _ _ _ _ _ _ _ _ _ _ _ _ _ _ _ _ _ _ _ _ _ _ _ _ _ _ _ _ _ _ _ _ _ _ _ _ _ _ _ _ _ _ _ _ _ _ _ _ _ _ _ _ _ _ _ _ _ _ _ _ _ _ _ _ _ _ _ _ _ _ _ _ _ _ _ _ _ _ _ _ _ _ _ _ _ _ _ _ _ _ _ _ _ _ _ _ _ _ _ _ _ _ _ _ _ _ _ _ _ _ _ _ _ _ _ _ _ _ _ _ _ _ _ _ _ _ _ _ _ _ _ _ _ _ _ _ _ _ _ _ _ _ _ _ _ _ _ _ _ _ _ _ _ _ _ _ _ _ _ _ _ _ _ _ _ _ _ ao rd co rc k us L row wc (HA.out.below Hb9.out) (HC.out.below Hb9.out) Hco.out Hz.out (HR.out.below Hb9.out) hk h5 ?_
      intros
      rename_i ao' co' us' W' g1 g2 g3 g4 g5
      exact HQ.out .normal _ _ _ _ _ _ _ _ _ _ _ _ _ _ _ _ _ _ _ _ _ _ _ _ _ _ _ _ _ _ _ _ _ _ _ _ _ _ _ _ _ _ _ _ _ _ _ _ _ _ _ _ _ _ _ _ _ _ _ _ _ _ _ _ _ _ _ _ _ _ _ _ _ _ _ _ _ _ _ _ _ _ _ _ _ _ ao' co' us' W' (Or.inl rfl) g1 g2 g3 (Or.inr g4) (bstep Hb9.out g5)
end Go.Proofs.YtbacenhgedopjaaGreatDoor
