import Derived.Test.YtcdbcoaiadipjaaGreatDoorMA0x4
import Derived.OwnWalk
import Derived.Laws.Rows
import Derived.Deep.RegionHeld3
import Derived.RegionTactic
import Derived.Test.YtcdbcoaiadipjaaGreatDoorMA0x3
import Derived.Test.YtcdbcoaiadipjaaGreatDoorMA0x1
import Derived.Maps.RangeWalk
import Derived.Laws.MakeOwn
import Derived.Laws.OwnMore
import Derived.Deep.WholeRow
import Derived.Deep.DeepCutAuto
import Derived.Deep.CutBlock

/- match.Vars: what is wrong with a pattern, and which variables it has. -/
namespace Go.Proofs.YtcdbcoaiadipjaaGreatDoor
open Go Go.RowKit Go.Proofs
set_option synthInstance.maxSize 1000

attribute [local go_sem] eql_errV neq_errV guard_errV

def slotK (p : Pt) (k : Nat) : Sl := if k = 0 then p.1 else if k = 1 then p.2.1 else p.2.2
def vK (p : Pt) (k : Nat) : List (List UInt8) := if k = 0 then [] else if k = 1 then addV [] p.1 else if k = 2 then addV (addV [] p.1) p.2.1 else varsL p
def restN (p : Pt) (k : Nat) : Int := if k = 0 then varsN p else if k = 1 then (if slotN p.2.1 = 0 then slotN p.2.2 else slotN p.2.1) else if k = 2 then slotN p.2.2 else 0
theorem restN_step (p : Pt) (k : Nat) (hk : k < 3) : restN p k = if slotN (slotK p k) = 0 then restN p (k + 1) else slotN (slotK p k) := by
  rcases (by omega : k = 0 ∨ k = 1 ∨ k = 2) with rfl | rfl | rfl
  · simp [restN, slotK, varsN]
  · simp [restN, slotK]
  · simp [restN, slotK]
theorem vK_step (p : Pt) (k : Nat) (hk : k < 3) : vK p (k + 1) = addV (vK p k) (slotK p k) := by
  rcases (by omega : k = 0 ∨ k = 1 ∨ k = 2) with rfl | rfl | rfl
  · simp [vK, slotK]
  · simp [vK, slotK]
  · simp [vK, slotK, varsL]
theorem addV_len (l : List (List UInt8)) (s : Sl) : (addV l s).length ≤ l.length + 1 := by
  unfold addV
  repeat' split
  all_goals simp
theorem vK_len (p : Pt) (k : Nat) (hk : k ≤ 3) : (vK p k).length ≤ k := by
  have h0 : (vK p 0).length ≤ 0 := by simp [vK]
  have h1 := addV_len (vK p 0) (slotK p 0)
  have h2 := addV_len (vK p 1) (slotK p 1)
  have h3 := addV_len (vK p 2) (slotK p 2)
  rw [← vK_step p 0 (by omega)] at h1
  rw [← vK_step p 1 (by omega)] at h2
  rw [← vK_step p 2 (by omega)] at h3
  have g1 : (vK p 1).length ≤ (vK p 0).length + 1 := h1
  have g2 : (vK p 2).length ≤ (vK p 1).length + 1 := h2
  have g3 : (vK p 3).length ≤ (vK p 2).length + 1 := h3
  clear h1 h2 h3
  rcases (by omega : k = 0 ∨ k = 1 ∨ k = 2 ∨ k = 3) with rfl | rfl | rfl | rfl <;> omega
theorem fit_slotK {p : Pt} (h : fitPt p) (k : Nat) : fitSl (slotK p k) := by
  unfold slotK
  repeat' split
  · exact h.1
  · exact h.2.1
  · exact h.2.2

theorem indexSl (p : Pt) (k : Nat) (hk : k < 3) (w : World) : (Instr.index 116 (valPt p) (.int .i64 k)).run Tryz.prog w = .ok (valSl (slotK p k)) w := by
  rcases (by omega : k = 0 ∨ k = 1 ∨ k = 2) with rfl | rfl | rfl <;> kernel_rfl

theorem infoStrV : (Tryz.prog.info? 9).map (fun i => (i.zero, i.size, i.bytes)) = some (some (.string ByteArray.empty), 1, 16) := by kernel_rfl

theorem ownsRow_belowV {W W' : World} {base : Nat} {e : TypeId} {sz : Nat} {v : Value} {n : Nat} {cs : List Value} (h : W.ownsRow base e sz v n cs) (hb : RowKit.Below W.heap.size W W') : W'.ownsRow base e sz v n cs :=
  h.kept (row := none) ⟨hb.os, hb.tape, hb.output, hb.size, fun i hi _ => hb.block i hi⟩ (Classical.em _)

/-- what Vars tells -/
def VarsAns (p : Pt) (m : List (List UInt8)) : Prop := m = if varsN p = 0 then varsL p else []

set_option maxHeartbeats 4000000 in
set_option maxRecDepth 100000 in
theorem VarsO_any (p : Pt) (w : World) (hp : fitPt p) :
    Calls Tryz.prog 41 #[valPt p] w fun e w' => Below w.heap.size w w' ∧ ∃ m ad cap, e = .returned (.tuple #[.slice ad m.length cap, errV (varsN p)]) ∧ w'.ownsRow w.heap.size 9 1 (.slice ad m.length cap) m.length (m.map encV) ∧ VarsAns p m := by
  have HS := slotsOf_any p
  have Hp : Hid (fitPt p) := hp
  obtain ⟨i0, hi0, hz⟩ := Option.map_eq_some_iff.1 infoStrV
  simp only [Prod.mk.injEq] at hz
  obtain ⟨hz0, hz1, hz2⟩ := hz
  clear hp
  have HX : Hid (∀ k : Nat, k < 3 → ∀ W, (Instr.index 116 (valPt p) (.int .i64 k)).run Tryz.prog W = .ok (valSl (slotK p k)) W) := indexSl p
  unfold valPt at HS HX ⊢
  have hA : Hid (∀ m, (m = if varsN p = 0 then varsL p else []) → VarsAns p m) := fun m h => h
  generalize VarsAns p = A at *
  go_enter Tryz.func41, Tryz.ntmps41
  go_wp2_with fail
  refine (HS _).mono ?_
  rintro e w1 ⟨rfl, hb1⟩
  have hB1 := bstep (balloc _ _) hb1
  go_wp2_with fail
  go_loopw [4, 10] (fun v i wr => ∃ k : Nat, k ≤ 3 ∧ i = .int .i64 k ∧ Hid (wr.ownsRow w.heap.size 9 1 v (vK p k).length ((vK p k).map encV)) ∧ Hid (varsN p = restN p k) ∧ Below w.heap.size w wr) (fun _ i wr => 3 - (intOf i).toNat)
  case atStart => exact ⟨0, by omega, rfl, World.ownsRow_nil _ _ _ _, rfl, hB1⟩
  case round =>
    obtain ⟨k, hk, rfl, hown, hrest, hbr⟩ := hrel
    by_cases hlt : k < 3
    · have hix := HX.out k hlt
      have hst : Hid _ := restN_step p k hlt
      have hvs : Hid _ := vK_step p k hlt
      have hvl : (vK p k).length ≤ 3 := Nat.le_trans (vK_len p k hk) hk
      have hfs : Hid (fitSl (slotK p k)) := fit_slotK Hp.out k
      have HF := fun W => slotFault_any (slotK p k) W hfs.out
      have i1 : (k : Int) < 3 := by omega
      have hzr := hbr.size
      generalize slotK p k = s at *
      obtain ⟨v, kk, S, L⟩ := s
      have HV := fun W => isVar_any v kk S L W
      unfold valSl at HF hix
      dsimp only at HF hix
      cases hc : (slotN (v, kk, S, L) == 0)
      · go_wp2_with fail
        refine (HF _).mono ?_
        rintro e w2 ⟨rfl, hb2⟩
        go_wp2_with fail
        have hne : varsN p = slotN (v, kk, S, L) := by rw [hrest.out, hst.out, if_neg (by simpa using hc)]
        simp at hc
        exact bodyPost_ret (v := .tuple #[.slice none 0 0, errV (slotN (v, kk, S, L))]) (by simp [results, Tryz.results41, go_sem]) rfl ⟨bstep (bstep hbr (balloc _ _)) hb2, [], none, 0, by rw [hne]; rfl, World.ownsRow_nil _ _ _ _, hA.out _ (by rw [hne, if_neg hc])⟩
      · have hr2 : Hid (varsN p = restN p (k + 1)) := by show _ = _; rw [hrest.out, hst.out, if_pos (by simpa using hc)]
        clear hst hrest hfs
        cases hve : v.isEmpty
        rotate_left
        · obtain rfl : v = [] := by simpa using hve
          have hv2 : Hid (vK p (k + 1) = vK p k) := hvs.out
          rw [show (!([] : List UInt8).isEmpty) = false from rfl] at HV
          go_wp2_with fail
          refine (HF _).mono ?_
          rintro e w2 ⟨rfl, hb2⟩
          obtain ⟨a0, a1, a2, a3, hz⟩ := fourbox hb2
          go_wp2_with fail
          refine (HV _).mono ?_
          rintro e w3 ⟨rfl, hb3⟩
          go_wp2_with fail
          go_roundw
          case rel =>
            refine ⟨k + 1, by omega, by go_num, ?_, hr2, bstep (bstep (bstep hbr (balloc _ _)) hb2) hb3⟩
            show World.ownsRow _ _ _ _ _ _ _
            rw [hv2.out]
            exact ownsRow_belowV (ownsRow_belowV (hown.out.alloc _) hb2) hb3
          case measure => simp [intOf]; omega
        · have hvn : Hid (¬ v = []) := by show ¬ v = []; simpa using hve
          rw [hve, show (!false) = true from rfl] at HV
          clear hve
          have hvs2 : Hid (vK p (k + 1) = if v ∈ vK p k then vK p k else vK p k ++ [v]) := by
            show _ = _
            rw [hvs.out]
            exact if_neg hvn.out
          obtain ⟨ad, cap, rfl, hsl0⟩ := own_v hown.out
          have hsl : Hid (SlV wr ad (vK p k)) := hsl0
          have HC := fun W h => ContainsV_any ad cap (vK p k) v W h (by omega)
          clear hvs hsl0
          generalize ht : vK p (k + 1) = t1 at *
          have Ht : Hid _ := ht
          generalize vK p k = t0 at *
          clear ht
          cases hd : decide (v ∈ t0)
          · have hv2 : Hid (t1 = t0 ++ [v]) := by show _ = _; rw [hvs2.out, if_neg (by simpa using hd)]
            rw [hd] at HC
            go_wp2_with fail
            refine (HF _).mono ?_
            rintro e w2 ⟨rfl, hb2⟩
            obtain ⟨a0, a1, a2, a3, hz⟩ := fourbox hb2
            go_wp2_with fail
            refine (HV _).mono ?_
            rintro e w3 ⟨rfl, hb3⟩
            have b0 := (hb3.cell (World.block_lt_of_cell? w2 _ a0)).trans a0
            have hB3 := bstep (bstep (bstep hbr (balloc _ _)) hb2) hb3
            have hz3 := hB3.size
            have hrow3 : Hid (w3.ownsRow w.heap.size 9 1 _ t0.length (t0.map encV)) := ownsRow_belowV (ownsRow_belowV (hown.out.alloc _) hb2) hb3
            clear a0 a1 a2 a3
            go_wp2_with fail
            refine (HC _ (((hsl.out.below (balloc _ _)).below hb2).below hb3)).mono ?_
            rintro e w4 ⟨rfl, rfl⟩
            clear hown hsl
            go_wp2_with (at_builtin; refine wpList_append_own _ rfl _ _ 23 rfl w.heap.size 9 i0 (.string ByteArray.empty) 1 16 Tryz.underlying23 hi0 hz0 hz1 hz2 rfl (by decide) _ _ _ rfl (hrow3.out.alloc _) ⟨w4.heap.size, 0, none⟩ 1 1 [encV v] rfl rfl ?c1 ?c2 ?c3 ?c4 ?c5 ?_)
            case c1 =>
              intro j u hj
              have h1 : j < 1 := (List.getElem?_eq_some_iff.1 hj).1
              obtain rfl : j = 0 := by omega
              simp [encV] at hj
              subst hj
              rw [Addr.add_lit]
              go_simp
            case c2 => intro u hu; rw [List.mem_singleton.1 hu]; rfl
            case c3 => unfold maxLen; omega
            case c4 => omega
            case c5 => simp; omega
            intro v' w9 hown' hgrow _
            have hbel := (hB3.alloc hz3 (.cells #[encV v] 9)).grown hgrow (by simp; omega) (fun k hk => (hrow3.out.lt k hk).1)
            go_wp2_with fail
            go_roundw
            case rel =>
              refine ⟨k + 1, by omega, by go_num, ?_, hr2, hbel⟩
              show World.ownsRow _ _ _ _ _ _ _
              rw [Ht.out, hv2.out, List.length_append, List.map_append]
              exact hown'
            case measure => simp [intOf]; omega
          · have hv2 : Hid (t1 = t0) := by show _ = _; rw [hvs2.out, if_pos (by simpa using hd)]
            rw [hd] at HC
            go_wp2_with fail
            refine (HF _).mono ?_
            rintro e w2 ⟨rfl, hb2⟩
            obtain ⟨a0, a1, a2, a3, hz⟩ := fourbox hb2
            go_wp2_with fail
            refine (HV _).mono ?_
            rintro e w3 ⟨rfl, hb3⟩
            have b0 := (hb3.cell (World.block_lt_of_cell? w2 _ a0)).trans a0
            clear a0 a1 a2 a3
            go_wp2_with fail
            refine (HC _ (((hsl.out.below (balloc _ _)).below hb2).below hb3)).mono ?_
            rintro e w' ⟨rfl, rfl⟩
            go_wp2_with fail
            go_roundw
            case rel =>
              refine ⟨k + 1, by omega, by go_num, ?_, hr2, bstep (bstep (bstep hbr (balloc _ _)) hb2) hb3⟩
              show World.ownsRow _ _ _ _ _ _ _
              rw [Ht.out, hv2.out]
              exact ownsRow_belowV (ownsRow_belowV (hown.out.alloc _) hb2) hb3
            case measure => simp [intOf]; omega
    · obtain rfl : k = 3 := by omega
      obtain ⟨ad, cap, rfl, hsl⟩ := own_v hown.out
      have h0 : varsN p = 0 := hrest.out
      have hvw : vK p 3 = varsL p := rfl
      have how := hown.out
      rw [hvw] at how
      have Hsl : Hid (wr.ownsRow w.heap.size 9 1 (.slice ad (varsL p).length cap) (varsL p).length ((varsL p).map encV)) := how
      have H0 : Hid (varsN p = 0) := h0
      rw [hvw]
      clear hown hrest hvw hsl h0 how
      go_wp2_with fail
      exact bodyPost_ret (v := .tuple #[.slice ad (varsL p).length cap, .nilIface]) (by simp [results, Tryz.results41, go_sem]) rfl ⟨hbr, _, ad, cap, by rw [H0.out]; rfl, Hsl.out, hA.out _ (by rw [H0.out]; rfl)⟩
theorem Vars_any (p : Pt) (w : World) (hp : fitPt p) :
    Calls Tryz.prog 41 #[valPt p] w fun e w' => Below w.heap.size w w' ∧ ∃ m ad cap, e = .returned (.tuple #[.slice ad m.length cap, errV (varsN p)]) ∧ SlV w' ad m ∧ VarsAns p m := by
  refine (VarsO_any p w hp).mono ?_
  rintro e w' ⟨hb, m, ad, cap, he, ho, ha⟩
  obtain ⟨ad', cap', e2, hs⟩ := own_v ho
  injection e2 with e3 _ _
  subst e3
  exact ⟨hb, m, ad, cap, he, hs, ha⟩
end Go.Proofs.YtcdbcoaiadipjaaGreatDoor

/- match.asker: the question whether a triple fits a pattern. -/
namespace Go.Proofs.YtcdbcoaiadipjaaGreatDoor
open Go Go.RowKit Go.Proofs Go.Maps
set_option synthInstance.maxSize 1000

/-! ### the question, slot by slot -/
def termK (t : Tr) (k : Nat) : Tm := if k = 0 then t.1 else if k = 1 then t.2.1 else t.2.2
def stepE (E : Env) (s : Sl) (x : Tm) : Env := if s.1 = [] then E else putEn E s.1 x
def wantE (E : Env) (s : Sl) (x : Tm) : Tm := if s.1 = [] then s.2 else getEn E s.1 x
def envK (p : Pt) (t : Tr) : Nat → Env
  | 0 => []
  | k + 1 => stepE (envK p t k) (slotK p k) (termK t k)
def fitK (p : Pt) (t : Tr) (k : Nat) : Bool := decide (termK t k = wantE (envK p t k) (slotK p k) (termK t k))
def restF (p : Pt) (t : Tr) (k : Nat) : Bool := if k = 0 then fitK p t 0 && (fitK p t 1 && fitK p t 2) else if k = 1 then fitK p t 1 && fitK p t 2 else if k = 2 then fitK p t 2 else true
theorem restF_step (p : Pt) (t : Tr) (k : Nat) (hk : k < 3) : restF p t k = (fitK p t k && restF p t (k + 1)) := by
  rcases (by omega : k = 0 ∨ k = 1 ∨ k = 2) with rfl | rfl | rfl <;> simp [restF]
theorem putE_len (E : Env) (v : List UInt8) (x : Tm) : (putEn E v x).length ≤ E.length + 1 := by
  unfold putEn
  split <;> simp
theorem envK_len (p : Pt) (t : Tr) : ∀ k, (envK p t k).length ≤ k
  | 0 => by simp [envK]
  | k + 1 => by
    have := envK_len p t k
    have h2 := putE_len (envK p t k) (slotK p k).1 (termK t k)
    unfold envK stepE
    split <;> omega

theorem fits_env (p : Pt) (t : Tr) : restF p t 0 = fitsB p t := by
  obtain ⟨⟨v0, a0⟩, ⟨v1, a1⟩, ⟨v2, a2⟩⟩ := p
  obtain ⟨x0, x1, x2⟩ := t
  have l1 : ∀ (a b : List UInt8) (x : Tm), lookE [(b, x)] a = if a = b then some x else none := fun a b x => by
    unfold lookE
    simp only [List.lookup]
    by_cases e : a = b
    · subst e; simp
    · rw [if_neg e, show (a == b) = false by simpa using e]
  have l2 : ∀ (a b c : List UInt8) (x y : Tm), lookE [(b, x), (c, y)] a = if a = b then some x else if a = c then some y else none := fun a b c x y => by
    unfold lookE
    simp only [List.lookup]
    by_cases e : a = b
    · subst e; simp
    · rw [if_neg e, show (a == b) = false by simpa using e]
      by_cases e2 : a = c
      · subst e2; simp
      · rw [if_neg e2, show (a == c) = false by simpa using e2]
  have l0 : ∀ a : List UInt8, lookE [] a = none := fun a => rfl
  simp only [restF, fitK, envK, slotK, termK, fitsB, wantE, stepE, getEn, putEn, if_true]
  by_cases h0 : v0 = []
  · subst h0
    by_cases h1 : v1 = []
    · subst h1
      by_cases h2 : v2 = []
      · subst h2; simp
      · simp [h2, l0]
    · by_cases h2 : v2 = []
      · subst h2; simp [h1, l0]
      · by_cases e : v2 = v1
        · subst e; simp [h1, l0, l1]
        · simp [h1, h2, e, l0, l1]
  · by_cases h1 : v1 = []
    · subst h1
      by_cases h2 : v2 = []
      · subst h2; simp [h0, l0]
      · by_cases e : v2 = v0
        · subst e; simp [h0, l0, l1]
        · simp [h0, h2, e, l0, l1]
    · by_cases e1 : v1 = v0
      · subst e1
        by_cases h2 : v2 = []
        · subst h2; simp [h1, l0, l1]
        · by_cases e : v2 = v1
          · subst e; simp [h1, l0, l1]
          · simp [h1, h2, e, l0, l1]
      · by_cases h2 : v2 = []
        · subst h2; simp [h0, h1, e1, l0, l1]
        · by_cases e : v2 = v0
          · subst e; simp [h0, h1, e1, l0, l1, l2]
          · by_cases e2 : v2 = v1
            · subst e2; simp [h0, h1, e1, l0, l1, l2]
            · simp [h0, h1, h2, e, e1, e2, l0, l1, l2]
end Go.Proofs.YtcdbcoaiadipjaaGreatDoor

/- match.asker and its closure: the walk. -/
namespace Go.Proofs.YtcdbcoaiadipjaaGreatDoor
open Go Go.RowKit Go.Proofs Go.Maps
set_option synthInstance.maxSize 1000

attribute [local go_sem ↓] neqTerm

/-- at a block lies the pattern -/
def PatAt (w : World) (bx : Nat) (p : Pt) : Prop := ∀ j v, (encPt p)[j]? = some v → w.cell? ⟨bx, j, none⟩ = some v
theorem PatAt.lt {w : World} {bx : Nat} {p : Pt} (h : PatAt w bx p) : bx < w.heap.size := World.block_lt_of_cell? w _ (h 0 _ rfl)
theorem PatAt.far {w w' : World} {bx B : Nat} {p : Pt} (h : PatAt w bx p) (hb : Below B w w') (hB : bx < B) : PatAt w' bx p := fun j v hv => (hb.cell (by exact hB)).trans (h j v hv)
theorem PatAt.below {w w' : World} {bx : Nat} {p : Pt} (h : PatAt w bx p) (hb : Below w.heap.size w w') : PatAt w' bx p := h.far hb h.lt
theorem PatAt.at {w : World} {bx : Nat} {p : Pt} (h : PatAt w bx p) (k : Nat) (hk : k < 3) :
    w.cell? ⟨bx, k * 4, none⟩ = some (.string ⟨(slotK p k).1.toArray⟩) ∧ w.cell? ⟨bx, k * 4 + 1, none⟩ = some (.int .i64 (slotK p k).2.1) ∧ w.cell? ⟨bx, k * 4 + 2, none⟩ = some (.string ⟨(slotK p k).2.2.1.toArray⟩) ∧ w.cell? ⟨bx, k * 4 + 3, none⟩ = some (.string ⟨(slotK p k).2.2.2.toArray⟩) := by
  rcases (by omega : k = 0 ∨ k = 1 ∨ k = 2) with rfl | rfl | rfl
  all_goals exact ⟨h _ _ rfl, h _ _ rfl, h _ _ rfl, h _ _ rfl⟩

theorem indexTm (t : Tr) (k : Nat) (hk : k < 3) (w : World) : (Instr.index 142 (valTr t) (.int .i64 k)).run Tryz.prog w = .ok (.agg #[.int .i64 (termK t k).1, .string ⟨(termK t k).2.1.toArray⟩, .string ⟨(termK t k).2.2.toArray⟩]) w := by
  rcases (by omega : k = 0 ∨ k = 1 ∨ k = 2) with rfl | rfl | rfl <;> kernel_rfl
theorem makeBound (w : World) : (Instr.makeMap 79 none).run Tryz.prog w = .ok (.map (some w.heap.size)) (w.alloc (.map #[] 0)) := by kernel_rfl

theorem sixbox {w W : World} {T T' : TypeId} {a0 a1 a2 b0 b1 b2 : Value} (hb : Below ((w.alloc (.cells #[a0, a1, a2] T)).alloc (.cells #[b0, b1, b2] T')).heap.size ((w.alloc (.cells #[a0, a1, a2] T)).alloc (.cells #[b0, b1, b2] T')) W) :
    (W.cell? ⟨w.heap.size, 0, none⟩ = some a0 ∧ W.cell? ⟨w.heap.size, 1, none⟩ = some a1 ∧ W.cell? ⟨w.heap.size, 2, none⟩ = some a2) ∧ (W.cell? ⟨w.heap.size + 1, 0, none⟩ = some b0 ∧ W.cell? ⟨w.heap.size + 1, 1, none⟩ = some b1 ∧ W.cell? ⟨w.heap.size + 1, 2, none⟩ = some b2) ∧
    (W.frozen? ⟨w.heap.size + 1, 0, none⟩ = false ∧ W.frozen? ⟨w.heap.size + 1, 1, none⟩ = false ∧ W.frozen? ⟨w.heap.size + 1, 2, none⟩ = false) ∧ w.heap.size + 1 < W.heap.size := by
  obtain ⟨h, f⟩ := bcell hb
  have hs := hb.size
  refine ⟨⟨?_, ?_, ?_⟩, ⟨?_, ?_, ?_⟩, ⟨?_, ?_, ?_⟩, by simp at hs; omega⟩
  all_goals
    first
    | (rw [h _ _ (by simp; omega)]; go_simp)
    | (rw [f _ _ (by simp; omega)]; go_simp)
    | (rw [h _ _ (by simp)]; go_simp)
    | (rw [f _ _ (by simp)]; go_simp)

/-- what bind, and a store apart, leave of four cells -/
theorem keepB {W W' : World} {bm : Nat} {p0 p1 p2 p3 : Addr} {v0 v1 v2 v3 : Value} (h : W.cell? p0 = some v0 ∧ W.cell? p1 = some v1 ∧ W.cell? p2 = some v2 ∧ W.cell? p3 = some v3)
    (g : W.grownBy W' (some bm)) (n0 : p0.block ≠ bm) (n1 : p1.block ≠ bm) (n2 : p2.block ≠ bm) (n3 : p3.block ≠ bm) :
    W'.cell? p0 = some v0 ∧ W'.cell? p1 = some v1 ∧ W'.cell? p2 = some v2 ∧ W'.cell? p3 = some v3 := by
  have e : ∀ {p : Addr} {v : Value}, W.cell? p = some v → p.block ≠ bm → W'.cell? p = some v := fun {p v} hp hn => by
    have hb := g.block p.block (World.block_lt_of_cell? W _ hp) (fun e => hn (by simpa using e))
    exact (World.cell?_of_block (w := W) hb).trans hp
  exact ⟨e h.1 n0, e h.2.1 n1, e h.2.2.1 n2, e h.2.2.2 n3⟩
theorem keepS {W : World} {q p0 p1 p2 p3 : Addr} {u v0 v1 v2 v3 : Value} (h : W.cell? p0 = some v0 ∧ W.cell? p1 = some v1 ∧ W.cell? p2 = some v2 ∧ W.cell? p3 = some v3)
    (n0 : p0.block ≠ q.block) (n1 : p1.block ≠ q.block) (n2 : p2.block ≠ q.block) (n3 : p3.block ≠ q.block) :
    (W.setCell q u).cell? p0 = some v0 ∧ (W.setCell q u).cell? p1 = some v1 ∧ (W.setCell q u).cell? p2 = some v2 ∧ (W.setCell q u).cell? p3 = some v3 := by
  have e : ∀ {p : Addr} {v : Value}, W.cell? p = some v → p.block ≠ q.block → (W.setCell q u).cell? p = some v := fun {p v} hp hn => by
    rw [World.cell?_setCell_other W q p u (fun e => hn (by rw [e]))]
    exact hp
  exact ⟨e h.1 n0, e h.2.1 n1, e h.2.2.1 n2, e h.2.2.2 n3⟩

theorem put3 {W : World} {b : Nat} {a0 a1 a2 : Value} (u0 u1 u2 : Value) (h0 : W.cell? ⟨b, 0, none⟩ = some a0) (h1 : W.cell? ⟨b, 1, none⟩ = some a1) (h2 : W.cell? ⟨b, 2, none⟩ = some a2) :
    (((W.setCell ⟨b, 0, none⟩ u0).setCell ⟨b, 1, none⟩ u1).setCell ⟨b, 2, none⟩ u2).cell? ⟨b, 0, none⟩ = some u0 ∧ (((W.setCell ⟨b, 0, none⟩ u0).setCell ⟨b, 1, none⟩ u1).setCell ⟨b, 2, none⟩ u2).cell? ⟨b, 1, none⟩ = some u1 ∧ (((W.setCell ⟨b, 0, none⟩ u0).setCell ⟨b, 1, none⟩ u1).setCell ⟨b, 2, none⟩ u2).cell? ⟨b, 2, none⟩ = some u2 := by
  have o : ∀ (V : World) (i j : Nat) (u : Value), i ≠ j → (V.setCell ⟨b, i, none⟩ u).cell? ⟨b, j, none⟩ = V.cell? ⟨b, j, none⟩ := fun V i j u hne => World.cell?_setCell_other V _ _ u (fun e => hne (congrArg Addr.off e))
  refine ⟨?_, ?_, ?_⟩
  · rw [o _ 2 0 _ (by omega), o _ 1 0 _ (by omega), World.cell?_setCell_same W _ u0 h0]
  · rw [o _ 2 1 _ (by omega), World.cell?_setCell_same _ _ u1 ((o _ 0 1 _ (by omega)).trans h1)]
  · rw [World.cell?_setCell_same _ _ u2 ((o _ 1 2 _ (by omega)).trans ((o _ 0 2 _ (by omega)).trans h2))]

set_option maxHeartbeats 4000000 in
set_option maxRecDepth 100000 in
theorem fits_any (bx : Nat) (p : Pt) (t : Tr) (w : World) (h : PatAt w bx p) (hp : fitPt p) :
    Calls Tryz.prog 145 #[valTr t, .pointer (some ⟨bx, 0, none⟩)] w fun e w' => e = .returned (.bool (fitsB p t)) ∧ Below w.heap.size w w' := by
  have HT := termsOf_any t
  have Hp : Hid (fitPt p) := hp
  have hbx := h.lt
  have Ha : Hid (PatAt w bx p) := h
  have HX : Hid (∀ k : Nat, k < 3 → ∀ W, (Instr.index 142 (valTr t) (.int .i64 k)).run Tryz.prog W = .ok (.agg #[.int .i64 (termK t k).1, .string ⟨(termK t k).2.1.toArray⟩, .string ⟨(termK t k).2.2.toArray⟩]) W) := indexTm t
  have hmk := makeBound
  have fin : Hid (fitsB p t = restF p t 0) := (fits_env p t).symm
  clear hp h
  generalize fitsB p t = ans at *
  unfold valTr at HT HX ⊢
  go_enter Tryz.func145, Tryz.ntmps145
  go_wp2_with fail
  refine (HT _).mono ?_
  rintro e w1 ⟨rfl, hg1⟩
  have hb1 := hg1.below
  have hB1 : Below w.heap.size w w1 := bstep (bstep (balloc _ _) (balloc _ _)) hb1
  have hbd1 : Hid (BoundAt w1 (w.heap.size + 1) []) := by
    show BoundAt _ _ _
    have := (boundAt_made (w.alloc (.cells (encTr t).toArray 58))).below hb1
    simpa using this
  go_wp2_with fail
  go_loopw [11] (fun i wr => ∃ k : Nat, k ≤ 3 ∧ i = .int .i64 k ∧ Hid (BoundAt wr (w.heap.size + 1) (envK p t k)) ∧ Hid (ans = restF p t k) ∧ Below w.heap.size w wr) (fun i wr => 3 - (intOf i).toNat)
  case atStart => exact ⟨0, by omega, rfl, hbd1.out, fin.out, hB1⟩
  case round =>
    clear hbd1 hB1 hb1 hg1 HT
    obtain ⟨k, hk, rfl, hbd, hrest, hbr⟩ := hrel
    by_cases hlt : k < 3
    · have hix := HX.out k hlt
      have i1 : (k : Int) < 3 := by omega
      have i0 : (0 : Int) ≤ (k : Int) := by omega
      have hst : Hid _ := restF_step p t k hlt
      have hfk : Hid (fitK p t k = decide (termK t k = wantE (envK p t k) (slotK p k) (termK t k))) := rfl
      have hen : Hid (envK p t (k + 1) = stepE (envK p t k) (slotK p k) (termK t k)) := rfl
      have hel : (envK p t k).length ≤ 1000 := by have := envK_len p t k; omega
      have hfs : Hid (fitSl (slotK p k)) := fit_slotK Hp.out k
      have hzr := hbr.size
      have hbm := hbd.out.lt
      have hbxr : bx < wr.heap.size := by omega
      have Har : Hid (PatAt wr bx p) := Ha.out.far hbr hbx
      obtain ⟨c0, c1, c2, c3⟩ := Har.out.at k hlt
      generalize hEE : envK p t (k + 1) = E' at *
      have HEE : Hid _ := hEE
      clear hEE
      generalize envK p t k = E at *
      generalize fitK p t k = fk at *
      generalize slotK p k = s at *
      generalize termK t k = x at *
      obtain ⟨v, kk, S, L⟩ := s
      have HV := fun W => isVar_any v kk S L W
      dsimp only at c0 c1 c2 c3
      have c4 : wr.cell? ⟨bx, k * 4 + 1 + 1, none⟩ = some (.string ⟨S.toArray⟩) := c2
      have c5 : wr.cell? ⟨bx, k * 4 + 1 + 2, none⟩ = some (.string ⟨L.toArray⟩) := c3
      cases hve : v.isEmpty
      rotate_left
      · obtain rfl : v = [] := by simpa using hve
        rw [show (!([] : List UInt8).isEmpty) = false from rfl] at HV
        have hf2 : Hid (fk = eqTB x.1 x.2.1 x.2.2 kk S L) := by
          show _ = _
          rw [hfk.out, show eqTB x.1 x.2.1 x.2.2 kk S L = decide (x = (kk, S, L)) from eqTB_tm x (kk, S, L)]
          rfl
        have he2 : Hid (E' = E) := hen.out
        clear hve hfk hen
        cases hq : eqTB x.1 x.2.1 x.2.2 kk S L
        · go_wp2_with fail
          refine (HV _).mono ?_
          rintro e w2 ⟨rfl, hb2⟩
          obtain ⟨⟨a0, a1, a2⟩, ⟨b0, b1, b2⟩, _, hz2⟩ := sixbox hb2
          go_wp2_with fail
          go_ret
          exact ⟨ret_bool (by rw [hrest.out, hst.out, hf2.out, hq]; rfl), bstep (bstep (bstep hbr (balloc _ _)) (balloc _ _)) hb2⟩
        · go_wp2_with fail
          refine (HV _).mono ?_
          rintro e w2 ⟨rfl, hb2⟩
          obtain ⟨⟨a0, a1, a2⟩, ⟨b0, b1, b2⟩, _, hz2⟩ := sixbox hb2
          go_wp2_with fail
          go_roundw
          case rel =>
            refine ⟨k + 1, by omega, by go_num, ?_, ?_, bstep (bstep (bstep hbr (balloc _ _)) (balloc _ _)) hb2⟩
            · show BoundAt _ _ _
              rw [HEE.out, he2.out]
              exact ((hbd.out.below (balloc _ _)).below (balloc _ _)).below hb2
            · show _ = _
              rw [hrest.out, hst.out, hf2.out, hq]; rfl
          case measure => simp [intOf]; omega
      · have hvn : ¬ v = [] := by simpa using hve
        rw [hve, show (!false) = true from rfl] at HV
        have hvl : v.length ≤ maxLen := hfs.out.1
        have hf2 : Hid (fk = eqTB x.1 x.2.1 x.2.2 (getEn E v x).1 (getEn E v x).2.1 (getEn E v x).2.2) := by
          show _ = _
          rw [hfk.out, eqTB_tm]
          unfold wantE
          rw [if_neg hvn]
        have he2 : Hid (E' = putEn E v x) := by show _ = _; rw [hen.out]; exact if_neg hvn
        have HB := fun W (hW : BoundAt W (w.heap.size + 1) E) => bind_any (w.heap.size + 1) E v x W hW hvl hel
        generalize getEn E v x = y at *
        generalize putEn E v x = E2 at *
        unfold valTermM at HB
        have nbx : bx ≠ w.heap.size + 1 := by omega
        have nwr : wr.heap.size ≠ w.heap.size + 1 := by omega
        have nwr1 : wr.heap.size + 1 ≠ w.heap.size + 1 := by omega
        have nb1 : bx ≠ wr.heap.size + 1 := by omega
        have nw1 : wr.heap.size ≠ wr.heap.size + 1 := by omega
        clear hve hfk hen hvn hvl
        go_wp2_with fail
        refine (HV _).mono ?_
        rintro e w2 ⟨rfl, hb2⟩
        obtain ⟨⟨a0, a1, a2⟩, ⟨b0, b1, b2⟩, ⟨f0, f1, f2⟩, hz2⟩ := sixbox hb2
        have hw2 : Below wr.heap.size wr w2 := bstep (bstep (balloc _ _) (balloc _ _)) hb2
        have d0 : w2.cell? ⟨bx, k * 4, none⟩ = some (.string ⟨v.toArray⟩) := (hw2.cell (by exact hbxr)).trans c0
        have hbd2 : Hid (BoundAt w2 (w.heap.size + 1) E) := hbd.out.below hw2
        have hbr2 := bstep hbr hw2
        have hzz := hbr2.size
        clear c0 c1 c2 c3 c4 c5 hbd hb2 hw2 HV
        go_wp2_with fail
        go_region_held3 (fun W => W.cell? ⟨bx, k * 4, none⟩ = some (.string ⟨v.toArray⟩) ∧ W.cell? ⟨wr.heap.size, 0, none⟩ = some (.int .i64 x.1) ∧ W.cell? ⟨wr.heap.size, 1, none⟩ = some (.string ⟨x.2.1.toArray⟩) ∧ W.cell? ⟨wr.heap.size, 2, none⟩ = some (.string ⟨x.2.2.toArray⟩)) (first
          | exact keepB (by assumption) hg3 nbx nwr nwr nwr
          | exact keepS (keepS (keepS (by assumption) nb1 nw1 nw1 nw1) nb1 nw1 nw1 nw1) nb1 nw1 nw1 nw1
          | exact keepS (by assumption) nb1 nw1 nw1 nw1
          | go_keep) (first
          | (go_at_call 147; refine (HB _ (by first | exact hbd2.out | exact hbd2.out.below (Below.refl _ _).drew | exact hbd2.out.below (Below.refl _ _).drew.drew)).mono ?_; rintro e w3 ⟨rfl, hbd3, hg3⟩; have q0 := (grown_far hg3 (b := wr.heap.size + 1) hz2 nwr1 0).1.trans b0; have q1 := (grown_far hg3 (b := wr.heap.size + 1) hz2 nwr1 1).1.trans b1; have q2 := (grown_far hg3 (b := wr.heap.size + 1) hz2 nwr1 2).1.trans b2; have g0 := (grown_far hg3 (b := wr.heap.size + 1) hz2 nwr1 0).2.trans f0; have g1 := (grown_far hg3 (b := wr.heap.size + 1) hz2 nwr1 1).2.trans f1; have g2 := (grown_far hg3 (b := wr.heap.size + 1) hz2 nwr1 2).2.trans f2))
        rename_i hHeld
        obtain ⟨_, x0, x1, x2⟩ := hHeld
        obtain ⟨y0, y1, y2⟩ := put3 (.int .i64 y.1) (.string ⟨y.2.1.toArray⟩) (.string ⟨y.2.2.toArray⟩) q0 q1 q2
        have hB3 : Below w.heap.size w w3 := hbr2.drew.grown hg3 (by exact hzz) (fun j hj => by cases hj; omega)
        have hBf := ((hB3.setCell (p := ⟨wr.heap.size + 1, 0, none⟩) (by show w.heap.size ≤ wr.heap.size + 1; omega) (.int .i64 y.1)).setCell (p := ⟨wr.heap.size + 1, 1, none⟩) (by show w.heap.size ≤ wr.heap.size + 1; omega) (.string ⟨y.2.1.toArray⟩)).setCell (p := ⟨wr.heap.size + 1, 2, none⟩) (by show w.heap.size ≤ wr.heap.size + 1; omega) (.string ⟨y.2.2.toArray⟩)
        have hbdf0 := hbd3.far (((((Below.refl (w.heap.size + 2) w3).setCell (p := ⟨wr.heap.size + 1, 0, none⟩) (by show w.heap.size + 2 ≤ wr.heap.size + 1; omega) (.int .i64 y.1)).setCell (p := ⟨wr.heap.size + 1, 1, none⟩) (by show w.heap.size + 2 ≤ wr.heap.size + 1; omega) (.string ⟨y.2.1.toArray⟩)).setCell (p := ⟨wr.heap.size + 1, 2, none⟩) (by show w.heap.size + 2 ≤ wr.heap.size + 1; omega) (.string ⟨y.2.2.toArray⟩))) (by omega)
        have hbdf : Hid _ := hbdf0
        clear hbdf0 hbd3 hg3 hB3 q0 q1 q2 g0 g1 g2 a0 a1 a2 b0 b1 b2 f0 f1 f2 d0 hbd2 HB
        generalize ((w3.setCell ⟨wr.heap.size + 1, 0, none⟩ (.int .i64 y.1)).setCell ⟨wr.heap.size + 1, 1, none⟩ (.string ⟨y.2.1.toArray⟩)).setCell ⟨wr.heap.size + 1, 2, none⟩ (.string ⟨y.2.2.toArray⟩) = W at *
        cases hq : eqTB x.1 x.2.1 x.2.2 y.1 y.2.1 y.2.2
        · go_wp2_with fail
          go_ret
          exact ⟨ret_bool (by rw [hrest.out, hst.out, hf2.out, hq]; rfl), hBf⟩
        · go_wp2_with fail
          go_roundw
          case rel =>
            refine ⟨k + 1, by omega, by go_num, ?_, ?_, hBf⟩
            · show BoundAt _ _ _
              rw [HEE.out, he2.out]
              exact hbdf.out
            · show _ = _
              rw [hrest.out, hst.out, hf2.out, hq]; rfl
          case measure => simp [intOf]; omega
    · obtain rfl : k = 3 := by omega
      go_wp2_with fail
      go_ret
      exact ⟨ret_bool (by rw [hrest.out]; rfl), hbr⟩

theorem enters145 : ∀ args w, (callFunc 145 args).run Tryz.prog w = .ok (.enter 145 args) w := enters_of Tryz.func145 (by kernel_rfl) rfl

theorem askerM_any (p : Pt) (w : World) : Calls Tryz.prog 122 #[valPt p] w fun e w' => ∃ bx, e = .returned (.func (.func 145) #[] #[.pointer (some ⟨bx, 0, none⟩)]) ∧ PatAt w' bx p ∧ Below w.heap.size w w' := by
  have HS := slotsOf_any p
  unfold valPt at HS ⊢
  go_enter Tryz.func122, Tryz.ntmps122
  go_wp2_with fail
  refine (HS _).mono ?_
  rintro e w1 ⟨rfl, hb1⟩
  go_wp2_with fail
  go_ret
  refine ⟨w1.heap.size, rfl, fun j v hj => ?_, bstep (bstep (balloc _ _) hb1) (balloc _ _)⟩
  have h12 : j < 12 := (List.getElem?_eq_some_iff.1 hj).1
  rcases (by omega : j = 0 ∨ j = 1 ∨ j = 2 ∨ j = 3 ∨ j = 4 ∨ j = 5 ∨ j = 6 ∨ j = 7 ∨ j = 8 ∨ j = 9 ∨ j = 10 ∨ j = 11) with rfl | rfl | rfl | rfl | rfl | rfl | rfl | rfl | rfl | rfl | rfl | rfl
  all_goals
    simp [encPt] at hj
    subst hj
    go_simp
end Go.Proofs.YtcdbcoaiadipjaaGreatDoor

/- match.Match and match.Count. -/
namespace Go.Proofs.YtcdbcoaiadipjaaGreatDoor
open Go Go.RowKit Go.Proofs Go.Maps
set_option synthInstance.maxSize 1000

attribute [local go_sem] eql_errV neq_errV guard_errV

/-- what Match tells, and which it is -/
def matchN (l : List Tr) (p : Pt) : Int := if sortedN l = 0 then varsN p else sortedN l
def matchL (l : List Tr) (p : Pt) : List Tr := l.filter (fitsB p)
def MatchAns (l : List Tr) (p : Pt) (m : List Tr) : Prop := m = if matchN l p = 0 then matchL l p else []

theorem patBox (w : World) (p : Pt) (T : TypeId) : PatAt (w.alloc (.cells (encPt p).toArray T)) w.heap.size p := fun j v hj => by
  have h12 : j < 12 := (List.getElem?_eq_some_iff.1 hj).1
  rcases (by omega : j = 0 ∨ j = 1 ∨ j = 2 ∨ j = 3 ∨ j = 4 ∨ j = 5 ∨ j = 6 ∨ j = 7 ∨ j = 8 ∨ j = 9 ∨ j = 10 ∨ j = 11) with rfl | rfl | rfl | rfl | rfl | rfl | rfl | rfl | rfl | rfl | rfl | rfl
  all_goals
    simp [encPt] at hj
    subst hj
    simp only [encPt]
    go_simp
theorem PatAt.all {w : World} {b : Nat} {p : Pt} (h : PatAt w b p) :
    w.cell? ⟨b, 0, none⟩ = some (.string ⟨p.1.1.toArray⟩) ∧ w.cell? ⟨b, 1, none⟩ = some (.int .i64 p.1.2.1) ∧ w.cell? ⟨b, 2, none⟩ = some (.string ⟨p.1.2.2.1.toArray⟩) ∧ w.cell? ⟨b, 3, none⟩ = some (.string ⟨p.1.2.2.2.toArray⟩) ∧
    w.cell? ⟨b, 4, none⟩ = some (.string ⟨p.2.1.1.toArray⟩) ∧ w.cell? ⟨b, 5, none⟩ = some (.int .i64 p.2.1.2.1) ∧ w.cell? ⟨b, 6, none⟩ = some (.string ⟨p.2.1.2.2.1.toArray⟩) ∧ w.cell? ⟨b, 7, none⟩ = some (.string ⟨p.2.1.2.2.2.toArray⟩) ∧
    w.cell? ⟨b, 8, none⟩ = some (.string ⟨p.2.2.1.toArray⟩) ∧ w.cell? ⟨b, 9, none⟩ = some (.int .i64 p.2.2.2.1) ∧ w.cell? ⟨b, 10, none⟩ = some (.string ⟨p.2.2.2.2.1.toArray⟩) ∧ w.cell? ⟨b, 11, none⟩ = some (.string ⟨p.2.2.2.2.2.toArray⟩) :=
  ⟨h _ _ rfl, h _ _ rfl, h _ _ rfl, h _ _ rfl, h _ _ rfl, h _ _ rfl, h _ _ rfl, h _ _ rfl, h _ _ rfl, h _ _ rfl, h _ _ rfl, h _ _ rfl⟩

theorem own_slM3 {W : World} {base : Nat} {e : TypeId} {v : Value} {t : List Tr} (h : W.ownsRow base e 9 v t.length (cellsT t)) : ∃ ad cap, v = .slice ad t.length cap ∧ SlT W ad t := by
  have h' := h
  rcases h.2 with ⟨rfl, h0⟩ | ⟨g, cap, cur, rfl, _⟩
  · exact ⟨none, 0, by rw [h0], fun hne => absurd (List.eq_nil_of_length_eq_zero h0) hne⟩
  · refine ⟨some ⟨g, 0, none⟩, cap, rfl, fun _ => ⟨g, 0, rfl, fun j u hj => ?_⟩⟩
    have := h'.cells (g := g) rfl j u hj
    rwa [Addr.add_lit] at this
theorem filter_stepM (l : List Tr) (p : Tr → Bool) (k : Nat) (h : k < l.length) : (l.take (k + 1)).filter p = (l.take k).filter p ++ (if p l[k] then [l[k]] else []) := by
  rw [List.take_succ_eq_append_getElem h, List.filter_append]
  cases hp : p l[k] <;> simp [hp]

set_option maxHeartbeats 8000000 in
set_option maxRecDepth 100000 in
theorem Match_any (ad : Option Addr) (cap : Nat) (l : List Tr) (p : Pt) (w : World) (h : SlT w ad l) (hfit : ∀ x ∈ l, fitTr x) (hp : fitPt p) (hn : l.length ≤ 9223372036854775807) :
    Calls Tryz.prog 91 #[.slice ad l.length cap, valPt p] w fun e w' => Below w.heap.size w w' ∧ ∃ m ad' cap', e = .returned (.tuple #[.slice ad' m.length cap', errV (matchN l p)]) ∧ SlT w' ad' m ∧ MatchAns l p m := by
  have HS := fun W hW => Sorted_any ad cap l W hW hfit hn
  have HV := fun W => Vars_any p W hp
  have HA := fun W => askerM_any p W
  have HF := fun bx x W (hW : PatAt W bx p) => fits_any bx p x W hW hp
  have Hl : Hid (SlT w ad l) := h
  have Hset : Hid (sortedN l = 0 → l.length ≤ 200) := fun h => (sortedN_set.1 h).1
  have fin : Hid (matchN l p = if sortedN l = 0 then varsN p else sortedN l) := rfl
  have hA : Hid (∀ m, (m = if matchN l p = 0 then matchL l p else []) → MatchAns l p m) := fun m h => h
  obtain ⟨i0, hi, hz⟩ := Option.map_eq_some_iff.1 infoTr
  simp only [Prod.mk.injEq] at hz
  obtain ⟨hz0, hz1, hz2⟩ := hz
  clear h hfit hp hn
  generalize MatchAns l p = A at *
  generalize matchN l p = N at *
  unfold valPt at HV HA ⊢
  cases hs : (sortedN l == 0)
  · go_enter Tryz.func91, Tryz.ntmps91
    go_wp2_with fail
    refine (HS _ (Hl.out.below (balloc _ _))).mono ?_
    rintro e w1 ⟨rfl, hb1⟩
    go_wp2_with fail
    simp at hs
    have hN : N = sortedN l := by rw [fin.out, if_neg hs]
    exact bodyPost_ret (v := .tuple #[.slice none 0 0, errV (sortedN l)]) (by simp [results, Tryz.results91, go_sem]) rfl ⟨bstep (balloc _ _) hb1, [], none, 0, by rw [hN]; rfl, fun h => absurd rfl h, hA.out _ (by rw [hN, if_neg hs])⟩
  · have hs0 : sortedN l = 0 := by simpa using hs
    have h200 := Hset.out hs0
    have hN : Hid (N = varsN p) := by show _ = _; rw [fin.out, if_pos hs0]
    clear hs0 Hset fin
    cases hv : (varsN p == 0)
    · go_enter Tryz.func91, Tryz.ntmps91
      go_wp2_with fail
      refine (HS _ (Hl.out.below (balloc _ _))).mono ?_
      rintro e w1 ⟨rfl, hb1⟩
      obtain ⟨p0, p1, p2, p3, p4, p5, p6, p7, p8, p9, p10, p11⟩ := ((patBox w p 32).below hb1).all
      go_wp2_with fail
      refine (HV _).mono ?_
      rintro e w2 ⟨hb2, m, ad', c', rfl, hm, hans⟩
      clear p0 p1 p2 p3 p4 p5 p6 p7 p8 p9 p10 p11
      go_wp2_with fail
      simp at hv
      exact bodyPost_ret (v := .tuple #[.slice none 0 0, errV (varsN p)]) (by simp [results, Tryz.results91, go_sem]) rfl ⟨bstep (bstep (balloc _ _) hb1) hb2, [], none, 0, by rw [hN.out]; rfl, fun h => absurd rfl h, hA.out _ (by rw [hN.out, if_neg hv])⟩
    · have hv0 : Hid (N = 0) := by show _ = _; rw [hN.out]; simpa using hv
      go_enter Tryz.func91, Tryz.ntmps91
      go_wp2_with fail
      refine (HS _ (Hl.out.below (balloc _ _))).mono ?_
      rintro e w1 ⟨rfl, hb1⟩
      have hpb : Hid (PatAt w1 w.heap.size p) := (patBox w p 32).below hb1
      obtain ⟨p0, p1, p2, p3, p4, p5, p6, p7, p8, p9, p10, p11⟩ := hpb.out.all
      go_wp2_with fail
      refine (HV _).mono ?_
      rintro e w2 ⟨hb2, m, ad', c', rfl, hm, hans⟩
      clear p0 p1 p2 p3 p4 p5 p6 p7 p8 p9 p10 p11 hm hans
      obtain ⟨p0, p1, p2, p3, p4, p5, p6, p7, p8, p9, p10, p11⟩ := (hpb.out.below hb2).all
      go_wp2_with fail
      refine (HA _).mono ?_
      rintro e w3 ⟨bx, rfl, hpat, hb3⟩
      have Hpat : Hid (PatAt w3 bx p) := hpat
      have hB3 : Hid (Below w.heap.size w w3) := bstep (bstep (bstep (balloc _ _) hb1) hb2) hb3
      have Hl3 : Hid (SlT w3 ad l) := Hl.out.below hB3.out
      have eg := enters145
      clear p0 p1 p2 p3 p4 p5 p6 p7 p8 p9 p10 p11 hpat hb1 hb2 hb3 hpb HS HV HA hs hv
      go_wp2_with fail
      go_loopw [9, 30] (fun v i wr => ∃ k : Nat, k ≤ l.length ∧ i = .int .i64 k ∧ Hid (wr.ownsRow w3.heap.size 58 9 v ((l.take k).filter (fitsB p)).length (cellsT ((l.take k).filter (fitsB p)))) ∧ Below w3.heap.size w3 wr) (fun _ i wr => l.length - (intOf i).toNat)
      case atStart => exact ⟨0, Nat.zero_le _, rfl, by show World.ownsRow _ _ _ _ _ _ _; rw [List.take_zero]; exact World.ownsRow_nil _ _ _ _, Below.refl _ _⟩
      case round =>
        obtain ⟨k, hk, rfl, hown, hbr⟩ := hrel
        by_cases hlt : k < l.length
        · obtain ⟨b, o, rfl, hr⟩ := (Hl3.out.below hbr).at k hlt
          obtain ⟨c0, c1, c2, c3, c4, c5, c6, c7, c8⟩ := hr.at k hlt
          have i0' : (0 : Int) ≤ (k : Int) := by omega
          have i1 : (k : Int) < (l.length : Int) := by omega
          have hstep : Hid _ := filter_stepM l (fitsB p) k hlt
          have hfil : ((l.take k).filter (fitsB p)).length ≤ k := Nat.le_trans (List.length_filter_le _ _) (by simp; omega)
          have H := fun W (hW : PatAt W bx p) => HF bx l[k] W hW
          have hzr := hbr.size
          generalize ht : (l.take (k + 1)).filter (fitsB p) = t1 at hstep
          have Ht : Hid _ := ht
          generalize (l.take k).filter (fitsB p) = t0 at *
          generalize l[k] = y at *
          clear hr ht
          cases hp : fitsB p y
          · rw [hp] at H
            have hs2 : Hid (t1 = t0) := by have := hstep.out; rw [hp] at this; simpa [Hid] using this
            unfold valTr at H
            go_wp2_with fail
            go_at_fn 145
            refine (H _ (Hpat.out.below (bstep hbr (balloc _ _)))).mono ?_
            rintro e w4 ⟨rfl, hb4⟩
            go_wp2_with fail
            go_roundw
            case rel =>
              refine ⟨k + 1, by omega, by go_num, ?_, bstep (bstep hbr (balloc _ _)) hb4⟩
              show World.ownsRow _ _ _ _ _ _ _
              rw [Ht.out, hs2.out]
              exact ownsRow_belowV (hown.out.alloc _) hb4
            case measure => simp [intOf]; omega
          · rw [hp] at H
            have hs2 : Hid (t1 = t0 ++ [y]) := by have := hstep.out; rw [hp] at this; simpa [Hid] using this
            unfold valTr at H
            go_wp2_with fail
            go_at_fn 145
            refine (H _ (Hpat.out.below (bstep hbr (balloc _ _)))).mono ?_
            rintro e w4 ⟨rfl, hb4⟩
            have hrow1 : Hid (w4.ownsRow w3.heap.size 58 9 _ t0.length (cellsT t0)) := ownsRow_belowV (hown.out.alloc _) hb4
            have hB1 := bstep (bstep hbr (balloc _ _)) hb4
            have hz1' := hB1.size
            obtain ⟨a0, a1, a2, b0, b1, b2, d0, d1, d2, hzz⟩ := ninebox hb4
            clear c0 c1 c2 c3 c4 c5 c6 c7 c8 hown
            go_wp2_with (at_builtin; refine wpList_append_own _ rfl _ _ 22 rfl w3.heap.size 58 i0 (.agg (encTr zeroTr).toArray) 9 120 Tryz.underlying22 hi hz0 hz1 hz2 rfl (by decide) _ _ _ rfl (hrow1.out.alloc _) ⟨w4.heap.size, 0, none⟩ 1 1 (encTr y) rfl rfl ?c1 ?c2 ?c3 ?c4 ?c5 ?_)
            case c1 =>
              intro i u hi'
              have h9 : i < 9 := (List.getElem?_eq_some_iff.1 hi').1
              rw [Addr.add_lit]
              rcases (by omega : i = 0 ∨ i = 1 ∨ i = 2 ∨ i = 3 ∨ i = 4 ∨ i = 5 ∨ i = 6 ∨ i = 7 ∨ i = 8) with rfl | rfl | rfl | rfl | rfl | rfl | rfl | rfl | rfl
              all_goals
                simp [encTr] at hi'
                subst hi'
                go_simp
            case c2 => exact encTr_one y
            case c3 => unfold maxLen; omega
            case c4 => omega
            case c5 => simp; omega
            intro v' w9 hown' hgrow _
            have hbel := (hB1.alloc hz1' (.cells (encTr y).toArray 58)).grown hgrow (by simp; omega) (fun k hk => (hrow1.out.lt k hk).1)
            go_wp2_with fail
            go_roundw
            case rel =>
              refine ⟨k + 1, by omega, by go_num, ?_, hbel⟩
              show World.ownsRow _ _ _ _ _ _ _
              rw [Ht.out, hs2.out]
              simpa [cellsT] using hown'
            case measure => simp [intOf]; omega
        · obtain rfl : k = l.length := by omega
          have hown' := hown.out
          rw [List.take_length] at hown'
          obtain ⟨ad', cap', rfl, hsl⟩ := own_slM3 hown'
          have Hsl : Hid (SlT wr ad' (matchL l p)) := hsl
          clear hown' hown hsl
          rw [show l.filter (fitsB p) = matchL l p from rfl]
          go_wp2_with fail
          exact bodyPost_ret (v := .tuple #[.slice ad' (matchL l p).length cap', .nilIface]) (by simp [results, Tryz.results91, go_sem]) rfl ⟨hB3.out.trans (hbr.mono hB3.out.size), matchL l p, ad', cap', by rw [hv0.out]; rfl, Hsl.out, hA.out _ (by rw [hv0.out]; rfl)⟩

/-- how many -/
def CountAns (l : List Tr) (p : Pt) : Nat := if matchN l p = 0 then (matchL l p).length else 0
set_option maxHeartbeats 1000000 in
set_option maxRecDepth 100000 in
theorem Count_any (ad : Option Addr) (cap : Nat) (l : List Tr) (p : Pt) (w : World) (h : SlT w ad l) (hfit : ∀ x ∈ l, fitTr x) (hp : fitPt p) (hn : l.length ≤ 9223372036854775807) :
    Calls Tryz.prog 78 #[.slice ad l.length cap, valPt p] w fun e w' => e = .returned (.tuple #[.int .i64 (CountAns l p), errV (matchN l p)]) ∧ Below w.heap.size w w' := by
  have HM := fun W hW => Match_any ad cap l p W hW hfit hp hn
  have Hl : Hid (SlT w ad l) := h
  have hA : Hid (∀ m, MatchAns l p m → m.length = CountAns l p) := fun m hm => by
    unfold MatchAns at hm
    unfold CountAns
    rw [hm]
    split <;> simp
  clear h hfit hp hn
  generalize matchN l p = N at *
  generalize CountAns l p = C at *
  generalize MatchAns l p = A at *
  unfold valPt at HM ⊢
  go_enter Tryz.func78, Tryz.ntmps78
  go_wp2_with fail
  refine (HM _ (Hl.out.below (balloc _ _))).mono ?_
  rintro e w1 ⟨hb1, m, ad', c', rfl, hm, hans⟩
  have hc := hA.out m hans
  rw [hc]
  go_wp2_with fail
  exact bodyPost_ret (v := .tuple #[.int .i64 C, errV N]) (by simp [results, Tryz.results78, go_sem]) rfl ⟨rfl, bstep (balloc _ _) hb1⟩
end Go.Proofs.YtcdbcoaiadipjaaGreatDoor

/- A triple in a box; texts held against texts. -/
namespace Go.Proofs.YtcdbcoaiadipjaaGreatDoor
open Go Go.RowKit Go.Proofs Go.Maps
set_option synthInstance.maxSize 1000

def TripAt (w : World) (b : Nat) (t : Tr) : Prop := ∀ j v, (encTr t)[j]? = some v → w.cell? ⟨b, j, none⟩ = some v
theorem TripAt.below {w w' : World} {b : Nat} {t : Tr} (h : TripAt w b t) (hb : Below w.heap.size w w') : TripAt w' b t := fun j v hv => (hb.cell (World.block_lt_of_cell? w _ (h j v hv))).trans (h j v hv)
theorem tripBox (w : World) (t : Tr) (T : TypeId) : TripAt (w.alloc (.cells (encTr t).toArray T)) w.heap.size t := fun j v hj => by
  have h9 : j < 9 := (List.getElem?_eq_some_iff.1 hj).1
  rcases (by omega : j = 0 ∨ j = 1 ∨ j = 2 ∨ j = 3 ∨ j = 4 ∨ j = 5 ∨ j = 6 ∨ j = 7 ∨ j = 8) with rfl | rfl | rfl | rfl | rfl | rfl | rfl | rfl | rfl
  all_goals
    simp [encTr] at hj
    subst hj
    simp only [encTr]
    go_simp
theorem TripAt.all {w : World} {b : Nat} {t : Tr} (h : TripAt w b t) :
    w.cell? ⟨b, 0, none⟩ = some (.int .i64 t.1.1) ∧ w.cell? ⟨b, 1, none⟩ = some (.string ⟨t.1.2.1.toArray⟩) ∧ w.cell? ⟨b, 2, none⟩ = some (.string ⟨t.1.2.2.toArray⟩) ∧
    w.cell? ⟨b, 3, none⟩ = some (.int .i64 t.2.1.1) ∧ w.cell? ⟨b, 4, none⟩ = some (.string ⟨t.2.1.2.1.toArray⟩) ∧ w.cell? ⟨b, 5, none⟩ = some (.string ⟨t.2.1.2.2.toArray⟩) ∧
    w.cell? ⟨b, 6, none⟩ = some (.int .i64 t.2.2.1) ∧ w.cell? ⟨b, 7, none⟩ = some (.string ⟨t.2.2.2.1.toArray⟩) ∧ w.cell? ⟨b, 8, none⟩ = some (.string ⟨t.2.2.2.2.toArray⟩) :=
  ⟨h _ _ rfl, h _ _ rfl, h _ _ rfl, h _ _ rfl, h _ _ rfl, h _ _ rfl, h _ _ rfl, h _ _ rfl, h _ _ rfl⟩
theorem neqEmpty (v : List UInt8) (w : World) : (binOp .neq 9 (.string ⟨v.toArray⟩) (.string ⟨#[]⟩)).run Tryz.prog w = .ok (.bool (!v.isEmpty)) w := by
  cases v with
  | nil => kernel_rfl
  | cons c r => go_simp
theorem eqlEmpty (v : List UInt8) (w : World) : (binOp .eql 9 (.string ⟨v.toArray⟩) (.string ⟨#[]⟩)).run Tryz.prog w = .ok (.bool v.isEmpty) w := by
  cases v with
  | nil => kernel_rfl
  | cons c r => go_simp
theorem eqlStr (a b : List UInt8) (w : World) : (binOp .eql 9 (.string ⟨a.toArray⟩) (.string ⟨b.toArray⟩)).run Tryz.prog w = .ok (.bool (decide (a = b))) w := by
  by_cases h : a = b
  · subst h; go_simp
  · have h' : ¬ (⟨a.toArray⟩ : ByteArray) = ⟨b.toArray⟩ := fun e => h (by have := congrArg (fun s : ByteArray => s.data.toList) e; simpa using this)
    go_simp
theorem neqStr (a b : List UInt8) (w : World) : (binOp .neq 9 (.string ⟨a.toArray⟩) (.string ⟨b.toArray⟩)).run Tryz.prog w = .ok (.bool (!decide (a = b))) w := by
  by_cases h : a = b
  · subst h; go_simp
  · have h' : ¬ (⟨a.toArray⟩ : ByteArray) = ⟨b.toArray⟩ := fun e => h (by have := congrArg (fun s : ByteArray => s.data.toList) e; simpa using this)
    go_simp
end Go.Proofs.YtcdbcoaiadipjaaGreatDoor

/- What gives variables terms, in plain words. -/
namespace Go.Proofs.YtcdbcoaiadipjaaGreatDoor
open Go Go.RowKit Go.Proofs
set_option synthInstance.maxSize 1000

/-! ### what gives variables terms -/
abbrev Ev := List UInt8 → Option Tm
/-- what a triple gives to a pattern's variables: the last counts -/
def evT (p : Pt) (t : Tr) : Ev := fun v => if v = [] then none else if v = p.2.2.1 then some t.2.2 else if v = p.2.1.1 then some t.2.1 else if v = p.1.1 then some t.1 else none
def bothE (f g : Ev) : Ev := fun v => match g v with
  | some x => some x
  | none => f v
def noneE : Ev := fun _ => none
def putEv (f : Ev) (v : List UInt8) (x : Tm) : Ev := fun u => if u = v then some x else f u
def nthE (sh : List (List UInt8)) (f : Ev) (i : Nat) : Tm := match sh[i]? with
  | some v => (f v).getD tmZero
  | none => tmZero
/-- what an answer gives to at most three variables -/
def keyT (sh : List (List UInt8)) (f : Ev) : Tr := (nthE sh f 0, nthE sh f 1, nthE sh f 2)
end Go.Proofs.YtcdbcoaiadipjaaGreatDoor

/- Answers of package solve: maps from variables to terms; give, fill, answerOf. -/
namespace Go.Proofs.YtcdbcoaiadipjaaGreatDoor
open Go Go.RowKit Go.Proofs Go.Maps
set_option synthInstance.maxSize 1000
attribute [local go_sem ↓] eqlEmpty neqEmpty

theorem hideE {p : Prop} (h : p) : Hid p := h
theorem below_grownE {B b : Nat} {a w w' : World} (h : RowKit.Below B a w) (g : w.grownBy w' (some b)) (hB : B ≤ b) (hs : B ≤ a.heap.size) : RowKit.Below B a w' :=
  ⟨g.os.trans h.os, g.tape.trans h.tape, g.output.trans h.output, Nat.le_trans h.size g.size, fun i hi => (g.block i (by have := h.size; omega) (fun e => by simp at e; omega)).trans (h.block i hi)⟩
/-- the map at a block gives variables terms -/
def EvAt (w : World) (bm n : Nat) (f : Ev) : Prop :=
  ∃ D : DataW Unit, w.ownsMap Tryz.prog 9 termElemM bm n D ∧ ∀ v : List UInt8, v.length ≤ maxLen → Maps.has D (.string v) = (f v).isSome ∧ D.atKey (.string v) (encDM tmZero) = encDM ((f v).getD tmZero)
theorem EvAt.below {w w' : World} {bm n : Nat} {f : Ev} (h : EvAt w bm n f) (hb : RowKit.Below w.heap.size w w') : EvAt w' bm n f := by
  obtain ⟨D, o, g⟩ := h
  exact ⟨D, ownsMap_belowM o hb, g⟩
theorem EvAt.lt {w : World} {bm n : Nat} {f : Ev} (h : EvAt w bm n f) : bm < w.heap.size := by
  obtain ⟨D, o, g⟩ := h
  exact o.lt
theorem EvAt.far {w w' : World} {bm n B : Nat} {f : Ev} (h : EvAt w bm n f) (hb : RowKit.Below B w w') (hB : bm < B) : EvAt w' bm n f := by
  obtain ⟨D, ⟨es, clock, hm, r⟩, g⟩ := h
  exact ⟨D, ⟨es, clock, (hb.block bm hB).trans hm, r⟩, g⟩
theorem EvAt.kept {w w' : World} {bm n : Nat} {f : Ev} {row : Option Nat} (h : EvAt w bm n f) (hg : w.grownBy w' row) (hne : some bm ≠ row) : EvAt w' bm n f := by
  obtain ⟨D, o, g⟩ := h
  exact ⟨D, o.kept hg hne, g⟩
theorem EvAt.mono {w : World} {bm n m : Nat} {f : Ev} (h : EvAt w bm n f) (hn : n ≤ m) : EvAt w bm m f := by
  obtain ⟨D, o, g⟩ := h
  exact ⟨D, o.mono hn, g⟩
theorem evAt_made (w : World) : EvAt (w.alloc (.map #[] 0)) w.heap.size 0 noneE :=
  ⟨.map [], World.ownsMap_made _ _ _ _, fun v _ => ⟨by simp [Maps.has_eq, noneE], by simp [DataW.atKey, noneE]⟩⟩
theorem makeAns (w : World) : (Instr.makeMap 80 none).run Tryz.prog w = .ok (.map (some w.heap.size)) (w.alloc (.map #[] 0)) := by kernel_rfl

theorem look_ev {bm n : Nat} {f : Ev} {w : World} (h : EvAt w bm n f) (v : List UInt8) (hv : v.length ≤ maxLen) :
    (Instr.lookup 80 (.map (some bm)) (.string ⟨v.toArray⟩) true).run Tryz.prog w = .ok (.tuple #[valTermM ((f v).getD tmZero), .bool (f v).isSome]) w := by
  obtain ⟨D, o, g⟩ := h
  obtain ⟨u, ps, hrun, hu⟩ := o.look_ok keyedStr Tryz.underlying80 (zeroTmV w) (termElemM_mk tmZero) (keyOf_v v hv)
  rw [(g v hv).2] at hu
  rw [hrun, (g v hv).1, termElemM_inv hu]
theorem look0_ev {bm n : Nat} {f : Ev} {w : World} (h : EvAt w bm n f) (v : List UInt8) (hv : v.length ≤ maxLen) :
    (Instr.lookup 80 (.map (some bm)) (.string ⟨v.toArray⟩) false).run Tryz.prog w = .ok (valTermM ((f v).getD tmZero)) w := by
  obtain ⟨D, o, g⟩ := h
  obtain ⟨u, ps, hrun, hu⟩ := o.lookup keyedStr Tryz.underlying80 (zeroTmV w) (termElemM_mk tmZero) (keyOf_v v hv)
  rw [(g v hv).2] at hu
  rw [hrun, termElemM_inv hu]
theorem wpList_look_ev (w : World) {ops : Array Oper} {rest : List Oper} {o : Oper} {a : Act} {Q : Exit → Act → World → Prop}
    (hg : o.guard = none) (m x : Operand) (hop : o.op = Op.lookup 80 m x true) (bm n : Nat) (f : Ev) (hm : a.eval m = .map (some bm)) (h : EvAt w bm n f)
    (v : List UInt8) (hv : v.length ≤ maxLen) (hx : a.eval x = .string ⟨v.toArray⟩) (y : Tm) (b : Bool) (hy : (f v).getD tmZero = y) (hb : (f v).isSome = b)
    (hK : wpList Tryz.prog ops Q rest (a.put o.dst (.tuple #[.agg #[.int .i64 y.1, .string ⟨y.2.1.toArray⟩, .string ⟨y.2.2.toArray⟩], .bool b])) w) : wpList Tryz.prog ops Q (o :: rest) a w := by
  refine wpList_plain hg fun K' hK' => ?_
  have hrun := look_ev h v hv
  rw [hy, hb] at hrun
  unfold Oper.wp
  simp [execOp, hop, hm, hx, hrun, Result.andThen]
  exact hK' _ _ hK
theorem wpList_look0_ev (w : World) {ops : Array Oper} {rest : List Oper} {o : Oper} {a : Act} {Q : Exit → Act → World → Prop}
    (hg : o.guard = none) (m x : Operand) (hop : o.op = Op.lookup 80 m x false) (bm n : Nat) (f : Ev) (hm : a.eval m = .map (some bm)) (h : EvAt w bm n f)
    (v : List UInt8) (hv : v.length ≤ maxLen) (hx : a.eval x = .string ⟨v.toArray⟩) (y : Tm) (hy : (f v).getD tmZero = y)
    (hK : wpList Tryz.prog ops Q rest (a.put o.dst (.agg #[.int .i64 y.1, .string ⟨y.2.1.toArray⟩, .string ⟨y.2.2.toArray⟩])) w) : wpList Tryz.prog ops Q (o :: rest) a w := by
  refine wpList_plain hg fun K' hK' => ?_
  have hrun := look0_ev h v hv
  rw [hy] at hrun
  unfold Oper.wp
  simp [execOp, hop, hm, hx, hrun, Result.andThen]
  exact hK' _ _ hK
theorem put_ev {f : Ev} {v : List UInt8} {x : Tm} {D : DataW Unit} (hv : v.length ≤ maxLen) (m1 : IsMap D)
    (g : ∀ v : List UInt8, v.length ≤ maxLen → Maps.has D (.string v) = (f v).isSome ∧ D.atKey (.string v) (encDM tmZero) = encDM ((f v).getD tmZero)) :
    ∀ u : List UInt8, u.length ≤ maxLen → Maps.has (D.put (.string v) (encDM x)) (.string u) = (putEv f v x u).isSome ∧ (D.put (.string v) (encDM x)).atKey (.string u) (encDM tmZero) = encDM ((putEv f v x u).getD tmZero) := fun u hu => by
  have hk := keyedStr.key (keyOf_v v hv)
  unfold putEv
  by_cases e : u = v
  · subst e
    rw [Maps.has_put_same m1 hk, Maps.atKey_put_same m1 hk, if_pos rfl]
    exact ⟨rfl, rfl⟩
  · have hne : (Lit.string u) ≠ (Lit.string v) := fun e' => e (by simpa using e')
    rw [Maps.has_put_other hne, Maps.atKey_put_other hne, if_neg e]
    exact g u hu
theorem wpList_put_ev (w : World) {ops : Array Oper} {rest : List Oper} {o : Oper} {a : Act} {Q : Exit → Act → World → Prop}
    (hg : o.guard = none) (m x vo : Operand) (hop : o.op = Op.mapUpdate 80 m x vo) (bm n : Nat) (f : Ev) (hm : a.eval m = .map (some bm)) (h : EvAt w bm n f) (hn : n < maxLen)
    (v : List UInt8) (hv : v.length ≤ maxLen) (hx : a.eval x = .string ⟨v.toArray⟩) (y : Tm) (hy : a.eval vo = .agg #[.int .i64 y.1, .string ⟨y.2.1.toArray⟩, .string ⟨y.2.2.toArray⟩])
    (hK : ∀ w', EvAt w' bm (n + 1) (putEv f v y) → w.grownBy w' (some bm) → wpList Tryz.prog ops Q rest (a.put o.dst undef) w') : wpList Tryz.prog ops Q (o :: rest) a w := by
  obtain ⟨D, own, g⟩ := h
  exact wpList_mapUpdate_own w hg m x vo 80 hop 9 28 keyedStr Tryz.underlying80 termElemM bm n D hm own hn _ _ _ hx hy (keyOf_v v hv) _ [] (termElemM_mk y)
    (fun w' o' g' => hK w' ⟨_, o', put_ev hv own.isMap g⟩ g')

/-! ### fill -/
def fillE (f : Ev) (s : Sl) : Sl := match f s.1 with
  | some x => ([], x)
  | none => s
set_option maxHeartbeats 2000000 in
set_option maxRecDepth 100000 in
theorem fill_any (bm n : Nat) (f : Ev) (s : Sl) (w : World) (h : EvAt w bm n f) (hs : s.1.length ≤ maxLen) :
    Calls Tryz.prog 44 #[.map (some bm), .agg #[.string ⟨s.1.toArray⟩, .int .i64 s.2.1, .string ⟨s.2.2.1.toArray⟩, .string ⟨s.2.2.2.toArray⟩]] w
      fun e w' => e = .returned (.agg #[.string ⟨(fillE f s).1.toArray⟩, .int .i64 (fillE f s).2.1, .string ⟨(fillE f s).2.2.1.toArray⟩, .string ⟨(fillE f s).2.2.2.toArray⟩]) ∧ RowKit.Below w.heap.size w w' := by
  obtain ⟨v, k, S, L⟩ := s
  dsimp only at hs ⊢
  have H : Hid (EvAt w bm n f) := h
  clear h
  cases hl : f v with
  | none =>
    have e1 : fillE f (v, k, S, L) = (v, k, S, L) := by simp [fillE, hl]
    rw [e1]
    clear e1
    have Hl : Hid (f v = none) := hl
    clear hl
    go_enter Tryz.func44, Tryz.ntmps44
    go_wp2_with (first
      | (at_lookup; refine wpList_look_ev _ rfl _ _ rfl bm n f rfl ((H.out.below (balloc _ _)).below (balloc _ _)) v hs rfl tmZero false (by rw [Hl.out]; rfl) (by rw [Hl.out]; rfl) ?_))
    refine bodyPost_ret (v := .agg #[.string ⟨v.toArray⟩, .int .i64 k, .string ⟨S.toArray⟩, .string ⟨L.toArray⟩]) (by unfold results; rw [Tryz.results44]; go_simp) rfl ⟨rfl, bstep (bstep (balloc _ _) (balloc _ _)) (balloc _ _)⟩
  | some x =>
    have e1 : fillE f (v, k, S, L) = ([], x) := by simp [fillE, hl]
    rw [e1]
    clear e1
    have Hl : Hid (f v = some x) := hl
    clear hl
    go_enter Tryz.func44, Tryz.ntmps44
    go_wp2_with (first
      | (at_lookup; refine wpList_look_ev _ rfl _ _ rfl bm n f rfl ((H.out.below (balloc _ _)).below (balloc _ _)) v hs rfl x true (by rw [Hl.out]; rfl) (by rw [Hl.out]; rfl) ?_))
    refine bodyPost_ret (v := .agg #[.string ⟨#[]⟩, .int .i64 x.1, .string ⟨x.2.1.toArray⟩, .string ⟨x.2.2.toArray⟩]) (by unfold results; rw [Tryz.results44]; go_simp) rfl ⟨rfl, bstep (bstep (balloc _ _) (balloc _ _)) (balloc _ _)⟩

/-! ### give -/
def giveE (f : Ev) (v : List UInt8) (x : Tm) : Ev := if (f v).isSome = true then f else putEv f v x
set_option maxHeartbeats 2000000 in
set_option maxRecDepth 100000 in
theorem give_any (bm n : Nat) (f : Ev) (v : List UInt8) (x : Tm) (w : World) (h : EvAt w bm n f) (hn : n < maxLen) (hv : v.length ≤ maxLen) :
    Calls Tryz.prog 43 #[.map (some bm), .string ⟨v.toArray⟩, valTermM x] w fun e w' => e = .returned (.tuple #[]) ∧ EvAt w' bm (n + 1) (giveE f v x) ∧ w.grownBy w' (some bm) := by
  have H := hideE h
  clear h
  unfold valTermM
  cases hl : f v with
  | some y =>
    have e1 : giveE f v x = f := by simp [giveE, hl]
    rw [e1]
    clear e1
    have Hl := hideE hl
    clear hl
    go_enter Tryz.func43, Tryz.ntmps43
    go_wp2_with (first
      | (at_lookup; refine wpList_look_ev _ rfl _ _ rfl bm n f rfl (H.out.below (balloc _ _)) v hv rfl y true (by rw [Hl.out]; rfl) (by rw [Hl.out]; rfl) ?_))
    go_end0
    have hB : RowKit.Below w.heap.size w _ := bstep (balloc w (.cells #[.int .i64 x.1, .string ⟨x.2.1.toArray⟩, .string ⟨x.2.2.toArray⟩] 28)) (balloc _ (.cells #[.int .i64 y.1, .string ⟨y.2.1.toArray⟩, .string ⟨y.2.2.toArray⟩] 28))
    exact ⟨rfl, (H.out.below hB).mono (by omega), grownBy_below hB⟩
  | none =>
    have e1 : giveE f v x = putEv f v x := by simp [giveE, hl]
    rw [e1]
    clear e1
    have Hl := hideE hl
    clear hl
    go_enter Tryz.func43, Tryz.ntmps43
    go_wp2_with (first
      | (at_lookup; refine wpList_look_ev _ rfl _ _ rfl bm n f rfl (H.out.below (balloc _ _)) v hv rfl tmZero false (by rw [Hl.out]; rfl) (by rw [Hl.out]; rfl) ?_)
      | (at_mapUpdate; refine wpList_put_ev _ rfl _ _ _ rfl bm n f rfl ((H.out.below (balloc _ _)).below (balloc _ _)) hn v hv rfl x rfl ?_; intro w1 he1 hg1))
    go_end0
    have hB : RowKit.Below w.heap.size w _ := bstep (balloc w (.cells #[.int .i64 x.1, .string ⟨x.2.1.toArray⟩, .string ⟨x.2.2.toArray⟩] 28)) (balloc _ (.cells #[.int .i64 tmZero.1, .string ⟨tmZero.2.1.toArray⟩, .string ⟨tmZero.2.2.toArray⟩] 28))
    exact ⟨rfl, he1, grownBy_trans (grownBy_below hB) hg1⟩

/-! ### what a triple gives -/
def stepV (f : Ev) (s : Sl) (x : Tm) : Ev := if s.1 = [] then f else putEv f s.1 x
def evK (p : Pt) (t : Tr) : Nat → Ev
  | 0 => noneE
  | k + 1 => stepV (evK p t k) (slotK p k) (termK t k)
theorem evK_all (p : Pt) (t : Tr) : evK p t 3 = evT p t := by
  obtain ⟨⟨a, x⟩, ⟨b, y⟩, ⟨c, z⟩⟩ := p
  show stepV (stepV (stepV noneE (a, x) t.1) (b, y) t.2.1) (c, z) t.2.2 = _
  funext v
  by_cases h1 : a = [] <;> by_cases h2 : b = [] <;> by_cases h3 : c = [] <;> simp only [stepV, evT, h1, h2, h3, if_true, if_false] <;> simp only [putEv, noneE] <;> grind
theorem evAt_made3 (w : World) (o1 o2 o3 : Obj) : EvAt ((((w.alloc o1).alloc o2).alloc (.map #[] 0)).alloc o3) (w.heap.size + 2) 0 noneE := by
  have := (evAt_made ((w.alloc o1).alloc o2)).below (balloc _ o3)
  simpa using this
theorem patAt_made3 (w : World) (o1 o2 o3 : Obj) (p : Pt) (T : TypeId) : PatAt ((((w.alloc o1).alloc o2).alloc o3).alloc (.cells (encPt p).toArray T)) (w.heap.size + 3) p := fun j v hv => by
  have hh := heap_alloc_last (((w.alloc o1).alloc o2).alloc o3) (.cells (encPt p).toArray T)
  have e : (((w.alloc o1).alloc o2).alloc o3).heap.size = w.heap.size + 3 := by simp
  rw [e] at hh
  rw [cell_of_row _ _ j _ T (0, 0) hh, List.getElem?_toArray]
  exact hv
set_option maxHeartbeats 4000000 in
set_option maxRecDepth 100000 in
theorem answerOf_any (p : Pt) (t : Tr) (w : World) (hp : fitPt p) :
    Calls Tryz.prog 92 #[valPt p, valTr t] w fun e w' => e = .returned (.map (some (w.heap.size + 2))) ∧ EvAt w' (w.heap.size + 2) 3 (evT p t) ∧ RowKit.Below w.heap.size w w' := by
  have Hp := hideE hp
  have HX : Hid (∀ k : Nat, k < 3 → ∀ W, (Instr.index 142 (valTr t) (.int .i64 k)).run Tryz.prog W = .ok (.agg #[.int .i64 (termK t k).1, .string ⟨(termK t k).2.1.toArray⟩, .string ⟨(termK t k).2.2.toArray⟩]) W) := indexTm t
  have hmk := makeAns
  have hE0 := fun o1 o2 o3 => evAt_made3 w o1 o2 o3
  have hP0 := fun o1 o2 o3 => patAt_made3 w o1 o2 o3 p 116
  have fin := hideE (evK_all p t)
  have HE0 := hideE hE0
  have HP0 := hideE hP0
  clear hE0 hP0
  unfold valTr at HX ⊢
  unfold valPt
  clear hp
  go_enter Tryz.func92, Tryz.ntmps92
  go_wp2_with fail
  go_loopw [25] (fun i wr => ∃ k : Nat, k ≤ 3 ∧ i = .int .i64 k ∧ Hid (EvAt wr (w.heap.size + 2) k (evK p t k)) ∧ Hid (PatAt wr (w.heap.size + 3) p) ∧ RowKit.Below w.heap.size w wr) (fun i wr => 3 - (intOf i).toNat)
  case atStart => exact ⟨0, by omega, rfl, HE0.out _ _ _, HP0.out _ _ _, bstep (bstep (bstep (balloc _ _) (balloc _ _)) (balloc _ _)) (balloc _ _)⟩
  case round =>
    clear HE0 HP0
    obtain ⟨k, hk, rfl, hE, hP, hbr⟩ := hrel
    by_cases hlt : k < 3
    · have hix := HX.out k hlt
      have t1 : decide ((k : Int) < 3) = true := by simp; omega
      have i0 : (0 : Int) ≤ (k : Int) := by omega
      have i1 : (k : Int) < 3 := by omega
      have hst := hideE (show evK p t (k + 1) = stepV (evK p t k) (slotK p k) (termK t k) from rfl)
      have hfs := hideE (fit_slotK Hp.out k)
      have hzr := hbr.size
      obtain ⟨c0, _, _, _⟩ := hP.out.at k hlt
      generalize hEE : evK p t (k + 1) = E' at *
      have HEE := hideE hEE
      clear hEE
      generalize evK p t k = E at *
      generalize slotK p k = s at *
      generalize termK t k = x at *
      obtain ⟨v, y⟩ := s
      have c0' : wr.cell? ⟨w.heap.size + 1 + 1 + 1, k * 4, none⟩ = some (.string ⟨v.toArray⟩) := c0
      have hl3 : w.heap.size + 1 + 1 + 1 < wr.heap.size := hP.out.lt
      clear c0
      cases hve : v.isEmpty
      · have hE2 := hideE (show E' = putEv E v x by rw [hst.out]; unfold stepV; rw [if_neg (by simpa using hve)])
        clear hst
        go_wp2_with (first
          | (at_mapUpdate; refine wpList_put_ev _ rfl _ _ _ rfl (w.heap.size + 2) k E rfl (hE.out.below (balloc _ _)) (by unfold maxLen; omega) v hfs.out.1 rfl x rfl ?_; intro w1 he1 hg1))
        go_roundw
        case rel =>
          have hP1 : PatAt w1 (w.heap.size + 3) p := fun j u hj => (grown_far hg1 (b := w.heap.size + 3) (by have := hP.out.lt; simp; omega) (by omega) j).1.trans ((hP.out.below (balloc _ _)) j u hj)
          exact ⟨k + 1, by omega, by go_num, by show EvAt _ _ _ _; rw [HEE.out, hE2.out]; exact he1, hP1, below_grownE (bstep hbr (balloc _ _)) hg1 (by omega) (Nat.le_refl _)⟩
        case measure => simp [intOf]; omega
      · have hE2 := hideE (show E' = E by rw [hst.out]; unfold stepV; rw [if_pos (by simpa using hve)])
        clear hst
        go_wp2_with fail
        go_roundw
        case rel => exact ⟨k + 1, by omega, by go_num, by show EvAt _ _ _ _; rw [HEE.out, hE2.out]; exact (hE.out.below (balloc _ _)).mono (by omega), hP.out.below (balloc _ _), bstep hbr (balloc _ _)⟩
        case measure => simp [intOf]; omega
    · obtain rfl : k = 3 := by omega
      go_wp2_with fail
      go_ret
      exact ⟨rfl, by rw [← fin.out]; exact hE.out, hbr⟩
end Go.Proofs.YtcdbcoaiadipjaaGreatDoor
