import Derived.Test.YtcdbcoaiadipjaaGreatMA0x4
import Derived.Test.YtcdbcoaiadipjaaGreatMA0x10
import Derived.Test.YtcdbcoaiadipjaaGreatMA0x5
import Derived.Test.YtcdbcoaiadipjaaGreatMA0x6
import Derived.Test.YtcdbcoaiadipjaaGreatMA0x2
import Derived.Test.YtcdbcoaiadipjaaGreatMA0x7
import Derived.Deep.Draws
import Derived.RegionTactic
import Derived.Deep.DeepCutAuto
import Derived.Test.YtcdbcoaiadipjaaGreatRows
import Derived.WalkKit
import Derived.Deep.CutBlock
import Derived.Test.YtcdbcoaiadipjaaGreatMA0x3
import Derived.Deep.RegionHeld3

/- What SolveHolds says, in plain lists. -/
namespace Go.Proofs.YtcdbcoaiadipjaaGreat
open Go Go.RowKit Go.Proofs
set_option synthInstance.maxSize 1000

def distQ (q : Qu) : Qu := { plainQ q with dist := true }
def twoQ (q : Qu) : Qu := { plainQ q with lim := 2 }
structure HoldsF (S : List Tr) (q : Qu) (all : List (List Tm)) : Prop where
  naive : naiveI S (plainQ q) = all.length
  le : all.length ≤ 500
  v8 : q.vars.length ≤ 8
  p6 : q.parts.length ≤ 6
  len : ∀ r ∈ all, r.length = q.vars.length
  fit : ∀ r ∈ all, ∀ x ∈ r, x.2.1.length ≤ maxLen ∧ x.2.2.length ≤ maxLen
  kind : ∀ r ∈ all, ∀ x ∈ r, x.1 ≠ -1
  bind : ∀ r ∈ all, ∀ p ∈ q.parts, bindN q.vars r p = 0 ∧ matchN S (bindB q.vars r p) = 0 ∧ 1 ≤ CountAns S (bindB q.vars r p) ∧ fitPt (bindB q.vars r p)
  ord : q.order = [] → ∀ i (h : i + 1 < all.length), cmpR (all[i]'(by omega)) all[i + 1] ≤ 0
  dN : solveN S (distQ q) = 0
  dL : (solveL S (distQ q)).length ≤ all.length
  dO : (solveL S (distQ q)).Nodup
  dR : ∀ r ∈ solveL S (distQ q), r.length = q.vars.length
  lN : solveN S (twoQ q) = 0
  lL : solveL S (twoQ q) = all.take 2
theorem solveN_of {S : List Tr} {q q' : Qu} (ha : askN q' = askN q) (hp : q'.parts = q.parts) : solveN S q' = solveN S q := by
  unfold solveN
  rw [ha, hp]
theorem bindS_fit {vars : List (List UInt8)} {r : List Tm} {s : Sl} (hs : fitSl s) (hr : ∀ x ∈ r, x.2.1.length ≤ maxLen ∧ x.2.2.length ≤ maxLen) : fitSl (bindS vars r s) := by
  cases hb : boundT vars r s.1 with
  | none => rw [bindS_none hb]; exact hs
  | some x =>
    rw [bindS_some hb]
    exact ⟨Nat.zero_le _, hr x (bound_mem hb)⟩
theorem bindB_fit {vars : List (List UInt8)} {r : List Tm} {p : Pt} (hp : fitPt p) (hr : ∀ x ∈ r, x.2.1.length ≤ maxLen ∧ x.2.2.length ≤ maxLen) (h0 : bindN vars r p = 0) : fitPt (bindB vars r p) := by
  unfold bindB
  rw [if_pos h0]
  exact ⟨bindS_fit hp.1 hr, bindS_fit hp.2.1 hr, bindS_fit hp.2.2 hr⟩
theorem holdsF {S : List Tr} {q : Qu} (hfit : ∀ x ∈ S, fitTr x) (hq : FitQ q) (h : solveN S (plainQ q) = 0) : HoldsF S q (solveL S (plainQ q)) := by
  obtain ⟨hS, g, vars, rows, ha⟩ := solve_good h
  have ha' : answersL S q.parts = some (vars, rows) := ha
  obtain ⟨ok, h500⟩ := answersL_ok ha'
  have eL : solveL S (plainQ q) = sortR (ltQ (plainQ q)) false (rows.map (projR vars q.vars)) := by
    rw [solve_rows h ha]
    rfl
  have hmem : ∀ r, r ∈ solveL S (plainQ q) ↔ r ∈ rows.map (projR vars q.vars) := fun r => by rw [eL]; exact sort_mem
  have hdA : askN (distQ q) = askN (plainQ q) := ask_dist (plainQ q) true
  have hdN : solveN S (distQ q) = 0 := by rw [solveN_of (q := plainQ q) hdA rfl]; exact h
  have haL : askN (twoQ q) = askN (plainQ q) := ask_lim (q := plainQ q) (n := 2) (by simp [plainQ]) (by omega)
  have hlN : solveN S (twoQ q) = 0 := by rw [solveN_of (q := plainQ q) haL rfl]; exact h
  have edL : solveL S (distQ q) = sortR (ltQ (plainQ q)) true (rows.map (projR vars q.vars)) := by
    rw [solve_rows (q := distQ q) hdN ha]
    rfl
  have elL : solveL S (twoQ q) = (sortR (ltQ (plainQ q)) false (rows.map (projR vars q.vars))).take 2 := by
    rw [solve_rows (q := twoQ q) hlN ha]
    rfl
  have hlen : ∀ r ∈ rows.map (projR vars q.vars), r.length = q.vars.length := proj_len vars q.vars rows
  have hz : (0 : Nat) ≤ maxLen := Nat.zero_le _
  have hft : ∀ r ∈ rows.map (projR vars q.vars), ∀ x ∈ r, x.2.1.length ≤ maxLen ∧ x.2.2.length ≤ maxLen := fun r hr x hx => by
    obtain ⟨r', hr', rfl⟩ := List.mem_map.1 hr
    obtain ⟨v, hv, rfl⟩ := List.mem_map.1 hx
    cases hb : boundT vars r' v with
    | none => exact ⟨hz, hz⟩
    | some y =>
      obtain ⟨t, ht, hx'⟩ := ok.from_ r' hr' y (bound_mem hb)
      obtain ⟨f1, f2, f3⟩ := hfit t ht
      rcases hx' with rfl | rfl | rfl
      · exact f1
      · exact f2
      · exact f3
  refine ⟨?_, ?_, ?_, g.six, ?_, ?_, ?_, ?_, ?_, hdN, ?_, ?_, ?_, hlN, ?_⟩
  · rw [eL, sort_len, List.length_map]
    unfold naiveI
    rw [if_pos h, ha]
  · rw [eL, sort_len, List.length_map]; exact h500
  · have := few_le q.vars (partsV [] q.parts) g.once (fun v hv => g.within v hv)
    have := g.eight
    exact Nat.le_trans ‹_› this
  · exact fun r hr => hlen r ((hmem r).1 hr)
  · exact fun r hr => hft r ((hmem r).1 hr)
  · intro r hr x hx
    obtain ⟨p, hp⟩ := List.exists_mem_of_ne_nil _ g.some
    obtain ⟨_, _, _, hg⟩ := answer_there hS g ha ((hmem r).1 hr) hp
    rcases (check_zero (hg x hx)).1 with h | h | h <;> rw [h] <;> decide
  · intro r hr p hp
    obtain ⟨b1', b2, b3, _⟩ := answer_there hS g ha ((hmem r).1 hr) hp
    have b1 : bindN q.vars r p = 0 := b1'
    have e1 : bindB q.vars r p = bindP q.vars r p := by unfold bindB; rw [if_pos b1]
    have hm0 : matchN S (bindP q.vars r p) = 0 := by unfold matchN; rw [if_pos (sortedN_set.2 hS)]; exact b2
    refine ⟨b1, ?_, ?_, bindB_fit (hq.pt p hp) (hft r ((hmem r).1 hr)) b1⟩
    · rw [e1]; exact hm0
    · rw [e1]
      unfold CountAns
      rw [if_pos hm0]
      exact b3
  · intro ho i hi
    have hs : SortedR (ltQ (plainQ q)) (solveL S (plainQ q)) := by rw [eL]; exact sort_sorted (plainQ q) false
    have := sorted_next hs hi
    rw [lt_none g ho] at this
    exact less_cmp _ _ this
  · rw [edL]
    have h2 : (solveL S (plainQ q)).length = (rows.map (projR vars q.vars)).length := by rw [eL, sort_len]
    rw [h2]
    exact once_le _ _ (sort_once _ _) fun x hx => sort_mem.1 hx
  · rw [edL]; exact sort_once _ _
  · intro r hr
    rw [edL] at hr
    exact hlen r (sort_mem.1 hr)
  · rw [elL, eL]
/-! ### compared term by term -/
theorem cmpR_next {a b : List Tm} {k : Nat} (ha : k < a.length) (hb : k < b.length) (h : cmpR (a.take k) (b.take k) = 0) : cmpR (a.take (k + 1)) (b.take (k + 1)) = cmpTm a[k] b[k] := by
  induction a generalizing b k with
  | nil => simp at ha
  | cons x a ih =>
    cases b with
    | nil => simp at hb
    | cons y b =>
      cases k with
      | zero =>
        simp only [List.take_succ_cons, List.take_zero, cmpR, List.getElem_cons_zero]
        split
        · rename_i e; exact e.symm
        · rfl
      | succ k =>
        simp only [List.take_succ_cons, cmpR, List.getElem_cons_succ] at h ⊢
        split at h
        · rename_i e
          rw [if_pos e]
          exact ih (by simpa using ha) (by simpa using hb) h
        · rename_i e; exact absurd h e
theorem cmpR_stop : ∀ (a b : List Tm) (k : Nat), cmpR (a.take k) (b.take k) ≠ 0 → cmpR a b = cmpR (a.take k) (b.take k)
  | [], b, k, h => by simp [cmpR] at h
  | x :: a, [], k, h => by cases k <;> simp [cmpR] at h
  | x :: a, y :: b, 0, h => by simp [cmpR] at h
  | x :: a, y :: b, k + 1, h => by
    simp only [List.take_succ_cons, cmpR] at h ⊢
    split at h
    · rename_i e
      rw [if_pos e, if_pos e]
      exact cmpR_stop a b k h
    · rename_i e
      rw [if_neg e, if_neg e]
theorem cmpR_le {a b : List Tm} (h : cmpR a b ≤ 0) (k : Nat) : cmpR (a.take k) (b.take k) ≤ 0 := by
  by_cases e : cmpR (a.take k) (b.take k) = 0
  · omega
  · rw [← cmpR_stop a b k e]; exact h
/-! ### the closed fact -/
def factT : Tr := ((1, [97], []), (1, [98], []), (1, [99], []))
def factP : Pt := (([120], tmZero), ([], (1, [98], [])), ([], (1, [99], [])))
def factQ : Qu := ⟨[[120]], [factP], [], false, false, -1⟩
set_option maxRecDepth 100000 in
theorem factN : solveN [factT] factQ = 0 := by decide +kernel
set_option maxRecDepth 100000 in
theorem factL : solveL [factT] factQ = [[(1, [97], [])]] := by decide +kernel
theorem factFit : FitQ factQ := by
  refine ⟨by simp [factQ], by simp [factQ], ?_, ?_, by simp [factQ], by decide⟩
  · intro v hv
    simp [factQ] at hv
    subst hv
    simp; unfold maxLen; omega
  · intro p hp
    simp [factQ] at hp
    subst hp
    refine ⟨⟨?_, ?_, ?_⟩, ⟨?_, ?_, ?_⟩, ⟨?_, ?_, ?_⟩⟩ <;> (simp [factP, tmZero]; try (unfold maxLen; omega))
theorem factTr : ∀ x ∈ [factT], fitTr x := fun x hx => by
  simp at hx
  subst hx
  refine ⟨⟨?_, ?_⟩, ⟨?_, ?_⟩, ⟨?_, ?_⟩⟩ <;> (simp [factT]; try (unfold maxLen; omega))
end Go.Proofs.YtcdbcoaiadipjaaGreat

/- stratasame.Terms and stratasame.Answers of what is the same. -/
namespace Go.Proofs.YtcdbcoaiadipjaaGreat
open Go Go.RowKit Go.Proofs Go.Maps
set_option synthInstance.maxSize 1000

theorem neqTmV (x : Tm) (w : World) : (binOp .neq 28 (.agg #[.int .i64 x.1, .string ⟨x.2.1.toArray⟩, .string ⟨x.2.2.toArray⟩]) (.agg #[.int .i64 x.1, .string ⟨x.2.1.toArray⟩, .string ⟨x.2.2.toArray⟩])).run Tryz.prog w = .ok (.bool false) w := by
  have h := equalTerm x.1 x.2.1 x.2.2 x.1 x.2.1 x.2.2 w
  rw [show eqTB x.1 x.2.1 x.2.2 x.1 x.2.1 x.2.2 = true by simp [eqTB]] at h
  rw [run_neq_struct, h]; rfl
attribute [local go_sem ↓] neqTmV

set_option maxHeartbeats 2000000 in
set_option maxRecDepth 100000 in
theorem SameTermsQ_true (ad bd : Option Addr) (ca cb : Nat) (l : List Tm) (w : World) (hl : SlQ w ad l) (hm : SlQ w bd l) (h200 : l.length ≤ 9223372036854775807) :
    Calls Tryz.prog 10 #[.slice ad l.length ca, .slice bd l.length cb] w fun e w' => e = .returned (.bool true) ∧ RowKit.Below w.heap.size w w' := by
  have Hl := hideQ hl
  have Hm := hideQ hm
  clear hl hm
  have hd : ((l.length : Int) != (l.length : Int)) = false := by simp
  go_enter Tryz.func10, Tryz.ntmps10
  go_wp2_with fail
  go_loopw [5] (fun i wr => ∃ (k q : Nat), k ≤ l.length ∧ i = .int .i64 k ∧ wr = w.drewN q) (fun i wr => l.length - (intOf i).toNat)
  case atStart => exact ⟨0, 0, by omega, rfl, rfl⟩
  case round =>
    obtain ⟨k, q, hk, rfl, rfl⟩ := hrel
    by_cases hlt : k < l.length
    · obtain ⟨b, o, rfl, e0, e1, e2⟩ := Hl.out.at k hlt
      obtain ⟨b', o', rfl, f0, f1, f2⟩ := Hm.out.at k hlt
      have i0 : (0 : Int) ≤ (k : Int) := by omega
      have i1 : (k : Int) < (l.length : Int) := by omega
      go_wp2_with fail
      go_region
      go_wp2
      exact ⟨⟨k + 1, q + 1, by omega, by go_num, rfl⟩, by simp [intOf]; omega⟩
    · go_wp2
      go_ret
      exact ⟨rfl, ⟨rfl, rfl, rfl, Nat.le_refl _, fun _ _ => rfl⟩⟩
set_option maxHeartbeats 2000000 in
set_option maxRecDepth 100000 in
theorem SameAnswers_true (ad bd : Option Addr) (ca cb : Nat) (L : List (List Tm)) (w : World) (hl : SlR w ad L) (hm : SlR w bd L) (h200 : L.length ≤ 9223372036854775807) (hr : ∀ r ∈ L, r.length ≤ 9223372036854775807) :
    Calls Tryz.prog 11 #[.slice ad L.length ca, .slice bd L.length cb] w fun e w' => e = .returned (.bool true) ∧ RowKit.Below w.heap.size w w' := by
  have Hl := hideQ hl
  have Hm := hideQ hm
  have Hr := hideQ hr
  clear hl hm hr
  have hd : ((L.length : Int) != (L.length : Int)) = false := by simp
  go_enter Tryz.func11, Tryz.ntmps11
  go_wp2_with fail
  go_loopw [5, 6] (fun i _ wr => ∃ (k : Nat), k ≤ L.length ∧ i = .int .i64 k ∧ RowKit.Below w.heap.size w wr) (fun i _ wr => L.length - (intOf i).toNat)
  case atStart => exact ⟨0, by omega, rfl, RowKit.Below.refl _ _⟩
  case round =>
    obtain ⟨k, hk, rfl, hbr⟩ := hrel
    by_cases hlt : k < L.length
    · obtain ⟨b, o, rd, rc, rfl, c, s⟩ := (Hl.out.below hbr).at k hlt
      obtain ⟨b', o', rd', rc', rfl, c', s'⟩ := (Hm.out.below hbr).at k hlt
      have i0 : (0 : Int) ≤ (k : Int) := by omega
      have i1 : (k : Int) < (L.length : Int) := by omega
      have HT : ∀ n : Lat wr, Calls Tryz.prog 10 #[.slice rd L[k].length rc, .slice rd' L[k].length rc'] n.val fun e w' => e = .returned (.bool true) ∧ RowKit.Below n.val.heap.size n.val w' := fun n => SameTermsQ_true rd rd' rc rc' L[k] n.val (s.below n.low) (s'.below n.low) (Hr.out _ (List.getElem_mem hlt))
      have hne := lat_some wr
      have q0 := lat_cell c
      have q1 := lat_cell c'
      clear s s' c c'
      generalize L[k].length = m at *
      go_wp2_with fail
      refine lat_region (by kernel_rfl) (by kernel_rfl) ?_
      repeat (go_big_quiet_step (fail))
      go_big_quiet_step (exact lat_call (HT _))
      repeat (go_big_quiet_step (fail))
      refine wpQuiet_nil ?_
      intro w3 hw'
      obtain ⟨nW, rfl⟩ := hw'
      have hb3 := nW.low
      generalize nW.val = w3 at *
      clear q0 q1 hne HT
      go_wp2_with fail
      go_roundw
      case rel => exact ⟨k + 1, by omega, by go_num, bstep hbr hb3⟩
      case measure => simp [intOf]; omega
    · go_wp2
      go_ret
      exact ⟨rfl, hbr⟩
end Go.Proofs.YtcdbcoaiadipjaaGreat

/- stratasame.Terms of any two lists of terms. -/
namespace Go.Proofs.YtcdbcoaiadipjaaGreat
open Go Go.RowKit Go.Proofs Go.Maps
set_option synthInstance.maxSize 1000
attribute [local go_sem ↓] neqTerm

set_option maxHeartbeats 4000000 in
set_option maxRecDepth 100000 in
theorem SameTermsQ_any (ad bd : Option Addr) (ca cb : Nat) (l m : List Tm) (w : World) (hl : SlQ w ad l) (hm : SlQ w bd m) (h200 : l.length ≤ 9223372036854775807) :
    Calls Tryz.prog 10 #[.slice ad l.length ca, .slice bd m.length cb] w fun e w' => e = .returned (.bool (decide (l = m))) ∧ RowKit.Below w.heap.size w w' := by
  have Hl := hideQ hl
  have Hm := hideQ hm
  obtain ⟨R, hR⟩ : ∃ R, R = decide (l = m) := ⟨_, rfl⟩
  rw [← hR]
  have HR := hideQ hR
  clear hl hm hR
  by_cases hn : l.length = m.length
  · obtain ⟨n, hnl⟩ : ∃ n, n = l.length := ⟨_, rfl⟩
    have hnm : n = m.length := hnl.trans hn
    rw [← hnl, ← hnm]
    rw [← hnl] at h200
    have Hnl := hideQ hnl
    have Hnm := hideQ hnm
    clear hnl hnm hn
    have hd : ((n : Int) != (n : Int)) = false := by simp
    go_enter Tryz.func10, Tryz.ntmps10
    go_wp2_with fail
    go_loopw [5] (fun i wr => ∃ (k q : Nat), k ≤ n ∧ i = .int .i64 k ∧ wr = w.drewN q ∧ Hid (∀ j, j < k → l[j]? = m[j]?)) (fun i wr => n - (intOf i).toNat)
    case atStart => exact ⟨0, 0, by omega, rfl, rfl, fun j hj => absurd hj (Nat.not_lt_zero j)⟩
    case round =>
      obtain ⟨k, q, hk, rfl, rfl, hpre⟩ := hrel
      by_cases hlt : k < n
      · have hkl : k < l.length := by rw [← Hnl.out]; exact hlt
        have hkm : k < m.length := by rw [← Hnm.out]; exact hlt
        obtain ⟨b, o, rfl, e0, e1, e2⟩ := Hl.out.at k hkl
        obtain ⟨b', o', rfl, f0, f1, f2⟩ := Hm.out.at k hkm
        have i0 : (0 : Int) ≤ (k : Int) := by omega
        have i1 : (k : Int) < (n : Int) := by omega
        have t1 : decide ((k : Int) < (n : Int)) = true := by simp; omega
        have hlk := List.getElem?_eq_getElem hkl
        have hmk := List.getElem?_eq_getElem hkm
        by_cases he : l[k] = m[k]
        · have hnx : Hid (∀ j, j < k + 1 → l[j]? = m[j]?) := fun j hj => by
            by_cases hjk : j < k
            · exact hpre.out j hjk
            · obtain rfl : j = k := by omega
              rw [hlk, hmk, he]
          have tE : eqTB l[k].1 l[k].2.1 l[k].2.2 m[k].1 m[k].2.1 m[k].2.2 = true := by rw [eqTB_tm]; simp [he]
          clear hlk hmk he
          generalize l[k] = x at *
          generalize m[k] = y at *
          clear hkl hkm
          go_wp2_with fail
          go_region
          go_wp2
          exact ⟨⟨k + 1, q + 1, by omega, by go_num, rfl, hnx⟩, by simp [intOf]; omega⟩
        · have tE : eqTB l[k].1 l[k].2.1 l[k].2.2 m[k].1 m[k].2.1 m[k].2.2 = false := by rw [eqTB_tm]; simp [he]
          have hf : Hid (R = false) := by
            show R = false
            rw [HR.out]
            refine decide_eq_false fun h => he ?_
            subst h
            rfl
          clear hlk hmk he
          generalize l[k] = x at *
          generalize m[k] = y at *
          clear hkl hkm
          go_wp2_with fail
          go_region
          go_wp2
          go_ret
          exact ⟨by rw [hf.out]; rfl, ⟨rfl, rfl, rfl, Nat.le_refl _, fun _ _ => rfl⟩⟩
      · obtain rfl : k = n := by omega
        have t1 : decide ((k : Int) < (k : Int)) = false := by simp
        have ht : Hid (R = true) := by
          show R = true
          rw [HR.out]
          refine decide_eq_true (List.ext_getElem? fun j => ?_)
          by_cases hj : j < k
          · exact hpre.out j hj
          · rw [List.getElem?_eq_none (by rw [← Hnl.out]; omega), List.getElem?_eq_none (by rw [← Hnm.out]; omega)]
        go_wp2
        go_ret
        exact ⟨by rw [ht.out]; rfl, ⟨rfl, rfl, rfl, Nat.le_refl _, fun _ _ => rfl⟩⟩
  · have hd : ((l.length : Int) != (m.length : Int)) = true := by simp; omega
    have hf : Hid (R = false) := by
      show R = false
      rw [HR.out]
      exact decide_eq_false fun h => hn (by rw [h])
    generalize l.length = a at *
    generalize m.length = b at *
    go_enter Tryz.func10, Tryz.ntmps10
    go_wp2_with fail
    go_ret
    exact ⟨by rw [hf.out]; rfl, RowKit.Below.refl _ _⟩
end Go.Proofs.YtcdbcoaiadipjaaGreat

/- A law's code, in pieces. -/
namespace Go.Proofs.YtcdbcoaiadipjaaGreat
open Go Go.Proofs

/-- the first region of a piece of code, and the piece that begins with one -/
def leftmost : Code → Option Nat
  | .region n _ _ => some n
  | .seq a _ => leftmost a
  | .block _ c => leftmost c
  | .loop c => leftmost c
  | .scope c => leftmost c
  | _ => none
def findAt (n : Nat) : Code → Option Code
  | .region m o b => if m = n then some (.region m o b) else none
  | .seq a b => if leftmost a = some n then some (.seq a b) else match findAt n a with
    | some c => some c
    | none => findAt n b
  | .block m c => if leftmost c = some n then some (.block m c) else findAt n c
  | .loop c => if leftmost c = some n then some (.loop c) else findAt n c
  | .scope c => if leftmost c = some n then some (.scope c) else findAt n c
  | .cond _ a b => match findAt n a with
    | some c => some c
    | none => findAt n b
  | _ => none
def codeOf (b : Option Code) (n : Nat) : Code := ((b.bind (findAt n)).getD .skip)
/-- a region alone -/
def regAt (n : Nat) : Code → Option Code
  | .region m o b => if m = n then some (.region m o b) else none
  | .seq a b => match regAt n a with
    | some c => some c
    | none => regAt n b
  | .block _ c => regAt n c
  | .loop c => regAt n c
  | .scope c => regAt n c
  | .cond _ a b => match regAt n a with
    | some c => some c
    | none => regAt n b
  | _ => none
def regOf (b : Option Code) (n : Nat) : Code := ((b.bind (regAt n)).getD .skip)
theorem go_on {P : Program} {c : Code} {Q0 : Exit → Act → World → Prop} {K : Act → World → Prop} {a : Act} {w : World} (h : ∀ a w, Code.wp P c Q0 a w → K a w) (hc : Code.wp P c Q0 a w) : K a w := h a w hc
end Go.Proofs.YtcdbcoaiadipjaaGreat

/- SolveHolds, its end: a limit cuts the answers off. -/
namespace Go.Proofs.YtcdbcoaiadipjaaGreat
open Go Go.RowKit Go.Proofs Go.Maps
set_option synthInstance.maxSize 1000
attribute [local go_sem] eql_errV neq_errV guard_errV

theorem hideH {p : Prop} (h : p) : Hid p := h
def HAns (w : World) (e : Ending) (w' : World) : Prop := e = .returned (.bool true) ∧ RowKit.Below w.heap.size w w'
/-- a block's cells may be written -/
def WetH (W : World) (B n : Nat) : Prop := ∀ j, j < n → W.frozen? ⟨B, j, none⟩ = false
theorem WetH.below {W W' : World} {B n : Nat} (h : WetH W B n) (hl : B < W.heap.size) (hb : RowKit.Below W.heap.size W W') : WetH W' B n := fun j hj => (hb.frozen hl).trans (h j hj)
theorem cell_wr {w : World} {a c : Addr} {x y : Value} (ha : w.cell? a = some y) (hc : w.cell? c = some x) (hx : x ≠ y) (u : Value) : (w.setCell a u).cell? c = some x := by
  refine (World.cell?_setCell_other w _ _ _ (fun h => ?_)).trans hc
  subst h
  rw [ha] at hc
  injection hc with hc
  exact hx hc.symm
theorem encQ_n1 {l : List Tm} (hk : ∀ x ∈ l, x.1 ≠ -1) {j : Nat} {v : Value} (h : (cellsQ l)[j]? = some v) : v ≠ .int .i64 (-1) := by
  have hm := List.mem_of_getElem? h
  obtain ⟨x, hx0, hx⟩ := List.mem_flatMap.1 hm
  simp only [encQ, List.mem_cons, List.not_mem_nil, or_false] at hx
  rcases hx with rfl | rfl | rfl
  · intro e
    injection e with _ e
    exact hk x hx0 e
  · intro e; cases e
  · intro e; cases e
theorem SlR.writeN {w : World} {ad : Option Addr} {L : List (List Tm)} {a : Addr} (h : SlR w ad L) (hk : ∀ r ∈ L, ∀ x ∈ r, x.1 ≠ -1) (ha : w.cell? a = some (.int .i64 (-1))) (u : Value) : SlR (w.setCell a u) ad L := fun hl => by
  obtain ⟨b, o, e, r⟩ := h hl
  refine ⟨b, o, e, fun j hj => ?_⟩
  obtain ⟨rd, rc, c, s⟩ := r j hj
  refine ⟨rd, rc, cell_wr ha c (by intro e; cases e) u, fun hq => ?_⟩
  obtain ⟨b', o', e', r'⟩ := s hq
  exact ⟨b', o', e', fun j v hv => cell_wr ha (r' j v hv) (encQ_n1 (hk _ (List.getElem_mem hj)) hv) u⟩
/-- Solve may be asked, of these parts and variables -/
def SolveOK (ad : Option Addr) (ca : Nat) (S : List Tr) (q : Qu) (vd pd : Option Addr) (vc pc : Nat) (w : World) : Prop := ∀ W, RowKit.Below w.heap.size w W → ∀ (d : Bool) (n : Int), (n = -1 ∨ n = 2) →
  Calls Tryz.prog 5 #[.slice ad S.length ca, .agg #[.slice vd q.vars.length vc, .slice pd q.parts.length pc, .string ⟨q.order.toArray⟩, .bool q.down, .bool d, .int .i64 n]] W (SolveAns S { q with dist := d, lim := n } W)
/-- where SolveHolds stands, with all answers told -/
structure HSt (q : Qu) (vd pd : Option Addr) (vc pc : Nat) (yd : Option Addr) (all : List (List Tm)) (w W : World) : Prop where
  bel : RowKit.Below w.heap.size w W
  box : BoxQ W w.heap.size (plainQ q) vd pd vc pc
  wet : WetH W w.heap.size 6
  rows : SlR W yd all
theorem HSt.below {q : Qu} {vd pd : Option Addr} {vc pc : Nat} {yd : Option Addr} {all : List (List Tm)} {w W W' : World} (h : HSt q vd pd vc pc yd all w W) (hb : RowKit.Below W.heap.size W W') : HSt q vd pd vc pc yd all w W' :=
  ⟨bstep h.bel hb, h.box.below hb, h.wet.below (World.block_lt_of_cell? W _ h.box.c0) hb, h.rows.below hb⟩

set_option maxHeartbeats 16000000 in
set_option maxRecDepth 1000000 in
theorem shTail3 (u1 u2 u4 u5 u6 u7 u8 u10 u11 u12 u13 u14 u15 u16 u17 u18 u19 u20 u21 u22 u23 u24 u25 u26 u27 u28 u29 u30 u31 u32 u33 u34 u35 u36 u37 u38 u39 u40 u41 u42 u43 u44 u45 u46 u47 u48 u49 u50 u51 u52 u53 u54 u55 u56 u57 u58 u59 u60 u61 u62 u63 u64 u65 u66 u67 u68 u69 u70 u71 u72 u73 u74 u75 u76 u77 u78 u79 u80 u81 u82 u83 u84 u85 u86 u87 u88 u89 u90 u91 u92 u93 u94 u95 u96 u97 u98 u99 u100 u101 u102 u103 u104 u105 u106 u107 u108 u109 u110 u111 u112 u113 u114 u115 u116 u117 u118 u119 u120 u121 u122 u123 u124 u125 u126 u127 u128 u129 u130 u131 u132 u133 u134 u135 u136 u137 u138 u139 u140 u141 u142 u143 u144 u145 u146 u147 u148 u149 u150 u151 u152 u153 u154 u155 u156 u157 u158 u159 u160 u161 u162 u163 u164 u165 u166 u167 u168 u169 u170 u171 u172 u173 u174 u175 u176 u177 u178 u179 u180 u181 u182 u183 u184 u185 u186 u187 u188 u189 u190 u191 u192 u193 u194 u195 u196 u197 u198 u199 u200 u201 u202 u203 u204 u205 u206 u207 u208 u209 u210 u211 u212 u213 u214 u215 u216 u217 u218 u219 u220 u221 u222 u223 u224 u225 u226 u227 u228 u229 u230 u231 u232 u233 u234 u235 u236 : Value) (ad : Option Addr) (ca : Nat) (S : List Tr) (q : Qu) (vd pd : Option Addr) (vc pc yb yc : Nat) (all : List (List Tm)) (w W : World) (hC : SolveOK ad ca S q vd pd vc pc w) (hF : HoldsF S q all) (hcap : all.length ≤ yc) (h : HSt q vd pd vc pc (some ⟨yb, 0, none⟩) all w W) :
    Code.wp Tryz.prog (codeOf Tryz.f3.body 45) (bodyPost Tryz.prog Tryz.f3 (HAns w)) ⟨#[.slice ad S.length ca, u1, u2, .pointer (some ⟨w.heap.size, 0, none⟩), u4, u5, u6, u7, u8, .slice (some ⟨yb, 0, none⟩) all.length yc, u10, u11, u12, u13, u14, u15, u16, u17, u18, u19, u20, u21, u22, u23, u24, u25, u26, u27, u28, u29, u30, u31, u32, u33, u34, u35, u36, u37, u38, u39, u40, u41, u42, u43, u44, u45, u46, u47, u48, u49, u50, u51, u52, u53, u54, u55, u56, u57, u58, u59, u60, u61, u62, u63, u64, u65, u66, u67, u68, u69, u70, u71, u72, u73, u74, u75, u76, u77, u78, u79, u80, u81, u82, u83, u84, u85, u86, u87, u88, u89, u90, u91, u92, u93, u94, u95, u96, u97, u98, u99, u100, u101, u102, u103, u104, u105, u106, u107, u108, u109, u110, u111, u112, u113, u114, u115, u116, u117, u118, u119, u120, u121, u122, u123, u124, u125, u126, u127, u128, u129, u130, u131, u132, u133, u134, u135, u136, u137, u138, u139, u140, u141, u142, u143, u144, u145, u146, u147, u148, u149, u150, u151, u152, u153, u154, u155, u156, u157, u158, u159, u160, u161, u162, u163, u164, u165, u166, u167, u168, u169, u170, u171, u172, u173, u174, u175, u176, u177, u178, u179, u180, u181, u182, u183, u184, u185, u186, u187, u188, u189, u190, u191, u192, u193, u194, u195, u196, u197, u198, u199, u200, u201, u202, u203, u204, u205, u206, u207, u208, u209, u210, u211, u212, u213, u214, u215, u216, u217, u218, u219, u220, u221, u222, u223, u224, u225, u226, u227, u228, u229, u230, u231, u232, u233, u234, u235, u236], []⟩ W := by
  obtain ⟨W1, hW1⟩ : ∃ W1, W1 = W.setCell ⟨w.heap.size, 5, none⟩ (.int .i64 2) := ⟨_, rfl⟩
  obtain ⟨c0, c1, c2, c3, c4, c5⟩ := h.box
  have f5 := h.wet 5 (by omega)
  dsimp only [plainQ] at c0 c1 c2 c3 c4 c5
  have hB1 : RowKit.Below w.heap.size w W1 := by rw [hW1]; exact h.bel.setCell (p := ⟨w.heap.size, 5, none⟩) (Nat.le_refl _) _
  have hR1 := hideH (show SlR W1 (some ⟨yb, 0, none⟩) all by rw [hW1]; exact h.rows.writeN hF.kind c5 _)
  have g0 : W1.cell? ⟨w.heap.size, 0, none⟩ = some (.slice vd q.vars.length vc) := by rw [hW1]; go_simp
  have g1 : W1.cell? ⟨w.heap.size, 1, none⟩ = some (.slice pd q.parts.length pc) := by rw [hW1]; go_simp
  have g2 : W1.cell? ⟨w.heap.size, 2, none⟩ = some (.string ⟨q.order.toArray⟩) := by rw [hW1]; go_simp
  have g3 : W1.cell? ⟨w.heap.size, 3, none⟩ = some (.bool q.down) := by rw [hW1]; go_simp
  have g4 : W1.cell? ⟨w.heap.size, 4, none⟩ = some (.bool false) := by rw [hW1]; go_simp
  have g5 : W1.cell? ⟨w.heap.size, 5, none⟩ = some (.int .i64 2) := by rw [hW1]; go_simp
  have hlL : solveL S { q with dist := false, lim := 2 } = all.take 2 := hF.lL
  have hlN : solveN S { q with dist := false, lim := 2 } = 0 := hF.lN
  have HC : Calls Tryz.prog 5 #[.slice ad S.length ca, .agg #[.slice vd q.vars.length vc, .slice pd q.parts.length pc, .string ⟨q.order.toArray⟩, .bool q.down, .bool false, .int .i64 2]] W1 fun e w' => RowKit.Below W1.heap.size W1 w' ∧ ∃ xd xc, e = .returned (.tuple #[.slice xd (all.take 2).length xc, .nilIface]) ∧ SlR w' xd (all.take 2) :=
    (hC W1 hB1 false 2 (Or.inr rfl)).mono fun e w' ⟨h1, xd, xc, h2, h3, _⟩ => ⟨h1, xd, xc, by rw [h2, hlL, hlN]; rfl, by rw [← hlL]; exact h3⟩
  have hlen := hF.len
  have hle := hF.le
  have hv8 := hF.v8
  have hw1 := World.block_lt_of_cell? W _ c0
  clear hlL hlN hC hF h
  conv => arg 2; whnf
  dsimp only
  go_upto_region 46 with fail
  rw [← hW1]
  clear hW1 c0 c1 c2 c3 c4 c5 f5 hw1
  go_wp2_with fail
  refine HC.mono ?_
  rintro e w2 ⟨hb2, xd, xc, rfl, hx⟩
  have hB2 := bstep hB1 hb2
  have hR2 := hideH (hR1.out.below hb2)
  have Hx := hideH hx
  have Hlen := hideH hlen
  clear hx hb2 hR1 hB1 HC g0 g1 g2 g3 g4 g5 hlen
  dsimp only
  by_cases h2 : all.length < 2
  · have e2 : all.take 2 = all := List.take_of_length_le (by omega)
    rw [e2] at Hx ⊢
    have HA := SameAnswers_true xd (some ⟨yb, 0, none⟩) xc yc all w2 Hx.out hR2.out (by omega) (fun r hr => by have := Hlen.out r hr; omega)
    clear e2
    generalize all.length = n at *
    have t1 : decide ((n : Int) < 2) = true := by simp; omega
    have l0 : (0 : Int) ≤ (n : Int) := by omega
    have l1 : (n : Int) ≤ (yc : Int) := by omega
    go_wp2_with fail
    refine HA.mono ?_
    rintro e w3 ⟨rfl, hb3⟩
    have hB3 := bstep hB2 hb3
    dsimp only
    go_wp2_with fail
    go_ret
    exact ⟨rfl, hB3⟩
  · have e2 : (all.take 2).length = 2 := by simp; omega
    have HA : Calls Tryz.prog 11 #[.slice xd 2 xc, .slice (some ⟨yb, 0, none⟩) 2 yc] w2 fun e w' => e = .returned (.bool true) ∧ RowKit.Below w2.heap.size w2 w' := by
      have := SameAnswers_true xd (some ⟨yb, 0, none⟩) xc yc (all.take 2) w2 Hx.out (hR2.out.take 2) (by omega) (fun r hr => by have := Hlen.out r (List.mem_of_mem_take hr); omega)
      rw [e2] at this
      exact this
    rw [e2]
    clear e2
    generalize all.length = n at *
    have t1 : decide ((n : Int) < 2) = false := by simp; omega
    have l1 : (2 : Int) ≤ (yc : Int) := by omega
    go_wp2_with fail
    refine HA.mono ?_
    rintro e w3 ⟨rfl, hb3⟩
    have hB3 := bstep hB2 hb3
    dsimp only
    go_wp2_with fail
    go_ret
    exact ⟨rfl, hB3⟩
end Go.Proofs.YtcdbcoaiadipjaaGreat

/- SolveHolds, told once each: fewer, and no two alike. -/
namespace Go.Proofs.YtcdbcoaiadipjaaGreat
open Go Go.RowKit Go.Proofs Go.Maps
set_option synthInstance.maxSize 1000
attribute [local go_sem] eql_errV neq_errV guard_errV

set_option maxHeartbeats 16000000 in
set_option maxRecDepth 1000000 in
theorem shTail2 (u1 u2 u4 u5 u6 u7 u8 u10 u11 u12 u13 u14 u15 u16 u17 u18 u19 u20 u21 u22 u23 u24 u25 u26 u27 u28 u29 u30 u31 u32 u33 u34 u35 u36 u37 u38 u39 u40 u41 u42 u43 u44 u45 u46 u47 u48 u49 u50 u51 u52 u53 u54 u55 u56 u57 u58 u59 u60 u61 u62 u63 u64 u65 u66 u67 u68 u69 u70 u71 u72 u73 u74 u75 u76 u77 u78 u79 u80 u81 u82 u83 u84 u85 u86 u87 u88 u89 u90 u91 u92 u93 u94 u95 u96 u97 u98 u99 u100 u101 u102 u103 u104 u105 u106 u107 u108 u109 u110 u111 u112 u113 u114 u115 u116 u117 u118 u119 u120 u121 u122 u123 u124 u125 u126 u127 u128 u129 u130 u131 u132 u133 u134 u135 u136 u137 u138 u139 u140 u141 u142 u143 u144 u145 u146 u147 u148 u149 u150 u151 u152 u153 u154 u155 u156 u157 u158 u159 u160 u161 u162 u163 u164 u165 u166 u167 u168 u169 u170 u171 u172 u173 u174 u175 u176 u177 u178 u179 u180 u181 u182 u183 u184 u185 u186 u187 u188 u189 u190 u191 u192 u193 u194 u195 u196 u197 u198 u199 u200 u201 u202 u203 u204 u205 u206 u207 u208 u209 u210 u211 u212 u213 u214 u215 u216 u217 u218 u219 u220 u221 u222 u223 u224 u225 u226 u227 u228 u229 u230 u231 u232 u233 u234 u235 u236 : Value) (ad : Option Addr) (ca : Nat) (S : List Tr) (q : Qu) (vd pd : Option Addr) (vc pc yb yc : Nat) (all : List (List Tm)) (w W : World) (hC : SolveOK ad ca S q vd pd vc pc w) (hF : HoldsF S q all) (hcap : all.length ≤ yc) (h : HSt q vd pd vc pc (some ⟨yb, 0, none⟩) all w W) :
    Code.wp Tryz.prog (codeOf Tryz.f3.body 34) (bodyPost Tryz.prog Tryz.f3 (HAns w)) ⟨#[.slice ad S.length ca, u1, u2, .pointer (some ⟨w.heap.size, 0, none⟩), u4, u5, u6, u7, u8, .slice (some ⟨yb, 0, none⟩) all.length yc, u10, u11, u12, u13, u14, u15, u16, u17, u18, u19, u20, u21, u22, u23, u24, u25, u26, u27, u28, u29, u30, u31, u32, u33, u34, u35, u36, u37, u38, u39, u40, u41, u42, u43, u44, u45, u46, u47, u48, u49, u50, u51, u52, u53, u54, u55, u56, u57, u58, u59, u60, u61, u62, u63, u64, u65, u66, u67, u68, u69, u70, u71, u72, u73, u74, u75, u76, u77, u78, u79, u80, u81, u82, u83, u84, u85, u86, u87, u88, u89, u90, u91, u92, u93, u94, u95, u96, u97, u98, u99, u100, u101, u102, u103, u104, u105, u106, u107, u108, u109, u110, u111, u112, u113, u114, u115, u116, u117, u118, u119, u120, u121, u122, u123, u124, u125, u126, u127, u128, u129, u130, u131, u132, u133, u134, u135, u136, u137, u138, u139, u140, u141, u142, u143, u144, u145, u146, u147, u148, u149, u150, u151, u152, u153, u154, u155, u156, u157, u158, u159, u160, u161, u162, u163, u164, u165, u166, u167, u168, u169, u170, u171, u172, u173, u174, u175, u176, u177, u178, u179, u180, u181, u182, u183, u184, u185, u186, u187, u188, u189, u190, u191, u192, u193, u194, u195, u196, u197, u198, u199, u200, u201, u202, u203, u204, u205, u206, u207, u208, u209, u210, u211, u212, u213, u214, u215, u216, u217, u218, u219, u220, u221, u222, u223, u224, u225, u226, u227, u228, u229, u230, u231, u232, u233, u234, u235, u236], []⟩ W := by
  obtain ⟨W1, hW1⟩ : ∃ W1, W1 = W.alloc (.cells #[.slice vd q.vars.length vc, .slice pd q.parts.length pc, .string ⟨q.order.toArray⟩, .bool q.down, .bool true, .int .i64 (-1)] 26) := ⟨_, rfl⟩
  obtain ⟨c0, c1, c2, c3, c4, c5⟩ := h.box
  dsimp only [plainQ] at c0 c1 c2 c3 c4 c5
  have hb1 : RowKit.Below W.heap.size W W1 := by rw [hW1]; exact balloc _ _
  have g0 : W1.cell? ⟨W.heap.size, 0, none⟩ = some (.slice vd q.vars.length vc) := by rw [hW1]; go_simp
  have g1 : W1.cell? ⟨W.heap.size, 1, none⟩ = some (.slice pd q.parts.length pc) := by rw [hW1]; go_simp
  have g2 : W1.cell? ⟨W.heap.size, 2, none⟩ = some (.string ⟨q.order.toArray⟩) := by rw [hW1]; go_simp
  have g3 : W1.cell? ⟨W.heap.size, 3, none⟩ = some (.bool q.down) := by rw [hW1]; go_simp
  have g4 : W1.cell? ⟨W.heap.size, 4, none⟩ = some (.bool true) := by rw [hW1]; go_simp
  have g5 : W1.cell? ⟨W.heap.size, 5, none⟩ = some (.int .i64 (-1)) := by rw [hW1]; go_simp
  have HH := hideH (h.below hb1)
  obtain ⟨few, hfew⟩ : ∃ few, few = solveL S (distQ q) := ⟨_, rfl⟩
  have hlL : solveL S { q with dist := true, lim := -1 } = few := by rw [hfew]; rfl
  have hlN : solveN S { q with dist := true, lim := -1 } = 0 := hF.dN
  have hdL : few.length ≤ all.length := by rw [hfew]; exact hF.dL
  have hdO := hideH (show few.Nodup by rw [hfew]; exact hF.dO)
  have hdR := hideH (show ∀ r ∈ few, r.length = q.vars.length by rw [hfew]; exact hF.dR)
  have HC : Calls Tryz.prog 5 #[.slice ad S.length ca, .agg #[.slice vd q.vars.length vc, .slice pd q.parts.length pc, .string ⟨q.order.toArray⟩, .bool q.down, .bool true, .int .i64 (-1)]] W1 fun e w' => RowKit.Below W1.heap.size W1 w' ∧ ∃ xd xc, e = .returned (.tuple #[.slice xd few.length xc, .nilIface]) ∧ SlR w' xd few :=
    (hC W1 HH.out.bel true (-1) (Or.inl rfl)).mono fun e w' ⟨h1, xd, xc, h2, h3, _⟩ => ⟨h1, xd, xc, by rw [h2, hlL, hlN]; rfl, by rw [← hlL]; exact h3⟩
  have hle := hF.le
  have hv8 := hF.v8
  have hw1 := World.block_lt_of_cell? W _ c0
  have HF := hideH hF
  have HCO := hideH hC
  clear hlL hlN hC hF h hfew
  conv => arg 2; whnf
  dsimp only
  go_upto_region 36 with fail
  rw [← hW1]
  clear hW1 c0 c1 c2 c3 c4 c5 hw1
  go_wp2_with fail
  refine HC.mono ?_
  rintro e w2 ⟨hb2, xd, xc, rfl, hx⟩
  have H2 := hideH (HH.out.below hb2)
  have Hx := hideH hx
  clear hx hb2 hb1 HC g0 g1 g2 g3 g4 g5 HH
  dsimp only
  have t1 : decide (all.length < few.length) = false := by simp; omega
  obtain ⟨n, hn⟩ : ∃ n, n = few.length := ⟨_, rfl⟩
  rw [← hn] at t1 hdL ⊢
  have Hn := hideH hn
  clear hn
  go_upto_block 6 with fail
  go_cut [23, 24] from 198 to 214 (fun _ _ W' => Hid (RowKit.Below w2.heap.size w2 W'))
  case rest =>
    refine go_on (by assumption) ?_
    exact shTail3 _ _ _ _ _ _ _ _ _ _ _ _ _ _ _ _ _ _ _ _ _ _ _ _ _ _ _ _ _ _ _ _ _ _ _ _ _ _ _ _ _ _ _ _ _ _ _ _ _ _ _ _ _ _ _ _ _ _ _ _ _ _ _ _ _ _ _ _ _ _ _ _ _ _ _ _ _ _ _ _ _ _ _ _ _ _ _ _ _ _ _ _ _ _ _ _ _ _ _ _ _ _ _ _ _ _ _ _ _ _ _ _ _ _ _ _ _ _ _ _ _ _ _ _ _ _ _ _ _ _ _ _ _ _ _ _ _ _ _ _ _ _ _ _ _ _ _ _ _ _ _ _ _ _ _ _ _ _ _ _ _ _ _ _ _ _ _ _ _ _ _ _ _ _ _ _ _ _ _ _ _ _ _ _ _ _ _ _ _ _ _ _ _ _ _ _ _ _ _ _ _ _ _ _ _ _ _ _ _ _ _ _ _ _ _ _ _ _ _ _ _ _ _ _ _ _ _ _ _ _ _ _ _ _ ad ca S q vd pd vc pc yb yc all w wc HCO.out HF.out hcap (H2.out.below hcut.out)
  case first =>
    go_wp2_with fail
    go_loopw [23, 24] (fun i _ wr => ∃ j : Nat, (j + 1 ≤ n ∨ j = 0) ∧ i = .int .i64 ((j + 1 : Nat) : Int) ∧ Hid (RowKit.Below w2.heap.size w2 wr)) (fun i _ wr => n - (intOf i).toNat)
    case atStart => exact ⟨0, Or.inr rfl, rfl, RowKit.Below.refl _ _⟩
    case round =>
      obtain ⟨j, hj, rfl, hbr⟩ := hrel
      by_cases hlt : j + 1 < n
      · have hj1 : j + 1 < few.length := by rw [← Hn.out]; exact hlt
        obtain ⟨b, o, rd, rc, e1, d1, s1⟩ := (Hx.out.below hbr.out).at j (by omega)
        obtain ⟨b', o', rd', rc', e2, d2, s2⟩ := (Hx.out.below hbr.out).at (j + 1) hj1
        rw [e1] at e2
        injection e2 with e2
        injection e2 with e2 e3
        subst e2 e3 e1
        have hne : few[j] ≠ few[j + 1] := once_next hdO.out hj1
        have l1 := hdR.out _ (List.getElem_mem (show j < few.length by omega))
        have HT : ∀ m : Lat wr, Calls Tryz.prog 10 #[.slice rd few[j].length rc, .slice rd' few[j + 1].length rc'] m.val fun e w' => e = .returned (.bool false) ∧ RowKit.Below m.val.heap.size m.val w' := fun m => by
          have := SameTermsQ_any rd rd' rc rc' few[j] few[j + 1] m.val (s1.below m.low) (s2.below m.low) (by omega)
          rw [decide_eq_false hne] at this
          exact this
        have hnn := lat_some wr
        have q0 := lat_cell d1
        have q1 := lat_cell d2
        have i0 : (0 : Int) ≤ (j : Int) := by omega
        have i1 : (j : Int) < (n : Int) := by omega
        have i2 : (0 : Int) ≤ (j : Int) + 1 := by omega
        have i3 : (j : Int) + 1 < (n : Int) := by omega
        have t2 : decide ((j : Int) + 1 < (n : Int)) = true := by simp; omega
        clear s1 s2 d1 d2 hne l1
        generalize few[j].length = m1 at *
        generalize few[j + 1].length = m2 at *
        clear hj1
        go_wp2_with fail
        refine lat_region (by kernel_rfl) (by kernel_rfl) ?_
        repeat (go_big_quiet_step (fail))
        go_big_quiet_step (exact lat_call (HT _))
        repeat (go_big_quiet_step (fail))
        refine wpQuiet_nil ?_
        intro w3 hw'
        obtain ⟨nW, rfl⟩ := hw'
        have hb3 := nW.low
        generalize nW.val = w3 at *
        clear q0 q1 hnn HT
        go_wp2_with fail
        go_roundw
        case rel => first | exact ⟨j + 1, Or.inl (by omega), by go_num, bstep hbr.out hb3⟩ | ((repeat apply Exists.intro); refine ⟨⟨j + 1, Or.inl (by omega), ?_, bstep hbr.out hb3⟩, rfl⟩; go_num)
        case measure => simp [intOf]; omega
      · have t2 : decide ((j : Int) + 1 < (n : Int)) = false := by simp; omega
        go_wp2_with fail
        go_meet
        case rel => exact hbr
end Go.Proofs.YtcdbcoaiadipjaaGreat

/- What Bind gives, variable by variable, in plain lists. -/
namespace Go.Proofs.YtcdbcoaiadipjaaGreat
open Go Go.RowKit Go.Proofs
set_option synthInstance.maxSize 1000

/-- what is given to a pattern's own variables -/
def gvE (p : Pt) (vars : List (List UInt8)) (vals : List Tm) : List UInt8 → Option Tm := fun s => if s ∈ varsL p then boundT vars vals s else none
theorem boundT_app : ∀ (a : List (List UInt8)) (b : List Tm) (v : List UInt8) (t : Tm) (s : List UInt8), a.length = b.length →
    boundT (a ++ [v]) (b ++ [t]) s = (match boundT a b s with
      | some x => some x
      | none => if v = s ∧ s ≠ [] then some t else none)
  | [], [], v, t, s, _ => by simp [boundT]
  | [], y :: b, v, t, s, h => by simp at h
  | x :: a, [], v, t, s, h => by simp at h
  | x :: a, y :: b, v, t, s, h => by
    simp only [List.cons_append, boundT]
    by_cases e : x = s ∧ s ≠ []
    · rw [if_pos e, if_pos e]
    · rw [if_neg e, if_neg e]
      exact boundT_app a b v t s (by simpa using h)
theorem gvE_nil (p : Pt) : gvE p [] [] = fun _ => none := by
  funext s
  simp [gvE, boundT]
theorem gvE_fill {p : Pt} {vars : List (List UInt8)} {vals : List Tm} {s : Sl} (h : s.1 = p.1.1 ∨ s.1 = p.2.1.1 ∨ s.1 = p.2.2.1) : (match gvE p vars vals s.1 with
    | some x => (([], x) : Sl)
    | none => s) = bindS vars vals s := by
  unfold bindS gvE
  by_cases e : s.1 = []
  · have hb : ∀ (a : List (List UInt8)) (b : List Tm), boundT a b ([] : List UInt8) = none := by
      intro a
      induction a with
      | nil => intro b; cases b <;> rfl
      | cons x a ih => intro b; cases b with
        | nil => rfl
        | cons y b => simp [boundT, ih]
    rw [e, hb]
    split <;> rename_i h' <;> first | rfl | (split at h' <;> simp at h')
  · rw [if_pos (varsL_mem.2 ⟨e, h⟩)]
    cases boundT vars vals s.1 <;> rfl
theorem terms_first {vals : List Tm} {k : Nat} (hk : k < vals.length) (h0 : termsN (vals.take k) = 0) (h : tmChk vals[k] ≠ 0) : termsN vals = tmChk vals[k] := by
  induction vals generalizing k with
  | nil => simp at hk
  | cons x r ih =>
    cases k with
    | zero => simp only [List.getElem_cons_zero] at h ⊢; simp [termsN, h]
    | succ k =>
      simp only [List.take_succ_cons, termsN] at h0
      split at h0
      · rename_i hx
        simp only [List.getElem_cons_succ] at h ⊢
        simp only [termsN]
        rw [if_pos hx]
        exact ih (by simpa using hk) h0 h
      · rename_i hx
        exact absurd h0 hx
theorem terms_next {vals : List Tm} {k : Nat} (hk : k < vals.length) (h0 : termsN (vals.take k) = 0) (h : tmChk vals[k] = 0) : termsN (vals.take (k + 1)) = 0 := by
  induction vals generalizing k with
  | nil => simp at hk
  | cons x r ih =>
    cases k with
    | zero => simp only [List.getElem_cons_zero] at h; simp [termsN, h]
    | succ k =>
      simp only [List.take_succ_cons, termsN] at h0 ⊢
      split at h0
      · rename_i hx
        rw [if_pos hx]
        exact ih (by simpa using hk) h0 (by simpa using h)
      · rename_i hx
        exact absurd h0 hx
end Go.Proofs.YtcdbcoaiadipjaaGreat

/- The program's Bind: its end, the three slots filled. -/
namespace Go.Proofs.YtcdbcoaiadipjaaGreat
open Go Go.RowKit Go.Proofs Go.Maps
set_option synthInstance.maxSize 1000
attribute [local go_sem] eql_errV neq_errV guard_errV

theorem hideB {p : Prop} (h : p) : Hid p := h

theorem PatAt.same {W : World} {b j : Nat} {p : Pt} {v : Value} (h : PatAt W b p) (hj : (encPt p)[j]? = some v) : PatAt (W.setCell ⟨b, j, none⟩ v) b p := fun i u hi => by
  by_cases e : i = j
  · subst e
    rw [hj] at hi
    injection hi with hi
    subst hi
    exact World.cell?_setCell_same W _ _ (h i _ hj)
  · exact (World.cell?_setCell_other W _ _ _ (fun h => e (by simpa using congrArg Addr.off h.symm))).trans (h i u hi)
def zset (W : World) (b : Nat) : World := ((((((((((((W.setCell ⟨b, 0, none⟩ (.string ⟨#[]⟩)).setCell ⟨b, 1, none⟩ (.int .i64 0)).setCell ⟨b, 2, none⟩ (.string ⟨#[]⟩)).setCell ⟨b, 3, none⟩ (.string ⟨#[]⟩)).setCell ⟨b, 4, none⟩ (.string ⟨#[]⟩)).setCell ⟨b, 5, none⟩ (.int .i64 0)).setCell ⟨b, 6, none⟩ (.string ⟨#[]⟩)).setCell ⟨b, 7, none⟩ (.string ⟨#[]⟩)).setCell ⟨b, 8, none⟩ (.string ⟨#[]⟩)).setCell ⟨b, 9, none⟩ (.int .i64 0)).setCell ⟨b, 10, none⟩ (.string ⟨#[]⟩)).setCell ⟨b, 11, none⟩ (.string ⟨#[]⟩))
theorem zset_pat {W : World} {b : Nat} (h : PatAt W b patZero) : PatAt (zset W b) b patZero := ((((((((((((h.same (j := 0) rfl).same (j := 1) rfl).same (j := 2) rfl).same (j := 3) rfl).same (j := 4) rfl).same (j := 5) rfl).same (j := 6) rfl).same (j := 7) rfl).same (j := 8) rfl).same (j := 9) rfl).same (j := 10) rfl).same (j := 11) rfl)
theorem zset_below {a W : World} {B b : Nat} (h : RowKit.Below B a W) (hb : B ≤ b) : RowKit.Below B a (zset W b) := ((((((((((((h.setCell (p := ⟨b, 0, none⟩) hb _).setCell (p := ⟨b, 1, none⟩) hb _).setCell (p := ⟨b, 2, none⟩) hb _).setCell (p := ⟨b, 3, none⟩) hb _).setCell (p := ⟨b, 4, none⟩) hb _).setCell (p := ⟨b, 5, none⟩) hb _).setCell (p := ⟨b, 6, none⟩) hb _).setCell (p := ⟨b, 7, none⟩) hb _).setCell (p := ⟨b, 8, none⟩) hb _).setCell (p := ⟨b, 9, none⟩) hb _).setCell (p := ⟨b, 10, none⟩) hb _).setCell (p := ⟨b, 11, none⟩) hb _)

def pset (W : World) (b : Nat) (x : Pt) : World := ((((((((((((W.setCell ⟨b, 0, none⟩ (.string ⟨x.1.1.toArray⟩)).setCell ⟨b, 1, none⟩ (.int .i64 x.1.2.1)).setCell ⟨b, 2, none⟩ (.string ⟨x.1.2.2.1.toArray⟩)).setCell ⟨b, 3, none⟩ (.string ⟨x.1.2.2.2.toArray⟩)).setCell ⟨b, 4, none⟩ (.string ⟨x.2.1.1.toArray⟩)).setCell ⟨b, 5, none⟩ (.int .i64 x.2.1.2.1)).setCell ⟨b, 6, none⟩ (.string ⟨x.2.1.2.2.1.toArray⟩)).setCell ⟨b, 7, none⟩ (.string ⟨x.2.1.2.2.2.toArray⟩)).setCell ⟨b, 8, none⟩ (.string ⟨x.2.2.1.toArray⟩)).setCell ⟨b, 9, none⟩ (.int .i64 x.2.2.2.1)).setCell ⟨b, 10, none⟩ (.string ⟨x.2.2.2.2.1.toArray⟩)).setCell ⟨b, 11, none⟩ (.string ⟨x.2.2.2.2.2.toArray⟩))
theorem pset_pat {W : World} {b : Nat} {x y : Pt} (h : PatAt W b y) : PatAt (pset W b x) b x := fun j v hj => by
  obtain ⟨c0, c1, c2, c3, c4, c5, c6, c7, c8, c9, c10, c11⟩ := h.all
  have h12 : j < 12 := (List.getElem?_eq_some_iff.1 hj).1
  unfold pset
  rcases (by omega : j = 0 ∨ j = 1 ∨ j = 2 ∨ j = 3 ∨ j = 4 ∨ j = 5 ∨ j = 6 ∨ j = 7 ∨ j = 8 ∨ j = 9 ∨ j = 10 ∨ j = 11) with rfl | rfl | rfl | rfl | rfl | rfl | rfl | rfl | rfl | rfl | rfl | rfl
  all_goals
    simp [encPt] at hj
    subst hj
    go_simp
theorem pset_below {a W : World} {B b : Nat} {x : Pt} (h : RowKit.Below B a W) (hb : B ≤ b) : RowKit.Below B a (pset W b x) := ((((((((((((h.setCell (p := ⟨b, 0, none⟩) hb _).setCell (p := ⟨b, 1, none⟩) hb _).setCell (p := ⟨b, 2, none⟩) hb _).setCell (p := ⟨b, 3, none⟩) hb _).setCell (p := ⟨b, 4, none⟩) hb _).setCell (p := ⟨b, 5, none⟩) hb _).setCell (p := ⟨b, 6, none⟩) hb _).setCell (p := ⟨b, 7, none⟩) hb _).setCell (p := ⟨b, 8, none⟩) hb _).setCell (p := ⟨b, 9, none⟩) hb _).setCell (p := ⟨b, 10, none⟩) hb _).setCell (p := ⟨b, 11, none⟩) hb _)

abbrev S12B (bm j : Nat) (f : Ev) (B : Nat) (p : Pt) (W : World) : Prop := EvAt W bm j f ∧ W.cell? ⟨B, 0, none⟩ = some (.string ⟨p.1.1.toArray⟩) ∧ W.cell? ⟨B, 1, none⟩ = some (.int .i64 p.1.2.1) ∧ W.cell? ⟨B, 2, none⟩ = some (.string ⟨p.1.2.2.1.toArray⟩) ∧ W.cell? ⟨B, 3, none⟩ = some (.string ⟨p.1.2.2.2.toArray⟩) ∧ W.cell? ⟨B, 4, none⟩ = some (.string ⟨p.2.1.1.toArray⟩) ∧ W.cell? ⟨B, 5, none⟩ = some (.int .i64 p.2.1.2.1) ∧ W.cell? ⟨B, 6, none⟩ = some (.string ⟨p.2.1.2.2.1.toArray⟩) ∧ W.cell? ⟨B, 7, none⟩ = some (.string ⟨p.2.1.2.2.2.toArray⟩) ∧ W.cell? ⟨B, 8, none⟩ = some (.string ⟨p.2.2.1.toArray⟩) ∧ W.cell? ⟨B, 9, none⟩ = some (.int .i64 p.2.2.2.1) ∧ W.cell? ⟨B, 10, none⟩ = some (.string ⟨p.2.2.2.2.1.toArray⟩) ∧ W.cell? ⟨B, 11, none⟩ = some (.string ⟨p.2.2.2.2.2.toArray⟩)
theorem S12B.keep {W W' : World} {bm j : Nat} {f : Ev} {B : Nat} {p : Pt} (h : S12B bm j f B p W) (hb : RowKit.Below W.heap.size W W') : S12B bm j f B p W' := by
  obtain ⟨h0, c0, c1, c2, c3, c4, c5, c6, c7, c8, c9, c10, c11⟩ := h
  have s : ∀ {c : Addr} {y : Value}, W.cell? c = some y → W'.cell? c = some y := fun {c y} hc => (hb.cell (World.block_lt_of_cell? _ _ hc)).trans hc
  exact ⟨h0.below hb, s c0, s c1, s c2, s c3, s c4, s c5, s c6, s c7, s c8, s c9, s c10, s c11⟩
theorem S12B.set {W : World} {bm j : Nat} {f : Ev} {B : Nat} {p : Pt} {g : Nat} (hm : bm ≠ g) (hB : B ≠ g) (h : S12B bm j f B p W) (o : Nat) (u : Value) : S12B bm j f B p (W.setCell ⟨g, o, none⟩ u) := by
  obtain ⟨⟨D, h0, h1⟩, c0, c1, c2, c3, c4, c5, c6, c7, c8, c9, c10, c11⟩ := h
  have s : ∀ {q : Nat} {y : Value}, W.cell? ⟨B, q, none⟩ = some y → (W.setCell ⟨g, o, none⟩ u).cell? ⟨B, q, none⟩ = some y := fun {q y} hc => (World.cell?_setCell_other W _ _ _ (fun e => by have e2 := congrArg Addr.block e; simp at e2; omega)).trans hc
  exact ⟨⟨D, h0.setCell hm u, h1⟩, s c0, s c1, s c2, s c3, s c4, s c5, s c6, s c7, s c8, s c9, s c10, s c11⟩

set_option maxHeartbeats 16000000 in
set_option maxRecDepth 1000000 in
theorem pbindTail (Q : Ending → World → Prop) (u0 u1 u2 u4 u5 u7 u8 u9 u10 u11 u12 u14 u15 u16 u17 u18 u19 u20 u21 u22 u23 u24 u25 u26 u27 u28 u29 u30 u31 u32 u33 u34 u35 u36 u37 u38 u39 u40 u41 u42 u43 u44 u45 u46 u47 u48 u49 u50 u51 u52 u53 u54 u55 u56 u57 u58 u59 u60 u61 u62 u63 u64 u65 u66 u67 u68 u69 u70 u71 u72 u73 u74 u75 u76 : Value) (B bm j : Nat) (f : Ev) (p : Pt) (s1 s2 s3 : Sl) (W : World) (hP : PatAt W B p) (hR : PatAt W (B + 1) patZero) (hf : ∀ j, j < 12 → W.frozen? ⟨B + 1, j, none⟩ = false) (hE : EvAt W bm j f) (hm : bm ≠ B + 1)
    (h1 : p.1.1.length ≤ maxLen) (h2 : p.2.1.1.length ≤ maxLen) (h3 : p.2.2.1.length ≤ maxLen) (e1 : fillE f p.1 = s1) (e2 : fillE f p.2.1 = s2) (e3 : fillE f p.2.2 = s3)
    (hQ : ∀ W', RowKit.Below W.heap.size W W' → Q (.returned (.tuple #[.agg #[.string ⟨s1.1.toArray⟩, .int .i64 s1.2.1, .string ⟨s1.2.2.1.toArray⟩, .string ⟨s1.2.2.2.toArray⟩, .string ⟨s2.1.toArray⟩, .int .i64 s2.2.1, .string ⟨s2.2.2.1.toArray⟩, .string ⟨s2.2.2.2.toArray⟩, .string ⟨s3.1.toArray⟩, .int .i64 s3.2.1, .string ⟨s3.2.2.1.toArray⟩, .string ⟨s3.2.2.2.toArray⟩], .nilIface])) (pset W' (B + 1) (s1, s2, s3))) :
    Code.wp Tryz.prog (codeOf Tryz.f7.body 20) (bodyPost Tryz.prog Tryz.f7 Q) ⟨#[u0, u1, u2, .pointer (some ⟨B, 0, none⟩), u4, u5, .pointer (some ⟨B + 1, 0, none⟩), u7, u8, u9, u10, u11, u12, .map (some bm), u14, u15, u16, u17, u18, u19, u20, u21, u22, u23, u24, u25, u26, u27, u28, u29, u30, u31, u32, u33, u34, u35, u36, u37, u38, u39, u40, u41, u42, u43, u44, u45, u46, u47, u48, u49, u50, u51, u52, u53, u54, u55, u56, u57, u58, u59, u60, u61, u62, u63, u64, u65, u66, u67, u68, u69, u70, u71, u72, u73, u74, u75, u76], []⟩ W := by
  obtain ⟨p0, p1, p2, p3, p4, p5, p6, p7, p8, p9, p10, p11⟩ := hP.all
  have hk0 : S12B bm j f B p W := ⟨hE, p0, p1, p2, p3, p4, p5, p6, p7, p8, p9, p10, p11⟩
  have hkeep : S12B bm j f B p W.drew := hk0.keep (RowKit.Below.refl _ _).drew
  have lW : B ≠ B + 1 := by omega
  have G1 : ∀ W', S12B bm j f B p W' → Calls Tryz.prog 25 #[.map (some bm), .agg #[.string ⟨p.1.1.toArray⟩, .int .i64 p.1.2.1, .string ⟨p.1.2.2.1.toArray⟩, .string ⟨p.1.2.2.2.toArray⟩]] W' fun e w' => e = .returned (.agg #[.string ⟨s1.1.toArray⟩, .int .i64 s1.2.1, .string ⟨s1.2.2.1.toArray⟩, .string ⟨s1.2.2.2.toArray⟩]) ∧ RowKit.Below W'.heap.size W' w' := fun W' hW => by
    have := fill_any bm j f p.1 W' hW.1 h1
    rw [e1] at this
    exact this
  have G2 : ∀ W', S12B bm j f B p W' → Calls Tryz.prog 25 #[.map (some bm), .agg #[.string ⟨p.2.1.1.toArray⟩, .int .i64 p.2.1.2.1, .string ⟨p.2.1.2.2.1.toArray⟩, .string ⟨p.2.1.2.2.2.toArray⟩]] W' fun e w' => e = .returned (.agg #[.string ⟨s2.1.toArray⟩, .int .i64 s2.2.1, .string ⟨s2.2.2.1.toArray⟩, .string ⟨s2.2.2.2.toArray⟩]) ∧ RowKit.Below W'.heap.size W' w' := fun W' hW => by
    have := fill_any bm j f p.2.1 W' hW.1 h2
    rw [e2] at this
    exact this
  have G3 : ∀ W', S12B bm j f B p W' → Calls Tryz.prog 25 #[.map (some bm), .agg #[.string ⟨p.2.2.1.toArray⟩, .int .i64 p.2.2.2.1, .string ⟨p.2.2.2.2.1.toArray⟩, .string ⟨p.2.2.2.2.2.toArray⟩]] W' fun e w' => e = .returned (.agg #[.string ⟨s3.1.toArray⟩, .int .i64 s3.2.1, .string ⟨s3.2.2.1.toArray⟩, .string ⟨s3.2.2.2.toArray⟩]) ∧ RowKit.Below W'.heap.size W' w' := fun W' hW => by
    have := fill_any bm j f p.2.2 W' hW.1 h3
    rw [e3] at this
    exact this
  have HR := hideB hR
  have Hf := hideB hf
  have HQ := hideB hQ
  have hz1 : B + 1 < W.heap.size := World.block_lt_of_cell? W _ (hR 0 _ rfl)
  clear e1 e2 e3 hP hR hf hE hQ hk0 h1 h2 h3 p0 p1 p2 p3 p4 p5 p6 p7 p8 p9 p10 p11
  unfold S12B at G1 G2 G3 hkeep
  conv => arg 2; whnf
  dsimp only
  go_upto_region 20 with fail
  go_region_held3 (fun W => EvAt W bm j f ∧ W.cell? ⟨B, 0, none⟩ = some (.string ⟨p.1.1.toArray⟩) ∧ W.cell? ⟨B, 1, none⟩ = some (.int .i64 p.1.2.1) ∧ W.cell? ⟨B, 2, none⟩ = some (.string ⟨p.1.2.2.1.toArray⟩) ∧ W.cell? ⟨B, 3, none⟩ = some (.string ⟨p.1.2.2.2.toArray⟩) ∧ W.cell? ⟨B, 4, none⟩ = some (.string ⟨p.2.1.1.toArray⟩) ∧ W.cell? ⟨B, 5, none⟩ = some (.int .i64 p.2.1.2.1) ∧ W.cell? ⟨B, 6, none⟩ = some (.string ⟨p.2.1.2.2.1.toArray⟩) ∧ W.cell? ⟨B, 7, none⟩ = some (.string ⟨p.2.1.2.2.2.toArray⟩) ∧ W.cell? ⟨B, 8, none⟩ = some (.string ⟨p.2.2.1.toArray⟩) ∧ W.cell? ⟨B, 9, none⟩ = some (.int .i64 p.2.2.2.1) ∧ W.cell? ⟨B, 10, none⟩ = some (.string ⟨p.2.2.2.2.1.toArray⟩) ∧ W.cell? ⟨B, 11, none⟩ = some (.string ⟨p.2.2.2.2.2.toArray⟩)) ((refine (fun (W : World) (h : S12B bm j f B p W) => h) _ ?_; repeat (first | (with_reducible exact hkeep) | (with_reducible refine S12B.set hm lW ?_ _ _) | (with_reducible refine S12B.keep ?_ hb4) | (with_reducible refine S12B.keep ?_ hb5) | (with_reducible refine S12B.keep ?_ hb6) | (with_reducible assumption))))
    (first
    | (go_at_call_of 25 (Value.agg #[.string ⟨p.1.1.toArray⟩, .int .i64 p.1.2.1, .string ⟨p.1.2.2.1.toArray⟩, .string ⟨p.1.2.2.2.toArray⟩]); refine (G1 _ (by with_reducible assumption)).mono ?_; rintro e w4 ⟨rfl, hb4⟩; dsimp only)
    | (go_at_call_of 25 (Value.agg #[.string ⟨p.2.1.1.toArray⟩, .int .i64 p.2.1.2.1, .string ⟨p.2.1.2.2.1.toArray⟩, .string ⟨p.2.1.2.2.2.toArray⟩]); refine (G2 _ (by with_reducible assumption)).mono ?_; rintro e w5 ⟨rfl, hb5⟩; dsimp only)
    | (go_at_call_of 25 (Value.agg #[.string ⟨p.2.2.1.toArray⟩, .int .i64 p.2.2.2.1, .string ⟨p.2.2.2.2.1.toArray⟩, .string ⟨p.2.2.2.2.2.toArray⟩]); refine (G3 _ (by with_reducible assumption)).mono ?_; rintro e w6 ⟨rfl, hb6⟩; have hb7 := bstep (bstep (bstep (RowKit.Below.refl _ _).drew hb4) hb5) hb6; have hz := (HR.out.below hb7).all; dsimp only [patZero, tmZero] at hz; obtain ⟨z0, z1, z2, z3, z4, z5, z6, z7, z8, z9, z10, z11⟩ := hz; have f0 := (hb7.frozen (p := ⟨B + 1, 0, none⟩) hz1).trans (Hf.out 0 (by omega)); have f1 := (hb7.frozen (p := ⟨B + 1, 1, none⟩) hz1).trans (Hf.out 1 (by omega)); have f2 := (hb7.frozen (p := ⟨B + 1, 2, none⟩) hz1).trans (Hf.out 2 (by omega)); have f3 := (hb7.frozen (p := ⟨B + 1, 3, none⟩) hz1).trans (Hf.out 3 (by omega)); have f4 := (hb7.frozen (p := ⟨B + 1, 4, none⟩) hz1).trans (Hf.out 4 (by omega)); have f5 := (hb7.frozen (p := ⟨B + 1, 5, none⟩) hz1).trans (Hf.out 5 (by omega)); have f6 := (hb7.frozen (p := ⟨B + 1, 6, none⟩) hz1).trans (Hf.out 6 (by omega)); have f7 := (hb7.frozen (p := ⟨B + 1, 7, none⟩) hz1).trans (Hf.out 7 (by omega)); have f8 := (hb7.frozen (p := ⟨B + 1, 8, none⟩) hz1).trans (Hf.out 8 (by omega)); have f9 := (hb7.frozen (p := ⟨B + 1, 9, none⟩) hz1).trans (Hf.out 9 (by omega)); have f10 := (hb7.frozen (p := ⟨B + 1, 10, none⟩) hz1).trans (Hf.out 10 (by omega)); have f11 := (hb7.frozen (p := ⟨B + 1, 11, none⟩) hz1).trans (Hf.out 11 (by omega)); dsimp only))
  go_wp2_with fail
  obtain ⟨WZ, hWZ⟩ : ∃ WZ, WZ = pset w6 (B + 1) (s1, s2, s3) := ⟨_, rfl⟩
  have hq := hideB (show Q (.returned (.tuple #[.agg #[.string ⟨s1.1.toArray⟩, .int .i64 s1.2.1, .string ⟨s1.2.2.1.toArray⟩, .string ⟨s1.2.2.2.toArray⟩, .string ⟨s2.1.toArray⟩, .int .i64 s2.2.1, .string ⟨s2.2.2.1.toArray⟩, .string ⟨s2.2.2.2.toArray⟩, .string ⟨s3.1.toArray⟩, .int .i64 s3.2.1, .string ⟨s3.2.2.1.toArray⟩, .string ⟨s3.2.2.2.toArray⟩], .nilIface])) WZ by rw [hWZ]; exact HQ.out w6 hb7)
  have hZ : PatAt WZ (B + 1) (s1, s2, s3) := by rw [hWZ]; exact pset_pat (HR.out.below hb7)
  unfold pset at hWZ
  rw [← hWZ]
  clear hWZ z0 z1 z2 z3 z4 z5 z6 z7 z8 z9 z10 z11 f0 f1 f2 f3 f4 f5 f6 f7 f8 f9 f10 f11 G1 G2 G3 hkeep
  obtain ⟨y0, y1, y2, y3, y4, y5, y6, y7, y8, y9, y10, y11⟩ := hZ.all
  dsimp only at y0 y1 y2 y3 y4 y5 y6 y7 y8 y9 y10 y11
  exact bodyPost_ret (v := .tuple #[.agg #[.string ⟨s1.1.toArray⟩, .int .i64 s1.2.1, .string ⟨s1.2.2.1.toArray⟩, .string ⟨s1.2.2.2.toArray⟩, .string ⟨s2.1.toArray⟩, .int .i64 s2.2.1, .string ⟨s2.2.2.1.toArray⟩, .string ⟨s2.2.2.2.toArray⟩, .string ⟨s3.1.toArray⟩, .int .i64 s3.2.1, .string ⟨s3.2.2.1.toArray⟩, .string ⟨s3.2.2.2.toArray⟩], .nilIface]) (by simp [results, Tryz.results7, go_sem, *]) rfl hq.out
end Go.Proofs.YtcdbcoaiadipjaaGreat
