import Derived.Test.YtenakehnnmencagGreatDoorMA0x4
import Derived.Maps.OwnSet
import Derived.DeepKeys4
import Derived.OwnWalk
import Derived.Laws.Rows
import Derived.Deep.RegionHeld3
import Derived.RegionTactic
import Derived.Test.YtenakehnnmencagGreatDoorMA0x0

/- match.slotFault, slotsOf, termsOf; slices.Contains at texts. -/
namespace Go.Proofs.YtenakehnnmencagGreatDoor
open Go Go.RowKit Go.Proofs
set_option synthInstance.maxSize 1000

attribute [local go_sem] eql_errV neq_errV guard_errV
attribute [local go_sem ↓] neqTermZ

theorem fourbox {w W : World} {T : TypeId} {a0 a1 a2 a3 : Value} (hb : Below (w.alloc (.cells #[a0, a1, a2, a3] T)).heap.size (w.alloc (.cells #[a0, a1, a2, a3] T)) W) :
    W.cell? ⟨w.heap.size, 0, none⟩ = some a0 ∧ W.cell? ⟨w.heap.size, 1, none⟩ = some a1 ∧ W.cell? ⟨w.heap.size, 2, none⟩ = some a2 ∧ W.cell? ⟨w.heap.size, 3, none⟩ = some a3 ∧ w.heap.size < W.heap.size := by
  obtain ⟨h, _⟩ := bcell hb
  have hs := hb.size
  refine ⟨?_, ?_, ?_, ?_, by simp at hs; omega⟩
  all_goals
    rw [h]
    · go_simp
    · simp <;> omega

set_option maxHeartbeats 1000000 in
theorem slotFault_any (s : Sl) (w : World) (hs : fitSl s) :
    Calls Tryz.prog 123 #[valSl s] w fun e w' => e = .returned (errV (slotN s)) ∧ Below w.heap.size w w' := by
  obtain ⟨v, k, S, L⟩ := s
  obtain ⟨hv, hS, hL⟩ := hs
  have HV := fun W => isVar_any v k S L W
  have HC := fun W => Check_any k S L W hS hL
  have HP0 := fun W => spelledV_any v W hv
  unfold valSl
  dsimp only
  cases v with
  | nil =>
    have fin : Hid (slotN ([], k, S, L) = checkN k S L) := rfl
    rw [show (!([] : List UInt8).isEmpty) = false from rfl] at HV
    clear HP0 hv hS hL
    generalize checkN k S L = c at HC fin
    go_enter Tryz.func123, Tryz.ntmps123
    go_wp2_with fail
    refine (HV _).mono ?_
    rintro e w1 ⟨rfl, hb1⟩
    obtain ⟨a0, a1, a2, a3, hz⟩ := fourbox hb1
    go_wp2_with fail
    refine (HC _).mono ?_
    rintro e w2 ⟨rfl, hb2⟩
    go_wp2_with fail
    go_ret
    exact ⟨ret_val (by rw [fin.out]; rfl), bstep (bstep (balloc _ _) hb1) hb2⟩
  | cons ch r =>
    have fin : Hid (slotN (ch :: r, k, S, L) = if spellV (ch :: r) = false then 2 else if eqTB k S L 0 [] [] = true then 0 else 3) := by
      show slotN _ = _
      unfold slotN
      rw [if_neg (by simp)]
      have := eqTB_tm (k, S, L) tmZero
      by_cases hz : (k, S, L) = tmZero
      · rw [decide_eq_true hz] at this
        rw [show eqTB k S L 0 [] [] = true from this]
        simp only [hz, if_true]
      · rw [decide_eq_false hz] at this
        rw [show eqTB k S L 0 [] [] = false from this]
        simp only [hz, if_false, Bool.false_eq_true]
    rw [show (!(ch :: r).isEmpty) = true from rfl] at HV
    have HP := fun W => HP0 W (by simp)
    clear HP0 HC hv hS hL
    generalize spellV (ch :: r) = d at HP fin
    cases d
    · go_enter Tryz.func123, Tryz.ntmps123
      go_wp2_with fail
      refine (HV _).mono ?_
      rintro e w1 ⟨rfl, hb1⟩
      obtain ⟨a0, a1, a2, a3, hz⟩ := fourbox hb1
      go_wp2_with fail
      refine (HP _).mono ?_
      rintro e w2 ⟨rfl, hb2⟩
      go_wp2_with fail
      go_ret
      exact ⟨ret_val (by rw [fin.out]; rfl), bstep (bstep (balloc _ _) hb1) hb2⟩
    · cases hq : eqTB k S L 0 [] []
      all_goals
        go_enter Tryz.func123, Tryz.ntmps123
        go_wp2_with fail
        refine (HV _).mono ?_
        rintro e w1 ⟨rfl, hb1⟩
        obtain ⟨a0, a1, a2, a3, hz⟩ := fourbox hb1
        go_wp2_with fail
        refine (HP _).mono ?_
        rintro e w2 ⟨rfl, hb2⟩
        have b1 := (hb2.cell (World.block_lt_of_cell? w1 _ a1)).trans a1
        have b2 := (hb2.cell (World.block_lt_of_cell? w1 _ a2)).trans a2
        have b3 := (hb2.cell (World.block_lt_of_cell? w1 _ a3)).trans a3
        clear a0 a1 a2 a3
        go_wp2_with fail
        go_ret
        exact ⟨ret_val (by rw [fin.out, hq]; rfl), bstep (bstep (balloc _ _) hb1) hb2⟩

theorem slotsOf_any (p : Pt) (w : World) : Calls Tryz.prog 122 #[valPt p] w fun e w' => e = .returned (valPt p) ∧ Below w.heap.size w w' := by
  unfold valPt
  go_enter Tryz.func122, Tryz.ntmps122
  go_wp2_with fail
  refine bodyPost_ret (v := .agg (encPt p).toArray) (by unfold results; rw [Tryz.results122]; unfold encPt; go_simp) rfl ⟨rfl, ?_⟩
  exact bstep (balloc _ _) (balloc _ _)

/-! ### texts in a row -/
def encV (v : List UInt8) : Value := .string ⟨v.toArray⟩
def SlV (w : World) (ad : Option Addr) (l : List (List UInt8)) : Prop := l ≠ [] → ∃ b, ad = some ⟨b, 0, none⟩ ∧ ∀ j (hj : j < l.length), w.cell? ⟨b, j, none⟩ = some (encV l[j])
theorem own_v {W : World} {base : Nat} {v : Value} {t : List (List UInt8)} (h : W.ownsRow base 9 1 v t.length (t.map encV)) : ∃ ad cap, v = .slice ad t.length cap ∧ SlV W ad t := by
  have h' := h
  rcases h.2 with ⟨rfl, h0⟩ | ⟨g, cap, cur, rfl, _⟩
  · exact ⟨none, 0, by rw [h0], fun hne => absurd (List.eq_nil_of_length_eq_zero h0) hne⟩
  · refine ⟨some ⟨g, 0, none⟩, cap, rfl, fun _ => ⟨g, rfl, fun j hj => ?_⟩⟩
    have := h'.cells (g := g) rfl j (encV t[j]) (by simp [List.getElem?_eq_getElem hj])
    rw [Addr.add_lit, Nat.zero_add] at this
    exact this
theorem SlV.below {w w' : World} {ad : Option Addr} {l : List (List UInt8)} (h : SlV w ad l) (hb : Below w.heap.size w w') : SlV w' ad l := fun hl => by
  obtain ⟨b, e, r⟩ := h hl
  exact ⟨b, e, fun j hj => (hb.cell (World.block_lt_of_cell? w _ (r j hj))).trans (r j hj)⟩

theorem ContainsV_any (ad : Option Addr) (cap : Nat) (l : List (List UInt8)) (x : List UInt8) (w : World) (h : SlV w ad l) (hn : l.length ≤ 1000000) :
    Calls Tryz.prog 55 #[.slice ad l.length cap, .string ⟨x.toArray⟩] w fun e w' => e = .returned (.bool (decide (x ∈ l))) ∧ w' = w := by
  cases hl : l with
  | nil =>
    simpa using Tryz.slices_Contains_string_empty ad cap ⟨x.toArray⟩ w
  | cons c r =>
    rw [← hl]
    obtain ⟨b, rfl, hr⟩ := h (by rw [hl]; simp)
    refine (Tryz.slices_Contains_string b 0 l.length cap (l.map fun v => ⟨v.toArray⟩) ⟨x.toArray⟩ w (by simp) (by omega) ?_).mono ?_
    · intro j hj
      have hj' : j < l.length := by simpa using hj
      rw [Nat.zero_add, hr j hj']
      simp [encV, List.getD_eq_getElem?_getD, List.getElem?_eq_getElem hj']
    · rintro e w' ⟨rfl, rfl⟩
      refine ⟨ret_bool ?_, rfl⟩
      rw [show l.length = (l.map fun v => (⟨v.toArray⟩ : ByteArray)).length by simp, List.take_length, Bool.eq_iff_iff, Lib.containsS_iff]
      simp only [List.mem_map, decide_eq_true_eq]
      constructor
      · rintro ⟨v, hv, e⟩
        have := congrArg (fun s : ByteArray => s.data.toList) e
        simp at this
        exact this ▸ hv
      · intro hx
        exact ⟨x, hx, rfl⟩
end Go.Proofs.YtenakehnnmencagGreatDoor

/- match.bind: which term a variable has; a map whose keys are texts and whose elements are terms. -/
namespace Go.Proofs.YtenakehnnmencagGreatDoor
open Go Go.RowKit Go.Proofs Go.Maps
set_option synthInstance.maxSize 1000

/-- what variables have -/
abbrev Env := List (List UInt8 × Tm)
def lookE (E : Env) (v : List UInt8) : Option Tm := E.lookup v
def putE (E : Env) (v : List UInt8) (x : Tm) : Env := if (lookE E v).isSome then E else E ++ [(v, x)]
def getE (E : Env) (v : List UInt8) (x : Tm) : Tm := (lookE E v).getD x

theorem lookE_put (E : Env) (v : List UInt8) (x : Tm) (h : lookE E v = none) (u : List UInt8) : lookE (E ++ [(v, x)]) u = if u = v then some x else lookE E u := by
  unfold lookE at *
  induction E with
  | nil =>
    by_cases e : u = v
    · subst e; simp
    · simp only [List.nil_append, List.lookup]
      rw [if_neg e, show (u == v) = false by simpa using e]
  | cons a r ih =>
    obtain ⟨n, y⟩ := a
    simp only [List.cons_append, List.lookup] at h ⊢
    cases hn : (v == n)
    · rw [hn] at h
      cases hu : (u == n)
      · exact ih h
      · have e1 : u = n := by simpa using hu
        have e2 : ¬ v = n := by simpa using hn
        rw [if_neg (show ¬ u = v from fun e => e2 (e.symm.trans e1))]
    · rw [hn] at h; simp at h

/-! ### elements that are terms -/
def encDM (x : Tm) : DataW Unit := .agg [.lit (.int .i64 x.1), .lit (.string x.2.1), .lit (.string x.2.2)]
def termElemM (v : Value) : Option (DataW Unit × List MemPlace) :=
  match v with
  | .agg cs => match cs.toList with
    | [.int .i64 k, .string S, .string L] => some (encDM (k, S.data.toList, L.data.toList), [])
    | _ => none
  | _ => none
theorem termElemM_mk (x : Tm) : termElemM (valTermM x) = some (encDM x, []) := by
  simp [termElemM, valTermM]
theorem encDM_inj {x y : Tm} (h : encDM x = encDM y) : x = y := by
  obtain ⟨a1, a2, a3⟩ := x
  obtain ⟨b1, b2, b3⟩ := y
  simp only [encDM, DataW.agg.injEq, List.cons.injEq, DataW.lit.injEq, Lit.int.injEq, Lit.string.injEq, true_and, and_true] at h
  obtain ⟨rfl, rfl, rfl⟩ := h
  rfl
theorem termElemM_inv {v : Value} {x : Tm} {ps : List MemPlace} (h : termElemM v = some (encDM x, ps)) : v = valTermM x := by
  unfold termElemM at h
  split at h
  · rename_i cs
    split at h
    · rename_i k S L hcs
      simp only [Option.some.injEq, Prod.mk.injEq] at h
      have := encDM_inj h.1
      subst this
      obtain ⟨l, rfl⟩ : ∃ l : List Value, cs = l.toArray := ⟨cs.toList, by simp⟩
      simp at hcs
      subst hcs
      rfl
    · cases h
  · cases h

theorem keyedStr : Keyed Tryz.prog 9 := string_keyed Tryz.underlying9
theorem keyOf_v (v : List UInt8) (hv : v.length ≤ maxLen) : keyOf Tryz.prog 9 (.string ⟨v.toArray⟩) = some (.string v) := by
  have h' : (⟨v.toArray⟩ : ByteArray).size ≤ maxLen := hv
  simp [keyOf, Tryz.underlying9, mapKey, h']
theorem zeroTmV (w : World) : (zeroValue 42).run Tryz.prog w = .ok (valTermM tmZero) w := by kernel_rfl

/-- the map at a block holds what variables have -/
def BoundAt (w : World) (bm : Nat) (E : Env) : Prop :=
  ∃ D : DataW Unit, w.ownsMap Tryz.prog 9 termElemM bm E.length D ∧ ∀ v : List UInt8, v.length ≤ maxLen → Maps.has D (.string v) = (lookE E v).isSome ∧ D.atKey (.string v) (encDM tmZero) = encDM ((lookE E v).getD tmZero)

theorem ownsMap_belowM {H : Type} {R : Value → Option (DataW H × List MemPlace)} {k : TypeId} {w w' : World} {b n : Nat} {D : DataW H} (h : w.ownsMap Tryz.prog k R b n D) (hb : RowKit.Below w.heap.size w w') : w'.ownsMap Tryz.prog k R b n D := by
  obtain ⟨es, clock, hm, r⟩ := h
  have hlt : b < w.heap.size := (Array.getElem?_eq_some_iff.1 hm).1
  exact ⟨es, clock, (hb.block b hlt).trans hm, r⟩
theorem BoundAt.below {w w' : World} {bm : Nat} {E : Env} (h : BoundAt w bm E) (hb : RowKit.Below w.heap.size w w') : BoundAt w' bm E := by
  obtain ⟨D, o, f⟩ := h
  exact ⟨D, ownsMap_belowM o hb, f⟩
theorem BoundAt.lt {w : World} {bm : Nat} {E : Env} (h : BoundAt w bm E) : bm < w.heap.size := by
  obtain ⟨D, ⟨es, clock, hm, r⟩, f⟩ := h
  exact (Array.getElem?_eq_some_iff.1 hm).1
theorem boundAt_made (w : World) : BoundAt (w.alloc (.map #[] 0)) w.heap.size [] :=
  ⟨.map [], World.ownsMap_made _ _ _ _, fun v _ => ⟨by simp [Maps.has_eq, lookE], by simp [DataW.atKey, lookE]⟩⟩

/-- one more variable -/
theorem bound_put {E : Env} {v : List UInt8} {x : Tm} {D : DataW Unit} (hv : v.length ≤ maxLen) (hn : lookE E v = none) (m1 : IsMap D)
    (f : ∀ v : List UInt8, v.length ≤ maxLen → Maps.has D (.string v) = (lookE E v).isSome ∧ D.atKey (.string v) (encDM tmZero) = encDM ((lookE E v).getD tmZero)) :
    ∀ u : List UInt8, u.length ≤ maxLen → Maps.has (D.put (.string v) (encDM x)) (.string u) = (lookE (E ++ [(v, x)]) u).isSome ∧ (D.put (.string v) (encDM x)).atKey (.string u) (encDM tmZero) = encDM ((lookE (E ++ [(v, x)]) u).getD tmZero) := fun u hu => by
  have hk := keyedStr.key (keyOf_v v hv)
  rw [lookE_put E v x hn u]
  by_cases e : u = v
  · subst e
    rw [Maps.has_put_same m1 hk, Maps.atKey_put_same m1 hk, if_pos rfl]
    exact ⟨rfl, rfl⟩
  · have hne : (Lit.string u) ≠ (Lit.string v) := fun e' => e (by simpa using e')
    rw [Maps.has_put_other hne, Maps.atKey_put_other hne, if_neg e]
    exact f u hu

theorem grownBy_below {w w' : World} {r : Option Nat} (hb : RowKit.Below w.heap.size w w') : w.grownBy w' r := ⟨hb.os, hb.tape, hb.output, hb.size, fun i hi _ => hb.block i hi⟩
theorem grownBy_trans {a b c : World} {r : Option Nat} (h : a.grownBy b r) (k : b.grownBy c r) : a.grownBy c r :=
  ⟨k.os.trans h.os, k.tape.trans h.tape, k.output.trans h.output, Nat.le_trans h.size k.size, fun i hi hr => (k.block i (Nat.lt_of_lt_of_le hi h.size) hr).trans (h.block i hi hr)⟩

theorem grown_far {W w1 : World} {bm b : Nat} (h : W.grownBy w1 (some bm)) (hb : b < W.heap.size) (hne : b ≠ bm) (o : Nat) : w1.cell? ⟨b, o, none⟩ = W.cell? ⟨b, o, none⟩ ∧ w1.frozen? ⟨b, o, none⟩ = W.frozen? ⟨b, o, none⟩ := by
  have e := h.block b hb (fun e => hne (by simpa using e))
  refine ⟨World.cell?_of_block (w := W) e, ?_⟩
  simp only [World.frozen?]
  rw [e]
theorem grown_mid {w W w1 w2 : World} {bm : Nat} (h1 : RowKit.Below w.heap.size w W) (h2 : W.grownBy w1 (some bm)) (h3 : RowKit.Below w.heap.size w1 w2) : w.grownBy w2 (some bm) :=
  ⟨h3.os.trans (h2.os.trans h1.os), h3.tape.trans (h2.tape.trans h1.tape), h3.output.trans (h2.output.trans h1.output), Nat.le_trans (Nat.le_trans h1.size h2.size) h3.size,
    fun i hi hr => (h3.block i hi).trans ((h2.block i (Nat.lt_of_lt_of_le hi h1.size) hr).trans (h1.block i hi))⟩
theorem BoundAt.far {w w' : World} {bm B : Nat} {E : Env} (h : BoundAt w bm E) (hb : RowKit.Below B w w') (hB : bm < B) : BoundAt w' bm E := by
  obtain ⟨D, ⟨es, clock, hm, r⟩, f⟩ := h
  exact ⟨D, ⟨es, clock, (hb.block bm hB).trans hm, r⟩, f⟩

end Go.Proofs.YtenakehnnmencagGreatDoor

/- match.Vars: what is wrong with a pattern, and which variables it has. -/
namespace Go.Proofs.YtenakehnnmencagGreatDoor
open Go Go.RowKit Go.Proofs
set_option synthInstance.maxSize 1000

attribute [local go_sem] eql_errV neq_errV guard_errV

def slotK (p : Pt) (k : Nat) : Sl := if k = 0 then p.1 else if k = 1 then p.2.1 else p.2.2
def vK (p : Pt) (k : Nat) : List (List UInt8) := if k = 0 then [] else if k = 1 then addV [] p.1 else if k = 2 then addV (addV [] p.1) p.2.1 else varsL p
def restN (p : Pt) (k : Nat) : Int := if k = 0 then varsN p else if k = 1 then (if slotN p.2.1 = 0 then slotN p.2.2 else slotN p.2.1) else if k = 2 then slotN p.2.2 else 0
theorem restN_step (p : Pt) (k : Nat) (hk : k < 3) : restN p k = if slotN (slotK p k) = 0 then restN p (k + 1) else slotN (slotK p k) := by
  rcases (by omega : k = 0 ∨ k = 1 ∨ k = 2) with rfl | rfl | rfl
  · simp [restN, slotK, varsN]
  · simp [restN, slotK]
  · simp [restN, slotK]
theorem vK_step (p : Pt) (k : Nat) (hk : k < 3) : vK p (k + 1) = addV (vK p k) (slotK p k) := by
  rcases (by omega : k = 0 ∨ k = 1 ∨ k = 2) with rfl | rfl | rfl
  · simp [vK, slotK]
  · simp [vK, slotK]
  · simp [vK, slotK, varsL]
theorem addV_len (l : List (List UInt8)) (s : Sl) : (addV l s).length ≤ l.length + 1 := by
  unfold addV
  repeat' split
  all_goals simp
theorem vK_len (p : Pt) (k : Nat) (hk : k ≤ 3) : (vK p k).length ≤ k := by
  have h0 : (vK p 0).length ≤ 0 := by simp [vK]
  have h1 := addV_len (vK p 0) (slotK p 0)
  have h2 := addV_len (vK p 1) (slotK p 1)
  have h3 := addV_len (vK p 2) (slotK p 2)
  rw [← vK_step p 0 (by omega)] at h1
  rw [← vK_step p 1 (by omega)] at h2
  rw [← vK_step p 2 (by omega)] at h3
  have g1 : (vK p 1).length ≤ (vK p 0).length + 1 := h1
  have g2 : (vK p 2).length ≤ (vK p 1).length + 1 := h2
  have g3 : (vK p 3).length ≤ (vK p 2).length + 1 := h3
  clear h1 h2 h3
  rcases (by omega : k = 0 ∨ k = 1 ∨ k = 2 ∨ k = 3) with rfl | rfl | rfl | rfl <;> omega
theorem fit_slotK {p : Pt} (h : fitPt p) (k : Nat) : fitSl (slotK p k) := by
  unfold slotK
  repeat' split
  · exact h.1
  · exact h.2.1
  · exact h.2.2

theorem indexSl (p : Pt) (k : Nat) (hk : k < 3) (w : World) : (Instr.index 179 (valPt p) (.int .i64 k)).run Tryz.prog w = .ok (valSl (slotK p k)) w := by
  rcases (by omega : k = 0 ∨ k = 1 ∨ k = 2) with rfl | rfl | rfl <;> kernel_rfl

theorem infoStrV : (Tryz.prog.info? 9).map (fun i => (i.zero, i.size, i.bytes)) = some (some (.string ByteArray.empty), 1, 16) := by kernel_rfl

theorem ownsRow_belowV {W W' : World} {base : Nat} {e : TypeId} {sz : Nat} {v : Value} {n : Nat} {cs : List Value} (h : W.ownsRow base e sz v n cs) (hb : RowKit.Below W.heap.size W W') : W'.ownsRow base e sz v n cs :=
  h.kept (row := none) ⟨hb.os, hb.tape, hb.output, hb.size, fun i hi _ => hb.block i hi⟩ (Classical.em _)

/-- what Vars tells -/
def VarsAns (p : Pt) (m : List (List UInt8)) : Prop := m = if varsN p = 0 then varsL p else []

set_option maxHeartbeats 4000000 in
set_option maxRecDepth 100000 in
theorem VarsO_any (p : Pt) (w : World) (hp : fitPt p) :
    Calls Tryz.prog 86 #[valPt p] w fun e w' => Below w.heap.size w w' ∧ ∃ m ad cap, e = .returned (.tuple #[.slice ad m.length cap, errV (varsN p)]) ∧ w'.ownsRow w.heap.size 9 1 (.slice ad m.length cap) m.length (m.map encV) ∧ VarsAns p m := by
  have HS := slotsOf_any p
  have Hp : Hid (fitPt p) := hp
  obtain ⟨i0, hi0, hz⟩ := Option.map_eq_some_iff.1 infoStrV
  simp only [Prod.mk.injEq] at hz
  obtain ⟨hz0, hz1, hz2⟩ := hz
  clear hp
  have HX : Hid (∀ k : Nat, k < 3 → ∀ W, (Instr.index 179 (valPt p) (.int .i64 k)).run Tryz.prog W = .ok (valSl (slotK p k)) W) := indexSl p
  unfold valPt at HS HX ⊢
  have hA : Hid (∀ m, (m = if varsN p = 0 then varsL p else []) → VarsAns p m) := fun m h => h
  generalize VarsAns p = A at *
  go_enter Tryz.func86, Tryz.ntmps86
  go_wp2_with fail
  refine (HS _).mono ?_
  rintro e w1 ⟨rfl, hb1⟩
  have hB1 := bstep (balloc _ _) hb1
  go_wp2_with fail
  go_loopw [4, 10] (fun v i wr => ∃ k : Nat, k ≤ 3 ∧ i = .int .i64 k ∧ Hid (wr.ownsRow w.heap.size 9 1 v (vK p k).length ((vK p k).map encV)) ∧ Hid (varsN p = restN p k) ∧ Below w.heap.size w wr) (fun _ i wr => 3 - (intOf i).toNat)
  case atStart => exact ⟨0, by omega, rfl, World.ownsRow_nil _ _ _ _, rfl, hB1⟩
  case round =>
    obtain ⟨k, hk, rfl, hown, hrest, hbr⟩ := hrel
    by_cases hlt : k < 3
    · have hix := HX.out k hlt
      have hst : Hid _ := restN_step p k hlt
      have hvs : Hid _ := vK_step p k hlt
      have hvl : (vK p k).length ≤ 3 := Nat.le_trans (vK_len p k hk) hk
      have hfs : Hid (fitSl (slotK p k)) := fit_slotK Hp.out k
      have HF := fun W => slotFault_any (slotK p k) W hfs.out
      have i1 : (k : Int) < 3 := by omega
      have hzr := hbr.size
      generalize slotK p k = s at *
      obtain ⟨v, kk, S, L⟩ := s
      have HV := fun W => isVar_any v kk S L W
      unfold valSl at HF hix
      dsimp only at HF hix
      cases hc : (slotN (v, kk, S, L) == 0)
      · go_wp2_with fail
        refine (HF _).mono ?_
        rintro e w2 ⟨rfl, hb2⟩
        go_wp2_with fail
        have hne : varsN p = slotN (v, kk, S, L) := by rw [hrest.out, hst.out, if_neg (by simpa using hc)]
        simp at hc
        exact bodyPost_ret (v := .tuple #[.slice none 0 0, errV (slotN (v, kk, S, L))]) (by simp [results, Tryz.results86, go_sem]) rfl ⟨bstep (bstep hbr (balloc _ _)) hb2, [], none, 0, by rw [hne]; rfl, World.ownsRow_nil _ _ _ _, hA.out _ (by rw [hne, if_neg hc])⟩
      · have hr2 : Hid (varsN p = restN p (k + 1)) := by show _ = _; rw [hrest.out, hst.out, if_pos (by simpa using hc)]
        clear hst hrest hfs
        cases hve : v.isEmpty
        rotate_left
        · obtain rfl : v = [] := by simpa using hve
          have hv2 : Hid (vK p (k + 1) = vK p k) := hvs.out
          rw [show (!([] : List UInt8).isEmpty) = false from rfl] at HV
          go_wp2_with fail
          refine (HF _).mono ?_
          rintro e w2 ⟨rfl, hb2⟩
          obtain ⟨a0, a1, a2, a3, hz⟩ := fourbox hb2
          go_wp2_with fail
          refine (HV _).mono ?_
          rintro e w3 ⟨rfl, hb3⟩
          go_wp2_with fail
          go_roundw
          case rel =>
            refine ⟨k + 1, by omega, by go_num, ?_, hr2, bstep (bstep (bstep hbr (balloc _ _)) hb2) hb3⟩
            show World.ownsRow _ _ _ _ _ _ _
            rw [hv2.out]
            exact ownsRow_belowV (ownsRow_belowV (hown.out.alloc _) hb2) hb3
          case measure => simp [intOf]; omega
        · have hvn : Hid (¬ v = []) := by show ¬ v = []; simpa using hve
          rw [hve, show (!false) = true from rfl] at HV
          clear hve
          have hvs2 : Hid (vK p (k + 1) = if v ∈ vK p k then vK p k else vK p k ++ [v]) := by
            show _ = _
            rw [hvs.out]
            exact if_neg hvn.out
          obtain ⟨ad, cap, rfl, hsl0⟩ := own_v hown.out
          have hsl : Hid (SlV wr ad (vK p k)) := hsl0
          have HC := fun W h => ContainsV_any ad cap (vK p k) v W h (by omega)
          clear hvs hsl0
          generalize ht : vK p (k + 1) = t1 at *
          have Ht : Hid _ := ht
          generalize vK p k = t0 at *
          clear ht
          cases hd : decide (v ∈ t0)
          · have hv2 : Hid (t1 = t0 ++ [v]) := by show _ = _; rw [hvs2.out, if_neg (by simpa using hd)]
            rw [hd] at HC
            go_wp2_with fail
            refine (HF _).mono ?_
            rintro e w2 ⟨rfl, hb2⟩
            obtain ⟨a0, a1, a2, a3, hz⟩ := fourbox hb2
            go_wp2_with fail
            refine (HV _).mono ?_
            rintro e w3 ⟨rfl, hb3⟩
            have b0 := (hb3.cell (World.block_lt_of_cell? w2 _ a0)).trans a0
            have hB3 := bstep (bstep (bstep hbr (balloc _ _)) hb2) hb3
            have hz3 := hB3.size
            have hrow3 : Hid (w3.ownsRow w.heap.size 9 1 _ t0.length (t0.map encV)) := ownsRow_belowV (ownsRow_belowV (hown.out.alloc _) hb2) hb3
            clear a0 a1 a2 a3
            go_wp2_with fail
            refine (HC _ (((hsl.out.below (balloc _ _)).below hb2).below hb3)).mono ?_
            rintro e w4 ⟨rfl, rfl⟩
            clear hown hsl
            go_wp2_with (at_builtin; refine wpList_append_own _ rfl _ _ 49 rfl w.heap.size 9 i0 (.string ByteArray.empty) 1 16 Tryz.underlying49 hi0 hz0 hz1 hz2 rfl (by decide) _ _ _ rfl (hrow3.out.alloc _) ⟨w4.heap.size, 0, none⟩ 1 1 [encV v] rfl rfl ?c1 ?c2 ?c3 ?c4 ?c5 ?_)
            case c1 =>
              intro j u hj
              have h1 : j < 1 := (List.getElem?_eq_some_iff.1 hj).1
              obtain rfl : j = 0 := by omega
              simp [encV] at hj
              subst hj
              rw [Addr.add_lit]
              go_simp
            case c2 => intro u hu; rw [List.mem_singleton.1 hu]; rfl
            case c3 => unfold maxLen; omega
            case c4 => omega
            case c5 => simp; omega
            intro v' w9 hown' hgrow _
            have hbel := (hB3.alloc hz3 (.cells #[encV v] 9)).grown hgrow (by simp; omega) (fun k hk => (hrow3.out.lt k hk).1)
            go_wp2_with fail
            go_roundw
            case rel =>
              refine ⟨k + 1, by omega, by go_num, ?_, hr2, hbel⟩
              show World.ownsRow _ _ _ _ _ _ _
              rw [Ht.out, hv2.out, List.length_append, List.map_append]
              exact hown'
            case measure => simp [intOf]; omega
          · have hv2 : Hid (t1 = t0) := by show _ = _; rw [hvs2.out, if_pos (by simpa using hd)]
            rw [hd] at HC
            go_wp2_with fail
            refine (HF _).mono ?_
            rintro e w2 ⟨rfl, hb2⟩
            obtain ⟨a0, a1, a2, a3, hz⟩ := fourbox hb2
            go_wp2_with fail
            refine (HV _).mono ?_
            rintro e w3 ⟨rfl, hb3⟩
            have b0 := (hb3.cell (World.block_lt_of_cell? w2 _ a0)).trans a0
            clear a0 a1 a2 a3
            go_wp2_with fail
            refine (HC _ (((hsl.out.below (balloc _ _)).below hb2).below hb3)).mono ?_
            rintro e w' ⟨rfl, rfl⟩
            go_wp2_with fail
            go_roundw
            case rel =>
              refine ⟨k + 1, by omega, by go_num, ?_, hr2, bstep (bstep (bstep hbr (balloc _ _)) hb2) hb3⟩
              show World.ownsRow _ _ _ _ _ _ _
              rw [Ht.out, hv2.out]
              exact ownsRow_belowV (ownsRow_belowV (hown.out.alloc _) hb2) hb3
            case measure => simp [intOf]; omega
    · obtain rfl : k = 3 := by omega
      obtain ⟨ad, cap, rfl, hsl⟩ := own_v hown.out
      have h0 : varsN p = 0 := hrest.out
      have hvw : vK p 3 = varsL p := rfl
      have how := hown.out
      rw [hvw] at how
      have Hsl : Hid (wr.ownsRow w.heap.size 9 1 (.slice ad (varsL p).length cap) (varsL p).length ((varsL p).map encV)) := how
      have H0 : Hid (varsN p = 0) := h0
      rw [hvw]
      clear hown hrest hvw hsl h0 how
      go_wp2_with fail
      exact bodyPost_ret (v := .tuple #[.slice ad (varsL p).length cap, .nilIface]) (by simp [results, Tryz.results86, go_sem]) rfl ⟨hbr, _, ad, cap, by rw [H0.out]; rfl, Hsl.out, hA.out _ (by rw [H0.out]; rfl)⟩
theorem Vars_any (p : Pt) (w : World) (hp : fitPt p) :
    Calls Tryz.prog 86 #[valPt p] w fun e w' => Below w.heap.size w w' ∧ ∃ m ad cap, e = .returned (.tuple #[.slice ad m.length cap, errV (varsN p)]) ∧ SlV w' ad m ∧ VarsAns p m := by
  refine (VarsO_any p w hp).mono ?_
  rintro e w' ⟨hb, m, ad, cap, he, ho, ha⟩
  obtain ⟨ad', cap', e2, hs⟩ := own_v ho
  injection e2 with e3 _ _
  subst e3
  exact ⟨hb, m, ad, cap, he, hs, ha⟩
end Go.Proofs.YtenakehnnmencagGreatDoor

/- match.asker: the question whether a triple fits a pattern. -/
namespace Go.Proofs.YtenakehnnmencagGreatDoor
open Go Go.RowKit Go.Proofs Go.Maps
set_option synthInstance.maxSize 1000

/-! ### the question, slot by slot -/
def termK (t : Tr) (k : Nat) : Tm := if k = 0 then t.1 else if k = 1 then t.2.1 else t.2.2
def stepE (E : Env) (s : Sl) (x : Tm) : Env := if s.1 = [] then E else putE E s.1 x
def wantE (E : Env) (s : Sl) (x : Tm) : Tm := if s.1 = [] then s.2 else getE E s.1 x
def envK (p : Pt) (t : Tr) : Nat → Env
  | 0 => []
  | k + 1 => stepE (envK p t k) (slotK p k) (termK t k)
def fitK (p : Pt) (t : Tr) (k : Nat) : Bool := decide (termK t k = wantE (envK p t k) (slotK p k) (termK t k))
def restF (p : Pt) (t : Tr) (k : Nat) : Bool := if k = 0 then fitK p t 0 && (fitK p t 1 && fitK p t 2) else if k = 1 then fitK p t 1 && fitK p t 2 else if k = 2 then fitK p t 2 else true
theorem restF_step (p : Pt) (t : Tr) (k : Nat) (hk : k < 3) : restF p t k = (fitK p t k && restF p t (k + 1)) := by
  rcases (by omega : k = 0 ∨ k = 1 ∨ k = 2) with rfl | rfl | rfl <;> simp [restF]
theorem putE_len (E : Env) (v : List UInt8) (x : Tm) : (putE E v x).length ≤ E.length + 1 := by
  unfold putE
  split <;> simp
theorem envK_len (p : Pt) (t : Tr) : ∀ k, (envK p t k).length ≤ k
  | 0 => by simp [envK]
  | k + 1 => by
    have := envK_len p t k
    have h2 := putE_len (envK p t k) (slotK p k).1 (termK t k)
    unfold envK stepE
    split <;> omega

theorem fits_env (p : Pt) (t : Tr) : restF p t 0 = fitsB p t := by
  obtain ⟨⟨v0, a0⟩, ⟨v1, a1⟩, ⟨v2, a2⟩⟩ := p
  obtain ⟨x0, x1, x2⟩ := t
  have l1 : ∀ (a b : List UInt8) (x : Tm), lookE [(b, x)] a = if a = b then some x else none := fun a b x => by
    unfold lookE
    simp only [List.lookup]
    by_cases e : a = b
    · subst e; simp
    · rw [if_neg e, show (a == b) = false by simpa using e]
  have l2 : ∀ (a b c : List UInt8) (x y : Tm), lookE [(b, x), (c, y)] a = if a = b then some x else if a = c then some y else none := fun a b c x y => by
    unfold lookE
    simp only [List.lookup]
    by_cases e : a = b
    · subst e; simp
    · rw [if_neg e, show (a == b) = false by simpa using e]
      by_cases e2 : a = c
      · subst e2; simp
      · rw [if_neg e2, show (a == c) = false by simpa using e2]
  have l0 : ∀ a : List UInt8, lookE [] a = none := fun a => rfl
  simp only [restF, fitK, envK, slotK, termK, fitsB, wantE, stepE, getE, putE, if_true]
  by_cases h0 : v0 = []
  · subst h0
    by_cases h1 : v1 = []
    · subst h1
      by_cases h2 : v2 = []
      · subst h2; simp
      · simp [h2, l0]
    · by_cases h2 : v2 = []
      · subst h2; simp [h1, l0]
      · by_cases e : v2 = v1
        · subst e; simp [h1, l0, l1]
        · simp [h1, h2, e, l0, l1]
  · by_cases h1 : v1 = []
    · subst h1
      by_cases h2 : v2 = []
      · subst h2; simp [h0, l0]
      · by_cases e : v2 = v0
        · subst e; simp [h0, l0, l1]
        · simp [h0, h2, e, l0, l1]
    · by_cases e1 : v1 = v0
      · subst e1
        by_cases h2 : v2 = []
        · subst h2; simp [h1, l0, l1]
        · by_cases e : v2 = v1
          · subst e; simp [h1, l0, l1]
          · simp [h1, h2, e, l0, l1]
      · by_cases h2 : v2 = []
        · subst h2; simp [h0, h1, e1, l0, l1]
        · by_cases e : v2 = v0
          · subst e; simp [h0, h1, e1, l0, l1, l2]
          · by_cases e2 : v2 = v1
            · subst e2; simp [h0, h1, e1, l0, l1, l2]
            · simp [h0, h1, h2, e, e1, e2, l0, l1, l2]
end Go.Proofs.YtenakehnnmencagGreatDoor

/- match.asker and its closure: the walk. -/
namespace Go.Proofs.YtenakehnnmencagGreatDoor
open Go Go.RowKit Go.Proofs Go.Maps
set_option synthInstance.maxSize 1000

attribute [local go_sem ↓] neqTerm

/-- at a block lies the pattern -/
def PatAt (w : World) (bx : Nat) (p : Pt) : Prop := ∀ j v, (encPt p)[j]? = some v → w.cell? ⟨bx, j, none⟩ = some v
theorem PatAt.lt {w : World} {bx : Nat} {p : Pt} (h : PatAt w bx p) : bx < w.heap.size := World.block_lt_of_cell? w _ (h 0 _ rfl)
theorem PatAt.far {w w' : World} {bx B : Nat} {p : Pt} (h : PatAt w bx p) (hb : Below B w w') (hB : bx < B) : PatAt w' bx p := fun j v hv => (hb.cell (by exact hB)).trans (h j v hv)
theorem PatAt.below {w w' : World} {bx : Nat} {p : Pt} (h : PatAt w bx p) (hb : Below w.heap.size w w') : PatAt w' bx p := h.far hb h.lt
theorem PatAt.at {w : World} {bx : Nat} {p : Pt} (h : PatAt w bx p) (k : Nat) (hk : k < 3) :
    w.cell? ⟨bx, k * 4, none⟩ = some (.string ⟨(slotK p k).1.toArray⟩) ∧ w.cell? ⟨bx, k * 4 + 1, none⟩ = some (.int .i64 (slotK p k).2.1) ∧ w.cell? ⟨bx, k * 4 + 2, none⟩ = some (.string ⟨(slotK p k).2.2.1.toArray⟩) ∧ w.cell? ⟨bx, k * 4 + 3, none⟩ = some (.string ⟨(slotK p k).2.2.2.toArray⟩) := by
  rcases (by omega : k = 0 ∨ k = 1 ∨ k = 2) with rfl | rfl | rfl
  all_goals exact ⟨h _ _ rfl, h _ _ rfl, h _ _ rfl, h _ _ rfl⟩

theorem indexTm (t : Tr) (k : Nat) (hk : k < 3) (w : World) : (Instr.index 138 (valTr t) (.int .i64 k)).run Tryz.prog w = .ok (.agg #[.int .i64 (termK t k).1, .string ⟨(termK t k).2.1.toArray⟩, .string ⟨(termK t k).2.2.toArray⟩]) w := by
  rcases (by omega : k = 0 ∨ k = 1 ∨ k = 2) with rfl | rfl | rfl <;> kernel_rfl
theorem sixbox {w W : World} {T T' : TypeId} {a0 a1 a2 b0 b1 b2 : Value} (hb : Below ((w.alloc (.cells #[a0, a1, a2] T)).alloc (.cells #[b0, b1, b2] T')).heap.size ((w.alloc (.cells #[a0, a1, a2] T)).alloc (.cells #[b0, b1, b2] T')) W) :
    (W.cell? ⟨w.heap.size, 0, none⟩ = some a0 ∧ W.cell? ⟨w.heap.size, 1, none⟩ = some a1 ∧ W.cell? ⟨w.heap.size, 2, none⟩ = some a2) ∧ (W.cell? ⟨w.heap.size + 1, 0, none⟩ = some b0 ∧ W.cell? ⟨w.heap.size + 1, 1, none⟩ = some b1 ∧ W.cell? ⟨w.heap.size + 1, 2, none⟩ = some b2) ∧
    (W.frozen? ⟨w.heap.size + 1, 0, none⟩ = false ∧ W.frozen? ⟨w.heap.size + 1, 1, none⟩ = false ∧ W.frozen? ⟨w.heap.size + 1, 2, none⟩ = false) ∧ w.heap.size + 1 < W.heap.size := by
  obtain ⟨h, f⟩ := bcell hb
  have hs := hb.size
  refine ⟨⟨?_, ?_, ?_⟩, ⟨?_, ?_, ?_⟩, ⟨?_, ?_, ?_⟩, by simp at hs; omega⟩
  all_goals
    first
    | (rw [h _ _ (by simp; omega)]; go_simp)
    | (rw [f _ _ (by simp; omega)]; go_simp)
    | (rw [h _ _ (by simp)]; go_simp)
    | (rw [f _ _ (by simp)]; go_simp)

/-- what bind, and a store apart, leave of four cells -/
theorem keepB {W W' : World} {bm : Nat} {p0 p1 p2 p3 : Addr} {v0 v1 v2 v3 : Value} (h : W.cell? p0 = some v0 ∧ W.cell? p1 = some v1 ∧ W.cell? p2 = some v2 ∧ W.cell? p3 = some v3)
    (g : W.grownBy W' (some bm)) (n0 : p0.block ≠ bm) (n1 : p1.block ≠ bm) (n2 : p2.block ≠ bm) (n3 : p3.block ≠ bm) :
    W'.cell? p0 = some v0 ∧ W'.cell? p1 = some v1 ∧ W'.cell? p2 = some v2 ∧ W'.cell? p3 = some v3 := by
  have e : ∀ {p : Addr} {v : Value}, W.cell? p = some v → p.block ≠ bm → W'.cell? p = some v := fun {p v} hp hn => by
    have hb := g.block p.block (World.block_lt_of_cell? W _ hp) (fun e => hn (by simpa using e))
    exact (World.cell?_of_block (w := W) hb).trans hp
  exact ⟨e h.1 n0, e h.2.1 n1, e h.2.2.1 n2, e h.2.2.2 n3⟩
theorem keepS {W : World} {q p0 p1 p2 p3 : Addr} {u v0 v1 v2 v3 : Value} (h : W.cell? p0 = some v0 ∧ W.cell? p1 = some v1 ∧ W.cell? p2 = some v2 ∧ W.cell? p3 = some v3)
    (n0 : p0.block ≠ q.block) (n1 : p1.block ≠ q.block) (n2 : p2.block ≠ q.block) (n3 : p3.block ≠ q.block) :
    (W.setCell q u).cell? p0 = some v0 ∧ (W.setCell q u).cell? p1 = some v1 ∧ (W.setCell q u).cell? p2 = some v2 ∧ (W.setCell q u).cell? p3 = some v3 := by
  have e : ∀ {p : Addr} {v : Value}, W.cell? p = some v → p.block ≠ q.block → (W.setCell q u).cell? p = some v := fun {p v} hp hn => by
    rw [World.cell?_setCell_other W q p u (fun e => hn (by rw [e]))]
    exact hp
  exact ⟨e h.1 n0, e h.2.1 n1, e h.2.2.1 n2, e h.2.2.2 n3⟩

theorem put3 {W : World} {b : Nat} {a0 a1 a2 : Value} (u0 u1 u2 : Value) (h0 : W.cell? ⟨b, 0, none⟩ = some a0) (h1 : W.cell? ⟨b, 1, none⟩ = some a1) (h2 : W.cell? ⟨b, 2, none⟩ = some a2) :
    (((W.setCell ⟨b, 0, none⟩ u0).setCell ⟨b, 1, none⟩ u1).setCell ⟨b, 2, none⟩ u2).cell? ⟨b, 0, none⟩ = some u0 ∧ (((W.setCell ⟨b, 0, none⟩ u0).setCell ⟨b, 1, none⟩ u1).setCell ⟨b, 2, none⟩ u2).cell? ⟨b, 1, none⟩ = some u1 ∧ (((W.setCell ⟨b, 0, none⟩ u0).setCell ⟨b, 1, none⟩ u1).setCell ⟨b, 2, none⟩ u2).cell? ⟨b, 2, none⟩ = some u2 := by
  have o : ∀ (V : World) (i j : Nat) (u : Value), i ≠ j → (V.setCell ⟨b, i, none⟩ u).cell? ⟨b, j, none⟩ = V.cell? ⟨b, j, none⟩ := fun V i j u hne => World.cell?_setCell_other V _ _ u (fun e => hne (congrArg Addr.off e))
  refine ⟨?_, ?_, ?_⟩
  · rw [o _ 2 0 _ (by omega), o _ 1 0 _ (by omega), World.cell?_setCell_same W _ u0 h0]
  · rw [o _ 2 1 _ (by omega), World.cell?_setCell_same _ _ u1 ((o _ 0 1 _ (by omega)).trans h1)]
  · rw [World.cell?_setCell_same _ _ u2 ((o _ 1 2 _ (by omega)).trans ((o _ 0 2 _ (by omega)).trans h2))]

end Go.Proofs.YtenakehnnmencagGreatDoor

/- Lists of texts and of patterns in memory; a question as a value. -/
namespace Go.Proofs.YtenakehnnmencagGreatDoor
open Go Go.RowKit Go.Proofs Go.Maps
set_option synthInstance.maxSize 1000

/-- a slice holds a list of texts, wherever it begins -/
def SlW (w : World) (ad : Option Addr) (l : List (List UInt8)) : Prop := l ≠ [] → ∃ b o, ad = some ⟨b, o, none⟩ ∧ ∀ j (hj : j < l.length), w.cell? ⟨b, o + j, none⟩ = some (encV l[j])
theorem SlW.below {w w' : World} {ad : Option Addr} {l : List (List UInt8)} (h : SlW w ad l) (hb : RowKit.Below w.heap.size w w') : SlW w' ad l := fun hl => by
  obtain ⟨b, o, e, r⟩ := h hl
  exact ⟨b, o, e, fun j hj => (hb.cell (World.block_lt_of_cell? w _ (r j hj))).trans (r j hj)⟩
theorem SlW.at {w : World} {ad : Option Addr} {l : List (List UInt8)} (h : SlW w ad l) (k : Nat) (hk : k < l.length) : ∃ b o, ad = some ⟨b, o, none⟩ ∧ w.cell? ⟨b, o + k, none⟩ = some (.string ⟨l[k].toArray⟩) := by
  obtain ⟨b, o, e, r⟩ := h (fun e => by rw [e] at hk; simp at hk)
  exact ⟨b, o, e, r k hk⟩
theorem slW_nil (W : World) (ad : Option Addr) : SlW W ad [] := fun h => absurd rfl h
theorem SlV.w {w : World} {ad : Option Addr} {l : List (List UInt8)} (h : SlV w ad l) : SlW w ad l := fun hl => by
  obtain ⟨b, e, r⟩ := h hl
  exact ⟨b, 0, e, fun j hj => by rw [Nat.zero_add]; exact r j hj⟩
theorem SlW.take {w : World} {ad : Option Addr} {l : List (List UInt8)} (h : SlW w ad l) (k : Nat) : SlW w ad (l.take k) := fun hl => by
  have hne : l ≠ [] := fun e => by rw [e] at hl; simp at hl
  obtain ⟨b, o, e, r⟩ := h hne
  refine ⟨b, o, e, fun j hj => ?_⟩
  rw [List.length_take] at hj
  rw [List.getElem_take]
  exact r j (by omega)
theorem own_w {W : World} {base : Nat} {v : Value} {t : List (List UInt8)} (h : W.ownsRow base 9 1 v t.length (t.map encV)) : ∃ ad cap, v = .slice ad t.length cap ∧ SlW W ad t := by
  obtain ⟨ad, cap, e, hs⟩ := own_v h
  exact ⟨ad, cap, e, hs.w⟩

/-- the patterns of a list, cell by cell -/
def cellsPt (l : List Pt) : List Value := l.flatMap encPt
theorem encPt_len (x : Pt) : (encPt x).length = 12 := rfl
theorem encPt_one (x : Pt) : ∀ v ∈ encPt x, v.oneCell' = true := by
  intro v hv
  simp [encPt] at hv
  rcases hv with rfl | rfl | rfl | rfl | rfl | rfl | rfl | rfl | rfl | rfl | rfl | rfl <;> rfl
theorem cellsPt_len (l : List Pt) : (cellsPt l).length = l.length * 12 := by
  induction l with
  | nil => rfl
  | cons x r ih => simp only [cellsPt, List.flatMap_cons, List.length_append, List.length_cons] at *; rw [ih, encPt_len]; omega
theorem cellsPt_at (l : List Pt) (i : Nat) (h : i < l.length) (j : Nat) (hj : j < 12) : (cellsPt l)[i * 12 + j]? = (encPt l[i])[j]? := by
  induction l generalizing i with
  | nil => simp at h
  | cons x r ih =>
    simp only [cellsPt, List.flatMap_cons] at *
    cases i with
    | zero => rw [List.getElem?_append_left (by rw [encPt_len]; omega)]; simp
    | succ n =>
      rw [List.getElem?_append_right (by rw [encPt_len]; omega), encPt_len, show (n + 1) * 12 + j - 12 = n * 12 + j by omega, ih n (by simpa using h)]
      simp
def RowPt (w : World) (b o : Nat) (l : List Pt) : Prop := ∀ j v, (cellsPt l)[j]? = some v → w.cell? ⟨b, o + j, none⟩ = some v
theorem RowPt.below {w w' : World} {b o : Nat} {l : List Pt} (h : RowPt w b o l) (hb : RowKit.Below w.heap.size w w') : RowPt w' b o l := fun j v hv =>
  (hb.cell (World.block_lt_of_cell? w _ (h j v hv))).trans (h j v hv)
theorem RowPt.at {w : World} {b o : Nat} {l : List Pt} (h : RowPt w b o l) (i : Nat) (hi : i < l.length) : ∀ j v, (encPt l[i])[j]? = some v → w.cell? ⟨b, o + i * 12 + j, none⟩ = some v := fun j v hv => by
  have hj : j < 12 := (List.getElem?_eq_some_iff.1 hv).1
  rw [Nat.add_assoc]
  exact h _ v (by rw [cellsPt_at l i hi j hj]; exact hv)
/-- a slice holds a list of patterns -/
def SlPt (w : World) (ad : Option Addr) (l : List Pt) : Prop := l ≠ [] → ∃ b o, ad = some ⟨b, o, none⟩ ∧ RowPt w b o l
theorem SlPt.below {w w' : World} {ad : Option Addr} {l : List Pt} (h : SlPt w ad l) (hb : RowKit.Below w.heap.size w w') : SlPt w' ad l := fun hl => by
  obtain ⟨b, o, e, r⟩ := h hl
  exact ⟨b, o, e, r.below hb⟩
theorem SlPt.at {w : World} {ad : Option Addr} {l : List Pt} (h : SlPt w ad l) (i : Nat) (hi : i < l.length) : ∃ b o, ad = some ⟨b, o, none⟩ ∧ RowPt w b o l :=
  h (fun e => by rw [e] at hi; simp at hi)
theorem slPt_nil (W : World) (ad : Option Addr) : SlPt W ad [] := fun h => absurd rfl h
theorem own_slPt {W : World} {base : Nat} {e : TypeId} {v : Value} {t : List Pt} (h : W.ownsRow base e 12 v t.length (cellsPt t)) : ∃ ad cap, v = .slice ad t.length cap ∧ SlPt W ad t := by
  have h' := h
  rcases h.2 with ⟨rfl, h0⟩ | ⟨g, cap, cur, rfl, _⟩
  · exact ⟨none, 0, by rw [h0], fun hne => absurd (List.eq_nil_of_length_eq_zero h0) hne⟩
  · refine ⟨some ⟨g, 0, none⟩, cap, rfl, fun _ => ⟨g, 0, rfl, fun j u hj => ?_⟩⟩
    have := h'.cells (g := g) rfl j u hj
    rwa [Addr.add_lit] at this
theorem infoPt : (Tryz.prog.info? 108).map (fun i => (i.zero, i.size, i.bytes)) = some (some (.agg (encPt (([], tmZero), ([], tmZero), ([], tmZero))).toArray), 12, 168) := by kernel_rfl

/-- a question as a value: where its lists lie -/
def valQ (q : Qu) (vd : Option Addr) (vc : Nat) (pd : Option Addr) (pc : Nat) : Value := .agg #[.slice vd q.vars.length vc, .slice pd q.parts.length pc, .string ⟨q.order.toArray⟩, .bool q.down, .bool q.dist, .int .i64 q.lim]
/-- a question that is handed in, or answered -/
structure QuIn (w : World) (q : Qu) (vd pd : Option Addr) : Prop where
  vars : SlW w vd q.vars
  parts : SlPt w pd q.parts
theorem QuIn.below {w w' : World} {q : Qu} {vd pd : Option Addr} (h : QuIn w q vd pd) (hb : RowKit.Below w.heap.size w w') : QuIn w' q vd pd := ⟨h.vars.below hb, h.parts.below hb⟩
theorem hideQ {p : Prop} (h : p) : Hid p := h
/-- a question's box -/
structure BoxQ (w : World) (b : Nat) (q : Qu) (vd pd : Option Addr) (vc pc : Nat) : Prop where
  c0 : w.cell? ⟨b, 0, none⟩ = some (.slice vd q.vars.length vc)
  c1 : w.cell? ⟨b, 1, none⟩ = some (.slice pd q.parts.length pc)
  c2 : w.cell? ⟨b, 2, none⟩ = some (.string ⟨q.order.toArray⟩)
  c3 : w.cell? ⟨b, 3, none⟩ = some (.bool q.down)
  c4 : w.cell? ⟨b, 4, none⟩ = some (.bool q.dist)
  c5 : w.cell? ⟨b, 5, none⟩ = some (.int .i64 q.lim)
theorem BoxQ.below {w w' : World} {b : Nat} {q : Qu} {vd pd : Option Addr} {vc pc : Nat} (h : BoxQ w b q vd pd vc pc) (hb : RowKit.Below w.heap.size w w') : BoxQ w' b q vd pd vc pc := by
  have s : ∀ j v, w.cell? ⟨b, j, none⟩ = some v → w'.cell? ⟨b, j, none⟩ = some v := fun j v hv => (hb.cell (World.block_lt_of_cell? w _ hv)).trans hv
  exact ⟨s _ _ h.c0, s _ _ h.c1, s _ _ h.c2, s _ _ h.c3, s _ _ h.c4, s _ _ h.c5⟩
theorem boxQ_new (w : World) (q : Qu) (vd pd : Option Addr) (vc pc : Nat) : BoxQ (w.alloc (.cells #[.slice vd q.vars.length vc, .slice pd q.parts.length pc, .string ⟨q.order.toArray⟩, .bool q.down, .bool q.dist, .int .i64 q.lim] 52)) w.heap.size q vd pd vc pc :=
  ⟨by go_simp, by go_simp, by go_simp, by go_simp, by go_simp, by go_simp⟩
/-- its texts and lists are no longer than such may be -/
structure FitQ (q : Qu) : Prop where
  vl : q.vars.length ≤ 9223372036854775807
  pl : q.parts.length ≤ 9223372036854775807
  vt : ∀ v ∈ q.vars, v.length ≤ maxLen
  pt : ∀ p ∈ q.parts, fitPt p
  ord : q.order.length ≤ maxLen
  lim : (Lit.int .i64 q.lim).wf = true
end Go.Proofs.YtenakehnnmencagGreatDoor

/- What is read of words: how much, and how long it is; plain lists, no program. -/
namespace Go.Proofs.YtenakehnnmencagGreatDoor
open Go Go.RowKit Go.Proofs Go.Maps
set_option synthInstance.maxSize 1000

theorem join_len : ∀ (l : List (List UInt8)), l.length ≤ (joinT l).length + 1 ∧ ∀ x ∈ l, x.length ≤ (joinT l).length
  | [] => by simp
  | [w] => by simp [joinT]
  | w :: x :: r => by
    obtain ⟨h1, h2⟩ := join_len (x :: r)
    have e : (joinT (w :: x :: r)).length = w.length + (1 + (joinT (x :: r)).length) := by simp [joinT]; omega
    rw [e]
    refine ⟨by simp only [List.length_cons] at *; omega, fun y hy => ?_⟩
    rcases List.mem_cons.1 hy with rfl | hy
    · omega
    · have := h2 y hy; omega
theorem words_len (l : List UInt8) : (wordsL l).length ≤ l.length + 1 ∧ ∀ x ∈ wordsL l, x.length ≤ l.length := by
  have h := join_len (wordsL l)
  rw [join_words] at h
  exact h
theorem words_ne (l : List UInt8) : wordsL l ≠ [] := (join_wscan l.length false [] l (Nat.le_refl _)).1
theorem name_fit (s : InS) : (nameS s).1.length ≤ 10 := by
  unfold nameS
  split
  · simp
  · split
    · simp
    · split
      · rename_i h
        have := var_short (varW_true h).2.2
        exact this
      · simp
theorem name_left (s : InS) : (nameS s).2.1.length ≤ s.1.length ∧ ((nameS s).2.2 = false → (nameS s).2.1.length + 1 ≤ s.1.length ∧ s.2 = false) := by
  obtain ⟨l, b⟩ := s
  unfold nameS
  cases b with
  | true => simp
  | false =>
    cases l with
    | nil => simp
    | cons w r =>
      simp only [Bool.false_eq_true, if_false]
      split <;> simp
theorem slot_left (s : InS) : (slotS s).2.1.length ≤ s.1.length ∧ ((slotS s).2.2 = false → s.2 = false) := by
  obtain ⟨l, b⟩ := s
  unfold slotS
  cases b with
  | true => simp
  | false =>
    cases l with
    | nil => simp
    | cons w r =>
      simp only [Bool.false_eq_true, if_false]
      split
      · simp
      · split <;> simp
theorem slot_fit (s : InS) : fitSl (slotS s).1 := by
  obtain ⟨l, b⟩ := s
  have hz : fitSl ([], tmZero) := by unfold fitSl tmZero; simp
  unfold slotS
  cases b with
  | true => simpa using hz
  | false =>
    cases l with
    | nil => simpa using hz
    | cons w r =>
      simp only [Bool.false_eq_true, if_false]
      split
      · rename_i h
        have := var_short (varW_true h).2.2
        refine ⟨?_, by simp [tmZero], by simp [tmZero]⟩
        show w.tail.length ≤ maxLen
        unfold maxLen; omega
      · split
        · rename_i h
          obtain ⟨h1, _⟩ := show_parse w h
          obtain ⟨_, h2, h3⟩ := check_zero h1
          have h4 := spell_lang h3
          refine ⟨by simp, ?_, ?_⟩
          · show (parseT w).2.1.length ≤ maxLen
            unfold maxLen; omega
          · show (parseT w).2.2.length ≤ maxLen
            unfold maxLen; omega
        · exact hz
theorem pat_left (s : InS) : (patS s).2.1.length ≤ s.1.length ∧ ((patS s).2.2 = false → s.2 = false) := by
  have h1 := slot_left s
  have h2 := slot_left (slotS s).2
  have h3 := slot_left (slotS (slotS s).2).2
  unfold patS
  exact ⟨Nat.le_trans h3.1 (Nat.le_trans h2.1 h1.1), fun h => h1.2 (h2.2 (h3.2 h))⟩
theorem pat_fit (s : InS) : fitPt (patS s).1 := ⟨slot_fit _, slot_fit _, slot_fit _⟩
theorem vars_fit : ∀ (f : Nat) (s : InS) (o : List (List UInt8)), (∀ v ∈ o, v.length ≤ 10) → (∀ v ∈ (varsS f s o).1, v.length ≤ 10) ∧ (varsS f s o).1.length ≤ o.length + f
  | 0, s, o, h => ⟨h, by simp [varsS]⟩
  | f + 1, s, o, h => by
    unfold varsS
    split
    · exact ⟨h, by simp⟩
    · split
      · exact ⟨h, by simp⟩
      · have ih := vars_fit f (nameS s).2 (o ++ [(nameS s).1]) (fun v hv => by
          rcases List.mem_append.1 hv with hv | hv
          · exact h v hv
          · have : v = (nameS s).1 := by simpa using hv
            rw [this]; exact name_fit s)
        refine ⟨ih.1, ?_⟩
        have := ih.2
        simp only [List.length_append, List.length_cons, List.length_nil] at this
        omega
theorem parts_fit : ∀ (f : Nat) (s : InS) (o : List Pt), (∀ p ∈ o, fitPt p) → (∀ p ∈ (partsS f s o).1, fitPt p) ∧ (partsS f s o).1.length ≤ o.length + f
  | 0, s, o, h => ⟨h, by simp [partsS]⟩
  | f + 1, s, o, h => by
    have hm : ∀ p ∈ o ++ [(patS s).1], fitPt p := fun p hp => by
      rcases List.mem_append.1 hp with hp | hp
      · exact h p hp
      · have : p = (patS s).1 := by simpa using hp
        rw [this]; exact pat_fit s
    unfold partsS
    split
    · have ih := parts_fit f ((patS s).2.1.tail, (patS s).2.2) (o ++ [(patS s).1]) hm
      refine ⟨ih.1, ?_⟩
      have := ih.2
      simp only [List.length_append, List.length_cons, List.length_nil] at this
      omega
    · exact ⟨hm, by simp⟩
theorem numF_le : ∀ (w : List UInt8) (m n : Int), 0 ≤ m → m ≤ 1000000000000000000 → numF m w = some n → 0 ≤ n ∧ n ≤ 1000000000000000000
  | [], m, n, h0, h1, h => by
    have : m = n := by simpa [numF] using h
    omega
  | c :: r, m, n, h0, h1, h => by
    unfold numF at h
    split at h
    · rename_i hd
      have hd' : 48 ≤ (c.toNat : Int) ∧ (c.toNat : Int) ≤ 57 := by simpa [digB] using hd
      refine numF_le r _ n ?_ ?_ h
      · split <;> omega
      · split <;> omega
    · cases h
theorem numW_le {w : List UInt8} {n : Int} (h : numW w = some n) : 0 ≤ n ∧ n ≤ 1000000000000000000 := by
  unfold numW at h
  split at h
  · cases h
  · split at h
    · cases h
    · exact numF_le _ 0 n (by omega) (by omega) h
theorem lim_fit (s : InS) : -1 ≤ (limS s).1 ∧ (limS s).1 ≤ 1000000000000000000 := by
  unfold limS
  split
  · split
    · simp
    · split
      · simp
      · rename_i h; have := numW_le h; simp; omega
  · simp
theorem ord_fit (s : InS) : (ordS s).1.length ≤ 10 := by
  unfold ordS
  split
  · exact name_fit _
  · simp
theorem readQ_fit (L : List (List UInt8)) (hL : L.length ≤ 1000000000) : FitQ (readQ L).1 := by
  have hv := vars_fit (L.length + 1) (nameS (hasW (needW (L, false) wSel) wDist)).2 [(nameS (hasW (needW (L, false) wSel) wDist)).1] (fun v hv => by
    have : v = _ := List.mem_singleton.1 hv
    rw [this]; exact name_fit _)
  have hp : ∀ V : List (List UInt8) × InS, (∀ p ∈ (if V.2.2 = true then (([], V.2) : List Pt × InS) else partsS (L.length + 1) V.2 []).1, fitPt p) ∧ (if V.2.2 = true then (([], V.2) : List Pt × InS) else partsS (L.length + 1) V.2 []).1.length ≤ L.length + 1 := fun V => by
    split
    · exact ⟨fun p hp => (by cases hp), by simp⟩
    · have := parts_fit (L.length + 1) V.2 [] (fun p hp => (by cases hp))
      exact ⟨this.1, by simpa using this.2⟩
  refine ⟨?_, ?_, ?_, (hp _).1, ?_, ?_⟩
  · have := hv.2
    simp only [List.length_cons, List.length_nil] at this
    show (varsS _ _ _).1.length ≤ _
    omega
  · exact Nat.le_trans (hp _).2 (by omega)
  · intro v h
    have := hv.1 v h
    unfold maxLen; omega
  · have := ord_fit ((if (varsS (L.length + 1) (nameS (hasW (needW (L, false) wSel) wDist)).2 [(nameS (hasW (needW (L, false) wSel) wDist)).1]).2.2 = true then (([], (varsS (L.length + 1) (nameS (hasW (needW (L, false) wSel) wDist)).2 [(nameS (hasW (needW (L, false) wSel) wDist)).1]).2) : List Pt × InS) else partsS (L.length + 1) (varsS (L.length + 1) (nameS (hasW (needW (L, false) wSel) wDist)).2 [(nameS (hasW (needW (L, false) wSel) wDist)).1]).2 []).2)
    show (ordS _).1.length ≤ maxLen
    exact Nat.le_trans this (by unfold maxLen; omega)
  · have := lim_fit (ordS (if (varsS (L.length + 1) (nameS (hasW (needW (L, false) wSel) wDist)).2 [(nameS (hasW (needW (L, false) wSel) wDist)).1]).2.2 = true then (([], (varsS (L.length + 1) (nameS (hasW (needW (L, false) wSel) wDist)).2 [(nameS (hasW (needW (L, false) wSel) wDist)).1]).2) : List Pt × InS) else partsS (L.length + 1) (varsS (L.length + 1) (nameS (hasW (needW (L, false) wSel) wDist)).2 [(nameS (hasW (needW (L, false) wSel) wDist)).1]).2 []).2).2.2
    show (Lit.int .i64 (limS _).1).wf = true
    have e1 : IntKind.i64.min = -9223372036854775808 := by decide
    have e2 : IntKind.i64.max = 9223372036854775807 := by decide
    simp [Lit.wf, e1, e2]
    omega
end Go.Proofs.YtenakehnnmencagGreatDoor

/- What a package ask keeps: Check, Print and Parse of questions, in plain words. -/
namespace Go.Proofs.YtenakehnnmencagGreatDoor
open Go Go.RowKit Go.Proofs Go.Maps
set_option synthInstance.maxSize 1000

/-- a question's text, or none -/
def printQ (q : Qu) : List UInt8 := if askN q = 0 then textQ q else []
/-- what Parse answers: the question, the place p, the fault n -/
def AskAns (n : Int) (p : Nat) (w : World) (s : List UInt8) (e : Ending) (w' : World) : Prop := ∃ vd vc pd pc, e = .returned (.tuple #[valQ (parseQQ s) vd vc pd pc, .int .i64 (p : Int), errV n]) ∧ QuIn w' (parseQQ s) vd pd ∧ (parseQQ s).vars.length ≤ vc ∧ (parseQQ s).parts.length ≤ pc ∧ RowKit.Below w.heap.size w w'
/-- pn, pp: what Parse tells of a text that is none may be its own; ok: what must be laid -/
structure AFace where
  lim : Nat
  ok : World → Prop
  keep : ∀ {w w' : World}, ok w → RowKit.Below w.heap.size w w' → ok w'
  pn : List UInt8 → Int
  pp : List UInt8 → Nat
  own : ∀ s, pn s = 0 ↔ parseQN s = 0
  place : ∀ s, pn s = 0 → pp s = 0
  check : ∀ (q : Qu) (vd pd : Option Addr) (vc pc : Nat) (w : World), ok w → QuIn w q vd pd → FitQ q → q.vars.length ≤ vc → q.parts.length ≤ pc → Calls Tryz.prog 21 #[valQ q vd vc pd pc] w fun e w' => e = .returned (errV (askN q)) ∧ RowKit.Below w.heap.size w w'
  print : ∀ (q : Qu) (vd pd : Option Addr) (vc pc : Nat) (w : World), ok w → QuIn w q vd pd → FitQ q → q.vars.length ≤ vc → q.parts.length ≤ pc → Calls Tryz.prog 23 #[valQ q vd vc pd pc] w fun e w' => e = .returned (.tuple #[.string ⟨(printQ q).toArray⟩, errV (askN q)]) ∧ RowKit.Below w.heap.size w w'
  parse : ∀ (s : List UInt8) (w : World), ok w → s.length ≤ lim → Calls Tryz.prog 25 #[.string ⟨s.toArray⟩] w (AskAns (pn s) (pp s) w s)

theorem good_fit {q : Qu} (g : GoodQ q) : FitQ q := by
  refine ⟨by have := g.few; omega, by have := g.six; omega, fun v hv => ?_, fun p hp => ?_, ?_, ?_⟩
  · have := var_short (g.vars v hv).2
    unfold maxLen; omega
  · have hs : ∀ s : Sl, slotN s = 0 → fitSl s := fun s h => by
      by_cases hv : s.1 = []
      · obtain ⟨_, h2, h3⟩ := check_zero (slot_term h hv)
        have h4 := spell_lang h3
        refine ⟨by rw [hv]; simp, ?_, ?_⟩ <;> unfold maxLen <;> omega
      · obtain ⟨h1, h2⟩ := slot_spell h hv
        have := var_short h1
        refine ⟨by unfold maxLen; omega, ?_, ?_⟩
        · rw [h2]; simp [tmZero]
        · rw [h2]; simp [tmZero]
    obtain ⟨h1, h2, h3⟩ := vars_zero (g.parts p hp)
    exact ⟨hs _ h1, hs _ h2, hs _ h3⟩
  · rcases g.order with h | h
    · rw [h]; simp
    · have := var_short (g.vars _ h).2
      unfold maxLen; omega
  · have h := g.lim
    have e1 : IntKind.i64.min = -9223372036854775808 := by decide
    have e2 : IntKind.i64.max = 9223372036854775807 := by decide
    simp [Lit.wf, e1, e2]
    omega
theorem parse_zeroQ {s : List UInt8} (h : parseQN s = 0) : parseQP s = 0 := (text_parse h).2.2
theorem zero_fit : FitQ quZero := ⟨by simp [quZero], by simp [quZero], fun v h => (by cases h), fun p h => (by cases h), by simp [quZero], by decide⟩
theorem parse_fitQ (s : List UInt8) : FitQ (parseQQ s) := by
  by_cases h : parseQN s = 0
  · exact good_fit (ask_good (text_parse h).1)
  · unfold parseQQ; rw [if_neg h]; exact zero_fit
end Go.Proofs.YtenakehnnmencagGreatDoor
