import Derived.Test.YtaddfndohoppeaaGreatMA1x0
import Derived.Test.YtaddfndohoppeaaGreatMA0x1
import Derived.Test.YtaddfndohoppeaaGreatMA0x0
import Derived.Maps.OwnSet
import Derived.DeepKeys4
import Derived.OwnWalk
import Derived.Laws.Rows
import Derived.Deep.RegionHeld3
import Derived.RegionTactic
import Derived.Test.YtaddfndohoppeaaGreatMA0x2

/- match.isFree, spelled, slotFault, slotsOf, and slices.Contains at texts: what they tell. -/
namespace Go.Proofs.YtaddfndohoppeaaGreat
open Go Go.RowKit Go.Proofs
set_option synthInstance.maxSize 1000

attribute [local go_sem] eql_errV neq_errV guard_errV

def valTermM (x : Tm) : Value := .agg #[.int .i64 x.1, .string ⟨x.2.1.toArray⟩, .string ⟨x.2.2.toArray⟩]
def valSl (s : Sl) : Value := .agg #[.string ⟨s.1.toArray⟩, .int .i64 s.2.1, .string ⟨s.2.2.1.toArray⟩, .string ⟨s.2.2.2.toArray⟩]
def encPt (p : Pt) : List Value := [.string ⟨p.1.1.toArray⟩, .int .i64 p.1.2.1, .string ⟨p.1.2.2.1.toArray⟩, .string ⟨p.1.2.2.2.toArray⟩, .string ⟨p.2.1.1.toArray⟩, .int .i64 p.2.1.2.1, .string ⟨p.2.1.2.2.1.toArray⟩, .string ⟨p.2.1.2.2.2.toArray⟩, .string ⟨p.2.2.1.toArray⟩, .int .i64 p.2.2.2.1, .string ⟨p.2.2.2.2.1.toArray⟩, .string ⟨p.2.2.2.2.2.toArray⟩]
def valPt (p : Pt) : Value := .agg #[.string ⟨p.1.1.toArray⟩, .int .i64 p.1.2.1, .string ⟨p.1.2.2.1.toArray⟩, .string ⟨p.1.2.2.2.toArray⟩, .string ⟨p.2.1.1.toArray⟩, .int .i64 p.2.1.2.1, .string ⟨p.2.1.2.2.1.toArray⟩, .string ⟨p.2.1.2.2.2.toArray⟩, .string ⟨p.2.2.1.toArray⟩, .int .i64 p.2.2.2.1, .string ⟨p.2.2.2.2.1.toArray⟩, .string ⟨p.2.2.2.2.2.toArray⟩]
def fitSl (s : Sl) : Prop := s.1.length ≤ maxLen ∧ s.2.2.1.length ≤ maxLen ∧ s.2.2.2.length ≤ maxLen
def fitPt (p : Pt) : Prop := fitSl p.1 ∧ fitSl p.2.1 ∧ fitSl p.2.2

theorem eqlTerm (k : Int) (S L : List UInt8) (k' : Int) (S' L' : List UInt8) (w : World) : (binOp .eql 56 (.agg #[.int .i64 k, .string ⟨S.toArray⟩, .string ⟨L.toArray⟩]) (.agg #[.int .i64 k', .string ⟨S'.toArray⟩, .string ⟨L'.toArray⟩])).run Tryz.prog w = .ok (.bool (eqTB k S L k' S' L')) w := by
  rw [run_eql_struct, equalTerm]; rfl
theorem neqTerm (k : Int) (S L : List UInt8) (k' : Int) (S' L' : List UInt8) (w : World) : (binOp .neq 56 (.agg #[.int .i64 k, .string ⟨S.toArray⟩, .string ⟨L.toArray⟩]) (.agg #[.int .i64 k', .string ⟨S'.toArray⟩, .string ⟨L'.toArray⟩])).run Tryz.prog w = .ok (.bool (!eqTB k S L k' S' L')) w := by
  rw [run_neq_struct, equalTerm]; rfl
theorem neqTermZ (k : Int) (S L : List UInt8) (w : World) : (binOp .neq 56 (.agg #[.int .i64 k, .string ⟨S.toArray⟩, .string ⟨L.toArray⟩]) (.agg #[.int .i64 0, .string ⟨#[]⟩, .string ⟨#[]⟩])).run Tryz.prog w = .ok (.bool (!eqTB k S L 0 [] [])) w := neqTerm k S L 0 [] [] w
theorem eqTB_tm (x y : Tm) : eqTB x.1 x.2.1 x.2.2 y.1 y.2.1 y.2.2 = decide (x = y) := by
  obtain ⟨k, s, l⟩ := x
  obtain ⟨k', s', l'⟩ := y
  rw [Bool.eq_iff_iff, eqTB_iff]
  simp

theorem isVar_any (v : List UInt8) (k : Int) (S L : List UInt8) (w : World) :
    Calls Tryz.prog 188 #[.agg #[.string ⟨v.toArray⟩, .int .i64 k, .string ⟨S.toArray⟩, .string ⟨L.toArray⟩]] w fun e w' => e = .returned (.bool (!v.isEmpty)) ∧ Below w.heap.size w w' := by
  cases v
  all_goals
    go_enter Tryz.func188, Tryz.ntmps188
    go_wp2
    go_ret
    exact ⟨rfl, balloc _ _⟩

theorem offR_any (x : Nat) (w : World) : Calls Tryz.prog 236 #[.int .i32 x] w fun e w' => e = .returned (.bool (offR x)) ∧ ∃ q, w' = w.drewN q := by
  have fin : Hid (offR x = (decide (x < 97) || decide (122 < x))) := rfl
  by_cases h : x < 97
  · have h' : decide ((x : Int) < 97) = true := by simp; omega
    go_enter Tryz.func236, Tryz.ntmps236
    go_wp2
    go_ret
    exact ⟨ret_bool (by rw [fin.out]; simp [h]), 0, rfl⟩
  · have h' : decide ((x : Int) < 97) = false := by simp; omega
    go_enter Tryz.func236, Tryz.ntmps236
    go_wp2
    go_ret
    exact ⟨ret_bool (by rw [fin.out]; simp [h]; omega), 0, rfl⟩

theorem enters236 : ∀ args w, (callFunc 236 args).run Tryz.prog w = .ok (.enter 236 args) w := enters_of Tryz.func236 (by kernel_rfl) rfl

set_option maxHeartbeats 1000000 in
theorem IsVar_any (v : List UInt8) (w : World) (hv : v.length ≤ maxLen) :
    Calls Tryz.prog 218 #[.string ⟨v.toArray⟩] w fun e w' => e = .returned (.bool (!v.isEmpty && spellV v)) ∧ Below w.heap.size w w' := by
  have H := fun W => Tryz.strings_ContainsFunc 236 #[] enters236 offR ⟨v.toArray⟩ W (fun W' x _ => offR_any x W')
  have e : decide (0 ≤ Lib.idxFunc offR true ⟨v.toArray⟩) = !allB letB v := offAny ⟨v.toArray⟩
  rw [e] at H
  cases v with
  | nil =>
    clear e H
    go_enter Tryz.func218, Tryz.ntmps218
    go_wp2
    go_ret
    exact ⟨rfl, Below.refl _ _⟩
  | cons c r =>
    have fin : Hid (spellV (c :: r) = (decide (r.length + 1 ≤ 10) && allB letB (c :: r))) := rfl
    generalize allB letB (c :: r) = d at *
    clear e
    unfold maxLen at hv
    have hv' : r.length + 1 ≤ 9223372036854775807 := hv
    by_cases h : r.length + 1 ≤ 10
    · have h' : decide ((r.length : Int) + 1 ≤ 10) = true := by simp; omega
      go_enter Tryz.func218, Tryz.ntmps218
      go_wp2_with (go_at_call 49; refine (H _).mono ?_; rintro e w' ⟨rfl, hb⟩)
      go_ret
      exact ⟨ret_bool (by rw [fin.out]; simp [h]), by assumption⟩
    · have h' : decide ((r.length : Int) + 1 ≤ 10) = false := by simp; omega
      clear H
      go_enter Tryz.func218, Tryz.ntmps218
      go_wp2
      go_ret
      exact ⟨ret_bool (by rw [fin.out]; simp [h]), Below.refl _ _⟩

theorem spelledV_any (v : List UInt8) (w : World) (hv : v.length ≤ maxLen) (hne : v ≠ []) :
    Calls Tryz.prog 218 #[.string ⟨v.toArray⟩] w fun e w' => e = .returned (.bool (spellV v)) ∧ Below w.heap.size w w' := by
  have := IsVar_any v w hv
  rw [show (!v.isEmpty) = true by cases v with | nil => exact absurd rfl hne | cons c r => rfl, Bool.true_and] at this
  exact this
end Go.Proofs.YtaddfndohoppeaaGreat

/- match.slotFault, slotsOf, termsOf; slices.Contains at texts. -/
namespace Go.Proofs.YtaddfndohoppeaaGreat
open Go Go.RowKit Go.Proofs
set_option synthInstance.maxSize 1000

attribute [local go_sem] eql_errV neq_errV guard_errV
attribute [local go_sem ↓] neqTermZ

theorem fourbox {w W : World} {T : TypeId} {a0 a1 a2 a3 : Value} (hb : Below (w.alloc (.cells #[a0, a1, a2, a3] T)).heap.size (w.alloc (.cells #[a0, a1, a2, a3] T)) W) :
    W.cell? ⟨w.heap.size, 0, none⟩ = some a0 ∧ W.cell? ⟨w.heap.size, 1, none⟩ = some a1 ∧ W.cell? ⟨w.heap.size, 2, none⟩ = some a2 ∧ W.cell? ⟨w.heap.size, 3, none⟩ = some a3 ∧ w.heap.size < W.heap.size := by
  obtain ⟨h, _⟩ := bcell hb
  have hs := hb.size
  refine ⟨?_, ?_, ?_, ?_, by simp at hs; omega⟩
  all_goals
    rw [h]
    · go_simp
    · simp <;> omega

set_option maxHeartbeats 1000000 in
theorem slotFault_any (s : Sl) (w : World) (hs : fitSl s) :
    Calls Tryz.prog 187 #[valSl s] w fun e w' => e = .returned (errV (slotN s)) ∧ Below w.heap.size w w' := by
  obtain ⟨v, k, S, L⟩ := s
  obtain ⟨hv, hS, hL⟩ := hs
  have HV := fun W => isVar_any v k S L W
  have HC := fun W => Check_any k S L W hS hL
  have HP0 := fun W => spelledV_any v W hv
  unfold valSl
  dsimp only
  cases v with
  | nil =>
    have fin : Hid (slotN ([], k, S, L) = checkN k S L) := rfl
    rw [show (!([] : List UInt8).isEmpty) = false from rfl] at HV
    clear HP0 hv hS hL
    generalize checkN k S L = c at HC fin
    go_enter Tryz.func187, Tryz.ntmps187
    go_wp2_with fail
    refine (HV _).mono ?_
    rintro e w1 ⟨rfl, hb1⟩
    obtain ⟨a0, a1, a2, a3, hz⟩ := fourbox hb1
    go_wp2_with fail
    refine (HC _).mono ?_
    rintro e w2 ⟨rfl, hb2⟩
    go_wp2_with fail
    go_ret
    exact ⟨ret_val (by rw [fin.out]; rfl), bstep (bstep (balloc _ _) hb1) hb2⟩
  | cons ch r =>
    have fin : Hid (slotN (ch :: r, k, S, L) = if spellV (ch :: r) = false then 2 else if eqTB k S L 0 [] [] = true then 0 else 3) := by
      show slotN _ = _
      unfold slotN
      rw [if_neg (by simp)]
      have := eqTB_tm (k, S, L) tmZero
      by_cases hz : (k, S, L) = tmZero
      · rw [decide_eq_true hz] at this
        rw [show eqTB k S L 0 [] [] = true from this]
        simp only [hz, if_true]
      · rw [decide_eq_false hz] at this
        rw [show eqTB k S L 0 [] [] = false from this]
        simp only [hz, if_false, Bool.false_eq_true]
    rw [show (!(ch :: r).isEmpty) = true from rfl] at HV
    have HP := fun W => HP0 W (by simp)
    clear HP0 HC hv hS hL
    generalize spellV (ch :: r) = d at HP fin
    cases d
    · go_enter Tryz.func187, Tryz.ntmps187
      go_wp2_with fail
      refine (HV _).mono ?_
      rintro e w1 ⟨rfl, hb1⟩
      obtain ⟨a0, a1, a2, a3, hz⟩ := fourbox hb1
      go_wp2_with fail
      refine (HP _).mono ?_
      rintro e w2 ⟨rfl, hb2⟩
      go_wp2_with fail
      go_ret
      exact ⟨ret_val (by rw [fin.out]; rfl), bstep (bstep (balloc _ _) hb1) hb2⟩
    · cases hq : eqTB k S L 0 [] []
      all_goals
        go_enter Tryz.func187, Tryz.ntmps187
        go_wp2_with fail
        refine (HV _).mono ?_
        rintro e w1 ⟨rfl, hb1⟩
        obtain ⟨a0, a1, a2, a3, hz⟩ := fourbox hb1
        go_wp2_with fail
        refine (HP _).mono ?_
        rintro e w2 ⟨rfl, hb2⟩
        have b1 := (hb2.cell (World.block_lt_of_cell? w1 _ a1)).trans a1
        have b2 := (hb2.cell (World.block_lt_of_cell? w1 _ a2)).trans a2
        have b3 := (hb2.cell (World.block_lt_of_cell? w1 _ a3)).trans a3
        clear a0 a1 a2 a3
        go_wp2_with fail
        go_ret
        exact ⟨ret_val (by rw [fin.out, hq]; rfl), bstep (bstep (balloc _ _) hb1) hb2⟩

theorem slotsOf_any (p : Pt) (w : World) : Calls Tryz.prog 186 #[valPt p] w fun e w' => e = .returned (valPt p) ∧ Below w.heap.size w w' := by
  unfold valPt
  go_enter Tryz.func186, Tryz.ntmps186
  go_wp2_with fail
  refine bodyPost_ret (v := .agg (encPt p).toArray) (by unfold results; rw [Tryz.results186]; unfold encPt; go_simp) rfl ⟨rfl, ?_⟩
  exact bstep (balloc _ _) (balloc _ _)

theorem termsOf_any (x : Tr) (w : World) : Calls Tryz.prog 191 #[valTr x] w fun e w' => e = .returned (valTr x) ∧ Grew w w' := by
  unfold valTr
  go_enter Tryz.func191, Tryz.ntmps191
  go_wp2_with fail
  refine bodyPost_ret (v := .agg (encTr x).toArray) (by unfold results; rw [Tryz.results191]; unfold encTr; go_simp) rfl ⟨rfl, ?_⟩
  exact (grew_alloc _ _).trans (grew_alloc _ _)

/-! ### texts in a row -/
def encV (v : List UInt8) : Value := .string ⟨v.toArray⟩
def SlV (w : World) (ad : Option Addr) (l : List (List UInt8)) : Prop := l ≠ [] → ∃ b, ad = some ⟨b, 0, none⟩ ∧ ∀ j (hj : j < l.length), w.cell? ⟨b, j, none⟩ = some (encV l[j])
theorem own_v {W : World} {base : Nat} {v : Value} {t : List (List UInt8)} (h : W.ownsRow base 9 1 v t.length (t.map encV)) : ∃ ad cap, v = .slice ad t.length cap ∧ SlV W ad t := by
  have h' := h
  rcases h.2 with ⟨rfl, h0⟩ | ⟨g, cap, cur, rfl, _⟩
  · exact ⟨none, 0, by rw [h0], fun hne => absurd (List.eq_nil_of_length_eq_zero h0) hne⟩
  · refine ⟨some ⟨g, 0, none⟩, cap, rfl, fun _ => ⟨g, rfl, fun j hj => ?_⟩⟩
    have := h'.cells (g := g) rfl j (encV t[j]) (by simp [List.getElem?_eq_getElem hj])
    rw [Addr.add_lit, Nat.zero_add] at this
    exact this
theorem SlV.below {w w' : World} {ad : Option Addr} {l : List (List UInt8)} (h : SlV w ad l) (hb : Below w.heap.size w w') : SlV w' ad l := fun hl => by
  obtain ⟨b, e, r⟩ := h hl
  exact ⟨b, e, fun j hj => (hb.cell (World.block_lt_of_cell? w _ (r j hj))).trans (r j hj)⟩

theorem ContainsV_any (ad : Option Addr) (cap : Nat) (l : List (List UInt8)) (x : List UInt8) (w : World) (h : SlV w ad l) (hn : l.length ≤ 1000000) :
    Calls Tryz.prog 108 #[.slice ad l.length cap, .string ⟨x.toArray⟩] w fun e w' => e = .returned (.bool (decide (x ∈ l))) ∧ w' = w := by
  cases hl : l with
  | nil =>
    simpa using Tryz.slices_Contains_string_empty ad cap ⟨x.toArray⟩ w
  | cons c r =>
    rw [← hl]
    obtain ⟨b, rfl, hr⟩ := h (by rw [hl]; simp)
    refine (Tryz.slices_Contains_string b 0 l.length cap (l.map fun v => ⟨v.toArray⟩) ⟨x.toArray⟩ w (by simp) (by omega) ?_).mono ?_
    · intro j hj
      have hj' : j < l.length := by simpa using hj
      rw [Nat.zero_add, hr j hj']
      simp [encV, List.getD_eq_getElem?_getD, List.getElem?_eq_getElem hj']
    · rintro e w' ⟨rfl, rfl⟩
      refine ⟨ret_bool ?_, rfl⟩
      rw [show l.length = (l.map fun v => (⟨v.toArray⟩ : ByteArray)).length by simp, List.take_length, Bool.eq_iff_iff, Lib.containsS_iff]
      simp only [List.mem_map, decide_eq_true_eq]
      constructor
      · rintro ⟨v, hv, e⟩
        have := congrArg (fun s : ByteArray => s.data.toList) e
        simp at this
        exact this ▸ hv
      · intro hx
        exact ⟨x, hx, rfl⟩
end Go.Proofs.YtaddfndohoppeaaGreat

/- match.bind: which term a variable has; a map whose keys are texts and whose elements are terms. -/
namespace Go.Proofs.YtaddfndohoppeaaGreat
open Go Go.RowKit Go.Proofs Go.Maps
set_option synthInstance.maxSize 1000

/-- what variables have -/
abbrev Env := List (List UInt8 × Tm)
def lookE (E : Env) (v : List UInt8) : Option Tm := E.lookup v
def putEn (E : Env) (v : List UInt8) (x : Tm) : Env := if (lookE E v).isSome then E else E ++ [(v, x)]
def getEn (E : Env) (v : List UInt8) (x : Tm) : Tm := (lookE E v).getD x

theorem lookE_put (E : Env) (v : List UInt8) (x : Tm) (h : lookE E v = none) (u : List UInt8) : lookE (E ++ [(v, x)]) u = if u = v then some x else lookE E u := by
  unfold lookE at *
  induction E with
  | nil =>
    by_cases e : u = v
    · subst e; simp
    · simp only [List.nil_append, List.lookup]
      rw [if_neg e, show (u == v) = false by simpa using e]
  | cons a r ih =>
    obtain ⟨n, y⟩ := a
    simp only [List.cons_append, List.lookup] at h ⊢
    cases hn : (v == n)
    · rw [hn] at h
      cases hu : (u == n)
      · exact ih h
      · have e1 : u = n := by simpa using hu
        have e2 : ¬ v = n := by simpa using hn
        rw [if_neg (show ¬ u = v from fun e => e2 (e.symm.trans e1))]
    · rw [hn] at h; simp at h

/-! ### elements that are terms -/
def encDM (x : Tm) : DataW Unit := .agg [.lit (.int .i64 x.1), .lit (.string x.2.1), .lit (.string x.2.2)]
def termElemM (v : Value) : Option (DataW Unit × List MemPlace) :=
  match v with
  | .agg cs => match cs.toList with
    | [.int .i64 k, .string S, .string L] => some (encDM (k, S.data.toList, L.data.toList), [])
    | _ => none
  | _ => none
theorem termElemM_mk (x : Tm) : termElemM (valTermM x) = some (encDM x, []) := by
  simp [termElemM, valTermM]
theorem encDM_inj {x y : Tm} (h : encDM x = encDM y) : x = y := by
  obtain ⟨a1, a2, a3⟩ := x
  obtain ⟨b1, b2, b3⟩ := y
  simp only [encDM, DataW.agg.injEq, List.cons.injEq, DataW.lit.injEq, Lit.int.injEq, Lit.string.injEq, true_and, and_true] at h
  obtain ⟨rfl, rfl, rfl⟩ := h
  rfl
theorem termElemM_inv {v : Value} {x : Tm} {ps : List MemPlace} (h : termElemM v = some (encDM x, ps)) : v = valTermM x := by
  unfold termElemM at h
  split at h
  · rename_i cs
    split at h
    · rename_i k S L hcs
      simp only [Option.some.injEq, Prod.mk.injEq] at h
      have := encDM_inj h.1
      subst this
      obtain ⟨l, rfl⟩ : ∃ l : List Value, cs = l.toArray := ⟨cs.toList, by simp⟩
      simp at hcs
      subst hcs
      rfl
    · cases h
  · cases h

theorem keyedStr : Keyed Tryz.prog 9 := string_keyed Tryz.underlying9
theorem keyOf_v (v : List UInt8) (hv : v.length ≤ maxLen) : keyOf Tryz.prog 9 (.string ⟨v.toArray⟩) = some (.string v) := by
  have h' : (⟨v.toArray⟩ : ByteArray).size ≤ maxLen := hv
  simp [keyOf, Tryz.underlying9, mapKey, h']
theorem zeroTmV (w : World) : (zeroValue 56).run Tryz.prog w = .ok (valTermM tmZero) w := by kernel_rfl

/-- the map at a block holds what variables have -/
def BoundAt (w : World) (bm : Nat) (E : Env) : Prop :=
  ∃ D : DataW Unit, w.ownsMap Tryz.prog 9 termElemM bm E.length D ∧ ∀ v : List UInt8, v.length ≤ maxLen → Maps.has D (.string v) = (lookE E v).isSome ∧ D.atKey (.string v) (encDM tmZero) = encDM ((lookE E v).getD tmZero)

theorem ownsMap_belowM {H : Type} {R : Value → Option (DataW H × List MemPlace)} {k : TypeId} {w w' : World} {b n : Nat} {D : DataW H} (h : w.ownsMap Tryz.prog k R b n D) (hb : RowKit.Below w.heap.size w w') : w'.ownsMap Tryz.prog k R b n D := by
  obtain ⟨es, clock, hm, r⟩ := h
  have hlt : b < w.heap.size := (Array.getElem?_eq_some_iff.1 hm).1
  exact ⟨es, clock, (hb.block b hlt).trans hm, r⟩
theorem BoundAt.below {w w' : World} {bm : Nat} {E : Env} (h : BoundAt w bm E) (hb : RowKit.Below w.heap.size w w') : BoundAt w' bm E := by
  obtain ⟨D, o, f⟩ := h
  exact ⟨D, ownsMap_belowM o hb, f⟩
theorem BoundAt.lt {w : World} {bm : Nat} {E : Env} (h : BoundAt w bm E) : bm < w.heap.size := by
  obtain ⟨D, ⟨es, clock, hm, r⟩, f⟩ := h
  exact (Array.getElem?_eq_some_iff.1 hm).1
theorem boundAt_made (w : World) : BoundAt (w.alloc (.map #[] 0)) w.heap.size [] :=
  ⟨.map [], World.ownsMap_made _ _ _ _, fun v _ => ⟨by simp [Maps.has_eq, lookE], by simp [DataW.atKey, lookE]⟩⟩

theorem look_bound {bm : Nat} {E : Env} {w : World} (h : BoundAt w bm E) (v : List UInt8) (hv : v.length ≤ maxLen) :
    (Instr.lookup 100 (.map (some bm)) (.string ⟨v.toArray⟩) true).run Tryz.prog w = .ok (.tuple #[valTermM ((lookE E v).getD tmZero), .bool (lookE E v).isSome]) w := by
  obtain ⟨D, o, f⟩ := h
  obtain ⟨u, ps, hrun, hu⟩ := o.look_ok keyedStr Tryz.underlying100 (zeroTmV w) (termElemM_mk tmZero) (keyOf_v v hv)
  rw [(f v hv).2] at hu
  rw [hrun, (f v hv).1, termElemM_inv hu]

theorem wpList_look_bound (w : World) {ops : Array Oper} {rest : List Oper} {o : Oper} {a : Act} {Q : Exit → Act → World → Prop}
    (hg : o.guard = none) (m x : Operand) (hop : o.op = Op.lookup 100 m x true) (bm : Nat) (E : Env) (hm : a.eval m = .map (some bm)) (h : BoundAt w bm E)
    (v : List UInt8) (hv : v.length ≤ maxLen) (hx : a.eval x = .string ⟨v.toArray⟩) (y : Tm) (b : Bool) (hy : (lookE E v).getD tmZero = y) (hb : (lookE E v).isSome = b)
    (hK : wpList Tryz.prog ops Q rest (a.put o.dst (.tuple #[.agg #[.int .i64 y.1, .string ⟨y.2.1.toArray⟩, .string ⟨y.2.2.toArray⟩], .bool b])) w) : wpList Tryz.prog ops Q (o :: rest) a w := by
  refine wpList_plain hg fun K' hK' => ?_
  have hrun := look_bound h v hv
  rw [hy, hb] at hrun
  unfold Oper.wp
  simp [execOp, hop, hm, hx, hrun, Result.andThen]
  exact hK' _ _ hK

/-- one more variable -/
theorem bound_put {E : Env} {v : List UInt8} {x : Tm} {D : DataW Unit} (hv : v.length ≤ maxLen) (hn : lookE E v = none) (m1 : IsMap D)
    (f : ∀ v : List UInt8, v.length ≤ maxLen → Maps.has D (.string v) = (lookE E v).isSome ∧ D.atKey (.string v) (encDM tmZero) = encDM ((lookE E v).getD tmZero)) :
    ∀ u : List UInt8, u.length ≤ maxLen → Maps.has (D.put (.string v) (encDM x)) (.string u) = (lookE (E ++ [(v, x)]) u).isSome ∧ (D.put (.string v) (encDM x)).atKey (.string u) (encDM tmZero) = encDM ((lookE (E ++ [(v, x)]) u).getD tmZero) := fun u hu => by
  have hk := keyedStr.key (keyOf_v v hv)
  rw [lookE_put E v x hn u]
  by_cases e : u = v
  · subst e
    rw [Maps.has_put_same m1 hk, Maps.atKey_put_same m1 hk, if_pos rfl]
    exact ⟨rfl, rfl⟩
  · have hne : (Lit.string u) ≠ (Lit.string v) := fun e' => e (by simpa using e')
    rw [Maps.has_put_other hne, Maps.atKey_put_other hne, if_neg e]
    exact f u hu

theorem grownBy_below {w w' : World} {r : Option Nat} (hb : RowKit.Below w.heap.size w w') : w.grownBy w' r := ⟨hb.os, hb.tape, hb.output, hb.size, fun i hi _ => hb.block i hi⟩
theorem grown_far {W w1 : World} {bm b : Nat} (h : W.grownBy w1 (some bm)) (hb : b < W.heap.size) (hne : b ≠ bm) (o : Nat) : w1.cell? ⟨b, o, none⟩ = W.cell? ⟨b, o, none⟩ ∧ w1.frozen? ⟨b, o, none⟩ = W.frozen? ⟨b, o, none⟩ := by
  have e := h.block b hb (fun e => hne (by simpa using e))
  refine ⟨World.cell?_of_block (w := W) e, ?_⟩
  simp only [World.frozen?]
  rw [e]
theorem grown_mid {w W w1 w2 : World} {bm : Nat} (h1 : RowKit.Below w.heap.size w W) (h2 : W.grownBy w1 (some bm)) (h3 : RowKit.Below w.heap.size w1 w2) : w.grownBy w2 (some bm) :=
  ⟨h3.os.trans (h2.os.trans h1.os), h3.tape.trans (h2.tape.trans h1.tape), h3.output.trans (h2.output.trans h1.output), Nat.le_trans (Nat.le_trans h1.size h2.size) h3.size,
    fun i hi hr => (h3.block i hi).trans ((h2.block i (Nat.lt_of_lt_of_le hi h1.size) hr).trans (h1.block i hi))⟩
theorem BoundAt.far {w w' : World} {bm B : Nat} {E : Env} (h : BoundAt w bm E) (hb : RowKit.Below B w w') (hB : bm < B) : BoundAt w' bm E := by
  obtain ⟨D, ⟨es, clock, hm, r⟩, f⟩ := h
  exact ⟨D, ⟨es, clock, (hb.block bm hB).trans hm, r⟩, f⟩

set_option maxHeartbeats 2000000 in
set_option maxRecDepth 100000 in
theorem bind_any (bm : Nat) (E : Env) (v : List UInt8) (x : Tm) (w : World) (h : BoundAt w bm E) (hv : v.length ≤ maxLen) (hE : E.length ≤ 1000) :
    Calls Tryz.prog 192 #[.map (some bm), .string ⟨v.toArray⟩, valTermM x] w fun e w' => e = .returned (valTermM (getEn E v x)) ∧ BoundAt w' bm (putEn E v x) ∧ w.grownBy w' (some bm) := by
  have hlt := h.lt
  have Hb : Hid (BoundAt w bm E) := h
  clear h
  cases hl : lookE E v with
  | some y =>
    have e1 : getEn E v x = y := by simp [getEn, hl]
    have e2 : putEn E v x = E := by simp [putEn, hl]
    rw [e1, e2]
    clear e1 e2
    have Hl : Hid (lookE E v = some y) := hl
    clear hl
    unfold valTermM
    go_enter Tryz.func192, Tryz.ntmps192
    go_wp2_with (first
      | (at_lookup; refine wpList_look_bound _ rfl _ _ rfl bm E rfl ((Hb.out.below (balloc _ _)).below (balloc _ _)) v hv rfl y true (by rw [Hl.out]; rfl) (by rw [Hl.out]; rfl) ?_))
    have hB : RowKit.Below w.heap.size w _ := bstep (bstep (balloc w (.cells #[.int .i64 x.1, .string ⟨x.2.1.toArray⟩, .string ⟨x.2.2.toArray⟩] 56)) (balloc _ (.cells #[.int .i64 y.1, .string ⟨y.2.1.toArray⟩, .string ⟨y.2.2.toArray⟩] 56))) (balloc _ (.cells #[.int .i64 y.1, .string ⟨y.2.1.toArray⟩, .string ⟨y.2.2.toArray⟩] 56))
    exact bodyPost_ret (v := .agg #[.int .i64 y.1, .string ⟨y.2.1.toArray⟩, .string ⟨y.2.2.toArray⟩]) (by unfold results; rw [Tryz.results192]; go_simp) rfl ⟨rfl, Hb.out.below hB, grownBy_below hB⟩
  | none =>
    have e1 : getEn E v x = x := by simp [getEn, hl]
    have e2 : putEn E v x = E ++ [(v, x)] := by simp [putEn, hl]
    rw [e1, e2]
    clear e1 e2
    have Hl : Hid (lookE E v = none) := hl
    clear hl
    unfold valTermM
    have helem := termElemM_mk x
    unfold valTermM at helem
    obtain ⟨D, hown0, hf0⟩ := Hb.out
    have hown : Hid (w.ownsMap Tryz.prog 9 termElemM bm E.length D) := hown0
    have hf : Hid (∀ v : List UInt8, v.length ≤ maxLen → Maps.has D (.string v) = (lookE E v).isSome ∧ D.atKey (.string v) (encDM tmZero) = encDM ((lookE E v).getD tmZero)) := hf0
    have hkey := keyOf_v v hv
    clear hown0 hf0
    go_enter Tryz.func192, Tryz.ntmps192
    go_wp2_with (first
      | (at_lookup; refine wpList_look_bound _ rfl _ _ rfl bm E rfl ((Hb.out.below (balloc _ _)).below (balloc _ _)) v hv rfl tmZero false (by rw [Hl.out]; rfl) (by rw [Hl.out]; rfl) ?_)
      | (at_mapUpdate; refine wpList_mapUpdate_own _ rfl _ _ _ 100 rfl 9 56 keyedStr Tryz.underlying100 (termElemM) bm E.length _ rfl (((hown.out.alloc _).alloc _).alloc _) (by unfold maxLen; omega) _ _ _ rfl rfl hkey _ [] helem ?_; intro w1 hown1 hgrow1
         obtain ⟨c0, _⟩ := grown_far hgrow1 (b := w.heap.size) (by simp; omega) (by omega) 0
         obtain ⟨c1, _⟩ := grown_far hgrow1 (b := w.heap.size) (by simp; omega) (by omega) 1
         obtain ⟨c2, _⟩ := grown_far hgrow1 (b := w.heap.size) (by simp; omega) (by omega) 2
         obtain ⟨d0, f0⟩ := grown_far hgrow1 (b := w.heap.size + 1) (by simp) (by omega) 0
         obtain ⟨d1, f1⟩ := grown_far hgrow1 (b := w.heap.size + 1) (by simp) (by omega) 1
         obtain ⟨d2, f2⟩ := grown_far hgrow1 (b := w.heap.size + 1) (by simp) (by omega) 2
         have Hg : Hid (World.grownBy _ w1 (some bm)) := hgrow1
         have Ho : Hid (w1.ownsMap _ _ _ _ _ _) := hown1
         clear hgrow1 hown1))
    have hB0 : RowKit.Below w.heap.size w _ := bstep (bstep (balloc w (.cells #[.int .i64 x.1, .string ⟨x.2.1.toArray⟩, .string ⟨x.2.2.toArray⟩] 56)) (balloc _ (.cells #[.int .i64 0, .string ⟨#[]⟩, .string ⟨#[]⟩] 56))) (balloc _ (.cells #[.int .i64 0, .string ⟨#[]⟩, .string ⟨#[]⟩] 56))
    have hB3 : RowKit.Below w.heap.size w1 _ := (((RowKit.Below.refl w.heap.size w1).setCell (p := ⟨w.heap.size + 1, 0, none⟩) (by show w.heap.size ≤ w.heap.size + 1; omega) (.int .i64 x.1)).setCell (p := ⟨w.heap.size + 1, 1, none⟩) (by show w.heap.size ≤ w.heap.size + 1; omega) (.string ⟨x.2.1.toArray⟩)).setCell (p := ⟨w.heap.size + 1, 2, none⟩) (by show w.heap.size ≤ w.heap.size + 1; omega) (.string ⟨x.2.2.toArray⟩)
    have hfin : BoundAt w1 bm (E ++ [(v, x)]) := ⟨_, by rw [List.length_append]; exact Ho.out, bound_put hv Hl.out hown.out.isMap hf.out⟩
    exact bodyPost_ret (v := .agg #[.int .i64 x.1, .string ⟨x.2.1.toArray⟩, .string ⟨x.2.2.toArray⟩]) (by unfold results; rw [Tryz.results192]; go_simp) rfl ⟨rfl, hfin.far hB3 hlt, grown_mid hB0 Hg.out hB3⟩
end Go.Proofs.YtaddfndohoppeaaGreat

/- match.Vars: what is wrong with a pattern, and which variables it has. -/
namespace Go.Proofs.YtaddfndohoppeaaGreat
open Go Go.RowKit Go.Proofs
set_option synthInstance.maxSize 1000

attribute [local go_sem] eql_errV neq_errV guard_errV

def slotK (p : Pt) (k : Nat) : Sl := if k = 0 then p.1 else if k = 1 then p.2.1 else p.2.2
def vK (p : Pt) (k : Nat) : List (List UInt8) := if k = 0 then [] else if k = 1 then addV [] p.1 else if k = 2 then addV (addV [] p.1) p.2.1 else varsL p
def restN (p : Pt) (k : Nat) : Int := if k = 0 then varsN p else if k = 1 then (if slotN p.2.1 = 0 then slotN p.2.2 else slotN p.2.1) else if k = 2 then slotN p.2.2 else 0
theorem restN_step (p : Pt) (k : Nat) (hk : k < 3) : restN p k = if slotN (slotK p k) = 0 then restN p (k + 1) else slotN (slotK p k) := by
  rcases (by omega : k = 0 ∨ k = 1 ∨ k = 2) with rfl | rfl | rfl
  · simp [restN, slotK, varsN]
  · simp [restN, slotK]
  · simp [restN, slotK]
theorem vK_step (p : Pt) (k : Nat) (hk : k < 3) : vK p (k + 1) = addV (vK p k) (slotK p k) := by
  rcases (by omega : k = 0 ∨ k = 1 ∨ k = 2) with rfl | rfl | rfl
  · simp [vK, slotK]
  · simp [vK, slotK]
  · simp [vK, slotK, varsL]
theorem addV_len (l : List (List UInt8)) (s : Sl) : (addV l s).length ≤ l.length + 1 := by
  unfold addV
  repeat' split
  all_goals simp
theorem vK_len (p : Pt) (k : Nat) (hk : k ≤ 3) : (vK p k).length ≤ k := by
  have h0 : (vK p 0).length ≤ 0 := by simp [vK]
  have h1 := addV_len (vK p 0) (slotK p 0)
  have h2 := addV_len (vK p 1) (slotK p 1)
  have h3 := addV_len (vK p 2) (slotK p 2)
  rw [← vK_step p 0 (by omega)] at h1
  rw [← vK_step p 1 (by omega)] at h2
  rw [← vK_step p 2 (by omega)] at h3
  have g1 : (vK p 1).length ≤ (vK p 0).length + 1 := h1
  have g2 : (vK p 2).length ≤ (vK p 1).length + 1 := h2
  have g3 : (vK p 3).length ≤ (vK p 2).length + 1 := h3
  clear h1 h2 h3
  rcases (by omega : k = 0 ∨ k = 1 ∨ k = 2 ∨ k = 3) with rfl | rfl | rfl | rfl <;> omega
theorem fit_slotK {p : Pt} (h : fitPt p) (k : Nat) : fitSl (slotK p k) := by
  unfold slotK
  repeat' split
  · exact h.1
  · exact h.2.1
  · exact h.2.2

theorem indexSl (p : Pt) (k : Nat) (hk : k < 3) (w : World) : (Instr.index 222 (valPt p) (.int .i64 k)).run Tryz.prog w = .ok (valSl (slotK p k)) w := by
  rcases (by omega : k = 0 ∨ k = 1 ∨ k = 2) with rfl | rfl | rfl <;> kernel_rfl

theorem infoStrV : (Tryz.prog.info? 9).map (fun i => (i.zero, i.size, i.bytes)) = some (some (.string ByteArray.empty), 1, 16) := by kernel_rfl

theorem ownsRow_belowV {W W' : World} {base : Nat} {e : TypeId} {sz : Nat} {v : Value} {n : Nat} {cs : List Value} (h : W.ownsRow base e sz v n cs) (hb : RowKit.Below W.heap.size W W') : W'.ownsRow base e sz v n cs :=
  h.kept (row := none) ⟨hb.os, hb.tape, hb.output, hb.size, fun i hi _ => hb.block i hi⟩ (Classical.em _)

/-- what Vars tells -/
def VarsAns (p : Pt) (m : List (List UInt8)) : Prop := m = if varsN p = 0 then varsL p else []

set_option maxHeartbeats 4000000 in
set_option maxRecDepth 100000 in
theorem VarsO_any (p : Pt) (w : World) (hp : fitPt p) :
    Calls Tryz.prog 151 #[valPt p] w fun e w' => Below w.heap.size w w' ∧ ∃ m ad cap, e = .returned (.tuple #[.slice ad m.length cap, errV (varsN p)]) ∧ w'.ownsRow w.heap.size 9 1 (.slice ad m.length cap) m.length (m.map encV) ∧ VarsAns p m := by
  have HS := slotsOf_any p
  have Hp : Hid (fitPt p) := hp
  obtain ⟨i0, hi0, hz⟩ := Option.map_eq_some_iff.1 infoStrV
  simp only [Prod.mk.injEq] at hz
  obtain ⟨hz0, hz1, hz2⟩ := hz
  clear hp
  have HX : Hid (∀ k : Nat, k < 3 → ∀ W, (Instr.index 222 (valPt p) (.int .i64 k)).run Tryz.prog W = .ok (valSl (slotK p k)) W) := indexSl p
  unfold valPt at HS HX ⊢
  have hA : Hid (∀ m, (m = if varsN p = 0 then varsL p else []) → VarsAns p m) := fun m h => h
  generalize VarsAns p = A at *
  go_enter Tryz.func151, Tryz.ntmps151
  go_wp2_with fail
  refine (HS _).mono ?_
  rintro e w1 ⟨rfl, hb1⟩
  have hB1 := bstep (balloc _ _) hb1
  go_wp2_with fail
  go_loopw [4, 10] (fun v i wr => ∃ k : Nat, k ≤ 3 ∧ i = .int .i64 k ∧ Hid (wr.ownsRow w.heap.size 9 1 v (vK p k).length ((vK p k).map encV)) ∧ Hid (varsN p = restN p k) ∧ Below w.heap.size w wr) (fun _ i wr => 3 - (intOf i).toNat)
  case atStart => exact ⟨0, by omega, rfl, World.ownsRow_nil _ _ _ _, rfl, hB1⟩
  case round =>
    obtain ⟨k, hk, rfl, hown, hrest, hbr⟩ := hrel
    by_cases hlt : k < 3
    · have hix := HX.out k hlt
      have hst : Hid _ := restN_step p k hlt
      have hvs : Hid _ := vK_step p k hlt
      have hvl : (vK p k).length ≤ 3 := Nat.le_trans (vK_len p k hk) hk
      have hfs : Hid (fitSl (slotK p k)) := fit_slotK Hp.out k
      have HF := fun W => slotFault_any (slotK p k) W hfs.out
      have i1 : (k : Int) < 3 := by omega
      have hzr := hbr.size
      generalize slotK p k = s at *
      obtain ⟨v, kk, S, L⟩ := s
      have HV := fun W => isVar_any v kk S L W
      unfold valSl at HF hix
      dsimp only at HF hix
      cases hc : (slotN (v, kk, S, L) == 0)
      · go_wp2_with fail
        refine (HF _).mono ?_
        rintro e w2 ⟨rfl, hb2⟩
        go_wp2_with fail
        have hne : varsN p = slotN (v, kk, S, L) := by rw [hrest.out, hst.out, if_neg (by simpa using hc)]
        simp at hc
        exact bodyPost_ret (v := .tuple #[.slice none 0 0, errV (slotN (v, kk, S, L))]) (by simp [results, Tryz.results151, go_sem]) rfl ⟨bstep (bstep hbr (balloc _ _)) hb2, [], none, 0, by rw [hne]; rfl, World.ownsRow_nil _ _ _ _, hA.out _ (by rw [hne, if_neg hc])⟩
      · have hr2 : Hid (varsN p = restN p (k + 1)) := by show _ = _; rw [hrest.out, hst.out, if_pos (by simpa using hc)]
        clear hst hrest hfs
        cases hve : v.isEmpty
        rotate_left
        · obtain rfl : v = [] := by simpa using hve
          have hv2 : Hid (vK p (k + 1) = vK p k) := hvs.out
          rw [show (!([] : List UInt8).isEmpty) = false from rfl] at HV
          go_wp2_with fail
          refine (HF _).mono ?_
          rintro e w2 ⟨rfl, hb2⟩
          obtain ⟨a0, a1, a2, a3, hz⟩ := fourbox hb2
          go_wp2_with fail
          refine (HV _).mono ?_
          rintro e w3 ⟨rfl, hb3⟩
          go_wp2_with fail
          go_roundw
          case rel =>
            refine ⟨k + 1, by omega, by go_num, ?_, hr2, bstep (bstep (bstep hbr (balloc _ _)) hb2) hb3⟩
            show World.ownsRow _ _ _ _ _ _ _
            rw [hv2.out]
            exact ownsRow_belowV (ownsRow_belowV (hown.out.alloc _) hb2) hb3
          case measure => simp [intOf]; omega
        · have hvn : Hid (¬ v = []) := by show ¬ v = []; simpa using hve
          rw [hve, show (!false) = true from rfl] at HV
          clear hve
          have hvs2 : Hid (vK p (k + 1) = if v ∈ vK p k then vK p k else vK p k ++ [v]) := by
            show _ = _
            rw [hvs.out]
            exact if_neg hvn.out
          obtain ⟨ad, cap, rfl, hsl0⟩ := own_v hown.out
          have hsl : Hid (SlV wr ad (vK p k)) := hsl0
          have HC := fun W h => ContainsV_any ad cap (vK p k) v W h (by omega)
          clear hvs hsl0
          generalize ht : vK p (k + 1) = t1 at *
          have Ht : Hid _ := ht
          generalize vK p k = t0 at *
          clear ht
          cases hd : decide (v ∈ t0)
          · have hv2 : Hid (t1 = t0 ++ [v]) := by show _ = _; rw [hvs2.out, if_neg (by simpa using hd)]
            rw [hd] at HC
            go_wp2_with fail
            refine (HF _).mono ?_
            rintro e w2 ⟨rfl, hb2⟩
            obtain ⟨a0, a1, a2, a3, hz⟩ := fourbox hb2
            go_wp2_with fail
            refine (HV _).mono ?_
            rintro e w3 ⟨rfl, hb3⟩
            have b0 := (hb3.cell (World.block_lt_of_cell? w2 _ a0)).trans a0
            have hB3 := bstep (bstep (bstep hbr (balloc _ _)) hb2) hb3
            have hz3 := hB3.size
            have hrow3 : Hid (w3.ownsRow w.heap.size 9 1 _ t0.length (t0.map encV)) := ownsRow_belowV (ownsRow_belowV (hown.out.alloc _) hb2) hb3
            clear a0 a1 a2 a3
            go_wp2_with fail
            refine (HC _ (((hsl.out.below (balloc _ _)).below hb2).below hb3)).mono ?_
            rintro e w4 ⟨rfl, rfl⟩
            clear hown hsl
            go_wp2_with (at_builtin; refine wpList_append_own _ rfl _ _ 59 rfl w.heap.size 9 i0 (.string ByteArray.empty) 1 16 Tryz.underlying59 hi0 hz0 hz1 hz2 rfl (by decide) _ _ _ rfl (hrow3.out.alloc _) ⟨w4.heap.size, 0, none⟩ 1 1 [encV v] rfl rfl ?c1 ?c2 ?c3 ?c4 ?c5 ?_)
            case c1 =>
              intro j u hj
              have h1 : j < 1 := (List.getElem?_eq_some_iff.1 hj).1
              obtain rfl : j = 0 := by omega
              simp [encV] at hj
              subst hj
              rw [Addr.add_lit]
              go_simp
            case c2 => intro u hu; rw [List.mem_singleton.1 hu]; rfl
            case c3 => unfold maxLen; omega
            case c4 => omega
            case c5 => simp; omega
            intro v' w9 hown' hgrow _
            have hbel := (hB3.alloc hz3 (.cells #[encV v] 9)).grown hgrow (by simp; omega) (fun k hk => (hrow3.out.lt k hk).1)
            go_wp2_with fail
            go_roundw
            case rel =>
              refine ⟨k + 1, by omega, by go_num, ?_, hr2, hbel⟩
              show World.ownsRow _ _ _ _ _ _ _
              rw [Ht.out, hv2.out, List.length_append, List.map_append]
              exact hown'
            case measure => simp [intOf]; omega
          · have hv2 : Hid (t1 = t0) := by show _ = _; rw [hvs2.out, if_pos (by simpa using hd)]
            rw [hd] at HC
            go_wp2_with fail
            refine (HF _).mono ?_
            rintro e w2 ⟨rfl, hb2⟩
            obtain ⟨a0, a1, a2, a3, hz⟩ := fourbox hb2
            go_wp2_with fail
            refine (HV _).mono ?_
            rintro e w3 ⟨rfl, hb3⟩
            have b0 := (hb3.cell (World.block_lt_of_cell? w2 _ a0)).trans a0
            clear a0 a1 a2 a3
            go_wp2_with fail
            refine (HC _ (((hsl.out.below (balloc _ _)).below hb2).below hb3)).mono ?_
            rintro e w' ⟨rfl, rfl⟩
            go_wp2_with fail
            go_roundw
            case rel =>
              refine ⟨k + 1, by omega, by go_num, ?_, hr2, bstep (bstep (bstep hbr (balloc _ _)) hb2) hb3⟩
              show World.ownsRow _ _ _ _ _ _ _
              rw [Ht.out, hv2.out]
              exact ownsRow_belowV (ownsRow_belowV (hown.out.alloc _) hb2) hb3
            case measure => simp [intOf]; omega
    · obtain rfl : k = 3 := by omega
      obtain ⟨ad, cap, rfl, hsl⟩ := own_v hown.out
      have h0 : varsN p = 0 := hrest.out
      have hvw : vK p 3 = varsL p := rfl
      have how := hown.out
      rw [hvw] at how
      have Hsl : Hid (wr.ownsRow w.heap.size 9 1 (.slice ad (varsL p).length cap) (varsL p).length ((varsL p).map encV)) := how
      have H0 : Hid (varsN p = 0) := h0
      rw [hvw]
      clear hown hrest hvw hsl h0 how
      go_wp2_with fail
      exact bodyPost_ret (v := .tuple #[.slice ad (varsL p).length cap, .nilIface]) (by simp [results, Tryz.results151, go_sem]) rfl ⟨hbr, _, ad, cap, by rw [H0.out]; rfl, Hsl.out, hA.out _ (by rw [H0.out]; rfl)⟩
theorem Vars_any (p : Pt) (w : World) (hp : fitPt p) :
    Calls Tryz.prog 151 #[valPt p] w fun e w' => Below w.heap.size w w' ∧ ∃ m ad cap, e = .returned (.tuple #[.slice ad m.length cap, errV (varsN p)]) ∧ SlV w' ad m ∧ VarsAns p m := by
  refine (VarsO_any p w hp).mono ?_
  rintro e w' ⟨hb, m, ad, cap, he, ho, ha⟩
  obtain ⟨ad', cap', e2, hs⟩ := own_v ho
  injection e2 with e3 _ _
  subst e3
  exact ⟨hb, m, ad, cap, he, hs, ha⟩
end Go.Proofs.YtaddfndohoppeaaGreat

/- match.asker: the question whether a triple fits a pattern. -/
namespace Go.Proofs.YtaddfndohoppeaaGreat
open Go Go.RowKit Go.Proofs Go.Maps
set_option synthInstance.maxSize 1000

/-! ### the question, slot by slot -/
def termK (t : Tr) (k : Nat) : Tm := if k = 0 then t.1 else if k = 1 then t.2.1 else t.2.2
def stepE (E : Env) (s : Sl) (x : Tm) : Env := if s.1 = [] then E else putEn E s.1 x
def wantE (E : Env) (s : Sl) (x : Tm) : Tm := if s.1 = [] then s.2 else getEn E s.1 x
def envK (p : Pt) (t : Tr) : Nat → Env
  | 0 => []
  | k + 1 => stepE (envK p t k) (slotK p k) (termK t k)
def fitK (p : Pt) (t : Tr) (k : Nat) : Bool := decide (termK t k = wantE (envK p t k) (slotK p k) (termK t k))
def restF (p : Pt) (t : Tr) (k : Nat) : Bool := if k = 0 then fitK p t 0 && (fitK p t 1 && fitK p t 2) else if k = 1 then fitK p t 1 && fitK p t 2 else if k = 2 then fitK p t 2 else true
theorem restF_step (p : Pt) (t : Tr) (k : Nat) (hk : k < 3) : restF p t k = (fitK p t k && restF p t (k + 1)) := by
  rcases (by omega : k = 0 ∨ k = 1 ∨ k = 2) with rfl | rfl | rfl <;> simp [restF]
theorem putE_len (E : Env) (v : List UInt8) (x : Tm) : (putEn E v x).length ≤ E.length + 1 := by
  unfold putEn
  split <;> simp
theorem envK_len (p : Pt) (t : Tr) : ∀ k, (envK p t k).length ≤ k
  | 0 => by simp [envK]
  | k + 1 => by
    have := envK_len p t k
    have h2 := putE_len (envK p t k) (slotK p k).1 (termK t k)
    unfold envK stepE
    split <;> omega

theorem fits_env (p : Pt) (t : Tr) : restF p t 0 = fitsB p t := by
  obtain ⟨⟨v0, a0⟩, ⟨v1, a1⟩, ⟨v2, a2⟩⟩ := p
  obtain ⟨x0, x1, x2⟩ := t
  have l1 : ∀ (a b : List UInt8) (x : Tm), lookE [(b, x)] a = if a = b then some x else none := fun a b x => by
    unfold lookE
    simp only [List.lookup]
    by_cases e : a = b
    · subst e; simp
    · rw [if_neg e, show (a == b) = false by simpa using e]
  have l2 : ∀ (a b c : List UInt8) (x y : Tm), lookE [(b, x), (c, y)] a = if a = b then some x else if a = c then some y else none := fun a b c x y => by
    unfold lookE
    simp only [List.lookup]
    by_cases e : a = b
    · subst e; simp
    · rw [if_neg e, show (a == b) = false by simpa using e]
      by_cases e2 : a = c
      · subst e2; simp
      · rw [if_neg e2, show (a == c) = false by simpa using e2]
  have l0 : ∀ a : List UInt8, lookE [] a = none := fun a => rfl
  simp only [restF, fitK, envK, slotK, termK, fitsB, wantE, stepE, getEn, putEn, if_true]
  by_cases h0 : v0 = []
  · subst h0
    by_cases h1 : v1 = []
    · subst h1
      by_cases h2 : v2 = []
      · subst h2; simp
      · simp [h2, l0]
    · by_cases h2 : v2 = []
      · subst h2; simp [h1, l0]
      · by_cases e : v2 = v1
        · subst e; simp [h1, l0, l1]
        · simp [h1, h2, e, l0, l1]
  · by_cases h1 : v1 = []
    · subst h1
      by_cases h2 : v2 = []
      · subst h2; simp [h0, l0]
      · by_cases e : v2 = v0
        · subst e; simp [h0, l0, l1]
        · simp [h0, h2, e, l0, l1]
    · by_cases e1 : v1 = v0
      · subst e1
        by_cases h2 : v2 = []
        · subst h2; simp [h1, l0, l1]
        · by_cases e : v2 = v1
          · subst e; simp [h1, l0, l1]
          · simp [h1, h2, e, l0, l1]
      · by_cases h2 : v2 = []
        · subst h2; simp [h0, h1, e1, l0, l1]
        · by_cases e : v2 = v0
          · subst e; simp [h0, h1, e1, l0, l1, l2]
          · by_cases e2 : v2 = v1
            · subst e2; simp [h0, h1, e1, l0, l1, l2]
            · simp [h0, h1, h2, e, e1, e2, l0, l1, l2]
end Go.Proofs.YtaddfndohoppeaaGreat

/- match.asker and its closure: the walk. -/
namespace Go.Proofs.YtaddfndohoppeaaGreat
open Go Go.RowKit Go.Proofs Go.Maps
set_option synthInstance.maxSize 1000

attribute [local go_sem ↓] neqTerm

/-- at a block lies the pattern -/
def PatAt (w : World) (bx : Nat) (p : Pt) : Prop := ∀ j v, (encPt p)[j]? = some v → w.cell? ⟨bx, j, none⟩ = some v
theorem PatAt.lt {w : World} {bx : Nat} {p : Pt} (h : PatAt w bx p) : bx < w.heap.size := World.block_lt_of_cell? w _ (h 0 _ rfl)
theorem PatAt.far {w w' : World} {bx B : Nat} {p : Pt} (h : PatAt w bx p) (hb : Below B w w') (hB : bx < B) : PatAt w' bx p := fun j v hv => (hb.cell (by exact hB)).trans (h j v hv)
theorem PatAt.below {w w' : World} {bx : Nat} {p : Pt} (h : PatAt w bx p) (hb : Below w.heap.size w w') : PatAt w' bx p := h.far hb h.lt
theorem PatAt.at {w : World} {bx : Nat} {p : Pt} (h : PatAt w bx p) (k : Nat) (hk : k < 3) :
    w.cell? ⟨bx, k * 4, none⟩ = some (.string ⟨(slotK p k).1.toArray⟩) ∧ w.cell? ⟨bx, k * 4 + 1, none⟩ = some (.int .i64 (slotK p k).2.1) ∧ w.cell? ⟨bx, k * 4 + 2, none⟩ = some (.string ⟨(slotK p k).2.2.1.toArray⟩) ∧ w.cell? ⟨bx, k * 4 + 3, none⟩ = some (.string ⟨(slotK p k).2.2.2.toArray⟩) := by
  rcases (by omega : k = 0 ∨ k = 1 ∨ k = 2) with rfl | rfl | rfl
  all_goals exact ⟨h _ _ rfl, h _ _ rfl, h _ _ rfl, h _ _ rfl⟩

theorem indexTm (t : Tr) (k : Nat) (hk : k < 3) (w : World) : (Instr.index 156 (valTr t) (.int .i64 k)).run Tryz.prog w = .ok (.agg #[.int .i64 (termK t k).1, .string ⟨(termK t k).2.1.toArray⟩, .string ⟨(termK t k).2.2.toArray⟩]) w := by
  rcases (by omega : k = 0 ∨ k = 1 ∨ k = 2) with rfl | rfl | rfl <;> kernel_rfl
theorem makeBound (w : World) : (Instr.makeMap 100 none).run Tryz.prog w = .ok (.map (some w.heap.size)) (w.alloc (.map #[] 0)) := by kernel_rfl

theorem sixbox {w W : World} {T T' : TypeId} {a0 a1 a2 b0 b1 b2 : Value} (hb : Below ((w.alloc (.cells #[a0, a1, a2] T)).alloc (.cells #[b0, b1, b2] T')).heap.size ((w.alloc (.cells #[a0, a1, a2] T)).alloc (.cells #[b0, b1, b2] T')) W) :
    (W.cell? ⟨w.heap.size, 0, none⟩ = some a0 ∧ W.cell? ⟨w.heap.size, 1, none⟩ = some a1 ∧ W.cell? ⟨w.heap.size, 2, none⟩ = some a2) ∧ (W.cell? ⟨w.heap.size + 1, 0, none⟩ = some b0 ∧ W.cell? ⟨w.heap.size + 1, 1, none⟩ = some b1 ∧ W.cell? ⟨w.heap.size + 1, 2, none⟩ = some b2) ∧
    (W.frozen? ⟨w.heap.size + 1, 0, none⟩ = false ∧ W.frozen? ⟨w.heap.size + 1, 1, none⟩ = false ∧ W.frozen? ⟨w.heap.size + 1, 2, none⟩ = false) ∧ w.heap.size + 1 < W.heap.size := by
  obtain ⟨h, f⟩ := bcell hb
  have hs := hb.size
  refine ⟨⟨?_, ?_, ?_⟩, ⟨?_, ?_, ?_⟩, ⟨?_, ?_, ?_⟩, by simp at hs; omega⟩
  all_goals
    first
    | (rw [h _ _ (by simp; omega)]; go_simp)
    | (rw [f _ _ (by simp; omega)]; go_simp)
    | (rw [h _ _ (by simp)]; go_simp)
    | (rw [f _ _ (by simp)]; go_simp)

/-- what bind, and a store apart, leave of four cells -/
theorem keepB {W W' : World} {bm : Nat} {p0 p1 p2 p3 : Addr} {v0 v1 v2 v3 : Value} (h : W.cell? p0 = some v0 ∧ W.cell? p1 = some v1 ∧ W.cell? p2 = some v2 ∧ W.cell? p3 = some v3)
    (g : W.grownBy W' (some bm)) (n0 : p0.block ≠ bm) (n1 : p1.block ≠ bm) (n2 : p2.block ≠ bm) (n3 : p3.block ≠ bm) :
    W'.cell? p0 = some v0 ∧ W'.cell? p1 = some v1 ∧ W'.cell? p2 = some v2 ∧ W'.cell? p3 = some v3 := by
  have e : ∀ {p : Addr} {v : Value}, W.cell? p = some v → p.block ≠ bm → W'.cell? p = some v := fun {p v} hp hn => by
    have hb := g.block p.block (World.block_lt_of_cell? W _ hp) (fun e => hn (by simpa using e))
    exact (World.cell?_of_block (w := W) hb).trans hp
  exact ⟨e h.1 n0, e h.2.1 n1, e h.2.2.1 n2, e h.2.2.2 n3⟩
theorem keepS {W : World} {q p0 p1 p2 p3 : Addr} {u v0 v1 v2 v3 : Value} (h : W.cell? p0 = some v0 ∧ W.cell? p1 = some v1 ∧ W.cell? p2 = some v2 ∧ W.cell? p3 = some v3)
    (n0 : p0.block ≠ q.block) (n1 : p1.block ≠ q.block) (n2 : p2.block ≠ q.block) (n3 : p3.block ≠ q.block) :
    (W.setCell q u).cell? p0 = some v0 ∧ (W.setCell q u).cell? p1 = some v1 ∧ (W.setCell q u).cell? p2 = some v2 ∧ (W.setCell q u).cell? p3 = some v3 := by
  have e : ∀ {p : Addr} {v : Value}, W.cell? p = some v → p.block ≠ q.block → (W.setCell q u).cell? p = some v := fun {p v} hp hn => by
    rw [World.cell?_setCell_other W q p u (fun e => hn (by rw [e]))]
    exact hp
  exact ⟨e h.1 n0, e h.2.1 n1, e h.2.2.1 n2, e h.2.2.2 n3⟩

theorem put3 {W : World} {b : Nat} {a0 a1 a2 : Value} (u0 u1 u2 : Value) (h0 : W.cell? ⟨b, 0, none⟩ = some a0) (h1 : W.cell? ⟨b, 1, none⟩ = some a1) (h2 : W.cell? ⟨b, 2, none⟩ = some a2) :
    (((W.setCell ⟨b, 0, none⟩ u0).setCell ⟨b, 1, none⟩ u1).setCell ⟨b, 2, none⟩ u2).cell? ⟨b, 0, none⟩ = some u0 ∧ (((W.setCell ⟨b, 0, none⟩ u0).setCell ⟨b, 1, none⟩ u1).setCell ⟨b, 2, none⟩ u2).cell? ⟨b, 1, none⟩ = some u1 ∧ (((W.setCell ⟨b, 0, none⟩ u0).setCell ⟨b, 1, none⟩ u1).setCell ⟨b, 2, none⟩ u2).cell? ⟨b, 2, none⟩ = some u2 := by
  have o : ∀ (V : World) (i j : Nat) (u : Value), i ≠ j → (V.setCell ⟨b, i, none⟩ u).cell? ⟨b, j, none⟩ = V.cell? ⟨b, j, none⟩ := fun V i j u hne => World.cell?_setCell_other V _ _ u (fun e => hne (congrArg Addr.off e))
  refine ⟨?_, ?_, ?_⟩
  · rw [o _ 2 0 _ (by omega), o _ 1 0 _ (by omega), World.cell?_setCell_same W _ u0 h0]
  · rw [o _ 2 1 _ (by omega), World.cell?_setCell_same _ _ u1 ((o _ 0 1 _ (by omega)).trans h1)]
  · rw [World.cell?_setCell_same _ _ u2 ((o _ 1 2 _ (by omega)).trans ((o _ 0 2 _ (by omega)).trans h2))]

set_option maxHeartbeats 4000000 in
set_option maxRecDepth 100000 in
theorem fits_any (bx : Nat) (p : Pt) (t : Tr) (w : World) (h : PatAt w bx p) (hp : fitPt p) :
    Calls Tryz.prog 190 #[valTr t, .pointer (some ⟨bx, 0, none⟩)] w fun e w' => e = .returned (.bool (fitsB p t)) ∧ Below w.heap.size w w' := by
  have HT := termsOf_any t
  have Hp : Hid (fitPt p) := hp
  have hbx := h.lt
  have Ha : Hid (PatAt w bx p) := h
  have HX : Hid (∀ k : Nat, k < 3 → ∀ W, (Instr.index 156 (valTr t) (.int .i64 k)).run Tryz.prog W = .ok (.agg #[.int .i64 (termK t k).1, .string ⟨(termK t k).2.1.toArray⟩, .string ⟨(termK t k).2.2.toArray⟩]) W) := indexTm t
  have hmk := makeBound
  have fin : Hid (fitsB p t = restF p t 0) := (fits_env p t).symm
  clear hp h
  generalize fitsB p t = ans at *
  unfold valTr at HT HX ⊢
  go_enter Tryz.func190, Tryz.ntmps190
  go_wp2_with fail
  refine (HT _).mono ?_
  rintro e w1 ⟨rfl, hg1⟩
  have hb1 := hg1.below
  have hB1 : Below w.heap.size w w1 := bstep (bstep (balloc _ _) (balloc _ _)) hb1
  have hbd1 : Hid (BoundAt w1 (w.heap.size + 1) []) := by
    show BoundAt _ _ _
    have := (boundAt_made (w.alloc (.cells (encTr t).toArray 58))).below hb1
    simpa using this
  go_wp2_with fail
  go_loopw [11] (fun i wr => ∃ k : Nat, k ≤ 3 ∧ i = .int .i64 k ∧ Hid (BoundAt wr (w.heap.size + 1) (envK p t k)) ∧ Hid (ans = restF p t k) ∧ Below w.heap.size w wr) (fun i wr => 3 - (intOf i).toNat)
  case atStart => exact ⟨0, by omega, rfl, hbd1.out, fin.out, hB1⟩
  case round =>
    clear hbd1 hB1 hb1 hg1 HT
    obtain ⟨k, hk, rfl, hbd, hrest, hbr⟩ := hrel
    by_cases hlt : k < 3
    · have hix := HX.out k hlt
      have i1 : (k : Int) < 3 := by omega
      have i0 : (0 : Int) ≤ (k : Int) := by omega
      have hst : Hid _ := restF_step p t k hlt
      have hfk : Hid (fitK p t k = decide (termK t k = wantE (envK p t k) (slotK p k) (termK t k))) := rfl
      have hen : Hid (envK p t (k + 1) = stepE (envK p t k) (slotK p k) (termK t k)) := rfl
      have hel : (envK p t k).length ≤ 1000 := by have := envK_len p t k; omega
      have hfs : Hid (fitSl (slotK p k)) := fit_slotK Hp.out k
      have hzr := hbr.size
      have hbm := hbd.out.lt
      have hbxr : bx < wr.heap.size := by omega
      have Har : Hid (PatAt wr bx p) := Ha.out.far hbr hbx
      obtain ⟨c0, c1, c2, c3⟩ := Har.out.at k hlt
      generalize hEE : envK p t (k + 1) = E' at *
      have HEE : Hid _ := hEE
      clear hEE
      generalize envK p t k = E at *
      generalize fitK p t k = fk at *
      generalize slotK p k = s at *
      generalize termK t k = x at *
      obtain ⟨v, kk, S, L⟩ := s
      have HV := fun W => isVar_any v kk S L W
      dsimp only at c0 c1 c2 c3
      have c4 : wr.cell? ⟨bx, k * 4 + 1 + 1, none⟩ = some (.string ⟨S.toArray⟩) := c2
      have c5 : wr.cell? ⟨bx, k * 4 + 1 + 2, none⟩ = some (.string ⟨L.toArray⟩) := c3
      cases hve : v.isEmpty
      rotate_left
      · obtain rfl : v = [] := by simpa using hve
        rw [show (!([] : List UInt8).isEmpty) = false from rfl] at HV
        have hf2 : Hid (fk = eqTB x.1 x.2.1 x.2.2 kk S L) := by
          show _ = _
          rw [hfk.out, show eqTB x.1 x.2.1 x.2.2 kk S L = decide (x = (kk, S, L)) from eqTB_tm x (kk, S, L)]
          rfl
        have he2 : Hid (E' = E) := hen.out
        clear hve hfk hen
        cases hq : eqTB x.1 x.2.1 x.2.2 kk S L
        · go_wp2_with fail
          refine (HV _).mono ?_
          rintro e w2 ⟨rfl, hb2⟩
          obtain ⟨⟨a0, a1, a2⟩, ⟨b0, b1, b2⟩, _, hz2⟩ := sixbox hb2
          go_wp2_with fail
          go_ret
          exact ⟨ret_bool (by rw [hrest.out, hst.out, hf2.out, hq]; rfl), bstep (bstep (bstep hbr (balloc _ _)) (balloc _ _)) hb2⟩
        · go_wp2_with fail
          refine (HV _).mono ?_
          rintro e w2 ⟨rfl, hb2⟩
          obtain ⟨⟨a0, a1, a2⟩, ⟨b0, b1, b2⟩, _, hz2⟩ := sixbox hb2
          go_wp2_with fail
          go_roundw
          case rel =>
            refine ⟨k + 1, by omega, by go_num, ?_, ?_, bstep (bstep (bstep hbr (balloc _ _)) (balloc _ _)) hb2⟩
            · show BoundAt _ _ _
              rw [HEE.out, he2.out]
              exact ((hbd.out.below (balloc _ _)).below (balloc _ _)).below hb2
            · show _ = _
              rw [hrest.out, hst.out, hf2.out, hq]; rfl
          case measure => simp [intOf]; omega
      · have hvn : ¬ v = [] := by simpa using hve
        rw [hve, show (!false) = true from rfl] at HV
        have hvl : v.length ≤ maxLen := hfs.out.1
        have hf2 : Hid (fk = eqTB x.1 x.2.1 x.2.2 (getEn E v x).1 (getEn E v x).2.1 (getEn E v x).2.2) := by
          show _ = _
          rw [hfk.out, eqTB_tm]
          unfold wantE
          rw [if_neg hvn]
        have he2 : Hid (E' = putEn E v x) := by show _ = _; rw [hen.out]; exact if_neg hvn
        have HB := fun W (hW : BoundAt W (w.heap.size + 1) E) => bind_any (w.heap.size + 1) E v x W hW hvl hel
        generalize getEn E v x = y at *
        generalize putEn E v x = E2 at *
        unfold valTermM at HB
        have nbx : bx ≠ w.heap.size + 1 := by omega
        have nwr : wr.heap.size ≠ w.heap.size + 1 := by omega
        have nwr1 : wr.heap.size + 1 ≠ w.heap.size + 1 := by omega
        have nb1 : bx ≠ wr.heap.size + 1 := by omega
        have nw1 : wr.heap.size ≠ wr.heap.size + 1 := by omega
        clear hve hfk hen hvn hvl
        go_wp2_with fail
        refine (HV _).mono ?_
        rintro e w2 ⟨rfl, hb2⟩
        obtain ⟨⟨a0, a1, a2⟩, ⟨b0, b1, b2⟩, ⟨f0, f1, f2⟩, hz2⟩ := sixbox hb2
        have hw2 : Below wr.heap.size wr w2 := bstep (bstep (balloc _ _) (balloc _ _)) hb2
        have d0 : w2.cell? ⟨bx, k * 4, none⟩ = some (.string ⟨v.toArray⟩) := (hw2.cell (by exact hbxr)).trans c0
        have hbd2 : Hid (BoundAt w2 (w.heap.size + 1) E) := hbd.out.below hw2
        have hbr2 := bstep hbr hw2
        have hzz := hbr2.size
        clear c0 c1 c2 c3 c4 c5 hbd hb2 hw2 HV
        go_wp2_with fail
        go_region_held3 (fun W => W.cell? ⟨bx, k * 4, none⟩ = some (.string ⟨v.toArray⟩) ∧ W.cell? ⟨wr.heap.size, 0, none⟩ = some (.int .i64 x.1) ∧ W.cell? ⟨wr.heap.size, 1, none⟩ = some (.string ⟨x.2.1.toArray⟩) ∧ W.cell? ⟨wr.heap.size, 2, none⟩ = some (.string ⟨x.2.2.toArray⟩)) (first
          | exact keepB (by assumption) hg3 nbx nwr nwr nwr
          | exact keepS (keepS (keepS (by assumption) nb1 nw1 nw1 nw1) nb1 nw1 nw1 nw1) nb1 nw1 nw1 nw1
          | exact keepS (by assumption) nb1 nw1 nw1 nw1
          | go_keep) (first
          | (go_at_call 192; refine (HB _ (by first | exact hbd2.out | exact hbd2.out.below (Below.refl _ _).drew | exact hbd2.out.below (Below.refl _ _).drew.drew)).mono ?_; rintro e w3 ⟨rfl, hbd3, hg3⟩; have q0 := (grown_far hg3 (b := wr.heap.size + 1) hz2 nwr1 0).1.trans b0; have q1 := (grown_far hg3 (b := wr.heap.size + 1) hz2 nwr1 1).1.trans b1; have q2 := (grown_far hg3 (b := wr.heap.size + 1) hz2 nwr1 2).1.trans b2; have g0 := (grown_far hg3 (b := wr.heap.size + 1) hz2 nwr1 0).2.trans f0; have g1 := (grown_far hg3 (b := wr.heap.size + 1) hz2 nwr1 1).2.trans f1; have g2 := (grown_far hg3 (b := wr.heap.size + 1) hz2 nwr1 2).2.trans f2))
        rename_i hHeld
        obtain ⟨_, x0, x1, x2⟩ := hHeld
        obtain ⟨y0, y1, y2⟩ := put3 (.int .i64 y.1) (.string ⟨y.2.1.toArray⟩) (.string ⟨y.2.2.toArray⟩) q0 q1 q2
        have hB3 : Below w.heap.size w w3 := hbr2.drew.grown hg3 (by exact hzz) (fun j hj => by cases hj; omega)
        have hBf := ((hB3.setCell (p := ⟨wr.heap.size + 1, 0, none⟩) (by show w.heap.size ≤ wr.heap.size + 1; omega) (.int .i64 y.1)).setCell (p := ⟨wr.heap.size + 1, 1, none⟩) (by show w.heap.size ≤ wr.heap.size + 1; omega) (.string ⟨y.2.1.toArray⟩)).setCell (p := ⟨wr.heap.size + 1, 2, none⟩) (by show w.heap.size ≤ wr.heap.size + 1; omega) (.string ⟨y.2.2.toArray⟩)
        have hbdf0 := hbd3.far (((((Below.refl (w.heap.size + 2) w3).setCell (p := ⟨wr.heap.size + 1, 0, none⟩) (by show w.heap.size + 2 ≤ wr.heap.size + 1; omega) (.int .i64 y.1)).setCell (p := ⟨wr.heap.size + 1, 1, none⟩) (by show w.heap.size + 2 ≤ wr.heap.size + 1; omega) (.string ⟨y.2.1.toArray⟩)).setCell (p := ⟨wr.heap.size + 1, 2, none⟩) (by show w.heap.size + 2 ≤ wr.heap.size + 1; omega) (.string ⟨y.2.2.toArray⟩))) (by omega)
        have hbdf : Hid _ := hbdf0
        clear hbdf0 hbd3 hg3 hB3 q0 q1 q2 g0 g1 g2 a0 a1 a2 b0 b1 b2 f0 f1 f2 d0 hbd2 HB
        generalize ((w3.setCell ⟨wr.heap.size + 1, 0, none⟩ (.int .i64 y.1)).setCell ⟨wr.heap.size + 1, 1, none⟩ (.string ⟨y.2.1.toArray⟩)).setCell ⟨wr.heap.size + 1, 2, none⟩ (.string ⟨y.2.2.toArray⟩) = W at *
        cases hq : eqTB x.1 x.2.1 x.2.2 y.1 y.2.1 y.2.2
        · go_wp2_with fail
          go_ret
          exact ⟨ret_bool (by rw [hrest.out, hst.out, hf2.out, hq]; rfl), hBf⟩
        · go_wp2_with fail
          go_roundw
          case rel =>
            refine ⟨k + 1, by omega, by go_num, ?_, ?_, hBf⟩
            · show BoundAt _ _ _
              rw [HEE.out, he2.out]
              exact hbdf.out
            · show _ = _
              rw [hrest.out, hst.out, hf2.out, hq]; rfl
          case measure => simp [intOf]; omega
    · obtain rfl : k = 3 := by omega
      go_wp2_with fail
      go_ret
      exact ⟨ret_bool (by rw [hrest.out]; rfl), hbr⟩

theorem enters190 : ∀ args w, (callFunc 190 args).run Tryz.prog w = .ok (.enter 190 args) w := enters_of Tryz.func190 (by kernel_rfl) rfl

theorem askerM_any (p : Pt) (w : World) : Calls Tryz.prog 154 #[valPt p] w fun e w' => ∃ bx, e = .returned (.func (.func 190) #[] #[.pointer (some ⟨bx, 0, none⟩)]) ∧ PatAt w' bx p ∧ Below w.heap.size w w' := by
  have HS := slotsOf_any p
  unfold valPt at HS ⊢
  go_enter Tryz.func154, Tryz.ntmps154
  go_wp2_with fail
  refine (HS _).mono ?_
  rintro e w1 ⟨rfl, hb1⟩
  go_wp2_with fail
  go_ret
  refine ⟨w1.heap.size, rfl, fun j v hj => ?_, bstep (bstep (balloc _ _) hb1) (balloc _ _)⟩
  have h12 : j < 12 := (List.getElem?_eq_some_iff.1 hj).1
  rcases (by omega : j = 0 ∨ j = 1 ∨ j = 2 ∨ j = 3 ∨ j = 4 ∨ j = 5 ∨ j = 6 ∨ j = 7 ∨ j = 8 ∨ j = 9 ∨ j = 10 ∨ j = 11) with rfl | rfl | rfl | rfl | rfl | rfl | rfl | rfl | rfl | rfl | rfl | rfl
  all_goals
    simp [encPt] at hj
    subst hj
    go_simp
end Go.Proofs.YtaddfndohoppeaaGreat

/- match.Match and match.Count. -/
namespace Go.Proofs.YtaddfndohoppeaaGreat
open Go Go.RowKit Go.Proofs Go.Maps
set_option synthInstance.maxSize 1000

attribute [local go_sem] eql_errV neq_errV guard_errV

/-- what Match tells, and which it is -/
def matchN (l : List Tr) (p : Pt) : Int := if sortedN l = 0 then varsN p else sortedN l
def matchL (l : List Tr) (p : Pt) : List Tr := l.filter (fitsB p)
def MatchAns (l : List Tr) (p : Pt) (m : List Tr) : Prop := m = if matchN l p = 0 then matchL l p else []

theorem patBox (w : World) (p : Pt) (T : TypeId) : PatAt (w.alloc (.cells (encPt p).toArray T)) w.heap.size p := fun j v hj => by
  have h12 : j < 12 := (List.getElem?_eq_some_iff.1 hj).1
  rcases (by omega : j = 0 ∨ j = 1 ∨ j = 2 ∨ j = 3 ∨ j = 4 ∨ j = 5 ∨ j = 6 ∨ j = 7 ∨ j = 8 ∨ j = 9 ∨ j = 10 ∨ j = 11) with rfl | rfl | rfl | rfl | rfl | rfl | rfl | rfl | rfl | rfl | rfl | rfl
  all_goals
    simp [encPt] at hj
    subst hj
    simp only [encPt]
    go_simp
theorem PatAt.all {w : World} {b : Nat} {p : Pt} (h : PatAt w b p) :
    w.cell? ⟨b, 0, none⟩ = some (.string ⟨p.1.1.toArray⟩) ∧ w.cell? ⟨b, 1, none⟩ = some (.int .i64 p.1.2.1) ∧ w.cell? ⟨b, 2, none⟩ = some (.string ⟨p.1.2.2.1.toArray⟩) ∧ w.cell? ⟨b, 3, none⟩ = some (.string ⟨p.1.2.2.2.toArray⟩) ∧
    w.cell? ⟨b, 4, none⟩ = some (.string ⟨p.2.1.1.toArray⟩) ∧ w.cell? ⟨b, 5, none⟩ = some (.int .i64 p.2.1.2.1) ∧ w.cell? ⟨b, 6, none⟩ = some (.string ⟨p.2.1.2.2.1.toArray⟩) ∧ w.cell? ⟨b, 7, none⟩ = some (.string ⟨p.2.1.2.2.2.toArray⟩) ∧
    w.cell? ⟨b, 8, none⟩ = some (.string ⟨p.2.2.1.toArray⟩) ∧ w.cell? ⟨b, 9, none⟩ = some (.int .i64 p.2.2.2.1) ∧ w.cell? ⟨b, 10, none⟩ = some (.string ⟨p.2.2.2.2.1.toArray⟩) ∧ w.cell? ⟨b, 11, none⟩ = some (.string ⟨p.2.2.2.2.2.toArray⟩) :=
  ⟨h _ _ rfl, h _ _ rfl, h _ _ rfl, h _ _ rfl, h _ _ rfl, h _ _ rfl, h _ _ rfl, h _ _ rfl, h _ _ rfl, h _ _ rfl, h _ _ rfl, h _ _ rfl⟩

theorem own_slM3 {W : World} {base : Nat} {e : TypeId} {v : Value} {t : List Tr} (h : W.ownsRow base e 9 v t.length (cellsT t)) : ∃ ad cap, v = .slice ad t.length cap ∧ SlT W ad t := by
  have h' := h
  rcases h.2 with ⟨rfl, h0⟩ | ⟨g, cap, cur, rfl, _⟩
  · exact ⟨none, 0, by rw [h0], fun hne => absurd (List.eq_nil_of_length_eq_zero h0) hne⟩
  · refine ⟨some ⟨g, 0, none⟩, cap, rfl, fun _ => ⟨g, 0, rfl, fun j u hj => ?_⟩⟩
    have := h'.cells (g := g) rfl j u hj
    rwa [Addr.add_lit] at this
theorem filter_stepM (l : List Tr) (p : Tr → Bool) (k : Nat) (h : k < l.length) : (l.take (k + 1)).filter p = (l.take k).filter p ++ (if p l[k] then [l[k]] else []) := by
  rw [List.take_succ_eq_append_getElem h, List.filter_append]
  cases hp : p l[k] <;> simp [hp]

set_option maxHeartbeats 8000000 in
set_option maxRecDepth 100000 in
theorem Match_any (ad : Option Addr) (cap : Nat) (l : List Tr) (p : Pt) (w : World) (h : SlT w ad l) (hfit : ∀ x ∈ l, fitTr x) (hp : fitPt p) (hn : l.length ≤ 9223372036854775807) :
    Calls Tryz.prog 109 #[.slice ad l.length cap, valPt p] w fun e w' => Below w.heap.size w w' ∧ ∃ m ad' cap', e = .returned (.tuple #[.slice ad' m.length cap', errV (matchN l p)]) ∧ SlT w' ad' m ∧ MatchAns l p m := by
  have HS := fun W hW => Sorted_any ad cap l W hW hfit hn
  have HV := fun W => Vars_any p W hp
  have HA := fun W => askerM_any p W
  have HF := fun bx x W (hW : PatAt W bx p) => fits_any bx p x W hW hp
  have Hl : Hid (SlT w ad l) := h
  have Hset : Hid (sortedN l = 0 → l.length ≤ 200) := fun h => (sortedN_set.1 h).1
  have fin : Hid (matchN l p = if sortedN l = 0 then varsN p else sortedN l) := rfl
  have hA : Hid (∀ m, (m = if matchN l p = 0 then matchL l p else []) → MatchAns l p m) := fun m h => h
  obtain ⟨i0, hi, hz⟩ := Option.map_eq_some_iff.1 infoTr
  simp only [Prod.mk.injEq] at hz
  obtain ⟨hz0, hz1, hz2⟩ := hz
  clear h hfit hp hn
  generalize MatchAns l p = A at *
  generalize matchN l p = N at *
  unfold valPt at HV HA ⊢
  cases hs : (sortedN l == 0)
  · go_enter Tryz.func109, Tryz.ntmps109
    go_wp2_with fail
    refine (HS _ (Hl.out.below (balloc _ _))).mono ?_
    rintro e w1 ⟨rfl, hb1⟩
    go_wp2_with fail
    simp at hs
    have hN : N = sortedN l := by rw [fin.out, if_neg hs]
    exact bodyPost_ret (v := .tuple #[.slice none 0 0, errV (sortedN l)]) (by simp [results, Tryz.results109, go_sem]) rfl ⟨bstep (balloc _ _) hb1, [], none, 0, by rw [hN]; rfl, fun h => absurd rfl h, hA.out _ (by rw [hN, if_neg hs])⟩
  · have hs0 : sortedN l = 0 := by simpa using hs
    have h200 := Hset.out hs0
    have hN : Hid (N = varsN p) := by show _ = _; rw [fin.out, if_pos hs0]
    clear hs0 Hset fin
    cases hv : (varsN p == 0)
    · go_enter Tryz.func109, Tryz.ntmps109
      go_wp2_with fail
      refine (HS _ (Hl.out.below (balloc _ _))).mono ?_
      rintro e w1 ⟨rfl, hb1⟩
      obtain ⟨p0, p1, p2, p3, p4, p5, p6, p7, p8, p9, p10, p11⟩ := ((patBox w p 63).below hb1).all
      go_wp2_with fail
      refine (HV _).mono ?_
      rintro e w2 ⟨hb2, m, ad', c', rfl, hm, hans⟩
      clear p0 p1 p2 p3 p4 p5 p6 p7 p8 p9 p10 p11
      go_wp2_with fail
      simp at hv
      exact bodyPost_ret (v := .tuple #[.slice none 0 0, errV (varsN p)]) (by simp [results, Tryz.results109, go_sem]) rfl ⟨bstep (bstep (balloc _ _) hb1) hb2, [], none, 0, by rw [hN.out]; rfl, fun h => absurd rfl h, hA.out _ (by rw [hN.out, if_neg hv])⟩
    · have hv0 : Hid (N = 0) := by show _ = _; rw [hN.out]; simpa using hv
      go_enter Tryz.func109, Tryz.ntmps109
      go_wp2_with fail
      refine (HS _ (Hl.out.below (balloc _ _))).mono ?_
      rintro e w1 ⟨rfl, hb1⟩
      have hpb : Hid (PatAt w1 w.heap.size p) := (patBox w p 63).below hb1
      obtain ⟨p0, p1, p2, p3, p4, p5, p6, p7, p8, p9, p10, p11⟩ := hpb.out.all
      go_wp2_with fail
      refine (HV _).mono ?_
      rintro e w2 ⟨hb2, m, ad', c', rfl, hm, hans⟩
      clear p0 p1 p2 p3 p4 p5 p6 p7 p8 p9 p10 p11 hm hans
      obtain ⟨p0, p1, p2, p3, p4, p5, p6, p7, p8, p9, p10, p11⟩ := (hpb.out.below hb2).all
      go_wp2_with fail
      refine (HA _).mono ?_
      rintro e w3 ⟨bx, rfl, hpat, hb3⟩
      have Hpat : Hid (PatAt w3 bx p) := hpat
      have hB3 : Hid (Below w.heap.size w w3) := bstep (bstep (bstep (balloc _ _) hb1) hb2) hb3
      have Hl3 : Hid (SlT w3 ad l) := Hl.out.below hB3.out
      have eg := enters190
      clear p0 p1 p2 p3 p4 p5 p6 p7 p8 p9 p10 p11 hpat hb1 hb2 hb3 hpb HS HV HA hs hv
      go_wp2_with fail
      go_loopw [9, 30] (fun v i wr => ∃ k : Nat, k ≤ l.length ∧ i = .int .i64 k ∧ Hid (wr.ownsRow w3.heap.size 58 9 v ((l.take k).filter (fitsB p)).length (cellsT ((l.take k).filter (fitsB p)))) ∧ Below w3.heap.size w3 wr) (fun _ i wr => l.length - (intOf i).toNat)
      case atStart => exact ⟨0, Nat.zero_le _, rfl, by show World.ownsRow _ _ _ _ _ _ _; rw [List.take_zero]; exact World.ownsRow_nil _ _ _ _, Below.refl _ _⟩
      case round =>
        obtain ⟨k, hk, rfl, hown, hbr⟩ := hrel
        by_cases hlt : k < l.length
        · obtain ⟨b, o, rfl, hr⟩ := (Hl3.out.below hbr).at k hlt
          obtain ⟨c0, c1, c2, c3, c4, c5, c6, c7, c8⟩ := hr.at k hlt
          have i0' : (0 : Int) ≤ (k : Int) := by omega
          have i1 : (k : Int) < (l.length : Int) := by omega
          have hstep : Hid _ := filter_stepM l (fitsB p) k hlt
          have hfil : ((l.take k).filter (fitsB p)).length ≤ k := Nat.le_trans (List.length_filter_le _ _) (by simp; omega)
          have H := fun W (hW : PatAt W bx p) => HF bx l[k] W hW
          have hzr := hbr.size
          generalize ht : (l.take (k + 1)).filter (fitsB p) = t1 at hstep
          have Ht : Hid _ := ht
          generalize (l.take k).filter (fitsB p) = t0 at *
          generalize l[k] = y at *
          clear hr ht
          cases hp : fitsB p y
          · rw [hp] at H
            have hs2 : Hid (t1 = t0) := by have := hstep.out; rw [hp] at this; simpa [Hid] using this
            unfold valTr at H
            go_wp2_with fail
            go_at_fn 190
            refine (H _ (Hpat.out.below (bstep hbr (balloc _ _)))).mono ?_
            rintro e w4 ⟨rfl, hb4⟩
            go_wp2_with fail
            go_roundw
            case rel =>
              refine ⟨k + 1, by omega, by go_num, ?_, bstep (bstep hbr (balloc _ _)) hb4⟩
              show World.ownsRow _ _ _ _ _ _ _
              rw [Ht.out, hs2.out]
              exact ownsRow_belowV (hown.out.alloc _) hb4
            case measure => simp [intOf]; omega
          · rw [hp] at H
            have hs2 : Hid (t1 = t0 ++ [y]) := by have := hstep.out; rw [hp] at this; simpa [Hid] using this
            unfold valTr at H
            go_wp2_with fail
            go_at_fn 190
            refine (H _ (Hpat.out.below (bstep hbr (balloc _ _)))).mono ?_
            rintro e w4 ⟨rfl, hb4⟩
            have hrow1 : Hid (w4.ownsRow w3.heap.size 58 9 _ t0.length (cellsT t0)) := ownsRow_belowV (hown.out.alloc _) hb4
            have hB1 := bstep (bstep hbr (balloc _ _)) hb4
            have hz1' := hB1.size
            obtain ⟨a0, a1, a2, b0, b1, b2, d0, d1, d2, hzz⟩ := ninebox hb4
            clear c0 c1 c2 c3 c4 c5 c6 c7 c8 hown
            go_wp2_with (at_builtin; refine wpList_append_own _ rfl _ _ 33 rfl w3.heap.size 58 i0 (.agg (encTr zeroTr).toArray) 9 120 Tryz.underlying33 hi hz0 hz1 hz2 rfl (by decide) _ _ _ rfl (hrow1.out.alloc _) ⟨w4.heap.size, 0, none⟩ 1 1 (encTr y) rfl rfl ?c1 ?c2 ?c3 ?c4 ?c5 ?_)
            case c1 =>
              intro i u hi'
              have h9 : i < 9 := (List.getElem?_eq_some_iff.1 hi').1
              rw [Addr.add_lit]
              rcases (by omega : i = 0 ∨ i = 1 ∨ i = 2 ∨ i = 3 ∨ i = 4 ∨ i = 5 ∨ i = 6 ∨ i = 7 ∨ i = 8) with rfl | rfl | rfl | rfl | rfl | rfl | rfl | rfl | rfl
              all_goals
                simp [encTr] at hi'
                subst hi'
                go_simp
            case c2 => exact encTr_one y
            case c3 => unfold maxLen; omega
            case c4 => omega
            case c5 => simp; omega
            intro v' w9 hown' hgrow _
            have hbel := (hB1.alloc hz1' (.cells (encTr y).toArray 58)).grown hgrow (by simp; omega) (fun k hk => (hrow1.out.lt k hk).1)
            go_wp2_with fail
            go_roundw
            case rel =>
              refine ⟨k + 1, by omega, by go_num, ?_, hbel⟩
              show World.ownsRow _ _ _ _ _ _ _
              rw [Ht.out, hs2.out]
              simpa [cellsT] using hown'
            case measure => simp [intOf]; omega
        · obtain rfl : k = l.length := by omega
          have hown' := hown.out
          rw [List.take_length] at hown'
          obtain ⟨ad', cap', rfl, hsl⟩ := own_slM3 hown'
          have Hsl : Hid (SlT wr ad' (matchL l p)) := hsl
          clear hown' hown hsl
          rw [show l.filter (fitsB p) = matchL l p from rfl]
          go_wp2_with fail
          exact bodyPost_ret (v := .tuple #[.slice ad' (matchL l p).length cap', .nilIface]) (by simp [results, Tryz.results109, go_sem]) rfl ⟨hB3.out.trans (hbr.mono hB3.out.size), matchL l p, ad', cap', by rw [hv0.out]; rfl, Hsl.out, hA.out _ (by rw [hv0.out]; rfl)⟩

end Go.Proofs.YtaddfndohoppeaaGreat
