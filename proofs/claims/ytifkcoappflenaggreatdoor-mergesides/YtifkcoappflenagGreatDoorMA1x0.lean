import Derived.Test.YtifkcoappflenagGreatDoorRows
import Derived.WalkKit
import Derived.ProofKit
import Derived.OpenShut
import Derived.ShutString
import Derived.SizedLaws
import Derived.Lib.SmallJoins
import Derived.Test.YtifkcoappflenagGreatDoorMA0x1
import Derived.Deep.Slices
import Derived.Deep.Strs
import Derived.Carry
import Derived.Test.YtifkcoappflenagGreatDoorMA0x2
import Derived.Test.YtifkcoappflenagGreatDoorMA0x3
import Derived.Sort.MapsRangeIn
import Derived.Sort.KeysCollected
import Derived.RangeFuncGives
import Derived.RangeFuncStops
import Derived.RangeFuncNested
import Derived.RangeFuncSeq
import Derived.Maps.AppendAt
import Derived.Shelf.Abstract
import Derived.Shelf.AbstractIn
import Derived.Shelf.RegionOpen
import Derived.OwnWalkIn
import Derived.TacticsInMore
import Derived.RegionIn
import Derived.LoopNIn
import Derived.LoopIn
import Derived.Shelf.SlGeneric
import Derived.Shelf.SlSortCmp.WholeK
import Derived.Test.YtifkcoappflenagGreatDoorProg
import Derived.Deep.QuietTactic
import Derived.BigQuiet
import Derived.Deep.RegionHeld3

/- A term that is an argument: opened, and read again. -/
namespace Go.Proofs.YtifkcoappflenagGreatDoor
open Go Go.ChangeShapes Go.WideShapes Go.ChangeAt Go.RowKit Go.Joins
open Go.ChangeMaps (open_string shut_string)

theorem own : ownKnob Tryz.prog.godebug = none := by kernel_rfl
theorem cellsTerm : Tryz.prog.cellsOf 42 = 3 := by kernel_rfl

set_option maxRecDepth 100000 in
theorem open_term {H : Type} {enc : TypeId × Value → H} {W : World} {base b0 : Nat} {spare : Nat → Bool} {held : Bool} {r : Reach} {v : Value} {d : DataW H} {p : List MemPlace}
    (hv : Value.okWide Tryz.prog W r b0 42 v) (h : DataW.Trod enc Tryz.prog W base spare held 42 v d p) :
    ∃ (k : Int) (S L : List UInt8), v = .agg #[.int .i64 k, .string ⟨S.toArray⟩, .string ⟨L.toArray⟩] ∧ d = .agg [.lit (.int .i64 k), .lit (.string S), .lit (.string L)] ∧ p = [] ∧ (Lit.int .i64 k).wf = true ∧ S.length ≤ maxLen ∧ L.length ≤ maxLen := by
  obtain ⟨c0, c1, c2, y0, y1, y2, m, rfl, rfl, rfl, hy0, hy1, hy2⟩ := open_agg3 Tryz.underlying42 (by kernel_rfl) cellsTerm hv h
  obtain ⟨k, e0, rfl, wk⟩ := DataW.trod_int Tryz.underlying3 hy0
  obtain ⟨s, e1, rfl, ws⟩ := DataW.trod_string Tryz.underlying9 hy1
  obtain ⟨l, e2, rfl, wl⟩ := DataW.trod_string Tryz.underlying9 hy2
  simp at e0 e1 e2
  subst e0 e1 e2
  exact ⟨k, s.data.toList, l.data.toList, rfl, rfl, rfl, wk, by simpa using ws, by simpa using wl⟩

set_option maxRecDepth 100000 in
theorem read_term {H : Type} {enc : TypeId × Value → H} {k : Int} {S L : List UInt8} (wk : (Lit.int .i64 k).wf = true) (hS : S.length ≤ maxLen) (hL : L.length ≤ maxLen) (W' : World) (sp : Nat → Bool) :
    DataW.Trod enc Tryz.prog W' 0 sp true 42 (.agg #[.int .i64 k, .string ⟨S.toArray⟩, .string ⟨L.toArray⟩]) (.agg [.lit (.int .i64 k), .lit (.string S), .lit (.string L)]) [] :=
  shut_agg3 (y0 := (.lit (.int .i64 k), [])) (y1 := (.lit (.string S), [])) (y2 := (.lit (.string L), [])) Tryz.underlying42 (by kernel_rfl) cellsTerm
    ⟨1, by simp [DataW.trod, Tryz.underlying3, wk]⟩ ⟨1, by simp [DataW.trod, Tryz.underlying9]; exact hS⟩ ⟨1, by simp [DataW.trod, Tryz.underlying9]; exact hL⟩
end Go.Proofs.YtifkcoappflenagGreatDoor

/- A triple, and a list of triples, that is an argument: opened. -/
namespace Go.Proofs.YtifkcoappflenagGreatDoor
open Go Go.ChangeShapes Go.WideShapes Go.ChangeAt Go.RowKit Go.Joins Go.Deep
set_option synthInstance.maxSize 1000

theorem cellsTriple : Tryz.prog.cellsOf 44 = 9 := by kernel_rfl

def fitTm (x : Tm) : Prop := x.2.1.length ≤ maxLen ∧ x.2.2.length ≤ maxLen
def encTm (x : Tm) : List Value := [.int .i64 x.1, .string ⟨x.2.1.toArray⟩, .string ⟨x.2.2.toArray⟩]

theorem cellsInt : Tryz.prog.cellsOf 3 = 1 := by kernel_rfl
theorem cellsStr : Tryz.prog.cellsOf 9 = 1 := by kernel_rfl

set_option maxRecDepth 100000 in
theorem down_term {H : Type} {enc : TypeId × Value → H} {W : World} {base n : Nat} {spare : Nat → Bool} {held : Bool} {cs : List Value} {y : DataW H × List MemPlace}
    (h : DataW.trod enc Tryz.prog W base spare held n 42 cs = some y) : ∃ x : Tm, cs = encTm x ∧ fitTm x := by
  obtain ⟨y0, y1, y2, m, _, hl, h0, h1, h2⟩ := trod_struct3 Tryz.underlying42 h
  rw [cellsTerm] at hl
  match cs, hl with
  | [c0, c1, c2], _ =>
    simp only [cellsInt, cellsStr, List.drop_zero, List.drop_succ_cons, List.take_succ_cons, List.take_zero] at h0 h1 h2
    obtain ⟨k, e0, _, wk⟩ := DataW.trod_int Tryz.underlying3 h0
    obtain ⟨s, e1, _, ws⟩ := DataW.trod_string Tryz.underlying9 h1
    obtain ⟨l, e2, _, wl⟩ := DataW.trod_string Tryz.underlying9 h2
    simp at e0 e1 e2
    subst e0 e1 e2
    exact ⟨⟨k, s.data.toList, l.data.toList⟩, rfl, by simpa using ws, by simpa using wl⟩

set_option maxRecDepth 100000 in
theorem down_triple {H : Type} {enc : TypeId × Value → H} {W : World} {base n : Nat} {spare : Nat → Bool} {held : Bool} {cs : List Value} {y : DataW H × List MemPlace}
    (h : DataW.trod enc Tryz.prog W base spare held n 44 cs = some y) : ∃ x : Tr, cs = encTr x ∧ fitTr x := by
  obtain ⟨y0, y1, y2, m, _, hl, h0, h1, h2⟩ := trod_struct3 Tryz.underlying44 h
  rw [cellsTriple] at hl
  match cs, hl with
  | [c0, c1, c2, c3, c4, c5, c6, c7, c8], _ =>
    simp only [cellsTerm, List.drop_zero, List.drop_succ_cons, List.take_succ_cons, List.take_zero] at h0 h1 h2
    obtain ⟨a, ea, fa⟩ := down_term h0
    obtain ⟨b, eb, fb⟩ := down_term h1
    obtain ⟨c, ec, fc⟩ := down_term h2
    simp only [encTm, List.cons.injEq, and_true] at ea eb ec
    obtain ⟨rfl, rfl, rfl⟩ := ea
    obtain ⟨rfl, rfl, rfl⟩ := eb
    obtain ⟨rfl, rfl, rfl⟩ := ec
    exact ⟨⟨a, b, c⟩, rfl, fa, fb, fc⟩

set_option maxRecDepth 100000 in
theorem open_triple {H : Type} {enc : TypeId × Value → H} {W : World} {base b0 : Nat} {spare : Nat → Bool} {held : Bool} {r : Reach} {v : Value} {d : DataW H} {p : List MemPlace}
    (hv : Value.okWide Tryz.prog W r b0 44 v) (h : DataW.Trod enc Tryz.prog W base spare held 44 v d p) : ∃ x : Tr, v = valTr x ∧ fitTr x := by
  obtain ⟨cs, rfl, _⟩ := okWide_struct Tryz.underlying44 hv
  obtain ⟨fuel, hf⟩ := h
  obtain ⟨x, e, f⟩ := down_triple hf
  refine ⟨x, ?_, f⟩
  have e' : cs.toList = encTr x := e
  show Value.agg cs = .agg (encTr x).toArray
  rw [← e']

set_option maxRecDepth 100000 in
theorem open_list {H : Type} {enc : TypeId × Value → H} {W : World} {base b0 : Nat} {spare : Nat → Bool} {held : Bool} {r : Reach} {v : Value} {d : DataW H} {p : List MemPlace}
    (hv : Value.okWide Tryz.prog W r b0 22 v) (h : DataW.Trod enc Tryz.prog W base spare held 22 v d p) :
    ∃ (ad : Option Addr) (cap : Nat) (l : List Tr), v = .slice ad l.length cap ∧ SlT W ad l ∧ (∀ x ∈ l, fitTr x) ∧ l.length ≤ maxLen := by
  obtain ⟨a, len, cap, rfl⟩ := okWide_slice Tryz.underlying22 hv
  obtain ⟨fuel, hf⟩ := h
  rcases open_slice Tryz.underlying22 hf with ⟨hcs, _⟩ | ⟨a', len', cap', m, n, D, Pl, hcs, _, hl, hm, hmm, _, hx⟩
  · simp [Value.cells] at hcs
    obtain ⟨rfl, rfl, rfl⟩ := hcs
    exact ⟨none, 0, [], rfl, fun h => absurd rfl h, by simp, by simp⟩
  · simp [Value.cells] at hcs
    obtain ⟨rfl, rfl, rfl⟩ := hcs
    have hlm : len ≤ m := by rw [hmm]; split <;> omega
    have each : ∀ i, i < len → ∃ x : Tr, fitTr x ∧ ∀ j v, (encTr x)[j]? = some v → W.cell? (a'.add (i * 9 + j)) = some v := by
      intro i hi
      obtain ⟨cs', h1, h2⟩ := hx i (by omega)
      rw [cellsTriple] at h1
      obtain ⟨_, hlen, hcell⟩ := World.cells?_some h1
      obtain ⟨x, rfl, fx⟩ := down_triple h2
      refine ⟨x, fx, fun j v hj => ?_⟩
      have hj9 : j < 9 := (List.getElem?_eq_some_iff.1 hj).1
      have := hcell j (by omega)
      rw [add_add] at this
      rw [this]
      exact hj
    obtain ⟨q, hq⟩ := choose_lt each
    have hlen : ((List.range len).map q).length = len := by simp
    refine ⟨some a', cap, (List.range len).map q, by rw [hlen], fun hne => ?_, fun x hx => ?_, by rw [hlen]; omega⟩
    · have hpos : 0 < len := by
        rcases Nat.eq_zero_or_pos len with h0 | h0
        · subst h0; simp at hne
        · exact h0
      have hc := (hq 0 hpos).2 0 _ rfl
      obtain ⟨b, o, s⟩ := a'
      cases s with
      | some s =>
        exfalso
        unfold World.cell? Addr.add at hc
        revert hc
        split <;> simp
      | none =>
        refine ⟨b, o, rfl, fun j v hj => ?_⟩
        have hjl : j < len * 9 := by
          have := (List.getElem?_eq_some_iff.1 hj).1
          rwa [cellsT_len, hlen] at this
        have hi : j / 9 < len := by omega
        have h1 := cellsT_at ((List.range len).map q) (j / 9) (by rw [hlen]; exact hi) (j % 9) (by omega)
        rw [show j / 9 * 9 + j % 9 = j by omega, hj] at h1
        have h2 := (hq (j / 9) hi).2 (j % 9) v (by rw [h1]; simp)
        rw [show j / 9 * 9 + j % 9 = j by omega, Addr.add_lit] at h2
        exact h2
    · obtain ⟨i, hi, rfl⟩ := List.mem_map.1 hx
      exact (hq i (List.mem_range.1 hi)).1
end Go.Proofs.YtifkcoappflenagGreatDoor

/- A map whose keys are terms: what a term reads as, and which terms are in it. -/
namespace Go.Proofs.YtifkcoappflenagGreatDoor
open Go Go.RowKit Go.Proofs Go.Maps
set_option synthInstance.maxSize 1000

theorem rowTm : (42 : TypeId) < Tryz.prog.types.size := of_decide_eq_true (by kernel_rfl)
theorem wideTm : (match Tryz.prog.underlying 42 with | some (.array _ _) | some (.struct _) => true | _ => false) = true := by kernel_rfl
set_option maxRecDepth 100000 in
theorem keyedTm : Keyed Tryz.prog 42 := Keyed.of_law (deep_law_laid laidOutP (m := 4) (by omega) rowTm (by kernel_rfl) wideTm)
theorem keyTypeTm : Tryz.prog.keyType 42 = true := by kernel_rfl

def valTm (x : Tm) : Value := .agg #[.int .i64 x.1, .string ⟨x.2.1.toArray⟩, .string ⟨x.2.2.toArray⟩]
def litsTm (x : Tm) : List Lit := [.int .i64 x.1, .string x.2.1, .string x.2.2]
def keyTm (x : Tm) : Lit := .string (keyBytes (litsTm x))
def wfTm (x : Tm) : Prop := (Lit.int .i64 x.1).wf = true ∧ x.2.1.length ≤ maxLen ∧ x.2.2.length ≤ maxLen

theorem keyOf_tm (x : Tm) (h : wfTm x) : keyOf Tryz.prog 42 (valTm x) = some (keyTm x) := by
  have hl := keyLits_term (Tryz.prog.types.size - 1) x.1 x.2.1 x.2.2 h.1 h.2.1 h.2.2
  have hsz : Tryz.prog.types.size - 1 + 2 = Tryz.prog.types.size + 1 := by
    have : 2 ≤ Tryz.prog.types.size := of_decide_eq_true (by kernel_rfl)
    omega
  rw [hsz] at hl
  have hf : (valTm x).formed Tryz.prog 42 = true := by
    simp [Value.formed, Tryz.underlying42, cellsOfTm, valTm]
  unfold keyOf
  rw [Tryz.underlying42]
  simp only [keyTypeTm, hf, Bool.and_self, if_true]
  have hc : (valTm x).cells.toList = [.int .i64 x.1, .string ⟨x.2.1.toArray⟩, .string ⟨x.2.2.toArray⟩] := rfl
  rw [hc, hl]
  rfl

set_option maxRecDepth 100000 in
theorem keyInt_inv {d : Nat} {a : Value} {ls : List Lit} (h : Tryz.prog.keyLits (d + 1) 3 [a] = some ls) : ∃ n, a = .int .i64 n ∧ (Lit.int .i64 n).wf = true ∧ ls = [.int .i64 n] := by
  unfold Program.keyLits at h
  rw [Tryz.underlying3] at h
  cases a <;> simp at h
  obtain ⟨⟨rfl, hw⟩, rfl⟩ := h
  exact ⟨_, rfl, hw, rfl⟩
set_option maxRecDepth 100000 in
theorem keyStr_inv {d : Nat} {a : Value} {ls : List Lit} (h : Tryz.prog.keyLits (d + 1) 9 [a] = some ls) : ∃ s : List UInt8, a = .string ⟨s.toArray⟩ ∧ s.length ≤ maxLen ∧ ls = [.string s] := by
  unfold Program.keyLits at h
  rw [Tryz.underlying9] at h
  cases a <;> simp at h
  obtain ⟨hw, rfl⟩ := h
  exact ⟨_, rfl, by simpa using hw, rfl⟩

set_option maxRecDepth 100000 in
theorem keyOf_tm_inv {v : Value} {kl : Lit} (h : keyOf Tryz.prog 42 v = some kl) : ∃ x : Tm, v = valTm x ∧ kl = keyTm x ∧ wfTm x := by
  unfold keyOf at h
  rw [Tryz.underlying42] at h
  simp only [keyTypeTm, Bool.true_and] at h
  cases hf : v.formed Tryz.prog 42
  · simp [hf] at h
  · simp only [hf, if_true] at h
    cases v <;> simp [Value.formed, Tryz.underlying42, cellsOfTm] at hf
    rename_i cs
    obtain ⟨l, rfl⟩ : ∃ l : List Value, cs = l.toArray := ⟨cs.toList, by simp⟩
    match l, hf with
    | [a, b, c], _ =>
      have hsz : Tryz.prog.types.size + 1 = Tryz.prog.types.size - 1 + 2 := by
        have : 2 ≤ Tryz.prog.types.size := of_decide_eq_true (by kernel_rfl)
        omega
      rw [hsz] at h
      have hc : (Value.agg [a, b, c].toArray).cells.toList = [a, b, c] := rfl
      rw [hc] at h
      generalize Tryz.prog.types.size - 1 = d at h
      unfold Program.keyLits at h
      simp only [Tryz.underlying42, cellsOfTm] at h
      cases h1 : Tryz.prog.keyLits (d + 1) 3 [a] with
      | none => simp [cellsOfInt, cellsOfStr, h1] at h
      | some l1 =>
        cases h2 : Tryz.prog.keyLits (d + 1) 9 [b] with
        | none => simp [cellsOfInt, cellsOfStr, h1, h2] at h
        | some l2 =>
          cases h3 : Tryz.prog.keyLits (d + 1) 9 [c] with
          | none => simp [cellsOfInt, cellsOfStr, h1, h2, h3] at h
          | some l3 =>
            simp [cellsOfInt, cellsOfStr, h1, h2, h3] at h
            obtain ⟨n, rfl, hn, rfl⟩ := keyInt_inv h1
            obtain ⟨s, rfl, hs, rfl⟩ := keyStr_inv h2
            obtain ⟨t, rfl, ht, rfl⟩ := keyStr_inv h3
            exact ⟨(n, s, t), rfl, h.symm, hn, hs, ht⟩

theorem valTm_inj {x y : Tm} (h : valTm x = valTm y) : x = y := by
  obtain ⟨a1, a2, a3⟩ := x
  obtain ⟨b1, b2, b3⟩ := y
  simp only [valTm, Value.agg.injEq, Array.mk.injEq, List.cons.injEq, Value.int.injEq, Value.string.injEq, true_and, and_true] at h
  obtain ⟨h1, h2, h3⟩ := h
  rw [h1, list_of_array h2, list_of_array h3]

theorem keyTm_inj {x y : Tm} (hx : wfTm x) (hy : wfTm y) (e : keyTm x = keyTm y) : x = y := by
  have h1 := keyOf_tm x hx
  have h2 := keyOf_tm y hy
  rw [e] at h1
  exact valTm_inj (keyedTm.inj h1 h2)

theorem sameTm_self (x : Tm) : (keyTm x).sameKey (keyTm x) = true := by
  simp [keyTm, Lit.sameKey]
theorem sameTm_ne {x y : Tm} (h : keyTm x ≠ keyTm y) : (keyTm x).sameKey (keyTm y) = false := by
  have h' : keyBytes (litsTm x) ≠ keyBytes (litsTm y) := fun e => h (by simp [keyTm, e])
  simpa [keyTm, Lit.sameKey] using h'

/-- what has come of a map's keys -/
def CollT {H : Type} (D0 : DataW H) (left : Lit → Bool) (ss : List Tm) : Prop :=
  ss.Nodup ∧ (∀ x ∈ ss, wfTm x) ∧ ∀ x, wfTm x → (x ∈ ss ↔ (Maps.has D0 (keyTm x) = true ∧ left (keyTm x) = false))

theorem CollT.start {H : Type} (D0 : DataW H) : CollT D0 (Maps.has D0) [] := ⟨List.nodup_nil, by simp, fun x _ => by cases Maps.has D0 (keyTm x) <;> simp⟩

theorem CollT.step {H : Type} {D0 : DataW H} {left : Lit → Bool} {ss : List Tm} (h : CollT D0 left ss) {x : Tm} {y : DataW H} (hx : wfTm x) (hlk : left (keyTm x) = true) (hat : ∀ zd, D0.atKey (keyTm x) zd = y) :
    CollT D0 (fun z => left z && !z.sameKey (keyTm x)) (ss ++ [x]) := by
  have hhas : Maps.has D0 (keyTm x) = true := has_true_of_atKey hat
  have hnew : x ∉ ss := fun hm => by have := ((h.2.2 x hx).1 hm).2; rw [hlk] at this; cases this
  refine ⟨List.nodup_append.2 ⟨h.1, by simp, fun a ha b hb => by simp at hb; subst hb; exact fun e => hnew (e ▸ ha)⟩, fun z hz => ?_, fun z hz => ?_⟩
  · rcases List.mem_append.1 hz with hz | hz
    · exact h.2.1 z hz
    · simp at hz; subst hz; exact hx
  · by_cases e : z = x
    · subst e; simp [hhas, sameTm_self]
    · have : keyTm z ≠ keyTm x := fun e' => e (keyTm_inj hz hx e')
      simp [h.2.2 z hz, e, sameTm_ne this]

/-- the map at a block holds just these terms -/
def InMapT (w : World) (b n : Nat) (l : List Tm) : Prop :=
  ∃ D : DataW Unit, w.ownsMap Tryz.prog 42 unitElem b n D ∧ ∀ x, wfTm x → Maps.has D (keyTm x) = decide (x ∈ l)

theorem inMapT_made (w : World) : InMapT (w.alloc (.map #[] 0)) w.heap.size 0 [] :=
  ⟨.map [], World.ownsMap_made _ _ _ _, fun x _ => by simp [Maps.has_eq]⟩

theorem InMapT.below {w w' : World} {b n : Nat} {l : List Tm} (h : InMapT w b n l) (hb : RowKit.Below w.heap.size w w') : InMapT w' b n l := by
  obtain ⟨D, ⟨es, clock, hm, r⟩, hD⟩ := h
  have hlt : b < w.heap.size := (Array.getElem?_eq_some_iff.1 hm).1
  exact ⟨D, ⟨es, clock, (hb.block b hlt).trans hm, r⟩, hD⟩

theorem has_putT {D : DataW Unit} {l : List Tm} {y : Tm} (hm : IsMap D) (hy : wfTm y) (hD : ∀ x, wfTm x → Maps.has D (keyTm x) = decide (x ∈ l)) (d : DataW Unit) :
    ∀ x, wfTm x → Maps.has (D.put (keyTm y) d) (keyTm x) = decide (x ∈ l ++ [y]) := fun x hx => by
  by_cases e : x = y
  · subst e
    rw [Maps.has_put_same hm (keyedTm.key (keyOf_tm x hx))]
    simp
  · rw [Maps.has_put_other (fun e' => e (keyTm_inj hx hy e')), hD x hx]
    simp [e]
end Go.Proofs.YtifkcoappflenagGreatDoor

/- A map whose keys are pairs: what a pair reads as, and which pairs are in it. -/
namespace Go.Proofs.YtifkcoappflenagGreatDoor
open Go Go.RowKit Go.Proofs Go.Maps
set_option synthInstance.maxSize 1000

theorem rowP : (55 : TypeId) < Tryz.prog.types.size := of_decide_eq_true (by kernel_rfl)
theorem wideP : (match Tryz.prog.underlying 55 with | some (.array _ _) | some (.struct _) => true | _ => false) = true := by kernel_rfl
set_option maxRecDepth 100000 in
theorem keyedP : Keyed Tryz.prog 55 := Keyed.of_law (deep_law_laid laidOutP (m := 4) (by omega) rowP (by kernel_rfl) wideP)
theorem keyTypeP : Tryz.prog.keyType 55 = true := by kernel_rfl
theorem cellsOfP : Tryz.prog.cellsOf 55 = 6 := by kernel_rfl

def litsP (x : Pr) : List Lit := [.int .i64 x.1.1, .string x.1.2.1, .string x.1.2.2, .int .i64 x.2.1, .string x.2.2.1, .string x.2.2.2]
def keyP (x : Pr) : Lit := .string (keyBytes (litsP x))
def wfP (x : Pr) : Prop := wfTm x.1 ∧ wfTm x.2

theorem keyLits_pair (d : Nat) (x : Pr) (h : wfP x) : Tryz.prog.keyLits (d + 3) 55 (encP x) = some (litsP x) := by
  have e1 := keyLits_term d x.1.1 x.1.2.1 x.1.2.2 h.1.1 h.1.2.1 h.1.2.2
  have e2 := keyLits_term d x.2.1 x.2.2.1 x.2.2.2 h.2.1 h.2.2.1 h.2.2.2
  unfold Program.keyLits
  simp only [Tryz.underlying55, cellsOfP, encP]
  simp [e1, e2, litsP, cellsOfTm]

theorem keyOf_p (x : Pr) (h : wfP x) : keyOf Tryz.prog 55 (valP x) = some (keyP x) := by
  have hl := keyLits_pair (Tryz.prog.types.size - 2) x h
  have hsz : Tryz.prog.types.size - 2 + 3 = Tryz.prog.types.size + 1 := by
    have : 2 ≤ Tryz.prog.types.size := of_decide_eq_true (by kernel_rfl)
    omega
  rw [hsz] at hl
  have hf : (valP x).formed Tryz.prog 55 = true := by
    simp [Value.formed, Tryz.underlying55, cellsOfP, valP]
  unfold keyOf
  rw [Tryz.underlying55]
  simp only [keyTypeP, hf, Bool.and_self, if_true]
  have hc : (valP x).cells.toList = encP x := rfl
  rw [hc, hl]
  rfl

set_option maxRecDepth 100000 in
theorem keyTerm_inv {d : Nat} {a b c : Value} {ls : List Lit} (h : Tryz.prog.keyLits (d + 2) 42 [a, b, c] = some ls) :
    ∃ x : Tm, a = .int .i64 x.1 ∧ b = .string ⟨x.2.1.toArray⟩ ∧ c = .string ⟨x.2.2.toArray⟩ ∧ wfTm x ∧ ls = litsTm x := by
  unfold Program.keyLits at h
  simp only [Tryz.underlying42, cellsOfTm] at h
  cases h1 : Tryz.prog.keyLits (d + 1) 3 [a] with
  | none => simp [cellsOfInt, cellsOfStr, h1] at h
  | some l1 =>
    cases h2 : Tryz.prog.keyLits (d + 1) 9 [b] with
    | none => simp [cellsOfInt, cellsOfStr, h1, h2] at h
    | some l2 =>
      cases h3 : Tryz.prog.keyLits (d + 1) 9 [c] with
      | none => simp [cellsOfInt, cellsOfStr, h1, h2, h3] at h
      | some l3 =>
        simp [cellsOfInt, cellsOfStr, h1, h2, h3] at h
        obtain ⟨n, rfl, hn, rfl⟩ := keyInt_inv h1
        obtain ⟨s, rfl, hs, rfl⟩ := keyStr_inv h2
        obtain ⟨t, rfl, ht, rfl⟩ := keyStr_inv h3
        exact ⟨(n, s, t), rfl, rfl, rfl, ⟨hn, hs, ht⟩, h.symm⟩

set_option maxRecDepth 100000 in
theorem keyOf_p_inv {v : Value} {kl : Lit} (h : keyOf Tryz.prog 55 v = some kl) : ∃ x : Pr, v = valP x ∧ kl = keyP x ∧ wfP x := by
  unfold keyOf at h
  rw [Tryz.underlying55] at h
  simp only [keyTypeP, Bool.true_and] at h
  cases hf : v.formed Tryz.prog 55
  · simp [hf] at h
  · simp only [hf, if_true] at h
    cases v <;> simp [Value.formed, Tryz.underlying55, cellsOfP] at hf
    rename_i cs
    obtain ⟨l, rfl⟩ : ∃ l : List Value, cs = l.toArray := ⟨cs.toList, by simp⟩
    match l, hf with
    | [a, b, c, a', b', c'], _ =>
      have hsz : Tryz.prog.types.size + 1 = Tryz.prog.types.size - 2 + 3 := by
        have : 2 ≤ Tryz.prog.types.size := of_decide_eq_true (by kernel_rfl)
        omega
      rw [hsz] at h
      have hc : (Value.agg [a, b, c, a', b', c'].toArray).cells.toList = [a, b, c, a', b', c'] := rfl
      rw [hc] at h
      generalize Tryz.prog.types.size - 2 = d at h
      unfold Program.keyLits at h
      simp only [Tryz.underlying55, cellsOfP] at h
      cases h1 : Tryz.prog.keyLits (d + 2) 42 [a, b, c] with
      | none => simp [cellsOfTm, h1] at h
      | some l1 =>
        cases h2 : Tryz.prog.keyLits (d + 2) 42 [a', b', c'] with
        | none => simp [cellsOfTm, h1, h2] at h
        | some l2 =>
          simp [cellsOfTm, h1, h2] at h
          obtain ⟨x, rfl, rfl, rfl, hx, rfl⟩ := keyTerm_inv h1
          obtain ⟨y, rfl, rfl, rfl, hy, rfl⟩ := keyTerm_inv h2
          exact ⟨(x, y), rfl, h.symm, hx, hy⟩

theorem valP_inj {x y : Pr} (h : valP x = valP y) : x = y := by
  obtain ⟨⟨a1, a2, a3⟩, ⟨b1, b2, b3⟩⟩ := x
  obtain ⟨⟨a1', a2', a3'⟩, ⟨b1', b2', b3'⟩⟩ := y
  simp only [valP, Value.agg.injEq, Array.mk.injEq, List.cons.injEq, Value.int.injEq, Value.string.injEq, true_and, and_true] at h
  obtain ⟨h1, h2, h3, h4, h5, h6⟩ := h
  rw [h1, list_of_array h2, list_of_array h3, h4, list_of_array h5, list_of_array h6]

theorem keyP_inj {x y : Pr} (hx : wfP x) (hy : wfP y) (e : keyP x = keyP y) : x = y := by
  have h1 := keyOf_p x hx
  have h2 := keyOf_p y hy
  rw [e] at h1
  exact valP_inj (keyedP.inj h1 h2)

theorem sameP_self (x : Pr) : (keyP x).sameKey (keyP x) = true := by
  simp [keyP, Lit.sameKey]
theorem sameP_ne {x y : Pr} (h : keyP x ≠ keyP y) : (keyP x).sameKey (keyP y) = false := by
  have h' : keyBytes (litsP x) ≠ keyBytes (litsP y) := fun e => h (by simp [keyP, e])
  simpa [keyP, Lit.sameKey] using h'

/-- what has come of a map's keys -/
def CollP {H : Type} (D0 : DataW H) (left : Lit → Bool) (ss : List Pr) : Prop :=
  ss.Nodup ∧ (∀ x ∈ ss, wfP x) ∧ ∀ x, wfP x → (x ∈ ss ↔ (Maps.has D0 (keyP x) = true ∧ left (keyP x) = false))

theorem CollP.start {H : Type} (D0 : DataW H) : CollP D0 (Maps.has D0) [] := ⟨List.nodup_nil, by simp, fun x _ => by cases Maps.has D0 (keyP x) <;> simp⟩

theorem CollP.step {H : Type} {D0 : DataW H} {left : Lit → Bool} {ss : List Pr} (h : CollP D0 left ss) {x : Pr} {y : DataW H} (hx : wfP x) (hlk : left (keyP x) = true) (hat : ∀ zd, D0.atKey (keyP x) zd = y) :
    CollP D0 (fun z => left z && !z.sameKey (keyP x)) (ss ++ [x]) := by
  have hhas : Maps.has D0 (keyP x) = true := has_true_of_atKey hat
  have hnew : x ∉ ss := fun hm => by have := ((h.2.2 x hx).1 hm).2; rw [hlk] at this; cases this
  refine ⟨List.nodup_append.2 ⟨h.1, by simp, fun a ha b hb => by simp only [List.mem_singleton] at hb; subst hb; exact fun e => hnew (e ▸ ha)⟩, fun z hz => ?_, fun z hz => ?_⟩
  · rcases List.mem_append.1 hz with hz | hz
    · exact h.2.1 z hz
    · simp only [List.mem_singleton] at hz; subst hz; exact hx
  · by_cases e : z = x
    · subst e; simp [hhas, sameP_self]
    · have : keyP z ≠ keyP x := fun e' => e (keyP_inj hz hx e')
      simp [h.2.2 z hz, e, sameP_ne this]

/-- the map at a block holds just these pairs; its room is for n at the most -/
def InMapP (w : World) (b n : Nat) (l : List Pr) : Prop :=
  ∃ D : DataW Unit, w.ownsMap Tryz.prog 55 unitElem b n D ∧ ∀ x, wfP x → Maps.has D (keyP x) = decide (x ∈ l)

theorem inMapP_made (w : World) : InMapP (w.alloc (.map #[] 0)) w.heap.size 0 [] :=
  ⟨.map [], World.ownsMap_made _ _ _ _, fun x _ => by simp [Maps.has_eq]⟩

theorem InMapP.below {w w' : World} {b n : Nat} {l : List Pr} (h : InMapP w b n l) (hb : RowKit.Below w.heap.size w w') : InMapP w' b n l := by
  obtain ⟨D, ⟨es, clock, hm, r⟩, hD⟩ := h
  have hlt : b < w.heap.size := (Array.getElem?_eq_some_iff.1 hm).1
  exact ⟨D, ⟨es, clock, (hb.block b hlt).trans hm, r⟩, hD⟩

theorem has_putP {D : DataW Unit} {l : List Pr} {y : Pr} (hm : IsMap D) (hy : wfP y) (hD : ∀ x, wfP x → Maps.has D (keyP x) = decide (x ∈ l)) (d : DataW Unit) :
    ∀ x, wfP x → Maps.has (D.put (keyP y) d) (keyP x) = decide (x ∈ l ++ [y]) := fun x hx => by
  by_cases e : x = y
  · subst e
    rw [Maps.has_put_same hm (keyedP.key (keyOf_p x hx))]
    simp
  · rw [Maps.has_put_other (fun e' => e (keyP_inj hx hy e')), hD x hx]
    simp [e]
theorem wf_pair {t : Tr} (h : chkTr t = 0) : wfP (pairOf t) := by
  obtain ⟨h1, h2, _, _⟩ := chk_zero h
  have q : ∀ k S L, checkN k S L = 0 → wfTm (k, S, L) := fun k S L hh => by
    obtain ⟨hk, hS, hsp⟩ := check_zero hh
    have := spell_lang hsp
    refine ⟨?_, by show S.length ≤ _; unfold maxLen; omega, by show L.length ≤ _; unfold maxLen; omega⟩
    show (Lit.int .i64 k).wf = true
    rcases hk with rfl | rfl | rfl <;> decide
  exact ⟨q _ _ _ h1, q _ _ _ h2⟩
end Go.Proofs.YtifkcoappflenagGreatDoor

/- maps.Keys at pairs: its iterator hands over each key once. -/
namespace Go.Proofs.YtifkcoappflenagGreatDoor
open Go Go.RowKit Go.Proofs Go.Maps Go.Sort Go.Shelf

set_option maxRecDepth 100000 in
set_option maxHeartbeats 2000000 in
theorem keysP1_in {H : Type} (F : Fence) (n : Nat) (h10 : F.fn 53) (hro : F.round = none) (hn : 1 ≤ n) (l Bm b nn : Nat) (D0 : DataW H) {R : Value → Option (DataW H × List MemPlace)} (J Jx : List Pr → World → Prop)
    (hY : ∀ pre x W, J pre W → pre.length < Maps.size D0 → YieldAt F (n - 1) Tryz.prog l #[valP x] W fun e W' => (e = .returned (.bool true) ∧ J (pre ++ [x]) W' ∧ KeepsWalks W W') ∨ (e = .returned (.bool false) ∧ Jx (pre ++ [x]) W'))
    (W : World) (hJ : AbidesFrom W.heap.size J) (hm : W.cell? ⟨Bm, 0, none⟩ = some (.map (some b))) (hown : W.ownsMap Tryz.prog 55 R b nn D0) (h0 : J [] W) :
    CallsIn F n Tryz.prog 53 #[.func (.yield l) #[] #[], .pointer (some ⟨Bm, 0, none⟩)] W fun e W' => (∃ v, e = .returned v) ∧ ((∃ ss : List Pr, (ss.Nodup ∧ ∀ x, x ∈ ss ↔ wfP x ∧ Maps.has D0 (keyP x) = true) ∧ J ss W') ∨ (∃ pre : List Pr, True ∧ Jx pre W')) := by
  refine callsIn_of_wp Tryz.func53 rfl h10 ?_ hro
  simp only [Tryz.ntmps53, List.size_toArray, List.length_cons, List.length_nil, Nat.reduceAdd, Nat.reduceSub, Array.replicate_succ, Array.replicate_zero, List.push_toArray, List.append_toArray, List.nil_append, List.cons_append]
  gi_wp2_with (first
    | (gi_at_range; refine wpListIn_range_own _ rfl _ 65 rfl 55 67 keyedP Tryz.underlying65 _ b nn _ rfl hown ?_; intro w0 hrg0 hg0 hs0)
    | gi_in)
  go_frame
  gi_loopw [3] (fun _ wr => ∃ (left : Lit → Bool) (cnt : Nat) (ss : List Pr), wr.ranges Tryz.prog 55 R b W.heap.size nn D0 left cnt ∧ ss.length + cnt ≤ Maps.size D0 ∧ CollP D0 left ss ∧ J ss wr)
    (fun _ wr => wr.rangeLeft b W.heap.size)
  case atStart =>
    exact ⟨_, _, [], hrg0, by simp, CollP.start D0, hJ [] W w0 none h0 hg0 (fun r e => by cases e)⟩
  case round =>
    obtain ⟨left, cnt, ss, hrg, hcs, hC, hJs⟩ := hrel
    gi_wp2_with (first
      | (gi_at_next; refine wpListIn_next_ranges _ rfl _ rfl 55 keyedP R (fun x : Pr => .agg #[.int .i64 x.1.1, .string ⟨x.1.2.1.toArray⟩, .string ⟨x.1.2.2.toArray⟩, .int .i64 x.2.1, .string ⟨x.2.2.1.toArray⟩, .string ⟨x.2.2.2.toArray⟩]) id (fun key kl hk => by obtain ⟨x, hx, _⟩ := keyOf_p_inv hk; exact ⟨x, hx⟩) (fun v _ _ => ⟨v, rfl⟩) b W.heap.size nn _ _ _ rfl hrg ?_ ?_)
      | gi_in)
    · -- nothing is left
      intro hc0 hl0
      gi_wp2
      go_end0
      exact ⟨⟨_, rfl⟩, .inl ⟨ss, ⟨hC.1, fun x => ⟨fun hx => ⟨hC.2.1 x hx, ((hC.2.2 x (hC.2.1 x hx)).1 hx).1⟩, fun hx => (hC.2.2 x hx.1).2 ⟨hx.2, hl0 _⟩⟩⟩, hJs⟩⟩
    · -- an entry has come
      intro xk xS xL yk yS yL c kl yd yp w2 cnt2 hkey hlk hv hat hrg2 hlt hg2 hs2 hen
      obtain ⟨x', ex, rfl, hwx⟩ := keyOf_p_inv hkey
      obtain rfl : ((xk, xS, xL), (yk, yS, yL)) = x' := valP_inj ex
      clear ex
      have hJ2 : J ss (w2.alloc (.cells #[.int .i64 xk, .string ⟨xS.toArray⟩, .string ⟨xL.toArray⟩, .int .i64 yk, .string ⟨yS.toArray⟩, .string ⟨yL.toArray⟩] 55)) := hJ ss w2 _ none (hJ ss wr w2 (some W.heap.size) hJs hg2 (fun r e => by cases e; exact ⟨Nat.le_refl _, hrg.iter_walk⟩)) (World.grownBy_alloc _ _ none) (fun r e => by cases e)
      obtain ⟨fn, tmps, assign, body, hy, hR⟩ := hY ss ((xk, xS, xL), (yk, yS, yL)) _ hJ2 (by omega)
      simp only [valP] at hy
      have hC2 := hC.step hwx hlk hat
      clear hs2
      gi_wp2
      refine hR.mono ?_
      rintro e W3 (⟨rfl, hJ3, hk3⟩ | ⟨rfl, hJx3⟩)
      · gi_wp2
        have hrg3 := (hrg2.alloc _).of_walks hk3
        go_roundw
        case rel => exact ⟨_, cnt2, ss ++ [((xk, xS, xL), (yk, yS, yL))], hrg3, by simp; omega, hC2, hJ3⟩
        case measure => rw [hrg3.left_eq, hrg.left_eq]; exact hlt
      · gi_wp2
        refine bodyPost_ret (results_none rfl _ _ _) rfl ?_
        exact ⟨⟨_, rfl⟩, .inr ⟨_, trivial, hJx3⟩⟩

theorem keysP_stops {H : Type} (F : Fence) (n : Nat) (h10 : F.fn 53) (hro : F.round = none) (hn : 1 ≤ n) (Bm b nn : Nat) (D0 : DataW H) {R : Value → Option (DataW H × List MemPlace)} (w : World) (hBm : Bm < w.heap.size)
    (hm : w.cell? ⟨Bm, 0, none⟩ = some (.map (some b))) (hown : w.ownsMap Tryz.prog 55 R b nn D0) :
    SeqStops F n Tryz.prog 53 #[.pointer (some ⟨Bm, 0, none⟩)] valP (fun ss => ss.Nodup ∧ ∀ x, x ∈ ss ↔ wfP x ∧ Maps.has D0 (keyP x) = true) (fun _ => True) (Maps.size D0) w := fun l J Jx W hW hJ _ hY h0 => by
  have hown' : W.ownsMap Tryz.prog 55 R b nn D0 := by
    have hbl := hown.lt
    obtain ⟨es, clock, hb, Ft, hs, hD⟩ := hown
    exact ⟨es, clock, (hW.block b hbl).trans hb, Ft, hs, hD⟩
  exact keysP1_in F n h10 hro hn l Bm b nn D0 J Jx hY W hJ ((hW.cell (p := ⟨Bm, 0, none⟩) hBm).trans hm) hown' h0
end Go.Proofs.YtifkcoappflenagGreatDoor

/- slices.AppendSeq and slices.Collect at pairs, against whatever iterator. -/
namespace Go.Proofs.YtifkcoappflenagGreatDoor
open Go Go.RowKit Go.Proofs Go.Maps Go.Sort Go.Shelf
attribute [local go_sem] Oper.semAt_some

theorem cell_six_new (w : World) (a b c d e f : Value) (t : TypeId) : ∀ j u, [a, b, c, d, e, f][j]? = some u → (w.alloc (.cells #[a, b, c, d, e, f] t)).cell? ((⟨w.heap.size, 0, none⟩ : Addr).add j) = some u := by
  have h : (w.alloc (.cells #[a, b, c, d, e, f] t)).heap[w.heap.size]? = some (.cells #[a, b, c, d, e, f] t (0, 0)) := World.alloc_heap_new w _
  generalize w.alloc (.cells #[a, b, c, d, e, f] t) = W' at h ⊢
  generalize w.heap.size = B at h ⊢
  intro j u hj
  match j, hj with
  | 0, hj => simpa [Addr.add, World.cell?, h] using hj
  | 1, hj => simpa [Addr.add, World.cell?, h] using hj
  | 2, hj => simpa [Addr.add, World.cell?, h] using hj
  | 3, hj => simpa [Addr.add, World.cell?, h] using hj
  | 4, hj => simpa [Addr.add, World.cell?, h] using hj
  | 5, hj => simpa [Addr.add, World.cell?, h] using hj

/-- a block that holds a term -/
def BoxP (W : World) (B : Nat) (x : Pr) : Prop := W.heap[B]? = some (.cells #[.int .i64 x.1.1, .string ⟨x.1.2.1.toArray⟩, .string ⟨x.1.2.2.toArray⟩, .int .i64 x.2.1, .string ⟨x.2.2.1.toArray⟩, .string ⟨x.2.2.2.toArray⟩] 55 (0, 0))

theorem BoxP.cells {W : World} {B : Nat} {x : Pr} (h : BoxP W B x) : W.cell? ⟨B, 0, none⟩ = some (.int .i64 x.1.1) ∧ W.cell? ⟨B, 1, none⟩ = some (.string ⟨x.1.2.1.toArray⟩) ∧ W.cell? ⟨B, 2, none⟩ = some (.string ⟨x.1.2.2.toArray⟩) ∧ W.cell? ⟨B, 3, none⟩ = some (.int .i64 x.2.1) ∧ W.cell? ⟨B, 4, none⟩ = some (.string ⟨x.2.2.1.toArray⟩) ∧ W.cell? ⟨B, 5, none⟩ = some (.string ⟨x.2.2.2.toArray⟩) := by
  refine ⟨?_, ?_, ?_, ?_, ?_, ?_⟩ <;> simp [World.cell?, show W.heap[B]? = _ from h]

def SeqJ (w : World) (pre : List Pr) (W : World) : Prop :=
  (∃ v, Boxed W w.heap.size 25 v ∧ W.ownsRow w.heap.size 55 6 v pre.length (pre.flatMap encP) ∧ (v = .slice none 0 0 ↔ pre = [])) ∧ Below w.heap.size w W

theorem seqJ_own (w : World) (B : Nat) (hB : w.heap.size ≤ B) : OwnFrom B (SeqJ w) :=
  OwnFrom.and (Own.from (holdsRow_own w.heap.size w.heap.size 25 55 6 (fun pre : List Pr => pre.length) (fun pre => pre.flatMap encP) (fun pre v => (v = .slice none 0 0 ↔ pre = []))) B) (ownFrom_below (Nat.le_refl _) hB)

set_option maxRecDepth 100000 in
set_option maxHeartbeats 4000000 in
theorem appendSeqP_in (F : Fence) (n : Nat) (h67 : F.fn 70) (hro : F.round = none) (hn : 3 ≤ n) (g : Nat) (lb : Array Value) (hFg : F.fn g) (eg : ∀ args w, (callFunc g args).run Tryz.prog w = .ok (.enter g args) w)
    (S Sp : List Pr → Prop) (N : Nat) (hN : N ≤ maxLen) (hNb : N * 80 ≤ 140737488355328) (w : World) (hseq : SeqStops F (n - 1) Tryz.prog g lb valP S Sp N w) :
    CallsIn F n Tryz.prog 70 #[.slice none 0 0, .func (.func g) #[] lb] w fun e w' => ∃ (v : Value) (ss : List Pr), e = .returned v ∧ S ss ∧ w'.ownsRow w.heap.size 55 6 v ss.length (ss.flatMap encP) ∧ (v = .slice none 0 0 ↔ ss = []) ∧ Below w.heap.size w w' := by
  have h1 : 1 ≤ n := by omega
  have h1' : 1 ≤ n - 1 - 1 := by omega
  obtain ⟨i0, hi, hz0, hz1, hz2⟩ := info_parts infoP
  refine callsIn_of_wp_marks Tryz.func70 rfl h67 ?_ hro
  simp only [Tryz.ntmps70, List.size_toArray, List.length_cons, List.length_nil, Nat.reduceAdd, Nat.reduceSub, Array.replicate_succ, Array.replicate_zero, List.push_toArray, List.append_toArray, List.nil_append, List.cons_append]
  gi_wp2
  have hb0 : Below w.heap.size w (w.alloc (.cells #[.slice none 0 0] 25)) := (Below.refl _ w).alloc (Nat.le_refl _) _
  refine wpIn_rangeFunc_ownH hro h1 (gf := g) (lb := lb) rfl hFg eg (encs := fun x => #[valP x]) (Kp := KeepsWalks) (S := S) (Sp := Sp) (N := N) (w0 := w) hseq (fun a b => a.trans b) (fun W l o o' hl ho hc hw => KeepsWalks.putObj _ ho hw) hb0 (fun _ => rfl)
    (SeqJ w) (fun _ _ _ => False) (seqJ_own w _ (by simp)) (fun _ _ _ _ _ hs _ _ => hs)
    ⟨⟨_, Boxed.new w _ _, ⟨rfl, .inl ⟨rfl, rfl⟩⟩, by simp⟩, hb0⟩
    (fun x a' W => ∃ Bx, BoxP W Bx x ∧ a' = { tmps := #[.slice none 0 0, .func (.func g) #[] lb, .pointer (some ⟨w.heap.size, 0, none⟩), undef, .slice none 0 0, .pointer (some ⟨Bx, 0, none⟩), .func (.func g) #[] lb, valP x, undef, undef, undef, undef, undef], defers := [] })
    ?hAx ?assign ?body ?done ?stop
  case hAx =>
    rintro x a' _ X Y row ⟨Bx, hb, e⟩ hg hr
    refine ⟨Bx, (hg.block Bx (Array.getElem?_eq_some_iff.1 hb).1 (fun e' => ?_)).trans hb, e⟩
    obtain ⟨_, o, ho, hc⟩ := hr Bx e'.symm
    rw [show X.heap[Bx]? = _ from hb] at ho; cases ho; cases hc
  case assign =>
    rintro l pre x W K hi hK
    unfold valP
    gi_wp2
    exact hK _ _ ((KeepsOthers.alloc _ _).from _) (KeepsWalks.alloc _ _) ((seqJ_own w w.heap.size (Nat.le_refl _)).alloc _ hi) ⟨W.heap.size, World.alloc_heap_new W _, rfl⟩
  case body =>
    rintro l pre x a' W hl ⟨r, hr⟩ ⟨⟨v, hv, hrow, hnil⟩, hB⟩ ⟨Bx, hbx, rfl⟩ hlt
    have hc := hv.cell
    have hf := hv.frozen
    obtain ⟨c0, c1, c2, c3, c4, c5⟩ := hbx.cells
    unfold valP
    gi_wp2_with (first
      | (gi_at_builtin; refine wpListIn_append_own _ rfl _ _ 25 rfl w.heap.size 55 i0 (.agg #[.int .i64 0, .string ⟨#[]⟩, .string ⟨#[]⟩, .int .i64 0, .string ⟨#[]⟩, .string ⟨#[]⟩]) 6 80 Tryz.underlying25 hi hz0 hz1 hz2 rfl (by decide) _ _ _ rfl (hrow.alloc _) ⟨W.heap.size, 0, none⟩ 1 1 [.int .i64 x.1.1, .string ⟨x.1.2.1.toArray⟩, .string ⟨x.1.2.2.toArray⟩, .int .i64 x.2.1, .string ⟨x.2.2.1.toArray⟩, .string ⟨x.2.2.2.toArray⟩] rfl rfl (cell_six_new _ _ _ _ _ _ _ _) (by simp [Value.oneCell']) (by omega) (by omega) (by have := hB.size; simp; omega) ?_
         intro v' w1 hown' hgrow hvn
         obtain ⟨g', cap', rfl⟩ := ownsRow_succ hown'
         obtain ⟨hv1, hv2, hr2, hk2, hb2⟩ := hv.appended (by decide) hrow hB.size (Nat.le_refl _) hown' hgrow
         have hc1 := hv1.cell
         have hf1 := hv1.frozen)
      | gi_in)
    exact ⟨hk2.from _, hk2.walks, ⟨_, hv2, by simpa [encP] using hr2, by simp⟩, hB.trans hb2⟩
  case done =>
    rintro D ss W hD hS ⟨⟨v, hv, hrow, hnil⟩, hB⟩ hK
    have hc := hv.cell
    gi_wp2
    refine ⟨by simp, .inl ⟨_, _, rfl, run_takeDeferred hK, ?_⟩⟩
    have hD' : w.heap.size ≤ D := by simp at hD; omega
    exact ⟨_, results_tmp rfl _ _ _, v, ss, rfl, hS, ownsRow_putObj hrow _ hK rfl, hnil, hB.grown (grownBy_putObj' _ _ _) hB.size (fun k e => by cases e; exact hD')⟩
  case stop =>
    rintro D c pre W _ _ h _
    exact h.elim

theorem entersSeqP : ∀ args w, (callFunc 70 args).run Tryz.prog w = .ok (.enter 70 args) w := enters_of Tryz.func70 (by kernel_rfl) rfl

end Go.Proofs.YtifkcoappflenagGreatDoor

/- The contract of slices.SortFunc at pairs, laid at this program by program. -/
namespace Go.Proofs
open Go.Shelf
def Tryz.sortP_ren : Go.Shelf.Ren := ⟨fun | 6 => 52 | 15 => 72 | 14 => 71 | 28 => 92 | 29 => 93 | 20 => 84 | 21 => 85 | 22 => 86 | 23 => 87 | 24 => 88 | 25 => 89 | 26 => 90 | 27 => 91 | 46 => 107 | 47 => 108 | 48 => 109 | 49 => 110 | 50 => 111 | 57 => 121 | n => n, fun | 22 => 25 | 24 => 55 | 25 => 75 | 3 => 3 | 39 => 120 | 0 => 0 | 53 => 148 | 55 => 150 | 4 => 4 | 46 => 141 | 45 => 140 | 50 => 145 | 5 => 5 | 9 => 9 | 66 => 157 | 70 => 161 | 76 => 166 | 77 => 167 | n => n, fun | n => n⟩
theorem Tryz.sortP : Go.Proofs.SlLaysF0.n6 Tryz.prog Tryz.sortP_ren := {
  mixed := by kernel_rfl
  f6 := ⟨Tryz.f52.name, by decide, Tryz.func52.trans (congrArg some (by kernel_rfl))⟩
  f14 := ⟨Tryz.f71.name, by decide, Tryz.func71.trans (congrArg some (by kernel_rfl))⟩
  f15 := Tryz.func72.trans (congrArg some (by kernel_rfl))
  f20 := ⟨Tryz.f84.name, by decide, Tryz.func84.trans (congrArg some (by kernel_rfl))⟩
  f21 := ⟨Tryz.f85.name, by decide, Tryz.func85.trans (congrArg some (by kernel_rfl))⟩
  f22 := ⟨Tryz.f86.name, by decide, Tryz.func86.trans (congrArg some (by kernel_rfl))⟩
  f23 := ⟨Tryz.f87.name, by decide, Tryz.func87.trans (congrArg some (by kernel_rfl))⟩
  f24 := ⟨Tryz.f88.name, by decide, Tryz.func88.trans (congrArg some (by kernel_rfl))⟩
  f25 := ⟨Tryz.f89.name, by decide, Tryz.func89.trans (congrArg some (by kernel_rfl))⟩
  f26 := ⟨Tryz.f90.name, by decide, Tryz.func90.trans (congrArg some (by kernel_rfl))⟩
  f27 := ⟨Tryz.f91.name, by decide, Tryz.func91.trans (congrArg some (by kernel_rfl))⟩
  f28 := Tryz.func92.trans (congrArg some (by kernel_rfl))
  f29 := Tryz.func93.trans (congrArg some (by kernel_rfl))
  f46 := ⟨Tryz.f107.name, by decide, Tryz.func107.trans (congrArg some (by kernel_rfl))⟩
  f47 := Tryz.func108.trans (congrArg some (by kernel_rfl))
  f48 := Tryz.func109.trans (congrArg some (by kernel_rfl))
  f49 := ⟨Tryz.f110.name, by decide, Tryz.func110.trans (congrArg some (by kernel_rfl))⟩
  f50 := ⟨Tryz.f111.name, by decide, Tryz.func111.trans (congrArg some (by kernel_rfl))⟩
  f57 := ⟨Tryz.f121.name, by decide, Tryz.func121.trans (congrArg some (by kernel_rfl))⟩
  t0 := Tryz.underlying0
  a0 := Tryz.isAgg0
  z0 := Tryz.sizeOf0
  v0 := Tryz.zeroValue0
  t3 := Tryz.underlying3
  a3 := Tryz.isAgg3
  z3 := Tryz.sizeOf3
  v3 := Tryz.zeroValue3
  t4 := Tryz.underlying4
  a4 := Tryz.isAgg4
  z4 := Tryz.sizeOf4
  v4 := Tryz.zeroValue4
  t5 := Tryz.underlying5
  a5 := Tryz.isAgg5
  z5 := Tryz.sizeOf5
  v5 := Tryz.zeroValue5
  t9 := Tryz.underlying9
  a9 := Tryz.isAgg9
  z9 := Tryz.sizeOf9
  v9 := Tryz.zeroValue9
  t22 := Tryz.underlying25
  a22 := Tryz.isAgg25
  z22 := Tryz.sizeOf25
  v22 := Tryz.zeroValue25
  t25 := Tryz.underlying75
  a25 := Tryz.isAgg75
  z25 := Tryz.sizeOf75
  v25 := Tryz.zeroValue75
  t39 := Tryz.underlying120
  a39 := Tryz.isAgg120
  z39 := Tryz.sizeOf120
  v39 := Tryz.zeroValue120
  t45 := Tryz.underlying140
  a45 := Tryz.isAgg140
  z45 := Tryz.sizeOf140
  v45 := Tryz.zeroValue140
  t46 := Tryz.underlying141
  a46 := Tryz.isAgg141
  z46 := Tryz.sizeOf141
  v46 := Tryz.zeroValue141
  t50 := Tryz.underlying145
  a50 := Tryz.isAgg145
  z50 := Tryz.sizeOf145
  v50 := Tryz.zeroValue145
  t53 := Tryz.underlying148
  a53 := Tryz.isAgg148
  z53 := Tryz.sizeOf148
  v53 := Tryz.zeroValue148
  t55 := Tryz.underlying150
  a55 := Tryz.isAgg150
  z55 := Tryz.sizeOf150
  v55 := Tryz.zeroValue150
  t66 := Tryz.underlying157
  a66 := Tryz.isAgg157
  z66 := Tryz.sizeOf157
  v66 := Tryz.zeroValue157
  t70 := Tryz.underlying161
  a70 := Tryz.isAgg161
  z70 := Tryz.sizeOf161
  v70 := Tryz.zeroValue161
  t76 := Tryz.underlying166
  a76 := Tryz.isAgg166
  z76 := Tryz.sizeOf166
  v76 := Tryz.zeroValue166
  t77 := Tryz.underlying167
  a77 := Tryz.isAgg167
  z77 := Tryz.sizeOf167
  v77 := Tryz.zeroValue167 }
end Go.Proofs

/- A region that draws its order, whose operations only read and whose calls leave all that was: walked once, in the order of the text. -/
namespace Go.Proofs.YtifkcoappflenagGreatDoor
open Go Go.RowKit Go.Proofs

/-- the worlds in which nothing old has turned -/
structure Lat (w : World) where
  val : World
  low : RowKit.Below w.heap.size w val
theorem lat_some (w : World) : Nonempty (Lat w) := ⟨⟨w, RowKit.Below.refl _ _⟩⟩
theorem lat_cell {w : World} {p : Addr} {v : Value} (h : w.cell? p = some v) : ∀ n : Lat w, n.val.cell? p = some v := fun n => (n.low.cell (World.block_lt_of_cell? w p h)).trans h
theorem lat_region {P : Program} {id : Nat} {Q : Exit → Act → World → Prop} {a : Act} {w : World} {l : List Oper} (hm : P.follows .mixedOrders = true) (hB : Region.lexB .any l.toArray = true)
    (h : wpQuiet P l.toArray (fun W => ∃ n : Lat w, W = n.val) (fun a' => ∀ W, (∃ n : Lat w, W = n.val) → Q .normal a' W) l a) : (Code.region id l.toArray true).wp P Q a w :=
  wp_region_quiet (C := fun W => ∃ n : Lat w, W = n.val) hm hB ⟨⟨w.drew, (RowKit.Below.refl _ _).drew⟩, rfl⟩ (by simpa using h)
theorem lat_call {P : Program} {f : FuncId} {args : Array Value} {w : World} {n : Lat w} {v : Value}
    (h : Calls P f args n.val fun e w' => e = .returned v ∧ RowKit.Below n.val.heap.size n.val w') : Calls P f args n.val fun e w'' => e = .returned v ∧ ∃ m : Lat w, w'' = m.val :=
  h.mono fun _ w' ⟨he, hb⟩ => ⟨he, ⟨w', n.low.trans (hb.mono n.low.size)⟩, rfl⟩
end Go.Proofs.YtifkcoappflenagGreatDoor

/- slices.SortFunc at pairs. -/
namespace Go.Proofs.YtifkcoappflenagGreatDoor
open Go Go.RowKit Go.Proofs Go.Sort Go.Lib
set_option synthInstance.maxSize 1000

theorem flat_getP (l : List Pr) (j : Nat) (hj : j < l.length * 6) : (cellsP l)[j]? = some (flatK encP 6 l.toArray)[j]! := by
  have hi : j / 6 < l.length := by omega
  have h1 := cellsP_at l (j / 6) hi (j % 6) (by omega)
  rw [show j / 6 * 6 + j % 6 = j by omega] at h1
  rw [h1, get_flatK _ _ _ j (by simpa using hj), List.getElem?_eq_getElem (by rw [encP_len]; omega)]
  have e : l.toArray[j / 6]! = l[j / 6] := by rw [getElem!_pos l.toArray (j / 6) (by simpa using hi)]; simp
  rw [e, getElem!_pos (encP l[j / 6]) (j % 6) (by rw [encP_len]; omega)]

theorem rowP_holds {w : World} {b o : Nat} {l : List Pr} (h : HoldsK encP 6 w b o l.toArray) : RowP w b o l := fun j v hv => by
  have hj : j < l.length * 6 := by
    have := (List.getElem?_eq_some_iff.1 hv).1
    rwa [cellsP_len] at this
  rw [flat_getP l j hj] at hv
  rw [(h j (by simpa using hj)).1]
  exact hv
theorem below_sortP {w : World} {b n B : Nat} {d : Array Pr} {os : Array Obj} (hB : B ≤ b) (hBw : B ≤ w.heap.size) : RowKit.Below B w (sortWorldK encP 6 w b 0 n d os) := by
  refine ⟨rfl, rfl, rfl, ?_, fun k hk => ?_⟩
  · show w.heap.size ≤ (_ ++ os).size
    simp [putRowK, putRow, mapBlock, Sort.ahead]
  · show (_ ++ os)[k]? = _
    rw [Array.getElem?_append_left (by simp [putRowK, putRow, mapBlock, Sort.ahead]; omega)]
    simp only [putRowK, putRow, mapBlock, Sort.ahead, Array.getElem?_modify]
    rw [if_neg (by omega)]
theorem swoP : SWO (ltOf cmpP) where
  irrefl x := by simp [ltOf, (cmpP_zero x x).2 rfl]
  trans x y z h1 h2 := by
    simp only [ltOf, decide_eq_true_eq] at *
    have h := cmpP_trans x y z (by omega) (by omega)
    by_cases e : cmpP x z = 0
    · have := (cmpP_zero x z).1 e
      subst this
      have := cmpP_neg x y
      omega
    · omega
  ntrans x y z h1 h2 := by
    simp only [ltOf, decide_eq_false_iff_not] at *
    have a := cmpP_neg x y
    have b := cmpP_neg y z
    have c := cmpP_neg x z
    have := cmpP_trans z y x (by omega) (by omega)
    omega


theorem enters32 : ∀ args w, (callFunc 32 args).run Tryz.prog w = .ok (.enter 32 args) w := enters_of Tryz.func32 (by kernel_rfl) rfl

def or2 (x y : Int) : Int := if x ≠ 0 then x else y
theorem Or2_any (b : Nat) (x y : Int) (w : World) (h0 : w.cell? ⟨b, 0, none⟩ = some (.int .i64 x)) (h1 : w.cell? ⟨b, 1, none⟩ = some (.int .i64 y)) :
    Calls Tryz.prog 33 #[.slice (some ⟨b, 0, none⟩) 2 2] w fun e w' => e = .returned (.int .i64 (or2 x y)) ∧ w' = w := by
  have fin : Hid (or2 x y = if x ≠ 0 then x else y) := rfl
  go_enter Tryz.func33, Tryz.ntmps33
  go_wp2
  go_loop [8] (fun i => ∃ k : Int, 0 ≤ k ∧ k ≤ 2 ∧ i = .int .i64 k ∧ (0 < k → x = 0) ∧ (1 < k → y = 0)) (fun i => (2 - intOf i).toNat)
  case atStart => exact ⟨0, by omega, by omega, rfl, by omega, by omega⟩
  case round =>
    obtain ⟨k, hk, hk', rfl, q0, q1⟩ := hrel
    rcases (by omega : k = 0 ∨ k = 1 ∨ k = 2) with rfl | rfl | rfl
    · clear hk hk' q0 q1
      cases hx : (x != 0)
      · go_wp2
        simp at hx
        exact ⟨⟨1, by omega, by omega, by go_num, by omega, by omega⟩, by simp [intOf]⟩
      · go_wp2
        go_ret
        simp at hx
        exact ⟨ret_int (by rw [fin.out]; simp [hx]), rfl⟩
    · have hx : Hid (x = 0) := q0 (by omega)
      clear hk hk' q0 q1
      cases hy : (y != 0)
      · go_wp2
        simp at hy
        exact ⟨⟨2, by omega, by omega, by go_num, fun _ => hx.out, fun _ => hy⟩, by simp [intOf]⟩
      · go_wp2
        go_ret
        exact ⟨ret_int (by rw [fin.out]; simp [hx.out]), rfl⟩
    · have hx : Hid (x = 0) := q0 (by omega)
      have hy : Hid (y = 0) := q1 (by omega)
      clear hk hk' q0 q1
      go_wp2
      go_ret
      exact ⟨ret_int (by rw [fin.out]; simp [hx.out, hy.out]), rfl⟩

theorem keep12 {W W' : World} {p0 p1 p2 p3 p4 p5 p6 p7 p8 p9 p10 p11 : Addr} {v0 v1 v2 v3 v4 v5 v6 v7 v8 v9 v10 v11 : Value}
    (h : W.cell? p0 = some v0 ∧ W.cell? p1 = some v1 ∧ W.cell? p2 = some v2 ∧ W.cell? p3 = some v3 ∧ W.cell? p4 = some v4 ∧ W.cell? p5 = some v5 ∧ W.cell? p6 = some v6 ∧ W.cell? p7 = some v7 ∧ W.cell? p8 = some v8 ∧ W.cell? p9 = some v9 ∧ W.cell? p10 = some v10 ∧ W.cell? p11 = some v11) (hb : Grew W W') : W'.cell? p0 = some v0 ∧ W'.cell? p1 = some v1 ∧ W'.cell? p2 = some v2 ∧ W'.cell? p3 = some v3 ∧ W'.cell? p4 = some v4 ∧ W'.cell? p5 = some v5 ∧ W'.cell? p6 = some v6 ∧ W'.cell? p7 = some v7 ∧ W'.cell? p8 = some v8 ∧ W'.cell? p9 = some v9 ∧ W'.cell? p10 = some v10 ∧ W'.cell? p11 = some v11 := by
  have q := hb.keep
  obtain ⟨h0, h1, h2, h3, h4, h5, h6, h7, h8, h9, h10, h11⟩ := h
  exact ⟨q _ _ h0, q _ _ h1, q _ _ h2, q _ _ h3, q _ _ h4, q _ _ h5, q _ _ h6, q _ _ h7, q _ _ h8, q _ _ h9, q _ _ h10, q _ _ h11⟩

set_option maxHeartbeats 8000000 in
set_option maxRecDepth 100000 in
theorem PCompare_grew (xk1 : Int) (xS1 xL1 : List UInt8) (xk2 : Int) (xS2 xL2 : List UInt8) (yk1 : Int) (yS1 yL1 : List UInt8) (yk2 : Int) (yS2 yL2 : List UInt8) (w : World) :
    Calls Tryz.prog 32 #[.agg #[.int .i64 xk1, .string ⟨xS1.toArray⟩, .string ⟨xL1.toArray⟩, .int .i64 xk2, .string ⟨xS2.toArray⟩, .string ⟨xL2.toArray⟩], .agg #[.int .i64 yk1, .string ⟨yS1.toArray⟩, .string ⟨yL1.toArray⟩, .int .i64 yk2, .string ⟨yS2.toArray⟩, .string ⟨yL2.toArray⟩]] w
      fun e w' => e = .returned (.int .i64 (or2 (cmpT xk1 xS1 xL1 yk1 yS1 yL1) (cmpT xk2 xS2 xL2 yk2 yS2 yL2))) ∧ Grew w w' := by
  have H1 := fun W => Compare_grew xk1 xS1 xL1 yk1 yS1 yL1 W
  have H2 := fun W => Compare_grew xk2 xS2 xL2 yk2 yS2 yL2 W
  generalize cmpT xk1 xS1 xL1 yk1 yS1 yL1 = c1 at H1 ⊢
  generalize cmpT xk2 xS2 xL2 yk2 yS2 yL2 = c2 at H2 ⊢
  have HO := fun b W h0 h1 => Or2_any b c1 c2 W h0 h1
  generalize or2 c1 c2 = r at HO ⊢
  go_enter Tryz.func32, Tryz.ntmps32
  go_wp2_with fail
  go_region_held3 (fun W => W.cell? ⟨w.heap.size, 0, none⟩ = some (.int .i64 xk1) ∧ W.cell? ⟨w.heap.size, 1, none⟩ = some (.string ⟨xS1.toArray⟩) ∧ W.cell? ⟨w.heap.size, 2, none⟩ = some (.string ⟨xL1.toArray⟩) ∧ W.cell? ⟨w.heap.size, 3, none⟩ = some (.int .i64 xk2) ∧ W.cell? ⟨w.heap.size, 4, none⟩ = some (.string ⟨xS2.toArray⟩) ∧ W.cell? ⟨w.heap.size, 5, none⟩ = some (.string ⟨xL2.toArray⟩) ∧ W.cell? ⟨w.heap.size + 1, 0, none⟩ = some (.int .i64 yk1) ∧ W.cell? ⟨w.heap.size + 1, 1, none⟩ = some (.string ⟨yS1.toArray⟩) ∧ W.cell? ⟨w.heap.size + 1, 2, none⟩ = some (.string ⟨yL1.toArray⟩) ∧ W.cell? ⟨w.heap.size + 1, 3, none⟩ = some (.int .i64 yk2) ∧ W.cell? ⟨w.heap.size + 1, 4, none⟩ = some (.string ⟨yS2.toArray⟩) ∧ W.cell? ⟨w.heap.size + 1, 5, none⟩ = some (.string ⟨yL2.toArray⟩)) (first | exact keep12 (by assumption) hb1 | exact keep12 (by assumption) hb2 | go_keep) (first
    | (go_at_call_of 34 (Value.agg #[.int .i64 xk1, .string ⟨xS1.toArray⟩, .string ⟨xL1.toArray⟩]); refine (H1 _).mono ?_; rintro e w1 ⟨rfl, hb1⟩)
    | (go_at_call_of 34 (Value.agg #[.int .i64 xk2, .string ⟨xS2.toArray⟩, .string ⟨xL2.toArray⟩]); refine (H2 _).mono ?_; rintro e w2 ⟨rfl, hb2⟩)
    | (go_at_call 33; refine (HO _ _ (by go_simp) (by go_simp)).mono ?_; rintro e w4 ⟨rfl, rfl⟩))
  go_wp2
  go_ret
  exact ⟨rfl, ((((grew_alloc _ _).trans (grew_alloc _ _)).drew.trans hb1).trans hb2).trans (grew_alloc _ _)⟩

theorem CmpP_any (x y : Pr) (w : World) : Calls Tryz.prog 32 #[valP x, valP y] w fun e w' => e = .returned (.int .i64 (cmpP x y)) ∧ Grew w w' :=
  PCompare_grew _ _ _ _ _ _ _ _ _ _ _ _ _

theorem SortFuncP_any (b cap : Nat) (d : Array Pr) (w : World) (hH : HoldsK encP 6 w b 0 d) (hb : b < w.heap.size) (hsz : d.size ≤ 1000) :
    Calls Tryz.prog 52 #[.slice (some ⟨b, 0, none⟩) d.size cap, .func (.func 32) #[] #[]] w
      fun e w' => e = .returned (.tuple #[]) ∧ ∃ d' n os, PermIn 0 d.size d d' ∧ SortedIn (ltOf cmpP) 0 d.size d' ∧ w' = sortWorldK encP 6 w b 0 n d' os :=
  AnyQ.slices_SortFunc Tryz.sortP 6 Tryz.isAgg55 Tryz.sizeOf55 encP encP_len encP_one cmpP swoP 32 #[] b 0 cap d w enters32
    (fun _ _ _ _ x y => CmpP_any x y _) hH hb (by omega)

theorem insertNoneP (w : World) : Calls Tryz.prog 84 #[.slice none 0 0, .int .i64 0, .int .i64 0, .func (.func 32) #[] #[]] w fun e w' => e = .returned (.tuple #[]) ∧ w' = w := by
  go_enter Tryz.func84, Tryz.ntmps84
  go_wp2
  go_loop [8] (fun i => i = .int .i64 1) (fun _ => 0)
  case atStart => rfl
  case round =>
    subst hrel
    go_wp2
    go_end0
    exact ⟨rfl, rfl⟩

theorem pdqNoneP (n : Int) (w : World) : Calls Tryz.prog 71 #[.slice none 0 0, .int .i64 0, .int .i64 0, .int .i64 n, .func (.func 32) #[] #[]] w fun e w' => e = .returned (.tuple #[]) ∧ w' = w := by
  go_enter Tryz.func71, Tryz.ntmps71
  go_wp2
  go_loop [1, 2] (fun a b => a = .int .i64 0 ∧ b = .int .i64 0) (fun _ _ => 0)
  case atStart => exact ⟨rfl, rfl⟩
  case round =>
    obtain ⟨rfl, rfl⟩ := hrel
    go_wp2_with (go_at_call 84; refine (insertNoneP _).mono ?_; rintro e w' ⟨rfl, rfl⟩)
    exact bodyPost_ret (v := .tuple #[]) (by simp [results, Tryz.results71, go_sem]) rfl ⟨rfl, rfl⟩

theorem SortFuncNoneP (w : World) : Calls Tryz.prog 52 #[.slice none 0 0, .func (.func 32) #[] #[]] w fun e w' => e = .returned (.tuple #[]) ∧ w' = w := by
  go_enter Tryz.func52, Tryz.ntmps52
  go_wp2_with (first
    | (go_at_call 72; refine (Tryz.bits_Len 0 _ (by omega) (by omega)).mono ?_; rintro e w' ⟨rfl, rfl⟩)
    | (go_at_call 71; refine (pdqNoneP _ _).mono ?_; rintro e w' ⟨rfl, rfl⟩))
  go_end0
  exact ⟨rfl, rfl⟩

end Go.Proofs.YtifkcoappflenagGreatDoor

/- maps.Keys, slices.Collect and slices.SortedFunc at pairs. -/
namespace Go.Proofs.YtifkcoappflenagGreatDoor
open Go Go.RowKit Go.Proofs Go.Sort Go.Lib Go.Maps
set_option synthInstance.maxSize 1000

theorem entersKP : ∀ args w, (callFunc 53 args).run Tryz.prog w = .ok (.enter 53 args) w := enters_of Tryz.func53 (by kernel_rfl) rfl

/-- what SortedFunc is handed: the iterator over the keys of the map at a box -/
def KeysOfP (w : World) (bx n : Nat) (l : List Pr) : Prop := ∃ bm, w.cell? ⟨bx, 0, none⟩ = some (.map (some bm)) ∧ InMapP w bm n l

theorem KeysOfP.below {w w' : World} {bx n : Nat} {l : List Pr} (h : KeysOfP w bx n l) (hb : RowKit.Below w.heap.size w w') : KeysOfP w' bx n l := by
  obtain ⟨bm, hc, hm⟩ := h
  exact ⟨bm, (hb.cell (World.block_lt_of_cell? w _ hc)).trans hc, hm.below hb⟩

theorem KeysP_any (bm n : Nat) (l : List Pr) (w : World) (h : InMapP w bm n l) :
    Calls Tryz.prog 31 #[.map (some bm)] w fun e w' => ∃ bx, e = .returned (.func (.func 53) #[] #[.pointer (some ⟨bx, 0, none⟩)]) ∧ KeysOfP w' bx n l ∧ RowKit.Below w.heap.size w w' := by
  have H : Hid (InMapP w bm n l) := h
  clear h
  go_enter Tryz.func31, Tryz.ntmps31
  go_wp2
  go_ret
  exact ⟨_, rfl, ⟨bm, by go_simp, H.out.below (balloc _ _)⟩, balloc _ _⟩

theorem CollectP_seq (bx n : Nat) (l : List Pr) (w : World) (h : KeysOfP w bx n l) (hw : ∀ x ∈ l, wfP x) (hn : n ≤ 1000) :
    Calls Tryz.prog 70 #[.slice none 0 0, .func (.func 53) #[] #[.pointer (some ⟨bx, 0, none⟩)]] w
      fun e w' => ∃ (v : Value) (ss : List Pr), e = .returned v ∧ (ss.Nodup ∧ (∀ x, x ∈ ss ↔ x ∈ l)) ∧ w'.ownsRow w.heap.size 55 6 v ss.length (ss.flatMap encP) ∧ (v = .slice none 0 0 ↔ ss = []) ∧ RowKit.Below w.heap.size w w' := by
  obtain ⟨bm, hc, D, hown, hD⟩ := h
  have hle := hown.size_le
  refine ((callsIn_wide (n := 5)).1 (appendSeqP_in Fence.wide 5 trivial rfl (by omega) _ _ trivial entersKP _ _ (Maps.size D) (by unfold maxLen; omega) (by omega) w
    (keysP_stops Fence.wide 4 trivial rfl (by omega) bx bm n D w (World.block_lt_of_cell? w _ hc) hc hown))).mono ?_
  rintro e w' ⟨v, ss, rfl, ⟨h1, h2⟩, h3, h4, h5⟩
  refine ⟨v, ss, rfl, ⟨h1, fun x => ?_⟩, h3, h4, h5⟩
  rw [h2 x]
  constructor
  · rintro ⟨a, b⟩; rw [hD x a] at b; simpa using b
  · intro hx; exact ⟨hw x hx, by rw [hD x (hw x hx)]; simpa using hx⟩

theorem CollectP_any (bx n : Nat) (l : List Pr) (w : World) (h : KeysOfP w bx n l) (hw : ∀ x ∈ l, wfP x) (hn : n ≤ 1000) :
    Calls Tryz.prog 51 #[.func (.func 53) #[] #[.pointer (some ⟨bx, 0, none⟩)]] w
      fun e w' => ∃ (v : Value) (ss : List Pr), e = .returned v ∧ (ss.Nodup ∧ (∀ x, x ∈ ss ↔ x ∈ l)) ∧ w'.ownsRow w.heap.size 55 6 v ss.length (ss.flatMap encP) ∧ (v = .slice none 0 0 ↔ ss = []) ∧ RowKit.Below w.heap.size w w' := by
  have H : Hid (KeysOfP w bx n l) := h
  have Hw : Hid (∀ x ∈ l, wfP x) := hw
  clear h hw
  go_enter Tryz.func51, Tryz.ntmps51
  go_wp2_with (go_at_call 70; refine (CollectP_seq bx n l _ H.out Hw.out hn).mono ?_; rintro e w' ⟨v, ss, rfl, hS, hrow, hnil, hb⟩)
  go_ret
  exact ⟨v, ss, rfl, hS, hrow, hnil, hb⟩

theorem holdsP_of {w : World} {g : Nat} {cur : Array Value} {ss : List Pr} (hgb : w.heap[g]? = some (.cells cur 55 (0, 0))) (ht : cur.toList.take (ss.length * 6) = ss.flatMap encP) : HoldsK encP 6 w g 0 ss.toArray := fun j hj => by
  have hj' : j < ss.length * 6 := by simpa using hj
  have h1 := flat_getP ss j hj'
  have h2 : cur.toList[j]? = (cellsP ss)[j]? := by
    rw [show cellsP ss = ss.flatMap encP from rfl, ← ht, List.getElem?_take, if_pos hj']
  refine ⟨?_, by simp [World.frozen?, hgb]⟩
  have : w.cell? ⟨g, 0 + j, none⟩ = cur.toList[j]? := by simp [World.cell?, hgb]
  rw [this, h2, h1]
  rfl

theorem risingP_of {d : Array Pr} (hs : SortedIn (ltOf cmpP) 0 d.size d) (hn : d.toList.Nodup) : RisingP d.toList := by
  rw [RisingP, List.pairwise_iff_getElem]
  intro i j hi hj hij
  have hi' : i < d.size := by simpa using hi
  have hj' : j < d.size := by simpa using hj
  have h := hs i j (Nat.zero_le _) hij hj'
  rw [getElem!_pos d j hj', getElem!_pos d i hi'] at h
  simp only [ltOf, decide_eq_false_iff_not] at h
  have h2 := cmpP_neg d[i] d[j]
  have h3 : cmpP d[i] d[j] ≠ 0 := fun e => by
    have e' := (cmpP_zero _ _).1 e
    have := (List.nodup_iff_pairwise_ne.1 hn)
    rw [List.pairwise_iff_getElem] at this
    exact this i j hi hj hij (by simpa using e')
  have e1 : d.toList[i] = d[i] := by simp
  have e2 : d.toList[j] = d[j] := by simp
  rw [e1, e2]
  omega

theorem nodup_lenP : ∀ (a b : List Pr), a.Nodup → (∀ x ∈ a, x ∈ b) → a.length ≤ b.length
  | [], _, _, _ => Nat.zero_le _
  | x :: r, b, hn, h => by
    have hx : x ∈ b := h x (by simp)
    have hc := List.nodup_cons.1 hn
    have := nodup_lenP r (b.erase x) hc.2 (fun y hy => (List.mem_erase_of_ne (fun e : y = x => hc.1 (by rw [← e]; exact hy))).2 (h y (by simp [hy])))
    have h2 := List.length_erase_of_mem hx
    have h3 := List.length_pos_of_mem hx
    simp only [List.length_cons]
    omega

theorem SortedFuncP_any (bx n : Nat) (l : List Pr) (w : World) (h : KeysOfP w bx n l) (hw : ∀ x ∈ l, wfP x) (hn : n ≤ 1000) (hl : l.length ≤ 1000) :
    Calls Tryz.prog 30 #[.func (.func 53) #[] #[.pointer (some ⟨bx, 0, none⟩)], .func (.func 32) #[] #[]] w
      fun e w' => ∃ (ad : Option Addr) (c : Nat) (m : List Pr), e = .returned (.slice ad m.length c) ∧ SlP w' ad m ∧ RisingP m ∧ (∀ x, x ∈ m ↔ x ∈ l) ∧ RowKit.Below w.heap.size w w' := by
  have H : Hid (KeysOfP w bx n l) := h
  have Hw : Hid (∀ x ∈ l, wfP x) := hw
  clear h hw
  go_enter Tryz.func30, Tryz.ntmps30
  go_wp2_with (go_at_call 51; refine (CollectP_any bx n l _ H.out Hw.out hn).mono ?_; rintro e w1 ⟨v, ss, rfl, ⟨hnd, hmem⟩, hrow, hnil, hb⟩)
  have hlen : ss.length ≤ 1000 := by
    have : ss.length ≤ l.length := nodup_lenP _ _ hnd (fun x hx => (hmem x).1 hx)
    omega
  rcases hrow.2 with ⟨rfl, h0⟩ | ⟨g, cap, cur, rfl, hg0, hgb, hcap, _, hcs, htk⟩
  · have hss : ss = [] := List.length_eq_zero_iff.1 h0
    subst hss
    go_wp2_with (go_at_call 52; refine (SortFuncNoneP _).mono ?_; rintro e w2 ⟨rfl, rfl⟩)
    go_ret
    exact ⟨none, 0, [], rfl, fun h => absurd rfl h, List.Pairwise.nil, fun x => hmem x, hb⟩
  · have hH := holdsP_of hgb htk
    have hgl : g < w1.heap.size := (Array.getElem?_eq_some_iff.1 hgb).1
    have hS := SortFuncP_any g cap ss.toArray w1 hH hgl (by simpa using hlen)
    rw [List.size_toArray] at hS
    have HS : Hid (Calls Tryz.prog 52 _ _ _) := hS
    clear hS
    go_wp2_with (go_at_call 52; refine HS.out.mono ?_; rintro e w2 ⟨rfl, d', q, os, hp, hsd, rfl⟩)
    go_ret
    have hds : d'.size = ss.length := by have := hp.1; simpa using this
    have hperm : d'.toList.Perm ss := by
      have := hp.2.2
      rw [show d'.extract 0 ss.length = d' by rw [← hds]; simp] at this
      simpa using this
    have hH3 := holdsK_sortWorldK encP 6 w1 g 0 q ss.toArray d' os hgl hH (by simpa using hds)
    refine ⟨some ⟨g, 0, none⟩, cap, d'.toList, by simp [hds], fun _ => ⟨g, 0, rfl, rowP_holds (by simpa using hH3)⟩, risingP_of (by rw [hds]; exact hsd) (hperm.nodup_iff.2 hnd), fun x => (hperm.mem_iff).trans (hmem x), hb.trans (below_sortP hg0 hb.size)⟩
end Go.Proofs.YtifkcoappflenagGreatDoor

/- layer: apart, within, Check, swap, fresh, Turn, Between: what they tell. -/
namespace Go.Proofs.YtifkcoappflenagGreatDoor
open Go Go.RowKit Go.Proofs
set_option synthInstance.maxSize 1000

attribute [local go_sem] eql_errV neq_errV guard_errV

/-- a store where a slice lay leaves the rows of triples -/
theorem SlT.put {W : World} {ad : Option Addr} {l : List Tr} (h : SlT W ad l) {p : Addr} {a : Option Addr} {n c : Nat} (hp : W.cell? p = some (.slice a n c)) (v : Value) : SlT (W.setCell p v) ad l := fun hl => by
  obtain ⟨b, o, rfl, hr⟩ := h hl
  refine ⟨b, o, rfl, fun j u hu => ?_⟩
  have hc := hr j u hu
  have hne : p ≠ ⟨b, o + j, none⟩ := by
    rintro rfl
    rw [hp] at hc
    obtain rfl := Option.some.inj hc
    have hm := List.mem_of_getElem? hu
    unfold cellsT at hm
    obtain ⟨x, _, hx⟩ := List.mem_flatMap.1 hm
    simp [encTr] at hx
  rw [World.cell?_setCell_other W p _ v hne]
  exact hc
theorem SlT.put2 {W : World} {ad : Option Addr} {l : List Tr} (h : SlT W ad l) {b : Nat} {a a' : Option Addr} {n c n' c' : Nat} (hp : W.cell? ⟨b, 0, none⟩ = some (.slice a n c)) (hq : W.cell? ⟨b, 1, none⟩ = some (.slice a' n' c')) (u v : Value) : SlT ((W.setCell ⟨b, 0, none⟩ u).setCell ⟨b, 1, none⟩ v) ad l :=
  SlT.put (h.put hp u) (by rw [World.cell?_setCell_other W _ _ u (by simp)]; exact hq) v
theorem below_two {B b : Nat} {w W : World} (h : RowKit.Below B w W) (hb : B ≤ b) (v0 v1 : Value) : RowKit.Below B w ((W.setCell ⟨b, 0, none⟩ v0).setCell ⟨b, 1, none⟩ v1) :=
  (h.setCell (p := ⟨b, 0, none⟩) hb v0).setCell (p := ⟨b, 1, none⟩) hb v1

theorem twobox {w W : World} {T : TypeId} {a0 a1 : Value} (hb : RowKit.Below (w.alloc (.cells #[a0, a1] T)).heap.size (w.alloc (.cells #[a0, a1] T)) W) :
    W.cell? ⟨w.heap.size, 0, none⟩ = some a0 ∧ W.cell? ⟨w.heap.size, 1, none⟩ = some a1 ∧ w.heap.size < W.heap.size ∧ W.frozen? ⟨w.heap.size, 0, none⟩ = false ∧ W.frozen? ⟨w.heap.size, 1, none⟩ = false := by
  obtain ⟨h, h'⟩ := bcell hb
  have hs := hb.size
  refine ⟨?_, ?_, by simp at hs; omega, ?_, ?_⟩
  · rw [h] <;> first | go_simp | (simp <;> omega)
  · rw [h] <;> first | go_simp | (simp <;> omega)
  · rw [h'] <;> first | go_simp | (simp <;> omega)
  · rw [h'] <;> first | go_simp | (simp <;> omega)



end Go.Proofs.YtifkcoappflenagGreatDoor

/- layer: Between, after, follows, Then, Apply: what they tell. -/
namespace Go.Proofs.YtifkcoappflenagGreatDoor
open Go Go.RowKit Go.Proofs
set_option synthInstance.maxSize 1000

attribute [local go_sem] eql_errV neq_errV guard_errV

set_option maxHeartbeats 4000000 in
set_option maxRecDepth 100000 in
theorem LBetween_any (ad bd : Option Addr) (ca cb : Nat) (a b : List Tr) (w : World) (ha : SlT w ad a) (hb : SlT w bd b) (fa : ∀ x ∈ a, fitTr x) (fb : ∀ x ∈ b, fitTr x) (na : a.length ≤ 9223372036854775807) (nb : b.length ≤ 9223372036854775807) :
    Calls Tryz.prog 27 #[.slice ad a.length ca, .slice bd b.length cb] w (LAns (bothN a b) (BtwAns a b) w) := by
  have H1 := fun W h1 h2 => Less_any ad bd ca cb a b W h1 h2 fa fb na nb
  have H2 := fun W h1 h2 => Less_any bd ad cb ca b a W h1 h2 fb fa nb na
  have Ha : Hid (SlT w ad a) := ha
  have Hb : Hid (SlT w bd b) := hb
  have f0 : Hid (¬ bothN a b = 0 → BtwAns a b [] []) := fun h0 => ⟨fun h => absurd h h0, fun _ => ⟨rfl, rfl⟩⟩
  have f1 : Hid (bothN a b = 0 → bothN b a = 0 ∧ ∀ m m', LessAns a b m → LessAns b a m' → BtwAns a b m' m) := fun h0 => by
    refine ⟨bothN_comm0 h0, fun m m' h1 h2 => ⟨fun _ => ?_, fun h => absurd h0 h⟩⟩
    unfold LessAns at h1 h2
    rw [if_pos h0] at h1
    rw [if_pos (bothN_comm0 h0)] at h2
    exact ⟨h2, h1⟩
  generalize BtwAns a b = TA at *
  generalize LessAns a b = LA at *
  generalize LessAns b a = LB at *
  generalize bothN a b = n at *
  generalize bothN b a = n' at *
  clear ha hb fa fb na nb
  go_enter Tryz.func27, Tryz.ntmps27
  go_wp2_with fail
  refine (H1 _ (Ha.out.below (balloc _ _)) (Hb.out.below (balloc _ _))).mono ?_
  rintro e w1 ⟨hb1, m, am, cm, rfl, hm, hLA⟩
  have hB1 := bstep (balloc _ _) hb1
  obtain ⟨y0, y1, hz2, y2, y3⟩ := twobox hb1
  have Hm : Hid (SlT w1 am m ∧ LA m) := ⟨hm, hLA⟩
  clear hm hLA H1
  cases hn : (n == 0)
  · have h0 : ¬ n = 0 := by simpa using hn
    have F0 : Hid _ := f0.out h0
    clear h0 f0 f1 H2
    go_wp2_with fail
    exact bodyPost_ret (v := .tuple #[.agg #[.slice none 0 0, .slice none 0 0], errV n]) (by unfold results; rw [Tryz.results27]; go_simp) rfl (LAns.mk (below_two hB1 (Nat.le_refl _) _ _) [] none 0 [] none 0 (slT_nil _ _) (slT_nil _ _) F0.out)
  · have h0 : n = 0 := by simpa using hn
    obtain ⟨hn', F1⟩ := f1.out h0
    have F2 : Hid _ := F1
    subst h0
    subst hn'
    rw [show errV 0 = .nilIface from rfl]
    clear hn f0 f1 F1
    go_wp2_with fail
    refine (H2 _ (Hb.out.below hB1) (Ha.out.below hB1)).mono ?_
    rintro e w2 ⟨hb2, q, aq, cq, rfl, hq, hLB⟩
    rw [show errV 0 = .nilIface from rfl]
    have hB2 := bstep hB1 hb2
    have hBx := bstep hb1 hb2
    clear y0 y1 hz2 y2 y3
    obtain ⟨y0, y1, hz2, y2, y3⟩ := twobox hBx
    have Hq : Hid (SlT w2 am m ∧ SlT w2 aq q ∧ LB q ∧ LA m) := ⟨Hm.out.1.below hb2, hq, hLB, Hm.out.2⟩
    clear hq hLB Hm hb1 hb2 H2
    go_wp2_with fail
    exact bodyPost_ret (v := .tuple #[.agg #[.slice aq q.length cq, .slice am m.length cm], .nilIface]) (by unfold results; rw [Tryz.results27]; go_simp) rfl (LAns.mk (n := 0) (below_two hB2 (Nat.le_refl _) _ _) q aq cq m am cm (Hq.out.2.1.put2 y0 y1 _ _) (Hq.out.1.put2 y0 y1 _ _) (F2.out m q Hq.out.2.2.2 Hq.out.2.2.1))
end Go.Proofs.YtifkcoappflenagGreatDoor
