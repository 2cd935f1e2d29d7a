import Derived.Test.YtcdbcoaiadipjaaGreatRows
import Derived.WalkKit
import Derived.ProofKit
import Derived.OpenShut
import Derived.ShutString
import Derived.SizedLaws
import Derived.Lib.SmallJoins
import Derived.Test.YtcdbcoaiadipjaaGreatMA0x1
import Derived.Deep.Slices
import Derived.Deep.Strs
import Derived.Carry
import Derived.Test.YtcdbcoaiadipjaaGreatMA0x2

/- A term that is an argument: opened, and read again. -/
namespace Go.Proofs.YtcdbcoaiadipjaaGreat
open Go Go.ChangeShapes Go.WideShapes Go.ChangeAt Go.RowKit Go.Joins
open Go.ChangeMaps (open_string shut_string)

theorem own : ownKnob Tryz.prog.godebug = none := by kernel_rfl
theorem cellsTerm : Tryz.prog.cellsOf 28 = 3 := by kernel_rfl

set_option maxRecDepth 100000 in
theorem open_term {H : Type} {enc : TypeId × Value → H} {W : World} {base b0 : Nat} {spare : Nat → Bool} {held : Bool} {r : Reach} {v : Value} {d : DataW H} {p : List MemPlace}
    (hv : Value.okWide Tryz.prog W r b0 28 v) (h : DataW.Trod enc Tryz.prog W base spare held 28 v d p) :
    ∃ (k : Int) (S L : List UInt8), v = .agg #[.int .i64 k, .string ⟨S.toArray⟩, .string ⟨L.toArray⟩] ∧ d = .agg [.lit (.int .i64 k), .lit (.string S), .lit (.string L)] ∧ p = [] ∧ (Lit.int .i64 k).wf = true ∧ S.length ≤ maxLen ∧ L.length ≤ maxLen := by
  obtain ⟨c0, c1, c2, y0, y1, y2, m, rfl, rfl, rfl, hy0, hy1, hy2⟩ := open_agg3 Tryz.underlying28 (by kernel_rfl) cellsTerm hv h
  obtain ⟨k, e0, rfl, wk⟩ := DataW.trod_int Tryz.underlying3 hy0
  obtain ⟨s, e1, rfl, ws⟩ := DataW.trod_string Tryz.underlying9 hy1
  obtain ⟨l, e2, rfl, wl⟩ := DataW.trod_string Tryz.underlying9 hy2
  simp at e0 e1 e2
  subst e0 e1 e2
  exact ⟨k, s.data.toList, l.data.toList, rfl, rfl, rfl, wk, by simpa using ws, by simpa using wl⟩

set_option maxRecDepth 100000 in
theorem read_term {H : Type} {enc : TypeId × Value → H} {k : Int} {S L : List UInt8} (wk : (Lit.int .i64 k).wf = true) (hS : S.length ≤ maxLen) (hL : L.length ≤ maxLen) (W' : World) (sp : Nat → Bool) :
    DataW.Trod enc Tryz.prog W' 0 sp true 28 (.agg #[.int .i64 k, .string ⟨S.toArray⟩, .string ⟨L.toArray⟩]) (.agg [.lit (.int .i64 k), .lit (.string S), .lit (.string L)]) [] :=
  shut_agg3 (y0 := (.lit (.int .i64 k), [])) (y1 := (.lit (.string S), [])) (y2 := (.lit (.string L), [])) Tryz.underlying28 (by kernel_rfl) cellsTerm
    ⟨1, by simp [DataW.trod, Tryz.underlying3, wk]⟩ ⟨1, by simp [DataW.trod, Tryz.underlying9]; exact hS⟩ ⟨1, by simp [DataW.trod, Tryz.underlying9]; exact hL⟩
end Go.Proofs.YtcdbcoaiadipjaaGreat

/- A triple, and a list of triples, that is an argument: opened. -/
namespace Go.Proofs.YtcdbcoaiadipjaaGreat
open Go Go.ChangeShapes Go.WideShapes Go.ChangeAt Go.RowKit Go.Joins Go.Deep
set_option synthInstance.maxSize 1000

theorem cellsTriple : Tryz.prog.cellsOf 30 = 9 := by kernel_rfl

def fitTm (x : Tm) : Prop := x.2.1.length ≤ maxLen ∧ x.2.2.length ≤ maxLen
def encTm (x : Tm) : List Value := [.int .i64 x.1, .string ⟨x.2.1.toArray⟩, .string ⟨x.2.2.toArray⟩]

theorem cellsInt : Tryz.prog.cellsOf 3 = 1 := by kernel_rfl
theorem cellsStr : Tryz.prog.cellsOf 9 = 1 := by kernel_rfl

set_option maxRecDepth 100000 in
theorem down_term {H : Type} {enc : TypeId × Value → H} {W : World} {base n : Nat} {spare : Nat → Bool} {held : Bool} {cs : List Value} {y : DataW H × List MemPlace}
    (h : DataW.trod enc Tryz.prog W base spare held n 28 cs = some y) : ∃ x : Tm, cs = encTm x ∧ fitTm x := by
  obtain ⟨y0, y1, y2, m, _, hl, h0, h1, h2⟩ := trod_struct3 Tryz.underlying28 h
  rw [cellsTerm] at hl
  match cs, hl with
  | [c0, c1, c2], _ =>
    simp only [cellsInt, cellsStr, List.drop_zero, List.drop_succ_cons, List.take_succ_cons, List.take_zero] at h0 h1 h2
    obtain ⟨k, e0, _, wk⟩ := DataW.trod_int Tryz.underlying3 h0
    obtain ⟨s, e1, _, ws⟩ := DataW.trod_string Tryz.underlying9 h1
    obtain ⟨l, e2, _, wl⟩ := DataW.trod_string Tryz.underlying9 h2
    simp at e0 e1 e2
    subst e0 e1 e2
    exact ⟨⟨k, s.data.toList, l.data.toList⟩, rfl, by simpa using ws, by simpa using wl⟩

set_option maxRecDepth 100000 in
theorem down_triple {H : Type} {enc : TypeId × Value → H} {W : World} {base n : Nat} {spare : Nat → Bool} {held : Bool} {cs : List Value} {y : DataW H × List MemPlace}
    (h : DataW.trod enc Tryz.prog W base spare held n 30 cs = some y) : ∃ x : Tr, cs = encTr x ∧ fitTr x := by
  obtain ⟨y0, y1, y2, m, _, hl, h0, h1, h2⟩ := trod_struct3 Tryz.underlying30 h
  rw [cellsTriple] at hl
  match cs, hl with
  | [c0, c1, c2, c3, c4, c5, c6, c7, c8], _ =>
    simp only [cellsTerm, List.drop_zero, List.drop_succ_cons, List.take_succ_cons, List.take_zero] at h0 h1 h2
    obtain ⟨a, ea, fa⟩ := down_term h0
    obtain ⟨b, eb, fb⟩ := down_term h1
    obtain ⟨c, ec, fc⟩ := down_term h2
    simp only [encTm, List.cons.injEq, and_true] at ea eb ec
    obtain ⟨rfl, rfl, rfl⟩ := ea
    obtain ⟨rfl, rfl, rfl⟩ := eb
    obtain ⟨rfl, rfl, rfl⟩ := ec
    exact ⟨⟨a, b, c⟩, rfl, fa, fb, fc⟩

set_option maxRecDepth 100000 in
theorem open_triple {H : Type} {enc : TypeId × Value → H} {W : World} {base b0 : Nat} {spare : Nat → Bool} {held : Bool} {r : Reach} {v : Value} {d : DataW H} {p : List MemPlace}
    (hv : Value.okWide Tryz.prog W r b0 30 v) (h : DataW.Trod enc Tryz.prog W base spare held 30 v d p) : ∃ x : Tr, v = valTr x ∧ fitTr x := by
  obtain ⟨cs, rfl, _⟩ := okWide_struct Tryz.underlying30 hv
  obtain ⟨fuel, hf⟩ := h
  obtain ⟨x, e, f⟩ := down_triple hf
  refine ⟨x, ?_, f⟩
  have e' : cs.toList = encTr x := e
  show Value.agg cs = .agg (encTr x).toArray
  rw [← e']

set_option maxRecDepth 100000 in
theorem open_list {H : Type} {enc : TypeId × Value → H} {W : World} {base b0 : Nat} {spare : Nat → Bool} {held : Bool} {r : Reach} {v : Value} {d : DataW H} {p : List MemPlace}
    (hv : Value.okWide Tryz.prog W r b0 22 v) (h : DataW.Trod enc Tryz.prog W base spare held 22 v d p) :
    ∃ (ad : Option Addr) (cap : Nat) (l : List Tr), v = .slice ad l.length cap ∧ SlT W ad l ∧ (∀ x ∈ l, fitTr x) ∧ l.length ≤ maxLen := by
  obtain ⟨a, len, cap, rfl⟩ := okWide_slice Tryz.underlying22 hv
  obtain ⟨fuel, hf⟩ := h
  rcases open_slice Tryz.underlying22 hf with ⟨hcs, _⟩ | ⟨a', len', cap', m, n, D, Pl, hcs, _, hl, hm, hmm, _, hx⟩
  · simp [Value.cells] at hcs
    obtain ⟨rfl, rfl, rfl⟩ := hcs
    exact ⟨none, 0, [], rfl, fun h => absurd rfl h, by simp, by simp⟩
  · simp [Value.cells] at hcs
    obtain ⟨rfl, rfl, rfl⟩ := hcs
    have hlm : len ≤ m := by rw [hmm]; split <;> omega
    have each : ∀ i, i < len → ∃ x : Tr, fitTr x ∧ ∀ j v, (encTr x)[j]? = some v → W.cell? (a'.add (i * 9 + j)) = some v := by
      intro i hi
      obtain ⟨cs', h1, h2⟩ := hx i (by omega)
      rw [cellsTriple] at h1
      obtain ⟨_, hlen, hcell⟩ := World.cells?_some h1
      obtain ⟨x, rfl, fx⟩ := down_triple h2
      refine ⟨x, fx, fun j v hj => ?_⟩
      have hj9 : j < 9 := (List.getElem?_eq_some_iff.1 hj).1
      have := hcell j (by omega)
      rw [add_add] at this
      rw [this]
      exact hj
    obtain ⟨q, hq⟩ := choose_lt each
    have hlen : ((List.range len).map q).length = len := by simp
    refine ⟨some a', cap, (List.range len).map q, by rw [hlen], fun hne => ?_, fun x hx => ?_, by rw [hlen]; omega⟩
    · have hpos : 0 < len := by
        rcases Nat.eq_zero_or_pos len with h0 | h0
        · subst h0; simp at hne
        · exact h0
      have hc := (hq 0 hpos).2 0 _ rfl
      obtain ⟨b, o, s⟩ := a'
      cases s with
      | some s =>
        exfalso
        unfold World.cell? Addr.add at hc
        revert hc
        split <;> simp
      | none =>
        refine ⟨b, o, rfl, fun j v hj => ?_⟩
        have hjl : j < len * 9 := by
          have := (List.getElem?_eq_some_iff.1 hj).1
          rwa [cellsT_len, hlen] at this
        have hi : j / 9 < len := by omega
        have h1 := cellsT_at ((List.range len).map q) (j / 9) (by rw [hlen]; exact hi) (j % 9) (by omega)
        rw [show j / 9 * 9 + j % 9 = j by omega, hj] at h1
        have h2 := (hq (j / 9) hi).2 (j % 9) v (by rw [h1]; simp)
        rw [show j / 9 * 9 + j % 9 = j by omega, Addr.add_lit] at h2
        exact h2
    · obtain ⟨i, hi, rfl⟩ := List.mem_map.1 hx
      exact (hq i (List.mem_range.1 hi)).1
end Go.Proofs.YtcdbcoaiadipjaaGreat

/- A pattern that is an argument: opened. -/
namespace Go.Proofs.YtcdbcoaiadipjaaGreat
open Go Go.ChangeShapes Go.WideShapes Go.ChangeAt Go.RowKit Go.Joins Go.Deep
set_option synthInstance.maxSize 1000

theorem cellsSlot : Tryz.prog.cellsOf 32 = 4 := by kernel_rfl
theorem cellsPattern : Tryz.prog.cellsOf 34 = 12 := by kernel_rfl
def encSl (s : Sl) : List Value := [.string ⟨s.1.toArray⟩, .int .i64 s.2.1, .string ⟨s.2.2.1.toArray⟩, .string ⟨s.2.2.2.toArray⟩]

set_option maxRecDepth 100000 in
theorem down_slot {H : Type} {enc : TypeId × Value → H} {W : World} {base n : Nat} {spare : Nat → Bool} {held : Bool} {cs : List Value} {y : DataW H × List MemPlace}
    (h : DataW.trod enc Tryz.prog W base spare held n 32 cs = some y) : ∃ x : Sl, cs = encSl x ∧ fitSl x := by
  obtain ⟨y0, y1, m, _, hl, h0, h1⟩ := trod_struct2 Tryz.underlying32 h
  rw [cellsSlot] at hl
  match cs, hl with
  | [c0, c1, c2, c3], _ =>
    simp only [cellsStr, cellsTerm, List.drop_zero, List.drop_succ_cons, List.take_succ_cons, List.take_zero] at h0 h1
    obtain ⟨s, e0, _, ws⟩ := DataW.trod_string Tryz.underlying9 h0
    obtain ⟨a, ea, fa⟩ := down_term h1
    simp at e0
    subst e0
    simp only [encTm, List.cons.injEq, and_true] at ea
    obtain ⟨rfl, rfl, rfl⟩ := ea
    exact ⟨⟨s.data.toList, a⟩, rfl, by simpa using ws, fa.1, fa.2⟩

set_option maxRecDepth 100000 in
theorem down_pattern {H : Type} {enc : TypeId × Value → H} {W : World} {base n : Nat} {spare : Nat → Bool} {held : Bool} {cs : List Value} {y : DataW H × List MemPlace}
    (h : DataW.trod enc Tryz.prog W base spare held n 34 cs = some y) : ∃ x : Pt, cs = encPt x ∧ fitPt x := by
  obtain ⟨y0, y1, y2, m, _, hl, h0, h1, h2⟩ := trod_struct3 Tryz.underlying34 h
  rw [cellsPattern] at hl
  match cs, hl with
  | [c0, c1, c2, c3, c4, c5, c6, c7, c8, c9, c10, c11], _ =>
    simp only [cellsSlot, List.drop_zero, List.drop_succ_cons, List.take_succ_cons, List.take_zero] at h0 h1 h2
    obtain ⟨a, ea, fa⟩ := down_slot h0
    obtain ⟨b, eb, fb⟩ := down_slot h1
    obtain ⟨c, ec, fc⟩ := down_slot h2
    simp only [encSl, List.cons.injEq, and_true] at ea eb ec
    obtain ⟨rfl, rfl, rfl, rfl⟩ := ea
    obtain ⟨rfl, rfl, rfl, rfl⟩ := eb
    obtain ⟨rfl, rfl, rfl, rfl⟩ := ec
    exact ⟨⟨a, b, c⟩, rfl, fa, fb, fc⟩

set_option maxRecDepth 100000 in
theorem open_pattern {H : Type} {enc : TypeId × Value → H} {W : World} {base b0 : Nat} {spare : Nat → Bool} {held : Bool} {r : Reach} {v : Value} {d : DataW H} {p : List MemPlace}
    (hv : Value.okWide Tryz.prog W r b0 34 v) (h : DataW.Trod enc Tryz.prog W base spare held 34 v d p) : ∃ x : Pt, v = valPt x ∧ fitPt x := by
  obtain ⟨cs, rfl, _⟩ := okWide_struct Tryz.underlying34 hv
  obtain ⟨fuel, hf⟩ := h
  obtain ⟨x, e, f⟩ := down_pattern hf
  refine ⟨x, ?_, f⟩
  have e' : cs.toList = encPt x := e
  show Value.agg cs = .agg (encPt x).toArray
  rw [← e']
end Go.Proofs.YtcdbcoaiadipjaaGreat
