/- A pattern that is an argument: opened. -/
import Derived.Test.YtnlcfnpcjkcdmacGreatDoorTripleArgs
import Derived.Test.YtnlcfnpcjkcdmacGreatDoorMatchVars
namespace Go.Proofs.YtnlcfnpcjkcdmacGreatDoor
open Go Go.ChangeShapes Go.WideShapes Go.ChangeAt Go.RowKit Go.Joins Go.Deep
set_option synthInstance.maxSize 1000

theorem cellsSlot : Tryz.prog.cellsOf 26 = 4 := by kernel_rfl
theorem cellsPattern : Tryz.prog.cellsOf 28 = 12 := by kernel_rfl
def encSl (s : Sl) : List Value := [.string ⟨s.1.toArray⟩, .int .i64 s.2.1, .string ⟨s.2.2.1.toArray⟩, .string ⟨s.2.2.2.toArray⟩]

set_option maxRecDepth 100000 in
theorem down_slot {H : Type} {enc : TypeId × Value → H} {W : World} {base n : Nat} {spare : Nat → Bool} {held : Bool} {cs : List Value} {y : DataW H × List MemPlace}
    (h : DataW.trod enc Tryz.prog W base spare held n 26 cs = some y) : ∃ x : Sl, cs = encSl x ∧ fitSl x := by
  obtain ⟨y0, y1, m, _, hl, h0, h1⟩ := trod_struct2 Tryz.underlying26 h
  rw [cellsSlot] at hl
  match cs, hl with
  | [c0, c1, c2, c3], _ =>
    simp only [cellsStr, cellsTerm, List.drop_zero, List.drop_succ_cons, List.take_succ_cons, List.take_zero] at h0 h1
    obtain ⟨s, e0, _, ws⟩ := DataW.trod_string Tryz.underlying9 h0
    obtain ⟨a, ea, fa⟩ := down_term h1
    simp at e0
    subst e0
    simp only [encTm, List.cons.injEq, and_true] at ea
    obtain ⟨rfl, rfl, rfl⟩ := ea
    exact ⟨⟨s.data.toList, a⟩, rfl, by simpa using ws, fa.1, fa.2⟩

set_option maxRecDepth 100000 in
theorem down_pattern {H : Type} {enc : TypeId × Value → H} {W : World} {base n : Nat} {spare : Nat → Bool} {held : Bool} {cs : List Value} {y : DataW H × List MemPlace}
    (h : DataW.trod enc Tryz.prog W base spare held n 28 cs = some y) : ∃ x : Pt, cs = encPt x ∧ fitPt x := by
  obtain ⟨y0, y1, y2, m, _, hl, h0, h1, h2⟩ := trod_struct3 Tryz.underlying28 h
  rw [cellsPattern] at hl
  match cs, hl with
  | [c0, c1, c2, c3, c4, c5, c6, c7, c8, c9, c10, c11], _ =>
    simp only [cellsSlot, List.drop_zero, List.drop_succ_cons, List.take_succ_cons, List.take_zero] at h0 h1 h2
    obtain ⟨a, ea, fa⟩ := down_slot h0
    obtain ⟨b, eb, fb⟩ := down_slot h1
    obtain ⟨c, ec, fc⟩ := down_slot h2
    simp only [encSl, List.cons.injEq, and_true] at ea eb ec
    obtain ⟨rfl, rfl, rfl, rfl⟩ := ea
    obtain ⟨rfl, rfl, rfl, rfl⟩ := eb
    obtain ⟨rfl, rfl, rfl, rfl⟩ := ec
    exact ⟨⟨a, b, c⟩, rfl, fa, fb, fc⟩

set_option maxRecDepth 100000 in
theorem open_pattern {H : Type} {enc : TypeId × Value → H} {W : World} {base b0 : Nat} {spare : Nat → Bool} {held : Bool} {r : Reach} {v : Value} {d : DataW H} {p : List MemPlace}
    (hv : Value.okWide Tryz.prog W r b0 28 v) (h : DataW.Trod enc Tryz.prog W base spare held 28 v d p) : ∃ x : Pt, v = valPt x ∧ fitPt x := by
  obtain ⟨cs, rfl, _⟩ := okWide_struct Tryz.underlying28 hv
  obtain ⟨fuel, hf⟩ := h
  obtain ⟨x, e, f⟩ := down_pattern hf
  refine ⟨x, ?_, f⟩
  have e' : cs.toList = encPt x := e
  show Value.agg cs = .agg (encPt x).toArray
  rw [← e']
end Go.Proofs.YtnlcfnpcjkcdmacGreatDoor
