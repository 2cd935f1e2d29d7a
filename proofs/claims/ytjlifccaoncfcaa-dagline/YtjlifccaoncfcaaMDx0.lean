/- Commits that are an argument: opened. -/
import Derived.Test.YtjlifccaoncfcaaMA0x0
import Derived.Deep.Matrix
import Derived.Deep.Strs
import Derived.Deep.Slices
import Derived.Carry
import Derived.ProofKit
import Derived.OpenShut
import Derived.ShutString
import Derived.SizedLaws
import Derived.WideShapes
import Derived.ChangeSlices
import Derived.Lib.SmallJoins

namespace Go.Proofs.Ytjlifccaoncfcaa
open Go Go.ChangeShapes Go.WideShapes Go.ChangeAt Go.RowKit Go.Joins Go.Deep
set_option synthInstance.maxSize 1000

theorem own : ownKnob Try.prog.godebug = none := by kernel_rfl
theorem cellsIntC : Try.prog.cellsOf 3 = 1 := by kernel_rfl
theorem cellsStrC : Try.prog.cellsOf 9 = 1 := by kernel_rfl
theorem cellsIntsC : Try.prog.cellsOf 23 = 1 := by kernel_rfl
theorem cellsCom : Try.prog.cellsOf 25 = 3 := by kernel_rfl

set_option maxRecDepth 100000 in
theorem down_ints {H : Type} {enc : TypeId × Value → H} {W : World} {base n : Nat} {spare : Nat → Bool} {held : Bool} {cs : List Value} {y : DataW H × List MemPlace}
    (hf : DataW.trod enc Try.prog W base spare held n 23 cs = some y) :
    ∃ (ad : Option Addr) (cap : Nat) (l : List Int), cs = [.slice ad l.length cap] ∧ SlI W ad l ∧ l.length ≤ maxLen ∧ l.length ≤ cap := by
  rcases Go.ChangeShapes.open_ints Try.underlying23 Try.underlying3 cellsIntC hf with ⟨hcs, _⟩ | ⟨a', len, cap, zs, hcs, _, hl, hm, hzl, _, hx, _⟩
  · exact ⟨none, 0, [], hcs, fun h => absurd rfl h, by simp, by simp⟩
  · have hle : len ≤ zs.length := by rw [hzl]; split <;> omega
    have hlen : (zs.take len).length = len := by rw [List.length_take]; omega
    refine ⟨some a', cap, zs.take len, by rw [hlen]; exact hcs, fun hne => ?_, by rw [hlen]; omega, by rw [hlen]; exact hl⟩
    have hpos : 0 < len := by rw [← hlen]; exact List.length_pos_iff.2 hne
    have hc := hx 0 (by omega)
    obtain ⟨b, o, s⟩ := a'
    cases s with
    | some s =>
      exfalso
      unfold World.cell? Addr.add at hc
      revert hc
      split <;> simp
    | none =>
      refine ⟨b, o, rfl, fun j hj => ?_⟩
      rw [hlen] at hj
      have h1 := hx j (by omega)
      rw [Addr.add_lit] at h1
      rw [h1, List.getElem_take, List.getD_eq_getElem?_getD, List.getElem?_eq_getElem (by omega)]
      rfl

set_option maxRecDepth 100000 in
theorem down_com {H : Type} {enc : TypeId × Value → H} {W : World} {base n : Nat} {spare : Nat → Bool} {held : Bool} {cs : List Value} {y : DataW H × List MemPlace}
    (h : DataW.trod enc Try.prog W base spare held n 25 cs = some y) :
    ∃ x : Cm × Option Addr × Nat, cs = [.slice x.2.1 x.1.1.length x.2.2, .int .i64 x.1.2.1, .string ⟨x.1.2.2.toArray⟩] ∧ SlI W x.2.1 x.1.1 ∧ x.1.1.length ≤ maxLen ∧ x.1.1.length ≤ x.2.2 ∧ x.1.2.2.length ≤ maxLen := by
  obtain ⟨y0, y1, y2, m, _, hl, h0, h1, h2⟩ := trod_struct3 Try.underlying25 h
  rw [cellsCom] at hl
  match cs, hl with
  | [c0, c1, c2], _ =>
    simp only [cellsIntC, cellsIntsC, cellsStrC, List.drop_zero, List.drop_succ_cons, List.take_succ_cons, List.take_zero] at h0 h1 h2
    obtain ⟨ad, cap, l, e0, sl, ml, cl⟩ := down_ints h0
    obtain ⟨k, e1, _, wk⟩ := DataW.trod_int Try.underlying3 h1
    obtain ⟨s, e2, _, ws⟩ := DataW.trod_string Try.underlying9 h2
    simp at e0 e1 e2
    subst e0 e1 e2
    exact ⟨((l, k, s.data.toList), ad, cap), rfl, sl, ml, cl, by simpa using ws⟩

set_option maxRecDepth 100000 in
theorem open_coms {H : Type} {enc : TypeId × Value → H} {W : World} {base b0 : Nat} {spare : Nat → Bool} {held : Bool} {r : Reach} {v : Value} {d : DataW H} {p : List MemPlace}
    (hv : Value.okWide Try.prog W r b0 22 v) (h : DataW.Trod enc Try.prog W base spare held 22 v d p) :
    ∃ (ad : Option Addr) (cap : Nat) (l : List Cm), v = .slice ad l.length cap ∧ ComsOK W ad cap l := by
  obtain ⟨a, len, cap, rfl⟩ := okWide_slice Try.underlying22 hv
  obtain ⟨fuel, hf⟩ := h
  rcases open_slice Try.underlying22 hf with ⟨hcs, _⟩ | ⟨a', len', cap', m, n, D, Pl, hcs, _, hl, hm, hmm, _, hx⟩
  · simp [Value.cells] at hcs
    obtain ⟨rfl, rfl, rfl⟩ := hcs
    exact ⟨none, 0, [], rfl, fun h => absurd rfl h, by simp, by simp, by simp, by simp, fun b o e => by cases e⟩
  · simp [Value.cells] at hcs
    obtain ⟨rfl, rfl, rfl⟩ := hcs
    have hlm : len ≤ m := by rw [hmm]; split <;> omega
    have each : ∀ i, i < len → ∃ x : Cm × Option Addr × Nat, (SlI W x.2.1 x.1.1 ∧ x.1.1.length ≤ maxLen ∧ x.1.1.length ≤ x.2.2 ∧ x.1.2.2.length ≤ maxLen) ∧ W.cell? (a'.add (i * 3)) = some (.slice x.2.1 x.1.1.length x.2.2) ∧ W.cell? (a'.add (i * 3 + 1)) = some (.int .i64 x.1.2.1) ∧ W.cell? (a'.add (i * 3 + 2)) = some (.string ⟨x.1.2.2.toArray⟩) := by
      intro i hi
      obtain ⟨cs', h1, h2⟩ := hx i (by omega)
      rw [cellsCom] at h1
      obtain ⟨_, hlen, hcell⟩ := World.cells?_some h1
      obtain ⟨x, rfl, fx⟩ := down_com h2
      have q0 := hcell 0 (by omega)
      have q1 := hcell 1 (by omega)
      have q2 := hcell 2 (by omega)
      rw [add_add] at q0 q1 q2
      exact ⟨x, fx, q0, q1, q2⟩
    obtain ⟨q, hq⟩ := choose_lt each
    have hlen : ((List.range len).map fun i => (q i).1).length = len := by simp
    have hget : ∀ i (hi : i < ((List.range len).map fun i => (q i).1).length), ((List.range len).map fun i => (q i).1)[i] = (q i).1 := fun i hi => by simp
    refine ⟨some a', cap, (List.range len).map fun i => (q i).1, by rw [hlen], fun hne => ?_, by rw [hlen]; exact hl, by rw [hlen]; omega, fun c hc => ?_, fun c hc => ?_, fun b o e i hi a n c hc => ?_⟩
    · have hpos : 0 < len := by
        rcases Nat.eq_zero_or_pos len with h0 | h0
        · subst h0; simp at hne
        · exact h0
      have hc := (hq 0 hpos).2.1
      obtain ⟨b, o, s⟩ := a'
      cases s with
      | some s =>
        exfalso
        unfold World.cell? Addr.add at hc
        revert hc
        split <;> simp
      | none =>
        refine ⟨b, o, rfl, fun i hi => ?_⟩
        rw [hget i hi]
        have hi' := hi
        rw [hlen] at hi'
        obtain ⟨⟨s1, s2, s3, s4⟩, c0, c1, c2⟩ := hq i hi'
        rw [Addr.add_lit] at c0 c1 c2
        exact ⟨(q i).2.1, (q i).2.2, c0, c1, c2, s1⟩
    · obtain ⟨i, hi, rfl⟩ := List.mem_map.1 hc
      exact (hq i (List.mem_range.1 hi)).1.2.1
    · obtain ⟨i, hi, rfl⟩ := List.mem_map.1 hc
      exact (hq i (List.mem_range.1 hi)).1.2.2.2
    · cases e
      rw [hlen] at hi
      obtain ⟨⟨s1, s2, s3, s4⟩, c0, _⟩ := hq i hi
      rw [Addr.add_lit] at c0
      rw [c0] at hc
      simp only [Option.some.injEq, Value.slice.injEq] at hc
      obtain ⟨_, rfl, rfl⟩ := hc
      exact s3
end Go.Proofs.Ytjlifccaoncfcaa
