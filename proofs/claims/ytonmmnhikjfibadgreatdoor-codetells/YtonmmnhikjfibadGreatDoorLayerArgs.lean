/- A layer that is an argument: opened. -/
import Derived.Test.YtonmmnhikjfibadGreatDoorTripleArgs
namespace Go.Proofs.YtonmmnhikjfibadGreatDoor
open Go Go.ChangeShapes Go.WideShapes Go.ChangeAt Go.RowKit Go.Joins Go.Deep
set_option synthInstance.maxSize 1000

theorem cellsList : Tryz.prog.cellsOf 27 = 1 := by kernel_rfl
theorem cellsLayer : Tryz.prog.cellsOf 31 = 2 := by kernel_rfl

set_option maxRecDepth 100000 in
theorem down_list {H : Type} {enc : TypeId × Value → H} {W : World} {base n : Nat} {spare : Nat → Bool} {held : Bool} {cs : List Value} {y : DataW H × List MemPlace}
    (hf : DataW.trod enc Tryz.prog W base spare held n 27 cs = some y) :
    ∃ (ad : Option Addr) (cap : Nat) (l : List Tr), cs = [.slice ad l.length cap] ∧ SlT W ad l ∧ (∀ x ∈ l, fitTr x) ∧ l.length ≤ maxLen := by
  rcases open_slice Tryz.underlying27 hf with ⟨hcs, _⟩ | ⟨a', len, cap, m, n, D, Pl, hcs, _, hl, hm, hmm, _, hx⟩
  · exact ⟨none, 0, [], hcs, fun h => absurd rfl h, by simp, by simp⟩
  · have hlm : len ≤ m := by rw [hmm]; split <;> omega
    have each : ∀ i, i < len → ∃ x : Tr, fitTr x ∧ ∀ j v, (encTr x)[j]? = some v → W.cell? (a'.add (i * 9 + j)) = some v := by
      intro i hi
      obtain ⟨cs', h1, h2⟩ := hx i (by omega)
      rw [cellsTriple] at h1
      obtain ⟨_, hlen, hcell⟩ := World.cells?_some h1
      obtain ⟨x, rfl, fx⟩ := down_triple h2
      refine ⟨x, fx, fun j v hj => ?_⟩
      have hj9 : j < 9 := (List.getElem?_eq_some_iff.1 hj).1
      have := hcell j (by omega)
      rw [add_add] at this
      rw [this]
      exact hj
    obtain ⟨q, hq⟩ := choose_lt each
    have hlen : ((List.range len).map q).length = len := by simp
    refine ⟨some a', cap, (List.range len).map q, by rw [hlen]; exact hcs, fun hne => ?_, fun x hx => ?_, by rw [hlen]; omega⟩
    · have hpos : 0 < len := by
        rcases Nat.eq_zero_or_pos len with h0 | h0
        · subst h0; simp at hne
        · exact h0
      have hc := (hq 0 hpos).2 0 _ rfl
      obtain ⟨b, o, s⟩ := a'
      cases s with
      | some s =>
        exfalso
        unfold World.cell? Addr.add at hc
        revert hc
        split <;> simp
      | none =>
        refine ⟨b, o, rfl, fun j v hj => ?_⟩
        have hjl : j < len * 9 := by
          have := (List.getElem?_eq_some_iff.1 hj).1
          rwa [cellsT_len, hlen] at this
        have hi : j / 9 < len := by omega
        have h1 := cellsT_at ((List.range len).map q) (j / 9) (by rw [hlen]; exact hi) (j % 9) (by omega)
        rw [show j / 9 * 9 + j % 9 = j by omega, hj] at h1
        have h2 := (hq (j / 9) hi).2 (j % 9) v (by rw [h1]; simp)
        rw [show j / 9 * 9 + j % 9 = j by omega, Addr.add_lit] at h2
        exact h2
    · obtain ⟨i, hi, rfl⟩ := List.mem_map.1 hx
      exact (hq i (List.mem_range.1 hi)).1

set_option maxRecDepth 100000 in
theorem open_layer {H : Type} {enc : TypeId × Value → H} {W : World} {base b0 : Nat} {spare : Nat → Bool} {held : Bool} {r : Reach} {v : Value} {d : DataW H} {p : List MemPlace}
    (hv : Value.okWide Tryz.prog W r b0 31 v) (h : DataW.Trod enc Tryz.prog W base spare held 31 v d p) :
    ∃ (ad bd : Option Addr) (ca cb : Nat) (a b : List Tr), v = .agg #[.slice ad a.length ca, .slice bd b.length cb] ∧ SlT W ad a ∧ SlT W bd b ∧ (∀ x ∈ a, fitTr x) ∧ (∀ x ∈ b, fitTr x) ∧ a.length ≤ maxLen ∧ b.length ≤ maxLen := by
  obtain ⟨cs, rfl, _⟩ := okWide_struct Tryz.underlying31 hv
  obtain ⟨fuel, hf⟩ := h
  obtain ⟨y0, y1, m, _, hl, h0, h1⟩ := trod_struct2 Tryz.underlying31 hf
  rw [cellsLayer] at hl
  have e' : (Value.agg cs).cells.toList = cs.toList := rfl
  match hcs : (Value.agg cs).cells.toList, hl with
  | [c0, c1], _ =>
    rw [hcs] at h0 h1
    simp only [cellsList, List.drop_zero, List.drop_succ_cons, List.take_succ_cons, List.take_zero] at h0 h1
    obtain ⟨ad, ca, a, ea, ha, fa, la⟩ := down_list h0
    obtain ⟨bd, cb, b, eb, hb, fb, lb⟩ := down_list h1
    simp only [List.cons.injEq, and_true] at ea eb
    subst ea eb
    refine ⟨ad, bd, ca, cb, a, b, ?_, ha, hb, fa, fb, la, lb⟩
    rw [e'] at hcs
    show Value.agg cs = .agg [Value.slice ad a.length ca, Value.slice bd b.length cb].toArray
    rw [← hcs]
end Go.Proofs.YtonmmnhikjfibadGreatDoor
