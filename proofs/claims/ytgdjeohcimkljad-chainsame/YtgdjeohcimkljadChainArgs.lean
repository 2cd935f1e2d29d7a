/- A list of lists of triples that is an argument: opened. -/
import Derived.Test.YtgdjeohcimkljadLayerArgs
import Derived.Test.YtgdjeohcimkljadChainSame
namespace Go.Proofs.Ytgdjeohcimkljad
open Go Go.ChangeShapes Go.WideShapes Go.ChangeAt Go.RowKit Go.Joins Go.Deep
set_option synthInstance.maxSize 1000

set_option maxRecDepth 100000 in
theorem open_sets {H : Type} {enc : TypeId × Value → H} {W : World} {base b0 : Nat} {spare : Nat → Bool} {held : Bool} {r : Reach} {v : Value} {d : DataW H} {p : List MemPlace}
    (hv : Value.okWide Try.prog W r b0 34 v) (h : DataW.Trod enc Try.prog W base spare held 34 v d p) :
    ∃ (ad : Option Addr) (cap : Nat) (ss : List (List Tr)), v = .slice ad ss.length cap ∧ (ss ≠ [] → ∃ b o, ad = some ⟨b, o, none⟩ ∧ SetsAt W b o ss) ∧ (∀ s ∈ ss, (∀ x ∈ s, fitTr x) ∧ s.length ≤ maxLen) ∧ ss.length ≤ maxLen := by
  obtain ⟨a, len, cap, rfl⟩ := okWide_slice Try.underlying34 hv
  obtain ⟨fuel, hf⟩ := h
  rcases open_slice Try.underlying34 hf with ⟨hcs, _⟩ | ⟨a', len', cap', m, n, D, Pl, hcs, _, hl, hm, hmm, _, hx⟩
  · simp [Value.cells] at hcs
    obtain ⟨rfl, rfl, rfl⟩ := hcs
    exact ⟨none, 0, [], rfl, fun h => absurd rfl h, by simp, by simp⟩
  · simp [Value.cells] at hcs
    obtain ⟨rfl, rfl, rfl⟩ := hcs
    have hlm : len ≤ m := by rw [hmm]; split <;> omega
    have each : ∀ i, i < len → ∃ x : List Tr, ((∀ y ∈ x, fitTr y) ∧ x.length ≤ maxLen) ∧ ∃ ad c, W.cell? (a'.add i) = some (.slice ad x.length c) ∧ SlT W ad x := by
      intro i hi
      obtain ⟨cs', h1, h2⟩ := hx i (by omega)
      rw [cellsList] at h1
      obtain ⟨_, hlen, hcell⟩ := World.cells?_some h1
      obtain ⟨ad, c, x, rfl, hs, fx, lx⟩ := down_list h2
      refine ⟨x, ⟨fx, lx⟩, ad, c, ?_, hs⟩
      have := hcell 0 (by omega)
      rw [add_add, Nat.mul_one, Nat.add_zero] at this
      exact this
    obtain ⟨q, hq⟩ := choose_lt each
    have hlen : ((List.range len).map q).length = len := by simp
    refine ⟨some a', cap, (List.range len).map q, by rw [hlen], fun hne => ?_, fun x hx => ?_, by rw [hlen]; omega⟩
    · have hpos : 0 < len := by
        rcases Nat.eq_zero_or_pos len with h0 | h0
        · subst h0; simp at hne
        · exact h0
      obtain ⟨_, ad0, c0, hc, _⟩ := hq 0 hpos
      obtain ⟨b, o, s⟩ := a'
      cases s with
      | some s =>
        exfalso
        unfold World.cell? Addr.add at hc
        revert hc
        split <;> simp
      | none =>
        refine ⟨b, o, rfl, fun i hi => ?_⟩
        rw [hlen] at hi
        obtain ⟨_, ad, c, h1, h2⟩ := hq i hi
        have e : gat ((List.range len).map q) i = q i := by
          unfold gat
          rw [List.getD_eq_getElem?_getD, List.getElem?_map, List.getElem?_range hi]
          rfl
        rw [e]
        rw [Addr.add_lit] at h1
        exact ⟨ad, c, h1, h2⟩
    · obtain ⟨i, hi, rfl⟩ := List.mem_map.1 hx
      exact (hq i (List.mem_range.1 hi)).1
end Go.Proofs.Ytgdjeohcimkljad
