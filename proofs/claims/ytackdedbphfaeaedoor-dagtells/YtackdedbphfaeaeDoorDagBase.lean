/- Bases in plain words: of those that two have, the ones that no other one of them comes of. -/
import Derived.Test.YtackdedbphfaeaeDoorDagUp
namespace Go.Proofs.YtackdedbphfaeaeDoor
open Go Go.RowKit Go.Proofs
set_option synthInstance.maxSize 1000

def isBase (l : List Cm) (a b z : Nat) : Prop := Up l a z ∧ Up l b z ∧ ∀ c, Up l a c → Up l b c → c ≠ z → ¬ Up l c z
def bothN (x y : List Nat) : List Nat := x.filter fun k => decide (k ∈ y)
theorem both_next {x y : List Nat} {k : Nat} (hk : k < x.length) : bothN (x.take (k + 1)) y = bothN (x.take k) y ++ if x[k] ∈ y then [x[k]] else [] := by
  unfold bothN
  rw [List.take_succ_eq_append_getElem hk, List.filter_append, List.filter_cons]
  simp
theorem both_rise {x y : List Nat} (h : RiseN x) : RiseN (bothN x y) := List.Pairwise.filter _ h
theorem both_len (x y : List Nat) : (bothN x y).length ≤ x.length := List.length_filter_le _ _
/-- below: another one of the list comes of number q of it -/
def belowP (l : List Cm) (t : List Nat) (q m : Nat) : Prop := ∃ r, r < m ∧ r ≠ q ∧ Up l (t.getD r 0) (t.getD q 0)
theorem below_next {l : List Cm} {t : List Nat} {q m : Nat} : belowP l t q (m + 1) ↔ belowP l t q m ∨ (m ≠ q ∧ Up l (t.getD m 0) (t.getD q 0)) := by
  constructor
  · rintro ⟨r, h1, h2, h3⟩
    rcases (by omega : r < m ∨ r = m) with h | rfl
    · exact Or.inl ⟨r, h, h2, h3⟩
    · exact Or.inr ⟨h2, h3⟩
  · rintro (⟨r, h1, h2, h3⟩ | ⟨h2, h3⟩)
    · exact ⟨r, by omega, h2, h3⟩
    · exact ⟨m, by omega, h2, h3⟩
/-- what is told as far as i -/
def OutsTo (l : List Cm) (t : List Nat) (i : Nat) (m : List Nat) : Prop := RiseN m ∧ m.length ≤ i ∧ ∀ z, z ∈ m ↔ ∃ q, q < i ∧ q < t.length ∧ z = t.getD q 0 ∧ ¬ belowP l t q t.length
theorem OutsTo.nil (l : List Cm) (t : List Nat) : OutsTo l t 0 [] := ⟨List.Pairwise.nil, by simp, fun z => ⟨fun h => by simp at h, fun ⟨q, h, _⟩ => by omega⟩⟩
theorem rise_get {t : List Nat} (h : RiseN t) {p q : Nat} (hpq : p < q) (hq : q < t.length) : t.getD p 0 < t.getD q 0 := by
  rw [List.getD_eq_getElem?_getD, List.getD_eq_getElem?_getD, List.getElem?_eq_getElem hq, List.getElem?_eq_getElem (show p < t.length by omega)]
  exact List.pairwise_iff_getElem.1 h p q (by omega) hq hpq
theorem OutsTo.skip {l : List Cm} {t : List Nat} {i : Nat} {m : List Nat} (h : OutsTo l t i m) (hb : belowP l t i t.length) : OutsTo l t (i + 1) m := by
  refine ⟨h.1, by have := h.2.1; omega, fun z => ?_⟩
  rw [h.2.2 z]
  constructor
  · rintro ⟨q, h1, h2⟩; exact ⟨q, by omega, h2⟩
  · rintro ⟨q, h1, h2, h3, h4⟩
    rcases (by omega : q < i ∨ q = i) with h5 | rfl
    · exact ⟨q, h5, h2, h3, h4⟩
    · exact absurd hb h4
theorem OutsTo.more {l : List Cm} {t : List Nat} {i : Nat} {m : List Nat} (h : OutsTo l t i m) (ht : RiseN t) (hi : i < t.length) (hb : ¬ belowP l t i t.length) : OutsTo l t (i + 1) (m ++ [t.getD i 0]) := by
  refine ⟨List.pairwise_append.2 ⟨h.1, List.pairwise_singleton _ _, fun x hx y hy => ?_⟩, by have := h.2.1; simp; omega, fun z => ?_⟩
  · rw [List.mem_singleton.1 hy]
    obtain ⟨q, h1, _, rfl, _⟩ := (h.2.2 x).1 hx
    exact rise_get ht h1 hi
  · rw [List.mem_append, h.2.2 z, List.mem_singleton]
    constructor
    · rintro (⟨q, h1, h2⟩ | rfl)
      · exact ⟨q, by omega, h2⟩
      · exact ⟨i, by omega, hi, rfl, hb⟩
    · rintro ⟨q, h1, h2, h3, h4⟩
      rcases (by omega : q < i ∨ q = i) with h5 | rfl
      · exact Or.inl ⟨q, h5, h2, h3, h4⟩
      · exact Or.inr h3
theorem outs_base {l : List Cm} {a b : Nat} {x y m : List Nat} (hx : RiseN x) (ux : ∀ k, k ∈ x ↔ Up l a k) (uy : ∀ k, k ∈ y ↔ Up l b k) (h : OutsTo l (bothN x y) (bothN x y).length m) : ∀ z, z ∈ m ↔ isBase l a b z := by
  have hm : ∀ z, z ∈ bothN x y ↔ Up l a z ∧ Up l b z := fun z => by
    unfold bothN
    rw [List.mem_filter, ux, decide_eq_true_eq, uy]
  have ht := both_rise (y := y) hx
  have hmem : ∀ q, q < (bothN x y).length → (bothN x y).getD q 0 ∈ bothN x y := fun q hq => by
    rw [List.getD_eq_getElem?_getD, List.getElem?_eq_getElem hq]
    exact List.getElem_mem hq
  have hidx : ∀ z ∈ bothN x y, ∃ q, q < (bothN x y).length ∧ (bothN x y).getD q 0 = z := fun z hz => by
    obtain ⟨q, hq, e⟩ := List.getElem_of_mem hz
    exact ⟨q, hq, by rw [List.getD_eq_getElem?_getD, List.getElem?_eq_getElem hq]; exact e⟩
  intro z
  rw [h.2.2 z]
  constructor
  · rintro ⟨q, _, hq, rfl, hb⟩
    obtain ⟨h1, h2⟩ := (hm _).1 (hmem q hq)
    refine ⟨h1, h2, fun c hca hcb hne hu => hb ?_⟩
    obtain ⟨r, hr, rfl⟩ := hidx c ((hm c).2 ⟨hca, hcb⟩)
    exact ⟨r, hr, fun e => hne (by rw [e]), hu⟩
  · rintro ⟨h1, h2, h3⟩
    obtain ⟨q, hq, rfl⟩ := hidx z ((hm z).2 ⟨h1, h2⟩)
    refine ⟨q, hq, hq, rfl, ?_⟩
    rintro ⟨r, hr, hne, hu⟩
    obtain ⟨h4, h5⟩ := (hm _).1 (hmem r hr)
    refine h3 _ h4 h5 (fun e => ?_) hu
    rcases (by omega : r < q ∨ q < r) with h6 | h6
    · have := rise_get ht h6 hq; omega
    · have := rise_get ht h6 hr; omega
end Go.Proofs.YtackdedbphfaeaeDoor
