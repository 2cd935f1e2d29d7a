/- Sort of a list that is right, in one contract; what Sorted tells of what comes out; the like. -/
import Derived.Test.YtnlcfnpcjkcdmacGreatDoorTripleSame
namespace Go.Proofs.YtnlcfnpcjkcdmacGreatDoor
open Go Go.RowKit Go.Proofs Go.Sort
set_option synthInstance.maxSize 1000

theorem firstUpto_zero {f : Nat → Int} {n : Nat} : firstUpto f n = 0 ↔ ∀ i, i < n → f i = 0 := by
  induction n with
  | zero => simp [firstUpto]
  | succ m ih =>
    unfold firstUpto
    constructor
    · intro h i hi
      by_cases hz : firstUpto f m = 0
      · rw [if_pos hz] at h
        by_cases e : i = m
        · subst e; exact h
        · exact ih.1 hz i (by omega)
      · rw [if_neg hz] at h; exact absurd h hz
    · intro h
      rw [if_pos (ih.2 fun i hi => h i (by omega))]
      exact h m (by omega)
theorem faultN_zero {f : Nat → Int} {n : Nat} : faultN f n = 0 ↔ n ≤ 200 ∧ ∀ i, i < n → f i = 0 := by
  unfold faultN
  by_cases h : 200 < n
  · rw [if_pos h]; simp; omega
  · rw [if_neg h, firstUpto_zero]
    constructor
    · intro q; exact ⟨by omega, q⟩
    · intro q; exact q.2
theorem sortN_zero {l : List Tr} : sortN l = 0 ↔ l.length ≤ 200 ∧ ∀ x ∈ l, chkTr x = 0 := by
  unfold sortN
  rw [faultN_zero]
  constructor
  · rintro ⟨h1, h2⟩
    refine ⟨h1, fun x hx => ?_⟩
    obtain ⟨i, hi, rfl⟩ := List.getElem_of_mem hx
    have := h2 i hi
    rwa [chkAt_eq l i hi] at this
  · rintro ⟨h1, h2⟩
    refine ⟨h1, fun i hi => ?_⟩
    rw [chkAt_eq l i hi]
    exact h2 _ (List.getElem_mem hi)
theorem sortedN_zero {m : List Tr} (h1 : m.length ≤ 200) (h2 : ∀ x ∈ m, chkTr x = 0) (h3 : Rising m) : sortedN m = 0 := by
  unfold sortedN
  rw [faultN_zero]
  refine ⟨h1, fun i hi => ?_⟩
  unfold stepN
  rw [dif_pos hi, if_pos (h2 _ (List.getElem_mem hi))]
  by_cases h0 : 0 < i
  · rw [dif_pos h0, if_neg]
    have := List.pairwise_iff_getElem.1 h3 (i - 1) i (by omega) hi (by omega)
    omega
  · rw [dif_neg h0]
theorem fit_chk {x : Tr} (h : chkTr x = 0) : fitTr x := by
  obtain ⟨h1, h2, h3, _⟩ := chk_zero h
  have q : ∀ k S L, checkN k S L = 0 → S.length ≤ maxLen ∧ L.length ≤ maxLen := fun k S L hh => by
    obtain ⟨_, hS, hsp⟩ := check_zero hh
    have := spell_lang hsp
    unfold maxLen
    omega
  exact ⟨q _ _ _ h1, q _ _ _ h2, q _ _ _ h3⟩

theorem Sort_good (ad : Option Addr) (cap : Nat) (l : List Tr) (w : World) (h : SlT w ad l) (hgood : sortN l = 0) :
    Calls Tryz.prog 109 #[.slice ad l.length cap] w fun e w' => RowKit.Below w.heap.size w w' ∧ ∃ (m : List Tr) (ad' : Option Addr) (c : Nat), e = .returned (.tuple #[.slice ad' m.length c, .nilIface]) ∧ SlT w' ad' m ∧ Rising m ∧ (∀ x, x ∈ m ↔ x ∈ l) ∧ m.length ≤ l.length := by
  obtain ⟨h200, hall⟩ := sortN_zero.1 hgood
  cases l with
  | nil =>
    refine (Sort_none ad cap w).mono ?_
    rintro e w1 ⟨rfl, hb⟩
    exact ⟨hb, [], none, 0, rfl, fun h => absurd rfl h, List.Pairwise.nil, fun x => Iff.rfl, Nat.le_refl _⟩
  | cons x r =>
    obtain ⟨b, o, rfl, hr⟩ := h (by simp)
    refine (Sort_some b o cap (x :: r) w (by simp) hr (fun y hy => fit_chk (hall y hy)) h200 hgood).mono ?_
    rintro e w1 ⟨hb, m, b', c, rfl, h1, h2, h3, h4⟩
    exact ⟨hb, m, some ⟨b', 0, none⟩, c, rfl, fun _ => ⟨b', 0, rfl, h1⟩, h2, h3, h4⟩

end Go.Proofs.YtnlcfnpcjkcdmacGreatDoor
