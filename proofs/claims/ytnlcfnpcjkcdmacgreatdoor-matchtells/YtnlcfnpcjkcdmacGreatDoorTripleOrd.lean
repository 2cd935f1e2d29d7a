/- Which of two triples is ahead: an order; sets of triples. -/
import Derived.Test.YtnlcfnpcjkcdmacGreatDoorTripleCompact
import Derived.Sort.Statements
import Derived.Shelf.SlSortCmp.Insertion
namespace Go.Proofs.YtnlcfnpcjkcdmacGreatDoor
open Go Go.RowKit Go.Proofs Go.Sort Go.Lib
set_option synthInstance.maxSize 1000

theorem orI_zero (a b c : Int) : orI a b c = 0 ↔ a = 0 ∧ b = 0 ∧ c = 0 := by
  unfold orI
  by_cases h1 : a = 0 <;> by_cases h2 : b = 0 <;> simp [h1, h2]
theorem cmpTm_zero (x y : Tm) : cmpTm x y = 0 ↔ x = y := by
  obtain ⟨k, s, l⟩ := x
  obtain ⟨k', s', l'⟩ := y
  simp [cmpTm, cmpT_zero]
theorem cmpTm_neg (x y : Tm) : cmpTm x y = - cmpTm y x := cmpT_neg _ _ _ _ _ _
theorem cmpTm_trans (x y z : Tm) (h1 : cmpTm x y ≤ 0) (h2 : cmpTm y z ≤ 0) : cmpTm x z ≤ 0 := cmpT_trans _ _ _ _ _ _ _ _ _ h1 h2
theorem cmpTr_zero (x y : Tr) : cmpTr x y = 0 ↔ x = y := by
  obtain ⟨a, b, c⟩ := x
  obtain ⟨a', b', c'⟩ := y
  simp [cmpTr, orI_zero, cmpTm_zero]
theorem cmpTr_neg (x y : Tr) : cmpTr x y = - cmpTr y x := by
  have h1 := cmpTm_neg x.1 y.1
  have h2 := cmpTm_neg x.2.1 y.2.1
  have h3 := cmpTm_neg x.2.2 y.2.2
  unfold cmpTr orI
  repeat' split
  all_goals omega
theorem lex_trans {a1 b1 c1 a2 b2 c2 a3 b3 c3 : Tm} (h1 : orI (cmpTm a1 a2) (cmpTm b1 b2) (cmpTm c1 c2) ≤ 0) (h2 : orI (cmpTm a2 a3) (cmpTm b2 b3) (cmpTm c2 c3) ≤ 0) : orI (cmpTm a1 a3) (cmpTm b1 b3) (cmpTm c1 c3) ≤ 0 := by
  have step : ∀ x y z : Tm, cmpTm x y ≤ 0 → cmpTm y z ≤ 0 → cmpTm x z = 0 → cmpTm x y = 0 ∧ cmpTm y z = 0 := fun x y z p q r => by
    have e := (cmpTm_zero x z).1 r
    subst e
    have := cmpTm_neg x y
    omega
  have ta := cmpTm_trans a1 a2 a3
  have tb := cmpTm_trans b1 b2 b3
  have tc := cmpTm_trans c1 c2 c3
  have sa := step a1 a2 a3
  have sb := step b1 b2 b3
  unfold orI at *
  repeat' split at *
  all_goals omega
theorem cmpTr_trans (x y z : Tr) (h1 : cmpTr x y ≤ 0) (h2 : cmpTr y z ≤ 0) : cmpTr x z ≤ 0 := lex_trans h1 h2

theorem swoTr : SWO (ltOf cmpTr) where
  irrefl x := by simp [ltOf, (cmpTr_zero x x).2 rfl]
  trans x y z h1 h2 := by
    simp only [ltOf, decide_eq_true_eq] at *
    have h := cmpTr_trans x y z (by omega) (by omega)
    by_cases e : cmpTr x z = 0
    · have := (cmpTr_zero x z).1 e
      subst this
      have := cmpTr_neg x y
      omega
    · omega
  ntrans x y z h1 h2 := by
    simp only [ltOf, decide_eq_false_iff_not] at *
    have a := cmpTr_neg x y
    have b := cmpTr_neg y z
    have c := cmpTr_neg x z
    have := cmpTr_trans z y x (by omega) (by omega)
    omega

/-- a set: each above the one ahead -/
def Rising (m : List Tr) : Prop := m.Pairwise fun x y => cmpTr x y < 0

theorem rising_unique : ∀ (m n : List Tr), Rising m → Rising n → (∀ x, x ∈ m ↔ x ∈ n) → m = n
  | [], [], _, _, _ => rfl
  | [], y :: n, _, _, h => by have := (h y).2 (by simp); simp at this
  | x :: m, [], _, _, h => by have := (h x).1 (by simp); simp at this
  | x :: m, y :: n, hm, hn, h => by
    have hm' := List.pairwise_cons.1 hm
    have hn' := List.pairwise_cons.1 hn
    have irr : ∀ z : Tr, ¬ cmpTr z z < 0 := fun z => by rw [(cmpTr_zero z z).2 rfl]; omega
    have exy : x = y := by
      rcases List.mem_cons.1 ((h x).1 (by simp)) with e | hx
      · exact e
      · rcases List.mem_cons.1 ((h y).2 (by simp)) with e | hy
        · exact e.symm
        · have a := hm'.1 y hy
          have b := hn'.1 x hx
          have := cmpTr_neg x y
          omega
    subst exy
    congr 1
    refine rising_unique m n hm'.2 hn'.2 fun z => ?_
    constructor
    · intro hz
      rcases List.mem_cons.1 ((h z).1 (by simp [hz])) with e | h'
      · subst e; exact absurd (hm'.1 z hz) (irr z)
      · exact h'
    · intro hz
      rcases List.mem_cons.1 ((h z).2 (by simp [hz])) with e | h'
      · subst e; exact absurd (hn'.1 z hz) (irr z)
      · exact h'

/-- what Compact keeps of a sorted row is a set, of the same triples -/
theorem comp_rising (d : Array Tr) (hs : SortedIn (ltOf cmpTr) 0 d.size d) : Rising (compactUpTo d d.size) := by
  unfold Rising compactUpTo
  rw [List.pairwise_map]
  have hr : (List.range d.size).Pairwise fun i j => i < j ∧ j < d.size := by
    rw [List.pairwise_iff_getElem]
    intro i j hi hj hij
    simp at hi hj ⊢
    omega
  refine List.Pairwise.imp_of_mem ?_ (hr.filter (keeps d))
  intro i j hi hj hij
  have hk : keeps d j = true := (List.mem_filter.1 hj).2
  have h1 : d[j]! ≠ d[j - 1]! := by
    simp only [keeps, decide_eq_true_eq] at hk
    rcases hk with h | h
    · omega
    · exact h
  have le : ∀ p q, p < q → q < d.size → cmpTr d[p]! d[q]! ≤ 0 := fun p q h1 h2 => by
    have := hs p q (by omega) h1 h2
    simp only [ltOf, decide_eq_false_iff_not] at this
    have := cmpTr_neg d[p]! d[q]!
    omega
  have a := le i j hij.1 hij.2
  by_cases e : cmpTr d[i]! d[j]! = 0
  · exfalso
    have e' := (cmpTr_zero _ _).1 e
    have b := le (j - 1) j (by omega) hij.2
    have c : cmpTr d[i]! d[j - 1]! ≤ 0 := by
      by_cases q : i = j - 1
      · rw [q, (cmpTr_zero _ _).2 rfl]; omega
      · exact le i (j - 1) (by omega) (by omega)
    rw [e'] at c
    have := cmpTr_neg d[j]! d[j - 1]!
    exact h1 ((cmpTr_zero _ _).1 (by omega))
  · omega
theorem comp_mem (d : Array Tr) (x : Tr) : x ∈ compactUpTo d d.size ↔ x ∈ d.toList := by
  constructor
  · intro h
    simp only [compactUpTo, List.mem_map, List.mem_filter, List.mem_range] at h
    obtain ⟨j, ⟨hj, _⟩, rfl⟩ := h
    rw [getElem!_pos d j hj]
    simp
  · intro h
    obtain ⟨j, hj, rfl⟩ := List.getElem_of_mem h
    have key : ∀ j, j < d.size → d[j]! ∈ compactUpTo d d.size := by
      intro j
      induction j with
      | zero => intro hj; simp only [compactUpTo, List.mem_map, List.mem_filter, List.mem_range]; exact ⟨0, ⟨hj, by simp [keeps]⟩, rfl⟩
      | succ n ih =>
        intro hj
        by_cases e : d[n + 1]! = d[n]!
        · rw [e]; exact ih (by omega)
        · simp only [compactUpTo, List.mem_map, List.mem_filter, List.mem_range]
          exact ⟨n + 1, ⟨hj, by simp [keeps, e]⟩, rfl⟩
    have hj' : j < d.size := by simpa using hj
    have := key j hj'
    rw [getElem!_pos d j hj'] at this
    simpa using this
theorem comp_len (d : Array Tr) : (compactUpTo d d.size).length ≤ d.size := by
  unfold compactUpTo
  rw [List.length_map]
  exact Nat.le_trans (List.length_filter_le _ _) (by simp)
end Go.Proofs.YtnlcfnpcjkcdmacGreatDoor
