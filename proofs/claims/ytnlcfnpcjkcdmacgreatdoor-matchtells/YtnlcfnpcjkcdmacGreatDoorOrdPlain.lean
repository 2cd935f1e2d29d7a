/- Places in an order: the theory. -/
import Derived.Test.YtnlcfnpcjkcdmacGreatDoorMatchOrd
import Derived.Sort.Statements
namespace Go.Proofs.YtnlcfnpcjkcdmacGreatDoor
open Go Go.RowKit Go.Proofs Go.Sort Go.Lib
set_option synthInstance.maxSize 1000

/-- these are the three parts, each once -/
def PermQ (q : Nat × Nat × Nat) : Prop := q = (0, 1, 2) ∨ q = (0, 2, 1) ∨ q = (1, 0, 2) ∨ q = (1, 2, 0) ∨ q = (2, 0, 1) ∨ q = (2, 1, 0)
theorem ord_perm {o : List UInt8} (h : (ordN o).isSome = true) : PermQ (ordV o) := by
  rcases ord_six h with rfl | rfl | rfl | rfl | rfl | rfl <;> simp [PermQ, ordV, ordN]
theorem PermQ.lt {q : Nat × Nat × Nat} (h : PermQ q) : q.1 < 3 ∧ q.2.1 < 3 ∧ q.2.2 < 3 := by
  rcases h with rfl | rfl | rfl | rfl | rfl | rfl <;> simp
theorem cmpO_neg (q : Nat × Nat × Nat) (x y : Tr) : cmpO q x y = - cmpO q y x := by
  have h1 := cmpTm_neg (termK x q.1) (termK y q.1)
  have h2 := cmpTm_neg (termK x q.2.1) (termK y q.2.1)
  have h3 := cmpTm_neg (termK x q.2.2) (termK y q.2.2)
  unfold cmpO orI
  repeat' split
  all_goals omega
theorem cmpO_trans (q : Nat × Nat × Nat) (x y z : Tr) (h1 : cmpO q x y ≤ 0) (h2 : cmpO q y z ≤ 0) : cmpO q x z ≤ 0 := lex_trans h1 h2
theorem cmpO_zero {q : Nat × Nat × Nat} (h : PermQ q) (x y : Tr) : cmpO q x y = 0 ↔ x = y := by
  obtain ⟨a, b, c⟩ := x
  obtain ⟨a', b', c'⟩ := y
  unfold cmpO
  rw [orI_zero, cmpTm_zero, cmpTm_zero, cmpTm_zero]
  rcases h with rfl | rfl | rfl | rfl | rfl | rfl <;> simp [termK] <;> grind

theorem cmpO_lt_trans {q : Nat × Nat × Nat} (h : PermQ q) {x y z : Tr} (h1 : cmpO q x y < 0) (h2 : cmpO q y z < 0) : cmpO q x z < 0 := by
  have h3 := cmpO_trans q x y z (by omega) (by omega)
  by_cases e : cmpO q x z = 0
  · have := (cmpO_zero h x z).1 e
    subst this
    have := cmpO_neg q x y
    omega
  · omega

/-- two lists in one strict order with the same members are one -/
theorem uniq {α : Type} (R : α → α → Prop) (irr : ∀ a, ¬ R a a) (asym : ∀ a b, R a b → ¬ R b a) : ∀ (l m : List α), l.Pairwise R → m.Pairwise R → (∀ x, x ∈ l ↔ x ∈ m) → l = m
  | [], m, _, _, h => by
    cases m with
    | nil => rfl
    | cons b r => exact absurd ((h b).2 List.mem_cons_self) (by simp)
  | a :: l', m, hl, hm, h => by
    cases m with
    | nil => exact absurd ((h a).1 List.mem_cons_self) (by simp)
    | cons b m' =>
      obtain ⟨ha, hl'⟩ := List.pairwise_cons.1 hl
      obtain ⟨hb, hm'⟩ := List.pairwise_cons.1 hm
      have e : a = b := by
        rcases List.mem_cons.1 ((h a).1 List.mem_cons_self) with e | e
        · exact e
        · rcases List.mem_cons.1 ((h b).2 List.mem_cons_self) with f | f
          · exact f.symm
          · exact absurd (hb a e) (asym a b (ha b f))
      subst e
      congr 1
      refine uniq R irr asym l' m' hl' hm' fun x => ?_
      constructor
      · intro hx
        rcases List.mem_cons.1 ((h x).1 (List.mem_cons_of_mem _ hx)) with f | f
        · subst f; exact absurd (ha x hx) (irr x)
        · exact f
      · intro hx
        rcases List.mem_cons.1 ((h x).2 (List.mem_cons_of_mem _ hx)) with f | f
        · subst f; exact absurd (hb x hx) (irr x)
        · exact f

/-- the places of a list, each once, in an order -/
def atL (l : List Tr) (i : Nat) : Tr := l[i]?.getD zeroTr
def aheadO (q : Nat × Nat × Nat) (l : List Tr) (i j : Nat) : Prop := cmpO q (atL l i) (atL l j) < 0
def IsPlaces (q : Nat × Nat × Nat) (l : List Tr) (m : List Nat) : Prop := m.Pairwise (aheadO q l) ∧ (∀ i, i ∈ m ↔ i < l.length) ∧ m.length = l.length
theorem places_unique {q : Nat × Nat × Nat} {l : List Tr} {m n : List Nat} (hm : IsPlaces q l m) (hn : IsPlaces q l n) : m = n := by
  refine uniq (aheadO q l) (fun a h => ?_) (fun a b h k => ?_) m n hm.1 hn.1 fun x => by rw [hm.2.1, hn.2.1]
  · have := cmpO_neg q (atL l a) (atL l a)
    unfold aheadO at h
    omega
  · have := cmpO_neg q (atL l a) (atL l b)
    unfold aheadO at h k
    omega

theorem swoO (q : Nat × Nat × Nat) (hq : PermQ q) (l : List Tr) : SWO (ltOf fun (i j : Fin l.length) => cmpO q l[i] l[j]) where
  irrefl x := by
    have := cmpO_neg q l[x] l[x]
    simp only [ltOf, decide_eq_false_iff_not]
    omega
  trans x y z h1 h2 := by
    simp only [ltOf, decide_eq_true_eq] at *
    exact cmpO_lt_trans hq h1 h2
  ntrans x y z h1 h2 := by
    simp only [ltOf, decide_eq_false_iff_not] at *
    have a := cmpO_neg q l[x] l[y]
    have b := cmpO_neg q l[y] l[z]
    have c := cmpO_neg q l[x] l[z]
    have := cmpO_trans q l[z] l[y] l[x] (by omega) (by omega)
    omega

/-- what a call has laid and drawn -/
theorem grew_of {w w' : World} (hb : RowKit.Below w.heap.size w w') (hd : w.drawn ≤ w'.drawn) : Grew w w' := by
  refine ⟨w'.drawn - w.drawn, w'.heap.extract w.heap.size w'.heap.size, ?_⟩
  have hh : w'.heap = w.heap ++ w'.heap.extract w.heap.size w'.heap.size := by
    apply Array.ext_getElem?
    intro i
    by_cases hi : i < w.heap.size
    · rw [Array.getElem?_append_left hi, hb.block i hi]
    · rw [Array.getElem?_append_right (by omega), Array.getElem?_extract]
      by_cases h2 : i < w'.heap.size
      · rw [if_pos (by omega), show w.heap.size + (i - w.heap.size) = i by omega]
      · rw [if_neg (by omega), Array.getElem?_eq_none (by omega)]
  obtain ⟨h1, h2, h3, _, _⟩ := hb
  obtain ⟨a, b, c, d, e⟩ := w
  obtain ⟨a', b', c', d', e'⟩ := w'
  simp only [grow, World.drewN, World.mk.injEq] at *
  exact ⟨hh, h2, by omega, h1, h3⟩
end Go.Proofs.YtnlcfnpcjkcdmacGreatDoor
