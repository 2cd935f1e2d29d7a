/- The theory of sets as lists: what is together, and what is apart. -/
import Derived.Test.YtnlcfnpcjkcdmacGreatDoorTripleGood
namespace Go.Proofs.YtnlcfnpcjkcdmacGreatDoor
open Go Go.RowKit Go.Proofs
set_option synthInstance.maxSize 1000

/-- a set: at most 200 triples, each right, rising -/
def IsSet (l : List Tr) : Prop := l.length ≤ 200 ∧ (∀ x ∈ l, chkTr x = 0) ∧ Rising l

theorem cmpTr_lt_trans {x y z : Tr} (h1 : cmpTr x y < 0) (h2 : cmpTr y z < 0) : cmpTr x z < 0 := by
  have h := cmpTr_trans x y z (by omega) (by omega)
  rcases Int.lt_or_eq_of_le h with h | h
  · exact h
  · have e := (cmpTr_zero x z).1 h
    subst e
    have := cmpTr_neg x y
    omega

theorem rising_of_steps (l : List Tr) (h : ∀ i (h0 : 0 < i) (hi : i < l.length), cmpTr (l[i - 1]'(by omega)) l[i] < 0) : Rising l := by
  refine List.pairwise_iff_getElem.2 ?_
  intro i j hi hj hij
  obtain ⟨d, rfl⟩ : ∃ d, j = i + 1 + d := ⟨j - i - 1, by omega⟩
  clear hij
  induction d with
  | zero => exact h (i + 1) (by omega) hj
  | succ d ih =>
    have h1 := ih (by omega)
    have h2 := h (i + 1 + (d + 1)) (by omega) hj
    exact cmpTr_lt_trans h1 h2

theorem sortedN_set {m : List Tr} : sortedN m = 0 ↔ IsSet m := by
  constructor
  · intro h
    unfold sortedN at h
    obtain ⟨h1, h2⟩ := faultN_zero.1 h
    have hc : ∀ i (hi : i < m.length), chkTr m[i] = 0 := fun i hi => by
      have := h2 i hi
      unfold stepN at this
      rw [dif_pos hi] at this
      by_cases hh : chkTr m[i] = 0
      · exact hh
      · rw [if_neg hh] at this; exact this
    refine ⟨h1, fun x hx => ?_, rising_of_steps m fun i h0 hi => ?_⟩
    · obtain ⟨i, hi, rfl⟩ := List.getElem_of_mem hx
      exact hc i hi
    · have := h2 i hi
      unfold stepN at this
      rw [dif_pos hi, if_pos (hc i hi), dif_pos h0] at this
      by_cases hh : 0 ≤ cmpTr (m[i - 1]'(by omega)) m[i]
      · rw [if_pos hh] at this; omega
      · omega
  · rintro ⟨h1, h2, h3⟩
    exact sortedN_zero h1 h2 h3

theorem IsSet.filter {l : List Tr} (h : IsSet l) (p : Tr → Bool) : IsSet (l.filter p) :=
  ⟨Nat.le_trans (List.length_filter_le _ _) h.1, fun x hx => h.2.1 x (List.mem_filter.1 hx).1, List.Pairwise.filter _ h.2.2⟩
theorem IsSet.fit {l : List Tr} (h : IsSet l) : ∀ x ∈ l, fitTr x := fun x hx => fit_chk (h.2.1 x hx)
theorem isSet_nil : IsSet [] := ⟨by simp, by simp, List.Pairwise.nil⟩

theorem rising_nodup {l : List Tr} (h : Rising l) : l.Nodup := by
  refine List.Pairwise.imp ?_ h
  intro x y hxy e
  subst e
  have := (cmpTr_zero x x).2 rfl
  omega

/-- what is in the one and not in the other; what is in both -/
def lessL (a b : List Tr) : List Tr := a.filter fun x => !decide (x ∈ b)
def bothL (a b : List Tr) : List Tr := a.filter fun x => decide (x ∈ b)
theorem mem_lessL {a b : List Tr} {x : Tr} : x ∈ lessL a b ↔ x ∈ a ∧ x ∉ b := by simp [lessL]
theorem mem_bothL {a b : List Tr} {x : Tr} : x ∈ bothL a b ↔ x ∈ a ∧ x ∈ b := by simp [bothL]

theorem parts_len (a b : List Tr) : (lessL a b).length + (bothL a b).length = a.length := by
  unfold lessL bothL
  induction a with
  | nil => rfl
  | cons x r ih =>
    by_cases h : x ∈ b
    · simp [h] at ih ⊢; omega
    · simp [h] at ih ⊢; omega

/-- what both have together -/
def JoinOf (a b m : List Tr) : Prop := Rising m ∧ ∀ x, x ∈ m ↔ x ∈ a ∨ x ∈ b

theorem JoinOf.len {a b m : List Tr} (h : JoinOf a b m) (ha : Rising a) (hb : Rising b) : m.length = a.length + (lessL b a).length := by
  have hn : (a ++ lessL b a).Nodup := by
    rw [List.nodup_append]
    refine ⟨rising_nodup ha, rising_nodup (List.Pairwise.filter _ hb), ?_⟩
    intro x hx y hy e
    subst e
    exact (mem_lessL.1 hy).2 hx
  have hp : m.Perm (a ++ lessL b a) := by
    refine (List.perm_ext_iff_of_nodup (rising_nodup h.1) hn).2 fun x => ?_
    rw [h.2, List.mem_append, mem_lessL]
    by_cases hx : x ∈ a <;> simp [hx]
  rw [hp.length_eq, List.length_append]

theorem JoinOf.unique {a b m n : List Tr} (h : JoinOf a b m) (h' : JoinOf a b n) : m = n :=
  rising_unique m n h.1 h'.1 fun x => (h.2 x).trans (h'.2 x).symm
theorem JoinOf.symm {a b m : List Tr} (h : JoinOf a b m) : JoinOf b a m := ⟨h.1, fun x => (h.2 x).trans Or.comm⟩
theorem JoinOf.isSet {a b m : List Tr} (h : JoinOf a b m) (ha : IsSet a) (hb : IsSet b) (hl : a.length + (lessL b a).length ≤ 200) : IsSet m :=
  ⟨by rw [h.len ha.2.2 hb.2.2]; exact hl, fun x hx => ((h.2 x).1 hx).elim (ha.2.1 x) (hb.2.1 x), h.1⟩
/-- less and both make the one; with what the other has alone they are all -/
theorem join_parts {a b p : List Tr} (ha : Rising a) (h : JoinOf (lessL a b) (bothL a b) p) : p = a :=
  rising_unique p a h.1 ha fun x => by
    rw [h.2, mem_lessL, mem_bothL]
    by_cases hx : x ∈ b <;> simp [hx]
theorem join_all {a b m q : List Tr} (h : JoinOf a b m) (h' : JoinOf a (lessL b a) q) : q = m :=
  rising_unique q m h'.1 h.1 fun x => by
    rw [h.2, h'.2, mem_lessL]
    by_cases hx : x ∈ a <;> simp [hx]
theorem less_apart (a b : List Tr) : lessL (bothL a b) (lessL a b) = bothL a b := by
  unfold lessL
  rw [List.filter_eq_self]
  intro x hx
  have := (mem_bothL.1 hx).2
  simp [this]
theorem less_twice (a b : List Tr) : lessL (lessL b a) a = lessL b a := by
  unfold lessL
  rw [List.filter_filter]
  simp
/-- a slice that owns its row -/
theorem own_slT {W : World} {base : Nat} {e : TypeId} {v : Value} {t : List Tr} (h : W.ownsRow base e 9 v t.length (cellsT t)) : ∃ ad cap, v = .slice ad t.length cap ∧ SlT W ad t := by
  have h' := h
  rcases h.2 with ⟨rfl, h0⟩ | ⟨g, cap, cur, rfl, _⟩
  · exact ⟨none, 0, by rw [h0], fun hne => absurd (List.eq_nil_of_length_eq_zero h0) hne⟩
  · refine ⟨some ⟨g, 0, none⟩, cap, rfl, fun _ => ⟨g, 0, rfl, fun j u hj => ?_⟩⟩
    have := h'.cells (g := g) rfl j u hj
    rwa [Addr.add_lit] at this

/-- what a call has grown beside an owned row leaves the row -/
theorem ownsRow_below {W W' : World} {base : Nat} {e : TypeId} {sz : Nat} {v : Value} {n : Nat} {cs : List Value} (h : W.ownsRow base e sz v n cs) (hb : RowKit.Below W.heap.size W W') : W'.ownsRow base e sz v n cs :=
  h.kept (row := none) ⟨hb.os, hb.tape, hb.output, hb.size, fun i hi _ => hb.block i hi⟩ (Classical.em _)
end Go.Proofs.YtnlcfnpcjkcdmacGreatDoor
