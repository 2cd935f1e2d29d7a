/- A row of numbers by three, in memory; what they stand for. -/
import Derived.Test.YtkeholipklfnbabDictOpen
import Derived.Test.YtkeholipklfnbabDictEq
namespace Go.Proofs.Ytkeholipklfnbab
open Go Go.RowKit Go.Proofs Go.Maps
set_option synthInstance.maxSize 1000

abbrev I3 := Int × Int × Int
def setI (I : Nat → I3) (k : Nat) (x : I3) : Nat → I3 := fun j => if j = k then x else I j
theorem setI_same (I : Nat → I3) (k : Nat) (x : I3) : setI I k x k = x := if_pos rfl
theorem setI_other (I : Nat → I3) (x : I3) {k j : Nat} (h : j ≠ k) : setI I k x j = I j := if_neg h
/-- at block g lie n numbers by three -/
def IdsAt (W : World) (g n : Nat) (I : Nat → I3) : Prop :=
  ∃ vs : Array Value, Arr W g vs 41 ∧ vs.size = n * 3 ∧ ∀ j, j < n → vs[j * 3]? = some (.int .i64 (I j).1) ∧ vs[j * 3 + 1]? = some (.int .i64 (I j).2.1) ∧ vs[j * 3 + 2]? = some (.int .i64 (I j).2.2)

theorem made_at (n j : Nat) (h : j < n * 3) : (madeCells #[.int .i64 0, .int .i64 0, .int .i64 0] (n * 3))[j]? = some (.int .i64 0) := by
  unfold madeCells
  rw [Array.getElem?_map, Array.getElem?_range, if_pos h]
  rcases (by omega : j % 3 = 0 ∨ j % 3 = 1 ∨ j % 3 = 2) with e | e | e <;> simp [e]
theorem ids_made (W : World) (n : Nat) : IdsAt (W.alloc (.cells (madeCells #[.int .i64 0, .int .i64 0, .int .i64 0] (n * 3)) 41)) W.heap.size n (fun _ => (0, 0, 0)) :=
  ⟨_, arr_made _ _ _, size_madeCells _ _, fun j hj => ⟨made_at n _ (by omega), made_at n _ (by omega), made_at n _ (by omega)⟩⟩
theorem IdsAt.lt {W : World} {g n : Nat} {I : Nat → I3} (h : IdsAt W g n I) : g < W.heap.size := by
  obtain ⟨vs, ha, _⟩ := h
  exact ha.lt
theorem IdsAt.turned {W W' : World} {g n n0 : Nat} {I : Nat → I3} (h : IdsAt W g n I) (ht : Turned n0 W W') (hg : n0 + 3 ≤ g) : IdsAt W' g n I := by
  obtain ⟨vs, ha, r⟩ := h
  exact ⟨vs, ha.turned ht hg, r⟩
theorem IdsAt.below {W W' : World} {g n : Nat} {I : Nat → I3} (h : IdsAt W g n I) (hb : RowKit.Below W.heap.size W W') : IdsAt W' g n I := by
  obtain ⟨vs, ha, r⟩ := h
  exact ⟨vs, ha.below hb ha.lt, r⟩
theorem IdsAt.at {W : World} {g n : Nat} {I : Nat → I3} (h : IdsAt W g n I) (j : Nat) (hj : j < n) :
    W.cell? ⟨g, j * 3, none⟩ = some (.int .i64 (I j).1) ∧ W.cell? ⟨g, j * 3 + 1, none⟩ = some (.int .i64 (I j).2.1) ∧ W.cell? ⟨g, j * 3 + 2, none⟩ = some (.int .i64 (I j).2.2)
      ∧ W.frozen? ⟨g, j * 3, none⟩ = false ∧ W.frozen? ⟨g, j * 3 + 1, none⟩ = false ∧ W.frozen? ⟨g, j * 3 + 2, none⟩ = false := by
  obtain ⟨vs, ha, _, r⟩ := h
  obtain ⟨r0, r1, r2⟩ := r j hj
  exact ⟨(ha.cell _).trans r0, (ha.cell _).trans r1, (ha.cell _).trans r2, ha.thaw _, ha.thaw _, ha.thaw _⟩
theorem IdsAt.set {W : World} {g n : Nat} {I : Nat → I3} (h : IdsAt W g n I) (k : Nat) (hk : k < n) (x : I3) :
    IdsAt (((W.setCell ⟨g, k * 3, none⟩ (.int .i64 x.1)).setCell ⟨g, k * 3 + 1, none⟩ (.int .i64 x.2.1)).setCell ⟨g, k * 3 + 2, none⟩ (.int .i64 x.2.2)) g n (setI I k x) := by
  obtain ⟨vs, ha, hs, r⟩ := h
  refine ⟨_, ((ha.set (k * 3) _).set (k * 3 + 1) _).set (k * 3 + 2) _, by simp [hs], fun j hj => ?_⟩
  obtain ⟨r0, r1, r2⟩ := r j hj
  by_cases e : j = k
  · subst e
    rw [setI_same]
    refine ⟨?_, ?_, ?_⟩
    · rw [Array.getElem?_setIfInBounds_ne (by omega), Array.getElem?_setIfInBounds_ne (by omega), Array.getElem?_setIfInBounds_self_of_lt (by omega)]
    · rw [Array.getElem?_setIfInBounds_ne (by omega), Array.getElem?_setIfInBounds_self_of_lt (by simp; omega)]
    · rw [Array.getElem?_setIfInBounds_self_of_lt (by simp; omega)]
  · rw [setI_other I x e]
    refine ⟨?_, ?_, ?_⟩
    · rw [Array.getElem?_setIfInBounds_ne (by omega), Array.getElem?_setIfInBounds_ne (by omega), Array.getElem?_setIfInBounds_ne (by omega)]; exact r0
    · rw [Array.getElem?_setIfInBounds_ne (by omega), Array.getElem?_setIfInBounds_ne (by omega), Array.getElem?_setIfInBounds_ne (by omega)]; exact r1
    · rw [Array.getElem?_setIfInBounds_ne (by omega), Array.getElem?_setIfInBounds_ne (by omega), Array.getElem?_setIfInBounds_ne (by omega)]; exact r2

/-- each is none, or those of the triple at its place -/
def IdsOK (L : List Tm) (I : Nat → I3) (l : List Tr) : Prop :=
  ∀ j (hj : j < l.length), I j = (0, 0, 0) ∨ (chkTr l[j] = 0 ∧ (∀ x ∈ three l[j], x ∈ L) ∧ I j = idsOf L l[j])

theorem idsOf_prefix {L M : List Tm} {t : Tr} (h : L <+: M) (ht : ∀ x ∈ three t, x ∈ L) : idsOf M t = idsOf L t := by
  unfold idsOf
  rw [idN_prefix h (ht _ (by simp [three])), idN_prefix h (ht _ (by simp [three])), idN_prefix h (ht _ (by simp [three]))]
theorem IdsOK.prefix {L M : List Tm} {I : Nat → I3} {l : List Tr} (h : IdsOK L I l) (hp : L <+: M) : IdsOK M I l := fun j hj => by
  rcases h j hj with h | ⟨h1, h2, h3⟩
  · exact .inl h
  · exact .inr ⟨h1, fun x hx => hp.subset (h2 x hx), by rw [idsOf_prefix hp h2]; exact h3⟩
theorem idsOK_start (L : List Tm) (l : List Tr) : IdsOK L (fun _ => (0, 0, 0)) l := fun _ _ => .inl rfl
theorem IdsOK.pack {L : List Tm} {I : Nat → I3} {l : List Tr} (h : IdsOK L I l) (k : Nat) (hk : k < l.length) (he : packE L l[k] = 0) : IdsOK (packL L l[k]) (setI I k (packI L l[k])) l := fun j hj => by
  have eL : packL L l[k] = addAll L (three l[k]) := if_pos he
  have eI : packI L l[k] = idsOf (addAll L (three l[k])) l[k] := if_pos he
  by_cases e : j = k
  · subst e
    refine .inr ⟨(packE_zero.1 he).1, fun x hx => ?_, ?_⟩
    · rw [eL]; exact (mem_addAll _).2 (.inr hx)
    · rw [setI_same, eL, eI]
  · have := (h.prefix (packL_prefix L l[k])) j hj
    rw [setI_other I _ e]
    exact this
theorem ids_wf {L : List Tm} (hL : L.length ≤ 1000) {I : Nat → I3} {l : List Tr} (h : IdsOK L I l) (j : Nat) (hj : j < l.length) : wfI (I j) := by
  have q : ∀ x : Tm, (Lit.int .i64 ((idN L x : Nat) : Int)).wf = true := fun x => by
    by_cases hx : x ∈ L
    · have := idN_mem hx
      exact wf64 (by omega) (by omega)
    · rw [idN_not hx]; decide
  rcases h j hj with h | ⟨_, _, h3⟩
  · rw [h]; exact ⟨by decide, by decide, by decide⟩
  · rw [h3]; exact ⟨q _, q _, q _⟩
theorem ids_open {L : List Tm} {I : Nat → I3} {l : List Tr} (h : IdsOK L I l) (j : Nat) (hj : j < l.length) (hne : (I j).1 ≠ 0) : openE L (I j) = 0 ∧ openT L (I j) = l[j] := by
  rcases h j hj with h | ⟨h1, h2, h3⟩
  · rw [h] at hne; exact absurd rfl hne
  · have m1 := h2 l[j].1 (by simp [three])
    have m2 := h2 l[j].2.1 (by simp [three])
    have m3 := h2 l[j].2.2 (by simp [three])
    have e : ∀ x ∈ L, atE L (idN L x) = 0 := fun x hx => by
      have := idN_mem hx
      exact atE_zero.2 (by omega)
    have eT : atTr L (I j) = l[j] := by
      rw [h3]
      unfold atTr idsOf
      rw [atN_id m1, atN_id m2, atN_id m3]
    have eE : openE L (I j) = 0 := by
      have e1 : atE L (I j).1 = 0 := by rw [h3]; exact e _ m1
      have e2 : atE L (I j).2.1 = 0 := by rw [h3]; exact e _ m2
      have e3 : atE L (I j).2.2 = 0 := by rw [h3]; exact e _ m3
      unfold openE
      rw [if_pos e1, if_pos e2, if_pos e3, eT]
      exact h1
    exact ⟨eE, by unfold openT; rw [if_pos eE, eT]⟩
end Go.Proofs.Ytkeholipklfnbab
