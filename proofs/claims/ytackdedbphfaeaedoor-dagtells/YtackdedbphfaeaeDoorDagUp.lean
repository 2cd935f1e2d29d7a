/- Who comes of whom, marked one by one. -/
import Derived.Test.YtackdedbphfaeaeDoorDagPlain
namespace Go.Proofs.YtackdedbphfaeaeDoor
open Go Go.RowKit Go.Proofs
set_option synthInstance.maxSize 1000

def onB (B : List Bool) (k : Nat) : Bool := B.getD k false
def SoundB (l : List Cm) (i : Nat) (B : List Bool) : Prop := ∀ k, onB B k = true → Up l i k
def ClosedTo (l : List Cm) (B : List Bool) (m : Nat) : Prop := ∀ c, c < m → onB B c = true → ∀ p : Nat, (p : Int) ∈ parsOf l c → onB B p = true
theorem onB_set {B : List Bool} {p k : Nat} (hp : p < B.length) : onB (B.set p true) k = if k = p then true else onB B k := by
  unfold onB
  rw [List.getD_eq_getElem?_getD, List.getD_eq_getElem?_getD]
  by_cases e : k = p
  · subst e
    rw [if_pos rfl, List.getElem?_set_self hp]
    rfl
  · rw [if_neg e, List.getElem?_set_ne (fun h => e h.symm)]
theorem onB_lt {B : List Bool} {k : Nat} (h : onB B k = true) : k < B.length := by
  unfold onB at h
  rw [List.getD_eq_getElem?_getD] at h
  exact Classical.byContradiction fun hn => by
    rw [List.getElem?_eq_none (by omega)] at h
    simp at h
theorem onB_get {B : List Bool} {k : Nat} (h : k < B.length) : onB B k = B[k] := by
  unfold onB
  rw [List.getD_eq_getElem?_getD, List.getElem?_eq_getElem h]
  rfl
theorem SoundB.set {l : List Cm} {i : Nat} {B : List Bool} (h : SoundB l i B) {p : Nat} (hp : p < B.length) (hu : Up l i p) : SoundB l i (B.set p true) := fun k hk => by
  rw [onB_set hp] at hk
  split at hk
  · rename_i e; rw [e]; exact hu
  · exact h k hk
theorem closed_up {l : List Cm} {i : Nat} {B : List Bool} (hi : onB B i = true) (hc : ClosedTo l B B.length) : ∀ k, Up l i k → onB B k = true := by
  intro k h
  exact h (fun k => onB B k = true) hi fun c p h1 hp => hc c (onB_lt h1) h1 p hp
/-- how many are not marked -/
def nF : List Bool → Nat
  | [] => 0
  | b :: r => (if b = true then 0 else 1) + nF r
theorem nF_set {B : List Bool} {p : Nat} (hp : p < B.length) (h : onB B p = false) : nF (B.set p true) < nF B := by
  induction B generalizing p with
  | nil => simp at hp
  | cons b r ih =>
    cases p with
    | zero =>
      have hb : b = false := by simpa [onB] using h
      subst hb
      simp [nF]
    | succ m =>
      have := ih (p := m) (by simpa using hp) (by simpa [onB] using h)
      simp only [List.set_cons_succ, nF]
      omega
/-- those that are marked, rising -/
def markedB (B : List Bool) (k : Nat) : List Nat := (List.range k).filter fun j => onB B j
theorem marked_next (B : List Bool) (k : Nat) : markedB B (k + 1) = markedB B k ++ if onB B k = true then [k] else [] := by
  unfold markedB
  rw [List.range_succ, List.filter_append, List.filter_cons]
  simp
theorem marked_rise (B : List Bool) (k : Nat) : RiseN (markedB B k) := by
  unfold markedB RiseN
  exact List.Pairwise.filter _ List.pairwise_lt_range
theorem marked_up {l : List Cm} {i : Nat} {B : List Bool} (hs : SoundB l i B) (hi : onB B i = true) (hc : ClosedTo l B B.length) : ∀ k, k ∈ markedB B B.length ↔ Up l i k := by
  intro k
  unfold markedB
  rw [List.mem_filter, List.mem_range]
  constructor
  · rintro ⟨_, h⟩; exact hs k h
  · intro h
    have := closed_up hi hc k h
    exact ⟨onB_lt this, this⟩
theorem marked_len (B : List Bool) (k : Nat) : (markedB B k).length ≤ k := by
  unfold markedB
  exact Nat.le_trans (List.length_filter_le _ _) (by simp)
/-- parents of commits that are right are earlier ones -/
theorem good_pars {l : List Cm} (h : GoodC l) {c : Nat} (hc : c < l.length) : ∀ z ∈ parsOf l c, 0 ≤ z ∧ z < c := by
  have h1 := h.2 c hc
  have e : parsOf l c = l[c].1 := by unfold parsOf; rw [List.getElem?_eq_getElem hc]; rfl
  rw [e]
  unfold comN at h1
  split at h1
  · cases h1
  · split at h1
    · cases h1
    · rename_i h2
      have h3 : rangeB l[c].1 c = true := by simpa using h2
      unfold rangeB at h3
      rw [List.all_eq_true] at h3
      intro z hz
      simpa using h3 z hz
theorem up_le {l : List Cm} (h : GoodC l) {i k : Nat} (hi : i < l.length) (hu : Up l i k) : k ≤ i ∧ k < l.length := by
  refine hu (fun k => k ≤ i ∧ k < l.length) ⟨Nat.le_refl _, hi⟩ fun c p h1 hp => ?_
  have := (good_pars h h1.2) _ hp
  have h2 : c ≤ i ∧ c < l.length := h1
  show p ≤ i ∧ p < l.length
  omega
end Go.Proofs.YtackdedbphfaeaeDoor
