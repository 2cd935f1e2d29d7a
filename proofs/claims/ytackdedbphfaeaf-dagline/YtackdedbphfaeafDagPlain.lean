/- Commits in plain words: which is wrong; who comes of whom. -/
import Derived.Test.YtackdedbphfaeafStorePlain
namespace Go.Proofs.Ytackdedbphfaeaf
open Go Go.RowKit Go.Proofs
set_option synthInstance.maxSize 1000

/-- a commit: its parents, its layer, its message -/
abbrev Cm := List Int × Int × List UInt8
def okM (l : List UInt8) : Bool := l.all fun c => decide (32 ≤ c.toNat ∧ c.toNat ≤ 126)
def msgN (l : List UInt8) : Int := if 24 < l.length then 4 else if okM l = true then 0 else 2
def twinB (p : List Int) : Bool := match p with
  | [a, b] => decide (a = b)
  | _ => false
def rangeB (p : List Int) (i : Nat) : Bool := p.all fun a => decide (0 ≤ a ∧ a < i)
/-- the fault of commit i -/
def comN (c : Cm) (i : Nat) : Int :=
  if 2 < c.1.length ∨ msgN c.2.2 = 4 then 4 else if rangeB c.1 i = false then 1 else if twinB c.1 = true then 7 else if msgN c.2.2 ≠ 0 then msgN c.2.2 else if c.2.1 < 1 ∨ 300 < c.2.1 then 1 else 0
/-- the first that is wrong, from i on -/
def firstC : List Cm → Nat → Nat × Int
  | [], _ => (0, 0)
  | c :: r, i => if comN c i ≠ 0 then (i, comN c i) else firstC r (i + 1)
def comsN (l : List Cm) : Nat × Int := if 60 < l.length then (0, 4) else firstC l 0
theorem firstC_at {l : List Cm} {i k : Nat} (hk : k < l.length) (hn : ∀ (j : Nat) (hj : j < k), comN (l[j]'(by omega)) (i + j) = 0) (h : comN l[k] (i + k) ≠ 0) : firstC l i = (i + k, comN l[k] (i + k)) := by
  induction l generalizing i k with
  | nil => simp at hk
  | cons c r ih =>
    cases k with
    | zero => unfold firstC; rw [if_pos (by simpa using h)]; rfl
    | succ m =>
      have h0 := hn 0 (by omega)
      unfold firstC
      rw [if_neg (fun h' => h' (by simpa using h0))]
      have := ih (i := i + 1) (k := m) (by simpa using hk) (fun j hj => by have := hn (j + 1) (by omega); simpa [Nat.add_assoc, Nat.add_comm 1 j] using this) (by simpa [Nat.add_assoc, Nat.add_comm 1 m] using h)
      rw [this]
      simp [Nat.add_assoc, Nat.add_comm 1 m]
theorem firstC_none {l : List Cm} {i : Nat} (hn : ∀ (j : Nat) (hj : j < l.length), comN l[j] (i + j) = 0) : firstC l i = (0, 0) := by
  induction l generalizing i with
  | nil => rfl
  | cons c r ih =>
    have h0 := hn 0 (by simp)
    unfold firstC
    rw [if_neg (fun h' => h' (by simpa using h0))]
    exact ih fun j hj => by have := hn (j + 1) (by simpa using hj); simpa [Nat.add_assoc, Nat.add_comm 1 j] using this

theorem firstC_zero {l : List Cm} {i : Nat} (h : (firstC l i).2 = 0) : ∀ (j : Nat) (hj : j < l.length), comN l[j] (i + j) = 0 := by
  induction l generalizing i with
  | nil => intro j hj; simp at hj
  | cons c r ih =>
    unfold firstC at h
    split at h
    · rename_i h0; exact absurd h h0
    · rename_i h0
      have h0' : comN c i = 0 := Classical.byContradiction h0
      intro j hj
      cases j with
      | zero => simpa using h0'
      | succ m =>
        have := ih h m (by simpa using hj)
        simpa [Nat.add_assoc, Nat.add_comm 1 m] using this
/-- commits that are right -/
def GoodC (l : List Cm) : Prop := l.length ≤ 60 ∧ ∀ (j : Nat) (hj : j < l.length), comN l[j] j = 0
theorem coms_good {l : List Cm} : (comsN l).2 = 0 ↔ GoodC l := by
  unfold comsN GoodC
  by_cases h : 60 < l.length
  · rw [if_pos h]
    constructor
    · intro e; cases e
    · intro e; omega
  · rw [if_neg h]
    constructor
    · intro e
      exact ⟨by omega, fun j hj => by simpa using firstC_zero e j hj⟩
    · rintro ⟨_, e⟩
      rw [firstC_none fun j hj => by simpa using e j hj]

/-- who comes of whom: k is i, or a parent of one that is -/
def parsOf (l : List Cm) (c : Nat) : List Int := (l[c]?.map fun x => x.1).getD []
def Up (l : List Cm) (i k : Nat) : Prop := ∀ S : Nat → Prop, S i → (∀ c p : Nat, S c → (p : Int) ∈ parsOf l c → S p) → S k
theorem Up.refl (l : List Cm) (i : Nat) : Up l i i := fun _ h _ => h
theorem Up.step {l : List Cm} {i c p : Nat} (h : Up l i c) (hp : (p : Int) ∈ parsOf l c) : Up l i p := fun S h1 h2 => h2 c p (h S h1 h2) hp
/-- a rising list is told by what is in it -/
def RiseN (m : List Nat) : Prop := m.Pairwise fun a b => a < b
theorem rise_unique {m q : List Nat} (hm : RiseN m) (hq : RiseN q) (h : ∀ k, k ∈ m ↔ k ∈ q) : m = q := by
  induction m generalizing q with
  | nil =>
    cases q with
    | nil => rfl
    | cons b s => exact absurd ((h b).2 (by simp)) (by simp)
  | cons a r ih =>
    cases q with
    | nil => exact absurd ((h a).1 (by simp)) (by simp)
    | cons b s =>
      obtain ⟨m1, m2⟩ := List.pairwise_cons.1 hm
      obtain ⟨q1, q2⟩ := List.pairwise_cons.1 hq
      have hab : a = b := by
        have h1 := (h a).1 (by simp)
        have h2 := (h b).2 (by simp)
        rcases List.mem_cons.1 h1 with e | h1
        · exact e
        · rcases List.mem_cons.1 h2 with e | h2
          · exact e.symm
          · have := q1 a h1
            have := m1 b h2
            omega
      subst hab
      congr 1
      refine ih m2 q2 fun k => ?_
      constructor
      · intro hk
        have := m1 k hk
        rcases List.mem_cons.1 ((h k).1 (List.mem_cons_of_mem _ hk)) with e | h'
        · omega
        · exact h'
      · intro hk
        have := q1 k hk
        rcases List.mem_cons.1 ((h k).2 (List.mem_cons_of_mem _ hk)) with e | h'
        · omega
        · exact h'

/-! ### commits in memory -/
/-- commits, in a list: three cells each -/
def ComsAt (w : World) (b o : Nat) (l : List Cm) : Prop := ∀ (i : Nat) (hi : i < l.length), ∃ a c, w.cell? ⟨b, o + i * 3, none⟩ = some (.slice a l[i].1.length c) ∧ w.cell? ⟨b, o + i * 3 + 1, none⟩ = some (.int .i64 l[i].2.1) ∧ w.cell? ⟨b, o + i * 3 + 2, none⟩ = some (.string ⟨l[i].2.2.toArray⟩) ∧ SlI w a l[i].1
def SlC (w : World) (ad : Option Addr) (l : List Cm) : Prop := l ≠ [] → ∃ b o, ad = some ⟨b, o, none⟩ ∧ ComsAt w b o l
theorem SlC.below {w w' : World} {ad : Option Addr} {l : List Cm} (h : SlC w ad l) (hb : RowKit.Below w.heap.size w w') : SlC w' ad l := fun hl => by
  obtain ⟨b, o, e, h1⟩ := h hl
  refine ⟨b, o, e, fun i hi => ?_⟩
  obtain ⟨a, c, h2, h3, h4, h5⟩ := h1 i hi
  exact ⟨a, c, (hb.cell (World.block_lt_of_cell? w _ h2)).trans h2, (hb.cell (World.block_lt_of_cell? w _ h3)).trans h3, (hb.cell (World.block_lt_of_cell? w _ h4)).trans h4, h5.below hb⟩
theorem SlC.at {w : World} {ad : Option Addr} {l : List Cm} (h : SlC w ad l) {i : Nat} (hi : i < l.length) : ∃ b o a c, ad = some ⟨b, o, none⟩ ∧ w.cell? ⟨b, o + i * 3, none⟩ = some (.slice a l[i].1.length c) ∧ w.cell? ⟨b, o + i * 3 + 1, none⟩ = some (.int .i64 l[i].2.1) ∧ w.cell? ⟨b, o + i * 3 + 2, none⟩ = some (.string ⟨l[i].2.2.toArray⟩) ∧ SlI w a l[i].1 := by
  obtain ⟨b, o, e, h1⟩ := h (fun e => by rw [e] at hi; simp at hi)
  obtain ⟨a, c, h2, h3, h4, h5⟩ := h1 i hi
  exact ⟨b, o, a, c, e, h2, h3, h4, h5⟩
end Go.Proofs.Ytackdedbphfaeaf
