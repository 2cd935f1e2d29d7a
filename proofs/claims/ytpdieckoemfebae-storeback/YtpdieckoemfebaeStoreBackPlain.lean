/- StoreBack in plain words: put twice; what was put is there; what is gone comes again under another number. -/
import Derived.Test.YtpdieckoemfebaeStorePlain
namespace Go.Proofs.Ytpdieckoemfebae
open Go Go.RowKit Go.Proofs
set_option synthInstance.maxSize 1000

theorem GoodO.pos {n : Nat} {L : List Ob} (h : GoodO n L) : ∀ x ∈ L, 1 ≤ x.1 := fun x hx => (h.low x hx).1
theorem find_mem {n : Nat} {L : List Ob} (h : GoodO n L) {b : List UInt8} (hf : findO L b ≠ 0) : (findO L b, b) ∈ L := by
  obtain ⟨x, hx, rfl⟩ := (findO_mem h.pos).1 hf
  rw [findO_in h.once hx]
  exact hx
theorem put_found {n : Nat} {L : List Ob} {b : List UInt8} (h : findO L b ≠ 0) : putI n L b = findO L b ∧ putE L b = 0 ∧ putM n L b = n ∧ putL n L b = L := by
  unfold putI putE putM putL
  rw [if_pos h, if_pos h, if_pos h, if_pos h]
  exact ⟨rfl, rfl, rfl, rfl⟩
theorem put_twice {n : Nat} {L : List Ob} (h : GoodO n L) (b : List UInt8) :
    putI (putM n L b) (putL n L b) b = putI n L b ∧ putE (putL n L b) b = putE L b ∧ putM (putM n L b) (putL n L b) b = putM n L b ∧ putL (putM n L b) (putL n L b) b = putL n L b := by
  by_cases h0 : findO L b ≠ 0
  · have e1 : putL n L b = L := by unfold putL; rw [if_pos h0]
    have e2 : putM n L b = n := by unfold putM; rw [if_pos h0]
    rw [e1, e2]
    exact ⟨rfl, rfl, e2, e1⟩
  · by_cases h1 : fullO L b = true
    · have e1 : putL n L b = L := by unfold putL; rw [if_neg h0, if_pos h1]
      have e2 : putM n L b = n := by unfold putM; rw [if_neg h0, if_pos h1]
      rw [e1, e2]
      exact ⟨rfl, rfl, e2, e1⟩
    · have hg := h.put b
      have e1 : putL n L b = L ++ [(n + 1, b)] := by unfold putL; rw [if_neg h0, if_neg h1]
      have e2 : putM n L b = n + 1 := by unfold putM; rw [if_neg h0, if_neg h1]
      have e3 : putI n L b = n + 1 := by unfold putI; rw [if_neg h0, if_neg h1]
      have e4 : putE L b = 0 := by unfold putE; rw [if_neg h0, if_neg h1]
      have hf : findO (putL n L b) b = n + 1 := findO_in (x := (n + 1, b)) hg.once (by rw [e1]; simp)
      have hf0 : findO (putL n L b) b ≠ 0 := by rw [hf]; omega
      obtain ⟨q1, q2, q3, q4⟩ := put_found (n := putM n L b) hf0
      exact ⟨by rw [q1, hf, e3], by rw [q2, e4], q3, q4⟩
theorem put_has {n : Nat} {L : List Ob} (h : GoodO n L) (b : List UInt8) : putI n L b = 0 ∨ (putI n L b, b) ∈ putL n L b := by
  unfold putI putL
  split
  · rename_i h0; exact Or.inr (find_mem h h0)
  · split
    · exact Or.inl rfl
    · exact Or.inr (by simp)
theorem put_grows {n : Nat} {L : List Ob} {x : Ob} (hx : x ∈ L) (b : List UInt8) : x ∈ putL n L b := by
  unfold putL
  split
  · exact hx
  · split
    · exact hx
    · exact List.mem_append_left _ hx
/-- what comes again has another number -/
theorem put_other {n n' : Nat} {L L' : List Ob} (h : GoodO n L) (h' : GoodO n' L') (hn : n ≤ n') (hs : ∀ x ∈ L', x.1 ≤ n → x ∈ L) {a : Nat} {b : List UInt8} (ha : (a, b) ∈ L) (hg : getO L' a = none) (he : putE L' b = 0) :
    ∀ x ∈ L, x.1 ≠ putI n' L' b := by
  intro x hx e
  have hx1 := (h.low x hx).2
  unfold putI at e
  unfold putE at he
  split at e
  · rename_i h0
    have hm := find_mem h' h0
    have hL := hs _ hm (by show findO L' b ≤ n; omega)
    have e1 := findO_in h.once hL
    have e2 := findO_in h.once ha
    have e3 : a = findO L' b := by
      have h1 : findO L b = findO L' b := e1
      have h2 : findO L b = a := e2
      omega
    have := getO_mem h'.rise hm
    rw [e3] at hg
    have h4 : getO L' ((findO L' b : Nat) : Int) = some b := this
    rw [h4] at hg
    cases hg
  · rename_i h0
    split at e
    · rename_i h1
      rw [if_neg h0, if_pos h1] at he
      cases he
    · omega
theorem put_sub {n n' : Nat} {L L' : List Ob} (hn : n ≤ n') (hs : ∀ x ∈ L', x.1 ≤ n → x ∈ L) (b : List UInt8) : ∀ x ∈ putL n' L' b, x.1 ≤ n → x ∈ L := by
  unfold putL
  split
  · exact hs
  · split
    · exact hs
    · intro x hx hx1
      rcases List.mem_append.1 hx with hx | hx
      · exact hs x hx hx1
      · simp at hx
        subst hx
        have : n' + 1 ≤ n := hx1
        omega
theorem putM_ge (n : Nat) (L : List Ob) (b : List UInt8) : n ≤ putM n L b := by
  unfold putM
  split
  · omega
  · split <;> omega
theorem putM_le' (n : Nat) (L : List Ob) (b : List UInt8) : putM n L b ≤ n + 1 := by
  unfold putM
  split
  · omega
  · split <;> omega
/-- the numbers that were told, each of its text, or none -/
def Rec (I : List Int) (T : List (List UInt8)) (L : List Ob) : Prop := I.length = T.length ∧ ∀ (j : Nat) (hj : j < T.length), ∃ a : Nat, I[j]? = some (a : Int) ∧ (a = 0 ∨ (a, T[j]) ∈ L)
theorem Rec.new (T : List (List UInt8)) (L : List Ob) : Rec (List.replicate T.length 0) T L := ⟨by simp, fun j hj => ⟨0, by simp [hj], Or.inl rfl⟩⟩
theorem Rec.grow {I : List Int} {T : List (List UInt8)} {L M : List Ob} (h : Rec I T L) (hM : ∀ x ∈ L, x ∈ M) : Rec I T M := ⟨h.1, fun j hj => by
  obtain ⟨a, h1, h2⟩ := h.2 j hj
  exact ⟨a, h1, h2.imp id (hM _)⟩⟩
theorem Rec.set {I : List Int} {T : List (List UInt8)} {L : List Ob} (h : Rec I T L) {k a : Nat} (hk : k < T.length) (ha : a = 0 ∨ (a, T[k]) ∈ L) : Rec (I.set k (a : Int)) T L := ⟨by simp [h.1], fun j hj => by
  by_cases e : k = j
  · subst e
    exact ⟨a, by rw [List.getElem?_set_self (by rw [h.1]; exact hk)], ha⟩
  · obtain ⟨c, h1, h2⟩ := h.2 j hj
    exact ⟨c, by rw [List.getElem?_set_ne e]; exact h1, h2⟩⟩
end Go.Proofs.Ytpdieckoemfebae
