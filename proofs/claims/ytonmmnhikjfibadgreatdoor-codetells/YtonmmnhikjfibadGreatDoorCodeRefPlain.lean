/- The document's reading of bytes: the plain theory; that it comes to what package code tells. -/
import Derived.Test.YtonmmnhikjfibadGreatDoorCodePlain
namespace Go.Proofs.YtonmmnhikjfibadGreatDoor
open Go Go.RowKit Go.Proofs
set_option synthInstance.maxSize 1000

/-- the document's reading: what ended it, what is left (kept when it has ended) -/
def rTake (n : Nat) (s : St) : List UInt8 × St := if s.1 = 0 then (if s.2.length < n then ([], (8, s.2)) else (s.2.take n, (0, s.2.drop n))) else ([], s)
def rBad (e : Int) (s : St) : St := (if s.1 = 0 then e else s.1, s.2)
def rNum (s : St) : Nat × St := (numL (rTake 1 s).1, (rTake 1 s).2)
def rKind (s : St) : Nat × St := ((rNum s).1, if kindB' (rNum s).1 = true then (rNum s).2 else rBad 2 (rNum s).2)
def rLang (s : St) : List UInt8 × St := rTake (kindL (rKind s).1) (rKind s).2
def rText (s : St) : List UInt8 × St := rTake (rNum s).1 (rNum s).2
def rRaw (s : St) : Tm := (kindK (rKind s).1, (rText (rLang s).2).1, (rLang s).1)
def rTerm (s : St) : Tm × St := (rRaw s, if okTm (rRaw s) = 0 then (rText (rLang s).2).2 else rBad 2 (rText (rLang s).2).2)
def rTrip (s : St) : Tr × St := (((rTerm s).1, (rTerm (rTerm s).2).1, (rTerm (rTerm (rTerm s).2).2).1), (rTerm (rTerm (rTerm s).2).2).2)
def rLoop : Nat → St → List Tr × St
  | 0, s => ([], s)
  | n + 1, s => if s.1 = 0 then ((rTrip s).1 :: (rLoop n (rTrip s).2).1, (rLoop n (rTrip s).2).2) else ([], s)
def rSize (s : St) : Nat × St := ((rNum s).1 * 256 + (rNum (rNum s).2).1, if 200 < (rNum s).1 * 256 + (rNum (rNum s).2).1 then rBad 2 (rNum (rNum s).2).2 else (rNum (rNum s).2).2)
def rSet (s : St) : List Tr × St := rLoop (rSize s).1 (rSize s).2
def rEnd (s : St) : Int := if s.1 = 0 ∧ s.2 ≠ [] then 2 else s.1

/-- both have been ended by the same, or are at the same place -/
def Ag (s s' : St) : Prop := s.1 = s'.1 ∧ (s'.1 = 0 → s = s')
theorem Ag.err {s s' : St} (h : s.1 = s'.1) (h0 : s'.1 ≠ 0) : Ag s s' := ⟨h, fun e => absurd e h0⟩
theorem Ag.refl (s : St) : Ag s s := ⟨rfl, fun _ => rfl⟩
theorem rTake_keep {n : Nat} {s : St} (h : s.1 ≠ 0) : rTake n s = ([], s) := if_neg h
theorem rNum_keep {s : St} (h : s.1 ≠ 0) : rNum s = (0, s) := by unfold rNum; rw [rTake_keep h]; rfl
theorem rBad_keep {e : Int} {s : St} (h : s.1 ≠ 0) : rBad e s = s := by unfold rBad; rw [if_neg h]
theorem rKind_keep {s : St} (h : s.1 ≠ 0) : (rKind s).2.1 = s.1 := by
  unfold rKind
  rw [rNum_keep h]
  dsimp only
  split
  · rfl
  · rw [rBad_keep h]
theorem rText_keep {s : St} (h : s.1 ≠ 0) : (rText s).2.1 = s.1 := by
  unfold rText
  rw [rNum_keep h]
  dsimp only
  rw [rTake_keep h]
theorem rLang_keep {s : St} (h : (rKind s).2.1 ≠ 0) : (rLang s).2.1 = (rKind s).2.1 := by
  unfold rLang
  rw [rTake_keep h]
theorem rTerm_fin {s : St} {e : Int} (he : e ≠ 0) (h : (rText (rLang s).2).2.1 = e) : (rTerm s).2.1 = e := by
  unfold rTerm
  dsimp only
  split
  · exact h
  · rw [rBad_keep (by rw [h]; exact he), h]
theorem rTerm_keep {s : St} (h : s.1 ≠ 0) : (rTerm s).2.1 = s.1 := by
  have e1 := rKind_keep h
  have e2 := rLang_keep (s := s) (by rw [e1]; exact h)
  refine rTerm_fin h ?_
  rw [rText_keep (by rw [e2, e1]; exact h), e2, e1]
theorem rLoop_keep {n : Nat} {s : St} (h : s.1 ≠ 0) : rLoop n s = ([], s) := by
  cases n with
  | zero => rfl
  | succ n => exact if_neg h
theorem rLoop_step {n : Nat} {s : St} (h : s.1 = 0) : rLoop (n + 1) s = ((rTrip s).1 :: (rLoop n (rTrip s).2).1, (rLoop n (rTrip s).2).2) := if_pos h

theorem take_ag {n : Nat} {s s' : St} (h : Ag s s') : Ag (rTake n s).2 (takeS n s').2 ∧ ((takeS n s').2.1 = 0 → (rTake n s).1 = (takeS n s').1) := by
  by_cases h0 : s'.1 = 0
  · have e := h.2 h0
    subst e
    unfold rTake takeS endS
    rw [if_pos h0]
    split
    · exact ⟨Ag.err rfl (by decide), fun e => absurd e (by decide)⟩
    · exact ⟨⟨h0.symm, fun _ => by rw [h0]⟩, fun _ => rfl⟩
  · have h1 : s.1 ≠ 0 := by rw [h.1]; exact h0
    have e := takeS_keep (n := n) h0
    rw [rTake_keep h1]
    exact ⟨Ag.err (by rw [e, h.1]) (by rw [e]; exact h0), fun q => absurd (e ▸ q) h0⟩
theorem num_ag {s s' : St} (h : Ag s s') : Ag (rNum s).2 (takeS 1 s').2 ∧ ((takeS 1 s').2.1 = 0 → (rNum s).1 = numL (takeS 1 s').1) := by
  obtain ⟨a, b⟩ := take_ag (n := 1) h
  exact ⟨a, fun e => by show numL (rTake 1 s).1 = _; rw [b e]⟩
theorem bad_ag {e : Int} {s s' : St} (h : Ag s s') (he : e ≠ 0) : Ag (rBad e s) (endS e s') := by
  refine Ag.err ?_ (endS_zero he)
  unfold rBad endS
  rw [h.1]
theorem kind_ag {s s' : St} (h : Ag s s') : Ag (rKind s).2 (kindS s').2 ∧ ((kindS s').2.1 = 0 → (rKind s).1 = (kindS s').1) := by
  obtain ⟨a, b⟩ := num_ag h
  by_cases h0 : (takeS 1 s').2.1 = 0
  · have e := b h0
    unfold rKind kindS
    dsimp only
    rw [e]
    cases hk : kindB' (numL (takeS 1 s').1)
    · exact ⟨bad_ag a (by decide), fun _ => rfl⟩
    · exact ⟨a, fun _ => rfl⟩
  · have e1 : (kindS s').2.1 = (takeS 1 s').2.1 := by
      unfold kindS
      dsimp only
      split
      · rfl
      · exact endS_keep h0
    have h1 : (rNum s).2.1 ≠ 0 := by rw [a.1]; exact h0
    have e2 : (rKind s).2.1 = (rNum s).2.1 := by
      unfold rKind
      dsimp only
      split
      · rfl
      · rw [rBad_keep h1]
    exact ⟨Ag.err (by rw [e1, e2, a.1]) (by rw [e1]; exact h0), fun q => absurd (e1 ▸ q) h0⟩
theorem lang_ag {s s' : St} (h : Ag s s') : Ag (rLang s).2 (langS s').2 ∧ ((langS s').2.1 = 0 → (rKind s).1 = (kindS s').1 ∧ (rLang s).1 = (langS s').1) := by
  obtain ⟨a, b⟩ := kind_ag h
  by_cases h0 : (kindS s').2.1 = 0
  · have e := b h0
    obtain ⟨c, d⟩ := take_ag (n := kindL (kindS s').1) a
    unfold rLang langS
    rw [e]
    exact ⟨c, fun q => ⟨rfl, d q⟩⟩
  · have e1 := langS_keep h0
    have e2 := rLang_keep (s := s) (by rw [a.1]; exact h0)
    exact ⟨Ag.err (by rw [e1, e2, a.1]) (by rw [e1]; exact h0), fun q => absurd (e1 ▸ q) h0⟩
theorem text_ag {s s' : St} (h : Ag s s') : Ag (rText s).2 (textS s').2 ∧ ((textS s').2.1 = 0 → (rText s).1 = (textS s').1) := by
  obtain ⟨a, b⟩ := num_ag h
  by_cases h0 : (takeS 1 s').2.1 = 0
  · have e := b h0
    unfold rText textS
    rw [e]
    exact take_ag a
  · have e1 : (textS s').2.1 = (takeS 1 s').2.1 := takeS_keep h0
    have e2 : (rText s).2.1 = (rNum s).2.1 := by
      unfold rText
      rw [rTake_keep (by rw [a.1]; exact h0)]
    exact ⟨Ag.err (by rw [e1, e2, a.1]) (by rw [e1]; exact h0), fun q => absurd (e1 ▸ q) h0⟩
theorem term_ag {s s' : St} (h : Ag s s') : Ag (rTerm s).2 (termS s').2 ∧ ((termS s').2.1 = 0 → (rTerm s).1 = (termS s').1) := by
  obtain ⟨a, b⟩ := lang_ag h
  obtain ⟨c, d⟩ := text_ag a
  by_cases h0 : (textS (langS s').2).2.1 = 0
  · have hl : (langS s').2.1 = 0 := Classical.byContradiction fun hh => by rw [textS_keep hh] at h0; exact hh h0
    have e : rRaw s = rawS s' := by
      unfold rRaw rawS
      rw [(b hl).1, (b hl).2, d h0]
    unfold rTerm termS
    dsimp only
    rw [e]
    split
    · exact ⟨c, fun _ => rfl⟩
    · exact ⟨bad_ag c (by decide), fun _ => rfl⟩
  · have e1 := termS_fin (s := s') h0 rfl
    have e2 := rTerm_fin (s := s) (e := (textS (langS s').2).2.1) h0 c.1
    exact ⟨Ag.err (by rw [e1, e2]) (by rw [e1]; exact h0), fun q => absurd (e1 ▸ q) h0⟩
theorem three_ag (f g : St → Tm × St) (H : ∀ {s s' : St}, Ag s s' → Ag (f s).2 (g s').2 ∧ ((g s').2.1 = 0 → (f s).1 = (g s').1)) (K : ∀ {s : St}, s.1 ≠ 0 → (g s).2.1 = s.1) {s s' : St} (h : Ag s s') :
    Ag (f (f (f s).2).2).2 (g (g (g s').2).2).2 ∧ ((g (g (g s').2).2).2.1 = 0 → ((f s).1, (f (f s).2).1, (f (f (f s).2).2).1) = ((g s').1, (g (g s').2).1, (g (g (g s').2).2).1)) := by
  obtain ⟨a1, b1⟩ := H h
  obtain ⟨a2, b2⟩ := H a1
  obtain ⟨a3, b3⟩ := H a2
  refine ⟨a3, fun q3 => ?_⟩
  have q2 : (g (g s').2).2.1 = 0 := Classical.byContradiction fun hh => by rw [K hh] at q3; exact hh q3
  have q1 : (g s').2.1 = 0 := Classical.byContradiction fun hh => by rw [K hh] at q2; exact hh q2
  rw [b1 q1, b2 q2, b3 q3]
theorem trip_ag {s s' : St} (h : Ag s s') : Ag (rTrip s).2 (tripS s').2 ∧ ((tripS s').2.1 = 0 → (rTrip s).1 = (tripS s').1) := by
  delta rTrip tripS
  dsimp only
  exact three_ag rTerm termS (fun h => term_ag h) (fun h => termS_keep h) h
theorem loop_ag (n : Nat) {s s' : St} (h : Ag s s') : Ag (rLoop n s).2 (loopS n s').2 ∧ ((loopS n s').2.1 = 0 → (rLoop n s).1 = (loopS n s').1) := by
  induction n generalizing s s' with
  | zero => exact ⟨h, fun _ => rfl⟩
  | succ n ih =>
    by_cases h0 : s'.1 = 0
    · have h1 : s.1 = 0 := by rw [h.1]; exact h0
      obtain ⟨a, b⟩ := trip_ag h
      obtain ⟨c, d⟩ := ih a
      rw [rLoop_step h1]
      unfold loopS
      rw [if_pos h0]
      refine ⟨c, fun q => ?_⟩
      dsimp only at q ⊢
      have q1 : (tripS s').2.1 = 0 := Classical.byContradiction fun hh => by rw [loopS_keep hh] at q; exact hh q
      rw [b q1, d q]
    · rw [rLoop_keep (by rw [h.1]; exact h0), loopS_keep h0]
      exact ⟨h, fun _ => rfl⟩
theorem size_ag {s s' : St} (h : Ag s s') : Ag (rSize s).2 (sizeS s').2 ∧ ((sizeS s').2.1 = 0 → (rSize s).1 = (sizeS s').1) := by
  have err : ∀ e, e ≠ 0 → (rNum (rNum s).2).2.1 = e → (takeS 2 s').2.1 = e → Ag (rSize s).2 (sizeS s').2 ∧ ((sizeS s').2.1 = 0 → (rSize s).1 = (sizeS s').1) := fun e he h1 h2 => by
    have e1 : (rSize s).2.1 = e := by
      unfold rSize
      dsimp only
      split
      · rw [rBad_keep (by rw [h1]; exact he), h1]
      · exact h1
    have e2 : (sizeS s').2.1 = e := by
      unfold sizeS
      dsimp only
      split
      · rw [endS_keep (by rw [h2]; exact he), h2]
      · exact h2
    exact ⟨Ag.err (by rw [e1, e2]) (by rw [e2]; exact he), fun q => absurd (e2 ▸ q) he⟩
  by_cases h0 : s'.1 = 0
  · have e := h.2 h0
    subst e
    obtain ⟨z, b⟩ := s
    dsimp only at h0
    subst h0
    match b with
    | [] => exact err 8 (by decide) rfl rfl
    | [c] => exact err 8 (by decide) rfl rfl
    | c :: d :: r =>
      have e1 : rNum (0, c :: d :: r) = (c.toNat, (0, d :: r)) := by simp [rNum, rTake, numL]
      have e2 : rNum (0, d :: r) = (d.toNat, (0, r)) := by simp [rNum, rTake, numL]
      have e3 : takeS 2 (0, c :: d :: r) = ([c, d], (0, r)) := takeS_good [c, d] r
      unfold rSize sizeS
      rw [e1]
      dsimp only
      rw [e2, e3]
      dsimp only
      rw [numL_two]
      split
      · exact ⟨bad_ag (Ag.refl _) (by decide), fun _ => rfl⟩
      · exact ⟨Ag.refl _, fun _ => rfl⟩
  · have h1 : s.1 ≠ 0 := by rw [h.1]; exact h0
    refine err s'.1 h0 ?_ (takeS_keep h0)
    rw [rNum_keep h1]
    dsimp only
    rw [rNum_keep h1]
    exact h.1
theorem set_ag {s s' : St} (h : Ag s s') : Ag (rSet s).2 (setS s').2 ∧ ((setS s').2.1 = 0 → (rSet s).1 = (setS s').1) := by
  obtain ⟨a, b⟩ := size_ag h
  by_cases h0 : (sizeS s').2.1 = 0
  · have e := b h0
    unfold rSet setS
    rw [e]
    exact loop_ag _ a
  · have h1 : (rSize s).2.1 ≠ 0 := by rw [a.1]; exact h0
    unfold rSet setS
    rw [rLoop_keep h1, loopS_keep h0]
    exact ⟨a, fun q => absurd q h0⟩
/-- what is told of the whole is the same -/
theorem whole_ag {s s' : St} (h : Ag s s') (M M' : Int) (hM : s'.1 = 0 → M = M') : (if rEnd s = 0 ∧ ¬ M = 0 then 2 else rEnd s) = wholeN M' s' := by
  by_cases h0 : s'.1 = 0
  · have e := h.2 h0
    subst e
    rw [hM h0]
    by_cases hr : s.2 = []
    · have e1 : rEnd s = 0 := by unfold rEnd; rw [if_neg (fun q => q.2 hr), h0]
      rw [e1]
      by_cases hm : M' = 0
      · rw [if_neg (fun q => q.2 hm)]
        unfold wholeN
        rw [if_pos ⟨hm, hr⟩, h0]
      · rw [if_pos ⟨rfl, hm⟩]
        unfold wholeN
        rw [if_neg (fun q => hm q.1)]
        unfold endS
        rw [if_pos h0]
    · have e1 : rEnd s = 2 := if_pos ⟨h0, hr⟩
      rw [e1, if_neg (fun q => absurd q.1 (by decide))]
      unfold wholeN
      rw [if_neg (fun q => hr q.2)]
      unfold endS
      rw [if_pos h0]
  · have h1 : s.1 ≠ 0 := by rw [h.1]; exact h0
    have e : rEnd s = s.1 := if_neg (fun q => h1 q.1)
    rw [e, if_neg (fun q => h1 q.1), wholeN_keep h0, h.1]
end Go.Proofs.YtonmmnhikjfibadGreatDoor
