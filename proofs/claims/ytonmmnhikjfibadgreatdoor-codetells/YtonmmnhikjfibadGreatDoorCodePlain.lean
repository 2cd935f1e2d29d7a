/- Package code: terms, sets and layers as bytes: the plain theory of writing and of reading. -/
import Derived.Test.YtonmmnhikjfibadGreatDoorSetPlain
namespace Go.Proofs.YtonmmnhikjfibadGreatDoor
open Go Go.RowKit Go.Proofs
set_option synthInstance.maxSize 1000

/-- where a reader is: what ended it (0: nothing has), and what is left -/
abbrev St := Int × List UInt8
def okTm (x : Tm) : Int := checkN x.1 x.2.1 x.2.2
def endS (why : Int) (s : St) : St := (if s.1 = 0 then why else s.1, [])
def takeS (n : Nat) (s : St) : List UInt8 × St := if s.2.length < n then ([], endS 8 s) else (s.2.take n, (s.1, s.2.drop n))
/-- a number, the high byte first -/
def numL (l : List UInt8) : Nat := l.foldl (fun n b => n * 256 + b.toNat) 0
/-- which Kind a byte tells, and how many bytes of a Lang follow -/
def kindK (n : Nat) : Int := if n = 7 then 3 else n
def kindL (n : Nat) : Nat := if n = 7 then 2 else 0
def kindB' (n : Nat) : Bool := decide (1 ≤ kindK n ∧ kindK n ≤ 3)
def kindS (s : St) : Nat × St := (numL (takeS 1 s).1, if kindB' (numL (takeS 1 s).1) = true then (takeS 1 s).2 else endS 2 (takeS 1 s).2)
def langS (s : St) : List UInt8 × St := takeS (kindL (kindS s).1) (kindS s).2
def textS (s : St) : List UInt8 × St := takeS (numL (takeS 1 s).1) (takeS 1 s).2
def rawS (s : St) : Tm := (kindK (kindS s).1, (textS (langS s).2).1, (langS s).1)
def termS (s : St) : Tm × St := (rawS s, if okTm (rawS s) = 0 then (textS (langS s).2).2 else endS 2 (textS (langS s).2).2)
def tripS (s : St) : Tr × St := (((termS s).1, (termS (termS s).2).1, (termS (termS (termS s).2).2).1), (termS (termS (termS s).2).2).2)
def loopS : Nat → St → List Tr × St
  | 0, s => ([], s)
  | n + 1, s => if s.1 = 0 then ((tripS s).1 :: (loopS n (tripS s).2).1, (loopS n (tripS s).2).2) else ([], s)
def sizeS (s : St) : Nat × St := (numL (takeS 2 s).1, if 200 < numL (takeS 2 s).1 then endS 2 (takeS 2 s).2 else (takeS 2 s).2)
def setS (s : St) : List Tr × St := loopS (sizeS s).1 (sizeS s).2
/-- what is told of the whole -/
def wholeN (wrong : Int) (s : St) : Int := if wrong = 0 ∧ s.2 = [] then s.1 else (endS 2 s).1

theorem endS_keep {why : Int} {s : St} (h : s.1 ≠ 0) : (endS why s).1 = s.1 := if_neg h
theorem endS_zero {why : Int} {s : St} (hw : why ≠ 0) : (endS why s).1 ≠ 0 := by
  unfold endS
  by_cases h : s.1 = 0
  · rw [if_pos h]; exact hw
  · rw [if_neg h]; exact h
theorem takeS_keep {n : Nat} {s : St} (h : s.1 ≠ 0) : (takeS n s).2.1 = s.1 := by
  unfold takeS
  split
  · exact endS_keep h
  · rfl
theorem kindS_keep {s : St} (h : s.1 ≠ 0) : (kindS s).2.1 = s.1 := by
  unfold kindS
  dsimp only
  have e := takeS_keep (n := 1) h
  split
  · exact e
  · rw [endS_keep (by rw [e]; exact h), e]
theorem langS_keep {s : St} (h : (kindS s).2.1 ≠ 0) : (langS s).2.1 = (kindS s).2.1 := takeS_keep h
theorem textS_keep {s : St} (h : s.1 ≠ 0) : (textS s).2.1 = s.1 := by
  unfold textS
  have e := takeS_keep (n := 1) h
  rw [takeS_keep (by rw [e]; exact h), e]
theorem termS_fin {s : St} {e : Int} (he : e ≠ 0) (h : (textS (langS s).2).2.1 = e) : (termS s).2.1 = e := by
  unfold termS
  dsimp only
  split
  · exact h
  · rw [endS_keep (by rw [h]; exact he), h]
theorem termS_lang {s : St} {e : Int} (he : e ≠ 0) (h : (langS s).2.1 = e) : (termS s).2.1 = e :=
  termS_fin he (by rw [textS_keep (by rw [h]; exact he), h])
theorem termS_kind {s : St} {e : Int} (he : e ≠ 0) (h : (kindS s).2.1 = e) : (termS s).2.1 = e :=
  termS_lang he (by rw [langS_keep (by rw [h]; exact he), h])
theorem termS_keep {s : St} (h : s.1 ≠ 0) : (termS s).2.1 = s.1 := termS_kind h (kindS_keep h)
theorem tripS_keep {s : St} (h : s.1 ≠ 0) : (tripS s).2.1 = s.1 := by
  have e1 := termS_keep h
  have e2 := termS_keep (s := (termS s).2) (by rw [e1]; exact h)
  have e3 := termS_keep (s := (termS (termS s).2).2) (by rw [e2, e1]; exact h)
  unfold tripS
  dsimp only
  rw [e3, e2, e1]
theorem loopS_keep {n : Nat} {s : St} (h : s.1 ≠ 0) : loopS n s = ([], s) := by
  cases n with
  | zero => rfl
  | succ n => exact if_neg h
theorem setS_keep {s : St} (h : s.1 ≠ 0) : (setS s).2.1 = s.1 := by
  have e := takeS_keep (n := 2) h
  have e1 : (sizeS s).2.1 = s.1 := by
    unfold sizeS
    dsimp only
    split
    · rw [endS_keep (by rw [e]; exact h), e]
    · exact e
  unfold setS
  rw [loopS_keep (by rw [e1]; exact h)]
  exact e1

theorem takeS_good (l r : List UInt8) : takeS l.length (0, l ++ r) = (l, (0, r)) := by
  unfold takeS
  rw [if_neg (by simp)]
  simp
theorem takeS_short {n : Nat} {p : List UInt8} (h : p.length < n) : takeS n (0, p) = ([], (8, [])) := if_pos h
theorem takeS_ok {n : Nat} {s : St} (h : (takeS n s).2.1 = 0) : s.1 = 0 ∧ n ≤ s.2.length ∧ takeS n s = (s.2.take n, (0, s.2.drop n)) := by
  have h0 : s.1 = 0 := Classical.byContradiction fun hh => hh (by rw [takeS_keep hh] at h; exact h)
  unfold takeS at h ⊢
  by_cases hl : s.2.length < n
  · rw [if_pos hl] at h
    exact absurd h (endS_zero (by decide))
  · rw [if_neg hl]
    exact ⟨h0, by omega, by rw [h0]⟩

/-- a term as bytes; a set; -/
def encT (x : Tm) : List UInt8 := UInt8.ofNat (x.1.toNat + if x.2.2 = [] then 0 else 4) :: (x.2.2 ++ UInt8.ofNat x.2.1.length :: x.2.1)
def encX (x : Tr) : List UInt8 := encT x.1 ++ (encT x.2.1 ++ encT x.2.2)
def encR (l : List Tr) : List UInt8 := l.flatMap encX
def encS (l : List Tr) : List UInt8 := UInt8.ofNat (l.length / 256) :: UInt8.ofNat l.length :: encR l

theorem ok_parts {x : Tm} (h : okTm x = 0) : (x.1 = 1 ∨ x.1 = 2 ∨ x.1 = 3) ∧ x.2.1.length ≤ 24 ∧ (x.2.2 = [] ∨ x.1 = 3 ∧ x.2.2.length = 2) := by
  obtain ⟨hk, hS, hsp⟩ := check_zero h
  refine ⟨hk, hS, ?_⟩
  unfold spellB at hsp
  rcases hk with e | e | e
  · rw [if_pos e] at hsp
    simp at hsp
    exact Or.inl hsp.1
  · rw [if_neg (by omega), if_pos e] at hsp
    simp at hsp
    exact Or.inl hsp.1
  · rw [if_neg (by omega), if_neg (by omega), if_pos e] at hsp
    simp [langOk] at hsp
    rcases hsp.1 with h1 | h1
    · exact Or.inl h1
    · exact Or.inr ⟨e, h1.1⟩

theorem numL_one (b : UInt8) : numL [b] = b.toNat := by simp [numL]
theorem numL_two (a b : UInt8) : numL [a, b] = a.toNat * 256 + b.toNat := by simp [numL]
theorem take_one (c : UInt8) (r : List UInt8) : takeS 1 (0, c :: r) = ([c], (0, r)) := takeS_good [c] r
theorem toNat_ofNat {n : Nat} (h : n < 256) : (UInt8.ofNat n).toNat = n := by
  simp [UInt8.toNat_ofNat']
  omega

theorem kind_good {x : Tm} (h : okTm x = 0) (r : List UInt8) : ∃ n, kindS (0, UInt8.ofNat (x.1.toNat + if x.2.2 = [] then 0 else 4) :: r) = (n, (0, r)) ∧ kindK n = x.1 ∧ kindL n = x.2.2.length := by
  obtain ⟨hk, -, hL⟩ := ok_parts h
  unfold kindS
  rw [take_one]
  dsimp only
  rw [numL_one]
  rcases hL with hL | ⟨h3, hL⟩
  · rw [if_pos hL, hL]
    rcases hk with e | e | e
    all_goals
      rw [e]
      exact ⟨_, rfl, by decide, by decide⟩
  · rw [if_neg (by intro e; rw [e] at hL; simp at hL), h3, hL]
    exact ⟨_, rfl, by decide, by decide⟩

theorem termS_good {x : Tm} (h : okTm x = 0) (r : List UInt8) : termS (0, encT x ++ r) = (x, (0, r)) := by
  obtain ⟨n, hn, hK, hL⟩ := kind_good h (x.2.2 ++ UInt8.ofNat x.2.1.length :: x.2.1 ++ r)
  have hS := (ok_parts h).2.1
  have e0 : encT x ++ r = UInt8.ofNat (x.1.toNat + if x.2.2 = [] then 0 else 4) :: (x.2.2 ++ UInt8.ofNat x.2.1.length :: x.2.1 ++ r) := rfl
  have hg : langS (0, encT x ++ r) = (x.2.2, (0, UInt8.ofNat x.2.1.length :: (x.2.1 ++ r))) := by
    unfold langS
    rw [e0, hn, hL, List.append_assoc]
    exact takeS_good _ _
  have ht : textS (0, UInt8.ofNat x.2.1.length :: (x.2.1 ++ r)) = (x.2.1, (0, r)) := by
    unfold textS
    rw [take_one, numL_one, toNat_ofNat (by omega)]
    exact takeS_good _ _
  have hr : rawS (0, encT x ++ r) = x := by
    unfold rawS
    rw [hg, ht, e0, hn, hK]
  unfold termS
  rw [hr, hg, ht, if_pos h]

theorem short_kind : (kindS (0, [])).2.1 = 8 := by decide
theorem termS_short {x : Tm} (h : okTm x = 0) {n : Nat} (hn : n < (encT x).length) : (termS (0, (encT x).take n)).2.1 = 8 := by
  have hlen : (encT x).length = 2 + x.2.2.length + x.2.1.length := by simp [encT]; omega
  rw [hlen] at hn
  have hS := (ok_parts h).2.1
  cases n with
  | zero => exact termS_kind (by decide) short_kind
  | succ n =>
    obtain ⟨q, hq, hK, hL⟩ := kind_good h ((x.2.2 ++ UInt8.ofNat x.2.1.length :: x.2.1).take n)
    have e0 : (encT x).take (n + 1) = UInt8.ofNat (x.1.toNat + if x.2.2 = [] then 0 else 4) :: ((x.2.2 ++ UInt8.ofNat x.2.1.length :: x.2.1).take n) := rfl
    rw [e0]
    by_cases h1 : n < x.2.2.length
    · refine termS_lang (by decide) ?_
      unfold langS
      rw [hq, hL, takeS_short (by simp; omega)]
    · obtain ⟨m, rfl⟩ : ∃ m, n = x.2.2.length + m := ⟨n - x.2.2.length, by omega⟩
      refine termS_fin (by decide) ?_
      have hg : langS (0, UInt8.ofNat (x.1.toNat + if x.2.2 = [] then 0 else 4) :: ((x.2.2 ++ UInt8.ofNat x.2.1.length :: x.2.1).take (x.2.2.length + m))) = (x.2.2, (0, (UInt8.ofNat x.2.1.length :: x.2.1).take m)) := by
        unfold langS
        rw [hq, hL, List.take_length_add_append]
        exact takeS_good _ _
      rw [hg]
      unfold textS
      cases m with
      | zero =>
        rw [List.take_zero, takeS_short (by simp)]
        exact takeS_keep (by decide)
      | succ m =>
        rw [List.take_succ_cons, take_one, numL_one, toNat_ofNat (by omega), takeS_short (by simp; omega)]

theorem kindS_ok {s : St} (h : (kindS s).2.1 = 0) : ∃ c r, s = (0, c :: r) ∧ kindS s = (c.toNat, (0, r)) ∧ kindB' c.toNat = true := by
  unfold kindS at h ⊢
  dsimp only at h ⊢
  cases hb : kindB' (numL (takeS 1 s).1)
  · rw [hb] at h
    exact absurd h (endS_zero (by decide))
  · rw [hb, if_pos rfl] at h
    obtain ⟨h0, hl, e⟩ := takeS_ok h
    obtain ⟨e0, b⟩ := s
    dsimp only at h0 hl e
    subst h0
    cases b with
    | nil => simp at hl
    | cons c r =>
      refine ⟨c, r, rfl, ?_, ?_⟩
      · rw [if_pos rfl, e]
        simp [numL]
      · rw [e] at hb
        simpa [numL] using hb

theorem termS_ok {s : St} (h : (termS s).2.1 = 0) : s = (0, encT (termS s).1 ++ (termS s).2.2) ∧ okTm (termS s).1 = 0 := by
  have hk : (kindS s).2.1 = 0 := Classical.byContradiction fun hh => hh (by rw [termS_kind hh rfl] at h; exact h)
  have hg : (langS s).2.1 = 0 := Classical.byContradiction fun hh => hh (by rw [termS_lang hh rfl] at h; exact h)
  have ht : (textS (langS s).2).2.1 = 0 := Classical.byContradiction fun hh => hh (by rw [termS_fin hh rfl] at h; exact h)
  have hok : okTm (rawS s) = 0 := Classical.byContradiction fun hh => by
    unfold termS at h
    dsimp only at h
    rw [if_neg hh] at h
    exact endS_zero (by decide) h
  have e2 : (termS s).2 = (textS (langS s).2).2 := by
    unfold termS
    dsimp only
    rw [if_pos hok]
  have e1 : (termS s).1 = rawS s := rfl
  refine ⟨?_, by rw [e1]; exact hok⟩
  rw [e1, e2]
  obtain ⟨c, r, es, ek, hb⟩ := kindS_ok hk
  obtain ⟨-, hl1, eg⟩ := takeS_ok (n := kindL (kindS s).1) (s := (kindS s).2) hg
  have eg : langS s = _ := eg
  rw [ek] at eg hl1
  dsimp only at eg hl1
  have ht0 := ht
  unfold textS at ht0
  have hm : (takeS 1 (langS s).2).2.1 = 0 := Classical.byContradiction fun hh => hh (by rw [takeS_keep hh] at ht0; exact ht0)
  obtain ⟨-, hl2, em⟩ := takeS_ok hm
  obtain ⟨-, hl3, et⟩ := takeS_ok ht0
  have et : textS (langS s).2 = _ := et
  rw [em] at et hl3
  rw [eg] at et hl2 hl3
  dsimp only at et hl2 hl3
  have er : rawS s = (kindK c.toNat, (textS (langS s).2).1, r.take (kindL c.toNat)) := by
    unfold rawS
    rw [ek, eg]
  obtain ⟨h1, h2, h3⟩ := ok_parts hok
  rw [er] at h1 h2 h3 ⊢
  refine es.trans ?_
  obtain ⟨d, q, hdq⟩ : ∃ d q, r.drop (kindL c.toNat) = d :: q := by
    cases hh : r.drop (kindL c.toNat) with
    | nil => rw [hh] at hl2; simp at hl2
    | cons d q => exact ⟨d, q, rfl⟩
  rw [hdq] at et hl3
  rw [show List.take 1 (d :: q) = [d] from rfl, numL_one, show List.drop 1 (d :: q) = q from rfl] at et
  rw [show List.take 1 (d :: q) = [d] from rfl, numL_one, show List.drop 1 (d :: q) = q from rfl] at hl3
  have et' : textS (langS s).2 = (q.take d.toNat, (0, q.drop d.toNat)) := by
    rw [eg]
    dsimp only
    rw [hdq]
    exact et
  rw [et'] at h2 ⊢
  dsimp only at h2 ⊢
  have hd : UInt8.ofNat (q.take d.toNat).length = d := by
    rw [List.length_take_of_le hl3]
    simp
  have hc : UInt8.ofNat ((kindK c.toNat).toNat + if r.take (kindL c.toNat) = [] then 0 else 4) = c := by
    by_cases hc4 : c.toNat = 7
    · have e1 : kindL c.toNat = 2 := if_pos hc4
      have e2 : kindK c.toNat = 3 := if_pos hc4
      rw [e1] at hl1 ⊢
      rw [e2, if_neg (by intro e; have := congrArg List.length e; rw [List.length_take_of_le hl1] at this; simp at this)]
      apply UInt8.toNat.inj
      rw [hc4]
      rfl
    · have e1 : kindL c.toNat = 0 := if_neg hc4
      have e2 : kindK c.toNat = (c.toNat : Int) := if_neg hc4
      rw [e1, e2]
      simp
  unfold encT
  dsimp only
  rw [hc, hd]
  have : r = r.take (kindL c.toNat) ++ d :: (q.take d.toNat ++ q.drop d.toNat) := by
    rw [List.take_append_drop, ← hdq, List.take_append_drop]
  simp only [List.cons_append, List.append_assoc]
  rw [← this]

/-- triples -/
def okTr (x : Tr) : Prop := okTm x.1 = 0 ∧ okTm x.2.1 = 0 ∧ okTm x.2.2 = 0
theorem tripS_good {x : Tr} (h : okTr x) (r : List UInt8) : tripS (0, encX x ++ r) = (x, (0, r)) := by
  have e1 : termS (0, encX x ++ r) = (x.1, (0, encT x.2.1 ++ (encT x.2.2 ++ r))) := by
    rw [show encX x ++ r = encT x.1 ++ (encT x.2.1 ++ (encT x.2.2 ++ r)) by simp [encX]]
    exact termS_good h.1 _
  unfold tripS
  rw [e1]
  dsimp only
  rw [termS_good h.2.1]
  dsimp only
  rw [termS_good h.2.2]
theorem tripS_short {x : Tr} (h : okTr x) {n : Nat} (hn : n < (encX x).length) : (tripS (0, (encX x).take n)).2.1 = 8 := by
  unfold tripS
  dsimp only
  have e0 : encX x = encT x.1 ++ (encT x.2.1 ++ encT x.2.2) := rfl
  rw [e0] at hn ⊢
  simp only [List.length_append] at hn
  by_cases h1 : n < (encT x.1).length
  · rw [List.take_append_of_le_length (by omega)]
    have e := termS_short h.1 h1
    have e2 := termS_keep (s := (termS (0, (encT x.1).take n)).2) (by rw [e]; decide)
    rw [termS_keep (by rw [e2, e]; decide), e2, e]
  · obtain ⟨m, rfl⟩ : ∃ m, n = (encT x.1).length + m := ⟨n - (encT x.1).length, by omega⟩
    rw [List.take_length_add_append, termS_good h.1]
    dsimp only
    by_cases h2 : m < (encT x.2.1).length
    · rw [List.take_append_of_le_length (by omega)]
      have e := termS_short h.2.1 h2
      rw [termS_keep (by rw [e]; decide), e]
    · obtain ⟨k, rfl⟩ : ∃ k, m = (encT x.2.1).length + k := ⟨m - (encT x.2.1).length, by omega⟩
      rw [List.take_length_add_append, termS_good h.2.1]
      exact termS_short h.2.2 (by omega)
theorem tripS_ok {s : St} (h : (tripS s).2.1 = 0) : s = (0, encX (tripS s).1 ++ (tripS s).2.2) ∧ okTr (tripS s).1 := by
  have h3 : (termS (termS (termS s).2).2).2.1 = 0 := h
  have h2 : (termS (termS s).2).2.1 = 0 := Classical.byContradiction fun hh => hh (by rw [termS_keep hh] at h3; exact h3)
  have h1 : (termS s).2.1 = 0 := Classical.byContradiction fun hh => hh (by rw [termS_keep hh] at h2; exact h2)
  obtain ⟨e1, o1⟩ := termS_ok h1
  obtain ⟨e2, o2⟩ := termS_ok h2
  obtain ⟨e3, o3⟩ := termS_ok h3
  refine ⟨?_, o1, o2, o3⟩
  have f2 : (termS s).2.2 = encT (termS (termS s).2).1 ++ (termS (termS s).2).2.2 := congrArg Prod.snd e2
  have f3 : (termS (termS s).2).2.2 = encT (termS (termS (termS s).2).2).1 ++ (termS (termS (termS s).2).2).2.2 := congrArg Prod.snd e3
  show s = (0, (encT (termS s).1 ++ (encT (termS (termS s).2).1 ++ encT (termS (termS (termS s).2).2).1)) ++ (termS (termS (termS s).2).2).2.2)
  rw [List.append_assoc, List.append_assoc, ← f3, ← f2]
  exact e1

theorem loopS_good (l : List Tr) (h : ∀ x ∈ l, okTr x) (r : List UInt8) : loopS l.length (0, encR l ++ r) = (l, (0, r)) := by
  induction l with
  | nil => rfl
  | cons x l ih =>
    have e : tripS (0, encR (x :: l) ++ r) = (x, (0, encR l ++ r)) := by
      rw [show encR (x :: l) ++ r = encX x ++ (encR l ++ r) by simp [encR]]
      exact tripS_good (h x (List.mem_cons_self ..)) _
    rw [List.length_cons]
    unfold loopS
    rw [if_pos rfl, e]
    dsimp only
    rw [ih (fun y hy => h y (List.mem_cons_of_mem _ hy))]
theorem loopS_short (l : List Tr) (h : ∀ x ∈ l, okTr x) {n : Nat} (hn : n < (encR l).length) : (loopS l.length (0, (encR l).take n)).2.1 = 8 := by
  induction l generalizing n with
  | nil => simp [encR] at hn
  | cons x l ih =>
    have e0 : encR (x :: l) = encX x ++ encR l := by simp [encR]
    rw [e0] at hn ⊢
    rw [List.length_append] at hn
    rw [List.length_cons]
    unfold loopS
    rw [if_pos rfl]
    dsimp only
    by_cases h1 : n < (encX x).length
    · rw [List.take_append_of_le_length (by omega)]
      have e := tripS_short (h x (List.mem_cons_self ..)) h1
      rw [loopS_keep (by rw [e]; decide)]
      exact e
    · obtain ⟨m, rfl⟩ : ∃ m, n = (encX x).length + m := ⟨n - (encX x).length, by omega⟩
      rw [List.take_length_add_append, tripS_good (h x (List.mem_cons_self ..))]
      exact ih (fun y hy => h y (List.mem_cons_of_mem _ hy)) (by omega)
theorem loopS_ok (n : Nat) (s : St) (h : (loopS n s).2.1 = 0) : (loopS n s).1.length = n ∧ s = (0, encR (loopS n s).1 ++ (loopS n s).2.2) ∧ ∀ x ∈ (loopS n s).1, okTr x := by
  induction n generalizing s with
  | zero =>
    obtain ⟨e, b⟩ := s
    have h0 : e = 0 := h
    subst h0
    exact ⟨rfl, by simp [loopS, encR], by simp [loopS]⟩
  | succ n ih =>
    have h0 : s.1 = 0 := Classical.byContradiction fun hh => hh (by rw [loopS_keep hh] at h; exact h)
    unfold loopS at h ⊢
    rw [if_pos h0] at h ⊢
    dsimp only at h ⊢
    obtain ⟨a, b, c⟩ := ih _ h
    have ht : (tripS s).2.1 = 0 := congrArg Prod.fst b
    obtain ⟨d, f⟩ := tripS_ok ht
    refine ⟨by rw [List.length_cons, a], ?_, ?_⟩
    · have b2 : (tripS s).2.2 = _ := congrArg Prod.snd b
      dsimp only at b2
      show s = (0, encR ((tripS s).1 :: (loopS n (tripS s).2).1) ++ _)
      rw [show encR ((tripS s).1 :: (loopS n (tripS s).2).1) = encX (tripS s).1 ++ encR (loopS n (tripS s).2).1 by simp [encR], List.append_assoc, ← b2]
      exact d
    · intro x hx
      rcases List.mem_cons.1 hx with e | e
      · rw [e]; exact f
      · exact c x e

theorem sizeS_good (l : List Tr) (hl : l.length ≤ 200) (r : List UInt8) : sizeS (0, UInt8.ofNat (l.length / 256) :: UInt8.ofNat l.length :: r) = (l.length, (0, r)) := by
  have e : takeS 2 (0, UInt8.ofNat (l.length / 256) :: UInt8.ofNat l.length :: r) = ([UInt8.ofNat (l.length / 256), UInt8.ofNat l.length], (0, r)) := takeS_good [_, _] r
  unfold sizeS
  rw [e]
  dsimp only
  rw [numL_two, toNat_ofNat (by omega), toNat_ofNat (by omega), show l.length / 256 * 256 + l.length = l.length by omega, if_neg (by omega)]
theorem setS_good (l : List Tr) (hl : l.length ≤ 200) (h : ∀ x ∈ l, okTr x) (r : List UInt8) : setS (0, encS l ++ r) = (l, (0, r)) := by
  unfold setS
  rw [show encS l ++ r = UInt8.ofNat (l.length / 256) :: UInt8.ofNat l.length :: (encR l ++ r) from rfl, sizeS_good l hl]
  exact loopS_good l h r
theorem setS_short (l : List Tr) (hl : l.length ≤ 200) (h : ∀ x ∈ l, okTr x) {n : Nat} (hn : n < (encS l).length) : (setS (0, (encS l).take n)).2.1 = 8 := by
  have two : ∀ p : List UInt8, p.length < 2 → (setS (0, p)).2.1 = 8 := fun p hp => by
    have e : sizeS (0, p) = (0, (8, [])) := by
      unfold sizeS
      rw [takeS_short hp]
      decide
    unfold setS
    rw [e]
    rfl
  unfold encS at hn ⊢
  match n, hn with
  | 0, _ => exact two _ (by simp)
  | 1, _ => exact two _ (by simp)
  | n + 2, hn =>
    rw [List.take_succ_cons, List.take_succ_cons]
    unfold setS
    rw [sizeS_good l hl]
    exact loopS_short l h (by simp at hn; omega)
theorem setS_ok {s : St} (h : (setS s).2.1 = 0) : s = (0, encS (setS s).1 ++ (setS s).2.2) ∧ (∀ x ∈ (setS s).1, okTr x) ∧ (setS s).1.length ≤ 200 := by
  obtain ⟨a, b, c⟩ := loopS_ok _ _ h
  have hz : (sizeS s).2.1 = 0 := congrArg Prod.fst b
  have b2 : (sizeS s).2.2 = _ := congrArg Prod.snd b
  dsimp only at b2
  by_cases hbig : 200 < numL (takeS 2 s).1
  · unfold sizeS at hz
    dsimp only at hz
    rw [if_pos hbig] at hz
    exact absurd hz (endS_zero (by decide))
  have e2 : (sizeS s).2 = (takeS 2 s).2 := by
    unfold sizeS
    dsimp only
    rw [if_neg hbig]
  have e1 : (sizeS s).1 = numL (takeS 2 s).1 := rfl
  have ht : (takeS 2 s).2.1 = 0 := by rw [← e2]; exact hz
  obtain ⟨h0, hl, et⟩ := takeS_ok ht
  have a : (setS s).1.length = (sizeS s).1 := a
  refine ⟨?_, c, by rw [a, e1]; omega⟩
  have b2 : (sizeS s).2.2 = encR (setS s).1 ++ (setS s).2.2 := b2
  obtain ⟨e0, bs⟩ := s
  dsimp only at h0 hl et
  subst h0
  match bs, hl with
  | u :: v :: r, _ =>
    have en : numL (takeS 2 (0, u :: v :: r)).1 = u.toNat * 256 + v.toNat := by rw [et]; simp [numL]
    have er : (sizeS (0, u :: v :: r)).2.2 = r := by rw [e2, et]; rfl
    rw [er] at b2
    rw [e1, en] at a
    rw [en] at hbig
    unfold encS
    rw [List.cons_append, List.cons_append, ← b2, a]
    have hv := v.toNat_lt
    have hu0 : u.toNat = 0 := by omega
    have hu : UInt8.ofNat ((u.toNat * 256 + v.toNat) / 256) = u := by
      apply UInt8.toNat.inj
      rw [toNat_ofNat (by omega), hu0]
      omega
    have hv' : UInt8.ofNat (u.toNat * 256 + v.toNat) = v := by
      apply UInt8.toNat.inj
      rw [hu0, toNat_ofNat (by omega)]
      omega
    rw [hu, hv']

theorem wholeN_good {r : List UInt8} : wholeN 0 (0, r) = if r = [] then 0 else 2 := by
  unfold wholeN endS
  by_cases h : r = []
  · simp [h]
  · simp [h]
theorem wholeN_keep {wrong : Int} {s : St} (h : s.1 ≠ 0) : wholeN wrong s = s.1 := by
  unfold wholeN
  split
  · rfl
  · exact endS_keep h
theorem wholeN_zero {wrong : Int} {s : St} (h : wholeN wrong s = 0) : wrong = 0 ∧ s = (0, []) := by
  unfold wholeN at h
  by_cases hh : wrong = 0 ∧ s.2 = []
  · rw [if_pos hh] at h
    exact ⟨hh.1, Prod.ext h hh.2⟩
  · rw [if_neg hh] at h
    exact absurd h (endS_zero (by decide))
end Go.Proofs.YtonmmnhikjfibadGreatDoor
