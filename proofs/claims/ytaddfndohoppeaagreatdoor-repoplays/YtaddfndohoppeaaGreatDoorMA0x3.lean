import Derived.Test.YtaddfndohoppeaaGreatDoorMA0x2
import Derived.Test.YtaddfndohoppeaaGreatDoorMA0x0

/- Package code: terms, sets and layers as bytes: the plain theory of writing and of reading. -/
namespace Go.Proofs.YtaddfndohoppeaaGreatDoor
open Go Go.RowKit Go.Proofs
set_option synthInstance.maxSize 1000

/-- where a reader is: what ended it (0: nothing has), and what is left -/
abbrev St := Int × List UInt8
def okTm (x : Tm) : Int := checkN x.1 x.2.1 x.2.2
def endS (why : Int) (s : St) : St := (if s.1 = 0 then why else s.1, [])
def takeS (n : Nat) (s : St) : List UInt8 × St := if s.2.length < n then ([], endS 8 s) else (s.2.take n, (s.1, s.2.drop n))
/-- a number, the high byte first -/
def numL (l : List UInt8) : Nat := l.foldl (fun n b => n * 256 + b.toNat) 0
/-- which Kind a byte tells, and how many bytes of a Lang follow -/
def kindK (n : Nat) : Int := if n = 7 then 3 else n
def kindL (n : Nat) : Nat := if n = 7 then 2 else 0
def kindB' (n : Nat) : Bool := decide (1 ≤ kindK n ∧ kindK n ≤ 3)
def kindS (s : St) : Nat × St := (numL (takeS 1 s).1, if kindB' (numL (takeS 1 s).1) = true then (takeS 1 s).2 else endS 2 (takeS 1 s).2)
def langS (s : St) : List UInt8 × St := takeS (kindL (kindS s).1) (kindS s).2
def textS (s : St) : List UInt8 × St := takeS (numL (takeS 1 s).1) (takeS 1 s).2
def rawS (s : St) : Tm := (kindK (kindS s).1, (textS (langS s).2).1, (langS s).1)
def termS (s : St) : Tm × St := (rawS s, if okTm (rawS s) = 0 then (textS (langS s).2).2 else endS 2 (textS (langS s).2).2)
def tripS (s : St) : Tr × St := (((termS s).1, (termS (termS s).2).1, (termS (termS (termS s).2).2).1), (termS (termS (termS s).2).2).2)
def loopS : Nat → St → List Tr × St
  | 0, s => ([], s)
  | n + 1, s => if s.1 = 0 then ((tripS s).1 :: (loopS n (tripS s).2).1, (loopS n (tripS s).2).2) else ([], s)
def sizeS (s : St) : Nat × St := (numL (takeS 2 s).1, if 200 < numL (takeS 2 s).1 then endS 2 (takeS 2 s).2 else (takeS 2 s).2)
def setS (s : St) : List Tr × St := loopS (sizeS s).1 (sizeS s).2
/-- what is told of the whole -/
def wholeN (wrong : Int) (s : St) : Int := if wrong = 0 ∧ s.2 = [] then s.1 else (endS 2 s).1

theorem endS_keep {why : Int} {s : St} (h : s.1 ≠ 0) : (endS why s).1 = s.1 := if_neg h
theorem endS_zero {why : Int} {s : St} (hw : why ≠ 0) : (endS why s).1 ≠ 0 := by
  unfold endS
  by_cases h : s.1 = 0
  · rw [if_pos h]; exact hw
  · rw [if_neg h]; exact h
theorem takeS_keep {n : Nat} {s : St} (h : s.1 ≠ 0) : (takeS n s).2.1 = s.1 := by
  unfold takeS
  split
  · exact endS_keep h
  · rfl
theorem kindS_keep {s : St} (h : s.1 ≠ 0) : (kindS s).2.1 = s.1 := by
  unfold kindS
  dsimp only
  have e := takeS_keep (n := 1) h
  split
  · exact e
  · rw [endS_keep (by rw [e]; exact h), e]
theorem langS_keep {s : St} (h : (kindS s).2.1 ≠ 0) : (langS s).2.1 = (kindS s).2.1 := takeS_keep h
theorem textS_keep {s : St} (h : s.1 ≠ 0) : (textS s).2.1 = s.1 := by
  unfold textS
  have e := takeS_keep (n := 1) h
  rw [takeS_keep (by rw [e]; exact h), e]
theorem termS_fin {s : St} {e : Int} (he : e ≠ 0) (h : (textS (langS s).2).2.1 = e) : (termS s).2.1 = e := by
  unfold termS
  dsimp only
  split
  · exact h
  · rw [endS_keep (by rw [h]; exact he), h]
theorem termS_lang {s : St} {e : Int} (he : e ≠ 0) (h : (langS s).2.1 = e) : (termS s).2.1 = e :=
  termS_fin he (by rw [textS_keep (by rw [h]; exact he), h])
theorem termS_kind {s : St} {e : Int} (he : e ≠ 0) (h : (kindS s).2.1 = e) : (termS s).2.1 = e :=
  termS_lang he (by rw [langS_keep (by rw [h]; exact he), h])
theorem termS_keep {s : St} (h : s.1 ≠ 0) : (termS s).2.1 = s.1 := termS_kind h (kindS_keep h)
theorem tripS_keep {s : St} (h : s.1 ≠ 0) : (tripS s).2.1 = s.1 := by
  have e1 := termS_keep h
  have e2 := termS_keep (s := (termS s).2) (by rw [e1]; exact h)
  have e3 := termS_keep (s := (termS (termS s).2).2) (by rw [e2, e1]; exact h)
  unfold tripS
  dsimp only
  rw [e3, e2, e1]
theorem loopS_keep {n : Nat} {s : St} (h : s.1 ≠ 0) : loopS n s = ([], s) := by
  cases n with
  | zero => rfl
  | succ n => exact if_neg h
theorem setS_keep {s : St} (h : s.1 ≠ 0) : (setS s).2.1 = s.1 := by
  have e := takeS_keep (n := 2) h
  have e1 : (sizeS s).2.1 = s.1 := by
    unfold sizeS
    dsimp only
    split
    · rw [endS_keep (by rw [e]; exact h), e]
    · exact e
  unfold setS
  rw [loopS_keep (by rw [e1]; exact h)]
  exact e1

theorem takeS_good (l r : List UInt8) : takeS l.length (0, l ++ r) = (l, (0, r)) := by
  unfold takeS
  rw [if_neg (by simp)]
  simp
theorem takeS_short {n : Nat} {p : List UInt8} (h : p.length < n) : takeS n (0, p) = ([], (8, [])) := if_pos h
theorem takeS_ok {n : Nat} {s : St} (h : (takeS n s).2.1 = 0) : s.1 = 0 ∧ n ≤ s.2.length ∧ takeS n s = (s.2.take n, (0, s.2.drop n)) := by
  have h0 : s.1 = 0 := Classical.byContradiction fun hh => hh (by rw [takeS_keep hh] at h; exact h)
  unfold takeS at h ⊢
  by_cases hl : s.2.length < n
  · rw [if_pos hl] at h
    exact absurd h (endS_zero (by decide))
  · rw [if_neg hl]
    exact ⟨h0, by omega, by rw [h0]⟩

/-- a term as bytes; a set; -/
def encT (x : Tm) : List UInt8 := UInt8.ofNat (x.1.toNat + if x.2.2 = [] then 0 else 4) :: (x.2.2 ++ UInt8.ofNat x.2.1.length :: x.2.1)
def encX (x : Tr) : List UInt8 := encT x.1 ++ (encT x.2.1 ++ encT x.2.2)
def encR (l : List Tr) : List UInt8 := l.flatMap encX
def encS (l : List Tr) : List UInt8 := UInt8.ofNat (l.length / 256) :: UInt8.ofNat l.length :: encR l

theorem ok_parts {x : Tm} (h : okTm x = 0) : (x.1 = 1 ∨ x.1 = 2 ∨ x.1 = 3) ∧ x.2.1.length ≤ 24 ∧ (x.2.2 = [] ∨ x.1 = 3 ∧ x.2.2.length = 2) := by
  obtain ⟨hk, hS, hsp⟩ := check_zero h
  refine ⟨hk, hS, ?_⟩
  unfold spellB at hsp
  rcases hk with e | e | e
  · rw [if_pos e] at hsp
    simp at hsp
    exact Or.inl hsp.1
  · rw [if_neg (by omega), if_pos e] at hsp
    simp at hsp
    exact Or.inl hsp.1
  · rw [if_neg (by omega), if_neg (by omega), if_pos e] at hsp
    simp [langOk] at hsp
    rcases hsp.1 with h1 | h1
    · exact Or.inl h1
    · exact Or.inr ⟨e, h1.1⟩

theorem numL_one (b : UInt8) : numL [b] = b.toNat := by simp [numL]
theorem numL_two (a b : UInt8) : numL [a, b] = a.toNat * 256 + b.toNat := by simp [numL]
theorem take_one (c : UInt8) (r : List UInt8) : takeS 1 (0, c :: r) = ([c], (0, r)) := takeS_good [c] r
theorem toNat_ofNat {n : Nat} (h : n < 256) : (UInt8.ofNat n).toNat = n := by
  simp [UInt8.toNat_ofNat']
  omega

theorem kind_good {x : Tm} (h : okTm x = 0) (r : List UInt8) : ∃ n, kindS (0, UInt8.ofNat (x.1.toNat + if x.2.2 = [] then 0 else 4) :: r) = (n, (0, r)) ∧ kindK n = x.1 ∧ kindL n = x.2.2.length := by
  obtain ⟨hk, -, hL⟩ := ok_parts h
  unfold kindS
  rw [take_one]
  dsimp only
  rw [numL_one]
  rcases hL with hL | ⟨h3, hL⟩
  · rw [if_pos hL, hL]
    rcases hk with e | e | e
    all_goals
      rw [e]
      exact ⟨_, rfl, by decide, by decide⟩
  · rw [if_neg (by intro e; rw [e] at hL; simp at hL), h3, hL]
    exact ⟨_, rfl, by decide, by decide⟩

theorem termS_good {x : Tm} (h : okTm x = 0) (r : List UInt8) : termS (0, encT x ++ r) = (x, (0, r)) := by
  obtain ⟨n, hn, hK, hL⟩ := kind_good h (x.2.2 ++ UInt8.ofNat x.2.1.length :: x.2.1 ++ r)
  have hS := (ok_parts h).2.1
  have e0 : encT x ++ r = UInt8.ofNat (x.1.toNat + if x.2.2 = [] then 0 else 4) :: (x.2.2 ++ UInt8.ofNat x.2.1.length :: x.2.1 ++ r) := rfl
  have hg : langS (0, encT x ++ r) = (x.2.2, (0, UInt8.ofNat x.2.1.length :: (x.2.1 ++ r))) := by
    unfold langS
    rw [e0, hn, hL, List.append_assoc]
    exact takeS_good _ _
  have ht : textS (0, UInt8.ofNat x.2.1.length :: (x.2.1 ++ r)) = (x.2.1, (0, r)) := by
    unfold textS
    rw [take_one, numL_one, toNat_ofNat (by omega)]
    exact takeS_good _ _
  have hr : rawS (0, encT x ++ r) = x := by
    unfold rawS
    rw [hg, ht, e0, hn, hK]
  unfold termS
  rw [hr, hg, ht, if_pos h]

theorem short_kind : (kindS (0, [])).2.1 = 8 := by decide
theorem termS_short {x : Tm} (h : okTm x = 0) {n : Nat} (hn : n < (encT x).length) : (termS (0, (encT x).take n)).2.1 = 8 := by
  have hlen : (encT x).length = 2 + x.2.2.length + x.2.1.length := by simp [encT]; omega
  rw [hlen] at hn
  have hS := (ok_parts h).2.1
  cases n with
  | zero => exact termS_kind (by decide) short_kind
  | succ n =>
    obtain ⟨q, hq, hK, hL⟩ := kind_good h ((x.2.2 ++ UInt8.ofNat x.2.1.length :: x.2.1).take n)
    have e0 : (encT x).take (n + 1) = UInt8.ofNat (x.1.toNat + if x.2.2 = [] then 0 else 4) :: ((x.2.2 ++ UInt8.ofNat x.2.1.length :: x.2.1).take n) := rfl
    rw [e0]
    by_cases h1 : n < x.2.2.length
    · refine termS_lang (by decide) ?_
      unfold langS
      rw [hq, hL, takeS_short (by simp; omega)]
    · obtain ⟨m, rfl⟩ : ∃ m, n = x.2.2.length + m := ⟨n - x.2.2.length, by omega⟩
      refine termS_fin (by decide) ?_
      have hg : langS (0, UInt8.ofNat (x.1.toNat + if x.2.2 = [] then 0 else 4) :: ((x.2.2 ++ UInt8.ofNat x.2.1.length :: x.2.1).take (x.2.2.length + m))) = (x.2.2, (0, (UInt8.ofNat x.2.1.length :: x.2.1).take m)) := by
        unfold langS
        rw [hq, hL, List.take_length_add_append]
        exact takeS_good _ _
      rw [hg]
      unfold textS
      cases m with
      | zero =>
        rw [List.take_zero, takeS_short (by simp)]
        exact takeS_keep (by decide)
      | succ m =>
        rw [List.take_succ_cons, take_one, numL_one, toNat_ofNat (by omega), takeS_short (by simp; omega)]

theorem kindS_ok {s : St} (h : (kindS s).2.1 = 0) : ∃ c r, s = (0, c :: r) ∧ kindS s = (c.toNat, (0, r)) ∧ kindB' c.toNat = true := by
  unfold kindS at h ⊢
  dsimp only at h ⊢
  cases hb : kindB' (numL (takeS 1 s).1)
  · rw [hb] at h
    exact absurd h (endS_zero (by decide))
  · rw [hb, if_pos rfl] at h
    obtain ⟨h0, hl, e⟩ := takeS_ok h
    obtain ⟨e0, b⟩ := s
    dsimp only at h0 hl e
    subst h0
    cases b with
    | nil => simp at hl
    | cons c r =>
      refine ⟨c, r, rfl, ?_, ?_⟩
      · rw [if_pos rfl, e]
        simp [numL]
      · rw [e] at hb
        simpa [numL] using hb

theorem termS_ok {s : St} (h : (termS s).2.1 = 0) : s = (0, encT (termS s).1 ++ (termS s).2.2) ∧ okTm (termS s).1 = 0 := by
  have hk : (kindS s).2.1 = 0 := Classical.byContradiction fun hh => hh (by rw [termS_kind hh rfl] at h; exact h)
  have hg : (langS s).2.1 = 0 := Classical.byContradiction fun hh => hh (by rw [termS_lang hh rfl] at h; exact h)
  have ht : (textS (langS s).2).2.1 = 0 := Classical.byContradiction fun hh => hh (by rw [termS_fin hh rfl] at h; exact h)
  have hok : okTm (rawS s) = 0 := Classical.byContradiction fun hh => by
    unfold termS at h
    dsimp only at h
    rw [if_neg hh] at h
    exact endS_zero (by decide) h
  have e2 : (termS s).2 = (textS (langS s).2).2 := by
    unfold termS
    dsimp only
    rw [if_pos hok]
  have e1 : (termS s).1 = rawS s := rfl
  refine ⟨?_, by rw [e1]; exact hok⟩
  rw [e1, e2]
  obtain ⟨c, r, es, ek, hb⟩ := kindS_ok hk
  obtain ⟨-, hl1, eg⟩ := takeS_ok (n := kindL (kindS s).1) (s := (kindS s).2) hg
  have eg : langS s = _ := eg
  rw [ek] at eg hl1
  dsimp only at eg hl1
  have ht0 := ht
  unfold textS at ht0
  have hm : (takeS 1 (langS s).2).2.1 = 0 := Classical.byContradiction fun hh => hh (by rw [takeS_keep hh] at ht0; exact ht0)
  obtain ⟨-, hl2, em⟩ := takeS_ok hm
  obtain ⟨-, hl3, et⟩ := takeS_ok ht0
  have et : textS (langS s).2 = _ := et
  rw [em] at et hl3
  rw [eg] at et hl2 hl3
  dsimp only at et hl2 hl3
  have er : rawS s = (kindK c.toNat, (textS (langS s).2).1, r.take (kindL c.toNat)) := by
    unfold rawS
    rw [ek, eg]
  obtain ⟨h1, h2, h3⟩ := ok_parts hok
  rw [er] at h1 h2 h3 ⊢
  refine es.trans ?_
  obtain ⟨d, q, hdq⟩ : ∃ d q, r.drop (kindL c.toNat) = d :: q := by
    cases hh : r.drop (kindL c.toNat) with
    | nil => rw [hh] at hl2; simp at hl2
    | cons d q => exact ⟨d, q, rfl⟩
  rw [hdq] at et hl3
  rw [show List.take 1 (d :: q) = [d] from rfl, numL_one, show List.drop 1 (d :: q) = q from rfl] at et
  rw [show List.take 1 (d :: q) = [d] from rfl, numL_one, show List.drop 1 (d :: q) = q from rfl] at hl3
  have et' : textS (langS s).2 = (q.take d.toNat, (0, q.drop d.toNat)) := by
    rw [eg]
    dsimp only
    rw [hdq]
    exact et
  rw [et'] at h2 ⊢
  dsimp only at h2 ⊢
  have hd : UInt8.ofNat (q.take d.toNat).length = d := by
    rw [List.length_take_of_le hl3]
    simp
  have hc : UInt8.ofNat ((kindK c.toNat).toNat + if r.take (kindL c.toNat) = [] then 0 else 4) = c := by
    by_cases hc4 : c.toNat = 7
    · have e1 : kindL c.toNat = 2 := if_pos hc4
      have e2 : kindK c.toNat = 3 := if_pos hc4
      rw [e1] at hl1 ⊢
      rw [e2, if_neg (by intro e; have := congrArg List.length e; rw [List.length_take_of_le hl1] at this; simp at this)]
      apply UInt8.toNat.inj
      rw [hc4]
      rfl
    · have e1 : kindL c.toNat = 0 := if_neg hc4
      have e2 : kindK c.toNat = (c.toNat : Int) := if_neg hc4
      rw [e1, e2]
      simp
  unfold encT
  dsimp only
  rw [hc, hd]
  have : r = r.take (kindL c.toNat) ++ d :: (q.take d.toNat ++ q.drop d.toNat) := by
    rw [List.take_append_drop, ← hdq, List.take_append_drop]
  simp only [List.cons_append, List.append_assoc]
  rw [← this]

/-- triples -/
def okTr (x : Tr) : Prop := okTm x.1 = 0 ∧ okTm x.2.1 = 0 ∧ okTm x.2.2 = 0
theorem tripS_good {x : Tr} (h : okTr x) (r : List UInt8) : tripS (0, encX x ++ r) = (x, (0, r)) := by
  have e1 : termS (0, encX x ++ r) = (x.1, (0, encT x.2.1 ++ (encT x.2.2 ++ r))) := by
    rw [show encX x ++ r = encT x.1 ++ (encT x.2.1 ++ (encT x.2.2 ++ r)) by simp [encX]]
    exact termS_good h.1 _
  unfold tripS
  rw [e1]
  dsimp only
  rw [termS_good h.2.1]
  dsimp only
  rw [termS_good h.2.2]
theorem tripS_short {x : Tr} (h : okTr x) {n : Nat} (hn : n < (encX x).length) : (tripS (0, (encX x).take n)).2.1 = 8 := by
  unfold tripS
  dsimp only
  have e0 : encX x = encT x.1 ++ (encT x.2.1 ++ encT x.2.2) := rfl
  rw [e0] at hn ⊢
  simp only [List.length_append] at hn
  by_cases h1 : n < (encT x.1).length
  · rw [List.take_append_of_le_length (by omega)]
    have e := termS_short h.1 h1
    have e2 := termS_keep (s := (termS (0, (encT x.1).take n)).2) (by rw [e]; decide)
    rw [termS_keep (by rw [e2, e]; decide), e2, e]
  · obtain ⟨m, rfl⟩ : ∃ m, n = (encT x.1).length + m := ⟨n - (encT x.1).length, by omega⟩
    rw [List.take_length_add_append, termS_good h.1]
    dsimp only
    by_cases h2 : m < (encT x.2.1).length
    · rw [List.take_append_of_le_length (by omega)]
      have e := termS_short h.2.1 h2
      rw [termS_keep (by rw [e]; decide), e]
    · obtain ⟨k, rfl⟩ : ∃ k, m = (encT x.2.1).length + k := ⟨m - (encT x.2.1).length, by omega⟩
      rw [List.take_length_add_append, termS_good h.2.1]
      exact termS_short h.2.2 (by omega)
theorem tripS_ok {s : St} (h : (tripS s).2.1 = 0) : s = (0, encX (tripS s).1 ++ (tripS s).2.2) ∧ okTr (tripS s).1 := by
  have h3 : (termS (termS (termS s).2).2).2.1 = 0 := h
  have h2 : (termS (termS s).2).2.1 = 0 := Classical.byContradiction fun hh => hh (by rw [termS_keep hh] at h3; exact h3)
  have h1 : (termS s).2.1 = 0 := Classical.byContradiction fun hh => hh (by rw [termS_keep hh] at h2; exact h2)
  obtain ⟨e1, o1⟩ := termS_ok h1
  obtain ⟨e2, o2⟩ := termS_ok h2
  obtain ⟨e3, o3⟩ := termS_ok h3
  refine ⟨?_, o1, o2, o3⟩
  have f2 : (termS s).2.2 = encT (termS (termS s).2).1 ++ (termS (termS s).2).2.2 := congrArg Prod.snd e2
  have f3 : (termS (termS s).2).2.2 = encT (termS (termS (termS s).2).2).1 ++ (termS (termS (termS s).2).2).2.2 := congrArg Prod.snd e3
  show s = (0, (encT (termS s).1 ++ (encT (termS (termS s).2).1 ++ encT (termS (termS (termS s).2).2).1)) ++ (termS (termS (termS s).2).2).2.2)
  rw [List.append_assoc, List.append_assoc, ← f3, ← f2]
  exact e1

theorem loopS_good (l : List Tr) (h : ∀ x ∈ l, okTr x) (r : List UInt8) : loopS l.length (0, encR l ++ r) = (l, (0, r)) := by
  induction l with
  | nil => rfl
  | cons x l ih =>
    have e : tripS (0, encR (x :: l) ++ r) = (x, (0, encR l ++ r)) := by
      rw [show encR (x :: l) ++ r = encX x ++ (encR l ++ r) by simp [encR]]
      exact tripS_good (h x (List.mem_cons_self ..)) _
    rw [List.length_cons]
    unfold loopS
    rw [if_pos rfl, e]
    dsimp only
    rw [ih (fun y hy => h y (List.mem_cons_of_mem _ hy))]
theorem loopS_short (l : List Tr) (h : ∀ x ∈ l, okTr x) {n : Nat} (hn : n < (encR l).length) : (loopS l.length (0, (encR l).take n)).2.1 = 8 := by
  induction l generalizing n with
  | nil => simp [encR] at hn
  | cons x l ih =>
    have e0 : encR (x :: l) = encX x ++ encR l := by simp [encR]
    rw [e0] at hn ⊢
    rw [List.length_append] at hn
    rw [List.length_cons]
    unfold loopS
    rw [if_pos rfl]
    dsimp only
    by_cases h1 : n < (encX x).length
    · rw [List.take_append_of_le_length (by omega)]
      have e := tripS_short (h x (List.mem_cons_self ..)) h1
      rw [loopS_keep (by rw [e]; decide)]
      exact e
    · obtain ⟨m, rfl⟩ : ∃ m, n = (encX x).length + m := ⟨n - (encX x).length, by omega⟩
      rw [List.take_length_add_append, tripS_good (h x (List.mem_cons_self ..))]
      exact ih (fun y hy => h y (List.mem_cons_of_mem _ hy)) (by omega)
theorem loopS_ok (n : Nat) (s : St) (h : (loopS n s).2.1 = 0) : (loopS n s).1.length = n ∧ s = (0, encR (loopS n s).1 ++ (loopS n s).2.2) ∧ ∀ x ∈ (loopS n s).1, okTr x := by
  induction n generalizing s with
  | zero =>
    obtain ⟨e, b⟩ := s
    have h0 : e = 0 := h
    subst h0
    exact ⟨rfl, by simp [loopS, encR], by simp [loopS]⟩
  | succ n ih =>
    have h0 : s.1 = 0 := Classical.byContradiction fun hh => hh (by rw [loopS_keep hh] at h; exact h)
    unfold loopS at h ⊢
    rw [if_pos h0] at h ⊢
    dsimp only at h ⊢
    obtain ⟨a, b, c⟩ := ih _ h
    have ht : (tripS s).2.1 = 0 := congrArg Prod.fst b
    obtain ⟨d, f⟩ := tripS_ok ht
    refine ⟨by rw [List.length_cons, a], ?_, ?_⟩
    · have b2 : (tripS s).2.2 = _ := congrArg Prod.snd b
      dsimp only at b2
      show s = (0, encR ((tripS s).1 :: (loopS n (tripS s).2).1) ++ _)
      rw [show encR ((tripS s).1 :: (loopS n (tripS s).2).1) = encX (tripS s).1 ++ encR (loopS n (tripS s).2).1 by simp [encR], List.append_assoc, ← b2]
      exact d
    · intro x hx
      rcases List.mem_cons.1 hx with e | e
      · rw [e]; exact f
      · exact c x e

theorem sizeS_good (l : List Tr) (hl : l.length ≤ 200) (r : List UInt8) : sizeS (0, UInt8.ofNat (l.length / 256) :: UInt8.ofNat l.length :: r) = (l.length, (0, r)) := by
  have e : takeS 2 (0, UInt8.ofNat (l.length / 256) :: UInt8.ofNat l.length :: r) = ([UInt8.ofNat (l.length / 256), UInt8.ofNat l.length], (0, r)) := takeS_good [_, _] r
  unfold sizeS
  rw [e]
  dsimp only
  rw [numL_two, toNat_ofNat (by omega), toNat_ofNat (by omega), show l.length / 256 * 256 + l.length = l.length by omega, if_neg (by omega)]
theorem setS_good (l : List Tr) (hl : l.length ≤ 200) (h : ∀ x ∈ l, okTr x) (r : List UInt8) : setS (0, encS l ++ r) = (l, (0, r)) := by
  unfold setS
  rw [show encS l ++ r = UInt8.ofNat (l.length / 256) :: UInt8.ofNat l.length :: (encR l ++ r) from rfl, sizeS_good l hl]
  exact loopS_good l h r
theorem setS_short (l : List Tr) (hl : l.length ≤ 200) (h : ∀ x ∈ l, okTr x) {n : Nat} (hn : n < (encS l).length) : (setS (0, (encS l).take n)).2.1 = 8 := by
  have two : ∀ p : List UInt8, p.length < 2 → (setS (0, p)).2.1 = 8 := fun p hp => by
    have e : sizeS (0, p) = (0, (8, [])) := by
      unfold sizeS
      rw [takeS_short hp]
      decide
    unfold setS
    rw [e]
    rfl
  unfold encS at hn ⊢
  match n, hn with
  | 0, _ => exact two _ (by simp)
  | 1, _ => exact two _ (by simp)
  | n + 2, hn =>
    rw [List.take_succ_cons, List.take_succ_cons]
    unfold setS
    rw [sizeS_good l hl]
    exact loopS_short l h (by simp at hn; omega)
theorem setS_ok {s : St} (h : (setS s).2.1 = 0) : s = (0, encS (setS s).1 ++ (setS s).2.2) ∧ (∀ x ∈ (setS s).1, okTr x) ∧ (setS s).1.length ≤ 200 := by
  obtain ⟨a, b, c⟩ := loopS_ok _ _ h
  have hz : (sizeS s).2.1 = 0 := congrArg Prod.fst b
  have b2 : (sizeS s).2.2 = _ := congrArg Prod.snd b
  dsimp only at b2
  by_cases hbig : 200 < numL (takeS 2 s).1
  · unfold sizeS at hz
    dsimp only at hz
    rw [if_pos hbig] at hz
    exact absurd hz (endS_zero (by decide))
  have e2 : (sizeS s).2 = (takeS 2 s).2 := by
    unfold sizeS
    dsimp only
    rw [if_neg hbig]
  have e1 : (sizeS s).1 = numL (takeS 2 s).1 := rfl
  have ht : (takeS 2 s).2.1 = 0 := by rw [← e2]; exact hz
  obtain ⟨h0, hl, et⟩ := takeS_ok ht
  have a : (setS s).1.length = (sizeS s).1 := a
  refine ⟨?_, c, by rw [a, e1]; omega⟩
  have b2 : (sizeS s).2.2 = encR (setS s).1 ++ (setS s).2.2 := b2
  obtain ⟨e0, bs⟩ := s
  dsimp only at h0 hl et
  subst h0
  match bs, hl with
  | u :: v :: r, _ =>
    have en : numL (takeS 2 (0, u :: v :: r)).1 = u.toNat * 256 + v.toNat := by rw [et]; simp [numL]
    have er : (sizeS (0, u :: v :: r)).2.2 = r := by rw [e2, et]; rfl
    rw [er] at b2
    rw [e1, en] at a
    rw [en] at hbig
    unfold encS
    rw [List.cons_append, List.cons_append, ← b2, a]
    have hv := v.toNat_lt
    have hu0 : u.toNat = 0 := by omega
    have hu : UInt8.ofNat ((u.toNat * 256 + v.toNat) / 256) = u := by
      apply UInt8.toNat.inj
      rw [toNat_ofNat (by omega), hu0]
      omega
    have hv' : UInt8.ofNat (u.toNat * 256 + v.toNat) = v := by
      apply UInt8.toNat.inj
      rw [hu0, toNat_ofNat (by omega)]
      omega
    rw [hu, hv']

theorem wholeN_good {r : List UInt8} : wholeN 0 (0, r) = if r = [] then 0 else 2 := by
  unfold wholeN endS
  by_cases h : r = []
  · simp [h]
  · simp [h]
theorem wholeN_keep {wrong : Int} {s : St} (h : s.1 ≠ 0) : wholeN wrong s = s.1 := by
  unfold wholeN
  split
  · rfl
  · exact endS_keep h
theorem wholeN_zero {wrong : Int} {s : St} (h : wholeN wrong s = 0) : wrong = 0 ∧ s = (0, []) := by
  unfold wholeN at h
  by_cases hh : wrong = 0 ∧ s.2 = []
  · rw [if_pos hh] at h
    exact ⟨hh.1, Prod.ext h hh.2⟩
  · rw [if_neg hh] at h
    exact absurd h (endS_zero (by decide))
end Go.Proofs.YtaddfndohoppeaaGreatDoor

/- A repo in plain words: commits over a store, and branches. -/
namespace Go.Proofs.YtaddfndohoppeaaGreatDoor
open Go Go.RowKit Go.Proofs
set_option synthInstance.maxSize 1000

/-- a branch: its name, where it leads -/
abbrev Rf := List UInt8 × Nat
/-- a repo: its store's last number and objects, its commits, their graphs, its branches by name -/
structure Rp where
  n : Nat
  L : List Ob
  coms : List Cm
  gr : List (List Tr)
  refs : List Rf
def emptyR : Rp := ⟨0, [], [], [], []⟩
def nameR (b : List UInt8) : Bool := !b.isEmpty && (decide (b.length ≤ 10) && allB letB b)

/-! ### branches -/
def atR : List Rf → List UInt8 → Int
  | [], _ => -1
  | x :: r, b => if x.1 = b then (x.2 : Int) else atR r b
/-- a branch leads to a commit: by name -/
def leadG : List Rf → List UInt8 → Nat → Bool → List Rf
  | [], b, t, p => if p = true then [] else [(b, t)]
  | x :: r, b, t, p => (if p = false ∧ b ≤ x.1 then [(b, t)] else []) ++ (if x.1 ≠ b then [x] else []) ++ leadG r b t (p || decide (b ≤ x.1))
def leadR (l : List Rf) (b : List UInt8) (t : Nat) : List Rf := leadG l b t false
def dropL (l : List Rf) (b : List UInt8) : List Rf := l.filter fun x => decide (x.1 ≠ b)
def ByName (l : List Rf) : Prop := l.Pairwise fun x y => x.1 < y.1

theorem lt_of_le_ne {a b : List UInt8} (h : a ≤ b) (hne : b ≠ a) : a < b := by
  rcases List.le_iff_lt_or_eq.1 h with h | h
  · exact h
  · exact absurd h.symm hne
theorem lead_after {l : List Rf} {b : List UInt8} {t : Nat} : leadG l b t true = dropL l b := by
  induction l with
  | nil => rfl
  | cons x r ih =>
    unfold leadG dropL
    rw [List.filter_cons]
    simp only [Bool.true_eq_false, false_and, if_false, List.nil_append, Bool.true_or]
    rw [ih]
    by_cases e : x.1 = b
    · simp [e, dropL]
    · simp [e, dropL]
theorem mem_lead {l : List Rf} {b : List UInt8} {t : Nat} {y : Rf} : y ∈ leadR l b t ↔ y = (b, t) ∨ (y ∈ l ∧ y.1 ≠ b) := by
  unfold leadR
  induction l with
  | nil => simp [leadG]
  | cons x r ih =>
    unfold leadG
    simp only [true_and, Bool.false_or]
    by_cases hle : b ≤ x.1
    · rw [if_pos hle, decide_eq_true hle, lead_after]
      simp only [List.mem_append, dropL, List.mem_filter, decide_eq_true_eq, List.mem_cons, List.not_mem_nil, or_false]
      by_cases e : x.1 = b
      · rw [if_neg (by simpa using e)]
        constructor
        · rintro ((h | h) | h)
          · exact Or.inl h
          · simp at h
          · exact Or.inr ⟨Or.inr h.1, h.2⟩
        · rintro (h | ⟨rfl | h, h2⟩)
          · exact Or.inl (Or.inl h)
          · exact absurd e h2
          · exact Or.inr ⟨h, h2⟩
      · rw [if_pos e]
        constructor
        · rintro ((h | h) | h)
          · exact Or.inl h
          · simp at h; subst h; exact Or.inr ⟨Or.inl rfl, e⟩
          · exact Or.inr ⟨Or.inr h.1, h.2⟩
        · rintro (h | ⟨rfl | h, h2⟩)
          · exact Or.inl (Or.inl h)
          · exact Or.inl (Or.inr (by simp))
          · exact Or.inr ⟨h, h2⟩
    · have hne : x.1 ≠ b := fun e => hle (by rw [e]; exact List.le_refl _)
      rw [if_neg hle, if_pos hne, decide_eq_false hle]
      simp only [List.nil_append, List.mem_append, List.mem_cons, List.not_mem_nil, or_false, ih]
      constructor
      · rintro (rfl | h | ⟨h, h2⟩)
        · exact Or.inr ⟨Or.inl rfl, hne⟩
        · exact Or.inl h
        · exact Or.inr ⟨Or.inr h, h2⟩
      · rintro (h | ⟨rfl | h, h2⟩)
        · exact Or.inr (Or.inl h)
        · exact Or.inl rfl
        · exact Or.inr (Or.inr ⟨h, h2⟩)
theorem ByName.drop {l : List Rf} (h : ByName l) (b : List UInt8) : ByName (dropL l b) := List.Pairwise.filter _ h
theorem ByName.lead {l : List Rf} (h : ByName l) (b : List UInt8) (t : Nat) : ByName (leadR l b t) := by
  unfold leadR
  induction l with
  | nil => simp [leadG, ByName]
  | cons x r ih =>
    obtain ⟨h1, h2⟩ := List.pairwise_cons.1 h
    unfold leadG
    simp only [true_and, Bool.false_or]
    by_cases hle : b ≤ x.1
    · rw [if_pos hle, decide_eq_true hle, lead_after]
      have hr : ∀ y ∈ dropL r b, b < y.1 := fun y hy => by
        obtain ⟨q1, q2⟩ := List.mem_filter.1 hy
        exact List.lt_of_le_of_lt hle (h1 y q1)
      by_cases e : x.1 = b
      · rw [if_neg (by simpa using e)]
        simp only [List.append_nil]
        exact List.pairwise_cons.2 ⟨hr, ByName.drop h2 b⟩
      · rw [if_pos e]
        refine List.pairwise_cons.2 ⟨fun y hy => ?_, List.pairwise_cons.2 ⟨fun y hy => h1 y (List.mem_filter.1 hy).1, ByName.drop h2 b⟩⟩
        rcases List.mem_cons.1 hy with rfl | hy
        · exact lt_of_le_ne hle e
        · exact hr y hy
    · have hne : x.1 ≠ b := fun e => hle (by rw [e]; exact List.le_refl _)
      rw [if_neg hle, if_pos hne, decide_eq_false hle]
      simp only [List.nil_append]
      refine List.pairwise_cons.2 ⟨fun y hy => ?_, ih h2⟩
      rcases mem_lead.1 hy with rfl | ⟨hy, _⟩
      · exact List.not_le.1 hle
      · exact h1 y hy
theorem names_unique {l m : List Rf} (hl : ByName l) (hm : ByName m) (h : ∀ x, x ∈ l ↔ x ∈ m) : l = m := by
  induction l generalizing m with
  | nil =>
    cases m with
    | nil => rfl
    | cons b r => exact absurd ((h b).2 (List.mem_cons_self ..)) (by simp)
  | cons a s ih =>
    cases m with
    | nil => exact absurd ((h a).1 (List.mem_cons_self ..)) (by simp)
    | cons b r =>
      obtain ⟨l1, l2⟩ := List.pairwise_cons.1 hl
      obtain ⟨m1, m2⟩ := List.pairwise_cons.1 hm
      have hab : a = b := by
        rcases List.mem_cons.1 ((h a).1 (List.mem_cons_self ..)) with e | h1
        · exact e
        · rcases List.mem_cons.1 ((h b).2 (List.mem_cons_self ..)) with e | h2
          · exact e.symm
          · exact absurd (List.lt_trans (m1 a h1) (l1 b h2)) (List.lt_irrefl _)
      subst hab
      congr 1
      refine ih l2 m2 fun x => ?_
      constructor
      · intro hx
        rcases List.mem_cons.1 ((h x).1 (List.mem_cons_of_mem _ hx)) with e | h'
        · have := l1 x hx; rw [e] at this; exact absurd this (List.lt_irrefl _)
        · exact h'
      · intro hx
        rcases List.mem_cons.1 ((h x).2 (List.mem_cons_of_mem _ hx)) with e | h'
        · have := m1 x hx; rw [e] at this; exact absurd this (List.lt_irrefl _)
        · exact h'
theorem atR_mem {l : List Rf} (hl : ByName l) {b : List UInt8} {t : Nat} : atR l b = (t : Int) ↔ (b, t) ∈ l := by
  induction l with
  | nil => simp [atR]
  | cons x r ih =>
    obtain ⟨l1, l2⟩ := List.pairwise_cons.1 hl
    unfold atR
    by_cases e : x.1 = b
    · rw [if_pos e]
      constructor
      · intro h
        have : x = (b, t) := by rw [← e]; exact Prod.ext rfl (Int.ofNat.inj h)
        rw [this]; exact List.mem_cons_self ..
      · intro h
        rcases List.mem_cons.1 h with h | h
        · rw [← h]
        · have := l1 _ h; rw [e] at this; exact absurd this (List.lt_irrefl _)
    · rw [if_neg e, ih l2]
      constructor
      · exact fun h => List.mem_cons_of_mem _ h
      · intro h
        rcases List.mem_cons.1 h with h | h
        · exact absurd (by rw [← h]) e
        · exact h
theorem atR_neg {l : List Rf} {b : List UInt8} : atR l b < 0 ↔ ∀ x ∈ l, x.1 ≠ b := by
  induction l with
  | nil => simp [atR]
  | cons x r ih =>
    unfold atR
    by_cases e : x.1 = b
    · rw [if_pos e]
      constructor
      · intro h; omega
      · intro h; exact absurd e (h x (List.mem_cons_self ..))
    · rw [if_neg e, ih]
      constructor
      · intro h y hy
        rcases List.mem_cons.1 hy with rfl | hy
        · exact e
        · exact h y hy
      · exact fun h y hy => h y (List.mem_cons_of_mem _ hy)
theorem atR_ge (l : List Rf) (b : List UInt8) : -1 ≤ atR l b := by
  induction l with
  | nil => simp [atR]
  | cons x r ih => unfold atR; split <;> omega

/-! ### commits -/
def findC : List Cm → List (List Tr) → List Int → List Tr → List UInt8 → Option Nat
  | c :: cr, g :: gr, ps, s, m => if c.2.2 = m ∧ c.1 = ps ∧ g = s then some 0 else (findC cr gr ps s m).map fun k => k + 1
  | _, _, _, _, _ => none
def fromR (R : Rp) (ps : List Int) : List Tr := match ps with
  | [] => []
  | p :: _ => (R.gr[p.toNat]?).getD []
def bytesR (R : Rp) (ps : List Int) (s : List Tr) : List UInt8 := encS (lessL s (fromR R ps)) ++ encS (lessL (fromR R ps) s)
def addE (R : Rp) (ps : List Int) (s : List Tr) (m : List UInt8) : Int := match findC R.coms R.gr ps s m with
  | some _ => 0
  | none => if 60 ≤ R.coms.length then 4 else putE R.L (bytesR R ps s)
def addI (R : Rp) (ps : List Int) (s : List Tr) (m : List UInt8) : Nat := match findC R.coms R.gr ps s m with
  | some i => i
  | none => if 60 ≤ R.coms.length then 0 else if putE R.L (bytesR R ps s) ≠ 0 then 0 else R.coms.length
def addR (R : Rp) (ps : List Int) (s : List Tr) (m : List UInt8) : Rp := match findC R.coms R.gr ps s m with
  | some _ => R
  | none => if 60 ≤ R.coms.length then R else if putE R.L (bytesR R ps s) ≠ 0 then R else
    ⟨putM R.n R.L (bytesR R ps s), putL R.n R.L (bytesR R ps s), R.coms ++ [(ps, (putI R.n R.L (bytesR R ps s) : Int), m)], R.gr ++ [s], R.refs⟩

def headE (R : Rp) (b : List UInt8) : Int := if nameR b = false then 2 else if atR R.refs b < 0 then 5 else 0
def headI (R : Rp) (b : List UInt8) : Int := if headE R b = 0 then atR R.refs b else 0
def roomR (R : Rp) (b : List UInt8) : Bool := decide (0 ≤ atR R.refs b ∨ R.refs.length < 8)
def setF (s : List Tr) (m : List UInt8) : Int := if sortedN s ≠ 0 then sortedN s else msgN m
def commitF (R : Rp) (b : List UInt8) (s : List Tr) (m : List UInt8) : Int := if nameR b = false then 2 else if setF s m ≠ 0 then setF s m else if roomR R b = false then 4 else 0
def parR (R : Rp) (b : List UInt8) : List Int := if 0 ≤ atR R.refs b then [atR R.refs b] else []
def leadTo (R : Rp) (b : List UInt8) (t : Nat) : Rp := ⟨R.n, R.L, R.coms, R.gr, leadR R.refs b t⟩
def commitE (R : Rp) (b : List UInt8) (s : List Tr) (m : List UInt8) : Int := if commitF R b s m ≠ 0 then commitF R b s m else addE R (parR R b) s m
def commitI (R : Rp) (b : List UInt8) (s : List Tr) (m : List UInt8) : Nat := if commitE R b s m ≠ 0 then 0 else addI R (parR R b) s m
def commitR (R : Rp) (b : List UInt8) (s : List Tr) (m : List UInt8) : Rp := if commitE R b s m ≠ 0 then R else leadTo (addR R (parR R b) s m) b (addI R (parR R b) s m)
def inR (R : Rp) (a : Int) : Bool := decide (0 ≤ a ∧ a < R.coms.length)
def joinF (R : Rp) (b : List UInt8) (o : Int) (s : List Tr) (m : List UInt8) : Int :=
  if headE R b ≠ 0 then headE R b else if inR R o = false then 1 else if o = atR R.refs b then 7 else setF s m
def joinE (R : Rp) (b : List UInt8) (o : Int) (s : List Tr) (m : List UInt8) : Int := if joinF R b o s m ≠ 0 then joinF R b o s m else addE R [atR R.refs b, o] s m
def joinI (R : Rp) (b : List UInt8) (o : Int) (s : List Tr) (m : List UInt8) : Nat := if joinE R b o s m ≠ 0 then 0 else addI R [atR R.refs b, o] s m
def joinR (R : Rp) (b : List UInt8) (o : Int) (s : List Tr) (m : List UInt8) : Rp := if joinE R b o s m ≠ 0 then R else leadTo (addR R [atR R.refs b, o] s m) b (addI R [atR R.refs b, o] s m)
def branchE (R : Rp) (b : List UInt8) (a : Int) : Int := if nameR b = false then 2 else if inR R a = false then 1 else if 0 ≤ atR R.refs b then 7 else if R.refs.length < 8 then 0 else 4
def branchR (R : Rp) (b : List UInt8) (a : Int) : Rp := if branchE R b a ≠ 0 then R else leadTo R b a.toNat
def moveE (R : Rp) (b : List UInt8) (f t : Int) : Int := if headE R b ≠ 0 then headE R b else if atR R.refs b ≠ f then 6 else if inR R t = false then 1 else 0
def moveR (R : Rp) (b : List UInt8) (f t : Int) : Rp := if moveE R b f t ≠ 0 then R else leadTo R b t.toNat
def dropR (R : Rp) (b : List UInt8) : Rp := if headE R b ≠ 0 then R else ⟨R.n, R.L, R.coms, R.gr, dropL R.refs b⟩
def graphE (R : Rp) (a : Int) : Int := if inR R a = true then 0 else 1
def graphL (R : Rp) (a : Int) : List Tr := if inR R a = true then (R.gr[a.toNat]?).getD [] else []

/-- what a repo is -/
structure GoodR (R : Rp) : Prop where
  store : GoodO R.n R.L
  last : R.n ≤ R.coms.length
  coms : GoodC R.coms
  len : R.gr.length = R.coms.length
  sets : ∀ g ∈ R.gr, IsSet g
  refs : ByName R.refs
  names : ∀ x ∈ R.refs, nameR x.1 = true ∧ x.2 < R.coms.length
  few : R.refs.length ≤ 8
end Go.Proofs.YtaddfndohoppeaaGreatDoor

/- A repo stays one, whatever is done. -/
namespace Go.Proofs.YtaddfndohoppeaaGreatDoor
open Go Go.RowKit Go.Proofs
set_option synthInstance.maxSize 1000

theorem lead_len (l : List Rf) (b : List UInt8) (t : Nat) : (leadR l b t).length = (dropL l b).length + 1 := by
  unfold leadR
  induction l with
  | nil => simp [leadG, dropL]
  | cons x r ih =>
    unfold leadG
    simp only [true_and, Bool.false_or]
    have hd : (dropL (x :: r) b).length = (if x.1 ≠ b then [x] else []).length + (dropL r b).length := by
      unfold dropL
      rw [List.filter_cons]
      by_cases e : x.1 = b
      · simp [e]
      · simp [e]; omega
    by_cases hle : b ≤ x.1
    · rw [if_pos hle, decide_eq_true hle, lead_after, List.length_append, List.length_append, hd]
      simp only [List.length_singleton]
      omega
    · rw [if_neg hle, decide_eq_false hle, List.length_append, List.length_append, ih, hd]
      simp only [List.length_nil]
      omega
theorem drop_len_none {l : List Rf} {b : List UInt8} (h : atR l b < 0) : dropL l b = l :=
  List.filter_eq_self.2 fun x hx => by simpa using atR_neg.1 h x hx
theorem drop_len_some {l : List Rf} {b : List UInt8} (h : 0 ≤ atR l b) : (dropL l b).length < l.length := by
  have hne : ¬ ∀ x ∈ l, x.1 ≠ b := fun hh => by have := atR_neg.2 hh; omega
  refine Classical.byContradiction fun hge => hne fun x hx e => hge ?_
  unfold dropL
  refine Nat.lt_of_le_of_ne (List.length_filter_le _ _) fun heq => ?_
  have := (List.length_filter_eq_length_iff.1 heq) x hx
  simp at this
  exact this e
theorem lead_le (l : List Rf) (b : List UInt8) (t : Nat) : (leadR l b t).length ≤ l.length + 1 := by
  rw [lead_len]
  have := List.length_filter_le (fun x : Rf => decide (x.1 ≠ b)) l
  unfold dropL
  omega
theorem lead_few {l : List Rf} {b : List UInt8} {t : Nat} (h : l.length ≤ 8) (hr : 0 ≤ atR l b ∨ l.length < 8) : (leadR l b t).length ≤ 8 := by
  by_cases h0 : 0 ≤ atR l b
  · have := drop_len_some h0
    rw [lead_len]
    omega
  · have := lead_le l b t
    omega

theorem goodC_snoc {l : List Cm} {c : Cm} (h : GoodC l) (hl : l.length < 60) (hc : comN c l.length = 0) : GoodC (l ++ [c]) := by
  refine ⟨by rw [List.length_append]; simp; omega, fun j hj => ?_⟩
  rw [List.length_append] at hj
  simp at hj
  by_cases hjl : j < l.length
  · rw [List.getElem_append_left hjl]
    exact h.2 j hjl
  · have e : j = l.length := by omega
    subst e
    rw [List.getElem_append_right (Nat.le_refl _)]
    simpa using hc
/-- parents that may be -/
def okPar (k : Nat) (ps : List Int) : Prop := ps.length ≤ 2 ∧ (∀ p ∈ ps, 0 ≤ p ∧ p < k) ∧ twinB ps = false
theorem com_ok {k : Nat} {ps : List Int} {y : Int} {m : List UInt8} (hp : okPar k ps) (hm : msgN m = 0) (h1 : 1 ≤ y) (h2 : y ≤ 300) : comN (ps, y, m) k = 0 := by
  have e : rangeB ps k = true := by unfold rangeB; rw [List.all_eq_true]; intro p hp'; simpa using hp.2.1 p hp'
  unfold comN
  dsimp only
  rw [if_neg (by rw [hm]; have := hp.1; omega), if_neg (by rw [e]; simp), if_neg (by rw [hp.2.2]; simp), if_neg (by rw [hm]; simp), if_neg (by omega)]
theorem putI_range {n : Nat} {L : List Ob} {b : List UInt8} (h : GoodO n L) (he : putE L b = 0) : 1 ≤ putI n L b ∧ putI n L b ≤ n + 1 := by
  unfold putI
  unfold putE at he
  by_cases hf : findO L b ≠ 0
  · rw [if_pos hf]
    obtain ⟨x, hx, e⟩ := (findO_mem fun y hy => (h.low y hy).1).1 hf
    have := findO_in h.once hx
    rw [e] at this
    have := h.low x hx
    omega
  · rw [if_neg hf] at he ⊢
    by_cases h2 : fullO L b = true
    · rw [if_pos h2] at he; simp at he
    · rw [if_neg h2]; omega
theorem putM_le (n : Nat) (L : List Ob) (b : List UInt8) : putM n L b ≤ n + 1 := by
  unfold putM
  split
  · omega
  · split <;> omega

theorem findC_at {cl : List Cm} {gl : List (List Tr)} {ps : List Int} {s : List Tr} {m : List UInt8} {i : Nat} (h : findC cl gl ps s m = some i) : ∃ (h1 : i < cl.length) (h2 : i < gl.length), cl[i].2.2 = m ∧ cl[i].1 = ps ∧ gl[i] = s := by
  induction cl generalizing gl i with
  | nil => simp [findC] at h
  | cons c r ih =>
    cases gl with
    | nil => simp [findC] at h
    | cons g q =>
      unfold findC at h
      split at h
      · rename_i hc
        obtain rfl := Option.some.inj h
        exact ⟨by simp, by simp, hc.1, hc.2.1, hc.2.2⟩
      · obtain ⟨k, hk, e⟩ := Option.map_eq_some_iff.1 h
        subst e
        obtain ⟨h1, h2, h3⟩ := ih hk
        exact ⟨by simpa using h1, by simpa using h2, h3⟩
theorem add_in {R : Rp} {ps : List Int} {s : List Tr} {m : List UInt8} (he : addE R ps s m = 0) : addI R ps s m < (addR R ps s m).coms.length := by
  unfold addI addR
  unfold addE at he
  cases hf : findC R.coms R.gr ps s m with
  | some i => exact (findC_at hf).1
  | none =>
    rw [hf] at he
    dsimp only at he ⊢
    by_cases h60 : 60 ≤ R.coms.length
    · rw [if_pos h60] at he; simp at he
    · rw [if_neg h60] at he ⊢
      rw [if_neg h60, if_neg (by simpa using he), if_neg (by simpa using he)]
      simp
theorem add_refs (R : Rp) (ps : List Int) (s : List Tr) (m : List UInt8) : (addR R ps s m).refs = R.refs := by
  unfold addR
  split
  · rfl
  · split
    · rfl
    · split <;> rfl
theorem add_more (R : Rp) (ps : List Int) (s : List Tr) (m : List UInt8) : R.coms <+: (addR R ps s m).coms ∧ R.gr <+: (addR R ps s m).gr := by
  unfold addR
  split
  · exact ⟨List.prefix_refl _, List.prefix_refl _⟩
  · split
    · exact ⟨List.prefix_refl _, List.prefix_refl _⟩
    · split
      · exact ⟨List.prefix_refl _, List.prefix_refl _⟩
      · exact ⟨List.prefix_append _ _, List.prefix_append _ _⟩
theorem GoodR.add {R : Rp} (h : GoodR R) {ps : List Int} {s : List Tr} {m : List UInt8} (hp : okPar R.coms.length ps) (hs : IsSet s) (hm : msgN m = 0) : GoodR (addR R ps s m) := by
  unfold addR
  split
  · exact h
  · split
    · exact h
    · rename_i h60
      split
      · exact h
      · rename_i hpe
        have hpe : putE R.L (bytesR R ps s) = 0 := by simpa using hpe
        have hI := putI_range h.store hpe
        have hM := putM_le R.n R.L (bytesR R ps s)
        have hl := h.last
        refine ⟨h.store.put _, by simp; omega, goodC_snoc h.coms (by omega) (com_ok hp hm (by omega) (by omega)), by simp [h.len], ?_, h.refs, fun x hx => ?_, h.few⟩
        · intro g hg
          rcases List.mem_append.1 hg with hg | hg
          · exact h.sets g hg
          · simp at hg; subst hg; exact hs
        · have := h.names x hx
          simp
          exact ⟨this.1, by omega⟩
theorem GoodR.lead {R : Rp} (h : GoodR R) {b : List UInt8} {t : Nat} (hb : nameR b = true) (ht : t < R.coms.length) (hr : 0 ≤ atR R.refs b ∨ R.refs.length < 8) : GoodR (leadTo R b t) := by
  refine ⟨h.store, h.last, h.coms, h.len, h.sets, h.refs.lead b t, fun x hx => ?_, lead_few h.few hr⟩
  rcases mem_lead.1 hx with rfl | ⟨hx, _⟩
  · exact ⟨hb, ht⟩
  · exact h.names x hx
theorem atR_lt {R : Rp} (h : GoodR R) (b : List UInt8) : atR R.refs b < R.coms.length := by
  by_cases h0 : 0 ≤ atR R.refs b
  · obtain ⟨t, ht⟩ : ∃ t : Nat, atR R.refs b = (t : Int) := ⟨(atR R.refs b).toNat, by omega⟩
    have := (h.names _ ((atR_mem h.refs).1 ht)).2
    dsimp only at this
    omega
  · omega
theorem par_ok {R : Rp} (h : GoodR R) (b : List UInt8) : okPar R.coms.length (parR R b) := by
  unfold parR
  have := atR_lt h b
  split
  · rename_i h0
    exact ⟨by simp, fun p hp => by simp at hp; omega, rfl⟩
  · exact ⟨by simp, by simp, rfl⟩
theorem goodR_empty : GoodR emptyR := ⟨goodO_nil 0, Nat.le_refl _, ⟨by decide, fun j hj => absurd hj (by simp [emptyR])⟩, rfl, by simp [emptyR], by simp [emptyR, ByName], by simp [emptyR], by decide⟩
theorem setF_zero {s : List Tr} {m : List UInt8} (h : setF s m = 0) : sortedN s = 0 ∧ msgN m = 0 := by
  unfold setF at h
  split at h
  · rename_i h1; exact absurd h h1
  · rename_i h1; exact ⟨by simpa using h1, h⟩
theorem GoodR.commit {R : Rp} (h : GoodR R) (b : List UInt8) (s : List Tr) (m : List UInt8) : GoodR (commitR R b s m) := by
  unfold commitR
  split
  · exact h
  · rename_i hE
    have hE : commitE R b s m = 0 := by simpa using hE
    have hE' := hE
    unfold commitE at hE
    split at hE
    · rename_i h1; exact absurd hE h1
    · rename_i h1
      have h1 : commitF R b s m = 0 := by simpa using h1
      unfold commitF at h1
      split at h1
      · simp at h1
      · rename_i hn
        split at h1
        · rename_i h2; exact absurd h1 h2
        · rename_i h2
          have h2 : setF s m = 0 := by simpa using h2
          split at h1
          · simp at h1
          · rename_i hr
            have hr : 0 ≤ atR R.refs b ∨ R.refs.length < 8 := by
              have hr : roomR R b = true := by simpa using hr
              unfold roomR at hr
              exact of_decide_eq_true hr
            obtain ⟨q1, q2⟩ := setF_zero h2
            refine (h.add (par_ok h b) (sortedN_set.1 q1) q2).lead (by simpa using hn) (add_in hE) ?_
            rw [add_refs]
            exact hr
theorem headE_zero {R : Rp} {b : List UInt8} (h : headE R b = 0) : nameR b = true ∧ 0 ≤ atR R.refs b := by
  unfold headE at h
  split at h
  · simp at h
  · rename_i h1
    split at h
    · simp at h
    · rename_i h2; exact ⟨by simpa using h1, by omega⟩
theorem inR_iff {R : Rp} {a : Int} : inR R a = true ↔ 0 ≤ a ∧ a < R.coms.length := by unfold inR; simp
theorem joinF_zero {R : Rp} {b : List UInt8} {o : Int} {s : List Tr} {m : List UInt8} (h : joinF R b o s m = 0) : headE R b = 0 ∧ inR R o = true ∧ o ≠ atR R.refs b ∧ setF s m = 0 := by
  unfold joinF at h
  split at h
  · rename_i h1; exact absurd h h1
  · rename_i h1
    split at h
    · simp at h
    · rename_i h2
      split at h
      · simp at h
      · rename_i h3
        exact ⟨by simpa using h1, by simpa using h2, h3, h⟩
theorem two_ok {R : Rp} (h : GoodR R) {b : List UInt8} {o : Int} (h0 : 0 ≤ atR R.refs b) (ho : inR R o = true) (hne : o ≠ atR R.refs b) : okPar R.coms.length [atR R.refs b, o] := by
  have := atR_lt h b
  have h2 := inR_iff.1 ho
  refine ⟨by simp, fun p hp => ?_, ?_⟩
  · simp at hp
    rcases hp with rfl | rfl
    · omega
    · exact h2
  · simp [twinB]
    exact fun e => hne e.symm
theorem GoodR.join {R : Rp} (h : GoodR R) (b : List UInt8) (o : Int) (s : List Tr) (m : List UInt8) : GoodR (joinR R b o s m) := by
  unfold joinR
  split
  · exact h
  · rename_i hE
    have hE : joinE R b o s m = 0 := by simpa using hE
    unfold joinE at hE
    split at hE
    · rename_i h1; exact absurd hE h1
    · rename_i h1
      obtain ⟨q1, q2, q3, q4⟩ := joinF_zero (by simpa using h1 : joinF R b o s m = 0)
      obtain ⟨p1, p2⟩ := headE_zero q1
      obtain ⟨r1, r2⟩ := setF_zero q4
      refine (h.add (two_ok h p2 q2 q3) (sortedN_set.1 r1) r2).lead p1 (add_in hE) ?_
      rw [add_refs]
      exact Or.inl p2
theorem GoodR.branch {R : Rp} (h : GoodR R) (b : List UInt8) (a : Int) : GoodR (branchR R b a) := by
  unfold branchR
  split
  · exact h
  · rename_i hE
    have hE : branchE R b a = 0 := by simpa using hE
    unfold branchE at hE
    split at hE
    · simp at hE
    · rename_i h1
      split at hE
      · simp at hE
      · rename_i h2
        split at hE
        · simp at hE
        · split at hE
          · rename_i h4
            have := inR_iff.1 (by simpa using h2 : inR R a = true)
            exact h.lead (by simpa using h1) (by omega) (Or.inr h4)
          · simp at hE
theorem GoodR.move {R : Rp} (h : GoodR R) (b : List UInt8) (f t : Int) : GoodR (moveR R b f t) := by
  unfold moveR
  split
  · exact h
  · rename_i hE
    have hE : moveE R b f t = 0 := by simpa using hE
    unfold moveE at hE
    split at hE
    · rename_i h1; exact absurd hE h1
    · rename_i h1
      obtain ⟨p1, p2⟩ := headE_zero (by simpa using h1 : headE R b = 0)
      split at hE
      · simp at hE
      · split at hE
        · simp at hE
        · rename_i h3
          have := inR_iff.1 (by simpa using h3 : inR R t = true)
          exact h.lead p1 (by omega) (Or.inl p2)
theorem GoodR.drop {R : Rp} (h : GoodR R) (b : List UInt8) : GoodR (dropR R b) := by
  unfold dropR
  split
  · exact h
  · exact ⟨h.store, h.last, h.coms, h.len, h.sets, h.refs.drop b, fun x hx => h.names x (List.mem_filter.1 hx).1, Nat.le_trans (List.length_filter_le _ _) h.few⟩
end Go.Proofs.YtaddfndohoppeaaGreatDoor

/- A repo's face: what the laws ask of the program's repo, whatever it is made of. -/
namespace Go.Proofs.YtaddfndohoppeaaGreatDoor
open Go Go.RowKit Go.Proofs
set_option synthInstance.maxSize 1000

/-- branches in a list that a caller holds -/
def SlF (w : World) (ad : Option Addr) (l : List Rf) : Prop := l ≠ [] → ∃ b o, ad = some ⟨b, o, none⟩ ∧ ∀ (i : Nat) (hi : i < l.length), w.cell? ⟨b, o + i * 2, none⟩ = some (.string ⟨l[i].1.toArray⟩) ∧ w.cell? ⟨b, o + i * 2 + 1, none⟩ = some (.int .i64 (l[i].2 : Int))
theorem SlF.below {w w' : World} {ad : Option Addr} {l : List Rf} (h : SlF w ad l) (hb : RowKit.Below w.heap.size w w') : SlF w' ad l := fun hl => by
  obtain ⟨b, o, e, h1⟩ := h hl
  refine ⟨b, o, e, fun i hi => ?_⟩
  obtain ⟨h2, h3⟩ := h1 i hi
  exact ⟨(hb.cell (World.block_lt_of_cell? w _ h2)).trans h2, (hb.cell (World.block_lt_of_cell? w _ h3)).trans h3⟩
theorem SlF.at {w : World} {ad : Option Addr} {l : List Rf} (h : SlF w ad l) {i : Nat} (hi : i < l.length) : ∃ b o, ad = some ⟨b, o, none⟩ ∧ w.cell? ⟨b, o + i * 2, none⟩ = some (.string ⟨l[i].1.toArray⟩) ∧ w.cell? ⟨b, o + i * 2 + 1, none⟩ = some (.int .i64 (l[i].2 : Int)) := by
  obtain ⟨b, o, e, h1⟩ := h (fun e => by rw [e] at hi; simp at hi)
  exact ⟨b, o, e, h1 i hi⟩
def objE (L : List Ob) (id : Int) : Int := if (getO L id).isSome = true then 0 else 5
def objB (L : List Ob) (id : Int) : List UInt8 := (getO L id).getD []
/-- a set that a caller hands in: it lies in none of the blocks O -/
structure SetArg (w : World) (O : Nat → Prop) (ad : Option Addr) (ca : Nat) (s : List Tr) : Prop where
  sl : SlT w ad s
  cap : s.length ≤ ca
  fit : ∀ x ∈ s, fitTr x
  len : s.length ≤ maxLen
  low : s ≠ [] → ∀ d, ad = some d → ¬ O d.block
/-- a set that lies there from the beginning on -/
structure SetIn (w : World) (ad : Option Addr) (ca : Nat) (s : List Tr) : Prop where
  sl : SlT w ad s
  cap : s.length ≤ ca
  fit : ∀ x ∈ s, fitTr x
  len : s.length ≤ maxLen
  low : s ≠ [] → ∀ d, ad = some d → d.block < w.heap.size
/-- the program's repo: where it lies, which blocks it owns (it keeps no list of a caller's), and what its calls answer; texts of up to 'lim' bytes -/
structure RFace where
  lim : Nat
  At : World → Nat → (Nat → Prop) → Rp → Prop
  own : ∀ {w : World} {r : Nat} {O : Nat → Prop} {R : Rp}, At w r O R → ∀ j, O j → j < w.heap.size
  keep : ∀ {w w' : World} {r : Nat} {O : Nat → Prop} {R : Rp}, At w r O R → (∀ j, O j → w'.heap[j]? = w.heap[j]?) → At w' r O R
  new : ∀ (w : World), Calls Tryz.prog 4 #[] w fun e w' => ∃ (r : Nat) (O : Nat → Prop), e = .returned (.pointer (some ⟨r, 0, none⟩)) ∧ At w' r O emptyR ∧ RowKit.Below w.heap.size w w' ∧ ∀ j, O j → w.heap.size ≤ j
  commit : ∀ (w : World) (r : Nat) (O : Nat → Prop) (R : Rp) (b : List UInt8) (ad : Option Addr) (ca : Nat) (s : List Tr) (t : List UInt8), At w r O R → GoodR R → SetArg w O ad ca s → b.length ≤ lim → t.length ≤ lim →
    Calls Tryz.prog 6 #[.pointer (some ⟨r, 0, none⟩), .string ⟨b.toArray⟩, .slice ad s.length ca, .string ⟨t.toArray⟩] w fun e w' => e = .returned (.tuple #[.int .i64 (commitI R b s t : Int), errV (commitE R b s t)]) ∧ ∃ O' : Nat → Prop, At w' r O' (commitR R b s t) ∧ Offs O w w' ∧ ∀ j, O' j → O j ∨ w.heap.size ≤ j
  join : ∀ (w : World) (r : Nat) (O : Nat → Prop) (R : Rp) (b : List UInt8) (o : Int) (ad : Option Addr) (ca : Nat) (s : List Tr) (t : List UInt8), At w r O R → GoodR R → SetArg w O ad ca s → b.length ≤ lim → t.length ≤ lim →
    Calls Tryz.prog 9 #[.pointer (some ⟨r, 0, none⟩), .string ⟨b.toArray⟩, .int .i64 o, .slice ad s.length ca, .string ⟨t.toArray⟩] w fun e w' => e = .returned (.tuple #[.int .i64 (joinI R b o s t : Int), errV (joinE R b o s t)]) ∧ ∃ O' : Nat → Prop, At w' r O' (joinR R b o s t) ∧ Offs O w w' ∧ ∀ j, O' j → O j ∨ w.heap.size ≤ j
  branch : ∀ (w : World) (r : Nat) (O : Nat → Prop) (R : Rp) (b : List UInt8) (a : Int), At w r O R → GoodR R → b.length ≤ lim →
    Calls Tryz.prog 11 #[.pointer (some ⟨r, 0, none⟩), .string ⟨b.toArray⟩, .int .i64 a] w fun e w' => e = .returned (errV (branchE R b a)) ∧ ∃ O' : Nat → Prop, At w' r O' (branchR R b a) ∧ Offs O w w' ∧ ∀ j, O' j → O j ∨ w.heap.size ≤ j
  move : ∀ (w : World) (r : Nat) (O : Nat → Prop) (R : Rp) (b : List UInt8) (f t : Int), At w r O R → GoodR R → b.length ≤ lim →
    Calls Tryz.prog 13 #[.pointer (some ⟨r, 0, none⟩), .string ⟨b.toArray⟩, .int .i64 f, .int .i64 t] w fun e w' => e = .returned (errV (moveE R b f t)) ∧ ∃ O' : Nat → Prop, At w' r O' (moveR R b f t) ∧ Offs O w w' ∧ ∀ j, O' j → O j ∨ w.heap.size ≤ j
  drop : ∀ (w : World) (r : Nat) (O : Nat → Prop) (R : Rp) (b : List UInt8), At w r O R → GoodR R → b.length ≤ lim →
    Calls Tryz.prog 15 #[.pointer (some ⟨r, 0, none⟩), .string ⟨b.toArray⟩] w fun e w' => e = .returned (errV (headE R b)) ∧ ∃ O' : Nat → Prop, At w' r O' (dropR R b) ∧ Offs O w w' ∧ ∀ j, O' j → O j ∨ w.heap.size ≤ j
  head : ∀ (w : World) (r : Nat) (O : Nat → Prop) (R : Rp) (b : List UInt8), At w r O R → GoodR R → b.length ≤ lim →
    Calls Tryz.prog 17 #[.pointer (some ⟨r, 0, none⟩), .string ⟨b.toArray⟩] w fun e w' => e = .returned (.tuple #[.int .i64 (headI R b), errV (headE R b)]) ∧ RowKit.Below w.heap.size w w'
  graph : ∀ (w : World) (r : Nat) (O : Nat → Prop) (R : Rp) (a : Int), At w r O R → GoodR R →
    Calls Tryz.prog 18 #[.pointer (some ⟨r, 0, none⟩), .int .i64 a] w fun e w' => ∃ ad ca, e = .returned (.tuple #[.slice ad (graphL R a).length ca, errV (graphE R a)]) ∧ SlT w' ad (graphL R a) ∧ RowKit.Below w.heap.size w w'
  refs : ∀ (w : World) (r : Nat) (O : Nat → Prop) (R : Rp), At w r O R → GoodR R →
    Calls Tryz.prog 21 #[.pointer (some ⟨r, 0, none⟩)] w fun e w' => ∃ ad ca, e = .returned (.slice ad R.refs.length ca) ∧ SlF w' ad R.refs ∧ RowKit.Below w.heap.size w w'
  commits : ∀ (w : World) (r : Nat) (O : Nat → Prop) (R : Rp), At w r O R → GoodR R →
    Calls Tryz.prog 23 #[.pointer (some ⟨r, 0, none⟩)] w fun e w' => ∃ ad ca, e = .returned (.slice ad R.coms.length ca) ∧ R.coms.length ≤ ca ∧ SlC w' ad R.coms ∧ (∀ b o, ad = some ⟨b, o, none⟩ → ∀ i, i < R.coms.length → ∀ a n c, w'.cell? ⟨b, o + i * 3, none⟩ = some (.slice a n c) → n ≤ c) ∧ RowKit.Below w.heap.size w w'
  object : ∀ (w : World) (r : Nat) (O : Nat → Prop) (R : Rp) (id : Int), At w r O R → GoodR R →
    Calls Tryz.prog 25 #[.pointer (some ⟨r, 0, none⟩), .int .i64 id] w fun e w' => e = .returned (.tuple #[.string ⟨(objB R.L id).toArray⟩, errV (objE R.L id)]) ∧ RowKit.Below w.heap.size w w'

theorem RFace.below (F : RFace) {w w' : World} {r : Nat} {O : Nat → Prop} {R : Rp} (h : F.At w r O R) (hb : RowKit.Below w.heap.size w w') : F.At w' r O R :=
  F.keep h fun j hj => hb.block j (F.own h j hj)
end Go.Proofs.YtaddfndohoppeaaGreatDoor
