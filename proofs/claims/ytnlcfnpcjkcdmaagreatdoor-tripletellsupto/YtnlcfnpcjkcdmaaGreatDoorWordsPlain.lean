/- Words: a text cut at the blanks that are in no quotes; plain lists, no program. -/
import Derived.Test.YtnlcfnpcjkcdmaaGreatDoorPlain
namespace Go.Proofs.YtnlcfnpcjkcdmaaGreatDoor
open Go Go.RowKit Go.Proofs
set_option synthInstance.maxSize 1000

/-- behind the opening quotes: how far to behind the closing ones, or to the end -/
def qScan : List UInt8 → Nat
  | [] => 0
  | [c] => if c = 92 then 1 else 1
  | c :: d :: r => if c = 92 then 2 + qScan r else if c = 34 then 1 else 1 + qScan (d :: r)
def qEnd (l : List UInt8) : Nat := match l with
  | [] => 0
  | c :: r => if c = 34 then 1 + qScan r else 0

theorem qScan_le : ∀ l, qScan l ≤ l.length
  | [] => by simp [qScan]
  | [c] => by simp [qScan]
  | c :: d :: r => by
    have h1 := qScan_le r
    have h2 := qScan_le (d :: r)
    simp only [List.length_cons] at *
    unfold qScan
    repeat' split
    all_goals omega
theorem qEnd_le (l : List UInt8) : qEnd l ≤ l.length := by
  cases l with
  | nil => simp [qEnd]
  | cons c r =>
    have := qScan_le r
    unfold qEnd
    simp only [List.length_cons]
    split <;> omega

/-- a text cut at its first blank that is not between quotes -/
def cutW (l : List UInt8) : Option (List UInt8 × List UInt8) :=
  if Lib.indexByte (l.drop (qEnd l)) 32 < 0 then none else some (l.take (qEnd l + (Lib.indexByte (l.drop (qEnd l)) 32).toNat), l.drop (qEnd l + (Lib.indexByte (l.drop (qEnd l)) 32).toNat + 1))
theorem markB_iff (c : UInt8) : markB (c.toNat : Int) = true ↔ c = 34 ∨ c = 92 := by
  simp only [markB, decide_eq_true_eq]
  constructor
  · rintro (h | h)
    · left; exact UInt8.toNat_inj.1 (by simpa using (by omega : c.toNat = 34))
    · right; exact UInt8.toNat_inj.1 (by simpa using (by omega : c.toNat = 92))
  · rintro (rfl | rfl) <;> simp

theorem qScan_esc (S b : List UInt8) : qScan (escL S ++ 34 :: b) = (escL S).length + 1 := by
  induction S with
  | nil =>
    show qScan (34 :: b) = 1
    cases b <;> simp [qScan]
  | cons c r ih =>
    rw [escL_cons]
    cases hm : markB (c.toNat : Int)
    · have hc : ¬ (c = 34 ∨ c = 92) := fun h => by rw [(markB_iff c).2 h] at hm; simp at hm
      have h1 : c ≠ 92 := fun h => hc (Or.inr h)
      have h2 : c ≠ 34 := fun h => hc (Or.inl h)
      simp only [Bool.false_eq_true, if_false, List.cons_append, List.nil_append, List.length_cons]
      cases hx : escL r ++ 34 :: b with
      | nil => simp at hx
      | cons d q =>
        rw [qScan, if_neg h1, if_neg h2, ← hx, ih]
        omega
    · simp only [if_true, List.cons_append, List.nil_append, List.length_cons]
      rw [qScan, if_pos rfl, ih]
      omega

theorem indexByte_at (m r : List UInt8) (h : ∀ c ∈ m, c ≠ 32) : Lib.indexByte (m ++ 32 :: r) 32 = m.length := by
  induction m with
  | nil => simp [Lib.indexByte]
  | cons c q ih =>
    have hc : (c == 32) = false := by simpa using h c (by simp)
    have := ih (fun x hx => h x (by simp [hx]))
    rw [List.cons_append, Lib.indexByte, hc, this]
    have hne : (((q.length : Nat) : Int) == -1) = false := by simp
    rw [hne]
    simp

theorem cutW_of (u t r : List UInt8) (hq : qEnd (u ++ t ++ 32 :: r) = u.length) (ht : ∀ c ∈ t, c ≠ 32) : cutW (u ++ t ++ 32 :: r) = some (u ++ t, r) := by
  have hi : Lib.indexByte ((u ++ t ++ 32 :: r).drop (qEnd (u ++ t ++ 32 :: r))) 32 = t.length := by
    rw [hq, List.append_assoc, List.drop_left]
    exact indexByte_at t r ht
  unfold cutW
  rw [hi, if_neg (by omega), hq, Int.toNat_natCast]
  congr 1
  rw [Prod.mk.injEq]
  constructor
  · rw [show u.length + t.length = (u ++ t).length by simp, List.take_left]
  · rw [show u.length + t.length + 1 = (u ++ t ++ [32]).length by simp; omega, show u ++ t ++ 32 :: r = (u ++ t ++ [32]) ++ r by simp, List.drop_left]

theorem allB_mem {p : Int → Bool} {l : List UInt8} (h : allB p l = true) : ∀ c ∈ l, p (c.toNat : Int) = true := by
  intro c hc
  unfold allB at h
  rw [List.all_eq_true] at h
  exact h c hc

theorem cutW_show (k : Int) (S L r : List UInt8) (h : checkN k S L = 0) : cutW (showL k S L ++ 32 :: r) = some (showL k S L, r) := by
  obtain ⟨hk, hS, hsp⟩ := check_zero h
  rcases hk with rfl | rfl | rfl
  · have hs : showL 1 S L = S := rfl
    rw [hs]
    simp only [spellB, if_true, Bool.and_eq_true] at hsp
    cases S with
    | nil => simp [nameOk] at hsp
    | cons c q =>
      simp only [nameOk, Bool.and_eq_true] at hsp
      have h32 : ∀ x ∈ c :: q, x ≠ 32 := fun x hx e => by
        have := allB_mem hsp.2.2 x hx
        subst e
        simp [nameB, letB, digB] at this
      have h34 : c ≠ 34 := fun e => by
        have := hsp.2.1
        subst e
        simp [letB] at this
      exact cutW_of [] (c :: q) r (by simp [qEnd, h34]) h32
  · have hs : showL 2 S L = 95 :: S := rfl
    rw [hs]
    have hsp' : anonOk S = true := by simp [spellB] at hsp; exact hsp.2
    have h32 : ∀ x ∈ 95 :: S, x ≠ 32 := fun x hx e => by
      rcases List.mem_cons.1 hx with e' | hx'
      · rw [e] at e'; simp at e'
      · cases S with
        | nil => simp at hx'
        | cons c q =>
          have := allB_mem (show allB anonB (c :: q) = true from hsp') x hx'
          subst e
          simp [anonB, letB, digB] at this
    exact cutW_of [] (95 :: S) r (by simp [qEnd]) h32
  · have hs : showL 3 S L = quoteL S ++ markL L := rfl
    rw [hs]
    have hsp' : (L.isEmpty || langOk L) = true := by simp [spellB] at hsp; simp; exact hsp.1
    have h32 : ∀ x ∈ markL L, x ≠ 32 := fun x hx e => by
      cases L with
      | nil => simp [markL] at hx
      | cons c q =>
        have hl : langOk (c :: q) = true := by simpa using hsp'
        simp only [langOk, Bool.and_eq_true] at hl
        rcases List.mem_cons.1 (show x ∈ 64 :: c :: q from hx) with e' | hx'
        · rw [e] at e'; simp at e'
        · have := allB_mem hl.2 x hx'
          subst e
          simp [letB] at this
    refine cutW_of (quoteL S) (markL L) r ?_ h32
    have e : quoteL S ++ markL L ++ 32 :: r = 34 :: (escL S ++ 34 :: (markL L ++ 32 :: r)) := by simp [quoteL]
    rw [e]
    show (if (34 : UInt8) = 34 then 1 + qScan (escL S ++ 34 :: (markL L ++ 32 :: r)) else 0) = _
    rw [if_pos rfl, qScan_esc]
    simp [quoteL]
    omega


def togB (inn : Bool) (cur : List UInt8) (c : UInt8) : Bool := if (c == 34 && (inn || cur.isEmpty)) = true then !inn else inn
/-- the words of what is left, within quotes or not, behind what has come of the word -/
def wscan : Bool → List UInt8 → List UInt8 → List (List UInt8)
  | _, cur, [] => [cur]
  | inn, cur, [c] => if (inn && c == 92) = true then [cur ++ [c]] else if (c == 32 && !inn) = true then [cur, []] else [cur ++ [c]]
  | inn, cur, c :: d :: r => if (inn && c == 92) = true then wscan inn (cur ++ [c, d]) r else if (c == 32 && !inn) = true then cur :: wscan inn [] (d :: r) else wscan (togB inn cur c) (cur ++ [c]) (d :: r)

theorem wscan_plain (inn : Bool) (cur : List UInt8) (c : UInt8) (r : List UInt8) (h : (inn && c == 92) = false) :
    wscan inn cur (c :: r) = if (c == 32 && !inn) = true then cur :: wscan inn [] r else wscan (togB inn cur c) (cur ++ [c]) r := by
  have h' : ¬ (inn && c == 92) = true := by rw [h]; simp
  cases r with
  | nil => simp only [wscan, h, Bool.false_eq_true, if_false]
  | cons d r => rw [wscan, if_neg h']
theorem wscan_skip (cur : List UInt8) (d : UInt8) (r : List UInt8) : wscan true cur (92 :: d :: r) = wscan true (cur ++ [92, d]) r := by rw [wscan, if_pos (by decide)]
theorem wscan_last (cur : List UInt8) : wscan true cur [92] = [cur ++ [92]] := by rw [wscan, if_pos (by decide)]

theorem tog_out {cur : List UInt8} (c : UInt8) (h : cur ≠ []) : togB false cur c = false := by
  cases cur with
  | nil => exact absurd rfl h
  | cons a b => simp [togB]
theorem scan_out : ∀ (r cur : List UInt8), cur ≠ [] → wscan false cur r = if Lib.indexByte r 32 < 0 then [cur ++ r] else (cur ++ r.take (Lib.indexByte r 32).toNat) :: wscan false [] (r.drop ((Lib.indexByte r 32).toNat + 1))
  | [], cur, _ => by simp [wscan, Lib.indexByte]
  | c :: r, cur, hc => by
    rw [wscan_plain false cur c r (by simp)]
    by_cases h32 : c = 32
    · subst h32
      simp [Lib.indexByte]
    · have hb : (c == 32) = false := by simpa using h32
      have ih := scan_out r (cur ++ [c]) (by simp)
      have hge := Lib.indexByte_ge r 32
      rw [hb, if_neg (by simp), tog_out c hc, ih]
      rw [show Lib.indexByte (c :: r) 32 = if Lib.indexByte r 32 == -1 then -1 else Lib.indexByte r 32 + 1 by rw [Lib.indexByte, hb]; rfl]
      by_cases hm : Lib.indexByte r 32 = -1
      · rw [hm]; simp
      · have hm' : (Lib.indexByte r 32 == -1) = false := by simpa using hm
        rw [hm', if_neg (by omega)]
        simp only [Bool.false_eq_true, if_false]
        rw [if_neg (by omega), show (Lib.indexByte r 32 + 1).toNat = (Lib.indexByte r 32).toNat + 1 by omega]
        simp
theorem scan_in : ∀ (r cur : List UInt8), wscan true cur r = wscan false (cur ++ r.take (qScan r)) (r.drop (qScan r))
  | [], cur => by simp [wscan, qScan]
  | [c], cur => by
    have e : qScan [c] = 1 := by simp [qScan]
    rw [e]
    simp [wscan]
  | c :: d :: r, cur => by
    by_cases h92 : c = 92
    · subst h92
      rw [wscan_skip, scan_in r (cur ++ [92, d]), qScan, if_pos rfl, show 2 + qScan r = qScan r + 1 + 1 by omega]
      simp
    · have hb : (c == 92) = false := by simpa using h92
      rw [wscan_plain true cur c (d :: r) (by simp [hb]), if_neg (by simp), qScan, if_neg h92]
      by_cases h34 : c = 34
      · subst h34
        rw [if_pos rfl]
        simp [togB]
      · have hq : (c == 34) = false := by simpa using h34
        rw [if_neg h34, show togB true cur c = true by simp [togB, hq], scan_in (d :: r) (cur ++ [c]), show 1 + qScan (d :: r) = qScan (d :: r) + 1 by omega]
        simp

def wordsL (l : List UInt8) : List (List UInt8) := wscan false [] l
theorem words_eq (l : List UInt8) : wordsL l = if Lib.indexByte (l.drop (qEnd l)) 32 < 0 then [l] else l.take (qEnd l + (Lib.indexByte (l.drop (qEnd l)) 32).toNat) :: wordsL (l.drop (qEnd l + (Lib.indexByte (l.drop (qEnd l)) 32).toNat + 1)) := by
  cases l with
  | nil => simp [wordsL, wscan, qEnd, Lib.indexByte]
  | cons c r =>
    unfold wordsL
    rw [wscan_plain false [] c r (by simp)]
    by_cases h34 : c = 34
    · subst h34
      rw [show qEnd (34 :: r) = qScan r + 1 by simp [qEnd]; omega, if_neg (by decide), show togB false [] 34 = true by decide, scan_in, scan_out _ _ (by simp), List.drop_succ_cons]
      by_cases h : Lib.indexByte (r.drop (qScan r)) 32 < 0
      · rw [if_pos h, if_pos h]; simp
      · rw [if_neg h, if_neg h]
        generalize (Lib.indexByte (r.drop (qScan r)) 32).toNat = n
        rw [show qScan r + 1 + n = (qScan r + n) + 1 by omega, show qScan r + n + 1 + 1 = (qScan r + n + 1) + 1 by omega, List.take_succ_cons, List.drop_succ_cons, List.take_add, List.drop_drop]
        simp [Nat.add_assoc]
    · have hq : (c == 34) = false := by simpa using h34
      rw [show qEnd (c :: r) = 0 by simp [qEnd, h34], List.drop_zero]
      by_cases h32 : c = 32
      · subst h32
        simp [Lib.indexByte]
      · have hb : (c == 32) = false := by simpa using h32
        have hge := Lib.indexByte_ge r 32
        rw [hb, if_neg (by simp), show togB false [] c = false by simp [togB, hq], scan_out _ _ (by simp)]
        rw [show Lib.indexByte (c :: r) 32 = if Lib.indexByte r 32 == -1 then -1 else Lib.indexByte r 32 + 1 by rw [Lib.indexByte, hb]; rfl]
        by_cases hm : Lib.indexByte r 32 = -1
        · rw [hm]; simp
        · have hm' : (Lib.indexByte r 32 == -1) = false := by simpa using hm
          rw [hm', if_neg (by omega)]
          simp only [Bool.false_eq_true, if_false]
          rw [if_neg (by omega), show (Lib.indexByte r 32 + 1).toNat = (Lib.indexByte r 32).toNat + 1 by omega]
          simp
theorem words_none {l : List UInt8} (h : cutW l = none) : wordsL l = [l] := by
  rw [words_eq]
  unfold cutW at h
  by_cases hh : Lib.indexByte (l.drop (qEnd l)) 32 < 0
  · rw [if_pos hh]
  · rw [if_neg hh] at h; simp at h
theorem words_some {l a r : List UInt8} (h : cutW l = some (a, r)) : wordsL l = a :: wordsL r := by
  rw [words_eq]
  unfold cutW at h
  by_cases hh : Lib.indexByte (l.drop (qEnd l)) 32 < 0
  · rw [if_pos hh] at h; simp at h
  · rw [if_neg hh] at h
    simp only [Option.some.injEq, Prod.mk.injEq] at h
    rw [if_neg hh, h.1, h.2]

end Go.Proofs.YtnlcfnpcjkcdmaaGreatDoor
