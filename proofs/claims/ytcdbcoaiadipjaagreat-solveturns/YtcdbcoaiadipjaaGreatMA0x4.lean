import Derived.Test.YtcdbcoaiadipjaaGreatMA0x3
import Derived.Outline
import Derived.Test.YtcdbcoaiadipjaaGreatMA0x1

/- Parse: a text as a term. -/
namespace Go.Proofs.YtcdbcoaiadipjaaGreat
open Go Go.RowKit Go.Proofs

def parseN (l : List UInt8) : Int := match readL l with
  | none => 2
  | some p => if spellB p.1 p.2.1 p.2.2 = false then 2 else if longB p.2.1 = true then 4 else 0
def parseT (l : List UInt8) : Int × List UInt8 × List UInt8 := match readL l with
  | none => (0, [], [])
  | some p => if spellB p.1 p.2.1 p.2.2 = false then (0, [], []) else if longB p.2.1 = true then (0, [], []) else p
def termV (p : Int × List UInt8 × List UInt8) : Value := .agg #[.int .i64 p.1, .string ⟨p.2.1.toArray⟩, .string ⟨p.2.2.toArray⟩]

theorem readL_len (l : List UInt8) (p : Int × List UInt8 × List UInt8) (h : readL l = some p) : p.2.1.length ≤ l.length ∧ p.2.2.length ≤ l.length := by
  cases l with
  | nil => simp [readL] at h; subst h; simp
  | cons c r =>
    by_cases h1 : c = 95
    · simp [readL, h1] at h; subst h; simp
    · by_cases h2 : c = 34
      · subst h2
        have e1 : readL (34 :: r) = (readTextL r).map (fun p => (3, p.1, p.2)) := rfl
        rw [e1, Option.map_eq_some_iff] at h
        obtain ⟨q, hq, rfl⟩ := h
        unfold readTextL at hq
        cases hu : unqL r with
        | none => simp [hu] at hq
        | some u =>
          have := unqL_len r.length r u.1 u.2 (Nat.le_refl _) hu
          simp only [hu] at hq
          cases hr : langR u.2 with
          | none => simp [hr] at hq
          | some L =>
            simp [hr] at hq
            subst hq
            have hL : L.length ≤ u.2.length := by
              cases hu2 : u.2 with
              | nil => rw [hu2] at hr; simp [langR] at hr; subst hr; simp
              | cons d t =>
                rw [hu2] at hr
                by_cases hd : d = 64
                · cases hk : langOk t
                  · simp [langR, hd, hk] at hr
                  · simp [langR, hd, hk] at hr; subst hr; simp
                · simp [langR, hd] at hr
            simp only [List.length_cons]
            omega
      · simp [readL, h1, h2] at h; subst h; simp

theorem bnew {w w1 : World} (h : Below w.heap.size w w1) (o : Obj) : Below w.heap.size w (w1.alloc o) := bstep h (balloc _ _)

/-- the block that a call laid last ahead of another one reads behind that as it did -/
theorem kept1 {w w2 : World} {o : Obj} (hb : Below (w.alloc o).heap.size (w.alloc o) w2) :
    (∀ j, w2.cell? ⟨w.heap.size, j, none⟩ = (w.alloc o).cell? ⟨w.heap.size, j, none⟩) ∧ (∀ j, w2.frozen? ⟨w.heap.size, j, none⟩ = (w.alloc o).frozen? ⟨w.heap.size, j, none⟩) :=
  ⟨fun j => (bcell hb).1 _ j (by simp), fun j => (bcell hb).2 _ j (by simp)⟩
/-- .. and the block that was laid ahead of a call ahead of it -/
theorem kept2 {w w1 w2 : World} {o o' : Obj} (hb1 : Below (w.alloc o).heap.size (w.alloc o) w1) (hb2 : Below (w1.alloc o').heap.size (w1.alloc o') w2) (hz : w.heap.size < w1.heap.size) :
    (∀ j, w2.cell? ⟨w.heap.size, j, none⟩ = (w.alloc o).cell? ⟨w.heap.size, j, none⟩) ∧ (∀ j, w2.frozen? ⟨w.heap.size, j, none⟩ = (w.alloc o).frozen? ⟨w.heap.size, j, none⟩) :=
  ⟨fun j => ((bcell hb2).1 _ j (by simp; omega)).trans (((bcell (balloc w1 o')).1 _ j hz).trans ((bcell hb1).1 _ j (by simp))),
   fun j => ((bcell hb2).2 _ j (by simp; omega)).trans (((bcell (balloc w1 o')).2 _ j hz).trans ((bcell hb1).2 _ j (by simp)))⟩

/-- what a text of whatever length is -/
def anyN (l : List UInt8) : Int := match readL l with
  | none => 2
  | some p => if spellB p.1 p.2.1 p.2.2 = false then 2 else 0
def anyT (l : List UInt8) : Int × List UInt8 × List UInt8 := match readL l with
  | none => (0, [], [])
  | some p => if spellB p.1 p.2.1 p.2.2 = false then (0, [], []) else p

theorem any_cases (l : List UInt8) : (anyN l = 2 ∧ anyT l = (0, [], [])) ∨ (anyN l = 0 ∧ readL l = some (anyT l) ∧ spellB (anyT l).1 (anyT l).2.1 (anyT l).2.2 = true ∧ (anyT l).2.1.length ≤ l.length ∧ (anyT l).2.2.length ≤ l.length) := by
  cases hr : readL l with
  | none => left; simp [anyN, anyT, hr]
  | some p =>
    cases hsp : spellB p.1 p.2.1 p.2.2
    · left; simp [anyN, anyT, hr, hsp]
    · right
      have e : anyT l = p := by simp [anyT, hr, hsp]
      rw [e]
      exact ⟨by simp [anyN, hr, hsp], rfl, hsp, readL_len l p hr⟩

end Go.Proofs.YtcdbcoaiadipjaaGreat

/- What is shown is read, what is read is shown; terms are in one order: plain lists, no program. -/
namespace Go.Proofs.YtcdbcoaiadipjaaGreat
open Go Go.RowKit Go.Proofs

theorem mark_cases (c : UInt8) : markB (c.toNat : Int) = true ↔ c = 34 ∨ c = 92 := by
  have h34 := byte_eq c 34
  have h92 := byte_eq c 92
  rw [show ((34 : UInt8).toNat : Int) = 34 from rfl] at h34
  rw [show ((92 : UInt8).toNat : Int) = 92 from rfl] at h92
  rw [Bool.eq_iff_iff] at h34 h92
  simp only [beq_iff_eq] at h34 h92
  simp [markB, h34, h92]

theorem escL_cons (c : UInt8) (r : List UInt8) : escL (c :: r) = (if markB (c.toNat : Int) then [92, c] else [c]) ++ escL r := by simp [escL]

theorem unq_esc (S b : List UInt8) : unqL (escL S ++ 34 :: b) = some (S, b) := by
  induction S with
  | nil => show unqL (34 :: b) = _; rw [unqL_cons]; simp
  | cons c r ih =>
    rw [escL_cons]
    cases hm : markB (c.toNat : Int)
    · have hne : ¬ (c = 34 ∨ c = 92) := fun h => by rw [(mark_cases c).2 h] at hm; cases hm
      simp only [Bool.false_eq_true, if_false, List.cons_append, List.nil_append]
      rw [unqL_cons, if_neg (fun h => hne (Or.inl h)), if_neg (fun h => hne (Or.inr h)), ih]
      rfl
    · simp only [if_true, List.cons_append, List.nil_append]
      rw [unqL_cons, if_neg (by decide), if_pos rfl]
      simp only [hm, if_true]
      rw [ih]
      rfl

theorem esc_unq (n : Nat) : ∀ (l s b : List UInt8), l.length ≤ n → unqL l = some (s, b) → l = escL s ++ 34 :: b := by
  induction n with
  | zero => intro l s b hl h; cases l with
    | nil => simp [unqL] at h
    | cons => simp at hl
  | succ n ih =>
    intro l s b hl h
    cases l with
    | nil => simp [unqL] at h
    | cons c r =>
      rw [unqL_cons] at h
      simp only [List.length_cons] at hl
      by_cases hc : c = 34
      · simp [hc] at h; obtain ⟨rfl, rfl⟩ := h; subst hc; rfl
      · rw [if_neg hc] at h
        by_cases hm : c = 92
        · rw [if_pos hm] at h
          cases r with
          | nil => simp at h
          | cons d r' =>
            simp only at h
            cases hb : markB (d.toNat : Int)
            · simp [hb] at h
            · simp only [hb, if_true, Option.map_eq_some_iff] at h
              obtain ⟨⟨s', b'⟩, h1, h2⟩ := h
              simp only [Prod.mk.injEq] at h2
              obtain ⟨rfl, rfl⟩ := h2
              have := ih r' s' b' (by simp at hl; omega) h1
              rw [escL_cons, hb, hm]
              simp [← this]
        · rw [if_neg hm, Option.map_eq_some_iff] at h
          obtain ⟨⟨s', b'⟩, h1, h2⟩ := h
          simp only [Prod.mk.injEq] at h2
          obtain ⟨rfl, rfl⟩ := h2
          have := ih r s' b' (by omega) h1
          have hm' : markB (c.toNat : Int) = false := by
            cases hx : markB (c.toNat : Int)
            · rfl
            · rcases (mark_cases c).1 hx with h | h
              · exact absurd h hc
              · exact absurd h hm
          rw [escL_cons, hm']
          simp [← this]

theorem langR_mark (L : List UInt8) (h : L = [] ∨ langOk L = true) : langR (markL L) = some L := by
  cases L with
  | nil => rfl
  | cons c r =>
    have hk : langOk (c :: r) = true := by rcases h with h | h; exact absurd h (by simp); exact h
    show langR (64 :: c :: r) = _
    simp [langR, hk]

theorem mark_langR (b L : List UInt8) (h : langR b = some L) : b = markL L ∧ (L = [] ∨ langOk L = true) := by
  cases b with
  | nil => simp [langR] at h; subst h; exact ⟨rfl, Or.inl rfl⟩
  | cons c r =>
    by_cases hc : c = 64
    · cases hk : langOk r
      · simp [langR, hc, hk] at h
      · simp [langR, hc, hk] at h
        subst h hc
        refine ⟨?_, Or.inr hk⟩
        cases r with
        | nil => simp [langOk] at hk
        | cons => rfl
    · simp [langR, hc] at h

theorem let_ne (c : UInt8) (h : letB (c.toNat : Int) = true) : c ≠ 95 ∧ c ≠ 34 := by
  refine ⟨?_, ?_⟩
  · rintro rfl; revert h; decide
  · rintro rfl; revert h; decide

theorem spell_text {S L : List UInt8} (h : spellB 3 S L = true) : L = [] ∨ langOk L = true := by
  have e : spellB 3 S L = ((L.isEmpty || langOk L) && textOk S) := rfl
  rw [e] at h
  simp only [Bool.and_eq_true, Bool.or_eq_true, List.isEmpty_iff] at h
  exact h.1

theorem read_show (k : Int) (S L : List UInt8) (hk : k = 1 ∨ k = 2 ∨ k = 3) (hsp : spellB k S L = true) : readL (showL k S L) = some (k, S, L) := by
  rcases hk with rfl | rfl | rfl
  · have e : spellB 1 S L = (L.isEmpty && nameOk S) := rfl
    rw [e] at hsp
    simp only [Bool.and_eq_true, List.isEmpty_iff] at hsp
    obtain ⟨rfl, hn⟩ := hsp
    cases S with
    | nil => simp [nameOk] at hn
    | cons c r =>
      simp only [nameOk, Bool.and_eq_true] at hn
      obtain ⟨h1, h2⟩ := let_ne c hn.1
      show readL (c :: r) = _
      simp [readL, h1, h2]
  · have e : spellB 2 S L = (L.isEmpty && anonOk S) := rfl
    rw [e] at hsp
    simp only [Bool.and_eq_true, List.isEmpty_iff] at hsp
    obtain ⟨rfl, hn⟩ := hsp
    rfl
  · have hL := spell_text hsp
    have e1 : showL 3 S L = 34 :: (escL S ++ 34 :: markL L) := by
      show quoteL S ++ markL L = _
      simp [quoteL]
    have e2 : readTextL (escL S ++ 34 :: markL L) = some (S, L) := by
      simp [readTextL, unq_esc, langR_mark L hL]
    rw [e1]
    show (readTextL (escL S ++ 34 :: markL L)).map _ = _
    rw [e2]; rfl

theorem show_read (l : List UInt8) (k : Int) (S L : List UInt8) (h : readL l = some (k, S, L)) : showL k S L = l ∧ (k = 1 ∨ k = 2 ∨ k = 3) := by
  cases l with
  | nil => simp [readL] at h; obtain ⟨rfl, rfl, rfl⟩ := h; exact ⟨rfl, Or.inl rfl⟩
  | cons c r =>
    by_cases h1 : c = 95
    · simp [readL, h1] at h; obtain ⟨rfl, rfl, rfl⟩ := h; subst h1; exact ⟨rfl, Or.inr (Or.inl rfl)⟩
    · by_cases h2 : c = 34
      · subst h2
        have e1 : readL (34 :: r) = (readTextL r).map (fun p => (3, p.1, p.2)) := rfl
        rw [e1, Option.map_eq_some_iff] at h
        obtain ⟨q, hq, h3⟩ := h
        simp only [Prod.mk.injEq] at h3
        obtain ⟨rfl, rfl, rfl⟩ := h3
        unfold readTextL at hq
        cases hu : unqL r with
        | none => simp [hu] at hq
        | some u =>
          simp only [hu] at hq
          cases hr : langR u.2 with
          | none => simp [hr] at hq
          | some L' =>
            simp [hr] at hq
            subst hq
            obtain ⟨hm, _⟩ := mark_langR _ _ hr
            have := esc_unq r.length r u.1 u.2 (Nat.le_refl _) hu
            refine ⟨?_, Or.inr (Or.inr rfl)⟩
            show quoteL u.1 ++ markL L' = _
            rw [← hm, this]
            simp [quoteL]
      · simp [readL, h1, h2] at h; obtain ⟨rfl, rfl, rfl⟩ := h; exact ⟨rfl, Or.inl rfl⟩

/-- what is shown is read as it was -/
theorem parse_show (k : Int) (S L : List UInt8) (h : checkN k S L = 0) : parseN (showL k S L) = 0 ∧ parseT (showL k S L) = (k, S, L) := by
  obtain ⟨hk, hS, hsp⟩ := check_zero h
  have hr := read_show k S L hk hsp
  have hlo : longB S = false := by simp [longB]; omega
  exact ⟨by simp [parseN, hr, hsp, hlo], by simp [parseT, hr, hsp, hlo]⟩

/-- what is read is shown as it was -/
theorem show_parse (l : List UInt8) (h : parseN l = 0) : checkN (parseT l).1 (parseT l).2.1 (parseT l).2.2 = 0 ∧ showL (parseT l).1 (parseT l).2.1 (parseT l).2.2 = l := by
  cases hr : readL l with
  | none => simp [parseN, hr] at h
  | some p =>
    obtain ⟨k, S, L⟩ := p
    cases hsp : spellB k S L
    · simp [parseN, hr, hsp] at h
    · cases hlo : longB S
      · have e : parseT l = (k, S, L) := by simp [parseT, hr, hsp, hlo]
        obtain ⟨hs, hk⟩ := show_read l k S L hr
        rw [e]
        refine ⟨?_, hs⟩
        have hkb : kindB k = true := by simp [kindB]; exact hk
        show checkN k S L = 0
        simp [checkN, hkb, hsp, hlo]
      · simp [parseN, hr, hsp, hlo] at h

theorem show_len (k : Int) (S L : List UInt8) (h : checkN k S L = 0) : (showL k S L).length ≤ 140737488355328 := by
  obtain ⟨_, hS, hsp⟩ := check_zero h
  have hL := spell_lang hsp
  have h1 := quoteL_len S
  have h2 := markL_len L
  unfold showL
  repeat' split
  all_goals (simp; try omega)

end Go.Proofs.YtcdbcoaiadipjaaGreat

/- Words: a text cut at the blanks that are in no quotes; plain lists, no program. -/
namespace Go.Proofs.YtcdbcoaiadipjaaGreat
open Go Go.RowKit Go.Proofs
set_option synthInstance.maxSize 1000

/-- behind the opening quotes: how far to behind the closing ones, or to the end -/
def qScan : List UInt8 → Nat
  | [] => 0
  | [c] => if c = 92 then 1 else 1
  | c :: d :: r => if c = 92 then 2 + qScan r else if c = 34 then 1 else 1 + qScan (d :: r)
def qEnd (l : List UInt8) : Nat := match l with
  | [] => 0
  | c :: r => if c = 34 then 1 + qScan r else 0

theorem qScan_le : ∀ l, qScan l ≤ l.length
  | [] => by simp [qScan]
  | [c] => by simp [qScan]
  | c :: d :: r => by
    have h1 := qScan_le r
    have h2 := qScan_le (d :: r)
    simp only [List.length_cons] at *
    unfold qScan
    repeat' split
    all_goals omega
theorem qEnd_le (l : List UInt8) : qEnd l ≤ l.length := by
  cases l with
  | nil => simp [qEnd]
  | cons c r =>
    have := qScan_le r
    unfold qEnd
    simp only [List.length_cons]
    split <;> omega

/-- a text cut at its first blank that is not between quotes -/
def cutW (l : List UInt8) : Option (List UInt8 × List UInt8) :=
  if Lib.indexByte (l.drop (qEnd l)) 32 < 0 then none else some (l.take (qEnd l + (Lib.indexByte (l.drop (qEnd l)) 32).toNat), l.drop (qEnd l + (Lib.indexByte (l.drop (qEnd l)) 32).toNat + 1))
theorem markB_iff (c : UInt8) : markB (c.toNat : Int) = true ↔ c = 34 ∨ c = 92 := by
  simp only [markB, decide_eq_true_eq]
  constructor
  · rintro (h | h)
    · left; exact UInt8.toNat_inj.1 (by simpa using (by omega : c.toNat = 34))
    · right; exact UInt8.toNat_inj.1 (by simpa using (by omega : c.toNat = 92))
  · rintro (rfl | rfl) <;> simp

theorem qScan_esc (S b : List UInt8) : qScan (escL S ++ 34 :: b) = (escL S).length + 1 := by
  induction S with
  | nil =>
    show qScan (34 :: b) = 1
    cases b <;> simp [qScan]
  | cons c r ih =>
    rw [escL_cons]
    cases hm : markB (c.toNat : Int)
    · have hc : ¬ (c = 34 ∨ c = 92) := fun h => by rw [(markB_iff c).2 h] at hm; simp at hm
      have h1 : c ≠ 92 := fun h => hc (Or.inr h)
      have h2 : c ≠ 34 := fun h => hc (Or.inl h)
      simp only [Bool.false_eq_true, if_false, List.cons_append, List.nil_append, List.length_cons]
      cases hx : escL r ++ 34 :: b with
      | nil => simp at hx
      | cons d q =>
        rw [qScan, if_neg h1, if_neg h2, ← hx, ih]
        omega
    · simp only [if_true, List.cons_append, List.nil_append, List.length_cons]
      rw [qScan, if_pos rfl, ih]
      omega

theorem indexByte_at (m r : List UInt8) (h : ∀ c ∈ m, c ≠ 32) : Lib.indexByte (m ++ 32 :: r) 32 = m.length := by
  induction m with
  | nil => simp [Lib.indexByte]
  | cons c q ih =>
    have hc : (c == 32) = false := by simpa using h c (by simp)
    have := ih (fun x hx => h x (by simp [hx]))
    rw [List.cons_append, Lib.indexByte, hc, this]
    have hne : (((q.length : Nat) : Int) == -1) = false := by simp
    rw [hne]
    simp

theorem cutW_of (u t r : List UInt8) (hq : qEnd (u ++ t ++ 32 :: r) = u.length) (ht : ∀ c ∈ t, c ≠ 32) : cutW (u ++ t ++ 32 :: r) = some (u ++ t, r) := by
  have hi : Lib.indexByte ((u ++ t ++ 32 :: r).drop (qEnd (u ++ t ++ 32 :: r))) 32 = t.length := by
    rw [hq, List.append_assoc, List.drop_left]
    exact indexByte_at t r ht
  unfold cutW
  rw [hi, if_neg (by omega), hq, Int.toNat_natCast]
  congr 1
  rw [Prod.mk.injEq]
  constructor
  · rw [show u.length + t.length = (u ++ t).length by simp, List.take_left]
  · rw [show u.length + t.length + 1 = (u ++ t ++ [32]).length by simp; omega, show u ++ t ++ 32 :: r = (u ++ t ++ [32]) ++ r by simp, List.drop_left]

theorem allB_mem {p : Int → Bool} {l : List UInt8} (h : allB p l = true) : ∀ c ∈ l, p (c.toNat : Int) = true := by
  intro c hc
  unfold allB at h
  rw [List.all_eq_true] at h
  exact h c hc

theorem cutW_show (k : Int) (S L r : List UInt8) (h : checkN k S L = 0) : cutW (showL k S L ++ 32 :: r) = some (showL k S L, r) := by
  obtain ⟨hk, hS, hsp⟩ := check_zero h
  rcases hk with rfl | rfl | rfl
  · have hs : showL 1 S L = S := rfl
    rw [hs]
    simp only [spellB, if_true, Bool.and_eq_true] at hsp
    cases S with
    | nil => simp [nameOk] at hsp
    | cons c q =>
      simp only [nameOk, Bool.and_eq_true] at hsp
      have h32 : ∀ x ∈ c :: q, x ≠ 32 := fun x hx e => by
        have := allB_mem hsp.2.2 x hx
        subst e
        simp [nameB, letB, digB] at this
      have h34 : c ≠ 34 := fun e => by
        have := hsp.2.1
        subst e
        simp [letB] at this
      exact cutW_of [] (c :: q) r (by simp [qEnd, h34]) h32
  · have hs : showL 2 S L = 95 :: S := rfl
    rw [hs]
    have hsp' : anonOk S = true := by simp [spellB] at hsp; exact hsp.2
    have h32 : ∀ x ∈ 95 :: S, x ≠ 32 := fun x hx e => by
      rcases List.mem_cons.1 hx with e' | hx'
      · rw [e] at e'; simp at e'
      · cases S with
        | nil => simp at hx'
        | cons c q =>
          have := allB_mem (show allB anonB (c :: q) = true from hsp') x hx'
          subst e
          simp [anonB, letB, digB] at this
    exact cutW_of [] (95 :: S) r (by simp [qEnd]) h32
  · have hs : showL 3 S L = quoteL S ++ markL L := rfl
    rw [hs]
    have hsp' : (L.isEmpty || langOk L) = true := by simp [spellB] at hsp; simp; exact hsp.1
    have h32 : ∀ x ∈ markL L, x ≠ 32 := fun x hx e => by
      cases L with
      | nil => simp [markL] at hx
      | cons c q =>
        have hl : langOk (c :: q) = true := by simpa using hsp'
        simp only [langOk, Bool.and_eq_true] at hl
        rcases List.mem_cons.1 (show x ∈ 64 :: c :: q from hx) with e' | hx'
        · rw [e] at e'; simp at e'
        · have := allB_mem hl.2 x hx'
          subst e
          simp [letB] at this
    refine cutW_of (quoteL S) (markL L) r ?_ h32
    have e : quoteL S ++ markL L ++ 32 :: r = 34 :: (escL S ++ 34 :: (markL L ++ 32 :: r)) := by simp [quoteL]
    rw [e]
    show (if (34 : UInt8) = 34 then 1 + qScan (escL S ++ 34 :: (markL L ++ 32 :: r)) else 0) = _
    rw [if_pos rfl, qScan_esc]
    simp [quoteL]
    omega


def togB (inn : Bool) (cur : List UInt8) (c : UInt8) : Bool := if (c == 34 && (inn || cur.isEmpty)) = true then !inn else inn
/-- the words of what is left, within quotes or not, behind what has come of the word -/
def wscan : Bool → List UInt8 → List UInt8 → List (List UInt8)
  | _, cur, [] => [cur]
  | inn, cur, [c] => if (inn && c == 92) = true then [cur ++ [c]] else if (c == 32 && !inn) = true then [cur, []] else [cur ++ [c]]
  | inn, cur, c :: d :: r => if (inn && c == 92) = true then wscan inn (cur ++ [c, d]) r else if (c == 32 && !inn) = true then cur :: wscan inn [] (d :: r) else wscan (togB inn cur c) (cur ++ [c]) (d :: r)

theorem wscan_plain (inn : Bool) (cur : List UInt8) (c : UInt8) (r : List UInt8) (h : (inn && c == 92) = false) :
    wscan inn cur (c :: r) = if (c == 32 && !inn) = true then cur :: wscan inn [] r else wscan (togB inn cur c) (cur ++ [c]) r := by
  have h' : ¬ (inn && c == 92) = true := by rw [h]; simp
  cases r with
  | nil => simp only [wscan, h, Bool.false_eq_true, if_false]
  | cons d r => rw [wscan, if_neg h']
theorem wscan_skip (cur : List UInt8) (d : UInt8) (r : List UInt8) : wscan true cur (92 :: d :: r) = wscan true (cur ++ [92, d]) r := by rw [wscan, if_pos (by decide)]
theorem wscan_last (cur : List UInt8) : wscan true cur [92] = [cur ++ [92]] := by rw [wscan, if_pos (by decide)]

theorem tog_out {cur : List UInt8} (c : UInt8) (h : cur ≠ []) : togB false cur c = false := by
  cases cur with
  | nil => exact absurd rfl h
  | cons a b => simp [togB]
theorem scan_out : ∀ (r cur : List UInt8), cur ≠ [] → wscan false cur r = if Lib.indexByte r 32 < 0 then [cur ++ r] else (cur ++ r.take (Lib.indexByte r 32).toNat) :: wscan false [] (r.drop ((Lib.indexByte r 32).toNat + 1))
  | [], cur, _ => by simp [wscan, Lib.indexByte]
  | c :: r, cur, hc => by
    rw [wscan_plain false cur c r (by simp)]
    by_cases h32 : c = 32
    · subst h32
      simp [Lib.indexByte]
    · have hb : (c == 32) = false := by simpa using h32
      have ih := scan_out r (cur ++ [c]) (by simp)
      have hge := Lib.indexByte_ge r 32
      rw [hb, if_neg (by simp), tog_out c hc, ih]
      rw [show Lib.indexByte (c :: r) 32 = if Lib.indexByte r 32 == -1 then -1 else Lib.indexByte r 32 + 1 by rw [Lib.indexByte, hb]; rfl]
      by_cases hm : Lib.indexByte r 32 = -1
      · rw [hm]; simp
      · have hm' : (Lib.indexByte r 32 == -1) = false := by simpa using hm
        rw [hm', if_neg (by omega)]
        simp only [Bool.false_eq_true, if_false]
        rw [if_neg (by omega), show (Lib.indexByte r 32 + 1).toNat = (Lib.indexByte r 32).toNat + 1 by omega]
        simp
theorem scan_in : ∀ (r cur : List UInt8), wscan true cur r = wscan false (cur ++ r.take (qScan r)) (r.drop (qScan r))
  | [], cur => by simp [wscan, qScan]
  | [c], cur => by
    have e : qScan [c] = 1 := by simp [qScan]
    rw [e]
    simp [wscan]
  | c :: d :: r, cur => by
    by_cases h92 : c = 92
    · subst h92
      rw [wscan_skip, scan_in r (cur ++ [92, d]), qScan, if_pos rfl, show 2 + qScan r = qScan r + 1 + 1 by omega]
      simp
    · have hb : (c == 92) = false := by simpa using h92
      rw [wscan_plain true cur c (d :: r) (by simp [hb]), if_neg (by simp), qScan, if_neg h92]
      by_cases h34 : c = 34
      · subst h34
        rw [if_pos rfl]
        simp [togB]
      · have hq : (c == 34) = false := by simpa using h34
        rw [if_neg h34, show togB true cur c = true by simp [togB, hq], scan_in (d :: r) (cur ++ [c]), show 1 + qScan (d :: r) = qScan (d :: r) + 1 by omega]
        simp

def wordsL (l : List UInt8) : List (List UInt8) := wscan false [] l
theorem words_eq (l : List UInt8) : wordsL l = if Lib.indexByte (l.drop (qEnd l)) 32 < 0 then [l] else l.take (qEnd l + (Lib.indexByte (l.drop (qEnd l)) 32).toNat) :: wordsL (l.drop (qEnd l + (Lib.indexByte (l.drop (qEnd l)) 32).toNat + 1)) := by
  cases l with
  | nil => simp [wordsL, wscan, qEnd, Lib.indexByte]
  | cons c r =>
    unfold wordsL
    rw [wscan_plain false [] c r (by simp)]
    by_cases h34 : c = 34
    · subst h34
      rw [show qEnd (34 :: r) = qScan r + 1 by simp [qEnd]; omega, if_neg (by decide), show togB false [] 34 = true by decide, scan_in, scan_out _ _ (by simp), List.drop_succ_cons]
      by_cases h : Lib.indexByte (r.drop (qScan r)) 32 < 0
      · rw [if_pos h, if_pos h]; simp
      · rw [if_neg h, if_neg h]
        generalize (Lib.indexByte (r.drop (qScan r)) 32).toNat = n
        rw [show qScan r + 1 + n = (qScan r + n) + 1 by omega, show qScan r + n + 1 + 1 = (qScan r + n + 1) + 1 by omega, List.take_succ_cons, List.drop_succ_cons, List.take_add, List.drop_drop]
        simp [Nat.add_assoc]
    · have hq : (c == 34) = false := by simpa using h34
      rw [show qEnd (c :: r) = 0 by simp [qEnd, h34], List.drop_zero]
      by_cases h32 : c = 32
      · subst h32
        simp [Lib.indexByte]
      · have hb : (c == 32) = false := by simpa using h32
        have hge := Lib.indexByte_ge r 32
        rw [hb, if_neg (by simp), show togB false [] c = false by simp [togB, hq], scan_out _ _ (by simp)]
        rw [show Lib.indexByte (c :: r) 32 = if Lib.indexByte r 32 == -1 then -1 else Lib.indexByte r 32 + 1 by rw [Lib.indexByte, hb]; rfl]
        by_cases hm : Lib.indexByte r 32 = -1
        · rw [hm]; simp
        · have hm' : (Lib.indexByte r 32 == -1) = false := by simpa using hm
          rw [hm', if_neg (by omega)]
          simp only [Bool.false_eq_true, if_false]
          rw [if_neg (by omega), show (Lib.indexByte r 32 + 1).toNat = (Lib.indexByte r 32).toNat + 1 by omega]
          simp
theorem words_none {l : List UInt8} (h : cutW l = none) : wordsL l = [l] := by
  rw [words_eq]
  unfold cutW at h
  by_cases hh : Lib.indexByte (l.drop (qEnd l)) 32 < 0
  · rw [if_pos hh]
  · rw [if_neg hh] at h; simp at h
theorem words_some {l a r : List UInt8} (h : cutW l = some (a, r)) : wordsL l = a :: wordsL r := by
  rw [words_eq]
  unfold cutW at h
  by_cases hh : Lib.indexByte (l.drop (qEnd l)) 32 < 0
  · rw [if_pos hh] at h; simp at h
  · rw [if_neg hh] at h
    simp only [Option.some.injEq, Prod.mk.injEq] at h
    rw [if_neg hh, h.1, h.2]

end Go.Proofs.YtcdbcoaiadipjaaGreat
