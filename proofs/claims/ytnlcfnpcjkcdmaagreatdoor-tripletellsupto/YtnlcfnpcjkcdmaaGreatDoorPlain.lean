/- What is shown is read, what is read is shown; terms are in one order: plain lists, no program. -/
import Derived.Test.YtnlcfnpcjkcdmaaGreatDoorParse
import Derived.Test.YtnlcfnpcjkcdmaaGreatDoorOrder
namespace Go.Proofs.YtnlcfnpcjkcdmaaGreatDoor
open Go Go.RowKit Go.Proofs

theorem mark_cases (c : UInt8) : markB (c.toNat : Int) = true ↔ c = 34 ∨ c = 92 := by
  have h34 := byte_eq c 34
  have h92 := byte_eq c 92
  rw [show ((34 : UInt8).toNat : Int) = 34 from rfl] at h34
  rw [show ((92 : UInt8).toNat : Int) = 92 from rfl] at h92
  rw [Bool.eq_iff_iff] at h34 h92
  simp only [beq_iff_eq] at h34 h92
  simp [markB, h34, h92]

theorem escL_cons (c : UInt8) (r : List UInt8) : escL (c :: r) = (if markB (c.toNat : Int) then [92, c] else [c]) ++ escL r := by simp [escL]

theorem unq_esc (S b : List UInt8) : unqL (escL S ++ 34 :: b) = some (S, b) := by
  induction S with
  | nil => show unqL (34 :: b) = _; rw [unqL_cons]; simp
  | cons c r ih =>
    rw [escL_cons]
    cases hm : markB (c.toNat : Int)
    · have hne : ¬ (c = 34 ∨ c = 92) := fun h => by rw [(mark_cases c).2 h] at hm; cases hm
      simp only [Bool.false_eq_true, if_false, List.cons_append, List.nil_append]
      rw [unqL_cons, if_neg (fun h => hne (Or.inl h)), if_neg (fun h => hne (Or.inr h)), ih]
      rfl
    · simp only [if_true, List.cons_append, List.nil_append]
      rw [unqL_cons, if_neg (by decide), if_pos rfl]
      simp only [hm, if_true]
      rw [ih]
      rfl

theorem esc_unq (n : Nat) : ∀ (l s b : List UInt8), l.length ≤ n → unqL l = some (s, b) → l = escL s ++ 34 :: b := by
  induction n with
  | zero => intro l s b hl h; cases l with
    | nil => simp [unqL] at h
    | cons => simp at hl
  | succ n ih =>
    intro l s b hl h
    cases l with
    | nil => simp [unqL] at h
    | cons c r =>
      rw [unqL_cons] at h
      simp only [List.length_cons] at hl
      by_cases hc : c = 34
      · simp [hc] at h; obtain ⟨rfl, rfl⟩ := h; subst hc; rfl
      · rw [if_neg hc] at h
        by_cases hm : c = 92
        · rw [if_pos hm] at h
          cases r with
          | nil => simp at h
          | cons d r' =>
            simp only at h
            cases hb : markB (d.toNat : Int)
            · simp [hb] at h
            · simp only [hb, if_true, Option.map_eq_some_iff] at h
              obtain ⟨⟨s', b'⟩, h1, h2⟩ := h
              simp only [Prod.mk.injEq] at h2
              obtain ⟨rfl, rfl⟩ := h2
              have := ih r' s' b' (by simp at hl; omega) h1
              rw [escL_cons, hb, hm]
              simp [← this]
        · rw [if_neg hm, Option.map_eq_some_iff] at h
          obtain ⟨⟨s', b'⟩, h1, h2⟩ := h
          simp only [Prod.mk.injEq] at h2
          obtain ⟨rfl, rfl⟩ := h2
          have := ih r s' b' (by omega) h1
          have hm' : markB (c.toNat : Int) = false := by
            cases hx : markB (c.toNat : Int)
            · rfl
            · rcases (mark_cases c).1 hx with h | h
              · exact absurd h hc
              · exact absurd h hm
          rw [escL_cons, hm']
          simp [← this]

theorem langR_mark (L : List UInt8) (h : L = [] ∨ langOk L = true) : langR (markL L) = some L := by
  cases L with
  | nil => rfl
  | cons c r =>
    have hk : langOk (c :: r) = true := by rcases h with h | h; exact absurd h (by simp); exact h
    show langR (64 :: c :: r) = _
    simp [langR, hk]

theorem mark_langR (b L : List UInt8) (h : langR b = some L) : b = markL L ∧ (L = [] ∨ langOk L = true) := by
  cases b with
  | nil => simp [langR] at h; subst h; exact ⟨rfl, Or.inl rfl⟩
  | cons c r =>
    by_cases hc : c = 64
    · cases hk : langOk r
      · simp [langR, hc, hk] at h
      · simp [langR, hc, hk] at h
        subst h hc
        refine ⟨?_, Or.inr hk⟩
        cases r with
        | nil => simp [langOk] at hk
        | cons => rfl
    · simp [langR, hc] at h

theorem let_ne (c : UInt8) (h : letB (c.toNat : Int) = true) : c ≠ 95 ∧ c ≠ 34 := by
  refine ⟨?_, ?_⟩
  · rintro rfl; revert h; decide
  · rintro rfl; revert h; decide

theorem spell_text {S L : List UInt8} (h : spellB 3 S L = true) : L = [] ∨ langOk L = true := by
  have e : spellB 3 S L = ((L.isEmpty || langOk L) && textOk S) := rfl
  rw [e] at h
  simp only [Bool.and_eq_true, Bool.or_eq_true, List.isEmpty_iff] at h
  exact h.1

theorem read_show (k : Int) (S L : List UInt8) (hk : k = 1 ∨ k = 2 ∨ k = 3) (hsp : spellB k S L = true) : readL (showL k S L) = some (k, S, L) := by
  rcases hk with rfl | rfl | rfl
  · have e : spellB 1 S L = (L.isEmpty && nameOk S) := rfl
    rw [e] at hsp
    simp only [Bool.and_eq_true, List.isEmpty_iff] at hsp
    obtain ⟨rfl, hn⟩ := hsp
    cases S with
    | nil => simp [nameOk] at hn
    | cons c r =>
      simp only [nameOk, Bool.and_eq_true] at hn
      obtain ⟨h1, h2⟩ := let_ne c hn.1
      show readL (c :: r) = _
      simp [readL, h1, h2]
  · have e : spellB 2 S L = (L.isEmpty && anonOk S) := rfl
    rw [e] at hsp
    simp only [Bool.and_eq_true, List.isEmpty_iff] at hsp
    obtain ⟨rfl, hn⟩ := hsp
    rfl
  · have hL := spell_text hsp
    have e1 : showL 3 S L = 34 :: (escL S ++ 34 :: markL L) := by
      show quoteL S ++ markL L = _
      simp [quoteL]
    have e2 : readTextL (escL S ++ 34 :: markL L) = some (S, L) := by
      simp [readTextL, unq_esc, langR_mark L hL]
    rw [e1]
    show (readTextL (escL S ++ 34 :: markL L)).map _ = _
    rw [e2]; rfl

theorem show_read (l : List UInt8) (k : Int) (S L : List UInt8) (h : readL l = some (k, S, L)) : showL k S L = l ∧ (k = 1 ∨ k = 2 ∨ k = 3) := by
  cases l with
  | nil => simp [readL] at h; obtain ⟨rfl, rfl, rfl⟩ := h; exact ⟨rfl, Or.inl rfl⟩
  | cons c r =>
    by_cases h1 : c = 95
    · simp [readL, h1] at h; obtain ⟨rfl, rfl, rfl⟩ := h; subst h1; exact ⟨rfl, Or.inr (Or.inl rfl)⟩
    · by_cases h2 : c = 34
      · subst h2
        have e1 : readL (34 :: r) = (readTextL r).map (fun p => (3, p.1, p.2)) := rfl
        rw [e1, Option.map_eq_some_iff] at h
        obtain ⟨q, hq, h3⟩ := h
        simp only [Prod.mk.injEq] at h3
        obtain ⟨rfl, rfl, rfl⟩ := h3
        unfold readTextL at hq
        cases hu : unqL r with
        | none => simp [hu] at hq
        | some u =>
          simp only [hu] at hq
          cases hr : langR u.2 with
          | none => simp [hr] at hq
          | some L' =>
            simp [hr] at hq
            subst hq
            obtain ⟨hm, _⟩ := mark_langR _ _ hr
            have := esc_unq r.length r u.1 u.2 (Nat.le_refl _) hu
            refine ⟨?_, Or.inr (Or.inr rfl)⟩
            show quoteL u.1 ++ markL L' = _
            rw [← hm, this]
            simp [quoteL]
      · simp [readL, h1, h2] at h; obtain ⟨rfl, rfl, rfl⟩ := h; exact ⟨rfl, Or.inl rfl⟩

/-- what is shown is read as it was -/
theorem parse_show (k : Int) (S L : List UInt8) (h : checkN k S L = 0) : parseN (showL k S L) = 0 ∧ parseT (showL k S L) = (k, S, L) := by
  obtain ⟨hk, hS, hsp⟩ := check_zero h
  have hr := read_show k S L hk hsp
  have hlo : longB S = false := by simp [longB]; omega
  exact ⟨by simp [parseN, hr, hsp, hlo], by simp [parseT, hr, hsp, hlo]⟩

/-- what is read is shown as it was -/
theorem show_parse (l : List UInt8) (h : parseN l = 0) : checkN (parseT l).1 (parseT l).2.1 (parseT l).2.2 = 0 ∧ showL (parseT l).1 (parseT l).2.1 (parseT l).2.2 = l := by
  cases hr : readL l with
  | none => simp [parseN, hr] at h
  | some p =>
    obtain ⟨k, S, L⟩ := p
    cases hsp : spellB k S L
    · simp [parseN, hr, hsp] at h
    · cases hlo : longB S
      · have e : parseT l = (k, S, L) := by simp [parseT, hr, hsp, hlo]
        obtain ⟨hs, hk⟩ := show_read l k S L hr
        rw [e]
        refine ⟨?_, hs⟩
        have hkb : kindB k = true := by simp [kindB]; exact hk
        show checkN k S L = 0
        simp [checkN, hkb, hsp, hlo]
      · simp [parseN, hr, hsp, hlo] at h

theorem show_len (k : Int) (S L : List UInt8) (h : checkN k S L = 0) : (showL k S L).length ≤ 140737488355328 := by
  obtain ⟨_, hS, hsp⟩ := check_zero h
  have hL := spell_lang hsp
  have h1 := quoteL_len S
  have h2 := markL_len L
  unfold showL
  repeat' split
  all_goals (simp; try omega)

end Go.Proofs.YtnlcfnpcjkcdmaaGreatDoor
