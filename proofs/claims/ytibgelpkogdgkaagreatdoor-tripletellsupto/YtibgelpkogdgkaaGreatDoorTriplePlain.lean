/- The plain theory of triples as texts: what is shown is cut and read as it was, and the other way round. -/
import Derived.Test.YtibgelpkogdgkaaGreatDoorCut3
import Derived.Test.YtibgelpkogdgkaaGreatDoorPlain
import Derived.Test.YtibgelpkogdgkaaGreatDoorTriplePrint
import Derived.Test.YtibgelpkogdgkaaGreatDoorTripleCompact
namespace Go.Proofs.YtibgelpkogdgkaaGreatDoor
open Go Go.RowKit Go.Proofs
set_option synthInstance.maxSize 1000

theorem markB_iff (c : UInt8) : markB (c.toNat : Int) = true ↔ c = 34 ∨ c = 92 := by
  simp only [markB, decide_eq_true_eq]
  constructor
  · rintro (h | h)
    · left; exact UInt8.toNat_inj.1 (by simpa using (by omega : c.toNat = 34))
    · right; exact UInt8.toNat_inj.1 (by simpa using (by omega : c.toNat = 92))
  · rintro (rfl | rfl) <;> simp

theorem qScan_esc (S b : List UInt8) : qScan (escL S ++ 34 :: b) = (escL S).length + 1 := by
  induction S with
  | nil =>
    show qScan (34 :: b) = 1
    cases b <;> simp [qScan]
  | cons c r ih =>
    rw [escL_cons]
    cases hm : markB (c.toNat : Int)
    · have hc : ¬ (c = 34 ∨ c = 92) := fun h => by rw [(markB_iff c).2 h] at hm; simp at hm
      have h1 : c ≠ 92 := fun h => hc (Or.inr h)
      have h2 : c ≠ 34 := fun h => hc (Or.inl h)
      simp only [Bool.false_eq_true, if_false, List.cons_append, List.nil_append, List.length_cons]
      cases hx : escL r ++ 34 :: b with
      | nil => simp at hx
      | cons d q =>
        rw [qScan, if_neg h1, if_neg h2, ← hx, ih]
        omega
    · simp only [if_true, List.cons_append, List.nil_append, List.length_cons]
      rw [qScan, if_pos rfl, ih]
      omega

theorem indexByte_at (m r : List UInt8) (h : ∀ c ∈ m, c ≠ 32) : Lib.indexByte (m ++ 32 :: r) 32 = m.length := by
  induction m with
  | nil => simp [Lib.indexByte]
  | cons c q ih =>
    have hc : (c == 32) = false := by simpa using h c (by simp)
    have := ih (fun x hx => h x (by simp [hx]))
    rw [List.cons_append, Lib.indexByte, hc, this]
    have hne : (((q.length : Nat) : Int) == -1) = false := by simp
    rw [hne]
    simp

theorem cutW_of (u t r : List UInt8) (hq : qEnd (u ++ t ++ 32 :: r) = u.length) (ht : ∀ c ∈ t, c ≠ 32) : cutW (u ++ t ++ 32 :: r) = some (u ++ t, r) := by
  have hi : Lib.indexByte ((u ++ t ++ 32 :: r).drop (qEnd (u ++ t ++ 32 :: r))) 32 = t.length := by
    rw [hq, List.append_assoc, List.drop_left]
    exact indexByte_at t r ht
  unfold cutW
  rw [hi, if_neg (by omega), hq, Int.toNat_natCast]
  congr 1
  rw [Prod.mk.injEq]
  constructor
  · rw [show u.length + t.length = (u ++ t).length by simp, List.take_left]
  · rw [show u.length + t.length + 1 = (u ++ t ++ [32]).length by simp; omega, show u ++ t ++ 32 :: r = (u ++ t ++ [32]) ++ r by simp, List.drop_left]

theorem allB_mem {p : Int → Bool} {l : List UInt8} (h : allB p l = true) : ∀ c ∈ l, p (c.toNat : Int) = true := by
  intro c hc
  unfold allB at h
  rw [List.all_eq_true] at h
  exact h c hc

theorem cutW_show (k : Int) (S L r : List UInt8) (h : checkN k S L = 0) : cutW (showL k S L ++ 32 :: r) = some (showL k S L, r) := by
  obtain ⟨hk, hS, hsp⟩ := check_zero h
  rcases hk with rfl | rfl | rfl
  · have hs : showL 1 S L = S := rfl
    rw [hs]
    simp only [spellB, if_true, Bool.and_eq_true] at hsp
    cases S with
    | nil => simp [nameOk] at hsp
    | cons c q =>
      simp only [nameOk, Bool.and_eq_true] at hsp
      have h32 : ∀ x ∈ c :: q, x ≠ 32 := fun x hx e => by
        have := allB_mem hsp.2.2 x hx
        subst e
        simp [nameB, letB, digB] at this
      have h34 : c ≠ 34 := fun e => by
        have := hsp.2.1
        subst e
        simp [letB] at this
      exact cutW_of [] (c :: q) r (by simp [qEnd, h34]) h32
  · have hs : showL 2 S L = 95 :: S := rfl
    rw [hs]
    have hsp' : anonOk S = true := by simp [spellB] at hsp; exact hsp.2
    have h32 : ∀ x ∈ 95 :: S, x ≠ 32 := fun x hx e => by
      rcases List.mem_cons.1 hx with e' | hx'
      · rw [e] at e'; simp at e'
      · cases S with
        | nil => simp at hx'
        | cons c q =>
          have := allB_mem (show allB anonB (c :: q) = true from hsp') x hx'
          subst e
          simp [anonB, letB, digB] at this
    exact cutW_of [] (95 :: S) r (by simp [qEnd]) h32
  · have hs : showL 3 S L = quoteL S ++ markL L := rfl
    rw [hs]
    have hsp' : (L.isEmpty || langOk L) = true := by simp [spellB] at hsp; simp; exact hsp.1
    have h32 : ∀ x ∈ markL L, x ≠ 32 := fun x hx e => by
      cases L with
      | nil => simp [markL] at hx
      | cons c q =>
        have hl : langOk (c :: q) = true := by simpa using hsp'
        simp only [langOk, Bool.and_eq_true] at hl
        rcases List.mem_cons.1 (show x ∈ 64 :: c :: q from hx) with e' | hx'
        · rw [e] at e'; simp at e'
        · have := allB_mem hl.2 x hx'
          subst e
          simp [letB] at this
    refine cutW_of (quoteL S) (markL L) r ?_ h32
    have e : quoteL S ++ markL L ++ 32 :: r = 34 :: (escL S ++ 34 :: (markL L ++ 32 :: r)) := by simp [quoteL]
    rw [e]
    show (if (34 : UInt8) = 34 then 1 + qScan (escL S ++ 34 :: (markL L ++ 32 :: r)) else 0) = _
    rw [if_pos rfl, qScan_esc]
    simp [quoteL]
    omega

theorem cutL_show (x : Tr) (h : chkTr x = 0) : cutL (showTr x) = some (showL x.1.1 x.1.2.1 x.1.2.2, showL x.2.1.1 x.2.1.2.1 x.2.1.2.2, showL x.2.2.1 x.2.2.2.1 x.2.2.2.2) := by
  obtain ⟨h1, h2, h3, _⟩ := chk_zero h
  have e : showTr x = showL x.1.1 x.1.2.1 x.1.2.2 ++ 32 :: (showL x.2.1.1 x.2.1.2.1 x.2.1.2.2 ++ 32 :: showL x.2.2.1 x.2.2.2.1 x.2.2.2.2) := by simp [showTr, joinUpto]
  rw [e]
  unfold cutL
  rw [cutW_show _ _ _ _ h1]
  simp only
  rw [cutW_show _ _ _ _ h2]

/-- what is shown is read, of whatever length -/
theorem any_show (k : Int) (S L : List UInt8) (h : checkN k S L = 0) : anyN (showL k S L) = 0 ∧ anyT (showL k S L) = (k, S, L) := by
  obtain ⟨hk, hS, hsp⟩ := check_zero h
  have hr := read_show k S L hk hsp
  exact ⟨by simp [anyN, hr, hsp], by simp [anyT, hr, hsp]⟩
theorem show_any (l : List UInt8) (h : anyN l = 0) : showL (anyT l).1 (anyT l).2.1 (anyT l).2.2 = l := by
  rcases any_cases l with hh | hh
  · omega
  · exact (show_read l _ _ _ hh.2.1).1

/-- the number that parseTerms tells of three texts -/
def ptN (n1 n2 n3 : Int) : Int := if n1 = 0 then (if n2 = 0 then n3 else n2) else n1
def tmOf (l : List UInt8) : Tm := anyT l
def tripleOf (a b c : List UInt8) : Tr := ⟨tmOf a, tmOf b, tmOf c⟩
/-- what textFault tells of a triple -/
def textN (x : Tr) : Int := if (chkTr x == 4 && shapeB x.1.1 x.2.1.1) = true then 2 else chkTr x
def tparseN (l : List UInt8) : Int := match cutL l with
  | none => 2
  | some p => if ptN (anyN p.1) (anyN p.2.1) (anyN p.2.2) = 0 then textN (tripleOf p.1 p.2.1 p.2.2) else ptN (anyN p.1) (anyN p.2.1) (anyN p.2.2)
def tparseT (l : List UInt8) : Tr := if tparseN l = 0 then (match cutL l with
  | none => zeroTr
  | some p => tripleOf p.1 p.2.1 p.2.2) else zeroTr

theorem ptN_zero {n1 n2 n3 : Int} (h : ptN n1 n2 n3 = 0) : n1 = 0 ∧ n2 = 0 ∧ n3 = 0 := by
  unfold ptN at h
  repeat' split at h
  all_goals omega
theorem textN_zero {x : Tr} : textN x = 0 ↔ chkTr x = 0 := by
  unfold textN
  by_cases h : (chkTr x == 4 && shapeB x.1.1 x.2.1.1) = true
  · rw [if_pos h]
    simp at h
    rw [h.1]
    decide
  · rw [if_neg h]

theorem tmOf_show (x : Tm) (h : checkN x.1 x.2.1 x.2.2 = 0) : tmOf (showL x.1 x.2.1 x.2.2) = x := (any_show x.1 x.2.1 x.2.2 h).2

theorem tparse_show (x : Tr) (h : chkTr x = 0) : tparseN (showTr x) = 0 ∧ tparseT (showTr x) = x := by
  obtain ⟨h1, h2, h3, _⟩ := chk_zero h
  have e : tripleOf (showL x.1.1 x.1.2.1 x.1.2.2) (showL x.2.1.1 x.2.1.2.1 x.2.1.2.2) (showL x.2.2.1 x.2.2.2.1 x.2.2.2.2) = x := by
    unfold tripleOf
    rw [tmOf_show x.1 h1, tmOf_show x.2.1 h2, tmOf_show x.2.2 h3]
  have hn : tparseN (showTr x) = 0 := by
    unfold tparseN
    rw [cutL_show x h]
    simp only
    rw [(any_show _ _ _ h1).1, (any_show _ _ _ h2).1, (any_show _ _ _ h3).1, if_pos (by decide), e]
    exact textN_zero.2 h
  refine ⟨hn, ?_⟩
  unfold tparseT
  rw [if_pos hn, cutL_show x h]
  exact e

theorem show_tparse (l : List UInt8) (h : tparseN l = 0) : chkTr (tparseT l) = 0 ∧ showTr (tparseT l) = l := by
  unfold tparseT
  rw [if_pos h]
  unfold tparseN at h
  cases hc : cutL l with
  | none => rw [hc] at h; simp at h
  | some p =>
    rw [hc] at h
    simp only at h ⊢
    by_cases hp : ptN (anyN p.1) (anyN p.2.1) (anyN p.2.2) = 0
    · rw [if_pos hp] at h
      obtain ⟨p1, p2, p3⟩ := ptN_zero hp
      refine ⟨textN_zero.1 h, ?_⟩
      have e := cutL_eq (a := p.1) (b := p.2.1) (c := p.2.2) hc
      have s1 := show_any _ p1
      have s2 := show_any _ p2
      have s3 := show_any _ p3
      simp only [showTr, tripleOf, tmOf, joinUpto] at *
      rw [s1, s2, s3]
      simp
      rw [e]
      simp
    · rw [if_neg hp] at h; exact absurd h hp
end Go.Proofs.YtibgelpkogdgkaaGreatDoor
