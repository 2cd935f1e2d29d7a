/- The plain theory of triples as texts: what is shown is cut and read as it was, and the other way round. -/
import Derived.Test.YtnlcfnpcjkcdmaaGreatDoorWordsPlain
import Derived.Test.YtnlcfnpcjkcdmaaGreatDoorCut3
import Derived.Test.YtnlcfnpcjkcdmaaGreatDoorPlain
import Derived.Test.YtnlcfnpcjkcdmaaGreatDoorTriplePrint
import Derived.Test.YtnlcfnpcjkcdmaaGreatDoorTripleCompact
namespace Go.Proofs.YtnlcfnpcjkcdmaaGreatDoor
open Go Go.RowKit Go.Proofs
set_option synthInstance.maxSize 1000

theorem cutL_show (x : Tr) (h : chkTr x = 0) : cutL (showTr x) = some (showL x.1.1 x.1.2.1 x.1.2.2, showL x.2.1.1 x.2.1.2.1 x.2.1.2.2, showL x.2.2.1 x.2.2.2.1 x.2.2.2.2) := by
  obtain ⟨h1, h2, h3, _⟩ := chk_zero h
  have e : showTr x = showL x.1.1 x.1.2.1 x.1.2.2 ++ 32 :: (showL x.2.1.1 x.2.1.2.1 x.2.1.2.2 ++ 32 :: showL x.2.2.1 x.2.2.2.1 x.2.2.2.2) := by simp [showTr, joinUpto]
  rw [e]
  unfold cutL
  rw [cutW_show _ _ _ _ h1]
  simp only
  rw [cutW_show _ _ _ _ h2]

/-- what is shown is read, of whatever length -/
theorem any_show (k : Int) (S L : List UInt8) (h : checkN k S L = 0) : anyN (showL k S L) = 0 ∧ anyT (showL k S L) = (k, S, L) := by
  obtain ⟨hk, hS, hsp⟩ := check_zero h
  have hr := read_show k S L hk hsp
  exact ⟨by simp [anyN, hr, hsp], by simp [anyT, hr, hsp]⟩
theorem show_any (l : List UInt8) (h : anyN l = 0) : showL (anyT l).1 (anyT l).2.1 (anyT l).2.2 = l := by
  rcases any_cases l with hh | hh
  · omega
  · exact (show_read l _ _ _ hh.2.1).1

/-- the number that parseTerms tells of three texts -/
def ptN (n1 n2 n3 : Int) : Int := if n1 = 0 then (if n2 = 0 then n3 else n2) else n1
def tmOf (l : List UInt8) : Tm := anyT l
def tripleOf (a b c : List UInt8) : Tr := ⟨tmOf a, tmOf b, tmOf c⟩
/-- what textFault tells of a triple -/
def textN (x : Tr) : Int := if (chkTr x == 4 && shapeB x.1.1 x.2.1.1) = true then 2 else chkTr x
def tparseN (l : List UInt8) : Int := match cutL l with
  | none => 2
  | some p => if ptN (anyN p.1) (anyN p.2.1) (anyN p.2.2) = 0 then textN (tripleOf p.1 p.2.1 p.2.2) else ptN (anyN p.1) (anyN p.2.1) (anyN p.2.2)
def tparseT (l : List UInt8) : Tr := if tparseN l = 0 then (match cutL l with
  | none => zeroTr
  | some p => tripleOf p.1 p.2.1 p.2.2) else zeroTr

theorem ptN_zero {n1 n2 n3 : Int} (h : ptN n1 n2 n3 = 0) : n1 = 0 ∧ n2 = 0 ∧ n3 = 0 := by
  unfold ptN at h
  repeat' split at h
  all_goals omega
theorem textN_zero {x : Tr} : textN x = 0 ↔ chkTr x = 0 := by
  unfold textN
  by_cases h : (chkTr x == 4 && shapeB x.1.1 x.2.1.1) = true
  · rw [if_pos h]
    simp at h
    rw [h.1]
    decide
  · rw [if_neg h]

theorem tmOf_show (x : Tm) (h : checkN x.1 x.2.1 x.2.2 = 0) : tmOf (showL x.1 x.2.1 x.2.2) = x := (any_show x.1 x.2.1 x.2.2 h).2

theorem tparse_show (x : Tr) (h : chkTr x = 0) : tparseN (showTr x) = 0 ∧ tparseT (showTr x) = x := by
  obtain ⟨h1, h2, h3, _⟩ := chk_zero h
  have e : tripleOf (showL x.1.1 x.1.2.1 x.1.2.2) (showL x.2.1.1 x.2.1.2.1 x.2.1.2.2) (showL x.2.2.1 x.2.2.2.1 x.2.2.2.2) = x := by
    unfold tripleOf
    rw [tmOf_show x.1 h1, tmOf_show x.2.1 h2, tmOf_show x.2.2 h3]
  have hn : tparseN (showTr x) = 0 := by
    unfold tparseN
    rw [cutL_show x h]
    simp only
    rw [(any_show _ _ _ h1).1, (any_show _ _ _ h2).1, (any_show _ _ _ h3).1, if_pos (by decide), e]
    exact textN_zero.2 h
  refine ⟨hn, ?_⟩
  unfold tparseT
  rw [if_pos hn, cutL_show x h]
  exact e

theorem show_tparse (l : List UInt8) (h : tparseN l = 0) : chkTr (tparseT l) = 0 ∧ showTr (tparseT l) = l := by
  unfold tparseT
  rw [if_pos h]
  unfold tparseN at h
  cases hc : cutL l with
  | none => rw [hc] at h; simp at h
  | some p =>
    rw [hc] at h
    simp only at h ⊢
    by_cases hp : ptN (anyN p.1) (anyN p.2.1) (anyN p.2.2) = 0
    · rw [if_pos hp] at h
      obtain ⟨p1, p2, p3⟩ := ptN_zero hp
      refine ⟨textN_zero.1 h, ?_⟩
      have e := cutL_eq (a := p.1) (b := p.2.1) (c := p.2.2) hc
      have s1 := show_any _ p1
      have s2 := show_any _ p2
      have s3 := show_any _ p3
      simp only [showTr, tripleOf, tmOf, joinUpto] at *
      rw [s1, s2, s3]
      simp
      rw [e]
      simp
    · rw [if_neg hp] at h; exact absurd h hp
end Go.Proofs.YtnlcfnpcjkcdmaaGreatDoor
