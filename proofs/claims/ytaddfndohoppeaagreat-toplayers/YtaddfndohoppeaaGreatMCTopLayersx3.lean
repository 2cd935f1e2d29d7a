import Derived.Test.YtaddfndohoppeaaGreatMCTopLayersx2
import Derived.Test.YtaddfndohoppeaaGreatMCTopLayersx1
import Derived.Test.YtaddfndohoppeaaGreatMA0x1
import Derived.Test.YtaddfndohoppeaaGreatProg
import Derived.Test.YtaddfndohoppeaaGreatMA0x6
import Derived.Test.YtaddfndohoppeaaGreatRows
import Derived.WalkKit
import Derived.Deep.DeepCutAuto
import Derived.Deep.CutBlock
import Derived.Test.YtaddfndohoppeaaGreatMA0x4

/- The plain theory of triples as texts: what is shown is cut and read as it was, and the other way round. -/
namespace Go.Proofs.YtaddfndohoppeaaGreat
open Go Go.RowKit Go.Proofs
set_option synthInstance.maxSize 1000

theorem cutL_show (x : Tr) (h : chkTr x = 0) : cutL (showTr x) = some (showL x.1.1 x.1.2.1 x.1.2.2, showL x.2.1.1 x.2.1.2.1 x.2.1.2.2, showL x.2.2.1 x.2.2.2.1 x.2.2.2.2) := by
  obtain ⟨h1, h2, h3, _⟩ := chk_zero h
  have e : showTr x = showL x.1.1 x.1.2.1 x.1.2.2 ++ 32 :: (showL x.2.1.1 x.2.1.2.1 x.2.1.2.2 ++ 32 :: showL x.2.2.1 x.2.2.2.1 x.2.2.2.2) := by simp [showTr, joinUpto]
  rw [e]
  unfold cutL
  rw [cutW_show _ _ _ _ h1]
  simp only
  rw [cutW_show _ _ _ _ h2]

/-- what is shown is read, of whatever length -/
theorem any_show (k : Int) (S L : List UInt8) (h : checkN k S L = 0) : anyN (showL k S L) = 0 ∧ anyT (showL k S L) = (k, S, L) := by
  obtain ⟨hk, hS, hsp⟩ := check_zero h
  have hr := read_show k S L hk hsp
  exact ⟨by simp [anyN, hr, hsp], by simp [anyT, hr, hsp]⟩
theorem show_any (l : List UInt8) (h : anyN l = 0) : showL (anyT l).1 (anyT l).2.1 (anyT l).2.2 = l := by
  rcases any_cases l with hh | hh
  · omega
  · exact (show_read l _ _ _ hh.2.1).1

/-- the number that parseTerms tells of three texts -/
def ptN (n1 n2 n3 : Int) : Int := if n1 = 0 then (if n2 = 0 then n3 else n2) else n1
def tmOf (l : List UInt8) : Tm := anyT l
def tripleOf (a b c : List UInt8) : Tr := ⟨tmOf a, tmOf b, tmOf c⟩
/-- what textFault tells of a triple -/
def textN (x : Tr) : Int := if (chkTr x == 4 && shapeB x.1.1 x.2.1.1) = true then 2 else chkTr x
def tparseN (l : List UInt8) : Int := match cutL l with
  | none => 2
  | some p => if ptN (anyN p.1) (anyN p.2.1) (anyN p.2.2) = 0 then textN (tripleOf p.1 p.2.1 p.2.2) else ptN (anyN p.1) (anyN p.2.1) (anyN p.2.2)
def tparseT (l : List UInt8) : Tr := if tparseN l = 0 then (match cutL l with
  | none => zeroTr
  | some p => tripleOf p.1 p.2.1 p.2.2) else zeroTr

theorem ptN_zero {n1 n2 n3 : Int} (h : ptN n1 n2 n3 = 0) : n1 = 0 ∧ n2 = 0 ∧ n3 = 0 := by
  unfold ptN at h
  repeat' split at h
  all_goals omega
theorem textN_zero {x : Tr} : textN x = 0 ↔ chkTr x = 0 := by
  unfold textN
  by_cases h : (chkTr x == 4 && shapeB x.1.1 x.2.1.1) = true
  · rw [if_pos h]
    simp at h
    rw [h.1]
    decide
  · rw [if_neg h]

theorem tmOf_show (x : Tm) (h : checkN x.1 x.2.1 x.2.2 = 0) : tmOf (showL x.1 x.2.1 x.2.2) = x := (any_show x.1 x.2.1 x.2.2 h).2

theorem tparse_show (x : Tr) (h : chkTr x = 0) : tparseN (showTr x) = 0 ∧ tparseT (showTr x) = x := by
  obtain ⟨h1, h2, h3, _⟩ := chk_zero h
  have e : tripleOf (showL x.1.1 x.1.2.1 x.1.2.2) (showL x.2.1.1 x.2.1.2.1 x.2.1.2.2) (showL x.2.2.1 x.2.2.2.1 x.2.2.2.2) = x := by
    unfold tripleOf
    rw [tmOf_show x.1 h1, tmOf_show x.2.1 h2, tmOf_show x.2.2 h3]
  have hn : tparseN (showTr x) = 0 := by
    unfold tparseN
    rw [cutL_show x h]
    simp only
    rw [(any_show _ _ _ h1).1, (any_show _ _ _ h2).1, (any_show _ _ _ h3).1, if_pos (by decide), e]
    exact textN_zero.2 h
  refine ⟨hn, ?_⟩
  unfold tparseT
  rw [if_pos hn, cutL_show x h]
  exact e

theorem show_tparse (l : List UInt8) (h : tparseN l = 0) : chkTr (tparseT l) = 0 ∧ showTr (tparseT l) = l := by
  unfold tparseT
  rw [if_pos h]
  unfold tparseN at h
  cases hc : cutL l with
  | none => rw [hc] at h; simp at h
  | some p =>
    rw [hc] at h
    simp only at h ⊢
    by_cases hp : ptN (anyN p.1) (anyN p.2.1) (anyN p.2.2) = 0
    · rw [if_pos hp] at h
      obtain ⟨p1, p2, p3⟩ := ptN_zero hp
      refine ⟨textN_zero.1 h, ?_⟩
      have e := cutL_eq (a := p.1) (b := p.2.1) (c := p.2.2) hc
      have s1 := show_any _ p1
      have s2 := show_any _ p2
      have s3 := show_any _ p3
      simp only [showTr, tripleOf, tmOf, joinUpto] at *
      rw [s1, s2, s3]
      simp
      rw [e]
      simp
    · rw [if_neg hp] at h; exact absurd h hp
end Go.Proofs.YtaddfndohoppeaaGreat

/- A text's lines, in plain words. -/
namespace Go.Proofs.YtaddfndohoppeaaGreat
open Go

/-- the first line, and what is behind it -/
def cutN : List UInt8 → Option (List UInt8 × List UInt8)
  | [] => none
  | c :: r => if c = 10 then some ([], r) else (cutN r).map fun p => (c :: p.1, p.2)
theorem cutN_of (u r : List UInt8) (h : ∀ c ∈ u, c ≠ 10) : cutN (u ++ 10 :: r) = some (u, r) := by
  induction u with
  | nil => simp [cutN]
  | cons c u ih =>
    have hc := h c (List.mem_cons_self ..)
    rw [List.cons_append, cutN, if_neg hc, ih fun d hd => h d (List.mem_cons_of_mem _ hd)]
    rfl
theorem cutN_some {s u r : List UInt8} (h : cutN s = some (u, r)) : s = u ++ 10 :: r ∧ ∀ c ∈ u, c ≠ 10 := by
  induction s generalizing u with
  | nil => simp [cutN] at h
  | cons c t ih =>
    unfold cutN at h
    split at h
    · rename_i hc
      simp at h
      obtain ⟨rfl, rfl⟩ := h
      exact ⟨by rw [hc]; rfl, by simp⟩
    · rename_i hc
      cases ht : cutN t with
      | none => rw [ht] at h; simp at h
      | some p =>
        rw [ht] at h
        simp at h
        obtain ⟨rfl, rfl⟩ := h
        obtain ⟨h1, h2⟩ := ih (u := p.1) ht
        refine ⟨by rw [h1]; rfl, fun d hd => ?_⟩
        rcases List.mem_cons.1 hd with rfl | hd
        · exact hc
        · exact h2 d hd
theorem cutN_none {s : List UInt8} (h : cutN s = none) : ∀ c ∈ s, c ≠ 10 := by
  induction s with
  | nil => simp
  | cons c t ih =>
    unfold cutN at h
    split at h
    · simp at h
    · rename_i hc
      have h' : cutN t = none := by cases ht : cutN t with
        | none => rfl
        | some p => rw [ht] at h; simp at h
      intro d hd
      rcases List.mem_cons.1 hd with rfl | hd
      · exact hc
      · exact ih h' d hd
/-- a text's lines, each with its end -/
def lnsF : Nat → List UInt8 → List (List UInt8)
  | 0, _ => []
  | f + 1, s => match s with
    | [] => []
    | c :: r => match cutN (c :: r) with
      | none => [c :: r]
      | some (u, t) => (u ++ [10]) :: lnsF f t
theorem lnsF_cons (f : Nat) (c : UInt8) (r : List UInt8) : lnsF (f + 1) (c :: r) = (match cutN (c :: r) with
      | none => [c :: r]
      | some (u, t) => (u ++ [10]) :: lnsF f t) := rfl
theorem lnsF_nil (f : Nat) : lnsF f [] = [] := by cases f <;> rfl
theorem cutN_len {s u t : List UInt8} (h : cutN s = some (u, t)) : s.length = u.length + 1 + t.length := by
  have := congrArg List.length (cutN_some h).1
  simp at this
  omega
/-- it does not matter how many lines may be read, if they are enough -/
theorem lnsF_same (f : Nat) : ∀ (g : Nat) (s : List UInt8), s.length ≤ f → s.length ≤ g → lnsF f s = lnsF g s := by
  induction f with
  | zero =>
    intro g s h1 _
    have : s = [] := List.eq_nil_of_length_eq_zero (by omega)
    subst this
    rw [lnsF_nil, lnsF_nil]
  | succ f ih =>
    intro g s h1 h2
    cases s with
    | nil => rw [lnsF_nil, lnsF_nil]
    | cons c r =>
      cases g with
      | zero => simp at h2
      | succ g =>
        rw [lnsF_cons, lnsF_cons]
        cases hc : cutN (c :: r) with
        | none => rfl
        | some p =>
          obtain ⟨u, t⟩ := p
          have := cutN_len hc
          dsimp only
          rw [ih g t (by omega) (by omega)]
def lns (s : List UInt8) : List (List UInt8) := lnsF s.length s
theorem lns_nil : lns [] = [] := rfl
theorem lns_one {s : List UInt8} (hs : s ≠ []) (h : cutN s = none) : lns s = [s] := by
  cases s with
  | nil => exact absurd rfl hs
  | cons c r => unfold lns; rw [List.length_cons, lnsF_cons, h]
theorem lns_more {s u t : List UInt8} (h : cutN s = some (u, t)) : lns s = (u ++ [10]) :: lns t := by
  cases s with
  | nil => cases h
  | cons c r =>
    have := cutN_len h
    unfold lns
    rw [List.length_cons, lnsF_cons, h]
    dsimp only
    rw [lnsF_same r.length t.length t (by simp at this; omega) (Nat.le_refl _)]
end Go.Proofs.YtaddfndohoppeaaGreat

/- Layers as text in plain words. -/
namespace Go.Proofs.YtaddfndohoppeaaGreat
open Go Go.RowKit Go.Proofs
set_option synthInstance.maxSize 1000

/-- is it not above the last one? -/
def stuckB (m : List Tr) (x : Tr) : Bool := match m.getLast? with
  | some y => decide (0 ≤ cmpTr y x)
  | none => false
def mineP (l : LyP) (t : Bool) : List Tr := if t = true then l.2 else l.1
def otherP (l : LyP) (t : Bool) : List Tr := if t = true then l.1 else l.2
def moreP (l : LyP) (t : Bool) (x : Tr) : LyP := if t = true then (l.1, l.2 ++ [x]) else (l.1 ++ [x], l.2)
/-- what is wrong with a triple that comes behind a layer, in its list -/
def tripP (l : LyP) (t : Bool) (x : Tr) : Int := if stuckB (mineP l t) x = true then 6 else if x ∈ otherP l t then 7 else if 200 ≤ (mineP l t).length then 4 else 0
/-- is it a line? whether it takes, and its triple's text -/
def formP (l : LyP) (u : List UInt8) : Option (Bool × List UInt8) := match u with
  | c :: d :: t => if d = 32 ∧ (c = 43 ∨ (c = 45 ∧ l.1 = [])) then some (decide (c = 45), t) else none
  | _ => none
def lineN (l : LyP) (u : List UInt8) : Int := match formP l u with
  | none => 2
  | some (k, t) => if tparseN t ≠ 0 then tparseN t else tripP l k (tparseT t)
def lineL (l : LyP) (u : List UInt8) : LyP := match formP l u with
  | none => l
  | some (k, t) => moreP l k (tparseT t)
/-- the fault, its line, the layer: so many lines at most -/
def readF : Nat → List UInt8 → LyP → Nat → Int × Nat × LyP
  | 0, _, l, _ => (0, 0, l)
  | f + 1, s, l, n => match s with
    | [] => (0, 0, l)
    | c :: r => match cutN (c :: r) with
      | none => (2, n, ([], []))
      | some (u, t) => if lineN l u ≠ 0 then (lineN l u, n, ([], [])) else readF f t (lineL l u) (n + 1)
def parseP (s : List UInt8) : Int × Nat × LyP := readF s.length s ([], []) 0

theorem rising_snoc {m : List Tr} {x : Tr} (h : Rising m) (hx : stuckB m x = false) : Rising (m ++ [x]) := by
  refine rising_of_steps _ fun i h0 hi => ?_
  rw [List.length_append] at hi
  simp at hi
  by_cases hil : i < m.length
  · rw [List.getElem_append_left hil, List.getElem_append_left (by omega)]
    exact List.pairwise_iff_getElem.1 h (i - 1) i (by omega) hil (by omega)
  · have e : i = m.length := by omega
    subst e
    rw [List.getElem_append_right (Nat.le_refl _), List.getElem_append_left (by omega)]
    have hl : m.getLast? = some m[m.length - 1] := by
      rw [List.getLast?_eq_getElem?, List.getElem?_eq_getElem (by omega)]
    unfold stuckB at hx
    rw [hl] at hx
    simp at hx ⊢
    omega
theorem moreP_good {l : LyP} {t : Bool} {x : Tr} (h : GoodLy l) (hx : chkTr x = 0) (hp : tripP l t x = 0) : GoodLy (moreP l t x) := by
  unfold tripP at hp
  split at hp
  · cases hp
  · rename_i h1
    split at hp
    · cases hp
    · rename_i h2
      split at hp
      · cases hp
      · rename_i h3
        have h1 : stuckB (mineP l t) x = false := by simpa using h1
        have grow : ∀ m : List Tr, IsSet m → stuckB m x = false → ¬ 200 ≤ m.length → IsSet (m ++ [x]) := fun m hm hs hl => by
          refine ⟨by rw [List.length_append]; simp; omega, fun y hy => ?_, rising_snoc hm.2.2 hs⟩
          rcases List.mem_append.1 hy with hy | hy
          · exact hm.2.1 y hy
          · simp at hy; subst hy; exact hx
        cases t with
        | true =>
          refine ⟨h.add, grow _ h.take h1 h3, fun y hy hy2 => ?_⟩
          have hy : y ∈ l.1 := hy
          rcases List.mem_append.1 (show y ∈ l.2 ++ [x] from hy2) with hy2 | hy2
          · exact h.apart y hy hy2
          · simp at hy2; subst hy2; exact h2 hy
        | false =>
          refine ⟨grow _ h.add h1 h3, h.take, fun y hy hy2 => ?_⟩
          have hy2 : y ∈ l.2 := hy2
          rcases List.mem_append.1 (show y ∈ l.1 ++ [x] from hy) with hy | hy
          · exact h.apart y hy hy2
          · simp at hy; subst hy; exact h2 hy2
/-- a line that is right: the layer's text with it -/
theorem line_ok {l : LyP} {u : List UInt8} (h : lineN l u = 0) (hl : GoodLy l) : GoodLy (lineL l u) ∧ patchB (lineL l u) = patchB l ++ (u ++ [10]) := by
  unfold lineN at h
  unfold lineL
  cases hf : formP l u with
  | none => rw [hf] at h; cases h
  | some p =>
    obtain ⟨k, t⟩ := p
    rw [hf] at h
    dsimp only at h ⊢
    by_cases hn : tparseN t = 0
    · rw [if_neg (by simpa using hn)] at h
      obtain ⟨hc, hs⟩ := show_tparse t hn
      refine ⟨moreP_good hl hc h, ?_⟩
      unfold formP at hf
      split at hf
      · rename_i c d t'
        split at hf
        · rename_i hcd
          obtain ⟨rfl, hcd⟩ := hcd
          simp at hf
          obtain ⟨hk, rfl⟩ := hf
          rcases hcd with rfl | ⟨rfl, hnil⟩
          · have hk' : k = false := by rw [← hk]; decide
            subst hk'
            show linesP true l.2 ++ linesP false (l.1 ++ [tparseT t']) = _
            rw [linesP_app]
            simp [linesP, lineP, markP, hs, patchB]
          · have hk' : k = true := by rw [← hk]; decide
            subst hk'
            show linesP true (l.2 ++ [tparseT t']) ++ linesP false l.1 = _
            rw [linesP_app, hnil]
            simp [linesP, lineP, markP, hs, patchB, hnil]
        · cases hf
      · cases hf
    · rw [if_pos hn] at h
      exact absurd h hn
/-- any text that is one is written so -/
theorem read_ok (f : Nat) : ∀ (s : List UInt8) (l : LyP) (n : Nat), s.length ≤ f → GoodLy l → (readF f s l n).1 = 0 → GoodLy (readF f s l n).2.2 ∧ patchB (readF f s l n).2.2 = patchB l ++ s := by
  induction f with
  | zero =>
    intro s l n hs hl _
    have : s = [] := List.eq_nil_of_length_eq_zero (by omega)
    subst this
    exact ⟨hl, by simp [readF]⟩
  | succ f ih =>
    intro s l n hs hl h
    unfold readF at h ⊢
    cases s with
    | nil => exact ⟨hl, by simp⟩
    | cons c r =>
      dsimp only at h ⊢
      cases hc : cutN (c :: r) with
      | none => rw [hc] at h; cases h
      | some p =>
        obtain ⟨u, t⟩ := p
        rw [hc] at h
        dsimp only at h ⊢
        by_cases hn : lineN l u = 0
        · rw [if_neg (by simpa using hn)] at h ⊢
          obtain ⟨h1, _⟩ := cutN_some hc
          obtain ⟨g1, g2⟩ := line_ok hn hl
          have hlen := congrArg List.length h1
          rw [List.length_append] at hlen
          simp at hlen hs
          obtain ⟨q1, q2⟩ := ih t (lineL l u) (n + 1) (by omega) g1 h
          refine ⟨q1, q2.trans ?_⟩
          rw [g2, h1]
          simp
        · rw [if_pos hn] at h
          exact absurd h hn
theorem parse_ok {s : List UInt8} (h : (parseP s).1 = 0) : GoodLy (parseP s).2.2 ∧ patchB (parseP s).2.2 = s := by
  obtain ⟨h1, h2⟩ := read_ok s.length s ([], []) 0 (Nat.le_refl _) ⟨⟨by simp, by simp, List.Pairwise.nil⟩, ⟨by simp, by simp, List.Pairwise.nil⟩, by simp⟩ h
  exact ⟨h1, h2.trans (by simp [patchB, linesP])⟩
/-! ### and back -/
theorem lineN_back {l : LyP} {t : Bool} {x : Tr} (hx : chkTr x = 0) (ht : t = true → l.1 = []) (hp : tripP l t x = 0) : lineN l (markP t :: 32 :: showTr x) = 0 ∧ lineL l (markP t :: 32 :: showTr x) = moreP l t x := by
  obtain ⟨h1, h2⟩ := tparse_show x hx
  have hf : formP l (markP t :: 32 :: showTr x) = some (t, showTr x) := by
    unfold formP
    cases t with
    | true => simp [markP, ht rfl]
    | false => simp [markP]
  unfold lineN lineL
  rw [hf]
  dsimp only
  rw [if_neg (by simp [h1]), h2]
  exact ⟨hp, rfl⟩
theorem readF_cons (f : Nat) (c : UInt8) (r : List UInt8) (l : LyP) (n : Nat) : readF (f + 1) (c :: r) l n = (match cutN (c :: r) with
      | none => (2, n, ([], []))
      | some (u, t) => if lineN l u ≠ 0 then (lineN l u, n, ([], [])) else readF f t (lineL l u) (n + 1)) := rfl
theorem read_line {l : LyP} {t : Bool} {x : Tr} {r : List UInt8} {f n : Nat} (hx : chkTr x = 0) (h10 : ∀ c ∈ showTr x, c ≠ 10) (ht : t = true → l.1 = []) (hp : tripP l t x = 0) : readF (f + 1) (lineP t x ++ r) l n = readF f r (moreP l t x) (n + 1) := by
  obtain ⟨h1, h2⟩ := lineN_back hx ht hp
  have e : lineP t x ++ r = (markP t :: 32 :: showTr x) ++ 10 :: r := by simp [lineP]
  have hc : cutN (lineP t x ++ r) = some (markP t :: 32 :: showTr x, r) := by
    rw [e]
    refine cutN_of _ _ fun c hc => ?_
    rcases List.mem_cons.1 hc with rfl | hc
    · cases t <;> decide
    · rcases List.mem_cons.1 hc with rfl | hc
      · decide
      · exact h10 c hc
  have e2 : lineP t x ++ r = markP t :: (32 :: (showTr x ++ [10]) ++ r) := by simp [lineP]
  rw [e2] at hc ⊢
  rw [readF_cons, hc]
  dsimp only
  rw [if_neg (by simp [h1]), h2]
theorem stuck_not {a : List Tr} {x : Tr} {b : List Tr} (h : Rising (a ++ x :: b)) : stuckB a x = false := by
  unfold stuckB
  cases ha : a.getLast? with
  | none => rfl
  | some y =>
    have hy : y ∈ a := List.mem_of_getLast? ha
    have := (List.pairwise_append.1 h).2.2 y hy x (List.mem_cons_self ..)
    simp
    omega
theorem read_many (t : Bool) : ∀ (b a o : List Tr) (r : List UInt8) (f n : Nat), (∀ x ∈ b, chkTr x = 0 ∧ ∀ c ∈ showTr x, c ≠ 10) → Rising (a ++ b) → (a ++ b).length ≤ 200 → (∀ x ∈ b, x ∉ o) → (t = true → o = []) →
    readF (f + b.length) (linesP t b ++ r) (if t = true then (o, a) else (a, o)) n = readF f r (if t = true then (o, a ++ b) else (a ++ b, o)) (n + b.length) := by
  intro b
  induction b with
  | nil => intro a o r f n _ _ _ _ _; simp [linesP]
  | cons x b ih =>
    intro a o r f n h1 h2 h3 h4 h5
    have e : linesP t (x :: b) ++ r = lineP t x ++ (linesP t b ++ r) := by simp [linesP]
    have hp : tripP (if t = true then (o, a) else (a, o)) t x = 0 := by
      have hs := stuck_not h2
      have hno := h4 x (List.mem_cons_self ..)
      rw [List.length_append, List.length_cons] at h3
      unfold tripP
      cases t with
      | true => simp only [if_pos, mineP, otherP]; rw [if_neg (by simp [hs]), if_neg hno, if_neg (by omega)]
      | false => simp only [Bool.false_eq_true, if_false, mineP, otherP]; rw [if_neg (by simp [hs]), if_neg hno, if_neg (by omega)]
    obtain ⟨hx, h10⟩ := h1 x (List.mem_cons_self ..)
    rw [e, List.length_cons, show f + (b.length + 1) = (f + b.length) + 1 by omega, read_line hx h10 (fun ht => by subst ht; exact h5 rfl) hp]
    have e2 : moreP (if t = true then (o, a) else (a, o)) t x = (if t = true then (o, a ++ [x]) else (a ++ [x], o)) := by cases t <;> rfl
    rw [e2, ih (a ++ [x]) o r f (n + 1) (fun y hy => h1 y (List.mem_cons_of_mem _ hy)) (by simpa using h2) (by simpa using h3) (fun y hy => h4 y (List.mem_cons_of_mem _ hy)) h5]
    simp [Nat.add_assoc, Nat.add_comm 1]
theorem readF_nil (f : Nat) (l : LyP) (n : Nat) : readF f [] l n = (0, 0, l) := by cases f <;> rfl
theorem parse_patch {l : LyP} (h : GoodLy l) (h10 : ∀ x : Tr, chkTr x = 0 → ∀ c ∈ showTr x, c ≠ 10) : parseP (patchB l) = (0, 0, l) := by
  have l1 := linesP_len true l.2
  have l2 := linesP_len false l.1
  have hlen : (patchB l).length = (linesP true l.2).length + (linesP false l.1).length := by unfold patchB; rw [List.length_append]
  obtain ⟨e, he⟩ : ∃ e, (patchB l).length = (e + l.1.length) + l.2.length := ⟨(patchB l).length - l.1.length - l.2.length, by omega⟩
  unfold parseP
  rw [he]
  have h1 := read_many true l.2 [] [] (linesP false l.1) (e + l.1.length) 0 (fun x hx => ⟨h.take.2.1 x hx, h10 x (h.take.2.1 x hx)⟩) (by simpa using h.take.2.2) (by simpa using h.take.1) (by simp) (fun _ => rfl)
  have h2 := read_many false l.1 [] l.2 [] e (0 + l.2.length) (fun x hx => ⟨h.add.2.1 x hx, h10 x (h.add.2.1 x hx)⟩) (by simpa using h.add.2.2) (by simpa using h.add.1) h.apart (fun ht => by cases ht)
  have h1' : readF (e + l.1.length + l.2.length) (linesP true l.2 ++ linesP false l.1) ([], []) 0 = readF (e + l.1.length) (linesP false l.1) ([], l.2) (0 + l.2.length) := by simpa using h1
  have h2' : readF (e + l.1.length) (linesP false l.1) ([], l.2) (0 + l.2.length) = readF e [] (l.1, l.2) (0 + l.2.length + l.1.length) := by simpa using h2
  exact (h1'.trans h2').trans (readF_nil _ _ _)
theorem parse_back {l : LyP} (h : GoodLy l) : parseP (patchB l) = (0, 0, l) := parse_patch h show_no10
end Go.Proofs.YtaddfndohoppeaaGreat

/- A patch's face: what the laws ask of the program's patch, whatever it is made of. -/
namespace Go.Proofs.YtaddfndohoppeaaGreat
open Go Go.RowKit Go.Proofs
set_option synthInstance.maxSize 1000

theorem apart_good {l : LyP} : apartN l.1 l.2 = 0 ↔ GoodLy l := by
  constructor
  · intro h
    obtain ⟨h1, h2⟩ := orN_zero.1 h
    obtain ⟨s1, s2⟩ := bothN_zero.1 h1
    refine ⟨s1, s2, fun x hx hx2 => ?_⟩
    have : x ∈ bothL l.1 l.2 := List.mem_filter.2 ⟨hx, by simpa using hx2⟩
    split at h2
    · rename_i h3
      rw [List.eq_nil_of_length_eq_zero h3] at this
      simp at this
    · cases h2
  · intro h
    exact apartN_of h.add h.take h.apart
def printP (l : LyP) : List UInt8 := if apartN l.1 l.2 = 0 then patchB l else []
/-- a layer that a caller hands in -/
structure LayIn (w : World) (a1 a2 : Option Addr) (l : LyP) : Prop where
  add : SlT w a1 l.1
  take : SlT w a2 l.2
  fitA : ∀ x ∈ l.1, fitTr x
  fitT : ∀ x ∈ l.2, fitTr x
  lenA : l.1.length ≤ maxLen
  lenT : l.2.length ≤ maxLen
def countN (s : List UInt8) : Nat := (s.filter fun c => decide (c = 10)).length
/-- what Apply tells: the fault, the line -/
def applyE (m : List Tr) (s : List UInt8) : Int := if (parseP s).1 ≠ 0 then (parseP s).1 else applyN m (parseP s).2.2.1 (parseP s).2.2.2
def applyI (m : List Tr) (s : List UInt8) : Nat := if (parseP s).1 ≠ 0 then (parseP s).2.1 else if applyN m (parseP s).2.2.1 (parseP s).2.2.2 ≠ 0 then countN s else 0
def ApplyP (m : List Tr) (s : List UInt8) (t : List Tr) : Prop := (applyE m s = 0 → JoinOf (lessL m (parseP s).2.2.2) (parseP s).2.2.1 t) ∧ (applyE m s ≠ 0 → t = [])
def ParseAns (s : List UInt8) (w : World) (e : Ending) (w' : World) : Prop := ∃ a1 c1 a2 c2, e = .returned (.tuple #[.agg #[.slice a1 (parseP s).2.2.1.length c1, .slice a2 (parseP s).2.2.2.length c2], .int .i64 ((parseP s).2.1 : Int), errV (parseP s).1]) ∧ SlT w' a1 (parseP s).2.2.1 ∧ SlT w' a2 (parseP s).2.2.2 ∧ RowKit.Below w.heap.size w w'
def ApplyAnsP (m : List Tr) (s : List UInt8) (w : World) (e : Ending) (w' : World) : Prop := ∃ t a c, e = .returned (.tuple #[.slice a t.length c, .int .i64 (applyI m s : Int), errV (applyE m s)]) ∧ ApplyP m s t ∧ SlT w' a t ∧ RowKit.Below w.heap.size w w'
structure PFace where
  lim : Nat
  print : ∀ (w : World) (a1 a2 : Option Addr) (c1 c2 : Nat) (l : LyP), LayIn w a1 a2 l →
    Calls Tryz.prog 14 #[.agg #[.slice a1 l.1.length c1, .slice a2 l.2.length c2]] w fun e w' => e = .returned (.tuple #[.string ⟨(printP l).toArray⟩, errV (apartN l.1 l.2)]) ∧ RowKit.Below w.heap.size w w'
  parse : ∀ (w : World) (s : List UInt8), s.length ≤ lim → Calls Tryz.prog 37 #[.string ⟨s.toArray⟩] w fun e w' => ParseAns s w e w'
  apply : ∀ (w : World) (ad : Option Addr) (ca : Nat) (m : List Tr) (s : List UInt8), SlT w ad m → (∀ x ∈ m, fitTr x) → m.length ≤ maxLen → s.length ≤ lim →
    Calls Tryz.prog 15 #[.slice ad m.length ca, .string ⟨s.toArray⟩] w fun e w' => ApplyAnsP m s w e w'
end Go.Proofs.YtaddfndohoppeaaGreat

/- What a patch's face says of what is between two sets. -/
namespace Go.Proofs.YtaddfndohoppeaaGreat
open Go Go.RowKit Go.Proofs
set_option synthInstance.maxSize 1000

theorem btw_good {a b : List Tr} (sa : IsSet a) (sb : IsSet b) : GoodLy (lessL b a, lessL a b) := apart_good.1 (btw_check sa sb)
theorem PPrintGood_any (F : PFace) (a1 a2 : Option Addr) (c1 c2 : Nat) (l : LyP) (w : World) (h1 : SlT w a1 l.1) (h2 : SlT w a2 l.2) (hg : GoodLy l) :
    Calls Tryz.prog 14 #[.agg #[.slice a1 l.1.length c1, .slice a2 l.2.length c2]] w fun e w' => e = .returned (.tuple #[.string ⟨(patchB l).toArray⟩, .nilIface]) ∧ RowKit.Below w.heap.size w w' := by
  have h := F.print w a1 a2 c1 c2 l ⟨h1, h2, hg.add.fit, hg.take.fit, setLen hg.add, setLen hg.take⟩
  rw [apart_good.2 hg, show errV 0 = .nilIface from rfl, show printP l = patchB l from if_pos (apart_good.2 hg)] at h
  exact h
theorem PApplyGood_any (F : PFace) (ad : Option Addr) (ca : Nat) (a b : List Tr) (w : World) (ha : SlT w ad a) (sa : IsSet a) (sb : IsSet b) (hlim : 1202000 ≤ F.lim) :
    Calls Tryz.prog 15 #[.slice ad a.length ca, .string ⟨(patchB (lessL b a, lessL a b)).toArray⟩] w fun e w' => RowKit.Below w.heap.size w w' ∧ ∃ a1 c1, e = .returned (.tuple #[.slice a1 b.length c1, .int .i64 0, .nilIface]) ∧ SlT w' a1 b := by
  have hg := btw_good sa sb
  have hp := parse_back hg
  have h0 := apply_btw sa sb
  refine (F.apply w ad ca a (patchB (lessL b a, lessL a b)) ha sa.fit (setLen sa) (by have := patch_len hg; omega)).mono ?_
  rintro e w' ⟨t, a1, c1, rfl, ⟨h1, _⟩, hs, hb⟩
  have hE : applyE a (patchB (lessL b a, lessL a b)) = 0 := by
    unfold applyE
    rw [hp]
    simp only [ne_eq, not_true_eq_false, if_false]
    exact h0
  have hI : applyI a (patchB (lessL b a, lessL a b)) = 0 := by
    unfold applyI
    rw [hp]
    simp only [ne_eq, not_true_eq_false, if_false]
    rw [h0]
    simp
  have ht := h1 hE
  rw [hp] at ht
  obtain rfl : t = b := apply_btw_ans sa sb ⟨fun _ => ht, fun h => absurd h0 h⟩
  exact ⟨hb, a1, c1, by rw [hE, hI]; rfl, hs⟩
end Go.Proofs.YtaddfndohoppeaaGreat

/- A law's code, in pieces. -/
namespace Go.Proofs.YtaddfndohoppeaaGreat
open Go Go.Proofs

/-- the first region of a piece of code, and the piece that begins with one -/
def leftmost : Code → Option Nat
  | .region n _ _ => some n
  | .seq a _ => leftmost a
  | .block _ c => leftmost c
  | .loop c => leftmost c
  | .scope c => leftmost c
  | _ => none
def findAt (n : Nat) : Code → Option Code
  | .region m o b => if m = n then some (.region m o b) else none
  | .seq a b => if leftmost a = some n then some (.seq a b) else match findAt n a with
    | some c => some c
    | none => findAt n b
  | .block m c => if leftmost c = some n then some (.block m c) else findAt n c
  | .loop c => if leftmost c = some n then some (.loop c) else findAt n c
  | .scope c => if leftmost c = some n then some (.scope c) else findAt n c
  | .cond _ a b => match findAt n a with
    | some c => some c
    | none => findAt n b
  | _ => none
def codeOf (b : Option Code) (n : Nat) : Code := ((b.bind (findAt n)).getD .skip)
theorem go_on {P : Program} {c : Code} {Q0 : Exit → Act → World → Prop} {K : Act → World → Prop} {a : Act} {w : World} (h : ∀ a w, Code.wp P c Q0 a w → K a w) (hc : Code.wp P c Q0 a w) : K a w := h a w hc
end Go.Proofs.YtaddfndohoppeaaGreat

/- TopLayers: a round's end: what the layer makes of the one graph, as text too, and laid on the chain. -/
namespace Go.Proofs.YtaddfndohoppeaaGreat
open Go Go.RowKit Go.Proofs
set_option synthInstance.maxSize 1000
attribute [local go_sem] eql_errV neq_errV guard_errV

theorem hideP {p : Prop} (h : p) : Hid p := h
theorem cell_bT {W W' : World} {a : Addr} {v : Value} (h : W.cell? a = some v) (hb : RowKit.Below W.heap.size W W') : W'.cell? a = some v := (hb.cell (World.block_lt_of_cell? _ _ h)).trans h
set_option maxHeartbeats 16000000 in
set_option maxRecDepth 1000000 in
theorem topTail (F : RFace) (P : PFace) (Q0 : Exit → Act → World → Prop) (u1 u2 u3 u4 u6 u9 u10 u11 u12 u17 u18 u19 u20 u21 u22 u23 u24 u25 u26 u27 u28 u29 u30 u31 u32 u33 u34 u35 u36 u37 u38 u39 u40 u41 u42 u43 u44 u45 u46 u47 u48 u49 u50 u51 u52 u53 u54 u55 u56 u57 u58 u59 u60 u61 u62 u63 u64 u65 u66 u67 u68 u69 u70 u71 u72 u73 u74 u75 u76 u77 u78 u79 u80 u81 u82 u83 u84 u85 u86 u87 u88 u89 u90 u91 u92 u93 u94 u95 u96 u97 u98 u99 u100 u101 u102 u103 u104 u105 u106 u107 u108 u109 u110 u111 u112 u113 u114 u115 u116 u117 u118 u119 u120 u121 u122 u123 u124 u125 u126 u127 u128 u129 u130 u131 u132 u133 u134 u135 u136 u137 u138 u139 u140 u141 u142 u143 u144 u145 u146 u147 u148 u149 u150 u151 u152 u153 u154 u155 u156 u157 u158 u159 u160 u161 u162 u163 u164 u165 u166 u167 u168 u169 u170 u171 u172 u173 u174 u175 u176 u177 u178 u179 u180 u181 u182 u183 u184 u185 u186 u187 u188 u189 u190 : Value) (sd fd a1 a2 : Option Addr) (ns sc fc c1 c2 k m bx n0 r b o c : Nat) (sa : Option Addr) (R : Rp) (gs : List (List Tr)) (v : Value) (fr s : List Tr) (w W : World)
    (hpl : 1202000 ≤ P.lim) (hsd : sd = some ⟨b, o, none⟩) (hk : k < ns) (hcs : w.cell? ⟨b, o + k, none⟩ = some (.slice sa s.length c)) (hs : SlT w sa s) (hx0 : W.cell? ⟨bx, 0, none⟩ = some (.slice a1 (lessL s fr).length c1)) (hx1 : W.cell? ⟨bx, 1, none⟩ = some (.slice a2 (lessL fr s).length c2))
    (ha1 : SlT W a1 (lessL s fr)) (ha2 : SlT W a2 (lessL fr s)) (hfr : SlT W fd fr) (sf : IsSet fr) (ss : IsSet s) (hst : TL F w r n0 R gs v W) (hm : gs.length = m + 1) (hm30 : m < 30) (hl : gs.getLast? = some fr)
    (hQ : ∀ (x19 x20 x21 x22 x23 x24 x25 x26 x27 x28 x29 x30 x31 x102 x103 x104 x105 x106 x107 x108 x109 x110 x111 x112 x113 x114 x115 x116 x117 x118 x119 x120 x121 x122 x123 x124 x125 x126 x127 x128 x129 x130 x131 x132 x133 x134 x135 x136 x137 x138 x139 x140 x141 x142 x143 x144 x145 x146 x147 x148 x149 x150 x151 x152 x153 x154 x155 x156 x157 x158 x159 x160 x161 x162 x163 x164 x165 x166 x167 x168 x169 x170 x171 x172 x173 x174 x175 x176 x177 x178 x179 x180 x181 x182 x183 x184 x185 x186 : Value) (v' : Value) (W' : World), TL F w r n0 R (gs ++ [s]) v' W' → Q0 .normal ⟨#[.slice sd ns sc, u1, u2, u3, u4, .pointer (some ⟨n0, 0, none⟩), u6, .int .i64 ((m + 1 : Nat) : Int), .int .i64 (k : Int), u9, u10, u11, u12, .nilIface, .pointer (some ⟨bx, 0, none⟩), .nilIface, .slice fd fr.length fc, u17, u18, x19, x20, x21, x22, x23, x24, x25, x26, x27, x28, x29, x30, x31, u32, u33, u34, u35, u36, u37, u38, u39, u40, u41, u42, u43, u44, u45, u46, u47, u48, u49, u50, u51, u52, u53, u54, u55, u56, u57, u58, u59, u60, u61, u62, u63, u64, u65, u66, u67, u68, u69, u70, u71, u72, u73, u74, u75, u76, u77, u78, u79, u80, u81, u82, u83, u84, u85, u86, u87, u88, u89, u90, u91, u92, u93, u94, u95, u96, u97, u98, u99, u100, u101, x102, x103, x104, x105, x106, x107, x108, x109, x110, x111, x112, x113, x114, x115, x116, x117, x118, x119, x120, x121, x122, x123, x124, x125, x126, x127, x128, x129, x130, x131, x132, x133, x134, x135, x136, x137, x138, x139, x140, x141, x142, x143, x144, x145, x146, x147, x148, x149, x150, x151, x152, x153, x154, x155, x156, x157, x158, x159, x160, x161, x162, x163, x164, x165, x166, x167, x168, x169, x170, x171, x172, x173, x174, x175, x176, x177, x178, x179, x180, x181, x182, x183, x184, x185, x186, u187, u188, u189, u190], []⟩ W') :
    Code.wp Tryz.prog (codeOf Tryz.f3.body 23) Q0 ⟨#[.slice sd ns sc, u1, u2, u3, u4, .pointer (some ⟨n0, 0, none⟩), u6, .int .i64 (m : Int), .int .i64 (k : Int), u9, u10, u11, u12, .nilIface, .pointer (some ⟨bx, 0, none⟩), .nilIface, .slice fd fr.length fc, u17, u18, u19, u20, u21, u22, u23, u24, u25, u26, u27, u28, u29, u30, u31, u32, u33, u34, u35, u36, u37, u38, u39, u40, u41, u42, u43, u44, u45, u46, u47, u48, u49, u50, u51, u52, u53, u54, u55, u56, u57, u58, u59, u60, u61, u62, u63, u64, u65, u66, u67, u68, u69, u70, u71, u72, u73, u74, u75, u76, u77, u78, u79, u80, u81, u82, u83, u84, u85, u86, u87, u88, u89, u90, u91, u92, u93, u94, u95, u96, u97, u98, u99, u100, u101, u102, u103, u104, u105, u106, u107, u108, u109, u110, u111, u112, u113, u114, u115, u116, u117, u118, u119, u120, u121, u122, u123, u124, u125, u126, u127, u128, u129, u130, u131, u132, u133, u134, u135, u136, u137, u138, u139, u140, u141, u142, u143, u144, u145, u146, u147, u148, u149, u150, u151, u152, u153, u154, u155, u156, u157, u158, u159, u160, u161, u162, u163, u164, u165, u166, u167, u168, u169, u170, u171, u172, u173, u174, u175, u176, u177, u178, u179, u180, u181, u182, u183, u184, u185, u186, u187, u188, u189, u190], []⟩ W := by
  subst hsd
  have HQ := hideP hQ
  have HA := fun W h0 h1 h2 => ApplyGood_any fd a1 a2 fc c1 c2 fr s W h0 h1 h2 sf ss
  have HP := fun W h1 h2 => PPrintGood_any P a1 a2 c1 c2 (lessL s fr, lessL fr s) W h1 h2 (btw_good sf ss)
  have HY := fun W h0 => PApplyGood_any P fd fc fr s W h0 sf ss hpl
  have HS := fun x cx W h0 h1 => SameGood_any x sa cx c s W h0 h1 ss
  have HPu := fun W (h : TL F w r n0 R gs v W) h1 h2 => h.push fr s a1 a2 c1 c2 (by omega) hl ss h1 h2
  have Hst := hideP hst
  have H12 := hideP (show SlT W a1 (lessL s fr) ∧ SlT W a2 (lessL fr s) ∧ SlT W fd fr from ⟨ha1, ha2, hfr⟩)
  have Hm := hideP hm
  have Hsw := hideP (show w.cell? ⟨b, o + k, none⟩ = some (.slice sa s.length c) ∧ SlT w sa s from ⟨hcs, hs⟩)
  have Hx := hideP (show W.cell? ⟨bx, 0, none⟩ = some (.slice a1 (lessL s fr).length c1) ∧ W.cell? ⟨bx, 1, none⟩ = some (.slice a2 (lessL fr s).length c2) from ⟨hx0, hx1⟩)
  have i0 : (0 : Int) ≤ (k : Int) := by omega
  have i1 : (k : Int) < (ns : Int) := by omega
  clear hQ hst ha1 ha2 hfr hm hcs hs hpl hl sf ss
  dsimp only at HP
  generalize hN1 : (lessL s fr).length = n1 at *
  generalize hN2 : (lessL fr s).length = n2 at *
  generalize hN3 : patchB (lessL s fr, lessL fr s) = tx at *
  clear hN1 hN2 hN3
  conv => arg 2; whnf
  dsimp only
  go_wp2_with fail
  refine (HA _ H12.out.2.2 H12.out.1 H12.out.2.1).mono ?_
  rintro e w1 ⟨hb1, d1, k1, rfl, g1⟩
  have y0 := cell_bT Hx.out.1 hb1
  have y1 := cell_bT Hx.out.2 hb1
  have q1 := cell_bT Hsw.out.1 (bstep Hst.out.low hb1)
  have z1 := Hsw.out.2.below (bstep Hst.out.low hb1)
  have B1 := hideP hb1
  clear HA hb1 hx0 hx1
  dsimp only
  go_wp2_with fail
  refine (HS d1 k1 _ g1 z1).mono ?_
  rintro e w2 ⟨rfl, hb2⟩
  have B2 := hideP (bstep B1.out hb2)
  have y0 := cell_bT y0 hb2
  have y1 := cell_bT y1 hb2
  clear hb2 g1 z1 q1
  dsimp only
  go_wp2_with fail
  refine (HP _ (H12.out.1.below B2.out) (H12.out.2.1.below B2.out)).mono ?_
  rintro e w3 ⟨rfl, hb3⟩
  have B3 := hideP (bstep B2.out hb3)
  clear hb3 HP y0 y1
  dsimp only
  go_wp2_with fail
  refine (HY _ (H12.out.2.2.below B3.out)).mono ?_
  rintro e w4 ⟨hb4, d4, k4, rfl, g4⟩
  have B4 := hideP (bstep B3.out hb4)
  have q4 := cell_bT Hsw.out.1 (bstep Hst.out.low B4.out)
  have z4 := Hsw.out.2.below (bstep Hst.out.low B4.out)
  clear hb4 HY B1 B2 B3
  dsimp only
  go_wp2_with fail
  refine (HS d4 k4 _ g4 z4).mono ?_
  rintro e w5 ⟨rfl, hb5⟩
  have B5 := hideP (bstep B4.out hb5)
  have y0 := cell_bT Hx.out.1 B5.out
  have y1 := cell_bT Hx.out.2 B5.out
  clear hb5 g4 z4 q4 B4
  dsimp only
  go_wp2_with fail
  refine (HPu _ (Hst.out.below B5.out) (H12.out.1.below B5.out) (H12.out.2.1.below B5.out)).mono ?_
  rintro e w6 ⟨rfl, v6, st6⟩
  have St6 := hideP st6
  clear HPu st6 y0 y1 B5
  have HG : ∀ W, TL F w r n0 R (gs ++ [s]) v6 W → Calls Tryz.prog 17 #[.pointer (some ⟨n0, 0, none⟩), .int .i64 ((m : Int) + 1)] W (TOk W s) := fun W h => Graph_any n0 v6 (gs ++ [s]) (m + 1) s W h.chain (by rw [List.length_append, Hm.out]; simp; omega) (by rw [← Hm.out]; simp)
  dsimp only
  go_wp2_with fail
  refine (HG _ St6.out).mono ?_
  rintro e w7 ⟨hb7, d7, k7, rfl, g7⟩
  have St7 := hideP (St6.out.below hb7)
  have q7 := cell_bT Hsw.out.1 St7.out.low
  have z7 := Hsw.out.2.below St7.out.low
  clear hb7 HG St6
  dsimp only
  go_wp2_with fail
  refine (HS d7 k7 _ g7 z7).mono ?_
  rintro e w8 ⟨rfl, hb8⟩
  have St8 := St7.out.below hb8
  clear hb8 g7 z7 q7 HS St7
  dsimp only
  go_wp2_with fail
  exact HQ.out _ _ _ _ _ _ _ _ _ _ _ _ _ _ _ _ _ _ _ _ _ _ _ _ _ _ _ _ _ _ _ _ _ _ _ _ _ _ _ _ _ _ _ _ _ _ _ _ _ _ _ _ _ _ _ _ _ _ _ _ _ _ _ _ _ _ _ _ _ _ _ _ _ _ _ _ _ _ _ _ _ _ _ _ _ _ _ _ _ _ _ _ _ _ _ _ _ _ v6 _ St8
end Go.Proofs.YtaddfndohoppeaaGreat

/- stratatop.TopLayers: the walk. -/
namespace Go.Proofs.YtaddfndohoppeaaGreat
open Go Go.RowKit Go.Proofs
set_option synthInstance.maxSize 1000
attribute [local go_sem] eql_errV neq_errV guard_errV

theorem slC_last {w : World} {ad : Option Addr} {L : List Cm} {x : Cm} (h : SlC w ad (L ++ [x])) : ∃ b o a c, ad = some ⟨b, o, none⟩ ∧ w.cell? ⟨b, o + L.length * 3, none⟩ = some (.slice a x.1.length c) ∧ w.cell? ⟨b, o + L.length * 3 + 1, none⟩ = some (.int .i64 x.2.1) ∧ SlI w a x.1 := by
  obtain ⟨b, o, a, c, e, h1, h2, _, h3⟩ := h.at (i := L.length) (by simp)
  have hx : (L ++ [x])[L.length]'(by simp) = x := by simp
  rw [hx] at h1 h2 h3
  exact ⟨b, o, a, c, e, h1, h2, h3⟩

set_option maxHeartbeats 16000000 in
set_option maxRecDepth 1000000 in
theorem topLayers_any (F : RFace) (P : PFace) (sd : Option Addr) (sc : Nat) (S : List (List Tr)) (w : World) (H1 : ∀ W, Calls Tryz.prog 4 #[] W fun e w' => e = .returned (.bool true) ∧ RowKit.Below W.heap.size W w') (hlim : 1 ≤ F.lim) (hpl : 1202000 ≤ P.lim)
    (hS : S ≠ [] → ∃ b o, sd = some ⟨b, o, none⟩ ∧ SetsAtT w b o S) (hSn : S.length ≤ maxLen) :
    Calls Tryz.prog 3 #[.slice sd S.length sc] w fun e w' => e = .returned (.bool true) ∧ RowKit.Below w.heap.size w w' := by
  have HN := fun W => F.new W
  have HC := fun W => NewNil_any W
  have HS := hideP hS
  have hS63 : (S.length : Int) ≤ 9223372036854775807 := by unfold maxLen at hSn; omega
  clear hS hSn
  go_enter Tryz.func3, Tryz.ntmps3
  go_wp2_with fail
  refine (H1 _).mono ?_
  rintro e w1 ⟨rfl, hb1⟩
  dsimp only
  go_wp2_with fail
  refine (HN _).mono ?_
  rintro e w2 ⟨r, O, rfl, hA, hb2, hO⟩
  dsimp only
  go_wp2_with fail
  refine (HC _).mono ?_
  rintro e w3 ⟨n0, rfl, hn0, hc, hb3⟩
  have st0 := hideP (TL.start (F := F) (bstep hb1 hb2) hA (fun j hj => Nat.le_trans hb1.size (hO j hj)) hn0 hc hb3)
  have T0 := hideP TLine.empty
  clear H1 HN HC hb1 hb2 hb3 hA hO hn0 hc
  dsimp only
  go_wp2_with fail
  go_loopw [7, 8, 9, 10, 11, 12, 13, 14, 15, 16, 17, 18, 19, 20, 21, 22, 23, 24, 25, 26, 27, 28, 29, 30, 31] (fun nn ii _ _ _ _ _ _ _ _ _ _ _ _ _ _ _ _ _ _ _ _ _ _ _ wr => ∃ (k m : Nat) (R : Rp) (v : Value), k ≤ S.length ∧ k ≤ 25 ∧ ii = .int .i64 k ∧ nn = .int .i64 m ∧ m = R.coms.length ∧ m ≤ k ∧ Hid (TLine R) ∧ Hid (TL F w r n0 R (setsT R) v wr)) (fun _ ii _ _ _ _ _ _ _ _ _ _ _ _ _ _ _ _ _ _ _ _ _ _ _ wr => 25 - (intOf ii).toNat)
  case atStart => exact ⟨0, 0, emptyR, _, Nat.zero_le _, by omega, rfl, rfl, rfl, Nat.le_refl _, T0, st0⟩
  case round =>
    clear st0 T0
    obtain ⟨k, m, R, v, hk, hk25, rfl, rfl, hm, hmk, hL, st⟩ := hrel
    by_cases hlt : k < S.length ∧ k < 25
    · obtain ⟨h1, h2⟩ := hlt
      have t1 : decide ((k : Int) < (S.length : Int)) = true := by simp; omega
      have t2 : decide ((k : Int) < 25) = true := by simp; omega
      have i0 : (0 : Int) ≤ (k : Int) := by omega
      have i1 : (k : Int) < (S.length : Int) := by omega
      obtain ⟨sb, so, rfl, hSa⟩ := HS.out (fun e => by rw [e] at h1; simp at h1)
      obtain ⟨a, c, hc1, hin⟩ := hSa k h1
      have Hin := hideP hin
      have Hc1 := hideP hc1
      have Hm := hideP hm
      generalize hs : S[k] = s at *
      have q1 := cell_bT hc1 st.out.low
      have HC := st.out.commit [109] a c s [] hL.out.good hlim (Nat.zero_le _) hin
      clear hSa hin hc1 hm hs
      by_cases he : commitE R [109] s [] = 0
      · obtain ⟨y, nx⟩ := hL.out.next he
        have hfr := hideP (setsT_last hL.out)
        have hgl := hideP (setsT_len hL.out.good)
        have sf : IsSet (fromR R (parR R [109])) := pfrom_set hL.out.good _
        have hpar := hideP hL.out.parR
        have hgf := hideP (fun (hp : R.coms.length ≠ 0) => graph_from hL.out nx.line.good nx.gr hp)
        have hbr := bytes_read hL.out.good (ps := parR R [109]) nx.set
        have hfz := hideP (fun (hp : R.coms.length = 0) => show fromR R (parR R [109]) = [] by rw [hpar.out, if_pos hp]; rfl)
        have HO := fun W (h : TL F w r n0 (commitR R [109] s []) (setsT R) v W) => h.object y nx.line.good
        have HL := fun W (h : TL F w r n0 (commitR R [109] s []) (setsT R) v W) => h.commits nx.line.good
        have HG := fun W (h : TL F w r n0 (commitR R [109] s []) (setsT R) v W) => h.graph ((R.coms.length : Int) - 1) nx.line.good
        have HR := fun W => ReadLayer_any (bytesR R (parR R [109]) s) W
        rw [hbr.1, hbr.2.1, hbr.2.2] at HR
        rw [he, nx.num] at HC
        rw [nx.get, nx.has] at HO
        rw [nx.coms] at HL
        have Nset := hideP nx.set
        have Nline := hideP nx.line
        have Ngr := hideP (setsT_next nx.gr)
        have Nlen := hideP (show (commitR R [109] s []).coms.length = R.coms.length + 1 by rw [nx.coms]; simp)
        clear hbr he nx
        generalize commitR R [109] s [] = R' at *
        generalize fromR R (parR R [109]) = fr at *
        generalize bytesR R (parR R [109]) s = bs at *
        generalize parR R [109] = ps at *
        rw [← Hm.out] at HC HG
        rw [List.length_append, ← Hm.out] at HL
        dsimp only [List.length_cons, List.length_nil] at HL
        go_wp2_with fail
        refine HC.mono ?_
        rintro e w4 ⟨rfl, st4'⟩
        have st4 := hideP st4'
        clear HC st4' q1
        dsimp only [errV]
        go_wp2_with fail
        refine (HL _ st4.out).mono ?_
        rintro e w5 ⟨ld, lc, rfl, hlc, hb5⟩
        have st5 := hideP (st4.out.below hb5)
        obtain ⟨cb, co, pa, pc, rfl, q0, q1, qp⟩ := slC_last hlc
        rw [← Hm.out] at q0 q1
        dsimp only at q0 q1 qp
        have Q0 := hideP q0
        have Qp := hideP qp
        have j0 : (0 : Int) ≤ (m : Int) := by omega
        have j1 : (m : Int) < (m : Int) + 1 := by omega
        clear HL st4 hlc hb5 qp
        dsimp only
        go_wp2_with fail
        refine (HO _ st5.out).mono ?_
        rintro e w6 ⟨rfl, hb6⟩
        have st6 := hideP (st5.out.below hb6)
        have Q6 := hideP (cell_bT Q0.out hb6)
        have P6 := hideP (Qp.out.below hb6)
        clear HO st5 hb6 q0 q1 Q0 Qp
        dsimp only [errV]
        go_wp2_with fail
        refine (HR _).mono ?_
        rintro e w7 ⟨hb7, a1, k1, a2, k2, rfl, g1, g2⟩
        obtain ⟨W8, hW8⟩ : ∃ W8, W8 = w7.alloc (.cells #[.slice a1 (lessL s fr).length k1, .slice a2 (lessL fr s).length k2] 42) := ⟨_, rfl⟩
        have hb8 : RowKit.Below w7.heap.size w7 W8 := by rw [hW8]; exact balloc _ _
        have X8 := hideP (show W8.cell? ⟨w7.heap.size, 0, none⟩ = some (.slice a1 (lessL s fr).length k1) ∧ W8.cell? ⟨w7.heap.size, 1, none⟩ = some (.slice a2 (lessL fr s).length k2) by
          rw [hW8]
          refine ⟨?_, ?_⟩ <;> go_simp)
        have st8 := hideP (st6.out.below (bstep hb7 hb8))
        have q8 := cell_bT Q6.out (bstep hb7 hb8)
        have Q8 := hideP q8
        have P8 := hideP (P6.out.below (bstep hb7 hb8))
        have G1 := hideP (g1.below hb8)
        have G2 := hideP (g2.below hb8)
        clear HR st6 hb7 hb8 g1 g2 Q6 P6
        dsimp only [errV]
        generalize hp : ps.length = pl at *
        have Hp := hideP hp
        clear hp
        obtain ⟨tb, htb⟩ : ∃ tb, tb = decide (0 < pl) := ⟨_, rfl⟩
        have Htb := hideP htb
        clear htb
        go_upto_region 18 with fail
        rw [← hW8]
        clear hW8
        go_cut [86] from 80 to 86 (fun v W' => v = .bool tb ∧ Hid (W' = W8))
        case first =>
          by_cases hp0 : 0 < pl
          · have t3 : decide (0 < pl) = true := decide_eq_true hp0
            have e3 : tb = true := by rw [Htb.out]; exact t3
            go_wp2_with fail
            go_meet
            case rel => exact ⟨by rw [e3], rfl⟩
          · have t3 : decide (0 < pl) = false := decide_eq_false hp0
            have e3 : tb = false := by rw [Htb.out]; exact t3
            go_wp2_with fail
            go_meet
            case rel => exact ⟨by rw [e3], rfl⟩
        case rest =>
          obtain ⟨rfl, hw⟩ := hcut
          have hw2 : W8 = wc := hw.out.symm
          clear hw
          subst hw2
          clear q8
          go_upto_if 86 with fail
          go_cut [16, 17, 18] from 87 to 101 (fun fv _ _ W' => ∃ fd fc, fv = .slice fd fr.length fc ∧ Hid (SlT W' fd fr) ∧ Hid (RowKit.Below W8.heap.size W8 W'))
          case first =>
            have q8 := cell_bT Q8.out (RowKit.Below.refl _ W8)
            cases htb : tb
            · have hz : R.coms.length = 0 := by
                by_cases h0 : R.coms.length = 0
                · exact h0
                · exfalso
                  have h3 := Htb.out
                  rw [htb, ← Hp.out, hpar.out, if_neg h0] at h3
                  simp at h3
              have hf0 := hfz.out hz
              have Hf0 := hideP hf0
              clear hf0 hz
              subst htb
              go_wp2_with fail
              go_meet
              case rel => exact ⟨none, 0, by rw [Hf0.out]; rfl, by show SlT _ _ _; rw [Hf0.out]; exact fun h => absurd rfl h, RowKit.Below.refl _ _⟩
            · have hz : R.coms.length ≠ 0 := fun h0 => by
                have h3 := Htb.out
                rw [htb, ← Hp.out, hpar.out, if_pos h0] at h3
                simp at h3
              obtain ⟨eg, eg2⟩ := hgf.out hz
              rw [← Hm.out] at eg eg2
              rw [eg, eg2] at HG
              have eps : ps = [(m : Int) - 1] := by rw [hpar.out, if_neg hz, ← Hm.out]
              have P9 := P8.out
              rw [eps] at P9
              obtain ⟨pb, po, rfl, hpi⟩ := P9 (by simp)
              have r0 := hpi 0 (by simp)
              simp only [List.getElem_cons_zero, Nat.add_zero] at r0
              have hpl1 : pl = 1 := by rw [← Hp.out, eps]; rfl
              have l0 : (0 : Int) < (pl : Int) := by rw [hpl1]; decide
              have wr1 : IntKind.i64.wrap ((m : Int) - 1) = (m : Int) - 1 := by simp [IntKind.wrap, IntKind.bits, IntKind.signed]; omega
              clear eg eg2 eps P9 hpi hpl1
              subst htb
              go_wp2_with fail
              refine (HG _ st8.out).mono ?_
              rintro e w9 ⟨gd, gc, rfl, hg9, hb9⟩
              dsimp only [errV]
              go_wp2_with fail
              go_meet
              case rel => exact ⟨gd, gc, rfl, hg9, hb9⟩
          case rest =>
            obtain ⟨fd, fc, rfl, hfs, hbf⟩ := hcut
            have hgm : (setsT R).length = m + 1 := by rw [hgl.out, Hm.out]
            have hst9 := st8.out.below hbf.out
            refine go_on (by assumption) ?_
            refine topTail F P _ _ _ _ _ _ _ _ _ _ _ _ _ _ _ _ _ _ _ _ _ _ _ _ _ _ _ _ _ _ _ _ _ _ _ _ _ _ _ _ _ _ _ _ _ _ _ _ _ _ _ _ _ _ _ _ _ _ _ _ _ _ _ _ _ _ _ _ _ _ _ _ _ _ _ _ _ _ _ _ _ _ _ _ _ _ _ _ _ _ _ _ _ _ _ _ _ _ _ _ _ _ _ _ _ _ _ _ _ _ _ _ _ _ _ _ _ _ _ _ _ _ _ _ _ _ _ _ _ _ _ _ _ _ _ _ _ _ _ _ _ _ _ _ _ _ _ _ _ _ _ _ _ _ _ _ _ _ _ _ _ _ _ _ _ _ _ _ _ _ _ _ _ _ _ _ _ _ _ _ _ _ _ _ (some ⟨sb, so, none⟩) fd a1 a2 S.length sc fc k1 k2 k m w7.heap.size n0 r sb so c a R' (setsT R) v fr s w wc hpl rfl h1 Hc1.out Hin.out.sl (cell_bT X8.out.1 hbf.out) (cell_bT X8.out.2 hbf.out) (G1.out.below hbf.out) (G2.out.below hbf.out) hfs.out sf Nset.out hst9 hgm (by omega) hfr.out ?_
            intros
            rename_i v' W' st'
            rw [← Ngr.out] at st'
            have St' := hideP st'
            have Nl := hideP (show m + 1 = R'.coms.length by rw [Nlen.out, Hm.out])
            clear st' hst9
            go_wp2_with fail
            go_roundw
            case rel => first | exact ⟨k + 1, m + 1, R', v', by omega, by omega, by go_num, rfl, Nl.out, by omega, Nline, St'⟩ | ((repeat apply Exists.intro); refine ⟨⟨k + 1, m + 1, R', v', by omega, by omega, ?_, rfl, Nl.out, by omega, Nline, St'⟩, rfl⟩; go_num)
            case measure => simp [intOf]; omega
      · have e1 : (commitE R [109] s [] == 0) = false := by simpa using he
        have hR : commitR R [109] s [] = R := if_pos he
        rw [hR] at HC
        clear hR he
        generalize commitE R [109] s [] = ec at *
        generalize commitI R [109] s [] = ic at *
        go_wp2_with fail
        refine HC.mono ?_
        rintro e w4 ⟨rfl, st4'⟩
        have st4 := hideP st4'
        clear HC st4' q1
        dsimp only
        go_wp2_with fail
        go_roundw
        case rel => first | exact ⟨k + 1, m, R, v, by omega, by omega, by go_num, rfl, Hm.out, by omega, hL, st4⟩ | ((repeat apply Exists.intro); refine ⟨⟨k + 1, m, R, v, by omega, by omega, ?_, rfl, Hm.out, by omega, hL, st4⟩, rfl⟩; go_num)
        case measure => simp [intOf]; omega
    · have hgl := hideP (setsT_len hL.out.good)
      have HLn := fun W h => CLen_any n0 v (setsT R) W h (by rw [hgl.out]; omega)
      rw [hgl.out, Nat.add_sub_cancel, ← hm] at HLn
      have t1 : (decide ((k : Int) < (S.length : Int)) && decide ((k : Int) < 25)) = false := by simp; omega
      have hfin : RowKit.Below w.heap.size w wr := st.out.low
      by_cases h1 : k < S.length
      · have t2 : decide ((k : Int) < (S.length : Int)) = true := by simp; omega
        have t3 : decide ((k : Int) < 25) = false := by simp; omega
        go_wp2_with fail
        refine (HLn _ st.out.chain).mono ?_
        rintro e w4 ⟨rfl, rfl⟩
        dsimp only
        go_wp2_with fail
        go_ret
        exact ⟨rfl, hfin⟩
      · have t2 : decide ((k : Int) < (S.length : Int)) = false := by simp; omega
        go_wp2_with fail
        refine (HLn _ st.out.chain).mono ?_
        rintro e w4 ⟨rfl, rfl⟩
        dsimp only
        go_wp2_with fail
        go_ret
        exact ⟨rfl, hfin⟩
end Go.Proofs.YtaddfndohoppeaaGreat
