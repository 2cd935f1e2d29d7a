import Derived.Test.YtnlcfnpcjkcdmafGreatDoorProg
import Derived.Test.YtnlcfnpcjkcdmafGreatDoorMA0x4
import Derived.Test.YtnlcfnpcjkcdmafGreatDoorMA0x3
import Derived.Deep.RegionHeld3

/- A text's lines, in plain words. -/
namespace Go.Proofs.YtnlcfnpcjkcdmafGreatDoor
open Go

/-- the first line, and what is behind it -/
def cutN : List UInt8 → Option (List UInt8 × List UInt8)
  | [] => none
  | c :: r => if c = 10 then some ([], r) else (cutN r).map fun p => (c :: p.1, p.2)
theorem cutN_of (u r : List UInt8) (h : ∀ c ∈ u, c ≠ 10) : cutN (u ++ 10 :: r) = some (u, r) := by
  induction u with
  | nil => simp [cutN]
  | cons c u ih =>
    have hc := h c (List.mem_cons_self ..)
    rw [List.cons_append, cutN, if_neg hc, ih fun d hd => h d (List.mem_cons_of_mem _ hd)]
    rfl
theorem cutN_some {s u r : List UInt8} (h : cutN s = some (u, r)) : s = u ++ 10 :: r ∧ ∀ c ∈ u, c ≠ 10 := by
  induction s generalizing u with
  | nil => simp [cutN] at h
  | cons c t ih =>
    unfold cutN at h
    split at h
    · rename_i hc
      simp at h
      obtain ⟨rfl, rfl⟩ := h
      exact ⟨by rw [hc]; rfl, by simp⟩
    · rename_i hc
      cases ht : cutN t with
      | none => rw [ht] at h; simp at h
      | some p =>
        rw [ht] at h
        simp at h
        obtain ⟨rfl, rfl⟩ := h
        obtain ⟨h1, h2⟩ := ih (u := p.1) ht
        refine ⟨by rw [h1]; rfl, fun d hd => ?_⟩
        rcases List.mem_cons.1 hd with rfl | hd
        · exact hc
        · exact h2 d hd
theorem cutN_none {s : List UInt8} (h : cutN s = none) : ∀ c ∈ s, c ≠ 10 := by
  induction s with
  | nil => simp
  | cons c t ih =>
    unfold cutN at h
    split at h
    · simp at h
    · rename_i hc
      have h' : cutN t = none := by cases ht : cutN t with
        | none => rfl
        | some p => rw [ht] at h; simp at h
      intro d hd
      rcases List.mem_cons.1 hd with rfl | hd
      · exact hc
      · exact ih h' d hd
/-- a text's lines, each with its end -/
def lnsF : Nat → List UInt8 → List (List UInt8)
  | 0, _ => []
  | f + 1, s => match s with
    | [] => []
    | c :: r => match cutN (c :: r) with
      | none => [c :: r]
      | some (u, t) => (u ++ [10]) :: lnsF f t
theorem lnsF_cons (f : Nat) (c : UInt8) (r : List UInt8) : lnsF (f + 1) (c :: r) = (match cutN (c :: r) with
      | none => [c :: r]
      | some (u, t) => (u ++ [10]) :: lnsF f t) := rfl
theorem lnsF_nil (f : Nat) : lnsF f [] = [] := by cases f <;> rfl
theorem cutN_len {s u t : List UInt8} (h : cutN s = some (u, t)) : s.length = u.length + 1 + t.length := by
  have := congrArg List.length (cutN_some h).1
  simp at this
  omega
/-- it does not matter how many lines may be read, if they are enough -/
theorem lnsF_same (f : Nat) : ∀ (g : Nat) (s : List UInt8), s.length ≤ f → s.length ≤ g → lnsF f s = lnsF g s := by
  induction f with
  | zero =>
    intro g s h1 _
    have : s = [] := List.eq_nil_of_length_eq_zero (by omega)
    subst this
    rw [lnsF_nil, lnsF_nil]
  | succ f ih =>
    intro g s h1 h2
    cases s with
    | nil => rw [lnsF_nil, lnsF_nil]
    | cons c r =>
      cases g with
      | zero => simp at h2
      | succ g =>
        rw [lnsF_cons, lnsF_cons]
        cases hc : cutN (c :: r) with
        | none => rfl
        | some p =>
          obtain ⟨u, t⟩ := p
          have := cutN_len hc
          dsimp only
          rw [ih g t (by omega) (by omega)]
def lns (s : List UInt8) : List (List UInt8) := lnsF s.length s
theorem lns_nil : lns [] = [] := rfl
theorem lns_one {s : List UInt8} (hs : s ≠ []) (h : cutN s = none) : lns s = [s] := by
  cases s with
  | nil => exact absurd rfl hs
  | cons c r => unfold lns; rw [List.length_cons, lnsF_cons, h]
theorem lns_more {s u t : List UInt8} (h : cutN s = some (u, t)) : lns s = (u ++ [10]) :: lns t := by
  cases s with
  | nil => cases h
  | cons c r =>
    have := cutN_len h
    unfold lns
    rw [List.length_cons, lnsF_cons, h]
    dsimp only
    rw [lnsF_same r.length t.length t (by simp at this; omega) (Nat.le_refl _)]
theorem lns_short (s : List UInt8) : ∀ x ∈ lns s, x.length ≤ s.length := by
  suffices h : ∀ (n : Nat) (s : List UInt8), s.length ≤ n → ∀ x ∈ lns s, x.length ≤ s.length from h _ s (Nat.le_refl _)
  intro n
  induction n with
  | zero =>
    intro s h x hx
    have : s = [] := List.eq_nil_of_length_eq_zero (by omega)
    subst this
    simp [lns_nil] at hx
  | succ n ih =>
    intro s h x hx
    cases hc : cutN s with
    | none =>
      by_cases hs : s = []
      · subst hs; simp [lns_nil] at hx
      · rw [lns_one hs hc] at hx
        simp at hx
        subst hx
        exact Nat.le_refl _
    | some p =>
      obtain ⟨u, t⟩ := p
      have hl := cutN_len hc
      rw [lns_more hc] at hx
      rcases List.mem_cons.1 hx with rfl | hx
      · simp; omega
      · have := ih t (by omega) x hx
        omega
end Go.Proofs.YtnlcfnpcjkcdmafGreatDoor

/- Layers as text in plain words. -/
namespace Go.Proofs.YtnlcfnpcjkcdmafGreatDoor
open Go Go.RowKit Go.Proofs
set_option synthInstance.maxSize 1000

/-- is it not above the last one? -/
def stuckB (m : List Tr) (x : Tr) : Bool := match m.getLast? with
  | some y => decide (0 ≤ cmpTr y x)
  | none => false
def mineP (l : LyP) (t : Bool) : List Tr := if t = true then l.2 else l.1
def otherP (l : LyP) (t : Bool) : List Tr := if t = true then l.1 else l.2
def moreP (l : LyP) (t : Bool) (x : Tr) : LyP := if t = true then (l.1, l.2 ++ [x]) else (l.1 ++ [x], l.2)
/-- what is wrong with a triple that comes behind a layer, in its list -/
def tripP (l : LyP) (t : Bool) (x : Tr) : Int := if stuckB (mineP l t) x = true then 6 else if x ∈ otherP l t then 7 else if 200 ≤ (mineP l t).length then 4 else 0
/-- is it a line? whether it takes, and its triple's text -/
def formP (l : LyP) (u : List UInt8) : Option (Bool × List UInt8) := match u with
  | c :: d :: t => if d = 32 ∧ (c = 43 ∨ (c = 45 ∧ l.1 = [])) then some (decide (c = 45), t) else none
  | _ => none
def lineN (l : LyP) (u : List UInt8) : Int := match formP l u with
  | none => 2
  | some (k, t) => if tparseN t ≠ 0 then tparseN t else tripP l k (tparseT t)
def lineL (l : LyP) (u : List UInt8) : LyP := match formP l u with
  | none => l
  | some (k, t) => moreP l k (tparseT t)
/-- the fault, its line, the layer: so many lines at most -/
def readF : Nat → List UInt8 → LyP → Nat → Int × Nat × LyP
  | 0, _, l, _ => (0, 0, l)
  | f + 1, s, l, n => match s with
    | [] => (0, 0, l)
    | c :: r => match cutN (c :: r) with
      | none => (2, n, ([], []))
      | some (u, t) => if lineN l u ≠ 0 then (lineN l u, n, ([], [])) else readF f t (lineL l u) (n + 1)
def parseP (s : List UInt8) : Int × Nat × LyP := readF s.length s ([], []) 0

theorem rising_snoc {m : List Tr} {x : Tr} (h : Rising m) (hx : stuckB m x = false) : Rising (m ++ [x]) := by
  refine rising_of_steps _ fun i h0 hi => ?_
  rw [List.length_append] at hi
  simp at hi
  by_cases hil : i < m.length
  · rw [List.getElem_append_left hil, List.getElem_append_left (by omega)]
    exact List.pairwise_iff_getElem.1 h (i - 1) i (by omega) hil (by omega)
  · have e : i = m.length := by omega
    subst e
    rw [List.getElem_append_right (Nat.le_refl _), List.getElem_append_left (by omega)]
    have hl : m.getLast? = some m[m.length - 1] := by
      rw [List.getLast?_eq_getElem?, List.getElem?_eq_getElem (by omega)]
    unfold stuckB at hx
    rw [hl] at hx
    simp at hx ⊢
    omega
theorem moreP_good {l : LyP} {t : Bool} {x : Tr} (h : GoodLy l) (hx : chkTr x = 0) (hp : tripP l t x = 0) : GoodLy (moreP l t x) := by
  unfold tripP at hp
  split at hp
  · cases hp
  · rename_i h1
    split at hp
    · cases hp
    · rename_i h2
      split at hp
      · cases hp
      · rename_i h3
        have h1 : stuckB (mineP l t) x = false := by simpa using h1
        have grow : ∀ m : List Tr, IsSet m → stuckB m x = false → ¬ 200 ≤ m.length → IsSet (m ++ [x]) := fun m hm hs hl => by
          refine ⟨by rw [List.length_append]; simp; omega, fun y hy => ?_, rising_snoc hm.2.2 hs⟩
          rcases List.mem_append.1 hy with hy | hy
          · exact hm.2.1 y hy
          · simp at hy; subst hy; exact hx
        cases t with
        | true =>
          refine ⟨h.add, grow _ h.take h1 h3, fun y hy hy2 => ?_⟩
          have hy : y ∈ l.1 := hy
          rcases List.mem_append.1 (show y ∈ l.2 ++ [x] from hy2) with hy2 | hy2
          · exact h.apart y hy hy2
          · simp at hy2; subst hy2; exact h2 hy
        | false =>
          refine ⟨grow _ h.add h1 h3, h.take, fun y hy hy2 => ?_⟩
          have hy2 : y ∈ l.2 := hy2
          rcases List.mem_append.1 (show y ∈ l.1 ++ [x] from hy) with hy | hy
          · exact h.apart y hy hy2
          · simp at hy; subst hy; exact h2 hy2
/-- a line that is right: the layer's text with it -/
theorem line_ok {l : LyP} {u : List UInt8} (h : lineN l u = 0) (hl : GoodLy l) : GoodLy (lineL l u) ∧ patchB (lineL l u) = patchB l ++ (u ++ [10]) := by
  unfold lineN at h
  unfold lineL
  cases hf : formP l u with
  | none => rw [hf] at h; cases h
  | some p =>
    obtain ⟨k, t⟩ := p
    rw [hf] at h
    dsimp only at h ⊢
    by_cases hn : tparseN t = 0
    · rw [if_neg (by simpa using hn)] at h
      obtain ⟨hc, hs⟩ := show_tparse t hn
      refine ⟨moreP_good hl hc h, ?_⟩
      unfold formP at hf
      split at hf
      · rename_i c d t'
        split at hf
        · rename_i hcd
          obtain ⟨rfl, hcd⟩ := hcd
          simp at hf
          obtain ⟨hk, rfl⟩ := hf
          rcases hcd with rfl | ⟨rfl, hnil⟩
          · have hk' : k = false := by rw [← hk]; decide
            subst hk'
            show linesP true l.2 ++ linesP false (l.1 ++ [tparseT t']) = _
            rw [linesP_app]
            simp [linesP, lineP, markP, hs, patchB]
          · have hk' : k = true := by rw [← hk]; decide
            subst hk'
            show linesP true (l.2 ++ [tparseT t']) ++ linesP false l.1 = _
            rw [linesP_app, hnil]
            simp [linesP, lineP, markP, hs, patchB, hnil]
        · cases hf
      · cases hf
    · rw [if_pos hn] at h
      exact absurd h hn
/-- any text that is one is written so -/
theorem read_ok (f : Nat) : ∀ (s : List UInt8) (l : LyP) (n : Nat), s.length ≤ f → GoodLy l → (readF f s l n).1 = 0 → GoodLy (readF f s l n).2.2 ∧ patchB (readF f s l n).2.2 = patchB l ++ s := by
  induction f with
  | zero =>
    intro s l n hs hl _
    have : s = [] := List.eq_nil_of_length_eq_zero (by omega)
    subst this
    exact ⟨hl, by simp [readF]⟩
  | succ f ih =>
    intro s l n hs hl h
    unfold readF at h ⊢
    cases s with
    | nil => exact ⟨hl, by simp⟩
    | cons c r =>
      dsimp only at h ⊢
      cases hc : cutN (c :: r) with
      | none => rw [hc] at h; cases h
      | some p =>
        obtain ⟨u, t⟩ := p
        rw [hc] at h
        dsimp only at h ⊢
        by_cases hn : lineN l u = 0
        · rw [if_neg (by simpa using hn)] at h ⊢
          obtain ⟨h1, _⟩ := cutN_some hc
          obtain ⟨g1, g2⟩ := line_ok hn hl
          have hlen := congrArg List.length h1
          rw [List.length_append] at hlen
          simp at hlen hs
          obtain ⟨q1, q2⟩ := ih t (lineL l u) (n + 1) (by omega) g1 h
          refine ⟨q1, q2.trans ?_⟩
          rw [g2, h1]
          simp
        · rw [if_pos hn] at h
          exact absurd h hn
theorem parse_ok {s : List UInt8} (h : (parseP s).1 = 0) : GoodLy (parseP s).2.2 ∧ patchB (parseP s).2.2 = s := by
  obtain ⟨h1, h2⟩ := read_ok s.length s ([], []) 0 (Nat.le_refl _) ⟨⟨by simp, by simp, List.Pairwise.nil⟩, ⟨by simp, by simp, List.Pairwise.nil⟩, by simp⟩ h
  exact ⟨h1, h2.trans (by simp [patchB, linesP])⟩
/-! ### and back -/
theorem lineN_back {l : LyP} {t : Bool} {x : Tr} (hx : chkTr x = 0) (ht : t = true → l.1 = []) (hp : tripP l t x = 0) : lineN l (markP t :: 32 :: showTr x) = 0 ∧ lineL l (markP t :: 32 :: showTr x) = moreP l t x := by
  obtain ⟨h1, h2⟩ := tparse_show x hx
  have hf : formP l (markP t :: 32 :: showTr x) = some (t, showTr x) := by
    unfold formP
    cases t with
    | true => simp [markP, ht rfl]
    | false => simp [markP]
  unfold lineN lineL
  rw [hf]
  dsimp only
  rw [if_neg (by simp [h1]), h2]
  exact ⟨hp, rfl⟩
theorem readF_cons (f : Nat) (c : UInt8) (r : List UInt8) (l : LyP) (n : Nat) : readF (f + 1) (c :: r) l n = (match cutN (c :: r) with
      | none => (2, n, ([], []))
      | some (u, t) => if lineN l u ≠ 0 then (lineN l u, n, ([], [])) else readF f t (lineL l u) (n + 1)) := rfl
theorem read_line {l : LyP} {t : Bool} {x : Tr} {r : List UInt8} {f n : Nat} (hx : chkTr x = 0) (h10 : ∀ c ∈ showTr x, c ≠ 10) (ht : t = true → l.1 = []) (hp : tripP l t x = 0) : readF (f + 1) (lineP t x ++ r) l n = readF f r (moreP l t x) (n + 1) := by
  obtain ⟨h1, h2⟩ := lineN_back hx ht hp
  have e : lineP t x ++ r = (markP t :: 32 :: showTr x) ++ 10 :: r := by simp [lineP]
  have hc : cutN (lineP t x ++ r) = some (markP t :: 32 :: showTr x, r) := by
    rw [e]
    refine cutN_of _ _ fun c hc => ?_
    rcases List.mem_cons.1 hc with rfl | hc
    · cases t <;> decide
    · rcases List.mem_cons.1 hc with rfl | hc
      · decide
      · exact h10 c hc
  have e2 : lineP t x ++ r = markP t :: (32 :: (showTr x ++ [10]) ++ r) := by simp [lineP]
  rw [e2] at hc ⊢
  rw [readF_cons, hc]
  dsimp only
  rw [if_neg (by simp [h1]), h2]
theorem stuck_not {a : List Tr} {x : Tr} {b : List Tr} (h : Rising (a ++ x :: b)) : stuckB a x = false := by
  unfold stuckB
  cases ha : a.getLast? with
  | none => rfl
  | some y =>
    have hy : y ∈ a := List.mem_of_getLast? ha
    have := (List.pairwise_append.1 h).2.2 y hy x (List.mem_cons_self ..)
    simp
    omega
theorem read_many (t : Bool) : ∀ (b a o : List Tr) (r : List UInt8) (f n : Nat), (∀ x ∈ b, chkTr x = 0 ∧ ∀ c ∈ showTr x, c ≠ 10) → Rising (a ++ b) → (a ++ b).length ≤ 200 → (∀ x ∈ b, x ∉ o) → (t = true → o = []) →
    readF (f + b.length) (linesP t b ++ r) (if t = true then (o, a) else (a, o)) n = readF f r (if t = true then (o, a ++ b) else (a ++ b, o)) (n + b.length) := by
  intro b
  induction b with
  | nil => intro a o r f n _ _ _ _ _; simp [linesP]
  | cons x b ih =>
    intro a o r f n h1 h2 h3 h4 h5
    have e : linesP t (x :: b) ++ r = lineP t x ++ (linesP t b ++ r) := by simp [linesP]
    have hp : tripP (if t = true then (o, a) else (a, o)) t x = 0 := by
      have hs := stuck_not h2
      have hno := h4 x (List.mem_cons_self ..)
      rw [List.length_append, List.length_cons] at h3
      unfold tripP
      cases t with
      | true => simp only [if_pos, mineP, otherP]; rw [if_neg (by simp [hs]), if_neg hno, if_neg (by omega)]
      | false => simp only [Bool.false_eq_true, if_false, mineP, otherP]; rw [if_neg (by simp [hs]), if_neg hno, if_neg (by omega)]
    obtain ⟨hx, h10⟩ := h1 x (List.mem_cons_self ..)
    rw [e, List.length_cons, show f + (b.length + 1) = (f + b.length) + 1 by omega, read_line hx h10 (fun ht => by subst ht; exact h5 rfl) hp]
    have e2 : moreP (if t = true then (o, a) else (a, o)) t x = (if t = true then (o, a ++ [x]) else (a ++ [x], o)) := by cases t <;> rfl
    rw [e2, ih (a ++ [x]) o r f (n + 1) (fun y hy => h1 y (List.mem_cons_of_mem _ hy)) (by simpa using h2) (by simpa using h3) (fun y hy => h4 y (List.mem_cons_of_mem _ hy)) h5]
    simp [Nat.add_assoc, Nat.add_comm 1]
theorem readF_nil (f : Nat) (l : LyP) (n : Nat) : readF f [] l n = (0, 0, l) := by cases f <;> rfl
theorem parse_patch {l : LyP} (h : GoodLy l) (h10 : ∀ x : Tr, chkTr x = 0 → ∀ c ∈ showTr x, c ≠ 10) : parseP (patchB l) = (0, 0, l) := by
  have l1 := linesP_len true l.2
  have l2 := linesP_len false l.1
  have hlen : (patchB l).length = (linesP true l.2).length + (linesP false l.1).length := by unfold patchB; rw [List.length_append]
  obtain ⟨e, he⟩ : ∃ e, (patchB l).length = (e + l.1.length) + l.2.length := ⟨(patchB l).length - l.1.length - l.2.length, by omega⟩
  unfold parseP
  rw [he]
  have h1 := read_many true l.2 [] [] (linesP false l.1) (e + l.1.length) 0 (fun x hx => ⟨h.take.2.1 x hx, h10 x (h.take.2.1 x hx)⟩) (by simpa using h.take.2.2) (by simpa using h.take.1) (by simp) (fun _ => rfl)
  have h2 := read_many false l.1 [] l.2 [] e (0 + l.2.length) (fun x hx => ⟨h.add.2.1 x hx, h10 x (h.add.2.1 x hx)⟩) (by simpa using h.add.2.2) (by simpa using h.add.1) h.apart (fun ht => by cases ht)
  have h1' : readF (e + l.1.length + l.2.length) (linesP true l.2 ++ linesP false l.1) ([], []) 0 = readF (e + l.1.length) (linesP false l.1) ([], l.2) (0 + l.2.length) := by simpa using h1
  have h2' : readF (e + l.1.length) (linesP false l.1) ([], l.2) (0 + l.2.length) = readF e [] (l.1, l.2) (0 + l.2.length + l.1.length) := by simpa using h2
  exact (h1'.trans h2').trans (readF_nil _ _ _)
theorem parse_back {l : LyP} (h : GoodLy l) : parseP (patchB l) = (0, 0, l) := parse_patch h show_no10
end Go.Proofs.YtnlcfnpcjkcdmafGreatDoor

/- A patch's face: what the laws ask of the program's patch, whatever it is made of. -/
namespace Go.Proofs.YtnlcfnpcjkcdmafGreatDoor
open Go Go.RowKit Go.Proofs
set_option synthInstance.maxSize 1000

theorem apart_good {l : LyP} : apartN l.1 l.2 = 0 ↔ GoodLy l := by
  constructor
  · intro h
    obtain ⟨h1, h2⟩ := orN_zero.1 h
    obtain ⟨s1, s2⟩ := bothN_zero.1 h1
    refine ⟨s1, s2, fun x hx hx2 => ?_⟩
    have : x ∈ bothL l.1 l.2 := List.mem_filter.2 ⟨hx, by simpa using hx2⟩
    split at h2
    · rename_i h3
      rw [List.eq_nil_of_length_eq_zero h3] at this
      simp at this
    · cases h2
  · intro h
    exact apartN_of h.add h.take h.apart
def printP (l : LyP) : List UInt8 := if apartN l.1 l.2 = 0 then patchB l else []
/-- a layer that a caller hands in -/
structure LayIn (w : World) (a1 a2 : Option Addr) (l : LyP) : Prop where
  add : SlT w a1 l.1
  take : SlT w a2 l.2
  fitA : ∀ x ∈ l.1, fitTr x
  fitT : ∀ x ∈ l.2, fitTr x
  lenA : l.1.length ≤ maxLen
  lenT : l.2.length ≤ maxLen
def countN (s : List UInt8) : Nat := (s.filter fun c => decide (c = 10)).length
/-- what Apply tells: the fault, the line -/
def applyE (m : List Tr) (s : List UInt8) : Int := if (parseP s).1 ≠ 0 then (parseP s).1 else applyN m (parseP s).2.2.1 (parseP s).2.2.2
def applyI (m : List Tr) (s : List UInt8) : Nat := if (parseP s).1 ≠ 0 then (parseP s).2.1 else if applyN m (parseP s).2.2.1 (parseP s).2.2.2 ≠ 0 then countN s else 0
def ApplyP (m : List Tr) (s : List UInt8) (t : List Tr) : Prop := (applyE m s = 0 → JoinOf (lessL m (parseP s).2.2.2) (parseP s).2.2.1 t) ∧ (applyE m s ≠ 0 → t = [])
def ParseAns (s : List UInt8) (w : World) (e : Ending) (w' : World) : Prop := ∃ a1 c1 a2 c2, e = .returned (.tuple #[.agg #[.slice a1 (parseP s).2.2.1.length c1, .slice a2 (parseP s).2.2.2.length c2], .int .i64 ((parseP s).2.1 : Int), errV (parseP s).1]) ∧ SlT w' a1 (parseP s).2.2.1 ∧ SlT w' a2 (parseP s).2.2.2 ∧ RowKit.Below w.heap.size w w'
def ApplyAnsP (m : List Tr) (s : List UInt8) (w : World) (e : Ending) (w' : World) : Prop := ∃ t a c, e = .returned (.tuple #[.slice a t.length c, .int .i64 (applyI m s : Int), errV (applyE m s)]) ∧ ApplyP m s t ∧ SlT w' a t ∧ RowKit.Below w.heap.size w w'
structure PFace where
  lim : Nat
  print : ∀ (w : World) (a1 a2 : Option Addr) (c1 c2 : Nat) (l : LyP), LayIn w a1 a2 l →
    Calls Tryz.prog 31 #[.agg #[.slice a1 l.1.length c1, .slice a2 l.2.length c2]] w fun e w' => e = .returned (.tuple #[.string ⟨(printP l).toArray⟩, errV (apartN l.1 l.2)]) ∧ RowKit.Below w.heap.size w w'
  parse : ∀ (w : World) (s : List UInt8), s.length ≤ lim → Calls Tryz.prog 33 #[.string ⟨s.toArray⟩] w fun e w' => ParseAns s w e w'
  apply : ∀ (w : World) (ad : Option Addr) (ca : Nat) (m : List Tr) (s : List UInt8), SlT w ad m → (∀ x ∈ m, fitTr x) → m.length ≤ maxLen → s.length ≤ lim →
    Calls Tryz.prog 37 #[.slice ad m.length ca, .string ⟨s.toArray⟩] w fun e w' => ApplyAnsP m s w e w'
end Go.Proofs.YtnlcfnpcjkcdmafGreatDoor

/- layer: apart, within, Check, swap, fresh, Turn, Between: what they tell. -/
namespace Go.Proofs.YtnlcfnpcjkcdmafGreatDoor
open Go Go.RowKit Go.Proofs
set_option synthInstance.maxSize 1000

attribute [local go_sem] eql_errV neq_errV guard_errV

/-- a store where a slice lay leaves the rows of triples -/
theorem SlT.put {W : World} {ad : Option Addr} {l : List Tr} (h : SlT W ad l) {p : Addr} {a : Option Addr} {n c : Nat} (hp : W.cell? p = some (.slice a n c)) (v : Value) : SlT (W.setCell p v) ad l := fun hl => by
  obtain ⟨b, o, rfl, hr⟩ := h hl
  refine ⟨b, o, rfl, fun j u hu => ?_⟩
  have hc := hr j u hu
  have hne : p ≠ ⟨b, o + j, none⟩ := by
    rintro rfl
    rw [hp] at hc
    obtain rfl := Option.some.inj hc
    have hm := List.mem_of_getElem? hu
    unfold cellsT at hm
    obtain ⟨x, _, hx⟩ := List.mem_flatMap.1 hm
    simp [encTr] at hx
  rw [World.cell?_setCell_other W p _ v hne]
  exact hc
theorem SlT.put2 {W : World} {ad : Option Addr} {l : List Tr} (h : SlT W ad l) {b : Nat} {a a' : Option Addr} {n c n' c' : Nat} (hp : W.cell? ⟨b, 0, none⟩ = some (.slice a n c)) (hq : W.cell? ⟨b, 1, none⟩ = some (.slice a' n' c')) (u v : Value) : SlT ((W.setCell ⟨b, 0, none⟩ u).setCell ⟨b, 1, none⟩ v) ad l :=
  SlT.put (h.put hp u) (by rw [World.cell?_setCell_other W _ _ u (by simp)]; exact hq) v
theorem below_two {B b : Nat} {w W : World} (h : RowKit.Below B w W) (hb : B ≤ b) (v0 v1 : Value) : RowKit.Below B w ((W.setCell ⟨b, 0, none⟩ v0).setCell ⟨b, 1, none⟩ v1) :=
  (h.setCell (p := ⟨b, 0, none⟩) hb v0).setCell (p := ⟨b, 1, none⟩) hb v1

theorem twobox {w W : World} {T : TypeId} {a0 a1 : Value} (hb : RowKit.Below (w.alloc (.cells #[a0, a1] T)).heap.size (w.alloc (.cells #[a0, a1] T)) W) :
    W.cell? ⟨w.heap.size, 0, none⟩ = some a0 ∧ W.cell? ⟨w.heap.size, 1, none⟩ = some a1 ∧ w.heap.size < W.heap.size ∧ W.frozen? ⟨w.heap.size, 0, none⟩ = false ∧ W.frozen? ⟨w.heap.size, 1, none⟩ = false := by
  obtain ⟨h, h'⟩ := bcell hb
  have hs := hb.size
  refine ⟨?_, ?_, by simp at hs; omega, ?_, ?_⟩
  · rw [h] <;> first | go_simp | (simp <;> omega)
  · rw [h] <;> first | go_simp | (simp <;> omega)
  · rw [h'] <;> first | go_simp | (simp <;> omega)
  · rw [h'] <;> first | go_simp | (simp <;> omega)

set_option maxHeartbeats 2000000 in
set_option maxRecDepth 100000 in
theorem apart_any (ad bd : Option Addr) (ca cb : Nat) (a b : List Tr) (w : World) (ha : SlT w ad a) (hb : SlT w bd b) (fa : ∀ x ∈ a, fitTr x) (fb : ∀ x ∈ b, fitTr x) (na : a.length ≤ 9223372036854775807) (nb : b.length ≤ 9223372036854775807) :
    Calls Tryz.prog 92 #[.slice ad a.length ca, .slice bd b.length cb] w fun e w' => e = .returned (errV (apartN a b)) ∧ RowKit.Below w.heap.size w w' := by
  have H := fun W h1 h2 => Both_any ad bd ca cb a b W h1 h2 fa fb na nb
  have Ha : Hid (SlT w ad a) := ha
  have Hb : Hid (SlT w bd b) := hb
  have fin : Hid (apartN a b = orN (bothN a b) (if (bothL a b).length = 0 then 0 else 7)) := rfl
  have hA : Hid (∀ m, BothAns a b m → bothN a b = 0 → m = bothL a b ∧ m.length ≤ 200) := fun m hm h0 => by
    unfold BothAns at hm
    rw [if_pos h0] at hm
    exact ⟨hm, by rw [hm]; exact Nat.le_trans (List.length_filter_le _ _) (bothN_zero.1 h0).1.1⟩
  generalize apartN a b = N at *
  generalize BothAns a b = BA at *
  generalize bothL a b = B at *
  generalize bothN a b = n at *
  clear ha hb fa fb na nb
  go_enter Tryz.func92, Tryz.ntmps92
  go_wp2_with fail
  refine (H _ Ha.out Hb.out).mono ?_
  rintro e w1 ⟨hb1, m, am, cm, rfl, hm, hBA⟩
  have hA2 := hA.out m hBA
  clear hm hBA hA H
  cases hn : (n == 0)
  · have h0 : ¬ n = 0 := by simpa using hn
    have f1 : Hid (N = n) := fin.out.trans (orN_neg h0)
    clear hA2 h0 fin
    go_wp2_with fail
    go_ret
    exact ⟨ret_val (by rw [f1.out]; rfl), hb1⟩
  · have h0 : n = 0 := by simpa using hn
    obtain ⟨rfl, h200⟩ := hA2 h0
    have f1 : Hid (N = if m.length = 0 then 0 else 7) := fin.out.trans (orN_pos h0)
    subst h0
    rw [show errV 0 = .nilIface from rfl]
    clear hA2 fin hn
    by_cases hz : m.length = 0
    · have hd : decide (0 < m.length) = false := decide_eq_false (by omega)
      have f2 : Hid (N = 0) := by have := f1.out; rw [if_pos hz] at this; exact this
      clear hz f1
      go_wp2_with fail
      go_ret
      exact ⟨ret_val (by rw [f2.out]; rfl), hb1⟩
    · have hd : decide (0 < m.length) = true := decide_eq_true (by omega)
      have f2 : Hid (N = 7) := by have := f1.out; rw [if_neg hz] at this; exact this
      clear hz f1
      go_wp2_with fail
      go_ret
      exact ⟨ret_val (by rw [f2.out]; rfl), hb1⟩

set_option maxHeartbeats 2000000 in
set_option maxRecDepth 100000 in
theorem within_any (ad bd : Option Addr) (ca cb : Nat) (a b : List Tr) (w : World) (ha : SlT w ad a) (hb : SlT w bd b) (fa : ∀ x ∈ a, fitTr x) (fb : ∀ x ∈ b, fitTr x) (na : a.length ≤ 9223372036854775807) (nb : b.length ≤ 9223372036854775807) :
    Calls Tryz.prog 93 #[.slice ad a.length ca, .slice bd b.length cb] w fun e w' => e = .returned (errV (withinN a b)) ∧ RowKit.Below w.heap.size w w' := by
  have H := fun W h1 h2 => Less_any bd ad cb ca b a W h1 h2 fb fa nb na
  have Ha : Hid (SlT w ad a) := ha
  have Hb : Hid (SlT w bd b) := hb
  have fin : Hid (withinN a b = orN (bothN b a) (if (lessL b a).length = 0 then 0 else 5)) := rfl
  have hA : Hid (∀ m, LessAns b a m → bothN b a = 0 → m = lessL b a ∧ m.length ≤ 200) := fun m hm h0 => by
    unfold LessAns at hm
    rw [if_pos h0] at hm
    exact ⟨hm, by rw [hm]; exact Nat.le_trans (List.length_filter_le _ _) (bothN_zero.1 h0).1.1⟩
  generalize withinN a b = N at *
  generalize LessAns b a = BA at *
  generalize lessL b a = B at *
  generalize bothN b a = n at *
  clear ha hb fa fb na nb
  go_enter Tryz.func93, Tryz.ntmps93
  go_wp2_with fail
  refine (H _ Hb.out Ha.out).mono ?_
  rintro e w1 ⟨hb1, m, am, cm, rfl, hm, hBA⟩
  have hA2 := hA.out m hBA
  clear hm hBA hA H
  cases hn : (n == 0)
  · have h0 : ¬ n = 0 := by simpa using hn
    have f1 : Hid (N = n) := fin.out.trans (orN_neg h0)
    clear hA2 h0 fin
    go_wp2_with fail
    go_ret
    exact ⟨ret_val (by rw [f1.out]; rfl), hb1⟩
  · have h0 : n = 0 := by simpa using hn
    obtain ⟨rfl, h200⟩ := hA2 h0
    have f1 : Hid (N = if m.length = 0 then 0 else 5) := fin.out.trans (orN_pos h0)
    subst h0
    rw [show errV 0 = .nilIface from rfl]
    clear hA2 fin hn
    by_cases hz : m.length = 0
    · have hd : decide (0 < m.length) = false := decide_eq_false (by omega)
      have f2 : Hid (N = 0) := by have := f1.out; rw [if_pos hz] at this; exact this
      clear hz f1
      go_wp2_with fail
      go_ret
      exact ⟨ret_val (by rw [f2.out]; rfl), hb1⟩
    · have hd : decide (0 < m.length) = true := decide_eq_true (by omega)
      have f2 : Hid (N = 5) := by have := f1.out; rw [if_neg hz] at this; exact this
      clear hz f1
      go_wp2_with fail
      go_ret
      exact ⟨ret_val (by rw [f2.out]; rfl), hb1⟩

set_option maxHeartbeats 1000000 in
set_option maxRecDepth 100000 in
theorem LCheck_any (ad bd : Option Addr) (ca cb : Nat) (a b : List Tr) (w : World) (ha : SlT w ad a) (hb : SlT w bd b) (fa : ∀ x ∈ a, fitTr x) (fb : ∀ x ∈ b, fitTr x) (na : a.length ≤ 9223372036854775807) (nb : b.length ≤ 9223372036854775807) :
    Calls Tryz.prog 66 #[.agg #[.slice ad a.length ca, .slice bd b.length cb]] w fun e w' => e = .returned (errV (apartN a b)) ∧ RowKit.Below w.heap.size w w' := by
  have H := fun W h1 h2 => apart_any ad bd ca cb a b W h1 h2 fa fb na nb
  have Ha : Hid (SlT w ad a) := ha
  have Hb : Hid (SlT w bd b) := hb
  generalize apartN a b = N at *
  clear ha hb fa fb na nb
  go_enter Tryz.func66, Tryz.ntmps66
  go_wp2_with fail
  refine (H _ (Ha.out.below (balloc _ _)) (Hb.out.below (balloc _ _))).mono ?_
  rintro e w1 ⟨rfl, hb1⟩
  go_wp2_with fail
  go_ret
  exact ⟨rfl, bstep (balloc _ _) hb1⟩

set_option maxHeartbeats 2000000 in
set_option maxRecDepth 100000 in
theorem swap_any (ad bd cd : Option Addr) (ca cb cc : Nat) (a b c : List Tr) (w : World) (ha : SlT w ad a) (hb : SlT w bd b) (hc : SlT w cd c) (fa : ∀ x ∈ a, fitTr x) (fb : ∀ x ∈ b, fitTr x) (fc : ∀ x ∈ c, fitTr x) (na : a.length ≤ 9223372036854775807) (nb : b.length ≤ 9223372036854775807) (nc : c.length ≤ 9223372036854775807) :
    Calls Tryz.prog 94 #[.slice ad a.length ca, .slice bd b.length cb, .slice cd c.length cc] w (Ans (swapN a b c) (SwapAns a b c) w) := by
  have H := fun W h1 h2 => Less_any ad bd ca cb a b W h1 h2 fa fb na nb
  have HJ := fun W al cl h1 h2 => Join_any' al cd cl cc (lessL a b) c W h1 h2 (fun x hx => fa x (mem_lessL.1 hx).1) fc (Nat.le_trans (List.length_filter_le _ _) na) nc
  have Ha : Hid (SlT w ad a) := ha
  have Hb : Hid (SlT w bd b) := hb
  have Hc : Hid (SlT w cd c) := hc
  have f0 : Hid (¬ bothN a b = 0 → swapN a b c = bothN a b ∧ SwapAns a b c []) := fun h0 => by
    have h1 : swapN a b c = bothN a b := orN_neg h0
    exact ⟨h1, fun h => absurd (h1.symm.trans h) h0, fun _ => rfl⟩
  have f1 : Hid (bothN a b = 0 → swapN a b c = joinN (lessL a b) c ∧ ∀ m, JoinAns (lessL a b) c m → SwapAns a b c m) := fun h0 => by
    have h1 : swapN a b c = joinN (lessL a b) c := orN_pos h0
    exact ⟨h1, fun m hm => ⟨fun h => hm.1 (h1.symm.trans h), fun h => hm.2 (fun e => h (h1.trans e))⟩⟩
  have hA : Hid (∀ m, LessAns a b m → bothN a b = 0 → m = lessL a b) := fun m hm h0 => by
    unfold LessAns at hm
    rw [if_pos h0] at hm
    exact hm
  generalize JoinAns (lessL a b) c = JA at *
  generalize joinN (lessL a b) c = j at *
  generalize lessL a b = L at *
  generalize SwapAns a b c = SA at *
  generalize swapN a b c = N at *
  generalize LessAns a b = LA at *
  generalize bothN a b = n at *
  clear ha hb hc fa fb fc na nb nc
  go_enter Tryz.func94, Tryz.ntmps94
  go_wp2_with fail
  refine (H _ Ha.out Hb.out).mono ?_
  rintro e w1 ⟨hb1, m, am, cm, rfl, hm, hLA⟩
  have hA2 := hA.out m hLA
  have Hm : Hid (SlT w1 am m) := hm
  clear hm hLA hA H
  cases hn : (n == 0)
  · have h0 : ¬ n = 0 := by simpa using hn
    have F0 : Hid _ := f0.out h0
    clear hA2 h0 f0 f1 HJ
    go_wp2_with fail
    have hN : N = n := F0.out.1
    rw [hN]
    exact bodyPost_ret (v := .tuple #[.slice none 0 0, errV n]) (by simp [results, Tryz.results94, go_sem]) rfl (Ans.mk hb1 [] none 0 (slT_nil _ _) F0.out.2)
  · have h0 : n = 0 := by simpa using hn
    have F1 : Hid _ := f1.out h0
    obtain rfl := hA2 h0
    subst h0
    rw [show errV 0 = .nilIface from rfl]
    clear hA2 hn f0 f1
    go_wp2_with fail
    refine (HJ _ am cm Hm.out (Hc.out.below hb1)).mono ?_
    rintro e w2 ⟨hb2, q, aq, cq, rfl, hq, hJA⟩
    have Hq : Hid (SlT w2 aq q ∧ JA q) := ⟨hq, hJA⟩
    clear hq hJA HJ
    go_wp2_with fail
    have hN : N = j := F1.out.1
    rw [hN]
    exact bodyPost_ret (v := .tuple #[.slice aq q.length cq, errV j]) (by simp [results, Tryz.results94, go_sem]) rfl (Ans.mk (bstep hb1 hb2) q aq cq Hq.out.1 (F1.out.2 q Hq.out.2))

end Go.Proofs.YtnlcfnpcjkcdmafGreatDoor

/- layer: Between, after, follows, Then, Apply: what they tell. -/
namespace Go.Proofs.YtnlcfnpcjkcdmafGreatDoor
open Go Go.RowKit Go.Proofs
set_option synthInstance.maxSize 1000

attribute [local go_sem] eql_errV neq_errV guard_errV

set_option maxHeartbeats 4000000 in
set_option maxRecDepth 100000 in
theorem LBetween_any (ad bd : Option Addr) (ca cb : Nat) (a b : List Tr) (w : World) (ha : SlT w ad a) (hb : SlT w bd b) (fa : ∀ x ∈ a, fitTr x) (fb : ∀ x ∈ b, fitTr x) (na : a.length ≤ 9223372036854775807) (nb : b.length ≤ 9223372036854775807) :
    Calls Tryz.prog 149 #[.slice ad a.length ca, .slice bd b.length cb] w (LAns (bothN a b) (BtwAns a b) w) := by
  have H1 := fun W h1 h2 => Less_any ad bd ca cb a b W h1 h2 fa fb na nb
  have H2 := fun W h1 h2 => Less_any bd ad cb ca b a W h1 h2 fb fa nb na
  have Ha : Hid (SlT w ad a) := ha
  have Hb : Hid (SlT w bd b) := hb
  have f0 : Hid (¬ bothN a b = 0 → BtwAns a b [] []) := fun h0 => ⟨fun h => absurd h h0, fun _ => ⟨rfl, rfl⟩⟩
  have f1 : Hid (bothN a b = 0 → bothN b a = 0 ∧ ∀ m m', LessAns a b m → LessAns b a m' → BtwAns a b m' m) := fun h0 => by
    refine ⟨bothN_comm0 h0, fun m m' h1 h2 => ⟨fun _ => ?_, fun h => absurd h0 h⟩⟩
    unfold LessAns at h1 h2
    rw [if_pos h0] at h1
    rw [if_pos (bothN_comm0 h0)] at h2
    exact ⟨h2, h1⟩
  generalize BtwAns a b = TA at *
  generalize LessAns a b = LA at *
  generalize LessAns b a = LB at *
  generalize bothN a b = n at *
  generalize bothN b a = n' at *
  clear ha hb fa fb na nb
  go_enter Tryz.func149, Tryz.ntmps149
  go_wp2_with fail
  refine (H1 _ (Ha.out.below (balloc _ _)) (Hb.out.below (balloc _ _))).mono ?_
  rintro e w1 ⟨hb1, m, am, cm, rfl, hm, hLA⟩
  have hB1 := bstep (balloc _ _) hb1
  obtain ⟨y0, y1, hz2, y2, y3⟩ := twobox hb1
  have Hm : Hid (SlT w1 am m ∧ LA m) := ⟨hm, hLA⟩
  clear hm hLA H1
  cases hn : (n == 0)
  · have h0 : ¬ n = 0 := by simpa using hn
    have F0 : Hid _ := f0.out h0
    clear h0 f0 f1 H2
    go_wp2_with fail
    exact bodyPost_ret (v := .tuple #[.agg #[.slice none 0 0, .slice none 0 0], errV n]) (by unfold results; rw [Tryz.results149]; go_simp) rfl (LAns.mk (below_two hB1 (Nat.le_refl _) _ _) [] none 0 [] none 0 (slT_nil _ _) (slT_nil _ _) F0.out)
  · have h0 : n = 0 := by simpa using hn
    obtain ⟨hn', F1⟩ := f1.out h0
    have F2 : Hid _ := F1
    subst h0
    subst hn'
    rw [show errV 0 = .nilIface from rfl]
    clear hn f0 f1 F1
    go_wp2_with fail
    refine (H2 _ (Hb.out.below hB1) (Ha.out.below hB1)).mono ?_
    rintro e w2 ⟨hb2, q, aq, cq, rfl, hq, hLB⟩
    rw [show errV 0 = .nilIface from rfl]
    have hB2 := bstep hB1 hb2
    have hBx := bstep hb1 hb2
    clear y0 y1 hz2 y2 y3
    obtain ⟨y0, y1, hz2, y2, y3⟩ := twobox hBx
    have Hq : Hid (SlT w2 am m ∧ SlT w2 aq q ∧ LB q ∧ LA m) := ⟨Hm.out.1.below hb2, hq, hLB, Hm.out.2⟩
    clear hq hLB Hm hb1 hb2 H2
    go_wp2_with fail
    exact bodyPost_ret (v := .tuple #[.agg #[.slice aq q.length cq, .slice am m.length cm], .nilIface]) (by unfold results; rw [Tryz.results149]; go_simp) rfl (LAns.mk (n := 0) (below_two hB2 (Nat.le_refl _) _ _) q aq cq m am cm (Hq.out.2.1.put2 y0 y1 _ _) (Hq.out.1.put2 y0 y1 _ _) (F2.out m q Hq.out.2.2.2 Hq.out.2.2.1))
end Go.Proofs.YtnlcfnpcjkcdmafGreatDoor

/- layer: Turn, Between, after: what they tell. -/
namespace Go.Proofs.YtnlcfnpcjkcdmafGreatDoor
open Go Go.RowKit Go.Proofs
set_option synthInstance.maxSize 1000

attribute [local go_sem] eql_errV neq_errV guard_errV

theorem twobox1 {w W : World} {T : TypeId} {o : Obj} {a0 a1 : Value} (hb : RowKit.Below ((w.alloc (.cells #[a0, a1] T)).alloc o).heap.size ((w.alloc (.cells #[a0, a1] T)).alloc o) W) :
    W.cell? ⟨w.heap.size, 0, none⟩ = some a0 ∧ W.cell? ⟨w.heap.size, 1, none⟩ = some a1 ∧ w.heap.size < W.heap.size ∧ W.frozen? ⟨w.heap.size, 0, none⟩ = false ∧ W.frozen? ⟨w.heap.size, 1, none⟩ = false := twobox (bstep (balloc _ _) hb)
theorem twobox2 {w W : World} {T : TypeId} {o : Obj} {a0 a1 : Value} (hb : RowKit.Below ((w.alloc o).alloc (.cells #[a0, a1] T)).heap.size ((w.alloc o).alloc (.cells #[a0, a1] T)) W) :
    W.cell? ⟨w.heap.size + 1, 0, none⟩ = some a0 ∧ W.cell? ⟨w.heap.size + 1, 1, none⟩ = some a1 ∧ w.heap.size + 1 < W.heap.size ∧ W.frozen? ⟨w.heap.size + 1, 0, none⟩ = false ∧ W.frozen? ⟨w.heap.size + 1, 1, none⟩ = false := by
  have := twobox hb
  rw [World.size_alloc] at this
  exact this

end Go.Proofs.YtnlcfnpcjkcdmafGreatDoor

/- layer: follows, Then, Apply: what they tell. -/
namespace Go.Proofs.YtnlcfnpcjkcdmafGreatDoor
open Go Go.RowKit Go.Proofs
set_option synthInstance.maxSize 1000

attribute [local go_sem] eql_errV neq_errV guard_errV


set_option maxHeartbeats 4000000 in
set_option maxRecDepth 100000 in
theorem LApply_any (sd ad bd : Option Addr) (cs ca cb : Nat) (s a b : List Tr) (w : World) (hs : SlT w sd s) (ha : SlT w ad a) (hb : SlT w bd b) (fs : ∀ x ∈ s, fitTr x) (fa : ∀ x ∈ a, fitTr x) (fb : ∀ x ∈ b, fitTr x) (ns : s.length ≤ 9223372036854775807) (na : a.length ≤ 9223372036854775807) (nb : b.length ≤ 9223372036854775807) :
    Calls Tryz.prog 59 #[.slice sd s.length cs, .agg #[.slice ad a.length ca, .slice bd b.length cb]] w (Ans (applyN s a b) (ApplyAns s a b) w) := by
  have H1 := fun W h1 => Sorted_any sd cs s W h1 fs ns
  have H2 := fun W h1 h2 => LCheck_any ad bd ca cb a b W h1 h2 fa fb na nb
  have H3 := fun W h1 h2 => apart_any sd ad cs ca s a W h1 h2 fs fa ns na
  have H4 := fun W h1 h2 => within_any sd bd cs cb s b W h1 h2 fs fb ns nb
  have H5 := fun W h1 h2 h3 => swap_any sd bd ad cs cb ca s b a W h1 h2 h3 fs fb fa ns nb na
  have HS : Hid (SlT w sd s ∧ SlT w ad a ∧ SlT w bd b) := ⟨hs, ha, hb⟩
  have fin : Hid (applyN s a b = orN (sortedN s) (orN (apartN a b) (orN (apartN s a) (orN (withinN s b) (swapN s b a))))) := rfl
  have f0 : Hid (∀ n, applyN s a b = n → ¬ n = 0 → ApplyAns s a b []) := fun n h h0 => ⟨fun e => absurd (h.symm.trans e) h0, fun _ => rfl⟩
  have f1 : Hid (applyN s a b = swapN s b a → ∀ m, SwapAns s b a m → ApplyAns s a b m) := fun h m hm => ⟨fun e => hm.1 (h.symm.trans e), fun e => hm.2 (fun e' => e (h.trans e'))⟩
  generalize ApplyAns s a b = AA at *
  generalize SwapAns s b a = SA at *
  generalize applyN s a b = N at *
  generalize sortedN s = n1 at *
  generalize apartN a b = n2 at *
  generalize apartN s a = n3 at *
  generalize withinN s b = n4 at *
  generalize swapN s b a = n5 at *
  clear hs ha hb fs fa fb ns na nb
  go_enter Tryz.func59, Tryz.ntmps59
  go_wp2_with fail
  refine (H1 _ (HS.out.1.below (balloc _ _))).mono ?_
  rintro e w1 ⟨rfl, hb1⟩
  have hB1 := bstep (balloc _ _) hb1
  obtain ⟨x0, x1, hz1, _, _⟩ := twobox hb1
  clear H1
  cases hn1 : (n1 == 0)
  · have h0 : ¬ n1 = 0 := by simpa using hn1
    have hN := fin.out.trans (orN_neg h0)
    have F0 : Hid _ := f0.out _ hN h0
    subst hN
    clear fin f0 f1 H2 H3 H4 H5 h0
    go_wp2_with fail
    exact bodyPost_ret (v := .tuple #[.slice none 0 0, errV N]) (by simp [results, Tryz.results59, go_sem]) rfl (Ans.mk hB1 [] none 0 (slT_nil _ _) F0.out)
  · have g1 : Hid (N = orN n2 (orN n3 (orN n4 n5))) := fin.out.trans (orN_pos (by simpa using hn1))
    clear fin
    go_wp2_with fail
    refine (H2 _ (HS.out.2.1.below hB1) (HS.out.2.2.below hB1)).mono ?_
    rintro e w2 ⟨rfl, hb2⟩
    have hB2 := bstep hB1 hb2
    have hb2' := bstep hb1 hb2
    clear x0 x1 hz1 H2 hb1 hb2
    obtain ⟨x0, x1, hz1, _, _⟩ := twobox hb2'
    cases hn2 : (n2 == 0)
    · have h0 : ¬ n2 = 0 := by simpa using hn2
      have hN := g1.out.trans (orN_neg h0)
      have F0 : Hid _ := f0.out _ hN h0
      subst hN
      clear g1 f0 f1 H3 H4 H5 h0
      go_wp2_with fail
      exact bodyPost_ret (v := .tuple #[.slice none 0 0, errV N]) (by simp [results, Tryz.results59, go_sem]) rfl (Ans.mk hB2 [] none 0 (slT_nil _ _) F0.out)
    · have g2 : Hid (N = orN n3 (orN n4 n5)) := g1.out.trans (orN_pos (by simpa using hn2))
      clear g1
      go_wp2_with fail
      refine (H3 _ (HS.out.1.below hB2) (HS.out.2.1.below hB2)).mono ?_
      rintro e w3 ⟨rfl, hb3⟩
      have hB3 := bstep hB2 hb3
      have hb3' := bstep hb2' hb3
      clear x0 x1 hz1 H3 hb2' hb3
      obtain ⟨x0, x1, hz1, _, _⟩ := twobox hb3'
      cases hn3 : (n3 == 0)
      · have h0 : ¬ n3 = 0 := by simpa using hn3
        have hN := g2.out.trans (orN_neg h0)
        have F0 : Hid _ := f0.out _ hN h0
        subst hN
        clear g2 f0 f1 H4 H5 h0
        go_wp2_with fail
        exact bodyPost_ret (v := .tuple #[.slice none 0 0, errV N]) (by simp [results, Tryz.results59, go_sem]) rfl (Ans.mk hB3 [] none 0 (slT_nil _ _) F0.out)
      · have g3 : Hid (N = orN n4 n5) := g2.out.trans (orN_pos (by simpa using hn3))
        clear g2
        go_wp2_with fail
        refine (H4 _ (HS.out.1.below hB3) (HS.out.2.2.below hB3)).mono ?_
        rintro e w4 ⟨rfl, hb4⟩
        have hB4 := bstep hB3 hb4
        have hb4' := bstep hb3' hb4
        clear x0 x1 hz1 H4 hb3' hb4
        obtain ⟨x0, x1, hz1, _, _⟩ := twobox hb4'
        cases hn4 : (n4 == 0)
        · have h0 : ¬ n4 = 0 := by simpa using hn4
          have hN := g3.out.trans (orN_neg h0)
          have F0 : Hid _ := f0.out _ hN h0
          subst hN
          clear g3 f0 f1 H5 h0
          go_wp2_with fail
          exact bodyPost_ret (v := .tuple #[.slice none 0 0, errV N]) (by simp [results, Tryz.results59, go_sem]) rfl (Ans.mk hB4 [] none 0 (slT_nil _ _) F0.out)
        · have hN := g3.out.trans (orN_pos (by simpa using hn4))
          have F1 : Hid _ := f1.out hN
          subst hN
          clear g3 f0 f1
          go_wp2_with fail
          refine (H5 _ (HS.out.1.below hB4) (HS.out.2.2.below hB4) (HS.out.2.1.below hB4)).mono ?_
          rintro e w5 ⟨hb5, q, aq, cq, rfl, hq, hSA⟩
          have Hq : Hid (SlT w5 aq q ∧ SA q) := ⟨hq, hSA⟩
          clear hq hSA H5
          go_wp2_with fail
          exact bodyPost_ret (v := .tuple #[.slice aq q.length cq, errV N]) (by simp [results, Tryz.results59, go_sem]) rfl (Ans.mk (bstep hB4 hb5) q aq cq Hq.out.1 (F1.out q Hq.out.2))
end Go.Proofs.YtnlcfnpcjkcdmafGreatDoor
