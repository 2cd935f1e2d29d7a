import Derived.Test.YtbacenhgedopjaaGreatDoorMA0x1
import Derived.Test.YtbacenhgedopjaaGreatDoorMA0x0
import Derived.Laws.StructEq
import Derived.Shelf.GgSortFunc.RowK
import Derived.Shelf.GgSortFunc.InsertionK
import Derived.Lib.SlicesCompact
import Derived.Deep.LoopGhost
import Derived.Deep.Draws
import Derived.RegionTactic
import Derived.Sort.Statements
import Derived.Shelf.SlSortCmp.Insertion

/- Questions in plain words: what is wrong with one, as words and text, and what is read of a text; plain lists, no program. -/
namespace Go.Proofs.YtbacenhgedopjaaGreatDoor
open Go Go.RowKit Go.Proofs
set_option synthInstance.maxSize 1000

/-- a question: what is told, the parts, by which variable, down, each once, how many -/
structure Qu where
  vars : List (List UInt8)
  parts : List Pt
  order : List UInt8
  down : Bool
  dist : Bool
  lim : Int

/-! ### what is wrong -/
def addAll : List (List UInt8) → List (List UInt8) → List (List UInt8)
  | o, [] => o
  | o, v :: r => addAll (if v ∈ o then o else o ++ [v]) r
def partsV : List (List UInt8) → List Pt → List (List UInt8)
  | o, [] => o
  | o, p :: r => partsV (addAll o (varsL p)) r
def partsN : List Pt → Int
  | [] => 0
  | p :: r => if varsN p = 0 then partsN r else varsN p
def askN (q : Qu) : Int :=
  if 6 < q.parts.length then 4 else if q.parts = [] then 5 else if partsN q.parts ≠ 0 then partsN q.parts else if 8 < (partsV [] q.parts).length then 4
  else if q.vars = [] then 5 else if (∃ v ∈ q.vars, v ∉ partsV [] q.parts) then 5 else if ¬ q.vars.Nodup then 7 else if q.order ≠ [] ∧ q.order ∉ q.vars then 5
  else if q.down = true ∧ q.order = [] then 3 else if q.lim < -1 ∨ 500 < q.lim then 1 else 0

theorem mem_addV {l : List (List UInt8)} {s : Sl} {v : List UInt8} (h : v ∈ addV l s) : v ∈ l ∨ (v = s.1 ∧ s.1 ≠ []) := by
  unfold addV at h
  split at h
  · exact .inl h
  · split at h
    · exact .inl h
    · rename_i h1 _
      rcases List.mem_append.1 h with h | h
      · exact .inl h
      · exact .inr ⟨by simpa using h, h1⟩
theorem slot_spell {s : Sl} (h : slotN s = 0) (hs : s.1 ≠ []) : spellV s.1 = true ∧ s.2 = tmZero := by
  unfold slotN at h
  rw [if_neg hs] at h
  split at h
  · omega
  · rename_i h1
    split at h
    · rename_i h2; exact ⟨by simpa using h1, h2⟩
    · omega
theorem slot_term {s : Sl} (h : slotN s = 0) (hs : s.1 = []) : tmChk s.2 = 0 := by
  unfold slotN at h
  rw [if_pos hs] at h
  exact h
theorem vars_zero {p : Pt} (h : varsN p = 0) : slotN p.1 = 0 ∧ slotN p.2.1 = 0 ∧ slotN p.2.2 = 0 := by
  unfold varsN at h
  split at h
  · rename_i h1
    split at h
    · rename_i h2; exact ⟨h1, h2, h⟩
    · rename_i h2; exact absurd h h2
  · rename_i h1; exact absurd h h1
theorem mem_varsL {p : Pt} (hp : varsN p = 0) {v : List UInt8} (h : v ∈ varsL p) : v ≠ [] ∧ spellV v = true := by
  obtain ⟨h1, h2, h3⟩ := vars_zero hp
  unfold varsL at h
  rcases mem_addV h with h | ⟨rfl, g⟩
  · rcases mem_addV h with h | ⟨rfl, g⟩
    · rcases mem_addV h with h | ⟨rfl, g⟩
      · cases h
      · exact ⟨g, (slot_spell h1 g).1⟩
    · exact ⟨g, (slot_spell h2 g).1⟩
  · exact ⟨g, (slot_spell h3 g).1⟩
theorem mem_addAll : ∀ {l o : List (List UInt8)} {v : List UInt8}, v ∈ addAll o l → v ∈ o ∨ v ∈ l
  | [], o, v, h => .inl h
  | x :: r, o, v, h => by
    rcases mem_addAll (l := r) h with h | h
    · split at h
      · exact .inl h
      · rcases List.mem_append.1 h with h | h
        · exact .inl h
        · exact .inr (by simp at h; simp [h])
    · exact .inr (by simp [h])
theorem mem_partsV : ∀ {l : List Pt} {o : List (List UInt8)} {v : List UInt8}, partsN l = 0 → v ∈ partsV o l → v ∈ o ∨ (v ≠ [] ∧ spellV v = true)
  | [], o, v, _, h => .inl h
  | p :: r, o, v, hN, h => by
    unfold partsN at hN
    split at hN
    · rename_i hp
      rcases mem_partsV (l := r) hN h with h | h
      · rcases mem_addAll h with h | h
        · exact .inl h
        · exact .inr (mem_varsL hp h)
      · exact .inr h
    · rename_i hp; exact absurd hN hp
theorem parts_zero : ∀ {l : List Pt}, partsN l = 0 → ∀ p ∈ l, varsN p = 0
  | [], _, p, h => by cases h
  | x :: r, hN, p, h => by
    unfold partsN at hN
    split at hN
    · rename_i hp
      rcases List.mem_cons.1 h with rfl | h
      · exact hp
      · exact parts_zero hN p h
    · rename_i hp; exact absurd hN hp
/-- a question that is right -/
structure GoodQ (q : Qu) : Prop where
  six : q.parts.length ≤ 6
  some : q.parts ≠ []
  parts : ∀ p ∈ q.parts, varsN p = 0
  eight : (partsV [] q.parts).length ≤ 8
  told : q.vars ≠ []
  within : ∀ v ∈ q.vars, v ∈ partsV [] q.parts
  vars : ∀ v ∈ q.vars, v ≠ [] ∧ spellV v = true
  once : q.vars.Nodup
  order : q.order = [] ∨ q.order ∈ q.vars
  down : q.down = true → q.order ≠ []
  lim : -1 ≤ q.lim ∧ q.lim ≤ 500
theorem ask_good {q : Qu} (h : askN q = 0) : GoodQ q := by
  unfold askN at h
  split at h
  · omega
  rename_i h1
  split at h
  · omega
  rename_i h2
  split at h
  · rename_i h3; exact absurd h h3
  rename_i h3
  split at h
  · omega
  rename_i h4
  split at h
  · omega
  rename_i h5
  split at h
  · omega
  rename_i h6
  split at h
  · omega
  rename_i h7
  split at h
  · omega
  rename_i h8
  split at h
  · omega
  rename_i h9
  split at h
  · omega
  rename_i h10
  have hw : ∀ v ∈ q.vars, v ∈ partsV [] q.parts := fun v hv => Classical.byContradiction fun hn => h6 ⟨v, hv, hn⟩
  have hN : partsN q.parts = 0 := Classical.byContradiction h3
  refine ⟨by omega, h2, parts_zero hN, by omega, h5, hw, fun v hv => ?_, Classical.byContradiction h7, ?_, fun hd ho => h9 ⟨hd, ho⟩, by omega⟩
  · rcases mem_partsV hN (hw v hv) with h | h
    · cases h
    · exact h
  · by_cases ho : q.order = []
    · exact .inl ho
    · exact .inr (Classical.byContradiction fun hn => h8 ⟨ho, hn⟩)

/-! ### as words -/
def wSel : List UInt8 := [115, 101, 108, 101, 99, 116]
def wDist : List UInt8 := [100, 105, 115, 116, 105, 110, 99, 116]
def wWhere : List UInt8 := [119, 104, 101, 114, 101]
def wAnd : List UInt8 := [97, 110, 100]
def wOrder : List UInt8 := [111, 114, 100, 101, 114]
def wDown : List UInt8 := [100, 111, 119, 110]
def wLimit : List UInt8 := [108, 105, 109, 105, 116]
def varT (v : List UInt8) : List UInt8 := 63 :: v
def slotT (s : Sl) : List UInt8 := if s.1 = [] then showL s.2.1 s.2.2.1 s.2.2.2 else varT s.1
def partT (p : Pt) : List (List UInt8) := [slotT p.1, slotT p.2.1, slotT p.2.2]
def partsT : List Pt → List (List UInt8)
  | [] => []
  | p :: r => partT p ++ (if r = [] then [] else wAnd :: partsT r)
def digF : Nat → Nat → List UInt8
  | 0, n => [UInt8.ofNat (48 + n)]
  | f + 1, n => if n < 10 then [UInt8.ofNat (48 + n)] else digF f (n / 10) ++ [UInt8.ofNat (48 + n % 10)]
def digitsN (n : Nat) : List UInt8 := digF n n
def limT (q : Qu) : List (List UInt8) := if 0 ≤ q.lim then [wLimit, digitsN q.lim.toNat] else []
def ordT (q : Qu) : List (List UInt8) := if q.order = [] then [] else wOrder :: varT q.order :: (if q.down = true then [wDown] else [])
def wordsQ (q : Qu) : List (List UInt8) := wSel :: ((if q.dist = true then [wDist] else []) ++ (q.vars.map varT ++ wWhere :: (partsT q.parts ++ (ordT q ++ limT q))))

/-! ### reading words: what is left, and whether it went wrong -/
abbrev InS := List (List UInt8) × Bool
def isW (s : InS) (w : List UInt8) : Bool := !s.2 && decide (s.1.head? = some w)
def hasW (s : InS) (w : List UInt8) : InS := if isW s w = true then (s.1.tail, s.2) else s
def needW (s : InS) (w : List UInt8) : InS := if isW s w = true then (s.1.tail, s.2) else (s.1, true)
def varW (w : List UInt8) : Bool := match w with
  | [] => false
  | c :: v => decide (c = 63) && (!v.isEmpty && spellV v)
def nameS (s : InS) : List UInt8 × InS := if s.2 = true then ([], s) else match s.1 with
  | [] => ([], s.1, true)
  | w :: r => if varW w = true then (w.tail, r, false) else ([], s.1, true)
def slotS (s : InS) : Sl × InS := if s.2 = true then (([], tmZero), s) else match s.1 with
  | [] => (([], tmZero), s.1, true)
  | w :: r => if varW w = true then ((w.tail, tmZero), r, false) else if parseN w = 0 then (([], parseT w), r, false) else (([], tmZero), s.1, true)
def varsS : Nat → InS → List (List UInt8) → List (List UInt8) × InS
  | 0, s, o => (o, s)
  | f + 1, s, o => if s.2 = true then (o, s) else if isW s wWhere = true then (o, s.1.tail, s.2) else varsS f (nameS s).2 (o ++ [(nameS s).1])
def patS (s : InS) : Pt × InS := (((slotS s).1, (slotS (slotS s).2).1, (slotS (slotS (slotS s).2).2).1), (slotS (slotS (slotS s).2).2).2)
def partsS : Nat → InS → List Pt → List Pt × InS
  | 0, s, o => (o, s)
  | f + 1, s, o => if isW (patS s).2 wAnd = true then partsS f ((patS s).2.1.tail, (patS s).2.2) (o ++ [(patS s).1]) else (o ++ [(patS s).1], (patS s).2)
/-- a number that is read: each digit, the first no needless 0; great ones stand still -/
def numF : Int → List UInt8 → Option Int
  | n, [] => some n
  | n, c :: r => if digB (c.toNat : Int) = true then numF (if n < 100000000000000000 then n * 10 + (c.toNat : Int) - 48 else n) r else none
def numW (w : List UInt8) : Option Int := match w with
  | [] => none
  | c :: r => if c = 48 ∧ r ≠ [] then none else numF 0 (c :: r)
def ordS (s : InS) : List UInt8 × Bool × InS := if isW s wOrder = true then ((nameS (s.1.tail, s.2)).1, isW (nameS (s.1.tail, s.2)).2 wDown, hasW (nameS (s.1.tail, s.2)).2 wDown) else ([], false, s)
def limS (s : InS) : Int × InS := if isW s wLimit = true then (match s.1.tail with
  | [] => (-1, [], true)
  | w :: r => match numW w with
    | none => (0, w :: r, true)
    | some n => (n, r, false)) else (-1, s)
def endSA (s : InS) : InS := if s.2 = false ∧ s.1 ≠ [] then (s.1, true) else s
/-- the whole: the question that is read, and what is left -/
def readQ (L : List (List UInt8)) : Qu × InS :=
  let s1 := needW (L, false) wSel
  let d := isW s1 wDist
  let s2 := hasW s1 wDist
  let v := varsS (L.length + 1) (nameS s2).2 [(nameS s2).1]
  let p := if v.2.2 = true then ([], v.2) else partsS (L.length + 1) v.2 []
  let o := ordS p.2
  let l := limS o.2.2
  (⟨v.1, p.1, o.1, o.2.1, d, l.1⟩, endSA l.2)

/-! ### what is written is read -/
theorem isW_eq (w : List UInt8) (r : List (List UInt8)) : isW (w :: r, false) w = true := by simp [isW]
theorem isW_ne {v w : List UInt8} (r : List (List UInt8)) (h : v ≠ w) : isW (v :: r, false) w = false := by simp [isW, h]
theorem isW_nil (w : List UInt8) : isW ([], false) w = false := by simp [isW]
theorem isW_bad (r : List (List UInt8)) (w : List UInt8) : isW (r, true) w = false := by simp [isW]
theorem isW_true {s : InS} {w : List UInt8} (h : isW s w = true) : s = (w :: s.1.tail, false) := by
  obtain ⟨l, b⟩ := s
  cases b with
  | true => simp [isW] at h
  | false =>
    cases l with
    | nil => simp [isW] at h
    | cons x r =>
      obtain rfl : x = w := by simpa [isW] using h
      rfl
theorem varW_mk {v : List UInt8} (h : v ≠ [] ∧ spellV v = true) : varW (varT v) = true := by
  simp [varW, varT, h.1, h.2]
theorem varW_true {w : List UInt8} (h : varW w = true) : w = varT w.tail ∧ w.tail ≠ [] ∧ spellV w.tail = true := by
  cases w with
  | nil => simp [varW] at h
  | cons c v =>
    simp [varW] at h
    obtain ⟨rfl, h1, h2⟩ := h
    exact ⟨rfl, h1, h2⟩
theorem name_mk {v : List UInt8} (r : List (List UInt8)) (h : v ≠ [] ∧ spellV v = true) : nameS (varT v :: r, false) = (v, r, false) := by
  simp [nameS, varW_mk h]
  rfl
theorem show_first {k : Int} {S L : List UInt8} (h : checkN k S L = 0) : varW (showL k S L) = false := by
  cases hv : varW (showL k S L) with
  | false => rfl
  | true =>
    exfalso
    obtain ⟨h1, _, _⟩ := varW_true hv
    unfold checkN at h
    split at h
    · omega
    split at h
    · omega
    split at h
    · omega
    rename_i h3
    have h3' : spellB k S L = true := by simpa using h3
    unfold spellB at h3'
    by_cases k1 : k = 1
    · subst k1
      rw [if_pos rfl] at h3'
      have h5 : nameOk S = true := by simp only [Bool.and_eq_true] at h3'; exact h3'.2
      have e : showL 1 S L = S := rfl
      rw [e] at h1
      unfold nameOk at h5
      rw [h1] at h5
      simp [varT, allB, nameB, letB, digB] at h5
    · rw [if_neg k1] at h3'
      by_cases k2 : k = 2
      · subst k2
        have e : showL 2 S L = 95 :: S := rfl
        rw [e] at h1
        simp [varT] at h1
      · rw [if_neg k2] at h3'
        by_cases k3 : k = 3
        · subst k3
          have e : showL 3 S L = 34 :: ((escL S ++ [34]) ++ markL L) := rfl
          rw [e] at h1
          simp [varT] at h1
        · rw [if_neg k3] at h3'
          cases h3'
theorem slot_mk {s : Sl} (r : List (List UInt8)) (h : slotN s = 0) : slotS (slotT s :: r, false) = (s, r, false) := by
  obtain ⟨v, k, S, L⟩ := s
  by_cases hv : v = []
  · subst hv
    have hc : checkN k S L = 0 := slot_term h rfl
    obtain ⟨h1, h2⟩ := parse_show k S L hc
    simp [slotS, slotT, show_first hc, h1, h2]
  · obtain ⟨h1, h2⟩ := slot_spell h hv
    have e : slotT (v, k, S, L) = varT v := by simp [slotT, hv]
    have h2' : (k, S, L) = tmZero := h2
    rw [e]
    simp [slotS, varW_mk ⟨hv, h1⟩, h2']
    rfl
theorem pat_mk {p : Pt} (r : List (List UInt8)) (h : varsN p = 0) : patS (partT p ++ r, false) = (p, r, false) := by
  obtain ⟨h1, h2, h3⟩ := vars_zero h
  have e : partT p ++ r = slotT p.1 :: slotT p.2.1 :: slotT p.2.2 :: r := rfl
  unfold patS
  rw [e, slot_mk _ h1]
  dsimp only
  rw [slot_mk _ h2]
  dsimp only
  rw [slot_mk _ h3]
theorem vars_mk (r : List (List UInt8)) : ∀ (l o : List (List UInt8)) (f : Nat), l.length < f → (∀ v ∈ l, v ≠ [] ∧ spellV v = true) → varsS f (l.map varT ++ wWhere :: r, false) o = (o ++ l, r, false)
  | [], o, 0, hf, _ => by simp at hf
  | [], o, f + 1, _, _ => by
    simp [varsS, isW_eq]
  | v :: l, o, 0, hf, _ => by simp at hf
  | v :: l, o, f + 1, hf, h => by
    have hne : varT v ≠ wWhere := by simp [varT, wWhere]
    have ih := vars_mk r l (o ++ [v]) f (by simpa using hf) (fun x hx => h x (by simp [hx]))
    rw [varsS, if_neg (by simp), List.map_cons, List.cons_append, isW_ne _ hne, if_neg (by simp), name_mk _ (h v (by simp))]
    dsimp only
    rw [ih]
    simp
theorem parts_mk (r : List (List UInt8)) (hr : r.head? ≠ some wAnd) : ∀ (l o : List Pt) (f : Nat), l ≠ [] → l.length ≤ f → (∀ p ∈ l, varsN p = 0) → partsS f (partsT l ++ r, false) o = (o ++ l, r, false)
  | [], o, f, hn, _, _ => absurd rfl hn
  | p :: l, o, 0, _, hf, _ => by simp at hf
  | p :: l, o, f + 1, _, hf, h => by
    have hp := h p (by simp)
    by_cases hl : l = []
    · subst hl
      have e : partsT [p] ++ r = partT p ++ r := by simp [partsT]
      rw [partsS, e, pat_mk r hp]
      dsimp only
      rw [show isW (r, false) wAnd = false by simp [isW, hr], if_neg (by simp)]
    · have e : partsT (p :: l) ++ r = partT p ++ (wAnd :: (partsT l ++ r)) := by simp [partsT, hl]
      have ih := parts_mk r hr l (o ++ [p]) f hl (by simpa using hf) (fun x hx => h x (by simp [hx]))
      rw [partsS, e, pat_mk _ hp]
      dsimp only
      rw [isW_eq, if_pos rfl]
      dsimp only [List.tail_cons]
      rw [ih]
      simp
theorem ord_mk {q : Qu} (g : GoodQ q) (r : List (List UInt8)) (h1 : r.head? ≠ some wOrder) (h2 : r.head? ≠ some wDown) : ordS (ordT q ++ r, false) = (q.order, q.down, r, false) := by
  unfold ordS ordT
  by_cases ho : q.order = []
  · have hd : q.down = false := by
      cases h : q.down with
      | false => rfl
      | true => exact absurd ho (g.down h)
    rw [if_pos ho, List.nil_append, show isW (r, false) wOrder = false by simp [isW, h1], if_neg (by simp), ho, hd]
  · have hv : q.order ≠ [] ∧ spellV q.order = true := by
      rcases g.order with h | h
      · exact absurd h ho
      · exact g.vars _ h
    rw [if_neg ho, List.cons_append, List.cons_append, isW_eq, if_pos rfl]
    dsimp only [List.tail_cons]
    rw [name_mk _ hv]
    dsimp only
    cases hd : q.down with
    | true =>
      rw [if_pos rfl, List.singleton_append, isW_eq]
      unfold hasW
      rw [isW_eq, if_pos rfl]
      rfl
    | false =>
      rw [if_neg (by simp), List.nil_append]
      have e : isW (r, false) wDown = false := by simp [isW, h2]
      unfold hasW
      rw [e, if_neg (by simp)]
theorem byte_dig (d : Nat) (h : d < 10) : ((UInt8.ofNat (48 + d)).toNat : Int) = 48 + d := by
  rw [UInt8.toNat_ofNat']
  omega
theorem numF_app : ∀ (a b : List UInt8) (n m : Int), numF n a = some m → numF n (a ++ b) = numF m b
  | [], b, n, m, h => by
    obtain rfl : n = m := by simpa [numF] using h
    rfl
  | c :: a, b, n, m, h => by
    rw [numF] at h
    split at h
    · rename_i hd
      rw [List.cons_append, numF, if_pos hd]
      exact numF_app a b _ m h
    · cases h
theorem digits_lt {n : Nat} (h : n < 10) : digitsN n = [UInt8.ofNat (48 + n)] := by
  unfold digitsN
  cases n with
  | zero => rfl
  | succ m => rw [digF, if_pos h]
theorem digF_eq : ∀ (f g n : Nat), n ≤ f → n ≤ g → digF f n = digF g n
  | 0, g, n, h, _ => by
    have e : n = 0 := by omega
    subst e
    cases g with
    | zero => rfl
    | succ g => rw [digF, digF, if_pos (by omega)]
  | f + 1, 0, n, _, h => by
    have e : n = 0 := by omega
    subst e
    rw [digF, digF, if_pos (by omega)]
  | f + 1, g + 1, n, h1, h2 => by
    rw [digF, digF]
    by_cases hn : n < 10
    · rw [if_pos hn, if_pos hn]
    · rw [if_neg hn, if_neg hn, digF_eq f g (n / 10) (by omega) (by omega)]
theorem digits_ge {n : Nat} (h : ¬ n < 10) : digitsN n = digitsN (n / 10) ++ [UInt8.ofNat (48 + n % 10)] := by
  unfold digitsN
  cases n with
  | zero => omega
  | succ m => rw [digF, if_neg h, digF_eq m ((m + 1) / 10) ((m + 1) / 10) (by omega) (Nat.le_refl _)]
theorem digits_ne (n : Nat) : digitsN n ≠ [] := by
  by_cases h : n < 10
  · rw [digits_lt h]; simp
  · rw [digits_ge h]; simp
theorem head_app {a : List UInt8} (b : List UInt8) (h : a ≠ []) : (a ++ b).head? = a.head? := by
  cases a with
  | nil => exact absurd rfl h
  | cons x r => rfl
theorem digits_first : ∀ (f n : Nat), n ≤ f → 0 < n → (digitsN n).head? ≠ some 48
  | 0, n, hf, h0 => by omega
  | f + 1, n, hf, h0 => by
    by_cases h : n < 10
    · rw [digits_lt h]
      intro e
      have e' : UInt8.ofNat (48 + n) = 48 := by simpa using e
      have := congrArg UInt8.toNat e'
      rw [UInt8.toNat_ofNat'] at this
      have h48 : (48 : UInt8).toNat = 48 := rfl
      omega
    · rw [digits_ge h, head_app _ (digits_ne _)]
      exact digits_first f (n / 10) (by omega) (by omega)
theorem digits_num : ∀ (f n : Nat), n ≤ f → n ≤ 100000000000000000 → numF 0 (digitsN n) = some (n : Int)
  | f, n, hf, hn => by
    by_cases h : n < 10
    · rw [digits_lt h, numF, byte_dig n h, if_pos (by unfold digB; simp; omega), if_pos (by omega), numF]
      congr 1
      omega
    · have h10 : n % 10 < 10 := Nat.mod_lt _ (by omega)
      match f, hf with
      | 0, hf => omega
      | f + 1, hf =>
        rw [digits_ge h, numF_app _ _ _ _ (digits_num f (n / 10) (by omega) (by omega)), numF, byte_dig _ h10, if_pos (by unfold digB; simp; omega), if_pos (by omega), numF]
        congr 1
        omega
theorem digits_read {n : Nat} (hn : n ≤ 100000000000000000) : numW (digitsN n) = some (n : Int) := by
  have h := digits_num n n (Nat.le_refl _) hn
  by_cases h0 : n = 0
  · subst h0
    rw [digits_lt (by omega)] at h ⊢
    show (if UInt8.ofNat (48 + 0) = 48 ∧ ([] : List UInt8) ≠ [] then none else numF 0 [UInt8.ofNat (48 + 0)]) = _
    rw [if_neg (fun hh => hh.2 rfl)]
    exact h
  · have h1 := digits_first n n (Nat.le_refl _) (by omega)
    cases hd : digitsN n with
    | nil => exact absurd hd (digits_ne n)
    | cons c r =>
      rw [hd] at h h1
      show (if c = 48 ∧ r ≠ [] then none else numF 0 (c :: r)) = _
      rw [if_neg (fun hh => h1 (by simp [hh.1]))]
      exact h
theorem lim_mk {q : Qu} (g : GoodQ q) : limS (limT q, false) = (q.lim, [], false) := by
  have hl := g.lim
  unfold limS limT
  by_cases h : 0 ≤ q.lim
  · rw [if_pos h, isW_eq, if_pos rfl]
    dsimp only [List.tail_cons]
    rw [digits_read (by omega)]
    dsimp only
    rw [Int.toNat_of_nonneg h]
  · rw [if_neg h, isW_nil, if_neg (by simp), show q.lim = -1 by omega]
theorem lim_head (q : Qu) : (limT q).head? = none ∨ (limT q).head? = some wLimit := by
  unfold limT
  split
  · exact .inr rfl
  · exact .inl rfl
theorem ord_head (q : Qu) (r : List (List UInt8)) (w : List UInt8) (h1 : w ≠ wOrder) (h2 : r.head? ≠ some w) : (ordT q ++ r).head? ≠ some w := by
  unfold ordT
  split
  · exact h2
  · simp; exact fun h => h1 h.symm
/-- what is written is read -/
theorem read_words {q : Qu} (h : askN q = 0) : readQ (wordsQ q) = (q, [], false) := by
  have g := ask_good h
  have hl : ∀ w, w ≠ wLimit → (limT q).head? ≠ some w := fun w hw => by
    rcases lim_head q with e | e
    · rw [e]; simp
    · rw [e]; simp; exact fun h => hw h.symm
  obtain ⟨v, vs, hv⟩ : ∃ v vs, q.vars = v :: vs := by
    cases hq : q.vars with
    | nil => exact absurd hq g.told
    | cons v vs => exact ⟨v, vs, rfl⟩
  have gv := g.vars
  rw [hv] at gv
  have hs2 : hasW ((if q.dist = true then [wDist] else []) ++ (q.vars.map varT ++ wWhere :: (partsT q.parts ++ (ordT q ++ limT q))), false) wDist = (varT v :: (vs.map varT ++ wWhere :: (partsT q.parts ++ (ordT q ++ limT q))), false) := by
    unfold hasW
    cases hd : q.dist with
    | true => rw [if_pos rfl, List.singleton_append, isW_eq, if_pos rfl, hv]; rfl
    | false =>
      rw [show (if false = true then [wDist] else ([] : List (List UInt8))) = [] from rfl, List.nil_append, hv, List.map_cons, List.cons_append, isW_ne _ (show varT v ≠ wDist by simp [varT, wDist]), if_neg (by simp)]
  have hs1 : isW ((if q.dist = true then [wDist] else []) ++ (q.vars.map varT ++ wWhere :: (partsT q.parts ++ (ordT q ++ limT q))), false) wDist = q.dist := by
    cases hd : q.dist with
    | true => rw [if_pos rfl, List.singleton_append, isW_eq]
    | false => rw [if_neg (by simp), List.nil_append, hv, List.map_cons, List.cons_append, isW_ne _ (show varT v ≠ wDist by simp [varT, wDist])]
  have hsel : needW (wordsQ q, false) wSel = ((if q.dist = true then [wDist] else []) ++ (q.vars.map varT ++ wWhere :: (partsT q.parts ++ (ordT q ++ limT q))), false) := by
    unfold needW wordsQ
    rw [isW_eq, if_pos rfl]
    rfl
  have hlen : q.vars.length + q.parts.length ≤ (wordsQ q).length := by
    have hp : ∀ l : List Pt, l.length ≤ (partsT l).length := fun l => by
      induction l with
      | nil => simp
      | cons p r ih =>
        unfold partsT
        split
        · rename_i hr; subst hr; simp [partT]
        · simp [partT]; omega
    have := hp q.parts
    unfold wordsQ
    simp
    omega
  have hvl : q.vars.length = vs.length + 1 := by rw [hv]; rfl
  unfold readQ
  dsimp only
  rw [hsel, hs1, hs2, name_mk _ (gv v (by simp))]
  dsimp only
  rw [vars_mk _ vs [v] _ (by omega) (fun x hx => gv x (by simp [hx]))]
  dsimp only
  rw [if_neg (by simp), parts_mk _ (ord_head q _ _ (by decide) (hl _ (by decide))) q.parts [] _ g.some (by omega) g.parts]
  dsimp only
  rw [ord_mk g _ (hl _ (by decide)) (hl _ (by decide))]
  dsimp only
  rw [lim_mk g]
  dsimp only
  rw [show endSA ([], false) = ([], false) by simp [endSA]]
  simp only [List.singleton_append, List.nil_append, ← hv]
/-! ### what is read is written -/
theorem name_out {s : InS} (h : (nameS s).2.2 = false) : s = (varT (nameS s).1 :: (nameS s).2.1, false) ∧ (nameS s).1 ≠ [] ∧ spellV (nameS s).1 = true := by
  obtain ⟨l, b⟩ := s
  cases b with
  | true => simp [nameS] at h
  | false =>
    cases l with
    | nil => simp [nameS] at h
    | cons w r =>
      cases hv : varW w with
      | false => simp [nameS, hv] at h
      | true =>
        obtain ⟨h1, h2, h3⟩ := varW_true hv
        have e : nameS (w :: r, false) = (w.tail, r, false) := by simp [nameS, hv]
        rw [e]
        exact ⟨by rw [← h1], h2, h3⟩
theorem slot_out {s : InS} (h : (slotS s).2.2 = false) : s = (slotT (slotS s).1 :: (slotS s).2.1, false) := by
  obtain ⟨l, b⟩ := s
  cases b with
  | true => simp [slotS] at h
  | false =>
    cases l with
    | nil => simp [slotS] at h
    | cons w r =>
      cases hv : varW w with
      | true =>
        obtain ⟨h1, h2, h3⟩ := varW_true hv
        have e : slotS (w :: r, false) = ((w.tail, tmZero), r, false) := by simp [slotS, hv]
        rw [e]
        have e2 : slotT (w.tail, tmZero) = varT w.tail := by simp only [slotT, if_neg h2]
        rw [e2, ← h1]
      | false =>
        by_cases hp : parseN w = 0
        · have e : slotS (w :: r, false) = (([], parseT w), r, false) := by simp [slotS, hv, hp]
          rw [e]
          have e2 : slotT ([], parseT w) = w := by simpa only [slotT, if_pos] using (show_parse w hp).2
          rw [e2]
        · simp [slotS, hv, hp] at h
theorem pat_out {s : InS} (h : (patS s).2.2 = false) : s = (partT (patS s).1 ++ (patS s).2.1, false) := by
  have h3 := slot_out (s := (slotS (slotS s).2).2) h
  have h2 := slot_out (s := (slotS s).2) (by rw [h3])
  have h1 := slot_out (s := s) (by rw [h2])
  have e : partT (patS s).1 ++ (patS s).2.1 = slotT (slotS s).1 :: slotT (slotS (slotS s).2).1 :: slotT (slotS (slotS (slotS s).2).2).1 :: (slotS (slotS (slotS s).2).2).2.1 := rfl
  rw [e]
  have e3 : slotT (slotS (slotS (slotS s).2).2).1 :: (slotS (slotS (slotS s).2).2).2.1 = (slotS (slotS s).2).2.1 := (congrArg Prod.fst h3).symm
  have e2 : slotT (slotS (slotS s).2).1 :: (slotS (slotS s).2).2.1 = (slotS s).2.1 := (congrArg Prod.fst h2).symm
  rw [e3, e2]
  exact h1
theorem vars_bad (f : Nat) {s : InS} (o : List (List UInt8)) (h : s.2 = true) : varsS f s o = (o, s) := by
  cases f with
  | zero => rfl
  | succ f => rw [varsS, if_pos h]
theorem vars_out : ∀ (f : Nat) (s : InS) (o : List (List UInt8)), s.1.length < f → (varsS f s o).2.2 = false → ∃ l, (varsS f s o).1 = o ++ l ∧ s = (l.map varT ++ wWhere :: (varsS f s o).2.1, false)
  | 0, s, o, hf, _ => by simp at hf
  | f + 1, s, o, hf, h => by
    rw [varsS] at h ⊢
    by_cases hb : s.2 = true
    · rw [if_pos hb] at h
      rw [hb] at h
      cases h
    · rw [if_neg hb] at h ⊢
      by_cases hw : isW s wWhere = true
      · rw [if_pos hw]
        exact ⟨[], by simp, isW_true hw⟩
      · rw [if_neg hw] at h ⊢
        have hn : (nameS s).2.2 = false := by
          cases hc : (nameS s).2.2 with
          | false => rfl
          | true =>
            rw [vars_bad _ _ hc, hc] at h
            cases h
        obtain ⟨h1, _, _⟩ := name_out hn
        have hlen : (nameS s).2.1.length < f := by
          have := congrArg (fun x : InS => x.1.length) h1
          simp at this
          omega
        obtain ⟨l, e1, e2⟩ := vars_out f (nameS s).2 (o ++ [(nameS s).1]) hlen h
        refine ⟨(nameS s).1 :: l, by rw [e1]; simp, ?_⟩
        have e3 : (nameS s).2.1 = l.map varT ++ wWhere :: (varsS f (nameS s).2 (o ++ [(nameS s).1])).2.1 := congrArg Prod.fst e2
        rw [List.map_cons, List.cons_append, ← e3]
        exact h1
theorem parts_out : ∀ (f : Nat) (s : InS) (o : List Pt), s.1.length < f → (partsS f s o).2.2 = false → ∃ l, l ≠ [] ∧ (partsS f s o).1 = o ++ l ∧ s = (partsT l ++ (partsS f s o).2.1, false)
  | 0, s, o, hf, _ => by simp at hf
  | f + 1, s, o, hf, h => by
    rw [partsS] at h ⊢
    by_cases hw : isW (patS s).2 wAnd = true
    · rw [if_pos hw] at h ⊢
      have e0 := isW_true hw
      have hb : (patS s).2.2 = false := by rw [e0]
      have h1 := pat_out hb
      have hlen : (patS s).2.1.tail.length < f := by
        have := congrArg (fun x : InS => x.1.length) h1
        simp [partT] at this
        simp
        omega
      obtain ⟨l, hl, e1, e2⟩ := parts_out f ((patS s).2.1.tail, (patS s).2.2) (o ++ [(patS s).1]) hlen h
      refine ⟨(patS s).1 :: l, by simp, by rw [e1]; simp, ?_⟩
      have e3 : (patS s).2.1.tail = partsT l ++ (partsS f ((patS s).2.1.tail, (patS s).2.2) (o ++ [(patS s).1])).2.1 := congrArg Prod.fst e2
      have e4 : (patS s).2.1 = wAnd :: (patS s).2.1.tail := congrArg Prod.fst e0
      rw [partsT, if_neg hl, List.append_assoc, List.cons_append, ← e3, ← e4]
      exact h1
    · rw [if_neg hw] at h ⊢
      refine ⟨[(patS s).1], by simp, rfl, ?_⟩
      have e : partsT [(patS s).1] = partT (patS s).1 := by simp [partsT]
      rw [e]
      exact pat_out h
theorem ord_out {s : InS} (h : (ordS s).2.2.2 = false) : s = ((if (ordS s).1 = [] then [] else wOrder :: varT (ordS s).1 :: (if (ordS s).2.1 = true then [wDown] else [])) ++ (ordS s).2.2.1, false) := by
  by_cases hw : isW s wOrder = true
  · have e0 := isW_true hw
    have e : ordS s = ((nameS (s.1.tail, s.2)).1, isW (nameS (s.1.tail, s.2)).2 wDown, hasW (nameS (s.1.tail, s.2)).2 wDown) := by unfold ordS; rw [if_pos hw]
    rw [e] at h ⊢
    dsimp only at h ⊢
    have hn : (nameS (s.1.tail, s.2)).2.2 = false := by
      unfold hasW at h
      split at h
      · exact h
      · exact h
    obtain ⟨h1, h2, _⟩ := name_out hn
    rw [if_neg h2]
    have e1 : s.1.tail = varT (nameS (s.1.tail, s.2)).1 :: (nameS (s.1.tail, s.2)).2.1 := congrArg Prod.fst h1
    unfold hasW
    by_cases hd : isW (nameS (s.1.tail, s.2)).2 wDown = true
    · rw [if_pos hd, if_pos hd]
      have e2 : (nameS (s.1.tail, s.2)).2.1 = wDown :: (nameS (s.1.tail, s.2)).2.1.tail := congrArg Prod.fst (isW_true hd)
      dsimp only
      rw [List.cons_append, List.cons_append, List.singleton_append, ← e2, ← e1]
      exact e0
    · rw [if_neg hd, if_neg hd, List.cons_append, List.cons_append, List.nil_append, ← e1]
      exact e0
  · have e : ordS s = ([], false, s) := by unfold ordS; rw [if_neg hw]
    rw [e] at h ⊢
    dsimp only at h ⊢
    rw [if_pos rfl, List.nil_append, ← h]
theorem numF_ge : ∀ (w : List UInt8) (m n : Int), 0 ≤ m → numF m w = some n → m ≤ n
  | [], m, n, _, h => by
    have : m = n := by simpa [numF] using h
    omega
  | c :: r, m, n, hm, h => by
    rw [numF] at h
    split at h
    · rename_i hd
      unfold digB at hd
      simp at hd
      split at h
      · have := numF_ge r _ n (by omega) h
        omega
      · exact numF_ge r m n hm h
    · cases h
theorem byte_ofNat (c : UInt8) (d : Nat) (h : (c.toNat : Int) = 48 + d) : UInt8.ofNat (48 + d) = c := by
  rw [show 48 + d = c.toNat by omega]
  exact UInt8.ofNat_toNat
theorem num_digits : ∀ (w : List UInt8) (m n : Int), 0 < m → numF m w = some n → n ≤ 500 → digitsN n.toNat = digitsN m.toNat ++ w
  | [], m, n, _, h, _ => by
    have : m = n := by simpa [numF] using h
    rw [this]; simp
  | c :: r, m, n, hm, h, hn => by
    have hge := numF_ge (c :: r) m n (by omega) h
    rw [numF] at h
    split at h
    · rename_i hd
      unfold digB at hd
      simp at hd
      rw [if_pos (by omega)] at h
      rw [num_digits r _ n (by omega) h hn, digits_ge (show ¬ (m * 10 + (c.toNat : Int) - 48).toNat < 10 by omega), show (m * 10 + (c.toNat : Int) - 48).toNat / 10 = m.toNat by omega, byte_ofNat c _ (by omega)]
      simp
    · cases h
theorem num_out {w : List UInt8} {n : Int} (h : numW w = some n) (hn : n ≤ 500) : 0 ≤ n ∧ digitsN n.toNat = w := by
  cases w with
  | nil => cases h
  | cons c r =>
    have h' : (if c = 48 ∧ r ≠ [] then none else numF 0 (c :: r)) = some n := h
    split at h'
    · cases h'
    rename_i hz
    have hge := numF_ge _ _ _ (Int.le_refl 0) h'
    refine ⟨hge, ?_⟩
    rw [numF] at h'
    split at h'
    · rename_i hd
      unfold digB at hd
      simp at hd
      rw [if_pos (by omega)] at h'
      have e1 : digitsN (0 * 10 + (c.toNat : Int) - 48).toNat = [c] := by
        rw [digits_lt (by omega), byte_ofNat c _ (by omega)]
      by_cases hr : r = []
      · subst hr
        have : 0 * 10 + (c.toNat : Int) - 48 = n := by simpa only [numF, Option.some.injEq] using h'
        rw [← this, e1]
      · have hc : ¬ c = 48 := fun hc => hz ⟨hc, hr⟩
        have hc' : (c.toNat : Int) ≠ 48 := fun e => hc (UInt8.toNat_inj.1 (by rw [show (48 : UInt8).toNat = 48 from rfl]; omega))
        rw [num_digits r _ n (by omega) h' hn, e1]
        rfl
    · cases h'
theorem lim_out {s : InS} (h : (limS s).2.2 = false) (hn : (limS s).1 ≤ 500) : s = ((if 0 ≤ (limS s).1 then [wLimit, digitsN (limS s).1.toNat] else []) ++ (limS s).2.1, false) := by
  by_cases hw : isW s wLimit = true
  · have e0 := isW_true hw
    cases ht : s.1.tail with
    | nil =>
      have e : limS s = (-1, [], true) := by unfold limS; rw [if_pos hw, ht]
      rw [e] at h; cases h
    | cons w r =>
      cases hk : numW w with
      | none =>
        have e : limS s = (0, w :: r, true) := by unfold limS; rw [if_pos hw, ht]; simp only [hk]
        rw [e] at h; cases h
      | some n =>
        have e : limS s = (n, r, false) := by unfold limS; rw [if_pos hw, ht]; simp only [hk]
        rw [e] at hn ⊢
        dsimp only at hn ⊢
        obtain ⟨h1, h2⟩ := num_out hk hn
        rw [if_pos h1, h2]
        show s = (wLimit :: w :: r, false)
        rw [← ht]
        exact e0
  · have e : limS s = (-1, s) := by unfold limS; rw [if_neg hw]
    rw [e] at h ⊢
    dsimp only at h ⊢
    rw [if_neg (by omega), List.nil_append, ← h]
theorem end_out {s : InS} (h : (endSA s).2 = false) : s = ([], false) ∧ endSA s = ([], false) := by
  obtain ⟨l, b⟩ := s
  unfold endSA at h ⊢
  cases b with
  | true => simp at h
  | false =>
    cases l with
    | nil => simp
    | cons x r => simp at h
theorem ord_bad {s : InS} (h : s.2 = true) : ordS s = ([], false, s) := by
  obtain ⟨l, b⟩ := s
  cases h
  unfold ordS
  rw [isW_bad, if_neg (by simp)]
theorem lim_bad {s : InS} (h : s.2 = true) : limS s = (-1, s) := by
  obtain ⟨l, b⟩ := s
  cases h
  unfold limS
  rw [isW_bad, if_neg (by simp)]
theorem end_bad {s : InS} (h : s.2 = true) : endSA s = s := by
  unfold endSA
  rw [if_neg (by rw [h]; simp)]
theorem need_out {s : InS} {w : List UInt8} (h : (needW s w).2 = false) : s = (w :: (needW s w).1, false) := by
  unfold needW at h ⊢
  split at h
  · rename_i hw
    rw [if_pos hw]
    exact isW_true hw
  · cases h
theorem has_out (s : InS) (w : List UInt8) (h : s.2 = false) : s = ((if isW s w = true then [w] else []) ++ (hasW s w).1, false) ∧ (hasW s w).2 = s.2 := by
  unfold hasW
  split
  · rename_i hw
    exact ⟨isW_true hw, rfl⟩
  · exact ⟨by rw [List.nil_append, ← h], rfl⟩
theorem has_bad {s : InS} {w : List UInt8} (h : (hasW s w).2 = false) : s.2 = false := by
  unfold hasW at h
  split at h <;> exact h
/-- what is read is written -/
theorem words_read {L : List (List UInt8)} (h : (readQ L).2.2 = false) (hl : (readQ L).1.lim ≤ 500) : wordsQ (readQ L).1 = L ∧ (readQ L).2.1 = [] := by
  unfold readQ at h hl ⊢
  dsimp only at h hl ⊢
  generalize e1 : needW (L, false) wSel = s1 at *
  generalize ed : isW s1 wDist = d at *
  generalize e2 : hasW s1 wDist = s2 at *
  generalize e3 : nameS s2 = x3 at *
  generalize e4 : varsS (L.length + 1) x3.2 [x3.1] = x4 at *
  generalize e5 : (if x4.2.2 = true then (([] : List Pt), x4.2) else partsS (L.length + 1) x4.2 []) = x5 at *
  generalize e6 : ordS x5.2 = x6 at *
  generalize e7 : limS x6.2.2 = x7 at *
  obtain ⟨z1, z2⟩ := end_out h
  have l7 := lim_out (s := x6.2.2) (by rw [e7, z1]) (by rw [e7]; exact hl)
  rw [e7, z1, List.append_nil] at l7
  have l6 := ord_out (s := x5.2) (by rw [e6, l7])
  rw [e6, l7] at l6
  dsimp only at l6
  have b5 : x5.2.2 = false := by rw [l6]
  have b4 : x4.2.2 = false := by
    cases hb : x4.2.2 with
    | false => rfl
    | true => rw [if_pos hb] at e5; rw [← e5] at b5; exact hb.symm.trans b5
  rw [if_neg (by rw [b4]; simp)] at e5
  have b3 : x3.2.2 = false := by
    cases hb : x3.2.2 with
    | false => rfl
    | true => rw [vars_bad _ _ hb] at e4; rw [← e4] at b4; exact hb.symm.trans b4
  obtain ⟨l3, n3, _⟩ := name_out (s := s2) (by rw [e3]; exact b3)
  rw [e3] at l3
  have b1 : s1.2 = false := has_bad (w := wDist) (by rw [e2, l3])
  have l2 := (has_out s1 wDist b1).1
  rw [ed, e2, l3] at l2
  have l1 := need_out (s := (L, false)) (w := wSel) (by rw [e1]; exact b1)
  rw [e1] at l1
  have L1 : L = wSel :: s1.1 := congrArg Prod.fst l1
  have L2 : s1.1 = (if d = true then [wDist] else []) ++ varT x3.1 :: x3.2.1 := congrArg Prod.fst l2
  have n1 : x3.2.1.length < L.length + 1 := by rw [L1, L2]; simp; omega
  obtain ⟨vs, v1, v2⟩ := vars_out (L.length + 1) x3.2 [x3.1] n1 (by rw [e4]; exact b4)
  rw [e4] at v1 v2
  have V2 : x3.2.1 = vs.map varT ++ wWhere :: x4.2.1 := congrArg Prod.fst v2
  have n2 : x4.2.1.length < L.length + 1 := by rw [V2] at n1; simp at n1; omega
  obtain ⟨ps, _, p1, p2⟩ := parts_out (L.length + 1) x4.2 [] n2 (by rw [e5]; exact b5)
  rw [e5] at p1 p2
  have P2 : x4.2.1 = partsT ps ++ x5.2.1 := congrArg Prod.fst p2
  have O2 : x5.2.1 = (if x6.1 = [] then [] else wOrder :: varT x6.1 :: (if x6.2.1 = true then [wDown] else [])) ++ (if 0 ≤ x7.1 then [wLimit, digitsN x7.1.toNat] else []) := congrArg Prod.fst l6
  rw [List.nil_append] at p1
  refine ⟨?_, by rw [z2]⟩
  unfold wordsQ ordT limT
  dsimp only
  rw [v1, p1, ← O2, ← P2, List.map_append, List.append_assoc, ← V2, L1, L2]
  rfl
/-- the question that is read of words, the words that are left, and what is told -/
theorem read_good {L : List (List UInt8)} (h : (readQ L).2.2 = false) (hN : askN (readQ L).1 = 0) : wordsQ (readQ L).1 = L := (words_read h (ask_good hN).lim.2).1

/-! ### words and text -/
def joinT : List (List UInt8) → List UInt8
  | [] => []
  | [w] => w
  | w :: x :: r => w ++ 32 :: joinT (x :: r)
/-- a word that no blank parts -/
def Whole (w : List UInt8) : Prop := cutW w = none ∧ ∀ r, cutW (w ++ 32 :: r) = some (w, r)
theorem joinT_cons (w : List UInt8) {r : List (List UInt8)} (h : r ≠ []) : joinT (w :: r) = w ++ 32 :: joinT r := by
  cases r with
  | nil => exact absurd rfl h
  | cons x r => rfl
theorem words_join : ∀ (l : List (List UInt8)), l ≠ [] → (∀ w ∈ l, Whole w) → wordsL (joinT l) = l
  | [], h, _ => absurd rfl h
  | [w], _, h => words_none (h w (by simp)).1
  | w :: x :: r, _, h => by
    rw [joinT, words_some ((h w (by simp)).2 _), words_join (x :: r) (by simp) (fun y hy => h y (by simp [hy]))]
theorem join_wscan : ∀ (n : Nat) (inn : Bool) (cur r : List UInt8), r.length ≤ n → wscan inn cur r ≠ [] ∧ joinT (wscan inn cur r) = cur ++ r
  | _, inn, cur, [], _ => by simp [wscan, joinT]
  | 0, inn, cur, c :: r, h => by simp at h
  | n + 1, inn, cur, c :: r, h => by
    have hr : r.length ≤ n := by simpa using h
    by_cases h92 : (inn && c == 92) = true
    · simp only [Bool.and_eq_true, beq_iff_eq] at h92
      obtain ⟨rfl, rfl⟩ := h92
      cases r with
      | nil => rw [wscan_last]; simp [joinT]
      | cons d r =>
        have ih := join_wscan n true (cur ++ [92, d]) r (by simp at hr; omega)
        rw [wscan_skip]
        exact ⟨ih.1, by rw [ih.2]; simp⟩
    · have h92' : (inn && c == 92) = false := by simpa using h92
      rw [wscan_plain inn cur c r h92']
      by_cases h32 : (c == 32 && !inn) = true
      · rw [if_pos h32]
        have ih := join_wscan n inn [] r hr
        simp only [Bool.and_eq_true, beq_iff_eq] at h32
        refine ⟨by simp, ?_⟩
        rw [joinT_cons _ ih.1, ih.2, h32.1]
        simp
      · rw [if_neg h32]
        have ih := join_wscan n (togB inn cur c) (cur ++ [c]) r hr
        exact ⟨ih.1, by rw [ih.2]; simp⟩
theorem join_words (l : List UInt8) : joinT (wordsL l) = l := by
  have := (join_wscan l.length false [] l (Nat.le_refl _)).2
  simpa [wordsL] using this
theorem indexByte_not (m : List UInt8) (h : ∀ c ∈ m, c ≠ 32) : Lib.indexByte m 32 = -1 := by
  induction m with
  | nil => rfl
  | cons c q ih =>
    have hc : (c == 32) = false := by simpa using h c (by simp)
    rw [Lib.indexByte, hc, ih (fun x hx => h x (by simp [hx]))]
    rfl
theorem whole_of {u t : List UInt8} (ht : ∀ c ∈ t, c ≠ 32) (hq : ∀ r, qEnd (u ++ t ++ r) = u.length) : Whole (u ++ t) := by
  refine ⟨?_, fun r => cutW_of u t r (hq _) ht⟩
  have h := hq []
  rw [List.append_nil] at h
  unfold cutW
  rw [h, List.drop_left, indexByte_not t ht, if_pos (by omega)]
theorem whole_plain {c : UInt8} {w : List UInt8} (h34 : c ≠ 34) (h : ∀ x ∈ c :: w, x ≠ 32) : Whole (c :: w) :=
  whole_of (u := []) h (fun r => by simp [qEnd, h34])
theorem show_whole {k : Int} {S L : List UInt8} (h : checkN k S L = 0) : Whole (showL k S L) := by
  obtain ⟨hk, hS, hsp⟩ := check_zero h
  rcases hk with rfl | rfl | rfl
  · have hs : showL 1 S L = S := rfl
    rw [hs]
    simp only [spellB, if_true, Bool.and_eq_true] at hsp
    cases S with
    | nil => simp [nameOk] at hsp
    | cons c q =>
      simp only [nameOk, Bool.and_eq_true] at hsp
      refine whole_plain (fun e => ?_) (fun x hx e => ?_)
      · have := hsp.2.1
        subst e
        simp [letB] at this
      · have := allB_mem hsp.2.2 x hx
        subst e
        simp [nameB, letB, digB] at this
  · have hs : showL 2 S L = 95 :: S := rfl
    rw [hs]
    have hsp' : anonOk S = true := by simp [spellB] at hsp; exact hsp.2
    refine whole_plain (by decide) (fun x hx e => ?_)
    rcases List.mem_cons.1 hx with e' | hx'
    · rw [e] at e'; simp at e'
    · cases S with
      | nil => simp at hx'
      | cons c q =>
        have := allB_mem (show allB anonB (c :: q) = true from hsp') x hx'
        subst e
        simp [anonB, letB, digB] at this
  · have hs : showL 3 S L = quoteL S ++ markL L := rfl
    rw [hs]
    have hsp' : (L.isEmpty || langOk L) = true := by simp [spellB] at hsp; simp; exact hsp.1
    refine whole_of (fun x hx e => ?_) (fun r => ?_)
    · cases L with
      | nil => simp [markL] at hx
      | cons c q =>
        have hl : langOk (c :: q) = true := by simpa using hsp'
        simp only [langOk, Bool.and_eq_true] at hl
        rcases List.mem_cons.1 (show x ∈ 64 :: c :: q from hx) with e' | hx'
        · rw [e] at e'; simp at e'
        · have := allB_mem hl.2 x hx'
          subst e
          simp [letB] at this
    · have e : quoteL S ++ markL L ++ r = 34 :: (escL S ++ 34 :: (markL L ++ r)) := by simp [quoteL]
      rw [e]
      show (if (34 : UInt8) = 34 then 1 + qScan (escL S ++ 34 :: (markL L ++ r)) else 0) = _
      rw [if_pos rfl, qScan_esc]
      simp [quoteL]
      omega
theorem var_whole {v : List UInt8} (h : spellV v = true) : Whole (varT v) := by
  simp only [spellV, Bool.and_eq_true] at h
  refine whole_plain (by decide) (fun x hx e => ?_)
  rcases List.mem_cons.1 hx with e' | hx'
  · rw [e] at e'; simp at e'
  · have := allB_mem h.2 x hx'
    subst e
    simp [letB] at this
theorem slot_whole {s : Sl} (h : slotN s = 0) : Whole (slotT s) := by
  unfold slotT
  split
  · rename_i hs; exact show_whole (slot_term h hs)
  · rename_i hs; exact var_whole (slot_spell h hs).1
theorem digits_mem : ∀ (f n : Nat), n ≤ f → ∀ c ∈ digitsN n, 48 ≤ c.toNat ∧ c.toNat ≤ 57
  | f, n, hf, c, hc => by
    by_cases h : n < 10
    · rw [digits_lt h] at hc
      obtain rfl : c = UInt8.ofNat (48 + n) := by simpa using hc
      have := byte_dig n h
      omega
    · have h10 : n % 10 < 10 := Nat.mod_lt _ (by omega)
      rw [digits_ge h] at hc
      match f, hf with
      | 0, hf => omega
      | f + 1, hf =>
        rcases List.mem_append.1 hc with hc | hc
        · exact digits_mem f (n / 10) (by omega) c hc
        · obtain rfl : c = UInt8.ofNat (48 + n % 10) := by simpa using hc
          have := byte_dig _ h10
          omega
theorem digits_whole (n : Nat) : Whole (digitsN n) := by
  have h := digits_mem n n (Nat.le_refl _)
  cases hd : digitsN n with
  | nil => exact absurd hd (digits_ne n)
  | cons c r =>
    rw [hd] at h
    refine whole_plain (fun e => ?_) (fun x hx e => ?_)
    · have := h c (by simp)
      rw [e, show (34 : UInt8).toNat = 34 from rfl] at this
      omega
    · have := h x hx
      rw [e, show (32 : UInt8).toNat = 32 from rfl] at this
      omega
theorem parts_whole : ∀ {l : List Pt}, (∀ p ∈ l, varsN p = 0) → ∀ w ∈ partsT l, Whole w
  | [], _, w, hw => by cases hw
  | p :: r, h, w, hw => by
    obtain ⟨h1, h2, h3⟩ := vars_zero (h p (by simp))
    rw [partsT] at hw
    rcases List.mem_append.1 hw with hw | hw
    · unfold partT at hw
      simp only [List.mem_cons, List.not_mem_nil, or_false] at hw
      rcases hw with rfl | rfl | rfl
      · exact slot_whole h1
      · exact slot_whole h2
      · exact slot_whole h3
    · split at hw
      · cases hw
      · rcases List.mem_cons.1 hw with rfl | hw
        · exact whole_plain (by decide) (by decide)
        · exact parts_whole (fun x hx => h x (by simp [hx])) w hw
theorem words_whole {q : Qu} (g : GoodQ q) : ∀ w ∈ wordsQ q, Whole w := by
  intro w hw
  unfold wordsQ at hw
  rcases List.mem_cons.1 hw with rfl | hw
  · exact whole_plain (by decide) (by decide)
  rcases List.mem_append.1 hw with hw | hw
  · split at hw
    · obtain rfl : w = wDist := by simpa using hw
      exact whole_plain (by decide) (by decide)
    · cases hw
  rcases List.mem_append.1 hw with hw | hw
  · obtain ⟨v, hv, rfl⟩ := List.mem_map.1 hw
    exact var_whole (g.vars v hv).2
  rcases List.mem_cons.1 hw with rfl | hw
  · exact whole_plain (by decide) (by decide)
  rcases List.mem_append.1 hw with hw | hw
  · exact parts_whole g.parts w hw
  rcases List.mem_append.1 hw with hw | hw
  · unfold ordT at hw
    split at hw
    · cases hw
    · rename_i ho
      rcases List.mem_cons.1 hw with rfl | hw
      · exact whole_plain (by decide) (by decide)
      rcases List.mem_cons.1 hw with rfl | hw
      · rcases g.order with h | h
        · exact absurd h ho
        · exact var_whole (g.vars _ h).2
      split at hw
      · obtain rfl : w = wDown := by simpa using hw
        exact whole_plain (by decide) (by decide)
      · cases hw
  · unfold limT at hw
    split at hw
    · rcases List.mem_cons.1 hw with rfl | hw
      · exact whole_plain (by decide) (by decide)
      obtain rfl : w = digitsN q.lim.toNat := by simpa using hw
      exact digits_whole _
    · cases hw

/-! ### a question as text, a text as a question -/
def textQ (q : Qu) : List UInt8 := joinT (wordsQ q)
def quZero : Qu := ⟨[], [], [], false, false, 0⟩
/-- what is told of a text: the fault, the place, the question -/
def parseQN (s : List UInt8) : Int := if (readQ (wordsL s)).2.2 = true then 2 else askN (readQ (wordsL s)).1
def parseQP (s : List UInt8) : Nat := if (readQ (wordsL s)).2.2 = true then (wordsL s).length - (readQ (wordsL s)).2.1.length else 0
def parseQQ (s : List UInt8) : Qu := if parseQN s = 0 then (readQ (wordsL s)).1 else quZero
theorem words_text {q : Qu} (h : askN q = 0) : wordsL (textQ q) = wordsQ q := words_join _ (by simp [wordsQ]) (words_whole (ask_good h))
/-- what is asked is asked again -/
theorem parse_text {q : Qu} (h : askN q = 0) : parseQN (textQ q) = 0 ∧ parseQP (textQ q) = 0 ∧ parseQQ (textQ q) = q := by
  have e : readQ (wordsL (textQ q)) = (q, [], false) := by rw [words_text h, read_words h]
  have e1 : parseQN (textQ q) = 0 := by unfold parseQN; rw [e]; simpa using h
  refine ⟨e1, ?_, ?_⟩
  · unfold parseQP; rw [e]; simp
  · unfold parseQQ; rw [if_pos e1, e]
theorem text_parse {s : List UInt8} (h : parseQN s = 0) : askN (parseQQ s) = 0 ∧ textQ (parseQQ s) = s ∧ parseQP s = 0 := by
  have hb : (readQ (wordsL s)).2.2 = false := by
    cases hb : (readQ (wordsL s)).2.2 with
    | false => rfl
    | true => unfold parseQN at h; rw [if_pos hb] at h; cases h
  have hN : askN (readQ (wordsL s)).1 = 0 := by unfold parseQN at h; rw [if_neg (by rw [hb]; simp)] at h; exact h
  have e : parseQQ s = (readQ (wordsL s)).1 := by unfold parseQQ; rw [if_pos h]
  refine ⟨by rw [e]; exact hN, ?_, ?_⟩
  · unfold textQ
    rw [e, read_good hb hN, join_words]
  · unfold parseQP; rw [if_neg (by rw [hb]; simp)]
end Go.Proofs.YtbacenhgedopjaaGreatDoor

/- '==' on two terms; which of two is ahead, in numbers. -/
namespace Go.Proofs.YtbacenhgedopjaaGreatDoor
open Go Go.RowKit Go.Proofs

def eqTB (k : Int) (S L : List UInt8) (k' : Int) (S' L' : List UInt8) : Bool := k == k' && (S == S' && L == L')

theorem eqTB_iff (k : Int) (S L : List UInt8) (k' : Int) (S' L' : List UInt8) : eqTB k S L k' S' L' = true ↔ k = k' ∧ S = S' ∧ L = L' := by simp [eqTB]

theorem toList_mk (l : List UInt8) : (⟨l.toArray⟩ : ByteArray).toList = l := by rw [ByteArray.toList_eq]

theorem equalTerm (k : Int) (S L : List UInt8) (k' : Int) (S' L' : List UInt8) (w : World) :
    (Op.equalIn 10000 28 (.agg #[.int .i64 k, .string ⟨S.toArray⟩, .string ⟨L.toArray⟩]) (.agg #[.int .i64 k', .string ⟨S'.toArray⟩, .string ⟨L'.toArray⟩])).run Tryz.prog w = .ok (eqTB k S L k' S' L') w := by
  have hS : Tryz.prog.underlying 28 = some (.struct (Tryz.prog.fieldsOf 28)) := by kernel_rfl
  rw [show (10000 : Nat) = 9999 + 1 from rfl, run_equalIn_agg w 9999 28 _ _ hS (by kernel_rfl)]
  simp only [Program.fieldsOf, Tryz.underlying28]
  go_simp
  unfold eqTB
  by_cases h1 : k = k' <;> by_cases h2 : S = S' <;> by_cases h3 : L = L' <;> simp [h1, h2, h3]

theorem cb_range (a : List UInt8) : ∀ b, -1 ≤ Lib.compareBytes a b ∧ Lib.compareBytes a b ≤ 1 := by
  induction a with
  | nil => intro b; cases b <;> simp [Lib.compareBytes]
  | cons x xs ih =>
    intro b
    cases b with
    | nil => simp [Lib.compareBytes]
    | cons y ys =>
      by_cases h1 : x < y
      · simp [Lib.compareBytes, h1]
      · by_cases h2 : y < x
        · simp [Lib.compareBytes, h1, h2]
        · simp only [Lib.compareBytes, h1, h2, if_false]; exact ih ys
theorem ci_range (a b : Int) : -1 ≤ Lib.compareInt a b ∧ Lib.compareInt a b ≤ 1 := by
  unfold Lib.compareInt
  repeat' split
  all_goals omega
theorem cmpT_range (k : Int) (S L : List UInt8) (k' : Int) (S' L' : List UInt8) : -1 ≤ cmpT k S L k' S' L' ∧ cmpT k S L k' S' L' ≤ 1 := by
  have h1 := ci_range k k'
  have h2 := cb_range S S'
  have h3 := cb_range L L'
  unfold cmpT orI
  repeat' split
  all_goals omega
theorem cmp_eq (k : Int) (S L : List UInt8) (k' : Int) (S' L' : List UInt8) : (cmpT k S L k' S' L' == 0) = eqTB k S L k' S' L' := by
  rw [Bool.eq_iff_iff, eqTB_iff, beq_iff_eq, cmpT_zero]
theorem cmp_neg_beq (k : Int) (S L : List UInt8) (k' : Int) (S' L' : List UInt8) : (cmpT k S L k' S' L' == - cmpT k' S' L' k S L) = true := by
  rw [beq_iff_eq]; exact cmpT_neg k S L k' S' L'
theorem cmp_tri (k1 : Int) (S1 L1 : List UInt8) (k2 : Int) (S2 L2 : List UInt8) (k3 : Int) (S3 L3 : List UInt8) :
    (0 < cmpT k1 S1 L1 k2 S2 L2) ∨ (¬ 0 < cmpT k1 S1 L1 k2 S2 L2 ∧ 0 < cmpT k2 S2 L2 k3 S3 L3) ∨ (¬ 0 < cmpT k1 S1 L1 k2 S2 L2 ∧ ¬ 0 < cmpT k2 S2 L2 k3 S3 L3 ∧ cmpT k1 S1 L1 k3 S3 L3 ≤ 0) := by
  have := cmpT_trans k1 S1 L1 k2 S2 L2 k3 S3 L3
  omega

end Go.Proofs.YtbacenhgedopjaaGreatDoor

/- '==' on two triples. -/
namespace Go.Proofs.YtbacenhgedopjaaGreatDoor
open Go Go.RowKit Go.Proofs

theorem tr_eq (x y : Tr) : decide (x = y) = (eqTB x.1.1 x.1.2.1 x.1.2.2 y.1.1 y.1.2.1 y.1.2.2 && (eqTB x.2.1.1 x.2.1.2.1 x.2.1.2.2 y.2.1.1 y.2.1.2.1 y.2.1.2.2 && eqTB x.2.2.1 x.2.2.2.1 x.2.2.2.2 y.2.2.1 y.2.2.2.1 y.2.2.2.2)) := by
  obtain ⟨⟨k1, s1, l1⟩, ⟨k2, s2, l2⟩, ⟨k3, s3, l3⟩⟩ := x
  obtain ⟨⟨k1', s1', l1'⟩, ⟨k2', s2', l2'⟩, ⟨k3', s3', l3'⟩⟩ := y
  rw [Bool.eq_iff_iff]
  simp only [decide_eq_true_eq, Bool.and_eq_true, eqTB_iff, Prod.mk.injEq]

set_option maxRecDepth 100000 in
set_option maxHeartbeats 1000000 in
theorem equalTriple (x y : Tr) (w : World) :
    (Op.equalIn 10000 58 (.agg #[.int .i64 x.1.1, .string ⟨x.1.2.1.toArray⟩, .string ⟨x.1.2.2.toArray⟩, .int .i64 x.2.1.1, .string ⟨x.2.1.2.1.toArray⟩, .string ⟨x.2.1.2.2.toArray⟩, .int .i64 x.2.2.1, .string ⟨x.2.2.2.1.toArray⟩, .string ⟨x.2.2.2.2.toArray⟩])
      (.agg #[.int .i64 y.1.1, .string ⟨y.1.2.1.toArray⟩, .string ⟨y.1.2.2.toArray⟩, .int .i64 y.2.1.1, .string ⟨y.2.1.2.1.toArray⟩, .string ⟨y.2.1.2.2.toArray⟩, .int .i64 y.2.2.1, .string ⟨y.2.2.2.1.toArray⟩, .string ⟨y.2.2.2.2.toArray⟩])).run Tryz.prog w = .ok (decide (x = y)) w := by
  have hS : Tryz.prog.underlying 58 = some (.struct (Tryz.prog.fieldsOf 58)) := by kernel_rfl
  rw [show (10000 : Nat) = 9999 + 1 from rfl, run_equalIn_agg w 9999 58 _ _ hS (by kernel_rfl), tr_eq]
  simp only [Program.fieldsOf, Tryz.underlying58]
  unfold eqTB
  go_simp
  by_cases h0 : x.1.1 = y.1.1
  rotate_left
  · simp [h0]
  by_cases h1 : x.1.2.1 = y.1.2.1
  rotate_left
  · simp [h0, h1]
  by_cases h2 : x.1.2.2 = y.1.2.2
  rotate_left
  · simp [h0, h1, h2]
  by_cases h3 : x.2.1.1 = y.2.1.1
  rotate_left
  · simp [h0, h1, h2, h3]
  by_cases h4 : x.2.1.2.1 = y.2.1.2.1
  rotate_left
  · simp [h0, h1, h2, h3, h4]
  by_cases h5 : x.2.1.2.2 = y.2.1.2.2
  rotate_left
  · simp [h0, h1, h2, h3, h4, h5]
  by_cases h6 : x.2.2.1 = y.2.2.1
  rotate_left
  · simp [h0, h1, h2, h3, h4, h5, h6]
  by_cases h7 : x.2.2.2.1 = y.2.2.2.1
  rotate_left
  · simp [h0, h1, h2, h3, h4, h5, h6, h7]
  by_cases h8 : x.2.2.2.2 = y.2.2.2.2
  rotate_left
  · simp [h0, h1, h2, h3, h4, h5, h6, h7, h8]
  simp [h0, h1, h2, h3, h4, h5, h6, h7, h8]

theorem eqlTriple (x y : Tr) (w : World) : (binOp .eql 58 (.agg #[.int .i64 x.1.1, .string ⟨x.1.2.1.toArray⟩, .string ⟨x.1.2.2.toArray⟩, .int .i64 x.2.1.1, .string ⟨x.2.1.2.1.toArray⟩, .string ⟨x.2.1.2.2.toArray⟩, .int .i64 x.2.2.1, .string ⟨x.2.2.2.1.toArray⟩, .string ⟨x.2.2.2.2.toArray⟩]) (.agg #[.int .i64 y.1.1, .string ⟨y.1.2.1.toArray⟩, .string ⟨y.1.2.2.toArray⟩, .int .i64 y.2.1.1, .string ⟨y.2.1.2.1.toArray⟩, .string ⟨y.2.1.2.2.toArray⟩, .int .i64 y.2.2.1, .string ⟨y.2.2.2.1.toArray⟩, .string ⟨y.2.2.2.2.toArray⟩])).run Tryz.prog w = .ok (.bool (decide (x = y))) w := by
  rw [run_eql_struct, equalTriple]; rfl
theorem neqTriple (x y : Tr) (w : World) : (binOp .neq 58 (.agg #[.int .i64 x.1.1, .string ⟨x.1.2.1.toArray⟩, .string ⟨x.1.2.2.toArray⟩, .int .i64 x.2.1.1, .string ⟨x.2.1.2.1.toArray⟩, .string ⟨x.2.1.2.2.toArray⟩, .int .i64 x.2.2.1, .string ⟨x.2.2.2.1.toArray⟩, .string ⟨x.2.2.2.2.toArray⟩]) (.agg #[.int .i64 y.1.1, .string ⟨y.1.2.1.toArray⟩, .string ⟨y.1.2.2.toArray⟩, .int .i64 y.2.1.1, .string ⟨y.2.1.2.1.toArray⟩, .string ⟨y.2.1.2.2.toArray⟩, .int .i64 y.2.2.1, .string ⟨y.2.2.2.1.toArray⟩, .string ⟨y.2.2.2.2.toArray⟩])).run Tryz.prog w = .ok (.bool (!decide (x = y))) w := by
  rw [run_neq_struct, equalTriple]; rfl
end Go.Proofs.YtbacenhgedopjaaGreatDoor

/- slices.Compact at triples: the library's own text, walked. -/
namespace Go.Proofs.YtbacenhgedopjaaGreatDoor
open Go Go.RowKit Go.Proofs Go.Sort Go.Lib
set_option synthInstance.maxSize 1000

/-- one triple stored in the row -/
theorem setMany_one (d : Array Tr) (i : Nat) (x : Tr) (hi : i < d.size) : setMany (flatK encTr 9 d) (i * 9) (encTr x) = flatK encTr 9 (d.setIfInBounds i x) := by
  refine ext_get! (by simp) fun t ht => ?_
  have ht' : t < d.size * 9 := by simpa using ht
  rw [get_setMany _ _ _ t (by simpa using ht'), get_flatK _ _ _ t ht', get_flatK _ _ _ t (by simpa using ht'), encTr_len]
  by_cases a : t / 9 = i
  · rw [if_pos ((blk_iff 9 i t (by omega)).2 a), a, getElem!_set_same d i x hi, show t - i * 9 = t % 9 by omega]
  · rw [if_neg (fun h => a ((blk_iff 9 i t (by omega)).1 h)), getElem!_set_other d i (t / 9) x a]
theorem putRowK_one (w : World) (b o : Nat) (d : Array Tr) (i : Nat) (x : Tr) (hi : i < d.size) : (putRowK encTr 9 w b o d).setCells b (o + i * 9) (encTr x) = putRowK encTr 9 w b o (d.setIfInBounds i x) := by
  unfold putRowK
  rw [setCells_putRow w b o (encTr x) (i * 9) _ (by rw [encTr_len, size_flatK]; omega), setMany_one d i x hi]

theorem setCells_append (w : World) (b : Nat) (xs ys : List Value) (o : Nat) : w.setCells b o (xs ++ ys) = (w.setCells b o xs).setCells b (o + xs.length) ys := by
  induction xs generalizing w o with
  | nil => rfl
  | cons v r ih => simp only [List.cons_append, World.setCells, ih, List.length_cons]; rw [show o + 1 + r.length = o + (r.length + 1) by omega]

/-- triples stored one behind the other -/
theorem putRowK_many (w : World) (b o : Nat) : ∀ (xs : List Tr) (d : Array Tr) (k : Nat), k + xs.length ≤ d.size → (putRowK encTr 9 w b o d).setCells b (o + k * 9) (cellsT xs) = putRowK encTr 9 w b o (lay d k xs)
  | [], _, _, _ => rfl
  | x :: r, d, k, h => by
    have hl : k + (r.length + 1) ≤ d.size := by simpa using h
    rw [show cellsT (x :: r) = encTr x ++ cellsT r by simp [cellsT], setCells_append, putRowK_one w b o d k x (by omega), encTr_len, lay, show o + k * 9 + 9 = o + (k + 1) * 9 by omega]
    exact putRowK_many w b o r _ (k + 1) (by simp; omega)

def zeroTr : Tr := ⟨⟨0, [], []⟩, ⟨0, [], []⟩, ⟨0, [], []⟩⟩

theorem zeroCellsT (z : Array Value) (hz : z = (encTr zeroTr).toArray) (n : Nat) : (Builtin.zeroCells z n).toList = cellsT (List.replicate n zeroTr) := by
  subst hz
  have hl : (cellsT (List.replicate n zeroTr)).length = n * 9 := by rw [cellsT_len]; simp
  have hs : (encTr zeroTr).toArray.size = 9 := rfl
  apply List.ext_getElem?
  intro j
  by_cases hj : j < n * 9
  · have h1 : (cellsT (List.replicate n zeroTr))[j]? = (encTr zeroTr)[j % 9]? := by
      have := cellsT_at (List.replicate n zeroTr) (j / 9) (by simp; omega) (j % 9) (by omega)
      rw [show j / 9 * 9 + j % 9 = j by omega] at this
      rw [this]; simp
    rw [h1]
    have h9 : j % 9 < 9 := Nat.mod_lt _ (by omega)
    rw [List.getElem?_eq_getElem (show j % 9 < (encTr zeroTr).length from h9)]
    simp [Builtin.zeroCells, hs, hj]
    rw [List.getElem?_eq_getElem (show j % 9 < (encTr zeroTr).length from h9)]
    rfl
  · have a : (Builtin.zeroCells (encTr zeroTr).toArray n).toList.length ≤ j := by simp [Builtin.zeroCells, encTr_len]; omega
    rw [List.getElem?_eq_none a, List.getElem?_eq_none (by rw [hl]; omega)]

theorem run_clearT (w : World) (ty : TypeId) (b o n c : Nat) (hn : 0 < n) (hc : ∀ j, j < n * 9 → (w.cell? ⟨b, o + j, none⟩).isSome = true) (hf : ∀ j, j < n * 9 → w.frozen? ⟨b, o + j, none⟩ = false) :
    (Builtin.clear_ #[22] ty #[.slice (some ⟨b, o, none⟩) n c]).run Tryz.prog w = .ok (.tuple #[]) (w.setCells b o (cellsT (List.replicate n zeroTr))) := by
  have hlen : (cellsT (List.replicate n zeroTr)).length = n * 9 := by rw [cellsT_len]; simp
  have hst := run_storeCells_cells (P := Tryz.prog) b o (cellsT (List.replicate n zeroTr)) 0 w (by rw [hlen]; simpa using hc) (by rw [hlen]; simpa using hf) (cellsT_one _)
  simp only [Nat.add_zero] at hst
  obtain ⟨z, hz, hz'⟩ : ∃ z, (∀ w, (zeroValue 58).run Tryz.prog w = .ok z w) ∧ z.cells = (encTr zeroTr).toArray := ⟨_, Tryz.zeroValue58, rfl⟩
  have hzc := zeroCellsT z.cells hz' n
  obtain ⟨m, rfl⟩ : ∃ m, n = m + 1 := ⟨n - 1, by omega⟩
  simp [Builtin.clear_, run_underlying Tryz.underlying22, hz, hzc, hst]

theorem store9 (W : World) (b p : Nat) (x : Tr) : (((((((((W.setCell ⟨b, p, none⟩ (.int .i64 x.1.1)).setCell ⟨b, p + 1, none⟩ (.string ⟨x.1.2.1.toArray⟩)).setCell ⟨b, p + 2, none⟩ (.string ⟨x.1.2.2.toArray⟩)).setCell ⟨b, p + 3, none⟩ (.int .i64 x.2.1.1)).setCell ⟨b, p + 4, none⟩ (.string ⟨x.2.1.2.1.toArray⟩)).setCell ⟨b, p + 5, none⟩ (.string ⟨x.2.1.2.2.toArray⟩)).setCell ⟨b, p + 6, none⟩ (.int .i64 x.2.2.1)).setCell ⟨b, p + 7, none⟩ (.string ⟨x.2.2.2.1.toArray⟩)).setCell ⟨b, p + 8, none⟩ (.string ⟨x.2.2.2.2.toArray⟩)) = W.setCells b p (encTr x) := rfl
theorem store_world {w wr : World} {q b o kk : Nat} {dk : Array Tr} (u : Tr) (h : wr = putRowK encTr 9 (Sort.ahead w q) b o dk) (hi : kk < dk.size) :
    (wr.setCells b (o + kk * 9) (encTr u)).drew = putRowK encTr 9 (Sort.ahead w (q + 1)) b o (dk.setIfInBounds kk u) := by
  subst h
  rw [putRowK_one _ b o dk kk u hi]
  exact putRowK_drewN encTr 9 w q 1 b o _

/-- the nine cells of a place of the row -/
theorem cells9 {w : World} {b o : Nat} {d : Array Tr} (h : HoldsK encTr 9 w b o d) (i : Nat) (hi : i < d.size) (x : Tr) (hx : d[i]! = x) (p : Nat) (hp : p = o + i * 9) :
    (w.cell? ⟨b, p, none⟩ = some (.int .i64 x.1.1) ∧ w.cell? ⟨b, p + 1, none⟩ = some (.string ⟨x.1.2.1.toArray⟩) ∧ w.cell? ⟨b, p + 2, none⟩ = some (.string ⟨x.1.2.2.toArray⟩)
    ∧ w.cell? ⟨b, p + 3, none⟩ = some (.int .i64 x.2.1.1) ∧ w.cell? ⟨b, p + 4, none⟩ = some (.string ⟨x.2.1.2.1.toArray⟩) ∧ w.cell? ⟨b, p + 5, none⟩ = some (.string ⟨x.2.1.2.2.toArray⟩)
    ∧ w.cell? ⟨b, p + 6, none⟩ = some (.int .i64 x.2.2.1) ∧ w.cell? ⟨b, p + 7, none⟩ = some (.string ⟨x.2.2.2.1.toArray⟩) ∧ w.cell? ⟨b, p + 8, none⟩ = some (.string ⟨x.2.2.2.2.toArray⟩))
    ∧ (w.frozen? ⟨b, p, none⟩ = false ∧ w.frozen? ⟨b, p + 1, none⟩ = false ∧ w.frozen? ⟨b, p + 2, none⟩ = false ∧ w.frozen? ⟨b, p + 3, none⟩ = false ∧ w.frozen? ⟨b, p + 4, none⟩ = false ∧ w.frozen? ⟨b, p + 5, none⟩ = false ∧ w.frozen? ⟨b, p + 6, none⟩ = false ∧ w.frozen? ⟨b, p + 7, none⟩ = false ∧ w.frozen? ⟨b, p + 8, none⟩ = false) := by
  subst hp
  have q := fun c (hc : c < 9) => h.cell hi hc
  rw [hx] at q
  exact ⟨⟨(q 0 (by omega)).1, (q 1 (by omega)).1, (q 2 (by omega)).1, (q 3 (by omega)).1, (q 4 (by omega)).1, (q 5 (by omega)).1, (q 6 (by omega)).1, (q 7 (by omega)).1, (q 8 (by omega)).1⟩,
    ⟨(q 0 (by omega)).2, (q 1 (by omega)).2, (q 2 (by omega)).2, (q 3 (by omega)).2, (q 4 (by omega)).2, (q 5 (by omega)).2, (q 6 (by omega)).2, (q 7 (by omega)).2, (q 8 (by omega)).2⟩⟩

/-- what Compact leaves in the row: what is kept, then zero triples -/
def compRow (d : Array Tr) : Array Tr := (compactUpTo d d.size ++ List.replicate (d.size - (compactUpTo d d.size).length) zeroTr).toArray
theorem compRow_all (d : Array Tr) (h : ∀ j, j < d.size → keeps d j = true) : (compactUpTo d d.size).length = d.size ∧ compRow d = d := by
  have e : compactUpTo d d.size = d.toList := by rw [compactUpTo_all d _ h, range_map_get]
  unfold compRow
  rw [e]
  exact ⟨by simp, by simp⟩

attribute [local go_sem ↓] eqlTriple neqTriple

end Go.Proofs.YtbacenhgedopjaaGreatDoor

/- Which of two triples is ahead: an order; sets of triples. -/
namespace Go.Proofs.YtbacenhgedopjaaGreatDoor
open Go Go.RowKit Go.Proofs Go.Sort Go.Lib
set_option synthInstance.maxSize 1000

theorem orI_zero (a b c : Int) : orI a b c = 0 ↔ a = 0 ∧ b = 0 ∧ c = 0 := by
  unfold orI
  by_cases h1 : a = 0 <;> by_cases h2 : b = 0 <;> simp [h1, h2]
theorem cmpTm_zero (x y : Tm) : cmpTm x y = 0 ↔ x = y := by
  obtain ⟨k, s, l⟩ := x
  obtain ⟨k', s', l'⟩ := y
  simp [cmpTm, cmpT_zero]
theorem cmpTm_neg (x y : Tm) : cmpTm x y = - cmpTm y x := cmpT_neg _ _ _ _ _ _
theorem cmpTm_trans (x y z : Tm) (h1 : cmpTm x y ≤ 0) (h2 : cmpTm y z ≤ 0) : cmpTm x z ≤ 0 := cmpT_trans _ _ _ _ _ _ _ _ _ h1 h2
theorem cmpTr_zero (x y : Tr) : cmpTr x y = 0 ↔ x = y := by
  obtain ⟨a, b, c⟩ := x
  obtain ⟨a', b', c'⟩ := y
  simp [cmpTr, orI_zero, cmpTm_zero]
theorem cmpTr_neg (x y : Tr) : cmpTr x y = - cmpTr y x := by
  have h1 := cmpTm_neg x.1 y.1
  have h2 := cmpTm_neg x.2.1 y.2.1
  have h3 := cmpTm_neg x.2.2 y.2.2
  unfold cmpTr orI
  repeat' split
  all_goals omega
theorem lex_trans {a1 b1 c1 a2 b2 c2 a3 b3 c3 : Tm} (h1 : orI (cmpTm a1 a2) (cmpTm b1 b2) (cmpTm c1 c2) ≤ 0) (h2 : orI (cmpTm a2 a3) (cmpTm b2 b3) (cmpTm c2 c3) ≤ 0) : orI (cmpTm a1 a3) (cmpTm b1 b3) (cmpTm c1 c3) ≤ 0 := by
  have step : ∀ x y z : Tm, cmpTm x y ≤ 0 → cmpTm y z ≤ 0 → cmpTm x z = 0 → cmpTm x y = 0 ∧ cmpTm y z = 0 := fun x y z p q r => by
    have e := (cmpTm_zero x z).1 r
    subst e
    have := cmpTm_neg x y
    omega
  have ta := cmpTm_trans a1 a2 a3
  have tb := cmpTm_trans b1 b2 b3
  have tc := cmpTm_trans c1 c2 c3
  have sa := step a1 a2 a3
  have sb := step b1 b2 b3
  unfold orI at *
  repeat' split at *
  all_goals omega
theorem cmpTr_trans (x y z : Tr) (h1 : cmpTr x y ≤ 0) (h2 : cmpTr y z ≤ 0) : cmpTr x z ≤ 0 := lex_trans h1 h2

theorem swoTr : SWO (ltOf cmpTr) where
  irrefl x := by simp [ltOf, (cmpTr_zero x x).2 rfl]
  trans x y z h1 h2 := by
    simp only [ltOf, decide_eq_true_eq] at *
    have h := cmpTr_trans x y z (by omega) (by omega)
    by_cases e : cmpTr x z = 0
    · have := (cmpTr_zero x z).1 e
      subst this
      have := cmpTr_neg x y
      omega
    · omega
  ntrans x y z h1 h2 := by
    simp only [ltOf, decide_eq_false_iff_not] at *
    have a := cmpTr_neg x y
    have b := cmpTr_neg y z
    have c := cmpTr_neg x z
    have := cmpTr_trans z y x (by omega) (by omega)
    omega

/-- a set: each above the one ahead -/
def Rising (m : List Tr) : Prop := m.Pairwise fun x y => cmpTr x y < 0

theorem rising_unique : ∀ (m n : List Tr), Rising m → Rising n → (∀ x, x ∈ m ↔ x ∈ n) → m = n
  | [], [], _, _, _ => rfl
  | [], y :: n, _, _, h => by have := (h y).2 (by simp); simp at this
  | x :: m, [], _, _, h => by have := (h x).1 (by simp); simp at this
  | x :: m, y :: n, hm, hn, h => by
    have hm' := List.pairwise_cons.1 hm
    have hn' := List.pairwise_cons.1 hn
    have irr : ∀ z : Tr, ¬ cmpTr z z < 0 := fun z => by rw [(cmpTr_zero z z).2 rfl]; omega
    have exy : x = y := by
      rcases List.mem_cons.1 ((h x).1 (by simp)) with e | hx
      · exact e
      · rcases List.mem_cons.1 ((h y).2 (by simp)) with e | hy
        · exact e.symm
        · have a := hm'.1 y hy
          have b := hn'.1 x hx
          have := cmpTr_neg x y
          omega
    subst exy
    congr 1
    refine rising_unique m n hm'.2 hn'.2 fun z => ?_
    constructor
    · intro hz
      rcases List.mem_cons.1 ((h z).1 (by simp [hz])) with e | h'
      · subst e; exact absurd (hm'.1 z hz) (irr z)
      · exact h'
    · intro hz
      rcases List.mem_cons.1 ((h z).2 (by simp [hz])) with e | h'
      · subst e; exact absurd (hn'.1 z hz) (irr z)
      · exact h'

/-- what Compact keeps of a sorted row is a set, of the same triples -/
theorem comp_rising (d : Array Tr) (hs : SortedIn (ltOf cmpTr) 0 d.size d) : Rising (compactUpTo d d.size) := by
  unfold Rising compactUpTo
  rw [List.pairwise_map]
  have hr : (List.range d.size).Pairwise fun i j => i < j ∧ j < d.size := by
    rw [List.pairwise_iff_getElem]
    intro i j hi hj hij
    simp at hi hj ⊢
    omega
  refine List.Pairwise.imp_of_mem ?_ (hr.filter (keeps d))
  intro i j hi hj hij
  have hk : keeps d j = true := (List.mem_filter.1 hj).2
  have h1 : d[j]! ≠ d[j - 1]! := by
    simp only [keeps, decide_eq_true_eq] at hk
    rcases hk with h | h
    · omega
    · exact h
  have le : ∀ p q, p < q → q < d.size → cmpTr d[p]! d[q]! ≤ 0 := fun p q h1 h2 => by
    have := hs p q (by omega) h1 h2
    simp only [ltOf, decide_eq_false_iff_not] at this
    have := cmpTr_neg d[p]! d[q]!
    omega
  have a := le i j hij.1 hij.2
  by_cases e : cmpTr d[i]! d[j]! = 0
  · exfalso
    have e' := (cmpTr_zero _ _).1 e
    have b := le (j - 1) j (by omega) hij.2
    have c : cmpTr d[i]! d[j - 1]! ≤ 0 := by
      by_cases q : i = j - 1
      · rw [q, (cmpTr_zero _ _).2 rfl]; omega
      · exact le i (j - 1) (by omega) (by omega)
    rw [e'] at c
    have := cmpTr_neg d[j]! d[j - 1]!
    exact h1 ((cmpTr_zero _ _).1 (by omega))
  · omega
theorem comp_mem (d : Array Tr) (x : Tr) : x ∈ compactUpTo d d.size ↔ x ∈ d.toList := by
  constructor
  · intro h
    simp only [compactUpTo, List.mem_map, List.mem_filter, List.mem_range] at h
    obtain ⟨j, ⟨hj, _⟩, rfl⟩ := h
    rw [getElem!_pos d j hj]
    simp
  · intro h
    obtain ⟨j, hj, rfl⟩ := List.getElem_of_mem h
    have key : ∀ j, j < d.size → d[j]! ∈ compactUpTo d d.size := by
      intro j
      induction j with
      | zero => intro hj; simp only [compactUpTo, List.mem_map, List.mem_filter, List.mem_range]; exact ⟨0, ⟨hj, by simp [keeps]⟩, rfl⟩
      | succ n ih =>
        intro hj
        by_cases e : d[n + 1]! = d[n]!
        · rw [e]; exact ih (by omega)
        · simp only [compactUpTo, List.mem_map, List.mem_filter, List.mem_range]
          exact ⟨n + 1, ⟨hj, by simp [keeps, e]⟩, rfl⟩
    have hj' : j < d.size := by simpa using hj
    have := key j hj'
    rw [getElem!_pos d j hj'] at this
    simpa using this
theorem comp_len (d : Array Tr) : (compactUpTo d d.size).length ≤ d.size := by
  unfold compactUpTo
  rw [List.length_map]
  exact Nat.le_trans (List.length_filter_le _ _) (by simp)
end Go.Proofs.YtbacenhgedopjaaGreatDoor
