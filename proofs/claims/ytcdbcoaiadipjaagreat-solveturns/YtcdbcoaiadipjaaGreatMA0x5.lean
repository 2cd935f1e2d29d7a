import Derived.Test.YtcdbcoaiadipjaaGreatMA0x1
import Derived.Test.YtcdbcoaiadipjaaGreatMA0x4
import Derived.Test.YtcdbcoaiadipjaaGreatMA0x2
import Derived.Lib.AppendZeros

/- Questions in plain words: what is wrong with one, as words and text, and what is read of a text; plain lists, no program. -/
namespace Go.Proofs.YtcdbcoaiadipjaaGreat
open Go Go.RowKit Go.Proofs
set_option synthInstance.maxSize 1000

/-- a question: what is told, the parts, by which variable, down, each once, how many -/
structure Qu where
  vars : List (List UInt8)
  parts : List Pt
  order : List UInt8
  down : Bool
  dist : Bool
  lim : Int

/-! ### what is wrong -/
def addAll : List (List UInt8) → List (List UInt8) → List (List UInt8)
  | o, [] => o
  | o, v :: r => addAll (if v ∈ o then o else o ++ [v]) r
def partsV : List (List UInt8) → List Pt → List (List UInt8)
  | o, [] => o
  | o, p :: r => partsV (addAll o (varsL p)) r
def partsN : List Pt → Int
  | [] => 0
  | p :: r => if varsN p = 0 then partsN r else varsN p
def askN (q : Qu) : Int :=
  if 6 < q.parts.length then 4 else if q.parts = [] then 5 else if partsN q.parts ≠ 0 then partsN q.parts else if 8 < (partsV [] q.parts).length then 4
  else if q.vars = [] then 5 else if (∃ v ∈ q.vars, v ∉ partsV [] q.parts) then 5 else if ¬ q.vars.Nodup then 7 else if q.order ≠ [] ∧ q.order ∉ q.vars then 5
  else if q.down = true ∧ q.order = [] then 3 else if q.lim < -1 ∨ 500 < q.lim then 1 else 0

theorem mem_addV {l : List (List UInt8)} {s : Sl} {v : List UInt8} (h : v ∈ addV l s) : v ∈ l ∨ (v = s.1 ∧ s.1 ≠ []) := by
  unfold addV at h
  split at h
  · exact .inl h
  · split at h
    · exact .inl h
    · rename_i h1 _
      rcases List.mem_append.1 h with h | h
      · exact .inl h
      · exact .inr ⟨by simpa using h, h1⟩
theorem slot_spell {s : Sl} (h : slotN s = 0) (hs : s.1 ≠ []) : spellV s.1 = true ∧ s.2 = tmZero := by
  unfold slotN at h
  rw [if_neg hs] at h
  split at h
  · omega
  · rename_i h1
    split at h
    · rename_i h2; exact ⟨by simpa using h1, h2⟩
    · omega
theorem slot_term {s : Sl} (h : slotN s = 0) (hs : s.1 = []) : tmChk s.2 = 0 := by
  unfold slotN at h
  rw [if_pos hs] at h
  exact h
theorem vars_zero {p : Pt} (h : varsN p = 0) : slotN p.1 = 0 ∧ slotN p.2.1 = 0 ∧ slotN p.2.2 = 0 := by
  unfold varsN at h
  split at h
  · rename_i h1
    split at h
    · rename_i h2; exact ⟨h1, h2, h⟩
    · rename_i h2; exact absurd h h2
  · rename_i h1; exact absurd h h1
theorem mem_varsL {p : Pt} (hp : varsN p = 0) {v : List UInt8} (h : v ∈ varsL p) : v ≠ [] ∧ spellV v = true := by
  obtain ⟨h1, h2, h3⟩ := vars_zero hp
  unfold varsL at h
  rcases mem_addV h with h | ⟨rfl, g⟩
  · rcases mem_addV h with h | ⟨rfl, g⟩
    · rcases mem_addV h with h | ⟨rfl, g⟩
      · cases h
      · exact ⟨g, (slot_spell h1 g).1⟩
    · exact ⟨g, (slot_spell h2 g).1⟩
  · exact ⟨g, (slot_spell h3 g).1⟩
theorem mem_addAll : ∀ {l o : List (List UInt8)} {v : List UInt8}, v ∈ addAll o l → v ∈ o ∨ v ∈ l
  | [], o, v, h => .inl h
  | x :: r, o, v, h => by
    rcases mem_addAll (l := r) h with h | h
    · split at h
      · exact .inl h
      · rcases List.mem_append.1 h with h | h
        · exact .inl h
        · exact .inr (by simp at h; simp [h])
    · exact .inr (by simp [h])
theorem mem_partsV : ∀ {l : List Pt} {o : List (List UInt8)} {v : List UInt8}, partsN l = 0 → v ∈ partsV o l → v ∈ o ∨ (v ≠ [] ∧ spellV v = true)
  | [], o, v, _, h => .inl h
  | p :: r, o, v, hN, h => by
    unfold partsN at hN
    split at hN
    · rename_i hp
      rcases mem_partsV (l := r) hN h with h | h
      · rcases mem_addAll h with h | h
        · exact .inl h
        · exact .inr (mem_varsL hp h)
      · exact .inr h
    · rename_i hp; exact absurd hN hp
theorem parts_zero : ∀ {l : List Pt}, partsN l = 0 → ∀ p ∈ l, varsN p = 0
  | [], _, p, h => by cases h
  | x :: r, hN, p, h => by
    unfold partsN at hN
    split at hN
    · rename_i hp
      rcases List.mem_cons.1 h with rfl | h
      · exact hp
      · exact parts_zero hN p h
    · rename_i hp; exact absurd hN hp
/-- a question that is right -/
structure GoodQ (q : Qu) : Prop where
  six : q.parts.length ≤ 6
  some : q.parts ≠ []
  parts : ∀ p ∈ q.parts, varsN p = 0
  eight : (partsV [] q.parts).length ≤ 8
  told : q.vars ≠ []
  within : ∀ v ∈ q.vars, v ∈ partsV [] q.parts
  vars : ∀ v ∈ q.vars, v ≠ [] ∧ spellV v = true
  once : q.vars.Nodup
  order : q.order = [] ∨ q.order ∈ q.vars
  down : q.down = true → q.order ≠ []
  lim : -1 ≤ q.lim ∧ q.lim ≤ 500
theorem ask_good {q : Qu} (h : askN q = 0) : GoodQ q := by
  unfold askN at h
  split at h
  · omega
  rename_i h1
  split at h
  · omega
  rename_i h2
  split at h
  · rename_i h3; exact absurd h h3
  rename_i h3
  split at h
  · omega
  rename_i h4
  split at h
  · omega
  rename_i h5
  split at h
  · omega
  rename_i h6
  split at h
  · omega
  rename_i h7
  split at h
  · omega
  rename_i h8
  split at h
  · omega
  rename_i h9
  split at h
  · omega
  rename_i h10
  have hw : ∀ v ∈ q.vars, v ∈ partsV [] q.parts := fun v hv => Classical.byContradiction fun hn => h6 ⟨v, hv, hn⟩
  have hN : partsN q.parts = 0 := Classical.byContradiction h3
  refine ⟨by omega, h2, parts_zero hN, by omega, h5, hw, fun v hv => ?_, Classical.byContradiction h7, ?_, fun hd ho => h9 ⟨hd, ho⟩, by omega⟩
  · rcases mem_partsV hN (hw v hv) with h | h
    · cases h
    · exact h
  · by_cases ho : q.order = []
    · exact .inl ho
    · exact .inr (Classical.byContradiction fun hn => h8 ⟨ho, hn⟩)

/-! ### as words -/
def wSel : List UInt8 := [115, 101, 108, 101, 99, 116]
def wDist : List UInt8 := [100, 105, 115, 116, 105, 110, 99, 116]
def wWhere : List UInt8 := [119, 104, 101, 114, 101]
def wAnd : List UInt8 := [97, 110, 100]
def wOrder : List UInt8 := [111, 114, 100, 101, 114]
def wDown : List UInt8 := [100, 111, 119, 110]
def wLimit : List UInt8 := [108, 105, 109, 105, 116]
def varT (v : List UInt8) : List UInt8 := 63 :: v
def slotT (s : Sl) : List UInt8 := if s.1 = [] then showL s.2.1 s.2.2.1 s.2.2.2 else varT s.1
def partT (p : Pt) : List (List UInt8) := [slotT p.1, slotT p.2.1, slotT p.2.2]
def partsT : List Pt → List (List UInt8)
  | [] => []
  | p :: r => partT p ++ (if r = [] then [] else wAnd :: partsT r)
def digF : Nat → Nat → List UInt8
  | 0, n => [UInt8.ofNat (48 + n)]
  | f + 1, n => if n < 10 then [UInt8.ofNat (48 + n)] else digF f (n / 10) ++ [UInt8.ofNat (48 + n % 10)]
def digitsN (n : Nat) : List UInt8 := digF n n
def limT (q : Qu) : List (List UInt8) := if 0 ≤ q.lim then [wLimit, digitsN q.lim.toNat] else []
def ordT (q : Qu) : List (List UInt8) := if q.order = [] then [] else wOrder :: varT q.order :: (if q.down = true then [wDown] else [])
def wordsQ (q : Qu) : List (List UInt8) := wSel :: ((if q.dist = true then [wDist] else []) ++ (q.vars.map varT ++ wWhere :: (partsT q.parts ++ (ordT q ++ limT q))))

/-! ### reading words: what is left, and whether it went wrong -/
abbrev InS := List (List UInt8) × Bool
def isW (s : InS) (w : List UInt8) : Bool := !s.2 && decide (s.1.head? = some w)
def hasW (s : InS) (w : List UInt8) : InS := if isW s w = true then (s.1.tail, s.2) else s
def needW (s : InS) (w : List UInt8) : InS := if isW s w = true then (s.1.tail, s.2) else (s.1, true)
def varW (w : List UInt8) : Bool := match w with
  | [] => false
  | c :: v => decide (c = 63) && (!v.isEmpty && spellV v)
def nameS (s : InS) : List UInt8 × InS := if s.2 = true then ([], s) else match s.1 with
  | [] => ([], s.1, true)
  | w :: r => if varW w = true then (w.tail, r, false) else ([], s.1, true)
def slotS (s : InS) : Sl × InS := if s.2 = true then (([], tmZero), s) else match s.1 with
  | [] => (([], tmZero), s.1, true)
  | w :: r => if varW w = true then ((w.tail, tmZero), r, false) else if parseN w = 0 then (([], parseT w), r, false) else (([], tmZero), s.1, true)
def varsS : Nat → InS → List (List UInt8) → List (List UInt8) × InS
  | 0, s, o => (o, s)
  | f + 1, s, o => if s.2 = true then (o, s) else if isW s wWhere = true then (o, s.1.tail, s.2) else varsS f (nameS s).2 (o ++ [(nameS s).1])
def patS (s : InS) : Pt × InS := (((slotS s).1, (slotS (slotS s).2).1, (slotS (slotS (slotS s).2).2).1), (slotS (slotS (slotS s).2).2).2)
def partsS : Nat → InS → List Pt → List Pt × InS
  | 0, s, o => (o, s)
  | f + 1, s, o => if isW (patS s).2 wAnd = true then partsS f ((patS s).2.1.tail, (patS s).2.2) (o ++ [(patS s).1]) else (o ++ [(patS s).1], (patS s).2)
/-- a number that is read: each digit, the first no needless 0; great ones stand still -/
def numF : Int → List UInt8 → Option Int
  | n, [] => some n
  | n, c :: r => if digB (c.toNat : Int) = true then numF (if n < 100000000000000000 then n * 10 + (c.toNat : Int) - 48 else n) r else none
def numW (w : List UInt8) : Option Int := match w with
  | [] => none
  | c :: r => if c = 48 ∧ r ≠ [] then none else numF 0 (c :: r)
def ordS (s : InS) : List UInt8 × Bool × InS := if isW s wOrder = true then ((nameS (s.1.tail, s.2)).1, isW (nameS (s.1.tail, s.2)).2 wDown, hasW (nameS (s.1.tail, s.2)).2 wDown) else ([], false, s)
def limS (s : InS) : Int × InS := if isW s wLimit = true then (match s.1.tail with
  | [] => (-1, [], true)
  | w :: r => match numW w with
    | none => (0, w :: r, true)
    | some n => (n, r, false)) else (-1, s)
def endSA (s : InS) : InS := if s.2 = false ∧ s.1 ≠ [] then (s.1, true) else s
/-- the whole: the question that is read, and what is left -/
def readQ (L : List (List UInt8)) : Qu × InS :=
  let s1 := needW (L, false) wSel
  let d := isW s1 wDist
  let s2 := hasW s1 wDist
  let v := varsS (L.length + 1) (nameS s2).2 [(nameS s2).1]
  let p := if v.2.2 = true then ([], v.2) else partsS (L.length + 1) v.2 []
  let o := ordS p.2
  let l := limS o.2.2
  (⟨v.1, p.1, o.1, o.2.1, d, l.1⟩, endSA l.2)

/-! ### what is written is read -/
theorem isW_eq (w : List UInt8) (r : List (List UInt8)) : isW (w :: r, false) w = true := by simp [isW]
theorem isW_ne {v w : List UInt8} (r : List (List UInt8)) (h : v ≠ w) : isW (v :: r, false) w = false := by simp [isW, h]
theorem isW_nil (w : List UInt8) : isW ([], false) w = false := by simp [isW]
theorem isW_bad (r : List (List UInt8)) (w : List UInt8) : isW (r, true) w = false := by simp [isW]
theorem isW_true {s : InS} {w : List UInt8} (h : isW s w = true) : s = (w :: s.1.tail, false) := by
  obtain ⟨l, b⟩ := s
  cases b with
  | true => simp [isW] at h
  | false =>
    cases l with
    | nil => simp [isW] at h
    | cons x r =>
      obtain rfl : x = w := by simpa [isW] using h
      rfl
theorem varW_mk {v : List UInt8} (h : v ≠ [] ∧ spellV v = true) : varW (varT v) = true := by
  simp [varW, varT, h.1, h.2]
theorem varW_true {w : List UInt8} (h : varW w = true) : w = varT w.tail ∧ w.tail ≠ [] ∧ spellV w.tail = true := by
  cases w with
  | nil => simp [varW] at h
  | cons c v =>
    simp [varW] at h
    obtain ⟨rfl, h1, h2⟩ := h
    exact ⟨rfl, h1, h2⟩
theorem name_mk {v : List UInt8} (r : List (List UInt8)) (h : v ≠ [] ∧ spellV v = true) : nameS (varT v :: r, false) = (v, r, false) := by
  simp [nameS, varW_mk h]
  rfl
theorem show_first {k : Int} {S L : List UInt8} (h : checkN k S L = 0) : varW (showL k S L) = false := by
  cases hv : varW (showL k S L) with
  | false => rfl
  | true =>
    exfalso
    obtain ⟨h1, _, _⟩ := varW_true hv
    unfold checkN at h
    split at h
    · omega
    split at h
    · omega
    split at h
    · omega
    rename_i h3
    have h3' : spellB k S L = true := by simpa using h3
    unfold spellB at h3'
    by_cases k1 : k = 1
    · subst k1
      rw [if_pos rfl] at h3'
      have h5 : nameOk S = true := by simp only [Bool.and_eq_true] at h3'; exact h3'.2
      have e : showL 1 S L = S := rfl
      rw [e] at h1
      unfold nameOk at h5
      rw [h1] at h5
      simp [varT, allB, nameB, letB, digB] at h5
    · rw [if_neg k1] at h3'
      by_cases k2 : k = 2
      · subst k2
        have e : showL 2 S L = 95 :: S := rfl
        rw [e] at h1
        simp [varT] at h1
      · rw [if_neg k2] at h3'
        by_cases k3 : k = 3
        · subst k3
          have e : showL 3 S L = 34 :: ((escL S ++ [34]) ++ markL L) := rfl
          rw [e] at h1
          simp [varT] at h1
        · rw [if_neg k3] at h3'
          cases h3'
theorem slot_mk {s : Sl} (r : List (List UInt8)) (h : slotN s = 0) : slotS (slotT s :: r, false) = (s, r, false) := by
  obtain ⟨v, k, S, L⟩ := s
  by_cases hv : v = []
  · subst hv
    have hc : checkN k S L = 0 := slot_term h rfl
    obtain ⟨h1, h2⟩ := parse_show k S L hc
    simp [slotS, slotT, show_first hc, h1, h2]
  · obtain ⟨h1, h2⟩ := slot_spell h hv
    have e : slotT (v, k, S, L) = varT v := by simp [slotT, hv]
    have h2' : (k, S, L) = tmZero := h2
    rw [e]
    simp [slotS, varW_mk ⟨hv, h1⟩, h2']
    rfl
theorem pat_mk {p : Pt} (r : List (List UInt8)) (h : varsN p = 0) : patS (partT p ++ r, false) = (p, r, false) := by
  obtain ⟨h1, h2, h3⟩ := vars_zero h
  have e : partT p ++ r = slotT p.1 :: slotT p.2.1 :: slotT p.2.2 :: r := rfl
  unfold patS
  rw [e, slot_mk _ h1]
  dsimp only
  rw [slot_mk _ h2]
  dsimp only
  rw [slot_mk _ h3]
theorem vars_mk (r : List (List UInt8)) : ∀ (l o : List (List UInt8)) (f : Nat), l.length < f → (∀ v ∈ l, v ≠ [] ∧ spellV v = true) → varsS f (l.map varT ++ wWhere :: r, false) o = (o ++ l, r, false)
  | [], o, 0, hf, _ => by simp at hf
  | [], o, f + 1, _, _ => by
    simp [varsS, isW_eq]
  | v :: l, o, 0, hf, _ => by simp at hf
  | v :: l, o, f + 1, hf, h => by
    have hne : varT v ≠ wWhere := by simp [varT, wWhere]
    have ih := vars_mk r l (o ++ [v]) f (by simpa using hf) (fun x hx => h x (by simp [hx]))
    rw [varsS, if_neg (by simp), List.map_cons, List.cons_append, isW_ne _ hne, if_neg (by simp), name_mk _ (h v (by simp))]
    dsimp only
    rw [ih]
    simp
theorem parts_mk (r : List (List UInt8)) (hr : r.head? ≠ some wAnd) : ∀ (l o : List Pt) (f : Nat), l ≠ [] → l.length ≤ f → (∀ p ∈ l, varsN p = 0) → partsS f (partsT l ++ r, false) o = (o ++ l, r, false)
  | [], o, f, hn, _, _ => absurd rfl hn
  | p :: l, o, 0, _, hf, _ => by simp at hf
  | p :: l, o, f + 1, _, hf, h => by
    have hp := h p (by simp)
    by_cases hl : l = []
    · subst hl
      have e : partsT [p] ++ r = partT p ++ r := by simp [partsT]
      rw [partsS, e, pat_mk r hp]
      dsimp only
      rw [show isW (r, false) wAnd = false by simp [isW, hr], if_neg (by simp)]
    · have e : partsT (p :: l) ++ r = partT p ++ (wAnd :: (partsT l ++ r)) := by simp [partsT, hl]
      have ih := parts_mk r hr l (o ++ [p]) f hl (by simpa using hf) (fun x hx => h x (by simp [hx]))
      rw [partsS, e, pat_mk _ hp]
      dsimp only
      rw [isW_eq, if_pos rfl]
      dsimp only [List.tail_cons]
      rw [ih]
      simp
theorem ord_mk {q : Qu} (g : GoodQ q) (r : List (List UInt8)) (h1 : r.head? ≠ some wOrder) (h2 : r.head? ≠ some wDown) : ordS (ordT q ++ r, false) = (q.order, q.down, r, false) := by
  unfold ordS ordT
  by_cases ho : q.order = []
  · have hd : q.down = false := by
      cases h : q.down with
      | false => rfl
      | true => exact absurd ho (g.down h)
    rw [if_pos ho, List.nil_append, show isW (r, false) wOrder = false by simp [isW, h1], if_neg (by simp), ho, hd]
  · have hv : q.order ≠ [] ∧ spellV q.order = true := by
      rcases g.order with h | h
      · exact absurd h ho
      · exact g.vars _ h
    rw [if_neg ho, List.cons_append, List.cons_append, isW_eq, if_pos rfl]
    dsimp only [List.tail_cons]
    rw [name_mk _ hv]
    dsimp only
    cases hd : q.down with
    | true =>
      rw [if_pos rfl, List.singleton_append, isW_eq]
      unfold hasW
      rw [isW_eq, if_pos rfl]
      rfl
    | false =>
      rw [if_neg (by simp), List.nil_append]
      have e : isW (r, false) wDown = false := by simp [isW, h2]
      unfold hasW
      rw [e, if_neg (by simp)]
theorem byte_dig (d : Nat) (h : d < 10) : ((UInt8.ofNat (48 + d)).toNat : Int) = 48 + d := by
  rw [UInt8.toNat_ofNat']
  omega
theorem numF_app : ∀ (a b : List UInt8) (n m : Int), numF n a = some m → numF n (a ++ b) = numF m b
  | [], b, n, m, h => by
    obtain rfl : n = m := by simpa [numF] using h
    rfl
  | c :: a, b, n, m, h => by
    rw [numF] at h
    split at h
    · rename_i hd
      rw [List.cons_append, numF, if_pos hd]
      exact numF_app a b _ m h
    · cases h
theorem digits_lt {n : Nat} (h : n < 10) : digitsN n = [UInt8.ofNat (48 + n)] := by
  unfold digitsN
  cases n with
  | zero => rfl
  | succ m => rw [digF, if_pos h]
theorem digF_eq : ∀ (f g n : Nat), n ≤ f → n ≤ g → digF f n = digF g n
  | 0, g, n, h, _ => by
    have e : n = 0 := by omega
    subst e
    cases g with
    | zero => rfl
    | succ g => rw [digF, digF, if_pos (by omega)]
  | f + 1, 0, n, _, h => by
    have e : n = 0 := by omega
    subst e
    rw [digF, digF, if_pos (by omega)]
  | f + 1, g + 1, n, h1, h2 => by
    rw [digF, digF]
    by_cases hn : n < 10
    · rw [if_pos hn, if_pos hn]
    · rw [if_neg hn, if_neg hn, digF_eq f g (n / 10) (by omega) (by omega)]
theorem digits_ge {n : Nat} (h : ¬ n < 10) : digitsN n = digitsN (n / 10) ++ [UInt8.ofNat (48 + n % 10)] := by
  unfold digitsN
  cases n with
  | zero => omega
  | succ m => rw [digF, if_neg h, digF_eq m ((m + 1) / 10) ((m + 1) / 10) (by omega) (Nat.le_refl _)]
theorem digits_ne (n : Nat) : digitsN n ≠ [] := by
  by_cases h : n < 10
  · rw [digits_lt h]; simp
  · rw [digits_ge h]; simp
theorem head_app {a : List UInt8} (b : List UInt8) (h : a ≠ []) : (a ++ b).head? = a.head? := by
  cases a with
  | nil => exact absurd rfl h
  | cons x r => rfl
theorem digits_first : ∀ (f n : Nat), n ≤ f → 0 < n → (digitsN n).head? ≠ some 48
  | 0, n, hf, h0 => by omega
  | f + 1, n, hf, h0 => by
    by_cases h : n < 10
    · rw [digits_lt h]
      intro e
      have e' : UInt8.ofNat (48 + n) = 48 := by simpa using e
      have := congrArg UInt8.toNat e'
      rw [UInt8.toNat_ofNat'] at this
      have h48 : (48 : UInt8).toNat = 48 := rfl
      omega
    · rw [digits_ge h, head_app _ (digits_ne _)]
      exact digits_first f (n / 10) (by omega) (by omega)
theorem digits_num : ∀ (f n : Nat), n ≤ f → n ≤ 100000000000000000 → numF 0 (digitsN n) = some (n : Int)
  | f, n, hf, hn => by
    by_cases h : n < 10
    · rw [digits_lt h, numF, byte_dig n h, if_pos (by unfold digB; simp; omega), if_pos (by omega), numF]
      congr 1
      omega
    · have h10 : n % 10 < 10 := Nat.mod_lt _ (by omega)
      match f, hf with
      | 0, hf => omega
      | f + 1, hf =>
        rw [digits_ge h, numF_app _ _ _ _ (digits_num f (n / 10) (by omega) (by omega)), numF, byte_dig _ h10, if_pos (by unfold digB; simp; omega), if_pos (by omega), numF]
        congr 1
        omega
theorem digits_read {n : Nat} (hn : n ≤ 100000000000000000) : numW (digitsN n) = some (n : Int) := by
  have h := digits_num n n (Nat.le_refl _) hn
  by_cases h0 : n = 0
  · subst h0
    rw [digits_lt (by omega)] at h ⊢
    show (if UInt8.ofNat (48 + 0) = 48 ∧ ([] : List UInt8) ≠ [] then none else numF 0 [UInt8.ofNat (48 + 0)]) = _
    rw [if_neg (fun hh => hh.2 rfl)]
    exact h
  · have h1 := digits_first n n (Nat.le_refl _) (by omega)
    cases hd : digitsN n with
    | nil => exact absurd hd (digits_ne n)
    | cons c r =>
      rw [hd] at h h1
      show (if c = 48 ∧ r ≠ [] then none else numF 0 (c :: r)) = _
      rw [if_neg (fun hh => h1 (by simp [hh.1]))]
      exact h
theorem lim_mk {q : Qu} (g : GoodQ q) : limS (limT q, false) = (q.lim, [], false) := by
  have hl := g.lim
  unfold limS limT
  by_cases h : 0 ≤ q.lim
  · rw [if_pos h, isW_eq, if_pos rfl]
    dsimp only [List.tail_cons]
    rw [digits_read (by omega)]
    dsimp only
    rw [Int.toNat_of_nonneg h]
  · rw [if_neg h, isW_nil, if_neg (by simp), show q.lim = -1 by omega]
theorem lim_head (q : Qu) : (limT q).head? = none ∨ (limT q).head? = some wLimit := by
  unfold limT
  split
  · exact .inr rfl
  · exact .inl rfl
theorem ord_head (q : Qu) (r : List (List UInt8)) (w : List UInt8) (h1 : w ≠ wOrder) (h2 : r.head? ≠ some w) : (ordT q ++ r).head? ≠ some w := by
  unfold ordT
  split
  · exact h2
  · simp; exact fun h => h1 h.symm
/-- what is written is read -/
theorem read_words {q : Qu} (h : askN q = 0) : readQ (wordsQ q) = (q, [], false) := by
  have g := ask_good h
  have hl : ∀ w, w ≠ wLimit → (limT q).head? ≠ some w := fun w hw => by
    rcases lim_head q with e | e
    · rw [e]; simp
    · rw [e]; simp; exact fun h => hw h.symm
  obtain ⟨v, vs, hv⟩ : ∃ v vs, q.vars = v :: vs := by
    cases hq : q.vars with
    | nil => exact absurd hq g.told
    | cons v vs => exact ⟨v, vs, rfl⟩
  have gv := g.vars
  rw [hv] at gv
  have hs2 : hasW ((if q.dist = true then [wDist] else []) ++ (q.vars.map varT ++ wWhere :: (partsT q.parts ++ (ordT q ++ limT q))), false) wDist = (varT v :: (vs.map varT ++ wWhere :: (partsT q.parts ++ (ordT q ++ limT q))), false) := by
    unfold hasW
    cases hd : q.dist with
    | true => rw [if_pos rfl, List.singleton_append, isW_eq, if_pos rfl, hv]; rfl
    | false =>
      rw [show (if false = true then [wDist] else ([] : List (List UInt8))) = [] from rfl, List.nil_append, hv, List.map_cons, List.cons_append, isW_ne _ (show varT v ≠ wDist by simp [varT, wDist]), if_neg (by simp)]
  have hs1 : isW ((if q.dist = true then [wDist] else []) ++ (q.vars.map varT ++ wWhere :: (partsT q.parts ++ (ordT q ++ limT q))), false) wDist = q.dist := by
    cases hd : q.dist with
    | true => rw [if_pos rfl, List.singleton_append, isW_eq]
    | false => rw [if_neg (by simp), List.nil_append, hv, List.map_cons, List.cons_append, isW_ne _ (show varT v ≠ wDist by simp [varT, wDist])]
  have hsel : needW (wordsQ q, false) wSel = ((if q.dist = true then [wDist] else []) ++ (q.vars.map varT ++ wWhere :: (partsT q.parts ++ (ordT q ++ limT q))), false) := by
    unfold needW wordsQ
    rw [isW_eq, if_pos rfl]
    rfl
  have hlen : q.vars.length + q.parts.length ≤ (wordsQ q).length := by
    have hp : ∀ l : List Pt, l.length ≤ (partsT l).length := fun l => by
      induction l with
      | nil => simp
      | cons p r ih =>
        unfold partsT
        split
        · rename_i hr; subst hr; simp [partT]
        · simp [partT]; omega
    have := hp q.parts
    unfold wordsQ
    simp
    omega
  have hvl : q.vars.length = vs.length + 1 := by rw [hv]; rfl
  unfold readQ
  dsimp only
  rw [hsel, hs1, hs2, name_mk _ (gv v (by simp))]
  dsimp only
  rw [vars_mk _ vs [v] _ (by omega) (fun x hx => gv x (by simp [hx]))]
  dsimp only
  rw [if_neg (by simp), parts_mk _ (ord_head q _ _ (by decide) (hl _ (by decide))) q.parts [] _ g.some (by omega) g.parts]
  dsimp only
  rw [ord_mk g _ (hl _ (by decide)) (hl _ (by decide))]
  dsimp only
  rw [lim_mk g]
  dsimp only
  rw [show endSA ([], false) = ([], false) by simp [endSA]]
  simp only [List.singleton_append, List.nil_append, ← hv]
/-! ### what is read is written -/
theorem name_out {s : InS} (h : (nameS s).2.2 = false) : s = (varT (nameS s).1 :: (nameS s).2.1, false) ∧ (nameS s).1 ≠ [] ∧ spellV (nameS s).1 = true := by
  obtain ⟨l, b⟩ := s
  cases b with
  | true => simp [nameS] at h
  | false =>
    cases l with
    | nil => simp [nameS] at h
    | cons w r =>
      cases hv : varW w with
      | false => simp [nameS, hv] at h
      | true =>
        obtain ⟨h1, h2, h3⟩ := varW_true hv
        have e : nameS (w :: r, false) = (w.tail, r, false) := by simp [nameS, hv]
        rw [e]
        exact ⟨by rw [← h1], h2, h3⟩
theorem slot_out {s : InS} (h : (slotS s).2.2 = false) : s = (slotT (slotS s).1 :: (slotS s).2.1, false) := by
  obtain ⟨l, b⟩ := s
  cases b with
  | true => simp [slotS] at h
  | false =>
    cases l with
    | nil => simp [slotS] at h
    | cons w r =>
      cases hv : varW w with
      | true =>
        obtain ⟨h1, h2, h3⟩ := varW_true hv
        have e : slotS (w :: r, false) = ((w.tail, tmZero), r, false) := by simp [slotS, hv]
        rw [e]
        have e2 : slotT (w.tail, tmZero) = varT w.tail := by simp only [slotT, if_neg h2]
        rw [e2, ← h1]
      | false =>
        by_cases hp : parseN w = 0
        · have e : slotS (w :: r, false) = (([], parseT w), r, false) := by simp [slotS, hv, hp]
          rw [e]
          have e2 : slotT ([], parseT w) = w := by simpa only [slotT, if_pos] using (show_parse w hp).2
          rw [e2]
        · simp [slotS, hv, hp] at h
theorem pat_out {s : InS} (h : (patS s).2.2 = false) : s = (partT (patS s).1 ++ (patS s).2.1, false) := by
  have h3 := slot_out (s := (slotS (slotS s).2).2) h
  have h2 := slot_out (s := (slotS s).2) (by rw [h3])
  have h1 := slot_out (s := s) (by rw [h2])
  have e : partT (patS s).1 ++ (patS s).2.1 = slotT (slotS s).1 :: slotT (slotS (slotS s).2).1 :: slotT (slotS (slotS (slotS s).2).2).1 :: (slotS (slotS (slotS s).2).2).2.1 := rfl
  rw [e]
  have e3 : slotT (slotS (slotS (slotS s).2).2).1 :: (slotS (slotS (slotS s).2).2).2.1 = (slotS (slotS s).2).2.1 := (congrArg Prod.fst h3).symm
  have e2 : slotT (slotS (slotS s).2).1 :: (slotS (slotS s).2).2.1 = (slotS s).2.1 := (congrArg Prod.fst h2).symm
  rw [e3, e2]
  exact h1
theorem vars_bad (f : Nat) {s : InS} (o : List (List UInt8)) (h : s.2 = true) : varsS f s o = (o, s) := by
  cases f with
  | zero => rfl
  | succ f => rw [varsS, if_pos h]
theorem vars_out : ∀ (f : Nat) (s : InS) (o : List (List UInt8)), s.1.length < f → (varsS f s o).2.2 = false → ∃ l, (varsS f s o).1 = o ++ l ∧ s = (l.map varT ++ wWhere :: (varsS f s o).2.1, false)
  | 0, s, o, hf, _ => by simp at hf
  | f + 1, s, o, hf, h => by
    rw [varsS] at h ⊢
    by_cases hb : s.2 = true
    · rw [if_pos hb] at h
      rw [hb] at h
      cases h
    · rw [if_neg hb] at h ⊢
      by_cases hw : isW s wWhere = true
      · rw [if_pos hw]
        exact ⟨[], by simp, isW_true hw⟩
      · rw [if_neg hw] at h ⊢
        have hn : (nameS s).2.2 = false := by
          cases hc : (nameS s).2.2 with
          | false => rfl
          | true =>
            rw [vars_bad _ _ hc, hc] at h
            cases h
        obtain ⟨h1, _, _⟩ := name_out hn
        have hlen : (nameS s).2.1.length < f := by
          have := congrArg (fun x : InS => x.1.length) h1
          simp at this
          omega
        obtain ⟨l, e1, e2⟩ := vars_out f (nameS s).2 (o ++ [(nameS s).1]) hlen h
        refine ⟨(nameS s).1 :: l, by rw [e1]; simp, ?_⟩
        have e3 : (nameS s).2.1 = l.map varT ++ wWhere :: (varsS f (nameS s).2 (o ++ [(nameS s).1])).2.1 := congrArg Prod.fst e2
        rw [List.map_cons, List.cons_append, ← e3]
        exact h1
theorem parts_out : ∀ (f : Nat) (s : InS) (o : List Pt), s.1.length < f → (partsS f s o).2.2 = false → ∃ l, l ≠ [] ∧ (partsS f s o).1 = o ++ l ∧ s = (partsT l ++ (partsS f s o).2.1, false)
  | 0, s, o, hf, _ => by simp at hf
  | f + 1, s, o, hf, h => by
    rw [partsS] at h ⊢
    by_cases hw : isW (patS s).2 wAnd = true
    · rw [if_pos hw] at h ⊢
      have e0 := isW_true hw
      have hb : (patS s).2.2 = false := by rw [e0]
      have h1 := pat_out hb
      have hlen : (patS s).2.1.tail.length < f := by
        have := congrArg (fun x : InS => x.1.length) h1
        simp [partT] at this
        simp
        omega
      obtain ⟨l, hl, e1, e2⟩ := parts_out f ((patS s).2.1.tail, (patS s).2.2) (o ++ [(patS s).1]) hlen h
      refine ⟨(patS s).1 :: l, by simp, by rw [e1]; simp, ?_⟩
      have e3 : (patS s).2.1.tail = partsT l ++ (partsS f ((patS s).2.1.tail, (patS s).2.2) (o ++ [(patS s).1])).2.1 := congrArg Prod.fst e2
      have e4 : (patS s).2.1 = wAnd :: (patS s).2.1.tail := congrArg Prod.fst e0
      rw [partsT, if_neg hl, List.append_assoc, List.cons_append, ← e3, ← e4]
      exact h1
    · rw [if_neg hw] at h ⊢
      refine ⟨[(patS s).1], by simp, rfl, ?_⟩
      have e : partsT [(patS s).1] = partT (patS s).1 := by simp [partsT]
      rw [e]
      exact pat_out h
theorem ord_out {s : InS} (h : (ordS s).2.2.2 = false) : s = ((if (ordS s).1 = [] then [] else wOrder :: varT (ordS s).1 :: (if (ordS s).2.1 = true then [wDown] else [])) ++ (ordS s).2.2.1, false) := by
  by_cases hw : isW s wOrder = true
  · have e0 := isW_true hw
    have e : ordS s = ((nameS (s.1.tail, s.2)).1, isW (nameS (s.1.tail, s.2)).2 wDown, hasW (nameS (s.1.tail, s.2)).2 wDown) := by unfold ordS; rw [if_pos hw]
    rw [e] at h ⊢
    dsimp only at h ⊢
    have hn : (nameS (s.1.tail, s.2)).2.2 = false := by
      unfold hasW at h
      split at h
      · exact h
      · exact h
    obtain ⟨h1, h2, _⟩ := name_out hn
    rw [if_neg h2]
    have e1 : s.1.tail = varT (nameS (s.1.tail, s.2)).1 :: (nameS (s.1.tail, s.2)).2.1 := congrArg Prod.fst h1
    unfold hasW
    by_cases hd : isW (nameS (s.1.tail, s.2)).2 wDown = true
    · rw [if_pos hd, if_pos hd]
      have e2 : (nameS (s.1.tail, s.2)).2.1 = wDown :: (nameS (s.1.tail, s.2)).2.1.tail := congrArg Prod.fst (isW_true hd)
      dsimp only
      rw [List.cons_append, List.cons_append, List.singleton_append, ← e2, ← e1]
      exact e0
    · rw [if_neg hd, if_neg hd, List.cons_append, List.cons_append, List.nil_append, ← e1]
      exact e0
  · have e : ordS s = ([], false, s) := by unfold ordS; rw [if_neg hw]
    rw [e] at h ⊢
    dsimp only at h ⊢
    rw [if_pos rfl, List.nil_append, ← h]
theorem numF_ge : ∀ (w : List UInt8) (m n : Int), 0 ≤ m → numF m w = some n → m ≤ n
  | [], m, n, _, h => by
    have : m = n := by simpa [numF] using h
    omega
  | c :: r, m, n, hm, h => by
    rw [numF] at h
    split at h
    · rename_i hd
      unfold digB at hd
      simp at hd
      split at h
      · have := numF_ge r _ n (by omega) h
        omega
      · exact numF_ge r m n hm h
    · cases h
theorem byte_ofNat (c : UInt8) (d : Nat) (h : (c.toNat : Int) = 48 + d) : UInt8.ofNat (48 + d) = c := by
  rw [show 48 + d = c.toNat by omega]
  exact UInt8.ofNat_toNat
theorem num_digits : ∀ (w : List UInt8) (m n : Int), 0 < m → numF m w = some n → n ≤ 500 → digitsN n.toNat = digitsN m.toNat ++ w
  | [], m, n, _, h, _ => by
    have : m = n := by simpa [numF] using h
    rw [this]; simp
  | c :: r, m, n, hm, h, hn => by
    have hge := numF_ge (c :: r) m n (by omega) h
    rw [numF] at h
    split at h
    · rename_i hd
      unfold digB at hd
      simp at hd
      rw [if_pos (by omega)] at h
      rw [num_digits r _ n (by omega) h hn, digits_ge (show ¬ (m * 10 + (c.toNat : Int) - 48).toNat < 10 by omega), show (m * 10 + (c.toNat : Int) - 48).toNat / 10 = m.toNat by omega, byte_ofNat c _ (by omega)]
      simp
    · cases h
theorem num_out {w : List UInt8} {n : Int} (h : numW w = some n) (hn : n ≤ 500) : 0 ≤ n ∧ digitsN n.toNat = w := by
  cases w with
  | nil => cases h
  | cons c r =>
    have h' : (if c = 48 ∧ r ≠ [] then none else numF 0 (c :: r)) = some n := h
    split at h'
    · cases h'
    rename_i hz
    have hge := numF_ge _ _ _ (Int.le_refl 0) h'
    refine ⟨hge, ?_⟩
    rw [numF] at h'
    split at h'
    · rename_i hd
      unfold digB at hd
      simp at hd
      rw [if_pos (by omega)] at h'
      have e1 : digitsN (0 * 10 + (c.toNat : Int) - 48).toNat = [c] := by
        rw [digits_lt (by omega), byte_ofNat c _ (by omega)]
      by_cases hr : r = []
      · subst hr
        have : 0 * 10 + (c.toNat : Int) - 48 = n := by simpa only [numF, Option.some.injEq] using h'
        rw [← this, e1]
      · have hc : ¬ c = 48 := fun hc => hz ⟨hc, hr⟩
        have hc' : (c.toNat : Int) ≠ 48 := fun e => hc (UInt8.toNat_inj.1 (by rw [show (48 : UInt8).toNat = 48 from rfl]; omega))
        rw [num_digits r _ n (by omega) h' hn, e1]
        rfl
    · cases h'
theorem lim_out {s : InS} (h : (limS s).2.2 = false) (hn : (limS s).1 ≤ 500) : s = ((if 0 ≤ (limS s).1 then [wLimit, digitsN (limS s).1.toNat] else []) ++ (limS s).2.1, false) := by
  by_cases hw : isW s wLimit = true
  · have e0 := isW_true hw
    cases ht : s.1.tail with
    | nil =>
      have e : limS s = (-1, [], true) := by unfold limS; rw [if_pos hw, ht]
      rw [e] at h; cases h
    | cons w r =>
      cases hk : numW w with
      | none =>
        have e : limS s = (0, w :: r, true) := by unfold limS; rw [if_pos hw, ht]; simp only [hk]
        rw [e] at h; cases h
      | some n =>
        have e : limS s = (n, r, false) := by unfold limS; rw [if_pos hw, ht]; simp only [hk]
        rw [e] at hn ⊢
        dsimp only at hn ⊢
        obtain ⟨h1, h2⟩ := num_out hk hn
        rw [if_pos h1, h2]
        show s = (wLimit :: w :: r, false)
        rw [← ht]
        exact e0
  · have e : limS s = (-1, s) := by unfold limS; rw [if_neg hw]
    rw [e] at h ⊢
    dsimp only at h ⊢
    rw [if_neg (by omega), List.nil_append, ← h]
theorem end_out {s : InS} (h : (endSA s).2 = false) : s = ([], false) ∧ endSA s = ([], false) := by
  obtain ⟨l, b⟩ := s
  unfold endSA at h ⊢
  cases b with
  | true => simp at h
  | false =>
    cases l with
    | nil => simp
    | cons x r => simp at h
theorem ord_bad {s : InS} (h : s.2 = true) : ordS s = ([], false, s) := by
  obtain ⟨l, b⟩ := s
  cases h
  unfold ordS
  rw [isW_bad, if_neg (by simp)]
theorem lim_bad {s : InS} (h : s.2 = true) : limS s = (-1, s) := by
  obtain ⟨l, b⟩ := s
  cases h
  unfold limS
  rw [isW_bad, if_neg (by simp)]
theorem end_bad {s : InS} (h : s.2 = true) : endSA s = s := by
  unfold endSA
  rw [if_neg (by rw [h]; simp)]
theorem need_out {s : InS} {w : List UInt8} (h : (needW s w).2 = false) : s = (w :: (needW s w).1, false) := by
  unfold needW at h ⊢
  split at h
  · rename_i hw
    rw [if_pos hw]
    exact isW_true hw
  · cases h
theorem has_out (s : InS) (w : List UInt8) (h : s.2 = false) : s = ((if isW s w = true then [w] else []) ++ (hasW s w).1, false) ∧ (hasW s w).2 = s.2 := by
  unfold hasW
  split
  · rename_i hw
    exact ⟨isW_true hw, rfl⟩
  · exact ⟨by rw [List.nil_append, ← h], rfl⟩
theorem has_bad {s : InS} {w : List UInt8} (h : (hasW s w).2 = false) : s.2 = false := by
  unfold hasW at h
  split at h <;> exact h
/-- what is read is written -/
theorem words_read {L : List (List UInt8)} (h : (readQ L).2.2 = false) (hl : (readQ L).1.lim ≤ 500) : wordsQ (readQ L).1 = L ∧ (readQ L).2.1 = [] := by
  unfold readQ at h hl ⊢
  dsimp only at h hl ⊢
  generalize e1 : needW (L, false) wSel = s1 at *
  generalize ed : isW s1 wDist = d at *
  generalize e2 : hasW s1 wDist = s2 at *
  generalize e3 : nameS s2 = x3 at *
  generalize e4 : varsS (L.length + 1) x3.2 [x3.1] = x4 at *
  generalize e5 : (if x4.2.2 = true then (([] : List Pt), x4.2) else partsS (L.length + 1) x4.2 []) = x5 at *
  generalize e6 : ordS x5.2 = x6 at *
  generalize e7 : limS x6.2.2 = x7 at *
  obtain ⟨z1, z2⟩ := end_out h
  have l7 := lim_out (s := x6.2.2) (by rw [e7, z1]) (by rw [e7]; exact hl)
  rw [e7, z1, List.append_nil] at l7
  have l6 := ord_out (s := x5.2) (by rw [e6, l7])
  rw [e6, l7] at l6
  dsimp only at l6
  have b5 : x5.2.2 = false := by rw [l6]
  have b4 : x4.2.2 = false := by
    cases hb : x4.2.2 with
    | false => rfl
    | true => rw [if_pos hb] at e5; rw [← e5] at b5; exact hb.symm.trans b5
  rw [if_neg (by rw [b4]; simp)] at e5
  have b3 : x3.2.2 = false := by
    cases hb : x3.2.2 with
    | false => rfl
    | true => rw [vars_bad _ _ hb] at e4; rw [← e4] at b4; exact hb.symm.trans b4
  obtain ⟨l3, n3, _⟩ := name_out (s := s2) (by rw [e3]; exact b3)
  rw [e3] at l3
  have b1 : s1.2 = false := has_bad (w := wDist) (by rw [e2, l3])
  have l2 := (has_out s1 wDist b1).1
  rw [ed, e2, l3] at l2
  have l1 := need_out (s := (L, false)) (w := wSel) (by rw [e1]; exact b1)
  rw [e1] at l1
  have L1 : L = wSel :: s1.1 := congrArg Prod.fst l1
  have L2 : s1.1 = (if d = true then [wDist] else []) ++ varT x3.1 :: x3.2.1 := congrArg Prod.fst l2
  have n1 : x3.2.1.length < L.length + 1 := by rw [L1, L2]; simp; omega
  obtain ⟨vs, v1, v2⟩ := vars_out (L.length + 1) x3.2 [x3.1] n1 (by rw [e4]; exact b4)
  rw [e4] at v1 v2
  have V2 : x3.2.1 = vs.map varT ++ wWhere :: x4.2.1 := congrArg Prod.fst v2
  have n2 : x4.2.1.length < L.length + 1 := by rw [V2] at n1; simp at n1; omega
  obtain ⟨ps, _, p1, p2⟩ := parts_out (L.length + 1) x4.2 [] n2 (by rw [e5]; exact b5)
  rw [e5] at p1 p2
  have P2 : x4.2.1 = partsT ps ++ x5.2.1 := congrArg Prod.fst p2
  have O2 : x5.2.1 = (if x6.1 = [] then [] else wOrder :: varT x6.1 :: (if x6.2.1 = true then [wDown] else [])) ++ (if 0 ≤ x7.1 then [wLimit, digitsN x7.1.toNat] else []) := congrArg Prod.fst l6
  rw [List.nil_append] at p1
  refine ⟨?_, by rw [z2]⟩
  unfold wordsQ ordT limT
  dsimp only
  rw [v1, p1, ← O2, ← P2, List.map_append, List.append_assoc, ← V2, L1, L2]
  rfl
/-- the question that is read of words, the words that are left, and what is told -/
theorem read_good {L : List (List UInt8)} (h : (readQ L).2.2 = false) (hN : askN (readQ L).1 = 0) : wordsQ (readQ L).1 = L := (words_read h (ask_good hN).lim.2).1

/-! ### words and text -/
def joinT : List (List UInt8) → List UInt8
  | [] => []
  | [w] => w
  | w :: x :: r => w ++ 32 :: joinT (x :: r)
/-- a word that no blank parts -/
def Whole (w : List UInt8) : Prop := cutW w = none ∧ ∀ r, cutW (w ++ 32 :: r) = some (w, r)
theorem joinT_cons (w : List UInt8) {r : List (List UInt8)} (h : r ≠ []) : joinT (w :: r) = w ++ 32 :: joinT r := by
  cases r with
  | nil => exact absurd rfl h
  | cons x r => rfl
theorem words_join : ∀ (l : List (List UInt8)), l ≠ [] → (∀ w ∈ l, Whole w) → wordsL (joinT l) = l
  | [], h, _ => absurd rfl h
  | [w], _, h => words_none (h w (by simp)).1
  | w :: x :: r, _, h => by
    rw [joinT, words_some ((h w (by simp)).2 _), words_join (x :: r) (by simp) (fun y hy => h y (by simp [hy]))]
theorem join_wscan : ∀ (n : Nat) (inn : Bool) (cur r : List UInt8), r.length ≤ n → wscan inn cur r ≠ [] ∧ joinT (wscan inn cur r) = cur ++ r
  | _, inn, cur, [], _ => by simp [wscan, joinT]
  | 0, inn, cur, c :: r, h => by simp at h
  | n + 1, inn, cur, c :: r, h => by
    have hr : r.length ≤ n := by simpa using h
    by_cases h92 : (inn && c == 92) = true
    · simp only [Bool.and_eq_true, beq_iff_eq] at h92
      obtain ⟨rfl, rfl⟩ := h92
      cases r with
      | nil => rw [wscan_last]; simp [joinT]
      | cons d r =>
        have ih := join_wscan n true (cur ++ [92, d]) r (by simp at hr; omega)
        rw [wscan_skip]
        exact ⟨ih.1, by rw [ih.2]; simp⟩
    · have h92' : (inn && c == 92) = false := by simpa using h92
      rw [wscan_plain inn cur c r h92']
      by_cases h32 : (c == 32 && !inn) = true
      · rw [if_pos h32]
        have ih := join_wscan n inn [] r hr
        simp only [Bool.and_eq_true, beq_iff_eq] at h32
        refine ⟨by simp, ?_⟩
        rw [joinT_cons _ ih.1, ih.2, h32.1]
        simp
      · rw [if_neg h32]
        have ih := join_wscan n (togB inn cur c) (cur ++ [c]) r hr
        exact ⟨ih.1, by rw [ih.2]; simp⟩
theorem join_words (l : List UInt8) : joinT (wordsL l) = l := by
  have := (join_wscan l.length false [] l (Nat.le_refl _)).2
  simpa [wordsL] using this
theorem indexByte_not (m : List UInt8) (h : ∀ c ∈ m, c ≠ 32) : Lib.indexByte m 32 = -1 := by
  induction m with
  | nil => rfl
  | cons c q ih =>
    have hc : (c == 32) = false := by simpa using h c (by simp)
    rw [Lib.indexByte, hc, ih (fun x hx => h x (by simp [hx]))]
    rfl
theorem whole_of {u t : List UInt8} (ht : ∀ c ∈ t, c ≠ 32) (hq : ∀ r, qEnd (u ++ t ++ r) = u.length) : Whole (u ++ t) := by
  refine ⟨?_, fun r => cutW_of u t r (hq _) ht⟩
  have h := hq []
  rw [List.append_nil] at h
  unfold cutW
  rw [h, List.drop_left, indexByte_not t ht, if_pos (by omega)]
theorem whole_plain {c : UInt8} {w : List UInt8} (h34 : c ≠ 34) (h : ∀ x ∈ c :: w, x ≠ 32) : Whole (c :: w) :=
  whole_of (u := []) h (fun r => by simp [qEnd, h34])
theorem show_whole {k : Int} {S L : List UInt8} (h : checkN k S L = 0) : Whole (showL k S L) := by
  obtain ⟨hk, hS, hsp⟩ := check_zero h
  rcases hk with rfl | rfl | rfl
  · have hs : showL 1 S L = S := rfl
    rw [hs]
    simp only [spellB, if_true, Bool.and_eq_true] at hsp
    cases S with
    | nil => simp [nameOk] at hsp
    | cons c q =>
      simp only [nameOk, Bool.and_eq_true] at hsp
      refine whole_plain (fun e => ?_) (fun x hx e => ?_)
      · have := hsp.2.1
        subst e
        simp [letB] at this
      · have := allB_mem hsp.2.2 x hx
        subst e
        simp [nameB, letB, digB] at this
  · have hs : showL 2 S L = 95 :: S := rfl
    rw [hs]
    have hsp' : anonOk S = true := by simp [spellB] at hsp; exact hsp.2
    refine whole_plain (by decide) (fun x hx e => ?_)
    rcases List.mem_cons.1 hx with e' | hx'
    · rw [e] at e'; simp at e'
    · cases S with
      | nil => simp at hx'
      | cons c q =>
        have := allB_mem (show allB anonB (c :: q) = true from hsp') x hx'
        subst e
        simp [anonB, letB, digB] at this
  · have hs : showL 3 S L = quoteL S ++ markL L := rfl
    rw [hs]
    have hsp' : (L.isEmpty || langOk L) = true := by simp [spellB] at hsp; simp; exact hsp.1
    refine whole_of (fun x hx e => ?_) (fun r => ?_)
    · cases L with
      | nil => simp [markL] at hx
      | cons c q =>
        have hl : langOk (c :: q) = true := by simpa using hsp'
        simp only [langOk, Bool.and_eq_true] at hl
        rcases List.mem_cons.1 (show x ∈ 64 :: c :: q from hx) with e' | hx'
        · rw [e] at e'; simp at e'
        · have := allB_mem hl.2 x hx'
          subst e
          simp [letB] at this
    · have e : quoteL S ++ markL L ++ r = 34 :: (escL S ++ 34 :: (markL L ++ r)) := by simp [quoteL]
      rw [e]
      show (if (34 : UInt8) = 34 then 1 + qScan (escL S ++ 34 :: (markL L ++ r)) else 0) = _
      rw [if_pos rfl, qScan_esc]
      simp [quoteL]
      omega
theorem var_whole {v : List UInt8} (h : spellV v = true) : Whole (varT v) := by
  simp only [spellV, Bool.and_eq_true] at h
  refine whole_plain (by decide) (fun x hx e => ?_)
  rcases List.mem_cons.1 hx with e' | hx'
  · rw [e] at e'; simp at e'
  · have := allB_mem h.2 x hx'
    subst e
    simp [letB] at this
theorem slot_whole {s : Sl} (h : slotN s = 0) : Whole (slotT s) := by
  unfold slotT
  split
  · rename_i hs; exact show_whole (slot_term h hs)
  · rename_i hs; exact var_whole (slot_spell h hs).1
theorem digits_mem : ∀ (f n : Nat), n ≤ f → ∀ c ∈ digitsN n, 48 ≤ c.toNat ∧ c.toNat ≤ 57
  | f, n, hf, c, hc => by
    by_cases h : n < 10
    · rw [digits_lt h] at hc
      obtain rfl : c = UInt8.ofNat (48 + n) := by simpa using hc
      have := byte_dig n h
      omega
    · have h10 : n % 10 < 10 := Nat.mod_lt _ (by omega)
      rw [digits_ge h] at hc
      match f, hf with
      | 0, hf => omega
      | f + 1, hf =>
        rcases List.mem_append.1 hc with hc | hc
        · exact digits_mem f (n / 10) (by omega) c hc
        · obtain rfl : c = UInt8.ofNat (48 + n % 10) := by simpa using hc
          have := byte_dig _ h10
          omega
theorem digits_whole (n : Nat) : Whole (digitsN n) := by
  have h := digits_mem n n (Nat.le_refl _)
  cases hd : digitsN n with
  | nil => exact absurd hd (digits_ne n)
  | cons c r =>
    rw [hd] at h
    refine whole_plain (fun e => ?_) (fun x hx e => ?_)
    · have := h c (by simp)
      rw [e, show (34 : UInt8).toNat = 34 from rfl] at this
      omega
    · have := h x hx
      rw [e, show (32 : UInt8).toNat = 32 from rfl] at this
      omega
theorem parts_whole : ∀ {l : List Pt}, (∀ p ∈ l, varsN p = 0) → ∀ w ∈ partsT l, Whole w
  | [], _, w, hw => by cases hw
  | p :: r, h, w, hw => by
    obtain ⟨h1, h2, h3⟩ := vars_zero (h p (by simp))
    rw [partsT] at hw
    rcases List.mem_append.1 hw with hw | hw
    · unfold partT at hw
      simp only [List.mem_cons, List.not_mem_nil, or_false] at hw
      rcases hw with rfl | rfl | rfl
      · exact slot_whole h1
      · exact slot_whole h2
      · exact slot_whole h3
    · split at hw
      · cases hw
      · rcases List.mem_cons.1 hw with rfl | hw
        · exact whole_plain (by decide) (by decide)
        · exact parts_whole (fun x hx => h x (by simp [hx])) w hw
theorem words_whole {q : Qu} (g : GoodQ q) : ∀ w ∈ wordsQ q, Whole w := by
  intro w hw
  unfold wordsQ at hw
  rcases List.mem_cons.1 hw with rfl | hw
  · exact whole_plain (by decide) (by decide)
  rcases List.mem_append.1 hw with hw | hw
  · split at hw
    · obtain rfl : w = wDist := by simpa using hw
      exact whole_plain (by decide) (by decide)
    · cases hw
  rcases List.mem_append.1 hw with hw | hw
  · obtain ⟨v, hv, rfl⟩ := List.mem_map.1 hw
    exact var_whole (g.vars v hv).2
  rcases List.mem_cons.1 hw with rfl | hw
  · exact whole_plain (by decide) (by decide)
  rcases List.mem_append.1 hw with hw | hw
  · exact parts_whole g.parts w hw
  rcases List.mem_append.1 hw with hw | hw
  · unfold ordT at hw
    split at hw
    · cases hw
    · rename_i ho
      rcases List.mem_cons.1 hw with rfl | hw
      · exact whole_plain (by decide) (by decide)
      rcases List.mem_cons.1 hw with rfl | hw
      · rcases g.order with h | h
        · exact absurd h ho
        · exact var_whole (g.vars _ h).2
      split at hw
      · obtain rfl : w = wDown := by simpa using hw
        exact whole_plain (by decide) (by decide)
      · cases hw
  · unfold limT at hw
    split at hw
    · rcases List.mem_cons.1 hw with rfl | hw
      · exact whole_plain (by decide) (by decide)
      obtain rfl : w = digitsN q.lim.toNat := by simpa using hw
      exact digits_whole _
    · cases hw

/-! ### a question as text, a text as a question -/
def textQ (q : Qu) : List UInt8 := joinT (wordsQ q)
def quZero : Qu := ⟨[], [], [], false, false, 0⟩
/-- what is told of a text: the fault, the place, the question -/
def parseQN (s : List UInt8) : Int := if (readQ (wordsL s)).2.2 = true then 2 else askN (readQ (wordsL s)).1
def parseQP (s : List UInt8) : Nat := if (readQ (wordsL s)).2.2 = true then (wordsL s).length - (readQ (wordsL s)).2.1.length else 0
def parseQQ (s : List UInt8) : Qu := if parseQN s = 0 then (readQ (wordsL s)).1 else quZero
theorem words_text {q : Qu} (h : askN q = 0) : wordsL (textQ q) = wordsQ q := words_join _ (by simp [wordsQ]) (words_whole (ask_good h))
/-- what is asked is asked again -/
theorem parse_text {q : Qu} (h : askN q = 0) : parseQN (textQ q) = 0 ∧ parseQP (textQ q) = 0 ∧ parseQQ (textQ q) = q := by
  have e : readQ (wordsL (textQ q)) = (q, [], false) := by rw [words_text h, read_words h]
  have e1 : parseQN (textQ q) = 0 := by unfold parseQN; rw [e]; simpa using h
  refine ⟨e1, ?_, ?_⟩
  · unfold parseQP; rw [e]; simp
  · unfold parseQQ; rw [if_pos e1, e]
theorem text_parse {s : List UInt8} (h : parseQN s = 0) : askN (parseQQ s) = 0 ∧ textQ (parseQQ s) = s ∧ parseQP s = 0 := by
  have hb : (readQ (wordsL s)).2.2 = false := by
    cases hb : (readQ (wordsL s)).2.2 with
    | false => rfl
    | true => unfold parseQN at h; rw [if_pos hb] at h; cases h
  have hN : askN (readQ (wordsL s)).1 = 0 := by unfold parseQN at h; rw [if_neg (by rw [hb]; simp)] at h; exact h
  have e : parseQQ s = (readQ (wordsL s)).1 := by unfold parseQQ; rw [if_pos h]
  refine ⟨by rw [e]; exact hN, ?_, ?_⟩
  · unfold textQ
    rw [e, read_good hb hN, join_words]
  · unfold parseQP; rw [if_neg (by rw [hb]; simp)]
end Go.Proofs.YtcdbcoaiadipjaaGreat

/- Lists of texts and of patterns in memory; a question as a value. -/
namespace Go.Proofs.YtcdbcoaiadipjaaGreat
open Go Go.RowKit Go.Proofs Go.Maps
set_option synthInstance.maxSize 1000

/-- a slice holds a list of texts, wherever it begins -/
def SlW (w : World) (ad : Option Addr) (l : List (List UInt8)) : Prop := l ≠ [] → ∃ b o, ad = some ⟨b, o, none⟩ ∧ ∀ j (hj : j < l.length), w.cell? ⟨b, o + j, none⟩ = some (encV l[j])
theorem SlW.below {w w' : World} {ad : Option Addr} {l : List (List UInt8)} (h : SlW w ad l) (hb : RowKit.Below w.heap.size w w') : SlW w' ad l := fun hl => by
  obtain ⟨b, o, e, r⟩ := h hl
  exact ⟨b, o, e, fun j hj => (hb.cell (World.block_lt_of_cell? w _ (r j hj))).trans (r j hj)⟩
theorem SlW.at {w : World} {ad : Option Addr} {l : List (List UInt8)} (h : SlW w ad l) (k : Nat) (hk : k < l.length) : ∃ b o, ad = some ⟨b, o, none⟩ ∧ w.cell? ⟨b, o + k, none⟩ = some (.string ⟨l[k].toArray⟩) := by
  obtain ⟨b, o, e, r⟩ := h (fun e => by rw [e] at hk; simp at hk)
  exact ⟨b, o, e, r k hk⟩
theorem slW_nil (W : World) (ad : Option Addr) : SlW W ad [] := fun h => absurd rfl h
theorem SlV.w {w : World} {ad : Option Addr} {l : List (List UInt8)} (h : SlV w ad l) : SlW w ad l := fun hl => by
  obtain ⟨b, e, r⟩ := h hl
  exact ⟨b, 0, e, fun j hj => by rw [Nat.zero_add]; exact r j hj⟩
theorem SlW.take {w : World} {ad : Option Addr} {l : List (List UInt8)} (h : SlW w ad l) (k : Nat) : SlW w ad (l.take k) := fun hl => by
  have hne : l ≠ [] := fun e => by rw [e] at hl; simp at hl
  obtain ⟨b, o, e, r⟩ := h hne
  refine ⟨b, o, e, fun j hj => ?_⟩
  rw [List.length_take] at hj
  rw [List.getElem_take]
  exact r j (by omega)
theorem own_w {W : World} {base : Nat} {v : Value} {t : List (List UInt8)} (h : W.ownsRow base 9 1 v t.length (t.map encV)) : ∃ ad cap, v = .slice ad t.length cap ∧ SlW W ad t := by
  obtain ⟨ad, cap, e, hs⟩ := own_v h
  exact ⟨ad, cap, e, hs.w⟩

/-- the patterns of a list, cell by cell -/
def cellsPt (l : List Pt) : List Value := l.flatMap encPt
theorem encPt_len (x : Pt) : (encPt x).length = 12 := rfl
theorem encPt_one (x : Pt) : ∀ v ∈ encPt x, v.oneCell' = true := by
  intro v hv
  simp [encPt] at hv
  rcases hv with rfl | rfl | rfl | rfl | rfl | rfl | rfl | rfl | rfl | rfl | rfl | rfl <;> rfl
theorem cellsPt_len (l : List Pt) : (cellsPt l).length = l.length * 12 := by
  induction l with
  | nil => rfl
  | cons x r ih => simp only [cellsPt, List.flatMap_cons, List.length_append, List.length_cons] at *; rw [ih, encPt_len]; omega
theorem cellsPt_at (l : List Pt) (i : Nat) (h : i < l.length) (j : Nat) (hj : j < 12) : (cellsPt l)[i * 12 + j]? = (encPt l[i])[j]? := by
  induction l generalizing i with
  | nil => simp at h
  | cons x r ih =>
    simp only [cellsPt, List.flatMap_cons] at *
    cases i with
    | zero => rw [List.getElem?_append_left (by rw [encPt_len]; omega)]; simp
    | succ n =>
      rw [List.getElem?_append_right (by rw [encPt_len]; omega), encPt_len, show (n + 1) * 12 + j - 12 = n * 12 + j by omega, ih n (by simpa using h)]
      simp
def RowPt (w : World) (b o : Nat) (l : List Pt) : Prop := ∀ j v, (cellsPt l)[j]? = some v → w.cell? ⟨b, o + j, none⟩ = some v
theorem RowPt.below {w w' : World} {b o : Nat} {l : List Pt} (h : RowPt w b o l) (hb : RowKit.Below w.heap.size w w') : RowPt w' b o l := fun j v hv =>
  (hb.cell (World.block_lt_of_cell? w _ (h j v hv))).trans (h j v hv)
theorem RowPt.at {w : World} {b o : Nat} {l : List Pt} (h : RowPt w b o l) (i : Nat) (hi : i < l.length) : ∀ j v, (encPt l[i])[j]? = some v → w.cell? ⟨b, o + i * 12 + j, none⟩ = some v := fun j v hv => by
  have hj : j < 12 := (List.getElem?_eq_some_iff.1 hv).1
  rw [Nat.add_assoc]
  exact h _ v (by rw [cellsPt_at l i hi j hj]; exact hv)
/-- a slice holds a list of patterns -/
def SlPt (w : World) (ad : Option Addr) (l : List Pt) : Prop := l ≠ [] → ∃ b o, ad = some ⟨b, o, none⟩ ∧ RowPt w b o l
theorem SlPt.below {w w' : World} {ad : Option Addr} {l : List Pt} (h : SlPt w ad l) (hb : RowKit.Below w.heap.size w w') : SlPt w' ad l := fun hl => by
  obtain ⟨b, o, e, r⟩ := h hl
  exact ⟨b, o, e, r.below hb⟩
theorem SlPt.at {w : World} {ad : Option Addr} {l : List Pt} (h : SlPt w ad l) (i : Nat) (hi : i < l.length) : ∃ b o, ad = some ⟨b, o, none⟩ ∧ RowPt w b o l :=
  h (fun e => by rw [e] at hi; simp at hi)
theorem slPt_nil (W : World) (ad : Option Addr) : SlPt W ad [] := fun h => absurd rfl h
theorem own_slPt {W : World} {base : Nat} {e : TypeId} {v : Value} {t : List Pt} (h : W.ownsRow base e 12 v t.length (cellsPt t)) : ∃ ad cap, v = .slice ad t.length cap ∧ SlPt W ad t := by
  have h' := h
  rcases h.2 with ⟨rfl, h0⟩ | ⟨g, cap, cur, rfl, _⟩
  · exact ⟨none, 0, by rw [h0], fun hne => absurd (List.eq_nil_of_length_eq_zero h0) hne⟩
  · refine ⟨some ⟨g, 0, none⟩, cap, rfl, fun _ => ⟨g, 0, rfl, fun j u hj => ?_⟩⟩
    have := h'.cells (g := g) rfl j u hj
    rwa [Addr.add_lit] at this
theorem infoPt : (Tryz.prog.info? 34).map (fun i => (i.zero, i.size, i.bytes)) = some (some (.agg (encPt (([], tmZero), ([], tmZero), ([], tmZero))).toArray), 12, 168) := by kernel_rfl

/-- a question as a value: where its lists lie -/
def valQ (q : Qu) (vd : Option Addr) (vc : Nat) (pd : Option Addr) (pc : Nat) : Value := .agg #[.slice vd q.vars.length vc, .slice pd q.parts.length pc, .string ⟨q.order.toArray⟩, .bool q.down, .bool q.dist, .int .i64 q.lim]
/-- a question that is handed in, or answered -/
structure QuIn (w : World) (q : Qu) (vd pd : Option Addr) : Prop where
  vars : SlW w vd q.vars
  parts : SlPt w pd q.parts
theorem QuIn.below {w w' : World} {q : Qu} {vd pd : Option Addr} (h : QuIn w q vd pd) (hb : RowKit.Below w.heap.size w w') : QuIn w' q vd pd := ⟨h.vars.below hb, h.parts.below hb⟩
theorem hideQ {p : Prop} (h : p) : Hid p := h
/-- a question's box -/
structure BoxQ (w : World) (b : Nat) (q : Qu) (vd pd : Option Addr) (vc pc : Nat) : Prop where
  c0 : w.cell? ⟨b, 0, none⟩ = some (.slice vd q.vars.length vc)
  c1 : w.cell? ⟨b, 1, none⟩ = some (.slice pd q.parts.length pc)
  c2 : w.cell? ⟨b, 2, none⟩ = some (.string ⟨q.order.toArray⟩)
  c3 : w.cell? ⟨b, 3, none⟩ = some (.bool q.down)
  c4 : w.cell? ⟨b, 4, none⟩ = some (.bool q.dist)
  c5 : w.cell? ⟨b, 5, none⟩ = some (.int .i64 q.lim)
theorem BoxQ.below {w w' : World} {b : Nat} {q : Qu} {vd pd : Option Addr} {vc pc : Nat} (h : BoxQ w b q vd pd vc pc) (hb : RowKit.Below w.heap.size w w') : BoxQ w' b q vd pd vc pc := by
  have s : ∀ j v, w.cell? ⟨b, j, none⟩ = some v → w'.cell? ⟨b, j, none⟩ = some v := fun j v hv => (hb.cell (World.block_lt_of_cell? w _ hv)).trans hv
  exact ⟨s _ _ h.c0, s _ _ h.c1, s _ _ h.c2, s _ _ h.c3, s _ _ h.c4, s _ _ h.c5⟩
theorem boxQ_new (w : World) (q : Qu) (vd pd : Option Addr) (vc pc : Nat) : BoxQ (w.alloc (.cells #[.slice vd q.vars.length vc, .slice pd q.parts.length pc, .string ⟨q.order.toArray⟩, .bool q.down, .bool q.dist, .int .i64 q.lim] 26)) w.heap.size q vd pd vc pc :=
  ⟨by go_simp, by go_simp, by go_simp, by go_simp, by go_simp, by go_simp⟩
/-- its texts and lists are no longer than such may be -/
structure FitQ (q : Qu) : Prop where
  vl : q.vars.length ≤ 9223372036854775807
  pl : q.parts.length ≤ 9223372036854775807
  vt : ∀ v ∈ q.vars, v.length ≤ maxLen
  pt : ∀ p ∈ q.parts, fitPt p
  ord : q.order.length ≤ maxLen
  lim : (Lit.int .i64 q.lim).wf = true
end Go.Proofs.YtcdbcoaiadipjaaGreat

/- An append of a list of texts to a row of one's own. -/
namespace Go.Proofs.YtcdbcoaiadipjaaGreat
open Go Go.RowKit Go.Proofs Go.Maps
set_option synthInstance.maxSize 1000

theorem append_emptyW {W : World} {base : Nat} {v : Value} {t : List (List UInt8)} (h : W.ownsRow base 9 1 v t.length (t.map encV)) (ad : Option Addr) (c : Nat) (ty : TypeId) : (Builtin.append_ #[23, 23] ty #[v, .slice ad 0 c]).run Tryz.prog W = .ok v W := by
  obtain ⟨i, hi, hz⟩ := Option.map_eq_some_iff.1 infoStrV
  have hf : (Builtin.firstCells i.size 0 (.slice ad 0 c)).run Tryz.prog W = .ok #[] W := by
    cases ad with
    | none => exact run_firstCells_none W _ _ _ _
    | some a => exact run_firstCells_some (P := Tryz.prog) W i.size 0 a 0 c [] (by simp) (by simp)
  rcases h.2 with ⟨rfl, h0⟩ | ⟨g, cc, cur, rfl, _, _, hle, _⟩
  · simp [Builtin.append_, run_underlying Tryz.underlying23, sizeOf, typeInfo, hi, Builtin.lenOf, hf]
  · simp [Builtin.append_, run_underlying Tryz.underlying23, sizeOf, typeInfo, hi, Builtin.lenOf, hf, hle, storeCells]
/-- an append of a list of texts to a row of one's own: just that row turns -/
theorem wpList_append_textsW {ops : Array Oper} {rest : List Oper} {o : Oper} {a : Act} {Q : Exit → Act → World → Prop} (w : World) (hgd : o.guard = none) (s x : Operand)
    (ho : o.op = .call { callee := .builtin .append, args := #[s, x], argTypes := #[23, 23] })
    (base : Nat) (v : Value) (t l : List (List UInt8)) (ad : Option Addr) (c : Nat) (hs : a.eval s = v) (hx : a.eval x = .slice ad l.length c) (hown : w.ownsRow base 9 1 v t.length (t.map encV)) (hl : SlW w ad l)
    (h63 : t.length + l.length ≤ 1000000) (hbase : base ≤ w.heap.size)
    (h : ∀ v' w', w'.ownsRow base 9 1 v' (t ++ l).length ((t ++ l).map encV) → w.grownBy w' v.ownBlock → wpList Tryz.prog ops Q rest (a.put o.dst v') w') : wpList Tryz.prog ops Q (o :: rest) a w := by
  obtain ⟨i0, hi, hz⟩ := Option.map_eq_some_iff.1 infoStrV
  simp only [Prod.mk.injEq] at hz
  obtain ⟨hz0, hz1, hz2⟩ := hz
  cases l with
  | nil =>
    refine Lib.wpList_append_run w hgd s x _ _ ho v _ hs hx v w (append_emptyW hown ad c _) (h v w ?_ (World.grownBy.refl _ _))
    simpa using hown
  | cons y r =>
    obtain ⟨b, off, rfl, hr⟩ := hl (by simp)
    refine wpList_append_own w hgd s x _ ho base 9 i0 (.string ByteArray.empty) 1 16 Tryz.underlying23 hi hz0 hz1 hz2 rfl (by decide) v t.length (t.map encV) hs hown ⟨b, off, none⟩ (y :: r).length c ((y :: r).map encV) hx (by simp) ?_ (fun u hu => by obtain ⟨z, _, rfl⟩ := List.mem_map.1 hu; rfl) (by unfold maxLen; omega) (by omega) hbase ?_
    · intro j u hj
      have hj' : j < (y :: r).length := by have := (List.getElem?_eq_some_iff.1 hj).1; simpa using this
      rw [Addr.add_lit, hr j hj']
      rw [List.getElem?_map, List.getElem?_eq_getElem hj'] at hj
      exact hj
    · intro v' w' h2 h3 _
      refine h v' w' ?_ h3
      rw [List.length_append]
      simpa using h2
end Go.Proofs.YtcdbcoaiadipjaaGreat
