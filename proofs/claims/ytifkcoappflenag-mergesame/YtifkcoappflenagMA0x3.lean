import Derived.Test.YtifkcoappflenagMA0x2

/- Two that came of one: the theory of pairs. -/
namespace Go.Proofs.Ytifkcoappflenag
open Go Go.RowKit Go.Proofs
set_option synthInstance.maxSize 1000

/-- a pair: an S and a P -/
abbrev Pr := Tm × Tm
def pairOf (x : Tr) : Pr := (x.1, x.2.1)
def cmpP (p q : Pr) : Int := if cmpTm p.1 q.1 ≠ 0 then cmpTm p.1 q.1 else cmpTm p.2 q.2
def RisingP (l : List Pr) : Prop := l.Pairwise fun p q => cmpP p q < 0

theorem cmpP_zero (p q : Pr) : cmpP p q = 0 ↔ p = q := by
  obtain ⟨a, b⟩ := p
  obtain ⟨c, d⟩ := q
  unfold cmpP
  dsimp only
  split
  · rename_i h
    constructor
    · intro h'; exact absurd h' h
    · intro h'; cases h'; exact absurd ((cmpTm_zero a a).2 rfl) h
  · rename_i h
    have h : cmpTm a c = 0 := by simpa using h
    have := (cmpTm_zero a c).1 h
    subst this
    rw [cmpTm_zero]
    simp
theorem cmpP_neg (p q : Pr) : cmpP p q = - cmpP q p := by
  unfold cmpP
  have h1 := cmpTm_neg p.1 q.1
  have h2 := cmpTm_neg p.2 q.2
  split <;> split <;> omega
theorem cmpP_trans (p q r : Pr) (h1 : cmpP p q ≤ 0) (h2 : cmpP q r ≤ 0) : cmpP p r ≤ 0 := by
  obtain ⟨p1, p2⟩ := p
  obtain ⟨q1, q2⟩ := q
  obtain ⟨r1, r2⟩ := r
  unfold cmpP at *
  dsimp only at *
  have t1 := cmpTm_trans p1 q1 r1
  have t2 := cmpTm_trans p2 q2 r2
  by_cases a : cmpTm p1 q1 = 0
  · have := (cmpTm_zero p1 q1).1 a
    subst this
    rw [if_neg (by simpa using a)] at h1
    by_cases b : cmpTm p1 r1 = 0
    · rw [if_neg (by simpa using b)] at h2 ⊢
      exact t2 h1 h2
    · rw [if_pos b] at h2 ⊢
      exact h2
  · rw [if_pos a] at h1
    by_cases b : cmpTm q1 r1 = 0
    · have := (cmpTm_zero q1 r1).1 b
      subst this
      rw [if_pos a]
      exact h1
    · rw [if_pos b] at h2
      by_cases c : cmpTm p1 r1 = 0
      · have := (cmpTm_zero p1 r1).1 c
        subst this
        have := cmpTm_neg p1 q1
        omega
      · rw [if_pos c]
        exact t1 h1 h2
theorem cmpP_lt_trans {p q r : Pr} (h1 : cmpP p q < 0) (h2 : cmpP q r < 0) : cmpP p r < 0 := by
  have h := cmpP_trans p q r (by omega) (by omega)
  rcases Int.lt_or_eq_of_le h with h | h
  · exact h
  · have e := (cmpP_zero p r).1 h
    subst e
    have := cmpP_neg p q
    omega
theorem cmpTr_of_pair {x y : Tr} (h : cmpP (pairOf x) (pairOf y) < 0) : cmpTr x y < 0 := by
  unfold cmpP pairOf at h
  unfold cmpTr orI
  dsimp only at h
  split at h
  · rename_i h'; rw [if_neg h']; exact h
  · rename_i h'; rw [if_pos (by simpa using h'), if_neg (by omega)]; exact h
theorem pair_of_cmpTr {x y : Tr} (h : cmpTr x y < 0) : cmpP (pairOf x) (pairOf y) ≤ 0 := by
  have := cmpP_neg (pairOf x) (pairOf y)
  by_cases h' : cmpP (pairOf y) (pairOf x) < 0
  · have h2 := cmpTr_of_pair h'
    have := cmpTr_neg x y
    omega
  · omega
theorem risingP_unique : ∀ (m n : List Pr), RisingP m → RisingP n → (∀ x, x ∈ m ↔ x ∈ n) → m = n
  | [], [], _, _, _ => rfl
  | [], y :: n, _, _, h => by have := (h y).2 (by simp); simp at this
  | x :: m, [], _, _, h => by have := (h x).1 (by simp); simp at this
  | x :: m, y :: n, hm, hn, h => by
    obtain ⟨hm1, hm2⟩ := List.pairwise_cons.1 hm
    obtain ⟨hn1, hn2⟩ := List.pairwise_cons.1 hn
    have exy : x = y := by
      have h1 := (h x).1 (by simp)
      have h2 := (h y).2 (by simp)
      rcases List.mem_cons.1 h1 with e | h1
      · exact e
      · rcases List.mem_cons.1 h2 with e | h2
        · exact e.symm
        · have a := hn1 x h1
          have b := hm1 y h2
          have := cmpP_neg x y
          omega
    subst exy
    have irr : cmpP x x = 0 := (cmpP_zero x x).2 rfl
    rw [risingP_unique m n hm2 hn2 fun z => ?_]
    constructor
    · intro hz
      rcases List.mem_cons.1 ((h z).1 (List.mem_cons_of_mem _ hz)) with e | hz'
      · subst e; have := hm1 z hz; omega
      · exact hz'
    · intro hz
      rcases List.mem_cons.1 ((h z).2 (List.mem_cons_of_mem _ hz)) with e | hz'
      · subst e; have := hn1 z hz; omega
      · exact hz'

/-- a pair put where it belongs -/
def putP : List Pr → Pr → List Pr
  | [], p => [p]
  | q :: l, p => if cmpP q p < 0 then q :: putP l p else if q = p then q :: l else p :: q :: l
theorem putP_mem (l : List Pr) (p x : Pr) : x ∈ putP l p ↔ x = p ∨ x ∈ l := by
  induction l with
  | nil => simp [putP]
  | cons q l ih =>
    unfold putP
    split
    · rw [List.mem_cons, ih, List.mem_cons]
      constructor
      · rintro (h | h | h)
        · exact .inr (.inl h)
        · exact .inl h
        · exact .inr (.inr h)
      · rintro (h | h | h)
        · exact .inr (.inl h)
        · exact .inl h
        · exact .inr (.inr h)
    · split
      · rename_i e
        subst e
        simp
      · simp
theorem putP_rising {l : List Pr} (p : Pr) (h : RisingP l) : RisingP (putP l p) := by
  induction l with
  | nil => unfold putP; exact List.pairwise_singleton _ _
  | cons q l ih =>
    obtain ⟨h1, h2⟩ := List.pairwise_cons.1 h
    unfold putP
    split
    · rename_i hq
      refine List.pairwise_cons.2 ⟨fun x hx => ?_, ih h2⟩
      rcases (putP_mem l p x).1 hx with e | hx
      · rw [e]; exact hq
      · exact h1 x hx
    · rename_i hq
      split
      · exact h
      · rename_i hne
        have hz : cmpP q p ≠ 0 := fun h0 => hne ((cmpP_zero q p).1 h0)
        have hn := cmpP_neg q p
        refine List.pairwise_cons.2 ⟨fun x hx => ?_, h⟩
        rcases List.mem_cons.1 hx with e | hx
        · rw [e]; omega
        · exact cmpP_lt_trans (q := q) (by omega) (h1 x hx)
theorem putP_len (l : List Pr) (p : Pr) : (putP l p).length ≤ l.length + 1 := by
  induction l with
  | nil => simp [putP]
  | cons q l ih =>
    unfold putP
    split
    · simp; omega
    · split <;> simp
/-- all the pairs of a list beside those that are there -/
def allP (l : List Pr) (m : List Tr) : List Pr := m.foldl (fun l x => putP l (pairOf x)) l
theorem allP_mem (m : List Tr) : ∀ (l : List Pr) (p : Pr), p ∈ allP l m ↔ p ∈ l ∨ ∃ x ∈ m, pairOf x = p := by
  induction m with
  | nil => intro l p; simp [allP]
  | cons x m ih =>
    intro l p
    show p ∈ allP (putP l (pairOf x)) m ↔ _
    rw [ih, putP_mem]
    constructor
    · rintro ((h | h) | ⟨y, hy, e⟩)
      · exact .inr ⟨x, by simp, h.symm⟩
      · exact .inl h
      · exact .inr ⟨y, by simp [hy], e⟩
    · rintro (h | ⟨y, hy, e⟩)
      · exact .inl (.inr h)
      · rcases List.mem_cons.1 hy with e' | hy
        · subst e'; exact .inl (.inl e.symm)
        · exact .inr ⟨y, hy, e⟩
theorem allP_rising (m : List Tr) : ∀ (l : List Pr), RisingP l → RisingP (allP l m) := by
  induction m with
  | nil => intro l h; exact h
  | cons x m ih => intro l h; exact ih _ (putP_rising _ h)
theorem allP_len (m : List Tr) : ∀ (l : List Pr), (allP l m).length ≤ l.length + m.length := by
  induction m with
  | nil => intro l; simp [allP]
  | cons x m ih =>
    intro l
    have h1 := ih (putP l (pairOf x))
    have h2 := putP_len l (pairOf x)
    show (allP (putP l (pairOf x)) m).length ≤ _
    simp
    omega
def pairs2 (a b : List Tr) : List Pr := allP (allP [] a) b
def pairs3 (o a b : List Tr) : List Pr := allP (allP (allP [] o) a) b
theorem risingP_nil : RisingP [] := List.Pairwise.nil
theorem pairs2_rising (a b : List Tr) : RisingP (pairs2 a b) := allP_rising _ _ (allP_rising _ _ risingP_nil)
theorem pairs3_rising (o a b : List Tr) : RisingP (pairs3 o a b) := allP_rising _ _ (allP_rising _ _ (allP_rising _ _ risingP_nil))
theorem pairs2_mem (a b : List Tr) (p : Pr) : p ∈ pairs2 a b ↔ (∃ x ∈ a, pairOf x = p) ∨ ∃ x ∈ b, pairOf x = p := by
  unfold pairs2; rw [allP_mem, allP_mem]; simp
theorem pairs3_mem (o a b : List Tr) (p : Pr) : p ∈ pairs3 o a b ↔ (∃ x ∈ o, pairOf x = p) ∨ (∃ x ∈ a, pairOf x = p) ∨ ∃ x ∈ b, pairOf x = p := by
  unfold pairs3; rw [allP_mem, allP_mem, allP_mem]; simp [or_assoc]
theorem pairs3_len (o a b : List Tr) : (pairs3 o a b).length ≤ o.length + a.length + b.length := by
  have h1 := allP_len b (allP (allP [] o) a)
  have h2 := allP_len a (allP [] o)
  have h3 := allP_len o []
  unfold pairs3
  simp at h3
  omega
theorem pairs3_comm (o a b : List Tr) : pairs3 o a b = pairs3 o b a := risingP_unique _ _ (pairs3_rising _ _ _) (pairs3_rising _ _ _) fun p => by
  rw [pairs3_mem, pairs3_mem]
  constructor
  · rintro (h | h | h)
    · exact .inl h
    · exact .inr (.inr h)
    · exact .inr (.inl h)
  · rintro (h | h | h)
    · exact .inl h
    · exact .inr (.inr h)
    · exact .inr (.inl h)

/-- the triples of a pair -/
def ofL (m : List Tr) (p : Pr) : List Tr := m.filter fun x => decide (pairOf x = p)
theorem ofL_mem {m : List Tr} {p : Pr} {x : Tr} : x ∈ ofL m p ↔ x ∈ m ∧ pairOf x = p := by simp [ofL]
theorem ofL_rising {m : List Tr} (p : Pr) (h : Rising m) : Rising (ofL m p) := List.Pairwise.filter _ h
def mineL (o a b : List Tr) (first : Bool) (p : Pr) : List Tr :=
  if ofL o p = ofL a p then ofL b p else if ofL o p ≠ ofL b p ∧ ofL a p ≠ ofL b p ∧ first = false then ofL b p else ofL a p
def outL (o a b : List Tr) (first : Bool) : List Tr := (pairs3 o a b).flatMap (mineL o a b first)
def clashL (o a b : List Tr) : List Pr := (pairs3 o a b).filter fun p => decide (ofL o p ≠ ofL a p ∧ ofL o p ≠ ofL b p ∧ ofL a p ≠ ofL b p)
def diffL (a b : List Tr) : List Pr := (pairs2 a b).filter fun p => decide (ofL a p ≠ ofL b p)

theorem mine_or (o a b : List Tr) (first : Bool) (p : Pr) : mineL o a b first p = ofL a p ∨ mineL o a b first p = ofL b p := by
  unfold mineL
  split
  · exact .inr rfl
  · split
    · exact .inr rfl
    · exact .inl rfl
theorem mine_mem {o a b : List Tr} {first : Bool} {p : Pr} {x : Tr} (h : x ∈ mineL o a b first p) : pairOf x = p ∧ (x ∈ a ∨ x ∈ b) := by
  rcases mine_or o a b first p with e | e
  · rw [e, ofL_mem] at h; exact ⟨h.2, .inl h.1⟩
  · rw [e, ofL_mem] at h; exact ⟨h.2, .inr h.1⟩
theorem out_mem {o a b : List Tr} {first : Bool} {x : Tr} : x ∈ outL o a b first ↔ x ∈ mineL o a b first (pairOf x) := by
  unfold outL
  rw [List.mem_flatMap]
  constructor
  · rintro ⟨p, _, hx⟩
    rw [(mine_mem hx).1]; exact hx
  · intro hx
    refine ⟨pairOf x, ?_, hx⟩
    rw [pairs3_mem]
    rcases (mine_mem hx).2 with h | h
    · exact .inr (.inl ⟨x, h, rfl⟩)
    · exact .inr (.inr ⟨x, h, rfl⟩)
theorem flat_rising {l : List Pr} {f : Pr → List Tr} (hl : RisingP l) (hf : ∀ p ∈ l, Rising (f p)) (hp : ∀ p ∈ l, ∀ x ∈ f p, pairOf x = p) : Rising (l.flatMap f) := by
  induction l with
  | nil => exact List.Pairwise.nil
  | cons p l ih =>
    obtain ⟨h1, h2⟩ := List.pairwise_cons.1 hl
    rw [List.flatMap_cons]
    refine List.pairwise_append.2 ⟨hf p (by simp), ih h2 (fun q hq => hf q (by simp [hq])) (fun q hq => hp q (by simp [hq])), fun x hx y hy => ?_⟩
    obtain ⟨q, hq, hy⟩ := List.mem_flatMap.1 hy
    refine cmpTr_of_pair ?_
    rw [hp p (by simp) x hx, hp q (by simp [hq]) y hy]
    exact h1 q hq
theorem out_rising {o a b : List Tr} {first : Bool} (ha : Rising a) (hb : Rising b) : Rising (outL o a b first) :=
  flat_rising (pairs3_rising _ _ _) (fun p _ => by
    rcases mine_or o a b first p with e | e
    · rw [e]; exact ofL_rising p ha
    · rw [e]; exact ofL_rising p hb) (fun _ _ _ hx => (mine_mem hx).1)
theorem out_sub {o a b : List Tr} {first : Bool} {x : Tr} (h : x ∈ outL o a b first) : x ∈ a ∨ x ∈ b := (mine_mem (out_mem.1 h)).2
theorem out_both {o a b : List Tr} {first : Bool} {x : Tr} (ha : x ∈ a) (hb : x ∈ b) : x ∈ outL o a b first := by
  rw [out_mem]
  rcases mine_or o a b first (pairOf x) with e | e
  · rw [e, ofL_mem]; exact ⟨ha, rfl⟩
  · rw [e, ofL_mem]; exact ⟨hb, rfl⟩
/-- merged with what did not change it is the other one -/
theorem out_base {o a : List Tr} {first : Bool} (ho : Rising o) (ha : Rising a) : outL o a o first = a := by
  refine rising_unique _ _ (out_rising ha ho) ha fun x => ?_
  rw [out_mem]
  have : mineL o a o first (pairOf x) = ofL a (pairOf x) := by
    unfold mineL
    split
    · rename_i h; exact h
    · rw [if_neg (fun h => h.1 rfl)]
  rw [this, ofL_mem]
  simp
theorem out_same {o a : List Tr} {first : Bool} (ha : Rising a) : outL o a a first = a := by
  refine rising_unique _ _ (out_rising ha ha) ha fun x => ?_
  rw [out_mem]
  have : mineL o a a first (pairOf x) = ofL a (pairOf x) := by
    rcases mine_or o a a first (pairOf x) with e | e <;> exact e
  rw [this, ofL_mem]
  simp
theorem clash_same (o a : List Tr) : clashL o a a = [] := by
  unfold clashL
  rw [List.filter_eq_nil_iff]
  intro p _ h
  have := of_decide_eq_true h
  exact this.2.2 rfl
theorem clash_base (o a : List Tr) : clashL o a o = [] := by
  unfold clashL
  rw [List.filter_eq_nil_iff]
  intro p _ h
  have := of_decide_eq_true h
  exact this.2.1 rfl
theorem clash_comm (o a b : List Tr) : clashL o a b = clashL o b a := by
  unfold clashL
  rw [pairs3_comm]
  congr 1
  funext p
  congr 1
  apply propext
  constructor
  · rintro ⟨h1, h2, h3⟩; exact ⟨h2, h1, fun h => h3 h.symm⟩
  · rintro ⟨h1, h2, h3⟩; exact ⟨h2, h1, fun h => h3 h.symm⟩
/-- the one that is preferred, either way round -/
theorem out_swap (o a b : List Tr) : outL o a b true = outL o b a false := by
  unfold outL
  rw [pairs3_comm]
  congr 1
  funext p
  unfold mineL
  by_cases h1 : ofL o p = ofL a p
  · by_cases h2 : ofL o p = ofL b p
    · rw [if_pos h1, if_pos h2, ← h1, ← h2]
    · rw [if_pos h1, if_neg h2, if_neg (fun h => h.1 h1)]
  · rw [if_neg h1, if_neg (fun h => by cases h.2.2)]
    by_cases h2 : ofL o p = ofL b p
    · rw [if_pos h2]
    · rw [if_neg h2]
      by_cases h3 : ofL b p = ofL a p
      · rw [if_neg (fun h => h.2.1 h3), h3]
      · rw [if_pos ⟨h1, h3, rfl⟩]
theorem out_free {o a b : List Tr} (h : clashL o a b = []) : outL o a b true = outL o a b false := by
  unfold outL
  have hc : ∀ p ∈ pairs3 o a b, ¬ (ofL o p ≠ ofL a p ∧ ofL o p ≠ ofL b p ∧ ofL a p ≠ ofL b p) := fun p hp hh => by
    unfold clashL at h
    rw [List.filter_eq_nil_iff] at h
    exact h p hp (decide_eq_true hh)
  have : ∀ p ∈ pairs3 o a b, mineL o a b true p = mineL o a b false p := fun p hp => by
    unfold mineL
    by_cases h1 : ofL o p = ofL a p
    · rw [if_pos h1, if_pos h1]
    · rw [if_neg h1, if_neg h1, if_neg (fun h => by cases h.2.2), if_neg (fun hh => hc p hp ⟨h1, hh.1, hh.2.1⟩)]
  generalize pairs3 o a b = l at this
  induction l with
  | nil => rfl
  | cons p l ih =>
    rw [List.flatMap_cons, List.flatMap_cons, this p (by simp), ih fun q hq => this q (by simp [hq])]
theorem out_comm {o a b : List Tr} (h : clashL o a b = []) : outL o a b true = outL o b a true := by
  rw [out_swap o a b]
  exact (out_free ((clash_comm o b a).trans h)).symm
theorem out_len {o a b : List Tr} {first : Bool} (ha : Rising a) (hb : Rising b) : (outL o a b first).length ≤ a.length + b.length := by
  have hn := rising_nodup (out_rising (o := o) (first := first) ha hb)
  have := List.Nodup.length_le_of_subset (l₂ := a ++ b) hn fun x hx => List.mem_append.2 (out_sub hx)
  rw [List.length_append] at this
  exact this
/-- the pairs of a rising list, one after another -/
def pairsS (out : List Pr) (x : Tr) : List Pr := if out.getLast? = some (pairOf x) then out else out ++ [pairOf x]
def pairsL (m : List Tr) : List Pr := m.foldl pairsS []
theorem pairsL_next {m : List Tr} {i : Nat} (h : i < m.length) : pairsL (m.take (i + 1)) = pairsS (pairsL (m.take i)) m[i] := by
  unfold pairsL
  rw [List.take_succ_eq_append_getElem h, List.foldl_append]
  rfl
theorem pairsL_at {m : List Tr} (hm : Rising m) (i : Nat) (hi : i ≤ m.length) : RisingP (pairsL (m.take i)) ∧ (∀ p, p ∈ pairsL (m.take i) ↔ ∃ x ∈ m.take i, pairOf x = p) ∧ (∀ (h : 0 < i), (pairsL (m.take i)).getLast? = some (pairOf (m[i - 1]'(by omega)))) ∧ (pairsL (m.take i)).length ≤ i := by
  induction i with
  | zero => exact ⟨List.Pairwise.nil, fun p => by simp [pairsL], fun h => by omega, by simp [pairsL]⟩
  | succ i ih =>
    obtain ⟨h1, h2, h3, h4⟩ := ih (by omega)
    rw [pairsL_next (by omega)]
    have ht : m.take (i + 1) = m.take i ++ [m[i]'(by omega)] := List.take_succ_eq_append_getElem (by omega)
    unfold pairsS
    by_cases hl : (pairsL (m.take i)).getLast? = some (pairOf (m[i]'(by omega)))
    · rw [if_pos hl]
      refine ⟨h1, fun p => ?_, fun _ => hl, by omega⟩
      rw [h2, ht]
      constructor
      · rintro ⟨x, hx, e⟩; exact ⟨x, List.mem_append.2 (.inl hx), e⟩
      · rintro ⟨x, hx, e⟩
        rcases List.mem_append.1 hx with hx | hx
        · exact ⟨x, hx, e⟩
        · have hx : x = m[i]'(by omega) := by simpa using hx
          subst hx
          have := List.mem_of_getLast? hl
          rw [e] at this
          exact (h2 p).1 this
    · rw [if_neg hl]
      refine ⟨List.pairwise_append.2 ⟨h1, List.pairwise_singleton _ _, fun p hp q hq => ?_⟩, fun p => ?_, fun _ => by simp, by simp; omega⟩
      · have hq : q = pairOf (m[i]'(by omega)) := by simpa using hq
        subst hq
        obtain ⟨x, hx, rfl⟩ := (h2 p).1 hp
        obtain ⟨k, hk, rfl⟩ := List.getElem_of_mem hx
        have hk' : k < i := by rw [List.length_take] at hk; omega
        rw [List.getElem_take]
        have hle : cmpP (pairOf (m[k]'(by omega))) (pairOf (m[i - 1]'(by omega))) ≤ 0 := by
          by_cases e : k = i - 1
          · subst e; rw [(cmpP_zero _ _).2 rfl]; exact Int.le_refl _
          · exact pair_of_cmpTr (List.pairwise_iff_getElem.1 hm k (i - 1) (by omega) (by omega) (by omega))
        have hlt : cmpP (pairOf (m[i - 1]'(by omega))) (pairOf (m[i]'(by omega))) < 0 := by
          have h5 := pair_of_cmpTr (List.pairwise_iff_getElem.1 hm (i - 1) i (by omega) (by omega) (by omega))
          have h6 : cmpP (pairOf (m[i - 1]'(by omega))) (pairOf (m[i]'(by omega))) ≠ 0 := fun h0 => hl (by rw [h3 (by omega), (cmpP_zero _ _).1 h0])
          omega
        by_cases h0 : cmpP (pairOf (m[k]'(by omega))) (pairOf (m[i - 1]'(by omega))) = 0
        · rw [(cmpP_zero _ _).1 h0]; exact hlt
        · exact cmpP_lt_trans (by omega) hlt
      · rw [List.mem_append, h2, ht]
        constructor
        · rintro (⟨x, hx, e⟩ | h)
          · exact ⟨x, List.mem_append.2 (.inl hx), e⟩
          · exact ⟨m[i]'(by omega), List.mem_append.2 (.inr (by simp)), (by simpa using h : p = _).symm⟩
        · rintro ⟨x, hx, e⟩
          rcases List.mem_append.1 hx with hx | hx
          · exact .inl ⟨x, hx, e⟩
          · have hx : x = m[i]'(by omega) := by simpa using hx
            subst hx
            exact .inr (by simp [e])
theorem pairsL_rising {m : List Tr} (hm : Rising m) : RisingP (pairsL m) := by
  have := (pairsL_at hm m.length (Nat.le_refl _)).1
  rwa [List.take_length] at this
theorem pairsL_mem {m : List Tr} (hm : Rising m) (p : Pr) : p ∈ pairsL m ↔ ∃ x ∈ m, pairOf x = p := by
  have := (pairsL_at hm m.length (Nat.le_refl _)).2.1 p
  rwa [List.take_length] at this
theorem pairsL_len {m : List Tr} (hm : Rising m) : (pairsL m).length ≤ m.length := by
  have := (pairsL_at hm m.length (Nat.le_refl _)).2.2.2
  rwa [List.take_length] at this
theorem pairs_two {a b u : List Tr} (hu : JoinOf a b u) : pairsL u = pairs2 a b := risingP_unique _ _ (pairsL_rising hu.1) (pairs2_rising _ _) fun p => by
  rw [pairsL_mem hu.1, pairs2_mem]
  constructor
  · rintro ⟨x, hx, e⟩
    rcases (hu.2 x).1 hx with h | h
    · exact .inl ⟨x, h, e⟩
    · exact .inr ⟨x, h, e⟩
  · rintro (⟨x, hx, e⟩ | ⟨x, hx, e⟩)
    · exact ⟨x, (hu.2 x).2 (.inl hx), e⟩
    · exact ⟨x, (hu.2 x).2 (.inr hx), e⟩
theorem pairs_three {o a b v u : List Tr} (hv : JoinOf o a v) (hu : JoinOf v b u) : pairsL u = pairs3 o a b := risingP_unique _ _ (pairsL_rising hu.1) (pairs3_rising _ _ _) fun p => by
  rw [pairsL_mem hu.1, pairs3_mem]
  constructor
  · rintro ⟨x, hx, e⟩
    rcases (hu.2 x).1 hx with h | h
    · rcases (hv.2 x).1 h with h | h
      · exact .inl ⟨x, h, e⟩
      · exact .inr (.inl ⟨x, h, e⟩)
    · exact .inr (.inr ⟨x, h, e⟩)
  · rintro (⟨x, hx, e⟩ | ⟨x, hx, e⟩ | ⟨x, hx, e⟩)
    · exact ⟨x, (hu.2 x).2 (.inl ((hv.2 x).2 (.inl hx))), e⟩
    · exact ⟨x, (hu.2 x).2 (.inl ((hv.2 x).2 (.inr hx))), e⟩
    · exact ⟨x, (hu.2 x).2 (.inr hx), e⟩

/-- what the calls tell -/
def threeN (o a b : List Tr) : Int := orN (sortedN o) (orN (sortedN a) (sortedN b))
def mergeN (o a b : List Tr) : Int := orN (threeN o a b) (if clashL o a b = [] then (if (outL o a b true).length ≤ 200 then 0 else 4) else 9)
def mergeT (o a b : List Tr) : List Tr := if mergeN o a b = 0 then outL o a b true else []
def mergeC (o a b : List Tr) : List Pr := if threeN o a b = 0 then clashL o a b else []
def preferN (o a b : List Tr) (first : Bool) : Int := orN (threeN o a b) (if (outL o a b first).length ≤ 200 then 0 else 4)
def preferT (o a b : List Tr) (first : Bool) : List Tr := if preferN o a b first = 0 then outL o a b first else []
def pairsC (a b : List Tr) : List Pr := if bothN a b = 0 then diffL a b else []
end Go.Proofs.Ytifkcoappflenag

/- Pairs as plain data: a row of them in memory. -/
namespace Go.Proofs.Ytifkcoappflenag
open Go Go.RowKit Go.Proofs
set_option synthInstance.maxSize 1000

/-- a pair's six cells -/
def encP (x : Pr) : List Value := [.int .i64 x.1.1, .string ⟨x.1.2.1.toArray⟩, .string ⟨x.1.2.2.toArray⟩, .int .i64 x.2.1, .string ⟨x.2.2.1.toArray⟩, .string ⟨x.2.2.2.toArray⟩]
def cellsP (l : List Pr) : List Value := l.flatMap encP
def valP (x : Pr) : Value := .agg #[.int .i64 x.1.1, .string ⟨x.1.2.1.toArray⟩, .string ⟨x.1.2.2.toArray⟩, .int .i64 x.2.1, .string ⟨x.2.2.1.toArray⟩, .string ⟨x.2.2.2.toArray⟩]
theorem encP_len (x : Pr) : (encP x).length = 6 := rfl
theorem encP_one (x : Pr) : ∀ v ∈ encP x, v.oneCell' = true := by
  intro v hv
  simp [encP] at hv
  rcases hv with rfl | rfl | rfl | rfl | rfl | rfl <;> rfl
theorem cellsP_len (l : List Pr) : (cellsP l).length = l.length * 6 := by
  induction l with
  | nil => rfl
  | cons x r ih => simp only [cellsP, List.flatMap_cons, List.length_append, List.length_cons] at *; rw [ih, encP_len]; omega
theorem cellsP_one (l : List Pr) : ∀ v ∈ cellsP l, v.oneCell' = true := by
  intro v hv
  simp only [cellsP, List.mem_flatMap] at hv
  obtain ⟨x, _, hx⟩ := hv
  exact encP_one x v hx
theorem cellsP_at (l : List Pr) (i : Nat) (h : i < l.length) (j : Nat) (hj : j < 6) : (cellsP l)[i * 6 + j]? = (encP l[i])[j]? := by
  induction l generalizing i with
  | nil => simp at h
  | cons x r ih =>
    simp only [cellsP, List.flatMap_cons] at *
    cases i with
    | zero => rw [List.getElem?_append_left (by rw [encP_len]; omega)]; simp
    | succ n =>
      rw [List.getElem?_append_right (by rw [encP_len]; omega), encP_len, show (n + 1) * 6 + j - 6 = n * 6 + j by omega, ih n (by simpa using h)]
      simp
/-- the row of cells at a place is these pairs' -/
def RowP (w : World) (b o : Nat) (l : List Pr) : Prop := ∀ j v, (cellsP l)[j]? = some v → w.cell? ⟨b, o + j, none⟩ = some v
theorem RowP.below {w w' : World} {b o : Nat} {l : List Pr} (h : RowP w b o l) (hb : RowKit.Below w.heap.size w w') : RowP w' b o l := fun j v hv =>
  (hb.cell (World.block_lt_of_cell? w _ (h j v hv))).trans (h j v hv)
theorem RowP.at {w : World} {b o : Nat} {l : List Pr} (h : RowP w b o l) (i : Nat) (hi : i < l.length) :
    w.cell? ⟨b, o + i * 6, none⟩ = some (.int .i64 l[i].1.1) ∧ w.cell? ⟨b, o + i * 6 + 1, none⟩ = some (.string ⟨l[i].1.2.1.toArray⟩) ∧ w.cell? ⟨b, o + i * 6 + 2, none⟩ = some (.string ⟨l[i].1.2.2.toArray⟩)
    ∧ w.cell? ⟨b, o + i * 6 + 3, none⟩ = some (.int .i64 l[i].2.1) ∧ w.cell? ⟨b, o + i * 6 + 4, none⟩ = some (.string ⟨l[i].2.2.1.toArray⟩) ∧ w.cell? ⟨b, o + i * 6 + 5, none⟩ = some (.string ⟨l[i].2.2.2.toArray⟩) := by
  have q : ∀ j v, j < 6 → (encP l[i])[j]? = some v → w.cell? ⟨b, o + i * 6 + j, none⟩ = some v := fun j v hj hv => by
    rw [Nat.add_assoc]; exact h _ v (by rw [cellsP_at l i hi j hj]; exact hv)
  exact ⟨q 0 _ (by omega) rfl, q 1 _ (by omega) rfl, q 2 _ (by omega) rfl, q 3 _ (by omega) rfl, q 4 _ (by omega) rfl, q 5 _ (by omega) rfl⟩
/-- a slice holds a list of pairs: of an empty one nothing is said -/
def SlP (w : World) (ad : Option Addr) (l : List Pr) : Prop := l ≠ [] → ∃ b o, ad = some ⟨b, o, none⟩ ∧ RowP w b o l
theorem SlP.below {w w' : World} {ad : Option Addr} {l : List Pr} (h : SlP w ad l) (hb : RowKit.Below w.heap.size w w') : SlP w' ad l := fun hl => by
  obtain ⟨b, o, e, r⟩ := h hl
  exact ⟨b, o, e, r.below hb⟩
theorem SlP.at {w : World} {ad : Option Addr} {l : List Pr} (h : SlP w ad l) (i : Nat) (hi : i < l.length) : ∃ b o, ad = some ⟨b, o, none⟩ ∧ RowP w b o l :=
  h (fun e => by rw [e] at hi; simp at hi)
theorem slP_nil (W : World) (ad : Option Addr) : SlP W ad [] := fun h => absurd rfl h
theorem own_slP {W : World} {base : Nat} {e : TypeId} {v : Value} {t : List Pr} (h : W.ownsRow base e 6 v t.length (cellsP t)) : ∃ ad cap, v = .slice ad t.length cap ∧ SlP W ad t := by
  have h' := h
  rcases h.2 with ⟨rfl, h0⟩ | ⟨g, cap, cur, rfl, _⟩
  · exact ⟨none, 0, by rw [h0], fun hne => absurd (List.eq_nil_of_length_eq_zero h0) hne⟩
  · refine ⟨some ⟨g, 0, none⟩, cap, rfl, fun _ => ⟨g, 0, rfl, fun j u hj => ?_⟩⟩
    have := h'.cells (g := g) rfl j u hj
    rwa [Addr.add_lit] at this
theorem infoP : (Try.prog.info? 41).map (fun i => (i.zero, i.size, i.bytes)) = some (some (.agg (encP ((0, [], []), (0, [], []))).toArray), 6, 80) := by kernel_rfl
theorem ofL_len (m : List Tr) (p : Pr) : (ofL m p).length ≤ m.length := List.length_filter_le _ _
theorem cmpT_pair (x : Tr) (p : Pr) : pairOf x = p ↔ cmpTm x.1 p.1 = 0 ∧ cmpTm x.2.1 p.2 = 0 := by
  rw [cmpTm_zero, cmpTm_zero]
  unfold pairOf
  constructor
  · intro h; rw [← h]; exact ⟨rfl, rfl⟩
  · rintro ⟨h1, h2⟩; rw [h1, h2]
end Go.Proofs.Ytifkcoappflenag

/- A merge's face: what the laws ask of the program's merge, whatever it is made of. -/
namespace Go.Proofs.Ytifkcoappflenag
open Go Go.RowKit Go.Proofs
set_option synthInstance.maxSize 1000

/-- a list that a caller hands in -/
structure SetIn (w : World) (ad : Option Addr) (l : List Tr) : Prop where
  sl : SlT w ad l
  fit : ∀ x ∈ l, fitTr x
  len : l.length ≤ maxLen
theorem SetIn.below {w w' : World} {ad : Option Addr} {l : List Tr} (h : SetIn w ad l) (hb : RowKit.Below w.heap.size w w') : SetIn w' ad l := ⟨h.sl.below hb, h.fit, h.len⟩
theorem SetIn.max {w : World} {ad : Option Addr} {l : List Tr} (h : SetIn w ad l) : l.length ≤ 9223372036854775807 := by have := h.len; unfold maxLen at this; omega
/-- what is answered of three sets -/
def MergeAns (o a b : List Tr) (w : World) (e : Ending) (w' : World) : Prop := ∃ xd xc yd yc, e = .returned (.tuple #[.slice xd (mergeT o a b).length xc, .slice yd (mergeC o a b).length yc, errV (mergeN o a b)]) ∧ SlT w' xd (mergeT o a b) ∧ SlP w' yd (mergeC o a b) ∧ RowKit.Below w.heap.size w w'
def PreferAns (o a b : List Tr) (first : Bool) (w : World) (e : Ending) (w' : World) : Prop := ∃ xd xc, e = .returned (.tuple #[.slice xd (preferT o a b first).length xc, errV (preferN o a b first)]) ∧ SlT w' xd (preferT o a b first) ∧ RowKit.Below w.heap.size w w'
def PairsAns (a b : List Tr) (w : World) (e : Ending) (w' : World) : Prop := ∃ yd yc, e = .returned (.tuple #[.slice yd (pairsC a b).length yc, errV (bothN a b)]) ∧ SlP w' yd (pairsC a b) ∧ RowKit.Below w.heap.size w w'
structure MFace where
  merge : ∀ (w : World) (od ad bd : Option Addr) (oc ca cb : Nat) (o a b : List Tr), SetIn w od o → SetIn w ad a → SetIn w bd b →
    Calls Try.prog 10 #[.slice od o.length oc, .slice ad a.length ca, .slice bd b.length cb] w (MergeAns o a b w)
  prefer : ∀ (w : World) (od ad bd : Option Addr) (oc ca cb : Nat) (o a b : List Tr) (first : Bool), SetIn w od o → SetIn w ad a → SetIn w bd b →
    Calls Try.prog 13 #[.slice od o.length oc, .slice ad a.length ca, .slice bd b.length cb, .bool first] w (PreferAns o a b first w)
  pairs : ∀ (w : World) (ad bd : Option Addr) (ca cb : Nat) (a b : List Tr), SetIn w ad a → SetIn w bd b →
    Calls Try.prog 8 #[.slice ad a.length ca, .slice bd b.length cb] w (PairsAns a b w)
/-! ### in plain words -/
theorem three_both (o a b : List Tr) : threeN o a b = if bothN o a = 0 then sortedN b else bothN o a := by
  unfold threeN orN bothN
  by_cases h1 : sortedN o = 0
  · rw [if_pos h1, if_pos h1]
  · rw [if_neg h1, if_neg h1, if_neg h1]
theorem three_zero {o a b : List Tr} : threeN o a b = 0 ↔ IsSet o ∧ IsSet a ∧ IsSet b := by
  unfold threeN
  rw [orN_zero, orN_zero, sortedN_set, sortedN_set, sortedN_set]
theorem three_swap (o a b : List Tr) : threeN o a b = 0 ↔ threeN o b a = 0 := by
  rw [three_zero, three_zero]
  constructor
  · rintro ⟨h1, h2, h3⟩; exact ⟨h1, h3, h2⟩
  · rintro ⟨h1, h2, h3⟩; exact ⟨h1, h3, h2⟩
theorem mergeT_len (o a b : List Tr) : (mergeT o a b).length ≤ 200 := by
  unfold mergeT
  split
  · rename_i h
    unfold mergeN at h
    have h2 := (orN_zero.1 h).2
    split at h2
    · split at h2
      · assumption
      · cases h2
    · cases h2
  · simp
theorem preferT_len (o a b : List Tr) (first : Bool) : (preferT o a b first).length ≤ 200 := by
  unfold preferT
  split
  · rename_i h
    unfold preferN at h
    have h2 := (orN_zero.1 h).2
    split at h2
    · assumption
    · cases h2
  · simp
theorem mergeC_len (o a b : List Tr) : (mergeC o a b).length ≤ 1000 := by
  unfold mergeC
  split
  · rename_i h
    obtain ⟨h1, h2, h3⟩ := three_zero.1 h
    have h4 : (clashL o a b).length ≤ (pairs3 o a b).length := List.length_filter_le _ _
    have h5 := pairs3_len o a b
    have := h1.1
    have := h2.1
    have := h3.1
    omega
  · simp
theorem pairsC_len (a b : List Tr) : (pairsC a b).length ≤ 1000 := by
  unfold pairsC
  split
  · rename_i h
    obtain ⟨h1, h2⟩ := bothN_zero.1 h
    have h4 : (diffL a b).length ≤ (pairs2 a b).length := List.length_filter_le _ _
    have h5 : (pairs2 a b).length ≤ a.length + b.length := by
      have h6 := allP_len b (allP [] a)
      have h7 := allP_len a []
      unfold pairs2
      simp at h7
      omega
    have := h1.1
    have := h2.1
    omega
  · simp
theorem merge_bad {o a b : List Tr} (h : threeN o a b ≠ 0) : mergeN o a b = threeN o a b ∧ mergeT o a b = [] ∧ mergeC o a b = [] := by
  have e : mergeN o a b = threeN o a b := orN_neg h
  exact ⟨e, by unfold mergeT; rw [if_neg (by rw [e]; exact h)], by unfold mergeC; rw [if_neg h]⟩
theorem prefer_bad {o a b : List Tr} (first : Bool) (h : threeN o a b ≠ 0) : preferN o a b first = threeN o a b ∧ preferT o a b first = [] := by
  have e : preferN o a b first = threeN o a b := orN_neg h
  exact ⟨e, by unfold preferT; rw [if_neg (by rw [e]; exact h)]⟩
theorem merge_clash {o a b : List Tr} (h : threeN o a b = 0) (hc : clashL o a b ≠ []) : mergeN o a b = 9 ∧ mergeT o a b = [] ∧ mergeC o a b = clashL o a b := by
  have e : mergeN o a b = 9 := by unfold mergeN; rw [orN_pos h, if_neg hc]
  exact ⟨e, by unfold mergeT; rw [if_neg (by rw [e]; decide)], by unfold mergeC; rw [if_pos h]⟩
theorem merge_full {o a b : List Tr} (h : threeN o a b = 0) (hc : clashL o a b = []) (hl : 200 < (outL o a b true).length) : mergeN o a b = 4 ∧ mergeT o a b = [] ∧ mergeC o a b = [] := by
  have e : mergeN o a b = 4 := by unfold mergeN; rw [orN_pos h, if_pos hc, if_neg (by omega)]
  exact ⟨e, by unfold mergeT; rw [if_neg (by rw [e]; decide)], by unfold mergeC; rw [if_pos h, hc]⟩
theorem merge_good {o a b : List Tr} (h : threeN o a b = 0) (hc : clashL o a b = []) (hl : (outL o a b true).length ≤ 200) : mergeN o a b = 0 ∧ mergeT o a b = outL o a b true ∧ mergeC o a b = [] := by
  have e : mergeN o a b = 0 := by unfold mergeN; rw [orN_pos h, if_pos hc, if_pos hl]
  exact ⟨e, by unfold mergeT; rw [if_pos e], by unfold mergeC; rw [if_pos h, hc]⟩
theorem prefer_full {o a b : List Tr} {first : Bool} (h : threeN o a b = 0) (hl : 200 < (outL o a b first).length) : preferN o a b first = 4 ∧ preferT o a b first = [] := by
  have e : preferN o a b first = 4 := by unfold preferN; rw [orN_pos h, if_neg (by omega)]
  exact ⟨e, by unfold preferT; rw [if_neg (by rw [e]; decide)]⟩
theorem prefer_good {o a b : List Tr} {first : Bool} (h : threeN o a b = 0) (hl : (outL o a b first).length ≤ 200) : preferN o a b first = 0 ∧ preferT o a b first = outL o a b first := by
  have e : preferN o a b first = 0 := by unfold preferN; rw [orN_pos h, if_pos hl]
  exact ⟨e, by unfold preferT; rw [if_pos e]⟩
end Go.Proofs.Ytifkcoappflenag
