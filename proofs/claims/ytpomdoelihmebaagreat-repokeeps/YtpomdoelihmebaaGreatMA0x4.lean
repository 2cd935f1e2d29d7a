import Derived.Test.YtpomdoelihmebaaGreatMA0x0

/- Bases in plain words: of those that two have, the ones that no other one of them comes of. -/
namespace Go.Proofs.YtpomdoelihmebaaGreat
open Go Go.RowKit Go.Proofs
set_option synthInstance.maxSize 1000

def isBase (l : List Cm) (a b z : Nat) : Prop := Up l a z ∧ Up l b z ∧ ∀ c, Up l a c → Up l b c → c ≠ z → ¬ Up l c z
def dbothN (x y : List Nat) : List Nat := x.filter fun k => decide (k ∈ y)
theorem both_next {x y : List Nat} {k : Nat} (hk : k < x.length) : dbothN (x.take (k + 1)) y = dbothN (x.take k) y ++ if x[k] ∈ y then [x[k]] else [] := by
  unfold dbothN
  rw [List.take_succ_eq_append_getElem hk, List.filter_append, List.filter_cons]
  simp
theorem both_rise {x y : List Nat} (h : RiseN x) : RiseN (dbothN x y) := List.Pairwise.filter _ h
theorem both_len (x y : List Nat) : (dbothN x y).length ≤ x.length := List.length_filter_le _ _
/-- below: another one of the list comes of number q of it -/
def belowP (l : List Cm) (t : List Nat) (q m : Nat) : Prop := ∃ r, r < m ∧ r ≠ q ∧ Up l (t.getD r 0) (t.getD q 0)
theorem below_next {l : List Cm} {t : List Nat} {q m : Nat} : belowP l t q (m + 1) ↔ belowP l t q m ∨ (m ≠ q ∧ Up l (t.getD m 0) (t.getD q 0)) := by
  constructor
  · rintro ⟨r, h1, h2, h3⟩
    rcases (by omega : r < m ∨ r = m) with h | rfl
    · exact Or.inl ⟨r, h, h2, h3⟩
    · exact Or.inr ⟨h2, h3⟩
  · rintro (⟨r, h1, h2, h3⟩ | ⟨h2, h3⟩)
    · exact ⟨r, by omega, h2, h3⟩
    · exact ⟨m, by omega, h2, h3⟩
/-- what is told as far as i -/
def OutsTo (l : List Cm) (t : List Nat) (i : Nat) (m : List Nat) : Prop := RiseN m ∧ m.length ≤ i ∧ ∀ z, z ∈ m ↔ ∃ q, q < i ∧ q < t.length ∧ z = t.getD q 0 ∧ ¬ belowP l t q t.length
theorem OutsTo.nil (l : List Cm) (t : List Nat) : OutsTo l t 0 [] := ⟨List.Pairwise.nil, by simp, fun z => ⟨fun h => by simp at h, fun ⟨q, h, _⟩ => by omega⟩⟩
theorem rise_get {t : List Nat} (h : RiseN t) {p q : Nat} (hpq : p < q) (hq : q < t.length) : t.getD p 0 < t.getD q 0 := by
  rw [List.getD_eq_getElem?_getD, List.getD_eq_getElem?_getD, List.getElem?_eq_getElem hq, List.getElem?_eq_getElem (show p < t.length by omega)]
  exact List.pairwise_iff_getElem.1 h p q (by omega) hq hpq
theorem OutsTo.skip {l : List Cm} {t : List Nat} {i : Nat} {m : List Nat} (h : OutsTo l t i m) (hb : belowP l t i t.length) : OutsTo l t (i + 1) m := by
  refine ⟨h.1, by have := h.2.1; omega, fun z => ?_⟩
  rw [h.2.2 z]
  constructor
  · rintro ⟨q, h1, h2⟩; exact ⟨q, by omega, h2⟩
  · rintro ⟨q, h1, h2, h3, h4⟩
    rcases (by omega : q < i ∨ q = i) with h5 | rfl
    · exact ⟨q, h5, h2, h3, h4⟩
    · exact absurd hb h4
theorem OutsTo.more {l : List Cm} {t : List Nat} {i : Nat} {m : List Nat} (h : OutsTo l t i m) (ht : RiseN t) (hi : i < t.length) (hb : ¬ belowP l t i t.length) : OutsTo l t (i + 1) (m ++ [t.getD i 0]) := by
  refine ⟨List.pairwise_append.2 ⟨h.1, List.pairwise_singleton _ _, fun x hx y hy => ?_⟩, by have := h.2.1; simp; omega, fun z => ?_⟩
  · rw [List.mem_singleton.1 hy]
    obtain ⟨q, h1, _, rfl, _⟩ := (h.2.2 x).1 hx
    exact rise_get ht h1 hi
  · rw [List.mem_append, h.2.2 z, List.mem_singleton]
    constructor
    · rintro (⟨q, h1, h2⟩ | rfl)
      · exact ⟨q, by omega, h2⟩
      · exact ⟨i, by omega, hi, rfl, hb⟩
    · rintro ⟨q, h1, h2, h3, h4⟩
      rcases (by omega : q < i ∨ q = i) with h5 | rfl
      · exact Or.inl ⟨q, h5, h2, h3, h4⟩
      · exact Or.inr h3
theorem outs_base {l : List Cm} {a b : Nat} {x y m : List Nat} (hx : RiseN x) (ux : ∀ k, k ∈ x ↔ Up l a k) (uy : ∀ k, k ∈ y ↔ Up l b k) (h : OutsTo l (dbothN x y) (dbothN x y).length m) : ∀ z, z ∈ m ↔ isBase l a b z := by
  have hm : ∀ z, z ∈ dbothN x y ↔ Up l a z ∧ Up l b z := fun z => by
    unfold dbothN
    rw [List.mem_filter, ux, decide_eq_true_eq, uy]
  have ht := both_rise (y := y) hx
  have hmem : ∀ q, q < (dbothN x y).length → (dbothN x y).getD q 0 ∈ dbothN x y := fun q hq => by
    rw [List.getD_eq_getElem?_getD, List.getElem?_eq_getElem hq]
    exact List.getElem_mem hq
  have hidx : ∀ z ∈ dbothN x y, ∃ q, q < (dbothN x y).length ∧ (dbothN x y).getD q 0 = z := fun z hz => by
    obtain ⟨q, hq, e⟩ := List.getElem_of_mem hz
    exact ⟨q, hq, by rw [List.getD_eq_getElem?_getD, List.getElem?_eq_getElem hq]; exact e⟩
  intro z
  rw [h.2.2 z]
  constructor
  · rintro ⟨q, _, hq, rfl, hb⟩
    obtain ⟨h1, h2⟩ := (hm _).1 (hmem q hq)
    refine ⟨h1, h2, fun c hca hcb hne hu => hb ?_⟩
    obtain ⟨r, hr, rfl⟩ := hidx c ((hm c).2 ⟨hca, hcb⟩)
    exact ⟨r, hr, fun e => hne (by rw [e]), hu⟩
  · rintro ⟨h1, h2, h3⟩
    obtain ⟨q, hq, rfl⟩ := hidx z ((hm z).2 ⟨h1, h2⟩)
    refine ⟨q, hq, hq, rfl, ?_⟩
    rintro ⟨r, hr, hne, hu⟩
    obtain ⟨h4, h5⟩ := (hm _).1 (hmem r hr)
    refine h3 _ h4 h5 (fun e => ?_) hu
    rcases (by omega : r < q ∨ q < r) with h6 | h6
    · have := rise_get ht h6 hq; omega
    · have := rise_get ht h6 hr; omega
end Go.Proofs.YtpomdoelihmebaaGreat

/- A dag's face: what the laws ask of the program's dag, whatever it is made of. -/
namespace Go.Proofs.YtpomdoelihmebaaGreat
open Go Go.RowKit Go.Proofs
set_option synthInstance.maxSize 1000

def natI (m : List Nat) : List Int := m.map fun k : Nat => (k : Int)
theorem natI_len (m : List Nat) : (natI m).length = m.length := by simp [natI]
theorem natI_inj {m q : List Nat} (h : natI m = natI q) : m = q := by
  induction m generalizing q with
  | nil => cases q with
    | nil => rfl
    | cons b r => simp [natI] at h
  | cons a s ih => cases q with
    | nil => simp [natI] at h
    | cons b r =>
      simp only [natI, List.map_cons, List.cons.injEq] at h
      rw [show a = b by omega, ih h.2]
/-- commits in a list that a caller holds -/
structure ComsOK (w : World) (ad : Option Addr) (ca : Nat) (l : List Cm) : Prop where
  sl : SlC w ad l
  cap : l.length ≤ ca
  len : l.length ≤ maxLen
  pars : ∀ c ∈ l, c.1.length ≤ maxLen
  msg : ∀ c ∈ l, c.2.2.length ≤ maxLen
  caps : ∀ b o, ad = some ⟨b, o, none⟩ → ∀ i, i < l.length → ∀ a n c, w.cell? ⟨b, o + i * 3, none⟩ = some (.slice a n c) → n ≤ c
theorem ComsOK.below {w w' : World} {ad : Option Addr} {ca : Nat} {l : List Cm} (h : ComsOK w ad ca l) (hb : RowKit.Below w.heap.size w w') : ComsOK w' ad ca l := by
  refine ⟨h.sl.below hb, h.cap, h.len, h.pars, h.msg, fun b o e i hi a n c hc => h.caps b o e i hi a n c ?_⟩
  obtain ⟨b', o', a', c', e', h2, _⟩ := h.sl.at hi
  rw [e] at e'
  cases e'
  rw [← hb.cell (p := ⟨b, o + i * 3, none⟩) (World.block_lt_of_cell? w _ h2)]
  exact hc

def ancE (l : List Cm) (i : Int) : Int := if (comsN l).2 ≠ 0 then (comsN l).2 else if 0 ≤ i ∧ i < l.length then 0 else 1
def twoE (l : List Cm) (a b : Int) : Int := if ancE l a ≠ 0 then ancE l a else ancE l b
theorem ancE_zero {l : List Cm} {i : Int} (h : ancE l i = 0) : GoodC l ∧ 0 ≤ i ∧ i < l.length := by
  unfold ancE at h
  split at h
  · rename_i h1; exact absurd h h1
  · rename_i h1
    split at h
    · rename_i h2; exact ⟨coms_good.1 (by simpa using h1), h2⟩
    · simp at h
theorem ancE_good {l : List Cm} {i : Int} (h : GoodC l) (h0 : 0 ≤ i) (h1 : i < l.length) : ancE l i = 0 := by
  unfold ancE
  rw [if_neg (by simp; exact coms_good.2 h), if_pos ⟨h0, h1⟩]
theorem twoE_zero {l : List Cm} {a b : Int} : twoE l a b = 0 ↔ ancE l a = 0 ∧ ancE l b = 0 := by
  unfold twoE
  by_cases h : ancE l a = 0
  · simp [h]
  · simp [h]

def upP (l : List Cm) (i : Nat) (m : List Nat) : Prop := RiseN m ∧ ∀ k, k ∈ m ↔ Up l i k
def logP (l : List Cm) (i : Nat) (m : List Nat) : Prop := upP l i m.reverse
def baseP (l : List Cm) (a b : Nat) (m : List Nat) : Prop := RiseN m ∧ ∀ z, z ∈ m ↔ isBase l a b z
/-- a list and an error: with an error there is none -/
def ListAns (w : World) (f : Int) (P : List Nat → Prop) (e : Ending) (w' : World) : Prop :=
  ∃ (ad : Option Addr) (c : Nat) (m : List Nat), e = .returned (.tuple #[.slice ad m.length c, errV f]) ∧ (f = 0 → P m) ∧ (f ≠ 0 → m = []) ∧ SlI w' ad (natI m) ∧ RowKit.Below w.heap.size w w' ∧ m.length ≤ 60 ∧ (m ≠ [] → ∀ d, ad = some d → w.heap.size ≤ d.block) ∧ m.length ≤ c

structure DFace where
  check : ∀ (w : World) (ad : Option Addr) (ca : Nat) (l : List Cm), ComsOK w ad ca l →
    Calls Tryz.prog 11 #[.slice ad l.length ca] w fun e w' => e = .returned (.tuple #[.int .i64 ((comsN l).1 : Int), errV (comsN l).2]) ∧ RowKit.Below w.heap.size w w'
end Go.Proofs.YtpomdoelihmebaaGreat
