/- Layers: what is wrong with one, what it makes of a set, what is between two sets; the theory. -/
import Derived.Test.YtonmmnhikjfibadGreatDoorSetOps
import Derived.Test.YtonmmnhikjfibadGreatDoorTripleSame
namespace Go.Proofs.YtonmmnhikjfibadGreatDoor
open Go Go.RowKit Go.Proofs
set_option synthInstance.maxSize 1000

/-- the first that is wrong -/
def orN (a b : Int) : Int := if a = 0 then b else a
theorem orN_zero {a b : Int} : orN a b = 0 ↔ a = 0 ∧ b = 0 := by
  unfold orN
  by_cases h : a = 0
  · rw [if_pos h]; exact ⟨fun e => ⟨h, e⟩, fun e => e.2⟩
  · rw [if_neg h]; exact ⟨fun e => absurd e h, fun e => absurd e.1 h⟩
theorem orN_pos {a b : Int} (h : a = 0) : orN a b = b := if_pos h
theorem orN_neg {a b : Int} (h : ¬ a = 0) : orN a b = a := if_neg h

def apartN (a b : List Tr) : Int := orN (bothN a b) (if (bothL a b).length = 0 then 0 else 7)
def withinN (s t : List Tr) : Int := orN (bothN t s) (if (lessL t s).length = 0 then 0 else 5)
def swapN (s o i : List Tr) : Int := orN (bothN s o) (joinN (lessL s o) i)
def SwapAns (s o i m : List Tr) : Prop := (swapN s o i = 0 → JoinOf (lessL s o) i m) ∧ (swapN s o i ≠ 0 → m = [])
def applyN (s add take : List Tr) : Int := orN (sortedN s) (orN (apartN add take) (orN (apartN s add) (orN (withinN s take) (swapN s take add))))
def ApplyAns (s add take m : List Tr) : Prop := (applyN s add take = 0 → JoinOf (lessL s take) add m) ∧ (applyN s add take ≠ 0 → m = [])
def followsN (a1 a2 b1 b2 : List Tr) : Int := orN (apartN a1 a2) (orN (apartN b1 b2) (orN (apartN a1 b1) (apartN a2 b2)))
def afterN (did undid does undoes : List Tr) : Int := orN (bothN does undid) (swapN did undoes (lessL does undid))
def AfterAns (did undid does undoes m : List Tr) : Prop := (afterN did undid does undoes = 0 → JoinOf (lessL did undoes) (lessL does undid) m) ∧ (afterN did undid does undoes ≠ 0 → m = [])
def thenN (a1 a2 b1 b2 : List Tr) : Int := orN (followsN a1 a2 b1 b2) (orN (afterN a1 a2 b1 b2) (afterN a2 a1 b2 b1))
def ThenAns (a1 a2 b1 b2 m1 m2 : List Tr) : Prop := (thenN a1 a2 b1 b2 = 0 → JoinOf (lessL a1 b2) (lessL b1 a2) m1 ∧ JoinOf (lessL a2 b1) (lessL b2 a1) m2) ∧ (thenN a1 a2 b1 b2 ≠ 0 → m1 = [] ∧ m2 = [])
def BtwAns (a b m1 m2 : List Tr) : Prop := (bothN a b = 0 → m1 = lessL b a ∧ m2 = lessL a b) ∧ (bothN a b ≠ 0 → m1 = [] ∧ m2 = [])
def TurnAns (add take m1 m2 : List Tr) : Prop := (apartN add take = 0 → m1 = take ∧ m2 = add) ∧ (apartN add take ≠ 0 → m1 = [] ∧ m2 = [])

theorem bothN_comm0 {a b : List Tr} (h : bothN a b = 0) : bothN b a = 0 := bothN_zero.2 ⟨(bothN_zero.1 h).2, (bothN_zero.1 h).1⟩
theorem lessSet {a b : List Tr} (h : IsSet a) : IsSet (lessL a b) := h.filter _
theorem bothSet {a b : List Tr} (h : IsSet a) : IsSet (bothL a b) := h.filter _

theorem joinN_of {a b m : List Tr} (sa : IsSet a) (sb : IsSet b) (h : JoinOf a b m) (hm : m.length ≤ 200) : joinN a b = 0 := by
  unfold joinN
  rw [if_pos (bothN_zero.2 ⟨sa, sb⟩), if_pos]
  rw [← h.len sa.2.2 sb.2.2]
  exact hm
theorem apartN_of {a b : List Tr} (sa : IsSet a) (sb : IsSet b) (h : ∀ x, x ∈ a → x ∉ b) : apartN a b = 0 := by
  unfold apartN
  rw [orN_pos (bothN_zero.2 ⟨sa, sb⟩), if_pos]
  rw [List.length_eq_zero_iff, List.eq_nil_iff_forall_not_mem]
  intro x hx
  exact h x (mem_bothL.1 hx).1 (mem_bothL.1 hx).2
theorem withinN_of {s t : List Tr} (ss : IsSet s) (st : IsSet t) (h : ∀ x, x ∈ t → x ∈ s) : withinN s t = 0 := by
  unfold withinN
  rw [orN_pos (bothN_zero.2 ⟨st, ss⟩), if_pos]
  rw [List.length_eq_zero_iff, List.eq_nil_iff_forall_not_mem]
  intro x hx
  exact (mem_lessL.1 hx).2 (h x (mem_lessL.1 hx).1)
theorem swapN_of {s o i m : List Tr} (ss : IsSet s) (so : IsSet o) (si : IsSet i) (h : JoinOf (lessL s o) i m) (hm : m.length ≤ 200) : swapN s o i = 0 := by
  unfold swapN
  rw [orN_pos (bothN_zero.2 ⟨ss, so⟩)]
  exact joinN_of (lessSet ss) si h hm

/-- there: what is between two sets makes of the one the other -/
theorem there {a b : List Tr} (sb : IsSet b) : JoinOf (lessL a (lessL a b)) (lessL b a) b := by
  refine ⟨sb.2.2, fun x => ?_⟩
  simp only [mem_lessL]
  by_cases h1 : x ∈ a <;> by_cases h2 : x ∈ b <;> simp [h1, h2]
theorem btw_check {a b : List Tr} (sa : IsSet a) (sb : IsSet b) : apartN (lessL b a) (lessL a b) = 0 :=
  apartN_of (lessSet sb) (lessSet sa) fun _ h1 h2 => (mem_lessL.1 h1).2 (mem_lessL.1 h2).1
theorem apply_btw {a b : List Tr} (sa : IsSet a) (sb : IsSet b) : applyN a (lessL b a) (lessL a b) = 0 := by
  unfold applyN
  rw [orN_pos (sortedN_set.2 sa), orN_pos (btw_check sa sb), orN_pos (apartN_of sa (lessSet sb) fun _ h1 h2 => (mem_lessL.1 h2).2 h1), orN_pos (withinN_of sa (lessSet sa) fun _ h => (mem_lessL.1 h).1)]
  exact swapN_of sa (lessSet sa) (lessSet sb) (there sb) sb.1
theorem apply_btw_ans {a b m : List Tr} (sa : IsSet a) (sb : IsSet b) (h : ApplyAns a (lessL b a) (lessL a b) m) : m = b :=
  (h.1 (apply_btw sa sb)).unique (there sb)

/-- of three: one behind the other comes to what is between the ends -/
theorem thread {a b c : List Tr} (sc : IsSet c) : JoinOf (lessL (lessL b a) (lessL b c)) (lessL (lessL c b) (lessL a b)) (lessL c a) := by
  refine ⟨(lessSet sc).2.2, fun x => ?_⟩
  simp only [mem_lessL]
  by_cases h1 : x ∈ a <;> by_cases h2 : x ∈ b <;> by_cases h3 : x ∈ c <;> simp [h1, h2, h3]
theorem thread' {a b c : List Tr} (sa : IsSet a) : JoinOf (lessL (lessL a b) (lessL c b)) (lessL (lessL b c) (lessL b a)) (lessL a c) := by
  refine ⟨(lessSet sa).2.2, fun x => ?_⟩
  simp only [mem_lessL]
  by_cases h1 : x ∈ a <;> by_cases h2 : x ∈ b <;> by_cases h3 : x ∈ c <;> simp [h1, h2, h3]
theorem afterN_of {did undid does undoes m : List Tr} (s1 : IsSet did) (s2 : IsSet undid) (s3 : IsSet does) (s4 : IsSet undoes) (h : JoinOf (lessL did undoes) (lessL does undid) m) (hm : m.length ≤ 200) : afterN did undid does undoes = 0 := by
  unfold afterN
  rw [orN_pos (bothN_zero.2 ⟨s3, s2⟩)]
  exact swapN_of s1 s4 (lessSet s3) h hm
theorem then_btw {a b c : List Tr} (sa : IsSet a) (sb : IsSet b) (sc : IsSet c) : thenN (lessL b a) (lessL a b) (lessL c b) (lessL b c) = 0 := by
  unfold thenN followsN
  rw [orN_pos (btw_check sa sb), orN_pos (btw_check sb sc), orN_pos (apartN_of (lessSet sb) (lessSet sc) fun _ h1 h2 => (mem_lessL.1 h2).2 (mem_lessL.1 h1).1),
    orN_pos (apartN_of (lessSet sa) (lessSet sb) fun _ h1 h2 => (mem_lessL.1 h1).2 (mem_lessL.1 h2).1),
    orN_pos (afterN_of (lessSet sb) (lessSet sa) (lessSet sc) (lessSet sb) (thread sc) (lessSet sc).1)]
  exact afterN_of (lessSet sa) (lessSet sb) (lessSet sb) (lessSet sc) (thread' sa) (lessSet sa).1
theorem then_btw_ans {a b c m1 m2 : List Tr} (sa : IsSet a) (sb : IsSet b) (sc : IsSet c) (h : ThenAns (lessL b a) (lessL a b) (lessL c b) (lessL b c) m1 m2) : m1 = lessL c a ∧ m2 = lessL a c :=
  ⟨(h.1 (then_btw sa sb sc)).1.unique (thread sc), (h.1 (then_btw sa sb sc)).2.unique (thread' sa)⟩

/-- a call's answer: a layer and a number -/
def LAns (n : Int) (P : List Tr → List Tr → Prop) (w : World) (e : Ending) (w' : World) : Prop := RowKit.Below w.heap.size w w' ∧ ∃ (m1 : List Tr) (a1 : Option Addr) (c1 : Nat) (m2 : List Tr) (a2 : Option Addr) (c2 : Nat), e = .returned (.tuple #[.agg #[.slice a1 m1.length c1, .slice a2 m2.length c2], errV n]) ∧ SlT w' a1 m1 ∧ SlT w' a2 m2 ∧ P m1 m2
theorem LAns.mk {n : Int} {P : List Tr → List Tr → Prop} {w w' : World} (hb : RowKit.Below w.heap.size w w') (m1 : List Tr) (a1 : Option Addr) (c1 : Nat) (m2 : List Tr) (a2 : Option Addr) (c2 : Nat) (h1 : SlT w' a1 m1) (h2 : SlT w' a2 m2) (hp : P m1 m2) : LAns n P w (.returned (.tuple #[.agg #[.slice a1 m1.length c1, .slice a2 m2.length c2], errV n])) w' := ⟨hb, m1, a1, c1, m2, a2, c2, rfl, h1, h2, hp⟩
end Go.Proofs.YtonmmnhikjfibadGreatDoor
