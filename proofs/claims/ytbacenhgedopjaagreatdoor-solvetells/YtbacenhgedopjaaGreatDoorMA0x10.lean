import Derived.Test.YtbacenhgedopjaaGreatDoorMA0x0
import Derived.OwnWalk
import Derived.Laws.OwnMore
import Derived.Deep.RegionHeld3
import Derived.Deep.AppendLies
import Derived.Deep.Draws
import Derived.Test.YtbacenhgedopjaaGreatDoorMA0x8
import Derived.Test.YtbacenhgedopjaaGreatDoorMA0x9
import Derived.Test.YtbacenhgedopjaaGreatDoorMA0x6
import Derived.Shelf.SlSortCmp.Whole1
import Derived.Lib.SlicesCompact
import Derived.Test.YtbacenhgedopjaaGreatDoorMA0x7
import Derived.Laws.EntriesVeiled
import Derived.Shelf.SlGeneric
import Derived.Test.YtbacenhgedopjaaGreatDoorProg

/- A store in plain words: objects by number; what is put, got, found, kept. -/
namespace Go.Proofs.YtbacenhgedopjaaGreatDoor
open Go Go.RowKit Go.Proofs
set_option synthInstance.maxSize 1000

/-- an object: its number, its bytes -/
abbrev Ob := Nat × List UInt8
def findO : List Ob → List UInt8 → Nat
  | [], _ => 0
  | x :: r, b => if x.2 = b then x.1 else findO r b
def getO : List Ob → Int → Option (List UInt8)
  | [], _ => none
  | x :: r, n => if (x.1 : Int) = n then some x.2 else getO r n
def sizeO (L : List Ob) : Nat := (L.map fun x => x.2.length).sum
/-- a number as an int has it -/
def wr64 (n : Int) : Int := (n + 9223372036854775808) % 18446744073709551616 - 9223372036854775808
theorem wr64_id {n : Int} (h0 : -9223372036854775808 ≤ n) (h1 : n ≤ 9223372036854775807) : wr64 n = n := by unfold wr64; omega
theorem wr64_add (a b : Int) : wr64 (wr64 a + b) = wr64 (a + b) := by unfold wr64; omega
def fullO (L : List Ob) (b : List UInt8) : Bool := decide (300 ≤ L.length ∨ 60000 < wr64 (b.length + sizeO L : Nat))
/-- put: the fault, the number, the last number and the list behind it -/
def putE (L : List Ob) (b : List UInt8) : Int := if findO L b ≠ 0 then 0 else if fullO L b = true then 4 else 0
def putI (n : Nat) (L : List Ob) (b : List UInt8) : Nat := if findO L b ≠ 0 then findO L b else if fullO L b = true then 0 else n + 1
def putM (n : Nat) (L : List Ob) (b : List UInt8) : Nat := if findO L b ≠ 0 then n else if fullO L b = true then n else n + 1
def putL (n : Nat) (L : List Ob) (b : List UInt8) : List Ob := if findO L b ≠ 0 then L else if fullO L b = true then L else L ++ [(n + 1, b)]
/-- keep: whether all are there, what is left -/
def heldO (L : List Ob) (ids : List Int) : Bool := ids.all fun i => (getO L i).isSome
def keepO (L : List Ob) (ids : List Int) : List Ob := L.filter fun x => ids.contains (x.1 : Int)
def keepE (L : List Ob) (ids : List Int) : Int := if heldO L ids = true then 0 else 5
def keepI (L : List Ob) (ids : List Int) : Nat := if heldO L ids = true then L.length - (keepO L ids).length else 0
def keepL (L : List Ob) (ids : List Int) : List Ob := if heldO L ids = true then keepO L ids else L

/-- what a store's list is: numbers rise, from 1 to the last; each object once; no more than may be -/
structure GoodO (n : Nat) (L : List Ob) : Prop where
  low : ∀ x ∈ L, 1 ≤ x.1 ∧ x.1 ≤ n
  rise : L.Pairwise fun x y => x.1 < y.1
  once : L.Pairwise fun x y => x.2 ≠ y.2
  len : L.length ≤ 300

theorem goodO_nil (n : Nat) : GoodO n [] := ⟨by simp, by simp, by simp, by simp⟩
theorem sizeO_app (L M : List Ob) : sizeO (L ++ M) = sizeO L + sizeO M := by simp [sizeO]
theorem sizeO_filter (p : Ob → Bool) (L : List Ob) : sizeO (L.filter p) ≤ sizeO L := by
  induction L with
  | nil => simp [sizeO]
  | cons x r ih =>
    rw [List.filter_cons]
    have e : sizeO (x :: r) = x.2.length + sizeO r := by simp [sizeO]
    split
    · have e' : sizeO (x :: r.filter p) = x.2.length + sizeO (r.filter p) := by simp [sizeO]
      omega
    · omega
theorem findO_mem {L : List Ob} {b : List UInt8} (hl : ∀ x ∈ L, 1 ≤ x.1) : findO L b ≠ 0 ↔ ∃ x ∈ L, x.2 = b := by
  induction L with
  | nil => simp [findO]
  | cons x r ih =>
    have := ih fun y hy => hl y (List.mem_cons_of_mem _ hy)
    unfold findO
    split
    · rename_i h
      have := hl x (List.mem_cons_self ..)
      constructor
      · exact fun _ => ⟨x, List.mem_cons_self .., h⟩
      · exact fun _ => by omega
    · rename_i h
      rw [this]
      constructor
      · rintro ⟨y, hy, e⟩; exact ⟨y, List.mem_cons_of_mem _ hy, e⟩
      · rintro ⟨y, hy, e⟩
        rcases List.mem_cons.1 hy with rfl | hy
        · exact absurd e h
        · exact ⟨y, hy, e⟩
theorem findO_at {L : List Ob} {b : List UInt8} {k : Nat} (hk : k < L.length) (hn : ∀ x ∈ L.take k, x.2 ≠ b) (he : L[k].2 = b) : findO L b = L[k].1 := by
  induction L generalizing k with
  | nil => simp at hk
  | cons x r ih =>
    cases k with
    | zero => simp at he; simp [findO, he]
    | succ j =>
      have h0 : x.2 ≠ b := hn x (by simp)
      simp at hk he
      unfold findO
      rw [if_neg h0, ih hk (fun y hy => hn y (by simp [hy])) he]
      simp
theorem findO_none {L : List Ob} {b : List UInt8} (hn : ∀ x ∈ L, x.2 ≠ b) : findO L b = 0 := by
  induction L with
  | nil => rfl
  | cons x r ih =>
    unfold findO
    rw [if_neg (hn x (by simp)), ih fun y hy => hn y (List.mem_cons_of_mem _ hy)]
theorem getO_at {L : List Ob} {n : Int} {k : Nat} (hk : k < L.length) (hn : ∀ x ∈ L.take k, (x.1 : Int) ≠ n) (he : (L[k].1 : Int) = n) : getO L n = some L[k].2 := by
  induction L generalizing k with
  | nil => simp at hk
  | cons x r ih =>
    cases k with
    | zero => simp at he; simp [getO, he]
    | succ j =>
      have h0 : (x.1 : Int) ≠ n := hn x (by simp)
      simp at hk he
      unfold getO
      rw [if_neg h0, ih hk (fun y hy => hn y (by simp [hy])) he]
      simp
theorem getO_none {L : List Ob} {n : Int} (hn : ∀ x ∈ L, (x.1 : Int) ≠ n) : getO L n = none := by
  induction L with
  | nil => rfl
  | cons x r ih =>
    unfold getO
    rw [if_neg (hn x (by simp)), ih fun y hy => hn y (List.mem_cons_of_mem _ hy)]
theorem getO_some {L : List Ob} {n : Int} {b : List UInt8} (h : getO L n = some b) : ∃ x ∈ L, (x.1 : Int) = n ∧ x.2 = b := by
  induction L with
  | nil => simp [getO] at h
  | cons x r ih =>
    unfold getO at h
    split at h
    · rename_i e
      exact ⟨x, by simp, e, Option.some.inj h⟩
    · obtain ⟨y, hy, e⟩ := ih h
      exact ⟨y, List.mem_cons_of_mem _ hy, e⟩
theorem getO_mem {L : List Ob} (hr : L.Pairwise fun x y => x.1 < y.1) {x : Ob} (hx : x ∈ L) : getO L x.1 = some x.2 := by
  induction L with
  | nil => simp at hx
  | cons y r ih =>
    obtain ⟨h1, h2⟩ := List.pairwise_cons.1 hr
    unfold getO
    rcases List.mem_cons.1 hx with rfl | hx
    · rw [if_pos rfl]
    · rw [if_neg (by have := h1 x hx; omega), ih h2 hx]
theorem findO_in {L : List Ob} (ho : L.Pairwise fun x y => x.2 ≠ y.2) {x : Ob} (hx : x ∈ L) : findO L x.2 = x.1 := by
  induction L with
  | nil => simp at hx
  | cons y r ih =>
    obtain ⟨h1, h2⟩ := List.pairwise_cons.1 ho
    unfold findO
    rcases List.mem_cons.1 hx with rfl | hx
    · rw [if_pos rfl]
    · rw [if_neg (h1 x hx), ih h2 hx]

theorem GoodO.put {n : Nat} {L : List Ob} (h : GoodO n L) (b : List UInt8) : GoodO (putM n L b) (putL n L b) := by
  unfold putM putL
  split
  · exact h
  · rename_i h0
    split
    · exact h
    · rename_i hf
      have hf' : ¬ (300 ≤ L.length ∨ 60000 < wr64 (b.length + sizeO L : Nat)) := by simpa [fullO] using hf
      have hnb : ∀ x ∈ L, x.2 ≠ b := fun x hx e => h0 ((findO_mem fun y hy => (h.low y hy).1).2 ⟨x, hx, e⟩)
      refine ⟨fun x hx => ?_, List.pairwise_append.2 ⟨h.rise, by simp, fun x hx y hy => ?_⟩, List.pairwise_append.2 ⟨h.once, by simp, fun x hx y hy => ?_⟩, by simp; omega⟩
      · rcases List.mem_append.1 hx with hx | hx
        · have := h.low x hx; omega
        · simp at hx; subst hx; exact ⟨by show 1 ≤ n + 1; omega, Nat.le_refl _⟩
      · simp at hy; subst hy; have := h.low x hx; show x.1 < n + 1; omega
      · simp at hy; subst hy; exact hnb x hx
theorem GoodO.keep {n : Nat} {L : List Ob} (h : GoodO n L) (ids : List Int) : GoodO n (keepL L ids) := by
  unfold keepL
  split
  · unfold keepO
    refine ⟨fun x hx => h.low x (List.mem_filter.1 hx).1, h.rise.filter _, h.once.filter _, Nat.le_trans (List.length_filter_le _ _) h.len⟩
  · exact h

/-- as long as texts are not too long for a sum, there are no more bytes than may be -/
theorem putL_size {n : Nat} {L : List Ob} {b : List UInt8} (hL : sizeO L ≤ 60000) (hb : b.length ≤ 9223372036854715807) : sizeO (putL n L b) ≤ 60000 := by
  unfold putL
  split
  · exact hL
  · split
    · exact hL
    · rename_i hf
      have hf' : ¬ (300 ≤ L.length ∨ 60000 < wr64 (b.length + sizeO L : Nat)) := by simpa [fullO] using hf
      rw [wr64_id (by omega) (by omega)] at hf'
      rw [sizeO_app]
      simp [sizeO] at hf' ⊢
      omega
theorem keepL_size {L : List Ob} (ids : List Int) : sizeO (keepL L ids) ≤ sizeO L := by
  unfold keepL
  split
  · exact sizeO_filter _ _
  · exact Nat.le_refl _

/-! ### objects in memory -/
def encO (x : Ob) : List Value := [.int .i64 (x.1 : Int), .string ⟨x.2.toArray⟩]
def cellsO (L : List Ob) : List Value := L.flatMap encO
theorem cellsO_len (L : List Ob) : (cellsO L).length = L.length * 2 := by
  induction L with
  | nil => rfl
  | cons x r ih => simp only [cellsO, List.flatMap_cons, List.length_append, List.length_cons] at ih ⊢; rw [ih]; simp [encO]; omega
theorem cellsO_app (L M : List Ob) : cellsO (L ++ M) = cellsO L ++ cellsO M := by simp [cellsO]
theorem cellsO_at (L : List Ob) (k : Nat) (hk : k < L.length) : (cellsO L)[k * 2]? = some (.int .i64 (L[k].1 : Int)) ∧ (cellsO L)[k * 2 + 1]? = some (.string ⟨L[k].2.toArray⟩) := by
  induction L generalizing k with
  | nil => simp at hk
  | cons x r ih =>
    have e : cellsO (x :: r) = .int .i64 (x.1 : Int) :: .string ⟨x.2.toArray⟩ :: cellsO r := rfl
    rw [e]
    cases k with
    | zero => exact ⟨rfl, rfl⟩
    | succ j =>
      have := ih j (by simpa using hk)
      rw [show (j + 1) * 2 = j * 2 + 1 + 1 by omega]
      simpa using this
theorem ownO_at {W : World} {base : Nat} {e : TypeId} {v : Value} {L : List Ob} (h : W.ownsRow base e 2 v L.length (cellsO L)) (k : Nat) (hk : k < L.length) :
    ∃ g cap, v = .slice (some ⟨g, 0, none⟩) L.length cap ∧ W.cell? ⟨g, k * 2, none⟩ = some (.int .i64 (L[k].1 : Int)) ∧ W.cell? ⟨g, k * 2 + 1, none⟩ = some (.string ⟨L[k].2.toArray⟩) := by
  have h' := h
  rcases h.2 with ⟨rfl, h0⟩ | ⟨g, cap, cur, rfl, _⟩
  · omega
  · obtain ⟨c0, c1⟩ := cellsO_at L k hk
    have q0 := h'.cells (g := g) rfl _ _ c0
    have q1 := h'.cells (g := g) rfl _ _ c1
    rw [Addr.add_lit, Nat.zero_add] at q0 q1
    exact ⟨g, cap, rfl, q0, q1⟩
theorem ownO_form {W : World} {base : Nat} {e : TypeId} {v : Value} {L : List Ob} (h : W.ownsRow base e 2 v L.length (cellsO L)) : ∃ ad cap, v = .slice ad L.length cap := by
  rcases h.2 with ⟨rfl, h0⟩ | ⟨g, cap, cur, rfl, _⟩
  · exact ⟨none, 0, by rw [h0]⟩
  · exact ⟨_, cap, rfl⟩
theorem hideO {p : Prop} (h : p) : Hid p := h
theorem ownsO_below {W W' : World} {base : Nat} {e : TypeId} {sz : Nat} {v : Value} {n : Nat} {cs : List Value} (h : W.ownsRow base e sz v n cs) (hb : RowKit.Below W.heap.size W W') : W'.ownsRow base e sz v n cs :=
  h.kept (row := none) ⟨hb.os, hb.tape, hb.output, hb.size, fun i hi _ => hb.block i hi⟩ (Classical.em _)
theorem bdO (w : World) (q : Nat) : RowKit.Below w.heap.size w (w.drewN q) := ⟨rfl, rfl, rfl, Nat.le_refl _, fun _ _ => rfl⟩

/-- the blocks that a change may turn: all others are as they were -/
structure Offs (O : Nat → Prop) (w w' : World) : Prop where
  os : w'.os = w.os
  tape : w'.tape = w.tape
  output : w'.output = w.output
  size : w.heap.size ≤ w'.heap.size
  block : ∀ k, k < w.heap.size → ¬ O k → w'.heap[k]? = w.heap[k]?
theorem Offs.of_below {O : Nat → Prop} {w w' : World} (h : RowKit.Below w.heap.size w w') : Offs O w w' := ⟨h.os, h.tape, h.output, h.size, fun k hk _ => h.block k hk⟩
theorem Offs.of_grown {O : Nat → Prop} {w w' : World} {row : Option Nat} (h : w.grownBy w' row) (hr : ∀ k, row = some k → O k) : Offs O w w' :=
  ⟨h.os, h.tape, h.output, h.size, fun k hk hO => h.block k hk fun e => hO (hr k e.symm)⟩
theorem Offs.trans {O O' : Nat → Prop} {a b c : World} (h : Offs O a b) (k : Offs O' b c) (hO : ∀ j, O' j → O j ∨ a.heap.size ≤ j) : Offs O a c :=
  ⟨k.os.trans h.os, k.tape.trans h.tape, k.output.trans h.output, Nat.le_trans h.size k.size, fun j hj hn => (k.block j (Nat.lt_of_lt_of_le hj h.size) fun hj' => (hO j hj').elim hn (fun h' => by omega)).trans (h.block j hj hn)⟩
theorem Offs.step {O : Nat → Prop} {a b c : World} (h : Offs O a b) (k : RowKit.Below b.heap.size b c) : Offs O a c := h.trans (Offs.of_below (O := O) k) fun _ h' => Or.inl h'
theorem Offs.mono {O O' : Nat → Prop} {a b : World} (h : Offs O a b) (hO : ∀ j, O j → O' j ∨ a.heap.size ≤ j) : Offs O' a b :=
  ⟨h.os, h.tape, h.output, h.size, fun j hj hn => h.block j hj fun hj' => (hO j hj').elim hn (fun h' => by omega)⟩
theorem Offs.cell {O : Nat → Prop} {w w' : World} (h : Offs O w w') {p : Addr} (hp : p.block < w.heap.size) (hO : ¬ O p.block) : w'.cell? p = w.cell? p := World.cell?_of_block (w := w) (h.block p.block hp hO)
theorem Offs.below {O : Nat → Prop} {B : Nat} {w w' : World} (h : Offs O w w') (hO : ∀ j, O j → B ≤ j) (hB : B ≤ w.heap.size) : RowKit.Below B w w' :=
  ⟨h.os, h.tape, h.output, h.size, fun k hk => h.block k (by omega) fun hk' => by have := hO k hk'; omega⟩

/-- a slice of numbers (nothing is said of an empty one) -/
def SlI (w : World) (ad : Option Addr) (l : List Int) : Prop := l ≠ [] → ∃ b o, ad = some ⟨b, o, none⟩ ∧ ∀ (j : Nat) (hj : j < l.length), w.cell? ⟨b, o + j, none⟩ = some (.int .i64 l[j])
theorem SlI.below {w w' : World} {ad : Option Addr} {l : List Int} (h : SlI w ad l) (hb : RowKit.Below w.heap.size w w') : SlI w' ad l := fun hl => by
  obtain ⟨b, o, e, h1⟩ := h hl
  exact ⟨b, o, e, fun j hj => (hb.cell (World.block_lt_of_cell? w _ (h1 j hj))).trans (h1 j hj)⟩
theorem SlI.at {w : World} {ad : Option Addr} {l : List Int} (h : SlI w ad l) {j : Nat} (hj : j < l.length) : ∃ b o, ad = some ⟨b, o, none⟩ ∧ w.cell? ⟨b, o + j, none⟩ = some (.int .i64 l[j]) := by
  obtain ⟨b, o, e, h1⟩ := h (fun e => by rw [e] at hj; simp at hj)
  exact ⟨b, o, e, h1 j hj⟩

/-- lists of numbers, in a list -/
def ListsAt (w : World) (b o : Nat) (Q : List (List Int)) : Prop := ∀ (i : Nat) (hi : i < Q.length), ∃ a c, w.cell? ⟨b, o + i, none⟩ = some (.slice a Q[i].length c) ∧ SlI w a Q[i] ∧ Q[i].length ≤ c
/-- texts, in a list -/
def TextsAt (w : World) (b o : Nat) (T : List (List UInt8)) : Prop := ∀ (i : Nat) (hi : i < T.length), w.cell? ⟨b, o + i, none⟩ = some (.string ⟨T[i].toArray⟩)

end Go.Proofs.YtbacenhgedopjaaGreatDoor

/- Natural numbers in a row of one's own. -/
namespace Go.Proofs.YtbacenhgedopjaaGreatDoor
open Go Go.RowKit Go.Proofs
set_option synthInstance.maxSize 1000

def cellsU (m : List Nat) : List Value := m.map fun k : Nat => Value.int .i64 (k : Int)
theorem infoU : (Tryz.prog.info? 3).map (fun i => (i.zero, i.size, i.bytes)) = some (some (.int .i64 0), 1, 8) := by kernel_rfl
theorem ownU_sl {W : World} {base : Nat} {e : TypeId} {v : Value} {m : List Nat} (h : W.ownsRow base e 1 v m.length (cellsU m)) : ∃ ad cap, v = .slice ad m.length cap ∧ SlI W ad (m.map fun k : Nat => (k : Int)) := by
  have h' := h
  rcases h.2 with ⟨rfl, h0⟩ | ⟨g, cap, cur, rfl, _⟩
  · exact ⟨none, 0, by rw [h0], fun hne => absurd (by rw [List.eq_nil_of_length_eq_zero h0]; rfl) hne⟩
  · refine ⟨some ⟨g, 0, none⟩, cap, rfl, fun _ => ⟨g, 0, rfl, fun j hj => ?_⟩⟩
    have hj' : j < m.length := by simpa using hj
    have := h'.cells (g := g) rfl j (.int .i64 (m[j] : Int)) (by simp [cellsU, hj'])
    rw [Addr.add_lit] at this
    rw [this]
    simp
theorem ownU_one (w : World) (i : Nat) : (w.alloc (.cells #[.int .i64 (i : Int)] 3)).ownsRow w.heap.size 3 1 (.slice (some ⟨w.heap.size, 0, none⟩) 1 1) [i].length (cellsU [i]) := by
  refine ⟨by simp [cellsU], Or.inr ⟨w.heap.size, 1, #[.int .i64 (i : Int)], rfl, Nat.le_refl _, by show (w.heap.push _)[w.heap.size]? = _; simp, Nat.le_refl _, by unfold maxLen; omega, by simp, by simp [cellsU]⟩⟩
end Go.Proofs.YtbacenhgedopjaaGreatDoor

/- solve.answersTo: all answers, or what is wrong. -/
namespace Go.Proofs.YtbacenhgedopjaaGreatDoor
open Go Go.RowKit Go.Proofs Go.Maps
set_option synthInstance.maxSize 1000
attribute [local go_sem] eql_errV neq_errV guard_errV

def AnsTo (S : List Tr) (q : Qu) (w : World) (e : Ending) (w' : World) : Prop := RowKit.Below w.heap.size w w' ∧ (solveN S q ≠ 0 → e = .returned (.tuple #[.slice none 0 0, .slice none 0 0, errV (solveN S q)])) ∧ (solveN S q = 0 → ∃ vars rows ad c az cz, answersL S q.parts = some (vars, rows) ∧ e = .returned (.tuple #[.slice ad rows.length c, .slice az (sizesL S q.parts).length cz, .nilIface]) ∧ SlE w' ad 18 (rows.map (boundT vars)) ∧ SlI w' az ((sizesL S q.parts).map fun n : Nat => (n : Int)))
theorem AnsTo.bad {S : List Tr} {q : Qu} {w w' : World} {n : Int} (hb : RowKit.Below w.heap.size w w') (hn : solveN S q = n) (h0 : n ≠ 0) : AnsTo S q w (.returned (.tuple #[.slice none 0 0, .slice none 0 0, errV n])) w' := ⟨hb, fun _ => by rw [hn], fun h => absurd (hn.symm.trans h) h0⟩
/-- as far as the parts have come -/
structure AnsSt (S : List Tr) (ps : List Pt) (k : Nat) (vars : List (List UInt8)) (rows : List (List Tm)) (szs : List Nat) : Prop where
  ok : AnsOK S (ps.take k) vars rows
  few : rows.length ≤ 500
  same : answersL S ps = answersF S vars rows (ps.drop k)
  sizes : sizesL S ps = szs ++ sizesF S vars rows (ps.drop k)
  slen : szs.length = k
theorem AnsSt.start (S : List Tr) (ps : List Pt) : AnsSt S ps 0 [] [[]] [] := ⟨by simpa using AnsOK.start S, by simp, rfl, rfl, rfl⟩
theorem AnsSt.over {S : List Tr} {ps : List Pt} {k : Nat} {vars : List (List UInt8)} {rows : List (List Tm)} {szs : List Nat} (h : AnsSt S ps k vars rows szs) (hk : k < ps.length) (h5 : 500 < (stepR S vars ps[k] rows).length) : answersL S ps = none := by
  rw [h.same, List.drop_eq_getElem_cons hk]
  unfold answersF
  rw [if_pos h5]
theorem AnsSt.next {S : List Tr} {ps : List Pt} {k : Nat} {vars : List (List UInt8)} {rows : List (List Tm)} {szs : List Nat} (h : AnsSt S ps k vars rows szs) (hk : k < ps.length) (h5 : ¬ 500 < (stepR S vars ps[k] rows).length) : AnsSt S ps (k + 1) (vars ++ freshV vars ps[k]) (stepR S vars ps[k] rows) (szs ++ [(stepR S vars ps[k] rows).length]) := by
  refine ⟨?_, by omega, ?_, ?_, by simp [h.slen]⟩
  · rw [List.take_succ_eq_append_getElem hk]
    exact h.ok.step _
  · rw [h.same, List.drop_eq_getElem_cons hk, answers_next h5]
  · rw [h.sizes, List.drop_eq_getElem_cons hk, List.append_assoc]
    rfl
theorem AnsSt.done {S : List Tr} {ps : List Pt} {vars : List (List UInt8)} {rows : List (List Tm)} {szs : List Nat} (h : AnsSt S ps ps.length vars rows szs) : answersL S ps = some (vars, rows) := by
  rw [h.same, List.drop_length]
  rfl
theorem AnsSt.szs {S : List Tr} {ps : List Pt} {vars : List (List UInt8)} {rows : List (List Tm)} {szs : List Nat} (h : AnsSt S ps ps.length vars rows szs) : szs = sizesL S ps := by
  rw [h.sizes, List.drop_length]
  simp [sizesF]
/-- a row of answers stays when numbers of one's own are written -/
theorem ne_numbers {w : World} {B n : Nat} {a : Addr} {cur : Array Value} {v : Value} {cs : List Value} (hc : w.heap[a.block]? = some (.cells cur 75 (0, 0))) (ho : w.ownsRow B 3 1 v n cs) : some a.block ≠ v.ownBlock := fun q => by
  rcases ho.2 with ⟨rfl, _⟩ | ⟨g, cap, c2, rfl, _, hg, _⟩
  · cases q
  · have e1 : a.block = g := by simpa [Value.ownBlock] using q
    rw [e1, hg] at hc
    simp at hc
theorem TyE.grown {w w' : World} {B n : Nat} {ad : Option Addr} {v : Value} {cs : List Value} (h : TyE w ad) (ho : w.ownsRow B 3 1 v n cs) (hg : w.grownBy w' v.ownBlock) : TyE w' ad := fun a ha => by
  obtain ⟨cur, hc⟩ := h a ha
  exact ⟨cur, (hg.block _ (Array.getElem?_eq_some_iff.1 hc).1 (ne_numbers hc ho)).trans hc⟩
theorem SlE.grown {w w' : World} {B n m : Nat} {ad : Option Addr} {v : Value} {cs : List Value} {L : List Ev} (h : SlE w ad m L) (ht : TyE w ad) (ho : w.ownsRow B 3 1 v n cs) (hg : w.grownBy w' v.ownBlock) : SlE w' ad m L := fun hl => by
  obtain ⟨b, o, e, r⟩ := h hl
  obtain ⟨cur, hc⟩ := ht _ e
  refine ⟨b, o, e, fun j hj => ?_⟩
  obtain ⟨bm, c, s⟩ := r j hj
  exact ⟨bm, hg.cell c (ne_numbers (a := ⟨b, o + j, none⟩) hc ho), s.kept hg (s.ne_own ho)⟩
theorem tyE_one (w : World) : TyE ((w.alloc (.map #[] 0)).alloc (.cells #[.map (some w.heap.size)] 75)) (some ⟨w.heap.size + 1, 0, none⟩) := fun a ha => by
  injection ha with ha
  subst ha
  have := heap_alloc_last (w.alloc (.map #[] 0)) (.cells #[.map (some w.heap.size)] 75)
  exact ⟨_, by simpa using this⟩
theorem solveN_s {S : List Tr} {q : Qu} (h : sortedN S ≠ 0) : solveN S q = sortedN S := by unfold solveN; rw [if_pos h]
theorem solveN_a {S : List Tr} {q : Qu} (h : sortedN S = 0) (h2 : askN q ≠ 0) : solveN S q = askN q := by unfold solveN; rw [if_neg (fun k => k h), if_pos h2]
theorem solveN_f {S : List Tr} {q : Qu} (h : sortedN S = 0) (h2 : askN q = 0) (h3 : answersL S q.parts = none) : solveN S q = 4 := by unfold solveN; rw [if_neg (fun k => k h), if_neg (fun k => k h2), h3]; rfl
theorem solveN_z {S : List Tr} {q : Qu} (h : sortedN S = 0) (h2 : askN q = 0) {a : List (List UInt8) × List (List Tm)} (h3 : answersL S q.parts = some a) : solveN S q = 0 := by unfold solveN; rw [if_neg (fun k => k h), if_neg (fun k => k h2), h3]; rfl
theorem slE_one (w : World) : SlE ((w.alloc (.map #[] 0)).alloc (.cells #[.map (some w.heap.size)] 75)) (some ⟨w.heap.size + 1, 0, none⟩) 0 (([[]] : List (List Tm)).map (boundT [])) := fun _ => by
  refine ⟨w.heap.size + 1, 0, rfl, fun j hj => ?_⟩
  obtain rfl : j = 0 := by simpa using hj
  refine ⟨w.heap.size, by go_simp, ?_⟩
  exact ((evAt_made w).below (balloc _ _)).same (fun v _ => rfl)
theorem take_map_le {L : List (List Tm)} {f : List Tm → Ev} (h : ¬ 500 < L.length) : (L.map f).take 501 = L.map f := List.take_of_length_le (by simp; omega)
set_option maxHeartbeats 8000000 in
set_option maxRecDepth 100000 in
theorem answersTo_any (ad : Option Addr) (ca : Nat) (S : List Tr) (q : Qu) (vd pd : Option Addr) (vc pc : Nat) (w : World) (h : SlT w ad S) (hfit : ∀ x ∈ S, fitTr x) (hn : S.length ≤ 9223372036854775807) (hq : QuIn w q vd pd) (hf : FitQ q) (hvc : q.vars.length ≤ vc) :
    Calls Tryz.prog 26 #[.slice ad S.length ca, valQ q vd vc pd pc] w (AnsTo S q w) := by
  have HS := fun W hW => Sorted_any ad ca S W hW hfit hn
  have HC := fun W hW => CheckO_any q vd pd vc pc W hW hf hvc
  have Hh := hideE h
  have Hq := hideE hq
  obtain ⟨Q, hQ⟩ : ∃ Q, Q = AnsTo S q w := ⟨_, rfl⟩
  have HQ : Hid (∀ e w', AnsTo S q w e w' → Q e w') := fun e w' h => by rw [hQ]; exact h
  rw [← hQ]
  clear hQ h hq
  obtain ⟨W0, hW0⟩ : ∃ W0, W0 = w.alloc (.cells #[.slice vd q.vars.length vc, .slice pd q.parts.length pc, .string ⟨q.order.toArray⟩, .bool q.down, .bool q.dist, .int .i64 q.lim] 26) := ⟨_, rfl⟩
  have hB0 : RowKit.Below w.heap.size w W0 := by rw [hW0]; exact balloc _ _
  have hX0 := hideE (show BoxQ W0 w.heap.size q vd pd vc pc by rw [hW0]; exact boxQ_new _ _ _ _ _ _)
  unfold valQ at HC ⊢
  by_cases hs : sortedN S = 0
  · by_cases hk : askN q = 0
    · have hset := sortedN_set.1 hs
      have hgq := ask_good hk
      have h200 : S.length ≤ 200 := hset.1
      have e1 := hideE hs
      have e2 := hideE hk
      have Hset := hideE hset
      have Hgq := hideE hgq
      have Hpt := hideE hf.pt
      have Hfit := hideE hfit
      have hpl : q.parts.length ≤ 6 := hgq.six
      have hmk := makeAns
      rw [hs] at HS
      rw [hk] at HC
      clear hs hk hset hgq hf hfit hn
      go_enter Tryz.func26, Tryz.ntmps26
      go_upto_region 1 with fail
      rw [← hW0]
      clear hW0
      go_wp2_with fail
      refine (HS _ (Hh.out.below hB0)).mono ?_
      rintro e w1 ⟨rfl, hb1⟩
      have hX1 := hX0.out.below hb1
      obtain ⟨c0, c1, c2, c3, c4, c5⟩ := hX1
      have hB1 := bstep hB0 hb1
      dsimp only
      go_wp2_with fail
      refine (HC _ (Hq.out.below hB1)).mono ?_
      rintro e w2 ⟨rfl, hb2⟩
      have hX2 := hideE (hX0.out.below hb1 |>.below hb2)
      have c1b := hX2.out.c1
      have hz2 := World.block_lt_of_cell? w2 _ c1b
      dsimp only at hz2
      have hB2 := bstep hB1 hb2
      have Hq2 := hideE (Hq.out.below hB2)
      have Hh2 := hideE (Hh.out.below hB2)
      have hone := hideE (slE_one w2)
      have htyo := hideE (tyE_one w2)
      obtain ⟨i0', hi0, hz⟩ := Option.map_eq_some_iff.1 infoU
      simp only [Prod.mk.injEq] at hz
      obtain ⟨hz0, hz1, hz2'⟩ := hz
      have hst0 := hideE (AnsSt.start S q.parts)
      clear c0 c1 c2 c3 c4 c5 HC HS hb1 hb2 hB1 hX0 hB0 Hq Hh
      dsimp only
      go_wp2_with fail
      go_loopw [9, 10, 30] (fun va sv i wr => ∃ (k : Nat) (vars : List (List UInt8)) (rows : List (List Tm)) (ax : Option Addr) (cx : Nat) (szs : List Nat), k ≤ q.parts.length ∧ i = .int .i64 k ∧ va = .slice ax rows.length cx ∧ Hid (AnsSt S q.parts k vars rows szs) ∧ Hid (SlE wr ax (3 * k) (rows.map (boundT vars))) ∧ Hid (TyE wr ax) ∧ Hid (wr.ownsRow w2.heap.size 3 1 sv szs.length (cellsU szs)) ∧ RowKit.Below w2.heap.size w2 wr) (fun _ _ i wr => q.parts.length - (intOf i).toNat)
      case atStart => exact ⟨0, [], [[]], _, _, [], Nat.zero_le _, rfl, rfl, hst0.out, hone.out, htyo.out, World.ownsRow_nil _ _ _ _, bstep (balloc _ _) (balloc _ _)⟩
      case round =>
        clear hone htyo hst0 hmk
        obtain ⟨k, vars, rows, ax, cx, szs, hk, rfl, rfl, hA, hL, hTy, hOw, hbr⟩ := hrel
        have hzr := hbr.size
        by_cases hlt : k < q.parts.length
        · have t1 : decide ((k : Int) < (q.parts.length : Int)) = true := by simp; omega
          have i0 : (0 : Int) ≤ (k : Int) := by omega
          have i1 : (k : Int) < (q.parts.length : Int) := by omega
          obtain ⟨b, o, rfl, hr0⟩ := (Hq2.out.parts.below hbr).at k hlt
          have hr := hr0.at k hlt
          have hpk := Hpt.out _ (List.getElem_mem hlt)
          have hvk := Hgq.out.parts _ (List.getElem_mem hlt)
          have hnext := hideE (fun h5 => hA.out.next hlt h5)
          have hover := hideE (fun h5 => hA.out.over hlt h5)
          generalize q.parts[k] = p at *
          have hN : matchN S p = 0 := by unfold matchN; rw [if_pos e1.out]; exact hvk
          have HP := fun W hW => answersToPart_any ad ca S p W hW Hfit.out hpk h200 hN
          have hrl := hA.out.ok.len
          have hshort : ∀ v ∈ varsL p, v.length ≤ maxLen := fun v hv => by
            rcases (varsL_mem.1 hv).2 with h | h | h
            · rw [h]; exact hpk.1.1
            · rw [h]; exact hpk.2.1.1
            · rw [h]; exact hpk.2.2.1
          have hmeet := hideE (fun sh (hsh : SharedE (rows.map (boundT vars)) ((matchP S p).map (evT p)) sh) => meet_step (S := S) (p := p) (sh := sh) hrl (fun h1 h2 => shared_v hrl hshort hsh h1 h2))
          have hM200 : (matchL S p).length ≤ 200 := Nat.le_trans (List.length_filter_le _ _) h200
          have hwa : ∀ f ∈ rows.map (boundT vars), WfE f := fun f hf => by
            obtain ⟨r, hr, rfl⟩ := List.mem_map.1 hf
            exact wfE_bound Hset.out (hA.out.ok.from_ r hr)
          have hwb : ∀ f ∈ (matchL S p).map (evT p), WfE f := fun f hf => by
            obtain ⟨t, ht, rfl⟩ := List.mem_map.1 hf
            exact wfE_evT Hset.out ((List.mem_filter.1 ht).1)
          have hdd : ∀ f ∈ (matchL S p).map (evT p), ∀ v, (f v).isSome = true → v ∈ varsL p := fun f hf v hv => by
            obtain ⟨t, ht, rfl⟩ := List.mem_map.1 hf
            exact Classical.byContradiction fun hn => by rw [evT_none.2 hn] at hv; cases hv
          have HME := fun aa ab ca cb W ha hb => meet_any aa ab ca cb (3 * k) 3 (rows.map (boundT vars)) ((matchL S p).map (evT p)) (varsL p) W ha hb (by simpa using hA.out.few) (by simpa using hM200) (by omega) (by omega) hwa hwb (varsL_few _) hdd
          have HHM := hideE HME
          have hcells := hideE hr
          have c0 := hr 0 _ rfl
          have c1 := hr 1 _ rfl
          have c2 := hr 2 _ rfl
          have c3 := hr 3 _ rfl
          have c4 := hr 4 _ rfl
          have c5 := hr 5 _ rfl
          have c6 := hr 6 _ rfl
          have c7 := hr 7 _ rfl
          have c8 := hr 8 _ rfl
          have c9 := hr 9 _ rfl
          have c10 := hr 10 _ rfl
          have c11 := hr 11 _ rfl
          rw [Nat.add_zero] at c0
          clear hr hr0 hwa hwb hdd HME hcells hrl hshort hN hvk hpk
          unfold valPt at HP
          go_wp2_with fail
          refine (HP _ (Hh2.out.below (bstep hbr (balloc _ _)))).mono ?_
          rintro e w4 ⟨hb4, ab, cb, rfl, hs4⟩
          have hb4' : RowKit.Below wr.heap.size wr w4 := bstep (balloc wr (.cells (encPt p).toArray 32)) hb4
          have HM := HHM.out ax ab cx cb w4 (hL.out.below hb4') hs4
          rw [List.length_map, List.length_map] at HM
          have HB4 := hideE hb4'
          clear hs4 HHM HP hL c0 c1 c2 c3 c4 c5 c6 c7 c8 c9 c10 c11 hb4 hb4'
          dsimp only
          generalize (matchL S p).length = nm at *
          go_wp2_with fail
          refine HM.mono ?_
          rintro e w5 ⟨hb5, sh, ay, cy, L, hsh, hLe, rfl, hs5, ht5⟩
          have Hty5 := hideE ht5
          have ho5 := hideE (ownsRow_belowV (hOw.out.kept (row := none) ⟨HB4.out.os, HB4.out.tape, HB4.out.output, HB4.out.size, fun i hi _ => HB4.out.block i hi⟩ (Classical.em _)) hb5)
          have hsl := hA.out.slen
          clear ht5 hOw hTy
          replace hLe : L = List.take 501 (meetE sh (rows.map (boundT vars)) ((matchP S p).map (evT p))) := hLe
          rw [hmeet.out sh hsh] at hLe
          have Hs5 := hideE hs5
          have HLe := hideE hLe
          have hBf := hideE (bstep (hbr.trans (HB4.out.mono hzr)) hb5)
          clear hs5 hLe hsh hb5 HM
          dsimp only
          by_cases h5 : 500 < (stepR S vars p rows).length
          · have hl : L.length = 501 := by rw [HLe.out, List.length_take, List.length_map]; omega
            have hnone := hideE (hover.out h5)
            rw [hl]
            clear hl h5
            go_wp2_with fail
            refine bodyPost_ret (v := .tuple #[.slice none 0 0, .slice none 0 0, errV 4]) (by simp [results, Tryz.results26, go_sem, errV]) rfl ?_
            exact HQ.out _ _ (AnsTo.bad (n := 4) (bstep hB2 hBf.out) (solveN_f e1.out e2.out hnone.out) (by decide))
          · have hL3 : L = (stepR S vars p rows).map (boundT (vars ++ freshV vars p)) := by rw [HLe.out, take_map_le h5]
            have hA2 := hideE (hnext.out h5)
            have hl : L.length = (stepR S vars p rows).length := by rw [hL3]; simp
            have Hs6 := hideE (show SlE w5 ay (3 * (k + 1)) ((stepR S vars p rows).map (boundT (vars ++ freshV vars p))) by rw [← hL3]; exact Hs5.out)
            rw [hl]
            clear hl hL3 HLe Hs5 hnext hover hmeet hA
            generalize stepR S vars p rows = R2 at *
            have t5 : decide ((R2.length : Int) > 500) = false := by simp; omega
            have t6 : decide (500 < (R2.length : Int)) = false := by simp; omega
            have hslE := hideE hsl
            have hm6 : szs.length ≤ 6 := by omega
            clear hsl
            go_wp2_with (at_builtin; refine wpList_append_own _ rfl _ _ 71 rfl w2.heap.size 3 i0' (.int .i64 0) 1 8 Tryz.underlying71 hi0 hz0 hz1 hz2' rfl (by decide) _ _ _ rfl (ho5.out.alloc _) ⟨w5.heap.size, 0, none⟩ 1 1 [.int .i64 (R2.length : Int)] rfl rfl ?c1 (by simp [Value.oneCell']) (by unfold maxLen; omega) (by omega) (by have := hBf.out.size; simp; omega) ?_)
            case c1 =>
              intro j u hu
              have hj : j < 1 := by have := (List.getElem?_eq_some_iff.1 hu).1; simpa using this
              obtain rfl : j = 0 := by omega
              rw [Addr.add_lit]
              simp at hu; subst hu; go_simp
            intro v' w7 h2 h3 _
            have hb7 : Hid (RowKit.Below w2.heap.size w2 w7) := (hBf.out.trans ((balloc w5 _).mono hBf.out.size)).grown h3 (by have := hBf.out.size; simp; omega) (fun j hj => (ho5.out.lt j hj).1)
            have ho7 : Hid (w7.ownsRow w2.heap.size 3 1 v' (szs ++ [R2.length]).length (cellsU (szs ++ [R2.length]))) := by
              show World.ownsRow _ _ _ _ _ _ _
              rw [List.length_append]
              simpa [cellsU] using h2
            have hs7 := hideE ((Hs6.out.below (balloc w5 (.cells #[.int .i64 (R2.length : Int)] 3))).grown (Hty5.out.below (balloc _ _)) (ho5.out.alloc _) h3)
            have ht7 := hideE ((Hty5.out.below (balloc w5 (.cells #[.int .i64 (R2.length : Int)] 3))).grown (ho5.out.alloc _) h3)
            clear h2 h3
            go_wp2_with fail
            go_roundw
            case rel => exact ⟨k + 1, _, R2, ay, cy, szs ++ [R2.length], by omega, by go_num, rfl, hA2.out, hs7.out, ht7.out, ho7.out, hb7.out⟩
            case measure => simp [intOf]; omega
        · obtain rfl : k = q.parts.length := by omega
          have t1 : decide ((q.parts.length : Int) < (q.parts.length : Int)) = false := by simp
          have hd := hideE hA.out.done
          have hsz : Hid (szs = sizesL S q.parts) := hA.out.szs
          obtain ⟨az, cz, rfl, hsi⟩ := ownU_sl hOw.out
          have Hsi := hideE hsi
          clear hsi hOw
          obtain ⟨nz, hnz⟩ : ∃ n, n = szs.length := ⟨_, rfl⟩
          have Hnz := hideE hnz
          rw [← hnz]
          clear hnz
          go_wp2_with fail
          refine bodyPost_ret (v := .tuple #[.slice ax rows.length cx, .slice az nz cz, .nilIface]) (by simp [results, Tryz.results26, go_sem]) rfl ?_
          exact HQ.out _ _ ⟨bstep hB2 hbr, fun h => absurd (solveN_z e1.out e2.out hd.out) h, fun _ => ⟨vars, rows, ax, cx, az, cz, hd.out, by rw [← hsz.out, Hnz.out], by
            have := hL.out
            exact fun hne => by
              obtain ⟨b, o, e, r⟩ := this hne
              exact ⟨b, o, e, fun j hj => by obtain ⟨bm, c, s⟩ := r j hj; exact ⟨bm, c, s.mono (by omega)⟩⟩, by rw [← hsz.out]; exact Hsi.out⟩⟩
    · have h0 := hideE (solveN_a hs hk)
      have h1 := hideE hk
      generalize askN q = n1 at *
      have e1 : (n1 == 0) = false := by simpa using hk
      rw [hs] at HS
      clear hs hk
      go_enter Tryz.func26, Tryz.ntmps26
      go_upto_region 1 with fail
      rw [← hW0]
      clear hW0
      go_wp2_with fail
      refine (HS _ (Hh.out.below hB0)).mono ?_
      rintro e w1 ⟨rfl, hb1⟩
      obtain ⟨c0, c1, c2, c3, c4, c5⟩ := hX0.out.below hb1
      have hB1 := bstep hB0 hb1
      dsimp only
      go_wp2_with fail
      refine (HC _ (Hq.out.below hB1)).mono ?_
      rintro e w2 ⟨rfl, hb2⟩
      go_wp2_with fail
      refine bodyPost_ret (v := .tuple #[.slice none 0 0, .slice none 0 0, errV n1]) (by simp [results, Tryz.results26, go_sem]) rfl ?_
      exact HQ.out _ _ (AnsTo.bad (bstep hB1 hb2) h0.out h1.out)
  · have h0 := hideE (solveN_s (q := q) hs)
    have h1 := hideE hs
    generalize sortedN S = n1 at *
    have e1 : (n1 == 0) = false := by simpa using hs
    clear hs HC
    go_enter Tryz.func26, Tryz.ntmps26
    go_upto_region 1 with fail
    rw [← hW0]
    clear hW0
    go_wp2_with fail
    refine (HS _ (Hh.out.below hB0)).mono ?_
    rintro e w1 ⟨rfl, hb1⟩
    go_wp2_with fail
    refine bodyPost_ret (v := .tuple #[.slice none 0 0, .slice none 0 0, errV n1]) (by simp [results, Tryz.results26, go_sem]) rfl ?_
    exact HQ.out _ _ (AnsTo.bad (bstep hB0 hb1) h0.out h1.out)
end Go.Proofs.YtbacenhgedopjaaGreatDoor

/- Rows of terms as the program compares and sorts them, and equal ones once; plain lists, no program. -/
namespace Go.Proofs.YtbacenhgedopjaaGreatDoor
open Go Go.RowKit Go.Proofs Go.Sort Go.Lib
set_option synthInstance.maxSize 1000
variable {lt : List Tm → List Tm → Bool}
def allQ (n : Nat) : Array (Fin n) := Array.ofFn fun i => i
theorem allQ_size (n : Nat) : (allQ n).size = n := by simp [allQ]
/-! ### as the program compares -/
def cmpF : List Tm → List Tm → Int
  | [], [] => 0
  | [], _ :: _ => -1
  | _ :: _, [] => 1
  | x :: a, y :: b => if cmpTm x y = 0 then cmpF a b else cmpTm x y
theorem cmpF_less : ∀ (a b : List Tm), a.length = b.length → decide (cmpF a b < 0) = lessR a b
  | [], [], _ => rfl
  | [], y :: b, h => by simp at h
  | x :: a, [], h => by simp at h
  | x :: a, y :: b, h => by
    unfold cmpF lessR
    by_cases e : cmpTm x y = 0
    · rw [if_pos e, if_pos e]; exact cmpF_less a b (by simpa using h)
    · rw [if_neg e, if_neg e]
def cmpQ (i : Option Nat) (down : Bool) (a b : List Tm) : Int := match i with
  | none => cmpF a b
  | some i => if cmpTm (a.getD i tmZero) (b.getD i tmZero) = 0 then cmpF a b else if down = true then - cmpTm (a.getD i tmZero) (b.getD i tmZero) else cmpTm (a.getD i tmZero) (b.getD i tmZero)
theorem cmpQ_ahead (i : Option Nat) (down : Bool) (a b : List Tm) (h : a.length = b.length) : decide (cmpQ i down a b < 0) = aheadB i down a b := by
  have hl := cmpF_less a b h
  unfold cmpQ aheadB byC
  cases i with
  | none => simp [hl]
  | some i =>
    generalize hc : cmpTm (a.getD i tmZero) (b.getD i tmZero) = c
    simp only [hc]
    by_cases e : c = 0
    · subst e
      cases down <;> simp [hl]
    · have e' : ¬ -c = 0 := by omega
      cases down <;> simp [e, e']
theorem swoQ (i : Option Nat) (down : Bool) {k : Nat} (o : OrdR (aheadB i down) k) (L : List (List Tm)) (hL : LenR k L) : SWO (ltOf fun (x y : Fin L.length) => cmpQ i down L[x] L[y]) := by
  have e : ∀ x y : Fin L.length, ltOf (fun (x y : Fin L.length) => cmpQ i down L[x] L[y]) x y = aheadB i down L[x] L[y] := fun x y => cmpQ_ahead i down _ _ ((hL _ (List.getElem_mem x.isLt)).trans (hL _ (List.getElem_mem y.isLt)).symm)
  refine ⟨fun x => by rw [e]; exact o.irr _, fun x y z h1 h2 => ?_, fun x y z h1 h2 => ?_⟩
  · rw [e] at h1 h2 ⊢; exact o.trans h1 h2
  · rw [e] at h1 h2 ⊢
    exact o.back (hL _ (List.getElem_mem z.isLt)) (hL _ (List.getElem_mem y.isLt)) h2 h1
theorem allQ_map (L : List (List Tm)) : (allQ L.length).toList.map (fun i => L[i]) = L := by
  apply List.ext_getElem
  · simp [allQ]
  · intro i h1 h2
    simp [allQ]
theorem sorted_rows (i : Option Nat) (down : Bool) {k : Nat} (o : OrdR (aheadB i down) k) (L : List (List Tm)) (hL : LenR k L) [Inhabited (Fin L.length)] {d' : Array (Fin L.length)} (hp : PermIn 0 (allQ L.length).size (allQ L.length) d')
    (hs : SortedIn (ltOf fun (x y : Fin L.length) => cmpQ i down L[x] L[y]) 0 (allQ L.length).size d') : d'.size = L.length ∧ d'.toList.map (fun j => L[j]) = sortR (aheadB i down) false L := by
  rw [allQ_size] at hp hs
  have hsz : d'.size = L.length := by rw [hp.1, allQ_size]
  have e : ∀ x y : Fin L.length, ltOf (fun (x y : Fin L.length) => cmpQ i down L[x] L[y]) x y = aheadB i down L[x] L[y] := fun x y => cmpQ_ahead i down _ _ ((hL _ (List.getElem_mem x.isLt)).trans (hL _ (List.getElem_mem y.isLt)).symm)
  refine ⟨hsz, sortR_all o hL ?_ ?_⟩
  · refine List.pairwise_iff_getElem.2 ?_
    intro a b ha hb hab
    have ha' : a < d'.size := by simpa using ha
    have hb' : b < d'.size := by simpa using hb
    have h1 := hs a b (Nat.zero_le _) hab (by omega)
    rw [getElem!_pos d' a ha', getElem!_pos d' b hb', e] at h1
    simpa using h1
  · have h := hp.2.2
    have q : ∀ (a : Array (Fin L.length)), a.size = L.length → (a.extract 0 L.length).toList = a.toList := fun a ha => by
      rw [Array.toList_extract]
      simp [List.take_of_length_le (show a.toList.length ≤ L.length by simp [ha])]
    rw [q d' hsz, q _ (allQ_size _)] at h
    have h2 := h.map (fun i : Fin L.length => L[i])
    rwa [allQ_map] at h2
/-- a sorted list, neighbours that are equal once -/
theorem compQ_mem {l : List (List Tm)} {x : List Tm} : x ∈ compact l ↔ x ∈ l := by
  unfold compact compactUpTo
  simp only [List.mem_map, List.mem_filter, List.mem_range]
  constructor
  · rintro ⟨j, ⟨hj, _⟩, rfl⟩
    rw [getElem!_pos l.toArray j (by simpa using hj)]
    simp
  · intro h
    have key : ∀ j, j < l.length → ∃ a, (a < l.length ∧ keeps l.toArray a = true) ∧ l.toArray[a]! = l.toArray[j]! := by
      intro j
      induction j with
      | zero => exact fun h0 => ⟨0, ⟨h0, by simp [keeps]⟩, rfl⟩
      | succ m ih =>
        intro hm
        by_cases hk : keeps l.toArray (m + 1) = true
        · exact ⟨m + 1, ⟨hm, hk⟩, rfl⟩
        · obtain ⟨a, ha, e⟩ := ih (by omega)
          refine ⟨a, ha, e.trans ?_⟩
          simp only [keeps, decide_eq_true_eq, not_or] at hk
          have h2 : l.toArray[m + 1]! = l.toArray[m + 1 - 1]! := Classical.byContradiction hk.2
          exact h2.symm
    obtain ⟨j, hj, rfl⟩ := List.getElem_of_mem h
    obtain ⟨a, ha, e⟩ := key j hj
    refine ⟨a, ha, e.trans ?_⟩
    rw [getElem!_pos l.toArray j (by simpa using hj)]
    simp
theorem comp_sorted {l : List (List Tm)} {k : Nat} (o : OrdR lt k) (hL : LenR k l) (h : SortedR lt l) : SortedR lt (compact l) ∧ (compact l).Nodup := by
  have h' := List.pairwise_iff_getElem.1 h
  have le : ∀ a b, a ≤ b → b < l.length → lt l.toArray[b]! l.toArray[a]! = false := fun a b hab hb => by
    rw [getElem!_pos l.toArray a (by simp; omega), getElem!_pos l.toArray b (by simpa using hb)]
    rcases Nat.lt_or_ge a b with h1 | h1
    · simpa using h' a b (by omega) hb h1
    · have : a = b := by omega
      subst this
      exact o.irr _
  have hlen : ∀ a, a < l.length → (l.toArray[a]!).length = k := fun a ha => by
    rw [getElem!_pos l.toArray a (by simpa using ha)]
    exact hL _ (by simp)
  have hpw : ((List.range l.length).filter (keeps l.toArray)).Pairwise fun a b => a < b ∧ b < l.length ∧ keeps l.toArray b = true := by
    have h1 : (List.range l.length).Pairwise fun a b => a < b := List.pairwise_lt_range
    have h2 := h1.filter (keeps l.toArray)
    refine h2.imp_of_mem ?_
    intro a b _ hb hab
    rw [List.mem_filter, List.mem_range] at hb
    exact ⟨hab, hb⟩
  constructor
  · unfold SortedR compact compactUpTo
    rw [List.pairwise_map]
    exact hpw.imp (fun {a b} hh => le a b (by omega) hh.2.1)
  · unfold List.Nodup compact compactUpTo
    rw [List.pairwise_map]
    refine hpw.imp (fun {a b} hh => ?_)
    obtain ⟨hab, hb, hk⟩ := hh
    intro e
    simp only [keeps, decide_eq_true_eq] at hk
    have hne : l.toArray[b]! ≠ l.toArray[b - 1]! := by
      rcases hk with h0 | h0
      · omega
      · exact h0
    refine hne (o.total (hlen b hb) (hlen (b - 1) (by omega)) (le (b - 1) b (by omega) hb) ?_)
    rw [← e]
    exact le a (b - 1) (by omega) (by omega)
theorem comp_sort {k : Nat} (o : OrdR lt k) {rows : List (List Tm)} (hL : LenR k rows) (hs : SortedR lt (sortR lt false rows)) : compact (sortR lt false rows) = sortR lt true rows := by
  have hL2 : LenR k (sortR lt false rows) := fun x hx => hL x (sort_mem.1 hx)
  obtain ⟨h1, h2⟩ := comp_sorted o hL2 hs
  exact sortR_once o hL h1 h2 (fun x => by rw [compQ_mem, sort_mem])
end Go.Proofs.YtbacenhgedopjaaGreatDoor

/- Rows of terms compared: slices.CompareFunc with term.Compare, slices.Equal, and solve.ordering. -/
namespace Go.Proofs.YtbacenhgedopjaaGreatDoor
open Go Go.RowKit Go.Proofs Go.Maps Go.Sort
set_option synthInstance.maxSize 1000
attribute [local go_sem ↓] neqTerm eqlTerm

theorem enters51 : ∀ args w, (callFunc 51 args).run Tryz.prog w = .ok (.enter 51 args) w := enters_of Tryz.func51 (by kernel_rfl) rfl
theorem cmpF_at {a b : List Tm} {k : Nat} (h1 : k < a.length) (h2 : k < b.length) : cmpF (a.drop k) (b.drop k) = if cmpTm a[k] b[k] = 0 then cmpF (a.drop (k + 1)) (b.drop (k + 1)) else cmpTm a[k] b[k] := by
  rw [List.drop_eq_getElem_cons h1, List.drop_eq_getElem_cons h2, cmpF]
theorem SlQ.grew {w w' : World} {ad : Option Addr} {l : List Tm} (h : SlQ w ad l) (hg : Grew w w') : SlQ w' ad l := h.below hg.below
set_option maxHeartbeats 4000000 in
set_option maxRecDepth 100000 in
theorem CompareQ_any (ad bd : Option Addr) (ca cb : Nat) (a b : List Tm) (w : World) (ha : SlQ w ad a) (hb : SlQ w bd b) (la : a.length ≤ 1000000) :
    Calls Tryz.prog 50 #[.slice ad a.length ca, .slice bd b.length cb, .func (.func 51) #[] #[]] w fun e w' => e = .returned (.int .i64 (cmpF a b)) ∧ Grew w w' := by
  have HA := hideE ha
  have HB := hideE hb
  have eg := enters51
  obtain ⟨R, hR⟩ : ∃ R, R = cmpF a b := ⟨_, rfl⟩
  have HR := hideE hR
  rw [← hR]
  clear ha hb hR
  go_enter Tryz.func50, Tryz.ntmps50
  go_wp2_with fail
  go_loopw [13] (fun i wr => ∃ k : Nat, k ≤ a.length ∧ k ≤ b.length ∧ i = .int .i64 k ∧ Hid (R = cmpF (a.drop k) (b.drop k)) ∧ Grew w wr) (fun i wr => a.length - (intOf i).toNat)
  case atStart => exact ⟨0, Nat.zero_le _, Nat.zero_le _, rfl, HR.out, Grew.refl _⟩
  case round =>
    obtain ⟨k, hk, hkb, rfl, hC, hg⟩ := hrel
    by_cases h1 : k < a.length
    · have t1 : decide ((k : Int) < (a.length : Int)) = true := by simp; omega
      have i0 : (0 : Int) ≤ (k : Int) := by omega
      have i1 : (k : Int) < (a.length : Int) := by omega
      obtain ⟨g, o, rfl, c0, c1, c2⟩ := (HA.out.grew hg).at k h1
      by_cases h2 : k < b.length
      · have t2 : decide ((k : Int) ≥ (b.length : Int)) = false := by simp; omega
        have i2 : (k : Int) < (b.length : Int) := by omega
        obtain ⟨g', o', rfl, d0, d1, d2⟩ := (HB.out.grew hg).at k h2
        have hC2 := hC.out
        rw [cmpF_at h1 h2] at hC2
        have HC2 := hideE hC2
        have HK := fun W => Compare_grew a[k].1 a[k].2.1 a[k].2.2 b[k].1 b[k].2.1 b[k].2.2 W
        have hdef := hideE (show cmpT a[k].1 a[k].2.1 a[k].2.2 b[k].1 b[k].2.1 b[k].2.2 = cmpTm a[k] b[k] from rfl)
        clear hC hC2
        generalize cmpT a[k].1 a[k].2.1 a[k].2.2 b[k].1 b[k].2.1 b[k].2.2 = cc at *
        generalize a[k] = x at *
        generalize b[k] = y at *
        have z1 := World.block_lt_of_cell? wr _ d0
        dsimp only at z1
        by_cases hcc : cc = 0
        · have t3 : (cc != 0) = false := by simp [hcc]
          have hR2 := hideE (show R = cmpF (a.drop (k + 1)) (b.drop (k + 1)) by rw [HC2.out, if_pos (by rw [← hdef.out]; exact hcc)])
          go_wp2_with fail
          go_at_fn 51
          refine (HK _).mono ?_
          rintro e w2 ⟨rfl, hg2⟩
          dsimp only
          go_wp2_with fail
          go_roundw
          case rel => exact ⟨k + 1, by omega, by omega, by go_num, hR2.out, ((hg.trans (grew_alloc _ _)).trans (grew_alloc _ _)).trans hg2⟩
          case measure => simp [intOf]; omega
        · have t3 : (cc != 0) = true := by simp [hcc]
          have hR2 := hideE (show R = cc by rw [HC2.out, if_neg (by rw [← hdef.out]; exact hcc), ← hdef.out])
          go_wp2_with fail
          go_at_fn 51
          refine (HK _).mono ?_
          rintro e w2 ⟨rfl, hg2⟩
          dsimp only
          go_wp2_with fail
          go_ret
          exact ⟨by rw [hR2.out]; rfl, ((hg.trans (grew_alloc _ _)).trans (grew_alloc _ _)).trans hg2⟩
      · have t2 : decide ((k : Int) ≥ (b.length : Int)) = true := by simp; omega
        have hR2 := hideE (show R = 1 by rw [hC.out, List.drop_eq_getElem_cons h1, List.drop_eq_nil_of_le (show b.length ≤ k by omega), cmpF])
        go_wp2_with fail
        go_ret
        exact ⟨by rw [hR2.out]; rfl, hg.trans (grew_alloc _ _)⟩
    · obtain rfl : k = a.length := by omega
      have t1 : decide ((a.length : Int) < (a.length : Int)) = false := by simp
      by_cases h2 : a.length < b.length
      · have t2 : decide ((a.length : Int) < (b.length : Int)) = true := by simp; omega
        have hR2 := hideE (show R = -1 by rw [hC.out, List.drop_eq_nil_of_le (Nat.le_refl _), List.drop_eq_getElem_cons h2, cmpF])
        go_wp2_with fail
        go_ret
        exact ⟨by rw [hR2.out]; rfl, hg⟩
      · have t2 : decide ((a.length : Int) < (b.length : Int)) = false := by simp; omega
        have hR2 := hideE (show R = 0 by rw [hC.out, List.drop_eq_nil_of_le (Nat.le_refl _), List.drop_eq_nil_of_le (by omega), cmpF])
        go_wp2_with fail
        go_ret
        exact ⟨by rw [hR2.out]; rfl, hg⟩
end Go.Proofs.YtbacenhgedopjaaGreatDoor

/- solve.ordering and its closures; slices.Index at texts; slices.Equal at terms. -/
namespace Go.Proofs.YtbacenhgedopjaaGreatDoor
open Go Go.RowKit Go.Proofs Go.Maps Go.Sort
set_option synthInstance.maxSize 1000
attribute [local go_sem ↓] neqTerm eqlTerm

def idxW (o : Option Nat) : Int := match o with
  | some i => (i : Int)
  | none => -1
theorem idx_leW (x : List UInt8) : ∀ (l : List (List UInt8)) (j : Nat) (h : j < l.length), l[j] = x → l.idxOf x ≤ j
  | [], j, h, _ => by simp at h
  | c :: r, 0, _, e => by
    simp at e
    simp [e]
  | c :: r, j + 1, h, e => by
    have := idx_leW x r j (by simpa using h) (by simpa using e)
    rw [List.idxOf_cons]
    cases c == x <;> simp <;> omega
theorem IndexW_any (ad : Option Addr) (cap : Nat) (l : List (List UInt8)) (x : List UInt8) (w : World) (h : SlW w ad l) (hn : l.length ≤ 9223372036854775807) :
    Calls Tryz.prog 52 #[.slice ad l.length cap, .string ⟨x.toArray⟩] w fun e w' => e = .returned (.int .i64 (idxW (whereV l x))) ∧ w' = w := by
  cases hl : l with
  | nil =>
    simpa [whereV, idxW, Lib.idxOfS, Lib.idxFromS] using Tryz.slices_Index_string_empty ad cap ⟨x.toArray⟩ w
  | cons c r =>
    rw [← hl]
    obtain ⟨b, o, rfl, hr⟩ := h (by rw [hl]; simp)
    refine (Tryz.slices_Index_string b o l.length cap (l.map fun v => ⟨v.toArray⟩) ⟨x.toArray⟩ w (by simp) (by omega) ?_).mono ?_
    · intro j hj
      have hj' : j < l.length := by simpa using hj
      rw [hr j hj']
      simp [encV, List.getD_eq_getElem?_getD, List.getElem?_eq_getElem hj']
    · rintro e w' ⟨rfl, rfl⟩
      refine ⟨?_, rfl⟩
      have hd : ∀ j, j < l.length → (l.map fun v => (⟨v.toArray⟩ : ByteArray)).getD j ByteArray.empty = ⟨(l.getD j []).toArray⟩ := fun j hj => by
        simp [List.getD_eq_getElem?_getD, List.getElem?_eq_getElem hj]
      have inj : ∀ a b : List UInt8, (⟨a.toArray⟩ : ByteArray) = ⟨b.toArray⟩ → a = b := fun a b e => by
        have := congrArg (fun s : ByteArray => s.data.toList) e
        simpa using this
      unfold whereV
      by_cases hx : x ∈ l
      · rw [if_pos hx]
        have hk := List.idxOf_lt_length_of_mem hx
        have hat : l.getD (l.idxOf x) [] = x := by rw [List.getD_eq_getElem?_getD, List.getElem?_eq_getElem hk]; simp
        rw [Lib.idxOfS_hit _ l.length (l.idxOf x) _ hk (by simp) (by rw [hd _ hk, hat]) (fun j hj e => ?_)]
        · rfl
        · rw [hd j (by omega)] at e
          have e2 := inj _ _ e
          have hj2 : j < l.length := by omega
          rw [List.getD_eq_getElem?_getD, List.getElem?_eq_getElem hj2] at e2
          have e3 : l[j] = x := e2
          have := idx_leW x l j hj2 e3
          omega
      · rw [if_neg hx, Lib.idxOfS_miss _ l.length _ (fun j hj e => ?_)]
        · rfl
        · rw [hd j hj] at e
          have e2 := inj _ _ e
          rw [List.getD_eq_getElem?_getD, List.getElem?_eq_getElem hj] at e2
          exact hx (by rw [← e2]; simp)
theorem keepG7 {W W' : World} {p0 p1 p2 p3 p4 p5 p6 : Addr} {v0 v1 v2 v3 v4 v5 v6 : Value} (h : W.cell? p0 = some v0 ∧ W.cell? p1 = some v1 ∧ W.cell? p2 = some v2 ∧ W.cell? p3 = some v3 ∧ W.cell? p4 = some v4 ∧ W.cell? p5 = some v5 ∧ W.cell? p6 = some v6) (hb : Grew W W') :
    W'.cell? p0 = some v0 ∧ W'.cell? p1 = some v1 ∧ W'.cell? p2 = some v2 ∧ W'.cell? p3 = some v3 ∧ W'.cell? p4 = some v4 ∧ W'.cell? p5 = some v5 ∧ W'.cell? p6 = some v6 := by
  have q := hb.keep
  obtain ⟨h0, h1, h2, h3, h4, h5, h6⟩ := h
  exact ⟨q _ _ h0, q _ _ h1, q _ _ h2, q _ _ h3, q _ _ h4, q _ _ h5, q _ _ h6⟩
theorem enters49 : ∀ args w, (callFunc 49 args).run Tryz.prog w = .ok (.enter 49 args) w := enters_of Tryz.func49 (by kernel_rfl) rfl
theorem enters53 : ∀ args w, (callFunc 53 args).run Tryz.prog w = .ok (.enter 53 args) w := enters_of Tryz.func53 (by kernel_rfl) rfl
theorem ordOne_any (ad bd : Option Addr) (ca cb : Nat) (a b : List Tm) (w : World) (ha : SlQ w ad a) (hb : SlQ w bd b) (la : a.length ≤ 1000000) :
    Calls Tryz.prog 49 #[.slice ad a.length ca, .slice bd b.length cb] w fun e w' => e = .returned (.int .i64 (cmpF a b)) ∧ Grew w w' := by
  have HC := CompareQ_any ad bd ca cb a b w ha hb la
  clear ha hb
  go_enter Tryz.func49, Tryz.ntmps49
  go_wp2_with fail
  refine HC.mono ?_
  rintro e w1 ⟨rfl, hg⟩
  dsimp only
  go_wp2_with fail
  go_ret
  exact ⟨rfl, hg⟩
set_option maxHeartbeats 4000000 in
set_option maxRecDepth 100000 in
theorem ordTwo_any (ad bd : Option Addr) (ca cb bA bS bQ i : Nat) (down : Bool) (a b : List Tm) (w : World) (ha : SlQ w ad a) (hb : SlQ w bd b) (la : a.length ≤ 1000000) (hi : i < a.length) (hj : i < b.length)
    (hA : w.cell? ⟨bA, 0, none⟩ = some (.int .i64 (i : Int))) (hS : w.cell? ⟨bS, 0, none⟩ = some (.func (.func 49) #[] #[])) (hQ : w.cell? ⟨bQ, 3, none⟩ = some (.bool down)) :
    Calls Tryz.prog 53 #[.slice ad a.length ca, .slice bd b.length cb, .pointer (some ⟨bA, 0, none⟩), .pointer (some ⟨bS, 0, none⟩), .pointer (some ⟨bQ, 0, none⟩)] w fun e w' => e = .returned (.int .i64 (cmpQ (some i) down a b)) ∧ Grew w w' := by
  have HC := fun W (hg : Grew w W) => ordOne_any ad bd ca cb a b W (ha.grew hg) (hb.grew hg) la
  have HCC := hideE HC
  have eg := enters49
  obtain ⟨g, o, rfl, c0, c1, c2⟩ := ha.at i hi
  obtain ⟨g', o', rfl, d0, d1, d2⟩ := hb.at i hj
  have i0 : (0 : Int) ≤ (i : Int) := by omega
  have i1 : (i : Int) < (a.length : Int) := by omega
  have i2 : (i : Int) < (b.length : Int) := by omega
  have ea : a.getD i tmZero = a[i] := by rw [List.getD_eq_getElem?_getD, List.getElem?_eq_getElem hi]; rfl
  have eb : b.getD i tmZero = b[i] := by rw [List.getD_eq_getElem?_getD, List.getElem?_eq_getElem hj]; rfl
  obtain ⟨R, hR⟩ : ∃ R, R = cmpQ (some i) down a b := ⟨_, rfl⟩
  rw [← hR]
  have HR : Hid (R = if cmpTm a[i] b[i] = 0 then cmpF a b else if down = true then - cmpTm a[i] b[i] else cmpTm a[i] b[i]) := by
    show _ = _
    rw [hR]
    unfold cmpQ
    dsimp only
    rw [ea, eb]
  have HK := fun W => Compare_grew a[i].1 a[i].2.1 a[i].2.2 b[i].1 b[i].2.1 b[i].2.2 W
  have hdef := hideE (show cmpT a[i].1 a[i].2.1 a[i].2.2 b[i].1 b[i].2.1 b[i].2.2 = cmpTm a[i] b[i] from rfl)
  have hrg := cmpT_range a[i].1 a[i].2.1 a[i].2.2 b[i].1 b[i].2.1 b[i].2.2
  clear ha hb HC ea eb hR
  generalize cmpT a[i].1 a[i].2.1 a[i].2.2 b[i].1 b[i].2.1 b[i].2.2 = cc at *
  generalize cmpF a b = cf at *
  generalize a[i] = x at *
  generalize b[i] = y at *
  go_enter Tryz.func53, Tryz.ntmps53
  go_upto_region 1 with fail
  go_cut [8] from 9 to 17 (fun v W => v = .int .i64 cc ∧ Hid (Grew w W))
  case first =>
    go_region_held3 (fun W => W.cell? ⟨bA, 0, none⟩ = some (.int .i64 (i : Int)) ∧ W.cell? ⟨g, o + i * 3, none⟩ = some (.int .i64 x.1) ∧ W.cell? ⟨g, o + i * 3 + 1, none⟩ = some (.string ⟨x.2.1.toArray⟩) ∧ W.cell? ⟨g, o + i * 3 + 2, none⟩ = some (.string ⟨x.2.2.toArray⟩) ∧ W.cell? ⟨g', o' + i * 3, none⟩ = some (.int .i64 y.1) ∧ W.cell? ⟨g', o' + i * 3 + 1, none⟩ = some (.string ⟨y.2.1.toArray⟩) ∧ W.cell? ⟨g', o' + i * 3 + 2, none⟩ = some (.string ⟨y.2.2.toArray⟩)) (first | go_keep | exact keepG7 (by assumption) hg2) (first | (go_at_call 51; refine (HK _).mono ?_; rintro e w2 ⟨rfl, hg2⟩))
    all_goals
      go_wp2_with fail
      go_meet
      case rel => exact ⟨rfl, (Grew.refl w).drew.trans hg2⟩
  case rest =>
    obtain ⟨rfl, hg⟩ := hcut
    have kp := fun (p : Addr) (v : Value) (hv : w.cell? p = some v) => hg.out.keep p v hv
    have s0 := kp _ _ hS
    have q0 := kp _ _ hQ
    have HC2 := HCC.out wc hg.out
    clear c0 c1 c2 d0 d1 d2 hA hS hQ HK HCC
    by_cases hcc : cc = 0
    · have t3 : (cc == 0) = true := by simp [hcc]
      have hR2 := hideE (show R = cf by rw [HR.out, if_pos (by rw [← hdef.out]; exact hcc)])
      go_wp2_with fail
      go_at_fn 49
      refine HC2.mono ?_
      rintro e w2 ⟨rfl, hg2⟩
      dsimp only
      go_wp2_with fail
      go_ret
      exact ⟨by rw [hR2.out]; rfl, hg.out.trans hg2⟩
    · have t3 : (cc == 0) = false := by simp [hcc]
      cases down with
      | true =>
        have hR2 := hideE (show R = -cc by rw [HR.out, if_neg (by rw [← hdef.out]; exact hcc), if_pos rfl, ← hdef.out])
        have hw : IntKind.i64.wrap (-cc) = -cc := by simp [IntKind.wrap, IntKind.bits, IntKind.signed]; omega
        go_wp2_with fail
        go_ret
        exact ⟨by rw [hR2.out]; rfl, hg.out⟩
      | false =>
        have hR2 := hideE (show R = cc by rw [HR.out, if_neg (by rw [← hdef.out]; exact hcc), if_neg (by simp), ← hdef.out])
        go_wp2_with fail
        go_ret
        exact ⟨by rw [hR2.out]; rfl, hg.out⟩
end Go.Proofs.YtbacenhgedopjaaGreatDoor

/- The contract of slices.SortFunc at rows of terms, laid at this program by program. -/
namespace Go.Proofs
open Go.Shelf
def Tryz.sortQ_ren : Go.Shelf.Ren := ⟨fun | 6 => 28 | 15 => 48 | 14 => 47 | 28 => 81 | 29 => 82 | 20 => 73 | 21 => 74 | 22 => 75 | 23 => 76 | 24 => 77 | 25 => 78 | 26 => 79 | 27 => 80 | 46 => 103 | 47 => 104 | 48 => 105 | 49 => 106 | 50 => 107 | 57 => 127 | n => n, fun | 22 => 36 | 24 => 33 | 25 => 78 | 3 => 3 | 39 => 99 | 0 => 0 | 53 => 133 | 55 => 135 | 4 => 4 | 46 => 126 | 45 => 125 | 50 => 130 | 5 => 5 | 9 => 9 | 66 => 158 | 70 => 162 | 76 => 186 | 77 => 187 | n => n, fun | n => n⟩
theorem Tryz.sortQ : Go.Proofs.SlLaysF.n6 Tryz.prog Tryz.sortQ_ren := {
  mixed := by kernel_rfl
  f6 := ⟨Tryz.f28.name, by decide, Tryz.func28.trans (congrArg some (by kernel_rfl))⟩
  f14 := ⟨Tryz.f47.name, by decide, Tryz.func47.trans (congrArg some (by kernel_rfl))⟩
  f15 := Tryz.func48.trans (congrArg some (by kernel_rfl))
  f20 := ⟨Tryz.f73.name, by decide, Tryz.func73.trans (congrArg some (by kernel_rfl))⟩
  f21 := ⟨Tryz.f74.name, by decide, Tryz.func74.trans (congrArg some (by kernel_rfl))⟩
  f22 := ⟨Tryz.f75.name, by decide, Tryz.func75.trans (congrArg some (by kernel_rfl))⟩
  f23 := ⟨Tryz.f76.name, by decide, Tryz.func76.trans (congrArg some (by kernel_rfl))⟩
  f24 := ⟨Tryz.f77.name, by decide, Tryz.func77.trans (congrArg some (by kernel_rfl))⟩
  f25 := ⟨Tryz.f78.name, by decide, Tryz.func78.trans (congrArg some (by kernel_rfl))⟩
  f26 := ⟨Tryz.f79.name, by decide, Tryz.func79.trans (congrArg some (by kernel_rfl))⟩
  f27 := ⟨Tryz.f80.name, by decide, Tryz.func80.trans (congrArg some (by kernel_rfl))⟩
  f28 := Tryz.func81.trans (congrArg some (by kernel_rfl))
  f29 := Tryz.func82.trans (congrArg some (by kernel_rfl))
  f46 := ⟨Tryz.f103.name, by decide, Tryz.func103.trans (congrArg some (by kernel_rfl))⟩
  f47 := Tryz.func104.trans (congrArg some (by kernel_rfl))
  f48 := Tryz.func105.trans (congrArg some (by kernel_rfl))
  f49 := ⟨Tryz.f106.name, by decide, Tryz.func106.trans (congrArg some (by kernel_rfl))⟩
  f50 := ⟨Tryz.f107.name, by decide, Tryz.func107.trans (congrArg some (by kernel_rfl))⟩
  f57 := ⟨Tryz.f127.name, by decide, Tryz.func127.trans (congrArg some (by kernel_rfl))⟩
  t0 := Tryz.underlying0
  a0 := Tryz.isAgg0
  z0 := Tryz.sizeOf0
  v0 := Tryz.zeroValue0
  t3 := Tryz.underlying3
  a3 := Tryz.isAgg3
  z3 := Tryz.sizeOf3
  v3 := Tryz.zeroValue3
  t4 := Tryz.underlying4
  a4 := Tryz.isAgg4
  z4 := Tryz.sizeOf4
  v4 := Tryz.zeroValue4
  t5 := Tryz.underlying5
  a5 := Tryz.isAgg5
  z5 := Tryz.sizeOf5
  v5 := Tryz.zeroValue5
  t9 := Tryz.underlying9
  a9 := Tryz.isAgg9
  z9 := Tryz.sizeOf9
  v9 := Tryz.zeroValue9
  t22 := Tryz.underlying36
  a22 := Tryz.isAgg36
  z22 := Tryz.sizeOf36
  v22 := Tryz.zeroValue36
  a24 := Tryz.isAgg33
  z24 := Tryz.sizeOf33
  t25 := Tryz.underlying78
  a25 := Tryz.isAgg78
  z25 := Tryz.sizeOf78
  v25 := Tryz.zeroValue78
  t39 := Tryz.underlying99
  a39 := Tryz.isAgg99
  z39 := Tryz.sizeOf99
  v39 := Tryz.zeroValue99
  t45 := Tryz.underlying125
  a45 := Tryz.isAgg125
  z45 := Tryz.sizeOf125
  v45 := Tryz.zeroValue125
  t46 := Tryz.underlying126
  a46 := Tryz.isAgg126
  z46 := Tryz.sizeOf126
  v46 := Tryz.zeroValue126
  t50 := Tryz.underlying130
  a50 := Tryz.isAgg130
  z50 := Tryz.sizeOf130
  v50 := Tryz.zeroValue130
  t53 := Tryz.underlying133
  a53 := Tryz.isAgg133
  z53 := Tryz.sizeOf133
  v53 := Tryz.zeroValue133
  t55 := Tryz.underlying135
  a55 := Tryz.isAgg135
  z55 := Tryz.sizeOf135
  v55 := Tryz.zeroValue135
  t66 := Tryz.underlying158
  a66 := Tryz.isAgg158
  z66 := Tryz.sizeOf158
  v66 := Tryz.zeroValue158
  t70 := Tryz.underlying162
  a70 := Tryz.isAgg162
  z70 := Tryz.sizeOf162
  v70 := Tryz.zeroValue162
  t76 := Tryz.underlying186
  a76 := Tryz.isAgg186
  z76 := Tryz.sizeOf186
  v76 := Tryz.zeroValue186
  t77 := Tryz.underlying187
  a77 := Tryz.isAgg187
  z77 := Tryz.sizeOf187
  v77 := Tryz.zeroValue187 }
end Go.Proofs
