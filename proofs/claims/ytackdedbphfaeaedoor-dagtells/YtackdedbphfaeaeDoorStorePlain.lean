/- A store in plain words: objects by number; what is put, got, found, kept. -/
import Derived.Test.YtackdedbphfaeaeDoorCheck
import Derived.OwnWalk
import Derived.Laws.OwnMore
import Derived.Deep.RegionHeld3
import Derived.Deep.AppendLies
import Derived.Deep.Draws
namespace Go.Proofs.YtackdedbphfaeaeDoor
open Go Go.RowKit Go.Proofs
set_option synthInstance.maxSize 1000

/-- an object: its number, its bytes -/
abbrev Ob := Nat × List UInt8
def findO : List Ob → List UInt8 → Nat
  | [], _ => 0
  | x :: r, b => if x.2 = b then x.1 else findO r b
def getO : List Ob → Int → Option (List UInt8)
  | [], _ => none
  | x :: r, n => if (x.1 : Int) = n then some x.2 else getO r n
def sizeO (L : List Ob) : Nat := (L.map fun x => x.2.length).sum
/-- a number as an int has it -/
def wr64 (n : Int) : Int := (n + 9223372036854775808) % 18446744073709551616 - 9223372036854775808
theorem wr64_id {n : Int} (h0 : -9223372036854775808 ≤ n) (h1 : n ≤ 9223372036854775807) : wr64 n = n := by unfold wr64; omega
theorem wr64_add (a b : Int) : wr64 (wr64 a + b) = wr64 (a + b) := by unfold wr64; omega
def fullO (L : List Ob) (b : List UInt8) : Bool := decide (300 ≤ L.length ∨ 60000 < wr64 (b.length + sizeO L : Nat))
/-- put: the fault, the number, the last number and the list behind it -/
def putE (L : List Ob) (b : List UInt8) : Int := if findO L b ≠ 0 then 0 else if fullO L b = true then 4 else 0
def putI (n : Nat) (L : List Ob) (b : List UInt8) : Nat := if findO L b ≠ 0 then findO L b else if fullO L b = true then 0 else n + 1
def putM (n : Nat) (L : List Ob) (b : List UInt8) : Nat := if findO L b ≠ 0 then n else if fullO L b = true then n else n + 1
def putL (n : Nat) (L : List Ob) (b : List UInt8) : List Ob := if findO L b ≠ 0 then L else if fullO L b = true then L else L ++ [(n + 1, b)]
/-- keep: whether all are there, what is left -/
def heldO (L : List Ob) (ids : List Int) : Bool := ids.all fun i => (getO L i).isSome
def keepO (L : List Ob) (ids : List Int) : List Ob := L.filter fun x => ids.contains (x.1 : Int)
def keepE (L : List Ob) (ids : List Int) : Int := if heldO L ids = true then 0 else 5
def keepI (L : List Ob) (ids : List Int) : Nat := if heldO L ids = true then L.length - (keepO L ids).length else 0
def keepL (L : List Ob) (ids : List Int) : List Ob := if heldO L ids = true then keepO L ids else L

/-- what a store's list is: numbers rise, from 1 to the last; each object once; no more than may be -/
structure GoodO (n : Nat) (L : List Ob) : Prop where
  low : ∀ x ∈ L, 1 ≤ x.1 ∧ x.1 ≤ n
  rise : L.Pairwise fun x y => x.1 < y.1
  once : L.Pairwise fun x y => x.2 ≠ y.2
  len : L.length ≤ 300

theorem goodO_nil (n : Nat) : GoodO n [] := ⟨by simp, by simp, by simp, by simp⟩
theorem sizeO_app (L M : List Ob) : sizeO (L ++ M) = sizeO L + sizeO M := by simp [sizeO]
theorem sizeO_filter (p : Ob → Bool) (L : List Ob) : sizeO (L.filter p) ≤ sizeO L := by
  induction L with
  | nil => simp [sizeO]
  | cons x r ih =>
    rw [List.filter_cons]
    have e : sizeO (x :: r) = x.2.length + sizeO r := by simp [sizeO]
    split
    · have e' : sizeO (x :: r.filter p) = x.2.length + sizeO (r.filter p) := by simp [sizeO]
      omega
    · omega
theorem findO_mem {L : List Ob} {b : List UInt8} (hl : ∀ x ∈ L, 1 ≤ x.1) : findO L b ≠ 0 ↔ ∃ x ∈ L, x.2 = b := by
  induction L with
  | nil => simp [findO]
  | cons x r ih =>
    have := ih fun y hy => hl y (List.mem_cons_of_mem _ hy)
    unfold findO
    split
    · rename_i h
      have := hl x (List.mem_cons_self ..)
      constructor
      · exact fun _ => ⟨x, List.mem_cons_self .., h⟩
      · exact fun _ => by omega
    · rename_i h
      rw [this]
      constructor
      · rintro ⟨y, hy, e⟩; exact ⟨y, List.mem_cons_of_mem _ hy, e⟩
      · rintro ⟨y, hy, e⟩
        rcases List.mem_cons.1 hy with rfl | hy
        · exact absurd e h
        · exact ⟨y, hy, e⟩
theorem findO_at {L : List Ob} {b : List UInt8} {k : Nat} (hk : k < L.length) (hn : ∀ x ∈ L.take k, x.2 ≠ b) (he : L[k].2 = b) : findO L b = L[k].1 := by
  induction L generalizing k with
  | nil => simp at hk
  | cons x r ih =>
    cases k with
    | zero => simp at he; simp [findO, he]
    | succ j =>
      have h0 : x.2 ≠ b := hn x (by simp)
      simp at hk he
      unfold findO
      rw [if_neg h0, ih hk (fun y hy => hn y (by simp [hy])) he]
      simp
theorem findO_none {L : List Ob} {b : List UInt8} (hn : ∀ x ∈ L, x.2 ≠ b) : findO L b = 0 := by
  induction L with
  | nil => rfl
  | cons x r ih =>
    unfold findO
    rw [if_neg (hn x (by simp)), ih fun y hy => hn y (List.mem_cons_of_mem _ hy)]
theorem getO_at {L : List Ob} {n : Int} {k : Nat} (hk : k < L.length) (hn : ∀ x ∈ L.take k, (x.1 : Int) ≠ n) (he : (L[k].1 : Int) = n) : getO L n = some L[k].2 := by
  induction L generalizing k with
  | nil => simp at hk
  | cons x r ih =>
    cases k with
    | zero => simp at he; simp [getO, he]
    | succ j =>
      have h0 : (x.1 : Int) ≠ n := hn x (by simp)
      simp at hk he
      unfold getO
      rw [if_neg h0, ih hk (fun y hy => hn y (by simp [hy])) he]
      simp
theorem getO_none {L : List Ob} {n : Int} (hn : ∀ x ∈ L, (x.1 : Int) ≠ n) : getO L n = none := by
  induction L with
  | nil => rfl
  | cons x r ih =>
    unfold getO
    rw [if_neg (hn x (by simp)), ih fun y hy => hn y (List.mem_cons_of_mem _ hy)]
theorem getO_some {L : List Ob} {n : Int} {b : List UInt8} (h : getO L n = some b) : ∃ x ∈ L, (x.1 : Int) = n ∧ x.2 = b := by
  induction L with
  | nil => simp [getO] at h
  | cons x r ih =>
    unfold getO at h
    split at h
    · rename_i e
      exact ⟨x, by simp, e, Option.some.inj h⟩
    · obtain ⟨y, hy, e⟩ := ih h
      exact ⟨y, List.mem_cons_of_mem _ hy, e⟩
theorem getO_mem {L : List Ob} (hr : L.Pairwise fun x y => x.1 < y.1) {x : Ob} (hx : x ∈ L) : getO L x.1 = some x.2 := by
  induction L with
  | nil => simp at hx
  | cons y r ih =>
    obtain ⟨h1, h2⟩ := List.pairwise_cons.1 hr
    unfold getO
    rcases List.mem_cons.1 hx with rfl | hx
    · rw [if_pos rfl]
    · rw [if_neg (by have := h1 x hx; omega), ih h2 hx]
theorem findO_in {L : List Ob} (ho : L.Pairwise fun x y => x.2 ≠ y.2) {x : Ob} (hx : x ∈ L) : findO L x.2 = x.1 := by
  induction L with
  | nil => simp at hx
  | cons y r ih =>
    obtain ⟨h1, h2⟩ := List.pairwise_cons.1 ho
    unfold findO
    rcases List.mem_cons.1 hx with rfl | hx
    · rw [if_pos rfl]
    · rw [if_neg (h1 x hx), ih h2 hx]

theorem GoodO.put {n : Nat} {L : List Ob} (h : GoodO n L) (b : List UInt8) : GoodO (putM n L b) (putL n L b) := by
  unfold putM putL
  split
  · exact h
  · rename_i h0
    split
    · exact h
    · rename_i hf
      have hf' : ¬ (300 ≤ L.length ∨ 60000 < wr64 (b.length + sizeO L : Nat)) := by simpa [fullO] using hf
      have hnb : ∀ x ∈ L, x.2 ≠ b := fun x hx e => h0 ((findO_mem fun y hy => (h.low y hy).1).2 ⟨x, hx, e⟩)
      refine ⟨fun x hx => ?_, List.pairwise_append.2 ⟨h.rise, by simp, fun x hx y hy => ?_⟩, List.pairwise_append.2 ⟨h.once, by simp, fun x hx y hy => ?_⟩, by simp; omega⟩
      · rcases List.mem_append.1 hx with hx | hx
        · have := h.low x hx; omega
        · simp at hx; subst hx; exact ⟨by show 1 ≤ n + 1; omega, Nat.le_refl _⟩
      · simp at hy; subst hy; have := h.low x hx; show x.1 < n + 1; omega
      · simp at hy; subst hy; exact hnb x hx
theorem GoodO.keep {n : Nat} {L : List Ob} (h : GoodO n L) (ids : List Int) : GoodO n (keepL L ids) := by
  unfold keepL
  split
  · unfold keepO
    refine ⟨fun x hx => h.low x (List.mem_filter.1 hx).1, h.rise.filter _, h.once.filter _, Nat.le_trans (List.length_filter_le _ _) h.len⟩
  · exact h

/-- as long as texts are not too long for a sum, there are no more bytes than may be -/
theorem putL_size {n : Nat} {L : List Ob} {b : List UInt8} (hL : sizeO L ≤ 60000) (hb : b.length ≤ 9223372036854715807) : sizeO (putL n L b) ≤ 60000 := by
  unfold putL
  split
  · exact hL
  · split
    · exact hL
    · rename_i hf
      have hf' : ¬ (300 ≤ L.length ∨ 60000 < wr64 (b.length + sizeO L : Nat)) := by simpa [fullO] using hf
      rw [wr64_id (by omega) (by omega)] at hf'
      rw [sizeO_app]
      simp [sizeO] at hf' ⊢
      omega
theorem keepL_size {L : List Ob} (ids : List Int) : sizeO (keepL L ids) ≤ sizeO L := by
  unfold keepL
  split
  · exact sizeO_filter _ _
  · exact Nat.le_refl _

/-! ### objects in memory -/
def encO (x : Ob) : List Value := [.int .i64 (x.1 : Int), .string ⟨x.2.toArray⟩]
def cellsO (L : List Ob) : List Value := L.flatMap encO
theorem cellsO_len (L : List Ob) : (cellsO L).length = L.length * 2 := by
  induction L with
  | nil => rfl
  | cons x r ih => simp only [cellsO, List.flatMap_cons, List.length_append, List.length_cons] at ih ⊢; rw [ih]; simp [encO]; omega
theorem cellsO_app (L M : List Ob) : cellsO (L ++ M) = cellsO L ++ cellsO M := by simp [cellsO]
theorem cellsO_at (L : List Ob) (k : Nat) (hk : k < L.length) : (cellsO L)[k * 2]? = some (.int .i64 (L[k].1 : Int)) ∧ (cellsO L)[k * 2 + 1]? = some (.string ⟨L[k].2.toArray⟩) := by
  induction L generalizing k with
  | nil => simp at hk
  | cons x r ih =>
    have e : cellsO (x :: r) = .int .i64 (x.1 : Int) :: .string ⟨x.2.toArray⟩ :: cellsO r := rfl
    rw [e]
    cases k with
    | zero => exact ⟨rfl, rfl⟩
    | succ j =>
      have := ih j (by simpa using hk)
      rw [show (j + 1) * 2 = j * 2 + 1 + 1 by omega]
      simpa using this
theorem ownO_at {W : World} {base : Nat} {e : TypeId} {v : Value} {L : List Ob} (h : W.ownsRow base e 2 v L.length (cellsO L)) (k : Nat) (hk : k < L.length) :
    ∃ g cap, v = .slice (some ⟨g, 0, none⟩) L.length cap ∧ W.cell? ⟨g, k * 2, none⟩ = some (.int .i64 (L[k].1 : Int)) ∧ W.cell? ⟨g, k * 2 + 1, none⟩ = some (.string ⟨L[k].2.toArray⟩) := by
  have h' := h
  rcases h.2 with ⟨rfl, h0⟩ | ⟨g, cap, cur, rfl, _⟩
  · omega
  · obtain ⟨c0, c1⟩ := cellsO_at L k hk
    have q0 := h'.cells (g := g) rfl _ _ c0
    have q1 := h'.cells (g := g) rfl _ _ c1
    rw [Addr.add_lit, Nat.zero_add] at q0 q1
    exact ⟨g, cap, rfl, q0, q1⟩
theorem ownO_form {W : World} {base : Nat} {e : TypeId} {v : Value} {L : List Ob} (h : W.ownsRow base e 2 v L.length (cellsO L)) : ∃ ad cap, v = .slice ad L.length cap := by
  rcases h.2 with ⟨rfl, h0⟩ | ⟨g, cap, cur, rfl, _⟩
  · exact ⟨none, 0, by rw [h0]⟩
  · exact ⟨_, cap, rfl⟩
theorem hideO {p : Prop} (h : p) : Hid p := h
theorem ownsO_below {W W' : World} {base : Nat} {e : TypeId} {sz : Nat} {v : Value} {n : Nat} {cs : List Value} (h : W.ownsRow base e sz v n cs) (hb : RowKit.Below W.heap.size W W') : W'.ownsRow base e sz v n cs :=
  h.kept (row := none) ⟨hb.os, hb.tape, hb.output, hb.size, fun i hi _ => hb.block i hi⟩ (Classical.em _)
theorem bdO (w : World) (q : Nat) : RowKit.Below w.heap.size w (w.drewN q) := ⟨rfl, rfl, rfl, Nat.le_refl _, fun _ _ => rfl⟩

/-- the blocks that a change may turn: all others are as they were -/
structure Offs (O : Nat → Prop) (w w' : World) : Prop where
  os : w'.os = w.os
  tape : w'.tape = w.tape
  output : w'.output = w.output
  size : w.heap.size ≤ w'.heap.size
  block : ∀ k, k < w.heap.size → ¬ O k → w'.heap[k]? = w.heap[k]?
theorem Offs.of_below {O : Nat → Prop} {w w' : World} (h : RowKit.Below w.heap.size w w') : Offs O w w' := ⟨h.os, h.tape, h.output, h.size, fun k hk _ => h.block k hk⟩
theorem Offs.of_grown {O : Nat → Prop} {w w' : World} {row : Option Nat} (h : w.grownBy w' row) (hr : ∀ k, row = some k → O k) : Offs O w w' :=
  ⟨h.os, h.tape, h.output, h.size, fun k hk hO => h.block k hk fun e => hO (hr k e.symm)⟩
theorem Offs.trans {O O' : Nat → Prop} {a b c : World} (h : Offs O a b) (k : Offs O' b c) (hO : ∀ j, O' j → O j ∨ a.heap.size ≤ j) : Offs O a c :=
  ⟨k.os.trans h.os, k.tape.trans h.tape, k.output.trans h.output, Nat.le_trans h.size k.size, fun j hj hn => (k.block j (Nat.lt_of_lt_of_le hj h.size) fun hj' => (hO j hj').elim hn (fun h' => by omega)).trans (h.block j hj hn)⟩
theorem Offs.step {O : Nat → Prop} {a b c : World} (h : Offs O a b) (k : RowKit.Below b.heap.size b c) : Offs O a c := h.trans (Offs.of_below (O := O) k) fun _ h' => Or.inl h'
theorem Offs.mono {O O' : Nat → Prop} {a b : World} (h : Offs O a b) (hO : ∀ j, O j → O' j ∨ a.heap.size ≤ j) : Offs O' a b :=
  ⟨h.os, h.tape, h.output, h.size, fun j hj hn => h.block j hj fun hj' => (hO j hj').elim hn (fun h' => by omega)⟩
theorem Offs.cell {O : Nat → Prop} {w w' : World} (h : Offs O w w') {p : Addr} (hp : p.block < w.heap.size) (hO : ¬ O p.block) : w'.cell? p = w.cell? p := World.cell?_of_block (w := w) (h.block p.block hp hO)
theorem Offs.below {O : Nat → Prop} {B : Nat} {w w' : World} (h : Offs O w w') (hO : ∀ j, O j → B ≤ j) (hB : B ≤ w.heap.size) : RowKit.Below B w w' :=
  ⟨h.os, h.tape, h.output, h.size, fun k hk => h.block k (by omega) fun hk' => by have := hO k hk'; omega⟩

/-- a slice of numbers (nothing is said of an empty one) -/
def SlI (w : World) (ad : Option Addr) (l : List Int) : Prop := l ≠ [] → ∃ b o, ad = some ⟨b, o, none⟩ ∧ ∀ (j : Nat) (hj : j < l.length), w.cell? ⟨b, o + j, none⟩ = some (.int .i64 l[j])
theorem SlI.below {w w' : World} {ad : Option Addr} {l : List Int} (h : SlI w ad l) (hb : RowKit.Below w.heap.size w w') : SlI w' ad l := fun hl => by
  obtain ⟨b, o, e, h1⟩ := h hl
  exact ⟨b, o, e, fun j hj => (hb.cell (World.block_lt_of_cell? w _ (h1 j hj))).trans (h1 j hj)⟩
theorem SlI.at {w : World} {ad : Option Addr} {l : List Int} (h : SlI w ad l) {j : Nat} (hj : j < l.length) : ∃ b o, ad = some ⟨b, o, none⟩ ∧ w.cell? ⟨b, o + j, none⟩ = some (.int .i64 l[j]) := by
  obtain ⟨b, o, e, h1⟩ := h (fun e => by rw [e] at hj; simp at hj)
  exact ⟨b, o, e, h1 j hj⟩

/-- lists of numbers, in a list -/
def ListsAt (w : World) (b o : Nat) (Q : List (List Int)) : Prop := ∀ (i : Nat) (hi : i < Q.length), ∃ a c, w.cell? ⟨b, o + i, none⟩ = some (.slice a Q[i].length c) ∧ SlI w a Q[i] ∧ Q[i].length ≤ c
/-- texts, in a list -/
def TextsAt (w : World) (b o : Nat) (T : List (List UInt8)) : Prop := ∀ (i : Nat) (hi : i < T.length), w.cell? ⟨b, o + i, none⟩ = some (.string ⟨T[i].toArray⟩)

end Go.Proofs.YtackdedbphfaeaeDoor
