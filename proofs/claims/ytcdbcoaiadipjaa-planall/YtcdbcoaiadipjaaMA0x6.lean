import Derived.Test.YtcdbcoaiadipjaaMA0x2
import Derived.Test.YtcdbcoaiadipjaaMA0x5
import Derived.Test.YtcdbcoaiadipjaaMA0x0
import Derived.OwnWalk
import Derived.Laws.OwnMore
import Derived.Deep.RegionHeld3
import Derived.Deep.AppendLies
import Derived.Deep.Draws
import Derived.Deep.DeepCutAuto
import Derived.Lib.SliceRun
import Derived.Laws.EntriesVeiled
import Derived.RangeFuncBox

/- Lists of texts and of patterns in memory; a question as a value. -/
namespace Go.Proofs.Ytcdbcoaiadipjaa
open Go Go.RowKit Go.Proofs Go.Maps
set_option synthInstance.maxSize 1000

/-- a slice holds a list of texts, wherever it begins -/
def SlW (w : World) (ad : Option Addr) (l : List (List UInt8)) : Prop := l ≠ [] → ∃ b o, ad = some ⟨b, o, none⟩ ∧ ∀ j (hj : j < l.length), w.cell? ⟨b, o + j, none⟩ = some (encV l[j])
theorem SlW.below {w w' : World} {ad : Option Addr} {l : List (List UInt8)} (h : SlW w ad l) (hb : RowKit.Below w.heap.size w w') : SlW w' ad l := fun hl => by
  obtain ⟨b, o, e, r⟩ := h hl
  exact ⟨b, o, e, fun j hj => (hb.cell (World.block_lt_of_cell? w _ (r j hj))).trans (r j hj)⟩
theorem SlW.at {w : World} {ad : Option Addr} {l : List (List UInt8)} (h : SlW w ad l) (k : Nat) (hk : k < l.length) : ∃ b o, ad = some ⟨b, o, none⟩ ∧ w.cell? ⟨b, o + k, none⟩ = some (.string ⟨l[k].toArray⟩) := by
  obtain ⟨b, o, e, r⟩ := h (fun e => by rw [e] at hk; simp at hk)
  exact ⟨b, o, e, r k hk⟩
theorem slW_nil (W : World) (ad : Option Addr) : SlW W ad [] := fun h => absurd rfl h
theorem SlV.w {w : World} {ad : Option Addr} {l : List (List UInt8)} (h : SlV w ad l) : SlW w ad l := fun hl => by
  obtain ⟨b, e, r⟩ := h hl
  exact ⟨b, 0, e, fun j hj => by rw [Nat.zero_add]; exact r j hj⟩
theorem SlW.take {w : World} {ad : Option Addr} {l : List (List UInt8)} (h : SlW w ad l) (k : Nat) : SlW w ad (l.take k) := fun hl => by
  have hne : l ≠ [] := fun e => by rw [e] at hl; simp at hl
  obtain ⟨b, o, e, r⟩ := h hne
  refine ⟨b, o, e, fun j hj => ?_⟩
  rw [List.length_take] at hj
  rw [List.getElem_take]
  exact r j (by omega)
theorem own_w {W : World} {base : Nat} {v : Value} {t : List (List UInt8)} (h : W.ownsRow base 9 1 v t.length (t.map encV)) : ∃ ad cap, v = .slice ad t.length cap ∧ SlW W ad t := by
  obtain ⟨ad, cap, e, hs⟩ := own_v h
  exact ⟨ad, cap, e, hs.w⟩

/-- the patterns of a list, cell by cell -/
def cellsPt (l : List Pt) : List Value := l.flatMap encPt
theorem encPt_len (x : Pt) : (encPt x).length = 12 := rfl
theorem encPt_one (x : Pt) : ∀ v ∈ encPt x, v.oneCell' = true := by
  intro v hv
  simp [encPt] at hv
  rcases hv with rfl | rfl | rfl | rfl | rfl | rfl | rfl | rfl | rfl | rfl | rfl | rfl <;> rfl
theorem cellsPt_len (l : List Pt) : (cellsPt l).length = l.length * 12 := by
  induction l with
  | nil => rfl
  | cons x r ih => simp only [cellsPt, List.flatMap_cons, List.length_append, List.length_cons] at *; rw [ih, encPt_len]; omega
theorem cellsPt_at (l : List Pt) (i : Nat) (h : i < l.length) (j : Nat) (hj : j < 12) : (cellsPt l)[i * 12 + j]? = (encPt l[i])[j]? := by
  induction l generalizing i with
  | nil => simp at h
  | cons x r ih =>
    simp only [cellsPt, List.flatMap_cons] at *
    cases i with
    | zero => rw [List.getElem?_append_left (by rw [encPt_len]; omega)]; simp
    | succ n =>
      rw [List.getElem?_append_right (by rw [encPt_len]; omega), encPt_len, show (n + 1) * 12 + j - 12 = n * 12 + j by omega, ih n (by simpa using h)]
      simp
def RowPt (w : World) (b o : Nat) (l : List Pt) : Prop := ∀ j v, (cellsPt l)[j]? = some v → w.cell? ⟨b, o + j, none⟩ = some v
theorem RowPt.below {w w' : World} {b o : Nat} {l : List Pt} (h : RowPt w b o l) (hb : RowKit.Below w.heap.size w w') : RowPt w' b o l := fun j v hv =>
  (hb.cell (World.block_lt_of_cell? w _ (h j v hv))).trans (h j v hv)
theorem RowPt.at {w : World} {b o : Nat} {l : List Pt} (h : RowPt w b o l) (i : Nat) (hi : i < l.length) : ∀ j v, (encPt l[i])[j]? = some v → w.cell? ⟨b, o + i * 12 + j, none⟩ = some v := fun j v hv => by
  have hj : j < 12 := (List.getElem?_eq_some_iff.1 hv).1
  rw [Nat.add_assoc]
  exact h _ v (by rw [cellsPt_at l i hi j hj]; exact hv)
/-- a slice holds a list of patterns -/
def SlPt (w : World) (ad : Option Addr) (l : List Pt) : Prop := l ≠ [] → ∃ b o, ad = some ⟨b, o, none⟩ ∧ RowPt w b o l
theorem SlPt.below {w w' : World} {ad : Option Addr} {l : List Pt} (h : SlPt w ad l) (hb : RowKit.Below w.heap.size w w') : SlPt w' ad l := fun hl => by
  obtain ⟨b, o, e, r⟩ := h hl
  exact ⟨b, o, e, r.below hb⟩
theorem SlPt.at {w : World} {ad : Option Addr} {l : List Pt} (h : SlPt w ad l) (i : Nat) (hi : i < l.length) : ∃ b o, ad = some ⟨b, o, none⟩ ∧ RowPt w b o l :=
  h (fun e => by rw [e] at hi; simp at hi)
theorem slPt_nil (W : World) (ad : Option Addr) : SlPt W ad [] := fun h => absurd rfl h
theorem own_slPt {W : World} {base : Nat} {e : TypeId} {v : Value} {t : List Pt} (h : W.ownsRow base e 12 v t.length (cellsPt t)) : ∃ ad cap, v = .slice ad t.length cap ∧ SlPt W ad t := by
  have h' := h
  rcases h.2 with ⟨rfl, h0⟩ | ⟨g, cap, cur, rfl, _⟩
  · exact ⟨none, 0, by rw [h0], fun hne => absurd (List.eq_nil_of_length_eq_zero h0) hne⟩
  · refine ⟨some ⟨g, 0, none⟩, cap, rfl, fun _ => ⟨g, 0, rfl, fun j u hj => ?_⟩⟩
    have := h'.cells (g := g) rfl j u hj
    rwa [Addr.add_lit] at this
theorem infoPt : (Try.prog.info? 32).map (fun i => (i.zero, i.size, i.bytes)) = some (some (.agg (encPt (([], tmZero), ([], tmZero), ([], tmZero))).toArray), 12, 168) := by kernel_rfl

/-- a question as a value: where its lists lie -/
def valQ (q : Qu) (vd : Option Addr) (vc : Nat) (pd : Option Addr) (pc : Nat) : Value := .agg #[.slice vd q.vars.length vc, .slice pd q.parts.length pc, .string ⟨q.order.toArray⟩, .bool q.down, .bool q.dist, .int .i64 q.lim]
/-- a question that is handed in, or answered -/
structure QuIn (w : World) (q : Qu) (vd pd : Option Addr) : Prop where
  vars : SlW w vd q.vars
  parts : SlPt w pd q.parts
theorem QuIn.below {w w' : World} {q : Qu} {vd pd : Option Addr} (h : QuIn w q vd pd) (hb : RowKit.Below w.heap.size w w') : QuIn w' q vd pd := ⟨h.vars.below hb, h.parts.below hb⟩
theorem hideQ {p : Prop} (h : p) : Hid p := h
/-- a question's box -/
structure BoxQ (w : World) (b : Nat) (q : Qu) (vd pd : Option Addr) (vc pc : Nat) : Prop where
  c0 : w.cell? ⟨b, 0, none⟩ = some (.slice vd q.vars.length vc)
  c1 : w.cell? ⟨b, 1, none⟩ = some (.slice pd q.parts.length pc)
  c2 : w.cell? ⟨b, 2, none⟩ = some (.string ⟨q.order.toArray⟩)
  c3 : w.cell? ⟨b, 3, none⟩ = some (.bool q.down)
  c4 : w.cell? ⟨b, 4, none⟩ = some (.bool q.dist)
  c5 : w.cell? ⟨b, 5, none⟩ = some (.int .i64 q.lim)
theorem BoxQ.below {w w' : World} {b : Nat} {q : Qu} {vd pd : Option Addr} {vc pc : Nat} (h : BoxQ w b q vd pd vc pc) (hb : RowKit.Below w.heap.size w w') : BoxQ w' b q vd pd vc pc := by
  have s : ∀ j v, w.cell? ⟨b, j, none⟩ = some v → w'.cell? ⟨b, j, none⟩ = some v := fun j v hv => (hb.cell (World.block_lt_of_cell? w _ hv)).trans hv
  exact ⟨s _ _ h.c0, s _ _ h.c1, s _ _ h.c2, s _ _ h.c3, s _ _ h.c4, s _ _ h.c5⟩
theorem boxQ_new (w : World) (q : Qu) (vd pd : Option Addr) (vc pc : Nat) : BoxQ (w.alloc (.cells #[.slice vd q.vars.length vc, .slice pd q.parts.length pc, .string ⟨q.order.toArray⟩, .bool q.down, .bool q.dist, .int .i64 q.lim] 26)) w.heap.size q vd pd vc pc :=
  ⟨by go_simp, by go_simp, by go_simp, by go_simp, by go_simp, by go_simp⟩
/-- its texts and lists are no longer than such may be -/
structure FitQ (q : Qu) : Prop where
  vl : q.vars.length ≤ 9223372036854775807
  pl : q.parts.length ≤ 9223372036854775807
  vt : ∀ v ∈ q.vars, v.length ≤ maxLen
  pt : ∀ p ∈ q.parts, fitPt p
  ord : q.order.length ≤ maxLen
  lim : (Lit.int .i64 q.lim).wf = true
end Go.Proofs.Ytcdbcoaiadipjaa

/- A store in plain words: objects by number; what is put, got, found, kept. -/
namespace Go.Proofs.Ytcdbcoaiadipjaa
open Go Go.RowKit Go.Proofs
set_option synthInstance.maxSize 1000

/-- an object: its number, its bytes -/
abbrev Ob := Nat × List UInt8
def findO : List Ob → List UInt8 → Nat
  | [], _ => 0
  | x :: r, b => if x.2 = b then x.1 else findO r b
def getO : List Ob → Int → Option (List UInt8)
  | [], _ => none
  | x :: r, n => if (x.1 : Int) = n then some x.2 else getO r n
def sizeO (L : List Ob) : Nat := (L.map fun x => x.2.length).sum
/-- a number as an int has it -/
def wr64 (n : Int) : Int := (n + 9223372036854775808) % 18446744073709551616 - 9223372036854775808
theorem wr64_id {n : Int} (h0 : -9223372036854775808 ≤ n) (h1 : n ≤ 9223372036854775807) : wr64 n = n := by unfold wr64; omega
theorem wr64_add (a b : Int) : wr64 (wr64 a + b) = wr64 (a + b) := by unfold wr64; omega
def fullO (L : List Ob) (b : List UInt8) : Bool := decide (300 ≤ L.length ∨ 60000 < wr64 (b.length + sizeO L : Nat))
/-- put: the fault, the number, the last number and the list behind it -/
def putE (L : List Ob) (b : List UInt8) : Int := if findO L b ≠ 0 then 0 else if fullO L b = true then 4 else 0
def putI (n : Nat) (L : List Ob) (b : List UInt8) : Nat := if findO L b ≠ 0 then findO L b else if fullO L b = true then 0 else n + 1
def putM (n : Nat) (L : List Ob) (b : List UInt8) : Nat := if findO L b ≠ 0 then n else if fullO L b = true then n else n + 1
def putL (n : Nat) (L : List Ob) (b : List UInt8) : List Ob := if findO L b ≠ 0 then L else if fullO L b = true then L else L ++ [(n + 1, b)]
/-- keep: whether all are there, what is left -/
def heldO (L : List Ob) (ids : List Int) : Bool := ids.all fun i => (getO L i).isSome
def keepO (L : List Ob) (ids : List Int) : List Ob := L.filter fun x => ids.contains (x.1 : Int)
def keepE (L : List Ob) (ids : List Int) : Int := if heldO L ids = true then 0 else 5
def keepI (L : List Ob) (ids : List Int) : Nat := if heldO L ids = true then L.length - (keepO L ids).length else 0
def keepL (L : List Ob) (ids : List Int) : List Ob := if heldO L ids = true then keepO L ids else L

/-- what a store's list is: numbers rise, from 1 to the last; each object once; no more than may be -/
structure GoodO (n : Nat) (L : List Ob) : Prop where
  low : ∀ x ∈ L, 1 ≤ x.1 ∧ x.1 ≤ n
  rise : L.Pairwise fun x y => x.1 < y.1
  once : L.Pairwise fun x y => x.2 ≠ y.2
  len : L.length ≤ 300

theorem goodO_nil (n : Nat) : GoodO n [] := ⟨by simp, by simp, by simp, by simp⟩
theorem sizeO_app (L M : List Ob) : sizeO (L ++ M) = sizeO L + sizeO M := by simp [sizeO]
theorem sizeO_filter (p : Ob → Bool) (L : List Ob) : sizeO (L.filter p) ≤ sizeO L := by
  induction L with
  | nil => simp [sizeO]
  | cons x r ih =>
    rw [List.filter_cons]
    have e : sizeO (x :: r) = x.2.length + sizeO r := by simp [sizeO]
    split
    · have e' : sizeO (x :: r.filter p) = x.2.length + sizeO (r.filter p) := by simp [sizeO]
      omega
    · omega
theorem findO_mem {L : List Ob} {b : List UInt8} (hl : ∀ x ∈ L, 1 ≤ x.1) : findO L b ≠ 0 ↔ ∃ x ∈ L, x.2 = b := by
  induction L with
  | nil => simp [findO]
  | cons x r ih =>
    have := ih fun y hy => hl y (List.mem_cons_of_mem _ hy)
    unfold findO
    split
    · rename_i h
      have := hl x (List.mem_cons_self ..)
      constructor
      · exact fun _ => ⟨x, List.mem_cons_self .., h⟩
      · exact fun _ => by omega
    · rename_i h
      rw [this]
      constructor
      · rintro ⟨y, hy, e⟩; exact ⟨y, List.mem_cons_of_mem _ hy, e⟩
      · rintro ⟨y, hy, e⟩
        rcases List.mem_cons.1 hy with rfl | hy
        · exact absurd e h
        · exact ⟨y, hy, e⟩
theorem findO_at {L : List Ob} {b : List UInt8} {k : Nat} (hk : k < L.length) (hn : ∀ x ∈ L.take k, x.2 ≠ b) (he : L[k].2 = b) : findO L b = L[k].1 := by
  induction L generalizing k with
  | nil => simp at hk
  | cons x r ih =>
    cases k with
    | zero => simp at he; simp [findO, he]
    | succ j =>
      have h0 : x.2 ≠ b := hn x (by simp)
      simp at hk he
      unfold findO
      rw [if_neg h0, ih hk (fun y hy => hn y (by simp [hy])) he]
      simp
theorem findO_none {L : List Ob} {b : List UInt8} (hn : ∀ x ∈ L, x.2 ≠ b) : findO L b = 0 := by
  induction L with
  | nil => rfl
  | cons x r ih =>
    unfold findO
    rw [if_neg (hn x (by simp)), ih fun y hy => hn y (List.mem_cons_of_mem _ hy)]
theorem getO_at {L : List Ob} {n : Int} {k : Nat} (hk : k < L.length) (hn : ∀ x ∈ L.take k, (x.1 : Int) ≠ n) (he : (L[k].1 : Int) = n) : getO L n = some L[k].2 := by
  induction L generalizing k with
  | nil => simp at hk
  | cons x r ih =>
    cases k with
    | zero => simp at he; simp [getO, he]
    | succ j =>
      have h0 : (x.1 : Int) ≠ n := hn x (by simp)
      simp at hk he
      unfold getO
      rw [if_neg h0, ih hk (fun y hy => hn y (by simp [hy])) he]
      simp
theorem getO_none {L : List Ob} {n : Int} (hn : ∀ x ∈ L, (x.1 : Int) ≠ n) : getO L n = none := by
  induction L with
  | nil => rfl
  | cons x r ih =>
    unfold getO
    rw [if_neg (hn x (by simp)), ih fun y hy => hn y (List.mem_cons_of_mem _ hy)]
theorem getO_some {L : List Ob} {n : Int} {b : List UInt8} (h : getO L n = some b) : ∃ x ∈ L, (x.1 : Int) = n ∧ x.2 = b := by
  induction L with
  | nil => simp [getO] at h
  | cons x r ih =>
    unfold getO at h
    split at h
    · rename_i e
      exact ⟨x, by simp, e, Option.some.inj h⟩
    · obtain ⟨y, hy, e⟩ := ih h
      exact ⟨y, List.mem_cons_of_mem _ hy, e⟩
theorem getO_mem {L : List Ob} (hr : L.Pairwise fun x y => x.1 < y.1) {x : Ob} (hx : x ∈ L) : getO L x.1 = some x.2 := by
  induction L with
  | nil => simp at hx
  | cons y r ih =>
    obtain ⟨h1, h2⟩ := List.pairwise_cons.1 hr
    unfold getO
    rcases List.mem_cons.1 hx with rfl | hx
    · rw [if_pos rfl]
    · rw [if_neg (by have := h1 x hx; omega), ih h2 hx]
theorem findO_in {L : List Ob} (ho : L.Pairwise fun x y => x.2 ≠ y.2) {x : Ob} (hx : x ∈ L) : findO L x.2 = x.1 := by
  induction L with
  | nil => simp at hx
  | cons y r ih =>
    obtain ⟨h1, h2⟩ := List.pairwise_cons.1 ho
    unfold findO
    rcases List.mem_cons.1 hx with rfl | hx
    · rw [if_pos rfl]
    · rw [if_neg (h1 x hx), ih h2 hx]

theorem GoodO.put {n : Nat} {L : List Ob} (h : GoodO n L) (b : List UInt8) : GoodO (putM n L b) (putL n L b) := by
  unfold putM putL
  split
  · exact h
  · rename_i h0
    split
    · exact h
    · rename_i hf
      have hf' : ¬ (300 ≤ L.length ∨ 60000 < wr64 (b.length + sizeO L : Nat)) := by simpa [fullO] using hf
      have hnb : ∀ x ∈ L, x.2 ≠ b := fun x hx e => h0 ((findO_mem fun y hy => (h.low y hy).1).2 ⟨x, hx, e⟩)
      refine ⟨fun x hx => ?_, List.pairwise_append.2 ⟨h.rise, by simp, fun x hx y hy => ?_⟩, List.pairwise_append.2 ⟨h.once, by simp, fun x hx y hy => ?_⟩, by simp; omega⟩
      · rcases List.mem_append.1 hx with hx | hx
        · have := h.low x hx; omega
        · simp at hx; subst hx; exact ⟨by show 1 ≤ n + 1; omega, Nat.le_refl _⟩
      · simp at hy; subst hy; have := h.low x hx; show x.1 < n + 1; omega
      · simp at hy; subst hy; exact hnb x hx
theorem GoodO.keep {n : Nat} {L : List Ob} (h : GoodO n L) (ids : List Int) : GoodO n (keepL L ids) := by
  unfold keepL
  split
  · unfold keepO
    refine ⟨fun x hx => h.low x (List.mem_filter.1 hx).1, h.rise.filter _, h.once.filter _, Nat.le_trans (List.length_filter_le _ _) h.len⟩
  · exact h

/-- as long as texts are not too long for a sum, there are no more bytes than may be -/
theorem putL_size {n : Nat} {L : List Ob} {b : List UInt8} (hL : sizeO L ≤ 60000) (hb : b.length ≤ 9223372036854715807) : sizeO (putL n L b) ≤ 60000 := by
  unfold putL
  split
  · exact hL
  · split
    · exact hL
    · rename_i hf
      have hf' : ¬ (300 ≤ L.length ∨ 60000 < wr64 (b.length + sizeO L : Nat)) := by simpa [fullO] using hf
      rw [wr64_id (by omega) (by omega)] at hf'
      rw [sizeO_app]
      simp [sizeO] at hf' ⊢
      omega
theorem keepL_size {L : List Ob} (ids : List Int) : sizeO (keepL L ids) ≤ sizeO L := by
  unfold keepL
  split
  · exact sizeO_filter _ _
  · exact Nat.le_refl _

/-! ### objects in memory -/
def encO (x : Ob) : List Value := [.int .i64 (x.1 : Int), .string ⟨x.2.toArray⟩]
def cellsO (L : List Ob) : List Value := L.flatMap encO
theorem cellsO_len (L : List Ob) : (cellsO L).length = L.length * 2 := by
  induction L with
  | nil => rfl
  | cons x r ih => simp only [cellsO, List.flatMap_cons, List.length_append, List.length_cons] at ih ⊢; rw [ih]; simp [encO]; omega
theorem cellsO_app (L M : List Ob) : cellsO (L ++ M) = cellsO L ++ cellsO M := by simp [cellsO]
theorem cellsO_at (L : List Ob) (k : Nat) (hk : k < L.length) : (cellsO L)[k * 2]? = some (.int .i64 (L[k].1 : Int)) ∧ (cellsO L)[k * 2 + 1]? = some (.string ⟨L[k].2.toArray⟩) := by
  induction L generalizing k with
  | nil => simp at hk
  | cons x r ih =>
    have e : cellsO (x :: r) = .int .i64 (x.1 : Int) :: .string ⟨x.2.toArray⟩ :: cellsO r := rfl
    rw [e]
    cases k with
    | zero => exact ⟨rfl, rfl⟩
    | succ j =>
      have := ih j (by simpa using hk)
      rw [show (j + 1) * 2 = j * 2 + 1 + 1 by omega]
      simpa using this
theorem ownO_at {W : World} {base : Nat} {e : TypeId} {v : Value} {L : List Ob} (h : W.ownsRow base e 2 v L.length (cellsO L)) (k : Nat) (hk : k < L.length) :
    ∃ g cap, v = .slice (some ⟨g, 0, none⟩) L.length cap ∧ W.cell? ⟨g, k * 2, none⟩ = some (.int .i64 (L[k].1 : Int)) ∧ W.cell? ⟨g, k * 2 + 1, none⟩ = some (.string ⟨L[k].2.toArray⟩) := by
  have h' := h
  rcases h.2 with ⟨rfl, h0⟩ | ⟨g, cap, cur, rfl, _⟩
  · omega
  · obtain ⟨c0, c1⟩ := cellsO_at L k hk
    have q0 := h'.cells (g := g) rfl _ _ c0
    have q1 := h'.cells (g := g) rfl _ _ c1
    rw [Addr.add_lit, Nat.zero_add] at q0 q1
    exact ⟨g, cap, rfl, q0, q1⟩
theorem ownO_form {W : World} {base : Nat} {e : TypeId} {v : Value} {L : List Ob} (h : W.ownsRow base e 2 v L.length (cellsO L)) : ∃ ad cap, v = .slice ad L.length cap := by
  rcases h.2 with ⟨rfl, h0⟩ | ⟨g, cap, cur, rfl, _⟩
  · exact ⟨none, 0, by rw [h0]⟩
  · exact ⟨_, cap, rfl⟩
theorem hideO {p : Prop} (h : p) : Hid p := h
theorem ownsO_below {W W' : World} {base : Nat} {e : TypeId} {sz : Nat} {v : Value} {n : Nat} {cs : List Value} (h : W.ownsRow base e sz v n cs) (hb : RowKit.Below W.heap.size W W') : W'.ownsRow base e sz v n cs :=
  h.kept (row := none) ⟨hb.os, hb.tape, hb.output, hb.size, fun i hi _ => hb.block i hi⟩ (Classical.em _)
theorem bdO (w : World) (q : Nat) : RowKit.Below w.heap.size w (w.drewN q) := ⟨rfl, rfl, rfl, Nat.le_refl _, fun _ _ => rfl⟩

/-- the blocks that a change may turn: all others are as they were -/
structure Offs (O : Nat → Prop) (w w' : World) : Prop where
  os : w'.os = w.os
  tape : w'.tape = w.tape
  output : w'.output = w.output
  size : w.heap.size ≤ w'.heap.size
  block : ∀ k, k < w.heap.size → ¬ O k → w'.heap[k]? = w.heap[k]?
theorem Offs.of_below {O : Nat → Prop} {w w' : World} (h : RowKit.Below w.heap.size w w') : Offs O w w' := ⟨h.os, h.tape, h.output, h.size, fun k hk _ => h.block k hk⟩
theorem Offs.of_grown {O : Nat → Prop} {w w' : World} {row : Option Nat} (h : w.grownBy w' row) (hr : ∀ k, row = some k → O k) : Offs O w w' :=
  ⟨h.os, h.tape, h.output, h.size, fun k hk hO => h.block k hk fun e => hO (hr k e.symm)⟩
theorem Offs.trans {O O' : Nat → Prop} {a b c : World} (h : Offs O a b) (k : Offs O' b c) (hO : ∀ j, O' j → O j ∨ a.heap.size ≤ j) : Offs O a c :=
  ⟨k.os.trans h.os, k.tape.trans h.tape, k.output.trans h.output, Nat.le_trans h.size k.size, fun j hj hn => (k.block j (Nat.lt_of_lt_of_le hj h.size) fun hj' => (hO j hj').elim hn (fun h' => by omega)).trans (h.block j hj hn)⟩
theorem Offs.step {O : Nat → Prop} {a b c : World} (h : Offs O a b) (k : RowKit.Below b.heap.size b c) : Offs O a c := h.trans (Offs.of_below (O := O) k) fun _ h' => Or.inl h'
theorem Offs.mono {O O' : Nat → Prop} {a b : World} (h : Offs O a b) (hO : ∀ j, O j → O' j ∨ a.heap.size ≤ j) : Offs O' a b :=
  ⟨h.os, h.tape, h.output, h.size, fun j hj hn => h.block j hj fun hj' => (hO j hj').elim hn (fun h' => by omega)⟩
theorem Offs.cell {O : Nat → Prop} {w w' : World} (h : Offs O w w') {p : Addr} (hp : p.block < w.heap.size) (hO : ¬ O p.block) : w'.cell? p = w.cell? p := World.cell?_of_block (w := w) (h.block p.block hp hO)
theorem Offs.below {O : Nat → Prop} {B : Nat} {w w' : World} (h : Offs O w w') (hO : ∀ j, O j → B ≤ j) (hB : B ≤ w.heap.size) : RowKit.Below B w w' :=
  ⟨h.os, h.tape, h.output, h.size, fun k hk => h.block k (by omega) fun hk' => by have := hO k hk'; omega⟩

/-- a slice of numbers (nothing is said of an empty one) -/
def SlI (w : World) (ad : Option Addr) (l : List Int) : Prop := l ≠ [] → ∃ b o, ad = some ⟨b, o, none⟩ ∧ ∀ (j : Nat) (hj : j < l.length), w.cell? ⟨b, o + j, none⟩ = some (.int .i64 l[j])
theorem SlI.below {w w' : World} {ad : Option Addr} {l : List Int} (h : SlI w ad l) (hb : RowKit.Below w.heap.size w w') : SlI w' ad l := fun hl => by
  obtain ⟨b, o, e, h1⟩ := h hl
  exact ⟨b, o, e, fun j hj => (hb.cell (World.block_lt_of_cell? w _ (h1 j hj))).trans (h1 j hj)⟩
theorem SlI.at {w : World} {ad : Option Addr} {l : List Int} (h : SlI w ad l) {j : Nat} (hj : j < l.length) : ∃ b o, ad = some ⟨b, o, none⟩ ∧ w.cell? ⟨b, o + j, none⟩ = some (.int .i64 l[j]) := by
  obtain ⟨b, o, e, h1⟩ := h (fun e => by rw [e] at hj; simp at hj)
  exact ⟨b, o, e, h1 j hj⟩

/-- lists of numbers, in a list -/
def ListsAt (w : World) (b o : Nat) (Q : List (List Int)) : Prop := ∀ (i : Nat) (hi : i < Q.length), ∃ a c, w.cell? ⟨b, o + i, none⟩ = some (.slice a Q[i].length c) ∧ SlI w a Q[i] ∧ Q[i].length ≤ c
/-- texts, in a list -/
def TextsAt (w : World) (b o : Nat) (T : List (List UInt8)) : Prop := ∀ (i : Nat) (hi : i < T.length), w.cell? ⟨b, o + i, none⟩ = some (.string ⟨T[i].toArray⟩)

end Go.Proofs.Ytcdbcoaiadipjaa

/- Natural numbers in a row of one's own. -/
namespace Go.Proofs.Ytcdbcoaiadipjaa
open Go Go.RowKit Go.Proofs
set_option synthInstance.maxSize 1000

def cellsU (m : List Nat) : List Value := m.map fun k : Nat => Value.int .i64 (k : Int)
theorem infoU : (Try.prog.info? 3).map (fun i => (i.zero, i.size, i.bytes)) = some (some (.int .i64 0), 1, 8) := by kernel_rfl
theorem ownU_sl {W : World} {base : Nat} {e : TypeId} {v : Value} {m : List Nat} (h : W.ownsRow base e 1 v m.length (cellsU m)) : ∃ ad cap, v = .slice ad m.length cap ∧ SlI W ad (m.map fun k : Nat => (k : Int)) := by
  have h' := h
  rcases h.2 with ⟨rfl, h0⟩ | ⟨g, cap, cur, rfl, _⟩
  · exact ⟨none, 0, by rw [h0], fun hne => absurd (by rw [List.eq_nil_of_length_eq_zero h0]; rfl) hne⟩
  · refine ⟨some ⟨g, 0, none⟩, cap, rfl, fun _ => ⟨g, 0, rfl, fun j hj => ?_⟩⟩
    have hj' : j < m.length := by simpa using hj
    have := h'.cells (g := g) rfl j (.int .i64 (m[j] : Int)) (by simp [cellsU, hj'])
    rw [Addr.add_lit] at this
    rw [this]
    simp
theorem ownU_one (w : World) (i : Nat) : (w.alloc (.cells #[.int .i64 (i : Int)] 3)).ownsRow w.heap.size 3 1 (.slice (some ⟨w.heap.size, 0, none⟩) 1 1) [i].length (cellsU [i]) := by
  refine ⟨by simp [cellsU], Or.inr ⟨w.heap.size, 1, #[.int .i64 (i : Int)], rfl, Nat.le_refl _, by show (w.heap.push _)[w.heap.size]? = _; simp, Nat.le_refl _, by unfold maxLen; omega, by simp, by simp [cellsU]⟩⟩
end Go.Proofs.Ytcdbcoaiadipjaa

/- The comparer by which the next part is picked: cmp.Compare, cmp.Or of two, plan.take's first closure. -/
namespace Go.Proofs.Ytcdbcoaiadipjaa
open Go Go.RowKit Go.Proofs
set_option synthInstance.maxSize 1000

theorem isNaN_any (x : Int) (w : World) : Calls Try.prog 46 #[.int .i64 x] w fun e w' => e = .returned (.bool false) ∧ w' = w := by
  have h : (x != x) = false := by simp
  go_enter Try.func46, Try.ntmps46
  go_wp2_with fail
  go_ret
  exact ⟨ret_bool (by simp), rfl⟩
set_option maxRecDepth 100000 in
theorem CmpI_any (x y : Int) (w : World) : Calls Try.prog 30 #[.int .i64 x, .int .i64 y] w fun e w' => e = .returned (.int .i64 (cmpI x y)) ∧ w' = w := by
  have H := isNaN_any
  by_cases h1 : x < y
  · have fin : cmpI x y = -1 := by unfold cmpI; rw [if_pos h1]
    have t1 : decide (x < y) = true := decide_eq_true h1
    rw [fin]
    clear fin
    go_enter Try.func30, Try.ntmps30
    go_wp2_with (first
      | (go_at_call_of 46 (Value.int .i64 x); refine (H x _).mono ?_; rintro e w1 ⟨rfl, rfl⟩; dsimp only)
      | (go_at_call_of 46 (Value.int .i64 y); refine (H y _).mono ?_; rintro e w1 ⟨rfl, rfl⟩; dsimp only))
    go_ret
    exact ⟨rfl, rfl⟩
  · have t1 : decide (x < y) = false := decide_eq_false h1
    by_cases h2 : x > y
    · have fin : cmpI x y = 1 := by unfold cmpI; rw [if_neg h1, if_pos h2]
      have t2 : decide (x > y) = true := decide_eq_true h2
      have t3 : decide (y < x) = true := decide_eq_true h2
      rw [fin]
      clear fin
      go_enter Try.func30, Try.ntmps30
      go_wp2_with (first
        | (go_at_call_of 46 (Value.int .i64 x); refine (H x _).mono ?_; rintro e w1 ⟨rfl, rfl⟩; dsimp only)
        | (go_at_call_of 46 (Value.int .i64 y); refine (H y _).mono ?_; rintro e w1 ⟨rfl, rfl⟩; dsimp only))
      go_ret
      exact ⟨rfl, rfl⟩
    · have fin : cmpI x y = 0 := by unfold cmpI; rw [if_neg h1, if_neg h2]
      have t2 : decide (x > y) = false := decide_eq_false h2
      have t3 : decide (y < x) = false := decide_eq_false h2
      rw [fin]
      clear fin
      go_enter Try.func30, Try.ntmps30
      go_wp2_with (first
        | (go_at_call_of 46 (Value.int .i64 x); refine (H x _).mono ?_; rintro e w1 ⟨rfl, rfl⟩; dsimp only)
        | (go_at_call_of 46 (Value.int .i64 y); refine (H y _).mono ?_; rintro e w1 ⟨rfl, rfl⟩; dsimp only))
      go_ret
      exact ⟨rfl, rfl⟩
theorem OrP_any (b : Nat) (x y : Int) (w : World) (h0 : w.cell? ⟨b, 0, none⟩ = some (.int .i64 x)) (h1 : w.cell? ⟨b, 1, none⟩ = some (.int .i64 y)) :
    Calls Try.prog 29 #[.slice (some ⟨b, 0, none⟩) 2 2] w fun e w' => e = .returned (.int .i64 (orP x y)) ∧ w' = w := by
  have fin : Hid (orP x y = if x ≠ 0 then x else y) := rfl
  go_enter Try.func29, Try.ntmps29
  go_wp2
  go_loop [8] (fun i => ∃ k : Int, 0 ≤ k ∧ k ≤ 2 ∧ i = .int .i64 k ∧ (0 < k → x = 0) ∧ (1 < k → y = 0)) (fun i => (2 - intOf i).toNat)
  case atStart => exact ⟨0, by omega, by omega, rfl, by omega, by omega⟩
  case round =>
    obtain ⟨k, hk, hk', rfl, q0, q1⟩ := hrel
    rcases (by omega : k = 0 ∨ k = 1 ∨ k = 2) with rfl | rfl | rfl
    · clear hk hk' q0 q1
      cases hx : (x != 0)
      · go_wp2
        simp at hx
        exact ⟨⟨1, by omega, by omega, by go_num, by omega, by omega⟩, by simp [intOf]⟩
      · go_wp2
        go_ret
        simp at hx
        exact ⟨ret_int (by rw [fin.out]; simp [hx]), rfl⟩
    · have hx : Hid (x = 0) := q0 (by omega)
      clear hk hk' q0 q1
      cases hy : (y != 0)
      · go_wp2
        simp at hy
        exact ⟨⟨2, by omega, by omega, by go_num, fun _ => hx.out, fun _ => hy⟩, by simp [intOf]⟩
      · go_wp2
        go_ret
        exact ⟨ret_int (by rw [fin.out]; simp [hx.out]), rfl⟩
    · have hx : Hid (x = 0) := q0 (by omega)
      have hy : Hid (y = 0) := q1 (by omega)
      clear hk hk' q0 q1
      go_wp2
      go_ret
      exact ⟨ret_int (by rw [fin.out]; simp [hx.out, hy.out]), rfl⟩

/-- what the closures of plan.take see -/
structure TakeEnv (w : World) (kb pb cb bm nm : Nat) (K : List (List UInt8)) (parts : List Pt) (pd : Option Addr) (pc : Nat) (counts : List Nat) (cd : Option Addr) (cc : Nat) : Prop where
  k : w.cell? ⟨kb, 0, none⟩ = some (.map (some bm))
  p : w.cell? ⟨pb, 0, none⟩ = some (.slice pd parts.length pc)
  c : w.cell? ⟨cb, 0, none⟩ = some (.slice cd counts.length cc)
  known : KnownAt w bm nm K
  pts : SlPt w pd parts
  cnt : SlI w cd (counts.map fun n : Nat => (n : Int))
theorem cell_k {W W' : World} {a : Addr} {v : Value} (h : W.cell? a = some v) (hb : RowKit.Below W.heap.size W W') : W'.cell? a = some v := (hb.cell (World.block_lt_of_cell? _ _ h)).trans h
theorem TakeEnv.below {w w' : World} {kb pb cb bm nm : Nat} {K : List (List UInt8)} {parts : List Pt} {pd : Option Addr} {pc : Nat} {counts : List Nat} {cd : Option Addr} {cc : Nat} (h : TakeEnv w kb pb cb bm nm K parts pd pc counts cd cc) (hb : RowKit.Below w.heap.size w w') : TakeEnv w' kb pb cb bm nm K parts pd pc counts cd cc :=
  ⟨cell_k h.k hb, cell_k h.p hb, cell_k h.c hb, h.known.below hb, h.pts.below hb, h.cnt.below hb⟩
/-- what is asked of a comparer -/
def CmpG (g : Nat) (lb : Array Value) (D : Int → Prop) (c : Int → Int → Int) (w : World) : Prop :=
  ∀ (W : World) (x y : Int), RowKit.Below w.heap.size w W → D x → D y → Calls Try.prog g (#[.int .i64 x, .int .i64 y] ++ lb) W fun e w' => e = .returned (.int .i64 (c x y)) ∧ RowKit.Below W.heap.size W w'
theorem CmpG.below {g : Nat} {lb : Array Value} {D : Int → Prop} {c : Int → Int → Int} {w w1 : World} (h : CmpG g lb D c w) (hb : RowKit.Below w.heap.size w w1) : CmpG g lb D c w1 :=
  fun W x y hW hx hy => h W x y (hb.trans (hW.mono hb.size)) hx hy
set_option maxHeartbeats 16000000 in
set_option maxRecDepth 100000 in
theorem take1_at (kb pb cb bm nm rb ro tb tq n m pc cc i j : Nat) (K : List (List UInt8)) (x y : Pt) (cx cy : Int) (w : World) (hk : w.cell? ⟨kb, 0, none⟩ = some (.map (some bm))) (hp : w.cell? ⟨pb, 0, none⟩ = some (.slice (some ⟨rb, ro, none⟩) n pc)) (hc : w.cell? ⟨cb, 0, none⟩ = some (.slice (some ⟨tb, tq, none⟩) m cc))
    (hK : KnownAt w bm nm K) (fx : fitPt x) (fy : fitPt y) (hx : ∀ q v, (encPt x)[q]? = some v → w.cell? ⟨rb, ro + i * 12 + q, none⟩ = some v) (hy : ∀ q v, (encPt y)[q]? = some v → w.cell? ⟨rb, ro + j * 12 + q, none⟩ = some v) (hcx : w.cell? ⟨tb, tq + i, none⟩ = some (.int .i64 cx)) (hcy : w.cell? ⟨tb, tq + j, none⟩ = some (.int .i64 cy))
    (hi : i < n) (hj : j < n) (hi2 : i < m) (hj2 : j < m) :
    Calls Try.prog 28 #[.int .i64 (i : Int), .int .i64 (j : Int), .pointer (some ⟨kb, 0, none⟩), .pointer (some ⟨pb, 0, none⟩), .pointer (some ⟨cb, 0, none⟩)] w fun e w' => e = .returned (.int .i64 (orP (cmpI (fixN K y : Nat) (fixN K x : Nat)) (cmpI cx cy))) ∧ RowKit.Below w.heap.size w w' := by
  have HX := fun W (hb : RowKit.Below w.heap.size w W) => fixed_any bm nm K x W (hK.below hb) fx
  have HY := fun W (hb : RowKit.Below w.heap.size w W) => fixed_any bm nm K y W (hK.below hb) fy
  generalize ((fixN K x : Nat) : Int) = gx at *
  generalize ((fixN K y : Nat) : Int) = gy at *
  have C1 := CmpI_any gy gx
  have C2 := CmpI_any cx cy
  generalize cmpI gy gx = d1 at *
  generalize cmpI cx cy = d2 at *
  have HO := fun b W h0 h1 => OrP_any b d1 d2 W h0 h1
  generalize orP d1 d2 = r at *
  have x0 := hx 0 _ rfl
  have x1 := hx 1 _ rfl
  have x2 := hx 2 _ rfl
  have x3 := hx 3 _ rfl
  have x4 := hx 4 _ rfl
  have x5 := hx 5 _ rfl
  have x6 := hx 6 _ rfl
  have x7 := hx 7 _ rfl
  have x8 := hx 8 _ rfl
  have x9 := hx 9 _ rfl
  have x10 := hx 10 _ rfl
  have x11 := hx 11 _ rfl
  have y0 := hy 0 _ rfl
  have y1 := hy 1 _ rfl
  have y2 := hy 2 _ rfl
  have y3 := hy 3 _ rfl
  have y4 := hy 4 _ rfl
  have y5 := hy 5 _ rfl
  have y6 := hy 6 _ rfl
  have y7 := hy 7 _ rfl
  have y8 := hy 8 _ rfl
  have y9 := hy 9 _ rfl
  have y10 := hy 10 _ rfl
  have y11 := hy 11 _ rfl
  rw [Nat.add_zero] at x0 y0
  have i0 : (0 : Int) ≤ (i : Int) := by omega
  have i1 : (i : Int) < (n : Int) := by omega
  have j0 : (0 : Int) ≤ (j : Int) := by omega
  have j1 : (j : Int) < (n : Int) := by omega
  have i2 : (i : Int) < (m : Int) := by omega
  have j2 : (j : Int) < (m : Int) := by omega
  clear hx hy hK fx fy
  have mk : ∀ W, RowKit.Below w.heap.size w W → RowKit.Below w.heap.size w W ∧ W.cell? ⟨kb, 0, none⟩ = some (.map (some bm)) ∧ W.cell? ⟨pb, 0, none⟩ = some (.slice (some ⟨rb, ro, none⟩) n pc) ∧ W.cell? ⟨cb, 0, none⟩ = some (.slice (some ⟨tb, tq, none⟩) m cc) ∧ W.cell? ⟨rb, ro + i * 12, none⟩ = some (.string ⟨x.1.1.toArray⟩) ∧ W.cell? ⟨rb, ro + i * 12 + 1, none⟩ = some (.int .i64 x.1.2.1) ∧ W.cell? ⟨rb, ro + i * 12 + 2, none⟩ = some (.string ⟨x.1.2.2.1.toArray⟩) ∧ W.cell? ⟨rb, ro + i * 12 + 3, none⟩ = some (.string ⟨x.1.2.2.2.toArray⟩) ∧ W.cell? ⟨rb, ro + i * 12 + 4, none⟩ = some (.string ⟨x.2.1.1.toArray⟩) ∧ W.cell? ⟨rb, ro + i * 12 + 5, none⟩ = some (.int .i64 x.2.1.2.1) ∧ W.cell? ⟨rb, ro + i * 12 + 6, none⟩ = some (.string ⟨x.2.1.2.2.1.toArray⟩) ∧ W.cell? ⟨rb, ro + i * 12 + 7, none⟩ = some (.string ⟨x.2.1.2.2.2.toArray⟩) ∧ W.cell? ⟨rb, ro + i * 12 + 8, none⟩ = some (.string ⟨x.2.2.1.toArray⟩) ∧ W.cell? ⟨rb, ro + i * 12 + 9, none⟩ = some (.int .i64 x.2.2.2.1) ∧ W.cell? ⟨rb, ro + i * 12 + 10, none⟩ = some (.string ⟨x.2.2.2.2.1.toArray⟩) ∧ W.cell? ⟨rb, ro + i * 12 + 11, none⟩ = some (.string ⟨x.2.2.2.2.2.toArray⟩) ∧ W.cell? ⟨rb, ro + j * 12, none⟩ = some (.string ⟨y.1.1.toArray⟩) ∧ W.cell? ⟨rb, ro + j * 12 + 1, none⟩ = some (.int .i64 y.1.2.1) ∧ W.cell? ⟨rb, ro + j * 12 + 2, none⟩ = some (.string ⟨y.1.2.2.1.toArray⟩) ∧ W.cell? ⟨rb, ro + j * 12 + 3, none⟩ = some (.string ⟨y.1.2.2.2.toArray⟩) ∧ W.cell? ⟨rb, ro + j * 12 + 4, none⟩ = some (.string ⟨y.2.1.1.toArray⟩) ∧ W.cell? ⟨rb, ro + j * 12 + 5, none⟩ = some (.int .i64 y.2.1.2.1) ∧ W.cell? ⟨rb, ro + j * 12 + 6, none⟩ = some (.string ⟨y.2.1.2.2.1.toArray⟩) ∧ W.cell? ⟨rb, ro + j * 12 + 7, none⟩ = some (.string ⟨y.2.1.2.2.2.toArray⟩) ∧ W.cell? ⟨rb, ro + j * 12 + 8, none⟩ = some (.string ⟨y.2.2.1.toArray⟩) ∧ W.cell? ⟨rb, ro + j * 12 + 9, none⟩ = some (.int .i64 y.2.2.2.1) ∧ W.cell? ⟨rb, ro + j * 12 + 10, none⟩ = some (.string ⟨y.2.2.2.2.1.toArray⟩) ∧ W.cell? ⟨rb, ro + j * 12 + 11, none⟩ = some (.string ⟨y.2.2.2.2.2.toArray⟩) ∧ W.cell? ⟨tb, tq + i, none⟩ = some (.int .i64 cx) ∧ W.cell? ⟨tb, tq + j, none⟩ = some (.int .i64 cy) := fun W h =>
    ⟨h, (h.cell (World.block_lt_of_cell? w _ hk)).trans hk, (h.cell (World.block_lt_of_cell? w _ hp)).trans hp, (h.cell (World.block_lt_of_cell? w _ hc)).trans hc, (h.cell (World.block_lt_of_cell? w _ x0)).trans x0, (h.cell (World.block_lt_of_cell? w _ x1)).trans x1, (h.cell (World.block_lt_of_cell? w _ x2)).trans x2, (h.cell (World.block_lt_of_cell? w _ x3)).trans x3, (h.cell (World.block_lt_of_cell? w _ x4)).trans x4, (h.cell (World.block_lt_of_cell? w _ x5)).trans x5, (h.cell (World.block_lt_of_cell? w _ x6)).trans x6, (h.cell (World.block_lt_of_cell? w _ x7)).trans x7, (h.cell (World.block_lt_of_cell? w _ x8)).trans x8, (h.cell (World.block_lt_of_cell? w _ x9)).trans x9, (h.cell (World.block_lt_of_cell? w _ x10)).trans x10, (h.cell (World.block_lt_of_cell? w _ x11)).trans x11, (h.cell (World.block_lt_of_cell? w _ y0)).trans y0, (h.cell (World.block_lt_of_cell? w _ y1)).trans y1, (h.cell (World.block_lt_of_cell? w _ y2)).trans y2, (h.cell (World.block_lt_of_cell? w _ y3)).trans y3, (h.cell (World.block_lt_of_cell? w _ y4)).trans y4, (h.cell (World.block_lt_of_cell? w _ y5)).trans y5, (h.cell (World.block_lt_of_cell? w _ y6)).trans y6, (h.cell (World.block_lt_of_cell? w _ y7)).trans y7, (h.cell (World.block_lt_of_cell? w _ y8)).trans y8, (h.cell (World.block_lt_of_cell? w _ y9)).trans y9, (h.cell (World.block_lt_of_cell? w _ y10)).trans y10, (h.cell (World.block_lt_of_cell? w _ y11)).trans y11, (h.cell (World.block_lt_of_cell? w _ hcx)).trans hcx, (h.cell (World.block_lt_of_cell? w _ hcy)).trans hcy⟩
  have Hmk := hideE mk
  have hr0 : RowKit.Below w.heap.size w w.drew := (RowKit.Below.refl _ _).drew
  clear mk
  unfold valPt at HX HY
  go_enter Try.func28, Try.ntmps28
  go_wp2_with fail
  go_region_held3 (fun W => RowKit.Below w.heap.size w W ∧ W.cell? ⟨kb, 0, none⟩ = some (.map (some bm)) ∧ W.cell? ⟨pb, 0, none⟩ = some (.slice (some ⟨rb, ro, none⟩) n pc) ∧ W.cell? ⟨cb, 0, none⟩ = some (.slice (some ⟨tb, tq, none⟩) m cc) ∧ W.cell? ⟨rb, ro + i * 12, none⟩ = some (.string ⟨x.1.1.toArray⟩) ∧ W.cell? ⟨rb, ro + i * 12 + 1, none⟩ = some (.int .i64 x.1.2.1) ∧ W.cell? ⟨rb, ro + i * 12 + 2, none⟩ = some (.string ⟨x.1.2.2.1.toArray⟩) ∧ W.cell? ⟨rb, ro + i * 12 + 3, none⟩ = some (.string ⟨x.1.2.2.2.toArray⟩) ∧ W.cell? ⟨rb, ro + i * 12 + 4, none⟩ = some (.string ⟨x.2.1.1.toArray⟩) ∧ W.cell? ⟨rb, ro + i * 12 + 5, none⟩ = some (.int .i64 x.2.1.2.1) ∧ W.cell? ⟨rb, ro + i * 12 + 6, none⟩ = some (.string ⟨x.2.1.2.2.1.toArray⟩) ∧ W.cell? ⟨rb, ro + i * 12 + 7, none⟩ = some (.string ⟨x.2.1.2.2.2.toArray⟩) ∧ W.cell? ⟨rb, ro + i * 12 + 8, none⟩ = some (.string ⟨x.2.2.1.toArray⟩) ∧ W.cell? ⟨rb, ro + i * 12 + 9, none⟩ = some (.int .i64 x.2.2.2.1) ∧ W.cell? ⟨rb, ro + i * 12 + 10, none⟩ = some (.string ⟨x.2.2.2.2.1.toArray⟩) ∧ W.cell? ⟨rb, ro + i * 12 + 11, none⟩ = some (.string ⟨x.2.2.2.2.2.toArray⟩) ∧ W.cell? ⟨rb, ro + j * 12, none⟩ = some (.string ⟨y.1.1.toArray⟩) ∧ W.cell? ⟨rb, ro + j * 12 + 1, none⟩ = some (.int .i64 y.1.2.1) ∧ W.cell? ⟨rb, ro + j * 12 + 2, none⟩ = some (.string ⟨y.1.2.2.1.toArray⟩) ∧ W.cell? ⟨rb, ro + j * 12 + 3, none⟩ = some (.string ⟨y.1.2.2.2.toArray⟩) ∧ W.cell? ⟨rb, ro + j * 12 + 4, none⟩ = some (.string ⟨y.2.1.1.toArray⟩) ∧ W.cell? ⟨rb, ro + j * 12 + 5, none⟩ = some (.int .i64 y.2.1.2.1) ∧ W.cell? ⟨rb, ro + j * 12 + 6, none⟩ = some (.string ⟨y.2.1.2.2.1.toArray⟩) ∧ W.cell? ⟨rb, ro + j * 12 + 7, none⟩ = some (.string ⟨y.2.1.2.2.2.toArray⟩) ∧ W.cell? ⟨rb, ro + j * 12 + 8, none⟩ = some (.string ⟨y.2.2.1.toArray⟩) ∧ W.cell? ⟨rb, ro + j * 12 + 9, none⟩ = some (.int .i64 y.2.2.2.1) ∧ W.cell? ⟨rb, ro + j * 12 + 10, none⟩ = some (.string ⟨y.2.2.2.2.1.toArray⟩) ∧ W.cell? ⟨rb, ro + j * 12 + 11, none⟩ = some (.string ⟨y.2.2.2.2.2.toArray⟩) ∧ W.cell? ⟨tb, tq + i, none⟩ = some (.int .i64 cx) ∧ W.cell? ⟨tb, tq + j, none⟩ = some (.int .i64 cy)) ((refine Hmk.out _ ?_; repeat (first | (with_reducible refine bstep ?_ hb1) | (with_reducible refine bstep ?_ hb2) | (with_reducible refine bstep ?_ (balloc _ _)) | (with_reducible refine RowKit.Below.drew ?_) | (with_reducible exact hr0) | (with_reducible exact RowKit.Below.refl _ _)))) (first
    | (go_at_call_of 31 (Value.agg #[.string ⟨x.1.1.toArray⟩, .int .i64 x.1.2.1, .string ⟨x.1.2.2.1.toArray⟩, .string ⟨x.1.2.2.2.toArray⟩, .string ⟨x.2.1.1.toArray⟩, .int .i64 x.2.1.2.1, .string ⟨x.2.1.2.2.1.toArray⟩, .string ⟨x.2.1.2.2.2.toArray⟩, .string ⟨x.2.2.1.toArray⟩, .int .i64 x.2.2.2.1, .string ⟨x.2.2.2.2.1.toArray⟩, .string ⟨x.2.2.2.2.2.toArray⟩]); refine (HX _ (by with_reducible first | assumption | exact (by assumption : _ ∧ _).1)).mono ?_; rintro e w1 ⟨rfl, hb1⟩; dsimp only)
    | (go_at_call_of 31 (Value.agg #[.string ⟨y.1.1.toArray⟩, .int .i64 y.1.2.1, .string ⟨y.1.2.2.1.toArray⟩, .string ⟨y.1.2.2.2.toArray⟩, .string ⟨y.2.1.1.toArray⟩, .int .i64 y.2.1.2.1, .string ⟨y.2.1.2.2.1.toArray⟩, .string ⟨y.2.1.2.2.2.toArray⟩, .string ⟨y.2.2.1.toArray⟩, .int .i64 y.2.2.2.1, .string ⟨y.2.2.2.2.1.toArray⟩, .string ⟨y.2.2.2.2.2.toArray⟩]); refine (HY _ (by with_reducible first | assumption | exact (by assumption : _ ∧ _).1)).mono ?_; rintro e w2 ⟨rfl, hb2⟩; dsimp only)
    | (go_at_call_of 30 (Value.int .i64 gy); refine (C1 _).mono ?_; rintro e w3 ⟨rfl, rfl⟩; dsimp only)
    | (go_at_call_of 30 (Value.int .i64 cx); refine (C2 _).mono ?_; rintro e w4 ⟨rfl, rfl⟩; dsimp only)
    | (go_at_call 29; refine (HO _ _ (by go_simp) (by go_simp)).mono ?_; rintro e w5 ⟨rfl, rfl⟩; dsimp only))
  all_goals go_wp2_with fail
  all_goals go_ret
  all_goals refine ⟨rfl, ?_⟩
  all_goals repeat (first | (with_reducible refine bstep ?_ hb1) | (with_reducible refine bstep ?_ hb2) | (with_reducible refine bstep ?_ (balloc _ _)) | (with_reducible exact hr0) | (with_reducible refine RowKit.Below.drew ?_) | (with_reducible exact RowKit.Below.refl _ _))
theorem enters28 : ∀ args w, (callFunc 28 args).run Try.prog w = .ok (.enter 28 args) w := enters_of Try.func28 (by kernel_rfl) rfl
theorem take1_any {w : World} {kb pb cb bm nm : Nat} {K : List (List UInt8)} {parts : List Pt} {pd : Option Addr} {pc : Nat} {counts : List Nat} {cd : Option Addr} {cc : Nat} (h : TakeEnv w kb pb cb bm nm K parts pd pc counts cd cc) (hf : ∀ p ∈ parts, fitPt p) (hl : counts.length = parts.length) :
    CmpG 28 #[.pointer (some ⟨kb, 0, none⟩), .pointer (some ⟨pb, 0, none⟩), .pointer (some ⟨cb, 0, none⟩)] (fun x => 0 ≤ x ∧ x < parts.length) (cmpP2 parts counts K) w := by
  intro W x y hW hx hy
  have h1 := h.below hW
  obtain ⟨i, rfl⟩ : ∃ i : Nat, x = i := ⟨x.toNat, by omega⟩
  obtain ⟨j, rfl⟩ : ∃ j : Nat, y = j := ⟨y.toNat, by omega⟩
  have hi : i < parts.length := by omega
  have hj : j < parts.length := by omega
  obtain ⟨rb, ro, rfl, hr⟩ := h1.pts.at i hi
  have hne : (counts.map fun n : Nat => (n : Int)) ≠ [] := fun e => by
    have h9 : (counts.map fun n : Nat => (n : Int)).length = 0 := by rw [e]; rfl
    rw [List.length_map] at h9
    omega
  obtain ⟨tb, tq, rfl, ht⟩ := h1.cnt hne
  have ci := ht i (by simp; omega)
  have cj := ht j (by simp; omega)
  have e : cmpP2 parts counts K (i : Int) (j : Int) = orP (cmpI (fixN K parts[j] : Nat) (fixN K parts[i] : Nat)) (cmpI (counts[i] : Nat) (counts[j] : Nat)) := by
    unfold cmpP2
    rw [Int.toNat_natCast, Int.toNat_natCast, List.getD_eq_getElem?_getD, List.getD_eq_getElem?_getD, List.getD_eq_getElem?_getD, List.getD_eq_getElem?_getD, List.getElem?_eq_getElem hi, List.getElem?_eq_getElem hj, List.getElem?_eq_getElem (by omega : i < counts.length), List.getElem?_eq_getElem (by omega : j < counts.length)]
    rfl
  rw [e]
  simp only [List.getElem_map] at ci cj
  exact take1_at kb pb cb bm nm rb ro tb tq parts.length counts.length pc cc i j K parts[i] parts[j] _ _ W h1.k h1.p h1.c h1.known (hf _ (List.getElem_mem hi)) (hf _ (List.getElem_mem hj)) (hr.at i hi) (hr.at j hj) ci cj hi hj (by omega) (by omega)
end Go.Proofs.Ytcdbcoaiadipjaa

/- A row of numbers that is one's own: slices.MinFunc over it, slices.DeleteFunc on it, with whatever closure. -/
namespace Go.Proofs.Ytcdbcoaiadipjaa
open Go Go.RowKit Go.Proofs
set_option synthInstance.maxSize 1000

/-- a block holds numbers, and may be written -/
structure RowL (w : World) (lb : Nat) (l : List Int) : Prop where
  at_ : ∀ (j : Nat) (hj : j < l.length), w.cell? ⟨lb, j, none⟩ = some (.int .i64 l[j])
  free : ∀ (j : Nat), j < l.length → w.frozen? ⟨lb, j, none⟩ = false
theorem RowL.below {w w' : World} {lb : Nat} {l : List Int} (h : RowL w lb l) (hb : RowKit.Below w.heap.size w w') : RowL w' lb l :=
  ⟨fun j hj => cell_k (h.at_ j hj) hb, fun j hj => (hb.frozen (p := ⟨lb, j, none⟩) (World.block_lt_of_cell? w _ (h.at_ j hj))).trans (h.free j hj)⟩
theorem RowL.sl {w : World} {lb : Nat} {l : List Int} (h : RowL w lb l) : SlI w (some ⟨lb, 0, none⟩) l := fun _ => ⟨lb, 0, rfl, fun j hj => by rw [Nat.zero_add]; exact h.at_ j hj⟩
theorem RowL.take {w : World} {lb : Nat} {l : List Int} (h : RowL w lb l) (k : Nat) : RowL w lb (l.take k) := by
  refine ⟨fun j hj => ?_, fun j hj => h.free j (by simp at hj; omega)⟩
  have hj' : j < l.length := by simp at hj; omega
  rw [List.getElem_take]
  exact h.at_ j hj'
/-- what is asked of a test, where the row's block may have been written -/
def PredM (g : Nat) (lb : Array Value) (p : Int → Bool) (rb : Nat) (w : World) : Prop :=
  ∀ (W : World) (x : Int), ButM rb w W → Calls Try.prog g (#[.int .i64 x] ++ lb) W fun e w' => e = .returned (.bool (p x)) ∧ RowKit.Below W.heap.size W w'
/-- the first that is so, or -1 -/
def IdxOf (p : Int → Bool) (l : List Int) (r : Int) : Prop := (r = -1 ∧ ∀ x ∈ l, p x = false) ∨ ∃ k : Nat, ∃ h : k < l.length, r = k ∧ p l[k] = true ∧ ∀ (j : Nat) (hj : j < l.length), j < k → p l[j] = false

set_option maxHeartbeats 4000000 in
set_option maxRecDepth 100000 in
theorem MinFunc_any (g : Nat) (lb : Array Value) (D : Int → Prop) (c : Int → Int → Int) (w : World) (b cap : Nat) (m0 : Int) (l : List Int) (eg : ∀ args w, (callFunc g args).run Try.prog w = .ok (.enter g args) w) (hp : CmpG g lb D c w) (hD : ∀ x ∈ m0 :: l, D x) (hs : RowL w b (m0 :: l)) (hl : (m0 :: l).length ≤ 1000) :
    Calls Try.prog 27 #[.slice (some ⟨b, 0, none⟩) (m0 :: l).length cap, .func (.func g) #[] lb] w fun e w' => e = .returned (.int .i64 (minF c m0 l)) ∧ RowKit.Below w.heap.size w w' := by
  have H := hideE hp
  have HD := hideE hD
  have HS := hideE hs
  have c0 := hs.at_ 0 (by simp)
  have hmin : Hid (∀ k (hk : k < l.length) m, minF c m (l.drop k) = minF c (if c l[k] m < 0 then l[k] else m) (l.drop (k + 1))) := fun k hk m => by
    rw [List.drop_eq_getElem_cons hk]
    rfl
  have e0 : (m0 :: l)[0] = m0 := rfl
  rw [e0] at c0
  obtain ⟨n, hn⟩ : ∃ n, n = (m0 :: l).length := ⟨_, rfl⟩
  have hnl : n = l.length + 1 := by rw [hn]; rfl
  rw [← hn] at hl ⊢
  have Hn := hideE hnl
  have hn1 : 1 ≤ n := by omega
  have t0 : decide ((n : Int) < 1) = false := by simp; omega
  have i01 : (0 : Int) < (n : Int) := by omega
  obtain ⟨R, hR⟩ : ∃ R, R = minF c m0 l := ⟨_, rfl⟩
  have HR := hideE hR
  rw [← hR]
  clear hp hD hs hn hR hnl e0
  go_enter Try.func27, Try.ntmps27
  go_wp2_with fail
  go_loopw [5, 6] (fun v i wr => ∃ (k : Nat) (m : Int), k + 1 ≤ n ∧ i = .int .i64 ((k + 1 : Nat) : Int) ∧ v = .int .i64 m ∧ Hid (D m) ∧ Hid (R = minF c m (l.drop k)) ∧ RowKit.Below w.heap.size w wr) (fun _ i wr => n - (intOf i).toNat)
  case atStart => exact ⟨0, m0, by omega, rfl, rfl, HD.out _ (by simp), by show _ = _; rw [HR.out]; rfl, RowKit.Below.refl _ _⟩
  case round =>
    clear c0 i01
    obtain ⟨k, m, hk, rfl, rfl, hDm, hm, hbr⟩ := hrel
    by_cases hlt : k + 1 < n
    · have hkl : k < l.length := by have := Hn.out; omega
      have t1 : decide (((k + 1 : Nat) : Int) < (n : Int)) = true := by simp; omega
      have t1' : decide ((k : Int) + 1 < (n : Int)) = true := by simp; omega
      have i0 : (0 : Int) ≤ ((k + 1 : Nat) : Int) := by omega
      have i1 : ((k + 1 : Nat) : Int) < (n : Int) := by omega
      have cx := (HS.out.below hbr).at_ (k + 1) (by simp; omega)
      rw [show (m0 :: l)[k + 1]'(by simp; omega) = l[k] from rfl] at cx
      have hDx := HD.out l[k] (List.mem_cons_of_mem _ (List.getElem_mem hkl))
      have hcall := H.out wr l[k] m hbr hDx hDm.out
      have hstep := hideE (hmin.out k hkl m)
      have hDx' := hideE hDx
      clear hDx
      generalize l[k] = x at *
      cases hc : decide (c x m < 0) with
      | true =>
        have hc' : c x m < 0 := of_decide_eq_true hc
        have hm2 : Hid (R = minF c x (l.drop (k + 1))) := by show _ = _; rw [hm.out, hstep.out, if_pos hc']
        clear hstep hm hc'
        generalize c x m = d at *
        go_wp2_with (go_at_fn g; refine hcall.mono ?_; rintro e w' ⟨rfl, hb'⟩; have cx' := cell_k cx hb'; dsimp only)
        go_roundw
        case rel => exact ⟨k + 1, x, by omega, by go_num, rfl, hDx'.out, hm2.out, bstep hbr hb'⟩
        case measure => simp [intOf]; omega
      | false =>
        have hc' : ¬ c x m < 0 := of_decide_eq_false hc
        have hm2 : Hid (R = minF c m (l.drop (k + 1))) := by show _ = _; rw [hm.out, hstep.out, if_neg hc']
        clear hstep hm hc'
        generalize c x m = d at *
        go_wp2_with (go_at_fn g; refine hcall.mono ?_; rintro e w' ⟨rfl, hb'⟩; dsimp only)
        go_roundw
        case rel => exact ⟨k + 1, m, by omega, by go_num, rfl, hDm.out, hm2.out, bstep hbr hb'⟩
        case measure => simp [intOf]; omega
    · have hkn : k + 1 = n := by omega
      have t1 : decide (((k + 1 : Nat) : Int) < (n : Int)) = false := by simp; omega
      have t1' : decide ((k : Int) + 1 < (n : Int)) = false := by simp; omega
      have hf : Hid (R = m) := by show _ = _; rw [hm.out, List.drop_of_length_le (by have := Hn.out; omega)]; rfl
      clear hm
      go_wp2_with fail
      go_ret
      exact ⟨ret_int hf.out.symm, hbr⟩

/-! ### slices.DeleteFunc -/
def keepF (p : Int → Bool) (l : List Int) : List Int := l.filter fun x => !p x
theorem keepF_app (p : Int → Bool) (l : List Int) (k : Nat) (h : k < l.length) : keepF p (l.take (k + 1)) = keepF p (l.take k) ++ (if p l[k] = true then [] else [l[k]]) := by
  unfold keepF
  rw [List.take_succ_eq_append_getElem h, List.filter_append]
  cases hp : p l[k] <;> simp [hp]
theorem keepF_len (p : Int → Bool) (l : List Int) (k : Nat) : (keepF p (l.take k)).length ≤ k := by
  refine Nat.le_trans (List.length_filter_le _ _) ?_
  rw [List.length_take]
  omega
theorem butM_set (W : World) (b o : Nat) (v : Value) : ButM b W (W.setCell ⟨b, o, none⟩ v) :=
  ⟨rfl, rfl, rfl, (KeepsWalks.setCell W _ v).size, fun k _ hk => Below.heap_setCell _ _ _ k (fun e => hk (by rw [e]))⟩
theorem butM_sets (b : Nat) : ∀ (vs : List Value) (o : Nat) (W : World), ButM b W (W.setCells b o vs)
  | [], _, W => ButM.refl b W
  | v :: vs, o, W => (butM_set W b o v).trans (butM_sets b vs (o + 1) _)
structure DelSt (w W : World) (b : Nat) (p : Int → Bool) (l : List Int) (i j : Nat) : Prop where
  len : i = (keepF p (l.take j)).length
  done : ∀ t (ht : t < (keepF p (l.take j)).length), W.cell? ⟨b, t, none⟩ = some (.int .i64 (keepF p (l.take j))[t])
  rest : ∀ t (ht : t < l.length), j ≤ t → W.cell? ⟨b, t, none⟩ = some (.int .i64 l[t])
  there : ∀ t, t < l.length → ∃ u, W.cell? ⟨b, t, none⟩ = some u
  free : ∀ t, t < l.length → W.frozen? ⟨b, t, none⟩ = false
  but : ButM b w W
theorem DelSt.le {w W : World} {b : Nat} {p : Int → Bool} {l : List Int} {i j : Nat} (h : DelSt w W b p l i j) : i ≤ j := by rw [h.len]; exact keepF_len _ _ _
theorem DelSt.below {w W W' : World} {b : Nat} {p : Int → Bool} {l : List Int} {i j : Nat} (h : DelSt w W b p l i j) (hb : RowKit.Below W.heap.size W W') : DelSt w W' b p l i j :=
  ⟨h.len, fun t ht => cell_k (h.done t ht) hb, fun t ht hj => cell_k (h.rest t ht hj) hb, fun t ht => by obtain ⟨u, hu⟩ := h.there t ht; exact ⟨u, cell_k hu hb⟩, fun t ht => by
    obtain ⟨u, hu⟩ := h.there t ht
    exact (hb.frozen (p := ⟨b, t, none⟩) (World.block_lt_of_cell? W _ hu)).trans (h.free t ht), h.but.below hb⟩
theorem DelSt.start {w W : World} {b : Nat} {p : Int → Bool} {l : List Int} {k : Nat} (hs : RowL w b l) (hb : RowKit.Below w.heap.size w W) (hk : k < l.length) (hp : p l[k] = true) (hl : ∀ (j : Nat) (hj : j < l.length), j < k → p l[j] = false) : DelSt w W b p l k (k + 1) := by
  have e : keepF p (l.take k) = l.take k := List.filter_eq_self.2 fun x hx => by
    obtain ⟨j, hj, rfl⟩ := List.getElem_of_mem hx
    have hj' : j < k := by simp at hj; omega
    rw [List.getElem_take, hl j (by omega) hj']
    rfl
  have e2 : keepF p (l.take (k + 1)) = l.take k := by rw [keepF_app p l k hk, if_pos hp, List.append_nil, e]
  have hs' := hs.below hb
  refine ⟨by rw [e2]; simp; omega, fun t ht => ?_, fun t ht _ => hs'.at_ t ht, fun t ht => ⟨_, hs'.at_ t ht⟩, fun t ht => hs'.free t ht, (ButM.refl b w).below hb⟩
  have ht' : t < k := by rw [e2] at ht; simp at ht; omega
  have e3 : (keepF p (l.take (k + 1)))[t] = l[t]'(by omega) := by simp only [e2, List.getElem_take]
  rw [e3]
  exact hs'.at_ t (by omega)
theorem DelSt.drop {w W W' : World} {b : Nat} {p : Int → Bool} {l : List Int} {i j : Nat} (h : DelSt w W b p l i j) (hb : RowKit.Below W.heap.size W W') (hj : j < l.length) (hp : p l[j] = true) : DelSt w W' b p l i (j + 1) := by
  have h' := h.below hb
  have e : keepF p (l.take (j + 1)) = keepF p (l.take j) := by rw [keepF_app p l j hj, if_pos hp, List.append_nil]
  refine ⟨by rw [e]; exact h'.len, fun t ht => ?_, fun t ht hjt => h'.rest t ht (by omega), h'.there, h'.free, h'.but⟩
  have ht' : t < (keepF p (l.take j)).length := by rw [e] at ht; exact ht
  have e3 : (keepF p (l.take (j + 1)))[t] = (keepF p (l.take j))[t] := by simp only [e]
  rw [e3]
  exact h'.done t ht'
theorem DelSt.keep {w W W' : World} {b : Nat} {p : Int → Bool} {l : List Int} {i j : Nat} (h : DelSt w W b p l i j) (hb : RowKit.Below W.heap.size W W') (hj : j < l.length) (hp : p l[j] = false) : DelSt w (W'.setCell ⟨b, i, none⟩ (.int .i64 l[j])) b p l (i + 1) (j + 1) := by
  have h' := h.below hb
  have e : keepF p (l.take (j + 1)) = keepF p (l.take j) ++ [l[j]] := by rw [keepF_app p l j hj, if_neg (by simp [hp])]
  have hij := h'.le
  have hlen := h'.len
  refine ⟨by rw [e, List.length_append, ← hlen]; rfl, fun t ht => ?_, fun t ht hjt => ?_, fun t ht => ?_, fun t ht => ?_, h'.but.trans (butM_set _ _ _ _)⟩
  · have ht2 : t < i + 1 := by rw [e, List.length_append, ← hlen] at ht; exact ht
    by_cases et : t = i
    · subst et
      obtain ⟨u, hu⟩ := h'.there t (by omega)
      have e3 : (keepF p (l.take (j + 1)))[t] = l[j] := by simp only [e]; rw [List.getElem_append_right (by omega)]; simp [hlen]
      rw [e3]
      exact World.cell?_setCell_same _ _ _ hu
    · have e3 : (keepF p (l.take (j + 1)))[t] = (keepF p (l.take j))[t]'(by omega) := by simp only [e]; rw [List.getElem_append_left]
      rw [e3, World.cell?_setCell_other _ _ _ _ (fun h => et (by simpa using congrArg Addr.off h.symm))]
      exact h'.done t (by omega)
  · rw [World.cell?_setCell_other _ _ _ _ (fun h => by have : i = t := by simpa using congrArg Addr.off h
                                                       omega)]
    exact h'.rest t ht (by omega)
  · obtain ⟨u, hu⟩ := h'.there t ht
    by_cases et : t = i
    · subst et
      exact ⟨_, World.cell?_setCell_same _ _ _ hu⟩
    · exact ⟨u, (World.cell?_setCell_other _ _ _ _ (fun h => et (by simpa using congrArg Addr.off h.symm))).trans hu⟩
  · rw [World.frozen?_setCell]
    exact h'.free t ht
theorem zeroInt (w : World) : (zeroValue 3).run Try.prog w = .ok (.int .i64 0) w := by kernel_rfl
/-- the end: what is behind is cleared -/
theorem DelSt.end_ {w W : World} {b : Nat} {p : Int → Bool} {l : List Int} {i : Nat} (h : DelSt w W b p l i l.length) (n : Nat) : RowL (W.setCells b i (List.replicate n (.int .i64 0))) b (keepF p l) ∧ ButM b w (W.setCells b i (List.replicate n (.int .i64 0))) := by
  have hlen := h.len
  have hd := h.done
  rw [List.take_length] at hlen
  have hlt : (keepF p l).length ≤ l.length := List.length_filter_le _ _
  refine ⟨⟨fun t ht => ?_, fun t ht => ?_⟩, h.but.trans (butM_sets _ _ _ _)⟩
  · rw [World.cell?_setCells_out _ _ _ _ _ (fun _ _ => Or.inl (by show t < i; omega))]
    have := hd t (by rw [List.take_length]; exact ht)
    simp only [List.take_length] at this
    exact this
  · rw [World.frozen?_setCells]
    exact h.free t (by omega)

set_option maxHeartbeats 4000000 in
set_option maxRecDepth 100000 in
theorem FIndex_any (g : Nat) (lb : Array Value) (p : Int → Bool) (w : World) (b cap : Nat) (l : List Int) (eg : ∀ args w, (callFunc g args).run Try.prog w = .ok (.enter g args) w) (hp : PredM g lb p b w) (hs : RowL w b l) (hl : l.length ≤ 1000) :
    Calls Try.prog 48 #[.slice (some ⟨b, 0, none⟩) l.length cap, .func (.func g) #[] lb] w fun e w' => (∃ r : Int, e = .returned (.int .i64 r) ∧ IdxOf p l r) ∧ RowKit.Below w.heap.size w w' := by
  have H := hideE hp
  have HS := hideE hs
  have HI : Hid (∀ r, r = -1 → (∀ (j : Nat) (hj : j < l.length), p l[j] = false) → IdxOf p l r) := fun r hr h => Or.inl ⟨hr, fun x hx => by
    obtain ⟨j, hj, rfl⟩ := List.getElem_of_mem hx
    exact h j hj⟩
  have HJ : Hid (∀ (k : Nat) (hk : k < l.length), p l[k] = true → (∀ (j : Nat) (hj : j < l.length), j < k → p l[j] = false) → IdxOf p l (k : Int)) := fun k hk h1 h2 => Or.inr ⟨k, hk, rfl, h1, h2⟩
  obtain ⟨n, hn⟩ : ∃ n, n = l.length := ⟨_, rfl⟩
  have Hn := hideE hn
  rw [← hn] at hl ⊢
  generalize IdxOf p l = G at *
  clear hp hs hn
  go_enter Try.func48, Try.ntmps48
  go_wp2_with fail
  go_loopw [8] (fun i wr => ∃ (k : Nat), k ≤ n ∧ i = .int .i64 k ∧ RowKit.Below w.heap.size w wr ∧ Hid (∀ (j : Nat) (hj : j < l.length), j < k → p l[j] = false)) (fun i wr => n - (intOf i).toNat)
  case atStart => exact ⟨0, Nat.zero_le _, rfl, RowKit.Below.refl _ w, fun j hj h0 => by omega⟩
  case round =>
    obtain ⟨k, hk, rfl, hbr, hall⟩ := hrel
    by_cases hlt : k < n
    · have hkl : k < l.length := by rw [← Hn.out]; exact hlt
      have hc := (HS.out.below hbr).at_ k hkl
      have hcall := H.out wr l[k] ((ButM.refl b w).below hbr)
      have i0 : (0 : Int) ≤ (k : Int) := by omega
      have i1 : (k : Int) < (n : Int) := by omega
      have HV : Hid (∀ q, p l[k] = q → (q = false → (∀ (j : Nat) (hj : j < l.length), j < k + 1 → p l[j] = false)) ∧ (q = true → G (k : Int))) := by
        intro q hq
        refine ⟨fun e j hj h1 => ?_, fun e => HJ.out k hkl (hq.trans e) hall.out⟩
        by_cases ej : j = k
        · subst ej; exact hq.trans e
        · exact hall.out j hj (by omega)
      cases hq : p l[k] with
      | false =>
        rw [hq] at hcall
        have hnext : Hid (∀ (j : Nat) (hj : j < l.length), j < k + 1 → p l[j] = false) := (HV.out _ hq).1 rfl
        clear HV hq hall
        generalize l[k] = z at *
        go_wp2_with (go_at_fn g; refine hcall.mono ?_; rintro e w' ⟨rfl, hb'⟩; dsimp only)
        go_roundw
        case rel => exact ⟨k + 1, by omega, by go_num, bstep hbr hb', hnext⟩
        case measure => simp [intOf]; omega
      | true =>
        rw [hq] at hcall
        have hno2 : Hid (G (k : Int)) := (HV.out _ hq).2 rfl
        clear HV hq hall
        generalize l[k] = z at *
        go_wp2_with (go_at_fn g; refine hcall.mono ?_; rintro e w' ⟨rfl, hb'⟩; dsimp only)
        go_ret
        exact ⟨⟨(k : Int), rfl, hno2.out⟩, bstep hbr hb'⟩
    · have hkk : k = n := by omega
      have hyes : Hid (G (-1)) := HI.out (-1) rfl fun j hj => hall.out j hj (by rw [hkk, Hn.out]; exact hj)
      subst hkk
      clear hall
      go_wp2_with fail
      go_ret
      exact ⟨⟨-1, rfl, hyes.out⟩, hbr⟩

set_option maxHeartbeats 4000000 in
set_option maxRecDepth 100000 in
theorem DeleteFunc_any (g : Nat) (lb : Array Value) (p : Int → Bool) (w : World) (b cap : Nat) (l : List Int) (eg : ∀ args w, (callFunc g args).run Try.prog w = .ok (.enter g args) w) (hp : PredM g lb p b w) (hs : RowL w b l) (hl : l.length ≤ 1000) (hcap : l.length ≤ cap) :
    Calls Try.prog 33 #[.slice (some ⟨b, 0, none⟩) l.length cap, .func (.func g) #[] lb] w fun e w' => e = .returned (.slice (some ⟨b, 0, none⟩) (keepF p l).length cap) ∧ RowL w' b (keepF p l) ∧ ButM b w w' := by
  have HF := FIndex_any g lb p w b cap l eg hp hs hl
  have H := hideE hp
  have HS := hideE hs
  obtain ⟨n, hn⟩ : ∃ n, n = l.length := ⟨_, rfl⟩
  have Hn := hideE hn
  rw [← hn] at hl hcap HF ⊢
  clear hp hs hn
  go_enter Try.func33, Try.ntmps33
  go_wp2_with fail
  refine HF.mono ?_
  rintro e w1 ⟨⟨r, rfl, hr⟩, hb1⟩
  rcases hr with ⟨hr1, hall⟩ | ⟨k, hk, rfl, hpk, hlow⟩
  · have e : keepF p l = l := List.filter_eq_self.2 fun x hx => by rw [hall x hx]; rfl
    have hfin := hideE (show (keepF p l).length = n by rw [e]; exact Hn.out.symm)
    have hrow := hideE (show RowL w1 b (keepF p l) by rw [e]; exact HS.out.below hb1)
    have t0 : (r == -1) = true := by rw [hr1]; rfl
    clear hall e HF hr1
    dsimp only
    go_wp2_with fail
    go_ret
    exact ⟨(by rw [hfin.out]; rfl), hrow.out, (ButM.refl b w).below hb1⟩
  · have hkn : k < n := by rw [Hn.out]; exact hk
    have hst := hideE (DelSt.start HS.out hb1 hk hpk hlow)
    have t0 : ((k : Int) == -1) = false := by simp
    clear hlow hpk hk hb1 HF
    dsimp only
    go_wp2_with fail
    go_loopw [5, 6] (fun i j wr => ∃ (a c : Nat), c ≤ n ∧ a < c ∧ i = .int .i64 a ∧ j = .int .i64 c ∧ Hid (DelSt w wr b p l a c)) (fun _ j wr => n - (intOf j).toNat)
    case atStart => exact ⟨k, k + 1, by omega, by omega, rfl, by go_num, hst.out⟩
    case round =>
      clear hst
      obtain ⟨a, c, hcn, hac, rfl, rfl, hst⟩ := hrel
      by_cases hlt : c < n
      · have hcl : c < l.length := by rw [← Hn.out]; exact hlt
        have hcell := hst.out.rest c hcl (Nat.le_refl _)
        have hcall := H.out wr l[c] hst.out.but
        have t1 : decide ((c : Int) < (n : Int)) = true := by simp; omega
        have i0 : (0 : Int) ≤ (c : Int) := by omega
        have i1 : (c : Int) < (n : Int) := by omega
        have a0 : (0 : Int) ≤ (a : Int) := by omega
        have a1 : (a : Int) < (n : Int) := by omega
        have hdrop := hideE (fun (W' : World) (hb : RowKit.Below wr.heap.size wr W') (hq : p l[c] = true) => hst.out.drop hb hcl hq)
        have hkeep := hideE (fun (W' : World) (hb : RowKit.Below wr.heap.size wr W') (hq : p l[c] = false) => hst.out.keep hb hcl hq)
        have hfree := hst.out.free a (by omega)
        obtain ⟨ua, hua⟩ := hst.out.there a (by omega)
        cases hq : p l[c] with
        | true =>
          rw [hq] at hcall
          have hnext := hideE (fun W' hb => hdrop.out W' hb hq)
          clear hdrop hkeep hq hst hfree hua
          generalize l[c] = z at *
          go_wp2_with (go_at_fn g; refine hcall.mono ?_; rintro e w' ⟨rfl, hb'⟩; dsimp only)
          go_roundw
          case rel => exact ⟨a, c + 1, by omega, by omega, rfl, by go_num, hnext.out _ hb'⟩
          case measure => simp [intOf]; omega
        | false =>
          rw [hq] at hcall
          have hnext := hideE (fun W' hb => hkeep.out W' hb hq)
          clear hdrop hkeep hq hst
          generalize l[c] = z at *
          go_wp2_with (go_at_fn g; refine hcall.mono ?_; rintro e w' ⟨rfl, hb'⟩; have hua' := cell_k hua hb'; have hfree' := (hb'.frozen (p := ⟨b, a, none⟩) (World.block_lt_of_cell? _ _ hua)).trans hfree; dsimp only)
          go_roundw
          case rel => exact ⟨a + 1, c + 1, by omega, by omega, by go_num, by go_num, hnext.out _ hb'⟩
          case measure => simp [intOf]; omega
      · have hce : c = n := by omega
        have t1 : decide ((c : Int) < (n : Int)) = false := by simp; omega
        have hend := hideE (show DelSt w wr b p l a l.length by have := hst.out; rw [hce, Hn.out] at this; exact this)
        have hlen := hideE (show (keepF p l).length = a by have := hend.out.len; rw [List.take_length] at this; exact this.symm)
        have han : a < n := by omega
        have a0 : (0 : Int) ≤ (a : Int) := by omega
        have a1 : (a : Int) ≤ (n : Int) := by omega
        have a2 : (a : Int) ≤ (cap : Int) := by omega
        have n1 : (n : Int) ≤ (cap : Int) := by omega
        have n3 : a ≤ n := by omega
        have n4 : a ≤ cap := by omega
        have hcl : ∀ ty, (Builtin.clear_ #[34] ty #[.slice (some ⟨b, a, none⟩) (n - a) (cap - a)]).run Try.prog wr = .ok (.tuple #[]) (wr.setCells b a (List.replicate (n - a) (.int .i64 0))) :=
          fun ty => Lib.run_clear_slice wr 34 3 ty (.int .i64 0) Try.underlying34 zeroInt rfl rfl b a (n - a) (cap - a) (by omega)
            (fun t ht => by obtain ⟨u, hu⟩ := hend.out.there (a + t) (by have := Hn.out; omega); rw [hu]; rfl) (fun t ht => hend.out.free (a + t) (by have := Hn.out; omega))
        clear hst
        subst hce
        go_wp2_with fail
        go_ret
        obtain ⟨q1, q2⟩ := hend.out.end_ (c - a)
        exact ⟨(by rw [hlen.out]; rfl), q1, q2⟩
end Go.Proofs.Ytcdbcoaiadipjaa
