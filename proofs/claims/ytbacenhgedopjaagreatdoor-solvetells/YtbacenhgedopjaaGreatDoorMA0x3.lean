import Derived.Test.YtbacenhgedopjaaGreatDoorMA0x2
import Derived.Test.YtbacenhgedopjaaGreatDoorMA0x1
import Derived.Test.YtbacenhgedopjaaGreatDoorMA0x0
import Derived.Deep.Upon
import Derived.Deep.Draws
import Derived.RegionTactic
import Derived.Maps.OwnSet
import Derived.DeepKeys4
import Derived.OwnWalk
import Derived.Laws.Rows

/- Sorted and Sort: what they tell of any list, and what comes out. -/
namespace Go.Proofs.YtbacenhgedopjaaGreatDoor
open Go Go.RowKit Go.Proofs Go.Sort Go.Lib
set_option synthInstance.maxSize 1000

attribute [local go_sem] eql_errV neq_errV guard_errV

/-- a slice holds a list: of an empty one nothing is said -/
def SlT (w : World) (ad : Option Addr) (l : List Tr) : Prop := l ≠ [] → ∃ b o, ad = some ⟨b, o, none⟩ ∧ RowR w b o l
theorem SlT.below {w w' : World} {ad : Option Addr} {l : List Tr} (h : SlT w ad l) (hb : RowKit.Below w.heap.size w w') : SlT w' ad l := fun hl => by
  obtain ⟨b, o, e, r⟩ := h hl
  exact ⟨b, o, e, r.below hb⟩
theorem SlT.at {w : World} {ad : Option Addr} {l : List Tr} (h : SlT w ad l) (i : Nat) (hi : i < l.length) : ∃ b o, ad = some ⟨b, o, none⟩ ∧ RowR w b o l :=
  h (fun e => by rw [e] at hi; simp at hi)

def chkAt (l : List Tr) (i : Nat) : Int := if h : i < l.length then chkTr l[i] else 0
theorem chkAt_eq (l : List Tr) (i : Nat) (h : i < l.length) : chkAt l i = chkTr l[i] := dif_pos h

theorem enters64 : ∀ args w, (callFunc 64 args).run Tryz.prog w = .ok (.enter 64 args) w := enters_of Tryz.func64 (by kernel_rfl) rfl
theorem enters66 : ∀ args w, (callFunc 66 args).run Tryz.prog w = .ok (.enter 66 args) w := enters_of Tryz.func66 (by kernel_rfl) rfl

theorem keepSlI {bl : Nat} {ad : Option Addr} {cap : Nat} {l : List Tr} : ∀ W W', (W.cell? ⟨bl, 0, none⟩ = some (.slice ad l.length cap) ∧ SlT W ad l) → RowKit.Below W.heap.size W W' → (W'.cell? ⟨bl, 0, none⟩ = some (.slice ad l.length cap) ∧ SlT W' ad l) :=
  fun W _ h hb => ⟨(hb.cell (World.block_lt_of_cell? W _ h.1)).trans h.1, h.2.below hb⟩

theorem faultSorted_any (ad : Option Addr) (cap bl : Nat) (l : List Tr) (w : World) (hbox : w.cell? ⟨bl, 0, none⟩ = some (.slice ad l.length cap)) (h : SlT w ad l) (hfit : ∀ x ∈ l, fitTr x) (hn : l.length ≤ 9223372036854775807) :
    Calls Tryz.prog 63 #[.slice ad l.length cap, .func (.func 64) #[] #[.pointer (some ⟨bl, 0, none⟩)]] w fun e w' => e = .returned (errV (faultN (stepN l) l.length)) ∧ RowKit.Below w.heap.size w w' :=
  firstFault_any ad l.length cap 64 bl (stepN l) (fun W => W.cell? ⟨bl, 0, none⟩ = some (.slice ad l.length cap) ∧ SlT W ad l) w hn enters64 ⟨hbox, h⟩ keepSlI
    (fun h200 i W hi hI => by
      obtain ⟨b, o, rfl, hr⟩ := hI.2.at i hi
      exact sortedFault_any b o cap bl l i W hi h200 (hfit _ (List.getElem_mem hi)) hI.1 hr)

/-- what Sorted tells of a list -/
def sortedN (l : List Tr) : Int := faultN (stepN l) l.length
theorem Sorted_any (ad : Option Addr) (cap : Nat) (l : List Tr) (w : World) (h : SlT w ad l) (hfit : ∀ x ∈ l, fitTr x) (hn : l.length ≤ 9223372036854775807) :
    Calls Tryz.prog 43 #[.slice ad l.length cap] w fun e w' => e = .returned (errV (sortedN l)) ∧ RowKit.Below w.heap.size w w' := by
  have H := fun W hb hs => faultSorted_any ad cap w.heap.size l W hb hs hfit hn
  have Hs : Hid (SlT w ad l) := h
  clear h
  go_enter Tryz.func43, Tryz.ntmps43
  go_wp2_with fail
  refine (H _ (by go_simp) (Hs.out.below (balloc _ _))).mono ?_
  rintro e w1 ⟨rfl, hb1⟩
  go_wp2_with fail
  go_ret
  exact ⟨rfl, bstep (balloc _ _) hb1⟩

/-! ### the sort -/
theorem flat_get (l : List Tr) (j : Nat) (hj : j < l.length * 9) : (cellsT l)[j]? = some (flatK encTr 9 l.toArray)[j]! := by
  have hi : j / 9 < l.length := by omega
  have h1 := cellsT_at l (j / 9) hi (j % 9) (by omega)
  rw [show j / 9 * 9 + j % 9 = j by omega] at h1
  rw [h1, get_flatK _ _ _ j (by simpa using hj), List.getElem?_eq_getElem (by rw [encTr_len]; omega)]
  have e : l.toArray[j / 9]! = l[j / 9] := by rw [getElem!_pos l.toArray (j / 9) (by simpa using hi)]; simp
  rw [e, getElem!_pos (encTr l[j / 9]) (j % 9) (by rw [encTr_len]; omega)]

theorem rowR_holds {w : World} {b o : Nat} {l : List Tr} (h : HoldsK encTr 9 w b o l.toArray) : RowR w b o l := fun j v hv => by
  have hj : j < l.length * 9 := by
    have := (List.getElem?_eq_some_iff.1 hv).1
    rwa [cellsT_len] at this
  rw [flat_get l j hj] at hv
  rw [(h j (by simpa using hj)).1]
  exact hv
theorem RowR.prefix {w : World} {b o : Nat} {l m : List Tr} (h : RowR w b o (l ++ m)) : RowR w b o l := fun j v hv => h j v (by
  simp only [cellsT, List.flatMap_append]
  rw [List.getElem?_append_left (by exact (List.getElem?_eq_some_iff.1 hv).1)]
  exact hv)

theorem holds_new (w : World) (l : List Tr) (zs : Array Value) (e : TypeId) : HoldsK encTr 9 (w.alloc (.cells ((cellsT l).toArray ++ zs) e)) w.heap.size 0 l.toArray := fun j hj => by
  have hj' : j < l.length * 9 := by simpa using hj
  have hl : j < (cellsT l).length := by rw [cellsT_len]; exact hj'
  have h1 := flat_get l j hj'
  refine ⟨?_, by simp⟩
  simp only [World.cell?, World.alloc, Array.getElem?_push_size, Nat.zero_add, Option.isSome_none, Bool.false_eq_true, if_false, id_eq]
  rw [Array.getElem?_append_left (by simpa using hl), List.getElem?_toArray, h1]

/-! ### nothing to sort -/
/-! ### Sort -/
/-- what Sort tells of a list -/
def sortN (l : List Tr) : Int := faultN (chkAt l) l.length

theorem infoTr : (Tryz.prog.info? 58).map (fun i => (i.zero, i.size, i.bytes)) = some (some (.agg (encTr zeroTr).toArray), 9, 120) := by kernel_rfl

/-- the sort's world: nothing older than the row has turned -/
theorem below_sort {w : World} {b n B : Nat} {d : Array Tr} {os : Array Obj} (hB : B ≤ b) (hBw : B ≤ w.heap.size) : RowKit.Below B w (sortWorldK encTr 9 w b 0 n d os) := by
  refine ⟨rfl, rfl, rfl, ?_, fun k hk => ?_⟩
  · show w.heap.size ≤ (_ ++ os).size
    simp [putRowK, putRow, mapBlock, Sort.ahead]
  · show (_ ++ os)[k]? = _
    rw [Array.getElem?_append_left (by simp [putRowK, putRow, mapBlock, Sort.ahead]; omega)]
    simp only [putRowK, putRow, mapBlock, Sort.ahead, Array.getElem?_modify]
    rw [if_neg (by omega)]
theorem below_put {w : World} {b o q B : Nat} {d : Array Tr} (hB : B ≤ b) : RowKit.Below B w (putRowK encTr 9 (Sort.ahead w q) b o d) := by
  refine ⟨rfl, rfl, rfl, by simp [putRowK, putRow, mapBlock, Sort.ahead], fun k hk => ?_⟩
  simp only [putRowK, putRow, mapBlock, Sort.ahead, Array.getElem?_modify]
  rw [if_neg (by omega)]

/-- an append whose run is known -/
theorem wpList_append_eq {P : Program} {w w' : World} {ops : Array Oper} {rest : List Oper} {o : Oper} {a : Act} {Q : Exit → Act → World → Prop} {v x y : Value} (hgd : o.guard = none) (s z : Operand) (t : TypeId)
    (ho : o.op = .call { callee := .builtin .append, args := #[s, z], argTypes := #[t, t] }) (hs : a.eval s = x) (hx : a.eval z = y) (hrun : (Builtin.append_ #[t, t] o.type #[x, y]).run P w = .ok v w')
    (h : wpList P ops Q rest (a.put o.dst v) w') : wpList P ops Q (o :: rest) a w := by
  refine wpList_plain hgd fun K hK => ?_
  unfold Oper.wp
  simp [execOp, ho, resolve, invoke, builtin, hs, hx, hrun, Result.andThen]
  exact hK _ _ h

theorem append_nothing (ad : Option Addr) (cap : Nat) (W : World) (ty : TypeId) : (Builtin.append_ #[22, 22] ty #[.slice none 0 0, .slice ad 0 cap]).run Tryz.prog W = .ok (.slice none 0 0) W := by
  obtain ⟨i, hi, hz⟩ := Option.map_eq_some_iff.1 infoTr
  cases ad with
  | none => simp [Builtin.append_, run_underlying Tryz.underlying22, sizeOf, typeInfo, hi, Builtin.lenOf, run_firstCells_none]
  | some a =>
    have hf := run_firstCells_some (P := Tryz.prog) W i.size 0 a 0 cap [] (by simp) (by simp)
    simp [Builtin.append_, run_underlying Tryz.underlying22, sizeOf, typeInfo, hi, Builtin.lenOf, hf]

theorem append_some (b o cap : Nat) (l : List Tr) (W : World) (ty : TypeId) (hl : 0 < l.length) (h200 : l.length ≤ 200) (hr : RowR W b o l) :
    ∃ c zs, l.length ≤ c ∧ (Builtin.append_ #[22, 22] ty #[.slice none 0 0, .slice (some ⟨b, o, none⟩) l.length cap]).run Tryz.prog W = .ok (.slice (some ⟨W.heap.size, 0, none⟩) l.length c) (W.drew.alloc (.cells ((cellsT l).toArray ++ zs) 58)) := by
  obtain ⟨i, hi, hz⟩ := Option.map_eq_some_iff.1 infoTr
  simp only [Prod.mk.injEq] at hz
  have h := run_append_nil (P := Tryz.prog) W 22 ty 58 i _ Tryz.underlying22 hi hz.1 ⟨b, o, none⟩ l.length cap (cellsT l) (by rw [cellsT_len, hz.2.1])
    (fun j v hv => by rw [Addr.add_lit]; exact hr j v hv) hl (by omega) (by rw [hz.2.2]; omega)
  exact ⟨_, _, by have := grownCap_ge W l.length 0 58; omega, h⟩

theorem compRow_size (d : Array Tr) : (compRow d).size = d.size := by
  have := comp_len d
  simp [compRow]
  omega

end Go.Proofs.YtbacenhgedopjaaGreatDoor

/- stratasame.Triples: are two lists the same? -/
namespace Go.Proofs.YtbacenhgedopjaaGreatDoor
open Go Go.RowKit Go.Proofs
set_option synthInstance.maxSize 1000

attribute [local go_sem ↓] eqlTriple neqTriple

theorem bdN' (w : World) (q : Nat) : RowKit.Below w.heap.size w (w.drewN q) := ⟨rfl, rfl, rfl, Nat.le_refl _, fun _ _ => rfl⟩

theorem take_same {l m : List Tr} {k : Nat} (h : l.take k = m.take k) (hl : k < l.length) (hm : k < m.length) (e : l[k] = m[k]) : l.take (k + 1) = m.take (k + 1) := by
  rw [List.take_succ_eq_append_getElem hl, List.take_succ_eq_append_getElem hm, h, e]

end Go.Proofs.YtbacenhgedopjaaGreatDoor

/- Sort of a list that is right, in one contract; what Sorted tells of what comes out; the like. -/
namespace Go.Proofs.YtbacenhgedopjaaGreatDoor
open Go Go.RowKit Go.Proofs Go.Sort
set_option synthInstance.maxSize 1000

theorem firstUpto_zero {f : Nat → Int} {n : Nat} : firstUpto f n = 0 ↔ ∀ i, i < n → f i = 0 := by
  induction n with
  | zero => simp [firstUpto]
  | succ m ih =>
    unfold firstUpto
    constructor
    · intro h i hi
      by_cases hz : firstUpto f m = 0
      · rw [if_pos hz] at h
        by_cases e : i = m
        · subst e; exact h
        · exact ih.1 hz i (by omega)
      · rw [if_neg hz] at h; exact absurd h hz
    · intro h
      rw [if_pos (ih.2 fun i hi => h i (by omega))]
      exact h m (by omega)
theorem faultN_zero {f : Nat → Int} {n : Nat} : faultN f n = 0 ↔ n ≤ 200 ∧ ∀ i, i < n → f i = 0 := by
  unfold faultN
  by_cases h : 200 < n
  · rw [if_pos h]; simp; omega
  · rw [if_neg h, firstUpto_zero]
    constructor
    · intro q; exact ⟨by omega, q⟩
    · intro q; exact q.2
theorem sortN_zero {l : List Tr} : sortN l = 0 ↔ l.length ≤ 200 ∧ ∀ x ∈ l, chkTr x = 0 := by
  unfold sortN
  rw [faultN_zero]
  constructor
  · rintro ⟨h1, h2⟩
    refine ⟨h1, fun x hx => ?_⟩
    obtain ⟨i, hi, rfl⟩ := List.getElem_of_mem hx
    have := h2 i hi
    rwa [chkAt_eq l i hi] at this
  · rintro ⟨h1, h2⟩
    refine ⟨h1, fun i hi => ?_⟩
    rw [chkAt_eq l i hi]
    exact h2 _ (List.getElem_mem hi)
theorem sortedN_zero {m : List Tr} (h1 : m.length ≤ 200) (h2 : ∀ x ∈ m, chkTr x = 0) (h3 : Rising m) : sortedN m = 0 := by
  unfold sortedN
  rw [faultN_zero]
  refine ⟨h1, fun i hi => ?_⟩
  unfold stepN
  rw [dif_pos hi, if_pos (h2 _ (List.getElem_mem hi))]
  by_cases h0 : 0 < i
  · rw [dif_pos h0, if_neg]
    have := List.pairwise_iff_getElem.1 h3 (i - 1) i (by omega) hi (by omega)
    omega
  · rw [dif_neg h0]
theorem fit_chk {x : Tr} (h : chkTr x = 0) : fitTr x := by
  obtain ⟨h1, h2, h3, _⟩ := chk_zero h
  have q : ∀ k S L, checkN k S L = 0 → S.length ≤ maxLen ∧ L.length ≤ maxLen := fun k S L hh => by
    obtain ⟨_, hS, hsp⟩ := check_zero hh
    have := spell_lang hsp
    unfold maxLen
    omega
  exact ⟨q _ _ _ h1, q _ _ _ h2, q _ _ _ h3⟩

end Go.Proofs.YtbacenhgedopjaaGreatDoor

/- The theory of sets as lists: what is together, and what is apart. -/
namespace Go.Proofs.YtbacenhgedopjaaGreatDoor
open Go Go.RowKit Go.Proofs
set_option synthInstance.maxSize 1000

/-- a set: at most 200 triples, each right, rising -/
def IsSet (l : List Tr) : Prop := l.length ≤ 200 ∧ (∀ x ∈ l, chkTr x = 0) ∧ Rising l

theorem cmpTr_lt_trans {x y z : Tr} (h1 : cmpTr x y < 0) (h2 : cmpTr y z < 0) : cmpTr x z < 0 := by
  have h := cmpTr_trans x y z (by omega) (by omega)
  rcases Int.lt_or_eq_of_le h with h | h
  · exact h
  · have e := (cmpTr_zero x z).1 h
    subst e
    have := cmpTr_neg x y
    omega

theorem rising_of_steps (l : List Tr) (h : ∀ i (h0 : 0 < i) (hi : i < l.length), cmpTr (l[i - 1]'(by omega)) l[i] < 0) : Rising l := by
  refine List.pairwise_iff_getElem.2 ?_
  intro i j hi hj hij
  obtain ⟨d, rfl⟩ : ∃ d, j = i + 1 + d := ⟨j - i - 1, by omega⟩
  clear hij
  induction d with
  | zero => exact h (i + 1) (by omega) hj
  | succ d ih =>
    have h1 := ih (by omega)
    have h2 := h (i + 1 + (d + 1)) (by omega) hj
    exact cmpTr_lt_trans h1 h2

theorem sortedN_set {m : List Tr} : sortedN m = 0 ↔ IsSet m := by
  constructor
  · intro h
    unfold sortedN at h
    obtain ⟨h1, h2⟩ := faultN_zero.1 h
    have hc : ∀ i (hi : i < m.length), chkTr m[i] = 0 := fun i hi => by
      have := h2 i hi
      unfold stepN at this
      rw [dif_pos hi] at this
      by_cases hh : chkTr m[i] = 0
      · exact hh
      · rw [if_neg hh] at this; exact this
    refine ⟨h1, fun x hx => ?_, rising_of_steps m fun i h0 hi => ?_⟩
    · obtain ⟨i, hi, rfl⟩ := List.getElem_of_mem hx
      exact hc i hi
    · have := h2 i hi
      unfold stepN at this
      rw [dif_pos hi, if_pos (hc i hi), dif_pos h0] at this
      by_cases hh : 0 ≤ cmpTr (m[i - 1]'(by omega)) m[i]
      · rw [if_pos hh] at this; omega
      · omega
  · rintro ⟨h1, h2, h3⟩
    exact sortedN_zero h1 h2 h3

theorem IsSet.filter {l : List Tr} (h : IsSet l) (p : Tr → Bool) : IsSet (l.filter p) :=
  ⟨Nat.le_trans (List.length_filter_le _ _) h.1, fun x hx => h.2.1 x (List.mem_filter.1 hx).1, List.Pairwise.filter _ h.2.2⟩
theorem IsSet.fit {l : List Tr} (h : IsSet l) : ∀ x ∈ l, fitTr x := fun x hx => fit_chk (h.2.1 x hx)
theorem isSet_nil : IsSet [] := ⟨by simp, by simp, List.Pairwise.nil⟩

theorem rising_nodup {l : List Tr} (h : Rising l) : l.Nodup := by
  refine List.Pairwise.imp ?_ h
  intro x y hxy e
  subst e
  have := (cmpTr_zero x x).2 rfl
  omega

/-- what is in the one and not in the other; what is in both -/
def lessL (a b : List Tr) : List Tr := a.filter fun x => !decide (x ∈ b)
def bothL (a b : List Tr) : List Tr := a.filter fun x => decide (x ∈ b)
theorem mem_lessL {a b : List Tr} {x : Tr} : x ∈ lessL a b ↔ x ∈ a ∧ x ∉ b := by simp [lessL]
theorem mem_bothL {a b : List Tr} {x : Tr} : x ∈ bothL a b ↔ x ∈ a ∧ x ∈ b := by simp [bothL]

theorem parts_len (a b : List Tr) : (lessL a b).length + (bothL a b).length = a.length := by
  unfold lessL bothL
  induction a with
  | nil => rfl
  | cons x r ih =>
    by_cases h : x ∈ b
    · simp [h] at ih ⊢; omega
    · simp [h] at ih ⊢; omega

/-- what both have together -/
def JoinOf (a b m : List Tr) : Prop := Rising m ∧ ∀ x, x ∈ m ↔ x ∈ a ∨ x ∈ b

theorem JoinOf.len {a b m : List Tr} (h : JoinOf a b m) (ha : Rising a) (hb : Rising b) : m.length = a.length + (lessL b a).length := by
  have hn : (a ++ lessL b a).Nodup := by
    rw [List.nodup_append]
    refine ⟨rising_nodup ha, rising_nodup (List.Pairwise.filter _ hb), ?_⟩
    intro x hx y hy e
    subst e
    exact (mem_lessL.1 hy).2 hx
  have hp : m.Perm (a ++ lessL b a) := by
    refine (List.perm_ext_iff_of_nodup (rising_nodup h.1) hn).2 fun x => ?_
    rw [h.2, List.mem_append, mem_lessL]
    by_cases hx : x ∈ a <;> simp [hx]
  rw [hp.length_eq, List.length_append]

theorem JoinOf.unique {a b m n : List Tr} (h : JoinOf a b m) (h' : JoinOf a b n) : m = n :=
  rising_unique m n h.1 h'.1 fun x => (h.2 x).trans (h'.2 x).symm
theorem JoinOf.symm {a b m : List Tr} (h : JoinOf a b m) : JoinOf b a m := ⟨h.1, fun x => (h.2 x).trans Or.comm⟩
theorem JoinOf.isSet {a b m : List Tr} (h : JoinOf a b m) (ha : IsSet a) (hb : IsSet b) (hl : a.length + (lessL b a).length ≤ 200) : IsSet m :=
  ⟨by rw [h.len ha.2.2 hb.2.2]; exact hl, fun x hx => ((h.2 x).1 hx).elim (ha.2.1 x) (hb.2.1 x), h.1⟩
/-- less and both make the one; with what the other has alone they are all -/
theorem join_parts {a b p : List Tr} (ha : Rising a) (h : JoinOf (lessL a b) (bothL a b) p) : p = a :=
  rising_unique p a h.1 ha fun x => by
    rw [h.2, mem_lessL, mem_bothL]
    by_cases hx : x ∈ b <;> simp [hx]
theorem join_all {a b m q : List Tr} (h : JoinOf a b m) (h' : JoinOf a (lessL b a) q) : q = m :=
  rising_unique q m h'.1 h.1 fun x => by
    rw [h.2, h'.2, mem_lessL]
    by_cases hx : x ∈ a <;> simp [hx]
theorem less_apart (a b : List Tr) : lessL (bothL a b) (lessL a b) = bothL a b := by
  unfold lessL
  rw [List.filter_eq_self]
  intro x hx
  have := (mem_bothL.1 hx).2
  simp [this]
theorem less_twice (a b : List Tr) : lessL (lessL b a) a = lessL b a := by
  unfold lessL
  rw [List.filter_filter]
  simp
/-- a slice that owns its row -/
theorem own_slT {W : World} {base : Nat} {e : TypeId} {v : Value} {t : List Tr} (h : W.ownsRow base e 9 v t.length (cellsT t)) : ∃ ad cap, v = .slice ad t.length cap ∧ SlT W ad t := by
  have h' := h
  rcases h.2 with ⟨rfl, h0⟩ | ⟨g, cap, cur, rfl, _⟩
  · exact ⟨none, 0, by rw [h0], fun hne => absurd (List.eq_nil_of_length_eq_zero h0) hne⟩
  · refine ⟨some ⟨g, 0, none⟩, cap, rfl, fun _ => ⟨g, 0, rfl, fun j u hj => ?_⟩⟩
    have := h'.cells (g := g) rfl j u hj
    rwa [Addr.add_lit] at this

/-- what a call has grown beside an owned row leaves the row -/
theorem ownsRow_below {W W' : World} {base : Nat} {e : TypeId} {sz : Nat} {v : Value} {n : Nat} {cs : List Value} (h : W.ownsRow base e sz v n cs) (hb : RowKit.Below W.heap.size W W') : W'.ownsRow base e sz v n cs :=
  h.kept (row := none) ⟨hb.os, hb.tape, hb.output, hb.size, fun i hi _ => hb.block i hi⟩ (Classical.em _)
end Go.Proofs.YtbacenhgedopjaaGreatDoor

/- What answers a question over a set: bound patterns, answers, their order; plain lists, no program. -/
namespace Go.Proofs.YtbacenhgedopjaaGreatDoor
open Go Go.RowKit Go.Proofs
set_option synthInstance.maxSize 1000

/-! ### bound -/
/-- what a variable is told to be: the first counts -/
def boundT : List (List UInt8) → List Tm → List UInt8 → Option Tm
  | v :: vs, t :: ts, s => if v = s ∧ s ≠ [] then some t else boundT vs ts s
  | [], _, _ => none
  | _ :: _, [], _ => none
def bindS (vars : List (List UInt8)) (vals : List Tm) (s : Sl) : Sl := match boundT vars vals s.1 with
  | some t => ([], t)
  | none => s
def bindP (vars : List (List UInt8)) (vals : List Tm) (p : Pt) : Pt := (bindS vars vals p.1, bindS vars vals p.2.1, bindS vars vals p.2.2)
/-- the first of some terms that is wrong -/
def termsN : List Tm → Int
  | [] => 0
  | t :: r => if tmChk t = 0 then termsN r else tmChk t
def bindN (vars : List (List UInt8)) (vals : List Tm) (p : Pt) : Int := if vars.length ≠ vals.length then 3 else if termsN vals ≠ 0 then termsN vals else varsN p
def patZero : Pt := (([], tmZero), ([], tmZero), ([], tmZero))
def bindB (vars : List (List UInt8)) (vals : List Tm) (p : Pt) : Pt := if bindN vars vals p = 0 then bindP vars vals p else patZero

/-! ### answers -/
def matchP (S : List Tr) (p : Pt) : List Tr := S.filter (fitsB p)
def freshV (vars : List (List UInt8)) (p : Pt) : List (List UInt8) := (varsL p).filter fun v => !decide (v ∈ vars)
def pickT (p : Pt) (t : Tr) (v : List UInt8) : Tm := if p.1.1 = v then t.1 else if p.2.1.1 = v then t.2.1 else t.2.2
def extR (vars : List (List UInt8)) (p : Pt) (r : List Tm) (t : Tr) : List Tm := r ++ (freshV vars p).map (pickT p t)
def rowsOf (S : List Tr) (vars : List (List UInt8)) (p : Pt) (r : List Tm) : List (List Tm) := (matchP S (bindP vars r p)).map (extR vars p r)
def stepR (S : List Tr) (vars : List (List UInt8)) (p : Pt) (rows : List (List Tm)) : List (List Tm) := rows.flatMap (rowsOf S vars p)
/-- the variables as they come, their terms in each answer; none: there are too many -/
def answersF (S : List Tr) : List (List UInt8) → List (List Tm) → List Pt → Option (List (List UInt8) × List (List Tm))
  | vars, rows, [] => some (vars, rows)
  | vars, rows, p :: ps => if 500 < (stepR S vars p rows).length then none else answersF S (vars ++ freshV vars p) (stepR S vars p rows) ps
def answersL (S : List Tr) (parts : List Pt) : Option (List (List UInt8) × List (List Tm)) := answersF S [] [[]] parts
/-- how many triples are looked at -/
def lookedF (S : List Tr) : List (List UInt8) → List (List Tm) → List Pt → Nat
  | _, _, [] => 0
  | vars, rows, p :: ps => (stepR S vars p rows).length + lookedF S (vars ++ freshV vars p) (stepR S vars p rows) ps
def looked (S : List Tr) (parts : List Pt) : Nat := lookedF S [] [[]] parts

/-! ### in order -/
def lessR : List Tm → List Tm → Bool
  | x :: a, y :: b => if cmpTm x y = 0 then lessR a b else decide (cmpTm x y < 0)
  | _, _ => false
def byC (i : Option Nat) (down : Bool) (a b : List Tm) : Int := match i with
  | none => 0
  | some i => if down = true then - cmpTm (a.getD i tmZero) (b.getD i tmZero) else cmpTm (a.getD i tmZero) (b.getD i tmZero)
/-- is a row ahead of another one? -/
def aheadB (i : Option Nat) (down : Bool) (a b : List Tm) : Bool := decide (byC i down a b < 0) || (decide (byC i down a b = 0) && lessR a b)
def insR (lt : List Tm → List Tm → Bool) (r : List Tm) : List (List Tm) → List (List Tm)
  | [] => [r]
  | x :: l => if lt r x = true then r :: x :: l else x :: insR lt r l
def putR (lt : List Tm → List Tm → Bool) (dist : Bool) (out : List (List Tm)) (r : List Tm) : List (List Tm) := if dist = true ∧ r ∈ out then out else insR lt r out
def sortR (lt : List Tm → List Tm → Bool) (dist : Bool) (rows : List (List Tm)) : List (List Tm) := rows.foldl (putR lt dist) []
def whereV (vars : List (List UInt8)) (o : List UInt8) : Option Nat := if o ∈ vars then some (vars.idxOf o) else none
def projR (vars : List (List UInt8)) (told : List (List UInt8)) (r : List Tm) : List Tm := told.map fun v => (boundT vars r v).getD tmZero
def limR (lim : Int) (l : List (List Tm)) : List (List Tm) := if 0 ≤ lim then l.take lim.toNat else l
def ltQ (q : Qu) : List Tm → List Tm → Bool := aheadB (whereV q.vars q.order) q.down
def solveN (S : List Tr) (q : Qu) : Int := if sortedN S ≠ 0 then sortedN S else if askN q ≠ 0 then askN q else if (answersL S q.parts).isNone = true then 4 else 0
def solveA (S : List Tr) (q : Qu) : List (List Tm) := match answersL S q.parts with
  | none => []
  | some (vars, rows) => limR q.lim (sortR (ltQ q) q.dist (rows.map (projR vars q.vars)))
def solveL (S : List Tr) (q : Qu) : List (List Tm) := if solveN S q = 0 then solveA S q else []
def naiveI (S : List Tr) (q : Qu) : Nat := if solveN S q = 0 then (match answersL S q.parts with
  | none => 0
  | some (_, rows) => rows.length) else 0

/-! ### the order is one -/
theorem tmZ {x y : Tm} : cmpTm x y = 0 ↔ x = y := cmpTm_zero x y
theorem tmT {x y z : Tm} (h1 : cmpTm x y ≤ 0) (h2 : cmpTm y z ≤ 0) : cmpTm x z ≤ 0 := cmpTm_trans x y z h1 h2
theorem tmLt {x y z : Tm} (h1 : cmpTm x y < 0) (h2 : cmpTm y z ≤ 0) : cmpTm x z < 0 := by
  have h3 := tmT (Int.le_of_lt h1) h2
  rcases Int.lt_or_eq_of_le h3 with h | h
  · exact h
  · have e := tmZ.1 h
    subst e
    have := cmpTm_neg y x
    omega
theorem tmLt' {x y z : Tm} (h1 : cmpTm x y ≤ 0) (h2 : cmpTm y z < 0) : cmpTm x z < 0 := by
  have h3 := tmT h1 (Int.le_of_lt h2)
  rcases Int.lt_or_eq_of_le h3 with h | h
  · exact h
  · have e := tmZ.1 h
    subst e
    have := cmpTm_neg y x
    omega
theorem less_irr : ∀ (a : List Tm), lessR a a = false
  | [] => rfl
  | x :: a => by simp [lessR, tmZ.2 rfl, less_irr a]
theorem less_trans : ∀ (a b c : List Tm), lessR a b = true → lessR b c = true → lessR a c = true
  | [], _, _, h, _ => by simp [lessR] at h
  | x :: a, [], _, h, _ => by simp [lessR] at h
  | x :: a, y :: b, [], _, h => by simp [lessR] at h
  | x :: a, y :: b, z :: c, h1, h2 => by
    unfold lessR at h1 h2 ⊢
    by_cases e1 : cmpTm x y = 0
    · rw [if_pos e1] at h1
      have e1' := tmZ.1 e1
      subst e1'
      by_cases e2 : cmpTm x z = 0
      · rw [if_pos e2] at h2 ⊢
        exact less_trans a b c h1 h2
      · rw [if_neg e2] at h2 ⊢
        exact h2
    · rw [if_neg e1] at h1
      have h1' : cmpTm x y < 0 := by simpa using h1
      by_cases e2 : cmpTm y z = 0
      · have e2' := tmZ.1 e2
        subst e2'
        rw [if_neg e1]
        exact h1
      · rw [if_neg e2] at h2
        have h2' : cmpTm y z < 0 := by simpa using h2
        have h3 := tmLt h1' (Int.le_of_lt h2')
        rw [if_neg (by omega)]
        simpa using h3
theorem less_total : ∀ (a b : List Tm), a.length = b.length → lessR a b = false → lessR b a = false → a = b
  | [], [], _, _, _ => rfl
  | [], y :: b, h, _, _ => by simp at h
  | x :: a, [], h, _, _ => by simp at h
  | x :: a, y :: b, h, h1, h2 => by
    unfold lessR at h1 h2
    have hn := cmpTm_neg x y
    by_cases e : cmpTm x y = 0
    · rw [if_pos e] at h1
      rw [if_pos (by omega)] at h2
      rw [tmZ.1 e, less_total a b (by simpa using h) h1 h2]
    · rw [if_neg e] at h1
      rw [if_neg (by omega)] at h2
      simp at h1 h2
      omega
theorem byC_neg (i : Option Nat) (down : Bool) (a b : List Tm) : byC i down a b = - byC i down b a := by
  unfold byC
  cases i with
  | none => rfl
  | some i =>
    have := cmpTm_neg (a.getD i tmZero) (b.getD i tmZero)
    dsimp only
    split <;> omega
theorem byC_lt {i : Option Nat} {down : Bool} {a b c : List Tm} (h1 : byC i down a b < 0) (h2 : byC i down b c ≤ 0) : byC i down a c < 0 := by
  unfold byC at *
  cases i with
  | none => exact absurd h1 (Int.lt_irrefl 0)
  | some i =>
    dsimp only at *
    split at h1
    · rw [if_pos (by assumption)] at h2 ⊢
      have e1 := cmpTm_neg (a.getD i tmZero) (b.getD i tmZero)
      have e2 := cmpTm_neg (b.getD i tmZero) (c.getD i tmZero)
      have e3 := cmpTm_neg (a.getD i tmZero) (c.getD i tmZero)
      have := tmLt' (x := c.getD i tmZero) (y := b.getD i tmZero) (z := a.getD i tmZero) (by omega) (by omega)
      omega
    · rw [if_neg (by assumption)] at h2 ⊢
      exact tmLt h1 h2
theorem byC_le {i : Option Nat} {down : Bool} {a b c : List Tm} (h1 : byC i down a b ≤ 0) (h2 : byC i down b c ≤ 0) : byC i down a c ≤ 0 := by
  unfold byC at *
  cases i with
  | none => exact Int.le_refl _
  | some i =>
    dsimp only at *
    split at h1
    · rw [if_pos (by assumption)] at h2 ⊢
      have e1 := cmpTm_neg (a.getD i tmZero) (b.getD i tmZero)
      have e2 := cmpTm_neg (b.getD i tmZero) (c.getD i tmZero)
      have e3 := cmpTm_neg (a.getD i tmZero) (c.getD i tmZero)
      have := tmT (x := c.getD i tmZero) (y := b.getD i tmZero) (z := a.getD i tmZero) (by omega) (by omega)
      omega
    · rw [if_neg (by assumption)] at h2 ⊢
      exact tmT h1 h2
theorem ahead_irr (i : Option Nat) (down : Bool) (a : List Tm) : aheadB i down a a = false := by
  have := byC_neg i down a a
  have e : byC i down a a = 0 := by omega
  simp [aheadB, e, less_irr]
theorem ahead_trans {i : Option Nat} {down : Bool} {a b c : List Tm} (h1 : aheadB i down a b = true) (h2 : aheadB i down b c = true) : aheadB i down a c = true := by
  simp only [aheadB, Bool.or_eq_true, Bool.and_eq_true, decide_eq_true_eq] at *
  rcases h1 with h1 | ⟨h1, k1⟩
  · rcases h2 with h2 | ⟨h2, k2⟩
    · exact Or.inl (byC_lt h1 (by omega))
    · exact Or.inl (byC_lt h1 (by omega))
  · rcases h2 with h2 | ⟨h2, k2⟩
    · refine Or.inl ?_
      have e1 := byC_neg i down a b
      have e2 := byC_neg i down b c
      have e3 := byC_neg i down a c
      by_cases h : byC i down a c < 0
      · exact h
      · exfalso
        have := byC_lt (i := i) (down := down) (a := b) (b := c) (c := a) h2 (by omega)
        omega
    · right
      have e1 := byC_neg i down a b
      have e2 := byC_neg i down b c
      have e3 := byC_neg i down a c
      have g1 := byC_le (i := i) (down := down) (a := a) (b := b) (c := c) (by omega) (by omega)
      have g2 := byC_le (i := i) (down := down) (a := c) (b := b) (c := a) (by omega) (by omega)
      exact ⟨by omega, less_trans a b c k1 k2⟩
theorem ahead_total {i : Option Nat} {down : Bool} {a b : List Tm} (hl : a.length = b.length) (h1 : aheadB i down a b = false) (h2 : aheadB i down b a = false) : a = b := by
  simp only [aheadB, Bool.or_eq_false_iff, Bool.and_eq_false_iff, decide_eq_false_iff_not] at h1 h2
  have e := byC_neg i down a b
  have k1 : lessR a b = false := by rcases h1.2 with h | h <;> first | (exfalso; omega) | exact h
  have k2 : lessR b a = false := by rcases h2.2 with h | h <;> first | (exfalso; omega) | exact h
  exact less_total a b hl k1 k2
end Go.Proofs.YtbacenhgedopjaaGreatDoor

/- match.isFree, spelled, slotFault, slotsOf, and slices.Contains at texts: what they tell. -/
namespace Go.Proofs.YtbacenhgedopjaaGreatDoor
open Go Go.RowKit Go.Proofs
set_option synthInstance.maxSize 1000

attribute [local go_sem] eql_errV neq_errV guard_errV

def valTermM (x : Tm) : Value := .agg #[.int .i64 x.1, .string ⟨x.2.1.toArray⟩, .string ⟨x.2.2.toArray⟩]
def valSl (s : Sl) : Value := .agg #[.string ⟨s.1.toArray⟩, .int .i64 s.2.1, .string ⟨s.2.2.1.toArray⟩, .string ⟨s.2.2.2.toArray⟩]
def encPt (p : Pt) : List Value := [.string ⟨p.1.1.toArray⟩, .int .i64 p.1.2.1, .string ⟨p.1.2.2.1.toArray⟩, .string ⟨p.1.2.2.2.toArray⟩, .string ⟨p.2.1.1.toArray⟩, .int .i64 p.2.1.2.1, .string ⟨p.2.1.2.2.1.toArray⟩, .string ⟨p.2.1.2.2.2.toArray⟩, .string ⟨p.2.2.1.toArray⟩, .int .i64 p.2.2.2.1, .string ⟨p.2.2.2.2.1.toArray⟩, .string ⟨p.2.2.2.2.2.toArray⟩]
def valPt (p : Pt) : Value := .agg #[.string ⟨p.1.1.toArray⟩, .int .i64 p.1.2.1, .string ⟨p.1.2.2.1.toArray⟩, .string ⟨p.1.2.2.2.toArray⟩, .string ⟨p.2.1.1.toArray⟩, .int .i64 p.2.1.2.1, .string ⟨p.2.1.2.2.1.toArray⟩, .string ⟨p.2.1.2.2.2.toArray⟩, .string ⟨p.2.2.1.toArray⟩, .int .i64 p.2.2.2.1, .string ⟨p.2.2.2.2.1.toArray⟩, .string ⟨p.2.2.2.2.2.toArray⟩]
def fitSl (s : Sl) : Prop := s.1.length ≤ maxLen ∧ s.2.2.1.length ≤ maxLen ∧ s.2.2.2.length ≤ maxLen
def fitPt (p : Pt) : Prop := fitSl p.1 ∧ fitSl p.2.1 ∧ fitSl p.2.2

theorem eqlTerm (k : Int) (S L : List UInt8) (k' : Int) (S' L' : List UInt8) (w : World) : (binOp .eql 28 (.agg #[.int .i64 k, .string ⟨S.toArray⟩, .string ⟨L.toArray⟩]) (.agg #[.int .i64 k', .string ⟨S'.toArray⟩, .string ⟨L'.toArray⟩])).run Tryz.prog w = .ok (.bool (eqTB k S L k' S' L')) w := by
  rw [run_eql_struct, equalTerm]; rfl
theorem neqTerm (k : Int) (S L : List UInt8) (k' : Int) (S' L' : List UInt8) (w : World) : (binOp .neq 28 (.agg #[.int .i64 k, .string ⟨S.toArray⟩, .string ⟨L.toArray⟩]) (.agg #[.int .i64 k', .string ⟨S'.toArray⟩, .string ⟨L'.toArray⟩])).run Tryz.prog w = .ok (.bool (!eqTB k S L k' S' L')) w := by
  rw [run_neq_struct, equalTerm]; rfl
theorem neqTermZ (k : Int) (S L : List UInt8) (w : World) : (binOp .neq 28 (.agg #[.int .i64 k, .string ⟨S.toArray⟩, .string ⟨L.toArray⟩]) (.agg #[.int .i64 0, .string ⟨#[]⟩, .string ⟨#[]⟩])).run Tryz.prog w = .ok (.bool (!eqTB k S L 0 [] [])) w := neqTerm k S L 0 [] [] w
theorem eqTB_tm (x y : Tm) : eqTB x.1 x.2.1 x.2.2 y.1 y.2.1 y.2.2 = decide (x = y) := by
  obtain ⟨k, s, l⟩ := x
  obtain ⟨k', s', l'⟩ := y
  rw [Bool.eq_iff_iff, eqTB_iff]
  simp

theorem isVar_any (v : List UInt8) (k : Int) (S L : List UInt8) (w : World) :
    Calls Tryz.prog 62 #[.agg #[.string ⟨v.toArray⟩, .int .i64 k, .string ⟨S.toArray⟩, .string ⟨L.toArray⟩]] w fun e w' => e = .returned (.bool (!v.isEmpty)) ∧ Below w.heap.size w w' := by
  cases v
  all_goals
    go_enter Tryz.func62, Tryz.ntmps62
    go_wp2
    go_ret
    exact ⟨rfl, balloc _ _⟩

theorem offR_any (x : Nat) (w : World) : Calls Tryz.prog 120 #[.int .i32 x] w fun e w' => e = .returned (.bool (offR x)) ∧ ∃ q, w' = w.drewN q := by
  have fin : Hid (offR x = (decide (x < 97) || decide (122 < x))) := rfl
  by_cases h : x < 97
  · have h' : decide ((x : Int) < 97) = true := by simp; omega
    go_enter Tryz.func120, Tryz.ntmps120
    go_wp2
    go_ret
    exact ⟨ret_bool (by rw [fin.out]; simp [h]), 0, rfl⟩
  · have h' : decide ((x : Int) < 97) = false := by simp; omega
    go_enter Tryz.func120, Tryz.ntmps120
    go_wp2
    go_ret
    exact ⟨ret_bool (by rw [fin.out]; simp [h]; omega), 0, rfl⟩

theorem enters120 : ∀ args w, (callFunc 120 args).run Tryz.prog w = .ok (.enter 120 args) w := enters_of Tryz.func120 (by kernel_rfl) rfl

set_option maxHeartbeats 1000000 in
theorem IsVar_any (v : List UInt8) (w : World) (hv : v.length ≤ maxLen) :
    Calls Tryz.prog 94 #[.string ⟨v.toArray⟩] w fun e w' => e = .returned (.bool (!v.isEmpty && spellV v)) ∧ Below w.heap.size w w' := by
  have H := fun W => Tryz.strings_ContainsFunc 120 #[] enters120 offR ⟨v.toArray⟩ W (fun W' x _ => offR_any x W')
  have e : decide (0 ≤ Lib.idxFunc offR true ⟨v.toArray⟩) = !allB letB v := offAny ⟨v.toArray⟩
  rw [e] at H
  cases v with
  | nil =>
    clear e H
    go_enter Tryz.func94, Tryz.ntmps94
    go_wp2
    go_ret
    exact ⟨rfl, Below.refl _ _⟩
  | cons c r =>
    have fin : Hid (spellV (c :: r) = (decide (r.length + 1 ≤ 10) && allB letB (c :: r))) := rfl
    generalize allB letB (c :: r) = d at *
    clear e
    unfold maxLen at hv
    have hv' : r.length + 1 ≤ 9223372036854775807 := hv
    by_cases h : r.length + 1 ≤ 10
    · have h' : decide ((r.length : Int) + 1 ≤ 10) = true := by simp; omega
      go_enter Tryz.func94, Tryz.ntmps94
      go_wp2_with (go_at_call 119; refine (H _).mono ?_; rintro e w' ⟨rfl, hb⟩)
      go_ret
      exact ⟨ret_bool (by rw [fin.out]; simp [h]), by assumption⟩
    · have h' : decide ((r.length : Int) + 1 ≤ 10) = false := by simp; omega
      clear H
      go_enter Tryz.func94, Tryz.ntmps94
      go_wp2
      go_ret
      exact ⟨ret_bool (by rw [fin.out]; simp [h]), Below.refl _ _⟩

theorem spelledV_any (v : List UInt8) (w : World) (hv : v.length ≤ maxLen) (hne : v ≠ []) :
    Calls Tryz.prog 94 #[.string ⟨v.toArray⟩] w fun e w' => e = .returned (.bool (spellV v)) ∧ Below w.heap.size w w' := by
  have := IsVar_any v w hv
  rw [show (!v.isEmpty) = true by cases v with | nil => exact absurd rfl hne | cons c r => rfl, Bool.true_and] at this
  exact this
end Go.Proofs.YtbacenhgedopjaaGreatDoor

/- match.slotFault, slotsOf, termsOf; slices.Contains at texts. -/
namespace Go.Proofs.YtbacenhgedopjaaGreatDoor
open Go Go.RowKit Go.Proofs
set_option synthInstance.maxSize 1000

attribute [local go_sem] eql_errV neq_errV guard_errV
attribute [local go_sem ↓] neqTermZ

theorem fourbox {w W : World} {T : TypeId} {a0 a1 a2 a3 : Value} (hb : Below (w.alloc (.cells #[a0, a1, a2, a3] T)).heap.size (w.alloc (.cells #[a0, a1, a2, a3] T)) W) :
    W.cell? ⟨w.heap.size, 0, none⟩ = some a0 ∧ W.cell? ⟨w.heap.size, 1, none⟩ = some a1 ∧ W.cell? ⟨w.heap.size, 2, none⟩ = some a2 ∧ W.cell? ⟨w.heap.size, 3, none⟩ = some a3 ∧ w.heap.size < W.heap.size := by
  obtain ⟨h, _⟩ := bcell hb
  have hs := hb.size
  refine ⟨?_, ?_, ?_, ?_, by simp at hs; omega⟩
  all_goals
    rw [h]
    · go_simp
    · simp <;> omega

set_option maxHeartbeats 1000000 in
theorem slotFault_any (s : Sl) (w : World) (hs : fitSl s) :
    Calls Tryz.prog 61 #[valSl s] w fun e w' => e = .returned (errV (slotN s)) ∧ Below w.heap.size w w' := by
  obtain ⟨v, k, S, L⟩ := s
  obtain ⟨hv, hS, hL⟩ := hs
  have HV := fun W => isVar_any v k S L W
  have HC := fun W => Check_any k S L W hS hL
  have HP0 := fun W => spelledV_any v W hv
  unfold valSl
  dsimp only
  cases v with
  | nil =>
    have fin : Hid (slotN ([], k, S, L) = checkN k S L) := rfl
    rw [show (!([] : List UInt8).isEmpty) = false from rfl] at HV
    clear HP0 hv hS hL
    generalize checkN k S L = c at HC fin
    go_enter Tryz.func61, Tryz.ntmps61
    go_wp2_with fail
    refine (HV _).mono ?_
    rintro e w1 ⟨rfl, hb1⟩
    obtain ⟨a0, a1, a2, a3, hz⟩ := fourbox hb1
    go_wp2_with fail
    refine (HC _).mono ?_
    rintro e w2 ⟨rfl, hb2⟩
    go_wp2_with fail
    go_ret
    exact ⟨ret_val (by rw [fin.out]; rfl), bstep (bstep (balloc _ _) hb1) hb2⟩
  | cons ch r =>
    have fin : Hid (slotN (ch :: r, k, S, L) = if spellV (ch :: r) = false then 2 else if eqTB k S L 0 [] [] = true then 0 else 3) := by
      show slotN _ = _
      unfold slotN
      rw [if_neg (by simp)]
      have := eqTB_tm (k, S, L) tmZero
      by_cases hz : (k, S, L) = tmZero
      · rw [decide_eq_true hz] at this
        rw [show eqTB k S L 0 [] [] = true from this]
        simp only [hz, if_true]
      · rw [decide_eq_false hz] at this
        rw [show eqTB k S L 0 [] [] = false from this]
        simp only [hz, if_false, Bool.false_eq_true]
    rw [show (!(ch :: r).isEmpty) = true from rfl] at HV
    have HP := fun W => HP0 W (by simp)
    clear HP0 HC hv hS hL
    generalize spellV (ch :: r) = d at HP fin
    cases d
    · go_enter Tryz.func61, Tryz.ntmps61
      go_wp2_with fail
      refine (HV _).mono ?_
      rintro e w1 ⟨rfl, hb1⟩
      obtain ⟨a0, a1, a2, a3, hz⟩ := fourbox hb1
      go_wp2_with fail
      refine (HP _).mono ?_
      rintro e w2 ⟨rfl, hb2⟩
      go_wp2_with fail
      go_ret
      exact ⟨ret_val (by rw [fin.out]; rfl), bstep (bstep (balloc _ _) hb1) hb2⟩
    · cases hq : eqTB k S L 0 [] []
      all_goals
        go_enter Tryz.func61, Tryz.ntmps61
        go_wp2_with fail
        refine (HV _).mono ?_
        rintro e w1 ⟨rfl, hb1⟩
        obtain ⟨a0, a1, a2, a3, hz⟩ := fourbox hb1
        go_wp2_with fail
        refine (HP _).mono ?_
        rintro e w2 ⟨rfl, hb2⟩
        have b1 := (hb2.cell (World.block_lt_of_cell? w1 _ a1)).trans a1
        have b2 := (hb2.cell (World.block_lt_of_cell? w1 _ a2)).trans a2
        have b3 := (hb2.cell (World.block_lt_of_cell? w1 _ a3)).trans a3
        clear a0 a1 a2 a3
        go_wp2_with fail
        go_ret
        exact ⟨ret_val (by rw [fin.out, hq]; rfl), bstep (bstep (balloc _ _) hb1) hb2⟩

theorem slotsOf_any (p : Pt) (w : World) : Calls Tryz.prog 60 #[valPt p] w fun e w' => e = .returned (valPt p) ∧ Below w.heap.size w w' := by
  unfold valPt
  go_enter Tryz.func60, Tryz.ntmps60
  go_wp2_with fail
  refine bodyPost_ret (v := .agg (encPt p).toArray) (by unfold results; rw [Tryz.results60]; unfold encPt; go_simp) rfl ⟨rfl, ?_⟩
  exact bstep (balloc _ _) (balloc _ _)

theorem termsOf_any (x : Tr) (w : World) : Calls Tryz.prog 123 #[valTr x] w fun e w' => e = .returned (valTr x) ∧ Grew w w' := by
  unfold valTr
  go_enter Tryz.func123, Tryz.ntmps123
  go_wp2_with fail
  refine bodyPost_ret (v := .agg (encTr x).toArray) (by unfold results; rw [Tryz.results123]; unfold encTr; go_simp) rfl ⟨rfl, ?_⟩
  exact (grew_alloc _ _).trans (grew_alloc _ _)

/-! ### texts in a row -/
def encV (v : List UInt8) : Value := .string ⟨v.toArray⟩
def SlV (w : World) (ad : Option Addr) (l : List (List UInt8)) : Prop := l ≠ [] → ∃ b, ad = some ⟨b, 0, none⟩ ∧ ∀ j (hj : j < l.length), w.cell? ⟨b, j, none⟩ = some (encV l[j])
theorem own_v {W : World} {base : Nat} {v : Value} {t : List (List UInt8)} (h : W.ownsRow base 9 1 v t.length (t.map encV)) : ∃ ad cap, v = .slice ad t.length cap ∧ SlV W ad t := by
  have h' := h
  rcases h.2 with ⟨rfl, h0⟩ | ⟨g, cap, cur, rfl, _⟩
  · exact ⟨none, 0, by rw [h0], fun hne => absurd (List.eq_nil_of_length_eq_zero h0) hne⟩
  · refine ⟨some ⟨g, 0, none⟩, cap, rfl, fun _ => ⟨g, rfl, fun j hj => ?_⟩⟩
    have := h'.cells (g := g) rfl j (encV t[j]) (by simp [List.getElem?_eq_getElem hj])
    rw [Addr.add_lit, Nat.zero_add] at this
    exact this
theorem SlV.below {w w' : World} {ad : Option Addr} {l : List (List UInt8)} (h : SlV w ad l) (hb : Below w.heap.size w w') : SlV w' ad l := fun hl => by
  obtain ⟨b, e, r⟩ := h hl
  exact ⟨b, e, fun j hj => (hb.cell (World.block_lt_of_cell? w _ (r j hj))).trans (r j hj)⟩

theorem ContainsV_any (ad : Option Addr) (cap : Nat) (l : List (List UInt8)) (x : List UInt8) (w : World) (h : SlV w ad l) (hn : l.length ≤ 1000000) :
    Calls Tryz.prog 38 #[.slice ad l.length cap, .string ⟨x.toArray⟩] w fun e w' => e = .returned (.bool (decide (x ∈ l))) ∧ w' = w := by
  cases hl : l with
  | nil =>
    simpa using Tryz.slices_Contains_string_empty ad cap ⟨x.toArray⟩ w
  | cons c r =>
    rw [← hl]
    obtain ⟨b, rfl, hr⟩ := h (by rw [hl]; simp)
    refine (Tryz.slices_Contains_string b 0 l.length cap (l.map fun v => ⟨v.toArray⟩) ⟨x.toArray⟩ w (by simp) (by omega) ?_).mono ?_
    · intro j hj
      have hj' : j < l.length := by simpa using hj
      rw [Nat.zero_add, hr j hj']
      simp [encV, List.getD_eq_getElem?_getD, List.getElem?_eq_getElem hj']
    · rintro e w' ⟨rfl, rfl⟩
      refine ⟨ret_bool ?_, rfl⟩
      rw [show l.length = (l.map fun v => (⟨v.toArray⟩ : ByteArray)).length by simp, List.take_length, Bool.eq_iff_iff, Lib.containsS_iff]
      simp only [List.mem_map, decide_eq_true_eq]
      constructor
      · rintro ⟨v, hv, e⟩
        have := congrArg (fun s : ByteArray => s.data.toList) e
        simp at this
        exact this ▸ hv
      · intro hx
        exact ⟨x, hx, rfl⟩
end Go.Proofs.YtbacenhgedopjaaGreatDoor

/- match.bind: which term a variable has; a map whose keys are texts and whose elements are terms. -/
namespace Go.Proofs.YtbacenhgedopjaaGreatDoor
open Go Go.RowKit Go.Proofs Go.Maps
set_option synthInstance.maxSize 1000

/-- what variables have -/
abbrev Env := List (List UInt8 × Tm)
def lookE (E : Env) (v : List UInt8) : Option Tm := E.lookup v
def putEn (E : Env) (v : List UInt8) (x : Tm) : Env := if (lookE E v).isSome then E else E ++ [(v, x)]
def getEn (E : Env) (v : List UInt8) (x : Tm) : Tm := (lookE E v).getD x

theorem lookE_put (E : Env) (v : List UInt8) (x : Tm) (h : lookE E v = none) (u : List UInt8) : lookE (E ++ [(v, x)]) u = if u = v then some x else lookE E u := by
  unfold lookE at *
  induction E with
  | nil =>
    by_cases e : u = v
    · subst e; simp
    · simp only [List.nil_append, List.lookup]
      rw [if_neg e, show (u == v) = false by simpa using e]
  | cons a r ih =>
    obtain ⟨n, y⟩ := a
    simp only [List.cons_append, List.lookup] at h ⊢
    cases hn : (v == n)
    · rw [hn] at h
      cases hu : (u == n)
      · exact ih h
      · have e1 : u = n := by simpa using hu
        have e2 : ¬ v = n := by simpa using hn
        rw [if_neg (show ¬ u = v from fun e => e2 (e.symm.trans e1))]
    · rw [hn] at h; simp at h

/-! ### elements that are terms -/
def encDM (x : Tm) : DataW Unit := .agg [.lit (.int .i64 x.1), .lit (.string x.2.1), .lit (.string x.2.2)]
def termElemM (v : Value) : Option (DataW Unit × List MemPlace) :=
  match v with
  | .agg cs => match cs.toList with
    | [.int .i64 k, .string S, .string L] => some (encDM (k, S.data.toList, L.data.toList), [])
    | _ => none
  | _ => none
theorem termElemM_mk (x : Tm) : termElemM (valTermM x) = some (encDM x, []) := by
  simp [termElemM, valTermM]
theorem encDM_inj {x y : Tm} (h : encDM x = encDM y) : x = y := by
  obtain ⟨a1, a2, a3⟩ := x
  obtain ⟨b1, b2, b3⟩ := y
  simp only [encDM, DataW.agg.injEq, List.cons.injEq, DataW.lit.injEq, Lit.int.injEq, Lit.string.injEq, true_and, and_true] at h
  obtain ⟨rfl, rfl, rfl⟩ := h
  rfl
theorem termElemM_inv {v : Value} {x : Tm} {ps : List MemPlace} (h : termElemM v = some (encDM x, ps)) : v = valTermM x := by
  unfold termElemM at h
  split at h
  · rename_i cs
    split at h
    · rename_i k S L hcs
      simp only [Option.some.injEq, Prod.mk.injEq] at h
      have := encDM_inj h.1
      subst this
      obtain ⟨l, rfl⟩ : ∃ l : List Value, cs = l.toArray := ⟨cs.toList, by simp⟩
      simp at hcs
      subst hcs
      rfl
    · cases h
  · cases h

theorem keyedStr : Keyed Tryz.prog 9 := string_keyed Tryz.underlying9
theorem keyOf_v (v : List UInt8) (hv : v.length ≤ maxLen) : keyOf Tryz.prog 9 (.string ⟨v.toArray⟩) = some (.string v) := by
  have h' : (⟨v.toArray⟩ : ByteArray).size ≤ maxLen := hv
  simp [keyOf, Tryz.underlying9, mapKey, h']
theorem zeroTmV (w : World) : (zeroValue 28).run Tryz.prog w = .ok (valTermM tmZero) w := by kernel_rfl

/-- the map at a block holds what variables have -/
def BoundAt (w : World) (bm : Nat) (E : Env) : Prop :=
  ∃ D : DataW Unit, w.ownsMap Tryz.prog 9 termElemM bm E.length D ∧ ∀ v : List UInt8, v.length ≤ maxLen → Maps.has D (.string v) = (lookE E v).isSome ∧ D.atKey (.string v) (encDM tmZero) = encDM ((lookE E v).getD tmZero)

theorem ownsMap_belowM {H : Type} {R : Value → Option (DataW H × List MemPlace)} {k : TypeId} {w w' : World} {b n : Nat} {D : DataW H} (h : w.ownsMap Tryz.prog k R b n D) (hb : RowKit.Below w.heap.size w w') : w'.ownsMap Tryz.prog k R b n D := by
  obtain ⟨es, clock, hm, r⟩ := h
  have hlt : b < w.heap.size := (Array.getElem?_eq_some_iff.1 hm).1
  exact ⟨es, clock, (hb.block b hlt).trans hm, r⟩
theorem BoundAt.below {w w' : World} {bm : Nat} {E : Env} (h : BoundAt w bm E) (hb : RowKit.Below w.heap.size w w') : BoundAt w' bm E := by
  obtain ⟨D, o, f⟩ := h
  exact ⟨D, ownsMap_belowM o hb, f⟩
theorem BoundAt.lt {w : World} {bm : Nat} {E : Env} (h : BoundAt w bm E) : bm < w.heap.size := by
  obtain ⟨D, ⟨es, clock, hm, r⟩, f⟩ := h
  exact (Array.getElem?_eq_some_iff.1 hm).1
theorem boundAt_made (w : World) : BoundAt (w.alloc (.map #[] 0)) w.heap.size [] :=
  ⟨.map [], World.ownsMap_made _ _ _ _, fun v _ => ⟨by simp [Maps.has_eq, lookE], by simp [DataW.atKey, lookE]⟩⟩

theorem look_bound {bm : Nat} {E : Env} {w : World} (h : BoundAt w bm E) (v : List UInt8) (hv : v.length ≤ maxLen) :
    (Instr.lookup 74 (.map (some bm)) (.string ⟨v.toArray⟩) true).run Tryz.prog w = .ok (.tuple #[valTermM ((lookE E v).getD tmZero), .bool (lookE E v).isSome]) w := by
  obtain ⟨D, o, f⟩ := h
  obtain ⟨u, ps, hrun, hu⟩ := o.look_ok keyedStr Tryz.underlying74 (zeroTmV w) (termElemM_mk tmZero) (keyOf_v v hv)
  rw [(f v hv).2] at hu
  rw [hrun, (f v hv).1, termElemM_inv hu]

theorem wpList_look_bound (w : World) {ops : Array Oper} {rest : List Oper} {o : Oper} {a : Act} {Q : Exit → Act → World → Prop}
    (hg : o.guard = none) (m x : Operand) (hop : o.op = Op.lookup 74 m x true) (bm : Nat) (E : Env) (hm : a.eval m = .map (some bm)) (h : BoundAt w bm E)
    (v : List UInt8) (hv : v.length ≤ maxLen) (hx : a.eval x = .string ⟨v.toArray⟩) (y : Tm) (b : Bool) (hy : (lookE E v).getD tmZero = y) (hb : (lookE E v).isSome = b)
    (hK : wpList Tryz.prog ops Q rest (a.put o.dst (.tuple #[.agg #[.int .i64 y.1, .string ⟨y.2.1.toArray⟩, .string ⟨y.2.2.toArray⟩], .bool b])) w) : wpList Tryz.prog ops Q (o :: rest) a w := by
  refine wpList_plain hg fun K' hK' => ?_
  have hrun := look_bound h v hv
  rw [hy, hb] at hrun
  unfold Oper.wp
  simp [execOp, hop, hm, hx, hrun, Result.andThen]
  exact hK' _ _ hK

/-- one more variable -/
theorem bound_put {E : Env} {v : List UInt8} {x : Tm} {D : DataW Unit} (hv : v.length ≤ maxLen) (hn : lookE E v = none) (m1 : IsMap D)
    (f : ∀ v : List UInt8, v.length ≤ maxLen → Maps.has D (.string v) = (lookE E v).isSome ∧ D.atKey (.string v) (encDM tmZero) = encDM ((lookE E v).getD tmZero)) :
    ∀ u : List UInt8, u.length ≤ maxLen → Maps.has (D.put (.string v) (encDM x)) (.string u) = (lookE (E ++ [(v, x)]) u).isSome ∧ (D.put (.string v) (encDM x)).atKey (.string u) (encDM tmZero) = encDM ((lookE (E ++ [(v, x)]) u).getD tmZero) := fun u hu => by
  have hk := keyedStr.key (keyOf_v v hv)
  rw [lookE_put E v x hn u]
  by_cases e : u = v
  · subst e
    rw [Maps.has_put_same m1 hk, Maps.atKey_put_same m1 hk, if_pos rfl]
    exact ⟨rfl, rfl⟩
  · have hne : (Lit.string u) ≠ (Lit.string v) := fun e' => e (by simpa using e')
    rw [Maps.has_put_other hne, Maps.atKey_put_other hne, if_neg e]
    exact f u hu

theorem grownBy_below {w w' : World} {r : Option Nat} (hb : RowKit.Below w.heap.size w w') : w.grownBy w' r := ⟨hb.os, hb.tape, hb.output, hb.size, fun i hi _ => hb.block i hi⟩
theorem grownBy_trans {a b c : World} {r : Option Nat} (h : a.grownBy b r) (k : b.grownBy c r) : a.grownBy c r :=
  ⟨k.os.trans h.os, k.tape.trans h.tape, k.output.trans h.output, Nat.le_trans h.size k.size, fun i hi hr => (k.block i (Nat.lt_of_lt_of_le hi h.size) hr).trans (h.block i hi hr)⟩

theorem grown_far {W w1 : World} {bm b : Nat} (h : W.grownBy w1 (some bm)) (hb : b < W.heap.size) (hne : b ≠ bm) (o : Nat) : w1.cell? ⟨b, o, none⟩ = W.cell? ⟨b, o, none⟩ ∧ w1.frozen? ⟨b, o, none⟩ = W.frozen? ⟨b, o, none⟩ := by
  have e := h.block b hb (fun e => hne (by simpa using e))
  refine ⟨World.cell?_of_block (w := W) e, ?_⟩
  simp only [World.frozen?]
  rw [e]
theorem grown_mid {w W w1 w2 : World} {bm : Nat} (h1 : RowKit.Below w.heap.size w W) (h2 : W.grownBy w1 (some bm)) (h3 : RowKit.Below w.heap.size w1 w2) : w.grownBy w2 (some bm) :=
  ⟨h3.os.trans (h2.os.trans h1.os), h3.tape.trans (h2.tape.trans h1.tape), h3.output.trans (h2.output.trans h1.output), Nat.le_trans (Nat.le_trans h1.size h2.size) h3.size,
    fun i hi hr => (h3.block i hi).trans ((h2.block i (Nat.lt_of_lt_of_le hi h1.size) hr).trans (h1.block i hi))⟩
theorem BoundAt.far {w w' : World} {bm B : Nat} {E : Env} (h : BoundAt w bm E) (hb : RowKit.Below B w w') (hB : bm < B) : BoundAt w' bm E := by
  obtain ⟨D, ⟨es, clock, hm, r⟩, f⟩ := h
  exact ⟨D, ⟨es, clock, (hb.block bm hB).trans hm, r⟩, f⟩

set_option maxHeartbeats 2000000 in
set_option maxRecDepth 100000 in
theorem bind_any (bm : Nat) (E : Env) (v : List UInt8) (x : Tm) (w : World) (h : BoundAt w bm E) (hv : v.length ≤ maxLen) (hE : E.length ≤ 1000) :
    Calls Tryz.prog 124 #[.map (some bm), .string ⟨v.toArray⟩, valTermM x] w fun e w' => e = .returned (valTermM (getEn E v x)) ∧ BoundAt w' bm (putEn E v x) ∧ w.grownBy w' (some bm) := by
  have hlt := h.lt
  have Hb : Hid (BoundAt w bm E) := h
  clear h
  cases hl : lookE E v with
  | some y =>
    have e1 : getEn E v x = y := by simp [getEn, hl]
    have e2 : putEn E v x = E := by simp [putEn, hl]
    rw [e1, e2]
    clear e1 e2
    have Hl : Hid (lookE E v = some y) := hl
    clear hl
    unfold valTermM
    go_enter Tryz.func124, Tryz.ntmps124
    go_wp2_with (first
      | (at_lookup; refine wpList_look_bound _ rfl _ _ rfl bm E rfl ((Hb.out.below (balloc _ _)).below (balloc _ _)) v hv rfl y true (by rw [Hl.out]; rfl) (by rw [Hl.out]; rfl) ?_))
    have hB : RowKit.Below w.heap.size w _ := bstep (bstep (balloc w (.cells #[.int .i64 x.1, .string ⟨x.2.1.toArray⟩, .string ⟨x.2.2.toArray⟩] 28)) (balloc _ (.cells #[.int .i64 y.1, .string ⟨y.2.1.toArray⟩, .string ⟨y.2.2.toArray⟩] 28))) (balloc _ (.cells #[.int .i64 y.1, .string ⟨y.2.1.toArray⟩, .string ⟨y.2.2.toArray⟩] 28))
    exact bodyPost_ret (v := .agg #[.int .i64 y.1, .string ⟨y.2.1.toArray⟩, .string ⟨y.2.2.toArray⟩]) (by unfold results; rw [Tryz.results124]; go_simp) rfl ⟨rfl, Hb.out.below hB, grownBy_below hB⟩
  | none =>
    have e1 : getEn E v x = x := by simp [getEn, hl]
    have e2 : putEn E v x = E ++ [(v, x)] := by simp [putEn, hl]
    rw [e1, e2]
    clear e1 e2
    have Hl : Hid (lookE E v = none) := hl
    clear hl
    unfold valTermM
    have helem := termElemM_mk x
    unfold valTermM at helem
    obtain ⟨D, hown0, hf0⟩ := Hb.out
    have hown : Hid (w.ownsMap Tryz.prog 9 termElemM bm E.length D) := hown0
    have hf : Hid (∀ v : List UInt8, v.length ≤ maxLen → Maps.has D (.string v) = (lookE E v).isSome ∧ D.atKey (.string v) (encDM tmZero) = encDM ((lookE E v).getD tmZero)) := hf0
    have hkey := keyOf_v v hv
    clear hown0 hf0
    go_enter Tryz.func124, Tryz.ntmps124
    go_wp2_with (first
      | (at_lookup; refine wpList_look_bound _ rfl _ _ rfl bm E rfl ((Hb.out.below (balloc _ _)).below (balloc _ _)) v hv rfl tmZero false (by rw [Hl.out]; rfl) (by rw [Hl.out]; rfl) ?_)
      | (at_mapUpdate; refine wpList_mapUpdate_own _ rfl _ _ _ 74 rfl 9 28 keyedStr Tryz.underlying74 (termElemM) bm E.length _ rfl (((hown.out.alloc _).alloc _).alloc _) (by unfold maxLen; omega) _ _ _ rfl rfl hkey _ [] helem ?_; intro w1 hown1 hgrow1
         obtain ⟨c0, _⟩ := grown_far hgrow1 (b := w.heap.size) (by simp; omega) (by omega) 0
         obtain ⟨c1, _⟩ := grown_far hgrow1 (b := w.heap.size) (by simp; omega) (by omega) 1
         obtain ⟨c2, _⟩ := grown_far hgrow1 (b := w.heap.size) (by simp; omega) (by omega) 2
         obtain ⟨d0, f0⟩ := grown_far hgrow1 (b := w.heap.size + 1) (by simp) (by omega) 0
         obtain ⟨d1, f1⟩ := grown_far hgrow1 (b := w.heap.size + 1) (by simp) (by omega) 1
         obtain ⟨d2, f2⟩ := grown_far hgrow1 (b := w.heap.size + 1) (by simp) (by omega) 2
         have Hg : Hid (World.grownBy _ w1 (some bm)) := hgrow1
         have Ho : Hid (w1.ownsMap _ _ _ _ _ _) := hown1
         clear hgrow1 hown1))
    have hB0 : RowKit.Below w.heap.size w _ := bstep (bstep (balloc w (.cells #[.int .i64 x.1, .string ⟨x.2.1.toArray⟩, .string ⟨x.2.2.toArray⟩] 28)) (balloc _ (.cells #[.int .i64 0, .string ⟨#[]⟩, .string ⟨#[]⟩] 28))) (balloc _ (.cells #[.int .i64 0, .string ⟨#[]⟩, .string ⟨#[]⟩] 28))
    have hB3 : RowKit.Below w.heap.size w1 _ := (((RowKit.Below.refl w.heap.size w1).setCell (p := ⟨w.heap.size + 1, 0, none⟩) (by show w.heap.size ≤ w.heap.size + 1; omega) (.int .i64 x.1)).setCell (p := ⟨w.heap.size + 1, 1, none⟩) (by show w.heap.size ≤ w.heap.size + 1; omega) (.string ⟨x.2.1.toArray⟩)).setCell (p := ⟨w.heap.size + 1, 2, none⟩) (by show w.heap.size ≤ w.heap.size + 1; omega) (.string ⟨x.2.2.toArray⟩)
    have hfin : BoundAt w1 bm (E ++ [(v, x)]) := ⟨_, by rw [List.length_append]; exact Ho.out, bound_put hv Hl.out hown.out.isMap hf.out⟩
    exact bodyPost_ret (v := .agg #[.int .i64 x.1, .string ⟨x.2.1.toArray⟩, .string ⟨x.2.2.toArray⟩]) (by unfold results; rw [Tryz.results124]; go_simp) rfl ⟨rfl, hfin.far hB3 hlt, grown_mid hB0 Hg.out hB3⟩
end Go.Proofs.YtbacenhgedopjaaGreatDoor

/- match.Vars: what is wrong with a pattern, and which variables it has. -/
namespace Go.Proofs.YtbacenhgedopjaaGreatDoor
open Go Go.RowKit Go.Proofs
set_option synthInstance.maxSize 1000

attribute [local go_sem] eql_errV neq_errV guard_errV

def slotK (p : Pt) (k : Nat) : Sl := if k = 0 then p.1 else if k = 1 then p.2.1 else p.2.2
def vK (p : Pt) (k : Nat) : List (List UInt8) := if k = 0 then [] else if k = 1 then addV [] p.1 else if k = 2 then addV (addV [] p.1) p.2.1 else varsL p
def restN (p : Pt) (k : Nat) : Int := if k = 0 then varsN p else if k = 1 then (if slotN p.2.1 = 0 then slotN p.2.2 else slotN p.2.1) else if k = 2 then slotN p.2.2 else 0
theorem restN_step (p : Pt) (k : Nat) (hk : k < 3) : restN p k = if slotN (slotK p k) = 0 then restN p (k + 1) else slotN (slotK p k) := by
  rcases (by omega : k = 0 ∨ k = 1 ∨ k = 2) with rfl | rfl | rfl
  · simp [restN, slotK, varsN]
  · simp [restN, slotK]
  · simp [restN, slotK]
theorem vK_step (p : Pt) (k : Nat) (hk : k < 3) : vK p (k + 1) = addV (vK p k) (slotK p k) := by
  rcases (by omega : k = 0 ∨ k = 1 ∨ k = 2) with rfl | rfl | rfl
  · simp [vK, slotK]
  · simp [vK, slotK]
  · simp [vK, slotK, varsL]
theorem addV_len (l : List (List UInt8)) (s : Sl) : (addV l s).length ≤ l.length + 1 := by
  unfold addV
  repeat' split
  all_goals simp
theorem vK_len (p : Pt) (k : Nat) (hk : k ≤ 3) : (vK p k).length ≤ k := by
  have h0 : (vK p 0).length ≤ 0 := by simp [vK]
  have h1 := addV_len (vK p 0) (slotK p 0)
  have h2 := addV_len (vK p 1) (slotK p 1)
  have h3 := addV_len (vK p 2) (slotK p 2)
  rw [← vK_step p 0 (by omega)] at h1
  rw [← vK_step p 1 (by omega)] at h2
  rw [← vK_step p 2 (by omega)] at h3
  have g1 : (vK p 1).length ≤ (vK p 0).length + 1 := h1
  have g2 : (vK p 2).length ≤ (vK p 1).length + 1 := h2
  have g3 : (vK p 3).length ≤ (vK p 2).length + 1 := h3
  clear h1 h2 h3
  rcases (by omega : k = 0 ∨ k = 1 ∨ k = 2 ∨ k = 3) with rfl | rfl | rfl | rfl <;> omega
theorem fit_slotK {p : Pt} (h : fitPt p) (k : Nat) : fitSl (slotK p k) := by
  unfold slotK
  repeat' split
  · exact h.1
  · exact h.2.1
  · exact h.2.2

theorem indexSl (p : Pt) (k : Nat) (hk : k < 3) (w : World) : (Instr.index 107 (valPt p) (.int .i64 k)).run Tryz.prog w = .ok (valSl (slotK p k)) w := by
  rcases (by omega : k = 0 ∨ k = 1 ∨ k = 2) with rfl | rfl | rfl <;> kernel_rfl

theorem infoStrV : (Tryz.prog.info? 9).map (fun i => (i.zero, i.size, i.bytes)) = some (some (.string ByteArray.empty), 1, 16) := by kernel_rfl

theorem ownsRow_belowV {W W' : World} {base : Nat} {e : TypeId} {sz : Nat} {v : Value} {n : Nat} {cs : List Value} (h : W.ownsRow base e sz v n cs) (hb : RowKit.Below W.heap.size W W') : W'.ownsRow base e sz v n cs :=
  h.kept (row := none) ⟨hb.os, hb.tape, hb.output, hb.size, fun i hi _ => hb.block i hi⟩ (Classical.em _)

/-- what Vars tells -/
def VarsAns (p : Pt) (m : List (List UInt8)) : Prop := m = if varsN p = 0 then varsL p else []

set_option maxHeartbeats 4000000 in
set_option maxRecDepth 100000 in
theorem VarsO_any (p : Pt) (w : World) (hp : fitPt p) :
    Calls Tryz.prog 37 #[valPt p] w fun e w' => Below w.heap.size w w' ∧ ∃ m ad cap, e = .returned (.tuple #[.slice ad m.length cap, errV (varsN p)]) ∧ w'.ownsRow w.heap.size 9 1 (.slice ad m.length cap) m.length (m.map encV) ∧ VarsAns p m := by
  have HS := slotsOf_any p
  have Hp : Hid (fitPt p) := hp
  obtain ⟨i0, hi0, hz⟩ := Option.map_eq_some_iff.1 infoStrV
  simp only [Prod.mk.injEq] at hz
  obtain ⟨hz0, hz1, hz2⟩ := hz
  clear hp
  have HX : Hid (∀ k : Nat, k < 3 → ∀ W, (Instr.index 107 (valPt p) (.int .i64 k)).run Tryz.prog W = .ok (valSl (slotK p k)) W) := indexSl p
  unfold valPt at HS HX ⊢
  have hA : Hid (∀ m, (m = if varsN p = 0 then varsL p else []) → VarsAns p m) := fun m h => h
  generalize VarsAns p = A at *
  go_enter Tryz.func37, Tryz.ntmps37
  go_wp2_with fail
  refine (HS _).mono ?_
  rintro e w1 ⟨rfl, hb1⟩
  have hB1 := bstep (balloc _ _) hb1
  go_wp2_with fail
  go_loopw [4, 10] (fun v i wr => ∃ k : Nat, k ≤ 3 ∧ i = .int .i64 k ∧ Hid (wr.ownsRow w.heap.size 9 1 v (vK p k).length ((vK p k).map encV)) ∧ Hid (varsN p = restN p k) ∧ Below w.heap.size w wr) (fun _ i wr => 3 - (intOf i).toNat)
  case atStart => exact ⟨0, by omega, rfl, World.ownsRow_nil _ _ _ _, rfl, hB1⟩
  case round =>
    obtain ⟨k, hk, rfl, hown, hrest, hbr⟩ := hrel
    by_cases hlt : k < 3
    · have hix := HX.out k hlt
      have hst : Hid _ := restN_step p k hlt
      have hvs : Hid _ := vK_step p k hlt
      have hvl : (vK p k).length ≤ 3 := Nat.le_trans (vK_len p k hk) hk
      have hfs : Hid (fitSl (slotK p k)) := fit_slotK Hp.out k
      have HF := fun W => slotFault_any (slotK p k) W hfs.out
      have i1 : (k : Int) < 3 := by omega
      have hzr := hbr.size
      generalize slotK p k = s at *
      obtain ⟨v, kk, S, L⟩ := s
      have HV := fun W => isVar_any v kk S L W
      unfold valSl at HF hix
      dsimp only at HF hix
      cases hc : (slotN (v, kk, S, L) == 0)
      · go_wp2_with fail
        refine (HF _).mono ?_
        rintro e w2 ⟨rfl, hb2⟩
        go_wp2_with fail
        have hne : varsN p = slotN (v, kk, S, L) := by rw [hrest.out, hst.out, if_neg (by simpa using hc)]
        simp at hc
        exact bodyPost_ret (v := .tuple #[.slice none 0 0, errV (slotN (v, kk, S, L))]) (by simp [results, Tryz.results37, go_sem]) rfl ⟨bstep (bstep hbr (balloc _ _)) hb2, [], none, 0, by rw [hne]; rfl, World.ownsRow_nil _ _ _ _, hA.out _ (by rw [hne, if_neg hc])⟩
      · have hr2 : Hid (varsN p = restN p (k + 1)) := by show _ = _; rw [hrest.out, hst.out, if_pos (by simpa using hc)]
        clear hst hrest hfs
        cases hve : v.isEmpty
        rotate_left
        · obtain rfl : v = [] := by simpa using hve
          have hv2 : Hid (vK p (k + 1) = vK p k) := hvs.out
          rw [show (!([] : List UInt8).isEmpty) = false from rfl] at HV
          go_wp2_with fail
          refine (HF _).mono ?_
          rintro e w2 ⟨rfl, hb2⟩
          obtain ⟨a0, a1, a2, a3, hz⟩ := fourbox hb2
          go_wp2_with fail
          refine (HV _).mono ?_
          rintro e w3 ⟨rfl, hb3⟩
          go_wp2_with fail
          go_roundw
          case rel =>
            refine ⟨k + 1, by omega, by go_num, ?_, hr2, bstep (bstep (bstep hbr (balloc _ _)) hb2) hb3⟩
            show World.ownsRow _ _ _ _ _ _ _
            rw [hv2.out]
            exact ownsRow_belowV (ownsRow_belowV (hown.out.alloc _) hb2) hb3
          case measure => simp [intOf]; omega
        · have hvn : Hid (¬ v = []) := by show ¬ v = []; simpa using hve
          rw [hve, show (!false) = true from rfl] at HV
          clear hve
          have hvs2 : Hid (vK p (k + 1) = if v ∈ vK p k then vK p k else vK p k ++ [v]) := by
            show _ = _
            rw [hvs.out]
            exact if_neg hvn.out
          obtain ⟨ad, cap, rfl, hsl0⟩ := own_v hown.out
          have hsl : Hid (SlV wr ad (vK p k)) := hsl0
          have HC := fun W h => ContainsV_any ad cap (vK p k) v W h (by omega)
          clear hvs hsl0
          generalize ht : vK p (k + 1) = t1 at *
          have Ht : Hid _ := ht
          generalize vK p k = t0 at *
          clear ht
          cases hd : decide (v ∈ t0)
          · have hv2 : Hid (t1 = t0 ++ [v]) := by show _ = _; rw [hvs2.out, if_neg (by simpa using hd)]
            rw [hd] at HC
            go_wp2_with fail
            refine (HF _).mono ?_
            rintro e w2 ⟨rfl, hb2⟩
            obtain ⟨a0, a1, a2, a3, hz⟩ := fourbox hb2
            go_wp2_with fail
            refine (HV _).mono ?_
            rintro e w3 ⟨rfl, hb3⟩
            have b0 := (hb3.cell (World.block_lt_of_cell? w2 _ a0)).trans a0
            have hB3 := bstep (bstep (bstep hbr (balloc _ _)) hb2) hb3
            have hz3 := hB3.size
            have hrow3 : Hid (w3.ownsRow w.heap.size 9 1 _ t0.length (t0.map encV)) := ownsRow_belowV (ownsRow_belowV (hown.out.alloc _) hb2) hb3
            clear a0 a1 a2 a3
            go_wp2_with fail
            refine (HC _ (((hsl.out.below (balloc _ _)).below hb2).below hb3)).mono ?_
            rintro e w4 ⟨rfl, rfl⟩
            clear hown hsl
            go_wp2_with (at_builtin; refine wpList_append_own _ rfl _ _ 23 rfl w.heap.size 9 i0 (.string ByteArray.empty) 1 16 Tryz.underlying23 hi0 hz0 hz1 hz2 rfl (by decide) _ _ _ rfl (hrow3.out.alloc _) ⟨w4.heap.size, 0, none⟩ 1 1 [encV v] rfl rfl ?c1 ?c2 ?c3 ?c4 ?c5 ?_)
            case c1 =>
              intro j u hj
              have h1 : j < 1 := (List.getElem?_eq_some_iff.1 hj).1
              obtain rfl : j = 0 := by omega
              simp [encV] at hj
              subst hj
              rw [Addr.add_lit]
              go_simp
            case c2 => intro u hu; rw [List.mem_singleton.1 hu]; rfl
            case c3 => unfold maxLen; omega
            case c4 => omega
            case c5 => simp; omega
            intro v' w9 hown' hgrow _
            have hbel := (hB3.alloc hz3 (.cells #[encV v] 9)).grown hgrow (by simp; omega) (fun k hk => (hrow3.out.lt k hk).1)
            go_wp2_with fail
            go_roundw
            case rel =>
              refine ⟨k + 1, by omega, by go_num, ?_, hr2, hbel⟩
              show World.ownsRow _ _ _ _ _ _ _
              rw [Ht.out, hv2.out, List.length_append, List.map_append]
              exact hown'
            case measure => simp [intOf]; omega
          · have hv2 : Hid (t1 = t0) := by show _ = _; rw [hvs2.out, if_pos (by simpa using hd)]
            rw [hd] at HC
            go_wp2_with fail
            refine (HF _).mono ?_
            rintro e w2 ⟨rfl, hb2⟩
            obtain ⟨a0, a1, a2, a3, hz⟩ := fourbox hb2
            go_wp2_with fail
            refine (HV _).mono ?_
            rintro e w3 ⟨rfl, hb3⟩
            have b0 := (hb3.cell (World.block_lt_of_cell? w2 _ a0)).trans a0
            clear a0 a1 a2 a3
            go_wp2_with fail
            refine (HC _ (((hsl.out.below (balloc _ _)).below hb2).below hb3)).mono ?_
            rintro e w' ⟨rfl, rfl⟩
            go_wp2_with fail
            go_roundw
            case rel =>
              refine ⟨k + 1, by omega, by go_num, ?_, hr2, bstep (bstep (bstep hbr (balloc _ _)) hb2) hb3⟩
              show World.ownsRow _ _ _ _ _ _ _
              rw [Ht.out, hv2.out]
              exact ownsRow_belowV (ownsRow_belowV (hown.out.alloc _) hb2) hb3
            case measure => simp [intOf]; omega
    · obtain rfl : k = 3 := by omega
      obtain ⟨ad, cap, rfl, hsl⟩ := own_v hown.out
      have h0 : varsN p = 0 := hrest.out
      have hvw : vK p 3 = varsL p := rfl
      have how := hown.out
      rw [hvw] at how
      have Hsl : Hid (wr.ownsRow w.heap.size 9 1 (.slice ad (varsL p).length cap) (varsL p).length ((varsL p).map encV)) := how
      have H0 : Hid (varsN p = 0) := h0
      rw [hvw]
      clear hown hrest hvw hsl h0 how
      go_wp2_with fail
      exact bodyPost_ret (v := .tuple #[.slice ad (varsL p).length cap, .nilIface]) (by simp [results, Tryz.results37, go_sem]) rfl ⟨hbr, _, ad, cap, by rw [H0.out]; rfl, Hsl.out, hA.out _ (by rw [H0.out]; rfl)⟩
theorem Vars_any (p : Pt) (w : World) (hp : fitPt p) :
    Calls Tryz.prog 37 #[valPt p] w fun e w' => Below w.heap.size w w' ∧ ∃ m ad cap, e = .returned (.tuple #[.slice ad m.length cap, errV (varsN p)]) ∧ SlV w' ad m ∧ VarsAns p m := by
  refine (VarsO_any p w hp).mono ?_
  rintro e w' ⟨hb, m, ad, cap, he, ho, ha⟩
  obtain ⟨ad', cap', e2, hs⟩ := own_v ho
  injection e2 with e3 _ _
  subst e3
  exact ⟨hb, m, ad, cap, he, hs, ha⟩
end Go.Proofs.YtbacenhgedopjaaGreatDoor
