import Derived.Test.YtcdbcoaiadipjaaGreatDoorMA0x2
import Derived.Test.YtcdbcoaiadipjaaGreatDoorMA0x1
import Derived.Test.YtcdbcoaiadipjaaGreatDoorMA0x0
import Derived.Deep.Upon
import Derived.Deep.Draws
import Derived.RegionTactic

/- Sorted and Sort: what they tell of any list, and what comes out. -/
namespace Go.Proofs.YtcdbcoaiadipjaaGreatDoor
open Go Go.RowKit Go.Proofs Go.Sort Go.Lib
set_option synthInstance.maxSize 1000

attribute [local go_sem] eql_errV neq_errV guard_errV

/-- a slice holds a list: of an empty one nothing is said -/
def SlT (w : World) (ad : Option Addr) (l : List Tr) : Prop := l ≠ [] → ∃ b o, ad = some ⟨b, o, none⟩ ∧ RowR w b o l
theorem SlT.below {w w' : World} {ad : Option Addr} {l : List Tr} (h : SlT w ad l) (hb : RowKit.Below w.heap.size w w') : SlT w' ad l := fun hl => by
  obtain ⟨b, o, e, r⟩ := h hl
  exact ⟨b, o, e, r.below hb⟩
theorem SlT.at {w : World} {ad : Option Addr} {l : List Tr} (h : SlT w ad l) (i : Nat) (hi : i < l.length) : ∃ b o, ad = some ⟨b, o, none⟩ ∧ RowR w b o l :=
  h (fun e => by rw [e] at hi; simp at hi)

def chkAt (l : List Tr) (i : Nat) : Int := if h : i < l.length then chkTr l[i] else 0
theorem chkAt_eq (l : List Tr) (i : Nat) (h : i < l.length) : chkAt l i = chkTr l[i] := dif_pos h

theorem enters73 : ∀ args w, (callFunc 73 args).run Tryz.prog w = .ok (.enter 73 args) w := enters_of Tryz.func73 (by kernel_rfl) rfl
theorem enters75 : ∀ args w, (callFunc 75 args).run Tryz.prog w = .ok (.enter 75 args) w := enters_of Tryz.func75 (by kernel_rfl) rfl

theorem keepSlI {bl : Nat} {ad : Option Addr} {cap : Nat} {l : List Tr} : ∀ W W', (W.cell? ⟨bl, 0, none⟩ = some (.slice ad l.length cap) ∧ SlT W ad l) → RowKit.Below W.heap.size W W' → (W'.cell? ⟨bl, 0, none⟩ = some (.slice ad l.length cap) ∧ SlT W' ad l) :=
  fun W _ h hb => ⟨(hb.cell (World.block_lt_of_cell? W _ h.1)).trans h.1, h.2.below hb⟩

theorem faultSorted_any (ad : Option Addr) (cap bl : Nat) (l : List Tr) (w : World) (hbox : w.cell? ⟨bl, 0, none⟩ = some (.slice ad l.length cap)) (h : SlT w ad l) (hfit : ∀ x ∈ l, fitTr x) (hn : l.length ≤ 9223372036854775807) :
    Calls Tryz.prog 72 #[.slice ad l.length cap, .func (.func 73) #[] #[.pointer (some ⟨bl, 0, none⟩)]] w fun e w' => e = .returned (errV (faultN (stepN l) l.length)) ∧ RowKit.Below w.heap.size w w' :=
  firstFault_any ad l.length cap 73 bl (stepN l) (fun W => W.cell? ⟨bl, 0, none⟩ = some (.slice ad l.length cap) ∧ SlT W ad l) w hn enters73 ⟨hbox, h⟩ keepSlI
    (fun h200 i W hi hI => by
      obtain ⟨b, o, rfl, hr⟩ := hI.2.at i hi
      exact sortedFault_any b o cap bl l i W hi h200 (hfit _ (List.getElem_mem hi)) hI.1 hr)

/-- what Sorted tells of a list -/
def sortedN (l : List Tr) : Int := faultN (stepN l) l.length
theorem Sorted_any (ad : Option Addr) (cap : Nat) (l : List Tr) (w : World) (h : SlT w ad l) (hfit : ∀ x ∈ l, fitTr x) (hn : l.length ≤ 9223372036854775807) :
    Calls Tryz.prog 46 #[.slice ad l.length cap] w fun e w' => e = .returned (errV (sortedN l)) ∧ RowKit.Below w.heap.size w w' := by
  have H := fun W hb hs => faultSorted_any ad cap w.heap.size l W hb hs hfit hn
  have Hs : Hid (SlT w ad l) := h
  clear h
  go_enter Tryz.func46, Tryz.ntmps46
  go_wp2_with fail
  refine (H _ (by go_simp) (Hs.out.below (balloc _ _))).mono ?_
  rintro e w1 ⟨rfl, hb1⟩
  go_wp2_with fail
  go_ret
  exact ⟨rfl, bstep (balloc _ _) hb1⟩

/-! ### the sort -/
theorem flat_get (l : List Tr) (j : Nat) (hj : j < l.length * 9) : (cellsT l)[j]? = some (flatK encTr 9 l.toArray)[j]! := by
  have hi : j / 9 < l.length := by omega
  have h1 := cellsT_at l (j / 9) hi (j % 9) (by omega)
  rw [show j / 9 * 9 + j % 9 = j by omega] at h1
  rw [h1, get_flatK _ _ _ j (by simpa using hj), List.getElem?_eq_getElem (by rw [encTr_len]; omega)]
  have e : l.toArray[j / 9]! = l[j / 9] := by rw [getElem!_pos l.toArray (j / 9) (by simpa using hi)]; simp
  rw [e, getElem!_pos (encTr l[j / 9]) (j % 9) (by rw [encTr_len]; omega)]

theorem rowR_holds {w : World} {b o : Nat} {l : List Tr} (h : HoldsK encTr 9 w b o l.toArray) : RowR w b o l := fun j v hv => by
  have hj : j < l.length * 9 := by
    have := (List.getElem?_eq_some_iff.1 hv).1
    rwa [cellsT_len] at this
  rw [flat_get l j hj] at hv
  rw [(h j (by simpa using hj)).1]
  exact hv
theorem RowR.prefix {w : World} {b o : Nat} {l m : List Tr} (h : RowR w b o (l ++ m)) : RowR w b o l := fun j v hv => h j v (by
  simp only [cellsT, List.flatMap_append]
  rw [List.getElem?_append_left (by exact (List.getElem?_eq_some_iff.1 hv).1)]
  exact hv)

theorem holds_new (w : World) (l : List Tr) (zs : Array Value) (e : TypeId) : HoldsK encTr 9 (w.alloc (.cells ((cellsT l).toArray ++ zs) e)) w.heap.size 0 l.toArray := fun j hj => by
  have hj' : j < l.length * 9 := by simpa using hj
  have hl : j < (cellsT l).length := by rw [cellsT_len]; exact hj'
  have h1 := flat_get l j hj'
  refine ⟨?_, by simp⟩
  simp only [World.cell?, World.alloc, Array.getElem?_push_size, Nat.zero_add, Option.isSome_none, Bool.false_eq_true, if_false, id_eq]
  rw [Array.getElem?_append_left (by simpa using hl), List.getElem?_toArray, h1]

/-! ### nothing to sort -/
/-! ### Sort -/
/-- what Sort tells of a list -/
def sortN (l : List Tr) : Int := faultN (chkAt l) l.length

theorem infoTr : (Tryz.prog.info? 58).map (fun i => (i.zero, i.size, i.bytes)) = some (some (.agg (encTr zeroTr).toArray), 9, 120) := by kernel_rfl

/-- the sort's world: nothing older than the row has turned -/
theorem below_sort {w : World} {b n B : Nat} {d : Array Tr} {os : Array Obj} (hB : B ≤ b) (hBw : B ≤ w.heap.size) : RowKit.Below B w (sortWorldK encTr 9 w b 0 n d os) := by
  refine ⟨rfl, rfl, rfl, ?_, fun k hk => ?_⟩
  · show w.heap.size ≤ (_ ++ os).size
    simp [putRowK, putRow, mapBlock, Sort.ahead]
  · show (_ ++ os)[k]? = _
    rw [Array.getElem?_append_left (by simp [putRowK, putRow, mapBlock, Sort.ahead]; omega)]
    simp only [putRowK, putRow, mapBlock, Sort.ahead, Array.getElem?_modify]
    rw [if_neg (by omega)]
theorem below_put {w : World} {b o q B : Nat} {d : Array Tr} (hB : B ≤ b) : RowKit.Below B w (putRowK encTr 9 (Sort.ahead w q) b o d) := by
  refine ⟨rfl, rfl, rfl, by simp [putRowK, putRow, mapBlock, Sort.ahead], fun k hk => ?_⟩
  simp only [putRowK, putRow, mapBlock, Sort.ahead, Array.getElem?_modify]
  rw [if_neg (by omega)]

/-- an append whose run is known -/
theorem wpList_append_eq {P : Program} {w w' : World} {ops : Array Oper} {rest : List Oper} {o : Oper} {a : Act} {Q : Exit → Act → World → Prop} {v x y : Value} (hgd : o.guard = none) (s z : Operand) (t : TypeId)
    (ho : o.op = .call { callee := .builtin .append, args := #[s, z], argTypes := #[t, t] }) (hs : a.eval s = x) (hx : a.eval z = y) (hrun : (Builtin.append_ #[t, t] o.type #[x, y]).run P w = .ok v w')
    (h : wpList P ops Q rest (a.put o.dst v) w') : wpList P ops Q (o :: rest) a w := by
  refine wpList_plain hgd fun K hK => ?_
  unfold Oper.wp
  simp [execOp, ho, resolve, invoke, builtin, hs, hx, hrun, Result.andThen]
  exact hK _ _ h

theorem append_nothing (ad : Option Addr) (cap : Nat) (W : World) (ty : TypeId) : (Builtin.append_ #[22, 22] ty #[.slice none 0 0, .slice ad 0 cap]).run Tryz.prog W = .ok (.slice none 0 0) W := by
  obtain ⟨i, hi, hz⟩ := Option.map_eq_some_iff.1 infoTr
  cases ad with
  | none => simp [Builtin.append_, run_underlying Tryz.underlying22, sizeOf, typeInfo, hi, Builtin.lenOf, run_firstCells_none]
  | some a =>
    have hf := run_firstCells_some (P := Tryz.prog) W i.size 0 a 0 cap [] (by simp) (by simp)
    simp [Builtin.append_, run_underlying Tryz.underlying22, sizeOf, typeInfo, hi, Builtin.lenOf, hf]

theorem append_some (b o cap : Nat) (l : List Tr) (W : World) (ty : TypeId) (hl : 0 < l.length) (h200 : l.length ≤ 200) (hr : RowR W b o l) :
    ∃ c zs, l.length ≤ c ∧ (Builtin.append_ #[22, 22] ty #[.slice none 0 0, .slice (some ⟨b, o, none⟩) l.length cap]).run Tryz.prog W = .ok (.slice (some ⟨W.heap.size, 0, none⟩) l.length c) (W.drew.alloc (.cells ((cellsT l).toArray ++ zs) 58)) := by
  obtain ⟨i, hi, hz⟩ := Option.map_eq_some_iff.1 infoTr
  simp only [Prod.mk.injEq] at hz
  have h := run_append_nil (P := Tryz.prog) W 22 ty 58 i _ Tryz.underlying22 hi hz.1 ⟨b, o, none⟩ l.length cap (cellsT l) (by rw [cellsT_len, hz.2.1])
    (fun j v hv => by rw [Addr.add_lit]; exact hr j v hv) hl (by omega) (by rw [hz.2.2]; omega)
  exact ⟨_, _, by have := grownCap_ge W l.length 0 58; omega, h⟩

theorem compRow_size (d : Array Tr) : (compRow d).size = d.size := by
  have := comp_len d
  simp [compRow]
  omega

end Go.Proofs.YtcdbcoaiadipjaaGreatDoor

/- stratasame.Triples: are two lists the same? -/
namespace Go.Proofs.YtcdbcoaiadipjaaGreatDoor
open Go Go.RowKit Go.Proofs
set_option synthInstance.maxSize 1000

attribute [local go_sem ↓] eqlTriple neqTriple

theorem bdN' (w : World) (q : Nat) : RowKit.Below w.heap.size w (w.drewN q) := ⟨rfl, rfl, rfl, Nat.le_refl _, fun _ _ => rfl⟩

theorem take_same {l m : List Tr} {k : Nat} (h : l.take k = m.take k) (hl : k < l.length) (hm : k < m.length) (e : l[k] = m[k]) : l.take (k + 1) = m.take (k + 1) := by
  rw [List.take_succ_eq_append_getElem hl, List.take_succ_eq_append_getElem hm, h, e]

end Go.Proofs.YtcdbcoaiadipjaaGreatDoor

/- Sort of a list that is right, in one contract; what Sorted tells of what comes out; the like. -/
namespace Go.Proofs.YtcdbcoaiadipjaaGreatDoor
open Go Go.RowKit Go.Proofs Go.Sort
set_option synthInstance.maxSize 1000

theorem firstUpto_zero {f : Nat → Int} {n : Nat} : firstUpto f n = 0 ↔ ∀ i, i < n → f i = 0 := by
  induction n with
  | zero => simp [firstUpto]
  | succ m ih =>
    unfold firstUpto
    constructor
    · intro h i hi
      by_cases hz : firstUpto f m = 0
      · rw [if_pos hz] at h
        by_cases e : i = m
        · subst e; exact h
        · exact ih.1 hz i (by omega)
      · rw [if_neg hz] at h; exact absurd h hz
    · intro h
      rw [if_pos (ih.2 fun i hi => h i (by omega))]
      exact h m (by omega)
theorem faultN_zero {f : Nat → Int} {n : Nat} : faultN f n = 0 ↔ n ≤ 200 ∧ ∀ i, i < n → f i = 0 := by
  unfold faultN
  by_cases h : 200 < n
  · rw [if_pos h]; simp; omega
  · rw [if_neg h, firstUpto_zero]
    constructor
    · intro q; exact ⟨by omega, q⟩
    · intro q; exact q.2
theorem sortN_zero {l : List Tr} : sortN l = 0 ↔ l.length ≤ 200 ∧ ∀ x ∈ l, chkTr x = 0 := by
  unfold sortN
  rw [faultN_zero]
  constructor
  · rintro ⟨h1, h2⟩
    refine ⟨h1, fun x hx => ?_⟩
    obtain ⟨i, hi, rfl⟩ := List.getElem_of_mem hx
    have := h2 i hi
    rwa [chkAt_eq l i hi] at this
  · rintro ⟨h1, h2⟩
    refine ⟨h1, fun i hi => ?_⟩
    rw [chkAt_eq l i hi]
    exact h2 _ (List.getElem_mem hi)
theorem sortedN_zero {m : List Tr} (h1 : m.length ≤ 200) (h2 : ∀ x ∈ m, chkTr x = 0) (h3 : Rising m) : sortedN m = 0 := by
  unfold sortedN
  rw [faultN_zero]
  refine ⟨h1, fun i hi => ?_⟩
  unfold stepN
  rw [dif_pos hi, if_pos (h2 _ (List.getElem_mem hi))]
  by_cases h0 : 0 < i
  · rw [dif_pos h0, if_neg]
    have := List.pairwise_iff_getElem.1 h3 (i - 1) i (by omega) hi (by omega)
    omega
  · rw [dif_neg h0]
theorem fit_chk {x : Tr} (h : chkTr x = 0) : fitTr x := by
  obtain ⟨h1, h2, h3, _⟩ := chk_zero h
  have q : ∀ k S L, checkN k S L = 0 → S.length ≤ maxLen ∧ L.length ≤ maxLen := fun k S L hh => by
    obtain ⟨_, hS, hsp⟩ := check_zero hh
    have := spell_lang hsp
    unfold maxLen
    omega
  exact ⟨q _ _ _ h1, q _ _ _ h2, q _ _ _ h3⟩

end Go.Proofs.YtcdbcoaiadipjaaGreatDoor

/- The theory of sets as lists: what is together, and what is apart. -/
namespace Go.Proofs.YtcdbcoaiadipjaaGreatDoor
open Go Go.RowKit Go.Proofs
set_option synthInstance.maxSize 1000

/-- a set: at most 200 triples, each right, rising -/
def IsSet (l : List Tr) : Prop := l.length ≤ 200 ∧ (∀ x ∈ l, chkTr x = 0) ∧ Rising l

theorem cmpTr_lt_trans {x y z : Tr} (h1 : cmpTr x y < 0) (h2 : cmpTr y z < 0) : cmpTr x z < 0 := by
  have h := cmpTr_trans x y z (by omega) (by omega)
  rcases Int.lt_or_eq_of_le h with h | h
  · exact h
  · have e := (cmpTr_zero x z).1 h
    subst e
    have := cmpTr_neg x y
    omega

theorem rising_of_steps (l : List Tr) (h : ∀ i (h0 : 0 < i) (hi : i < l.length), cmpTr (l[i - 1]'(by omega)) l[i] < 0) : Rising l := by
  refine List.pairwise_iff_getElem.2 ?_
  intro i j hi hj hij
  obtain ⟨d, rfl⟩ : ∃ d, j = i + 1 + d := ⟨j - i - 1, by omega⟩
  clear hij
  induction d with
  | zero => exact h (i + 1) (by omega) hj
  | succ d ih =>
    have h1 := ih (by omega)
    have h2 := h (i + 1 + (d + 1)) (by omega) hj
    exact cmpTr_lt_trans h1 h2

theorem sortedN_set {m : List Tr} : sortedN m = 0 ↔ IsSet m := by
  constructor
  · intro h
    unfold sortedN at h
    obtain ⟨h1, h2⟩ := faultN_zero.1 h
    have hc : ∀ i (hi : i < m.length), chkTr m[i] = 0 := fun i hi => by
      have := h2 i hi
      unfold stepN at this
      rw [dif_pos hi] at this
      by_cases hh : chkTr m[i] = 0
      · exact hh
      · rw [if_neg hh] at this; exact this
    refine ⟨h1, fun x hx => ?_, rising_of_steps m fun i h0 hi => ?_⟩
    · obtain ⟨i, hi, rfl⟩ := List.getElem_of_mem hx
      exact hc i hi
    · have := h2 i hi
      unfold stepN at this
      rw [dif_pos hi, if_pos (hc i hi), dif_pos h0] at this
      by_cases hh : 0 ≤ cmpTr (m[i - 1]'(by omega)) m[i]
      · rw [if_pos hh] at this; omega
      · omega
  · rintro ⟨h1, h2, h3⟩
    exact sortedN_zero h1 h2 h3

theorem IsSet.filter {l : List Tr} (h : IsSet l) (p : Tr → Bool) : IsSet (l.filter p) :=
  ⟨Nat.le_trans (List.length_filter_le _ _) h.1, fun x hx => h.2.1 x (List.mem_filter.1 hx).1, List.Pairwise.filter _ h.2.2⟩
theorem IsSet.fit {l : List Tr} (h : IsSet l) : ∀ x ∈ l, fitTr x := fun x hx => fit_chk (h.2.1 x hx)
theorem isSet_nil : IsSet [] := ⟨by simp, by simp, List.Pairwise.nil⟩

theorem rising_nodup {l : List Tr} (h : Rising l) : l.Nodup := by
  refine List.Pairwise.imp ?_ h
  intro x y hxy e
  subst e
  have := (cmpTr_zero x x).2 rfl
  omega

/-- what is in the one and not in the other; what is in both -/
def lessL (a b : List Tr) : List Tr := a.filter fun x => !decide (x ∈ b)
def bothL (a b : List Tr) : List Tr := a.filter fun x => decide (x ∈ b)
theorem mem_lessL {a b : List Tr} {x : Tr} : x ∈ lessL a b ↔ x ∈ a ∧ x ∉ b := by simp [lessL]
theorem mem_bothL {a b : List Tr} {x : Tr} : x ∈ bothL a b ↔ x ∈ a ∧ x ∈ b := by simp [bothL]

theorem parts_len (a b : List Tr) : (lessL a b).length + (bothL a b).length = a.length := by
  unfold lessL bothL
  induction a with
  | nil => rfl
  | cons x r ih =>
    by_cases h : x ∈ b
    · simp [h] at ih ⊢; omega
    · simp [h] at ih ⊢; omega

/-- what both have together -/
def JoinOf (a b m : List Tr) : Prop := Rising m ∧ ∀ x, x ∈ m ↔ x ∈ a ∨ x ∈ b

theorem JoinOf.len {a b m : List Tr} (h : JoinOf a b m) (ha : Rising a) (hb : Rising b) : m.length = a.length + (lessL b a).length := by
  have hn : (a ++ lessL b a).Nodup := by
    rw [List.nodup_append]
    refine ⟨rising_nodup ha, rising_nodup (List.Pairwise.filter _ hb), ?_⟩
    intro x hx y hy e
    subst e
    exact (mem_lessL.1 hy).2 hx
  have hp : m.Perm (a ++ lessL b a) := by
    refine (List.perm_ext_iff_of_nodup (rising_nodup h.1) hn).2 fun x => ?_
    rw [h.2, List.mem_append, mem_lessL]
    by_cases hx : x ∈ a <;> simp [hx]
  rw [hp.length_eq, List.length_append]

theorem JoinOf.unique {a b m n : List Tr} (h : JoinOf a b m) (h' : JoinOf a b n) : m = n :=
  rising_unique m n h.1 h'.1 fun x => (h.2 x).trans (h'.2 x).symm
theorem JoinOf.symm {a b m : List Tr} (h : JoinOf a b m) : JoinOf b a m := ⟨h.1, fun x => (h.2 x).trans Or.comm⟩
theorem JoinOf.isSet {a b m : List Tr} (h : JoinOf a b m) (ha : IsSet a) (hb : IsSet b) (hl : a.length + (lessL b a).length ≤ 200) : IsSet m :=
  ⟨by rw [h.len ha.2.2 hb.2.2]; exact hl, fun x hx => ((h.2 x).1 hx).elim (ha.2.1 x) (hb.2.1 x), h.1⟩
/-- less and both make the one; with what the other has alone they are all -/
theorem join_parts {a b p : List Tr} (ha : Rising a) (h : JoinOf (lessL a b) (bothL a b) p) : p = a :=
  rising_unique p a h.1 ha fun x => by
    rw [h.2, mem_lessL, mem_bothL]
    by_cases hx : x ∈ b <;> simp [hx]
theorem join_all {a b m q : List Tr} (h : JoinOf a b m) (h' : JoinOf a (lessL b a) q) : q = m :=
  rising_unique q m h'.1 h.1 fun x => by
    rw [h.2, h'.2, mem_lessL]
    by_cases hx : x ∈ a <;> simp [hx]
theorem less_apart (a b : List Tr) : lessL (bothL a b) (lessL a b) = bothL a b := by
  unfold lessL
  rw [List.filter_eq_self]
  intro x hx
  have := (mem_bothL.1 hx).2
  simp [this]
theorem less_twice (a b : List Tr) : lessL (lessL b a) a = lessL b a := by
  unfold lessL
  rw [List.filter_filter]
  simp
/-- a slice that owns its row -/
theorem own_slT {W : World} {base : Nat} {e : TypeId} {v : Value} {t : List Tr} (h : W.ownsRow base e 9 v t.length (cellsT t)) : ∃ ad cap, v = .slice ad t.length cap ∧ SlT W ad t := by
  have h' := h
  rcases h.2 with ⟨rfl, h0⟩ | ⟨g, cap, cur, rfl, _⟩
  · exact ⟨none, 0, by rw [h0], fun hne => absurd (List.eq_nil_of_length_eq_zero h0) hne⟩
  · refine ⟨some ⟨g, 0, none⟩, cap, rfl, fun _ => ⟨g, 0, rfl, fun j u hj => ?_⟩⟩
    have := h'.cells (g := g) rfl j u hj
    rwa [Addr.add_lit] at this

/-- what a call has grown beside an owned row leaves the row -/
theorem ownsRow_below {W W' : World} {base : Nat} {e : TypeId} {sz : Nat} {v : Value} {n : Nat} {cs : List Value} (h : W.ownsRow base e sz v n cs) (hb : RowKit.Below W.heap.size W W') : W'.ownsRow base e sz v n cs :=
  h.kept (row := none) ⟨hb.os, hb.tape, hb.output, hb.size, fun i hi _ => hb.block i hi⟩ (Classical.em _)
end Go.Proofs.YtcdbcoaiadipjaaGreatDoor

/- What answers a question over a set: bound patterns, answers, their order; plain lists, no program. -/
namespace Go.Proofs.YtcdbcoaiadipjaaGreatDoor
open Go Go.RowKit Go.Proofs
set_option synthInstance.maxSize 1000

/-! ### bound -/
/-- what a variable is told to be: the first counts -/
def boundT : List (List UInt8) → List Tm → List UInt8 → Option Tm
  | v :: vs, t :: ts, s => if v = s ∧ s ≠ [] then some t else boundT vs ts s
  | [], _, _ => none
  | _ :: _, [], _ => none
def bindS (vars : List (List UInt8)) (vals : List Tm) (s : Sl) : Sl := match boundT vars vals s.1 with
  | some t => ([], t)
  | none => s
def bindP (vars : List (List UInt8)) (vals : List Tm) (p : Pt) : Pt := (bindS vars vals p.1, bindS vars vals p.2.1, bindS vars vals p.2.2)
/-- the first of some terms that is wrong -/
def termsN : List Tm → Int
  | [] => 0
  | t :: r => if tmChk t = 0 then termsN r else tmChk t
def bindN (vars : List (List UInt8)) (vals : List Tm) (p : Pt) : Int := if vars.length ≠ vals.length then 3 else if termsN vals ≠ 0 then termsN vals else varsN p
def patZero : Pt := (([], tmZero), ([], tmZero), ([], tmZero))
def bindB (vars : List (List UInt8)) (vals : List Tm) (p : Pt) : Pt := if bindN vars vals p = 0 then bindP vars vals p else patZero

/-! ### answers -/
def matchP (S : List Tr) (p : Pt) : List Tr := S.filter (fitsB p)
def freshV (vars : List (List UInt8)) (p : Pt) : List (List UInt8) := (varsL p).filter fun v => !decide (v ∈ vars)
def pickT (p : Pt) (t : Tr) (v : List UInt8) : Tm := if p.1.1 = v then t.1 else if p.2.1.1 = v then t.2.1 else t.2.2
def extR (vars : List (List UInt8)) (p : Pt) (r : List Tm) (t : Tr) : List Tm := r ++ (freshV vars p).map (pickT p t)
def rowsOf (S : List Tr) (vars : List (List UInt8)) (p : Pt) (r : List Tm) : List (List Tm) := (matchP S (bindP vars r p)).map (extR vars p r)
def stepR (S : List Tr) (vars : List (List UInt8)) (p : Pt) (rows : List (List Tm)) : List (List Tm) := rows.flatMap (rowsOf S vars p)
/-- the variables as they come, their terms in each answer; none: there are too many -/
def answersF (S : List Tr) : List (List UInt8) → List (List Tm) → List Pt → Option (List (List UInt8) × List (List Tm))
  | vars, rows, [] => some (vars, rows)
  | vars, rows, p :: ps => if 500 < (stepR S vars p rows).length then none else answersF S (vars ++ freshV vars p) (stepR S vars p rows) ps
def answersL (S : List Tr) (parts : List Pt) : Option (List (List UInt8) × List (List Tm)) := answersF S [] [[]] parts
/-- how many triples are looked at -/
def lookedF (S : List Tr) : List (List UInt8) → List (List Tm) → List Pt → Nat
  | _, _, [] => 0
  | vars, rows, p :: ps => (stepR S vars p rows).length + lookedF S (vars ++ freshV vars p) (stepR S vars p rows) ps
def looked (S : List Tr) (parts : List Pt) : Nat := lookedF S [] [[]] parts

/-! ### in order -/
def lessR : List Tm → List Tm → Bool
  | x :: a, y :: b => if cmpTm x y = 0 then lessR a b else decide (cmpTm x y < 0)
  | _, _ => false
def byC (i : Option Nat) (down : Bool) (a b : List Tm) : Int := match i with
  | none => 0
  | some i => if down = true then - cmpTm (a.getD i tmZero) (b.getD i tmZero) else cmpTm (a.getD i tmZero) (b.getD i tmZero)
/-- is a row ahead of another one? -/
def aheadB (i : Option Nat) (down : Bool) (a b : List Tm) : Bool := decide (byC i down a b < 0) || (decide (byC i down a b = 0) && lessR a b)
def insR (lt : List Tm → List Tm → Bool) (r : List Tm) : List (List Tm) → List (List Tm)
  | [] => [r]
  | x :: l => if lt r x = true then r :: x :: l else x :: insR lt r l
def putR (lt : List Tm → List Tm → Bool) (dist : Bool) (out : List (List Tm)) (r : List Tm) : List (List Tm) := if dist = true ∧ r ∈ out then out else insR lt r out
def sortR (lt : List Tm → List Tm → Bool) (dist : Bool) (rows : List (List Tm)) : List (List Tm) := rows.foldl (putR lt dist) []
def whereV (vars : List (List UInt8)) (o : List UInt8) : Option Nat := if o ∈ vars then some (vars.idxOf o) else none
def projR (vars : List (List UInt8)) (told : List (List UInt8)) (r : List Tm) : List Tm := told.map fun v => (boundT vars r v).getD tmZero
def limR (lim : Int) (l : List (List Tm)) : List (List Tm) := if 0 ≤ lim then l.take lim.toNat else l
def ltQ (q : Qu) : List Tm → List Tm → Bool := aheadB (whereV q.vars q.order) q.down
def solveN (S : List Tr) (q : Qu) : Int := if sortedN S ≠ 0 then sortedN S else if askN q ≠ 0 then askN q else if (answersL S q.parts).isNone = true then 4 else 0
def solveA (S : List Tr) (q : Qu) : List (List Tm) := match answersL S q.parts with
  | none => []
  | some (vars, rows) => limR q.lim (sortR (ltQ q) q.dist (rows.map (projR vars q.vars)))
def solveL (S : List Tr) (q : Qu) : List (List Tm) := if solveN S q = 0 then solveA S q else []
def naiveI (S : List Tr) (q : Qu) : Nat := if solveN S q = 0 then (match answersL S q.parts with
  | none => 0
  | some (_, rows) => rows.length) else 0

/-! ### the order is one -/
theorem tmZ {x y : Tm} : cmpTm x y = 0 ↔ x = y := cmpTm_zero x y
theorem tmT {x y z : Tm} (h1 : cmpTm x y ≤ 0) (h2 : cmpTm y z ≤ 0) : cmpTm x z ≤ 0 := cmpTm_trans x y z h1 h2
theorem tmLt {x y z : Tm} (h1 : cmpTm x y < 0) (h2 : cmpTm y z ≤ 0) : cmpTm x z < 0 := by
  have h3 := tmT (Int.le_of_lt h1) h2
  rcases Int.lt_or_eq_of_le h3 with h | h
  · exact h
  · have e := tmZ.1 h
    subst e
    have := cmpTm_neg y x
    omega
theorem tmLt' {x y z : Tm} (h1 : cmpTm x y ≤ 0) (h2 : cmpTm y z < 0) : cmpTm x z < 0 := by
  have h3 := tmT h1 (Int.le_of_lt h2)
  rcases Int.lt_or_eq_of_le h3 with h | h
  · exact h
  · have e := tmZ.1 h
    subst e
    have := cmpTm_neg y x
    omega
theorem less_irr : ∀ (a : List Tm), lessR a a = false
  | [] => rfl
  | x :: a => by simp [lessR, tmZ.2 rfl, less_irr a]
theorem less_trans : ∀ (a b c : List Tm), lessR a b = true → lessR b c = true → lessR a c = true
  | [], _, _, h, _ => by simp [lessR] at h
  | x :: a, [], _, h, _ => by simp [lessR] at h
  | x :: a, y :: b, [], _, h => by simp [lessR] at h
  | x :: a, y :: b, z :: c, h1, h2 => by
    unfold lessR at h1 h2 ⊢
    by_cases e1 : cmpTm x y = 0
    · rw [if_pos e1] at h1
      have e1' := tmZ.1 e1
      subst e1'
      by_cases e2 : cmpTm x z = 0
      · rw [if_pos e2] at h2 ⊢
        exact less_trans a b c h1 h2
      · rw [if_neg e2] at h2 ⊢
        exact h2
    · rw [if_neg e1] at h1
      have h1' : cmpTm x y < 0 := by simpa using h1
      by_cases e2 : cmpTm y z = 0
      · have e2' := tmZ.1 e2
        subst e2'
        rw [if_neg e1]
        exact h1
      · rw [if_neg e2] at h2
        have h2' : cmpTm y z < 0 := by simpa using h2
        have h3 := tmLt h1' (Int.le_of_lt h2')
        rw [if_neg (by omega)]
        simpa using h3
theorem less_total : ∀ (a b : List Tm), a.length = b.length → lessR a b = false → lessR b a = false → a = b
  | [], [], _, _, _ => rfl
  | [], y :: b, h, _, _ => by simp at h
  | x :: a, [], h, _, _ => by simp at h
  | x :: a, y :: b, h, h1, h2 => by
    unfold lessR at h1 h2
    have hn := cmpTm_neg x y
    by_cases e : cmpTm x y = 0
    · rw [if_pos e] at h1
      rw [if_pos (by omega)] at h2
      rw [tmZ.1 e, less_total a b (by simpa using h) h1 h2]
    · rw [if_neg e] at h1
      rw [if_neg (by omega)] at h2
      simp at h1 h2
      omega
theorem byC_neg (i : Option Nat) (down : Bool) (a b : List Tm) : byC i down a b = - byC i down b a := by
  unfold byC
  cases i with
  | none => rfl
  | some i =>
    have := cmpTm_neg (a.getD i tmZero) (b.getD i tmZero)
    dsimp only
    split <;> omega
theorem byC_lt {i : Option Nat} {down : Bool} {a b c : List Tm} (h1 : byC i down a b < 0) (h2 : byC i down b c ≤ 0) : byC i down a c < 0 := by
  unfold byC at *
  cases i with
  | none => exact absurd h1 (Int.lt_irrefl 0)
  | some i =>
    dsimp only at *
    split at h1
    · rw [if_pos (by assumption)] at h2 ⊢
      have e1 := cmpTm_neg (a.getD i tmZero) (b.getD i tmZero)
      have e2 := cmpTm_neg (b.getD i tmZero) (c.getD i tmZero)
      have e3 := cmpTm_neg (a.getD i tmZero) (c.getD i tmZero)
      have := tmLt' (x := c.getD i tmZero) (y := b.getD i tmZero) (z := a.getD i tmZero) (by omega) (by omega)
      omega
    · rw [if_neg (by assumption)] at h2 ⊢
      exact tmLt h1 h2
theorem byC_le {i : Option Nat} {down : Bool} {a b c : List Tm} (h1 : byC i down a b ≤ 0) (h2 : byC i down b c ≤ 0) : byC i down a c ≤ 0 := by
  unfold byC at *
  cases i with
  | none => exact Int.le_refl _
  | some i =>
    dsimp only at *
    split at h1
    · rw [if_pos (by assumption)] at h2 ⊢
      have e1 := cmpTm_neg (a.getD i tmZero) (b.getD i tmZero)
      have e2 := cmpTm_neg (b.getD i tmZero) (c.getD i tmZero)
      have e3 := cmpTm_neg (a.getD i tmZero) (c.getD i tmZero)
      have := tmT (x := c.getD i tmZero) (y := b.getD i tmZero) (z := a.getD i tmZero) (by omega) (by omega)
      omega
    · rw [if_neg (by assumption)] at h2 ⊢
      exact tmT h1 h2
theorem ahead_irr (i : Option Nat) (down : Bool) (a : List Tm) : aheadB i down a a = false := by
  have := byC_neg i down a a
  have e : byC i down a a = 0 := by omega
  simp [aheadB, e, less_irr]
theorem ahead_trans {i : Option Nat} {down : Bool} {a b c : List Tm} (h1 : aheadB i down a b = true) (h2 : aheadB i down b c = true) : aheadB i down a c = true := by
  simp only [aheadB, Bool.or_eq_true, Bool.and_eq_true, decide_eq_true_eq] at *
  rcases h1 with h1 | ⟨h1, k1⟩
  · rcases h2 with h2 | ⟨h2, k2⟩
    · exact Or.inl (byC_lt h1 (by omega))
    · exact Or.inl (byC_lt h1 (by omega))
  · rcases h2 with h2 | ⟨h2, k2⟩
    · refine Or.inl ?_
      have e1 := byC_neg i down a b
      have e2 := byC_neg i down b c
      have e3 := byC_neg i down a c
      by_cases h : byC i down a c < 0
      · exact h
      · exfalso
        have := byC_lt (i := i) (down := down) (a := b) (b := c) (c := a) h2 (by omega)
        omega
    · right
      have e1 := byC_neg i down a b
      have e2 := byC_neg i down b c
      have e3 := byC_neg i down a c
      have g1 := byC_le (i := i) (down := down) (a := a) (b := b) (c := c) (by omega) (by omega)
      have g2 := byC_le (i := i) (down := down) (a := c) (b := b) (c := a) (by omega) (by omega)
      exact ⟨by omega, less_trans a b c k1 k2⟩
theorem ahead_total {i : Option Nat} {down : Bool} {a b : List Tm} (hl : a.length = b.length) (h1 : aheadB i down a b = false) (h2 : aheadB i down b a = false) : a = b := by
  simp only [aheadB, Bool.or_eq_false_iff, Bool.and_eq_false_iff, decide_eq_false_iff_not] at h1 h2
  have e := byC_neg i down a b
  have k1 : lessR a b = false := by rcases h1.2 with h | h <;> first | (exfalso; omega) | exact h
  have k2 : lessR b a = false := by rcases h2.2 with h | h <;> first | (exfalso; omega) | exact h
  exact less_total a b hl k1 k2
end Go.Proofs.YtcdbcoaiadipjaaGreatDoor

/- Rows of terms in order: sorted, once each, and just one way; plain lists, no program. -/
namespace Go.Proofs.YtcdbcoaiadipjaaGreatDoor
open Go Go.RowKit Go.Proofs
set_option synthInstance.maxSize 1000

/-- an order of rows of one length -/
structure OrdR (lt : List Tm → List Tm → Bool) (n : Nat) : Prop where
  irr : ∀ a, lt a a = false
  trans : ∀ {a b c}, lt a b = true → lt b c = true → lt a c = true
  total : ∀ {a b}, a.length = n → b.length = n → lt a b = false → lt b a = false → a = b
theorem ordQ (q : Qu) (n : Nat) : OrdR (ltQ q) n := ⟨fun a => ahead_irr _ _ a, fun h1 h2 => ahead_trans h1 h2, fun h1 h2 h3 h4 => ahead_total (h1.trans h2.symm) h3 h4⟩
/-- none is ahead of one before it -/
def SortedR (lt : List Tm → List Tm → Bool) (l : List (List Tm)) : Prop := l.Pairwise fun a b => lt b a = false
def LenR (n : Nat) (l : List (List Tm)) : Prop := ∀ x ∈ l, x.length = n
section
variable {lt : List Tm → List Tm → Bool} {n : Nat}
theorem OrdR.asym (o : OrdR lt n) {a b : List Tm} (h : lt a b = true) : lt b a = false := by
  cases h2 : lt b a with
  | false => rfl
  | true => exact absurd (o.trans h h2) (by rw [o.irr]; decide)
theorem OrdR.back (o : OrdR lt n) {a b c : List Tm} (ha : a.length = n) (hb : b.length = n) (h1 : lt b a = false) (h2 : lt c b = false) : lt c a = false := by
  cases h : lt c a with
  | false => rfl
  | true =>
    exfalso
    cases h3 : lt a b with
    | true => rw [o.trans h h3] at h2; cases h2
    | false => rw [o.total ha hb h3 h1] at h; rw [h] at h2; cases h2
theorem mem_ins {r x : List Tm} {l : List (List Tm)} : x ∈ insR lt r l ↔ x = r ∨ x ∈ l := by
  induction l with
  | nil => simp [insR]
  | cons y l ih =>
    unfold insR
    split
    · simp
    · simp only [List.mem_cons, ih]
      constructor
      · rintro (h | h | h)
        · exact Or.inr (Or.inl h)
        · exact Or.inl h
        · exact Or.inr (Or.inr h)
      · rintro (h | h | h)
        · exact Or.inr (Or.inl h)
        · exact Or.inl h
        · exact Or.inr (Or.inr h)
theorem len_ins (r : List Tm) (l : List (List Tm)) : (insR lt r l).length = l.length + 1 := by
  induction l with
  | nil => rfl
  | cons y l ih => unfold insR; split <;> simp [ih]
theorem perm_ins (r : List Tm) (l : List (List Tm)) : (insR lt r l).Perm (r :: l) := by
  induction l with
  | nil => exact List.Perm.refl _
  | cons y l ih =>
    unfold insR
    split
    · exact List.Perm.refl _
    · exact (List.Perm.cons y ih).trans (List.Perm.swap r y l)
theorem sorted_ins (o : OrdR lt n) {r : List Tm} {l : List (List Tm)} (hr : r.length = n) (hn : LenR n l) (h : SortedR lt l) : SortedR lt (insR lt r l) := by
  induction l with
  | nil => simp [SortedR, insR]
  | cons y l ih =>
    have hy := hn y (by simp)
    obtain ⟨h1, h2⟩ := List.pairwise_cons.1 h
    unfold insR
    split
    · rename_i hlt
      refine List.pairwise_cons.2 ⟨fun x hx => ?_, h⟩
      rcases List.mem_cons.1 hx with rfl | hx
      · exact o.asym hlt
      · cases hxr : lt x r with
        | false => rfl
        | true => have := o.trans hxr hlt; rw [h1 x hx] at this; cases this
    · rename_i hlt
      refine List.pairwise_cons.2 ⟨fun x hx => ?_, ih (fun x hx => hn x (by simp [hx])) h2⟩
      rcases mem_ins.1 hx with rfl | hx
      · simpa using hlt
      · exact h1 x hx
theorem len_put {dist : Bool} {out : List (List Tm)} {r : List Tm} (hr : r.length = n) (hn : LenR n out) : LenR n (putR lt dist out r) := by
  unfold putR
  split
  · exact hn
  · intro x hx
    rcases mem_ins.1 hx with rfl | hx
    · exact hr
    · exact hn x hx
theorem sorted_put (o : OrdR lt n) {dist : Bool} {out : List (List Tm)} {r : List Tm} (hr : r.length = n) (hn : LenR n out) (h : SortedR lt out) : SortedR lt (putR lt dist out r) := by
  unfold putR
  split
  · exact h
  · exact sorted_ins o hr hn h
theorem mem_put {dist : Bool} {out : List (List Tm)} {r x : List Tm} : x ∈ putR lt dist out r ↔ x = r ∨ x ∈ out := by
  unfold putR
  split
  · rename_i h
    constructor
    · exact Or.inr
    · rintro (rfl | h')
      · exact h.2
      · exact h'
  · exact mem_ins
theorem fold_len {dist : Bool} {rows : List (List Tm)} : ∀ {out : List (List Tm)}, LenR n rows → LenR n out → LenR n (rows.foldl (putR lt dist) out) := by
  induction rows with
  | nil => exact fun _ h => h
  | cons r l ih => exact fun h1 h2 => ih (fun x hx => h1 x (by simp [hx])) (len_put (h1 r (by simp)) h2)
theorem fold_sorted (o : OrdR lt n) {dist : Bool} {rows : List (List Tm)} : ∀ {out : List (List Tm)}, LenR n rows → LenR n out → SortedR lt out → SortedR lt (rows.foldl (putR lt dist) out) := by
  induction rows with
  | nil => exact fun _ _ h => h
  | cons r l ih => exact fun h1 h2 h3 => ih (fun x hx => h1 x (by simp [hx])) (len_put (h1 r (by simp)) h2) (sorted_put o (h1 r (by simp)) h2 h3)
theorem fold_mem {dist : Bool} {rows : List (List Tm)} {x : List Tm} : ∀ {out : List (List Tm)}, x ∈ rows.foldl (putR lt dist) out ↔ x ∈ rows ∨ x ∈ out := by
  induction rows with
  | nil => simp
  | cons r l ih =>
    intro out
    rw [List.foldl_cons, ih, mem_put, List.mem_cons]
    constructor
    · rintro (h | h | h)
      · exact Or.inl (Or.inr h)
      · exact Or.inl (Or.inl h)
      · exact Or.inr h
    · rintro ((h | h) | h)
      · exact Or.inr (Or.inl h)
      · exact Or.inl h
      · exact Or.inr (Or.inr h)
theorem fold_perm {rows : List (List Tm)} : ∀ {out : List (List Tm)}, (rows.foldl (putR lt false) out).Perm (rows ++ out) := by
  induction rows with
  | nil => exact fun {out} => List.Perm.refl _
  | cons r l ih =>
    intro out
    have e : putR lt false out r = insR lt r out := by unfold putR; rw [if_neg (by simp)]
    rw [List.foldl_cons, e]
    exact ih.trans ((List.Perm.append_left l (perm_ins r out)).trans List.perm_middle)
theorem fold_once {rows : List (List Tm)} : ∀ {out : List (List Tm)}, out.Nodup → (rows.foldl (putR lt true) out).Nodup := by
  induction rows with
  | nil => exact fun h => h
  | cons r l ih =>
    intro out h
    rw [List.foldl_cons]
    refine ih ?_
    unfold putR
    split
    · exact h
    · rename_i hn
      have hr : r ∉ out := fun h' => hn ⟨rfl, h'⟩
      exact (perm_ins r out).nodup_iff.2 (List.nodup_cons.2 ⟨hr, h⟩)
/-- two in order of the same are the same -/
theorem sorted_one (o : OrdR lt n) : ∀ {l m : List (List Tm)}, LenR n l → SortedR lt l → SortedR lt m → l.Perm m → l = m
  | [], m, _, _, _, hp => (List.Perm.nil_eq hp)
  | a :: l, [], _, _, _, hp => absurd hp.symm (by simp)
  | a :: l, b :: m, hn, h1, h2, hp => by
    have hn' : LenR n (b :: m) := fun x hx => hn x (hp.mem_iff.2 hx)
    obtain ⟨p1, q1⟩ := List.pairwise_cons.1 h1
    obtain ⟨p2, q2⟩ := List.pairwise_cons.1 h2
    have e : a = b := by
      have ha : a ∈ b :: m := hp.mem_iff.1 (by simp)
      have hb : b ∈ a :: l := hp.mem_iff.2 (by simp)
      rcases List.mem_cons.1 ha with h | ha
      · exact h
      · rcases List.mem_cons.1 hb with h | hb
        · exact h.symm
        · exact o.total (hn a (by simp)) (hn' b (by simp)) (p2 a ha) (p1 b hb)
    subst e
    rw [sorted_one o (fun x hx => hn x (by simp [hx])) q1 q2 ((List.perm_cons a).1 hp)]
/-- what is sorted, whoever does it -/
theorem sortR_all (o : OrdR lt n) {rows m : List (List Tm)} (hn : LenR n rows) (hs : SortedR lt m) (hp : m.Perm rows) : m = sortR lt false rows := by
  have hp' : (sortR lt false rows).Perm rows := by simpa [sortR] using fold_perm (lt := lt) (rows := rows) (out := [])
  exact (sorted_one o (fun x hx => hn x (hp'.mem_iff.1 hx)) (fold_sorted o hn (fun x hx => (by cases hx)) List.Pairwise.nil) hs (hp'.trans hp.symm)).symm
theorem sortR_once (o : OrdR lt n) {rows m : List (List Tm)} (hn : LenR n rows) (hs : SortedR lt m) (hd : m.Nodup) (hm : ∀ x, x ∈ m ↔ x ∈ rows) : m = sortR lt true rows := by
  have hd' : (sortR lt true rows).Nodup := fold_once List.nodup_nil
  have hm' : ∀ x, x ∈ sortR lt true rows ↔ x ∈ rows := fun x => by unfold sortR; simpa using fold_mem (lt := lt) (dist := true) (rows := rows) (x := x) (out := [])
  refine (sorted_one o (fun x hx => hn x ((hm' x).1 hx)) (fold_sorted o hn (fun x hx => (by cases hx)) List.Pairwise.nil) hs ?_).symm
  exact (List.perm_ext_iff_of_nodup hd' hd).2 fun x => (hm' x).trans (hm x).symm

/-- where a row comes in: behind the last that it is not ahead of -/
theorem ins_at (o : OrdR lt n) {r : List Tm} {l : List (List Tm)} (hn : LenR n l) (hs : SortedR lt l) {k : Nat} (hk : k ≤ l.length) (h1 : ∀ j (hj : j < l.length), k ≤ j → lt r l[j] = true) (h2 : ∀ (h : 0 < k), lt r (l[k - 1]'(by omega)) = false) : insR lt r l = l.take k ++ r :: l.drop k := by
  induction l generalizing k with
  | nil => simp [insR]
  | cons y l ih =>
    unfold insR
    cases k with
    | zero =>
      have h0 : lt r y = true := h1 0 (by simp) (Nat.le_refl _)
      rw [if_pos h0]; rfl
    | succ k =>
      obtain ⟨p1, q1⟩ := List.pairwise_cons.1 hs
      have hy : lt r y = false := by
        have h3 := h2 (by omega)
        cases k with
        | zero => exact h3
        | succ k =>
          have hm : (y :: l)[k + 1]'(by simp at hk ⊢; omega) ∈ l := by simp
          have e : (y :: l)[k + 1 + 1 - 1]'(by simp at hk ⊢; omega) = (y :: l)[k + 1]'(by simp at hk ⊢; omega) := rfl
          rw [e] at h3
          exact o.back (hn y (by simp)) (hn _ (List.mem_cons_of_mem y hm)) (p1 _ hm) h3
      rw [if_neg (by rw [hy]; decide), ih (fun x hx => hn x (by simp [hx])) q1 (k := k) (by simpa using hk) (fun j hj hkj => h1 (j + 1) (by simpa using hj) (by omega)) (fun h => ?_)]
      · rfl
      · have h3 := h2 (by omega)
        obtain ⟨k', rfl⟩ : ∃ k', k = k' + 1 := ⟨k - 1, by omega⟩
        exact h3
theorem mem_at (o : OrdR lt n) {r : List Tm} {l : List (List Tm)} (hr : r.length = n) (hn : LenR n l) (hs : SortedR lt l) {k : Nat} (hk : k ≤ l.length) (h1 : ∀ j (hj : j < l.length), k ≤ j → lt r l[j] = true) (h2 : ∀ (h : 0 < k), lt r (l[k - 1]'(by omega)) = false) : r ∈ l ↔ ∃ h : 0 < k, l[k - 1]'(by omega) = r := by
  constructor
  · intro hm
    obtain ⟨j, hj, e⟩ := List.getElem_of_mem hm
    have hjk : j < k := by
      rcases Nat.lt_or_ge j k with h | h
      · exact h
      · have := h1 j hj h
        rw [e, o.irr] at this
        cases this
    refine ⟨by omega, ?_⟩
    rcases Nat.lt_or_ge j (k - 1) with h | h
    · have h3 := List.pairwise_iff_getElem.1 hs j (k - 1) hj (by omega) h
      rw [e] at h3
      exact o.total (hn _ (List.getElem_mem _)) hr h3 (h2 (by omega))
    · have : j = k - 1 := by omega
      subst this
      exact e
  · rintro ⟨h, e⟩
    rw [← e]
    exact List.getElem_mem _
end
end Go.Proofs.YtcdbcoaiadipjaaGreatDoor

/- An answer answers: each part that is asked is there; plain lists, no program. -/
namespace Go.Proofs.YtcdbcoaiadipjaaGreatDoor
open Go Go.RowKit Go.Proofs
set_option synthInstance.maxSize 1000

/-! ### what a variable is -/
theorem bound_app : ∀ {vars fr : List (List UInt8)} {r ts : List Tm} {s : List UInt8} {x : Tm}, r.length = vars.length → boundT vars r s = some x → boundT (vars ++ fr) (r ++ ts) s = some x
  | [], _, _, _, _, _, _, h => by simp [boundT] at h
  | v :: vs, fr, [], ts, s, x, hl, h => by simp at hl
  | v :: vs, fr, t :: r, ts, s, x, hl, h => by
    simp only [List.cons_append, boundT] at h ⊢
    split
    · rename_i hc; rw [if_pos hc] at h; exact h
    · rename_i hc; rw [if_neg hc] at h; exact bound_app (by simpa using hl) h
theorem bound_new : ∀ {vars fr : List (List UInt8)} {r ts : List Tm} {s : List UInt8}, r.length = vars.length → boundT vars r s = none → boundT (vars ++ fr) (r ++ ts) s = boundT fr ts s
  | [], _, [], _, _, _, _ => rfl
  | [], _, t :: r, _, _, hl, _ => by simp at hl
  | v :: vs, fr, [], ts, s, hl, h => by simp at hl
  | v :: vs, fr, t :: r, ts, s, hl, h => by
    simp only [List.cons_append, boundT] at h ⊢
    split
    · rename_i hc; rw [if_pos hc] at h; cases h
    · rename_i hc; rw [if_neg hc] at h; exact bound_new (by simpa using hl) h
theorem bound_none : ∀ {vars : List (List UInt8)} {r : List Tm} {s : List UInt8}, s ≠ [] → r.length = vars.length → (boundT vars r s = none ↔ s ∉ vars)
  | [], r, s, _, _ => by simp [boundT]
  | v :: vs, [], s, _, hl => by simp at hl
  | v :: vs, t :: r, s, hs, hl => by
    simp only [boundT]
    by_cases hv : v = s
    · rw [if_pos ⟨hv, hs⟩]; simp [hv]
    · rw [if_neg (fun h => hv h.1), bound_none hs (by simpa using hl)]
      simp [Ne.symm hv]
theorem bound_empty : ∀ (vars : List (List UInt8)) (r : List Tm), boundT vars r [] = none
  | [], _ => rfl
  | v :: vs, [] => rfl
  | v :: vs, t :: r => by simp only [boundT]; rw [if_neg (by simp)]; exact bound_empty vs r
theorem bound_map : ∀ {fr : List (List UInt8)} {f : List UInt8 → Tm} {s : List UInt8}, s ≠ [] → s ∈ fr → boundT fr (fr.map f) s = some (f s)
  | [], _, _, _, h => by cases h
  | v :: vs, f, s, hs, h => by
    simp only [List.map_cons, boundT]
    by_cases hv : v = s
    · rw [if_pos ⟨hv, hs⟩, hv]
    · rw [if_neg (fun h => hv h.1)]
      refine bound_map hs ?_
      rcases List.mem_cons.1 h with h | h
      · exact absurd h.symm hv
      · exact h
theorem bound_mem : ∀ {vars : List (List UInt8)} {r : List Tm} {s : List UInt8} {x : Tm}, boundT vars r s = some x → x ∈ r
  | [], _, _, _, h => by simp [boundT] at h
  | v :: vs, [], _, _, h => by simp [boundT] at h
  | v :: vs, t :: r, s, x, h => by
    simp only [boundT] at h
    split at h
    · injection h with h; subst h; simp
    · exact List.mem_cons_of_mem _ (bound_mem h)
theorem addV_mem {l : List (List UInt8)} {s : Sl} {v : List UInt8} : v ∈ addV l s ↔ v ∈ l ∨ (v = s.1 ∧ v ≠ []) := by
  unfold addV
  by_cases h0 : s.1 = []
  · rw [if_pos h0]
    constructor
    · exact Or.inl
    · rintro (h | ⟨h, h'⟩)
      · exact h
      · exact absurd (h.trans h0) h'
  · rw [if_neg h0]
    by_cases h1 : s.1 ∈ l
    · rw [if_pos h1]
      constructor
      · exact Or.inl
      · rintro (h | ⟨h, _⟩)
        · exact h
        · rw [h]; exact h1
    · rw [if_neg h1, List.mem_append, List.mem_singleton]
      constructor
      · rintro (h | h)
        · exact Or.inl h
        · exact Or.inr ⟨h, by rw [h]; exact h0⟩
      · rintro (h | ⟨h, _⟩)
        · exact Or.inl h
        · exact Or.inr h
theorem varsL_mem {p : Pt} {v : List UInt8} : v ∈ varsL p ↔ v ≠ [] ∧ (v = p.1.1 ∨ v = p.2.1.1 ∨ v = p.2.2.1) := by
  unfold varsL
  rw [addV_mem, addV_mem, addV_mem]
  constructor
  · rintro ((((h | ⟨h, k⟩) | ⟨h, k⟩)) | ⟨h, k⟩)
    · cases h
    · exact ⟨k, Or.inl h⟩
    · exact ⟨k, Or.inr (Or.inl h)⟩
    · exact ⟨k, Or.inr (Or.inr h)⟩
  · rintro ⟨k, h | h | h⟩
    · exact Or.inl (Or.inl (Or.inr ⟨h, k⟩))
    · exact Or.inl (Or.inr ⟨h, k⟩)
    · exact Or.inr ⟨h, k⟩

/-! ### a part is there -/
def slotOk (vars : List (List UInt8)) (r : List Tm) (s : Sl) (x : Tm) : Prop := if s.1 = [] then x = s.2 else boundT vars r s.1 = some x
def HoldsAt (S : List Tr) (vars : List (List UInt8)) (r : List Tm) (p : Pt) : Prop := ∃ t ∈ S, slotOk vars r p.1 t.1 ∧ slotOk vars r p.2.1 t.2.1 ∧ slotOk vars r p.2.2 t.2.2
theorem ok_app {vars fr : List (List UInt8)} {r ts : List Tm} {s : Sl} {x : Tm} (hl : r.length = vars.length) (h : slotOk vars r s x) : slotOk (vars ++ fr) (r ++ ts) s x := by
  unfold slotOk at *
  split
  · rename_i h0; rw [if_pos h0] at h; exact h
  · rename_i h0; rw [if_neg h0] at h; exact bound_app hl h
theorem holds_app {S : List Tr} {vars fr : List (List UInt8)} {r ts : List Tm} {p : Pt} (hl : r.length = vars.length) (h : HoldsAt S vars r p) : HoldsAt S (vars ++ fr) (r ++ ts) p := by
  obtain ⟨t, ht, h1, h2, h3⟩ := h
  exact ⟨t, ht, ok_app hl h1, ok_app hl h2, ok_app hl h3⟩
theorem bindS_some {vars : List (List UInt8)} {r : List Tm} {s : Sl} {x : Tm} (h : boundT vars r s.1 = some x) : bindS vars r s = ([], x) := by unfold bindS; rw [h]
theorem bindS_none {vars : List (List UInt8)} {r : List Tm} {s : Sl} (h : boundT vars r s.1 = none) : bindS vars r s = s := by unfold bindS; rw [h]
theorem fresh_mem {vars : List (List UInt8)} {p : Pt} {v : List UInt8} : v ∈ freshV vars p ↔ v ∈ varsL p ∧ v ∉ vars := by simp [freshV]
/-- a slot of a pattern that a triple fits, behind what it told -/
theorem ext_ok {vars : List (List UInt8)} {p : Pt} {r : List Tm} {t : Tr} {s : Sl} {x : Tm} (hl : r.length = vars.length) (hs : s.1 ≠ [] → s.1 ∈ varsL p) (h0 : s.1 = [] → x = s.2) (h1 : ∀ y, s.1 ≠ [] → boundT vars r s.1 = some y → x = y) (h2 : s.1 ≠ [] → boundT vars r s.1 = none → pickT p t s.1 = x) : slotOk (vars ++ freshV vars p) (extR vars p r t) s x := by
  unfold slotOk extR
  by_cases he : s.1 = []
  · rw [if_pos he]; exact h0 he
  · rw [if_neg he]
    cases hb : boundT vars r s.1 with
    | some y => rw [bound_app hl hb, h1 y he hb]
    | none =>
      rw [bound_new hl hb, bound_map he (fresh_mem.2 ⟨hs he, (bound_none he hl).1 hb⟩), h2 he hb]
theorem fits_holds {S : List Tr} {vars : List (List UInt8)} {r : List Tm} {p : Pt} {t : Tr} (hl : r.length = vars.length) (ht : t ∈ matchP S (bindP vars r p)) : HoldsAt S (vars ++ freshV vars p) (extR vars p r t) p := by
  obtain ⟨hS, hf⟩ := List.mem_filter.1 ht
  unfold fitsB bindP at hf
  simp only [Bool.and_eq_true] at hf
  obtain ⟨f1, f2, f3⟩ := hf
  refine ⟨t, hS, ext_ok hl (fun h => varsL_mem.2 ⟨h, Or.inl rfl⟩) (fun h => ?_) (fun y h hb => ?_) (fun h hb => ?_), ext_ok hl (fun h => varsL_mem.2 ⟨h, Or.inr (Or.inl rfl)⟩) (fun h => ?_) (fun y h hb => ?_) (fun h hb => ?_), ext_ok hl (fun h => varsL_mem.2 ⟨h, Or.inr (Or.inr rfl)⟩) (fun h => ?_) (fun y h hb => ?_) (fun h hb => ?_)⟩
  · rw [bindS_none (by rw [h]; exact bound_empty _ _), if_pos h] at f1
    exact of_decide_eq_true f1
  · rw [bindS_some hb, if_pos rfl] at f1
    exact of_decide_eq_true f1
  · unfold pickT; rw [if_pos rfl]
  · rw [bindS_none (s := p.2.1) (by rw [h]; exact bound_empty _ _), if_pos h] at f2
    exact of_decide_eq_true f2
  · rw [bindS_some (s := p.2.1) hb, if_pos rfl] at f2
    exact of_decide_eq_true f2
  · unfold pickT
    by_cases e : p.1.1 = p.2.1.1
    · rw [if_pos e]
      rw [bindS_none (s := p.2.1) hb, if_neg h, bindS_none (s := p.1) (by rw [e]; exact hb), if_pos e.symm] at f2
      exact (of_decide_eq_true f2).symm
    · rw [if_neg e, if_pos rfl]
  · rw [bindS_none (s := p.2.2) (by rw [h]; exact bound_empty _ _), if_pos h] at f3
    exact of_decide_eq_true f3
  · rw [bindS_some (s := p.2.2) hb, if_pos rfl] at f3
    exact of_decide_eq_true f3
  · unfold pickT
    by_cases e : p.1.1 = p.2.2.1
    · rw [if_pos e]
      rw [bindS_none (s := p.2.2) hb, if_neg h, bindS_none (s := p.1) (by rw [e]; exact hb), if_pos e.symm] at f3
      exact (of_decide_eq_true f3).symm
    · rw [if_neg e]
      by_cases e2 : p.2.1.1 = p.2.2.1
      · rw [if_pos e2]
        have hne : p.2.2.1 ≠ (bindS vars r p.1).1 := by
          cases hb1 : boundT vars r p.1.1 with
          | none => rw [bindS_none hb1]; exact fun h' => e h'.symm
          | some y => rw [bindS_some hb1]; exact h
        rw [bindS_none (s := p.2.2) hb, if_neg h, if_neg hne, bindS_none (s := p.2.1) (by rw [e2]; exact hb), if_pos e2.symm] at f3
        exact (of_decide_eq_true f3).symm
      · rw [if_neg e2]

/-! ### all answers -/
/-- what holds of the answers so far -/
structure AnsOK (S : List Tr) (done : List Pt) (vars : List (List UInt8)) (rows : List (List Tm)) : Prop where
  len : ∀ r ∈ rows, r.length = vars.length
  holds : ∀ r ∈ rows, ∀ p ∈ done, HoldsAt S vars r p
  has : ∀ p ∈ done, ∀ v ∈ varsL p, v ∈ vars
  from_ : ∀ r ∈ rows, ∀ x ∈ r, ∃ t ∈ S, x = t.1 ∨ x = t.2.1 ∨ x = t.2.2
theorem AnsOK.start (S : List Tr) : AnsOK S [] [] [[]] := ⟨fun r h => by simp at h; simp [h], fun _ _ p h => (by cases h), fun p h => (by cases h), fun r h x hx => by simp at h; rw [h] at hx; cases hx⟩
theorem AnsOK.step {S : List Tr} {done : List Pt} {vars : List (List UInt8)} {rows : List (List Tm)} (h : AnsOK S done vars rows) (p : Pt) : AnsOK S (done ++ [p]) (vars ++ freshV vars p) (stepR S vars p rows) := by
  have hm : ∀ r' ∈ stepR S vars p rows, ∃ r ∈ rows, ∃ t, t ∈ matchP S (bindP vars r p) ∧ r' = extR vars p r t := fun r' hr' => by
    obtain ⟨r, hr, h1⟩ := List.mem_flatMap.1 hr'
    obtain ⟨t, ht, rfl⟩ := List.mem_map.1 h1
    exact ⟨r, hr, t, ht, rfl⟩
  refine ⟨fun r' hr' => ?_, fun r' hr' p' hp' => ?_, fun p' hp' v hv => ?_, fun r' hr' x hx => ?_⟩
  · obtain ⟨r, hr, t, ht, rfl⟩ := hm r' hr'
    simp [extR, h.len r hr]
  · obtain ⟨r, hr, t, ht, rfl⟩ := hm r' hr'
    rcases List.mem_append.1 hp' with hp' | hp'
    · exact holds_app (h.len r hr) (h.holds r hr p' hp')
    · have e : p' = p := by simpa using hp'
      subst e
      exact fits_holds (h.len r hr) ht
  · rcases List.mem_append.1 hp' with hp' | hp'
    · exact List.mem_append_left _ (h.has p' hp' v hv)
    · have e : p' = p := by simpa using hp'
      subst e
      by_cases hin : v ∈ vars
      · exact List.mem_append_left _ hin
      · exact List.mem_append_right _ (fresh_mem.2 ⟨hv, hin⟩)
  · obtain ⟨r, hr, t, ht, rfl⟩ := hm r' hr'
    rcases List.mem_append.1 hx with hx | hx
    · exact h.from_ r hr x hx
    · obtain ⟨v, _, rfl⟩ := List.mem_map.1 hx
      refine ⟨t, (List.mem_filter.1 ht).1, ?_⟩
      unfold pickT
      split
      · exact Or.inl rfl
      · split
        · exact Or.inr (Or.inl rfl)
        · exact Or.inr (Or.inr rfl)
theorem answers_ok {S : List Tr} : ∀ (ps : List Pt) {done : List Pt} {vars vars' : List (List UInt8)} {rows rows' : List (List Tm)}, AnsOK S done vars rows → answersF S vars rows ps = some (vars', rows') → AnsOK S (done ++ ps) vars' rows' ∧ rows'.length ≤ max rows.length 500
  | [], done, vars, vars', rows, rows', h, e => by
    simp only [answersF, Option.some.injEq, Prod.mk.injEq] at e
    obtain ⟨rfl, rfl⟩ := e
    rw [List.append_nil]
    exact ⟨h, Nat.le_max_left _ _⟩
  | p :: ps, done, vars, vars', rows, rows', h, e => by
    unfold answersF at e
    split at e
    · cases e
    · rename_i hn
      obtain ⟨h1, h2⟩ := answers_ok ps (h.step p) e
      rw [List.append_assoc] at h1
      refine ⟨h1, ?_⟩
      omega
theorem answersL_ok {S : List Tr} {ps : List Pt} {vars : List (List UInt8)} {rows : List (List Tm)} (e : answersL S ps = some (vars, rows)) : AnsOK S ps vars rows ∧ rows.length ≤ 500 := by
  obtain ⟨h1, h2⟩ := answers_ok ps (AnsOK.start S) e
  exact ⟨by simpa using h1, by simpa using h2⟩
theorem addAll_mem : ∀ {l o : List (List UInt8)} {v : List UInt8}, v ∈ addAll o l ↔ v ∈ o ∨ v ∈ l
  | [], o, v => by simp [addAll]
  | x :: l, o, v => by
    rw [addAll, addAll_mem]
    by_cases h : x ∈ o
    · rw [if_pos h, List.mem_cons]
      constructor
      · rintro (h' | h')
        · exact Or.inl h'
        · exact Or.inr (Or.inr h')
      · rintro (h' | h' | h')
        · exact Or.inl h'
        · rw [h']; exact Or.inl h
        · exact Or.inr h'
    · rw [if_neg h, List.mem_append, List.mem_singleton, List.mem_cons]
      constructor
      · rintro ((h' | h') | h')
        · exact Or.inl h'
        · exact Or.inr (Or.inl h')
        · exact Or.inr (Or.inr h')
      · rintro (h' | h' | h')
        · exact Or.inl (Or.inl h')
        · exact Or.inl (Or.inr h')
        · exact Or.inr h'
theorem partsV_mem : ∀ {l : List Pt} {o : List (List UInt8)} {v : List UInt8}, v ∈ partsV o l ↔ v ∈ o ∨ ∃ p ∈ l, v ∈ varsL p
  | [], o, v => by simp [partsV]
  | p :: l, o, v => by
    rw [partsV, partsV_mem, addAll_mem]
    constructor
    · rintro ((h | h) | ⟨p', h1, h2⟩)
      · exact Or.inl h
      · exact Or.inr ⟨p, by simp, h⟩
      · exact Or.inr ⟨p', by simp [h1], h2⟩
    · rintro (h | ⟨p', h1, h2⟩)
      · exact Or.inl (Or.inl h)
      · rcases List.mem_cons.1 h1 with rfl | h1
        · exact Or.inl (Or.inr h2)
        · exact Or.inr ⟨p', h1, h2⟩

/-! ### what is told, bound -/
theorem told_bound {vars told : List (List UInt8)} {r : List Tm} {s : List UInt8} {x : Tm} (h0 : s ≠ []) (hs : s ∈ told) (hx : boundT vars r s = some x) : boundT told (projR vars told r) s = some x := by
  unfold projR
  rw [bound_map h0 hs, hx]
  rfl
theorem told_free {vars told : List (List UInt8)} {r : List Tm} {s : List UInt8} (hs : s ∉ told) : boundT told (projR vars told r) s = none := by
  by_cases h0 : s = []
  · rw [h0]; exact bound_empty _ _
  · exact (bound_none h0 (by simp [projR])).2 hs
/-- an answer's own triple fits a part with what is told bound -/
theorem told_fits {vars told : List (List UInt8)} {r : List Tm} {p : Pt} {t : Tr} (h1 : slotOk vars r p.1 t.1) (h2 : slotOk vars r p.2.1 t.2.1) (h3 : slotOk vars r p.2.2 t.2.2) : fitsB (bindP told (projR vars told r) p) t = true := by
  have key : ∀ (s : Sl) (x : Tm), slotOk vars r s x → (bindS told (projR vars told r) s = ([], x)) ∨ (s.1 ≠ [] ∧ bindS told (projR vars told r) s = s ∧ boundT vars r s.1 = some x) := fun s x h => by
    unfold slotOk at h
    by_cases h0 : s.1 = []
    · rw [if_pos h0] at h
      left
      rw [bindS_none (by rw [h0]; exact bound_empty _ _)]
      obtain ⟨a, b⟩ := s
      simp only at h0 h
      rw [h0, h]
    · rw [if_neg h0] at h
      by_cases hs : s.1 ∈ told
      · exact Or.inl (bindS_some (told_bound h0 hs h))
      · exact Or.inr ⟨h0, bindS_none (told_free hs), h⟩
  have two : ∀ {s s' : Sl} {x x' : Tm}, boundT vars r s.1 = some x → boundT vars r s'.1 = some x' → s.1 = s'.1 → x = x' := fun h h' e => by
    rw [e] at h
    exact Option.some.inj (h.symm.trans h')
  unfold fitsB bindP
  simp only [Bool.and_eq_true]
  refine ⟨?_, ?_, ?_⟩
  · rcases key _ _ h1 with e | ⟨n1, e, b1⟩
    · rw [e]; simp
    · rw [e, if_neg n1]
  · rcases key _ _ h2 with e | ⟨n2, e, b2⟩
    · rw [e]; simp
    · rw [e, if_neg n2]
      rcases key _ _ h1 with e1 | ⟨n1, e1, b1⟩
      · rw [e1, if_neg n2]
      · rw [e1]
        split
        · rename_i he; exact decide_eq_true (two b2 b1 he)
        · rfl
  · rcases key _ _ h3 with e | ⟨n3, e, b3⟩
    · rw [e]; simp
    · rw [e, if_neg n3]
      rcases key _ _ h1 with e1 | ⟨n1, e1, b1⟩
      · rw [e1, if_neg n3]
        rcases key _ _ h2 with e2 | ⟨n2, e2, b2⟩
        · rw [e2, if_neg n3]
        · rw [e2]
          split
          · rename_i he; exact decide_eq_true (two b3 b2 he)
          · rfl
      · rw [e1]
        split
        · rename_i he; exact decide_eq_true (two b3 b1 he)
        · rcases key _ _ h2 with e2 | ⟨n2, e2, b2⟩
          · rw [e2, if_neg n3]
          · rw [e2]
            split
            · rename_i he; exact decide_eq_true (two b3 b2 he)
            · rfl
end Go.Proofs.YtcdbcoaiadipjaaGreatDoor

/- A question as text, piece by piece; plain lists, no program. -/
namespace Go.Proofs.YtcdbcoaiadipjaaGreatDoor
open Go Go.RowKit Go.Proofs
set_option synthInstance.maxSize 1000

/-- words with a blank ahead of each -/
def tailT : List (List UInt8) → List UInt8
  | [] => []
  | w :: r => 32 :: (w ++ tailT r)
theorem tailT_app (a b : List (List UInt8)) : tailT (a ++ b) = tailT a ++ tailT b := by
  induction a with
  | nil => rfl
  | cons x r ih => simp [tailT, ih]
theorem join_tail (w : List UInt8) (r : List (List UInt8)) : joinT (w :: r) = w ++ tailT r := by
  induction r generalizing w with
  | nil => simp [joinT, tailT]
  | cons x r ih => rw [joinT, ih]; rfl
/-- parts as words, the first one's word and the others' -/
def partsK : Nat → List Pt → List (List UInt8)
  | _, [] => []
  | n, p :: r => (if n = 0 then wWhere else wAnd) :: (partT p ++ partsK (n + 1) r)
theorem partsK_app (n : Nat) (a b : List Pt) : partsK n (a ++ b) = partsK n a ++ partsK (n + a.length) b := by
  induction a generalizing n with
  | nil => rfl
  | cons x r ih => simp [partsK, ih, Nat.add_comm, Nat.add_left_comm]
theorem partsK_and (n : Nat) : ∀ (l : List Pt), l ≠ [] → partsK (n + 1) l = wAnd :: partsT l
  | [], h => absurd rfl h
  | p :: r, _ => by
    rw [partsK, if_neg (by omega), partsT]
    by_cases hr : r = []
    · subst hr; simp [partsK]
    · rw [if_neg hr, partsK_and (n + 1) r hr]
theorem partsK_where {l : List Pt} (h : l ≠ []) : partsK 0 l = wWhere :: partsT l := by
  cases l with
  | nil => exact absurd rfl h
  | cons p r =>
    rw [partsK, if_pos rfl, partsT]
    by_cases hr : r = []
    · subst hr; simp [partsK]
    · rw [if_neg hr, partsK_and 0 r hr]
def headT (q : Qu) : List UInt8 := wSel ++ tailT (if q.dist = true then [wDist] else [])
/-- the text up to some of what is told -/
def varsT (q : Qu) (k : Nat) : List UInt8 := headT q ++ tailT ((q.vars.take k).map varT)
/-- and up to some parts -/
def partsX (q : Qu) (k : Nat) : List UInt8 := varsT q q.vars.length ++ tailT (partsK 0 (q.parts.take k))
theorem textQ_eq {q : Qu} (h : q.parts ≠ []) : textQ q = partsX q q.parts.length ++ (tailT (ordT q) ++ tailT (limT q)) := by
  unfold textQ wordsQ partsX varsT headT
  rw [join_tail, List.take_length, List.take_length, partsK_where h]
  simp [tailT_app, List.append_assoc, tailT]
theorem varsT_zero (q : Qu) : varsT q 0 = headT q := by simp [varsT, tailT]
theorem varsT_next (q : Qu) (k : Nat) (h : k < q.vars.length) : varsT q (k + 1) = varsT q k ++ 32 :: 63 :: q.vars[k] := by
  unfold varsT
  rw [List.take_succ_eq_append_getElem h, List.map_append, tailT_app]
  simp [tailT, varT]
theorem partsX_zero (q : Qu) : partsX q 0 = varsT q q.vars.length := by simp [partsX, partsK, tailT]
theorem partsX_next (q : Qu) (k : Nat) (h : k < q.parts.length) : partsX q (k + 1) = partsX q k ++ (32 :: (if k = 0 then wWhere else wAnd) ++ (32 :: slotT q.parts[k].1 ++ (32 :: slotT q.parts[k].2.1 ++ 32 :: slotT q.parts[k].2.2))) := by
  unfold partsX
  rw [List.take_succ_eq_append_getElem h, partsK_app, tailT_app, List.length_take, Nat.min_eq_left (by omega)]
  simp [tailT, partsK, partT, List.append_assoc]

/-! ### how long -/
theorem show_hun (k : Int) (S L : List UInt8) (h : checkN k S L = 0) : (showL k S L).length ≤ 100 := by
  obtain ⟨_, hS, hsp⟩ := check_zero h
  have hL := spell_lang hsp
  have h1 := quoteL_len S
  have h2 := markL_len L
  unfold showL
  repeat' split
  all_goals (simp; try omega)
theorem var_short {v : List UInt8} (h : spellV v = true) : v.length ≤ 10 := by
  unfold spellV at h
  simp at h
  omega
theorem slot_short {s : Sl} (h : slotN s = 0) : (slotT s).length ≤ 100 := by
  unfold slotT
  split
  · rename_i hs; exact show_hun _ _ _ (slot_term h hs)
  · rename_i hs
    have := var_short (slot_spell h hs).1
    simp [varT]
    omega
theorem head_short (q : Qu) : (headT q).length ≤ 15 := by
  unfold headT
  split <;> simp [wSel, wDist, tailT]
theorem varsT_short {q : Qu} (g : GoodQ q) : ∀ k, k ≤ q.vars.length → (varsT q k).length ≤ 15 + 12 * k
  | 0, _ => by rw [varsT_zero]; exact head_short q
  | k + 1, hk => by
    have ih := varsT_short g k (by omega)
    have := var_short (g.vars _ (List.getElem_mem (show k < q.vars.length by omega))).2
    rw [varsT_next q k (by omega)]
    simp
    omega
theorem partsX_short {q : Qu} (g : GoodQ q) : ∀ k, k ≤ q.parts.length → (partsX q k).length ≤ 15 + 12 * q.vars.length + 400 * k
  | 0, _ => by rw [partsX_zero]; have := varsT_short g q.vars.length (Nat.le_refl _); omega
  | k + 1, hk => by
    have ih := partsX_short g k (by omega)
    obtain ⟨h1, h2, h3⟩ := vars_zero (g.parts _ (List.getElem_mem (show k < q.parts.length by omega)))
    have s1 := slot_short h1
    have s2 := slot_short h2
    have s3 := slot_short h3
    have sw : (if k = 0 then wWhere else wAnd).length ≤ 5 := by split <;> simp [wWhere, wAnd]
    rw [partsX_next q k (by omega)]
    simp only [List.length_append, List.length_cons]
    omega
theorem nodup_le : ∀ (l m : List (List UInt8)), l.Nodup → (∀ v ∈ l, v ∈ m) → l.length ≤ m.length
  | [], m, _, _ => by simp
  | v :: r, m, hn, hs => by
    rw [List.nodup_cons] at hn
    have ih := nodup_le r (m.erase v) hn.2 (fun x hx => (List.mem_erase_of_ne (fun (e : x = v) => hn.1 (e ▸ hx))).2 (hs x (by simp [hx])))
    have h1 := List.length_erase_of_mem (hs v (by simp))
    have h2 : 0 < m.length := List.length_pos_of_mem (hs v (by simp))
    rw [List.length_cons]
    omega
theorem GoodQ.few {q : Qu} (g : GoodQ q) : q.vars.length ≤ 8 := Nat.le_trans (nodup_le _ _ g.once g.within) g.eight
theorem digits_long : ∀ (f n : Nat), n ≤ f → (digitsN n).length ≤ n + 1
  | 0, n, h => by rw [digits_lt (by omega)]; simp
  | f + 1, n, h => by
    by_cases hn : n < 10
    · rw [digits_lt hn]; simp
    · have := digits_long f (n / 10) (by omega)
      rw [digits_ge hn]
      simp
      omega
def ordX (q : Qu) : List UInt8 := if q.order = [] then [] else 32 :: (wOrder ++ 32 :: 63 :: q.order)
def downX (q : Qu) : List UInt8 := if q.down = true then 32 :: wDown else []
def limX (q : Qu) : List UInt8 := if 0 ≤ q.lim then 32 :: (wLimit ++ 32 :: digitsN q.lim.toNat) else []
theorem textQ_end {q : Qu} (g : GoodQ q) : textQ q = partsX q q.parts.length ++ (ordX q ++ (downX q ++ limX q)) := by
  rw [textQ_eq g.some]
  have h1 : tailT (ordT q) = ordX q ++ downX q := by
    unfold ordT ordX downX
    by_cases ho : q.order = []
    · have hd : ¬ q.down = true := fun h => g.down h ho
      simp [ho, hd, tailT]
    · by_cases hd : q.down = true
      · simp [ho, hd, tailT, varT]
      · simp [ho, hd, tailT, varT]
  have h2 : tailT (limT q) = limX q := by
    unfold limT limX
    split <;> simp [tailT]
  rw [h1, h2, List.append_assoc]
theorem text_short {q : Qu} (g : GoodQ q) : (partsX q q.parts.length).length ≤ 2600 := by
  have := partsX_short g q.parts.length (Nat.le_refl _)
  have := g.few
  have := g.six
  omega
theorem text_len {q : Qu} (h : askN q = 0) : (textQ q).length ≤ 10000 := by
  have g := ask_good h
  have h1 := text_short g
  have h2 : (ordX q).length ≤ 20 := by
    unfold ordX
    split
    · simp
    · rename_i ho
      have := var_short (g.vars _ (g.order.resolve_left ho)).2
      simp [wOrder]; omega
  have h3 : (downX q).length ≤ 10 := by unfold downX; split <;> simp [wDown]
  have h4 : (limX q).length ≤ 1000 := by
    unfold limX
    split
    · have hl := g.lim
      have := digits_long q.lim.toNat q.lim.toNat (Nat.le_refl _)
      simp [wLimit]; omega
    · simp
  rw [textQ_end g]
  simp only [List.length_append]
  omega
end Go.Proofs.YtcdbcoaiadipjaaGreatDoor
