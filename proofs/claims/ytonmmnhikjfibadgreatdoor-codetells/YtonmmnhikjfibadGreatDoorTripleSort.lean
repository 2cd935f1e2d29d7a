/- Sorted and Sort: what they tell of any list, and what comes out. -/
import Derived.Test.YtonmmnhikjfibadGreatDoorTripleOrd
import Derived.Test.YtonmmnhikjfibadGreatDoorTripleFault
import Derived.Test.YtonmmnhikjfibadGreatDoorShelf
import Derived.Deep.Upon
namespace Go.Proofs.YtonmmnhikjfibadGreatDoor
open Go Go.RowKit Go.Proofs Go.Sort Go.Lib
set_option synthInstance.maxSize 1000

attribute [local go_sem] eql_errV neq_errV guard_errV

/-- a slice holds a list: of an empty one nothing is said -/
def SlT (w : World) (ad : Option Addr) (l : List Tr) : Prop := l ≠ [] → ∃ b o, ad = some ⟨b, o, none⟩ ∧ RowR w b o l
theorem SlT.below {w w' : World} {ad : Option Addr} {l : List Tr} (h : SlT w ad l) (hb : RowKit.Below w.heap.size w w') : SlT w' ad l := fun hl => by
  obtain ⟨b, o, e, r⟩ := h hl
  exact ⟨b, o, e, r.below hb⟩
theorem SlT.at {w : World} {ad : Option Addr} {l : List Tr} (h : SlT w ad l) (i : Nat) (hi : i < l.length) : ∃ b o, ad = some ⟨b, o, none⟩ ∧ RowR w b o l :=
  h (fun e => by rw [e] at hi; simp at hi)

def chkAt (l : List Tr) (i : Nat) : Int := if h : i < l.length then chkTr l[i] else 0
theorem chkAt_eq (l : List Tr) (i : Nat) (h : i < l.length) : chkAt l i = chkTr l[i] := dif_pos h

theorem enters73 : ∀ args w, (callFunc 73 args).run Tryz.prog w = .ok (.enter 73 args) w := enters_of Tryz.func73 (by kernel_rfl) rfl
theorem enters75 : ∀ args w, (callFunc 75 args).run Tryz.prog w = .ok (.enter 75 args) w := enters_of Tryz.func75 (by kernel_rfl) rfl

theorem keepI {bl : Nat} {ad : Option Addr} {cap : Nat} {l : List Tr} : ∀ W W', (W.cell? ⟨bl, 0, none⟩ = some (.slice ad l.length cap) ∧ SlT W ad l) → RowKit.Below W.heap.size W W' → (W'.cell? ⟨bl, 0, none⟩ = some (.slice ad l.length cap) ∧ SlT W' ad l) :=
  fun W _ h hb => ⟨(hb.cell (World.block_lt_of_cell? W _ h.1)).trans h.1, h.2.below hb⟩

theorem faultSorted_any (ad : Option Addr) (cap bl : Nat) (l : List Tr) (w : World) (hbox : w.cell? ⟨bl, 0, none⟩ = some (.slice ad l.length cap)) (h : SlT w ad l) (hfit : ∀ x ∈ l, fitTr x) (hn : l.length ≤ 9223372036854775807) :
    Calls Tryz.prog 72 #[.slice ad l.length cap, .func (.func 73) #[] #[.pointer (some ⟨bl, 0, none⟩)]] w fun e w' => e = .returned (errV (faultN (stepN l) l.length)) ∧ RowKit.Below w.heap.size w w' :=
  firstFault_any ad l.length cap 73 bl (stepN l) (fun W => W.cell? ⟨bl, 0, none⟩ = some (.slice ad l.length cap) ∧ SlT W ad l) w hn enters73 ⟨hbox, h⟩ keepI
    (fun h200 i W hi hI => by
      obtain ⟨b, o, rfl, hr⟩ := hI.2.at i hi
      exact sortedFault_any b o cap bl l i W hi h200 (hfit _ (List.getElem_mem hi)) hI.1 hr)

/-- what Sorted tells of a list -/
def sortedN (l : List Tr) : Int := faultN (stepN l) l.length
theorem Sorted_any (ad : Option Addr) (cap : Nat) (l : List Tr) (w : World) (h : SlT w ad l) (hfit : ∀ x ∈ l, fitTr x) (hn : l.length ≤ 9223372036854775807) :
    Calls Tryz.prog 36 #[.slice ad l.length cap] w fun e w' => e = .returned (errV (sortedN l)) ∧ RowKit.Below w.heap.size w w' := by
  have H := fun W hb hs => faultSorted_any ad cap w.heap.size l W hb hs hfit hn
  have Hs : Hid (SlT w ad l) := h
  clear h
  go_enter Tryz.func36, Tryz.ntmps36
  go_wp2_with fail
  refine (H _ (by go_simp) (Hs.out.below (balloc _ _))).mono ?_
  rintro e w1 ⟨rfl, hb1⟩
  go_wp2_with fail
  go_ret
  exact ⟨rfl, bstep (balloc _ _) hb1⟩

/-! ### the sort -/
theorem flat_get (l : List Tr) (j : Nat) (hj : j < l.length * 9) : (cellsT l)[j]? = some (flatK encTr 9 l.toArray)[j]! := by
  have hi : j / 9 < l.length := by omega
  have h1 := cellsT_at l (j / 9) hi (j % 9) (by omega)
  rw [show j / 9 * 9 + j % 9 = j by omega] at h1
  rw [h1, get_flatK _ _ _ j (by simpa using hj), List.getElem?_eq_getElem (by rw [encTr_len]; omega)]
  have e : l.toArray[j / 9]! = l[j / 9] := by rw [getElem!_pos l.toArray (j / 9) (by simpa using hi)]; simp
  rw [e, getElem!_pos (encTr l[j / 9]) (j % 9) (by rw [encTr_len]; omega)]

theorem rowR_holds {w : World} {b o : Nat} {l : List Tr} (h : HoldsK encTr 9 w b o l.toArray) : RowR w b o l := fun j v hv => by
  have hj : j < l.length * 9 := by
    have := (List.getElem?_eq_some_iff.1 hv).1
    rwa [cellsT_len] at this
  rw [flat_get l j hj] at hv
  rw [(h j (by simpa using hj)).1]
  exact hv
theorem RowR.prefix {w : World} {b o : Nat} {l m : List Tr} (h : RowR w b o (l ++ m)) : RowR w b o l := fun j v hv => h j v (by
  simp only [cellsT, List.flatMap_append]
  rw [List.getElem?_append_left (by exact (List.getElem?_eq_some_iff.1 hv).1)]
  exact hv)

theorem holds_new (w : World) (l : List Tr) (zs : Array Value) (e : TypeId) : HoldsK encTr 9 (w.alloc (.cells ((cellsT l).toArray ++ zs) e)) w.heap.size 0 l.toArray := fun j hj => by
  have hj' : j < l.length * 9 := by simpa using hj
  have hl : j < (cellsT l).length := by rw [cellsT_len]; exact hj'
  have h1 := flat_get l j hj'
  refine ⟨?_, by simp⟩
  simp only [World.cell?, World.alloc, Array.getElem?_push_size, Nat.zero_add, Option.isSome_none, Bool.false_eq_true, if_false, id_eq]
  rw [Array.getElem?_append_left (by simpa using hl), List.getElem?_toArray, h1]

/-! ### nothing to sort -/
/-! ### Sort -/
/-- what Sort tells of a list -/
def sortN (l : List Tr) : Int := faultN (chkAt l) l.length

theorem infoTr : (Tryz.prog.info? 88).map (fun i => (i.zero, i.size, i.bytes)) = some (some (.agg (encTr zeroTr).toArray), 9, 120) := by kernel_rfl

/-- the sort's world: nothing older than the row has turned -/
theorem below_sort {w : World} {b n B : Nat} {d : Array Tr} {os : Array Obj} (hB : B ≤ b) (hBw : B ≤ w.heap.size) : RowKit.Below B w (sortWorldK encTr 9 w b 0 n d os) := by
  refine ⟨rfl, rfl, rfl, ?_, fun k hk => ?_⟩
  · show w.heap.size ≤ (_ ++ os).size
    simp [putRowK, putRow, mapBlock, Sort.ahead]
  · show (_ ++ os)[k]? = _
    rw [Array.getElem?_append_left (by simp [putRowK, putRow, mapBlock, Sort.ahead]; omega)]
    simp only [putRowK, putRow, mapBlock, Sort.ahead, Array.getElem?_modify]
    rw [if_neg (by omega)]
theorem below_put {w : World} {b o q B : Nat} {d : Array Tr} (hB : B ≤ b) : RowKit.Below B w (putRowK encTr 9 (Sort.ahead w q) b o d) := by
  refine ⟨rfl, rfl, rfl, by simp [putRowK, putRow, mapBlock, Sort.ahead], fun k hk => ?_⟩
  simp only [putRowK, putRow, mapBlock, Sort.ahead, Array.getElem?_modify]
  rw [if_neg (by omega)]

/-- an append whose run is known -/
theorem wpList_append_eq {P : Program} {w w' : World} {ops : Array Oper} {rest : List Oper} {o : Oper} {a : Act} {Q : Exit → Act → World → Prop} {v x y : Value} (hgd : o.guard = none) (s z : Operand) (t : TypeId)
    (ho : o.op = .call { callee := .builtin .append, args := #[s, z], argTypes := #[t, t] }) (hs : a.eval s = x) (hx : a.eval z = y) (hrun : (Builtin.append_ #[t, t] o.type #[x, y]).run P w = .ok v w')
    (h : wpList P ops Q rest (a.put o.dst v) w') : wpList P ops Q (o :: rest) a w := by
  refine wpList_plain hgd fun K hK => ?_
  unfold Oper.wp
  simp [execOp, ho, resolve, invoke, builtin, hs, hx, hrun, Result.andThen]
  exact hK _ _ h

theorem append_nothing (ad : Option Addr) (cap : Nat) (W : World) (ty : TypeId) : (Builtin.append_ #[27, 27] ty #[.slice none 0 0, .slice ad 0 cap]).run Tryz.prog W = .ok (.slice none 0 0) W := by
  obtain ⟨i, hi, hz⟩ := Option.map_eq_some_iff.1 infoTr
  cases ad with
  | none => simp [Builtin.append_, run_underlying Tryz.underlying27, sizeOf, typeInfo, hi, Builtin.lenOf, run_firstCells_none]
  | some a =>
    have hf := run_firstCells_some (P := Tryz.prog) W i.size 0 a 0 cap [] (by simp) (by simp)
    simp [Builtin.append_, run_underlying Tryz.underlying27, sizeOf, typeInfo, hi, Builtin.lenOf, hf]

theorem append_some (b o cap : Nat) (l : List Tr) (W : World) (ty : TypeId) (hl : 0 < l.length) (h200 : l.length ≤ 200) (hr : RowR W b o l) :
    ∃ c zs, l.length ≤ c ∧ (Builtin.append_ #[27, 27] ty #[.slice none 0 0, .slice (some ⟨b, o, none⟩) l.length cap]).run Tryz.prog W = .ok (.slice (some ⟨W.heap.size, 0, none⟩) l.length c) (W.drew.alloc (.cells ((cellsT l).toArray ++ zs) 88)) := by
  obtain ⟨i, hi, hz⟩ := Option.map_eq_some_iff.1 infoTr
  simp only [Prod.mk.injEq] at hz
  have h := run_append_nil (P := Tryz.prog) W 27 ty 88 i _ Tryz.underlying27 hi hz.1 ⟨b, o, none⟩ l.length cap (cellsT l) (by rw [cellsT_len, hz.2.1])
    (fun j v hv => by rw [Addr.add_lit]; exact hr j v hv) hl (by omega) (by rw [hz.2.2]; omega)
  exact ⟨_, _, by have := grownCap_ge W l.length 0 88; omega, h⟩

theorem compRow_size (d : Array Tr) : (compRow d).size = d.size := by
  have := comp_len d
  simp [compRow]
  omega

end Go.Proofs.YtonmmnhikjfibadGreatDoor
