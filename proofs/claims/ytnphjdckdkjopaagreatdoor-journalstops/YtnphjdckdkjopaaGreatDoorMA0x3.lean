import Derived.Test.YtnphjdckdkjopaaGreatDoorMA0x2
import Derived.Test.YtnphjdckdkjopaaGreatDoorMA0x1
import Derived.Deep.Upon
import Derived.Deep.Draws
import Derived.RegionTactic
import Derived.Test.YtnphjdckdkjopaaGreatDoorMA0x0

/- Sorted and Sort: what they tell of any list, and what comes out. -/
namespace Go.Proofs.YtnphjdckdkjopaaGreatDoor
open Go Go.RowKit Go.Proofs Go.Sort Go.Lib
set_option synthInstance.maxSize 1000

attribute [local go_sem] eql_errV neq_errV guard_errV

/-- a slice holds a list: of an empty one nothing is said -/
def SlT (w : World) (ad : Option Addr) (l : List Tr) : Prop := l ≠ [] → ∃ b o, ad = some ⟨b, o, none⟩ ∧ RowR w b o l
theorem SlT.below {w w' : World} {ad : Option Addr} {l : List Tr} (h : SlT w ad l) (hb : RowKit.Below w.heap.size w w') : SlT w' ad l := fun hl => by
  obtain ⟨b, o, e, r⟩ := h hl
  exact ⟨b, o, e, r.below hb⟩
theorem SlT.at {w : World} {ad : Option Addr} {l : List Tr} (h : SlT w ad l) (i : Nat) (hi : i < l.length) : ∃ b o, ad = some ⟨b, o, none⟩ ∧ RowR w b o l :=
  h (fun e => by rw [e] at hi; simp at hi)

def chkAt (l : List Tr) (i : Nat) : Int := if h : i < l.length then chkTr l[i] else 0
theorem chkAt_eq (l : List Tr) (i : Nat) (h : i < l.length) : chkAt l i = chkTr l[i] := dif_pos h

theorem enters211 : ∀ args w, (callFunc 211 args).run Tryz.prog w = .ok (.enter 211 args) w := enters_of Tryz.func211 (by kernel_rfl) rfl
theorem enters146 : ∀ args w, (callFunc 146 args).run Tryz.prog w = .ok (.enter 146 args) w := enters_of Tryz.func146 (by kernel_rfl) rfl
theorem enters148 : ∀ args w, (callFunc 148 args).run Tryz.prog w = .ok (.enter 148 args) w := enters_of Tryz.func148 (by kernel_rfl) rfl

theorem keepSlI {bl : Nat} {ad : Option Addr} {cap : Nat} {l : List Tr} : ∀ W W', (W.cell? ⟨bl, 0, none⟩ = some (.slice ad l.length cap) ∧ SlT W ad l) → RowKit.Below W.heap.size W W' → (W'.cell? ⟨bl, 0, none⟩ = some (.slice ad l.length cap) ∧ SlT W' ad l) :=
  fun W _ h hb => ⟨(hb.cell (World.block_lt_of_cell? W _ h.1)).trans h.1, h.2.below hb⟩

theorem faultSort_any (ad : Option Addr) (cap bl : Nat) (l : List Tr) (w : World) (hbox : w.cell? ⟨bl, 0, none⟩ = some (.slice ad l.length cap)) (h : SlT w ad l) (hfit : ∀ x ∈ l, fitTr x) (hn : l.length ≤ 9223372036854775807) :
    Calls Tryz.prog 145 #[.slice ad l.length cap, .func (.func 211) #[] #[.pointer (some ⟨bl, 0, none⟩)]] w fun e w' => e = .returned (errV (faultN (chkAt l) l.length)) ∧ RowKit.Below w.heap.size w w' :=
  firstFault_any ad l.length cap 211 bl (chkAt l) (fun W => W.cell? ⟨bl, 0, none⟩ = some (.slice ad l.length cap) ∧ SlT W ad l) w hn enters211 ⟨hbox, h⟩ keepSlI
    (fun _ i W hi hI => by
      obtain ⟨b, o, rfl, hr⟩ := hI.2.at i hi
      rw [chkAt_eq l i hi]
      exact sortFault_any b o cap bl l i W hi (hfit _ (List.getElem_mem hi)) hI.1 hr)

theorem faultSorted_any (ad : Option Addr) (cap bl : Nat) (l : List Tr) (w : World) (hbox : w.cell? ⟨bl, 0, none⟩ = some (.slice ad l.length cap)) (h : SlT w ad l) (hfit : ∀ x ∈ l, fitTr x) (hn : l.length ≤ 9223372036854775807) :
    Calls Tryz.prog 145 #[.slice ad l.length cap, .func (.func 146) #[] #[.pointer (some ⟨bl, 0, none⟩)]] w fun e w' => e = .returned (errV (faultN (stepN l) l.length)) ∧ RowKit.Below w.heap.size w w' :=
  firstFault_any ad l.length cap 146 bl (stepN l) (fun W => W.cell? ⟨bl, 0, none⟩ = some (.slice ad l.length cap) ∧ SlT W ad l) w hn enters146 ⟨hbox, h⟩ keepSlI
    (fun h200 i W hi hI => by
      obtain ⟨b, o, rfl, hr⟩ := hI.2.at i hi
      exact sortedFault_any b o cap bl l i W hi h200 (hfit _ (List.getElem_mem hi)) hI.1 hr)

/-- what Sorted tells of a list -/
def sortedN (l : List Tr) : Int := faultN (stepN l) l.length
theorem Sorted_any (ad : Option Addr) (cap : Nat) (l : List Tr) (w : World) (h : SlT w ad l) (hfit : ∀ x ∈ l, fitTr x) (hn : l.length ≤ 9223372036854775807) :
    Calls Tryz.prog 110 #[.slice ad l.length cap] w fun e w' => e = .returned (errV (sortedN l)) ∧ RowKit.Below w.heap.size w w' := by
  have H := fun W hb hs => faultSorted_any ad cap w.heap.size l W hb hs hfit hn
  have Hs : Hid (SlT w ad l) := h
  clear h
  go_enter Tryz.func110, Tryz.ntmps110
  go_wp2_with fail
  refine (H _ (by go_simp) (Hs.out.below (balloc _ _))).mono ?_
  rintro e w1 ⟨rfl, hb1⟩
  go_wp2_with fail
  go_ret
  exact ⟨rfl, bstep (balloc _ _) hb1⟩

/-! ### the sort -/
theorem flat_get (l : List Tr) (j : Nat) (hj : j < l.length * 9) : (cellsT l)[j]? = some (flatK encTr 9 l.toArray)[j]! := by
  have hi : j / 9 < l.length := by omega
  have h1 := cellsT_at l (j / 9) hi (j % 9) (by omega)
  rw [show j / 9 * 9 + j % 9 = j by omega] at h1
  rw [h1, get_flatK _ _ _ j (by simpa using hj), List.getElem?_eq_getElem (by rw [encTr_len]; omega)]
  have e : l.toArray[j / 9]! = l[j / 9] := by rw [getElem!_pos l.toArray (j / 9) (by simpa using hi)]; simp
  rw [e, getElem!_pos (encTr l[j / 9]) (j % 9) (by rw [encTr_len]; omega)]

theorem rowR_holds {w : World} {b o : Nat} {l : List Tr} (h : HoldsK encTr 9 w b o l.toArray) : RowR w b o l := fun j v hv => by
  have hj : j < l.length * 9 := by
    have := (List.getElem?_eq_some_iff.1 hv).1
    rwa [cellsT_len] at this
  rw [flat_get l j hj] at hv
  rw [(h j (by simpa using hj)).1]
  exact hv
theorem RowR.prefix {w : World} {b o : Nat} {l m : List Tr} (h : RowR w b o (l ++ m)) : RowR w b o l := fun j v hv => h j v (by
  simp only [cellsT, List.flatMap_append]
  rw [List.getElem?_append_left (by exact (List.getElem?_eq_some_iff.1 hv).1)]
  exact hv)

theorem holds_new (w : World) (l : List Tr) (zs : Array Value) (e : TypeId) : HoldsK encTr 9 (w.alloc (.cells ((cellsT l).toArray ++ zs) e)) w.heap.size 0 l.toArray := fun j hj => by
  have hj' : j < l.length * 9 := by simpa using hj
  have hl : j < (cellsT l).length := by rw [cellsT_len]; exact hj'
  have h1 := flat_get l j hj'
  refine ⟨?_, by simp⟩
  simp only [World.cell?, World.alloc, Array.getElem?_push_size, Nat.zero_add, Option.isSome_none, Bool.false_eq_true, if_false, id_eq]
  rw [Array.getElem?_append_left (by simpa using hl), List.getElem?_toArray, h1]

theorem SortFunc_any (b cap : Nat) (d : Array Tr) (w : World) (hH : HoldsK encTr 9 w b 0 d) (hb : b < w.heap.size) (hsz : d.size ≤ 200) :
    Calls Tryz.prog 212 #[.slice (some ⟨b, 0, none⟩) d.size cap, .func (.func 148) #[] #[]] w
      fun e w' => e = .returned (.tuple #[]) ∧ ∃ d' n os, PermIn 0 d.size d d' ∧ SortedIn (ltOf cmpTr) 0 d.size d' ∧ w' = sortWorldK encTr 9 w b 0 n d' os :=
  AnyQ.slices_SortFunc Tryz.sortTr 9 Tryz.isAgg41 Tryz.sizeOf41 encTr encTr_len encTr_one cmpTr swoTr 148 #[] b 0 cap d w enters148
    (fun _ _ _ _ x y => CmpTr_any x y _) hH hb (by omega)

/-! ### nothing to sort -/
theorem insertNone (w : World) : Calls Tryz.prog 240 #[.slice none 0 0, .int .i64 0, .int .i64 0, .func (.func 148) #[] #[]] w fun e w' => e = .returned (.tuple #[]) ∧ w' = w := by
  go_enter Tryz.func240, Tryz.ntmps240
  go_wp2
  go_loop [8] (fun i => i = .int .i64 1) (fun _ => 0)
  case atStart => rfl
  case round =>
    subst hrel
    go_wp2
    go_end0
    exact ⟨rfl, rfl⟩

theorem pdqNone (n : Int) (w : World) : Calls Tryz.prog 229 #[.slice none 0 0, .int .i64 0, .int .i64 0, .int .i64 n, .func (.func 148) #[] #[]] w fun e w' => e = .returned (.tuple #[]) ∧ w' = w := by
  go_enter Tryz.func229, Tryz.ntmps229
  go_wp2
  go_loop [1, 2] (fun a b => a = .int .i64 0 ∧ b = .int .i64 0) (fun _ _ => 0)
  case atStart => exact ⟨rfl, rfl⟩
  case round =>
    obtain ⟨rfl, rfl⟩ := hrel
    go_wp2_with (go_at_call 240; refine (insertNone _).mono ?_; rintro e w' ⟨rfl, rfl⟩)
    exact bodyPost_ret (v := .tuple #[]) (by simp [results, Tryz.results229, go_sem]) rfl ⟨rfl, rfl⟩

theorem SortFuncNone (w : World) : Calls Tryz.prog 212 #[.slice none 0 0, .func (.func 148) #[] #[]] w fun e w' => e = .returned (.tuple #[]) ∧ w' = w := by
  go_enter Tryz.func212, Tryz.ntmps212
  go_wp2_with (first
    | (go_at_call 80; refine (Tryz.bits_Len 0 _ (by omega) (by omega)).mono ?_; rintro e w' ⟨rfl, rfl⟩)
    | (go_at_call 229; refine (pdqNone _ _).mono ?_; rintro e w' ⟨rfl, rfl⟩))
  go_end0
  exact ⟨rfl, rfl⟩

theorem CompactNone (w : World) : Calls Tryz.prog 213 #[.slice none 0 0] w fun e w' => e = .returned (.slice none 0 0) ∧ w' = w := by
  go_enter Tryz.func213, Tryz.ntmps213
  go_wp2
  go_ret
  exact ⟨rfl, rfl⟩

/-! ### Sort -/
/-- what Sort tells of a list -/
def sortN (l : List Tr) : Int := faultN (chkAt l) l.length

theorem infoTr : (Tryz.prog.info? 41).map (fun i => (i.zero, i.size, i.bytes)) = some (some (.agg (encTr zeroTr).toArray), 9, 120) := by kernel_rfl

/-- the sort's world: nothing older than the row has turned -/
theorem below_sort {w : World} {b n B : Nat} {d : Array Tr} {os : Array Obj} (hB : B ≤ b) (hBw : B ≤ w.heap.size) : RowKit.Below B w (sortWorldK encTr 9 w b 0 n d os) := by
  refine ⟨rfl, rfl, rfl, ?_, fun k hk => ?_⟩
  · show w.heap.size ≤ (_ ++ os).size
    simp [putRowK, putRow, mapBlock, Sort.ahead]
  · show (_ ++ os)[k]? = _
    rw [Array.getElem?_append_left (by simp [putRowK, putRow, mapBlock, Sort.ahead]; omega)]
    simp only [putRowK, putRow, mapBlock, Sort.ahead, Array.getElem?_modify]
    rw [if_neg (by omega)]
theorem below_put {w : World} {b o q B : Nat} {d : Array Tr} (hB : B ≤ b) : RowKit.Below B w (putRowK encTr 9 (Sort.ahead w q) b o d) := by
  refine ⟨rfl, rfl, rfl, by simp [putRowK, putRow, mapBlock, Sort.ahead], fun k hk => ?_⟩
  simp only [putRowK, putRow, mapBlock, Sort.ahead, Array.getElem?_modify]
  rw [if_neg (by omega)]

set_option maxHeartbeats 1000000 in
theorem Sort_bad (ad : Option Addr) (cap : Nat) (l : List Tr) (w : World) (h : SlT w ad l) (hfit : ∀ x ∈ l, fitTr x) (hn : l.length ≤ 9223372036854775807) (hbad : sortN l ≠ 0) :
    Calls Tryz.prog 185 #[.slice ad l.length cap] w fun e w' => e = .returned (.tuple #[.slice none 0 0, errV (sortN l)]) ∧ RowKit.Below w.heap.size w w' := by
  have H := fun W hb hs => faultSort_any ad cap w.heap.size l W hb hs hfit hn
  have Hs : Hid (SlT w ad l) := h
  have hb' : (faultN (chkAt l) l.length == 0) = false := by simpa [sortN] using hbad
  clear h hbad
  unfold sortN
  go_enter Tryz.func185, Tryz.ntmps185
  go_wp2_with fail
  refine (H _ (by go_simp) (Hs.out.below (balloc _ _))).mono ?_
  rintro e w1 ⟨rfl, hb1⟩
  go_wp2_with fail
  exact bodyPost_ret (v := .tuple #[.slice none 0 0, errV (faultN (chkAt l) l.length)]) (by simp [results, Tryz.results185, go_sem]) rfl ⟨rfl, bstep (balloc _ _) hb1⟩

/-- an append whose run is known -/
theorem wpList_append_eq {P : Program} {w w' : World} {ops : Array Oper} {rest : List Oper} {o : Oper} {a : Act} {Q : Exit → Act → World → Prop} {v x y : Value} (hgd : o.guard = none) (s z : Operand) (t : TypeId)
    (ho : o.op = .call { callee := .builtin .append, args := #[s, z], argTypes := #[t, t] }) (hs : a.eval s = x) (hx : a.eval z = y) (hrun : (Builtin.append_ #[t, t] o.type #[x, y]).run P w = .ok v w')
    (h : wpList P ops Q rest (a.put o.dst v) w') : wpList P ops Q (o :: rest) a w := by
  refine wpList_plain hgd fun K hK => ?_
  unfold Oper.wp
  simp [execOp, ho, resolve, invoke, builtin, hs, hx, hrun, Result.andThen]
  exact hK _ _ h

theorem append_nothing (ad : Option Addr) (cap : Nat) (W : World) (ty : TypeId) : (Builtin.append_ #[42, 42] ty #[.slice none 0 0, .slice ad 0 cap]).run Tryz.prog W = .ok (.slice none 0 0) W := by
  obtain ⟨i, hi, hz⟩ := Option.map_eq_some_iff.1 infoTr
  cases ad with
  | none => simp [Builtin.append_, run_underlying Tryz.underlying42, sizeOf, typeInfo, hi, Builtin.lenOf, run_firstCells_none]
  | some a =>
    have hf := run_firstCells_some (P := Tryz.prog) W i.size 0 a 0 cap [] (by simp) (by simp)
    simp [Builtin.append_, run_underlying Tryz.underlying42, sizeOf, typeInfo, hi, Builtin.lenOf, hf]

theorem append_some (b o cap : Nat) (l : List Tr) (W : World) (ty : TypeId) (hl : 0 < l.length) (h200 : l.length ≤ 200) (hr : RowR W b o l) :
    ∃ c zs, l.length ≤ c ∧ (Builtin.append_ #[42, 42] ty #[.slice none 0 0, .slice (some ⟨b, o, none⟩) l.length cap]).run Tryz.prog W = .ok (.slice (some ⟨W.heap.size, 0, none⟩) l.length c) (W.drew.alloc (.cells ((cellsT l).toArray ++ zs) 41)) := by
  obtain ⟨i, hi, hz⟩ := Option.map_eq_some_iff.1 infoTr
  simp only [Prod.mk.injEq] at hz
  have h := run_append_nil (P := Tryz.prog) W 42 ty 41 i _ Tryz.underlying42 hi hz.1 ⟨b, o, none⟩ l.length cap (cellsT l) (by rw [cellsT_len, hz.2.1])
    (fun j v hv => by rw [Addr.add_lit]; exact hr j v hv) hl (by omega) (by rw [hz.2.2]; omega)
  exact ⟨_, _, by have := grownCap_ge W l.length 0 41; omega, h⟩

set_option maxHeartbeats 1000000 in
set_option maxRecDepth 100000 in
theorem Sort_none (ad : Option Addr) (cap : Nat) (w : World) :
    Calls Tryz.prog 185 #[.slice ad 0 cap] w fun e w' => e = .returned (.tuple #[.slice none 0 0, .nilIface]) ∧ RowKit.Below w.heap.size w w' := by
  have H := fun W hb hs => faultSort_any ad cap w.heap.size [] W hb hs (by simp) (by simp)
  rw [show faultN (chkAt []) ([] : List Tr).length = 0 from rfl, show errV 0 = .nilIface from rfl] at H
  go_enter Tryz.func185, Tryz.ntmps185
  go_wp2_with fail
  refine (H _ (by go_simp) (fun h => absurd rfl h)).mono ?_
  rintro e w1 ⟨rfl, hb1⟩
  obtain ⟨k1, f1⟩ := bcell hb1
  go_wp2_with (first
    | (at_builtin; refine wpList_append_eq rfl _ _ 42 rfl rfl rfl (append_nothing ad cap _ _) ?_)
    | (go_at_call 212; refine (SortFuncNone _).mono ?_; rintro e w' ⟨rfl, rfl⟩)
    | (go_at_call 213; refine (CompactNone _).mono ?_; rintro e w' ⟨rfl, rfl⟩))
  exact bodyPost_ret (v := .tuple #[.slice none 0 0, .nilIface]) (by simp [results, Tryz.results185, go_sem]) rfl ⟨rfl, bstep (balloc _ _) hb1⟩

theorem compRow_size (d : Array Tr) : (compRow d).size = d.size := by
  have := comp_len d
  simp [compRow]
  omega

set_option maxHeartbeats 1000000 in
set_option maxRecDepth 100000 in
theorem Sort_some (b o cap : Nat) (l : List Tr) (w : World) (hl : 0 < l.length) (hr : RowR w b o l) (hfit : ∀ x ∈ l, fitTr x) (h200 : l.length ≤ 200) (hgood : sortN l = 0) :
    Calls Tryz.prog 185 #[.slice (some ⟨b, o, none⟩) l.length cap] w fun e w' => RowKit.Below w.heap.size w w' ∧ ∃ (m : List Tr) (b' c : Nat), e = .returned (.tuple #[.slice (some ⟨b', 0, none⟩) m.length c, .nilIface]) ∧ RowR w' b' 0 m ∧ Rising m ∧ (∀ x, x ∈ m ↔ x ∈ l) ∧ m.length ≤ l.length := by
  have Hr : Hid (RowR w b o l) := hr
  have H := fun W hb hs => faultSort_any (some ⟨b, o, none⟩) cap w.heap.size l W hb hs hfit (by omega)
  rw [show faultN (chkAt l) l.length = 0 from hgood, show errV 0 = .nilIface from rfl] at H
  clear hr hfit
  go_enter Tryz.func185, Tryz.ntmps185
  go_wp2_with fail
  refine (H _ (by go_simp) (fun _ => ⟨b, o, rfl, Hr.out.below (balloc _ _)⟩)).mono ?_
  rintro e w1 ⟨rfl, hb1⟩
  obtain ⟨k1, f1⟩ := bcell hb1
  have hsz1 := hb1.size
  have hr1 : Hid (RowR w1 b o l) := (Hr.out.below (balloc _ _)).below hb1
  obtain ⟨c, zs, hc, hap⟩ := append_some b o cap l w1 42 hl h200 hr1.out
  have Hap : Hid (_ = _) := hap
  have hS := SortFunc_any w1.heap.size c l.toArray (w1.drew.alloc (.cells ((cellsT l).toArray ++ zs) 41)) (holds_new w1.drew l zs _) (by simp) (by simpa using h200)
  rw [List.size_toArray] at hS
  have HS : Hid (Calls Tryz.prog 212 _ _ _) := hS
  clear hap hS H
  go_wp2_with (first
    | (at_builtin; refine wpList_append_eq rfl _ _ 42 rfl rfl rfl Hap.out ?_))
  go_at_call 212
  refine HS.out.mono ?_
  rintro e w3 ⟨rfl, d', n, os, hp, hsd, rfl⟩
  have hds : d'.size = l.length := by have := hp.1; simpa using this
  have hH3 := holdsK_sortWorldK encTr 9 (w1.drew.alloc (.cells ((cellsT l).toArray ++ zs) 41)) w1.heap.size 0 n l.toArray d' os (by simp) (holds_new w1.drew l zs _) (by simpa using hds)
  have hC := Compact_any w1.heap.size 0 c d' _ hH3 (by omega) (by omega)
  rw [hds] at hC
  go_wp2_with fail
  refine hC.mono ?_
  rintro e w4 ⟨rfl, q, rfl⟩
  go_wp2_with fail
  refine bodyPost_ret (v := .tuple #[.slice (some ⟨w1.heap.size, 0, none⟩) (compactUpTo d' d'.size).length c, .nilIface]) (by simp [results, Tryz.results185, go_sem, hds]) rfl ⟨?_, compactUpTo d' d'.size, w1.heap.size, c, rfl, ?_, ?_, ?_, ?_⟩
  · have hw1 : w.heap.size ≤ w1.heap.size := by simp at hsz1; omega
    exact ((bstep (bstep (balloc _ _) hb1).drew (balloc _ _)).trans (below_sort hw1 (by simp; omega))).trans (below_put hw1)
  · have hh := holdsK_putRowK encTr 9 (Sort.ahead _ q) w1.heap.size 0 d' (compRow d') (holdsK_ahead encTr 9 _ q w1.heap.size 0 d' hH3) (compRow_size d')
    exact (rowR_holds (l := compactUpTo d' d'.size ++ List.replicate (d'.size - (compactUpTo d' d'.size).length) zeroTr) hh).prefix
  · refine comp_rising d' ?_
    rw [hds]
    simpa using hsd
  · intro x
    rw [comp_mem]
    have hperm : d'.toList.Perm l := by
      have := hp.2.2
      rw [show d'.extract 0 l.toArray.size = d' by rw [List.size_toArray, ← hds]; simp] at this
      simpa using this
    exact hperm.mem_iff
  · have := comp_len d'
    omega
end Go.Proofs.YtnphjdckdkjopaaGreatDoor

/- stratasame.Triples: are two lists the same? -/
namespace Go.Proofs.YtnphjdckdkjopaaGreatDoor
open Go Go.RowKit Go.Proofs
set_option synthInstance.maxSize 1000

attribute [local go_sem ↓] eqlTriple neqTriple

theorem bdN' (w : World) (q : Nat) : RowKit.Below w.heap.size w (w.drewN q) := ⟨rfl, rfl, rfl, Nat.le_refl _, fun _ _ => rfl⟩

theorem take_same {l m : List Tr} {k : Nat} (h : l.take k = m.take k) (hl : k < l.length) (hm : k < m.length) (e : l[k] = m[k]) : l.take (k + 1) = m.take (k + 1) := by
  rw [List.take_succ_eq_append_getElem hl, List.take_succ_eq_append_getElem hm, h, e]

set_option maxHeartbeats 2000000 in
set_option maxRecDepth 100000 in
theorem SameTriples_any (ad bd : Option Addr) (ca cb : Nat) (l m : List Tr) (w : World) (hl : SlT w ad l) (hm : SlT w bd m) (h200 : l.length ≤ 1000000) (h200' : m.length ≤ 1000000) :
    Calls Tryz.prog 41 #[.slice ad l.length ca, .slice bd m.length cb] w fun e w' => e = .returned (.bool (decide (l = m))) ∧ RowKit.Below w.heap.size w w' := by
  have Hl : Hid (SlT w ad l) := hl
  have Hm : Hid (SlT w bd m) := hm
  clear hl hm
  by_cases hlen : l.length = m.length
  · have hd : ((l.length : Int) != (m.length : Int)) = false := by simp [hlen]
    have Hlen : Hid (l.length = m.length) := hlen
    clear hlen
    go_enter Tryz.func41, Tryz.ntmps41
    go_wp2_with fail
    go_loopw [5] (fun i wr => ∃ (k q : Nat), k ≤ l.length ∧ i = .int .i64 k ∧ wr = w.drewN q ∧ Hid (l.take k = m.take k)) (fun i wr => l.length - (intOf i).toNat)
    case atStart => exact ⟨0, 0, by omega, rfl, rfl, rfl⟩
    case round =>
      obtain ⟨k, q, hk, rfl, rfl, hs⟩ := hrel
      by_cases hlt : k < l.length
      · have hlt' : k < m.length := by have := Hlen.out; omega
        obtain ⟨b, o, rfl, hr⟩ := Hl.out.at k hlt
        obtain ⟨b', o', rfl, hr'⟩ := Hm.out.at k hlt'
        obtain ⟨c0, c1, c2, c3, c4, c5, c6, c7, c8⟩ := hr.at k hlt
        obtain ⟨d0, d1, d2, d3, d4, d5, d6, d7, d8⟩ := hr'.at k hlt'
        have i0 : (0 : Int) ≤ (k : Int) := by omega
        have i1 : (k : Int) < (l.length : Int) := by omega
        have i2 : (k : Int) < (m.length : Int) := by omega
        clear hr hr'
        by_cases he : l[k] = m[k]
        · have hd2 : decide (l[k] = m[k]) = true := by simpa using he
          have He : Hid (l[k] = m[k]) := he
          clear he
          go_wp2_with fail
          go_region
          go_wp2
          exact ⟨⟨k + 1, q + 1, by omega, by go_num, rfl, take_same hs.out hlt hlt' He.out⟩, by simp [intOf]; omega⟩
        · have hd2 : decide (l[k] = m[k]) = false := by simpa using he
          have He : Hid (¬ l[k] = m[k]) := he
          clear he
          go_wp2_with fail
          go_region
          go_wp2
          go_ret
          refine ⟨ret_bool ?_, bdN' _ _⟩
          have : ¬ l = m := fun e => He.out (by subst e; rfl)
          simp [this]
      · have hke : k = l.length := by omega
        go_wp2
        go_ret
        refine ⟨ret_bool ?_, bdN' _ _⟩
        have : l = m := by
          have h := hs.out
          rw [hke, List.take_length, Hlen.out, List.take_length] at h
          exact h
        simp [this]
  · have hd : ((l.length : Int) != (m.length : Int)) = true := by simp; omega
    have hne : Hid (¬ l = m) := fun e => hlen (by rw [e])
    clear hlen
    go_enter Tryz.func41, Tryz.ntmps41
    go_wp2
    go_ret
    exact ⟨ret_bool (by simp [hne.out]), RowKit.Below.refl _ _⟩
end Go.Proofs.YtnphjdckdkjopaaGreatDoor

/- Sort of a list that is right, in one contract; what Sorted tells of what comes out; the like. -/
namespace Go.Proofs.YtnphjdckdkjopaaGreatDoor
open Go Go.RowKit Go.Proofs Go.Sort
set_option synthInstance.maxSize 1000

theorem firstUpto_zero {f : Nat → Int} {n : Nat} : firstUpto f n = 0 ↔ ∀ i, i < n → f i = 0 := by
  induction n with
  | zero => simp [firstUpto]
  | succ m ih =>
    unfold firstUpto
    constructor
    · intro h i hi
      by_cases hz : firstUpto f m = 0
      · rw [if_pos hz] at h
        by_cases e : i = m
        · subst e; exact h
        · exact ih.1 hz i (by omega)
      · rw [if_neg hz] at h; exact absurd h hz
    · intro h
      rw [if_pos (ih.2 fun i hi => h i (by omega))]
      exact h m (by omega)
theorem faultN_zero {f : Nat → Int} {n : Nat} : faultN f n = 0 ↔ n ≤ 200 ∧ ∀ i, i < n → f i = 0 := by
  unfold faultN
  by_cases h : 200 < n
  · rw [if_pos h]; simp; omega
  · rw [if_neg h, firstUpto_zero]
    constructor
    · intro q; exact ⟨by omega, q⟩
    · intro q; exact q.2
theorem sortN_zero {l : List Tr} : sortN l = 0 ↔ l.length ≤ 200 ∧ ∀ x ∈ l, chkTr x = 0 := by
  unfold sortN
  rw [faultN_zero]
  constructor
  · rintro ⟨h1, h2⟩
    refine ⟨h1, fun x hx => ?_⟩
    obtain ⟨i, hi, rfl⟩ := List.getElem_of_mem hx
    have := h2 i hi
    rwa [chkAt_eq l i hi] at this
  · rintro ⟨h1, h2⟩
    refine ⟨h1, fun i hi => ?_⟩
    rw [chkAt_eq l i hi]
    exact h2 _ (List.getElem_mem hi)
theorem sortedN_zero {m : List Tr} (h1 : m.length ≤ 200) (h2 : ∀ x ∈ m, chkTr x = 0) (h3 : Rising m) : sortedN m = 0 := by
  unfold sortedN
  rw [faultN_zero]
  refine ⟨h1, fun i hi => ?_⟩
  unfold stepN
  rw [dif_pos hi, if_pos (h2 _ (List.getElem_mem hi))]
  by_cases h0 : 0 < i
  · rw [dif_pos h0, if_neg]
    have := List.pairwise_iff_getElem.1 h3 (i - 1) i (by omega) hi (by omega)
    omega
  · rw [dif_neg h0]
theorem fit_chk {x : Tr} (h : chkTr x = 0) : fitTr x := by
  obtain ⟨h1, h2, h3, _⟩ := chk_zero h
  have q : ∀ k S L, checkN k S L = 0 → S.length ≤ maxLen ∧ L.length ≤ maxLen := fun k S L hh => by
    obtain ⟨_, hS, hsp⟩ := check_zero hh
    have := spell_lang hsp
    unfold maxLen
    omega
  exact ⟨q _ _ _ h1, q _ _ _ h2, q _ _ _ h3⟩

theorem Sort_good (ad : Option Addr) (cap : Nat) (l : List Tr) (w : World) (h : SlT w ad l) (hgood : sortN l = 0) :
    Calls Tryz.prog 185 #[.slice ad l.length cap] w fun e w' => RowKit.Below w.heap.size w w' ∧ ∃ (m : List Tr) (ad' : Option Addr) (c : Nat), e = .returned (.tuple #[.slice ad' m.length c, .nilIface]) ∧ SlT w' ad' m ∧ Rising m ∧ (∀ x, x ∈ m ↔ x ∈ l) ∧ m.length ≤ l.length := by
  obtain ⟨h200, hall⟩ := sortN_zero.1 hgood
  cases l with
  | nil =>
    refine (Sort_none ad cap w).mono ?_
    rintro e w1 ⟨rfl, hb⟩
    exact ⟨hb, [], none, 0, rfl, fun h => absurd rfl h, List.Pairwise.nil, fun x => Iff.rfl, Nat.le_refl _⟩
  | cons x r =>
    obtain ⟨b, o, rfl, hr⟩ := h (by simp)
    refine (Sort_some b o cap (x :: r) w (by simp) hr (fun y hy => fit_chk (hall y hy)) h200 hgood).mono ?_
    rintro e w1 ⟨hb, m, b', c, rfl, h1, h2, h3, h4⟩
    exact ⟨hb, m, some ⟨b', 0, none⟩, c, rfl, fun _ => ⟨b', 0, rfl, h1⟩, h2, h3, h4⟩

end Go.Proofs.YtnphjdckdkjopaaGreatDoor

/- The theory of sets as lists: what is together, and what is apart. -/
namespace Go.Proofs.YtnphjdckdkjopaaGreatDoor
open Go Go.RowKit Go.Proofs
set_option synthInstance.maxSize 1000

/-- a set: at most 200 triples, each right, rising -/
def IsSet (l : List Tr) : Prop := l.length ≤ 200 ∧ (∀ x ∈ l, chkTr x = 0) ∧ Rising l

theorem cmpTr_lt_trans {x y z : Tr} (h1 : cmpTr x y < 0) (h2 : cmpTr y z < 0) : cmpTr x z < 0 := by
  have h := cmpTr_trans x y z (by omega) (by omega)
  rcases Int.lt_or_eq_of_le h with h | h
  · exact h
  · have e := (cmpTr_zero x z).1 h
    subst e
    have := cmpTr_neg x y
    omega

theorem rising_of_steps (l : List Tr) (h : ∀ i (h0 : 0 < i) (hi : i < l.length), cmpTr (l[i - 1]'(by omega)) l[i] < 0) : Rising l := by
  refine List.pairwise_iff_getElem.2 ?_
  intro i j hi hj hij
  obtain ⟨d, rfl⟩ : ∃ d, j = i + 1 + d := ⟨j - i - 1, by omega⟩
  clear hij
  induction d with
  | zero => exact h (i + 1) (by omega) hj
  | succ d ih =>
    have h1 := ih (by omega)
    have h2 := h (i + 1 + (d + 1)) (by omega) hj
    exact cmpTr_lt_trans h1 h2

theorem sortedN_set {m : List Tr} : sortedN m = 0 ↔ IsSet m := by
  constructor
  · intro h
    unfold sortedN at h
    obtain ⟨h1, h2⟩ := faultN_zero.1 h
    have hc : ∀ i (hi : i < m.length), chkTr m[i] = 0 := fun i hi => by
      have := h2 i hi
      unfold stepN at this
      rw [dif_pos hi] at this
      by_cases hh : chkTr m[i] = 0
      · exact hh
      · rw [if_neg hh] at this; exact this
    refine ⟨h1, fun x hx => ?_, rising_of_steps m fun i h0 hi => ?_⟩
    · obtain ⟨i, hi, rfl⟩ := List.getElem_of_mem hx
      exact hc i hi
    · have := h2 i hi
      unfold stepN at this
      rw [dif_pos hi, if_pos (hc i hi), dif_pos h0] at this
      by_cases hh : 0 ≤ cmpTr (m[i - 1]'(by omega)) m[i]
      · rw [if_pos hh] at this; omega
      · omega
  · rintro ⟨h1, h2, h3⟩
    exact sortedN_zero h1 h2 h3

theorem IsSet.filter {l : List Tr} (h : IsSet l) (p : Tr → Bool) : IsSet (l.filter p) :=
  ⟨Nat.le_trans (List.length_filter_le _ _) h.1, fun x hx => h.2.1 x (List.mem_filter.1 hx).1, List.Pairwise.filter _ h.2.2⟩
theorem IsSet.fit {l : List Tr} (h : IsSet l) : ∀ x ∈ l, fitTr x := fun x hx => fit_chk (h.2.1 x hx)
theorem isSet_nil : IsSet [] := ⟨by simp, by simp, List.Pairwise.nil⟩

theorem rising_nodup {l : List Tr} (h : Rising l) : l.Nodup := by
  refine List.Pairwise.imp ?_ h
  intro x y hxy e
  subst e
  have := (cmpTr_zero x x).2 rfl
  omega

/-- what is in the one and not in the other; what is in both -/
def lessL (a b : List Tr) : List Tr := a.filter fun x => !decide (x ∈ b)
def bothL (a b : List Tr) : List Tr := a.filter fun x => decide (x ∈ b)
theorem mem_lessL {a b : List Tr} {x : Tr} : x ∈ lessL a b ↔ x ∈ a ∧ x ∉ b := by simp [lessL]
theorem mem_bothL {a b : List Tr} {x : Tr} : x ∈ bothL a b ↔ x ∈ a ∧ x ∈ b := by simp [bothL]

theorem parts_len (a b : List Tr) : (lessL a b).length + (bothL a b).length = a.length := by
  unfold lessL bothL
  induction a with
  | nil => rfl
  | cons x r ih =>
    by_cases h : x ∈ b
    · simp [h] at ih ⊢; omega
    · simp [h] at ih ⊢; omega

/-- what both have together -/
def JoinOf (a b m : List Tr) : Prop := Rising m ∧ ∀ x, x ∈ m ↔ x ∈ a ∨ x ∈ b

theorem JoinOf.len {a b m : List Tr} (h : JoinOf a b m) (ha : Rising a) (hb : Rising b) : m.length = a.length + (lessL b a).length := by
  have hn : (a ++ lessL b a).Nodup := by
    rw [List.nodup_append]
    refine ⟨rising_nodup ha, rising_nodup (List.Pairwise.filter _ hb), ?_⟩
    intro x hx y hy e
    subst e
    exact (mem_lessL.1 hy).2 hx
  have hp : m.Perm (a ++ lessL b a) := by
    refine (List.perm_ext_iff_of_nodup (rising_nodup h.1) hn).2 fun x => ?_
    rw [h.2, List.mem_append, mem_lessL]
    by_cases hx : x ∈ a <;> simp [hx]
  rw [hp.length_eq, List.length_append]

theorem JoinOf.unique {a b m n : List Tr} (h : JoinOf a b m) (h' : JoinOf a b n) : m = n :=
  rising_unique m n h.1 h'.1 fun x => (h.2 x).trans (h'.2 x).symm
theorem JoinOf.symm {a b m : List Tr} (h : JoinOf a b m) : JoinOf b a m := ⟨h.1, fun x => (h.2 x).trans Or.comm⟩
theorem JoinOf.isSet {a b m : List Tr} (h : JoinOf a b m) (ha : IsSet a) (hb : IsSet b) (hl : a.length + (lessL b a).length ≤ 200) : IsSet m :=
  ⟨by rw [h.len ha.2.2 hb.2.2]; exact hl, fun x hx => ((h.2 x).1 hx).elim (ha.2.1 x) (hb.2.1 x), h.1⟩
/-- less and both make the one; with what the other has alone they are all -/
theorem join_parts {a b p : List Tr} (ha : Rising a) (h : JoinOf (lessL a b) (bothL a b) p) : p = a :=
  rising_unique p a h.1 ha fun x => by
    rw [h.2, mem_lessL, mem_bothL]
    by_cases hx : x ∈ b <;> simp [hx]
theorem join_all {a b m q : List Tr} (h : JoinOf a b m) (h' : JoinOf a (lessL b a) q) : q = m :=
  rising_unique q m h'.1 h.1 fun x => by
    rw [h.2, h'.2, mem_lessL]
    by_cases hx : x ∈ a <;> simp [hx]
theorem less_apart (a b : List Tr) : lessL (bothL a b) (lessL a b) = bothL a b := by
  unfold lessL
  rw [List.filter_eq_self]
  intro x hx
  have := (mem_bothL.1 hx).2
  simp [this]
theorem less_twice (a b : List Tr) : lessL (lessL b a) a = lessL b a := by
  unfold lessL
  rw [List.filter_filter]
  simp
/-- a slice that owns its row -/
theorem own_slT {W : World} {base : Nat} {e : TypeId} {v : Value} {t : List Tr} (h : W.ownsRow base e 9 v t.length (cellsT t)) : ∃ ad cap, v = .slice ad t.length cap ∧ SlT W ad t := by
  have h' := h
  rcases h.2 with ⟨rfl, h0⟩ | ⟨g, cap, cur, rfl, _⟩
  · exact ⟨none, 0, by rw [h0], fun hne => absurd (List.eq_nil_of_length_eq_zero h0) hne⟩
  · refine ⟨some ⟨g, 0, none⟩, cap, rfl, fun _ => ⟨g, 0, rfl, fun j u hj => ?_⟩⟩
    have := h'.cells (g := g) rfl j u hj
    rwa [Addr.add_lit] at this

/-- what a call has grown beside an owned row leaves the row -/
theorem ownsRow_below {W W' : World} {base : Nat} {e : TypeId} {sz : Nat} {v : Value} {n : Nat} {cs : List Value} (h : W.ownsRow base e sz v n cs) (hb : RowKit.Below W.heap.size W W') : W'.ownsRow base e sz v n cs :=
  h.kept (row := none) ⟨hb.os, hb.tape, hb.output, hb.size, fun i hi _ => hb.block i hi⟩ (Classical.em _)
end Go.Proofs.YtnphjdckdkjopaaGreatDoor

/- Package code: terms, sets and layers as bytes: the plain theory of writing and of reading. -/
namespace Go.Proofs.YtnphjdckdkjopaaGreatDoor
open Go Go.RowKit Go.Proofs
set_option synthInstance.maxSize 1000

/-- where a reader is: what ended it (0: nothing has), and what is left -/
abbrev St := Int × List UInt8
def okTm (x : Tm) : Int := checkN x.1 x.2.1 x.2.2
def endS (why : Int) (s : St) : St := (if s.1 = 0 then why else s.1, [])
def takeS (n : Nat) (s : St) : List UInt8 × St := if s.2.length < n then ([], endS 8 s) else (s.2.take n, (s.1, s.2.drop n))
/-- a number, the high byte first -/
def numL (l : List UInt8) : Nat := l.foldl (fun n b => n * 256 + b.toNat) 0
/-- which Kind a byte tells, and how many bytes of a Lang follow -/
def kindK (n : Nat) : Int := if n = 7 then 3 else n
def kindL (n : Nat) : Nat := if n = 7 then 2 else 0
def kindB' (n : Nat) : Bool := decide (1 ≤ kindK n ∧ kindK n ≤ 3)
def kindS (s : St) : Nat × St := (numL (takeS 1 s).1, if kindB' (numL (takeS 1 s).1) = true then (takeS 1 s).2 else endS 2 (takeS 1 s).2)
def langS (s : St) : List UInt8 × St := takeS (kindL (kindS s).1) (kindS s).2
def textS (s : St) : List UInt8 × St := takeS (numL (takeS 1 s).1) (takeS 1 s).2
def rawS (s : St) : Tm := (kindK (kindS s).1, (textS (langS s).2).1, (langS s).1)
def termS (s : St) : Tm × St := (rawS s, if okTm (rawS s) = 0 then (textS (langS s).2).2 else endS 2 (textS (langS s).2).2)
def tripS (s : St) : Tr × St := (((termS s).1, (termS (termS s).2).1, (termS (termS (termS s).2).2).1), (termS (termS (termS s).2).2).2)
def loopS : Nat → St → List Tr × St
  | 0, s => ([], s)
  | n + 1, s => if s.1 = 0 then ((tripS s).1 :: (loopS n (tripS s).2).1, (loopS n (tripS s).2).2) else ([], s)
def sizeS (s : St) : Nat × St := (numL (takeS 2 s).1, if 200 < numL (takeS 2 s).1 then endS 2 (takeS 2 s).2 else (takeS 2 s).2)
def setS (s : St) : List Tr × St := loopS (sizeS s).1 (sizeS s).2
/-- what is told of the whole -/
def wholeN (wrong : Int) (s : St) : Int := if wrong = 0 ∧ s.2 = [] then s.1 else (endS 2 s).1

theorem endS_keep {why : Int} {s : St} (h : s.1 ≠ 0) : (endS why s).1 = s.1 := if_neg h
theorem endS_zero {why : Int} {s : St} (hw : why ≠ 0) : (endS why s).1 ≠ 0 := by
  unfold endS
  by_cases h : s.1 = 0
  · rw [if_pos h]; exact hw
  · rw [if_neg h]; exact h
theorem takeS_keep {n : Nat} {s : St} (h : s.1 ≠ 0) : (takeS n s).2.1 = s.1 := by
  unfold takeS
  split
  · exact endS_keep h
  · rfl
theorem kindS_keep {s : St} (h : s.1 ≠ 0) : (kindS s).2.1 = s.1 := by
  unfold kindS
  dsimp only
  have e := takeS_keep (n := 1) h
  split
  · exact e
  · rw [endS_keep (by rw [e]; exact h), e]
theorem langS_keep {s : St} (h : (kindS s).2.1 ≠ 0) : (langS s).2.1 = (kindS s).2.1 := takeS_keep h
theorem textS_keep {s : St} (h : s.1 ≠ 0) : (textS s).2.1 = s.1 := by
  unfold textS
  have e := takeS_keep (n := 1) h
  rw [takeS_keep (by rw [e]; exact h), e]
theorem termS_fin {s : St} {e : Int} (he : e ≠ 0) (h : (textS (langS s).2).2.1 = e) : (termS s).2.1 = e := by
  unfold termS
  dsimp only
  split
  · exact h
  · rw [endS_keep (by rw [h]; exact he), h]
theorem termS_lang {s : St} {e : Int} (he : e ≠ 0) (h : (langS s).2.1 = e) : (termS s).2.1 = e :=
  termS_fin he (by rw [textS_keep (by rw [h]; exact he), h])
theorem termS_kind {s : St} {e : Int} (he : e ≠ 0) (h : (kindS s).2.1 = e) : (termS s).2.1 = e :=
  termS_lang he (by rw [langS_keep (by rw [h]; exact he), h])
theorem termS_keep {s : St} (h : s.1 ≠ 0) : (termS s).2.1 = s.1 := termS_kind h (kindS_keep h)
theorem tripS_keep {s : St} (h : s.1 ≠ 0) : (tripS s).2.1 = s.1 := by
  have e1 := termS_keep h
  have e2 := termS_keep (s := (termS s).2) (by rw [e1]; exact h)
  have e3 := termS_keep (s := (termS (termS s).2).2) (by rw [e2, e1]; exact h)
  unfold tripS
  dsimp only
  rw [e3, e2, e1]
theorem loopS_keep {n : Nat} {s : St} (h : s.1 ≠ 0) : loopS n s = ([], s) := by
  cases n with
  | zero => rfl
  | succ n => exact if_neg h
theorem setS_keep {s : St} (h : s.1 ≠ 0) : (setS s).2.1 = s.1 := by
  have e := takeS_keep (n := 2) h
  have e1 : (sizeS s).2.1 = s.1 := by
    unfold sizeS
    dsimp only
    split
    · rw [endS_keep (by rw [e]; exact h), e]
    · exact e
  unfold setS
  rw [loopS_keep (by rw [e1]; exact h)]
  exact e1

theorem takeS_good (l r : List UInt8) : takeS l.length (0, l ++ r) = (l, (0, r)) := by
  unfold takeS
  rw [if_neg (by simp)]
  simp
theorem takeS_short {n : Nat} {p : List UInt8} (h : p.length < n) : takeS n (0, p) = ([], (8, [])) := if_pos h
theorem takeS_ok {n : Nat} {s : St} (h : (takeS n s).2.1 = 0) : s.1 = 0 ∧ n ≤ s.2.length ∧ takeS n s = (s.2.take n, (0, s.2.drop n)) := by
  have h0 : s.1 = 0 := Classical.byContradiction fun hh => hh (by rw [takeS_keep hh] at h; exact h)
  unfold takeS at h ⊢
  by_cases hl : s.2.length < n
  · rw [if_pos hl] at h
    exact absurd h (endS_zero (by decide))
  · rw [if_neg hl]
    exact ⟨h0, by omega, by rw [h0]⟩

/-- a term as bytes; a set; -/
def encT (x : Tm) : List UInt8 := UInt8.ofNat (x.1.toNat + if x.2.2 = [] then 0 else 4) :: (x.2.2 ++ UInt8.ofNat x.2.1.length :: x.2.1)
def encX (x : Tr) : List UInt8 := encT x.1 ++ (encT x.2.1 ++ encT x.2.2)
def encR (l : List Tr) : List UInt8 := l.flatMap encX
def encS (l : List Tr) : List UInt8 := UInt8.ofNat (l.length / 256) :: UInt8.ofNat l.length :: encR l

theorem ok_parts {x : Tm} (h : okTm x = 0) : (x.1 = 1 ∨ x.1 = 2 ∨ x.1 = 3) ∧ x.2.1.length ≤ 24 ∧ (x.2.2 = [] ∨ x.1 = 3 ∧ x.2.2.length = 2) := by
  obtain ⟨hk, hS, hsp⟩ := check_zero h
  refine ⟨hk, hS, ?_⟩
  unfold spellB at hsp
  rcases hk with e | e | e
  · rw [if_pos e] at hsp
    simp at hsp
    exact Or.inl hsp.1
  · rw [if_neg (by omega), if_pos e] at hsp
    simp at hsp
    exact Or.inl hsp.1
  · rw [if_neg (by omega), if_neg (by omega), if_pos e] at hsp
    simp [langOk] at hsp
    rcases hsp.1 with h1 | h1
    · exact Or.inl h1
    · exact Or.inr ⟨e, h1.1⟩

theorem numL_one (b : UInt8) : numL [b] = b.toNat := by simp [numL]
theorem numL_two (a b : UInt8) : numL [a, b] = a.toNat * 256 + b.toNat := by simp [numL]
theorem take_one (c : UInt8) (r : List UInt8) : takeS 1 (0, c :: r) = ([c], (0, r)) := takeS_good [c] r
theorem toNat_ofNat {n : Nat} (h : n < 256) : (UInt8.ofNat n).toNat = n := by
  simp [UInt8.toNat_ofNat']
  omega

theorem kind_good {x : Tm} (h : okTm x = 0) (r : List UInt8) : ∃ n, kindS (0, UInt8.ofNat (x.1.toNat + if x.2.2 = [] then 0 else 4) :: r) = (n, (0, r)) ∧ kindK n = x.1 ∧ kindL n = x.2.2.length := by
  obtain ⟨hk, -, hL⟩ := ok_parts h
  unfold kindS
  rw [take_one]
  dsimp only
  rw [numL_one]
  rcases hL with hL | ⟨h3, hL⟩
  · rw [if_pos hL, hL]
    rcases hk with e | e | e
    all_goals
      rw [e]
      exact ⟨_, rfl, by decide, by decide⟩
  · rw [if_neg (by intro e; rw [e] at hL; simp at hL), h3, hL]
    exact ⟨_, rfl, by decide, by decide⟩

theorem termS_good {x : Tm} (h : okTm x = 0) (r : List UInt8) : termS (0, encT x ++ r) = (x, (0, r)) := by
  obtain ⟨n, hn, hK, hL⟩ := kind_good h (x.2.2 ++ UInt8.ofNat x.2.1.length :: x.2.1 ++ r)
  have hS := (ok_parts h).2.1
  have e0 : encT x ++ r = UInt8.ofNat (x.1.toNat + if x.2.2 = [] then 0 else 4) :: (x.2.2 ++ UInt8.ofNat x.2.1.length :: x.2.1 ++ r) := rfl
  have hg : langS (0, encT x ++ r) = (x.2.2, (0, UInt8.ofNat x.2.1.length :: (x.2.1 ++ r))) := by
    unfold langS
    rw [e0, hn, hL, List.append_assoc]
    exact takeS_good _ _
  have ht : textS (0, UInt8.ofNat x.2.1.length :: (x.2.1 ++ r)) = (x.2.1, (0, r)) := by
    unfold textS
    rw [take_one, numL_one, toNat_ofNat (by omega)]
    exact takeS_good _ _
  have hr : rawS (0, encT x ++ r) = x := by
    unfold rawS
    rw [hg, ht, e0, hn, hK]
  unfold termS
  rw [hr, hg, ht, if_pos h]

theorem short_kind : (kindS (0, [])).2.1 = 8 := by decide
theorem termS_short {x : Tm} (h : okTm x = 0) {n : Nat} (hn : n < (encT x).length) : (termS (0, (encT x).take n)).2.1 = 8 := by
  have hlen : (encT x).length = 2 + x.2.2.length + x.2.1.length := by simp [encT]; omega
  rw [hlen] at hn
  have hS := (ok_parts h).2.1
  cases n with
  | zero => exact termS_kind (by decide) short_kind
  | succ n =>
    obtain ⟨q, hq, hK, hL⟩ := kind_good h ((x.2.2 ++ UInt8.ofNat x.2.1.length :: x.2.1).take n)
    have e0 : (encT x).take (n + 1) = UInt8.ofNat (x.1.toNat + if x.2.2 = [] then 0 else 4) :: ((x.2.2 ++ UInt8.ofNat x.2.1.length :: x.2.1).take n) := rfl
    rw [e0]
    by_cases h1 : n < x.2.2.length
    · refine termS_lang (by decide) ?_
      unfold langS
      rw [hq, hL, takeS_short (by simp; omega)]
    · obtain ⟨m, rfl⟩ : ∃ m, n = x.2.2.length + m := ⟨n - x.2.2.length, by omega⟩
      refine termS_fin (by decide) ?_
      have hg : langS (0, UInt8.ofNat (x.1.toNat + if x.2.2 = [] then 0 else 4) :: ((x.2.2 ++ UInt8.ofNat x.2.1.length :: x.2.1).take (x.2.2.length + m))) = (x.2.2, (0, (UInt8.ofNat x.2.1.length :: x.2.1).take m)) := by
        unfold langS
        rw [hq, hL, List.take_length_add_append]
        exact takeS_good _ _
      rw [hg]
      unfold textS
      cases m with
      | zero =>
        rw [List.take_zero, takeS_short (by simp)]
        exact takeS_keep (by decide)
      | succ m =>
        rw [List.take_succ_cons, take_one, numL_one, toNat_ofNat (by omega), takeS_short (by simp; omega)]

theorem kindS_ok {s : St} (h : (kindS s).2.1 = 0) : ∃ c r, s = (0, c :: r) ∧ kindS s = (c.toNat, (0, r)) ∧ kindB' c.toNat = true := by
  unfold kindS at h ⊢
  dsimp only at h ⊢
  cases hb : kindB' (numL (takeS 1 s).1)
  · rw [hb] at h
    exact absurd h (endS_zero (by decide))
  · rw [hb, if_pos rfl] at h
    obtain ⟨h0, hl, e⟩ := takeS_ok h
    obtain ⟨e0, b⟩ := s
    dsimp only at h0 hl e
    subst h0
    cases b with
    | nil => simp at hl
    | cons c r =>
      refine ⟨c, r, rfl, ?_, ?_⟩
      · rw [if_pos rfl, e]
        simp [numL]
      · rw [e] at hb
        simpa [numL] using hb

theorem termS_ok {s : St} (h : (termS s).2.1 = 0) : s = (0, encT (termS s).1 ++ (termS s).2.2) ∧ okTm (termS s).1 = 0 := by
  have hk : (kindS s).2.1 = 0 := Classical.byContradiction fun hh => hh (by rw [termS_kind hh rfl] at h; exact h)
  have hg : (langS s).2.1 = 0 := Classical.byContradiction fun hh => hh (by rw [termS_lang hh rfl] at h; exact h)
  have ht : (textS (langS s).2).2.1 = 0 := Classical.byContradiction fun hh => hh (by rw [termS_fin hh rfl] at h; exact h)
  have hok : okTm (rawS s) = 0 := Classical.byContradiction fun hh => by
    unfold termS at h
    dsimp only at h
    rw [if_neg hh] at h
    exact endS_zero (by decide) h
  have e2 : (termS s).2 = (textS (langS s).2).2 := by
    unfold termS
    dsimp only
    rw [if_pos hok]
  have e1 : (termS s).1 = rawS s := rfl
  refine ⟨?_, by rw [e1]; exact hok⟩
  rw [e1, e2]
  obtain ⟨c, r, es, ek, hb⟩ := kindS_ok hk
  obtain ⟨-, hl1, eg⟩ := takeS_ok (n := kindL (kindS s).1) (s := (kindS s).2) hg
  have eg : langS s = _ := eg
  rw [ek] at eg hl1
  dsimp only at eg hl1
  have ht0 := ht
  unfold textS at ht0
  have hm : (takeS 1 (langS s).2).2.1 = 0 := Classical.byContradiction fun hh => hh (by rw [takeS_keep hh] at ht0; exact ht0)
  obtain ⟨-, hl2, em⟩ := takeS_ok hm
  obtain ⟨-, hl3, et⟩ := takeS_ok ht0
  have et : textS (langS s).2 = _ := et
  rw [em] at et hl3
  rw [eg] at et hl2 hl3
  dsimp only at et hl2 hl3
  have er : rawS s = (kindK c.toNat, (textS (langS s).2).1, r.take (kindL c.toNat)) := by
    unfold rawS
    rw [ek, eg]
  obtain ⟨h1, h2, h3⟩ := ok_parts hok
  rw [er] at h1 h2 h3 ⊢
  refine es.trans ?_
  obtain ⟨d, q, hdq⟩ : ∃ d q, r.drop (kindL c.toNat) = d :: q := by
    cases hh : r.drop (kindL c.toNat) with
    | nil => rw [hh] at hl2; simp at hl2
    | cons d q => exact ⟨d, q, rfl⟩
  rw [hdq] at et hl3
  rw [show List.take 1 (d :: q) = [d] from rfl, numL_one, show List.drop 1 (d :: q) = q from rfl] at et
  rw [show List.take 1 (d :: q) = [d] from rfl, numL_one, show List.drop 1 (d :: q) = q from rfl] at hl3
  have et' : textS (langS s).2 = (q.take d.toNat, (0, q.drop d.toNat)) := by
    rw [eg]
    dsimp only
    rw [hdq]
    exact et
  rw [et'] at h2 ⊢
  dsimp only at h2 ⊢
  have hd : UInt8.ofNat (q.take d.toNat).length = d := by
    rw [List.length_take_of_le hl3]
    simp
  have hc : UInt8.ofNat ((kindK c.toNat).toNat + if r.take (kindL c.toNat) = [] then 0 else 4) = c := by
    by_cases hc4 : c.toNat = 7
    · have e1 : kindL c.toNat = 2 := if_pos hc4
      have e2 : kindK c.toNat = 3 := if_pos hc4
      rw [e1] at hl1 ⊢
      rw [e2, if_neg (by intro e; have := congrArg List.length e; rw [List.length_take_of_le hl1] at this; simp at this)]
      apply UInt8.toNat.inj
      rw [hc4]
      rfl
    · have e1 : kindL c.toNat = 0 := if_neg hc4
      have e2 : kindK c.toNat = (c.toNat : Int) := if_neg hc4
      rw [e1, e2]
      simp
  unfold encT
  dsimp only
  rw [hc, hd]
  have : r = r.take (kindL c.toNat) ++ d :: (q.take d.toNat ++ q.drop d.toNat) := by
    rw [List.take_append_drop, ← hdq, List.take_append_drop]
  simp only [List.cons_append, List.append_assoc]
  rw [← this]

/-- triples -/
def okTr (x : Tr) : Prop := okTm x.1 = 0 ∧ okTm x.2.1 = 0 ∧ okTm x.2.2 = 0
theorem tripS_good {x : Tr} (h : okTr x) (r : List UInt8) : tripS (0, encX x ++ r) = (x, (0, r)) := by
  have e1 : termS (0, encX x ++ r) = (x.1, (0, encT x.2.1 ++ (encT x.2.2 ++ r))) := by
    rw [show encX x ++ r = encT x.1 ++ (encT x.2.1 ++ (encT x.2.2 ++ r)) by simp [encX]]
    exact termS_good h.1 _
  unfold tripS
  rw [e1]
  dsimp only
  rw [termS_good h.2.1]
  dsimp only
  rw [termS_good h.2.2]
theorem tripS_short {x : Tr} (h : okTr x) {n : Nat} (hn : n < (encX x).length) : (tripS (0, (encX x).take n)).2.1 = 8 := by
  unfold tripS
  dsimp only
  have e0 : encX x = encT x.1 ++ (encT x.2.1 ++ encT x.2.2) := rfl
  rw [e0] at hn ⊢
  simp only [List.length_append] at hn
  by_cases h1 : n < (encT x.1).length
  · rw [List.take_append_of_le_length (by omega)]
    have e := termS_short h.1 h1
    have e2 := termS_keep (s := (termS (0, (encT x.1).take n)).2) (by rw [e]; decide)
    rw [termS_keep (by rw [e2, e]; decide), e2, e]
  · obtain ⟨m, rfl⟩ : ∃ m, n = (encT x.1).length + m := ⟨n - (encT x.1).length, by omega⟩
    rw [List.take_length_add_append, termS_good h.1]
    dsimp only
    by_cases h2 : m < (encT x.2.1).length
    · rw [List.take_append_of_le_length (by omega)]
      have e := termS_short h.2.1 h2
      rw [termS_keep (by rw [e]; decide), e]
    · obtain ⟨k, rfl⟩ : ∃ k, m = (encT x.2.1).length + k := ⟨m - (encT x.2.1).length, by omega⟩
      rw [List.take_length_add_append, termS_good h.2.1]
      exact termS_short h.2.2 (by omega)
theorem tripS_ok {s : St} (h : (tripS s).2.1 = 0) : s = (0, encX (tripS s).1 ++ (tripS s).2.2) ∧ okTr (tripS s).1 := by
  have h3 : (termS (termS (termS s).2).2).2.1 = 0 := h
  have h2 : (termS (termS s).2).2.1 = 0 := Classical.byContradiction fun hh => hh (by rw [termS_keep hh] at h3; exact h3)
  have h1 : (termS s).2.1 = 0 := Classical.byContradiction fun hh => hh (by rw [termS_keep hh] at h2; exact h2)
  obtain ⟨e1, o1⟩ := termS_ok h1
  obtain ⟨e2, o2⟩ := termS_ok h2
  obtain ⟨e3, o3⟩ := termS_ok h3
  refine ⟨?_, o1, o2, o3⟩
  have f2 : (termS s).2.2 = encT (termS (termS s).2).1 ++ (termS (termS s).2).2.2 := congrArg Prod.snd e2
  have f3 : (termS (termS s).2).2.2 = encT (termS (termS (termS s).2).2).1 ++ (termS (termS (termS s).2).2).2.2 := congrArg Prod.snd e3
  show s = (0, (encT (termS s).1 ++ (encT (termS (termS s).2).1 ++ encT (termS (termS (termS s).2).2).1)) ++ (termS (termS (termS s).2).2).2.2)
  rw [List.append_assoc, List.append_assoc, ← f3, ← f2]
  exact e1

theorem loopS_good (l : List Tr) (h : ∀ x ∈ l, okTr x) (r : List UInt8) : loopS l.length (0, encR l ++ r) = (l, (0, r)) := by
  induction l with
  | nil => rfl
  | cons x l ih =>
    have e : tripS (0, encR (x :: l) ++ r) = (x, (0, encR l ++ r)) := by
      rw [show encR (x :: l) ++ r = encX x ++ (encR l ++ r) by simp [encR]]
      exact tripS_good (h x (List.mem_cons_self ..)) _
    rw [List.length_cons]
    unfold loopS
    rw [if_pos rfl, e]
    dsimp only
    rw [ih (fun y hy => h y (List.mem_cons_of_mem _ hy))]
theorem loopS_short (l : List Tr) (h : ∀ x ∈ l, okTr x) {n : Nat} (hn : n < (encR l).length) : (loopS l.length (0, (encR l).take n)).2.1 = 8 := by
  induction l generalizing n with
  | nil => simp [encR] at hn
  | cons x l ih =>
    have e0 : encR (x :: l) = encX x ++ encR l := by simp [encR]
    rw [e0] at hn ⊢
    rw [List.length_append] at hn
    rw [List.length_cons]
    unfold loopS
    rw [if_pos rfl]
    dsimp only
    by_cases h1 : n < (encX x).length
    · rw [List.take_append_of_le_length (by omega)]
      have e := tripS_short (h x (List.mem_cons_self ..)) h1
      rw [loopS_keep (by rw [e]; decide)]
      exact e
    · obtain ⟨m, rfl⟩ : ∃ m, n = (encX x).length + m := ⟨n - (encX x).length, by omega⟩
      rw [List.take_length_add_append, tripS_good (h x (List.mem_cons_self ..))]
      exact ih (fun y hy => h y (List.mem_cons_of_mem _ hy)) (by omega)
theorem loopS_ok (n : Nat) (s : St) (h : (loopS n s).2.1 = 0) : (loopS n s).1.length = n ∧ s = (0, encR (loopS n s).1 ++ (loopS n s).2.2) ∧ ∀ x ∈ (loopS n s).1, okTr x := by
  induction n generalizing s with
  | zero =>
    obtain ⟨e, b⟩ := s
    have h0 : e = 0 := h
    subst h0
    exact ⟨rfl, by simp [loopS, encR], by simp [loopS]⟩
  | succ n ih =>
    have h0 : s.1 = 0 := Classical.byContradiction fun hh => hh (by rw [loopS_keep hh] at h; exact h)
    unfold loopS at h ⊢
    rw [if_pos h0] at h ⊢
    dsimp only at h ⊢
    obtain ⟨a, b, c⟩ := ih _ h
    have ht : (tripS s).2.1 = 0 := congrArg Prod.fst b
    obtain ⟨d, f⟩ := tripS_ok ht
    refine ⟨by rw [List.length_cons, a], ?_, ?_⟩
    · have b2 : (tripS s).2.2 = _ := congrArg Prod.snd b
      dsimp only at b2
      show s = (0, encR ((tripS s).1 :: (loopS n (tripS s).2).1) ++ _)
      rw [show encR ((tripS s).1 :: (loopS n (tripS s).2).1) = encX (tripS s).1 ++ encR (loopS n (tripS s).2).1 by simp [encR], List.append_assoc, ← b2]
      exact d
    · intro x hx
      rcases List.mem_cons.1 hx with e | e
      · rw [e]; exact f
      · exact c x e

theorem sizeS_good (l : List Tr) (hl : l.length ≤ 200) (r : List UInt8) : sizeS (0, UInt8.ofNat (l.length / 256) :: UInt8.ofNat l.length :: r) = (l.length, (0, r)) := by
  have e : takeS 2 (0, UInt8.ofNat (l.length / 256) :: UInt8.ofNat l.length :: r) = ([UInt8.ofNat (l.length / 256), UInt8.ofNat l.length], (0, r)) := takeS_good [_, _] r
  unfold sizeS
  rw [e]
  dsimp only
  rw [numL_two, toNat_ofNat (by omega), toNat_ofNat (by omega), show l.length / 256 * 256 + l.length = l.length by omega, if_neg (by omega)]
theorem setS_good (l : List Tr) (hl : l.length ≤ 200) (h : ∀ x ∈ l, okTr x) (r : List UInt8) : setS (0, encS l ++ r) = (l, (0, r)) := by
  unfold setS
  rw [show encS l ++ r = UInt8.ofNat (l.length / 256) :: UInt8.ofNat l.length :: (encR l ++ r) from rfl, sizeS_good l hl]
  exact loopS_good l h r
theorem setS_short (l : List Tr) (hl : l.length ≤ 200) (h : ∀ x ∈ l, okTr x) {n : Nat} (hn : n < (encS l).length) : (setS (0, (encS l).take n)).2.1 = 8 := by
  have two : ∀ p : List UInt8, p.length < 2 → (setS (0, p)).2.1 = 8 := fun p hp => by
    have e : sizeS (0, p) = (0, (8, [])) := by
      unfold sizeS
      rw [takeS_short hp]
      decide
    unfold setS
    rw [e]
    rfl
  unfold encS at hn ⊢
  match n, hn with
  | 0, _ => exact two _ (by simp)
  | 1, _ => exact two _ (by simp)
  | n + 2, hn =>
    rw [List.take_succ_cons, List.take_succ_cons]
    unfold setS
    rw [sizeS_good l hl]
    exact loopS_short l h (by simp at hn; omega)
theorem setS_ok {s : St} (h : (setS s).2.1 = 0) : s = (0, encS (setS s).1 ++ (setS s).2.2) ∧ (∀ x ∈ (setS s).1, okTr x) ∧ (setS s).1.length ≤ 200 := by
  obtain ⟨a, b, c⟩ := loopS_ok _ _ h
  have hz : (sizeS s).2.1 = 0 := congrArg Prod.fst b
  have b2 : (sizeS s).2.2 = _ := congrArg Prod.snd b
  dsimp only at b2
  by_cases hbig : 200 < numL (takeS 2 s).1
  · unfold sizeS at hz
    dsimp only at hz
    rw [if_pos hbig] at hz
    exact absurd hz (endS_zero (by decide))
  have e2 : (sizeS s).2 = (takeS 2 s).2 := by
    unfold sizeS
    dsimp only
    rw [if_neg hbig]
  have e1 : (sizeS s).1 = numL (takeS 2 s).1 := rfl
  have ht : (takeS 2 s).2.1 = 0 := by rw [← e2]; exact hz
  obtain ⟨h0, hl, et⟩ := takeS_ok ht
  have a : (setS s).1.length = (sizeS s).1 := a
  refine ⟨?_, c, by rw [a, e1]; omega⟩
  have b2 : (sizeS s).2.2 = encR (setS s).1 ++ (setS s).2.2 := b2
  obtain ⟨e0, bs⟩ := s
  dsimp only at h0 hl et
  subst h0
  match bs, hl with
  | u :: v :: r, _ =>
    have en : numL (takeS 2 (0, u :: v :: r)).1 = u.toNat * 256 + v.toNat := by rw [et]; simp [numL]
    have er : (sizeS (0, u :: v :: r)).2.2 = r := by rw [e2, et]; rfl
    rw [er] at b2
    rw [e1, en] at a
    rw [en] at hbig
    unfold encS
    rw [List.cons_append, List.cons_append, ← b2, a]
    have hv := v.toNat_lt
    have hu0 : u.toNat = 0 := by omega
    have hu : UInt8.ofNat ((u.toNat * 256 + v.toNat) / 256) = u := by
      apply UInt8.toNat.inj
      rw [toNat_ofNat (by omega), hu0]
      omega
    have hv' : UInt8.ofNat (u.toNat * 256 + v.toNat) = v := by
      apply UInt8.toNat.inj
      rw [hu0, toNat_ofNat (by omega)]
      omega
    rw [hu, hv']

theorem wholeN_good {r : List UInt8} : wholeN 0 (0, r) = if r = [] then 0 else 2 := by
  unfold wholeN endS
  by_cases h : r = []
  · simp [h]
  · simp [h]
theorem wholeN_keep {wrong : Int} {s : St} (h : s.1 ≠ 0) : wholeN wrong s = s.1 := by
  unfold wholeN
  split
  · rfl
  · exact endS_keep h
theorem wholeN_zero {wrong : Int} {s : St} (h : wholeN wrong s = 0) : wrong = 0 ∧ s = (0, []) := by
  unfold wholeN at h
  by_cases hh : wrong = 0 ∧ s.2 = []
  · rw [if_pos hh] at h
    exact ⟨hh.1, Prod.ext h hh.2⟩
  · rw [if_neg hh] at h
    exact absurd h (endS_zero (by decide))
end Go.Proofs.YtnphjdckdkjopaaGreatDoor

/- A repo in plain words: commits over a store, and branches. -/
namespace Go.Proofs.YtnphjdckdkjopaaGreatDoor
open Go Go.RowKit Go.Proofs
set_option synthInstance.maxSize 1000

/-- a branch: its name, where it leads -/
abbrev Rf := List UInt8 × Nat
/-- a repo: its store's last number and objects, its commits, their graphs, its branches by name -/
structure Rp where
  n : Nat
  L : List Ob
  coms : List Cm
  gr : List (List Tr)
  refs : List Rf
def emptyR : Rp := ⟨0, [], [], [], []⟩
def nameR (b : List UInt8) : Bool := !b.isEmpty && (decide (b.length ≤ 10) && allB letB b)

/-! ### branches -/
def atR : List Rf → List UInt8 → Int
  | [], _ => -1
  | x :: r, b => if x.1 = b then (x.2 : Int) else atR r b
/-- a branch leads to a commit: by name -/
def leadG : List Rf → List UInt8 → Nat → Bool → List Rf
  | [], b, t, p => if p = true then [] else [(b, t)]
  | x :: r, b, t, p => (if p = false ∧ b ≤ x.1 then [(b, t)] else []) ++ (if x.1 ≠ b then [x] else []) ++ leadG r b t (p || decide (b ≤ x.1))
def leadR (l : List Rf) (b : List UInt8) (t : Nat) : List Rf := leadG l b t false
def dropL (l : List Rf) (b : List UInt8) : List Rf := l.filter fun x => decide (x.1 ≠ b)
def ByName (l : List Rf) : Prop := l.Pairwise fun x y => x.1 < y.1

theorem lt_of_le_ne {a b : List UInt8} (h : a ≤ b) (hne : b ≠ a) : a < b := by
  rcases List.le_iff_lt_or_eq.1 h with h | h
  · exact h
  · exact absurd h.symm hne
theorem lead_after {l : List Rf} {b : List UInt8} {t : Nat} : leadG l b t true = dropL l b := by
  induction l with
  | nil => rfl
  | cons x r ih =>
    unfold leadG dropL
    rw [List.filter_cons]
    simp only [Bool.true_eq_false, false_and, if_false, List.nil_append, Bool.true_or]
    rw [ih]
    by_cases e : x.1 = b
    · simp [e, dropL]
    · simp [e, dropL]
theorem mem_lead {l : List Rf} {b : List UInt8} {t : Nat} {y : Rf} : y ∈ leadR l b t ↔ y = (b, t) ∨ (y ∈ l ∧ y.1 ≠ b) := by
  unfold leadR
  induction l with
  | nil => simp [leadG]
  | cons x r ih =>
    unfold leadG
    simp only [true_and, Bool.false_or]
    by_cases hle : b ≤ x.1
    · rw [if_pos hle, decide_eq_true hle, lead_after]
      simp only [List.mem_append, dropL, List.mem_filter, decide_eq_true_eq, List.mem_cons, List.not_mem_nil, or_false]
      by_cases e : x.1 = b
      · rw [if_neg (by simpa using e)]
        constructor
        · rintro ((h | h) | h)
          · exact Or.inl h
          · simp at h
          · exact Or.inr ⟨Or.inr h.1, h.2⟩
        · rintro (h | ⟨rfl | h, h2⟩)
          · exact Or.inl (Or.inl h)
          · exact absurd e h2
          · exact Or.inr ⟨h, h2⟩
      · rw [if_pos e]
        constructor
        · rintro ((h | h) | h)
          · exact Or.inl h
          · simp at h; subst h; exact Or.inr ⟨Or.inl rfl, e⟩
          · exact Or.inr ⟨Or.inr h.1, h.2⟩
        · rintro (h | ⟨rfl | h, h2⟩)
          · exact Or.inl (Or.inl h)
          · exact Or.inl (Or.inr (by simp))
          · exact Or.inr ⟨h, h2⟩
    · have hne : x.1 ≠ b := fun e => hle (by rw [e]; exact List.le_refl _)
      rw [if_neg hle, if_pos hne, decide_eq_false hle]
      simp only [List.nil_append, List.mem_append, List.mem_cons, List.not_mem_nil, or_false, ih]
      constructor
      · rintro (rfl | h | ⟨h, h2⟩)
        · exact Or.inr ⟨Or.inl rfl, hne⟩
        · exact Or.inl h
        · exact Or.inr ⟨Or.inr h, h2⟩
      · rintro (h | ⟨rfl | h, h2⟩)
        · exact Or.inr (Or.inl h)
        · exact Or.inl rfl
        · exact Or.inr (Or.inr ⟨h, h2⟩)
theorem ByName.drop {l : List Rf} (h : ByName l) (b : List UInt8) : ByName (dropL l b) := List.Pairwise.filter _ h
theorem ByName.lead {l : List Rf} (h : ByName l) (b : List UInt8) (t : Nat) : ByName (leadR l b t) := by
  unfold leadR
  induction l with
  | nil => simp [leadG, ByName]
  | cons x r ih =>
    obtain ⟨h1, h2⟩ := List.pairwise_cons.1 h
    unfold leadG
    simp only [true_and, Bool.false_or]
    by_cases hle : b ≤ x.1
    · rw [if_pos hle, decide_eq_true hle, lead_after]
      have hr : ∀ y ∈ dropL r b, b < y.1 := fun y hy => by
        obtain ⟨q1, q2⟩ := List.mem_filter.1 hy
        exact List.lt_of_le_of_lt hle (h1 y q1)
      by_cases e : x.1 = b
      · rw [if_neg (by simpa using e)]
        simp only [List.append_nil]
        exact List.pairwise_cons.2 ⟨hr, ByName.drop h2 b⟩
      · rw [if_pos e]
        refine List.pairwise_cons.2 ⟨fun y hy => ?_, List.pairwise_cons.2 ⟨fun y hy => h1 y (List.mem_filter.1 hy).1, ByName.drop h2 b⟩⟩
        rcases List.mem_cons.1 hy with rfl | hy
        · exact lt_of_le_ne hle e
        · exact hr y hy
    · have hne : x.1 ≠ b := fun e => hle (by rw [e]; exact List.le_refl _)
      rw [if_neg hle, if_pos hne, decide_eq_false hle]
      simp only [List.nil_append]
      refine List.pairwise_cons.2 ⟨fun y hy => ?_, ih h2⟩
      rcases mem_lead.1 hy with rfl | ⟨hy, _⟩
      · exact List.not_le.1 hle
      · exact h1 y hy
theorem names_unique {l m : List Rf} (hl : ByName l) (hm : ByName m) (h : ∀ x, x ∈ l ↔ x ∈ m) : l = m := by
  induction l generalizing m with
  | nil =>
    cases m with
    | nil => rfl
    | cons b r => exact absurd ((h b).2 (List.mem_cons_self ..)) (by simp)
  | cons a s ih =>
    cases m with
    | nil => exact absurd ((h a).1 (List.mem_cons_self ..)) (by simp)
    | cons b r =>
      obtain ⟨l1, l2⟩ := List.pairwise_cons.1 hl
      obtain ⟨m1, m2⟩ := List.pairwise_cons.1 hm
      have hab : a = b := by
        rcases List.mem_cons.1 ((h a).1 (List.mem_cons_self ..)) with e | h1
        · exact e
        · rcases List.mem_cons.1 ((h b).2 (List.mem_cons_self ..)) with e | h2
          · exact e.symm
          · exact absurd (List.lt_trans (m1 a h1) (l1 b h2)) (List.lt_irrefl _)
      subst hab
      congr 1
      refine ih l2 m2 fun x => ?_
      constructor
      · intro hx
        rcases List.mem_cons.1 ((h x).1 (List.mem_cons_of_mem _ hx)) with e | h'
        · have := l1 x hx; rw [e] at this; exact absurd this (List.lt_irrefl _)
        · exact h'
      · intro hx
        rcases List.mem_cons.1 ((h x).2 (List.mem_cons_of_mem _ hx)) with e | h'
        · have := m1 x hx; rw [e] at this; exact absurd this (List.lt_irrefl _)
        · exact h'
theorem atR_mem {l : List Rf} (hl : ByName l) {b : List UInt8} {t : Nat} : atR l b = (t : Int) ↔ (b, t) ∈ l := by
  induction l with
  | nil => simp [atR]
  | cons x r ih =>
    obtain ⟨l1, l2⟩ := List.pairwise_cons.1 hl
    unfold atR
    by_cases e : x.1 = b
    · rw [if_pos e]
      constructor
      · intro h
        have : x = (b, t) := by rw [← e]; exact Prod.ext rfl (Int.ofNat.inj h)
        rw [this]; exact List.mem_cons_self ..
      · intro h
        rcases List.mem_cons.1 h with h | h
        · rw [← h]
        · have := l1 _ h; rw [e] at this; exact absurd this (List.lt_irrefl _)
    · rw [if_neg e, ih l2]
      constructor
      · exact fun h => List.mem_cons_of_mem _ h
      · intro h
        rcases List.mem_cons.1 h with h | h
        · exact absurd (by rw [← h]) e
        · exact h
theorem atR_neg {l : List Rf} {b : List UInt8} : atR l b < 0 ↔ ∀ x ∈ l, x.1 ≠ b := by
  induction l with
  | nil => simp [atR]
  | cons x r ih =>
    unfold atR
    by_cases e : x.1 = b
    · rw [if_pos e]
      constructor
      · intro h; omega
      · intro h; exact absurd e (h x (List.mem_cons_self ..))
    · rw [if_neg e, ih]
      constructor
      · intro h y hy
        rcases List.mem_cons.1 hy with rfl | hy
        · exact e
        · exact h y hy
      · exact fun h y hy => h y (List.mem_cons_of_mem _ hy)
theorem atR_ge (l : List Rf) (b : List UInt8) : -1 ≤ atR l b := by
  induction l with
  | nil => simp [atR]
  | cons x r ih => unfold atR; split <;> omega

/-! ### commits -/
def findC : List Cm → List (List Tr) → List Int → List Tr → List UInt8 → Option Nat
  | c :: cr, g :: gr, ps, s, m => if c.2.2 = m ∧ c.1 = ps ∧ g = s then some 0 else (findC cr gr ps s m).map fun k => k + 1
  | _, _, _, _, _ => none
def fromR (R : Rp) (ps : List Int) : List Tr := match ps with
  | [] => []
  | p :: _ => (R.gr[p.toNat]?).getD []
def bytesR (R : Rp) (ps : List Int) (s : List Tr) : List UInt8 := encS (lessL s (fromR R ps)) ++ encS (lessL (fromR R ps) s)
def addE (R : Rp) (ps : List Int) (s : List Tr) (m : List UInt8) : Int := match findC R.coms R.gr ps s m with
  | some _ => 0
  | none => if 60 ≤ R.coms.length then 4 else putE R.L (bytesR R ps s)
def addI (R : Rp) (ps : List Int) (s : List Tr) (m : List UInt8) : Nat := match findC R.coms R.gr ps s m with
  | some i => i
  | none => if 60 ≤ R.coms.length then 0 else if putE R.L (bytesR R ps s) ≠ 0 then 0 else R.coms.length
def addR (R : Rp) (ps : List Int) (s : List Tr) (m : List UInt8) : Rp := match findC R.coms R.gr ps s m with
  | some _ => R
  | none => if 60 ≤ R.coms.length then R else if putE R.L (bytesR R ps s) ≠ 0 then R else
    ⟨putM R.n R.L (bytesR R ps s), putL R.n R.L (bytesR R ps s), R.coms ++ [(ps, (putI R.n R.L (bytesR R ps s) : Int), m)], R.gr ++ [s], R.refs⟩

def headE (R : Rp) (b : List UInt8) : Int := if nameR b = false then 2 else if atR R.refs b < 0 then 5 else 0
def headI (R : Rp) (b : List UInt8) : Int := if headE R b = 0 then atR R.refs b else 0
def roomR (R : Rp) (b : List UInt8) : Bool := decide (0 ≤ atR R.refs b ∨ R.refs.length < 8)
def setF (s : List Tr) (m : List UInt8) : Int := if sortedN s ≠ 0 then sortedN s else msgN m
def commitF (R : Rp) (b : List UInt8) (s : List Tr) (m : List UInt8) : Int := if nameR b = false then 2 else if setF s m ≠ 0 then setF s m else if roomR R b = false then 4 else 0
def parR (R : Rp) (b : List UInt8) : List Int := if 0 ≤ atR R.refs b then [atR R.refs b] else []
def leadTo (R : Rp) (b : List UInt8) (t : Nat) : Rp := ⟨R.n, R.L, R.coms, R.gr, leadR R.refs b t⟩
def commitE (R : Rp) (b : List UInt8) (s : List Tr) (m : List UInt8) : Int := if commitF R b s m ≠ 0 then commitF R b s m else addE R (parR R b) s m
def commitI (R : Rp) (b : List UInt8) (s : List Tr) (m : List UInt8) : Nat := if commitE R b s m ≠ 0 then 0 else addI R (parR R b) s m
def commitR (R : Rp) (b : List UInt8) (s : List Tr) (m : List UInt8) : Rp := if commitE R b s m ≠ 0 then R else leadTo (addR R (parR R b) s m) b (addI R (parR R b) s m)
def inR (R : Rp) (a : Int) : Bool := decide (0 ≤ a ∧ a < R.coms.length)
def joinF (R : Rp) (b : List UInt8) (o : Int) (s : List Tr) (m : List UInt8) : Int :=
  if headE R b ≠ 0 then headE R b else if inR R o = false then 1 else if o = atR R.refs b then 7 else setF s m
def joinE (R : Rp) (b : List UInt8) (o : Int) (s : List Tr) (m : List UInt8) : Int := if joinF R b o s m ≠ 0 then joinF R b o s m else addE R [atR R.refs b, o] s m
def joinI (R : Rp) (b : List UInt8) (o : Int) (s : List Tr) (m : List UInt8) : Nat := if joinE R b o s m ≠ 0 then 0 else addI R [atR R.refs b, o] s m
def joinR (R : Rp) (b : List UInt8) (o : Int) (s : List Tr) (m : List UInt8) : Rp := if joinE R b o s m ≠ 0 then R else leadTo (addR R [atR R.refs b, o] s m) b (addI R [atR R.refs b, o] s m)
def branchE (R : Rp) (b : List UInt8) (a : Int) : Int := if nameR b = false then 2 else if inR R a = false then 1 else if 0 ≤ atR R.refs b then 7 else if R.refs.length < 8 then 0 else 4
def branchR (R : Rp) (b : List UInt8) (a : Int) : Rp := if branchE R b a ≠ 0 then R else leadTo R b a.toNat
def moveE (R : Rp) (b : List UInt8) (f t : Int) : Int := if headE R b ≠ 0 then headE R b else if atR R.refs b ≠ f then 6 else if inR R t = false then 1 else 0
def moveR (R : Rp) (b : List UInt8) (f t : Int) : Rp := if moveE R b f t ≠ 0 then R else leadTo R b t.toNat
def dropR (R : Rp) (b : List UInt8) : Rp := if headE R b ≠ 0 then R else ⟨R.n, R.L, R.coms, R.gr, dropL R.refs b⟩
def graphE (R : Rp) (a : Int) : Int := if inR R a = true then 0 else 1
def graphL (R : Rp) (a : Int) : List Tr := if inR R a = true then (R.gr[a.toNat]?).getD [] else []

/-- what a repo is -/
structure GoodR (R : Rp) : Prop where
  store : GoodO R.n R.L
  last : R.n ≤ R.coms.length
  coms : GoodC R.coms
  len : R.gr.length = R.coms.length
  sets : ∀ g ∈ R.gr, IsSet g
  refs : ByName R.refs
  names : ∀ x ∈ R.refs, nameR x.1 = true ∧ x.2 < R.coms.length
  few : R.refs.length ≤ 8
end Go.Proofs.YtnphjdckdkjopaaGreatDoor
