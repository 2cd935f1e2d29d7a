/- Sorted and Sort: what they tell of any list, and what comes out. -/
import Derived.Test.YtnlcfnpcjkcdmacGreatDoorTripleOrd
import Derived.Test.YtnlcfnpcjkcdmacGreatDoorTripleFault
import Derived.Test.YtnlcfnpcjkcdmacGreatDoorSortShelf
import Derived.Test.YtnlcfnpcjkcdmacGreatDoorShelf
import Derived.Deep.Upon
namespace Go.Proofs.YtnlcfnpcjkcdmacGreatDoor
open Go Go.RowKit Go.Proofs Go.Sort Go.Lib
set_option synthInstance.maxSize 1000

attribute [local go_sem] eql_errV neq_errV guard_errV

/-- a slice holds a list: of an empty one nothing is said -/
def SlT (w : World) (ad : Option Addr) (l : List Tr) : Prop := l ≠ [] → ∃ b o, ad = some ⟨b, o, none⟩ ∧ RowR w b o l
theorem SlT.below {w w' : World} {ad : Option Addr} {l : List Tr} (h : SlT w ad l) (hb : RowKit.Below w.heap.size w w') : SlT w' ad l := fun hl => by
  obtain ⟨b, o, e, r⟩ := h hl
  exact ⟨b, o, e, r.below hb⟩
theorem SlT.at {w : World} {ad : Option Addr} {l : List Tr} (h : SlT w ad l) (i : Nat) (hi : i < l.length) : ∃ b o, ad = some ⟨b, o, none⟩ ∧ RowR w b o l :=
  h (fun e => by rw [e] at hi; simp at hi)

def chkAt (l : List Tr) (i : Nat) : Int := if h : i < l.length then chkTr l[i] else 0
theorem chkAt_eq (l : List Tr) (i : Nat) (h : i < l.length) : chkAt l i = chkTr l[i] := dif_pos h

theorem enters126 : ∀ args w, (callFunc 126 args).run Tryz.prog w = .ok (.enter 126 args) w := enters_of Tryz.func126 (by kernel_rfl) rfl
theorem enters68 : ∀ args w, (callFunc 68 args).run Tryz.prog w = .ok (.enter 68 args) w := enters_of Tryz.func68 (by kernel_rfl) rfl
theorem enters70 : ∀ args w, (callFunc 70 args).run Tryz.prog w = .ok (.enter 70 args) w := enters_of Tryz.func70 (by kernel_rfl) rfl

theorem keepSlI {bl : Nat} {ad : Option Addr} {cap : Nat} {l : List Tr} : ∀ W W', (W.cell? ⟨bl, 0, none⟩ = some (.slice ad l.length cap) ∧ SlT W ad l) → RowKit.Below W.heap.size W W' → (W'.cell? ⟨bl, 0, none⟩ = some (.slice ad l.length cap) ∧ SlT W' ad l) :=
  fun W _ h hb => ⟨(hb.cell (World.block_lt_of_cell? W _ h.1)).trans h.1, h.2.below hb⟩

theorem faultSort_any (ad : Option Addr) (cap bl : Nat) (l : List Tr) (w : World) (hbox : w.cell? ⟨bl, 0, none⟩ = some (.slice ad l.length cap)) (h : SlT w ad l) (hfit : ∀ x ∈ l, fitTr x) (hn : l.length ≤ 9223372036854775807) :
    Calls Tryz.prog 67 #[.slice ad l.length cap, .func (.func 126) #[] #[.pointer (some ⟨bl, 0, none⟩)]] w fun e w' => e = .returned (errV (faultN (chkAt l) l.length)) ∧ RowKit.Below w.heap.size w w' :=
  firstFault_any ad l.length cap 126 bl (chkAt l) (fun W => W.cell? ⟨bl, 0, none⟩ = some (.slice ad l.length cap) ∧ SlT W ad l) w hn enters126 ⟨hbox, h⟩ keepSlI
    (fun _ i W hi hI => by
      obtain ⟨b, o, rfl, hr⟩ := hI.2.at i hi
      rw [chkAt_eq l i hi]
      exact sortFault_any b o cap bl l i W hi (hfit _ (List.getElem_mem hi)) hI.1 hr)

theorem faultSorted_any (ad : Option Addr) (cap bl : Nat) (l : List Tr) (w : World) (hbox : w.cell? ⟨bl, 0, none⟩ = some (.slice ad l.length cap)) (h : SlT w ad l) (hfit : ∀ x ∈ l, fitTr x) (hn : l.length ≤ 9223372036854775807) :
    Calls Tryz.prog 67 #[.slice ad l.length cap, .func (.func 68) #[] #[.pointer (some ⟨bl, 0, none⟩)]] w fun e w' => e = .returned (errV (faultN (stepN l) l.length)) ∧ RowKit.Below w.heap.size w w' :=
  firstFault_any ad l.length cap 68 bl (stepN l) (fun W => W.cell? ⟨bl, 0, none⟩ = some (.slice ad l.length cap) ∧ SlT W ad l) w hn enters68 ⟨hbox, h⟩ keepSlI
    (fun h200 i W hi hI => by
      obtain ⟨b, o, rfl, hr⟩ := hI.2.at i hi
      exact sortedFault_any b o cap bl l i W hi h200 (hfit _ (List.getElem_mem hi)) hI.1 hr)

/-- what Sorted tells of a list -/
def sortedN (l : List Tr) : Int := faultN (stepN l) l.length
theorem Sorted_any (ad : Option Addr) (cap : Nat) (l : List Tr) (w : World) (h : SlT w ad l) (hfit : ∀ x ∈ l, fitTr x) (hn : l.length ≤ 9223372036854775807) :
    Calls Tryz.prog 40 #[.slice ad l.length cap] w fun e w' => e = .returned (errV (sortedN l)) ∧ RowKit.Below w.heap.size w w' := by
  have H := fun W hb hs => faultSorted_any ad cap w.heap.size l W hb hs hfit hn
  have Hs : Hid (SlT w ad l) := h
  clear h
  go_enter Tryz.func40, Tryz.ntmps40
  go_wp2_with fail
  refine (H _ (by go_simp) (Hs.out.below (balloc _ _))).mono ?_
  rintro e w1 ⟨rfl, hb1⟩
  go_wp2_with fail
  go_ret
  exact ⟨rfl, bstep (balloc _ _) hb1⟩

/-! ### the sort -/
theorem flat_get (l : List Tr) (j : Nat) (hj : j < l.length * 9) : (cellsT l)[j]? = some (flatK encTr 9 l.toArray)[j]! := by
  have hi : j / 9 < l.length := by omega
  have h1 := cellsT_at l (j / 9) hi (j % 9) (by omega)
  rw [show j / 9 * 9 + j % 9 = j by omega] at h1
  rw [h1, get_flatK _ _ _ j (by simpa using hj), List.getElem?_eq_getElem (by rw [encTr_len]; omega)]
  have e : l.toArray[j / 9]! = l[j / 9] := by rw [getElem!_pos l.toArray (j / 9) (by simpa using hi)]; simp
  rw [e, getElem!_pos (encTr l[j / 9]) (j % 9) (by rw [encTr_len]; omega)]

theorem rowR_holds {w : World} {b o : Nat} {l : List Tr} (h : HoldsK encTr 9 w b o l.toArray) : RowR w b o l := fun j v hv => by
  have hj : j < l.length * 9 := by
    have := (List.getElem?_eq_some_iff.1 hv).1
    rwa [cellsT_len] at this
  rw [flat_get l j hj] at hv
  rw [(h j (by simpa using hj)).1]
  exact hv
theorem RowR.prefix {w : World} {b o : Nat} {l m : List Tr} (h : RowR w b o (l ++ m)) : RowR w b o l := fun j v hv => h j v (by
  simp only [cellsT, List.flatMap_append]
  rw [List.getElem?_append_left (by exact (List.getElem?_eq_some_iff.1 hv).1)]
  exact hv)

theorem holds_new (w : World) (l : List Tr) (zs : Array Value) (e : TypeId) : HoldsK encTr 9 (w.alloc (.cells ((cellsT l).toArray ++ zs) e)) w.heap.size 0 l.toArray := fun j hj => by
  have hj' : j < l.length * 9 := by simpa using hj
  have hl : j < (cellsT l).length := by rw [cellsT_len]; exact hj'
  have h1 := flat_get l j hj'
  refine ⟨?_, by simp⟩
  simp only [World.cell?, World.alloc, Array.getElem?_push_size, Nat.zero_add, Option.isSome_none, Bool.false_eq_true, if_false, id_eq]
  rw [Array.getElem?_append_left (by simpa using hl), List.getElem?_toArray, h1]

theorem SortFunc_any (b cap : Nat) (d : Array Tr) (w : World) (hH : HoldsK encTr 9 w b 0 d) (hb : b < w.heap.size) (hsz : d.size ≤ 200) :
    Calls Tryz.prog 127 #[.slice (some ⟨b, 0, none⟩) d.size cap, .func (.func 70) #[] #[]] w
      fun e w' => e = .returned (.tuple #[]) ∧ ∃ d' n os, PermIn 0 d.size d d' ∧ SortedIn (ltOf cmpTr) 0 d.size d' ∧ w' = sortWorldK encTr 9 w b 0 n d' os :=
  AnyQ.slices_SortFunc Tryz.sortTr 9 Tryz.isAgg82 Tryz.sizeOf82 encTr encTr_len encTr_one cmpTr swoTr 70 #[] b 0 cap d w enters70
    (fun _ _ _ _ x y => CmpTr_any x y _) hH hb (by omega)

/-! ### nothing to sort -/
theorem insertNone (w : World) : Calls Tryz.prog 139 #[.slice none 0 0, .int .i64 0, .int .i64 0, .func (.func 70) #[] #[]] w fun e w' => e = .returned (.tuple #[]) ∧ w' = w := by
  go_enter Tryz.func139, Tryz.ntmps139
  go_wp2
  go_loop [8] (fun i => i = .int .i64 1) (fun _ => 0)
  case atStart => rfl
  case round =>
    subst hrel
    go_wp2
    go_end0
    exact ⟨rfl, rfl⟩

theorem pdqNone (n : Int) (w : World) : Calls Tryz.prog 138 #[.slice none 0 0, .int .i64 0, .int .i64 0, .int .i64 n, .func (.func 70) #[] #[]] w fun e w' => e = .returned (.tuple #[]) ∧ w' = w := by
  go_enter Tryz.func138, Tryz.ntmps138
  go_wp2
  go_loop [1, 2] (fun a b => a = .int .i64 0 ∧ b = .int .i64 0) (fun _ _ => 0)
  case atStart => exact ⟨rfl, rfl⟩
  case round =>
    obtain ⟨rfl, rfl⟩ := hrel
    go_wp2_with (go_at_call 139; refine (insertNone _).mono ?_; rintro e w' ⟨rfl, rfl⟩)
    exact bodyPost_ret (v := .tuple #[]) (by simp [results, Tryz.results138, go_sem]) rfl ⟨rfl, rfl⟩

theorem SortFuncNone (w : World) : Calls Tryz.prog 127 #[.slice none 0 0, .func (.func 70) #[] #[]] w fun e w' => e = .returned (.tuple #[]) ∧ w' = w := by
  go_enter Tryz.func127, Tryz.ntmps127
  go_wp2_with (first
    | (go_at_call 75; refine (Tryz.bits_Len 0 _ (by omega) (by omega)).mono ?_; rintro e w' ⟨rfl, rfl⟩)
    | (go_at_call 138; refine (pdqNone _ _).mono ?_; rintro e w' ⟨rfl, rfl⟩))
  go_end0
  exact ⟨rfl, rfl⟩

theorem CompactNone (w : World) : Calls Tryz.prog 128 #[.slice none 0 0] w fun e w' => e = .returned (.slice none 0 0) ∧ w' = w := by
  go_enter Tryz.func128, Tryz.ntmps128
  go_wp2
  go_ret
  exact ⟨rfl, rfl⟩

/-! ### Sort -/
/-- what Sort tells of a list -/
def sortN (l : List Tr) : Int := faultN (chkAt l) l.length

theorem infoTr : (Tryz.prog.info? 82).map (fun i => (i.zero, i.size, i.bytes)) = some (some (.agg (encTr zeroTr).toArray), 9, 120) := by kernel_rfl

/-- the sort's world: nothing older than the row has turned -/
theorem below_sort {w : World} {b n B : Nat} {d : Array Tr} {os : Array Obj} (hB : B ≤ b) (hBw : B ≤ w.heap.size) : RowKit.Below B w (sortWorldK encTr 9 w b 0 n d os) := by
  refine ⟨rfl, rfl, rfl, ?_, fun k hk => ?_⟩
  · show w.heap.size ≤ (_ ++ os).size
    simp [putRowK, putRow, mapBlock, Sort.ahead]
  · show (_ ++ os)[k]? = _
    rw [Array.getElem?_append_left (by simp [putRowK, putRow, mapBlock, Sort.ahead]; omega)]
    simp only [putRowK, putRow, mapBlock, Sort.ahead, Array.getElem?_modify]
    rw [if_neg (by omega)]
theorem below_put {w : World} {b o q B : Nat} {d : Array Tr} (hB : B ≤ b) : RowKit.Below B w (putRowK encTr 9 (Sort.ahead w q) b o d) := by
  refine ⟨rfl, rfl, rfl, by simp [putRowK, putRow, mapBlock, Sort.ahead], fun k hk => ?_⟩
  simp only [putRowK, putRow, mapBlock, Sort.ahead, Array.getElem?_modify]
  rw [if_neg (by omega)]

set_option maxHeartbeats 1000000 in
theorem Sort_bad (ad : Option Addr) (cap : Nat) (l : List Tr) (w : World) (h : SlT w ad l) (hfit : ∀ x ∈ l, fitTr x) (hn : l.length ≤ 9223372036854775807) (hbad : sortN l ≠ 0) :
    Calls Tryz.prog 109 #[.slice ad l.length cap] w fun e w' => e = .returned (.tuple #[.slice none 0 0, errV (sortN l)]) ∧ RowKit.Below w.heap.size w w' := by
  have H := fun W hb hs => faultSort_any ad cap w.heap.size l W hb hs hfit hn
  have Hs : Hid (SlT w ad l) := h
  have hb' : (faultN (chkAt l) l.length == 0) = false := by simpa [sortN] using hbad
  clear h hbad
  unfold sortN
  go_enter Tryz.func109, Tryz.ntmps109
  go_wp2_with fail
  refine (H _ (by go_simp) (Hs.out.below (balloc _ _))).mono ?_
  rintro e w1 ⟨rfl, hb1⟩
  go_wp2_with fail
  exact bodyPost_ret (v := .tuple #[.slice none 0 0, errV (faultN (chkAt l) l.length)]) (by simp [results, Tryz.results109, go_sem]) rfl ⟨rfl, bstep (balloc _ _) hb1⟩

/-- an append whose run is known -/
theorem wpList_append_eq {P : Program} {w w' : World} {ops : Array Oper} {rest : List Oper} {o : Oper} {a : Act} {Q : Exit → Act → World → Prop} {v x y : Value} (hgd : o.guard = none) (s z : Operand) (t : TypeId)
    (ho : o.op = .call { callee := .builtin .append, args := #[s, z], argTypes := #[t, t] }) (hs : a.eval s = x) (hx : a.eval z = y) (hrun : (Builtin.append_ #[t, t] o.type #[x, y]).run P w = .ok v w')
    (h : wpList P ops Q rest (a.put o.dst v) w') : wpList P ops Q (o :: rest) a w := by
  refine wpList_plain hgd fun K hK => ?_
  unfold Oper.wp
  simp [execOp, ho, resolve, invoke, builtin, hs, hx, hrun, Result.andThen]
  exact hK _ _ h

theorem append_nothing (ad : Option Addr) (cap : Nat) (W : World) (ty : TypeId) : (Builtin.append_ #[22, 22] ty #[.slice none 0 0, .slice ad 0 cap]).run Tryz.prog W = .ok (.slice none 0 0) W := by
  obtain ⟨i, hi, hz⟩ := Option.map_eq_some_iff.1 infoTr
  cases ad with
  | none => simp [Builtin.append_, run_underlying Tryz.underlying22, sizeOf, typeInfo, hi, Builtin.lenOf, run_firstCells_none]
  | some a =>
    have hf := run_firstCells_some (P := Tryz.prog) W i.size 0 a 0 cap [] (by simp) (by simp)
    simp [Builtin.append_, run_underlying Tryz.underlying22, sizeOf, typeInfo, hi, Builtin.lenOf, hf]

theorem append_some (b o cap : Nat) (l : List Tr) (W : World) (ty : TypeId) (hl : 0 < l.length) (h200 : l.length ≤ 200) (hr : RowR W b o l) :
    ∃ c zs, l.length ≤ c ∧ (Builtin.append_ #[22, 22] ty #[.slice none 0 0, .slice (some ⟨b, o, none⟩) l.length cap]).run Tryz.prog W = .ok (.slice (some ⟨W.heap.size, 0, none⟩) l.length c) (W.drew.alloc (.cells ((cellsT l).toArray ++ zs) 82)) := by
  obtain ⟨i, hi, hz⟩ := Option.map_eq_some_iff.1 infoTr
  simp only [Prod.mk.injEq] at hz
  have h := run_append_nil (P := Tryz.prog) W 22 ty 82 i _ Tryz.underlying22 hi hz.1 ⟨b, o, none⟩ l.length cap (cellsT l) (by rw [cellsT_len, hz.2.1])
    (fun j v hv => by rw [Addr.add_lit]; exact hr j v hv) hl (by omega) (by rw [hz.2.2]; omega)
  exact ⟨_, _, by have := grownCap_ge W l.length 0 82; omega, h⟩

set_option maxHeartbeats 1000000 in
set_option maxRecDepth 100000 in
theorem Sort_none (ad : Option Addr) (cap : Nat) (w : World) :
    Calls Tryz.prog 109 #[.slice ad 0 cap] w fun e w' => e = .returned (.tuple #[.slice none 0 0, .nilIface]) ∧ RowKit.Below w.heap.size w w' := by
  have H := fun W hb hs => faultSort_any ad cap w.heap.size [] W hb hs (by simp) (by simp)
  rw [show faultN (chkAt []) ([] : List Tr).length = 0 from rfl, show errV 0 = .nilIface from rfl] at H
  go_enter Tryz.func109, Tryz.ntmps109
  go_wp2_with fail
  refine (H _ (by go_simp) (fun h => absurd rfl h)).mono ?_
  rintro e w1 ⟨rfl, hb1⟩
  obtain ⟨k1, f1⟩ := bcell hb1
  go_wp2_with (first
    | (at_builtin; refine wpList_append_eq rfl _ _ 22 rfl rfl rfl (append_nothing ad cap _ _) ?_)
    | (go_at_call 127; refine (SortFuncNone _).mono ?_; rintro e w' ⟨rfl, rfl⟩)
    | (go_at_call 128; refine (CompactNone _).mono ?_; rintro e w' ⟨rfl, rfl⟩))
  exact bodyPost_ret (v := .tuple #[.slice none 0 0, .nilIface]) (by simp [results, Tryz.results109, go_sem]) rfl ⟨rfl, bstep (balloc _ _) hb1⟩

theorem compRow_size (d : Array Tr) : (compRow d).size = d.size := by
  have := comp_len d
  simp [compRow]
  omega

set_option maxHeartbeats 1000000 in
set_option maxRecDepth 100000 in
theorem Sort_some (b o cap : Nat) (l : List Tr) (w : World) (hl : 0 < l.length) (hr : RowR w b o l) (hfit : ∀ x ∈ l, fitTr x) (h200 : l.length ≤ 200) (hgood : sortN l = 0) :
    Calls Tryz.prog 109 #[.slice (some ⟨b, o, none⟩) l.length cap] w fun e w' => RowKit.Below w.heap.size w w' ∧ ∃ (m : List Tr) (b' c : Nat), e = .returned (.tuple #[.slice (some ⟨b', 0, none⟩) m.length c, .nilIface]) ∧ RowR w' b' 0 m ∧ Rising m ∧ (∀ x, x ∈ m ↔ x ∈ l) ∧ m.length ≤ l.length := by
  have Hr : Hid (RowR w b o l) := hr
  have H := fun W hb hs => faultSort_any (some ⟨b, o, none⟩) cap w.heap.size l W hb hs hfit (by omega)
  rw [show faultN (chkAt l) l.length = 0 from hgood, show errV 0 = .nilIface from rfl] at H
  clear hr hfit
  go_enter Tryz.func109, Tryz.ntmps109
  go_wp2_with fail
  refine (H _ (by go_simp) (fun _ => ⟨b, o, rfl, Hr.out.below (balloc _ _)⟩)).mono ?_
  rintro e w1 ⟨rfl, hb1⟩
  obtain ⟨k1, f1⟩ := bcell hb1
  have hsz1 := hb1.size
  have hr1 : Hid (RowR w1 b o l) := (Hr.out.below (balloc _ _)).below hb1
  obtain ⟨c, zs, hc, hap⟩ := append_some b o cap l w1 22 hl h200 hr1.out
  have Hap : Hid (_ = _) := hap
  have hS := SortFunc_any w1.heap.size c l.toArray (w1.drew.alloc (.cells ((cellsT l).toArray ++ zs) 82)) (holds_new w1.drew l zs _) (by simp) (by simpa using h200)
  rw [List.size_toArray] at hS
  have HS : Hid (Calls Tryz.prog 127 _ _ _) := hS
  clear hap hS H
  go_wp2_with (first
    | (at_builtin; refine wpList_append_eq rfl _ _ 22 rfl rfl rfl Hap.out ?_))
  go_at_call 127
  refine HS.out.mono ?_
  rintro e w3 ⟨rfl, d', n, os, hp, hsd, rfl⟩
  have hds : d'.size = l.length := by have := hp.1; simpa using this
  have hH3 := holdsK_sortWorldK encTr 9 (w1.drew.alloc (.cells ((cellsT l).toArray ++ zs) 82)) w1.heap.size 0 n l.toArray d' os (by simp) (holds_new w1.drew l zs _) (by simpa using hds)
  have hC := Compact_any w1.heap.size 0 c d' _ hH3 (by omega) (by omega)
  rw [hds] at hC
  go_wp2_with fail
  refine hC.mono ?_
  rintro e w4 ⟨rfl, q, rfl⟩
  go_wp2_with fail
  refine bodyPost_ret (v := .tuple #[.slice (some ⟨w1.heap.size, 0, none⟩) (compactUpTo d' d'.size).length c, .nilIface]) (by simp [results, Tryz.results109, go_sem, hds]) rfl ⟨?_, compactUpTo d' d'.size, w1.heap.size, c, rfl, ?_, ?_, ?_, ?_⟩
  · have hw1 : w.heap.size ≤ w1.heap.size := by simp at hsz1; omega
    exact ((bstep (bstep (balloc _ _) hb1).drew (balloc _ _)).trans (below_sort hw1 (by simp; omega))).trans (below_put hw1)
  · have hh := holdsK_putRowK encTr 9 (Sort.ahead _ q) w1.heap.size 0 d' (compRow d') (holdsK_ahead encTr 9 _ q w1.heap.size 0 d' hH3) (compRow_size d')
    exact (rowR_holds (l := compactUpTo d' d'.size ++ List.replicate (d'.size - (compactUpTo d' d'.size).length) zeroTr) hh).prefix
  · refine comp_rising d' ?_
    rw [hds]
    simpa using hsd
  · intro x
    rw [comp_mem]
    have hperm : d'.toList.Perm l := by
      have := hp.2.2
      rw [show d'.extract 0 l.toArray.size = d' by rw [List.size_toArray, ← hds]; simp] at this
      simpa using this
    exact hperm.mem_iff
  · have := comp_len d'
    omega
end Go.Proofs.YtnlcfnpcjkcdmacGreatDoor
