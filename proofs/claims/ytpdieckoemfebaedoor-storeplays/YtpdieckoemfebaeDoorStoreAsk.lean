/- The program's store in memory; New, Len, Find, Get, has: what they tell. -/
import Derived.Test.YtpdieckoemfebaeDoorStoreMaps
import Derived.Test.YtpdieckoemfebaeDoorShelf
namespace Go.Proofs.YtpdieckoemfebaeDoor
open Go Go.RowKit Go.Proofs Go.Maps
set_option synthInstance.maxSize 1000

/-- the store at block s: its two maps, and the last number -/
structure SAt (w : World) (s b1 b2 n : Nat) (L : List Ob) : Prop where
  ne : b1 ≠ b2
  n1 : s ≠ b1
  n2 : s ≠ b2
  c0 : w.cell? ⟨s, 0, none⟩ = some (.map (some b1))
  c1 : w.cell? ⟨s, 1, none⟩ = some (.map (some b2))
  c2 : w.cell? ⟨s, 2, none⟩ = some (.int .i64 (n : Int))
  fz : w.frozen? ⟨s, 2, none⟩ = false
  two : ∃ D1 D2 : DataW Unit, w.ownsMap Tryd.prog 9 (plainElem Tryd.prog 3) b1 n D1 ∧ w.ownsMap Tryd.prog 3 objElem b2 n D2 ∧ NumD D1 L ∧ ObjD D2 L ∧ Maps.size D2 = L.length
  short : ∀ x ∈ L, x.2.length ≤ reachBytes
  big : n ≤ 1000001

theorem ownsMap_block {H : Type} {R : Value → Option (DataW H × List MemPlace)} {k : TypeId} {w w' : World} {b n : Nat} {D : DataW H} (h : w.ownsMap Tryd.prog k R b n D) (hb : w'.heap[b]? = w.heap[b]?) : w'.ownsMap Tryd.prog k R b n D := by
  obtain ⟨es, clock, hm, r⟩ := h
  exact ⟨es, clock, hb.trans hm, r⟩
theorem SAt.kept {w w' : World} {s b1 b2 n : Nat} {L : List Ob} (h : SAt w s b1 b2 n L) (hs : w'.heap[s]? = w.heap[s]?) (h1 : w'.heap[b1]? = w.heap[b1]?) (h2 : w'.heap[b2]? = w.heap[b2]?) : SAt w' s b1 b2 n L := by
  obtain ⟨D1, D2, o1, o2, r⟩ := h.two
  exact ⟨h.ne, h.n1, h.n2, (World.cell?_of_block (w := w) hs).trans h.c0, (World.cell?_of_block (w := w) hs).trans h.c1, (World.cell?_of_block (w := w) hs).trans h.c2, (World.frozen?_of_block (w := w) hs).trans h.fz, ⟨D1, D2, ownsMap_block o1 h1, ownsMap_block o2 h2, r⟩, h.short, h.big⟩
theorem SAt.lts {w : World} {s b1 b2 n : Nat} {L : List Ob} (h : SAt w s b1 b2 n L) : s < w.heap.size := World.block_lt_of_cell? w _ h.c0
theorem SAt.lt1 {w : World} {s b1 b2 n : Nat} {L : List Ob} (h : SAt w s b1 b2 n L) : b1 < w.heap.size := by
  obtain ⟨D1, D2, o1, o2, r⟩ := h.two
  exact o1.lt
theorem SAt.lt2 {w : World} {s b1 b2 n : Nat} {L : List Ob} (h : SAt w s b1 b2 n L) : b2 < w.heap.size := by
  obtain ⟨D1, D2, o1, o2, r⟩ := h.two
  exact o2.lt
theorem SAt.below {w w' : World} {s b1 b2 n : Nat} {L : List Ob} (h : SAt w s b1 b2 n L) (hb : RowKit.Below w.heap.size w w') : SAt w' s b1 b2 n L :=
  h.kept (hb.block s h.lts) (hb.block b1 h.lt1) (hb.block b2 h.lt2)

def ownO (s b1 b2 : Nat) (j : Nat) : Prop := j = s ∨ j = b1 ∨ j = b2
def StoreAt (w : World) (s : Nat) (O : Nat → Prop) (n : Nat) (L : List Ob) : Prop := ∃ b1 b2, SAt w s b1 b2 n L ∧ ∀ j, O j ↔ ownO s b1 b2 j

theorem makeNums (w : World) : (Instr.makeMap 56 none).run Tryd.prog w = .ok (.map (some w.heap.size)) (w.alloc (.map #[] 0)) := by kernel_rfl
theorem makeObjs (w : World) : (Instr.makeMap 57 none).run Tryd.prog w = .ok (.map (some w.heap.size)) (w.alloc (.map #[] 0)) := by kernel_rfl
theorem zeroNum (w : World) : (zeroValue 3).run Tryd.prog w = .ok (.int .i64 0) w := by kernel_rfl
theorem zeroObj (w : World) : (zeroValue 65).run Tryd.prog w = .ok (valOb []) w := by kernel_rfl

/-- a look-up in either map -/
theorem look_num {w : World} {s b1 b2 n : Nat} {L : List Ob} (h : SAt w s b1 b2 n L) (t : List UInt8) (ht : t.length ≤ maxLen) :
    (Instr.lookup 56 (.map (some b1)) (.string ⟨t.toArray⟩) true).run Tryd.prog w = .ok (.tuple #[.int .i64 (findO L t : Int), .bool (decide (findO L t ≠ 0))]) w := by
  obtain ⟨D1, D2, o1, o2, f1, f2, hs⟩ := h.two
  obtain ⟨v, ps, hrun, hv⟩ := o1.look_ok keyedSO Tryd.underlying56 (zeroNum w) (plainElem_int Tryd.underlying3 (by decide)) (keyS t ht)
  rw [(f1 t ht).2] at hv
  obtain ⟨a, rfl, ha, _⟩ := plainElem_int_inv Tryd.underlying3 hv
  simp only [Prod.mk.injEq, DataW.lit.injEq, Lit.int.injEq, true_and] at ha
  rw [hrun, (f1 t ht).1, ha.1]
theorem not_wf {z : Int} (hz : (Lit.int .i64 z).wf ≠ true) {n : Nat} (hn : n ≤ 1000001) : ∀ x : Ob, 1 ≤ x.1 ∧ x.1 ≤ n → (x.1 : Int) ≠ z := fun x hx e => hz (by rw [← e]; exact wfO (by omega) (by omega))
theorem look_obj {w : World} {s b1 b2 n : Nat} {L : List Ob} (h : SAt w s b1 b2 n L) (hg : ∀ x ∈ L, 1 ≤ x.1 ∧ x.1 ≤ n) (z : Int) :
    (Instr.lookup 57 (.map (some b2)) (.int .i64 z) true).run Tryd.prog w = .ok (.tuple #[valOb ((getO L z).getD []), .bool (getO L z).isSome]) w := by
  obtain ⟨D1, D2, o1, o2, f1, f2, hs⟩ := h.two
  by_cases hz : (Lit.int .i64 z).wf = true
  · obtain ⟨v, ps, hrun, hv⟩ := o2.look_ok keyedIO Tryd.underlying57 (zeroObj w) (objElem_mk []) (keyN hz)
    rw [(f2 z hz).2] at hv
    rw [hrun, (f2 z hz).1, objElem_inv hv]
  · have hno : getO L z = none := getO_none fun x hx => not_wf hz h.big x (hg x hx)
    rw [hno]
    obtain ⟨es, clock, hb, F, _⟩ := o2
    have hks : ∀ y ∈ es.toList, MapKept.IsKey (.int .i64) y.key := fun y hy => by
      obtain ⟨l, hl⟩ := F.keys y hy
      obtain ⟨x, hx, _⟩ := Maps.keyOf_int_inv Tryd.underlying3 hl
      rw [hx]
      rfl
    rcases MapKept.findNow_spec (d := .int .i64) (k := .int .i64 z) rfl es.toList 0 hks with ⟨h1, h2⟩ | ⟨j, e0, h1, h2, h3⟩
    · simp [Instr.lookup, run_underlying Tryd.underlying57, MapKept.run_getObj_map hb, MapKept.run_checkKey (k := .int .i64 z) Tryd.underlying3 rfl _ 9999, MapKept.run_findKey Tryd.underlying3 h1, Result.andThen]
      rfl
    · exfalso
      obtain ⟨l, hl⟩ := F.keys e0 (List.mem_of_getElem? h2)
      obtain ⟨x, hx, _, hw⟩ := Maps.keyOf_int_inv Tryd.underlying3 hl
      rw [h3] at hx
      cases hx
      exact hz hw

set_option maxHeartbeats 1000000 in
theorem SNew_any (w : World) : Calls Tryd.prog 5 #[] w fun e w' => e = .returned (.pointer (some ⟨w.heap.size + 2, 0, none⟩)) ∧ SAt w' (w.heap.size + 2) w.heap.size (w.heap.size + 1) 0 [] ∧ RowKit.Below w.heap.size w w' := by
  have h1 := makeNums
  have h2 := makeObjs
  go_enter Tryd.func5, Tryd.ntmps5
  go_wp2_with fail
  go_ret
  refine ⟨by simp, ⟨by omega, by omega, by omega, by go_simp, by go_simp, by go_simp, by go_simp, ⟨.map [], .map [], ?_, ?_, NumD.nil, ObjD.nil, rfl⟩, by simp, by omega⟩, ?_⟩
  · exact ((World.ownsMap_made _ _ _ _).alloc _).alloc _
  · have := (World.ownsMap_made (w.alloc (.map #[] 0)) Tryd.prog 3 objElem).alloc (.cells #[.map (some w.heap.size), .map (some (w.heap.size + 1)), .int .i64 0] 59)
    simpa using this
  · exact bstep (bstep (balloc _ _) (balloc _ _)) (balloc _ _)

theorem SLen_any (w : World) (s b1 b2 n : Nat) (L : List Ob) (h : SAt w s b1 b2 n L) :
    Calls Tryd.prog 9 #[.pointer (some ⟨s, 0, none⟩)] w fun e w' => e = .returned (.int .i64 (L.length : Int)) ∧ w' = w := by
  obtain ⟨D1, D2, o1, o2, f1, f2, hs⟩ := h.two
  have c1 := h.c1
  rw [← hs]
  clear h f1 f2 o1 hs
  go_enter Tryd.func9, Tryd.ntmps9
  go_wp2_with (at_len; refine wpList_len_own _ rfl _ 57 rfl 3 65 Tryd.underlying57 _ b2 _ D2 rfl o2 ?_)
  go_ret
  exact ⟨rfl, rfl⟩

theorem SClone_any (l : List UInt8) (w : World) (hl : l.length ≤ 281474976710656) :
    Calls Tryd.prog 20 #[.string ⟨l.toArray⟩] w fun e w' => e = .returned (.string ⟨l.toArray⟩) ∧ RowKit.Below w.heap.size w w' := by
  go_enter Tryd.func20, Tryd.ntmps20
  go_wp2_with (go_at_call 27; refine (Tryd.stringslite_Clone ⟨l.toArray⟩ _ hl).mono ?_; rintro e w' ⟨rfl, hb⟩)
  go_ret
  exact ⟨rfl, hb⟩

set_option maxHeartbeats 1000000 in
set_option maxRecDepth 100000 in
theorem SFind_any (w : World) (s b1 b2 n : Nat) (L : List Ob) (t : List UInt8) (h : SAt w s b1 b2 n L) (ht : t.length ≤ maxLen) :
    Calls Tryd.prog 16 #[.pointer (some ⟨s, 0, none⟩), .string ⟨t.toArray⟩] w fun e w' => e = .returned (.tuple #[.int .i64 (findO L t : Int), errV (findE L t)]) ∧ RowKit.Below w.heap.size w w' := by
  have hl := look_num h t ht
  have hlt := h.lts
  have c0 := h.c0
  have e2 : Hid (findE L t = if findO L t = 0 then 5 else 0) := rfl
  clear h ht
  generalize findE L t = m at *
  generalize findO L t = k at *
  by_cases hk : k = 0
  · have hm : m = 5 := by rw [e2.out, if_pos hk]
    subst hm hk
    clear e2
    go_enter Tryd.func16, Tryd.ntmps16
    go_wp2_with fail
    exact bodyPost_ret (v := .tuple #[.int .i64 0, .iface 62 (.int .i64 5)]) (by unfold results; rw [Tryd.results16]; go_simp) rfl ⟨rfl, RowKit.Below.refl _ w⟩
  · have hm : m = 0 := by rw [e2.out, if_neg hk]
    subst hm
    rw [decide_eq_true hk] at hl
    clear e2 hk
    go_enter Tryd.func16, Tryd.ntmps16
    go_wp2_with fail
    exact bodyPost_ret (v := .tuple #[.int .i64 (k : Int), .nilIface]) (by unfold results; rw [Tryd.results16]; go_simp) rfl ⟨rfl, RowKit.Below.refl _ w⟩
set_option maxHeartbeats 1000000 in
set_option maxRecDepth 100000 in
theorem SGet_any (w : World) (s b1 b2 n : Nat) (L : List Ob) (z : Int) (h : SAt w s b1 b2 n L) (hg : ∀ x ∈ L, 1 ≤ x.1 ∧ x.1 ≤ n) :
    Calls Tryd.prog 14 #[.pointer (some ⟨s, 0, none⟩), .int .i64 z] w fun e w' => e = .returned (.tuple #[.string ⟨(getB L z).toArray⟩, errV (getE L z)]) ∧ RowKit.Below w.heap.size w w' := by
  have hl := look_obj h hg z
  have hlt := h.lts
  have c1 := h.c1
  have e1 : Hid (getB L z = (getO L z).getD []) := rfl
  have e2 : Hid (getE L z = if (getO L z).isSome = true then 0 else 5) := rfl
  have e3 : ((getO L z).getD []).length ≤ 281474976710656 := by
    cases hb : getO L z with
    | none => simp
    | some b =>
      obtain ⟨x, hx, _, rfl⟩ := getO_some hb
      have := h.short x hx
      unfold reachBytes at this
      simp
      omega
  clear h hg
  generalize getE L z = m at *
  generalize getB L z = u at *
  generalize getO L z = k at *
  unfold valOb at hl
  obtain rfl : u = k.getD [] := e1.out
  clear e1
  cases k with
  | none =>
    have hm : m = 5 := by rw [e2.out]; rfl
    subst hm
    clear e2 e3
    simp only [Option.getD_none, Option.isSome_none] at hl ⊢
    go_enter Tryd.func14, Tryd.ntmps14
    go_wp2_with fail
    exact bodyPost_ret (v := .tuple #[.string ⟨#[]⟩, .iface 62 (.int .i64 5)]) (by unfold results; rw [Tryd.results14]; go_simp) rfl ⟨rfl, balloc _ _⟩
  | some b =>
    have hm : m = 0 := by rw [e2.out]; rfl
    subst hm
    clear e2
    simp only [Option.getD_some, Option.isSome_some] at hl e3 ⊢
    go_enter Tryd.func14, Tryd.ntmps14
    go_wp2_with (go_at_call 20; refine (SClone_any b _ e3).mono ?_; rintro e w' ⟨rfl, hb⟩)
    exact bodyPost_ret (v := .tuple #[.string ⟨b.toArray⟩, .nilIface]) (by unfold results; rw [Tryd.results14]; go_simp) rfl ⟨rfl, bstep (balloc _ _) hb⟩
set_option maxHeartbeats 1000000 in
set_option maxRecDepth 100000 in
theorem Shas_any (w : World) (s b1 b2 n : Nat) (L : List Ob) (z : Int) (h : SAt w s b1 b2 n L) (hg : ∀ x ∈ L, 1 ≤ x.1 ∧ x.1 ≤ n) :
    Calls Tryd.prog 24 #[.pointer (some ⟨s, 0, none⟩), .int .i64 z] w fun e w' => e = .returned (.bool (getO L z).isSome) ∧ RowKit.Below w.heap.size w w' := by
  have hl := look_obj h hg z
  have hlt := h.lts
  have c1 := h.c1
  clear h hg
  generalize getO L z = k at *
  unfold valOb at hl
  go_enter Tryd.func24, Tryd.ntmps24
  go_wp2_with fail
  go_ret
  exact ⟨rfl, balloc _ _⟩
set_option maxHeartbeats 1000000 in
theorem Skeep1_any (w : World) (s b1 b2 n B : Nat) (L : List Ob) (z : Int) (h : SAt w s b1 b2 n L) (hg : ∀ x ∈ L, 1 ≤ x.1 ∧ x.1 ≤ n) (hB : w.cell? ⟨B, 0, none⟩ = some (.pointer (some ⟨s, 0, none⟩))) :
    Calls Tryd.prog 23 #[.int .i64 z, .pointer (some ⟨B, 0, none⟩)] w fun e w' => e = .returned (.bool (!(getO L z).isSome)) ∧ RowKit.Below w.heap.size w w' := by
  have hc := Shas_any w s b1 b2 n L z h hg
  clear h hg
  generalize (getO L z).isSome = q at *
  go_enter Tryd.func23, Tryd.ntmps23
  go_wp2_with (go_at_call 24; refine hc.mono ?_; rintro e w' ⟨rfl, hb⟩)
  go_ret
  exact ⟨rfl, hb⟩
end Go.Proofs.YtpdieckoemfebaeDoor
