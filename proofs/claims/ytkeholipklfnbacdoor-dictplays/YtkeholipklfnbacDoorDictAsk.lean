/- dict.New, Len, Term, Id: what they tell. -/
import Derived.Test.YtkeholipklfnbacDoorDictMap
namespace Go.Proofs.YtkeholipklfnbacDoor
open Go Go.RowKit Go.Proofs Go.Maps
set_option synthInstance.maxSize 1000

theorem makeIds (w : World) : (Instr.makeMap 51 none).run Tryd.prog w = .ok (.map (some w.heap.size)) (w.alloc (.map #[] 0)) := by kernel_rfl
theorem makeTerms (w : World) : (Instr.makeMap 52 none).run Tryd.prog w = .ok (.map (some w.heap.size)) (w.alloc (.map #[] 0)) := by kernel_rfl
theorem makeFresh (w : World) : (Instr.makeMap 69 none).run Tryd.prog w = .ok (.map (some w.heap.size)) (w.alloc (.map #[] 0)) := by kernel_rfl
theorem zeroI (w : World) : (zeroValue 3).run Tryd.prog w = .ok (.int .i64 0) w := by kernel_rfl
theorem zeroT (w : World) : (zeroValue 29).run Tryd.prog w = .ok (valTm zeroTm) w := by kernel_rfl

theorem New_any (w : World) : Calls Tryd.prog 4 #[] w fun e w' => e = .returned (.pointer (some ⟨w.heap.size + 2, 0, none⟩)) ∧ DictAt w' w.heap.size [] ∧ w'.heap.size = w.heap.size + 3 ∧ RowKit.Below w.heap.size w w' := by
  have h1 := makeIds
  have h2 := makeTerms
  go_enter Tryd.func4, Tryd.ntmps4
  go_wp2_with fail
  go_ret
  refine ⟨by simp, ⟨by go_simp, by go_simp, .map [], .map [], ?_, ?_, rfl, fun x _ => ⟨by simp [Maps.has_eq], by simp [DataW.atKey, idN]⟩, fun n _ => ⟨by simp [Maps.has_eq]; omega, by simp [DataW.atKey]; rw [atN_not]; simp; omega⟩⟩, by simp, ?_⟩
  · exact ((World.ownsMap_made _ _ _ _).alloc _).alloc _
  · have := (World.ownsMap_made (w.alloc (.map #[] 0)) Tryd.prog 3 termElem).alloc (.cells #[.map (some w.heap.size), .map (some (w.heap.size + 1))] 54)
    simpa using this
  · exact bstep (bstep (balloc _ _) (balloc _ _)) (balloc _ _)

theorem Len_any (n0 : Nat) (L : List Tm) (w : World) (h : DictAt w n0 L) :
    Calls Tryd.prog 9 #[.pointer (some ⟨n0 + 2, 0, none⟩)] w fun e w' => e = .returned (.int .i64 L.length) ∧ w' = w := by
  obtain ⟨c0, c1, D1, D2, o1, o2, hs, _, _⟩ := h
  go_enter Tryd.func9, Tryd.ntmps9
  go_wp2_with (at_len; refine wpList_len_own _ rfl _ 52 rfl 3 29 Tryd.underlying52 _ (n0 + 1) _ D2 rfl o2 ?_)
  go_ret
  exact ⟨rfl, rfl⟩

/-- a look-up in either map -/
theorem look_ids {n0 : Nat} {L : List Tm} {w : World} (h : DictAt w n0 L) (x : Tm) (hx : wfTm x) :
    (Instr.lookup 51 (.map (some n0)) (valTm x) true).run Tryd.prog w = .ok (.tuple #[.int .i64 (idN L x), .bool (decide (x ∈ L))]) w := by
  obtain ⟨c0, c1, D1, D2, o1, o2, hs, f1, f2⟩ := h
  obtain ⟨v, ps, hrun, hv⟩ := o1.look_ok keyedTm Tryd.underlying51 (zeroI w) (plainElem_int Tryd.underlying3 (by decide)) (keyOf_tm x hx)
  rw [(f1 x hx).2] at hv
  obtain ⟨a, rfl, ha, _⟩ := plainElem_int_inv Tryd.underlying3 hv
  simp only [Prod.mk.injEq, DataW.lit.injEq, Lit.int.injEq, true_and] at ha
  rw [hrun, (f1 x hx).1, ha.1]
theorem look_terms {n0 : Nat} {L : List Tm} {w : World} (h : DictAt w n0 L) (n : Int) (hn : (Lit.int .i64 n).wf = true) :
    (Instr.lookup 52 (.map (some (n0 + 1))) (.int .i64 n) true).run Tryd.prog w = .ok (.tuple #[valTm (atN L n), .bool (decide (1 ≤ n ∧ n ≤ L.length))]) w := by
  obtain ⟨c0, c1, D1, D2, o1, o2, hs, f1, f2⟩ := h
  obtain ⟨v, ps, hrun, hv⟩ := o2.look_ok keyedI Tryd.underlying52 (zeroT w) (termElem_mk zeroTm) (keyOf_int_mk Tryd.underlying3 hn)
  rw [(f2 n hn).2] at hv
  rw [hrun, (f2 n hn).1, termElem_inv hv]

/-- what Term tells -/
def atE (L : List Tm) (n : Int) : Int := if 1 ≤ n ∧ n ≤ L.length then 0 else 5
def idE (L : List Tm) (x : Tm) : Int := if x ∈ L then 0 else 5

set_option maxHeartbeats 1000000 in
set_option maxRecDepth 100000 in
theorem Term_any (n0 : Nat) (L : List Tm) (n : Int) (w : World) (h : DictAt w n0 L) (hn : (Lit.int .i64 n).wf = true) :
    Calls Tryd.prog 14 #[.pointer (some ⟨n0 + 2, 0, none⟩), .int .i64 n] w fun e w' => e = .returned (.tuple #[valTm (atN L n), errV (atE L n)]) ∧ RowKit.Below w.heap.size w w' := by
  have hlt := h.lt
  have hl := look_terms (h.below (balloc w (.cells #[.int .i64 0, .string ⟨#[]⟩, .string ⟨#[]⟩] 29))) n hn
  obtain ⟨c0, c1, _⟩ := h
  have fin : Hid (atN L n = if 1 ≤ n ∧ n ≤ L.length then atN L n else zeroTm) := by
    show _ = _
    split
    · rfl
    · rename_i h; exact atN_not h
  have fin2 : Hid (atE L n = if 1 ≤ n ∧ n ≤ L.length then 0 else 5) := rfl
  generalize atN L n = y at *
  generalize atE L n = m at *
  clear hn
  unfold valTm at hl ⊢
  by_cases hc : 1 ≤ n ∧ n ≤ (L.length : Int)
  · have hm : m = 0 := by rw [fin2.out, if_pos hc]
    subst hm
    rw [decide_eq_true hc] at hl
    clear fin fin2 hc
    go_enter Tryd.func14, Tryd.ntmps14
    go_wp2_with fail
    exact bodyPost_ret (v := .tuple #[.agg #[.int .i64 y.1, .string ⟨y.2.1.toArray⟩, .string ⟨y.2.2.toArray⟩], .nilIface]) (by unfold results; rw [Tryd.results14]; go_simp) rfl ⟨rfl, bstep (balloc _ _) (balloc _ _)⟩
  · have hm : m = 5 := by rw [fin2.out, if_neg hc]
    have hy : y = zeroTm := by rw [fin.out, if_neg hc]
    subst hm hy
    rw [decide_eq_false hc] at hl
    clear fin fin2 hc
    go_enter Tryd.func14, Tryd.ntmps14
    go_wp2_with fail
    exact bodyPost_ret (v := .tuple #[.agg #[.int .i64 0, .string ⟨#[]⟩, .string ⟨#[]⟩], .iface 60 (.int .i64 5)]) (by unfold results; rw [Tryd.results14]; go_simp) rfl ⟨rfl, bstep (balloc _ _) (balloc _ _)⟩

set_option maxHeartbeats 1000000 in
set_option maxRecDepth 100000 in
theorem Id_any (n0 : Nat) (L : List Tm) (x : Tm) (w : World) (h : DictAt w n0 L) (hx : wfTm x) :
    Calls Tryd.prog 12 #[.pointer (some ⟨n0 + 2, 0, none⟩), valTm x] w fun e w' => e = .returned (.tuple #[.int .i64 (idN L x), errV (idE L x)]) ∧ RowKit.Below w.heap.size w w' := by
  have hlt := h.lt
  have hD := h.below (balloc w (.cells #[.int .i64 x.1, .string ⟨x.2.1.toArray⟩, .string ⟨x.2.2.toArray⟩] 29))
  have hl := look_ids (w := (w.alloc (.cells #[.int .i64 x.1, .string ⟨x.2.1.toArray⟩, .string ⟨x.2.2.toArray⟩] 29)).drew) hD x hx
  obtain ⟨c0, _⟩ := h
  have fin : Hid (idN L x = if x ∈ L then idN L x else 0) := by
    show _ = _
    split
    · rfl
    · rename_i h; exact idN_not h
  have fin2 : Hid (idE L x = if x ∈ L then 0 else 5) := rfl
  generalize idN L x = y at *
  generalize idE L x = m at *
  clear hD hx
  unfold valTm at hl ⊢
  by_cases hc : x ∈ L
  · have hm : m = 0 := by rw [fin2.out, if_pos hc]
    subst hm
    rw [decide_eq_true hc] at hl
    clear fin fin2 hc
    go_enter Tryd.func12, Tryd.ntmps12
    go_wp2_with fail
    go_region
    go_wp2_with fail
    exact bodyPost_ret (v := .tuple #[.int .i64 y, .nilIface]) (by unfold results; rw [Tryd.results12]; go_simp) rfl ⟨rfl, (balloc _ _).drew⟩
  · have hm : m = 5 := by rw [fin2.out, if_neg hc]
    have hy : y = 0 := by rw [fin.out, if_neg hc]
    subst hm hy
    rw [decide_eq_false hc] at hl
    clear fin fin2 hc
    go_enter Tryd.func12, Tryd.ntmps12
    go_wp2_with fail
    go_region
    go_wp2_with fail
    exact bodyPost_ret (v := .tuple #[.int .i64 0, .iface 60 (.int .i64 5)]) (by unfold results; rw [Tryd.results12]; go_simp) rfl ⟨rfl, (balloc _ _).drew⟩
end Go.Proofs.YtkeholipklfnbacDoor
