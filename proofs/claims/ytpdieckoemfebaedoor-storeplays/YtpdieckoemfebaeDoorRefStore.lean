/- The document's store (package strataref2): Find, Get. -/
import Derived.Test.YtpdieckoemfebaeDoorStorePlain
import Derived.RegionTactic
namespace Go.Proofs.YtpdieckoemfebaeDoor
open Go Go.RowKit Go.Proofs
set_option synthInstance.maxSize 1000

/-- the document's store: block m has the last number and the list v -/
def RAt (w : World) (m : Nat) (v : Value) (n : Nat) (L : List Ob) : Prop :=
  w.heap[m]? = some (.cells #[.int .i64 (n : Int), v] 39) ∧ w.ownsRow (m + 1) 52 2 v L.length (cellsO L)
def ROwn (m : Nat) (v : Value) (j : Nat) : Prop := j = m ∨ v.ownBlock = some j
theorem RAt.lt {w : World} {m : Nat} {v : Value} {n : Nat} {L : List Ob} (h : RAt w m v n L) : m < w.heap.size := (Array.getElem?_eq_some_iff.1 h.1).1
theorem RAt.keep {w w' : World} {m : Nat} {v : Value} {n : Nat} {L : List Ob} (h : RAt w m v n L) (hb : ∀ j, ROwn m v j → w'.heap[j]? = w.heap[j]?) : RAt w' m v n L := by
  refine ⟨(hb m (Or.inl rfl)).trans h.1, h.2.1, ?_⟩
  rcases h.2.2 with h0 | ⟨g, cap, cur, hv, hg, hm, r⟩
  · exact Or.inl h0
  · exact Or.inr ⟨g, cap, cur, hv, hg, (hb g (Or.inr (by rw [hv]; rfl))).trans hm, r⟩
theorem RAt.own {w : World} {m : Nat} {v : Value} {n : Nat} {L : List Ob} (h : RAt w m v n L) : ∀ j, ROwn m v j → m ≤ j ∧ j < w.heap.size := by
  rintro j (rfl | hj)
  · exact ⟨Nat.le_refl _, h.lt⟩
  · have := h.2.lt j hj; omega
theorem RAt.below {w w' : World} {m : Nat} {v : Value} {n : Nat} {L : List Ob} (h : RAt w m v n L) (hb : RowKit.Below w.heap.size w w') : RAt w' m v n L := h.keep fun j hj => hb.block j (h.own j hj).2
theorem RAt.cells {w : World} {m : Nat} {v : Value} {n : Nat} {L : List Ob} (h : RAt w m v n L) : w.cell? ⟨m, 0, none⟩ = some (.int .i64 (n : Int)) ∧ w.cell? ⟨m, 1, none⟩ = some v ∧ w.frozen? ⟨m, 0, none⟩ = false ∧ w.frozen? ⟨m, 1, none⟩ = false := by
  have h := h.1
  refine ⟨?_, ?_, ?_, ?_⟩ <;> simp [World.cell?, World.frozen?, h]

set_option maxHeartbeats 2000000 in
set_option maxRecDepth 100000 in
theorem RFind_any (m : Nat) (v : Value) (n : Nat) (L : List Ob) (b : List UInt8) (w : World) (h : RAt w m v n L) (hL : L.length ≤ 1000) :
    Calls Tryd.prog 15 #[.pointer (some ⟨m, 0, none⟩), .string ⟨b.toArray⟩] w fun e w' => e = .returned (.int .i64 (findO L b : Int)) ∧ w' = w := by
  obtain ⟨s0, s1, _, _⟩ := h.cells
  have Ho := hideO h.2
  obtain ⟨ad, cap, rfl⟩ := ownO_form h.2
  clear h
  go_enter Tryd.func15, Tryd.ntmps15
  go_wp2_with fail
  go_loopw [5] (fun i wr => ∃ (k : Nat), k ≤ L.length ∧ i = .int .i64 k ∧ wr = w ∧ Hid (∀ x ∈ L.take k, x.2 ≠ b)) (fun i wr => L.length - (intOf i).toNat)
  case atStart => exact ⟨0, by omega, rfl, rfl, by show ∀ x ∈ _, _; simp⟩
  case round =>
    obtain ⟨k, hk, rfl, rfl, hs⟩ := hrel
    by_cases hlt : k < L.length
    · obtain ⟨g, cap', e1, c0, c1⟩ := ownO_at Ho.out k hlt
      obtain ⟨rfl, _, rfl⟩ := Value.slice.inj e1
      have i0 : (0 : Int) ≤ (k : Int) := by omega
      have i1 : (k : Int) < (L.length : Int) := by omega
      clear e1
      by_cases he : L[k].2 = b
      · have hd2 : (L[k].2 == b) = true := by simpa using he
        have hf := hideO (findO_at hlt hs.out he)
        clear he
        go_wp2
        go_ret
        exact ⟨by rw [hf.out]; rfl, rfl⟩
      · have hd2 : (L[k].2 == b) = false := by simpa using he
        have hs' : Hid (∀ x ∈ L.take (k + 1), x.2 ≠ b) := by
          show ∀ x ∈ _, _
          rw [List.take_succ_eq_append_getElem hlt]
          intro x hx
          rcases List.mem_append.1 hx with hx | hx
          · exact hs.out x hx
          · simp at hx; subst hx; exact he
        clear he
        go_wp2
        exact ⟨⟨k + 1, by omega, by go_num, by trivial, hs'⟩, by simp [intOf]; omega⟩
    · obtain rfl : k = L.length := by omega
      go_wp2
      go_ret
      refine ⟨?_, rfl⟩
      rw [findO_none (by simpa using hs.out)]
      rfl

def gotV (o : Option (List UInt8)) : Value := match o with | some b => .tuple #[.string ⟨b.toArray⟩, .int .i64 0] | none => .tuple #[.string ⟨#[]⟩, .int .i64 5]

set_option maxHeartbeats 2000000 in
set_option maxRecDepth 100000 in
theorem RGet_any (m : Nat) (v : Value) (n : Nat) (L : List Ob) (id : Int) (w : World) (h : RAt w m v n L) (hL : L.length ≤ 1000) :
    Calls Tryd.prog 13 #[.pointer (some ⟨m, 0, none⟩), .int .i64 id] w fun e w' => e = .returned (gotV (getO L id)) ∧ w' = w := by
  obtain ⟨s0, s1, _, _⟩ := h.cells
  have Ho := hideO h.2
  obtain ⟨ad, cap, rfl⟩ := ownO_form h.2
  clear h
  go_enter Tryd.func13, Tryd.ntmps13
  go_wp2_with fail
  go_loopw [6] (fun i wr => ∃ (k : Nat), k ≤ L.length ∧ i = .int .i64 k ∧ wr = w ∧ Hid (∀ x ∈ L.take k, (x.1 : Int) ≠ id)) (fun i wr => L.length - (intOf i).toNat)
  case atStart => exact ⟨0, by omega, rfl, rfl, by show ∀ x ∈ _, _; simp⟩
  case round =>
    obtain ⟨k, hk, rfl, rfl, hs⟩ := hrel
    by_cases hlt : k < L.length
    · obtain ⟨g, cap', e1, c0, c1⟩ := ownO_at Ho.out k hlt
      obtain ⟨rfl, _, rfl⟩ := Value.slice.inj e1
      have i0 : (0 : Int) ≤ (k : Int) := by omega
      have i1 : (k : Int) < (L.length : Int) := by omega
      clear e1
      by_cases he : (L[k].1 : Int) = id
      · have hd2 : ((L[k].1 : Int) == id) = true := by simpa using he
        have hf := hideO (getO_at hlt hs.out he)
        clear he
        go_wp2
        exact bodyPost_ret (v := .tuple #[.string ⟨L[k].2.toArray⟩, .int .i64 0]) (by simp [results, Tryd.results13, go_sem]) rfl ⟨by rw [hf.out]; rfl, rfl⟩
      · have hd2 : ((L[k].1 : Int) == id) = false := by simpa using he
        have hs' : Hid (∀ x ∈ L.take (k + 1), (x.1 : Int) ≠ id) := by
          show ∀ x ∈ _, _
          rw [List.take_succ_eq_append_getElem hlt]
          intro x hx
          rcases List.mem_append.1 hx with hx | hx
          · exact hs.out x hx
          · simp at hx; subst hx; exact he
        clear he
        go_wp2
        exact ⟨⟨k + 1, by omega, by go_num, by trivial, hs'⟩, by simp [intOf]; omega⟩
    · obtain rfl : k = L.length := by omega
      go_wp2
      refine bodyPost_ret (v := .tuple #[.string ⟨#[]⟩, .int .i64 5]) (by simp [results, Tryd.results13, go_sem]) rfl ⟨?_, rfl⟩
      rw [getO_none (by simpa using hs.out)]
      rfl

end Go.Proofs.YtpdieckoemfebaeDoor
