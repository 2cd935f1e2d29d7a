/- The document's Vars, and what it leans on: Slots, Three, Letters up to ten, Has; lists of texts held against one another. -/
import Derived.Test.YtnlcfnpcjkcdmacGreatDoorMatchTrip
import Derived.Test.YtnlcfnpcjkcdmacGreatDoorRefTerm
import Derived.Deep.Draws
import Derived.RegionTactic
namespace Go.Proofs.YtnlcfnpcjkcdmacGreatDoor
open Go Go.RowKit Go.Proofs Go.Maps
set_option synthInstance.maxSize 1000

/-- one to ten letters -/
def lettersTenB (L : List UInt8) : Bool := !L.isEmpty && (decide (L.length ≤ 10) && allB letB L)
theorem ten_spell {v : List UInt8} (h : ¬ v = []) : lettersTenB v = spellV v := by
  cases v with
  | nil => exact absurd rfl h
  | cons c r => rfl

set_option maxHeartbeats 400000 in
theorem LettersTen_any (L : List UInt8) (w : World) (hl : L.length ≤ maxLen) :
    Calls Tryz.prog 30 #[.string ⟨L.toArray⟩, .int .i64 10] w fun e w' => e = .returned (.bool (lettersTenB L)) ∧ w' = w := by
  unfold maxLen at hl
  cases L with
  | nil =>
    go_enter Tryz.func30, Tryz.ntmps30
    go_wp2
    go_ret
    exact ⟨rfl, rfl⟩
  | cons c r =>
    have fin : Hid (lettersTenB (c :: r) = (decide ((c :: r).length ≤ 10) && allB letB (c :: r))) := rfl
    generalize hL : c :: r = L at *
    have hne : ¬ L = [] := by rw [← hL]; simp
    have hne' : L.isEmpty = false := by rw [← hL]; rfl
    clear hL
    by_cases h2 : L.length ≤ 10
    · go_enter Tryz.func30, Tryz.ntmps30
      go_wp2
      go_loop [5] (fun i => ∃ k : Nat, k ≤ L.length ∧ i = .int .i64 k ∧ Hid (allB letB (L.take k) = true)) (fun i => L.length - (intOf i).toNat)
      case atStart => exact ⟨0, Nat.zero_le _, rfl, rfl⟩
      case round =>
        obtain ⟨k, hk, rfl, hall⟩ := hrel
        by_cases hlt : k < L.length
        · have hidx : ∀ h, (⟨L.toArray⟩ : ByteArray)[k]'h = L[k] := fun _ => rfl
          cases hp : letB (L[k].toNat : Int)
          · go_wp2_with (go_at_call 59; refine (letter_any _ _).mono ?_; rintro e w' ⟨rfl, rfl⟩)
            go_ret
            exact ⟨ret_bool (by rw [fin.out, allL_false letB L k hlt hp]; simp), rfl⟩
          · go_wp2_with (go_at_call 59; refine (letter_any _ _).mono ?_; rintro e w' ⟨rfl, rfl⟩)
            refine ⟨⟨k + 1, by omega, by go_num, ?_⟩, by simp [intOf]; omega⟩
            show _ = _
            rw [allL_take letB L k hlt, hall.out, hp]; rfl
        · go_wp2
          go_ret
          have e := hall.out
          rw [List.take_of_length_le (by omega)] at e
          exact ⟨ret_bool (by rw [fin.out, e]; simp [h2]), rfl⟩
    · go_enter Tryz.func30, Tryz.ntmps30
      go_wp2
      go_ret
      exact ⟨ret_bool (by rw [fin.out]; simp [h2]), rfl⟩


theorem RSlots_any (p : Pt) (w : World) : Calls Tryz.prog 28 #[valPt p] w fun e w' => ∃ b, e = .returned (.slice (some ⟨b, 0, none⟩) 3 3) ∧ PatAt w' b p ∧ Below w.heap.size w w' := by
  have HB : PatAt ((w.alloc (.cells (encPt p).toArray 28)).alloc (.cells (encPt p).toArray 26)) (w.heap.size + 1) p := by
    have := patBox (w.alloc (.cells (encPt p).toArray 28)) p 26
    simpa using this
  unfold valPt
  go_enter Tryz.func28, Tryz.ntmps28
  go_wp2_with fail
  go_ret
  exact ⟨_, rfl, HB, bstep (balloc _ _) (balloc _ _)⟩
theorem RThree_any (t : Tr) (w : World) : Calls Tryz.prog 66 #[valTr t] w fun e w' => ∃ b, e = .returned (.slice (some ⟨b, 0, none⟩) 3 3) ∧ TripAt w' b t ∧ Below w.heap.size w w' := by
  have HB : TripAt ((w.alloc (.cells (encTr t).toArray 82)).alloc (.cells (encTr t).toArray 24)) (w.heap.size + 1) t := by
    have := tripBox (w.alloc (.cells (encTr t).toArray 82)) t 24
    simpa using this
  unfold valTr
  go_enter Tryz.func66, Tryz.ntmps66
  go_wp2_with fail
  go_ret
  exact ⟨_, rfl, HB, bstep (balloc _ _) (balloc _ _)⟩

theorem mem_false {l : List (List UInt8)} {x : List UInt8} (h : ∀ j (hj : j < l.length), ¬ l[j] = x) : decide (x ∈ l) = false := by
  rw [decide_eq_false_iff_not]
  intro hm
  obtain ⟨j, hj, e⟩ := List.getElem_of_mem hm
  exact h j hj e

set_option maxHeartbeats 1000000 in
theorem RHas_any (ad : Option Addr) (cap : Nat) (l : List (List UInt8)) (x : List UInt8) (w : World) (h : SlV w ad l) (hn : l.length ≤ 1000000) :
    Calls Tryz.prog 31 #[.slice ad l.length cap, .string ⟨x.toArray⟩] w fun e w' => e = .returned (.bool (decide (x ∈ l))) ∧ w' = w := by
  have Hl : Hid (SlV w ad l) := h
  clear h
  generalize hd : decide (x ∈ l) = d at *
  have Hd : Hid (decide (x ∈ l) = d) := hd
  clear hd
  go_enter Tryz.func31, Tryz.ntmps31
  go_wp2_with fail
  go_loop [5] (fun i => ∃ k : Nat, k ≤ l.length ∧ i = .int .i64 k ∧ Hid (∀ j (hj : j < l.length), j < k → ¬ l[j] = x)) (fun i => l.length - (intOf i).toNat)
  case atStart => exact ⟨0, Nat.zero_le _, rfl, fun j _ h => absurd h (by omega)⟩
  case round =>
    obtain ⟨k, hk, rfl, hno⟩ := hrel
    by_cases hlt : k < l.length
    · obtain ⟨b, rfl, hr⟩ := Hl.out (by intro e; rw [e] at hlt; simp at hlt)
      have c0 := hr k hlt
      unfold encV at c0
      have i0 : (0 : Int) ≤ (k : Int) := by omega
      have i1 : (k : Int) < (l.length : Int) := by omega
      clear hr
      by_cases he : l[k] = x
      · have hd2 : (l[k] == x) = true := by simpa using he
        have hdt : Hid (d = true) := by show d = true; rw [← Hd.out]; simp; exact he ▸ List.getElem_mem hlt
        clear he
        go_wp2
        go_ret
        exact ⟨ret_bool hdt.out.symm, rfl⟩
      · have hd2 : (l[k] == x) = false := by simpa using he
        have He : Hid (¬ l[k] = x) := he
        clear he
        go_wp2
        refine ⟨⟨k + 1, by omega, by go_num, fun j hj hjk => ?_⟩, by simp [intOf]; omega⟩
        by_cases e : j = k
        · subst e; exact He.out
        · exact hno.out j hj (by omega)
    · go_wp2
      go_ret
      exact ⟨ret_bool (by rw [← Hd.out, mem_false fun j hj => hno.out j hj (by omega)]), rfl⟩

theorem take_sameV {l m : List (List UInt8)} {k : Nat} (h : l.take k = m.take k) (hl : k < l.length) (hm : k < m.length) (e : l[k] = m[k]) : l.take (k + 1) = m.take (k + 1) := by
  rw [List.take_succ_eq_append_getElem hl, List.take_succ_eq_append_getElem hm, h, e]

set_option maxHeartbeats 2000000 in
set_option maxRecDepth 100000 in
theorem SameTexts_any (ad bd : Option Addr) (ca cb : Nat) (l m : List (List UInt8)) (w : World) (hl : SlV w ad l) (hm : SlV w bd m) (h200 : l.length ≤ 1000000) (h200' : m.length ≤ 1000000) :
    Calls Tryz.prog 8 #[.slice ad l.length ca, .slice bd m.length cb] w fun e w' => e = .returned (.bool (decide (l = m))) ∧ RowKit.Below w.heap.size w w' := by
  have Hl : Hid (SlV w ad l) := hl
  have Hm : Hid (SlV w bd m) := hm
  clear hl hm
  by_cases hlen : l.length = m.length
  · have hd : ((l.length : Int) != (m.length : Int)) = false := by simp [hlen]
    have Hlen : Hid (l.length = m.length) := hlen
    clear hlen
    go_enter Tryz.func8, Tryz.ntmps8
    go_wp2_with fail
    go_loopw [5] (fun i wr => ∃ (k q : Nat), k ≤ l.length ∧ i = .int .i64 k ∧ wr = w.drewN q ∧ Hid (l.take k = m.take k)) (fun i wr => l.length - (intOf i).toNat)
    case atStart => exact ⟨0, 0, by omega, rfl, rfl, rfl⟩
    case round =>
      obtain ⟨k, q, hk, rfl, rfl, hs⟩ := hrel
      by_cases hlt : k < l.length
      · have hlt' : k < m.length := by have := Hlen.out; omega
        obtain ⟨b, rfl, hr⟩ := Hl.out (by intro e; rw [e] at hlt; simp at hlt)
        obtain ⟨b', rfl, hr'⟩ := Hm.out (by intro e; rw [e] at hlt'; simp at hlt')
        have c0 := hr k hlt
        have d0 := hr' k hlt'
        unfold encV at c0 d0
        have i0 : (0 : Int) ≤ (k : Int) := by omega
        have i1 : (k : Int) < (l.length : Int) := by omega
        have i2 : (k : Int) < (m.length : Int) := by omega
        clear hr hr'
        by_cases he : l[k] = m[k]
        · have hd2 : (l[k] == m[k]) = true := by simpa using he
          have hd3 : (l[k] != m[k]) = false := by simpa using he
          have He : Hid (l[k] = m[k]) := he
          clear he
          go_wp2_with fail
          go_region
          go_wp2
          exact ⟨⟨k + 1, q + 1, by omega, by go_num, rfl, take_sameV hs.out hlt hlt' He.out⟩, by simp [intOf]; omega⟩
        · have hd2 : (l[k] == m[k]) = false := by simpa using he
          have hd3 : (l[k] != m[k]) = true := by simpa using he
          have He : Hid (¬ l[k] = m[k]) := he
          clear he
          go_wp2_with fail
          go_region
          go_wp2
          go_ret
          refine ⟨ret_bool ?_, ⟨rfl, rfl, rfl, Nat.le_refl _, fun _ _ => rfl⟩⟩
          have : ¬ l = m := fun e => He.out (by subst e; rfl)
          simp [this]
      · have hke : k = l.length := by omega
        go_wp2
        go_ret
        refine ⟨ret_bool ?_, ⟨rfl, rfl, rfl, Nat.le_refl _, fun _ _ => rfl⟩⟩
        have : l = m := by
          have h := hs.out
          rw [hke, List.take_length, Hlen.out, List.take_length] at h
          exact h
        simp [this]
  · have hd : ((l.length : Int) != (m.length : Int)) = true := by simp; omega
    have hne : Hid (¬ l = m) := fun e => hlen (by rw [e])
    clear hlen
    go_enter Tryz.func8, Tryz.ntmps8
    go_wp2
    go_ret
    exact ⟨ret_bool (by simp [hne.out]), RowKit.Below.refl _ _⟩
end Go.Proofs.YtnlcfnpcjkcdmacGreatDoor
