/- stratasame.Triples: are two lists the same? -/
import Derived.Test.YtnlcfnpcjkcdmacGreatDoorTripleSort
import Derived.Deep.Draws
import Derived.RegionTactic
namespace Go.Proofs.YtnlcfnpcjkcdmacGreatDoor
open Go Go.RowKit Go.Proofs
set_option synthInstance.maxSize 1000

attribute [local go_sem ↓] eqlTriple neqTriple

theorem bdN' (w : World) (q : Nat) : RowKit.Below w.heap.size w (w.drewN q) := ⟨rfl, rfl, rfl, Nat.le_refl _, fun _ _ => rfl⟩

theorem take_same {l m : List Tr} {k : Nat} (h : l.take k = m.take k) (hl : k < l.length) (hm : k < m.length) (e : l[k] = m[k]) : l.take (k + 1) = m.take (k + 1) := by
  rw [List.take_succ_eq_append_getElem hl, List.take_succ_eq_append_getElem hm, h, e]

set_option maxHeartbeats 2000000 in
set_option maxRecDepth 100000 in
theorem SameTriples_any (ad bd : Option Addr) (ca cb : Nat) (l m : List Tr) (w : World) (hl : SlT w ad l) (hm : SlT w bd m) (h200 : l.length ≤ 1000000) (h200' : m.length ≤ 1000000) :
    Calls Tryz.prog 12 #[.slice ad l.length ca, .slice bd m.length cb] w fun e w' => e = .returned (.bool (decide (l = m))) ∧ RowKit.Below w.heap.size w w' := by
  have Hl : Hid (SlT w ad l) := hl
  have Hm : Hid (SlT w bd m) := hm
  clear hl hm
  by_cases hlen : l.length = m.length
  · have hd : ((l.length : Int) != (m.length : Int)) = false := by simp [hlen]
    have Hlen : Hid (l.length = m.length) := hlen
    clear hlen
    go_enter Tryz.func12, Tryz.ntmps12
    go_wp2_with fail
    go_loopw [5] (fun i wr => ∃ (k q : Nat), k ≤ l.length ∧ i = .int .i64 k ∧ wr = w.drewN q ∧ Hid (l.take k = m.take k)) (fun i wr => l.length - (intOf i).toNat)
    case atStart => exact ⟨0, 0, by omega, rfl, rfl, rfl⟩
    case round =>
      obtain ⟨k, q, hk, rfl, rfl, hs⟩ := hrel
      by_cases hlt : k < l.length
      · have hlt' : k < m.length := by have := Hlen.out; omega
        obtain ⟨b, o, rfl, hr⟩ := Hl.out.at k hlt
        obtain ⟨b', o', rfl, hr'⟩ := Hm.out.at k hlt'
        obtain ⟨c0, c1, c2, c3, c4, c5, c6, c7, c8⟩ := hr.at k hlt
        obtain ⟨d0, d1, d2, d3, d4, d5, d6, d7, d8⟩ := hr'.at k hlt'
        have i0 : (0 : Int) ≤ (k : Int) := by omega
        have i1 : (k : Int) < (l.length : Int) := by omega
        have i2 : (k : Int) < (m.length : Int) := by omega
        clear hr hr'
        by_cases he : l[k] = m[k]
        · have hd2 : decide (l[k] = m[k]) = true := by simpa using he
          have He : Hid (l[k] = m[k]) := he
          clear he
          go_wp2_with fail
          go_region
          go_wp2
          exact ⟨⟨k + 1, q + 1, by omega, by go_num, rfl, take_same hs.out hlt hlt' He.out⟩, by simp [intOf]; omega⟩
        · have hd2 : decide (l[k] = m[k]) = false := by simpa using he
          have He : Hid (¬ l[k] = m[k]) := he
          clear he
          go_wp2_with fail
          go_region
          go_wp2
          go_ret
          refine ⟨ret_bool ?_, bdN' _ _⟩
          have : ¬ l = m := fun e => He.out (by subst e; rfl)
          simp [this]
      · have hke : k = l.length := by omega
        go_wp2
        go_ret
        refine ⟨ret_bool ?_, bdN' _ _⟩
        have : l = m := by
          have h := hs.out
          rw [hke, List.take_length, Hlen.out, List.take_length] at h
          exact h
        simp [this]
  · have hd : ((l.length : Int) != (m.length : Int)) = true := by simp; omega
    have hne : Hid (¬ l = m) := fun e => hlen (by rw [e])
    clear hlen
    go_enter Tryz.func12, Tryz.ntmps12
    go_wp2
    go_ret
    exact ⟨ret_bool (by simp [hne.out]), RowKit.Below.refl _ _⟩
end Go.Proofs.YtnlcfnpcjkcdmacGreatDoor
