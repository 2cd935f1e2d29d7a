/- stratasame.Ints: whether two lists of numbers are the same. -/
import Derived.Test.YtackdedbphfaeaeDoorStorePlain
import Derived.Deep.RegionLaw
namespace Go.Proofs.YtackdedbphfaeaeDoor
open Go Go.RowKit Go.Proofs
set_option synthInstance.maxSize 1000

set_option maxHeartbeats 2000000 in
set_option maxRecDepth 100000 in
theorem SameInts_any (ad bd : Option Addr) (ca cb : Nat) (l m : List Int) (w : World) (hl : SlI w ad l) (hm : SlI w bd m) (h200 : l.length ≤ 1000000) (h200' : m.length ≤ 1000000) :
    Calls Tryd.prog 18 #[.slice ad l.length ca, .slice bd m.length cb] w fun e w' => e = .returned (.bool (decide (l = m))) ∧ RowKit.Below w.heap.size w w' := by
  have Hl := hideO hl
  have Hm := hideO hm
  clear hl hm
  by_cases hlen : l.length = m.length
  · have hd : ((l.length : Int) != (m.length : Int)) = false := by simp [hlen]
    have Hlen := hideO hlen
    clear hlen
    go_enter Tryd.func18, Tryd.ntmps18
    go_wp2_with fail
    go_loopw [5] (fun i wr => ∃ (k q : Nat), k ≤ l.length ∧ i = .int .i64 k ∧ wr = w.drewN q ∧ Hid (l.take k = m.take k)) (fun i wr => l.length - (intOf i).toNat)
    case atStart => exact ⟨0, 0, by omega, rfl, rfl, rfl⟩
    case round =>
      obtain ⟨k, q, hk, rfl, rfl, hs⟩ := hrel
      by_cases hlt : k < l.length
      · have hlt' : k < m.length := by have := Hlen.out; omega
        obtain ⟨b, o, rfl, c0⟩ := Hl.out.at hlt
        obtain ⟨b', o', rfl, d0⟩ := Hm.out.at hlt'
        have i0 : (0 : Int) ≤ (k : Int) := by omega
        have i1 : (k : Int) < (l.length : Int) := by omega
        have i2 : (k : Int) < (m.length : Int) := by omega
        have hs' : Hid (l[k] = m[k] → l.take (k + 1) = m.take (k + 1)) := by
          show _ → _
          intro e
          rw [List.take_succ_eq_append_getElem hlt, List.take_succ_eq_append_getElem hlt', hs.out, e]
        have hn : Hid (¬ l[k] = m[k] → ¬ l = m) := by
          show _ → _
          intro h1 h2
          subst h2
          exact h1 rfl
        by_cases he : l[k] = m[k]
        · have hd2 : (l[k] != m[k]) = false := by simpa using he
          have He := hideO he
          clear he
          go_wp2_with fail
          go_region
          go_wp2
          exact ⟨⟨k + 1, q + 1, by omega, by go_num, rfl, hs'.out He.out⟩, by simp [intOf]; omega⟩
        · have hd2 : (l[k] != m[k]) = true := by simpa using he
          have He := hideO he
          clear he
          go_wp2_with fail
          go_region
          go_wp2
          go_ret
          refine ⟨ret_bool ?_, bdO _ _⟩
          have := hn.out He.out
          simp [this]
      · have hke : k = l.length := by omega
        go_wp2
        go_ret
        refine ⟨ret_bool ?_, bdO _ _⟩
        have : l = m := by
          have h1 := hs.out
          have h2 := Hlen.out
          rw [hke, List.take_length, h2, List.take_length] at h1
          exact h1
        simp [this]
  · have hd : ((l.length : Int) != (m.length : Int)) = true := by simp; omega
    have hne : Hid (¬ l = m) := by
      show ¬ _
      rintro rfl
      exact hlen rfl
    clear hlen
    go_enter Tryd.func18, Tryd.ntmps18
    go_wp2
    go_ret
    refine ⟨ret_bool ?_, RowKit.Below.refl _ _⟩
    have := hne.out
    simp [this]

end Go.Proofs.YtackdedbphfaeaeDoor
