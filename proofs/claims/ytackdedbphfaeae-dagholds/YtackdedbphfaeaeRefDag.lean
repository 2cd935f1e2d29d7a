/- The document's answer (package strataref2): Message, In. -/
import Derived.Test.YtackdedbphfaeaeDagUp
import Derived.OwnWalk
namespace Go.Proofs.Ytackdedbphfaeae
open Go Go.RowKit Go.Proofs
set_option synthInstance.maxSize 1000

set_option maxHeartbeats 2000000 in
set_option maxRecDepth 100000 in
theorem RIn_any (ad : Option Addr) (ca : Nat) (l : List Int) (n : Int) (w : World) (hl : SlI w ad l) (hz : l.length ≤ 1000000) :
    Calls Try.prog 17 #[.slice ad l.length ca, .int .i64 n] w fun e w' => e = .returned (.bool (l.contains n)) ∧ w' = w := by
  have Hl := hideO hl
  clear hl
  obtain ⟨ans, hans⟩ : ∃ ans, l.contains n = ans := ⟨_, rfl⟩
  rw [hans]
  have Hans := hideO hans
  clear hans
  go_enter Try.func17, Try.ntmps17
  go_wp2_with fail
  go_loopw [5] (fun i wr => ∃ (k : Nat), k ≤ l.length ∧ i = .int .i64 k ∧ wr = w ∧ Hid (∀ x ∈ l.take k, x ≠ n)) (fun i wr => l.length - (intOf i).toNat)
  case atStart => exact ⟨0, by omega, rfl, rfl, by show ∀ x ∈ _, _; simp⟩
  case round =>
    obtain ⟨k, hk, rfl, hw, hs⟩ := hrel
    obtain rfl : w = wr := hw.symm
    by_cases hlt : k < l.length
    · obtain ⟨b, o, rfl, c0⟩ := Hl.out.at hlt
      have i0 : (0 : Int) ≤ (k : Int) := by omega
      have i1 : (k : Int) < (l.length : Int) := by omega
      by_cases he : l[k] = n
      · have hd : (l[k] == n) = true := by simpa using he
        have hf : Hid (ans = true) := by
          show _ = _
          rw [← Hans.out, List.contains_eq_mem, decide_eq_true_eq, ← he]
          exact List.getElem_mem hlt
        clear he
        go_wp2
        go_ret
        exact ⟨by rw [hf.out]; rfl, rfl⟩
      · have hd : (l[k] == n) = false := by simpa using he
        have hs' : Hid (∀ x ∈ l.take (k + 1), x ≠ n) := by
          show ∀ x ∈ _, _
          rw [List.take_succ_eq_append_getElem hlt]
          intro x hx
          rcases List.mem_append.1 hx with hx | hx
          · exact hs.out x hx
          · simp at hx; subst hx; exact he
        clear he
        go_wp2
        exact ⟨⟨k + 1, by omega, by go_num, by trivial, hs'⟩, by simp [intOf]; omega⟩
    · obtain rfl : k = l.length := by omega
      have hf : Hid (ans = false) := by
        show _ = _
        rw [← Hans.out, List.contains_eq_mem, decide_eq_false_iff_not]
        intro hm
        have := hs.out n (by rw [List.take_length]; exact hm)
        exact this rfl
      go_wp2
      go_ret
      exact ⟨by rw [hf.out]; rfl, rfl⟩

end Go.Proofs.Ytackdedbphfaeae
