/- The document's answer (package strataref2): Message, In. -/
import Derived.Test.YtackdedbphfaeaeDoorDagUp
import Derived.OwnWalk
namespace Go.Proofs.YtackdedbphfaeaeDoor
open Go Go.RowKit Go.Proofs
set_option synthInstance.maxSize 1000

set_option maxHeartbeats 2000000 in
set_option maxRecDepth 100000 in
theorem RIn_any (ad : Option Addr) (ca : Nat) (l : List Int) (n : Int) (w : World) (hl : SlI w ad l) (hz : l.length ≤ 1000000) :
    Calls Tryd.prog 26 #[.slice ad l.length ca, .int .i64 n] w fun e w' => e = .returned (.bool (l.contains n)) ∧ w' = w := by
  have Hl := hideO hl
  clear hl
  obtain ⟨ans, hans⟩ : ∃ ans, l.contains n = ans := ⟨_, rfl⟩
  rw [hans]
  have Hans := hideO hans
  clear hans
  go_enter Tryd.func26, Tryd.ntmps26
  go_wp2_with fail
  go_loopw [5] (fun i wr => ∃ (k : Nat), k ≤ l.length ∧ i = .int .i64 k ∧ wr = w ∧ Hid (∀ x ∈ l.take k, x ≠ n)) (fun i wr => l.length - (intOf i).toNat)
  case atStart => exact ⟨0, by omega, rfl, rfl, by show ∀ x ∈ _, _; simp⟩
  case round =>
    obtain ⟨k, hk, rfl, hw, hs⟩ := hrel
    obtain rfl : w = wr := hw.symm
    by_cases hlt : k < l.length
    · obtain ⟨b, o, rfl, c0⟩ := Hl.out.at hlt
      have i0 : (0 : Int) ≤ (k : Int) := by omega
      have i1 : (k : Int) < (l.length : Int) := by omega
      by_cases he : l[k] = n
      · have hd : (l[k] == n) = true := by simpa using he
        have hf : Hid (ans = true) := by
          show _ = _
          rw [← Hans.out, List.contains_eq_mem, decide_eq_true_eq, ← he]
          exact List.getElem_mem hlt
        clear he
        go_wp2
        go_ret
        exact ⟨by rw [hf.out]; rfl, rfl⟩
      · have hd : (l[k] == n) = false := by simpa using he
        have hs' : Hid (∀ x ∈ l.take (k + 1), x ≠ n) := by
          show ∀ x ∈ _, _
          rw [List.take_succ_eq_append_getElem hlt]
          intro x hx
          rcases List.mem_append.1 hx with hx | hx
          · exact hs.out x hx
          · simp at hx; subst hx; exact he
        clear he
        go_wp2
        exact ⟨⟨k + 1, by omega, by go_num, by trivial, hs'⟩, by simp [intOf]; omega⟩
    · obtain rfl : k = l.length := by omega
      have hf : Hid (ans = false) := by
        show _ = _
        rw [← Hans.out, List.contains_eq_mem, decide_eq_false_iff_not]
        intro hm
        have := hs.out n (by rw [List.take_length]; exact hm)
        exact this rfl
      go_wp2
      go_ret
      exact ⟨by rw [hf.out]; rfl, rfl⟩

theorem okM_take {l : List UInt8} {k : Nat} (hk : k < l.length) : okM (l.take (k + 1)) = (okM (l.take k) && decide (32 ≤ l[k].toNat ∧ l[k].toNat ≤ 126)) := by
  unfold okM
  rw [List.take_succ_eq_append_getElem hk, List.all_append]
  simp
set_option maxHeartbeats 2000000 in
set_option maxRecDepth 100000 in
theorem RMessage_any (l : List UInt8) (w : World) :
    Calls Tryd.prog 37 #[.string ⟨l.toArray⟩] w fun e w' => e = .returned (.int .i64 (msgN l)) ∧ w' = w := by
  by_cases h24 : 24 < l.length
  · have hf : Hid (msgN l = 4) := by show _ = _; unfold msgN; rw [if_pos h24]
    have j0 : (24 : Int) < (l.length : Int) := by omega
    go_enter Tryd.func37, Tryd.ntmps37
    go_wp2
    go_ret
    exact ⟨by rw [hf.out]; rfl, rfl⟩
  · have hmsg : Hid (msgN l = if okM l = true then 0 else 2) := by show _ = _; unfold msgN; rw [if_neg h24]
    have j0 : ¬ (24 : Int) < (l.length : Int) := by omega
    have hz : l.length ≤ 24 := by omega
    clear h24
    go_enter Tryd.func37, Tryd.ntmps37
    go_wp2_with fail
    go_loopw [3] (fun i wr => ∃ (k : Nat), k ≤ l.length ∧ i = .int .i64 k ∧ wr = w ∧ Hid (okM (l.take k) = true)) (fun i wr => l.length - (intOf i).toNat)
    case atStart => exact ⟨0, by omega, rfl, rfl, by show _ = _; simp [okM]⟩
    case round =>
      obtain ⟨k, hk, rfl, hw, hs⟩ := hrel
      obtain rfl : w = wr := hw.symm
      by_cases hlt : k < l.length
      · have i0 : (0 : Int) ≤ (k : Int) := by omega
        have i1 : (k : Int) < (l.length : Int) := by omega
        have hot := hideO (okM_take hlt)
        have hidx : ∀ h, (⟨l.toArray⟩ : ByteArray)[k]'h = l[k] := fun _ => rfl
        by_cases h1 : l[k].toNat < 32
        · have g1 : ((l[k].toNat : Int) < 32) := by omega
          have hf : Hid (msgN l = 2) := by
            show _ = _
            rw [hmsg.out, if_neg]
            intro h
            unfold okM at h
            rw [List.all_eq_true] at h
            have := h _ (List.getElem_mem hlt)
            simp at this
            omega
          clear h1
          go_wp2
          go_ret
          exact ⟨by rw [hf.out]; rfl, rfl⟩
        · by_cases h2 : 126 < l[k].toNat
          · have g1 : ¬ ((l[k].toNat : Int) < 32) := by omega
            have g2 : (126 : Int) < (l[k].toNat : Int) := by omega
            have hf : Hid (msgN l = 2) := by
              show _ = _
              rw [hmsg.out, if_neg]
              intro h
              unfold okM at h
              rw [List.all_eq_true] at h
              have := h _ (List.getElem_mem hlt)
              simp at this
              omega
            clear h1 h2
            go_wp2
            go_ret
            exact ⟨by rw [hf.out]; rfl, rfl⟩
          · have g1 : ¬ ((l[k].toNat : Int) < 32) := by omega
            have g2 : ¬ (126 : Int) < (l[k].toNat : Int) := by omega
            have hs' : Hid (okM (l.take (k + 1)) = true) := by
              show _ = _
              rw [hot.out, hs.out]
              simp
              omega
            clear h1 h2
            go_wp2
            exact ⟨⟨k + 1, by omega, by go_num, by trivial, hs'⟩, by simp [intOf]; omega⟩
      · obtain rfl : k = l.length := by omega
        have hf : Hid (msgN l = 0) := by
          show _ = _
          have := hs.out
          rw [List.take_length] at this
          rw [hmsg.out, if_pos this]
        go_wp2
        go_ret
        exact ⟨by rw [hf.out]; rfl, rfl⟩
end Go.Proofs.YtackdedbphfaeaeDoor
