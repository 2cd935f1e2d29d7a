import Derived.Test.YtnlcfnpcjkcdmafGreatDoorMA0x0
import Derived.Test.YtnlcfnpcjkcdmafGreatDoorMA0x1
import Derived.Laws.Cover1
import Derived.Test.YtnlcfnpcjkcdmafGreatDoorMA0x4
import Derived.Laws.DeepStrings4
import Derived.OwnWalk
import Derived.Laws.OwnMore
import Derived.Deep.RegionHeld3
import Derived.Deep.AppendLies
import Derived.Deep.Draws
import Derived.Test.YtnlcfnpcjkcdmafGreatDoorMA0x3
import Derived.Test.YtnlcfnpcjkcdmafGreatDoorMA0x5

/- The document's answer (package strataref1): letter, digit, Letters, right. -/
namespace Go.Proofs.YtnlcfnpcjkcdmafGreatDoor
open Go Go.RowKit Go.Proofs

theorem letter_any (n : Int) (w : World) :
    Calls Tryz.prog 85 #[.int .u8 n] w fun e w' => e = .returned (.bool (letB n)) ∧ w' = w := by
  by_cases h1 : 97 ≤ n
  all_goals
    go_enter Tryz.func85, Tryz.ntmps85
    go_wp2
    go_ret
    exact ⟨ret_bool (by first | exact decide_eq_decide.2 (by omega) | exact (decide_eq_false (by omega)).symm), rfl⟩

theorem digit_any (n : Int) (w : World) :
    Calls Tryz.prog 182 #[.int .u8 n] w fun e w' => e = .returned (.bool (digB n)) ∧ w' = w := by
  by_cases h1 : 48 ≤ n
  all_goals
    go_enter Tryz.func182, Tryz.ntmps182
    go_wp2
    go_ret
    exact ⟨ret_bool (by first | exact decide_eq_decide.2 (by omega) | exact (decide_eq_false (by omega)).symm), rfl⟩

theorem allL_take (p : Int → Bool) (S : List UInt8) (k : Nat) (h : k < S.length) : allB p (S.take (k + 1)) = (allB p (S.take k) && p (S[k].toNat : Int)) := by
  unfold allB
  rw [List.take_succ_eq_append_getElem h]
  simp only [List.all_append, List.all_cons, List.all_nil, Bool.and_true]

theorem allL_false (p : Int → Bool) (S : List UInt8) (k : Nat) (h : k < S.length) (hp : p (S[k].toNat : Int) = false) : allB p S = false := by
  unfold allB
  rw [List.all_eq_false]
  exact ⟨S[k], List.getElem_mem _, by rw [hp]; simp⟩

/-- one to two letters -/
def lettersB (L : List UInt8) : Bool := !L.isEmpty && (decide (L.length ≤ 2) && allB letB L)

set_option maxHeartbeats 400000 in
theorem Letters_any (L : List UInt8) (w : World) (hl : L.length ≤ maxLen) :
    Calls Tryz.prog 51 #[.string ⟨L.toArray⟩, .int .i64 2] w fun e w' => e = .returned (.bool (lettersB L)) ∧ w' = w := by
  unfold maxLen at hl
  cases L with
  | nil =>
    go_enter Tryz.func51, Tryz.ntmps51
    go_wp2
    go_ret
    exact ⟨rfl, rfl⟩
  | cons c r =>
    have fin : Hid (lettersB (c :: r) = (decide ((c :: r).length ≤ 2) && allB letB (c :: r))) := rfl
    generalize hL : c :: r = L at *
    have hne : ¬ L = [] := by rw [← hL]; simp
    have hne' : L.isEmpty = false := by rw [← hL]; rfl
    clear hL
    by_cases h2 : L.length ≤ 2
    · go_enter Tryz.func51, Tryz.ntmps51
      go_wp2
      go_loop [5] (fun i => ∃ k : Nat, k ≤ L.length ∧ i = .int .i64 k ∧ Hid (allB letB (L.take k) = true)) (fun i => L.length - (intOf i).toNat)
      case atStart => exact ⟨0, Nat.zero_le _, rfl, rfl⟩
      case round =>
        obtain ⟨k, hk, rfl, hall⟩ := hrel
        by_cases hlt : k < L.length
        · have hidx : ∀ h, (⟨L.toArray⟩ : ByteArray)[k]'h = L[k] := fun _ => rfl
          cases hp : letB (L[k].toNat : Int)
          · go_wp2_with (go_at_call 85; refine (letter_any _ _).mono ?_; rintro e w' ⟨rfl, rfl⟩)
            go_ret
            exact ⟨ret_bool (by rw [fin.out, allL_false letB L k hlt hp]; simp), rfl⟩
          · go_wp2_with (go_at_call 85; refine (letter_any _ _).mono ?_; rintro e w' ⟨rfl, rfl⟩)
            refine ⟨⟨k + 1, by omega, by go_num, ?_⟩, by simp [intOf]; omega⟩
            show _ = _
            rw [allL_take letB L k hlt, hall.out, hp]; rfl
        · go_wp2
          go_ret
          have e := hall.out
          rw [List.take_of_length_le (by omega)] at e
          exact ⟨ret_bool (by rw [fin.out, e]; simp [h2]), rfl⟩
    · go_enter Tryz.func51, Tryz.ntmps51
      go_wp2
      go_ret
      exact ⟨ret_bool (by rw [fin.out]; simp [h2]), rfl⟩

set_option maxHeartbeats 1000000 in
theorem right_text (S : List UInt8) (w : World) (hl : S.length ≤ maxLen) :
    Calls Tryz.prog 137 #[.int .i64 3, .string ⟨S.toArray⟩] w fun e w' => e = .returned (.bool (textOk S)) ∧ w' = w := by
  unfold maxLen at hl
  cases S with
  | nil =>
    go_enter Tryz.func137, Tryz.ntmps137
    go_wp2
    go_ret
    exact ⟨rfl, rfl⟩
  | cons c r =>
    have fin : Hid (textOk (c :: r) = allB textB (c :: r)) := rfl
    generalize hL : c :: r = L at *
    have hne : ¬ L = [] := by rw [← hL]; simp
    have hne' : L.isEmpty = false := by rw [← hL]; rfl
    clear hL
    go_enter Tryz.func137, Tryz.ntmps137
    go_wp2
    go_loop [5] (fun i => ∃ k : Nat, k ≤ L.length ∧ i = .int .i64 k ∧ Hid (allB textB (L.take k) = true)) (fun i => L.length - (intOf i).toNat)
    case atStart => exact ⟨0, Nat.zero_le _, rfl, rfl⟩
    case round =>
      obtain ⟨k, hk, rfl, hall⟩ := hrel
      by_cases hlt : k < L.length
      · have hidx : ∀ h, (⟨L.toArray⟩ : ByteArray)[k]'h = L[k] := fun _ => rfl
        have ht : Hid (textB (L[k].toNat : Int) = decide (32 ≤ (L[k].toNat : Int) ∧ (L[k].toNat : Int) ≤ 126)) := rfl
        by_cases h1 : (L[k].toNat : Int) < 32
        · go_wp2_with (first
            | (go_at_call 85; refine (letter_any _ _).mono ?_; rintro e w' ⟨rfl, rfl⟩)
            | (go_at_call 182; refine (digit_any _ _).mono ?_; rintro e w' ⟨rfl, rfl⟩))
          go_ret
          exact ⟨ret_bool (by rw [fin.out, allL_false textB L k hlt (by rw [ht.out]; simp; omega)]), rfl⟩
        · by_cases h2 : 126 < (L[k].toNat : Int)
          · go_wp2_with (first
              | (go_at_call 85; refine (letter_any _ _).mono ?_; rintro e w' ⟨rfl, rfl⟩)
              | (go_at_call 182; refine (digit_any _ _).mono ?_; rintro e w' ⟨rfl, rfl⟩))
            go_ret
            exact ⟨ret_bool (by rw [fin.out, allL_false textB L k hlt (by rw [ht.out]; simp; omega)]), rfl⟩
          · go_wp2_with (first
              | (go_at_call 85; refine (letter_any _ _).mono ?_; rintro e w' ⟨rfl, rfl⟩)
              | (go_at_call 182; refine (digit_any _ _).mono ?_; rintro e w' ⟨rfl, rfl⟩))
            refine ⟨⟨k + 1, by omega, by go_num, ?_⟩, by simp [intOf]; omega⟩
            show _ = _
            rw [allL_take textB L k hlt, hall.out, ht.out]
            simp; omega
      · go_wp2
        go_ret
        have e := hall.out
        rw [List.take_of_length_le (by omega)] at e
        exact ⟨ret_bool (by rw [fin.out, e]), rfl⟩
end Go.Proofs.YtnlcfnpcjkcdmafGreatDoor

/- The document's answer (package strataref1): right at a name and at an anonymous one; Term. -/
namespace Go.Proofs.YtnlcfnpcjkcdmafGreatDoor
open Go Go.RowKit Go.Proofs

theorem anonOk_eq (L : List UInt8) (h : ¬ L = []) : anonOk L = allB anonB L := by cases L <;> simp_all [anonOk]
theorem nameOk_eq (L : List UInt8) (h : 0 < L.length) : nameOk L = (letB (L[0].toNat : Int) && allB nameB L) := by
  cases L with
  | nil => simp at h
  | cons => rfl

set_option maxHeartbeats 1000000 in
theorem right_anon (L : List UInt8) (w : World) (hl : L.length ≤ maxLen) :
    Calls Tryz.prog 137 #[.int .i64 2, .string ⟨L.toArray⟩] w fun e w' => e = .returned (.bool (anonOk L)) ∧ w' = w := by
  unfold maxLen at hl
  by_cases hne : L = []
  · subst hne
    go_enter Tryz.func137, Tryz.ntmps137
    go_wp2
    go_ret
    exact ⟨rfl, rfl⟩
  · have fin : Hid (anonOk L = allB anonB L) := anonOk_eq L hne
    have hne' : L.isEmpty = false := by simpa using hne
    go_enter Tryz.func137, Tryz.ntmps137
    go_wp2
    go_loop [5] (fun i => ∃ k : Nat, k ≤ L.length ∧ i = .int .i64 k ∧ Hid (allB anonB (L.take k) = true)) (fun i => L.length - (intOf i).toNat)
    case atStart => exact ⟨0, Nat.zero_le _, rfl, rfl⟩
    case round =>
      obtain ⟨k, hk, rfl, hall⟩ := hrel
      by_cases hlt : k < L.length
      · have hidx : ∀ h, (⟨L.toArray⟩ : ByteArray)[k]'h = L[k] := fun _ => rfl
        have ht : Hid (anonB (L[k].toNat : Int) = (letB (L[k].toNat : Int) || digB (L[k].toNat : Int))) := rfl
        cases ha : letB (L[k].toNat : Int)
        · cases hd : digB (L[k].toNat : Int)
          · go_wp2_with (first
              | (go_at_call 85; refine (letter_any _ _).mono ?_; rintro e w' ⟨rfl, rfl⟩)
              | (go_at_call 182; refine (digit_any _ _).mono ?_; rintro e w' ⟨rfl, rfl⟩))
            go_ret
            exact ⟨ret_bool (by rw [fin.out, allL_false anonB L k hlt (by rw [ht.out, ha, hd]; rfl)]), rfl⟩
          · go_wp2_with (first
              | (go_at_call 85; refine (letter_any _ _).mono ?_; rintro e w' ⟨rfl, rfl⟩)
              | (go_at_call 182; refine (digit_any _ _).mono ?_; rintro e w' ⟨rfl, rfl⟩))
            refine ⟨⟨k + 1, by omega, by go_num, ?_⟩, by simp [intOf]; omega⟩
            show _ = _
            rw [allL_take anonB L k hlt, hall.out, ht.out, ha, hd]; rfl
        · go_wp2_with (first
            | (go_at_call 85; refine (letter_any _ _).mono ?_; rintro e w' ⟨rfl, rfl⟩)
            | (go_at_call 182; refine (digit_any _ _).mono ?_; rintro e w' ⟨rfl, rfl⟩))
          refine ⟨⟨k + 1, by omega, by go_num, ?_⟩, by simp [intOf]; omega⟩
          show _ = _
          rw [allL_take anonB L k hlt, hall.out, ht.out, ha]; rfl
      · go_wp2
        go_ret
        have e := hall.out
        rw [List.take_of_length_le (by omega)] at e
        exact ⟨ret_bool (by rw [fin.out, e]), rfl⟩

set_option maxHeartbeats 2000000 in
theorem right_name (L : List UInt8) (w : World) (hl : L.length ≤ maxLen) :
    Calls Tryz.prog 137 #[.int .i64 1, .string ⟨L.toArray⟩] w fun e w' => e = .returned (.bool (nameOk L)) ∧ w' = w := by
  unfold maxLen at hl
  by_cases hne : L = []
  · subst hne
    go_enter Tryz.func137, Tryz.ntmps137
    go_wp2
    go_ret
    exact ⟨rfl, rfl⟩
  · have hpos : 0 < L.length := List.length_pos_iff.2 hne
    have fin : Hid (nameOk L = (letB (L[0].toNat : Int) && allB nameB L)) := nameOk_eq L hpos
    have hne' : L.isEmpty = false := by simpa using hne
    go_enter Tryz.func137, Tryz.ntmps137
    go_wp2
    go_loop [5] (fun i => ∃ k : Nat, k ≤ L.length ∧ i = .int .i64 k ∧ Hid (allB nameB (L.take k) = true ∧ (0 < k → letB (L[0].toNat : Int) = true))) (fun i => L.length - (intOf i).toNat)
    case atStart => exact ⟨0, Nat.zero_le _, rfl, rfl, by omega⟩
    case round =>
      obtain ⟨k, hk, rfl, hall⟩ := hrel
      by_cases hlt : k < L.length
      · have hidx : ∀ h, (⟨L.toArray⟩ : ByteArray)[k]'h = L[k] := fun _ => rfl
        have ht : Hid (nameB (L[k].toNat : Int) = (letB (L[k].toNat : Int) || digB (L[k].toNat : Int) || decide ((L[k].toNat : Int) = 58 ∨ (L[k].toNat : Int) = 47 ∨ (L[k].toNat : Int) = 46))) := rfl
        cases ha : letB (L[k].toNat : Int)
        · by_cases h0 : k = 0
          · subst h0
            have hi : (((0 : Nat) : Int) == 0) = true := rfl
            go_wp2_with (first
              | (go_at_call 85; refine (letter_any _ _).mono ?_; rintro e w' ⟨rfl, rfl⟩)
              | (go_at_call 182; refine (digit_any _ _).mono ?_; rintro e w' ⟨rfl, rfl⟩))
            go_ret
            exact ⟨ret_bool (by rw [fin.out, ha]; rfl), rfl⟩
          · have hi : ((k : Int) == 0) = false := by rw [beq_eq_false_iff_ne]; omega
            have h0' : Hid (letB (L[0].toNat : Int) = true) := hall.out.2 (by omega)
            clear h0
            cases hd : digB (L[k].toNat : Int)
            · cases h58 : ((L[k].toNat : Int) != 58)
              · go_wp2_with (first
                  | (go_at_call 85; refine (letter_any _ _).mono ?_; rintro e w' ⟨rfl, rfl⟩)
                  | (go_at_call 182; refine (digit_any _ _).mono ?_; rintro e w' ⟨rfl, rfl⟩))
                refine ⟨⟨k + 1, by omega, by go_num, ?_, fun _ => h0'.out⟩, by simp [intOf]; omega⟩
                simp at h58
                rw [allL_take nameB L k hlt, hall.out.1, ht.out]; simp [h58]
              · cases h47 : ((L[k].toNat : Int) != 47)
                · go_wp2_with (first
                    | (go_at_call 85; refine (letter_any _ _).mono ?_; rintro e w' ⟨rfl, rfl⟩)
                    | (go_at_call 182; refine (digit_any _ _).mono ?_; rintro e w' ⟨rfl, rfl⟩))
                  refine ⟨⟨k + 1, by omega, by go_num, ?_, fun _ => h0'.out⟩, by simp [intOf]; omega⟩
                  simp at h47
                  rw [allL_take nameB L k hlt, hall.out.1, ht.out]; simp [h47]
                · cases h46 : ((L[k].toNat : Int) != 46)
                  · go_wp2_with (first
                      | (go_at_call 85; refine (letter_any _ _).mono ?_; rintro e w' ⟨rfl, rfl⟩)
                      | (go_at_call 182; refine (digit_any _ _).mono ?_; rintro e w' ⟨rfl, rfl⟩))
                    refine ⟨⟨k + 1, by omega, by go_num, ?_, fun _ => h0'.out⟩, by simp [intOf]; omega⟩
                    simp at h46
                    rw [allL_take nameB L k hlt, hall.out.1, ht.out]; simp [h46]
                  · go_wp2_with (first
                      | (go_at_call 85; refine (letter_any _ _).mono ?_; rintro e w' ⟨rfl, rfl⟩)
                      | (go_at_call 182; refine (digit_any _ _).mono ?_; rintro e w' ⟨rfl, rfl⟩))
                    go_ret
                    simp at h58 h47 h46
                    exact ⟨ret_bool (by rw [fin.out, allL_false nameB L k hlt (by rw [ht.out, ha, hd]; simp [h58, h47, h46])]; simp), rfl⟩
            · go_wp2_with (first
                | (go_at_call 85; refine (letter_any _ _).mono ?_; rintro e w' ⟨rfl, rfl⟩)
                | (go_at_call 182; refine (digit_any _ _).mono ?_; rintro e w' ⟨rfl, rfl⟩))
              refine ⟨⟨k + 1, by omega, by go_num, ?_, fun _ => h0'.out⟩, by simp [intOf]; omega⟩
              rw [allL_take nameB L k hlt, hall.out.1, ht.out, ha, hd]; rfl
        · go_wp2_with (first
            | (go_at_call 85; refine (letter_any _ _).mono ?_; rintro e w' ⟨rfl, rfl⟩)
            | (go_at_call 182; refine (digit_any _ _).mono ?_; rintro e w' ⟨rfl, rfl⟩))
          refine ⟨⟨k + 1, by omega, by go_num, ?_, fun _ => ?_⟩, by simp [intOf]; omega⟩
          · rw [allL_take nameB L k hlt, hall.out.1, ht.out, ha]; rfl
          · by_cases h0 : k = 0
            · subst h0; exact ha
            · exact hall.out.2 (by omega)
      · go_wp2
        go_ret
        have e := hall.out.1
        rw [List.take_of_length_le (by omega)] at e
        exact ⟨ret_bool (by rw [fin.out, e, hall.out.2 (by omega)]; rfl), rfl⟩
end Go.Proofs.YtnlcfnpcjkcdmafGreatDoor

/- The document's answer (package strataref1): Term, Compare, Show. -/
namespace Go.Proofs.YtnlcfnpcjkcdmafGreatDoor
open Go Go.RowKit Go.Proofs

theorem ret_i64 {a b : Int} (h : a = b) : Ending.returned (.int .i64 a) = .returned (.int .i64 b) := by rw [h]

theorem RTerm_range (k : Int) (S L : List UInt8) (w : World) (h : k < 1 ∨ 3 < k) :
    Calls Tryz.prog 108 #[.agg #[.int .i64 k, .string ⟨S.toArray⟩, .string ⟨L.toArray⟩]] w fun e w' => e = .returned (.int .i64 (checkN k S L)) ∧ Below w.heap.size w w' := by
  have fin : Hid (checkN k S L = 1) := by
    have : kindB k = false := by simp [kindB]; omega
    simp [Hid, checkN, this]
  rcases h with h | h
  · go_enter Tryz.func108, Tryz.ntmps108
    go_wp2
    go_ret
    exact ⟨ret_i64 fin.out.symm, balloc _ _⟩
  · have h' : ¬ k < 1 := by omega
    go_enter Tryz.func108, Tryz.ntmps108
    go_wp2
    go_ret
    exact ⟨ret_i64 fin.out.symm, balloc _ _⟩

theorem RTerm_full (k : Int) (S L : List UInt8) (w : World) (h : 1 ≤ k) (h3 : k ≤ 3) (hs : S.length ≤ maxLen) (hlo : 24 < S.length) :
    Calls Tryz.prog 108 #[.agg #[.int .i64 k, .string ⟨S.toArray⟩, .string ⟨L.toArray⟩]] w fun e w' => e = .returned (.int .i64 (checkN k S L)) ∧ Below w.heap.size w w' := by
  have fin : Hid (checkN k S L = 4) := by
    have h1 : kindB k = true := by simp [kindB]; omega
    have h2 : longB S = true := by simp [longB]; omega
    simp [Hid, checkN, h1, h2]
  unfold maxLen at hs
  go_enter Tryz.func108, Tryz.ntmps108
  go_wp2
  go_ret
  exact ⟨ret_i64 fin.out.symm, balloc _ _⟩

theorem letters_lang (L : List UInt8) (h : L.length = 2) : lettersB L = langOk L := by
  cases L with
  | nil => simp at h
  | cons c r => simp [lettersB, langOk, h]

set_option maxHeartbeats 1000000 in
theorem RTerm_name (S L : List UInt8) (w : World) (hs : S.length ≤ 24) (hl : L.length ≤ maxLen) :
    Calls Tryz.prog 108 #[.agg #[.int .i64 1, .string ⟨S.toArray⟩, .string ⟨L.toArray⟩]] w fun e w' => e = .returned (.int .i64 (checkN 1 S L)) ∧ Below w.heap.size w w' := by
  have fin : Hid (checkN 1 S L = if (L.isEmpty && nameOk S) = false then 2 else 0) := by
    have h2 : longB S = false := by simp [longB]; omega
    show (if kindB 1 = false then (1 : Int) else if longB S = true then 4 else if spellB 1 S L = false then 2 else 0) = _
    rw [h2]; rfl
  have hs' : S.length ≤ maxLen := by unfold maxLen; omega
  cases hr : nameOk S
  · go_enter Tryz.func108, Tryz.ntmps108
    go_wp2_with (go_at_call 137; refine (right_name S _ hs').mono ?_; rintro e w1 ⟨rfl, rfl⟩)
    go_ret
    exact ⟨ret_i64 (by rw [fin.out, hr]; simp), balloc _ _⟩
  · cases L with
    | nil =>
      go_enter Tryz.func108, Tryz.ntmps108
      go_wp2_with (go_at_call 137; refine (right_name S _ hs').mono ?_; rintro e w1 ⟨rfl, rfl⟩)
      go_ret
      exact ⟨ret_i64 (by rw [fin.out, hr]; simp), balloc _ _⟩
    | cons c r =>
      go_enter Tryz.func108, Tryz.ntmps108
      go_wp2_with (first
        | (go_at_call 137; refine (right_name S _ hs').mono ?_; rintro e w1 ⟨rfl, rfl⟩)
        | (go_at_call 51; refine (Letters_any (c :: r) _ hl).mono ?_; rintro e w1 ⟨rfl, rfl⟩))
      go_ret
      exact ⟨ret_i64 (by rw [fin.out]; simp), balloc _ _⟩

set_option maxHeartbeats 1000000 in
theorem RTerm_anon (S L : List UInt8) (w : World) (hs : S.length ≤ 24) (hl : L.length ≤ maxLen) :
    Calls Tryz.prog 108 #[.agg #[.int .i64 2, .string ⟨S.toArray⟩, .string ⟨L.toArray⟩]] w fun e w' => e = .returned (.int .i64 (checkN 2 S L)) ∧ Below w.heap.size w w' := by
  have fin : Hid (checkN 2 S L = if (L.isEmpty && anonOk S) = false then 2 else 0) := by
    have h2 : longB S = false := by simp [longB]; omega
    show (if kindB 2 = false then (1 : Int) else if longB S = true then 4 else if spellB 2 S L = false then 2 else 0) = _
    rw [h2]; rfl
  have hs' : S.length ≤ maxLen := by unfold maxLen; omega
  cases hr : anonOk S
  · go_enter Tryz.func108, Tryz.ntmps108
    go_wp2_with (go_at_call 137; refine (right_anon S _ hs').mono ?_; rintro e w1 ⟨rfl, rfl⟩)
    go_ret
    exact ⟨ret_i64 (by rw [fin.out, hr]; simp), balloc _ _⟩
  · cases L with
    | nil =>
      go_enter Tryz.func108, Tryz.ntmps108
      go_wp2_with (go_at_call 137; refine (right_anon S _ hs').mono ?_; rintro e w1 ⟨rfl, rfl⟩)
      go_ret
      exact ⟨ret_i64 (by rw [fin.out, hr]; simp), balloc _ _⟩
    | cons c r =>
      go_enter Tryz.func108, Tryz.ntmps108
      go_wp2_with (first
        | (go_at_call 137; refine (right_anon S _ hs').mono ?_; rintro e w1 ⟨rfl, rfl⟩)
        | (go_at_call 51; refine (Letters_any (c :: r) _ hl).mono ?_; rintro e w1 ⟨rfl, rfl⟩))
      go_ret
      exact ⟨ret_i64 (by rw [fin.out]; simp), balloc _ _⟩

set_option maxHeartbeats 1000000 in
theorem RTerm_text (S L : List UInt8) (w : World) (hs : S.length ≤ 24) (hl : L.length ≤ maxLen) :
    Calls Tryz.prog 108 #[.agg #[.int .i64 3, .string ⟨S.toArray⟩, .string ⟨L.toArray⟩]] w fun e w' => e = .returned (.int .i64 (checkN 3 S L)) ∧ Below w.heap.size w w' := by
  have fin : Hid (checkN 3 S L = if ((L.isEmpty || langOk L) && textOk S) = false then 2 else 0) := by
    have h2 : longB S = false := by simp [longB]; omega
    show (if kindB 3 = false then (1 : Int) else if longB S = true then 4 else if spellB 3 S L = false then 2 else 0) = _
    rw [h2]; rfl
  have hs' : S.length ≤ maxLen := by unfold maxLen; omega
  cases hr : textOk S
  · go_enter Tryz.func108, Tryz.ntmps108
    go_wp2_with (go_at_call 137; refine (right_text S _ hs').mono ?_; rintro e w1 ⟨rfl, rfl⟩)
    go_ret
    exact ⟨ret_i64 (by rw [fin.out, hr]; simp), balloc _ _⟩
  · by_cases hne : L = []
    · subst hne
      go_enter Tryz.func108, Tryz.ntmps108
      go_wp2_with (go_at_call 137; refine (right_text S _ hs').mono ?_; rintro e w1 ⟨rfl, rfl⟩)
      go_ret
      exact ⟨ret_i64 (by rw [fin.out, hr]; simp), balloc _ _⟩
    · have hne' : L.isEmpty = false := by simpa using hne
      by_cases h2 : L.length = 2
      · have hb : ((L.length : Int) != 2) = false := by simp; omega
        have hll : Hid (lettersB L = langOk L) := letters_lang L h2
        clear h2
        cases hk : lettersB L
        all_goals
          go_enter Tryz.func108, Tryz.ntmps108
          go_wp2_with (first
            | (go_at_call 137; refine (right_text S _ hs').mono ?_; rintro e w1 ⟨rfl, rfl⟩)
            | (go_at_call 51; refine (Letters_any L _ hl).mono ?_; rintro e w1 ⟨rfl, rfl⟩))
          go_ret
          exact ⟨ret_i64 (by rw [fin.out, ← hll.out, hk, hr, hne']; simp), balloc _ _⟩
      · have hb : ((L.length : Int) != 2) = true := by simp; omega
        have hk : Hid (langOk L = false) := by simp [Hid, langOk, h2]
        clear h2
        unfold maxLen at hl
        go_enter Tryz.func108, Tryz.ntmps108
        go_wp2_with (first
          | (go_at_call 137; refine (right_text S _ hs').mono ?_; rintro e w1 ⟨rfl, rfl⟩)
          | (go_at_call 51; refine (Letters_any L _ hl).mono ?_; rintro e w1 ⟨rfl, rfl⟩))
        go_ret
        exact ⟨ret_i64 (by rw [fin.out, hk.out, hne']; simp), balloc _ _⟩

theorem RTerm_any (k : Int) (S L : List UInt8) (w : World) (hs : S.length ≤ maxLen) (hl : L.length ≤ maxLen) :
    Calls Tryz.prog 108 #[.agg #[.int .i64 k, .string ⟨S.toArray⟩, .string ⟨L.toArray⟩]] w fun e w' => e = .returned (.int .i64 (checkN k S L)) ∧ Below w.heap.size w w' := by
  by_cases h : k < 1 ∨ 3 < k
  · exact RTerm_range k S L w h
  · by_cases hlo : 24 < S.length
    · exact RTerm_full k S L w (by omega) (by omega) hs hlo
    · rcases (by omega : k = 1 ∨ k = 2 ∨ k = 3) with rfl | rfl | rfl
      · exact RTerm_name S L w (by omega) hl
      · exact RTerm_anon S L w (by omega) hl
      · exact RTerm_text S L w (by omega) hl

theorem RCompare_kind (k : Int) (S L : List UInt8) (k' : Int) (S' L' : List UInt8) (w : World) (h : k ≠ k') :
    Calls Tryz.prog 102 #[.agg #[.int .i64 k, .string ⟨S.toArray⟩, .string ⟨L.toArray⟩], .agg #[.int .i64 k', .string ⟨S'.toArray⟩, .string ⟨L'.toArray⟩]] w fun e w' => e = .returned (.int .i64 (cmpT k S L k' S' L')) ∧ Below w.heap.size w w' := by
  have fin : Hid (cmpT k S L k' S' L' = Lib.compareInt k k') := by
    have : Lib.compareInt k k' ≠ 0 := fun e => h ((ci_zero _ _).1 e)
    simp [Hid, cmpT, orI, this]
  have hb : (k != k') = true := by simpa using h
  by_cases hlt : k < k'
  · go_enter Tryz.func102, Tryz.ntmps102
    go_wp2
    go_ret
    exact ⟨ret_i64 (by rw [fin.out]; simp [Lib.compareInt, hlt]), bstep (balloc _ _) (balloc _ _)⟩
  · have hgt : k' < k := by omega
    go_enter Tryz.func102, Tryz.ntmps102
    go_wp2
    go_ret
    exact ⟨ret_i64 (by rw [fin.out]; simp [Lib.compareInt, hlt, hgt]), bstep (balloc _ _) (balloc _ _)⟩

theorem less_cb (a : List UInt8) : ∀ b, Op.bytesLess a b = decide (Lib.compareBytes a b < 0) := by
  induction a with
  | nil => intro b; cases b <;> simp [Op.bytesLess, Lib.compareBytes]
  | cons x xs ih =>
    intro b
    cases b with
    | nil => simp [Op.bytesLess, Lib.compareBytes]
    | cons y ys =>
      by_cases h1 : x < y
      · simp [Op.bytesLess, Lib.compareBytes, h1]
      · by_cases h2 : y < x
        · have hne : (x == y) = false := by
            rw [beq_eq_false_iff_ne]; rintro rfl; exact absurd h2 (by simp)
          simp [Op.bytesLess, Lib.compareBytes, h1, h2, hne]
        · have : x = y := UInt8.le_antisymm (UInt8.not_lt.1 h2) (UInt8.not_lt.1 h1)
          subst this
          simp [Op.bytesLess, Lib.compareBytes, ih]

theorem cbr (a : List UInt8) : ∀ b, -1 ≤ Lib.compareBytes a b ∧ Lib.compareBytes a b ≤ 1 := by
  induction a with
  | nil => intro b; cases b <;> simp [Lib.compareBytes]
  | cons x xs ih =>
    intro b
    cases b with
    | nil => simp [Lib.compareBytes]
    | cons y ys =>
      by_cases h1 : x < y
      · simp [Lib.compareBytes, h1]
      · by_cases h2 : y < x
        · simp [Lib.compareBytes, h1, h2]
        · simp only [Lib.compareBytes, h1, h2, if_false]; exact ih ys

theorem cb_val (a b : List UInt8) : Lib.compareBytes a b = if Op.bytesLess a b = true then -1 else if a = b then 0 else 1 := by
  have h1 := less_cb a b
  have h2 := cb_zero a b
  have h3 := cbr a b
  by_cases h : Lib.compareBytes a b < 0
  · rw [h1]; simp only [h, decide_true, if_true]; omega
  · rw [h1]
    simp only [h, decide_false, Bool.false_eq_true, if_false]
    by_cases e : a = b
    · rw [if_pos e]; exact h2.2 e
    · rw [if_neg e]
      have : Lib.compareBytes a b ≠ 0 := fun q => e (h2.1 q)
      omega

theorem cmpT_same (k : Int) (S L S' L' : List UInt8) : cmpT k S L k S' L' = if S = S' then Lib.compareBytes L L' else Lib.compareBytes S S' := by
  have h1 : Lib.compareInt k k = 0 := (ci_zero k k).2 rfl
  have h2 := cb_zero S S'
  unfold cmpT orI
  rw [h1, if_pos rfl]
  by_cases e : S = S'
  · rw [if_pos (h2.2 e), if_pos e]
  · rw [if_neg (fun q => e (h2.1 q)), if_neg e]

theorem RCompare_rest (k : Int) (S L : List UInt8) (S' L' : List UInt8) (w : World) :
    Calls Tryz.prog 102 #[.agg #[.int .i64 k, .string ⟨S.toArray⟩, .string ⟨L.toArray⟩], .agg #[.int .i64 k, .string ⟨S'.toArray⟩, .string ⟨L'.toArray⟩]] w fun e w' => e = .returned (.int .i64 (cmpT k S L k S' L')) ∧ Below w.heap.size w w' := by
  have fin : Hid (cmpT k S L k S' L' = if S = S' then Lib.compareBytes L L' else Lib.compareBytes S S') := cmpT_same k S L S' L'
  by_cases hS : S = S'
  · subst hS
    cases hl : Op.bytesLess L L'
    · by_cases hL : L = L'
      · have hb : (L == L') = true := by simpa using hL
        have v : Hid (Lib.compareBytes L L' = 0) := (cb_zero L L').2 hL
        clear hL
        go_enter Tryz.func102, Tryz.ntmps102
        go_wp2
        go_ret
        exact ⟨ret_i64 (by rw [fin.out, v.out]; rfl), bstep (balloc _ _) (balloc _ _)⟩
      · have hb : (L == L') = false := by simpa using hL
        have v : Hid (Lib.compareBytes L L' = 1) := by show _ = _; rw [cb_val, hl]; simp [hL]
        clear hL
        go_enter Tryz.func102, Tryz.ntmps102
        go_wp2
        go_ret
        exact ⟨ret_i64 (by rw [fin.out, v.out]; rfl), bstep (balloc _ _) (balloc _ _)⟩
    · have v : Hid (Lib.compareBytes L L' = -1) := by show _ = _; rw [cb_val, hl]; simp
      go_enter Tryz.func102, Tryz.ntmps102
      go_wp2
      go_ret
      exact ⟨ret_i64 (by rw [fin.out, v.out]; rfl), bstep (balloc _ _) (balloc _ _)⟩
  · have hb : (S == S') = false := by simpa using hS
    have fin2 : Hid (cmpT k S L k S' L' = Lib.compareBytes S S') := fin.out.trans (if_neg hS)
    have v := cb_val S S'
    rw [if_neg hS] at v
    have V : Hid (Lib.compareBytes S S' = if Op.bytesLess S S' = true then -1 else 1) := v
    clear hS v
    cases hl : Op.bytesLess S S'
    all_goals
      go_enter Tryz.func102, Tryz.ntmps102
      go_wp2
      go_ret
      exact ⟨ret_i64 (by rw [fin2.out, V.out, hl]; rfl), bstep (balloc _ _) (balloc _ _)⟩

theorem RCompare_any (k : Int) (S L : List UInt8) (k' : Int) (S' L' : List UInt8) (w : World) :
    Calls Tryz.prog 102 #[.agg #[.int .i64 k, .string ⟨S.toArray⟩, .string ⟨L.toArray⟩], .agg #[.int .i64 k', .string ⟨S'.toArray⟩, .string ⟨L'.toArray⟩]] w fun e w' => e = .returned (.int .i64 (cmpT k S L k' S' L')) ∧ Below w.heap.size w w' := by
  by_cases h : k = k'
  · subst h; exact RCompare_rest k S L S' L' w
  · exact RCompare_kind k S L k' S' L' w h
end Go.Proofs.YtnlcfnpcjkcdmafGreatDoor

/- The document's answer (package strataref1): Show. -/
namespace Go.Proofs.YtnlcfnpcjkcdmafGreatDoor
open Go Go.RowKit Go.Proofs

theorem slice_one (l : List UInt8) (k : Nat) (h : k < l.length) : (⟨l.toArray⟩ : ByteArray).extract k (k + 1) = ⟨#[l[k]]⟩ := by
  apply ByteArray.ext
  rw [ByteArray.data_extract]
  simp
  rw [List.drop_eq_getElem_cons h]
  rfl

theorem step_plain (S : List UInt8) (k : Nat) (h : k < S.length) (hm : markB (S[k].toNat : Int) = false) :
    (⟨(34 :: escL (S.take k)).toArray⟩ : ByteArray) ++ (⟨S.toArray⟩ : ByteArray).extract k (k + 1) = ⟨(34 :: escL (S.take (k + 1))).toArray⟩ := by
  rw [slice_one S k h, escL_take S k h, hm]
  exact str_app (34 :: escL (S.take k)) [S[k]]
theorem step_mark (S : List UInt8) (k : Nat) (h : k < S.length) (hm : markB (S[k].toNat : Int) = true) :
    ((⟨(34 :: escL (S.take k)).toArray⟩ : ByteArray) ++ (⟨#[92]⟩ : ByteArray)) ++ (⟨S.toArray⟩ : ByteArray).extract k (k + 1) = ⟨(34 :: escL (S.take (k + 1))).toArray⟩ := by
  rw [slice_one S k h, escL_take S k h, hm]
  have e := str_app (34 :: escL (S.take k)) [92]
  rw [show ((⟨#[92]⟩ : ByteArray)) = ⟨([92] : List UInt8).toArray⟩ from rfl, e, show ((⟨#[S[k]]⟩ : ByteArray)) = ⟨([S[k]] : List UInt8).toArray⟩ from rfl, str_app]
  simp

theorem end_nil (S : List UInt8) : (⟨(34 :: escL S).toArray⟩ : ByteArray) ++ (⟨#[34]⟩ : ByteArray) = ⟨(showL 3 S []).toArray⟩ := by
  have e := str_app (34 :: escL S) [34]
  rw [show ((⟨#[34]⟩ : ByteArray)) = ⟨([34] : List UInt8).toArray⟩ from rfl, e]
  show _ = (⟨(quoteL S ++ markL []).toArray⟩ : ByteArray)
  simp [quoteL, markL]
theorem end_cons (S : List UInt8) (c : UInt8) (r : List UInt8) : (((⟨(34 :: escL S).toArray⟩ : ByteArray) ++ (⟨#[34]⟩ : ByteArray)) ++ (⟨#[64]⟩ : ByteArray)) ++ (⟨(c :: r).toArray⟩ : ByteArray) = ⟨(showL 3 S (c :: r)).toArray⟩ := by
  rw [show ((⟨#[34]⟩ : ByteArray)) = ⟨([34] : List UInt8).toArray⟩ from rfl, show ((⟨#[64]⟩ : ByteArray)) = ⟨([64] : List UInt8).toArray⟩ from rfl, str_app, str_app, str_app]
  show _ = (⟨(quoteL S ++ markL (c :: r)).toArray⟩ : ByteArray)
  simp [quoteL, markL]

theorem RShow_plain (k : Int) (S L : List UInt8) (w : World) (hs : S.length ≤ 24) (hk : k = 1 ∨ k = 2) :
    Calls Tryz.prog 95 #[.agg #[.int .i64 k, .string ⟨S.toArray⟩, .string ⟨L.toArray⟩]] w fun e w' => e = .returned (.string ⟨(showL k S L).toArray⟩) ∧ Below w.heap.size w w' := by
  rcases hk with rfl | rfl
  · go_enter Tryz.func95, Tryz.ntmps95
    go_wp2
    go_ret
    exact ⟨rfl, balloc _ _⟩
  · go_enter Tryz.func95, Tryz.ntmps95
    go_wp2
    go_ret
    exact ⟨ret_val (congrArg Value.string (str_app2 95 S)), balloc _ _⟩

set_option maxHeartbeats 2000000 in
set_option maxRecDepth 100000 in
theorem RShow_text (S L : List UInt8) (w : World) (hs : S.length ≤ 24) (hl : L.length ≤ 2) :
    Calls Tryz.prog 95 #[.agg #[.int .i64 3, .string ⟨S.toArray⟩, .string ⟨L.toArray⟩]] w fun e w' => e = .returned (.string ⟨(showL 3 S L).toArray⟩) ∧ Below w.heap.size w w' := by
  have fin : Hid (showL 3 S L = 34 :: (escL S ++ [34]) ++ markL L) := rfl
  go_enter Tryz.func95, Tryz.ntmps95
  go_wp2
  go_loop [3, 4] (fun s i => ∃ k : Nat, k ≤ S.length ∧ i = .int .i64 k ∧ s = .string ⟨(34 :: escL (S.take k)).toArray⟩) (fun _ i => S.length - (intOf i).toNat)
  case atStart => exact ⟨0, Nat.zero_le _, rfl, rfl⟩
  case round =>
    obtain ⟨k, hk, rfl, rfl⟩ := hrel
    have hlen := escL_len (S.take k)
    have hlt2 : (S.take k).length ≤ k := List.length_take_le _ _
    by_cases hlt : k < S.length
    · have hidx : ∀ h, (⟨S.toArray⟩ : ByteArray)[k]'h = S[k] := fun _ => rfl
      have hex : (⟨S.toArray⟩ : ByteArray).size = S.length := rfl
      cases h34 : ((S[k].toNat : Int) == 34)
      · cases h92 : ((S[k].toNat : Int) == 92)
        · have hm : markB (S[k].toNat : Int) = false := by
            simp at h34 h92; simp [markB, h34, h92]
          have Hn : Hid (_ = _) := step_plain S k hlt hm
          clear hm
          go_wp2
          exact ⟨⟨k + 1, by omega, by go_num, congrArg Value.string Hn.out⟩, by simp [intOf]; omega⟩
        · have hm : markB (S[k].toNat : Int) = true := by
            simp at h92; simp [markB, h92]
          have Hn : Hid (_ = _) := step_mark S k hlt hm
          clear hm
          go_wp2
          exact ⟨⟨k + 1, by omega, by go_num, congrArg Value.string Hn.out⟩, by simp [intOf]; omega⟩
      · have hm : markB (S[k].toNat : Int) = true := by
          simp at h34; simp [markB, h34]
        have Hn : Hid (_ = _) := step_mark S k hlt hm
        clear hm
        go_wp2
        exact ⟨⟨k + 1, by omega, by go_num, congrArg Value.string Hn.out⟩, by simp [intOf]; omega⟩
    · have hk' : k = S.length := by omega
      subst hk'
      rw [List.take_length] at *
      cases L with
      | nil =>
        go_wp2
        go_ret
        exact ⟨ret_val (congrArg Value.string (end_nil S)), balloc _ _⟩
      | cons c r =>
        simp only [List.length_cons] at hl
        go_wp2
        go_ret
        exact ⟨ret_val (congrArg Value.string (end_cons S c r)), balloc _ _⟩

theorem RShow_any (k : Int) (S L : List UInt8) (w : World) (h : checkN k S L = 0) :
    Calls Tryz.prog 95 #[.agg #[.int .i64 k, .string ⟨S.toArray⟩, .string ⟨L.toArray⟩]] w fun e w' => e = .returned (.string ⟨(showL k S L).toArray⟩) ∧ Below w.heap.size w w' := by
  obtain ⟨hk, hS, hsp⟩ := check_zero h
  have hL := spell_lang hsp
  rcases hk with rfl | rfl | rfl
  · exact RShow_plain 1 S L w hS (Or.inl rfl)
  · exact RShow_plain 2 S L w hS (Or.inr rfl)
  · exact RShow_text S L w hS hL
end Go.Proofs.YtnlcfnpcjkcdmafGreatDoor

/- The document's answer (package strataref1): Text. -/
namespace Go.Proofs.YtnlcfnpcjkcdmafGreatDoor
open Go Go.RowKit Go.Proofs
set_option synthInstance.maxSize 1000

set_option maxHeartbeats 2000000 in
set_option maxRecDepth 100000 in
theorem RText_any (x : Tr) (w : World) (h : chkTr x = 0) : Calls Tryz.prog 65 #[valTr x] w fun e w' => e = .returned (.string ⟨(showTr x).toArray⟩) ∧ RowKit.Below w.heap.size w w' := by
  obtain ⟨h1, h2, h3, _⟩ := chk_zero h
  have H1 := fun W => RShow_any x.1.1 x.1.2.1 x.1.2.2 W h1
  have H2 := fun W => RShow_any x.2.1.1 x.2.1.2.1 x.2.1.2.2 W h2
  have H3 := fun W => RShow_any x.2.2.1 x.2.2.2.1 x.2.2.2.2 W h3
  have s1 := show_short _ _ _ h1
  have s2 := show_short _ _ _ h2
  have s3 := show_short _ _ _ h3
  have fin : Hid (showTr x = showL x.1.1 x.1.2.1 x.1.2.2 ++ [32] ++ showL x.2.1.1 x.2.1.2.1 x.2.1.2.2 ++ [32] ++ showL x.2.2.1 x.2.2.2.1 x.2.2.2.2) := by simp [Hid, showTr, joinUpto]
  generalize showTr x = N at *
  generalize showL x.1.1 x.1.2.1 x.1.2.2 = a at *
  generalize showL x.2.1.1 x.2.1.2.1 x.2.1.2.2 = b at *
  generalize showL x.2.2.1 x.2.2.2.1 x.2.2.2.2 = c at *
  clear h h1 h2 h3
  unfold valTr
  go_enter Tryz.func65, Tryz.ntmps65
  go_wp2_with fail
  refine (H1 _).mono ?_
  rintro e w1 ⟨rfl, hb1⟩
  obtain ⟨a0, a1, a2, b0, b1, b2, d0, d1, d2, hzz⟩ := ninebox hb1
  go_wp2_with fail
  refine (H2 _).mono ?_
  rintro e w2 ⟨rfl, hb2⟩
  have hB := bstep hb1 hb2
  clear a0 a1 a2 b0 b1 b2 d0 d1 d2 hzz
  obtain ⟨a0, a1, a2, b0, b1, b2, d0, d1, d2, hzz⟩ := ninebox hB
  go_wp2_with fail
  refine (H3 _).mono ?_
  rintro e w3 ⟨rfl, hb3⟩
  clear a0 a1 a2 b0 b1 b2 d0 d1 d2 hzz
  go_wp2_with fail
  go_ret
  refine ⟨ret_val ?_, bstep (bstep (balloc _ _) hB) hb3⟩
  rw [fin.out, ← str_app, ← str_app, ← str_app, ← str_app]
  rfl
end Go.Proofs.YtnlcfnpcjkcdmafGreatDoor

/- A store in plain words: objects by number; what is put, got, found, kept. -/
namespace Go.Proofs.YtnlcfnpcjkcdmafGreatDoor
open Go Go.RowKit Go.Proofs
set_option synthInstance.maxSize 1000

/-- an object: its number, its bytes -/
abbrev Ob := Nat × List UInt8
def findO : List Ob → List UInt8 → Nat
  | [], _ => 0
  | x :: r, b => if x.2 = b then x.1 else findO r b
def getO : List Ob → Int → Option (List UInt8)
  | [], _ => none
  | x :: r, n => if (x.1 : Int) = n then some x.2 else getO r n
def sizeO (L : List Ob) : Nat := (L.map fun x => x.2.length).sum
/-- a number as an int has it -/
def wr64 (n : Int) : Int := (n + 9223372036854775808) % 18446744073709551616 - 9223372036854775808
theorem wr64_id {n : Int} (h0 : -9223372036854775808 ≤ n) (h1 : n ≤ 9223372036854775807) : wr64 n = n := by unfold wr64; omega
theorem wr64_add (a b : Int) : wr64 (wr64 a + b) = wr64 (a + b) := by unfold wr64; omega
def fullO (L : List Ob) (b : List UInt8) : Bool := decide (300 ≤ L.length ∨ 60000 < wr64 (b.length + sizeO L : Nat))
/-- put: the fault, the number, the last number and the list behind it -/
def putE (L : List Ob) (b : List UInt8) : Int := if findO L b ≠ 0 then 0 else if fullO L b = true then 4 else 0
def putI (n : Nat) (L : List Ob) (b : List UInt8) : Nat := if findO L b ≠ 0 then findO L b else if fullO L b = true then 0 else n + 1
def putM (n : Nat) (L : List Ob) (b : List UInt8) : Nat := if findO L b ≠ 0 then n else if fullO L b = true then n else n + 1
def putL (n : Nat) (L : List Ob) (b : List UInt8) : List Ob := if findO L b ≠ 0 then L else if fullO L b = true then L else L ++ [(n + 1, b)]
/-- keep: whether all are there, what is left -/
def heldO (L : List Ob) (ids : List Int) : Bool := ids.all fun i => (getO L i).isSome
def keepO (L : List Ob) (ids : List Int) : List Ob := L.filter fun x => ids.contains (x.1 : Int)
def keepE (L : List Ob) (ids : List Int) : Int := if heldO L ids = true then 0 else 5
def keepI (L : List Ob) (ids : List Int) : Nat := if heldO L ids = true then L.length - (keepO L ids).length else 0
def keepL (L : List Ob) (ids : List Int) : List Ob := if heldO L ids = true then keepO L ids else L

/-- what a store's list is: numbers rise, from 1 to the last; each object once; no more than may be -/
structure GoodO (n : Nat) (L : List Ob) : Prop where
  low : ∀ x ∈ L, 1 ≤ x.1 ∧ x.1 ≤ n
  rise : L.Pairwise fun x y => x.1 < y.1
  once : L.Pairwise fun x y => x.2 ≠ y.2
  len : L.length ≤ 300

theorem goodO_nil (n : Nat) : GoodO n [] := ⟨by simp, by simp, by simp, by simp⟩
theorem sizeO_app (L M : List Ob) : sizeO (L ++ M) = sizeO L + sizeO M := by simp [sizeO]
theorem sizeO_filter (p : Ob → Bool) (L : List Ob) : sizeO (L.filter p) ≤ sizeO L := by
  induction L with
  | nil => simp [sizeO]
  | cons x r ih =>
    rw [List.filter_cons]
    have e : sizeO (x :: r) = x.2.length + sizeO r := by simp [sizeO]
    split
    · have e' : sizeO (x :: r.filter p) = x.2.length + sizeO (r.filter p) := by simp [sizeO]
      omega
    · omega
theorem findO_mem {L : List Ob} {b : List UInt8} (hl : ∀ x ∈ L, 1 ≤ x.1) : findO L b ≠ 0 ↔ ∃ x ∈ L, x.2 = b := by
  induction L with
  | nil => simp [findO]
  | cons x r ih =>
    have := ih fun y hy => hl y (List.mem_cons_of_mem _ hy)
    unfold findO
    split
    · rename_i h
      have := hl x (List.mem_cons_self ..)
      constructor
      · exact fun _ => ⟨x, List.mem_cons_self .., h⟩
      · exact fun _ => by omega
    · rename_i h
      rw [this]
      constructor
      · rintro ⟨y, hy, e⟩; exact ⟨y, List.mem_cons_of_mem _ hy, e⟩
      · rintro ⟨y, hy, e⟩
        rcases List.mem_cons.1 hy with rfl | hy
        · exact absurd e h
        · exact ⟨y, hy, e⟩
theorem findO_at {L : List Ob} {b : List UInt8} {k : Nat} (hk : k < L.length) (hn : ∀ x ∈ L.take k, x.2 ≠ b) (he : L[k].2 = b) : findO L b = L[k].1 := by
  induction L generalizing k with
  | nil => simp at hk
  | cons x r ih =>
    cases k with
    | zero => simp at he; simp [findO, he]
    | succ j =>
      have h0 : x.2 ≠ b := hn x (by simp)
      simp at hk he
      unfold findO
      rw [if_neg h0, ih hk (fun y hy => hn y (by simp [hy])) he]
      simp
theorem findO_none {L : List Ob} {b : List UInt8} (hn : ∀ x ∈ L, x.2 ≠ b) : findO L b = 0 := by
  induction L with
  | nil => rfl
  | cons x r ih =>
    unfold findO
    rw [if_neg (hn x (by simp)), ih fun y hy => hn y (List.mem_cons_of_mem _ hy)]
theorem getO_at {L : List Ob} {n : Int} {k : Nat} (hk : k < L.length) (hn : ∀ x ∈ L.take k, (x.1 : Int) ≠ n) (he : (L[k].1 : Int) = n) : getO L n = some L[k].2 := by
  induction L generalizing k with
  | nil => simp at hk
  | cons x r ih =>
    cases k with
    | zero => simp at he; simp [getO, he]
    | succ j =>
      have h0 : (x.1 : Int) ≠ n := hn x (by simp)
      simp at hk he
      unfold getO
      rw [if_neg h0, ih hk (fun y hy => hn y (by simp [hy])) he]
      simp
theorem getO_none {L : List Ob} {n : Int} (hn : ∀ x ∈ L, (x.1 : Int) ≠ n) : getO L n = none := by
  induction L with
  | nil => rfl
  | cons x r ih =>
    unfold getO
    rw [if_neg (hn x (by simp)), ih fun y hy => hn y (List.mem_cons_of_mem _ hy)]
theorem getO_some {L : List Ob} {n : Int} {b : List UInt8} (h : getO L n = some b) : ∃ x ∈ L, (x.1 : Int) = n ∧ x.2 = b := by
  induction L with
  | nil => simp [getO] at h
  | cons x r ih =>
    unfold getO at h
    split at h
    · rename_i e
      exact ⟨x, by simp, e, Option.some.inj h⟩
    · obtain ⟨y, hy, e⟩ := ih h
      exact ⟨y, List.mem_cons_of_mem _ hy, e⟩
theorem getO_mem {L : List Ob} (hr : L.Pairwise fun x y => x.1 < y.1) {x : Ob} (hx : x ∈ L) : getO L x.1 = some x.2 := by
  induction L with
  | nil => simp at hx
  | cons y r ih =>
    obtain ⟨h1, h2⟩ := List.pairwise_cons.1 hr
    unfold getO
    rcases List.mem_cons.1 hx with rfl | hx
    · rw [if_pos rfl]
    · rw [if_neg (by have := h1 x hx; omega), ih h2 hx]
theorem findO_in {L : List Ob} (ho : L.Pairwise fun x y => x.2 ≠ y.2) {x : Ob} (hx : x ∈ L) : findO L x.2 = x.1 := by
  induction L with
  | nil => simp at hx
  | cons y r ih =>
    obtain ⟨h1, h2⟩ := List.pairwise_cons.1 ho
    unfold findO
    rcases List.mem_cons.1 hx with rfl | hx
    · rw [if_pos rfl]
    · rw [if_neg (h1 x hx), ih h2 hx]

theorem GoodO.put {n : Nat} {L : List Ob} (h : GoodO n L) (b : List UInt8) : GoodO (putM n L b) (putL n L b) := by
  unfold putM putL
  split
  · exact h
  · rename_i h0
    split
    · exact h
    · rename_i hf
      have hf' : ¬ (300 ≤ L.length ∨ 60000 < wr64 (b.length + sizeO L : Nat)) := by simpa [fullO] using hf
      have hnb : ∀ x ∈ L, x.2 ≠ b := fun x hx e => h0 ((findO_mem fun y hy => (h.low y hy).1).2 ⟨x, hx, e⟩)
      refine ⟨fun x hx => ?_, List.pairwise_append.2 ⟨h.rise, by simp, fun x hx y hy => ?_⟩, List.pairwise_append.2 ⟨h.once, by simp, fun x hx y hy => ?_⟩, by simp; omega⟩
      · rcases List.mem_append.1 hx with hx | hx
        · have := h.low x hx; omega
        · simp at hx; subst hx; exact ⟨by show 1 ≤ n + 1; omega, Nat.le_refl _⟩
      · simp at hy; subst hy; have := h.low x hx; show x.1 < n + 1; omega
      · simp at hy; subst hy; exact hnb x hx
theorem GoodO.keep {n : Nat} {L : List Ob} (h : GoodO n L) (ids : List Int) : GoodO n (keepL L ids) := by
  unfold keepL
  split
  · unfold keepO
    refine ⟨fun x hx => h.low x (List.mem_filter.1 hx).1, h.rise.filter _, h.once.filter _, Nat.le_trans (List.length_filter_le _ _) h.len⟩
  · exact h

/-- as long as texts are not too long for a sum, there are no more bytes than may be -/
theorem putL_size {n : Nat} {L : List Ob} {b : List UInt8} (hL : sizeO L ≤ 60000) (hb : b.length ≤ 9223372036854715807) : sizeO (putL n L b) ≤ 60000 := by
  unfold putL
  split
  · exact hL
  · split
    · exact hL
    · rename_i hf
      have hf' : ¬ (300 ≤ L.length ∨ 60000 < wr64 (b.length + sizeO L : Nat)) := by simpa [fullO] using hf
      rw [wr64_id (by omega) (by omega)] at hf'
      rw [sizeO_app]
      simp [sizeO] at hf' ⊢
      omega
theorem keepL_size {L : List Ob} (ids : List Int) : sizeO (keepL L ids) ≤ sizeO L := by
  unfold keepL
  split
  · exact sizeO_filter _ _
  · exact Nat.le_refl _

/-! ### objects in memory -/
def encO (x : Ob) : List Value := [.int .i64 (x.1 : Int), .string ⟨x.2.toArray⟩]
def cellsO (L : List Ob) : List Value := L.flatMap encO
theorem cellsO_len (L : List Ob) : (cellsO L).length = L.length * 2 := by
  induction L with
  | nil => rfl
  | cons x r ih => simp only [cellsO, List.flatMap_cons, List.length_append, List.length_cons] at ih ⊢; rw [ih]; simp [encO]; omega
theorem cellsO_app (L M : List Ob) : cellsO (L ++ M) = cellsO L ++ cellsO M := by simp [cellsO]
theorem cellsO_at (L : List Ob) (k : Nat) (hk : k < L.length) : (cellsO L)[k * 2]? = some (.int .i64 (L[k].1 : Int)) ∧ (cellsO L)[k * 2 + 1]? = some (.string ⟨L[k].2.toArray⟩) := by
  induction L generalizing k with
  | nil => simp at hk
  | cons x r ih =>
    have e : cellsO (x :: r) = .int .i64 (x.1 : Int) :: .string ⟨x.2.toArray⟩ :: cellsO r := rfl
    rw [e]
    cases k with
    | zero => exact ⟨rfl, rfl⟩
    | succ j =>
      have := ih j (by simpa using hk)
      rw [show (j + 1) * 2 = j * 2 + 1 + 1 by omega]
      simpa using this
theorem ownO_at {W : World} {base : Nat} {e : TypeId} {v : Value} {L : List Ob} (h : W.ownsRow base e 2 v L.length (cellsO L)) (k : Nat) (hk : k < L.length) :
    ∃ g cap, v = .slice (some ⟨g, 0, none⟩) L.length cap ∧ W.cell? ⟨g, k * 2, none⟩ = some (.int .i64 (L[k].1 : Int)) ∧ W.cell? ⟨g, k * 2 + 1, none⟩ = some (.string ⟨L[k].2.toArray⟩) := by
  have h' := h
  rcases h.2 with ⟨rfl, h0⟩ | ⟨g, cap, cur, rfl, _⟩
  · omega
  · obtain ⟨c0, c1⟩ := cellsO_at L k hk
    have q0 := h'.cells (g := g) rfl _ _ c0
    have q1 := h'.cells (g := g) rfl _ _ c1
    rw [Addr.add_lit, Nat.zero_add] at q0 q1
    exact ⟨g, cap, rfl, q0, q1⟩
theorem ownO_form {W : World} {base : Nat} {e : TypeId} {v : Value} {L : List Ob} (h : W.ownsRow base e 2 v L.length (cellsO L)) : ∃ ad cap, v = .slice ad L.length cap := by
  rcases h.2 with ⟨rfl, h0⟩ | ⟨g, cap, cur, rfl, _⟩
  · exact ⟨none, 0, by rw [h0]⟩
  · exact ⟨_, cap, rfl⟩
theorem hideO {p : Prop} (h : p) : Hid p := h
theorem ownsO_below {W W' : World} {base : Nat} {e : TypeId} {sz : Nat} {v : Value} {n : Nat} {cs : List Value} (h : W.ownsRow base e sz v n cs) (hb : RowKit.Below W.heap.size W W') : W'.ownsRow base e sz v n cs :=
  h.kept (row := none) ⟨hb.os, hb.tape, hb.output, hb.size, fun i hi _ => hb.block i hi⟩ (Classical.em _)
theorem bdO (w : World) (q : Nat) : RowKit.Below w.heap.size w (w.drewN q) := ⟨rfl, rfl, rfl, Nat.le_refl _, fun _ _ => rfl⟩

/-- the blocks that a change may turn: all others are as they were -/
structure Offs (O : Nat → Prop) (w w' : World) : Prop where
  os : w'.os = w.os
  tape : w'.tape = w.tape
  output : w'.output = w.output
  size : w.heap.size ≤ w'.heap.size
  block : ∀ k, k < w.heap.size → ¬ O k → w'.heap[k]? = w.heap[k]?
theorem Offs.of_below {O : Nat → Prop} {w w' : World} (h : RowKit.Below w.heap.size w w') : Offs O w w' := ⟨h.os, h.tape, h.output, h.size, fun k hk _ => h.block k hk⟩
theorem Offs.of_grown {O : Nat → Prop} {w w' : World} {row : Option Nat} (h : w.grownBy w' row) (hr : ∀ k, row = some k → O k) : Offs O w w' :=
  ⟨h.os, h.tape, h.output, h.size, fun k hk hO => h.block k hk fun e => hO (hr k e.symm)⟩
theorem Offs.trans {O O' : Nat → Prop} {a b c : World} (h : Offs O a b) (k : Offs O' b c) (hO : ∀ j, O' j → O j ∨ a.heap.size ≤ j) : Offs O a c :=
  ⟨k.os.trans h.os, k.tape.trans h.tape, k.output.trans h.output, Nat.le_trans h.size k.size, fun j hj hn => (k.block j (Nat.lt_of_lt_of_le hj h.size) fun hj' => (hO j hj').elim hn (fun h' => by omega)).trans (h.block j hj hn)⟩
theorem Offs.step {O : Nat → Prop} {a b c : World} (h : Offs O a b) (k : RowKit.Below b.heap.size b c) : Offs O a c := h.trans (Offs.of_below (O := O) k) fun _ h' => Or.inl h'
theorem Offs.mono {O O' : Nat → Prop} {a b : World} (h : Offs O a b) (hO : ∀ j, O j → O' j ∨ a.heap.size ≤ j) : Offs O' a b :=
  ⟨h.os, h.tape, h.output, h.size, fun j hj hn => h.block j hj fun hj' => (hO j hj').elim hn (fun h' => by omega)⟩
theorem Offs.cell {O : Nat → Prop} {w w' : World} (h : Offs O w w') {p : Addr} (hp : p.block < w.heap.size) (hO : ¬ O p.block) : w'.cell? p = w.cell? p := World.cell?_of_block (w := w) (h.block p.block hp hO)
theorem Offs.below {O : Nat → Prop} {B : Nat} {w w' : World} (h : Offs O w w') (hO : ∀ j, O j → B ≤ j) (hB : B ≤ w.heap.size) : RowKit.Below B w w' :=
  ⟨h.os, h.tape, h.output, h.size, fun k hk => h.block k (by omega) fun hk' => by have := hO k hk'; omega⟩

/-- a slice of numbers (nothing is said of an empty one) -/
def SlI (w : World) (ad : Option Addr) (l : List Int) : Prop := l ≠ [] → ∃ b o, ad = some ⟨b, o, none⟩ ∧ ∀ (j : Nat) (hj : j < l.length), w.cell? ⟨b, o + j, none⟩ = some (.int .i64 l[j])
theorem SlI.below {w w' : World} {ad : Option Addr} {l : List Int} (h : SlI w ad l) (hb : RowKit.Below w.heap.size w w') : SlI w' ad l := fun hl => by
  obtain ⟨b, o, e, h1⟩ := h hl
  exact ⟨b, o, e, fun j hj => (hb.cell (World.block_lt_of_cell? w _ (h1 j hj))).trans (h1 j hj)⟩
theorem SlI.at {w : World} {ad : Option Addr} {l : List Int} (h : SlI w ad l) {j : Nat} (hj : j < l.length) : ∃ b o, ad = some ⟨b, o, none⟩ ∧ w.cell? ⟨b, o + j, none⟩ = some (.int .i64 l[j]) := by
  obtain ⟨b, o, e, h1⟩ := h (fun e => by rw [e] at hj; simp at hj)
  exact ⟨b, o, e, h1 j hj⟩

/-- lists of numbers, in a list -/
def ListsAt (w : World) (b o : Nat) (Q : List (List Int)) : Prop := ∀ (i : Nat) (hi : i < Q.length), ∃ a c, w.cell? ⟨b, o + i, none⟩ = some (.slice a Q[i].length c) ∧ SlI w a Q[i] ∧ Q[i].length ≤ c
/-- texts, in a list -/
def TextsAt (w : World) (b o : Nat) (T : List (List UInt8)) : Prop := ∀ (i : Nat) (hi : i < T.length), w.cell? ⟨b, o + i, none⟩ = some (.string ⟨T[i].toArray⟩)

end Go.Proofs.YtnlcfnpcjkcdmafGreatDoor

/- The document's PatchText: a layer as text. -/
namespace Go.Proofs.YtnlcfnpcjkcdmafGreatDoor
open Go Go.RowKit Go.Proofs
set_option synthInstance.maxSize 1000

theorem cat3 (a b c d : List UInt8) : (((⟨a.toArray⟩ : ByteArray) ++ ⟨b.toArray⟩) ++ ⟨c.toArray⟩) ++ ⟨d.toArray⟩ = (⟨(a ++ (b ++ (c ++ d))).toArray⟩ : ByteArray) := by
  apply ByteArray.ext
  simp [ByteArray.data_append]
theorem lines_next {t : Bool} {m : List Tr} {k : Nat} (hk : k < m.length) : linesP t (m.take (k + 1)) = linesP t (m.take k) ++ (markP t :: 32 :: (showTr m[k] ++ [10])) := by
  rw [List.take_succ_eq_append_getElem hk, linesP_app]
  simp [linesP, lineP]

theorem lines_le (t : Bool) (m : List Tr) (k : Nat) : (linesP t (m.take k)).length ≤ (linesP t m).length := by
  conv => rhs; rw [← List.take_append_drop k m, linesP_app, List.length_append]
  omega
theorem line_room {t : Bool} {m : List Tr} {k : Nat} (hk : k < m.length) : (linesP t (m.take k)).length + (2 + (showTr m[k]).length + 1) ≤ (linesP t m).length := by
  have h1 := lines_le t m (k + 1)
  rw [lines_next hk, List.length_append] at h1
  simp only [List.length_cons, List.length_append, List.length_nil] at h1
  omega
theorem size_of {q : ByteArray} {a : List UInt8} (h : q = ⟨a.toArray⟩) : q.size = a.length := by rw [h]; simp [ByteArray.size]
set_option maxHeartbeats 4000000 in
set_option maxRecDepth 100000 in
theorem RPatchText_any (a1 a2 : Option Addr) (c1 c2 : Nat) (l : LyP) (w : World) (h1 : SlT w a1 l.1) (h2 : SlT w a2 l.2) (hg : GoodLy l) :
    Calls Tryz.prog 30 #[.agg #[.slice a1 l.1.length c1, .slice a2 l.2.length c2]] w fun e w' => e = .returned (.string ⟨(patchB l).toArray⟩) ∧ RowKit.Below w.heap.size w w' := by
  have Hg := hideO hg
  have H1 := hideO h1
  have H2 := hideO h2
  have hn1 : l.1.length ≤ 200 := hg.add.1
  have hn2 : l.2.length ≤ 200 := hg.take.1
  clear h1 h2 hg
  have hba := hideO (balloc w (.cells #[.slice a1 l.1.length c1, .slice a2 l.2.length c2] 70))
  have k0 : (w.alloc (.cells #[.slice a1 l.1.length c1, .slice a2 l.2.length c2] 70)).cell? ⟨w.heap.size, 0, none⟩ = some (.slice a1 l.1.length c1) := by go_simp
  have k1 : (w.alloc (.cells #[.slice a1 l.1.length c1, .slice a2 l.2.length c2] 70)).cell? ⟨w.heap.size, 1, none⟩ = some (.slice a2 l.2.length c2) := by go_simp
  have KK := hideO (fun W (hW : RowKit.Below (w.alloc (.cells #[.slice a1 l.1.length c1, .slice a2 l.2.length c2] 70)).heap.size (w.alloc (.cells #[.slice a1 l.1.length c1, .slice a2 l.2.length c2] 70)) W) => And.intro ((hW.cell (World.block_lt_of_cell? _ _ k0)).trans k0) ((hW.cell (World.block_lt_of_cell? _ _ k1)).trans k1))
  clear k0 k1
  go_enter Tryz.func30, Tryz.ntmps30
  go_wp2_with fail
  generalize hW0 : w.alloc (.cells #[.slice a1 l.1.length c1, .slice a2 l.2.length c2] 70) = W0 at *
  clear hW0
  go_loopw [3, 4] (fun v i wr => ∃ (k : Nat) (q : ByteArray), k ≤ l.2.length ∧ v = .string q ∧ i = .int .i64 k ∧ Hid (q = ⟨(linesP true (l.2.take k)).toArray⟩) ∧ RowKit.Below W0.heap.size W0 wr) (fun _ i wr => l.2.length - (intOf i).toNat)
  case atStart => exact ⟨0, _, Nat.zero_le _, rfl, rfl, rfl, RowKit.Below.refl _ _⟩
  case round =>
    obtain ⟨k, q, hk, rfl, rfl, hq, hbr⟩ := hrel
    obtain ⟨x0, x1⟩ := KK.out _ hbr
    have zb := World.block_lt_of_cell? _ _ x0
    by_cases hlt : k < l.2.length
    · obtain ⟨p, o, e1, hrow⟩ := (H2.out.below (bstep hba.out hbr)).at k hlt
      obtain ⟨d0, d1, d2, d3, d4, d5, d6, d7, d8⟩ := hrow.at k hlt
      subst e1
      have i0 : (0 : Int) ≤ (k : Int) := by omega
      have i1 : (k : Int) < (l.2.length : Int) := by omega
      have HT := fun W => RText_any l.2[k] W (Hg.out.take.2.1 _ (List.getElem_mem hlt))
      have hnx := hideO (lines_next (t := true) hlt)
      have hqz : q.size + (2 + (showTr l.2[k]).length + 1) ≤ 1202000 := by
        have h7 := line_room (t := true) hlt
        have h8 := patch_len Hg.out
        have h9 := size_of hq.out
        unfold patchB at h8
        rw [List.length_append] at h8
        omega
      unfold valTr at HT
      generalize l.2[k] = y at *
      have hq1 : ¬ (9223372036854775807 < q.size + 2) := by omega
      have hq2 : ¬ (9223372036854775807 < q.size + 2 + (showTr y).length) := by omega
      have hq3 : ¬ (9223372036854775807 < q.size + 2 + (showTr y).length + 1) := by omega
      go_wp2_with (go_at_call 65; refine (HT _).mono ?_; rintro e w1 ⟨rfl, hb1⟩; dsimp only)
      go_roundw
      case rel => exact ⟨k + 1, _, by omega, rfl, by go_num, by show _ = _; rw [hq.out, hnx.out]; exact cat3 _ [45, 32] _ [10], bstep hbr hb1⟩
      case measure => simp [intOf]; omega
    · obtain rfl : k = l.2.length := by omega
      rw [List.take_length] at hq
      go_wp2_with fail
      go_loopw [3, 6] (fun v i wr' => ∃ (k : Nat) (q : ByteArray), k ≤ l.1.length ∧ v = .string q ∧ i = .int .i64 k ∧ Hid (q = ⟨(linesP true l.2 ++ linesP false (l.1.take k)).toArray⟩) ∧ RowKit.Below W0.heap.size W0 wr') (fun _ i wr' => l.1.length - (intOf i).toNat)
      case atStart => exact ⟨0, _, Nat.zero_le _, rfl, rfl, by show _ = _; rw [hq.out]; simp [linesP], hbr⟩
      case round =>
        clear x0 x1 zb hbr hq
        obtain ⟨k, q, hk, rfl, rfl, hq, hbr⟩ := hrel
        obtain ⟨x0, x1⟩ := KK.out _ hbr
        have zb := World.block_lt_of_cell? _ _ x0
        by_cases hlt : k < l.1.length
        · obtain ⟨p, o, e1, hrow⟩ := (H1.out.below (bstep hba.out hbr)).at k hlt
          obtain ⟨d0, d1, d2, d3, d4, d5, d6, d7, d8⟩ := hrow.at k hlt
          subst e1
          have i0 : (0 : Int) ≤ (k : Int) := by omega
          have i1 : (k : Int) < (l.1.length : Int) := by omega
          have HT := fun W => RText_any l.1[k] W (Hg.out.add.2.1 _ (List.getElem_mem hlt))
          have hnx := hideO (lines_next (t := false) hlt)
          have hqz : q.size + (2 + (showTr l.1[k]).length + 1) ≤ 1202000 := by
            have h7 := line_room (t := false) hlt
            have h8 := patch_len Hg.out
            have h9 := size_of hq.out
            unfold patchB at h8
            rw [List.length_append] at h8 h9
            omega
          unfold valTr at HT
          generalize l.1[k] = y at *
          have hq1 : ¬ (9223372036854775807 < q.size + 2) := by omega
          have hq2 : ¬ (9223372036854775807 < q.size + 2 + (showTr y).length) := by omega
          have hq3 : ¬ (9223372036854775807 < q.size + 2 + (showTr y).length + 1) := by omega
          go_wp2_with (go_at_call 65; refine (HT _).mono ?_; rintro e w1 ⟨rfl, hb1⟩; dsimp only)
          go_roundw
          case rel => exact ⟨k + 1, _, by omega, rfl, by go_num, by show _ = _; rw [hq.out, hnx.out, ← List.append_assoc]; exact cat3 _ [43, 32] _ [10], bstep hbr hb1⟩
          case measure => simp [intOf]; omega
        · obtain rfl : k = l.1.length := by omega
          rw [List.take_length] at hq
          go_wp2_with fail
          go_ret
          exact ⟨by rw [hq.out]; rfl, bstep hba.out hbr⟩
end Go.Proofs.YtnlcfnpcjkcdmafGreatDoor

/- How a text is read as a layer, line by line. -/
namespace Go.Proofs.YtnlcfnpcjkcdmafGreatDoor
open Go Go.RowKit Go.Proofs
set_option synthInstance.maxSize 1000

/-- where a reading stands -/
def AtP (s : List UInt8) (i : Nat) (l : LyP) (n : Nat) : Prop := i ≤ s.length ∧ GoodLy l ∧ n ≤ i ∧ ∃ f, (s.drop i).length ≤ f ∧ parseP s = readF f (s.drop i) l n
theorem goodLy_nil : GoodLy ([], []) := ⟨isSet_nil, isSet_nil, by simp⟩
theorem atP_start (s : List UInt8) : AtP s 0 ([], []) 0 := ⟨Nat.zero_le _, goodLy_nil, Nat.le_refl _, s.length, by simp, rfl⟩
theorem atP_end {s : List UInt8} {l : LyP} {n : Nat} (h : AtP s s.length l n) : parseP s = (0, 0, l) := by
  obtain ⟨_, _, _, f, _, e⟩ := h
  rw [e, List.drop_length, readF_nil]
theorem atP_cons {s : List UInt8} {i : Nat} {l : LyP} {n : Nat} (h : AtP s i l n) (hlt : i < s.length) : ∃ f c r, s.drop i = c :: r ∧ r.length ≤ f ∧ parseP s = readF (f + 1) (c :: r) l n := by
  obtain ⟨_, _, _, f, hf, e⟩ := h
  have hl : (s.drop i).length = s.length - i := List.length_drop
  cases hd : s.drop i with
  | nil => rw [hd] at hl; simp at hl; omega
  | cons c r =>
    rw [hd] at hf e
    simp only [List.length_cons] at hf
    cases f with
    | zero => omega
    | succ g => exact ⟨g, c, r, rfl, by omega, e⟩
theorem atP_none {s : List UInt8} {i : Nat} {l : LyP} {n : Nat} (h : AtP s i l n) (hlt : i < s.length) (hc : cutN (s.drop i) = none) : parseP s = (2, n, ([], [])) := by
  obtain ⟨f, c, r, hd, _, e⟩ := atP_cons h hlt
  rw [hd] at hc
  rw [e, readF_cons, hc]
theorem atP_bad {s : List UInt8} {i : Nat} {l : LyP} {n : Nat} {u t : List UInt8} (h : AtP s i l n) (hlt : i < s.length) (hc : cutN (s.drop i) = some (u, t)) (hb : lineN l u ≠ 0) : parseP s = (lineN l u, n, ([], [])) := by
  obtain ⟨f, c, r, hd, _, e⟩ := atP_cons h hlt
  rw [hd] at hc
  rw [e, readF_cons, hc]
  simp only [if_pos hb]
theorem lineN_good {l : LyP} {u : List UInt8} (h : GoodLy l) (h0 : lineN l u = 0) : GoodLy (lineL l u) := by
  unfold lineN at h0
  unfold lineL
  cases hf : formP l u with
  | none => rw [hf] at h0; cases h0
  | some p =>
    obtain ⟨k, t⟩ := p
    rw [hf] at h0
    dsimp only at h0 ⊢
    split at h0
    · rename_i h1; exact absurd h0 h1
    · rename_i h1
      have h1 : tparseN t = 0 := Classical.byContradiction h1
      exact moreP_good h (show_tparse t h1).1 h0
theorem atP_next {s : List UInt8} {i : Nat} {l : LyP} {n : Nat} {u t : List UInt8} (h : AtP s i l n) (hlt : i < s.length) (hc : cutN (s.drop i) = some (u, t)) (h0 : lineN l u = 0) : AtP s (i + u.length + 1) (lineL l u) (n + 1) := by
  obtain ⟨f, c, r, hd, hr, e⟩ := atP_cons h hlt
  have hs := (cutN_some hc).1
  have hl : (s.drop i).length = s.length - i := List.length_drop
  have hl2 : (s.drop i).length = u.length + 1 + t.length := by rw [hs]; simp; omega
  have ht : s.drop (i + u.length + 1) = t := by
    have h1 : (s.drop i).drop (u.length + 1) = s.drop (i + (u.length + 1)) := List.drop_drop
    rw [hs, show u ++ 10 :: t = (u ++ [10]) ++ t by simp, show u.length + 1 = (u ++ [10]).length by simp, List.drop_left] at h1
    rw [h1]
    simp [Nat.add_assoc]
  have hg := h.2.1
  have hn := h.2.2.1
  refine ⟨by omega, lineN_good hg h0, by omega, f, ?_, ?_⟩
  · rw [ht]
    rw [hd] at hl2
    simp only [List.length_cons] at hl2
    omega
  · rw [hd] at hc
    rw [e, readF_cons, hc, ht]
    simp only [h0, ne_eq, not_true_eq_false, if_false]

/-! ### a line -/
/-- no line ends between -/
def LineTo (s : List UInt8) (i j : Nat) : Prop := i ≤ j ∧ j ≤ s.length ∧ ∀ (k : Nat) (hk : k < s.length), i ≤ k → k < j → s[k] ≠ 10
theorem line_start {s : List UInt8} {i : Nat} (h : i ≤ s.length) : LineTo s i i := ⟨Nat.le_refl _, h, fun k hk h1 h2 => by omega⟩
theorem line_step {s : List UInt8} {i j : Nat} (h : LineTo s i j) (hj : j < s.length) (hne : s[j] ≠ 10) : LineTo s i (j + 1) := ⟨by have := h.1; omega, by omega, fun k hk h1 h2 => by
  by_cases e : k = j
  · subst e; exact hne
  · exact h.2.2 k hk h1 (by omega)⟩
theorem line_mem {s : List UInt8} {i j : Nat} (h : LineTo s i j) : ∀ c ∈ (s.drop i).take (j - i), c ≠ 10 := fun c hc => by
  obtain ⟨k, hk, rfl⟩ := List.getElem_of_mem hc
  have hl : ((s.drop i).take (j - i)).length = j - i := by rw [List.length_take, List.length_drop]; have := h.2.1; omega
  rw [List.getElem_take, List.getElem_drop]
  exact h.2.2 (i + k) (by have := h.2.1; omega) (by omega) (by omega)
theorem line_none {s : List UInt8} {i : Nat} (h : LineTo s i s.length) : cutN (s.drop i) = none := by
  cases hc : cutN (s.drop i) with
  | none => rfl
  | some p =>
    obtain ⟨u, r⟩ := p
    have hs := (cutN_some hc).1
    have hm := line_mem h
    rw [List.take_of_length_le (by rw [List.length_drop]; omega), hs] at hm
    exact absurd rfl (hm 10 (by simp))
theorem line_cut {s : List UInt8} {i j : Nat} (h : LineTo s i j) (hj : j < s.length) (h10 : s[j] = 10) : cutN (s.drop i) = some ((s.drop i).take (j - i), s.drop (j + 1)) := by
  have e : s.drop i = (s.drop i).take (j - i) ++ 10 :: s.drop (j + 1) := by
    have h1 := List.take_append_drop (j - i) (s.drop i)
    rw [List.drop_drop, show i + (j - i) = j by have := h.1; omega, List.drop_eq_getElem_cons hj, h10] at h1
    exact h1.symm
  have := cutN_of ((s.drop i).take (j - i)) (s.drop (j + 1)) (line_mem h)
  rw [← e] at this
  exact this
theorem line_len {s : List UInt8} {i j : Nat} (h : LineTo s i j) : ((s.drop i).take (j - i)).length = j - i := by rw [List.length_take, List.length_drop]; have := h.2.1; omega
theorem line_two {s : List UInt8} {i j : Nat} (h : LineTo s i j) (h2 : i + 2 ≤ j) : (s.drop i).take (j - i) = s[i]'(by have := h.2.1; omega) :: s[i + 1]'(by have := h.2.1; omega) :: (s.drop (i + 2)).take (j - (i + 2)) := by
  have hj := h.2.1
  rw [List.drop_eq_getElem_cons (show i < s.length by omega), List.drop_eq_getElem_cons (show i + 1 < s.length by omega), show j - i = (j - (i + 2)) + 1 + 1 by omega, List.take_succ_cons, List.take_succ_cons]
/-- is it a line? -/
def formB (l : LyP) (c d : UInt8) : Bool := decide (d = 32) && (decide (c = 43) || (decide (c = 45) && decide (l.1 = [])))
theorem form_two {l : LyP} {c d : UInt8} {t : List UInt8} : formP l (c :: d :: t) = if formB l c d = true then some (decide (c = 45), t) else none := by
  unfold formP formB
  dsimp only
  by_cases h : d = 32 ∧ (c = 43 ∨ (c = 45 ∧ l.1 = []))
  · rw [if_pos h, if_pos (by simpa using h)]
  · rw [if_neg h, if_neg (by simpa using h)]
theorem form_short {l : LyP} {u : List UInt8} (h : u.length < 2) : formP l u = none := by
  match u, h with
  | [], _ => rfl
  | [_], _ => rfl
theorem lineN_none {l : LyP} {u : List UInt8} (h : formP l u = none) : lineN l u = 2 := by unfold lineN; rw [h]
theorem lineN_some {l : LyP} {u t : List UInt8} {k : Bool} (h : formP l u = some (k, t)) : lineN l u = if tparseN t ≠ 0 then tparseN t else tripP l k (tparseT t) := by unfold lineN; rw [h]
theorem lineL_some {l : LyP} {u t : List UInt8} {k : Bool} (h : formP l u = some (k, t)) : lineL l u = moreP l k (tparseT t) := by unfold lineL; rw [h]
end Go.Proofs.YtnlcfnpcjkcdmafGreatDoor
