import Derived.Test.YtnlcfnpcjkcdmadGreatDoorMA0x0
import Derived.Test.YtnlcfnpcjkcdmadGreatDoorMA0x1
import Derived.Laws.Cover1
import Derived.Deep.RegionHeld3

/- The document's answer (package strataref1): letter, digit, Letters, right. -/
namespace Go.Proofs.YtnlcfnpcjkcdmadGreatDoor
open Go Go.RowKit Go.Proofs

theorem letter_any (n : Int) (w : World) :
    Calls Tryz.prog 91 #[.int .u8 n] w fun e w' => e = .returned (.bool (letB n)) ∧ w' = w := by
  by_cases h1 : 97 ≤ n
  all_goals
    go_enter Tryz.func91, Tryz.ntmps91
    go_wp2
    go_ret
    exact ⟨ret_bool (by first | exact decide_eq_decide.2 (by omega) | exact (decide_eq_false (by omega)).symm), rfl⟩

theorem digit_any (n : Int) (w : World) :
    Calls Tryz.prog 94 #[.int .u8 n] w fun e w' => e = .returned (.bool (digB n)) ∧ w' = w := by
  by_cases h1 : 48 ≤ n
  all_goals
    go_enter Tryz.func94, Tryz.ntmps94
    go_wp2
    go_ret
    exact ⟨ret_bool (by first | exact decide_eq_decide.2 (by omega) | exact (decide_eq_false (by omega)).symm), rfl⟩

theorem allL_take (p : Int → Bool) (S : List UInt8) (k : Nat) (h : k < S.length) : allB p (S.take (k + 1)) = (allB p (S.take k) && p (S[k].toNat : Int)) := by
  unfold allB
  rw [List.take_succ_eq_append_getElem h]
  simp only [List.all_append, List.all_cons, List.all_nil, Bool.and_true]

theorem allL_false (p : Int → Bool) (S : List UInt8) (k : Nat) (h : k < S.length) (hp : p (S[k].toNat : Int) = false) : allB p S = false := by
  unfold allB
  rw [List.all_eq_false]
  exact ⟨S[k], List.getElem_mem _, by rw [hp]; simp⟩

/-- one to two letters -/
def lettersB (L : List UInt8) : Bool := !L.isEmpty && (decide (L.length ≤ 2) && allB letB L)

set_option maxHeartbeats 400000 in
theorem Letters_any (L : List UInt8) (w : World) (hl : L.length ≤ maxLen) :
    Calls Tryz.prog 51 #[.string ⟨L.toArray⟩, .int .i64 2] w fun e w' => e = .returned (.bool (lettersB L)) ∧ w' = w := by
  unfold maxLen at hl
  cases L with
  | nil =>
    go_enter Tryz.func51, Tryz.ntmps51
    go_wp2
    go_ret
    exact ⟨rfl, rfl⟩
  | cons c r =>
    have fin : Hid (lettersB (c :: r) = (decide ((c :: r).length ≤ 2) && allB letB (c :: r))) := rfl
    generalize hL : c :: r = L at *
    have hne : ¬ L = [] := by rw [← hL]; simp
    have hne' : L.isEmpty = false := by rw [← hL]; rfl
    clear hL
    by_cases h2 : L.length ≤ 2
    · go_enter Tryz.func51, Tryz.ntmps51
      go_wp2
      go_loop [5] (fun i => ∃ k : Nat, k ≤ L.length ∧ i = .int .i64 k ∧ Hid (allB letB (L.take k) = true)) (fun i => L.length - (intOf i).toNat)
      case atStart => exact ⟨0, Nat.zero_le _, rfl, rfl⟩
      case round =>
        obtain ⟨k, hk, rfl, hall⟩ := hrel
        by_cases hlt : k < L.length
        · have hidx : ∀ h, (⟨L.toArray⟩ : ByteArray)[k]'h = L[k] := fun _ => rfl
          cases hp : letB (L[k].toNat : Int)
          · go_wp2_with (go_at_call 91; refine (letter_any _ _).mono ?_; rintro e w' ⟨rfl, rfl⟩)
            go_ret
            exact ⟨ret_bool (by rw [fin.out, allL_false letB L k hlt hp]; simp), rfl⟩
          · go_wp2_with (go_at_call 91; refine (letter_any _ _).mono ?_; rintro e w' ⟨rfl, rfl⟩)
            refine ⟨⟨k + 1, by omega, by go_num, ?_⟩, by simp [intOf]; omega⟩
            show _ = _
            rw [allL_take letB L k hlt, hall.out, hp]; rfl
        · go_wp2
          go_ret
          have e := hall.out
          rw [List.take_of_length_le (by omega)] at e
          exact ⟨ret_bool (by rw [fin.out, e]; simp [h2]), rfl⟩
    · go_enter Tryz.func51, Tryz.ntmps51
      go_wp2
      go_ret
      exact ⟨ret_bool (by rw [fin.out]; simp [h2]), rfl⟩

set_option maxHeartbeats 1000000 in
theorem right_text (S : List UInt8) (w : World) (hl : S.length ≤ maxLen) :
    Calls Tryz.prog 55 #[.int .i64 3, .string ⟨S.toArray⟩] w fun e w' => e = .returned (.bool (textOk S)) ∧ w' = w := by
  unfold maxLen at hl
  cases S with
  | nil =>
    go_enter Tryz.func55, Tryz.ntmps55
    go_wp2
    go_ret
    exact ⟨rfl, rfl⟩
  | cons c r =>
    have fin : Hid (textOk (c :: r) = allB textB (c :: r)) := rfl
    generalize hL : c :: r = L at *
    have hne : ¬ L = [] := by rw [← hL]; simp
    have hne' : L.isEmpty = false := by rw [← hL]; rfl
    clear hL
    go_enter Tryz.func55, Tryz.ntmps55
    go_wp2
    go_loop [5] (fun i => ∃ k : Nat, k ≤ L.length ∧ i = .int .i64 k ∧ Hid (allB textB (L.take k) = true)) (fun i => L.length - (intOf i).toNat)
    case atStart => exact ⟨0, Nat.zero_le _, rfl, rfl⟩
    case round =>
      obtain ⟨k, hk, rfl, hall⟩ := hrel
      by_cases hlt : k < L.length
      · have hidx : ∀ h, (⟨L.toArray⟩ : ByteArray)[k]'h = L[k] := fun _ => rfl
        have ht : Hid (textB (L[k].toNat : Int) = decide (32 ≤ (L[k].toNat : Int) ∧ (L[k].toNat : Int) ≤ 126)) := rfl
        by_cases h1 : (L[k].toNat : Int) < 32
        · go_wp2_with (first
            | (go_at_call 91; refine (letter_any _ _).mono ?_; rintro e w' ⟨rfl, rfl⟩)
            | (go_at_call 94; refine (digit_any _ _).mono ?_; rintro e w' ⟨rfl, rfl⟩))
          go_ret
          exact ⟨ret_bool (by rw [fin.out, allL_false textB L k hlt (by rw [ht.out]; simp; omega)]), rfl⟩
        · by_cases h2 : 126 < (L[k].toNat : Int)
          · go_wp2_with (first
              | (go_at_call 91; refine (letter_any _ _).mono ?_; rintro e w' ⟨rfl, rfl⟩)
              | (go_at_call 94; refine (digit_any _ _).mono ?_; rintro e w' ⟨rfl, rfl⟩))
            go_ret
            exact ⟨ret_bool (by rw [fin.out, allL_false textB L k hlt (by rw [ht.out]; simp; omega)]), rfl⟩
          · go_wp2_with (first
              | (go_at_call 91; refine (letter_any _ _).mono ?_; rintro e w' ⟨rfl, rfl⟩)
              | (go_at_call 94; refine (digit_any _ _).mono ?_; rintro e w' ⟨rfl, rfl⟩))
            refine ⟨⟨k + 1, by omega, by go_num, ?_⟩, by simp [intOf]; omega⟩
            show _ = _
            rw [allL_take textB L k hlt, hall.out, ht.out]
            simp; omega
      · go_wp2
        go_ret
        have e := hall.out
        rw [List.take_of_length_le (by omega)] at e
        exact ⟨ret_bool (by rw [fin.out, e]), rfl⟩
end Go.Proofs.YtnlcfnpcjkcdmadGreatDoor

/- The document's answer (package strataref1): right at a name and at an anonymous one; Term. -/
namespace Go.Proofs.YtnlcfnpcjkcdmadGreatDoor
open Go Go.RowKit Go.Proofs

theorem anonOk_eq (L : List UInt8) (h : ¬ L = []) : anonOk L = allB anonB L := by cases L <;> simp_all [anonOk]
theorem nameOk_eq (L : List UInt8) (h : 0 < L.length) : nameOk L = (letB (L[0].toNat : Int) && allB nameB L) := by
  cases L with
  | nil => simp at h
  | cons => rfl

set_option maxHeartbeats 1000000 in
theorem right_anon (L : List UInt8) (w : World) (hl : L.length ≤ maxLen) :
    Calls Tryz.prog 55 #[.int .i64 2, .string ⟨L.toArray⟩] w fun e w' => e = .returned (.bool (anonOk L)) ∧ w' = w := by
  unfold maxLen at hl
  by_cases hne : L = []
  · subst hne
    go_enter Tryz.func55, Tryz.ntmps55
    go_wp2
    go_ret
    exact ⟨rfl, rfl⟩
  · have fin : Hid (anonOk L = allB anonB L) := anonOk_eq L hne
    have hne' : L.isEmpty = false := by simpa using hne
    go_enter Tryz.func55, Tryz.ntmps55
    go_wp2
    go_loop [5] (fun i => ∃ k : Nat, k ≤ L.length ∧ i = .int .i64 k ∧ Hid (allB anonB (L.take k) = true)) (fun i => L.length - (intOf i).toNat)
    case atStart => exact ⟨0, Nat.zero_le _, rfl, rfl⟩
    case round =>
      obtain ⟨k, hk, rfl, hall⟩ := hrel
      by_cases hlt : k < L.length
      · have hidx : ∀ h, (⟨L.toArray⟩ : ByteArray)[k]'h = L[k] := fun _ => rfl
        have ht : Hid (anonB (L[k].toNat : Int) = (letB (L[k].toNat : Int) || digB (L[k].toNat : Int))) := rfl
        cases ha : letB (L[k].toNat : Int)
        · cases hd : digB (L[k].toNat : Int)
          · go_wp2_with (first
              | (go_at_call 91; refine (letter_any _ _).mono ?_; rintro e w' ⟨rfl, rfl⟩)
              | (go_at_call 94; refine (digit_any _ _).mono ?_; rintro e w' ⟨rfl, rfl⟩))
            go_ret
            exact ⟨ret_bool (by rw [fin.out, allL_false anonB L k hlt (by rw [ht.out, ha, hd]; rfl)]), rfl⟩
          · go_wp2_with (first
              | (go_at_call 91; refine (letter_any _ _).mono ?_; rintro e w' ⟨rfl, rfl⟩)
              | (go_at_call 94; refine (digit_any _ _).mono ?_; rintro e w' ⟨rfl, rfl⟩))
            refine ⟨⟨k + 1, by omega, by go_num, ?_⟩, by simp [intOf]; omega⟩
            show _ = _
            rw [allL_take anonB L k hlt, hall.out, ht.out, ha, hd]; rfl
        · go_wp2_with (first
            | (go_at_call 91; refine (letter_any _ _).mono ?_; rintro e w' ⟨rfl, rfl⟩)
            | (go_at_call 94; refine (digit_any _ _).mono ?_; rintro e w' ⟨rfl, rfl⟩))
          refine ⟨⟨k + 1, by omega, by go_num, ?_⟩, by simp [intOf]; omega⟩
          show _ = _
          rw [allL_take anonB L k hlt, hall.out, ht.out, ha]; rfl
      · go_wp2
        go_ret
        have e := hall.out
        rw [List.take_of_length_le (by omega)] at e
        exact ⟨ret_bool (by rw [fin.out, e]), rfl⟩

set_option maxHeartbeats 2000000 in
theorem right_name (L : List UInt8) (w : World) (hl : L.length ≤ maxLen) :
    Calls Tryz.prog 55 #[.int .i64 1, .string ⟨L.toArray⟩] w fun e w' => e = .returned (.bool (nameOk L)) ∧ w' = w := by
  unfold maxLen at hl
  by_cases hne : L = []
  · subst hne
    go_enter Tryz.func55, Tryz.ntmps55
    go_wp2
    go_ret
    exact ⟨rfl, rfl⟩
  · have hpos : 0 < L.length := List.length_pos_iff.2 hne
    have fin : Hid (nameOk L = (letB (L[0].toNat : Int) && allB nameB L)) := nameOk_eq L hpos
    have hne' : L.isEmpty = false := by simpa using hne
    go_enter Tryz.func55, Tryz.ntmps55
    go_wp2
    go_loop [5] (fun i => ∃ k : Nat, k ≤ L.length ∧ i = .int .i64 k ∧ Hid (allB nameB (L.take k) = true ∧ (0 < k → letB (L[0].toNat : Int) = true))) (fun i => L.length - (intOf i).toNat)
    case atStart => exact ⟨0, Nat.zero_le _, rfl, rfl, by omega⟩
    case round =>
      obtain ⟨k, hk, rfl, hall⟩ := hrel
      by_cases hlt : k < L.length
      · have hidx : ∀ h, (⟨L.toArray⟩ : ByteArray)[k]'h = L[k] := fun _ => rfl
        have ht : Hid (nameB (L[k].toNat : Int) = (letB (L[k].toNat : Int) || digB (L[k].toNat : Int) || decide ((L[k].toNat : Int) = 58 ∨ (L[k].toNat : Int) = 47 ∨ (L[k].toNat : Int) = 46))) := rfl
        cases ha : letB (L[k].toNat : Int)
        · by_cases h0 : k = 0
          · subst h0
            have hi : (((0 : Nat) : Int) == 0) = true := rfl
            go_wp2_with (first
              | (go_at_call 91; refine (letter_any _ _).mono ?_; rintro e w' ⟨rfl, rfl⟩)
              | (go_at_call 94; refine (digit_any _ _).mono ?_; rintro e w' ⟨rfl, rfl⟩))
            go_ret
            exact ⟨ret_bool (by rw [fin.out, ha]; rfl), rfl⟩
          · have hi : ((k : Int) == 0) = false := by rw [beq_eq_false_iff_ne]; omega
            have h0' : Hid (letB (L[0].toNat : Int) = true) := hall.out.2 (by omega)
            clear h0
            cases hd : digB (L[k].toNat : Int)
            · cases h58 : ((L[k].toNat : Int) != 58)
              · go_wp2_with (first
                  | (go_at_call 91; refine (letter_any _ _).mono ?_; rintro e w' ⟨rfl, rfl⟩)
                  | (go_at_call 94; refine (digit_any _ _).mono ?_; rintro e w' ⟨rfl, rfl⟩))
                refine ⟨⟨k + 1, by omega, by go_num, ?_, fun _ => h0'.out⟩, by simp [intOf]; omega⟩
                simp at h58
                rw [allL_take nameB L k hlt, hall.out.1, ht.out]; simp [h58]
              · cases h47 : ((L[k].toNat : Int) != 47)
                · go_wp2_with (first
                    | (go_at_call 91; refine (letter_any _ _).mono ?_; rintro e w' ⟨rfl, rfl⟩)
                    | (go_at_call 94; refine (digit_any _ _).mono ?_; rintro e w' ⟨rfl, rfl⟩))
                  refine ⟨⟨k + 1, by omega, by go_num, ?_, fun _ => h0'.out⟩, by simp [intOf]; omega⟩
                  simp at h47
                  rw [allL_take nameB L k hlt, hall.out.1, ht.out]; simp [h47]
                · cases h46 : ((L[k].toNat : Int) != 46)
                  · go_wp2_with (first
                      | (go_at_call 91; refine (letter_any _ _).mono ?_; rintro e w' ⟨rfl, rfl⟩)
                      | (go_at_call 94; refine (digit_any _ _).mono ?_; rintro e w' ⟨rfl, rfl⟩))
                    refine ⟨⟨k + 1, by omega, by go_num, ?_, fun _ => h0'.out⟩, by simp [intOf]; omega⟩
                    simp at h46
                    rw [allL_take nameB L k hlt, hall.out.1, ht.out]; simp [h46]
                  · go_wp2_with (first
                      | (go_at_call 91; refine (letter_any _ _).mono ?_; rintro e w' ⟨rfl, rfl⟩)
                      | (go_at_call 94; refine (digit_any _ _).mono ?_; rintro e w' ⟨rfl, rfl⟩))
                    go_ret
                    simp at h58 h47 h46
                    exact ⟨ret_bool (by rw [fin.out, allL_false nameB L k hlt (by rw [ht.out, ha, hd]; simp [h58, h47, h46])]; simp), rfl⟩
            · go_wp2_with (first
                | (go_at_call 91; refine (letter_any _ _).mono ?_; rintro e w' ⟨rfl, rfl⟩)
                | (go_at_call 94; refine (digit_any _ _).mono ?_; rintro e w' ⟨rfl, rfl⟩))
              refine ⟨⟨k + 1, by omega, by go_num, ?_, fun _ => h0'.out⟩, by simp [intOf]; omega⟩
              rw [allL_take nameB L k hlt, hall.out.1, ht.out, ha, hd]; rfl
        · go_wp2_with (first
            | (go_at_call 91; refine (letter_any _ _).mono ?_; rintro e w' ⟨rfl, rfl⟩)
            | (go_at_call 94; refine (digit_any _ _).mono ?_; rintro e w' ⟨rfl, rfl⟩))
          refine ⟨⟨k + 1, by omega, by go_num, ?_, fun _ => ?_⟩, by simp [intOf]; omega⟩
          · rw [allL_take nameB L k hlt, hall.out.1, ht.out, ha]; rfl
          · by_cases h0 : k = 0
            · subst h0; exact ha
            · exact hall.out.2 (by omega)
      · go_wp2
        go_ret
        have e := hall.out.1
        rw [List.take_of_length_le (by omega)] at e
        exact ⟨ret_bool (by rw [fin.out, e, hall.out.2 (by omega)]; rfl), rfl⟩
end Go.Proofs.YtnlcfnpcjkcdmadGreatDoor

/- The document's answer (package strataref1): Term, Compare, Show. -/
namespace Go.Proofs.YtnlcfnpcjkcdmadGreatDoor
open Go Go.RowKit Go.Proofs

theorem ret_i64 {a b : Int} (h : a = b) : Ending.returned (.int .i64 a) = .returned (.int .i64 b) := by rw [h]

theorem RTerm_range (k : Int) (S L : List UInt8) (w : World) (h : k < 1 ∨ 3 < k) :
    Calls Tryz.prog 24 #[.agg #[.int .i64 k, .string ⟨S.toArray⟩, .string ⟨L.toArray⟩]] w fun e w' => e = .returned (.int .i64 (checkN k S L)) ∧ Below w.heap.size w w' := by
  have fin : Hid (checkN k S L = 1) := by
    have : kindB k = false := by simp [kindB]; omega
    simp [Hid, checkN, this]
  rcases h with h | h
  · go_enter Tryz.func24, Tryz.ntmps24
    go_wp2
    go_ret
    exact ⟨ret_i64 fin.out.symm, balloc _ _⟩
  · have h' : ¬ k < 1 := by omega
    go_enter Tryz.func24, Tryz.ntmps24
    go_wp2
    go_ret
    exact ⟨ret_i64 fin.out.symm, balloc _ _⟩

theorem RTerm_full (k : Int) (S L : List UInt8) (w : World) (h : 1 ≤ k) (h3 : k ≤ 3) (hs : S.length ≤ maxLen) (hlo : 24 < S.length) :
    Calls Tryz.prog 24 #[.agg #[.int .i64 k, .string ⟨S.toArray⟩, .string ⟨L.toArray⟩]] w fun e w' => e = .returned (.int .i64 (checkN k S L)) ∧ Below w.heap.size w w' := by
  have fin : Hid (checkN k S L = 4) := by
    have h1 : kindB k = true := by simp [kindB]; omega
    have h2 : longB S = true := by simp [longB]; omega
    simp [Hid, checkN, h1, h2]
  unfold maxLen at hs
  go_enter Tryz.func24, Tryz.ntmps24
  go_wp2
  go_ret
  exact ⟨ret_i64 fin.out.symm, balloc _ _⟩

theorem letters_lang (L : List UInt8) (h : L.length = 2) : lettersB L = langOk L := by
  cases L with
  | nil => simp at h
  | cons c r => simp [lettersB, langOk, h]

set_option maxHeartbeats 1000000 in
theorem RTerm_name (S L : List UInt8) (w : World) (hs : S.length ≤ 24) (hl : L.length ≤ maxLen) :
    Calls Tryz.prog 24 #[.agg #[.int .i64 1, .string ⟨S.toArray⟩, .string ⟨L.toArray⟩]] w fun e w' => e = .returned (.int .i64 (checkN 1 S L)) ∧ Below w.heap.size w w' := by
  have fin : Hid (checkN 1 S L = if (L.isEmpty && nameOk S) = false then 2 else 0) := by
    have h2 : longB S = false := by simp [longB]; omega
    show (if kindB 1 = false then (1 : Int) else if longB S = true then 4 else if spellB 1 S L = false then 2 else 0) = _
    rw [h2]; rfl
  have hs' : S.length ≤ maxLen := by unfold maxLen; omega
  cases hr : nameOk S
  · go_enter Tryz.func24, Tryz.ntmps24
    go_wp2_with (go_at_call 55; refine (right_name S _ hs').mono ?_; rintro e w1 ⟨rfl, rfl⟩)
    go_ret
    exact ⟨ret_i64 (by rw [fin.out, hr]; simp), balloc _ _⟩
  · cases L with
    | nil =>
      go_enter Tryz.func24, Tryz.ntmps24
      go_wp2_with (go_at_call 55; refine (right_name S _ hs').mono ?_; rintro e w1 ⟨rfl, rfl⟩)
      go_ret
      exact ⟨ret_i64 (by rw [fin.out, hr]; simp), balloc _ _⟩
    | cons c r =>
      go_enter Tryz.func24, Tryz.ntmps24
      go_wp2_with (first
        | (go_at_call 55; refine (right_name S _ hs').mono ?_; rintro e w1 ⟨rfl, rfl⟩)
        | (go_at_call 51; refine (Letters_any (c :: r) _ hl).mono ?_; rintro e w1 ⟨rfl, rfl⟩))
      go_ret
      exact ⟨ret_i64 (by rw [fin.out]; simp), balloc _ _⟩

set_option maxHeartbeats 1000000 in
theorem RTerm_anon (S L : List UInt8) (w : World) (hs : S.length ≤ 24) (hl : L.length ≤ maxLen) :
    Calls Tryz.prog 24 #[.agg #[.int .i64 2, .string ⟨S.toArray⟩, .string ⟨L.toArray⟩]] w fun e w' => e = .returned (.int .i64 (checkN 2 S L)) ∧ Below w.heap.size w w' := by
  have fin : Hid (checkN 2 S L = if (L.isEmpty && anonOk S) = false then 2 else 0) := by
    have h2 : longB S = false := by simp [longB]; omega
    show (if kindB 2 = false then (1 : Int) else if longB S = true then 4 else if spellB 2 S L = false then 2 else 0) = _
    rw [h2]; rfl
  have hs' : S.length ≤ maxLen := by unfold maxLen; omega
  cases hr : anonOk S
  · go_enter Tryz.func24, Tryz.ntmps24
    go_wp2_with (go_at_call 55; refine (right_anon S _ hs').mono ?_; rintro e w1 ⟨rfl, rfl⟩)
    go_ret
    exact ⟨ret_i64 (by rw [fin.out, hr]; simp), balloc _ _⟩
  · cases L with
    | nil =>
      go_enter Tryz.func24, Tryz.ntmps24
      go_wp2_with (go_at_call 55; refine (right_anon S _ hs').mono ?_; rintro e w1 ⟨rfl, rfl⟩)
      go_ret
      exact ⟨ret_i64 (by rw [fin.out, hr]; simp), balloc _ _⟩
    | cons c r =>
      go_enter Tryz.func24, Tryz.ntmps24
      go_wp2_with (first
        | (go_at_call 55; refine (right_anon S _ hs').mono ?_; rintro e w1 ⟨rfl, rfl⟩)
        | (go_at_call 51; refine (Letters_any (c :: r) _ hl).mono ?_; rintro e w1 ⟨rfl, rfl⟩))
      go_ret
      exact ⟨ret_i64 (by rw [fin.out]; simp), balloc _ _⟩

set_option maxHeartbeats 1000000 in
theorem RTerm_text (S L : List UInt8) (w : World) (hs : S.length ≤ 24) (hl : L.length ≤ maxLen) :
    Calls Tryz.prog 24 #[.agg #[.int .i64 3, .string ⟨S.toArray⟩, .string ⟨L.toArray⟩]] w fun e w' => e = .returned (.int .i64 (checkN 3 S L)) ∧ Below w.heap.size w w' := by
  have fin : Hid (checkN 3 S L = if ((L.isEmpty || langOk L) && textOk S) = false then 2 else 0) := by
    have h2 : longB S = false := by simp [longB]; omega
    show (if kindB 3 = false then (1 : Int) else if longB S = true then 4 else if spellB 3 S L = false then 2 else 0) = _
    rw [h2]; rfl
  have hs' : S.length ≤ maxLen := by unfold maxLen; omega
  cases hr : textOk S
  · go_enter Tryz.func24, Tryz.ntmps24
    go_wp2_with (go_at_call 55; refine (right_text S _ hs').mono ?_; rintro e w1 ⟨rfl, rfl⟩)
    go_ret
    exact ⟨ret_i64 (by rw [fin.out, hr]; simp), balloc _ _⟩
  · by_cases hne : L = []
    · subst hne
      go_enter Tryz.func24, Tryz.ntmps24
      go_wp2_with (go_at_call 55; refine (right_text S _ hs').mono ?_; rintro e w1 ⟨rfl, rfl⟩)
      go_ret
      exact ⟨ret_i64 (by rw [fin.out, hr]; simp), balloc _ _⟩
    · have hne' : L.isEmpty = false := by simpa using hne
      by_cases h2 : L.length = 2
      · have hb : ((L.length : Int) != 2) = false := by simp; omega
        have hll : Hid (lettersB L = langOk L) := letters_lang L h2
        clear h2
        cases hk : lettersB L
        all_goals
          go_enter Tryz.func24, Tryz.ntmps24
          go_wp2_with (first
            | (go_at_call 55; refine (right_text S _ hs').mono ?_; rintro e w1 ⟨rfl, rfl⟩)
            | (go_at_call 51; refine (Letters_any L _ hl).mono ?_; rintro e w1 ⟨rfl, rfl⟩))
          go_ret
          exact ⟨ret_i64 (by rw [fin.out, ← hll.out, hk, hr, hne']; simp), balloc _ _⟩
      · have hb : ((L.length : Int) != 2) = true := by simp; omega
        have hk : Hid (langOk L = false) := by simp [Hid, langOk, h2]
        clear h2
        unfold maxLen at hl
        go_enter Tryz.func24, Tryz.ntmps24
        go_wp2_with (first
          | (go_at_call 55; refine (right_text S _ hs').mono ?_; rintro e w1 ⟨rfl, rfl⟩)
          | (go_at_call 51; refine (Letters_any L _ hl).mono ?_; rintro e w1 ⟨rfl, rfl⟩))
        go_ret
        exact ⟨ret_i64 (by rw [fin.out, hk.out, hne']; simp), balloc _ _⟩

theorem RTerm_any (k : Int) (S L : List UInt8) (w : World) (hs : S.length ≤ maxLen) (hl : L.length ≤ maxLen) :
    Calls Tryz.prog 24 #[.agg #[.int .i64 k, .string ⟨S.toArray⟩, .string ⟨L.toArray⟩]] w fun e w' => e = .returned (.int .i64 (checkN k S L)) ∧ Below w.heap.size w w' := by
  by_cases h : k < 1 ∨ 3 < k
  · exact RTerm_range k S L w h
  · by_cases hlo : 24 < S.length
    · exact RTerm_full k S L w (by omega) (by omega) hs hlo
    · rcases (by omega : k = 1 ∨ k = 2 ∨ k = 3) with rfl | rfl | rfl
      · exact RTerm_name S L w (by omega) hl
      · exact RTerm_anon S L w (by omega) hl
      · exact RTerm_text S L w (by omega) hl

theorem RCompare_kind (k : Int) (S L : List UInt8) (k' : Int) (S' L' : List UInt8) (w : World) (h : k ≠ k') :
    Calls Tryz.prog 88 #[.agg #[.int .i64 k, .string ⟨S.toArray⟩, .string ⟨L.toArray⟩], .agg #[.int .i64 k', .string ⟨S'.toArray⟩, .string ⟨L'.toArray⟩]] w fun e w' => e = .returned (.int .i64 (cmpT k S L k' S' L')) ∧ Below w.heap.size w w' := by
  have fin : Hid (cmpT k S L k' S' L' = Lib.compareInt k k') := by
    have : Lib.compareInt k k' ≠ 0 := fun e => h ((ci_zero _ _).1 e)
    simp [Hid, cmpT, orI, this]
  have hb : (k != k') = true := by simpa using h
  by_cases hlt : k < k'
  · go_enter Tryz.func88, Tryz.ntmps88
    go_wp2
    go_ret
    exact ⟨ret_i64 (by rw [fin.out]; simp [Lib.compareInt, hlt]), bstep (balloc _ _) (balloc _ _)⟩
  · have hgt : k' < k := by omega
    go_enter Tryz.func88, Tryz.ntmps88
    go_wp2
    go_ret
    exact ⟨ret_i64 (by rw [fin.out]; simp [Lib.compareInt, hlt, hgt]), bstep (balloc _ _) (balloc _ _)⟩

theorem less_cb (a : List UInt8) : ∀ b, Op.bytesLess a b = decide (Lib.compareBytes a b < 0) := by
  induction a with
  | nil => intro b; cases b <;> simp [Op.bytesLess, Lib.compareBytes]
  | cons x xs ih =>
    intro b
    cases b with
    | nil => simp [Op.bytesLess, Lib.compareBytes]
    | cons y ys =>
      by_cases h1 : x < y
      · simp [Op.bytesLess, Lib.compareBytes, h1]
      · by_cases h2 : y < x
        · have hne : (x == y) = false := by
            rw [beq_eq_false_iff_ne]; rintro rfl; exact absurd h2 (by simp)
          simp [Op.bytesLess, Lib.compareBytes, h1, h2, hne]
        · have : x = y := UInt8.le_antisymm (UInt8.not_lt.1 h2) (UInt8.not_lt.1 h1)
          subst this
          simp [Op.bytesLess, Lib.compareBytes, ih]

theorem cbr (a : List UInt8) : ∀ b, -1 ≤ Lib.compareBytes a b ∧ Lib.compareBytes a b ≤ 1 := by
  induction a with
  | nil => intro b; cases b <;> simp [Lib.compareBytes]
  | cons x xs ih =>
    intro b
    cases b with
    | nil => simp [Lib.compareBytes]
    | cons y ys =>
      by_cases h1 : x < y
      · simp [Lib.compareBytes, h1]
      · by_cases h2 : y < x
        · simp [Lib.compareBytes, h1, h2]
        · simp only [Lib.compareBytes, h1, h2, if_false]; exact ih ys

theorem cb_val (a b : List UInt8) : Lib.compareBytes a b = if Op.bytesLess a b = true then -1 else if a = b then 0 else 1 := by
  have h1 := less_cb a b
  have h2 := cb_zero a b
  have h3 := cbr a b
  by_cases h : Lib.compareBytes a b < 0
  · rw [h1]; simp only [h, decide_true, if_true]; omega
  · rw [h1]
    simp only [h, decide_false, Bool.false_eq_true, if_false]
    by_cases e : a = b
    · rw [if_pos e]; exact h2.2 e
    · rw [if_neg e]
      have : Lib.compareBytes a b ≠ 0 := fun q => e (h2.1 q)
      omega

theorem cmpT_same (k : Int) (S L S' L' : List UInt8) : cmpT k S L k S' L' = if S = S' then Lib.compareBytes L L' else Lib.compareBytes S S' := by
  have h1 : Lib.compareInt k k = 0 := (ci_zero k k).2 rfl
  have h2 := cb_zero S S'
  unfold cmpT orI
  rw [h1, if_pos rfl]
  by_cases e : S = S'
  · rw [if_pos (h2.2 e), if_pos e]
  · rw [if_neg (fun q => e (h2.1 q)), if_neg e]

theorem RCompare_rest (k : Int) (S L : List UInt8) (S' L' : List UInt8) (w : World) :
    Calls Tryz.prog 88 #[.agg #[.int .i64 k, .string ⟨S.toArray⟩, .string ⟨L.toArray⟩], .agg #[.int .i64 k, .string ⟨S'.toArray⟩, .string ⟨L'.toArray⟩]] w fun e w' => e = .returned (.int .i64 (cmpT k S L k S' L')) ∧ Below w.heap.size w w' := by
  have fin : Hid (cmpT k S L k S' L' = if S = S' then Lib.compareBytes L L' else Lib.compareBytes S S') := cmpT_same k S L S' L'
  by_cases hS : S = S'
  · subst hS
    cases hl : Op.bytesLess L L'
    · by_cases hL : L = L'
      · have hb : (L == L') = true := by simpa using hL
        have v : Hid (Lib.compareBytes L L' = 0) := (cb_zero L L').2 hL
        clear hL
        go_enter Tryz.func88, Tryz.ntmps88
        go_wp2
        go_ret
        exact ⟨ret_i64 (by rw [fin.out, v.out]; rfl), bstep (balloc _ _) (balloc _ _)⟩
      · have hb : (L == L') = false := by simpa using hL
        have v : Hid (Lib.compareBytes L L' = 1) := by show _ = _; rw [cb_val, hl]; simp [hL]
        clear hL
        go_enter Tryz.func88, Tryz.ntmps88
        go_wp2
        go_ret
        exact ⟨ret_i64 (by rw [fin.out, v.out]; rfl), bstep (balloc _ _) (balloc _ _)⟩
    · have v : Hid (Lib.compareBytes L L' = -1) := by show _ = _; rw [cb_val, hl]; simp
      go_enter Tryz.func88, Tryz.ntmps88
      go_wp2
      go_ret
      exact ⟨ret_i64 (by rw [fin.out, v.out]; rfl), bstep (balloc _ _) (balloc _ _)⟩
  · have hb : (S == S') = false := by simpa using hS
    have fin2 : Hid (cmpT k S L k S' L' = Lib.compareBytes S S') := fin.out.trans (if_neg hS)
    have v := cb_val S S'
    rw [if_neg hS] at v
    have V : Hid (Lib.compareBytes S S' = if Op.bytesLess S S' = true then -1 else 1) := v
    clear hS v
    cases hl : Op.bytesLess S S'
    all_goals
      go_enter Tryz.func88, Tryz.ntmps88
      go_wp2
      go_ret
      exact ⟨ret_i64 (by rw [fin2.out, V.out, hl]; rfl), bstep (balloc _ _) (balloc _ _)⟩

theorem RCompare_any (k : Int) (S L : List UInt8) (k' : Int) (S' L' : List UInt8) (w : World) :
    Calls Tryz.prog 88 #[.agg #[.int .i64 k, .string ⟨S.toArray⟩, .string ⟨L.toArray⟩], .agg #[.int .i64 k', .string ⟨S'.toArray⟩, .string ⟨L'.toArray⟩]] w fun e w' => e = .returned (.int .i64 (cmpT k S L k' S' L')) ∧ Below w.heap.size w w' := by
  by_cases h : k = k'
  · subst h; exact RCompare_rest k S L S' L' w
  · exact RCompare_kind k S L k' S' L' w h
end Go.Proofs.YtnlcfnpcjkcdmadGreatDoor

/- The document's answer (package strataref1): shape, Triple, Order, Set. -/
namespace Go.Proofs.YtnlcfnpcjkcdmadGreatDoor
open Go Go.RowKit Go.Proofs
set_option synthInstance.maxSize 1000

set_option maxHeartbeats 1000000 in
theorem RShape_any (x : Tr) (w : World) : Calls Tryz.prog 87 #[valTr x] w fun e w' => e = .returned (.bool (!shapeB x.1.1 x.2.1.1)) ∧ RowKit.Below w.heap.size w w' := by
  have fin2 : Hid (shapeB x.1.1 x.2.1.1 = ((x.1.1 == 3) || !(x.2.1.1 == 1))) := rfl
  unfold valTr
  cases h3 : (x.1.1 == 3)
  · cases h1 : (x.2.1.1 == 1)
    all_goals
      have h3' : (x.1.1 != 3) = true := by simp [bne, h3]
      go_enter Tryz.func87, Tryz.ntmps87
      go_wp2_with fail
      go_ret
      exact ⟨ret_bool (by rw [fin2.out, h3]; simp [h1]), balloc _ _⟩
  · have h3' : (x.1.1 != 3) = false := by simp [bne, h3]
    go_enter Tryz.func87, Tryz.ntmps87
    go_wp2_with fail
    go_ret
    exact ⟨ret_bool (by rw [fin2.out, h3]; rfl), balloc _ _⟩

set_option maxHeartbeats 4000000 in
set_option maxRecDepth 100000 in
theorem RTriple_any (x : Tr) (w : World) (hx : fitTr x) : Calls Tryz.prog 45 #[valTr x] w fun e w' => e = .returned (.int .i64 (chkTr x)) ∧ RowKit.Below w.heap.size w w' := by
  have H1 := fun W => RTerm_any x.1.1 x.1.2.1 x.1.2.2 W hx.1.1 hx.1.2
  have H2 := fun W => RTerm_any x.2.1.1 x.2.1.2.1 x.2.1.2.2 W hx.2.1.1 hx.2.1.2
  have H3 := fun W => RTerm_any x.2.2.1 x.2.2.2.1 x.2.2.2.2 W hx.2.2.1 hx.2.2.2
  have HS := fun W => RShape_any x W
  have fin : Hid (chkTr x = if checkN x.1.1 x.1.2.1 x.1.2.2 = 0 then (if checkN x.2.1.1 x.2.1.2.1 x.2.1.2.2 = 0 then (if checkN x.2.2.1 x.2.2.2.1 x.2.2.2.2 = 0 then (if shapeB x.1.1 x.2.1.1 = true then 3 else 0) else checkN x.2.2.1 x.2.2.2.1 x.2.2.2.2) else checkN x.2.1.1 x.2.1.2.1 x.2.1.2.2) else checkN x.1.1 x.1.2.1 x.1.2.2) := rfl
  generalize chkTr x = N at *
  generalize checkN x.1.1 x.1.2.1 x.1.2.2 = c1 at *
  generalize checkN x.2.1.1 x.2.1.2.1 x.2.1.2.2 = c2 at *
  generalize checkN x.2.2.1 x.2.2.2.1 x.2.2.2.2 = c3 at *
  generalize shapeB x.1.1 x.2.1.1 = sh at *
  clear hx
  unfold valTr at HS ⊢
  cases h1 : (c1 == 0)
  · have fin1 : Hid (N = c1) := by have h : ¬ c1 = 0 := by simpa using h1
                                   rw [fin.out, if_neg h]; rfl
    go_enter Tryz.func45, Tryz.ntmps45
    go_wp2_with fail
    refine (H1 _).mono ?_
    rintro e w1 ⟨rfl, hb1⟩
    obtain ⟨a0, a1, a2, b0, b1, b2, d0, d1, d2, hzz⟩ := ninebox hb1
    go_wp2_with fail
    refine (HS _).mono ?_
    rintro e w2 ⟨rfl, hb2⟩
    go_wp2_with fail
    go_ret
    exact ⟨ret_i64 fin1.out.symm, bstep (bstep (balloc _ _) hb1) hb2⟩
  · have e1 : c1 = 0 := by simpa using h1
    cases h2 : (c2 == 0)
    · have fin1 : Hid (N = c2) := by have h : ¬ c2 = 0 := by simpa using h2
                                     rw [fin.out, if_pos e1, if_neg h]; rfl
      clear e1
      go_enter Tryz.func45, Tryz.ntmps45
      go_wp2_with fail
      refine (H1 _).mono ?_
      rintro e w1 ⟨rfl, hb1⟩
      obtain ⟨a0, a1, a2, b0, b1, b2, d0, d1, d2, hzz⟩ := ninebox hb1
      go_wp2_with fail
      refine (H2 _).mono ?_
      rintro e w2 ⟨rfl, hb2⟩
      have hB := bstep hb1 hb2
      clear a0 a1 a2 b0 b1 b2 d0 d1 d2 hzz
      obtain ⟨a0, a1, a2, b0, b1, b2, d0, d1, d2, hzz⟩ := ninebox hB
      go_wp2_with fail
      refine (HS _).mono ?_
      rintro e w3 ⟨rfl, hb3⟩
      go_wp2_with fail
      go_ret
      exact ⟨ret_i64 fin1.out.symm, bstep (bstep (balloc _ _) hB) hb3⟩
    · have e2 : c2 = 0 := by simpa using h2
      have fin3 : Hid (N = if c3 = 0 then (if sh = true then 3 else 0) else c3) := by rw [fin.out, if_pos e1, if_pos e2]; rfl
      clear fin e1 e2
      cases h3 : (c3 == 0)
      · have fin1 : Hid (N = c3) := by have h : ¬ c3 = 0 := by simpa using h3
                                       rw [fin3.out, if_neg h]; rfl
        go_enter Tryz.func45, Tryz.ntmps45
        go_wp2_with fail
        refine (H1 _).mono ?_
        rintro e w1 ⟨rfl, hb1⟩
        obtain ⟨a0, a1, a2, b0, b1, b2, d0, d1, d2, hzz⟩ := ninebox hb1
        go_wp2_with fail
        refine (H2 _).mono ?_
        rintro e w2 ⟨rfl, hb2⟩
        have hB := bstep hb1 hb2
        clear a0 a1 a2 b0 b1 b2 d0 d1 d2 hzz
        obtain ⟨a0, a1, a2, b0, b1, b2, d0, d1, d2, hzz⟩ := ninebox hB
        go_wp2_with fail
        refine (H3 _).mono ?_
        rintro e w3 ⟨rfl, hb3⟩
        have hB3 := bstep hB hb3
        clear a0 a1 a2 b0 b1 b2 d0 d1 d2 hzz
        obtain ⟨a0, a1, a2, b0, b1, b2, d0, d1, d2, hzz⟩ := ninebox hB3
        go_wp2_with fail
        refine (HS _).mono ?_
        rintro e w4 ⟨rfl, hb4⟩
        go_wp2_with fail
        go_ret
        exact ⟨ret_i64 fin1.out.symm, bstep (bstep (balloc _ _) hB3) hb4⟩
      · have fin1 : Hid (N = if sh = true then 3 else 0) := by have h : c3 = 0 := by simpa using h3
                                                               rw [fin3.out, if_pos h]; rfl
        have e3 : c3 = 0 := by simpa using h3
        subst e3
        cases sh
        all_goals
          go_enter Tryz.func45, Tryz.ntmps45
          go_wp2_with fail
          refine (H1 _).mono ?_
          rintro e w1 ⟨rfl, hb1⟩
          obtain ⟨a0, a1, a2, b0, b1, b2, d0, d1, d2, hzz⟩ := ninebox hb1
          go_wp2_with fail
          refine (H2 _).mono ?_
          rintro e w2 ⟨rfl, hb2⟩
          have hB := bstep hb1 hb2
          clear a0 a1 a2 b0 b1 b2 d0 d1 d2 hzz
          obtain ⟨a0, a1, a2, b0, b1, b2, d0, d1, d2, hzz⟩ := ninebox hB
          go_wp2_with fail
          refine (H3 _).mono ?_
          rintro e w3 ⟨rfl, hb3⟩
          have hB3 := bstep hB hb3
          clear a0 a1 a2 b0 b1 b2 d0 d1 d2 hzz
          obtain ⟨a0, a1, a2, b0, b1, b2, d0, d1, d2, hzz⟩ := ninebox hB3
          go_wp2_with fail
          refine (HS _).mono ?_
          rintro e w4 ⟨rfl, hb4⟩
          go_wp2_with fail
          go_ret
          exact ⟨ret_i64 (by rw [fin1.out]; rfl), bstep (bstep (balloc _ _) hB3) hb4⟩

/-- two boxes of nine cells, behind calls -/
theorem ninebox2 {w W : World} {T : TypeId} {o : Obj} {a0 a1 a2 b0 b1 b2 c0 c1 c2 : Value}
    (hb : Below ((w.alloc (.cells #[a0, a1, a2, b0, b1, b2, c0, c1, c2] T)).alloc o).heap.size ((w.alloc (.cells #[a0, a1, a2, b0, b1, b2, c0, c1, c2] T)).alloc o) W) :
    W.cell? ⟨w.heap.size, 0, none⟩ = some a0 ∧ W.cell? ⟨w.heap.size, 1, none⟩ = some a1 ∧ W.cell? ⟨w.heap.size, 2, none⟩ = some a2 ∧ W.cell? ⟨w.heap.size, 3, none⟩ = some b0 ∧ W.cell? ⟨w.heap.size, 4, none⟩ = some b1 ∧ W.cell? ⟨w.heap.size, 5, none⟩ = some b2 ∧ W.cell? ⟨w.heap.size, 6, none⟩ = some c0 ∧ W.cell? ⟨w.heap.size, 7, none⟩ = some c1 ∧ W.cell? ⟨w.heap.size, 8, none⟩ = some c2 ∧ w.heap.size < W.heap.size :=
  ninebox (bstep (balloc _ _) hb)
theorem ninebox2' {w W : World} {T : TypeId} {o : Obj} {a0 a1 a2 b0 b1 b2 c0 c1 c2 : Value}
    (hb : Below ((w.alloc o).alloc (.cells #[a0, a1, a2, b0, b1, b2, c0, c1, c2] T)).heap.size ((w.alloc o).alloc (.cells #[a0, a1, a2, b0, b1, b2, c0, c1, c2] T)) W) :
    W.cell? ⟨w.heap.size + 1, 0, none⟩ = some a0 ∧ W.cell? ⟨w.heap.size + 1, 1, none⟩ = some a1 ∧ W.cell? ⟨w.heap.size + 1, 2, none⟩ = some a2 ∧ W.cell? ⟨w.heap.size + 1, 3, none⟩ = some b0 ∧ W.cell? ⟨w.heap.size + 1, 4, none⟩ = some b1 ∧ W.cell? ⟨w.heap.size + 1, 5, none⟩ = some b2 ∧ W.cell? ⟨w.heap.size + 1, 6, none⟩ = some c0 ∧ W.cell? ⟨w.heap.size + 1, 7, none⟩ = some c1 ∧ W.cell? ⟨w.heap.size + 1, 8, none⟩ = some c2 ∧ w.heap.size + 1 < W.heap.size := by
  have := ninebox hb
  rw [World.size_alloc] at this
  exact this

set_option maxHeartbeats 4000000 in
set_option maxRecDepth 100000 in
theorem ROrder_any (x y : Tr) (w : World) : Calls Tryz.prog 46 #[valTr x, valTr y] w fun e w' => e = .returned (.int .i64 (cmpTr x y)) ∧ RowKit.Below w.heap.size w w' := by
  have H1 := fun W => RCompare_any x.1.1 x.1.2.1 x.1.2.2 y.1.1 y.1.2.1 y.1.2.2 W
  have H2 := fun W => RCompare_any x.2.1.1 x.2.1.2.1 x.2.1.2.2 y.2.1.1 y.2.1.2.1 y.2.1.2.2 W
  have H3 := fun W => RCompare_any x.2.2.1 x.2.2.2.1 x.2.2.2.2 y.2.2.1 y.2.2.2.1 y.2.2.2.2 W
  have fin : Hid (cmpTr x y = orI (cmpT x.1.1 x.1.2.1 x.1.2.2 y.1.1 y.1.2.1 y.1.2.2) (cmpT x.2.1.1 x.2.1.2.1 x.2.1.2.2 y.2.1.1 y.2.1.2.1 y.2.1.2.2) (cmpT x.2.2.1 x.2.2.2.1 x.2.2.2.2 y.2.2.1 y.2.2.2.1 y.2.2.2.2)) := rfl
  generalize cmpTr x y = N at *
  generalize cmpT x.1.1 x.1.2.1 x.1.2.2 y.1.1 y.1.2.1 y.1.2.2 = c1 at *
  generalize cmpT x.2.1.1 x.2.1.2.1 x.2.1.2.2 y.2.1.1 y.2.1.2.1 y.2.1.2.2 = c2 at *
  generalize cmpT x.2.2.1 x.2.2.2.1 x.2.2.2.2 y.2.2.1 y.2.2.2.1 y.2.2.2.2 = c3 at *
  unfold valTr
  cases h1 : (c1 == 0)
  · have fin1 : Hid (N = c1) := by have h : ¬ c1 = 0 := by simpa using h1
                                   rw [fin.out]; unfold orI; rw [if_neg h]; rfl
    go_enter Tryz.func46, Tryz.ntmps46
    go_wp2_with fail
    refine (H1 _).mono ?_
    rintro e w1 ⟨rfl, hb1⟩
    go_wp2_with fail
    go_ret
    exact ⟨ret_i64 fin1.out.symm, bstep (bstep (balloc _ _) (balloc _ _)) hb1⟩
  · have e1 : c1 = 0 := by simpa using h1
    cases h2 : (c2 == 0)
    · have fin1 : Hid (N = c2) := by have h : ¬ c2 = 0 := by simpa using h2
                                     rw [fin.out]; unfold orI; rw [if_pos e1, if_neg h]; rfl
      clear e1
      go_enter Tryz.func46, Tryz.ntmps46
      go_wp2_with fail
      refine (H1 _).mono ?_
      rintro e w1 ⟨rfl, hb1⟩
      obtain ⟨a0, a1, a2, b0, b1, b2, d0, d1, d2, hzz⟩ := ninebox2 hb1
      obtain ⟨a0', a1', a2', b0', b1', b2', d0', d1', d2', hzz'⟩ := ninebox2' hb1
      go_wp2_with fail
      refine (H2 _).mono ?_
      rintro e w2 ⟨rfl, hb2⟩
      go_wp2_with fail
      go_ret
      exact ⟨ret_i64 fin1.out.symm, bstep (bstep (bstep (balloc _ _) (balloc _ _)) hb1) hb2⟩
    · have e2 : c2 = 0 := by simpa using h2
      have fin1 : Hid (N = c3) := by rw [fin.out]; unfold orI; rw [if_pos e1, if_pos e2]; rfl
      clear e1 e2
      go_enter Tryz.func46, Tryz.ntmps46
      go_wp2_with fail
      refine (H1 _).mono ?_
      rintro e w1 ⟨rfl, hb1⟩
      obtain ⟨a0, a1, a2, b0, b1, b2, d0, d1, d2, hzz⟩ := ninebox2 hb1
      obtain ⟨a0', a1', a2', b0', b1', b2', d0', d1', d2', hzz'⟩ := ninebox2' hb1
      go_wp2_with fail
      refine (H2 _).mono ?_
      rintro e w2 ⟨rfl, hb2⟩
      have hB := bstep hb1 hb2
      clear a0 a1 a2 b0 b1 b2 d0 d1 d2 hzz a0' a1' a2' b0' b1' b2' d0' d1' d2' hzz'
      obtain ⟨a0, a1, a2, b0, b1, b2, d0, d1, d2, hzz⟩ := ninebox2 hB
      obtain ⟨a0', a1', a2', b0', b1', b2', d0', d1', d2', hzz'⟩ := ninebox2' hB
      go_wp2_with fail
      refine (H3 _).mono ?_
      rintro e w3 ⟨rfl, hb3⟩
      go_wp2_with fail
      go_ret
      exact ⟨ret_i64 fin1.out.symm, bstep (bstep (bstep (balloc _ _) (balloc _ _)) hB) hb3⟩

/-- eighteen cells, behind a call that turned nothing old -/
theorem keep18b {W W' : World} {p0 p1 p2 p3 p4 p5 p6 p7 p8 p9 p10 p11 p12 p13 p14 p15 p16 p17 : Addr} {v0 v1 v2 v3 v4 v5 v6 v7 v8 v9 v10 v11 v12 v13 v14 v15 v16 v17 : Value}
    (h : W.cell? p0 = some v0 ∧ W.cell? p1 = some v1 ∧ W.cell? p2 = some v2 ∧ W.cell? p3 = some v3 ∧ W.cell? p4 = some v4 ∧ W.cell? p5 = some v5 ∧ W.cell? p6 = some v6 ∧ W.cell? p7 = some v7 ∧ W.cell? p8 = some v8 ∧ W.cell? p9 = some v9 ∧ W.cell? p10 = some v10 ∧ W.cell? p11 = some v11 ∧ W.cell? p12 = some v12 ∧ W.cell? p13 = some v13 ∧ W.cell? p14 = some v14 ∧ W.cell? p15 = some v15 ∧ W.cell? p16 = some v16 ∧ W.cell? p17 = some v17) (hb : RowKit.Below W.heap.size W W') : W'.cell? p0 = some v0 ∧ W'.cell? p1 = some v1 ∧ W'.cell? p2 = some v2 ∧ W'.cell? p3 = some v3 ∧ W'.cell? p4 = some v4 ∧ W'.cell? p5 = some v5 ∧ W'.cell? p6 = some v6 ∧ W'.cell? p7 = some v7 ∧ W'.cell? p8 = some v8 ∧ W'.cell? p9 = some v9 ∧ W'.cell? p10 = some v10 ∧ W'.cell? p11 = some v11 ∧ W'.cell? p12 = some v12 ∧ W'.cell? p13 = some v13 ∧ W'.cell? p14 = some v14 ∧ W'.cell? p15 = some v15 ∧ W'.cell? p16 = some v16 ∧ W'.cell? p17 = some v17 := by
  have q : ∀ (p : Addr) (v : Value), W.cell? p = some v → W'.cell? p = some v := fun p v hv => (hb.cell (World.block_lt_of_cell? W p hv)).trans hv
  obtain ⟨h0, h1, h2, h3, h4, h5, h6, h7, h8, h9, h10, h11, h12, h13, h14, h15, h16, h17⟩ := h
  exact ⟨q _ _ h0, q _ _ h1, q _ _ h2, q _ _ h3, q _ _ h4, q _ _ h5, q _ _ h6, q _ _ h7, q _ _ h8, q _ _ h9, q _ _ h10, q _ _ h11, q _ _ h12, q _ _ h13, q _ _ h14, q _ _ h15, q _ _ h16, q _ _ h17⟩

set_option maxHeartbeats 8000000 in
set_option maxRecDepth 100000 in
theorem RSet_any (ad : Option Addr) (cap : Nat) (l : List Tr) (w : World) (h : SlT w ad l) (hfit : ∀ x ∈ l, fitTr x) (hn : l.length ≤ 9223372036854775807) :
    Calls Tryz.prog 14 #[.slice ad l.length cap] w fun e w' => e = .returned (.int .i64 (sortedN l)) ∧ RowKit.Below w.heap.size w w' := by
  have Hl : Hid (SlT w ad l) := h
  have Hf : Hid (∀ x ∈ l, fitTr x) := hfit
  clear h hfit
  by_cases h200 : 200 < l.length
  · have fin : Hid (sortedN l = 4) := if_pos h200
    have h200' : decide ((l.length : Int) > 200) = true := by simp; omega
    go_enter Tryz.func14, Tryz.ntmps14
    go_wp2
    go_ret
    exact ⟨ret_i64 (by rw [fin.out]), RowKit.Below.refl _ _⟩
  · have fin : Hid (sortedN l = firstUpto (stepN l) l.length) := if_neg h200
    have h200' : decide ((l.length : Int) > 200) = false := by simp; omega
    go_enter Tryz.func14, Tryz.ntmps14
    go_wp2_with fail
    go_loopw [3] (fun i wr => ∃ k : Nat, k ≤ l.length ∧ i = .int .i64 k ∧ firstUpto (stepN l) k = 0 ∧ RowKit.Below w.heap.size w wr) (fun i wr => l.length - (intOf i).toNat)
    case atStart => exact ⟨0, Nat.zero_le _, rfl, rfl, RowKit.Below.refl _ _⟩
    case round =>
      obtain ⟨i, hi', rfl, hz0, hbr⟩ := hrel
      have hz : Hid (firstUpto (stepN l) i = 0) := hz0
      clear hz0
      by_cases hi : i < l.length
      · obtain ⟨b, o, rfl, hr⟩ := (Hl.out.below hbr).at i hi
        obtain ⟨c0, c1, c2, c3, c4, c5, c6, c7, c8⟩ := hr.at i hi
        have Hr : Hid (RowR wr b o l) := hr
        have H := fun W => RTriple_any l[i] W (Hf.out _ (List.getElem_mem hi))
        unfold valTr at H
        have i0 : (0 : Int) ≤ (i : Int) := by omega
        have i1 : (i : Int) < (l.length : Int) := by omega
        have hnext : Hid (firstUpto (stepN l) (i + 1) = stepN l i) := by show _ = _; rw [firstUpto, if_pos hz.out]
        have hend : Hid (stepN l i ≠ 0 → sortedN l = stepN l i) := fun hne => by
          rw [fin.out, ← hnext.out]
          exact firstUpto_mono _ _ _ (by rw [hnext.out]; exact hne) hi
        clear hr
        cases hc : (chkTr l[i] == 0)
        · have fs : Hid (stepN l i = chkTr l[i]) := by simp at hc; simp [Hid, stepN, hi, hc]
          have hne : (chkTr l[i] != 0) = true := by simp [bne, hc]
          have hn0 : Hid (stepN l i ≠ 0) := by show _ ≠ _; rw [fs.out]; simpa using hc
          generalize l[i] = y at *
          go_wp2_with fail
          refine (H _).mono ?_
          rintro e w1 ⟨rfl, hb1⟩
          go_wp2_with fail
          go_ret
          exact ⟨ret_i64 (by rw [hend.out hn0.out, fs.out]), bstep hbr hb1⟩
        · have hce : chkTr l[i] = 0 := by simpa using hc
          rw [hce] at H
          by_cases h0 : i = 0
          · subst h0
            have fs : Hid (stepN l 0 = 0) := by simp [Hid, stepN, hi, hce]
            clear hc hce
            generalize l[0] = y at *
            simp only [Nat.zero_mul, Nat.add_zero] at c0 c1 c2 c3 c4 c5 c6 c7 c8
            go_wp2_with fail
            refine (H _).mono ?_
            rintro e w1 ⟨rfl, hb1⟩
            clear c0 c1 c2 c3 c4 c5 c6 c7 c8
            go_wp2_with fail
            go_region
            go_wp2
            exact ⟨⟨1, by omega, by go_num, by rw [hnext.out, fs.out], bstep hbr hb1.drew⟩, by simp [intOf]; omega⟩
          · obtain ⟨k, hk0⟩ : ∃ k, i = k + 1 := ⟨i - 1, by omega⟩
            have hk : k < l.length := by omega
            have fs : Hid (stepN l i = if 0 ≤ cmpTr l[k] l[i] then 6 else 0) := by
              subst hk0; simp [Hid, stepN, hi, hce]
            have HC := fun W => ROrder_any l[k] l[i] W
            unfold valTr at HC
            generalize cmpTr l[k] l[i] = c at HC fs
            have hwr : IntKind.i64.wrap ((i : Int) - 1) = (k : Int) := by subst hk0; simp [IntKind.wrap, IntKind.bits, IntKind.signed]; omega
            have i2 : (0 : Int) ≤ (k : Int) := by omega
            have i3 : (k : Int) < (l.length : Int) := by omega
            have hd : decide (0 < i) = true := by simp; omega
            have hd' : decide ((i : Int) > 0) = true := by simp; omega
            have Hk : Hid (i = k + 1) := hk0
            clear hk0 h0 hc hce
            go_wp2_with fail
            refine (H _).mono ?_
            rintro e w1 ⟨rfl, hb1⟩
            clear c0 c1 c2 c3 c4 c5 c6 c7 c8
            obtain ⟨c0, c1, c2, c3, c4, c5, c6, c7, c8⟩ := (Hr.out.below hb1).at i hi
            obtain ⟨d0, d1, d2, d3, d4, d5, d6, d7, d8⟩ := (Hr.out.below hb1).at k hk
            generalize l[i] = y at *
            generalize l[k] = x at *
            clear H
            cases hcc : decide (c ≥ 0)
            · have fs0 : Hid (stepN l i = 0) := by have := fs.out; simp at hcc; rw [if_neg (by omega)] at this; exact this
              go_wp2_with fail
              go_region_held3 (fun W => W.cell? ⟨b, o + k * 9, none⟩ = some (.int .i64 x.1.1) ∧ W.cell? ⟨b, o + k * 9 + 1, none⟩ = some (.string ⟨x.1.2.1.toArray⟩) ∧ W.cell? ⟨b, o + k * 9 + 2, none⟩ = some (.string ⟨x.1.2.2.toArray⟩) ∧ W.cell? ⟨b, o + k * 9 + 3, none⟩ = some (.int .i64 x.2.1.1) ∧ W.cell? ⟨b, o + k * 9 + 4, none⟩ = some (.string ⟨x.2.1.2.1.toArray⟩) ∧ W.cell? ⟨b, o + k * 9 + 5, none⟩ = some (.string ⟨x.2.1.2.2.toArray⟩) ∧ W.cell? ⟨b, o + k * 9 + 6, none⟩ = some (.int .i64 x.2.2.1) ∧ W.cell? ⟨b, o + k * 9 + 7, none⟩ = some (.string ⟨x.2.2.2.1.toArray⟩) ∧ W.cell? ⟨b, o + k * 9 + 8, none⟩ = some (.string ⟨x.2.2.2.2.toArray⟩) ∧ W.cell? ⟨b, o + i * 9, none⟩ = some (.int .i64 y.1.1) ∧ W.cell? ⟨b, o + i * 9 + 1, none⟩ = some (.string ⟨y.1.2.1.toArray⟩) ∧ W.cell? ⟨b, o + i * 9 + 2, none⟩ = some (.string ⟨y.1.2.2.toArray⟩) ∧ W.cell? ⟨b, o + i * 9 + 3, none⟩ = some (.int .i64 y.2.1.1) ∧ W.cell? ⟨b, o + i * 9 + 4, none⟩ = some (.string ⟨y.2.1.2.1.toArray⟩) ∧ W.cell? ⟨b, o + i * 9 + 5, none⟩ = some (.string ⟨y.2.1.2.2.toArray⟩) ∧ W.cell? ⟨b, o + i * 9 + 6, none⟩ = some (.int .i64 y.2.2.1) ∧ W.cell? ⟨b, o + i * 9 + 7, none⟩ = some (.string ⟨y.2.2.2.1.toArray⟩) ∧ W.cell? ⟨b, o + i * 9 + 8, none⟩ = some (.string ⟨y.2.2.2.2.toArray⟩)) (first | exact keep18b (by assumption) hb2 | go_keep) (first
                | (go_at_call 46; refine (HC _).mono ?_; rintro e w2 ⟨rfl, hb2⟩))
              go_wp2
              exact ⟨⟨i + 1, by omega, by go_num, by rw [hnext.out, fs0.out], bstep (bstep hbr hb1.drew) hb2⟩, by simp [intOf]; omega⟩
            · have fs0 : Hid (stepN l i = 6) := by have := fs.out; simp at hcc; rw [if_pos (by omega)] at this; exact this
              go_wp2_with fail
              go_region_held3 (fun W => W.cell? ⟨b, o + k * 9, none⟩ = some (.int .i64 x.1.1) ∧ W.cell? ⟨b, o + k * 9 + 1, none⟩ = some (.string ⟨x.1.2.1.toArray⟩) ∧ W.cell? ⟨b, o + k * 9 + 2, none⟩ = some (.string ⟨x.1.2.2.toArray⟩) ∧ W.cell? ⟨b, o + k * 9 + 3, none⟩ = some (.int .i64 x.2.1.1) ∧ W.cell? ⟨b, o + k * 9 + 4, none⟩ = some (.string ⟨x.2.1.2.1.toArray⟩) ∧ W.cell? ⟨b, o + k * 9 + 5, none⟩ = some (.string ⟨x.2.1.2.2.toArray⟩) ∧ W.cell? ⟨b, o + k * 9 + 6, none⟩ = some (.int .i64 x.2.2.1) ∧ W.cell? ⟨b, o + k * 9 + 7, none⟩ = some (.string ⟨x.2.2.2.1.toArray⟩) ∧ W.cell? ⟨b, o + k * 9 + 8, none⟩ = some (.string ⟨x.2.2.2.2.toArray⟩) ∧ W.cell? ⟨b, o + i * 9, none⟩ = some (.int .i64 y.1.1) ∧ W.cell? ⟨b, o + i * 9 + 1, none⟩ = some (.string ⟨y.1.2.1.toArray⟩) ∧ W.cell? ⟨b, o + i * 9 + 2, none⟩ = some (.string ⟨y.1.2.2.toArray⟩) ∧ W.cell? ⟨b, o + i * 9 + 3, none⟩ = some (.int .i64 y.2.1.1) ∧ W.cell? ⟨b, o + i * 9 + 4, none⟩ = some (.string ⟨y.2.1.2.1.toArray⟩) ∧ W.cell? ⟨b, o + i * 9 + 5, none⟩ = some (.string ⟨y.2.1.2.2.toArray⟩) ∧ W.cell? ⟨b, o + i * 9 + 6, none⟩ = some (.int .i64 y.2.2.1) ∧ W.cell? ⟨b, o + i * 9 + 7, none⟩ = some (.string ⟨y.2.2.2.1.toArray⟩) ∧ W.cell? ⟨b, o + i * 9 + 8, none⟩ = some (.string ⟨y.2.2.2.2.toArray⟩)) (first | exact keep18b (by assumption) hb2 | go_keep) (first
                | (go_at_call 46; refine (HC _).mono ?_; rintro e w2 ⟨rfl, hb2⟩))
              go_wp2
              go_ret
              exact ⟨ret_i64 (by rw [hend.out (by rw [fs0.out]; decide), fs0.out]), bstep (bstep hbr hb1.drew) hb2⟩
      · obtain rfl : i = l.length := by omega
        go_wp2_with fail
        go_ret
        exact ⟨ret_i64 (by rw [fin.out, hz.out]), hbr⟩
end Go.Proofs.YtnlcfnpcjkcdmadGreatDoor
