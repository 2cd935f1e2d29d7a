import Derived.Test.YtcdbcoaiadipjaaGreatDoorMA0x7
import Derived.Test.YtcdbcoaiadipjaaGreatDoorMA0x1
import Derived.Laws.Cover1
import Derived.Test.YtcdbcoaiadipjaaGreatDoorMA0x5
import Derived.Deep.Draws
import Derived.RegionTactic
import Derived.Test.YtcdbcoaiadipjaaGreatDoorMA0x6
import Derived.Test.YtcdbcoaiadipjaaGreatDoorRows
import Derived.WalkKit
import Derived.Maps.AppendAt
import Derived.OwnWalk

/- The document's answer (package strataref1): right at a name and at an anonymous one; Term. -/
namespace Go.Proofs.YtcdbcoaiadipjaaGreatDoor
open Go Go.RowKit Go.Proofs

theorem anonOk_eq (L : List UInt8) (h : ¬ L = []) : anonOk L = allB anonB L := by cases L <;> simp_all [anonOk]
theorem nameOk_eq (L : List UInt8) (h : 0 < L.length) : nameOk L = (letB (L[0].toNat : Int) && allB nameB L) := by
  cases L with
  | nil => simp at h
  | cons => rfl

set_option maxHeartbeats 1000000 in
theorem right_anon (L : List UInt8) (w : World) (hl : L.length ≤ maxLen) :
    Calls Tryz.prog 38 #[.int .i64 2, .string ⟨L.toArray⟩] w fun e w' => e = .returned (.bool (anonOk L)) ∧ w' = w := by
  unfold maxLen at hl
  by_cases hne : L = []
  · subst hne
    go_enter Tryz.func38, Tryz.ntmps38
    go_wp2
    go_ret
    exact ⟨rfl, rfl⟩
  · have fin : Hid (anonOk L = allB anonB L) := anonOk_eq L hne
    have hne' : L.isEmpty = false := by simpa using hne
    go_enter Tryz.func38, Tryz.ntmps38
    go_wp2
    go_loop [5] (fun i => ∃ k : Nat, k ≤ L.length ∧ i = .int .i64 k ∧ Hid (allB anonB (L.take k) = true)) (fun i => L.length - (intOf i).toNat)
    case atStart => exact ⟨0, Nat.zero_le _, rfl, rfl⟩
    case round =>
      obtain ⟨k, hk, rfl, hall⟩ := hrel
      by_cases hlt : k < L.length
      · have hidx : ∀ h, (⟨L.toArray⟩ : ByteArray)[k]'h = L[k] := fun _ => rfl
        have ht : Hid (anonB (L[k].toNat : Int) = (letB (L[k].toNat : Int) || digB (L[k].toNat : Int))) := rfl
        cases ha : letB (L[k].toNat : Int)
        · cases hd : digB (L[k].toNat : Int)
          · go_wp2_with (first
              | (go_at_call 64; refine (letter_any _ _).mono ?_; rintro e w' ⟨rfl, rfl⟩)
              | (go_at_call 65; refine (digit_any _ _).mono ?_; rintro e w' ⟨rfl, rfl⟩))
            go_ret
            exact ⟨ret_bool (by rw [fin.out, allL_false anonB L k hlt (by rw [ht.out, ha, hd]; rfl)]), rfl⟩
          · go_wp2_with (first
              | (go_at_call 64; refine (letter_any _ _).mono ?_; rintro e w' ⟨rfl, rfl⟩)
              | (go_at_call 65; refine (digit_any _ _).mono ?_; rintro e w' ⟨rfl, rfl⟩))
            refine ⟨⟨k + 1, by omega, by go_num, ?_⟩, by simp [intOf]; omega⟩
            show _ = _
            rw [allL_take anonB L k hlt, hall.out, ht.out, ha, hd]; rfl
        · go_wp2_with (first
            | (go_at_call 64; refine (letter_any _ _).mono ?_; rintro e w' ⟨rfl, rfl⟩)
            | (go_at_call 65; refine (digit_any _ _).mono ?_; rintro e w' ⟨rfl, rfl⟩))
          refine ⟨⟨k + 1, by omega, by go_num, ?_⟩, by simp [intOf]; omega⟩
          show _ = _
          rw [allL_take anonB L k hlt, hall.out, ht.out, ha]; rfl
      · go_wp2
        go_ret
        have e := hall.out
        rw [List.take_of_length_le (by omega)] at e
        exact ⟨ret_bool (by rw [fin.out, e]), rfl⟩

set_option maxHeartbeats 2000000 in
theorem right_name (L : List UInt8) (w : World) (hl : L.length ≤ maxLen) :
    Calls Tryz.prog 38 #[.int .i64 1, .string ⟨L.toArray⟩] w fun e w' => e = .returned (.bool (nameOk L)) ∧ w' = w := by
  unfold maxLen at hl
  by_cases hne : L = []
  · subst hne
    go_enter Tryz.func38, Tryz.ntmps38
    go_wp2
    go_ret
    exact ⟨rfl, rfl⟩
  · have hpos : 0 < L.length := List.length_pos_iff.2 hne
    have fin : Hid (nameOk L = (letB (L[0].toNat : Int) && allB nameB L)) := nameOk_eq L hpos
    have hne' : L.isEmpty = false := by simpa using hne
    go_enter Tryz.func38, Tryz.ntmps38
    go_wp2
    go_loop [5] (fun i => ∃ k : Nat, k ≤ L.length ∧ i = .int .i64 k ∧ Hid (allB nameB (L.take k) = true ∧ (0 < k → letB (L[0].toNat : Int) = true))) (fun i => L.length - (intOf i).toNat)
    case atStart => exact ⟨0, Nat.zero_le _, rfl, rfl, by omega⟩
    case round =>
      obtain ⟨k, hk, rfl, hall⟩ := hrel
      by_cases hlt : k < L.length
      · have hidx : ∀ h, (⟨L.toArray⟩ : ByteArray)[k]'h = L[k] := fun _ => rfl
        have ht : Hid (nameB (L[k].toNat : Int) = (letB (L[k].toNat : Int) || digB (L[k].toNat : Int) || decide ((L[k].toNat : Int) = 58 ∨ (L[k].toNat : Int) = 47 ∨ (L[k].toNat : Int) = 46))) := rfl
        cases ha : letB (L[k].toNat : Int)
        · by_cases h0 : k = 0
          · subst h0
            have hi : (((0 : Nat) : Int) == 0) = true := rfl
            go_wp2_with (first
              | (go_at_call 64; refine (letter_any _ _).mono ?_; rintro e w' ⟨rfl, rfl⟩)
              | (go_at_call 65; refine (digit_any _ _).mono ?_; rintro e w' ⟨rfl, rfl⟩))
            go_ret
            exact ⟨ret_bool (by rw [fin.out, ha]; rfl), rfl⟩
          · have hi : ((k : Int) == 0) = false := by rw [beq_eq_false_iff_ne]; omega
            have h0' : Hid (letB (L[0].toNat : Int) = true) := hall.out.2 (by omega)
            clear h0
            cases hd : digB (L[k].toNat : Int)
            · cases h58 : ((L[k].toNat : Int) != 58)
              · go_wp2_with (first
                  | (go_at_call 64; refine (letter_any _ _).mono ?_; rintro e w' ⟨rfl, rfl⟩)
                  | (go_at_call 65; refine (digit_any _ _).mono ?_; rintro e w' ⟨rfl, rfl⟩))
                refine ⟨⟨k + 1, by omega, by go_num, ?_, fun _ => h0'.out⟩, by simp [intOf]; omega⟩
                simp at h58
                rw [allL_take nameB L k hlt, hall.out.1, ht.out]; simp [h58]
              · cases h47 : ((L[k].toNat : Int) != 47)
                · go_wp2_with (first
                    | (go_at_call 64; refine (letter_any _ _).mono ?_; rintro e w' ⟨rfl, rfl⟩)
                    | (go_at_call 65; refine (digit_any _ _).mono ?_; rintro e w' ⟨rfl, rfl⟩))
                  refine ⟨⟨k + 1, by omega, by go_num, ?_, fun _ => h0'.out⟩, by simp [intOf]; omega⟩
                  simp at h47
                  rw [allL_take nameB L k hlt, hall.out.1, ht.out]; simp [h47]
                · cases h46 : ((L[k].toNat : Int) != 46)
                  · go_wp2_with (first
                      | (go_at_call 64; refine (letter_any _ _).mono ?_; rintro e w' ⟨rfl, rfl⟩)
                      | (go_at_call 65; refine (digit_any _ _).mono ?_; rintro e w' ⟨rfl, rfl⟩))
                    refine ⟨⟨k + 1, by omega, by go_num, ?_, fun _ => h0'.out⟩, by simp [intOf]; omega⟩
                    simp at h46
                    rw [allL_take nameB L k hlt, hall.out.1, ht.out]; simp [h46]
                  · go_wp2_with (first
                      | (go_at_call 64; refine (letter_any _ _).mono ?_; rintro e w' ⟨rfl, rfl⟩)
                      | (go_at_call 65; refine (digit_any _ _).mono ?_; rintro e w' ⟨rfl, rfl⟩))
                    go_ret
                    simp at h58 h47 h46
                    exact ⟨ret_bool (by rw [fin.out, allL_false nameB L k hlt (by rw [ht.out, ha, hd]; simp [h58, h47, h46])]; simp), rfl⟩
            · go_wp2_with (first
                | (go_at_call 64; refine (letter_any _ _).mono ?_; rintro e w' ⟨rfl, rfl⟩)
                | (go_at_call 65; refine (digit_any _ _).mono ?_; rintro e w' ⟨rfl, rfl⟩))
              refine ⟨⟨k + 1, by omega, by go_num, ?_, fun _ => h0'.out⟩, by simp [intOf]; omega⟩
              rw [allL_take nameB L k hlt, hall.out.1, ht.out, ha, hd]; rfl
        · go_wp2_with (first
            | (go_at_call 64; refine (letter_any _ _).mono ?_; rintro e w' ⟨rfl, rfl⟩)
            | (go_at_call 65; refine (digit_any _ _).mono ?_; rintro e w' ⟨rfl, rfl⟩))
          refine ⟨⟨k + 1, by omega, by go_num, ?_, fun _ => ?_⟩, by simp [intOf]; omega⟩
          · rw [allL_take nameB L k hlt, hall.out.1, ht.out, ha]; rfl
          · by_cases h0 : k = 0
            · subst h0; exact ha
            · exact hall.out.2 (by omega)
      · go_wp2
        go_ret
        have e := hall.out.1
        rw [List.take_of_length_le (by omega)] at e
        exact ⟨ret_bool (by rw [fin.out, e, hall.out.2 (by omega)]; rfl), rfl⟩
end Go.Proofs.YtcdbcoaiadipjaaGreatDoor

/- The document's answer (package strataref1): Term, Compare, Show. -/
namespace Go.Proofs.YtcdbcoaiadipjaaGreatDoor
open Go Go.RowKit Go.Proofs

theorem ret_i64 {a b : Int} (h : a = b) : Ending.returned (.int .i64 a) = .returned (.int .i64 b) := by rw [h]

theorem RTerm_range (k : Int) (S L : List UInt8) (w : World) (h : k < 1 ∨ 3 < k) :
    Calls Tryz.prog 13 #[.agg #[.int .i64 k, .string ⟨S.toArray⟩, .string ⟨L.toArray⟩]] w fun e w' => e = .returned (.int .i64 (checkN k S L)) ∧ Below w.heap.size w w' := by
  have fin : Hid (checkN k S L = 1) := by
    have : kindB k = false := by simp [kindB]; omega
    simp [Hid, checkN, this]
  rcases h with h | h
  · go_enter Tryz.func13, Tryz.ntmps13
    go_wp2
    go_ret
    exact ⟨ret_i64 fin.out.symm, balloc _ _⟩
  · have h' : ¬ k < 1 := by omega
    go_enter Tryz.func13, Tryz.ntmps13
    go_wp2
    go_ret
    exact ⟨ret_i64 fin.out.symm, balloc _ _⟩

theorem RTerm_full (k : Int) (S L : List UInt8) (w : World) (h : 1 ≤ k) (h3 : k ≤ 3) (hs : S.length ≤ maxLen) (hlo : 24 < S.length) :
    Calls Tryz.prog 13 #[.agg #[.int .i64 k, .string ⟨S.toArray⟩, .string ⟨L.toArray⟩]] w fun e w' => e = .returned (.int .i64 (checkN k S L)) ∧ Below w.heap.size w w' := by
  have fin : Hid (checkN k S L = 4) := by
    have h1 : kindB k = true := by simp [kindB]; omega
    have h2 : longB S = true := by simp [longB]; omega
    simp [Hid, checkN, h1, h2]
  unfold maxLen at hs
  go_enter Tryz.func13, Tryz.ntmps13
  go_wp2
  go_ret
  exact ⟨ret_i64 fin.out.symm, balloc _ _⟩

theorem letters_lang (L : List UInt8) (h : L.length = 2) : lettersB L = langOk L := by
  cases L with
  | nil => simp at h
  | cons c r => simp [lettersB, langOk, h]

set_option maxHeartbeats 1000000 in
theorem RTerm_name (S L : List UInt8) (w : World) (hs : S.length ≤ 24) (hl : L.length ≤ maxLen) :
    Calls Tryz.prog 13 #[.agg #[.int .i64 1, .string ⟨S.toArray⟩, .string ⟨L.toArray⟩]] w fun e w' => e = .returned (.int .i64 (checkN 1 S L)) ∧ Below w.heap.size w w' := by
  have fin : Hid (checkN 1 S L = if (L.isEmpty && nameOk S) = false then 2 else 0) := by
    have h2 : longB S = false := by simp [longB]; omega
    show (if kindB 1 = false then (1 : Int) else if longB S = true then 4 else if spellB 1 S L = false then 2 else 0) = _
    rw [h2]; rfl
  have hs' : S.length ≤ maxLen := by unfold maxLen; omega
  cases hr : nameOk S
  · go_enter Tryz.func13, Tryz.ntmps13
    go_wp2_with (go_at_call 38; refine (right_name S _ hs').mono ?_; rintro e w1 ⟨rfl, rfl⟩)
    go_ret
    exact ⟨ret_i64 (by rw [fin.out, hr]; simp), balloc _ _⟩
  · cases L with
    | nil =>
      go_enter Tryz.func13, Tryz.ntmps13
      go_wp2_with (go_at_call 38; refine (right_name S _ hs').mono ?_; rintro e w1 ⟨rfl, rfl⟩)
      go_ret
      exact ⟨ret_i64 (by rw [fin.out, hr]; simp), balloc _ _⟩
    | cons c r =>
      go_enter Tryz.func13, Tryz.ntmps13
      go_wp2_with (first
        | (go_at_call 38; refine (right_name S _ hs').mono ?_; rintro e w1 ⟨rfl, rfl⟩)
        | (go_at_call 39; refine (Letters_any (c :: r) _ hl).mono ?_; rintro e w1 ⟨rfl, rfl⟩))
      go_ret
      exact ⟨ret_i64 (by rw [fin.out]; simp), balloc _ _⟩

set_option maxHeartbeats 1000000 in
theorem RTerm_anon (S L : List UInt8) (w : World) (hs : S.length ≤ 24) (hl : L.length ≤ maxLen) :
    Calls Tryz.prog 13 #[.agg #[.int .i64 2, .string ⟨S.toArray⟩, .string ⟨L.toArray⟩]] w fun e w' => e = .returned (.int .i64 (checkN 2 S L)) ∧ Below w.heap.size w w' := by
  have fin : Hid (checkN 2 S L = if (L.isEmpty && anonOk S) = false then 2 else 0) := by
    have h2 : longB S = false := by simp [longB]; omega
    show (if kindB 2 = false then (1 : Int) else if longB S = true then 4 else if spellB 2 S L = false then 2 else 0) = _
    rw [h2]; rfl
  have hs' : S.length ≤ maxLen := by unfold maxLen; omega
  cases hr : anonOk S
  · go_enter Tryz.func13, Tryz.ntmps13
    go_wp2_with (go_at_call 38; refine (right_anon S _ hs').mono ?_; rintro e w1 ⟨rfl, rfl⟩)
    go_ret
    exact ⟨ret_i64 (by rw [fin.out, hr]; simp), balloc _ _⟩
  · cases L with
    | nil =>
      go_enter Tryz.func13, Tryz.ntmps13
      go_wp2_with (go_at_call 38; refine (right_anon S _ hs').mono ?_; rintro e w1 ⟨rfl, rfl⟩)
      go_ret
      exact ⟨ret_i64 (by rw [fin.out, hr]; simp), balloc _ _⟩
    | cons c r =>
      go_enter Tryz.func13, Tryz.ntmps13
      go_wp2_with (first
        | (go_at_call 38; refine (right_anon S _ hs').mono ?_; rintro e w1 ⟨rfl, rfl⟩)
        | (go_at_call 39; refine (Letters_any (c :: r) _ hl).mono ?_; rintro e w1 ⟨rfl, rfl⟩))
      go_ret
      exact ⟨ret_i64 (by rw [fin.out]; simp), balloc _ _⟩

set_option maxHeartbeats 1000000 in
theorem RTerm_text (S L : List UInt8) (w : World) (hs : S.length ≤ 24) (hl : L.length ≤ maxLen) :
    Calls Tryz.prog 13 #[.agg #[.int .i64 3, .string ⟨S.toArray⟩, .string ⟨L.toArray⟩]] w fun e w' => e = .returned (.int .i64 (checkN 3 S L)) ∧ Below w.heap.size w w' := by
  have fin : Hid (checkN 3 S L = if ((L.isEmpty || langOk L) && textOk S) = false then 2 else 0) := by
    have h2 : longB S = false := by simp [longB]; omega
    show (if kindB 3 = false then (1 : Int) else if longB S = true then 4 else if spellB 3 S L = false then 2 else 0) = _
    rw [h2]; rfl
  have hs' : S.length ≤ maxLen := by unfold maxLen; omega
  cases hr : textOk S
  · go_enter Tryz.func13, Tryz.ntmps13
    go_wp2_with (go_at_call 38; refine (right_text S _ hs').mono ?_; rintro e w1 ⟨rfl, rfl⟩)
    go_ret
    exact ⟨ret_i64 (by rw [fin.out, hr]; simp), balloc _ _⟩
  · by_cases hne : L = []
    · subst hne
      go_enter Tryz.func13, Tryz.ntmps13
      go_wp2_with (go_at_call 38; refine (right_text S _ hs').mono ?_; rintro e w1 ⟨rfl, rfl⟩)
      go_ret
      exact ⟨ret_i64 (by rw [fin.out, hr]; simp), balloc _ _⟩
    · have hne' : L.isEmpty = false := by simpa using hne
      by_cases h2 : L.length = 2
      · have hb : ((L.length : Int) != 2) = false := by simp; omega
        have hll : Hid (lettersB L = langOk L) := letters_lang L h2
        clear h2
        cases hk : lettersB L
        all_goals
          go_enter Tryz.func13, Tryz.ntmps13
          go_wp2_with (first
            | (go_at_call 38; refine (right_text S _ hs').mono ?_; rintro e w1 ⟨rfl, rfl⟩)
            | (go_at_call 39; refine (Letters_any L _ hl).mono ?_; rintro e w1 ⟨rfl, rfl⟩))
          go_ret
          exact ⟨ret_i64 (by rw [fin.out, ← hll.out, hk, hr, hne']; simp), balloc _ _⟩
      · have hb : ((L.length : Int) != 2) = true := by simp; omega
        have hk : Hid (langOk L = false) := by simp [Hid, langOk, h2]
        clear h2
        unfold maxLen at hl
        go_enter Tryz.func13, Tryz.ntmps13
        go_wp2_with (first
          | (go_at_call 38; refine (right_text S _ hs').mono ?_; rintro e w1 ⟨rfl, rfl⟩)
          | (go_at_call 39; refine (Letters_any L _ hl).mono ?_; rintro e w1 ⟨rfl, rfl⟩))
        go_ret
        exact ⟨ret_i64 (by rw [fin.out, hk.out, hne']; simp), balloc _ _⟩

theorem RTerm_any (k : Int) (S L : List UInt8) (w : World) (hs : S.length ≤ maxLen) (hl : L.length ≤ maxLen) :
    Calls Tryz.prog 13 #[.agg #[.int .i64 k, .string ⟨S.toArray⟩, .string ⟨L.toArray⟩]] w fun e w' => e = .returned (.int .i64 (checkN k S L)) ∧ Below w.heap.size w w' := by
  by_cases h : k < 1 ∨ 3 < k
  · exact RTerm_range k S L w h
  · by_cases hlo : 24 < S.length
    · exact RTerm_full k S L w (by omega) (by omega) hs hlo
    · rcases (by omega : k = 1 ∨ k = 2 ∨ k = 3) with rfl | rfl | rfl
      · exact RTerm_name S L w (by omega) hl
      · exact RTerm_anon S L w (by omega) hl
      · exact RTerm_text S L w (by omega) hl

theorem RCompare_kind (k : Int) (S L : List UInt8) (k' : Int) (S' L' : List UInt8) (w : World) (h : k ≠ k') :
    Calls Tryz.prog 28 #[.agg #[.int .i64 k, .string ⟨S.toArray⟩, .string ⟨L.toArray⟩], .agg #[.int .i64 k', .string ⟨S'.toArray⟩, .string ⟨L'.toArray⟩]] w fun e w' => e = .returned (.int .i64 (cmpT k S L k' S' L')) ∧ Below w.heap.size w w' := by
  have fin : Hid (cmpT k S L k' S' L' = Lib.compareInt k k') := by
    have : Lib.compareInt k k' ≠ 0 := fun e => h ((ci_zero _ _).1 e)
    simp [Hid, cmpT, orI, this]
  have hb : (k != k') = true := by simpa using h
  by_cases hlt : k < k'
  · go_enter Tryz.func28, Tryz.ntmps28
    go_wp2
    go_ret
    exact ⟨ret_i64 (by rw [fin.out]; simp [Lib.compareInt, hlt]), bstep (balloc _ _) (balloc _ _)⟩
  · have hgt : k' < k := by omega
    go_enter Tryz.func28, Tryz.ntmps28
    go_wp2
    go_ret
    exact ⟨ret_i64 (by rw [fin.out]; simp [Lib.compareInt, hlt, hgt]), bstep (balloc _ _) (balloc _ _)⟩

theorem less_cb (a : List UInt8) : ∀ b, Op.bytesLess a b = decide (Lib.compareBytes a b < 0) := by
  induction a with
  | nil => intro b; cases b <;> simp [Op.bytesLess, Lib.compareBytes]
  | cons x xs ih =>
    intro b
    cases b with
    | nil => simp [Op.bytesLess, Lib.compareBytes]
    | cons y ys =>
      by_cases h1 : x < y
      · simp [Op.bytesLess, Lib.compareBytes, h1]
      · by_cases h2 : y < x
        · have hne : (x == y) = false := by
            rw [beq_eq_false_iff_ne]; rintro rfl; exact absurd h2 (by simp)
          simp [Op.bytesLess, Lib.compareBytes, h1, h2, hne]
        · have : x = y := UInt8.le_antisymm (UInt8.not_lt.1 h2) (UInt8.not_lt.1 h1)
          subst this
          simp [Op.bytesLess, Lib.compareBytes, ih]

theorem cbr (a : List UInt8) : ∀ b, -1 ≤ Lib.compareBytes a b ∧ Lib.compareBytes a b ≤ 1 := by
  induction a with
  | nil => intro b; cases b <;> simp [Lib.compareBytes]
  | cons x xs ih =>
    intro b
    cases b with
    | nil => simp [Lib.compareBytes]
    | cons y ys =>
      by_cases h1 : x < y
      · simp [Lib.compareBytes, h1]
      · by_cases h2 : y < x
        · simp [Lib.compareBytes, h1, h2]
        · simp only [Lib.compareBytes, h1, h2, if_false]; exact ih ys

theorem cb_val (a b : List UInt8) : Lib.compareBytes a b = if Op.bytesLess a b = true then -1 else if a = b then 0 else 1 := by
  have h1 := less_cb a b
  have h2 := cb_zero a b
  have h3 := cbr a b
  by_cases h : Lib.compareBytes a b < 0
  · rw [h1]; simp only [h, decide_true, if_true]; omega
  · rw [h1]
    simp only [h, decide_false, Bool.false_eq_true, if_false]
    by_cases e : a = b
    · rw [if_pos e]; exact h2.2 e
    · rw [if_neg e]
      have : Lib.compareBytes a b ≠ 0 := fun q => e (h2.1 q)
      omega

theorem cmpT_same (k : Int) (S L S' L' : List UInt8) : cmpT k S L k S' L' = if S = S' then Lib.compareBytes L L' else Lib.compareBytes S S' := by
  have h1 : Lib.compareInt k k = 0 := (ci_zero k k).2 rfl
  have h2 := cb_zero S S'
  unfold cmpT orI
  rw [h1, if_pos rfl]
  by_cases e : S = S'
  · rw [if_pos (h2.2 e), if_pos e]
  · rw [if_neg (fun q => e (h2.1 q)), if_neg e]

theorem RCompare_rest (k : Int) (S L : List UInt8) (S' L' : List UInt8) (w : World) :
    Calls Tryz.prog 28 #[.agg #[.int .i64 k, .string ⟨S.toArray⟩, .string ⟨L.toArray⟩], .agg #[.int .i64 k, .string ⟨S'.toArray⟩, .string ⟨L'.toArray⟩]] w fun e w' => e = .returned (.int .i64 (cmpT k S L k S' L')) ∧ Below w.heap.size w w' := by
  have fin : Hid (cmpT k S L k S' L' = if S = S' then Lib.compareBytes L L' else Lib.compareBytes S S') := cmpT_same k S L S' L'
  by_cases hS : S = S'
  · subst hS
    cases hl : Op.bytesLess L L'
    · by_cases hL : L = L'
      · have hb : (L == L') = true := by simpa using hL
        have v : Hid (Lib.compareBytes L L' = 0) := (cb_zero L L').2 hL
        clear hL
        go_enter Tryz.func28, Tryz.ntmps28
        go_wp2
        go_ret
        exact ⟨ret_i64 (by rw [fin.out, v.out]; rfl), bstep (balloc _ _) (balloc _ _)⟩
      · have hb : (L == L') = false := by simpa using hL
        have v : Hid (Lib.compareBytes L L' = 1) := by show _ = _; rw [cb_val, hl]; simp [hL]
        clear hL
        go_enter Tryz.func28, Tryz.ntmps28
        go_wp2
        go_ret
        exact ⟨ret_i64 (by rw [fin.out, v.out]; rfl), bstep (balloc _ _) (balloc _ _)⟩
    · have v : Hid (Lib.compareBytes L L' = -1) := by show _ = _; rw [cb_val, hl]; simp
      go_enter Tryz.func28, Tryz.ntmps28
      go_wp2
      go_ret
      exact ⟨ret_i64 (by rw [fin.out, v.out]; rfl), bstep (balloc _ _) (balloc _ _)⟩
  · have hb : (S == S') = false := by simpa using hS
    have fin2 : Hid (cmpT k S L k S' L' = Lib.compareBytes S S') := fin.out.trans (if_neg hS)
    have v := cb_val S S'
    rw [if_neg hS] at v
    have V : Hid (Lib.compareBytes S S' = if Op.bytesLess S S' = true then -1 else 1) := v
    clear hS v
    cases hl : Op.bytesLess S S'
    all_goals
      go_enter Tryz.func28, Tryz.ntmps28
      go_wp2
      go_ret
      exact ⟨ret_i64 (by rw [fin2.out, V.out, hl]; rfl), bstep (balloc _ _) (balloc _ _)⟩

theorem RCompare_any (k : Int) (S L : List UInt8) (k' : Int) (S' L' : List UInt8) (w : World) :
    Calls Tryz.prog 28 #[.agg #[.int .i64 k, .string ⟨S.toArray⟩, .string ⟨L.toArray⟩], .agg #[.int .i64 k', .string ⟨S'.toArray⟩, .string ⟨L'.toArray⟩]] w fun e w' => e = .returned (.int .i64 (cmpT k S L k' S' L')) ∧ Below w.heap.size w w' := by
  by_cases h : k = k'
  · subst h; exact RCompare_rest k S L S' L' w
  · exact RCompare_kind k S L k' S' L' w h
end Go.Proofs.YtcdbcoaiadipjaaGreatDoor

/- The document's Vars, and what it leans on: Slots, Three, Letters up to ten, Has; lists of texts held against one another. -/
namespace Go.Proofs.YtcdbcoaiadipjaaGreatDoor
open Go Go.RowKit Go.Proofs Go.Maps
set_option synthInstance.maxSize 1000

/-- one to ten letters -/
def lettersTenB (L : List UInt8) : Bool := !L.isEmpty && (decide (L.length ≤ 10) && allB letB L)
theorem ten_spell {v : List UInt8} (h : ¬ v = []) : lettersTenB v = spellV v := by
  cases v with
  | nil => exact absurd rfl h
  | cons c r => rfl

set_option maxHeartbeats 400000 in
theorem LettersTen_any (L : List UInt8) (w : World) (hl : L.length ≤ maxLen) :
    Calls Tryz.prog 39 #[.string ⟨L.toArray⟩, .int .i64 10] w fun e w' => e = .returned (.bool (lettersTenB L)) ∧ w' = w := by
  unfold maxLen at hl
  cases L with
  | nil =>
    go_enter Tryz.func39, Tryz.ntmps39
    go_wp2
    go_ret
    exact ⟨rfl, rfl⟩
  | cons c r =>
    have fin : Hid (lettersTenB (c :: r) = (decide ((c :: r).length ≤ 10) && allB letB (c :: r))) := rfl
    generalize hL : c :: r = L at *
    have hne : ¬ L = [] := by rw [← hL]; simp
    have hne' : L.isEmpty = false := by rw [← hL]; rfl
    clear hL
    by_cases h2 : L.length ≤ 10
    · go_enter Tryz.func39, Tryz.ntmps39
      go_wp2
      go_loop [5] (fun i => ∃ k : Nat, k ≤ L.length ∧ i = .int .i64 k ∧ Hid (allB letB (L.take k) = true)) (fun i => L.length - (intOf i).toNat)
      case atStart => exact ⟨0, Nat.zero_le _, rfl, rfl⟩
      case round =>
        obtain ⟨k, hk, rfl, hall⟩ := hrel
        by_cases hlt : k < L.length
        · have hidx : ∀ h, (⟨L.toArray⟩ : ByteArray)[k]'h = L[k] := fun _ => rfl
          cases hp : letB (L[k].toNat : Int)
          · go_wp2_with (go_at_call 64; refine (letter_any _ _).mono ?_; rintro e w' ⟨rfl, rfl⟩)
            go_ret
            exact ⟨ret_bool (by rw [fin.out, allL_false letB L k hlt hp]; simp), rfl⟩
          · go_wp2_with (go_at_call 64; refine (letter_any _ _).mono ?_; rintro e w' ⟨rfl, rfl⟩)
            refine ⟨⟨k + 1, by omega, by go_num, ?_⟩, by simp [intOf]; omega⟩
            show _ = _
            rw [allL_take letB L k hlt, hall.out, hp]; rfl
        · go_wp2
          go_ret
          have e := hall.out
          rw [List.take_of_length_le (by omega)] at e
          exact ⟨ret_bool (by rw [fin.out, e]; simp [h2]), rfl⟩
    · go_enter Tryz.func39, Tryz.ntmps39
      go_wp2
      go_ret
      exact ⟨ret_bool (by rw [fin.out]; simp [h2]), rfl⟩


theorem RSlots_any (p : Pt) (w : World) : Calls Tryz.prog 26 #[valPt p] w fun e w' => ∃ b, e = .returned (.slice (some ⟨b, 0, none⟩) 3 3) ∧ PatAt w' b p ∧ Below w.heap.size w w' := by
  have HB : PatAt ((w.alloc (.cells (encPt p).toArray 32)).alloc (.cells (encPt p).toArray 30)) (w.heap.size + 1) p := by
    have := patBox (w.alloc (.cells (encPt p).toArray 32)) p 30
    simpa using this
  unfold valPt
  go_enter Tryz.func26, Tryz.ntmps26
  go_wp2_with fail
  go_ret
  exact ⟨_, rfl, HB, bstep (balloc _ _) (balloc _ _)⟩
theorem RThree_any (t : Tr) (w : World) : Calls Tryz.prog 25 #[valTr t] w fun e w' => ∃ b, e = .returned (.slice (some ⟨b, 0, none⟩) 3 3) ∧ TripAt w' b t ∧ Below w.heap.size w w' := by
  have HB : TripAt ((w.alloc (.cells (encTr t).toArray 58)).alloc (.cells (encTr t).toArray 28)) (w.heap.size + 1) t := by
    have := tripBox (w.alloc (.cells (encTr t).toArray 58)) t 28
    simpa using this
  unfold valTr
  go_enter Tryz.func25, Tryz.ntmps25
  go_wp2_with fail
  go_ret
  exact ⟨_, rfl, HB, bstep (balloc _ _) (balloc _ _)⟩

theorem mem_false {l : List (List UInt8)} {x : List UInt8} (h : ∀ j (hj : j < l.length), ¬ l[j] = x) : decide (x ∈ l) = false := by
  rw [decide_eq_false_iff_not]
  intro hm
  obtain ⟨j, hj, e⟩ := List.getElem_of_mem hm
  exact h j hj e

set_option maxHeartbeats 1000000 in
theorem RHas_any (ad : Option Addr) (cap : Nat) (l : List (List UInt8)) (x : List UInt8) (w : World) (h : SlV w ad l) (hn : l.length ≤ 1000000) :
    Calls Tryz.prog 23 #[.slice ad l.length cap, .string ⟨x.toArray⟩] w fun e w' => e = .returned (.bool (decide (x ∈ l))) ∧ w' = w := by
  have Hl : Hid (SlV w ad l) := h
  clear h
  generalize hd : decide (x ∈ l) = d at *
  have Hd : Hid (decide (x ∈ l) = d) := hd
  clear hd
  go_enter Tryz.func23, Tryz.ntmps23
  go_wp2_with fail
  go_loop [5] (fun i => ∃ k : Nat, k ≤ l.length ∧ i = .int .i64 k ∧ Hid (∀ j (hj : j < l.length), j < k → ¬ l[j] = x)) (fun i => l.length - (intOf i).toNat)
  case atStart => exact ⟨0, Nat.zero_le _, rfl, fun j _ h => absurd h (by omega)⟩
  case round =>
    obtain ⟨k, hk, rfl, hno⟩ := hrel
    by_cases hlt : k < l.length
    · obtain ⟨b, rfl, hr⟩ := Hl.out (by intro e; rw [e] at hlt; simp at hlt)
      have c0 := hr k hlt
      unfold encV at c0
      have i0 : (0 : Int) ≤ (k : Int) := by omega
      have i1 : (k : Int) < (l.length : Int) := by omega
      clear hr
      by_cases he : l[k] = x
      · have hd2 : (l[k] == x) = true := by simpa using he
        have hdt : Hid (d = true) := by show d = true; rw [← Hd.out]; simp; exact he ▸ List.getElem_mem hlt
        clear he
        go_wp2
        go_ret
        exact ⟨ret_bool hdt.out.symm, rfl⟩
      · have hd2 : (l[k] == x) = false := by simpa using he
        have He : Hid (¬ l[k] = x) := he
        clear he
        go_wp2
        refine ⟨⟨k + 1, by omega, by go_num, fun j hj hjk => ?_⟩, by simp [intOf]; omega⟩
        by_cases e : j = k
        · subst e; exact He.out
        · exact hno.out j hj (by omega)
    · go_wp2
      go_ret
      exact ⟨ret_bool (by rw [← Hd.out, mem_false fun j hj => hno.out j hj (by omega)]), rfl⟩

theorem take_sameV {l m : List (List UInt8)} {k : Nat} (h : l.take k = m.take k) (hl : k < l.length) (hm : k < m.length) (e : l[k] = m[k]) : l.take (k + 1) = m.take (k + 1) := by
  rw [List.take_succ_eq_append_getElem hl, List.take_succ_eq_append_getElem hm, h, e]

end Go.Proofs.YtcdbcoaiadipjaaGreatDoor

/- Has and stratasame.Texts of lists of texts, wherever these begin. -/
namespace Go.Proofs.YtcdbcoaiadipjaaGreatDoor
open Go Go.RowKit Go.Proofs Go.Maps
set_option synthInstance.maxSize 1000

set_option maxHeartbeats 1000000 in
theorem WHas_any (ad : Option Addr) (cap : Nat) (l : List (List UInt8)) (x : List UInt8) (w : World) (h : SlW w ad l) (hn : l.length ≤ 9223372036854775807) :
    Calls Tryz.prog 23 #[.slice ad l.length cap, .string ⟨x.toArray⟩] w fun e w' => e = .returned (.bool (decide (x ∈ l))) ∧ w' = w := by
  have Hl : Hid (SlW w ad l) := h
  clear h
  generalize hd : decide (x ∈ l) = d at *
  have Hd : Hid (decide (x ∈ l) = d) := hd
  clear hd
  go_enter Tryz.func23, Tryz.ntmps23
  go_wp2_with fail
  go_loop [5] (fun i => ∃ k : Nat, k ≤ l.length ∧ i = .int .i64 k ∧ Hid (∀ j (hj : j < l.length), j < k → ¬ l[j] = x)) (fun i => l.length - (intOf i).toNat)
  case atStart => exact ⟨0, Nat.zero_le _, rfl, fun j _ h => absurd h (by omega)⟩
  case round =>
    obtain ⟨k, hk, rfl, hno⟩ := hrel
    by_cases hlt : k < l.length
    · obtain ⟨b, o, rfl, hr⟩ := Hl.out (by intro e; rw [e] at hlt; simp at hlt)
      have c0 := hr k hlt
      unfold encV at c0
      have i0 : (0 : Int) ≤ (k : Int) := by omega
      have i1 : (k : Int) < (l.length : Int) := by omega
      clear hr
      by_cases he : l[k] = x
      · have hd2 : (l[k] == x) = true := by simpa using he
        have hdt : Hid (d = true) := by show d = true; rw [← Hd.out]; simp; exact he ▸ List.getElem_mem hlt
        clear he
        go_wp2
        go_ret
        exact ⟨ret_bool hdt.out.symm, rfl⟩
      · have hd2 : (l[k] == x) = false := by simpa using he
        have He : Hid (¬ l[k] = x) := he
        clear he
        go_wp2
        refine ⟨⟨k + 1, by omega, by go_num, fun j hj hjk => ?_⟩, by simp [intOf]; omega⟩
        by_cases e : j = k
        · subst e; exact He.out
        · exact hno.out j hj (by omega)
    · go_wp2
      go_ret
      exact ⟨ret_bool (by rw [← Hd.out, mem_false fun j hj => hno.out j hj (by omega)]), rfl⟩

end Go.Proofs.YtcdbcoaiadipjaaGreatDoor

/- Rows of one's own that lie in blocks of their own. -/
namespace Go.Proofs.YtcdbcoaiadipjaaGreatDoor
open Go Go.RowKit Go.Proofs

theorem own_mono {W : World} {B C e s n : Nat} {v : Value} {xs : List Value} (h : W.ownsRow B e s v n xs) (hb : C ≤ B) : W.ownsRow C e s v n xs :=
  ⟨h.1, h.2.imp id fun ⟨g, cap, cur, e, hg, r⟩ => ⟨g, cap, cur, e, Nat.le_trans hb hg, r⟩⟩
/-- two rows of one's own lie in blocks of their own -/
def Far2 (v u : Value) : Prop := ∀ g, v.ownBlock = some g → u.ownBlock ≠ some g
theorem Far2.symm {v u : Value} (h : Far2 v u) : Far2 u v := fun g h1 h2 => h g h2 h1
theorem Far2.out {v u : Value} (h : Far2 v u) : u.ownBlock = none ∨ u.ownBlock ≠ v.ownBlock := by
  cases e : u.ownBlock with
  | none => exact .inl rfl
  | some g => exact .inr fun e' => h g e'.symm e
theorem far2_nil (u : Value) : Far2 (.slice none 0 0) u := fun g h => by cases h
theorem Far2.grow {v v' u : Value} {W : World} {B e s n : Nat} {ys : List Value} (h : Far2 v u) (hu : W.ownsRow B e s u n ys) (hv : v'.ownBlock = v.ownBlock ∨ v'.ownBlock = some W.heap.size) : Far2 v' u := fun g h1 h2 => by
  rcases hv with hv | hv
  · exact h g (hv ▸ h1) h2
  · rw [hv] at h1
    cases h1
    have := (hu.lt _ h2).2
    omega
end Go.Proofs.YtcdbcoaiadipjaaGreatDoor

/- The document's Vars: the walk. -/
namespace Go.Proofs.YtcdbcoaiadipjaaGreatDoor
open Go Go.RowKit Go.Proofs Go.Maps
set_option synthInstance.maxSize 1000

attribute [local go_sem ↓] eqlEmpty neqEmpty

set_option maxHeartbeats 8000000 in
set_option maxRecDepth 100000 in
theorem RVarsO_any (p : Pt) (w : World) (hp : fitPt p) :
    Calls Tryz.prog 14 #[valPt p] w fun e w' => Below w.heap.size w w' ∧ ∃ m ad cap, e = .returned (.tuple #[.slice ad m.length cap, .int .i64 (varsN p)]) ∧ w'.ownsRow w.heap.size 9 1 (.slice ad m.length cap) m.length (m.map encV) ∧ VarsAns p m := by
  have HS := RSlots_any p
  have Hp : Hid (fitPt p) := hp
  obtain ⟨i0, hi0, hz⟩ := Option.map_eq_some_iff.1 infoStrV
  simp only [Prod.mk.injEq] at hz
  obtain ⟨hz0, hz1, hz2⟩ := hz
  clear hp
  unfold valPt at HS ⊢
  have hA : Hid (∀ m, (m = if varsN p = 0 then varsL p else []) → VarsAns p m) := fun m h => h
  generalize VarsAns p = A at *
  generalize hvN : varsN p = N at *
  have HN : Hid (varsN p = N) := hvN
  clear hvN
  go_enter Tryz.func14, Tryz.ntmps14
  go_wp2_with fail
  refine (HS _).mono ?_
  rintro e w1 ⟨bs, rfl, hps, hb1⟩
  have hB1 := bstep (balloc _ _) hb1
  have Hps : Hid (PatAt w1 bs p) := hps
  clear hps hb1 HS
  go_wp2_with fail
  go_loopw [4, 6] (fun v i wr => ∃ k : Nat, k ≤ 3 ∧ i = .int .i64 k ∧ Hid (wr.ownsRow w1.heap.size 9 1 v (vK p k).length ((vK p k).map encV)) ∧ Hid (N = restN p k) ∧ Below w1.heap.size w1 wr) (fun _ i wr => 3 - (intOf i).toNat)
  case atStart => exact ⟨0, by omega, rfl, World.ownsRow_nil _ _ _ _, HN.out.symm.trans rfl, Below.refl _ _⟩
  case round =>
    obtain ⟨k, hk, rfl, hown, hrest, hbr⟩ := hrel
    by_cases hlt : k < 3
    · have hst : Hid _ := restN_step p k hlt
      have hvs : Hid _ := vK_step p k hlt
      have hvl : (vK p k).length ≤ 3 := Nat.le_trans (vK_len p k hk) hk
      have hfs : Hid (fitSl (slotK p k)) := fit_slotK Hp.out k
      have i1 : (k : Int) < 3 := by omega
      have i0' : (0 : Int) ≤ (k : Int) := by omega
      have hzr := hbr.size
      have hps := Hps.out.below hbr
      have hbs := hps.lt
      obtain ⟨c0, c1, c2, c3⟩ := hps.at k hlt
      clear hps
      generalize slotK p k = s at *
      obtain ⟨v, kk, S, L⟩ := s
      dsimp only at c0 c1 c2 c3
      have c4 : wr.cell? ⟨bs, k * 4 + 1 + 1, none⟩ = some (.string ⟨S.toArray⟩) := c2
      have c5 : wr.cell? ⟨bs, k * 4 + 1 + 2, none⟩ = some (.string ⟨L.toArray⟩) := c3
      have HT := fun W => RTerm_any kk S L W hfs.out.2.1 hfs.out.2.2
      have HL := fun W => LettersTen_any v W hfs.out.1
      cases hve : v.isEmpty
      rotate_left
      · obtain rfl : v = [] := by simpa using hve
        have hsn : Hid (slotN ([], kk, S, L) = checkN kk S L) := rfl
        have hv2 : Hid (vK p (k + 1) = vK p k) := hvs.out
        clear hve
        generalize checkN kk S L = c at *
        cases hc : (c != 0)
        · have hr2 : Hid (N = restN p (k + 1)) := by show _ = _; rw [hrest.out, hst.out, hsn.out, if_pos (by simpa using hc)]
          go_wp2_with fail
          refine (HT _).mono ?_
          rintro e w2 ⟨rfl, hb2⟩
          go_wp2_with fail
          go_roundw
          case rel =>
            refine ⟨k + 1, by omega, by go_num, ?_, hr2, bstep hbr hb2⟩
            show World.ownsRow _ _ _ _ _ _ _
            rw [hv2.out]
            exact ownsRow_belowV hown.out hb2
          case measure => simp [intOf]; omega
        · have hcn : ¬ c = 0 := by simpa using hc
          have hNN : N = c := by rw [hrest.out, hst.out, hsn.out, if_neg hcn]
          have HNN : Hid (N = c) := hNN
          have HCN : Hid (¬ c = 0) := hcn
          clear hNN hcn
          go_wp2_with fail
          refine (HT _).mono ?_
          rintro e w2 ⟨rfl, hb2⟩
          go_wp2_with fail
          exact bodyPost_ret (v := .tuple #[.slice none 0 0, .int .i64 c]) (by simp [results, Tryz.results14, go_sem]) rfl ⟨bstep hB1 (bstep hbr hb2), [], none, 0, by rw [HNN.out]; rfl, World.ownsRow_nil _ _ _ _, hA.out _ (by rw [HNN.out, if_neg HCN.out])⟩
      · have hvn : Hid (¬ v = []) := by show ¬ v = []; simpa using hve
        have hsn : Hid (slotN (v, kk, S, L) = if spellV v = false then 2 else if (kk, S, L) = tmZero then 0 else 3) := by
          show slotN _ = _
          unfold slotN
          rw [if_neg hvn.out]
        rw [ten_spell hvn.out] at HL
        have hvs2 : Hid (vK p (k + 1) = if v ∈ vK p k then vK p k else vK p k ++ [v]) := by
          show _ = _
          rw [hvs.out]
          exact if_neg hvn.out
        clear hvs
        generalize spellV v = sp at *
        cases sp
        · have HNN : Hid (N = 2) := by show _ = _; rw [hrest.out, hst.out, hsn.out]; simp
          go_wp2_with fail
          refine (HL _).mono ?_
          rintro e w2 ⟨rfl, rfl⟩
          go_wp2_with fail
          exact bodyPost_ret (v := .tuple #[.slice none 0 0, .int .i64 2]) (by simp [results, Tryz.results14, go_sem]) rfl ⟨bstep hB1 hbr, [], none, 0, by rw [HNN.out]; rfl, World.ownsRow_nil _ _ _ _, hA.out _ (by rw [HNN.out]; rfl)⟩
        · by_cases hz : (kk, S, L) = tmZero
          · obtain ⟨rfl, rfl, rfl⟩ : kk = 0 ∧ S = [] ∧ L = [] := by simpa [tmZero] using hz
            have hr2 : Hid (N = restN p (k + 1)) := by show _ = _; rw [hrest.out, hst.out, hsn.out]; simp [tmZero]
            clear hz hst hrest hsn
            obtain ⟨ad, cap, rfl, hsl0⟩ := own_v hown.out
            have hsl : Hid (SlV wr ad (vK p k)) := hsl0
            have HC := fun W h => RHas_any ad cap (vK p k) v W h (by omega)
            clear hsl0
            generalize ht : vK p (k + 1) = t1 at *
            have Ht : Hid _ := ht
            generalize vK p k = t0 at *
            clear ht
            cases hd : decide (v ∈ t0)
            · have hv2 : Hid (t1 = t0 ++ [v]) := by show _ = _; rw [hvs2.out, if_neg (by simpa using hd)]
              rw [hd] at HC
              go_wp2_with fail
              refine (HL _).mono ?_
              rintro e w2 ⟨rfl, rfl⟩
              go_wp2_with fail
              refine (HC _ (hsl.out.below (balloc _ _))).mono ?_
              rintro e w4 ⟨rfl, hw4⟩
              subst hw4
              go_wp2_with (at_builtin; refine wpList_append_own _ rfl _ _ 23 rfl w1.heap.size 9 i0 (.string ByteArray.empty) 1 16 Tryz.underlying23 hi0 hz0 hz1 hz2 rfl (by decide) _ _ _ rfl ((hown.out.alloc _).alloc _) ⟨w2.heap.size + 1, 0, none⟩ 1 1 [encV v] rfl rfl ?c1 ?c2 ?c3 ?c4 ?c5 ?_)
              case c1 =>
                intro j u hj
                have h1 : j < 1 := (List.getElem?_eq_some_iff.1 hj).1
                obtain rfl : j = 0 := by omega
                simp [encV] at hj
                subst hj
                rw [Addr.add_lit]
                go_simp
              case c2 => intro u hu; rw [List.mem_singleton.1 hu]; rfl
              case c3 => unfold maxLen; omega
              case c4 => omega
              case c5 => simp; omega
              intro v' w9 hown' hgrow _
              have hbel := ((hbr.alloc hzr (.cells #[.int .i64 0, .string ⟨#[]⟩, .string ⟨#[]⟩] 28)).alloc (by simp; omega) (.cells #[encV v] 9)).grown hgrow (by simp; omega) (fun k hk => (hown.out.lt k hk).1)
              go_wp2_with fail
              go_roundw
              case rel =>
                refine ⟨k + 1, by omega, by go_num, ?_, hr2, hbel⟩
                show World.ownsRow _ _ _ _ _ _ _
                rw [Ht.out, hv2.out, List.length_append, List.map_append]
                exact hown'
              case measure => simp [intOf]; omega
            · have hv2 : Hid (t1 = t0) := by show _ = _; rw [hvs2.out, if_pos (by simpa using hd)]
              rw [hd] at HC
              go_wp2_with fail
              refine (HL _).mono ?_
              rintro e w2 ⟨rfl, rfl⟩
              go_wp2_with fail
              refine (HC _ (hsl.out.below (balloc _ _))).mono ?_
              rintro e w4 ⟨rfl, hw4⟩
              subst hw4
              go_wp2_with fail
              go_roundw
              case rel =>
                refine ⟨k + 1, by omega, by go_num, ?_, hr2, bstep hbr (balloc _ _)⟩
                show World.ownsRow _ _ _ _ _ _ _
                rw [Ht.out, hv2.out]
                exact hown.out.alloc _
              case measure => simp [intOf]; omega
          · have HNN : Hid (N = 3) := by show _ = _; rw [hrest.out, hst.out, hsn.out]; simp [hz]
            have hcs : (kk == 0 && (S.isEmpty && L.isEmpty)) = false := by
              cases h : (kk == 0 && (S.isEmpty && L.isEmpty))
              · rfl
              · exact absurd (by simp at h; obtain ⟨rfl, rfl, rfl⟩ := h; rfl) hz
            clear hz hst hrest hsn
            cases h1 : (kk != 0)
            · have h1' : (kk == 0) = true := by simpa using h1
              cases h2 : S.isEmpty
              · go_wp2_with fail
                refine (HL _).mono ?_
                rintro e w2 ⟨rfl, rfl⟩
                go_wp2_with fail
                exact bodyPost_ret (v := .tuple #[.slice none 0 0, .int .i64 3]) (by simp [results, Tryz.results14, go_sem]) rfl ⟨bstep hB1 (bstep hbr (balloc _ _)), [], none, 0, by rw [HNN.out]; rfl, World.ownsRow_nil _ _ _ _, hA.out _ (by rw [HNN.out]; rfl)⟩
              · have h3 : L.isEmpty = false := by rw [h1', h2] at hcs; simpa using hcs
                go_wp2_with fail
                refine (HL _).mono ?_
                rintro e w2 ⟨rfl, rfl⟩
                go_wp2_with fail
                exact bodyPost_ret (v := .tuple #[.slice none 0 0, .int .i64 3]) (by simp [results, Tryz.results14, go_sem]) rfl ⟨bstep hB1 (bstep hbr (balloc _ _)), [], none, 0, by rw [HNN.out]; rfl, World.ownsRow_nil _ _ _ _, hA.out _ (by rw [HNN.out]; rfl)⟩
            · go_wp2_with fail
              refine (HL _).mono ?_
              rintro e w2 ⟨rfl, rfl⟩
              go_wp2_with fail
              exact bodyPost_ret (v := .tuple #[.slice none 0 0, .int .i64 3]) (by simp [results, Tryz.results14, go_sem]) rfl ⟨bstep hB1 (bstep hbr (balloc _ _)), [], none, 0, by rw [HNN.out]; rfl, World.ownsRow_nil _ _ _ _, hA.out _ (by rw [HNN.out]; rfl)⟩
    · obtain rfl : k = 3 := by omega
      have hbase := hB1.size
      obtain ⟨ad, cap, rfl, _⟩ := own_v hown.out
      have hsl := own_mono hown.out hbase
      have H0 : Hid (N = 0) := hrest.out
      have hvw : vK p 3 = varsL p := rfl
      rw [hvw] at hsl
      have Hsl : Hid _ := hsl
      rw [hvw]
      clear hown hrest hvw hsl
      go_wp2_with fail
      exact bodyPost_ret (v := .tuple #[.slice ad (varsL p).length cap, .int .i64 0]) (by simp [results, Tryz.results14, go_sem]) rfl ⟨bstep hB1 hbr, _, ad, cap, by rw [H0.out], Hsl.out, hA.out _ (by rw [H0.out]; rfl)⟩
theorem RVars_any (p : Pt) (w : World) (hp : fitPt p) :
    Calls Tryz.prog 14 #[valPt p] w fun e w' => Below w.heap.size w w' ∧ ∃ m ad cap, e = .returned (.tuple #[.slice ad m.length cap, .int .i64 (varsN p)]) ∧ SlV w' ad m ∧ VarsAns p m := by
  refine (RVarsO_any p w hp).mono ?_
  rintro e w' ⟨hb, m, ad, cap, rfl, ho, ha⟩
  obtain ⟨ad', cap', e', hs⟩ := own_v ho
  cases e'
  exact ⟨hb, m, ad, cap, rfl, hs, ha⟩
end Go.Proofs.YtcdbcoaiadipjaaGreatDoor

/- The document's Vars of a question (package strataref3). -/
namespace Go.Proofs.YtcdbcoaiadipjaaGreatDoor
open Go Go.RowKit Go.Proofs Go.Maps
set_option synthInstance.maxSize 1000

theorem addAll_step (o l : List (List UInt8)) (k : Nat) (h : k < l.length) : addAll o (l.take (k + 1)) = if l[k] ∈ addAll o (l.take k) then addAll o (l.take k) else addAll o (l.take k) ++ [l[k]] := by
  induction l generalizing o k with
  | nil => simp at h
  | cons x r ih =>
    cases k with
    | zero => simp [addAll]
    | succ k =>
      have h' : k < r.length := by simpa using h
      simp only [List.take_succ_cons, addAll, List.getElem_cons_succ]
      exact ih _ k h'
theorem addAll_len (o l : List (List UInt8)) : (addAll o l).length ≤ o.length + l.length := by
  induction l generalizing o with
  | nil => simp [addAll]
  | cons x r ih =>
    have := ih (if x ∈ o then o else o ++ [x])
    unfold addAll
    split at this
    · rename_i hx; rw [if_pos hx]; simp; omega
    · rename_i hx; rw [if_neg hx]; simp at this ⊢; omega
theorem varsL_len (p : Pt) : (varsL p).length ≤ 3 := by
  have q : ∀ l s, (addV l s).length ≤ l.length + 1 := fun l s => by
    unfold addV
    split
    · omega
    · split
      · omega
      · simp
  have h1 := q [] p.1
  have h2 := q (addV [] p.1) p.2.1
  have h3 := q (addV (addV [] p.1) p.2.1) p.2.2
  unfold varsL
  simp at h1
  omega

/-- an append of a text to a row of one's own: just that row turns -/
theorem wpList_append_text {ops : Array Oper} {rest : List Oper} {o : Oper} {a : Act} {Q : Exit → Act → World → Prop} (w : World) (hgd : o.guard = none) (s x : Operand)
    (ho : o.op = .call { callee := .builtin .append, args := #[s, x], argTypes := #[23, 23] })
    (base B : Nat) (v : Value) (t : List (List UInt8)) (y : List UInt8) (hs : a.eval s = v) (hx : a.eval x = .slice (some ⟨B, 0, none⟩) 1 1) (hown : w.ownsRow base 9 1 v t.length (t.map encV))
    (hy : w.cell? ⟨B, 0, none⟩ = some (.string ⟨y.toArray⟩)) (h63 : t.length ≤ 1000000000000) (hbase : base ≤ w.heap.size)
    (h : ∀ v' w', w'.ownsRow base 9 1 v' (t ++ [y]).length ((t ++ [y]).map encV) → w.grownBy w' v.ownBlock → (v'.ownBlock = v.ownBlock ∨ v'.ownBlock = some w.heap.size) → wpList Tryz.prog ops Q rest (a.put o.dst v') w') : wpList Tryz.prog ops Q (o :: rest) a w := by
  obtain ⟨i0, hi, hz⟩ := Option.map_eq_some_iff.1 infoStrV
  simp only [Prod.mk.injEq] at hz
  obtain ⟨hz0, hz1, hz2⟩ := hz
  refine wpList_append_own_at _ hgd s x _ ho base 9 i0 (.string ByteArray.empty) 1 16 Tryz.underlying23 hi hz0 hz1 hz2 rfl (by decide) v t.length (t.map encV) hs hown ⟨B, 0, none⟩ 1 1 [encV y] hx rfl ?_ (by simp [encV, Value.oneCell']) (by unfold maxLen; omega) (by omega) hbase ?_
  · intro j u hj
    have h1 : j < 1 := (List.getElem?_eq_some_iff.1 hj).1
    obtain rfl : j = 0 := by omega
    simp at hj
    subst hj
    rw [Addr.add_lit]
    exact hy
  · intro v' w' h2 h3 _ h5
    refine h v' w' ?_ h3 h5
    simpa using h2

set_option maxHeartbeats 16000000 in
set_option maxRecDepth 100000 in
theorem QVars_any (q : Qu) (vd pd : Option Addr) (vc pc : Nat) (w : World) (h : QuIn w q vd pd) (h6 : q.parts.length ≤ 6) (hf : ∀ p ∈ q.parts, fitPt p) :
    Calls Tryz.prog 22 #[valQ q vd vc pd pc] w fun e w' => RowKit.Below w.heap.size w w' ∧ ∃ m ad cap, e = .returned (.tuple #[.slice ad m.length cap, .int .i64 (partsN q.parts)]) ∧ SlV w' ad m ∧ m = if partsN q.parts = 0 then partsV [] q.parts else [] := by
  have Hp := hideQ h.parts
  have Hf := hideQ hf
  have hN := hideQ (rfl : partsN q.parts = partsN q.parts)
  obtain ⟨A, hA⟩ : ∃ A : List (List UInt8) → Prop, A = fun m => m = if partsN q.parts = 0 then partsV [] q.parts else [] := ⟨_, rfl⟩
  have HA : Hid (∀ m, (m = if partsN q.parts = 0 then partsV [] q.parts else []) → A m) := fun m h => by rw [hA]; exact h
  suffices hs : Calls Tryz.prog 22 #[valQ q vd vc pd pc] w fun e w' => RowKit.Below w.heap.size w w' ∧ ∃ m ad cap, e = .returned (.tuple #[.slice ad m.length cap, .int .i64 (partsN q.parts)]) ∧ SlV w' ad m ∧ A m by rw [hA] at hs; exact hs
  clear hA h hf hN
  unfold valQ
  have hPV : Hid (∀ X, X = partsV [] q.parts → X = partsV [] q.parts) := fun _ h => h
  clear hPV
  generalize hPN : partsN q.parts = N at *
  have HPN := hideQ hPN
  generalize hPV : partsV [] q.parts = V at *
  have HPV := hideQ hPV
  clear hPN hPV
  generalize q.parts = L at *
  generalize q.vars.length = nv at *
  go_enter Tryz.func22, Tryz.ntmps22
  go_wp2_with fail
  obtain ⟨w1, hw1⟩ : ∃ w1, w1 = w.alloc (.cells #[.slice vd nv vc, .slice pd L.length pc, .string ⟨q.order.toArray⟩, .bool q.down, .bool q.dist, .int .i64 q.lim] 26) := ⟨_, rfl⟩
  have hb1 : RowKit.Below w.heap.size w w1 := by rw [hw1]; exact balloc _ _
  have hbox : w1.cell? ⟨w.heap.size, 1, none⟩ = some (.slice pd L.length pc) := by rw [hw1]; go_simp
  have hlt0 : w.heap.size < w1.heap.size := by rw [hw1]; simp
  rw [← hw1]
  have Hp1 := hideQ (Hp.out.below hb1)
  clear hw1 Hp
  go_loopw [4, 5] (fun v i wr => ∃ (k : Nat) (o : List (List UInt8)), k ≤ L.length ∧ i = .int .i64 k ∧ o.length ≤ 3 * k ∧ Hid (wr.ownsRow w1.heap.size 9 1 v o.length (o.map encV)) ∧ Hid (N = partsN (L.drop k)) ∧ Hid (V = partsV o (L.drop k)) ∧ RowKit.Below w1.heap.size w1 wr) (fun _ i wr => L.length - (intOf i).toNat)
  case atStart => exact ⟨0, [], Nat.zero_le _, rfl, by simp, World.ownsRow_nil _ _ _ _, HPN.out.symm, HPV.out.symm, RowKit.Below.refl _ _⟩
  case round =>
    obtain ⟨k, o, hk, rfl, hol, hown, hN, hV, hbr⟩ := hrel
    have hc1 : wr.cell? ⟨w.heap.size, 1, none⟩ = some (.slice pd L.length pc) := (hbr.cell hlt0).trans hbox
    by_cases hlt : k < L.length
    · obtain ⟨b, off, rfl, hrow⟩ := (Hp1.out.below hbr).at k hlt
      have hat := hrow.at k hlt
      have e0 := hat 0 _ rfl
      have e1 := hat 1 _ rfl
      have e2 := hat 2 _ rfl
      have e3 := hat 3 _ rfl
      have e4 := hat 4 _ rfl
      have e5 := hat 5 _ rfl
      have e6 := hat 6 _ rfl
      have e7 := hat 7 _ rfl
      have e8 := hat 8 _ rfl
      have e9 := hat 9 _ rfl
      have e10 := hat 10 _ rfl
      have e11 := hat 11 _ rfl
      rw [Nat.add_zero] at e0
      have i0 : (0 : Int) ≤ (k : Int) := by omega
      have i1 : (k : Int) < (L.length : Int) := by omega
      have hfp := Hf.out _ (List.getElem_mem hlt)
      have HR := fun W => RVarsO_any L[k] W hfp
      have hd : L.drop k = L[k] :: L.drop (k + 1) := List.drop_eq_getElem_cons hlt
      rw [hd] at hN hV
      have hml := varsL_len L[k]
      clear hat hrow hd hfp
      generalize L[k] = p at *
      generalize hD : L.drop (k + 1) = D at *
      have HD := hideQ hD
      clear hD
      unfold valPt at HR
      have hzr := hbr.size
      go_wp2_with fail
      refine (HR _).mono ?_
      rintro e w2 ⟨hb2, m, md, mc, rfl, hm, hmA⟩
      have hB2 := bstep hbr hb2
      have hown2 := hideQ (ownsRow_belowV hown.out hb2)
      have Hm := hideQ (own_mono hm hzr)
      have hfar : Hid (Far2 _ (.slice md m.length mc)) := fun g h1 h2 => by
        have q1 := (hown.out.lt g h1).2
        have q2 := (hm.lt g h2).1
        omega
      have hmA' : m = if varsN p = 0 then varsL p else [] := hmA
      clear HR hown hm hmA e0 e1 e2 e3 e4 e5 e6 e7 e8 e9 e10 e11 hc1
      by_cases hv : varsN p = 0
      · rw [if_pos hv] at hmA'
        subst hmA'
        have hN2 : Hid (N = partsN D) := by have := hN.out; unfold partsN at this; rw [if_pos hv] at this; exact this
        have hV2 : Hid (V = partsV (addAll o (varsL p)) D) := hV.out
        rw [hv]
        clear hN hV hv
        generalize varsL p = m at *
        go_wp2_with fail
        go_loopw [4, 8] (fun v i wi => ∃ j : Nat, j ≤ m.length ∧ i = .int .i64 j ∧ Hid (wi.ownsRow w1.heap.size 9 1 v (addAll o (m.take j)).length ((addAll o (m.take j)).map encV)) ∧ Hid (wi.ownsRow w1.heap.size 9 1 (.slice md m.length mc) m.length (m.map encV)) ∧ Hid (Far2 v (.slice md m.length mc)) ∧ RowKit.Below w1.heap.size w1 wi) (fun _ i wi => m.length - (intOf i).toNat)
        case atStart => exact ⟨0, Nat.zero_le _, rfl, hown2.out, Hm.out, hfar.out, hB2⟩
        case round =>
          obtain ⟨j, hj, rfl, hown3, Hm3, hfar3, hbi⟩ := hrel
          by_cases hjl : j < m.length
          · obtain ⟨md', mc', em, hmV⟩ := own_v Hm3.out
            obtain ⟨rfl, _, rfl⟩ : md = md' ∧ m.length = m.length ∧ mc = mc' := by simpa using em
            obtain ⟨mb, rfl, hmr⟩ := hmV (by intro e; rw [e] at hjl; simp at hjl)
            have c0 := hmr j hjl
            unfold encV at c0
            have j0 : (0 : Int) ≤ (j : Int) := by omega
            have j1 : (j : Int) < (m.length : Int) := by omega
            have hst := hideQ (addAll_step o m j hjl)
            have hle : (addAll o (m.take j)).length ≤ 1000 := by
              have := addAll_len o (m.take j)
              rw [List.length_take] at this
              omega
            obtain ⟨ad, cap, rfl, hsl⟩ := own_v hown3.out
            have HC := RHas_any ad cap (addAll o (m.take j)) m[j] wr hsl (by omega)
            have hzi := hbi.size
            clear hmr hsl em hmV
            generalize ht : addAll o (m.take (j + 1)) = t1 at hst
            have Ht := hideQ ht
            generalize addAll o (m.take j) = t0 at *
            generalize m[j] = y at *
            clear ht
            cases hd : decide (y ∈ t0)
            · rw [hd] at HC
              have e1 : Hid (t1 = t0 ++ [y]) := by have := hst.out; rw [if_neg (by simpa using hd)] at this; exact this
              clear hst hd
              go_wp2_with fail
              refine HC.mono ?_
              rintro e w3 ⟨rfl, hw3⟩
              subst hw3
              go_wp2_with (at_builtin; refine wpList_append_text _ rfl _ _ rfl w1.heap.size w3.heap.size _ t0 y rfl rfl (hown3.out.alloc _) (by go_simp) (by omega) (by simp; omega) ?_; intro v' w4 hv4 hg4 hat4)
              have hal : RowKit.Below w3.heap.size w3 (w3.alloc (.cells #[.string ⟨y.toArray⟩] 9)) := balloc _ _
              have hbel : RowKit.Below w1.heap.size w1 w4 := (bstep hbi hal).grown hg4 (by simp; omega) (fun g hg => (hown3.out.lt g hg).1)
              have hm4 := hideQ ((ownsRow_belowV Hm3.out hal).kept hg4 hfar3.out.out)
              have hfar4 := hideQ (hfar3.out.grow (ownsRow_belowV Hm3.out hal) hat4)
              have hv5 := hideQ hv4
              clear hv4 hg4 hat4 c0 HC
              go_wp2_with fail
              go_roundw
              case rel =>
                refine ⟨j + 1, by omega, by go_num, ?_, hm4, hfar4, hbel⟩
                show World.ownsRow _ _ _ _ _ _ _
                rw [Ht.out, e1.out]
                exact hv5.out
              case measure => simp [intOf]; omega
            · rw [hd] at HC
              have e1 : Hid (t1 = t0) := by have := hst.out; rw [if_pos (by simpa using hd)] at this; exact this
              clear hst hd
              go_wp2_with fail
              refine HC.mono ?_
              rintro e w3 ⟨rfl, hw3⟩
              subst hw3
              clear HC c0
              go_wp2_with fail
              go_roundw
              case rel =>
                refine ⟨j + 1, by omega, by go_num, ?_, Hm3, hfar3, hbi⟩
                show World.ownsRow _ _ _ _ _ _ _
                rw [Ht.out, e1.out]
                exact hown3.out
              case measure => simp [intOf]; omega
          · obtain rfl : j = m.length := by omega
            have ho4 := hown3.out
            rw [List.take_length] at ho4
            have Ho4 := hideQ ho4
            have hle := addAll_len o m
            clear ho4 hown3
            go_wp2_with fail
            go_roundw
            case rel =>
              refine ⟨k + 1, addAll o m, by omega, by go_num, by omega, Ho4, ?_, ?_, hbi⟩
              · show _ = _
                rw [HD.out]; exact hN2.out
              · show _ = _
                rw [HD.out]; exact hV2.out
            case measure => simp [intOf]; omega
      · have hN2 : Hid (N = varsN p) := by have := hN.out; unfold partsN at this; rw [if_neg hv] at this; exact this
        rw [if_neg hv] at hmA'
        subst hmA'
        have hne : (varsN p != 0) = true := by simpa using hv
        have Hv := hideQ hv
        generalize varsN p = c at *
        clear hN hV hv Hm hown2
        go_wp2_with fail
        exact bodyPost_ret (v := .tuple #[.slice none 0 0, .int .i64 c]) (by simp [results, Tryz.results22, go_sem]) rfl ⟨bstep hb1 hB2, [], none, 0, by rw [hN2.out]; rfl, fun h => absurd rfl h, HA.out _ (by rw [hN2.out, if_neg Hv.out])⟩
    · obtain rfl : k = L.length := by omega
      have hN2 : Hid (N = 0) := by have := hN.out; rw [List.drop_length] at this; exact this
      have hV2 : Hid (V = o) := by have := hV.out; rw [List.drop_length] at this; exact this
      obtain ⟨ad, cap, rfl, hsl⟩ := own_v hown.out
      have Hsl := hideQ hsl
      clear hsl hown hN hV
      go_wp2_with fail
      exact bodyPost_ret (v := .tuple #[.slice ad o.length cap, .int .i64 0]) (by simp [results, Tryz.results22, go_sem]) rfl ⟨bstep hb1 hbr, o, ad, cap, by rw [hN2.out], Hsl.out, HA.out _ (by rw [hN2.out, if_pos rfl, hV2.out])⟩
end Go.Proofs.YtcdbcoaiadipjaaGreatDoor

/- ask.varsOf: the variables of all parts, or what is wrong with them; slices.Contains at texts. -/
namespace Go.Proofs.YtcdbcoaiadipjaaGreatDoor
open Go Go.RowKit Go.Proofs Go.Maps
set_option synthInstance.maxSize 1000

attribute [local go_sem] eql_errV neq_errV guard_errV

theorem ContainsW_any (ad : Option Addr) (cap : Nat) (l : List (List UInt8)) (x : List UInt8) (w : World) (h : SlW w ad l) (hn : l.length ≤ 9223372036854775807) :
    Calls Tryz.prog 42 #[.slice ad l.length cap, .string ⟨x.toArray⟩] w fun e w' => e = .returned (.bool (decide (x ∈ l))) ∧ w' = w := by
  cases hl : l with
  | nil =>
    simpa using Tryz.slices_Contains_string_empty ad cap ⟨x.toArray⟩ w
  | cons c r =>
    rw [← hl]
    obtain ⟨b, o, rfl, hr⟩ := h (by rw [hl]; simp)
    refine (Tryz.slices_Contains_string b o l.length cap (l.map fun v => ⟨v.toArray⟩) ⟨x.toArray⟩ w (by simp) (by omega) ?_).mono ?_
    · intro j hj
      have hj' : j < l.length := by simpa using hj
      rw [hr j hj']
      simp [encV, List.getD_eq_getElem?_getD, List.getElem?_eq_getElem hj']
    · rintro e w' ⟨rfl, rfl⟩
      refine ⟨ret_bool ?_, rfl⟩
      rw [show l.length = (l.map fun v => (⟨v.toArray⟩ : ByteArray)).length by simp, List.take_length, Bool.eq_iff_iff, Lib.containsS_iff]
      simp only [List.mem_map, decide_eq_true_eq]
      constructor
      · rintro ⟨v, hv, e⟩
        have := congrArg (fun s : ByteArray => s.data.toList) e
        simp at this
        exact this ▸ hv
      · intro hx
        exact ⟨x, hx, rfl⟩
/-- what varsOf tells of parts -/
def vofN (L : List Pt) : Int := if 6 < L.length then 4 else if L = [] then 5 else if partsN L ≠ 0 then partsN L else if 8 < (partsV [] L).length then 4 else 0
def VofAns (L : List Pt) (w : World) (e : Ending) (w' : World) : Prop := ∃ m ad cap, e = .returned (.tuple #[.slice ad m.length cap, errV (vofN L)]) ∧ SlW w' ad m ∧ m.length ≤ 100 ∧ (vofN L = 0 → m = partsV [] L) ∧ RowKit.Below w.heap.size w w'
theorem vof_nil {L : List Pt} {w w' : World} {n : Int} (h : vofN L = n) (hn : n ≠ 0) (hb : RowKit.Below w.heap.size w w') : VofAns L w (.returned (.tuple #[.slice none 0 0, errV n])) w' :=
  ⟨[], none, 0, by rw [h]; rfl, slW_nil _ _, by simp, fun h0 => absurd (h.symm.trans h0) hn, hb⟩

set_option maxHeartbeats 16000000 in
set_option maxRecDepth 100000 in
theorem VarsOf_any (L : List Pt) (pd : Option Addr) (pc : Nat) (w : World) (h : SlPt w pd L) (hf : ∀ p ∈ L, fitPt p) (hl : L.length ≤ 9223372036854775807) :
    Calls Tryz.prog 76 #[.slice pd L.length pc] w (VofAns L w) := by
  obtain ⟨Q, hQ⟩ : ∃ Q, Q = VofAns L w := ⟨_, rfl⟩
  have HQ : Hid (∀ e w', VofAns L w e w' → Q e w') := fun e w' h => by rw [hQ]; exact h
  rw [← hQ]
  clear hQ
  by_cases h6 : 6 < L.length
  · have d1 : decide ((L.length : Int) > 6) = true := by simp; omega
    have fin := hideQ (show vofN L = 4 by unfold vofN; rw [if_pos h6])
    go_enter Tryz.func76, Tryz.ntmps76
    go_wp2_with fail
    exact HQ.out _ _ (vof_nil fin.out (by decide) (RowKit.Below.refl _ _))
  · have d1 : decide ((L.length : Int) > 6) = false := by simp; omega
    by_cases h0 : L = []
    · have d2 : ((L.length : Int) == 0) = true := by simp [h0]
      have fin := hideQ (show vofN L = 5 by unfold vofN; rw [if_neg h6, if_pos h0])
      clear h0
      go_enter Tryz.func76, Tryz.ntmps76
      go_wp2_with fail
      exact HQ.out _ _ (vof_nil fin.out (by decide) (RowKit.Below.refl _ _))
    · have d2 : ((L.length : Int) == 0) = false := by simp; exact h0
      have f1 := hideQ (fun h => show vofN L = partsN L by unfold vofN; rw [if_neg h6, if_neg h0, if_pos h])
      have f2 := hideQ (fun h h' => show vofN L = 4 by unfold vofN; rw [if_neg h6, if_neg h0, if_neg (fun k => k h), if_pos h'])
      have f3 := hideQ (fun h h' => show vofN L = 0 by unfold vofN; rw [if_neg h6, if_neg h0, if_neg (fun k => k h), if_neg h'])
      have Hp := hideQ h
      have Hf := hideQ hf
      clear h hf h0
      generalize hPN : partsN L = N at *
      have HPN := hideQ hPN
      generalize hPV : partsV [] L = V at *
      have HPV := hideQ hPV
      clear hPN hPV
      go_enter Tryz.func76, Tryz.ntmps76
      go_wp2_with fail
      go_loopw [4, 23] (fun v i wr => ∃ (k : Nat) (o : List (List UInt8)), k ≤ L.length ∧ i = .int .i64 k ∧ o.length ≤ 3 * k ∧ Hid (wr.ownsRow w.heap.size 9 1 v o.length (o.map encV)) ∧ Hid (N = partsN (L.drop k)) ∧ Hid (V = partsV o (L.drop k)) ∧ RowKit.Below w.heap.size w wr) (fun _ i wr => L.length - (intOf i).toNat)
      case atStart => exact ⟨0, [], Nat.zero_le _, rfl, by simp, World.ownsRow_nil _ _ _ _, HPN.out.symm, HPV.out.symm, RowKit.Below.refl _ _⟩
      case round =>
        obtain ⟨k, o, hk, rfl, hol, hown, hN, hV, hbr⟩ := hrel
        by_cases hlt : k < L.length
        · obtain ⟨b, off, rfl, hrow⟩ := (Hp.out.below hbr).at k hlt
          have hat := hrow.at k hlt
          have e0 := hat 0 _ rfl
          have e1 := hat 1 _ rfl
          have e2 := hat 2 _ rfl
          have e3 := hat 3 _ rfl
          have e4 := hat 4 _ rfl
          have e5 := hat 5 _ rfl
          have e6 := hat 6 _ rfl
          have e7 := hat 7 _ rfl
          have e8 := hat 8 _ rfl
          have e9 := hat 9 _ rfl
          have e10 := hat 10 _ rfl
          have e11 := hat 11 _ rfl
          rw [Nat.add_zero] at e0
          have i0 : (0 : Int) ≤ (k : Int) := by omega
          have i1 : (k : Int) < (L.length : Int) := by omega
          have hfp := Hf.out _ (List.getElem_mem hlt)
          have HR := fun W => VarsO_any L[k] W hfp
          have hd : L.drop k = L[k] :: L.drop (k + 1) := List.drop_eq_getElem_cons hlt
          rw [hd] at hN hV
          have hml := varsL_len L[k]
          clear hat hrow hd hfp
          generalize L[k] = p at *
          generalize hD : L.drop (k + 1) = D at *
          have HD := hideQ hD
          clear hD
          unfold valPt at HR
          have hzr := hbr.size
          go_wp2_with fail
          refine (HR _).mono ?_
          rintro e w2 ⟨hb2, m, md, mc, rfl, hm, hmA⟩
          dsimp only
          have hal : RowKit.Below wr.heap.size wr (wr.alloc (.cells #[.string ⟨p.1.1.toArray⟩, .int .i64 p.1.2.1, .string ⟨p.1.2.2.1.toArray⟩, .string ⟨p.1.2.2.2.toArray⟩, .string ⟨p.2.1.1.toArray⟩, .int .i64 p.2.1.2.1, .string ⟨p.2.1.2.2.1.toArray⟩, .string ⟨p.2.1.2.2.2.toArray⟩, .string ⟨p.2.2.1.toArray⟩, .int .i64 p.2.2.2.1, .string ⟨p.2.2.2.2.1.toArray⟩, .string ⟨p.2.2.2.2.2.toArray⟩] 32)) := balloc _ _
          have hB2 := bstep hbr (bstep hal hb2)
          have hown2 := hideQ (ownsRow_belowV hown.out (bstep hal hb2))
          have Hm := hideQ (own_mono hm (Nat.le_trans hzr hal.size))
          have hfar : Hid (Far2 _ (.slice md m.length mc)) := fun g h1 h2 => by
            have q1 := (hown.out.lt g h1).2
            have q2 := (hm.lt g h2).1
            have q3 := hal.size
            omega
          have hmA' : m = if varsN p = 0 then varsL p else [] := hmA
          clear HR hown hm hmA e0 e1 e2 e3 e4 e5 e6 e7 e8 e9 e10 e11 hal
          by_cases hv : varsN p = 0
          · rw [if_pos hv] at hmA'
            subst hmA'
            have hN2 : Hid (N = partsN D) := by have := hN.out; unfold partsN at this; rw [if_pos hv] at this; exact this
            have hV2 : Hid (V = partsV (addAll o (varsL p)) D) := hV.out
            rw [hv]
            clear hN hV hv
            generalize varsL p = m at *
            go_wp2_with fail
            go_loopw [4, 37] (fun v i wi => ∃ j : Nat, j ≤ m.length ∧ i = .int .i64 j ∧ Hid (wi.ownsRow w.heap.size 9 1 v (addAll o (m.take j)).length ((addAll o (m.take j)).map encV)) ∧ Hid (wi.ownsRow w.heap.size 9 1 (.slice md m.length mc) m.length (m.map encV)) ∧ Hid (Far2 v (.slice md m.length mc)) ∧ RowKit.Below w.heap.size w wi) (fun _ i wi => m.length - (intOf i).toNat)
            case atStart => exact ⟨0, Nat.zero_le _, rfl, hown2.out, Hm.out, hfar.out, hB2⟩
            case round =>
              obtain ⟨j, hj, rfl, hown3, Hm3, hfar3, hbi⟩ := hrel
              by_cases hjl : j < m.length
              · obtain ⟨md', mc', em, hmV⟩ := own_v Hm3.out
                obtain ⟨rfl, _, rfl⟩ : md = md' ∧ m.length = m.length ∧ mc = mc' := by simpa using em
                obtain ⟨mb, rfl, hmr⟩ := hmV (by intro e; rw [e] at hjl; simp at hjl)
                have c0 := hmr j hjl
                unfold encV at c0
                have j0 : (0 : Int) ≤ (j : Int) := by omega
                have j1 : (j : Int) < (m.length : Int) := by omega
                have hst := hideQ (addAll_step o m j hjl)
                have hle : (addAll o (m.take j)).length ≤ 1000 := by
                  have := addAll_len o (m.take j)
                  rw [List.length_take] at this
                  omega
                obtain ⟨ad, cap, rfl, hsl⟩ := own_v hown3.out
                have HC := ContainsW_any ad cap (addAll o (m.take j)) m[j] wr hsl.w (by omega)
                have hzi := hbi.size
                clear hmr hsl em hmV
                generalize ht : addAll o (m.take (j + 1)) = t1 at hst
                have Ht := hideQ ht
                generalize addAll o (m.take j) = t0 at *
                generalize m[j] = y at *
                clear ht
                cases hd : decide (y ∈ t0)
                · rw [hd] at HC
                  have e1 : Hid (t1 = t0 ++ [y]) := by have := hst.out; rw [if_neg (by simpa using hd)] at this; exact this
                  clear hst hd
                  go_wp2_with fail
                  refine HC.mono ?_
                  rintro e w3 ⟨rfl, hw3⟩
                  subst hw3
                  dsimp only
                  go_wp2_with (at_builtin; refine wpList_append_text _ rfl _ _ rfl w.heap.size w3.heap.size _ t0 y rfl rfl (hown3.out.alloc _) (by go_simp) (by omega) (by simp; omega) ?_; intro v' w4 hv4 hg4 hat4)
                  have hal : RowKit.Below w3.heap.size w3 (w3.alloc (.cells #[.string ⟨y.toArray⟩] 9)) := balloc _ _
                  have hbel : RowKit.Below w.heap.size w w4 := (bstep hbi hal).grown hg4 (by simp; omega) (fun g hg => (hown3.out.lt g hg).1)
                  have hm4 := hideQ ((ownsRow_belowV Hm3.out hal).kept hg4 hfar3.out.out)
                  have hfar4 := hideQ (hfar3.out.grow (ownsRow_belowV Hm3.out hal) hat4)
                  have hv5 := hideQ hv4
                  clear hv4 hg4 hat4 c0 HC
                  go_wp2_with fail
                  go_roundw
                  case rel =>
                    refine ⟨j + 1, by omega, by go_num, ?_, hm4, hfar4, hbel⟩
                    show World.ownsRow _ _ _ _ _ _ _
                    rw [Ht.out, e1.out]
                    exact hv5.out
                  case measure => simp [intOf]; omega
                · rw [hd] at HC
                  have e1 : Hid (t1 = t0) := by have := hst.out; rw [if_pos (by simpa using hd)] at this; exact this
                  clear hst hd
                  go_wp2_with fail
                  refine HC.mono ?_
                  rintro e w3 ⟨rfl, hw3⟩
                  subst hw3
                  dsimp only
                  clear HC c0
                  go_wp2_with fail
                  go_roundw
                  case rel =>
                    refine ⟨j + 1, by omega, by go_num, ?_, Hm3, hfar3, hbi⟩
                    show World.ownsRow _ _ _ _ _ _ _
                    rw [Ht.out, e1.out]
                    exact hown3.out
                  case measure => simp [intOf]; omega
              · obtain rfl : j = m.length := by omega
                have ho4 := hown3.out
                rw [List.take_length] at ho4
                have Ho4 := hideQ ho4
                have hle := addAll_len o m
                clear ho4 hown3
                go_wp2_with fail
                go_roundw
                case rel =>
                  refine ⟨k + 1, addAll o m, by omega, by go_num, by omega, Ho4, ?_, ?_, hbi⟩
                  · show _ = _
                    rw [HD.out]; exact hN2.out
                  · show _ = _
                    rw [HD.out]; exact hV2.out
                case measure => simp [intOf]; omega
          · have hN2 : Hid (N = varsN p) := by have := hN.out; unfold partsN at this; rw [if_neg hv] at this; exact this
            rw [if_neg hv] at hmA'
            subst hmA'
            have hne : (varsN p == 0) = false := by simpa using hv
            have hne2 : (varsN p != 0) = true := by simpa using hv
            have Hv := hideQ hv
            generalize varsN p = c at *
            clear hN hV hv Hm hown2
            go_wp2_with fail
            exact HQ.out _ _ (vof_nil ((f1.out (by rw [hN2.out]; exact Hv.out)).trans hN2.out) Hv.out hB2)
        · obtain rfl : k = L.length := by omega
          have hN2 : Hid (N = 0) := by have := hN.out; rw [List.drop_length] at this; exact this
          have hV2 : Hid (V = o) := by have := hV.out; rw [List.drop_length] at this; exact this
          obtain ⟨ad, cap, rfl, hsl⟩ := own_v hown.out
          have Hsl := hideQ hsl
          clear hsl hown hN hV
          by_cases h8 : 8 < o.length
          · have d3 : decide ((o.length : Int) > 8) = true := by simp; omega
            have fin := hideQ (f2.out hN2.out (by rw [hV2.out]; exact h8))
            go_wp2_with fail
            exact HQ.out _ _ (vof_nil fin.out (by decide) hbr)
          · have d3 : decide ((o.length : Int) > 8) = false := by simp; omega
            have fin := hideQ (f3.out hN2.out (by rw [hV2.out]; exact h8))
            go_wp2_with fail
            exact HQ.out _ _ ⟨o, ad, cap, by rw [fin.out]; rfl, Hsl.out.w, by omega, fun _ => hV2.out.symm.trans HPV.out.symm, hbr⟩
end Go.Proofs.YtcdbcoaiadipjaaGreatDoor
