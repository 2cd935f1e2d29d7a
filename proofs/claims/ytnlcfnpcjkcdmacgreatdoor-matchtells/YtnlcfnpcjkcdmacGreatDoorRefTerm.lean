/- The document's answer (package strataref1): Term, Compare, Show. -/
import Derived.Test.YtnlcfnpcjkcdmacGreatDoorRefRight
import Derived.Test.YtnlcfnpcjkcdmacGreatDoorOrder
import Derived.Laws.Cover1
namespace Go.Proofs.YtnlcfnpcjkcdmacGreatDoor
open Go Go.RowKit Go.Proofs

theorem ret_i64 {a b : Int} (h : a = b) : Ending.returned (.int .i64 a) = .returned (.int .i64 b) := by rw [h]

theorem RTerm_range (k : Int) (S L : List UInt8) (w : World) (h : k < 1 ∨ 3 < k) :
    Calls Tryz.prog 29 #[.agg #[.int .i64 k, .string ⟨S.toArray⟩, .string ⟨L.toArray⟩]] w fun e w' => e = .returned (.int .i64 (checkN k S L)) ∧ Below w.heap.size w w' := by
  have fin : Hid (checkN k S L = 1) := by
    have : kindB k = false := by simp [kindB]; omega
    simp [Hid, checkN, this]
  rcases h with h | h
  · go_enter Tryz.func29, Tryz.ntmps29
    go_wp2
    go_ret
    exact ⟨ret_i64 fin.out.symm, balloc _ _⟩
  · have h' : ¬ k < 1 := by omega
    go_enter Tryz.func29, Tryz.ntmps29
    go_wp2
    go_ret
    exact ⟨ret_i64 fin.out.symm, balloc _ _⟩

theorem RTerm_full (k : Int) (S L : List UInt8) (w : World) (h : 1 ≤ k) (h3 : k ≤ 3) (hs : S.length ≤ maxLen) (hlo : 24 < S.length) :
    Calls Tryz.prog 29 #[.agg #[.int .i64 k, .string ⟨S.toArray⟩, .string ⟨L.toArray⟩]] w fun e w' => e = .returned (.int .i64 (checkN k S L)) ∧ Below w.heap.size w w' := by
  have fin : Hid (checkN k S L = 4) := by
    have h1 : kindB k = true := by simp [kindB]; omega
    have h2 : longB S = true := by simp [longB]; omega
    simp [Hid, checkN, h1, h2]
  unfold maxLen at hs
  go_enter Tryz.func29, Tryz.ntmps29
  go_wp2
  go_ret
  exact ⟨ret_i64 fin.out.symm, balloc _ _⟩

theorem letters_lang (L : List UInt8) (h : L.length = 2) : lettersB L = langOk L := by
  cases L with
  | nil => simp at h
  | cons c r => simp [lettersB, langOk, h]

set_option maxHeartbeats 1000000 in
theorem RTerm_name (S L : List UInt8) (w : World) (hs : S.length ≤ 24) (hl : L.length ≤ maxLen) :
    Calls Tryz.prog 29 #[.agg #[.int .i64 1, .string ⟨S.toArray⟩, .string ⟨L.toArray⟩]] w fun e w' => e = .returned (.int .i64 (checkN 1 S L)) ∧ Below w.heap.size w w' := by
  have fin : Hid (checkN 1 S L = if (L.isEmpty && nameOk S) = false then 2 else 0) := by
    have h2 : longB S = false := by simp [longB]; omega
    show (if kindB 1 = false then (1 : Int) else if longB S = true then 4 else if spellB 1 S L = false then 2 else 0) = _
    rw [h2]; rfl
  have hs' : S.length ≤ maxLen := by unfold maxLen; omega
  cases hr : nameOk S
  · go_enter Tryz.func29, Tryz.ntmps29
    go_wp2_with (go_at_call 58; refine (right_name S _ hs').mono ?_; rintro e w1 ⟨rfl, rfl⟩)
    go_ret
    exact ⟨ret_i64 (by rw [fin.out, hr]; simp), balloc _ _⟩
  · cases L with
    | nil =>
      go_enter Tryz.func29, Tryz.ntmps29
      go_wp2_with (go_at_call 58; refine (right_name S _ hs').mono ?_; rintro e w1 ⟨rfl, rfl⟩)
      go_ret
      exact ⟨ret_i64 (by rw [fin.out, hr]; simp), balloc _ _⟩
    | cons c r =>
      go_enter Tryz.func29, Tryz.ntmps29
      go_wp2_with (first
        | (go_at_call 58; refine (right_name S _ hs').mono ?_; rintro e w1 ⟨rfl, rfl⟩)
        | (go_at_call 30; refine (Letters_any (c :: r) _ hl).mono ?_; rintro e w1 ⟨rfl, rfl⟩))
      go_ret
      exact ⟨ret_i64 (by rw [fin.out]; simp), balloc _ _⟩

set_option maxHeartbeats 1000000 in
theorem RTerm_anon (S L : List UInt8) (w : World) (hs : S.length ≤ 24) (hl : L.length ≤ maxLen) :
    Calls Tryz.prog 29 #[.agg #[.int .i64 2, .string ⟨S.toArray⟩, .string ⟨L.toArray⟩]] w fun e w' => e = .returned (.int .i64 (checkN 2 S L)) ∧ Below w.heap.size w w' := by
  have fin : Hid (checkN 2 S L = if (L.isEmpty && anonOk S) = false then 2 else 0) := by
    have h2 : longB S = false := by simp [longB]; omega
    show (if kindB 2 = false then (1 : Int) else if longB S = true then 4 else if spellB 2 S L = false then 2 else 0) = _
    rw [h2]; rfl
  have hs' : S.length ≤ maxLen := by unfold maxLen; omega
  cases hr : anonOk S
  · go_enter Tryz.func29, Tryz.ntmps29
    go_wp2_with (go_at_call 58; refine (right_anon S _ hs').mono ?_; rintro e w1 ⟨rfl, rfl⟩)
    go_ret
    exact ⟨ret_i64 (by rw [fin.out, hr]; simp), balloc _ _⟩
  · cases L with
    | nil =>
      go_enter Tryz.func29, Tryz.ntmps29
      go_wp2_with (go_at_call 58; refine (right_anon S _ hs').mono ?_; rintro e w1 ⟨rfl, rfl⟩)
      go_ret
      exact ⟨ret_i64 (by rw [fin.out, hr]; simp), balloc _ _⟩
    | cons c r =>
      go_enter Tryz.func29, Tryz.ntmps29
      go_wp2_with (first
        | (go_at_call 58; refine (right_anon S _ hs').mono ?_; rintro e w1 ⟨rfl, rfl⟩)
        | (go_at_call 30; refine (Letters_any (c :: r) _ hl).mono ?_; rintro e w1 ⟨rfl, rfl⟩))
      go_ret
      exact ⟨ret_i64 (by rw [fin.out]; simp), balloc _ _⟩

set_option maxHeartbeats 1000000 in
theorem RTerm_text (S L : List UInt8) (w : World) (hs : S.length ≤ 24) (hl : L.length ≤ maxLen) :
    Calls Tryz.prog 29 #[.agg #[.int .i64 3, .string ⟨S.toArray⟩, .string ⟨L.toArray⟩]] w fun e w' => e = .returned (.int .i64 (checkN 3 S L)) ∧ Below w.heap.size w w' := by
  have fin : Hid (checkN 3 S L = if ((L.isEmpty || langOk L) && textOk S) = false then 2 else 0) := by
    have h2 : longB S = false := by simp [longB]; omega
    show (if kindB 3 = false then (1 : Int) else if longB S = true then 4 else if spellB 3 S L = false then 2 else 0) = _
    rw [h2]; rfl
  have hs' : S.length ≤ maxLen := by unfold maxLen; omega
  cases hr : textOk S
  · go_enter Tryz.func29, Tryz.ntmps29
    go_wp2_with (go_at_call 58; refine (right_text S _ hs').mono ?_; rintro e w1 ⟨rfl, rfl⟩)
    go_ret
    exact ⟨ret_i64 (by rw [fin.out, hr]; simp), balloc _ _⟩
  · by_cases hne : L = []
    · subst hne
      go_enter Tryz.func29, Tryz.ntmps29
      go_wp2_with (go_at_call 58; refine (right_text S _ hs').mono ?_; rintro e w1 ⟨rfl, rfl⟩)
      go_ret
      exact ⟨ret_i64 (by rw [fin.out, hr]; simp), balloc _ _⟩
    · have hne' : L.isEmpty = false := by simpa using hne
      by_cases h2 : L.length = 2
      · have hb : ((L.length : Int) != 2) = false := by simp; omega
        have hll : Hid (lettersB L = langOk L) := letters_lang L h2
        clear h2
        cases hk : lettersB L
        all_goals
          go_enter Tryz.func29, Tryz.ntmps29
          go_wp2_with (first
            | (go_at_call 58; refine (right_text S _ hs').mono ?_; rintro e w1 ⟨rfl, rfl⟩)
            | (go_at_call 30; refine (Letters_any L _ hl).mono ?_; rintro e w1 ⟨rfl, rfl⟩))
          go_ret
          exact ⟨ret_i64 (by rw [fin.out, ← hll.out, hk, hr, hne']; simp), balloc _ _⟩
      · have hb : ((L.length : Int) != 2) = true := by simp; omega
        have hk : Hid (langOk L = false) := by simp [Hid, langOk, h2]
        clear h2
        unfold maxLen at hl
        go_enter Tryz.func29, Tryz.ntmps29
        go_wp2_with (first
          | (go_at_call 58; refine (right_text S _ hs').mono ?_; rintro e w1 ⟨rfl, rfl⟩)
          | (go_at_call 30; refine (Letters_any L _ hl).mono ?_; rintro e w1 ⟨rfl, rfl⟩))
        go_ret
        exact ⟨ret_i64 (by rw [fin.out, hk.out, hne']; simp), balloc _ _⟩

theorem RTerm_any (k : Int) (S L : List UInt8) (w : World) (hs : S.length ≤ maxLen) (hl : L.length ≤ maxLen) :
    Calls Tryz.prog 29 #[.agg #[.int .i64 k, .string ⟨S.toArray⟩, .string ⟨L.toArray⟩]] w fun e w' => e = .returned (.int .i64 (checkN k S L)) ∧ Below w.heap.size w w' := by
  by_cases h : k < 1 ∨ 3 < k
  · exact RTerm_range k S L w h
  · by_cases hlo : 24 < S.length
    · exact RTerm_full k S L w (by omega) (by omega) hs hlo
    · rcases (by omega : k = 1 ∨ k = 2 ∨ k = 3) with rfl | rfl | rfl
      · exact RTerm_name S L w (by omega) hl
      · exact RTerm_anon S L w (by omega) hl
      · exact RTerm_text S L w (by omega) hl

theorem RCompare_kind (k : Int) (S L : List UInt8) (k' : Int) (S' L' : List UInt8) (w : World) (h : k ≠ k') :
    Calls Tryz.prog 65 #[.agg #[.int .i64 k, .string ⟨S.toArray⟩, .string ⟨L.toArray⟩], .agg #[.int .i64 k', .string ⟨S'.toArray⟩, .string ⟨L'.toArray⟩]] w fun e w' => e = .returned (.int .i64 (cmpT k S L k' S' L')) ∧ Below w.heap.size w w' := by
  have fin : Hid (cmpT k S L k' S' L' = Lib.compareInt k k') := by
    have : Lib.compareInt k k' ≠ 0 := fun e => h ((ci_zero _ _).1 e)
    simp [Hid, cmpT, orI, this]
  have hb : (k != k') = true := by simpa using h
  by_cases hlt : k < k'
  · go_enter Tryz.func65, Tryz.ntmps65
    go_wp2
    go_ret
    exact ⟨ret_i64 (by rw [fin.out]; simp [Lib.compareInt, hlt]), bstep (balloc _ _) (balloc _ _)⟩
  · have hgt : k' < k := by omega
    go_enter Tryz.func65, Tryz.ntmps65
    go_wp2
    go_ret
    exact ⟨ret_i64 (by rw [fin.out]; simp [Lib.compareInt, hlt, hgt]), bstep (balloc _ _) (balloc _ _)⟩

theorem less_cb (a : List UInt8) : ∀ b, Op.bytesLess a b = decide (Lib.compareBytes a b < 0) := by
  induction a with
  | nil => intro b; cases b <;> simp [Op.bytesLess, Lib.compareBytes]
  | cons x xs ih =>
    intro b
    cases b with
    | nil => simp [Op.bytesLess, Lib.compareBytes]
    | cons y ys =>
      by_cases h1 : x < y
      · simp [Op.bytesLess, Lib.compareBytes, h1]
      · by_cases h2 : y < x
        · have hne : (x == y) = false := by
            rw [beq_eq_false_iff_ne]; rintro rfl; exact absurd h2 (by simp)
          simp [Op.bytesLess, Lib.compareBytes, h1, h2, hne]
        · have : x = y := UInt8.le_antisymm (UInt8.not_lt.1 h2) (UInt8.not_lt.1 h1)
          subst this
          simp [Op.bytesLess, Lib.compareBytes, ih]

theorem cbr (a : List UInt8) : ∀ b, -1 ≤ Lib.compareBytes a b ∧ Lib.compareBytes a b ≤ 1 := by
  induction a with
  | nil => intro b; cases b <;> simp [Lib.compareBytes]
  | cons x xs ih =>
    intro b
    cases b with
    | nil => simp [Lib.compareBytes]
    | cons y ys =>
      by_cases h1 : x < y
      · simp [Lib.compareBytes, h1]
      · by_cases h2 : y < x
        · simp [Lib.compareBytes, h1, h2]
        · simp only [Lib.compareBytes, h1, h2, if_false]; exact ih ys

theorem cb_val (a b : List UInt8) : Lib.compareBytes a b = if Op.bytesLess a b = true then -1 else if a = b then 0 else 1 := by
  have h1 := less_cb a b
  have h2 := cb_zero a b
  have h3 := cbr a b
  by_cases h : Lib.compareBytes a b < 0
  · rw [h1]; simp only [h, decide_true, if_true]; omega
  · rw [h1]
    simp only [h, decide_false, Bool.false_eq_true, if_false]
    by_cases e : a = b
    · rw [if_pos e]; exact h2.2 e
    · rw [if_neg e]
      have : Lib.compareBytes a b ≠ 0 := fun q => e (h2.1 q)
      omega

theorem cmpT_same (k : Int) (S L S' L' : List UInt8) : cmpT k S L k S' L' = if S = S' then Lib.compareBytes L L' else Lib.compareBytes S S' := by
  have h1 : Lib.compareInt k k = 0 := (ci_zero k k).2 rfl
  have h2 := cb_zero S S'
  unfold cmpT orI
  rw [h1, if_pos rfl]
  by_cases e : S = S'
  · rw [if_pos (h2.2 e), if_pos e]
  · rw [if_neg (fun q => e (h2.1 q)), if_neg e]

theorem RCompare_rest (k : Int) (S L : List UInt8) (S' L' : List UInt8) (w : World) :
    Calls Tryz.prog 65 #[.agg #[.int .i64 k, .string ⟨S.toArray⟩, .string ⟨L.toArray⟩], .agg #[.int .i64 k, .string ⟨S'.toArray⟩, .string ⟨L'.toArray⟩]] w fun e w' => e = .returned (.int .i64 (cmpT k S L k S' L')) ∧ Below w.heap.size w w' := by
  have fin : Hid (cmpT k S L k S' L' = if S = S' then Lib.compareBytes L L' else Lib.compareBytes S S') := cmpT_same k S L S' L'
  by_cases hS : S = S'
  · subst hS
    cases hl : Op.bytesLess L L'
    · by_cases hL : L = L'
      · have hb : (L == L') = true := by simpa using hL
        have v : Hid (Lib.compareBytes L L' = 0) := (cb_zero L L').2 hL
        clear hL
        go_enter Tryz.func65, Tryz.ntmps65
        go_wp2
        go_ret
        exact ⟨ret_i64 (by rw [fin.out, v.out]; rfl), bstep (balloc _ _) (balloc _ _)⟩
      · have hb : (L == L') = false := by simpa using hL
        have v : Hid (Lib.compareBytes L L' = 1) := by show _ = _; rw [cb_val, hl]; simp [hL]
        clear hL
        go_enter Tryz.func65, Tryz.ntmps65
        go_wp2
        go_ret
        exact ⟨ret_i64 (by rw [fin.out, v.out]; rfl), bstep (balloc _ _) (balloc _ _)⟩
    · have v : Hid (Lib.compareBytes L L' = -1) := by show _ = _; rw [cb_val, hl]; simp
      go_enter Tryz.func65, Tryz.ntmps65
      go_wp2
      go_ret
      exact ⟨ret_i64 (by rw [fin.out, v.out]; rfl), bstep (balloc _ _) (balloc _ _)⟩
  · have hb : (S == S') = false := by simpa using hS
    have fin2 : Hid (cmpT k S L k S' L' = Lib.compareBytes S S') := fin.out.trans (if_neg hS)
    have v := cb_val S S'
    rw [if_neg hS] at v
    have V : Hid (Lib.compareBytes S S' = if Op.bytesLess S S' = true then -1 else 1) := v
    clear hS v
    cases hl : Op.bytesLess S S'
    all_goals
      go_enter Tryz.func65, Tryz.ntmps65
      go_wp2
      go_ret
      exact ⟨ret_i64 (by rw [fin2.out, V.out, hl]; rfl), bstep (balloc _ _) (balloc _ _)⟩

theorem RCompare_any (k : Int) (S L : List UInt8) (k' : Int) (S' L' : List UInt8) (w : World) :
    Calls Tryz.prog 65 #[.agg #[.int .i64 k, .string ⟨S.toArray⟩, .string ⟨L.toArray⟩], .agg #[.int .i64 k', .string ⟨S'.toArray⟩, .string ⟨L'.toArray⟩]] w fun e w' => e = .returned (.int .i64 (cmpT k S L k' S' L')) ∧ Below w.heap.size w w' := by
  by_cases h : k = k'
  · subst h; exact RCompare_rest k S L S' L' w
  · exact RCompare_kind k S L k' S' L' w h
end Go.Proofs.YtnlcfnpcjkcdmacGreatDoor
