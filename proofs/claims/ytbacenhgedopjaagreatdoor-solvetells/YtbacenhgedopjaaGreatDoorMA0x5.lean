import Derived.Test.YtbacenhgedopjaaGreatDoorMA0x4
import Derived.Test.YtbacenhgedopjaaGreatDoorMA0x1
import Derived.Laws.Cover1
import Derived.Deep.Draws
import Derived.RegionTactic
import Derived.Deep.QuietTactic
import Derived.BigQuiet
import Derived.WalkKit
import Derived.Test.YtbacenhgedopjaaGreatDoorMA0x3
import Derived.Test.YtbacenhgedopjaaGreatDoorRows
import Derived.Maps.AppendAt

/- The document's answer (package strataref1): Term, Compare, Show. -/
namespace Go.Proofs.YtbacenhgedopjaaGreatDoor
open Go Go.RowKit Go.Proofs

theorem ret_i64 {a b : Int} (h : a = b) : Ending.returned (.int .i64 a) = .returned (.int .i64 b) := by rw [h]

theorem RTerm_range (k : Int) (S L : List UInt8) (w : World) (h : k < 1 ∨ 3 < k) :
    Calls Tryz.prog 12 #[.agg #[.int .i64 k, .string ⟨S.toArray⟩, .string ⟨L.toArray⟩]] w fun e w' => e = .returned (.int .i64 (checkN k S L)) ∧ Below w.heap.size w w' := by
  have fin : Hid (checkN k S L = 1) := by
    have : kindB k = false := by simp [kindB]; omega
    simp [Hid, checkN, this]
  rcases h with h | h
  · go_enter Tryz.func12, Tryz.ntmps12
    go_wp2
    go_ret
    exact ⟨ret_i64 fin.out.symm, balloc _ _⟩
  · have h' : ¬ k < 1 := by omega
    go_enter Tryz.func12, Tryz.ntmps12
    go_wp2
    go_ret
    exact ⟨ret_i64 fin.out.symm, balloc _ _⟩

theorem RTerm_full (k : Int) (S L : List UInt8) (w : World) (h : 1 ≤ k) (h3 : k ≤ 3) (hs : S.length ≤ maxLen) (hlo : 24 < S.length) :
    Calls Tryz.prog 12 #[.agg #[.int .i64 k, .string ⟨S.toArray⟩, .string ⟨L.toArray⟩]] w fun e w' => e = .returned (.int .i64 (checkN k S L)) ∧ Below w.heap.size w w' := by
  have fin : Hid (checkN k S L = 4) := by
    have h1 : kindB k = true := by simp [kindB]; omega
    have h2 : longB S = true := by simp [longB]; omega
    simp [Hid, checkN, h1, h2]
  unfold maxLen at hs
  go_enter Tryz.func12, Tryz.ntmps12
  go_wp2
  go_ret
  exact ⟨ret_i64 fin.out.symm, balloc _ _⟩

theorem letters_lang (L : List UInt8) (h : L.length = 2) : lettersB L = langOk L := by
  cases L with
  | nil => simp at h
  | cons c r => simp [lettersB, langOk, h]

set_option maxHeartbeats 1000000 in
theorem RTerm_name (S L : List UInt8) (w : World) (hs : S.length ≤ 24) (hl : L.length ≤ maxLen) :
    Calls Tryz.prog 12 #[.agg #[.int .i64 1, .string ⟨S.toArray⟩, .string ⟨L.toArray⟩]] w fun e w' => e = .returned (.int .i64 (checkN 1 S L)) ∧ Below w.heap.size w w' := by
  have fin : Hid (checkN 1 S L = if (L.isEmpty && nameOk S) = false then 2 else 0) := by
    have h2 : longB S = false := by simp [longB]; omega
    show (if kindB 1 = false then (1 : Int) else if longB S = true then 4 else if spellB 1 S L = false then 2 else 0) = _
    rw [h2]; rfl
  have hs' : S.length ≤ maxLen := by unfold maxLen; omega
  cases hr : nameOk S
  · go_enter Tryz.func12, Tryz.ntmps12
    go_wp2_with (go_at_call 34; refine (right_name S _ hs').mono ?_; rintro e w1 ⟨rfl, rfl⟩)
    go_ret
    exact ⟨ret_i64 (by rw [fin.out, hr]; simp), balloc _ _⟩
  · cases L with
    | nil =>
      go_enter Tryz.func12, Tryz.ntmps12
      go_wp2_with (go_at_call 34; refine (right_name S _ hs').mono ?_; rintro e w1 ⟨rfl, rfl⟩)
      go_ret
      exact ⟨ret_i64 (by rw [fin.out, hr]; simp), balloc _ _⟩
    | cons c r =>
      go_enter Tryz.func12, Tryz.ntmps12
      go_wp2_with (first
        | (go_at_call 34; refine (right_name S _ hs').mono ?_; rintro e w1 ⟨rfl, rfl⟩)
        | (go_at_call 35; refine (Letters_any (c :: r) _ hl).mono ?_; rintro e w1 ⟨rfl, rfl⟩))
      go_ret
      exact ⟨ret_i64 (by rw [fin.out]; simp), balloc _ _⟩

set_option maxHeartbeats 1000000 in
theorem RTerm_anon (S L : List UInt8) (w : World) (hs : S.length ≤ 24) (hl : L.length ≤ maxLen) :
    Calls Tryz.prog 12 #[.agg #[.int .i64 2, .string ⟨S.toArray⟩, .string ⟨L.toArray⟩]] w fun e w' => e = .returned (.int .i64 (checkN 2 S L)) ∧ Below w.heap.size w w' := by
  have fin : Hid (checkN 2 S L = if (L.isEmpty && anonOk S) = false then 2 else 0) := by
    have h2 : longB S = false := by simp [longB]; omega
    show (if kindB 2 = false then (1 : Int) else if longB S = true then 4 else if spellB 2 S L = false then 2 else 0) = _
    rw [h2]; rfl
  have hs' : S.length ≤ maxLen := by unfold maxLen; omega
  cases hr : anonOk S
  · go_enter Tryz.func12, Tryz.ntmps12
    go_wp2_with (go_at_call 34; refine (right_anon S _ hs').mono ?_; rintro e w1 ⟨rfl, rfl⟩)
    go_ret
    exact ⟨ret_i64 (by rw [fin.out, hr]; simp), balloc _ _⟩
  · cases L with
    | nil =>
      go_enter Tryz.func12, Tryz.ntmps12
      go_wp2_with (go_at_call 34; refine (right_anon S _ hs').mono ?_; rintro e w1 ⟨rfl, rfl⟩)
      go_ret
      exact ⟨ret_i64 (by rw [fin.out, hr]; simp), balloc _ _⟩
    | cons c r =>
      go_enter Tryz.func12, Tryz.ntmps12
      go_wp2_with (first
        | (go_at_call 34; refine (right_anon S _ hs').mono ?_; rintro e w1 ⟨rfl, rfl⟩)
        | (go_at_call 35; refine (Letters_any (c :: r) _ hl).mono ?_; rintro e w1 ⟨rfl, rfl⟩))
      go_ret
      exact ⟨ret_i64 (by rw [fin.out]; simp), balloc _ _⟩

set_option maxHeartbeats 1000000 in
theorem RTerm_text (S L : List UInt8) (w : World) (hs : S.length ≤ 24) (hl : L.length ≤ maxLen) :
    Calls Tryz.prog 12 #[.agg #[.int .i64 3, .string ⟨S.toArray⟩, .string ⟨L.toArray⟩]] w fun e w' => e = .returned (.int .i64 (checkN 3 S L)) ∧ Below w.heap.size w w' := by
  have fin : Hid (checkN 3 S L = if ((L.isEmpty || langOk L) && textOk S) = false then 2 else 0) := by
    have h2 : longB S = false := by simp [longB]; omega
    show (if kindB 3 = false then (1 : Int) else if longB S = true then 4 else if spellB 3 S L = false then 2 else 0) = _
    rw [h2]; rfl
  have hs' : S.length ≤ maxLen := by unfold maxLen; omega
  cases hr : textOk S
  · go_enter Tryz.func12, Tryz.ntmps12
    go_wp2_with (go_at_call 34; refine (right_text S _ hs').mono ?_; rintro e w1 ⟨rfl, rfl⟩)
    go_ret
    exact ⟨ret_i64 (by rw [fin.out, hr]; simp), balloc _ _⟩
  · by_cases hne : L = []
    · subst hne
      go_enter Tryz.func12, Tryz.ntmps12
      go_wp2_with (go_at_call 34; refine (right_text S _ hs').mono ?_; rintro e w1 ⟨rfl, rfl⟩)
      go_ret
      exact ⟨ret_i64 (by rw [fin.out, hr]; simp), balloc _ _⟩
    · have hne' : L.isEmpty = false := by simpa using hne
      by_cases h2 : L.length = 2
      · have hb : ((L.length : Int) != 2) = false := by simp; omega
        have hll : Hid (lettersB L = langOk L) := letters_lang L h2
        clear h2
        cases hk : lettersB L
        all_goals
          go_enter Tryz.func12, Tryz.ntmps12
          go_wp2_with (first
            | (go_at_call 34; refine (right_text S _ hs').mono ?_; rintro e w1 ⟨rfl, rfl⟩)
            | (go_at_call 35; refine (Letters_any L _ hl).mono ?_; rintro e w1 ⟨rfl, rfl⟩))
          go_ret
          exact ⟨ret_i64 (by rw [fin.out, ← hll.out, hk, hr, hne']; simp), balloc _ _⟩
      · have hb : ((L.length : Int) != 2) = true := by simp; omega
        have hk : Hid (langOk L = false) := by simp [Hid, langOk, h2]
        clear h2
        unfold maxLen at hl
        go_enter Tryz.func12, Tryz.ntmps12
        go_wp2_with (first
          | (go_at_call 34; refine (right_text S _ hs').mono ?_; rintro e w1 ⟨rfl, rfl⟩)
          | (go_at_call 35; refine (Letters_any L _ hl).mono ?_; rintro e w1 ⟨rfl, rfl⟩))
        go_ret
        exact ⟨ret_i64 (by rw [fin.out, hk.out, hne']; simp), balloc _ _⟩

theorem RTerm_any (k : Int) (S L : List UInt8) (w : World) (hs : S.length ≤ maxLen) (hl : L.length ≤ maxLen) :
    Calls Tryz.prog 12 #[.agg #[.int .i64 k, .string ⟨S.toArray⟩, .string ⟨L.toArray⟩]] w fun e w' => e = .returned (.int .i64 (checkN k S L)) ∧ Below w.heap.size w w' := by
  by_cases h : k < 1 ∨ 3 < k
  · exact RTerm_range k S L w h
  · by_cases hlo : 24 < S.length
    · exact RTerm_full k S L w (by omega) (by omega) hs hlo
    · rcases (by omega : k = 1 ∨ k = 2 ∨ k = 3) with rfl | rfl | rfl
      · exact RTerm_name S L w (by omega) hl
      · exact RTerm_anon S L w (by omega) hl
      · exact RTerm_text S L w (by omega) hl

theorem RCompare_kind (k : Int) (S L : List UInt8) (k' : Int) (S' L' : List UInt8) (w : World) (h : k ≠ k') :
    Calls Tryz.prog 24 #[.agg #[.int .i64 k, .string ⟨S.toArray⟩, .string ⟨L.toArray⟩], .agg #[.int .i64 k', .string ⟨S'.toArray⟩, .string ⟨L'.toArray⟩]] w fun e w' => e = .returned (.int .i64 (cmpT k S L k' S' L')) ∧ Below w.heap.size w w' := by
  have fin : Hid (cmpT k S L k' S' L' = Lib.compareInt k k') := by
    have : Lib.compareInt k k' ≠ 0 := fun e => h ((ci_zero _ _).1 e)
    simp [Hid, cmpT, orI, this]
  have hb : (k != k') = true := by simpa using h
  by_cases hlt : k < k'
  · go_enter Tryz.func24, Tryz.ntmps24
    go_wp2
    go_ret
    exact ⟨ret_i64 (by rw [fin.out]; simp [Lib.compareInt, hlt]), bstep (balloc _ _) (balloc _ _)⟩
  · have hgt : k' < k := by omega
    go_enter Tryz.func24, Tryz.ntmps24
    go_wp2
    go_ret
    exact ⟨ret_i64 (by rw [fin.out]; simp [Lib.compareInt, hlt, hgt]), bstep (balloc _ _) (balloc _ _)⟩

theorem less_cb (a : List UInt8) : ∀ b, Op.bytesLess a b = decide (Lib.compareBytes a b < 0) := by
  induction a with
  | nil => intro b; cases b <;> simp [Op.bytesLess, Lib.compareBytes]
  | cons x xs ih =>
    intro b
    cases b with
    | nil => simp [Op.bytesLess, Lib.compareBytes]
    | cons y ys =>
      by_cases h1 : x < y
      · simp [Op.bytesLess, Lib.compareBytes, h1]
      · by_cases h2 : y < x
        · have hne : (x == y) = false := by
            rw [beq_eq_false_iff_ne]; rintro rfl; exact absurd h2 (by simp)
          simp [Op.bytesLess, Lib.compareBytes, h1, h2, hne]
        · have : x = y := UInt8.le_antisymm (UInt8.not_lt.1 h2) (UInt8.not_lt.1 h1)
          subst this
          simp [Op.bytesLess, Lib.compareBytes, ih]

theorem cbr (a : List UInt8) : ∀ b, -1 ≤ Lib.compareBytes a b ∧ Lib.compareBytes a b ≤ 1 := by
  induction a with
  | nil => intro b; cases b <;> simp [Lib.compareBytes]
  | cons x xs ih =>
    intro b
    cases b with
    | nil => simp [Lib.compareBytes]
    | cons y ys =>
      by_cases h1 : x < y
      · simp [Lib.compareBytes, h1]
      · by_cases h2 : y < x
        · simp [Lib.compareBytes, h1, h2]
        · simp only [Lib.compareBytes, h1, h2, if_false]; exact ih ys

theorem cb_val (a b : List UInt8) : Lib.compareBytes a b = if Op.bytesLess a b = true then -1 else if a = b then 0 else 1 := by
  have h1 := less_cb a b
  have h2 := cb_zero a b
  have h3 := cbr a b
  by_cases h : Lib.compareBytes a b < 0
  · rw [h1]; simp only [h, decide_true, if_true]; omega
  · rw [h1]
    simp only [h, decide_false, Bool.false_eq_true, if_false]
    by_cases e : a = b
    · rw [if_pos e]; exact h2.2 e
    · rw [if_neg e]
      have : Lib.compareBytes a b ≠ 0 := fun q => e (h2.1 q)
      omega

theorem cmpT_same (k : Int) (S L S' L' : List UInt8) : cmpT k S L k S' L' = if S = S' then Lib.compareBytes L L' else Lib.compareBytes S S' := by
  have h1 : Lib.compareInt k k = 0 := (ci_zero k k).2 rfl
  have h2 := cb_zero S S'
  unfold cmpT orI
  rw [h1, if_pos rfl]
  by_cases e : S = S'
  · rw [if_pos (h2.2 e), if_pos e]
  · rw [if_neg (fun q => e (h2.1 q)), if_neg e]

theorem RCompare_rest (k : Int) (S L : List UInt8) (S' L' : List UInt8) (w : World) :
    Calls Tryz.prog 24 #[.agg #[.int .i64 k, .string ⟨S.toArray⟩, .string ⟨L.toArray⟩], .agg #[.int .i64 k, .string ⟨S'.toArray⟩, .string ⟨L'.toArray⟩]] w fun e w' => e = .returned (.int .i64 (cmpT k S L k S' L')) ∧ Below w.heap.size w w' := by
  have fin : Hid (cmpT k S L k S' L' = if S = S' then Lib.compareBytes L L' else Lib.compareBytes S S') := cmpT_same k S L S' L'
  by_cases hS : S = S'
  · subst hS
    cases hl : Op.bytesLess L L'
    · by_cases hL : L = L'
      · have hb : (L == L') = true := by simpa using hL
        have v : Hid (Lib.compareBytes L L' = 0) := (cb_zero L L').2 hL
        clear hL
        go_enter Tryz.func24, Tryz.ntmps24
        go_wp2
        go_ret
        exact ⟨ret_i64 (by rw [fin.out, v.out]; rfl), bstep (balloc _ _) (balloc _ _)⟩
      · have hb : (L == L') = false := by simpa using hL
        have v : Hid (Lib.compareBytes L L' = 1) := by show _ = _; rw [cb_val, hl]; simp [hL]
        clear hL
        go_enter Tryz.func24, Tryz.ntmps24
        go_wp2
        go_ret
        exact ⟨ret_i64 (by rw [fin.out, v.out]; rfl), bstep (balloc _ _) (balloc _ _)⟩
    · have v : Hid (Lib.compareBytes L L' = -1) := by show _ = _; rw [cb_val, hl]; simp
      go_enter Tryz.func24, Tryz.ntmps24
      go_wp2
      go_ret
      exact ⟨ret_i64 (by rw [fin.out, v.out]; rfl), bstep (balloc _ _) (balloc _ _)⟩
  · have hb : (S == S') = false := by simpa using hS
    have fin2 : Hid (cmpT k S L k S' L' = Lib.compareBytes S S') := fin.out.trans (if_neg hS)
    have v := cb_val S S'
    rw [if_neg hS] at v
    have V : Hid (Lib.compareBytes S S' = if Op.bytesLess S S' = true then -1 else 1) := v
    clear hS v
    cases hl : Op.bytesLess S S'
    all_goals
      go_enter Tryz.func24, Tryz.ntmps24
      go_wp2
      go_ret
      exact ⟨ret_i64 (by rw [fin2.out, V.out, hl]; rfl), bstep (balloc _ _) (balloc _ _)⟩

theorem RCompare_any (k : Int) (S L : List UInt8) (k' : Int) (S' L' : List UInt8) (w : World) :
    Calls Tryz.prog 24 #[.agg #[.int .i64 k, .string ⟨S.toArray⟩, .string ⟨L.toArray⟩], .agg #[.int .i64 k', .string ⟨S'.toArray⟩, .string ⟨L'.toArray⟩]] w fun e w' => e = .returned (.int .i64 (cmpT k S L k' S' L')) ∧ Below w.heap.size w w' := by
  by_cases h : k = k'
  · subst h; exact RCompare_rest k S L S' L' w
  · exact RCompare_kind k S L k' S' L' w h
end Go.Proofs.YtbacenhgedopjaaGreatDoor

/- The document's Vars, and what it leans on: Slots, Three, Letters up to ten, Has; lists of texts held against one another. -/
namespace Go.Proofs.YtbacenhgedopjaaGreatDoor
open Go Go.RowKit Go.Proofs Go.Maps
set_option synthInstance.maxSize 1000

/-- one to ten letters -/
def lettersTenB (L : List UInt8) : Bool := !L.isEmpty && (decide (L.length ≤ 10) && allB letB L)
theorem ten_spell {v : List UInt8} (h : ¬ v = []) : lettersTenB v = spellV v := by
  cases v with
  | nil => exact absurd rfl h
  | cons c r => rfl

set_option maxHeartbeats 400000 in
theorem LettersTen_any (L : List UInt8) (w : World) (hl : L.length ≤ maxLen) :
    Calls Tryz.prog 35 #[.string ⟨L.toArray⟩, .int .i64 10] w fun e w' => e = .returned (.bool (lettersTenB L)) ∧ w' = w := by
  unfold maxLen at hl
  cases L with
  | nil =>
    go_enter Tryz.func35, Tryz.ntmps35
    go_wp2
    go_ret
    exact ⟨rfl, rfl⟩
  | cons c r =>
    have fin : Hid (lettersTenB (c :: r) = (decide ((c :: r).length ≤ 10) && allB letB (c :: r))) := rfl
    generalize hL : c :: r = L at *
    have hne : ¬ L = [] := by rw [← hL]; simp
    have hne' : L.isEmpty = false := by rw [← hL]; rfl
    clear hL
    by_cases h2 : L.length ≤ 10
    · go_enter Tryz.func35, Tryz.ntmps35
      go_wp2
      go_loop [5] (fun i => ∃ k : Nat, k ≤ L.length ∧ i = .int .i64 k ∧ Hid (allB letB (L.take k) = true)) (fun i => L.length - (intOf i).toNat)
      case atStart => exact ⟨0, Nat.zero_le _, rfl, rfl⟩
      case round =>
        obtain ⟨k, hk, rfl, hall⟩ := hrel
        by_cases hlt : k < L.length
        · have hidx : ∀ h, (⟨L.toArray⟩ : ByteArray)[k]'h = L[k] := fun _ => rfl
          cases hp : letB (L[k].toNat : Int)
          · go_wp2_with (go_at_call 55; refine (letter_any _ _).mono ?_; rintro e w' ⟨rfl, rfl⟩)
            go_ret
            exact ⟨ret_bool (by rw [fin.out, allL_false letB L k hlt hp]; simp), rfl⟩
          · go_wp2_with (go_at_call 55; refine (letter_any _ _).mono ?_; rintro e w' ⟨rfl, rfl⟩)
            refine ⟨⟨k + 1, by omega, by go_num, ?_⟩, by simp [intOf]; omega⟩
            show _ = _
            rw [allL_take letB L k hlt, hall.out, hp]; rfl
        · go_wp2
          go_ret
          have e := hall.out
          rw [List.take_of_length_le (by omega)] at e
          exact ⟨ret_bool (by rw [fin.out, e]; simp [h2]), rfl⟩
    · go_enter Tryz.func35, Tryz.ntmps35
      go_wp2
      go_ret
      exact ⟨ret_bool (by rw [fin.out]; simp [h2]), rfl⟩


theorem RSlots_any (p : Pt) (w : World) : Calls Tryz.prog 22 #[valPt p] w fun e w' => ∃ b, e = .returned (.slice (some ⟨b, 0, none⟩) 3 3) ∧ PatAt w' b p ∧ Below w.heap.size w w' := by
  have HB : PatAt ((w.alloc (.cells (encPt p).toArray 32)).alloc (.cells (encPt p).toArray 30)) (w.heap.size + 1) p := by
    have := patBox (w.alloc (.cells (encPt p).toArray 32)) p 30
    simpa using this
  unfold valPt
  go_enter Tryz.func22, Tryz.ntmps22
  go_wp2_with fail
  go_ret
  exact ⟨_, rfl, HB, bstep (balloc _ _) (balloc _ _)⟩
theorem RThree_any (t : Tr) (w : World) : Calls Tryz.prog 21 #[valTr t] w fun e w' => ∃ b, e = .returned (.slice (some ⟨b, 0, none⟩) 3 3) ∧ TripAt w' b t ∧ Below w.heap.size w w' := by
  have HB : TripAt ((w.alloc (.cells (encTr t).toArray 58)).alloc (.cells (encTr t).toArray 28)) (w.heap.size + 1) t := by
    have := tripBox (w.alloc (.cells (encTr t).toArray 58)) t 28
    simpa using this
  unfold valTr
  go_enter Tryz.func21, Tryz.ntmps21
  go_wp2_with fail
  go_ret
  exact ⟨_, rfl, HB, bstep (balloc _ _) (balloc _ _)⟩

theorem mem_false {l : List (List UInt8)} {x : List UInt8} (h : ∀ j (hj : j < l.length), ¬ l[j] = x) : decide (x ∈ l) = false := by
  rw [decide_eq_false_iff_not]
  intro hm
  obtain ⟨j, hj, e⟩ := List.getElem_of_mem hm
  exact h j hj e

set_option maxHeartbeats 1000000 in
theorem RHas_any (ad : Option Addr) (cap : Nat) (l : List (List UInt8)) (x : List UInt8) (w : World) (h : SlV w ad l) (hn : l.length ≤ 1000000) :
    Calls Tryz.prog 19 #[.slice ad l.length cap, .string ⟨x.toArray⟩] w fun e w' => e = .returned (.bool (decide (x ∈ l))) ∧ w' = w := by
  have Hl : Hid (SlV w ad l) := h
  clear h
  generalize hd : decide (x ∈ l) = d at *
  have Hd : Hid (decide (x ∈ l) = d) := hd
  clear hd
  go_enter Tryz.func19, Tryz.ntmps19
  go_wp2_with fail
  go_loop [5] (fun i => ∃ k : Nat, k ≤ l.length ∧ i = .int .i64 k ∧ Hid (∀ j (hj : j < l.length), j < k → ¬ l[j] = x)) (fun i => l.length - (intOf i).toNat)
  case atStart => exact ⟨0, Nat.zero_le _, rfl, fun j _ h => absurd h (by omega)⟩
  case round =>
    obtain ⟨k, hk, rfl, hno⟩ := hrel
    by_cases hlt : k < l.length
    · obtain ⟨b, rfl, hr⟩ := Hl.out (by intro e; rw [e] at hlt; simp at hlt)
      have c0 := hr k hlt
      unfold encV at c0
      have i0 : (0 : Int) ≤ (k : Int) := by omega
      have i1 : (k : Int) < (l.length : Int) := by omega
      clear hr
      by_cases he : l[k] = x
      · have hd2 : (l[k] == x) = true := by simpa using he
        have hdt : Hid (d = true) := by show d = true; rw [← Hd.out]; simp; exact he ▸ List.getElem_mem hlt
        clear he
        go_wp2
        go_ret
        exact ⟨ret_bool hdt.out.symm, rfl⟩
      · have hd2 : (l[k] == x) = false := by simpa using he
        have He : Hid (¬ l[k] = x) := he
        clear he
        go_wp2
        refine ⟨⟨k + 1, by omega, by go_num, fun j hj hjk => ?_⟩, by simp [intOf]; omega⟩
        by_cases e : j = k
        · subst e; exact He.out
        · exact hno.out j hj (by omega)
    · go_wp2
      go_ret
      exact ⟨ret_bool (by rw [← Hd.out, mem_false fun j hj => hno.out j hj (by omega)]), rfl⟩

theorem take_sameV {l m : List (List UInt8)} {k : Nat} (h : l.take k = m.take k) (hl : k < l.length) (hm : k < m.length) (e : l[k] = m[k]) : l.take (k + 1) = m.take (k + 1) := by
  rw [List.take_succ_eq_append_getElem hl, List.take_succ_eq_append_getElem hm, h, e]

end Go.Proofs.YtbacenhgedopjaaGreatDoor

/- Has and stratasame.Texts of lists of texts, wherever these begin. -/
namespace Go.Proofs.YtbacenhgedopjaaGreatDoor
open Go Go.RowKit Go.Proofs Go.Maps
set_option synthInstance.maxSize 1000

set_option maxHeartbeats 1000000 in
theorem WHas_any (ad : Option Addr) (cap : Nat) (l : List (List UInt8)) (x : List UInt8) (w : World) (h : SlW w ad l) (hn : l.length ≤ 9223372036854775807) :
    Calls Tryz.prog 19 #[.slice ad l.length cap, .string ⟨x.toArray⟩] w fun e w' => e = .returned (.bool (decide (x ∈ l))) ∧ w' = w := by
  have Hl : Hid (SlW w ad l) := h
  clear h
  generalize hd : decide (x ∈ l) = d at *
  have Hd : Hid (decide (x ∈ l) = d) := hd
  clear hd
  go_enter Tryz.func19, Tryz.ntmps19
  go_wp2_with fail
  go_loop [5] (fun i => ∃ k : Nat, k ≤ l.length ∧ i = .int .i64 k ∧ Hid (∀ j (hj : j < l.length), j < k → ¬ l[j] = x)) (fun i => l.length - (intOf i).toNat)
  case atStart => exact ⟨0, Nat.zero_le _, rfl, fun j _ h => absurd h (by omega)⟩
  case round =>
    obtain ⟨k, hk, rfl, hno⟩ := hrel
    by_cases hlt : k < l.length
    · obtain ⟨b, o, rfl, hr⟩ := Hl.out (by intro e; rw [e] at hlt; simp at hlt)
      have c0 := hr k hlt
      unfold encV at c0
      have i0 : (0 : Int) ≤ (k : Int) := by omega
      have i1 : (k : Int) < (l.length : Int) := by omega
      clear hr
      by_cases he : l[k] = x
      · have hd2 : (l[k] == x) = true := by simpa using he
        have hdt : Hid (d = true) := by show d = true; rw [← Hd.out]; simp; exact he ▸ List.getElem_mem hlt
        clear he
        go_wp2
        go_ret
        exact ⟨ret_bool hdt.out.symm, rfl⟩
      · have hd2 : (l[k] == x) = false := by simpa using he
        have He : Hid (¬ l[k] = x) := he
        clear he
        go_wp2
        refine ⟨⟨k + 1, by omega, by go_num, fun j hj hjk => ?_⟩, by simp [intOf]; omega⟩
        by_cases e : j = k
        · subst e; exact He.out
        · exact hno.out j hj (by omega)
    · go_wp2
      go_ret
      exact ⟨ret_bool (by rw [← Hd.out, mem_false fun j hj => hno.out j hj (by omega)]), rfl⟩

end Go.Proofs.YtbacenhgedopjaaGreatDoor

/- A region that draws its order, whose operations only read and whose calls leave all that was: walked once, in the order of the text. -/
namespace Go.Proofs.YtbacenhgedopjaaGreatDoor
open Go Go.RowKit Go.Proofs

/-- the worlds in which nothing old has turned -/
structure Lat (w : World) where
  val : World
  low : RowKit.Below w.heap.size w val
theorem lat_some (w : World) : Nonempty (Lat w) := ⟨⟨w, RowKit.Below.refl _ _⟩⟩
theorem lat_cell {w : World} {p : Addr} {v : Value} (h : w.cell? p = some v) : ∀ n : Lat w, n.val.cell? p = some v := fun n => (n.low.cell (World.block_lt_of_cell? w p h)).trans h
theorem lat_region {P : Program} {id : Nat} {Q : Exit → Act → World → Prop} {a : Act} {w : World} {l : List Oper} (hm : P.follows .mixedOrders = true) (hB : Region.lexB .any l.toArray = true)
    (h : wpQuiet P l.toArray (fun W => ∃ n : Lat w, W = n.val) (fun a' => ∀ W, (∃ n : Lat w, W = n.val) → Q .normal a' W) l a) : (Code.region id l.toArray true).wp P Q a w :=
  wp_region_quiet (C := fun W => ∃ n : Lat w, W = n.val) hm hB ⟨⟨w.drew, (RowKit.Below.refl _ _).drew⟩, rfl⟩ (by simpa using h)
theorem lat_call {P : Program} {f : FuncId} {args : Array Value} {w : World} {n : Lat w} {v : Value}
    (h : Calls P f args n.val fun e w' => e = .returned v ∧ RowKit.Below n.val.heap.size n.val w') : Calls P f args n.val fun e w'' => e = .returned v ∧ ∃ m : Lat w, w'' = m.val :=
  h.mono fun _ w' ⟨he, hb⟩ => ⟨he, ⟨w', n.low.trans (hb.mono n.low.size)⟩, rfl⟩
end Go.Proofs.YtbacenhgedopjaaGreatDoor

/- Rows of terms in order: sorted, once each, and just one way; plain lists, no program. -/
namespace Go.Proofs.YtbacenhgedopjaaGreatDoor
open Go Go.RowKit Go.Proofs
set_option synthInstance.maxSize 1000

/-- an order of rows of one length -/
structure OrdR (lt : List Tm → List Tm → Bool) (n : Nat) : Prop where
  irr : ∀ a, lt a a = false
  trans : ∀ {a b c}, lt a b = true → lt b c = true → lt a c = true
  total : ∀ {a b}, a.length = n → b.length = n → lt a b = false → lt b a = false → a = b
theorem ordQ (q : Qu) (n : Nat) : OrdR (ltQ q) n := ⟨fun a => ahead_irr _ _ a, fun h1 h2 => ahead_trans h1 h2, fun h1 h2 h3 h4 => ahead_total (h1.trans h2.symm) h3 h4⟩
/-- none is ahead of one before it -/
def SortedR (lt : List Tm → List Tm → Bool) (l : List (List Tm)) : Prop := l.Pairwise fun a b => lt b a = false
def LenR (n : Nat) (l : List (List Tm)) : Prop := ∀ x ∈ l, x.length = n
section
variable {lt : List Tm → List Tm → Bool} {n : Nat}
theorem OrdR.asym (o : OrdR lt n) {a b : List Tm} (h : lt a b = true) : lt b a = false := by
  cases h2 : lt b a with
  | false => rfl
  | true => exact absurd (o.trans h h2) (by rw [o.irr]; decide)
theorem OrdR.back (o : OrdR lt n) {a b c : List Tm} (ha : a.length = n) (hb : b.length = n) (h1 : lt b a = false) (h2 : lt c b = false) : lt c a = false := by
  cases h : lt c a with
  | false => rfl
  | true =>
    exfalso
    cases h3 : lt a b with
    | true => rw [o.trans h h3] at h2; cases h2
    | false => rw [o.total ha hb h3 h1] at h; rw [h] at h2; cases h2
theorem mem_ins {r x : List Tm} {l : List (List Tm)} : x ∈ insR lt r l ↔ x = r ∨ x ∈ l := by
  induction l with
  | nil => simp [insR]
  | cons y l ih =>
    unfold insR
    split
    · simp
    · simp only [List.mem_cons, ih]
      constructor
      · rintro (h | h | h)
        · exact Or.inr (Or.inl h)
        · exact Or.inl h
        · exact Or.inr (Or.inr h)
      · rintro (h | h | h)
        · exact Or.inr (Or.inl h)
        · exact Or.inl h
        · exact Or.inr (Or.inr h)
theorem len_ins (r : List Tm) (l : List (List Tm)) : (insR lt r l).length = l.length + 1 := by
  induction l with
  | nil => rfl
  | cons y l ih => unfold insR; split <;> simp [ih]
theorem perm_ins (r : List Tm) (l : List (List Tm)) : (insR lt r l).Perm (r :: l) := by
  induction l with
  | nil => exact List.Perm.refl _
  | cons y l ih =>
    unfold insR
    split
    · exact List.Perm.refl _
    · exact (List.Perm.cons y ih).trans (List.Perm.swap r y l)
theorem sorted_ins (o : OrdR lt n) {r : List Tm} {l : List (List Tm)} (hr : r.length = n) (hn : LenR n l) (h : SortedR lt l) : SortedR lt (insR lt r l) := by
  induction l with
  | nil => simp [SortedR, insR]
  | cons y l ih =>
    have hy := hn y (by simp)
    obtain ⟨h1, h2⟩ := List.pairwise_cons.1 h
    unfold insR
    split
    · rename_i hlt
      refine List.pairwise_cons.2 ⟨fun x hx => ?_, h⟩
      rcases List.mem_cons.1 hx with rfl | hx
      · exact o.asym hlt
      · cases hxr : lt x r with
        | false => rfl
        | true => have := o.trans hxr hlt; rw [h1 x hx] at this; cases this
    · rename_i hlt
      refine List.pairwise_cons.2 ⟨fun x hx => ?_, ih (fun x hx => hn x (by simp [hx])) h2⟩
      rcases mem_ins.1 hx with rfl | hx
      · simpa using hlt
      · exact h1 x hx
theorem len_put {dist : Bool} {out : List (List Tm)} {r : List Tm} (hr : r.length = n) (hn : LenR n out) : LenR n (putR lt dist out r) := by
  unfold putR
  split
  · exact hn
  · intro x hx
    rcases mem_ins.1 hx with rfl | hx
    · exact hr
    · exact hn x hx
theorem sorted_put (o : OrdR lt n) {dist : Bool} {out : List (List Tm)} {r : List Tm} (hr : r.length = n) (hn : LenR n out) (h : SortedR lt out) : SortedR lt (putR lt dist out r) := by
  unfold putR
  split
  · exact h
  · exact sorted_ins o hr hn h
theorem mem_put {dist : Bool} {out : List (List Tm)} {r x : List Tm} : x ∈ putR lt dist out r ↔ x = r ∨ x ∈ out := by
  unfold putR
  split
  · rename_i h
    constructor
    · exact Or.inr
    · rintro (rfl | h')
      · exact h.2
      · exact h'
  · exact mem_ins
theorem fold_len {dist : Bool} {rows : List (List Tm)} : ∀ {out : List (List Tm)}, LenR n rows → LenR n out → LenR n (rows.foldl (putR lt dist) out) := by
  induction rows with
  | nil => exact fun _ h => h
  | cons r l ih => exact fun h1 h2 => ih (fun x hx => h1 x (by simp [hx])) (len_put (h1 r (by simp)) h2)
theorem fold_sorted (o : OrdR lt n) {dist : Bool} {rows : List (List Tm)} : ∀ {out : List (List Tm)}, LenR n rows → LenR n out → SortedR lt out → SortedR lt (rows.foldl (putR lt dist) out) := by
  induction rows with
  | nil => exact fun _ _ h => h
  | cons r l ih => exact fun h1 h2 h3 => ih (fun x hx => h1 x (by simp [hx])) (len_put (h1 r (by simp)) h2) (sorted_put o (h1 r (by simp)) h2 h3)
theorem fold_mem {dist : Bool} {rows : List (List Tm)} {x : List Tm} : ∀ {out : List (List Tm)}, x ∈ rows.foldl (putR lt dist) out ↔ x ∈ rows ∨ x ∈ out := by
  induction rows with
  | nil => simp
  | cons r l ih =>
    intro out
    rw [List.foldl_cons, ih, mem_put, List.mem_cons]
    constructor
    · rintro (h | h | h)
      · exact Or.inl (Or.inr h)
      · exact Or.inl (Or.inl h)
      · exact Or.inr h
    · rintro ((h | h) | h)
      · exact Or.inr (Or.inl h)
      · exact Or.inl h
      · exact Or.inr (Or.inr h)
theorem fold_perm {rows : List (List Tm)} : ∀ {out : List (List Tm)}, (rows.foldl (putR lt false) out).Perm (rows ++ out) := by
  induction rows with
  | nil => exact fun {out} => List.Perm.refl _
  | cons r l ih =>
    intro out
    have e : putR lt false out r = insR lt r out := by unfold putR; rw [if_neg (by simp)]
    rw [List.foldl_cons, e]
    exact ih.trans ((List.Perm.append_left l (perm_ins r out)).trans List.perm_middle)
theorem fold_once {rows : List (List Tm)} : ∀ {out : List (List Tm)}, out.Nodup → (rows.foldl (putR lt true) out).Nodup := by
  induction rows with
  | nil => exact fun h => h
  | cons r l ih =>
    intro out h
    rw [List.foldl_cons]
    refine ih ?_
    unfold putR
    split
    · exact h
    · rename_i hn
      have hr : r ∉ out := fun h' => hn ⟨rfl, h'⟩
      exact (perm_ins r out).nodup_iff.2 (List.nodup_cons.2 ⟨hr, h⟩)
/-- two in order of the same are the same -/
theorem sorted_one (o : OrdR lt n) : ∀ {l m : List (List Tm)}, LenR n l → SortedR lt l → SortedR lt m → l.Perm m → l = m
  | [], m, _, _, _, hp => (List.Perm.nil_eq hp)
  | a :: l, [], _, _, _, hp => absurd hp.symm (by simp)
  | a :: l, b :: m, hn, h1, h2, hp => by
    have hn' : LenR n (b :: m) := fun x hx => hn x (hp.mem_iff.2 hx)
    obtain ⟨p1, q1⟩ := List.pairwise_cons.1 h1
    obtain ⟨p2, q2⟩ := List.pairwise_cons.1 h2
    have e : a = b := by
      have ha : a ∈ b :: m := hp.mem_iff.1 (by simp)
      have hb : b ∈ a :: l := hp.mem_iff.2 (by simp)
      rcases List.mem_cons.1 ha with h | ha
      · exact h
      · rcases List.mem_cons.1 hb with h | hb
        · exact h.symm
        · exact o.total (hn a (by simp)) (hn' b (by simp)) (p2 a ha) (p1 b hb)
    subst e
    rw [sorted_one o (fun x hx => hn x (by simp [hx])) q1 q2 ((List.perm_cons a).1 hp)]
/-- what is sorted, whoever does it -/
theorem sortR_all (o : OrdR lt n) {rows m : List (List Tm)} (hn : LenR n rows) (hs : SortedR lt m) (hp : m.Perm rows) : m = sortR lt false rows := by
  have hp' : (sortR lt false rows).Perm rows := by simpa [sortR] using fold_perm (lt := lt) (rows := rows) (out := [])
  exact (sorted_one o (fun x hx => hn x (hp'.mem_iff.1 hx)) (fold_sorted o hn (fun x hx => (by cases hx)) List.Pairwise.nil) hs (hp'.trans hp.symm)).symm
theorem sortR_once (o : OrdR lt n) {rows m : List (List Tm)} (hn : LenR n rows) (hs : SortedR lt m) (hd : m.Nodup) (hm : ∀ x, x ∈ m ↔ x ∈ rows) : m = sortR lt true rows := by
  have hd' : (sortR lt true rows).Nodup := fold_once List.nodup_nil
  have hm' : ∀ x, x ∈ sortR lt true rows ↔ x ∈ rows := fun x => by unfold sortR; simpa using fold_mem (lt := lt) (dist := true) (rows := rows) (x := x) (out := [])
  refine (sorted_one o (fun x hx => hn x ((hm' x).1 hx)) (fold_sorted o hn (fun x hx => (by cases hx)) List.Pairwise.nil) hs ?_).symm
  exact (List.perm_ext_iff_of_nodup hd' hd).2 fun x => (hm' x).trans (hm x).symm

/-- where a row comes in: behind the last that it is not ahead of -/
theorem ins_at (o : OrdR lt n) {r : List Tm} {l : List (List Tm)} (hn : LenR n l) (hs : SortedR lt l) {k : Nat} (hk : k ≤ l.length) (h1 : ∀ j (hj : j < l.length), k ≤ j → lt r l[j] = true) (h2 : ∀ (h : 0 < k), lt r (l[k - 1]'(by omega)) = false) : insR lt r l = l.take k ++ r :: l.drop k := by
  induction l generalizing k with
  | nil => simp [insR]
  | cons y l ih =>
    unfold insR
    cases k with
    | zero =>
      have h0 : lt r y = true := h1 0 (by simp) (Nat.le_refl _)
      rw [if_pos h0]; rfl
    | succ k =>
      obtain ⟨p1, q1⟩ := List.pairwise_cons.1 hs
      have hy : lt r y = false := by
        have h3 := h2 (by omega)
        cases k with
        | zero => exact h3
        | succ k =>
          have hm : (y :: l)[k + 1]'(by simp at hk ⊢; omega) ∈ l := by simp
          have e : (y :: l)[k + 1 + 1 - 1]'(by simp at hk ⊢; omega) = (y :: l)[k + 1]'(by simp at hk ⊢; omega) := rfl
          rw [e] at h3
          exact o.back (hn y (by simp)) (hn _ (List.mem_cons_of_mem y hm)) (p1 _ hm) h3
      rw [if_neg (by rw [hy]; decide), ih (fun x hx => hn x (by simp [hx])) q1 (k := k) (by simpa using hk) (fun j hj hkj => h1 (j + 1) (by simpa using hj) (by omega)) (fun h => ?_)]
      · rfl
      · have h3 := h2 (by omega)
        obtain ⟨k', rfl⟩ : ∃ k', k = k' + 1 := ⟨k - 1, by omega⟩
        exact h3
theorem mem_at (o : OrdR lt n) {r : List Tm} {l : List (List Tm)} (hr : r.length = n) (hn : LenR n l) (hs : SortedR lt l) {k : Nat} (hk : k ≤ l.length) (h1 : ∀ j (hj : j < l.length), k ≤ j → lt r l[j] = true) (h2 : ∀ (h : 0 < k), lt r (l[k - 1]'(by omega)) = false) : r ∈ l ↔ ∃ h : 0 < k, l[k - 1]'(by omega) = r := by
  constructor
  · intro hm
    obtain ⟨j, hj, e⟩ := List.getElem_of_mem hm
    have hjk : j < k := by
      rcases Nat.lt_or_ge j k with h | h
      · exact h
      · have := h1 j hj h
        rw [e, o.irr] at this
        cases this
    refine ⟨by omega, ?_⟩
    rcases Nat.lt_or_ge j (k - 1) with h | h
    · have h3 := List.pairwise_iff_getElem.1 hs j (k - 1) hj (by omega) h
      rw [e] at h3
      exact o.total (hn _ (List.getElem_mem _)) hr h3 (h2 (by omega))
    · have : j = k - 1 := by omega
      subst this
      exact e
  · rintro ⟨h, e⟩
    rw [← e]
    exact List.getElem_mem _
end
end Go.Proofs.YtbacenhgedopjaaGreatDoor

/- An answer answers: each part that is asked is there; plain lists, no program. -/
namespace Go.Proofs.YtbacenhgedopjaaGreatDoor
open Go Go.RowKit Go.Proofs
set_option synthInstance.maxSize 1000

/-! ### what a variable is -/
theorem bound_app : ∀ {vars fr : List (List UInt8)} {r ts : List Tm} {s : List UInt8} {x : Tm}, r.length = vars.length → boundT vars r s = some x → boundT (vars ++ fr) (r ++ ts) s = some x
  | [], _, _, _, _, _, _, h => by simp [boundT] at h
  | v :: vs, fr, [], ts, s, x, hl, h => by simp at hl
  | v :: vs, fr, t :: r, ts, s, x, hl, h => by
    simp only [List.cons_append, boundT] at h ⊢
    split
    · rename_i hc; rw [if_pos hc] at h; exact h
    · rename_i hc; rw [if_neg hc] at h; exact bound_app (by simpa using hl) h
theorem bound_new : ∀ {vars fr : List (List UInt8)} {r ts : List Tm} {s : List UInt8}, r.length = vars.length → boundT vars r s = none → boundT (vars ++ fr) (r ++ ts) s = boundT fr ts s
  | [], _, [], _, _, _, _ => rfl
  | [], _, t :: r, _, _, hl, _ => by simp at hl
  | v :: vs, fr, [], ts, s, hl, h => by simp at hl
  | v :: vs, fr, t :: r, ts, s, hl, h => by
    simp only [List.cons_append, boundT] at h ⊢
    split
    · rename_i hc; rw [if_pos hc] at h; cases h
    · rename_i hc; rw [if_neg hc] at h; exact bound_new (by simpa using hl) h
theorem bound_none : ∀ {vars : List (List UInt8)} {r : List Tm} {s : List UInt8}, s ≠ [] → r.length = vars.length → (boundT vars r s = none ↔ s ∉ vars)
  | [], r, s, _, _ => by simp [boundT]
  | v :: vs, [], s, _, hl => by simp at hl
  | v :: vs, t :: r, s, hs, hl => by
    simp only [boundT]
    by_cases hv : v = s
    · rw [if_pos ⟨hv, hs⟩]; simp [hv]
    · rw [if_neg (fun h => hv h.1), bound_none hs (by simpa using hl)]
      simp [Ne.symm hv]
theorem bound_empty : ∀ (vars : List (List UInt8)) (r : List Tm), boundT vars r [] = none
  | [], _ => rfl
  | v :: vs, [] => rfl
  | v :: vs, t :: r => by simp only [boundT]; rw [if_neg (by simp)]; exact bound_empty vs r
theorem bound_map : ∀ {fr : List (List UInt8)} {f : List UInt8 → Tm} {s : List UInt8}, s ≠ [] → s ∈ fr → boundT fr (fr.map f) s = some (f s)
  | [], _, _, _, h => by cases h
  | v :: vs, f, s, hs, h => by
    simp only [List.map_cons, boundT]
    by_cases hv : v = s
    · rw [if_pos ⟨hv, hs⟩, hv]
    · rw [if_neg (fun h => hv h.1)]
      refine bound_map hs ?_
      rcases List.mem_cons.1 h with h | h
      · exact absurd h.symm hv
      · exact h
theorem bound_mem : ∀ {vars : List (List UInt8)} {r : List Tm} {s : List UInt8} {x : Tm}, boundT vars r s = some x → x ∈ r
  | [], _, _, _, h => by simp [boundT] at h
  | v :: vs, [], _, _, h => by simp [boundT] at h
  | v :: vs, t :: r, s, x, h => by
    simp only [boundT] at h
    split at h
    · injection h with h; subst h; simp
    · exact List.mem_cons_of_mem _ (bound_mem h)
theorem addV_mem {l : List (List UInt8)} {s : Sl} {v : List UInt8} : v ∈ addV l s ↔ v ∈ l ∨ (v = s.1 ∧ v ≠ []) := by
  unfold addV
  by_cases h0 : s.1 = []
  · rw [if_pos h0]
    constructor
    · exact Or.inl
    · rintro (h | ⟨h, h'⟩)
      · exact h
      · exact absurd (h.trans h0) h'
  · rw [if_neg h0]
    by_cases h1 : s.1 ∈ l
    · rw [if_pos h1]
      constructor
      · exact Or.inl
      · rintro (h | ⟨h, _⟩)
        · exact h
        · rw [h]; exact h1
    · rw [if_neg h1, List.mem_append, List.mem_singleton]
      constructor
      · rintro (h | h)
        · exact Or.inl h
        · exact Or.inr ⟨h, by rw [h]; exact h0⟩
      · rintro (h | ⟨h, _⟩)
        · exact Or.inl h
        · exact Or.inr h
theorem varsL_mem {p : Pt} {v : List UInt8} : v ∈ varsL p ↔ v ≠ [] ∧ (v = p.1.1 ∨ v = p.2.1.1 ∨ v = p.2.2.1) := by
  unfold varsL
  rw [addV_mem, addV_mem, addV_mem]
  constructor
  · rintro ((((h | ⟨h, k⟩) | ⟨h, k⟩)) | ⟨h, k⟩)
    · cases h
    · exact ⟨k, Or.inl h⟩
    · exact ⟨k, Or.inr (Or.inl h)⟩
    · exact ⟨k, Or.inr (Or.inr h)⟩
  · rintro ⟨k, h | h | h⟩
    · exact Or.inl (Or.inl (Or.inr ⟨h, k⟩))
    · exact Or.inl (Or.inr ⟨h, k⟩)
    · exact Or.inr ⟨h, k⟩

/-! ### a part is there -/
def slotOk (vars : List (List UInt8)) (r : List Tm) (s : Sl) (x : Tm) : Prop := if s.1 = [] then x = s.2 else boundT vars r s.1 = some x
def HoldsAt (S : List Tr) (vars : List (List UInt8)) (r : List Tm) (p : Pt) : Prop := ∃ t ∈ S, slotOk vars r p.1 t.1 ∧ slotOk vars r p.2.1 t.2.1 ∧ slotOk vars r p.2.2 t.2.2
theorem ok_app {vars fr : List (List UInt8)} {r ts : List Tm} {s : Sl} {x : Tm} (hl : r.length = vars.length) (h : slotOk vars r s x) : slotOk (vars ++ fr) (r ++ ts) s x := by
  unfold slotOk at *
  split
  · rename_i h0; rw [if_pos h0] at h; exact h
  · rename_i h0; rw [if_neg h0] at h; exact bound_app hl h
theorem holds_app {S : List Tr} {vars fr : List (List UInt8)} {r ts : List Tm} {p : Pt} (hl : r.length = vars.length) (h : HoldsAt S vars r p) : HoldsAt S (vars ++ fr) (r ++ ts) p := by
  obtain ⟨t, ht, h1, h2, h3⟩ := h
  exact ⟨t, ht, ok_app hl h1, ok_app hl h2, ok_app hl h3⟩
theorem bindS_some {vars : List (List UInt8)} {r : List Tm} {s : Sl} {x : Tm} (h : boundT vars r s.1 = some x) : bindS vars r s = ([], x) := by unfold bindS; rw [h]
theorem bindS_none {vars : List (List UInt8)} {r : List Tm} {s : Sl} (h : boundT vars r s.1 = none) : bindS vars r s = s := by unfold bindS; rw [h]
theorem fresh_mem {vars : List (List UInt8)} {p : Pt} {v : List UInt8} : v ∈ freshV vars p ↔ v ∈ varsL p ∧ v ∉ vars := by simp [freshV]
/-- a slot of a pattern that a triple fits, behind what it told -/
theorem ext_ok {vars : List (List UInt8)} {p : Pt} {r : List Tm} {t : Tr} {s : Sl} {x : Tm} (hl : r.length = vars.length) (hs : s.1 ≠ [] → s.1 ∈ varsL p) (h0 : s.1 = [] → x = s.2) (h1 : ∀ y, s.1 ≠ [] → boundT vars r s.1 = some y → x = y) (h2 : s.1 ≠ [] → boundT vars r s.1 = none → pickT p t s.1 = x) : slotOk (vars ++ freshV vars p) (extR vars p r t) s x := by
  unfold slotOk extR
  by_cases he : s.1 = []
  · rw [if_pos he]; exact h0 he
  · rw [if_neg he]
    cases hb : boundT vars r s.1 with
    | some y => rw [bound_app hl hb, h1 y he hb]
    | none =>
      rw [bound_new hl hb, bound_map he (fresh_mem.2 ⟨hs he, (bound_none he hl).1 hb⟩), h2 he hb]
theorem fits_holds {S : List Tr} {vars : List (List UInt8)} {r : List Tm} {p : Pt} {t : Tr} (hl : r.length = vars.length) (ht : t ∈ matchP S (bindP vars r p)) : HoldsAt S (vars ++ freshV vars p) (extR vars p r t) p := by
  obtain ⟨hS, hf⟩ := List.mem_filter.1 ht
  unfold fitsB bindP at hf
  simp only [Bool.and_eq_true] at hf
  obtain ⟨f1, f2, f3⟩ := hf
  refine ⟨t, hS, ext_ok hl (fun h => varsL_mem.2 ⟨h, Or.inl rfl⟩) (fun h => ?_) (fun y h hb => ?_) (fun h hb => ?_), ext_ok hl (fun h => varsL_mem.2 ⟨h, Or.inr (Or.inl rfl)⟩) (fun h => ?_) (fun y h hb => ?_) (fun h hb => ?_), ext_ok hl (fun h => varsL_mem.2 ⟨h, Or.inr (Or.inr rfl)⟩) (fun h => ?_) (fun y h hb => ?_) (fun h hb => ?_)⟩
  · rw [bindS_none (by rw [h]; exact bound_empty _ _), if_pos h] at f1
    exact of_decide_eq_true f1
  · rw [bindS_some hb, if_pos rfl] at f1
    exact of_decide_eq_true f1
  · unfold pickT; rw [if_pos rfl]
  · rw [bindS_none (s := p.2.1) (by rw [h]; exact bound_empty _ _), if_pos h] at f2
    exact of_decide_eq_true f2
  · rw [bindS_some (s := p.2.1) hb, if_pos rfl] at f2
    exact of_decide_eq_true f2
  · unfold pickT
    by_cases e : p.1.1 = p.2.1.1
    · rw [if_pos e]
      rw [bindS_none (s := p.2.1) hb, if_neg h, bindS_none (s := p.1) (by rw [e]; exact hb), if_pos e.symm] at f2
      exact (of_decide_eq_true f2).symm
    · rw [if_neg e, if_pos rfl]
  · rw [bindS_none (s := p.2.2) (by rw [h]; exact bound_empty _ _), if_pos h] at f3
    exact of_decide_eq_true f3
  · rw [bindS_some (s := p.2.2) hb, if_pos rfl] at f3
    exact of_decide_eq_true f3
  · unfold pickT
    by_cases e : p.1.1 = p.2.2.1
    · rw [if_pos e]
      rw [bindS_none (s := p.2.2) hb, if_neg h, bindS_none (s := p.1) (by rw [e]; exact hb), if_pos e.symm] at f3
      exact (of_decide_eq_true f3).symm
    · rw [if_neg e]
      by_cases e2 : p.2.1.1 = p.2.2.1
      · rw [if_pos e2]
        have hne : p.2.2.1 ≠ (bindS vars r p.1).1 := by
          cases hb1 : boundT vars r p.1.1 with
          | none => rw [bindS_none hb1]; exact fun h' => e h'.symm
          | some y => rw [bindS_some hb1]; exact h
        rw [bindS_none (s := p.2.2) hb, if_neg h, if_neg hne, bindS_none (s := p.2.1) (by rw [e2]; exact hb), if_pos e2.symm] at f3
        exact (of_decide_eq_true f3).symm
      · rw [if_neg e2]

/-! ### all answers -/
/-- what holds of the answers so far -/
structure AnsOK (S : List Tr) (done : List Pt) (vars : List (List UInt8)) (rows : List (List Tm)) : Prop where
  len : ∀ r ∈ rows, r.length = vars.length
  holds : ∀ r ∈ rows, ∀ p ∈ done, HoldsAt S vars r p
  has : ∀ p ∈ done, ∀ v ∈ varsL p, v ∈ vars
  from_ : ∀ r ∈ rows, ∀ x ∈ r, ∃ t ∈ S, x = t.1 ∨ x = t.2.1 ∨ x = t.2.2
theorem AnsOK.start (S : List Tr) : AnsOK S [] [] [[]] := ⟨fun r h => by simp at h; simp [h], fun _ _ p h => (by cases h), fun p h => (by cases h), fun r h x hx => by simp at h; rw [h] at hx; cases hx⟩
theorem AnsOK.step {S : List Tr} {done : List Pt} {vars : List (List UInt8)} {rows : List (List Tm)} (h : AnsOK S done vars rows) (p : Pt) : AnsOK S (done ++ [p]) (vars ++ freshV vars p) (stepR S vars p rows) := by
  have hm : ∀ r' ∈ stepR S vars p rows, ∃ r ∈ rows, ∃ t, t ∈ matchP S (bindP vars r p) ∧ r' = extR vars p r t := fun r' hr' => by
    obtain ⟨r, hr, h1⟩ := List.mem_flatMap.1 hr'
    obtain ⟨t, ht, rfl⟩ := List.mem_map.1 h1
    exact ⟨r, hr, t, ht, rfl⟩
  refine ⟨fun r' hr' => ?_, fun r' hr' p' hp' => ?_, fun p' hp' v hv => ?_, fun r' hr' x hx => ?_⟩
  · obtain ⟨r, hr, t, ht, rfl⟩ := hm r' hr'
    simp [extR, h.len r hr]
  · obtain ⟨r, hr, t, ht, rfl⟩ := hm r' hr'
    rcases List.mem_append.1 hp' with hp' | hp'
    · exact holds_app (h.len r hr) (h.holds r hr p' hp')
    · have e : p' = p := by simpa using hp'
      subst e
      exact fits_holds (h.len r hr) ht
  · rcases List.mem_append.1 hp' with hp' | hp'
    · exact List.mem_append_left _ (h.has p' hp' v hv)
    · have e : p' = p := by simpa using hp'
      subst e
      by_cases hin : v ∈ vars
      · exact List.mem_append_left _ hin
      · exact List.mem_append_right _ (fresh_mem.2 ⟨hv, hin⟩)
  · obtain ⟨r, hr, t, ht, rfl⟩ := hm r' hr'
    rcases List.mem_append.1 hx with hx | hx
    · exact h.from_ r hr x hx
    · obtain ⟨v, _, rfl⟩ := List.mem_map.1 hx
      refine ⟨t, (List.mem_filter.1 ht).1, ?_⟩
      unfold pickT
      split
      · exact Or.inl rfl
      · split
        · exact Or.inr (Or.inl rfl)
        · exact Or.inr (Or.inr rfl)
theorem answers_ok {S : List Tr} : ∀ (ps : List Pt) {done : List Pt} {vars vars' : List (List UInt8)} {rows rows' : List (List Tm)}, AnsOK S done vars rows → answersF S vars rows ps = some (vars', rows') → AnsOK S (done ++ ps) vars' rows' ∧ rows'.length ≤ max rows.length 500
  | [], done, vars, vars', rows, rows', h, e => by
    simp only [answersF, Option.some.injEq, Prod.mk.injEq] at e
    obtain ⟨rfl, rfl⟩ := e
    rw [List.append_nil]
    exact ⟨h, Nat.le_max_left _ _⟩
  | p :: ps, done, vars, vars', rows, rows', h, e => by
    unfold answersF at e
    split at e
    · cases e
    · rename_i hn
      obtain ⟨h1, h2⟩ := answers_ok ps (h.step p) e
      rw [List.append_assoc] at h1
      refine ⟨h1, ?_⟩
      omega
theorem answersL_ok {S : List Tr} {ps : List Pt} {vars : List (List UInt8)} {rows : List (List Tm)} (e : answersL S ps = some (vars, rows)) : AnsOK S ps vars rows ∧ rows.length ≤ 500 := by
  obtain ⟨h1, h2⟩ := answers_ok ps (AnsOK.start S) e
  exact ⟨by simpa using h1, by simpa using h2⟩
theorem addAll_mem : ∀ {l o : List (List UInt8)} {v : List UInt8}, v ∈ addAll o l ↔ v ∈ o ∨ v ∈ l
  | [], o, v => by simp [addAll]
  | x :: l, o, v => by
    rw [addAll, addAll_mem]
    by_cases h : x ∈ o
    · rw [if_pos h, List.mem_cons]
      constructor
      · rintro (h' | h')
        · exact Or.inl h'
        · exact Or.inr (Or.inr h')
      · rintro (h' | h' | h')
        · exact Or.inl h'
        · rw [h']; exact Or.inl h
        · exact Or.inr h'
    · rw [if_neg h, List.mem_append, List.mem_singleton, List.mem_cons]
      constructor
      · rintro ((h' | h') | h')
        · exact Or.inl h'
        · exact Or.inr (Or.inl h')
        · exact Or.inr (Or.inr h')
      · rintro (h' | h' | h')
        · exact Or.inl (Or.inl h')
        · exact Or.inl (Or.inr h')
        · exact Or.inr h'
theorem partsV_mem : ∀ {l : List Pt} {o : List (List UInt8)} {v : List UInt8}, v ∈ partsV o l ↔ v ∈ o ∨ ∃ p ∈ l, v ∈ varsL p
  | [], o, v => by simp [partsV]
  | p :: l, o, v => by
    rw [partsV, partsV_mem, addAll_mem]
    constructor
    · rintro ((h | h) | ⟨p', h1, h2⟩)
      · exact Or.inl h
      · exact Or.inr ⟨p, by simp, h⟩
      · exact Or.inr ⟨p', by simp [h1], h2⟩
    · rintro (h | ⟨p', h1, h2⟩)
      · exact Or.inl (Or.inl h)
      · rcases List.mem_cons.1 h1 with rfl | h1
        · exact Or.inl (Or.inr h2)
        · exact Or.inr ⟨p', h1, h2⟩

/-! ### what is told, bound -/
theorem told_bound {vars told : List (List UInt8)} {r : List Tm} {s : List UInt8} {x : Tm} (h0 : s ≠ []) (hs : s ∈ told) (hx : boundT vars r s = some x) : boundT told (projR vars told r) s = some x := by
  unfold projR
  rw [bound_map h0 hs, hx]
  rfl
theorem told_free {vars told : List (List UInt8)} {r : List Tm} {s : List UInt8} (hs : s ∉ told) : boundT told (projR vars told r) s = none := by
  by_cases h0 : s = []
  · rw [h0]; exact bound_empty _ _
  · exact (bound_none h0 (by simp [projR])).2 hs
/-- an answer's own triple fits a part with what is told bound -/
theorem told_fits {vars told : List (List UInt8)} {r : List Tm} {p : Pt} {t : Tr} (h1 : slotOk vars r p.1 t.1) (h2 : slotOk vars r p.2.1 t.2.1) (h3 : slotOk vars r p.2.2 t.2.2) : fitsB (bindP told (projR vars told r) p) t = true := by
  have key : ∀ (s : Sl) (x : Tm), slotOk vars r s x → (bindS told (projR vars told r) s = ([], x)) ∨ (s.1 ≠ [] ∧ bindS told (projR vars told r) s = s ∧ boundT vars r s.1 = some x) := fun s x h => by
    unfold slotOk at h
    by_cases h0 : s.1 = []
    · rw [if_pos h0] at h
      left
      rw [bindS_none (by rw [h0]; exact bound_empty _ _)]
      obtain ⟨a, b⟩ := s
      simp only at h0 h
      rw [h0, h]
    · rw [if_neg h0] at h
      by_cases hs : s.1 ∈ told
      · exact Or.inl (bindS_some (told_bound h0 hs h))
      · exact Or.inr ⟨h0, bindS_none (told_free hs), h⟩
  have two : ∀ {s s' : Sl} {x x' : Tm}, boundT vars r s.1 = some x → boundT vars r s'.1 = some x' → s.1 = s'.1 → x = x' := fun h h' e => by
    rw [e] at h
    exact Option.some.inj (h.symm.trans h')
  unfold fitsB bindP
  simp only [Bool.and_eq_true]
  refine ⟨?_, ?_, ?_⟩
  · rcases key _ _ h1 with e | ⟨n1, e, b1⟩
    · rw [e]; simp
    · rw [e, if_neg n1]
  · rcases key _ _ h2 with e | ⟨n2, e, b2⟩
    · rw [e]; simp
    · rw [e, if_neg n2]
      rcases key _ _ h1 with e1 | ⟨n1, e1, b1⟩
      · rw [e1, if_neg n2]
      · rw [e1]
        split
        · rename_i he; exact decide_eq_true (two b2 b1 he)
        · rfl
  · rcases key _ _ h3 with e | ⟨n3, e, b3⟩
    · rw [e]; simp
    · rw [e, if_neg n3]
      rcases key _ _ h1 with e1 | ⟨n1, e1, b1⟩
      · rw [e1, if_neg n3]
        rcases key _ _ h2 with e2 | ⟨n2, e2, b2⟩
        · rw [e2, if_neg n3]
        · rw [e2]
          split
          · rename_i he; exact decide_eq_true (two b3 b2 he)
          · rfl
      · rw [e1]
        split
        · rename_i he; exact decide_eq_true (two b3 b1 he)
        · rcases key _ _ h2 with e2 | ⟨n2, e2, b2⟩
          · rw [e2, if_neg n3]
          · rw [e2]
            split
            · rename_i he; exact decide_eq_true (two b3 b2 he)
            · rfl
end Go.Proofs.YtbacenhgedopjaaGreatDoor

/- The document's Answers, step by step; plain lists, no program. -/
namespace Go.Proofs.YtbacenhgedopjaaGreatDoor
open Go Go.RowKit Go.Proofs
set_option synthInstance.maxSize 1000

/-! ### which variables are new -/
def freshK (vars : List (List UInt8)) (l : List (List UInt8)) (k : Nat) : List (List UInt8) := (l.take k).filter fun v => !decide (v ∈ vars)
theorem freshK_zero (vars l : List (List UInt8)) : freshK vars l 0 = [] := rfl
theorem freshK_new {vars l : List (List UInt8)} {k : Nat} (h : k < l.length) (hn : l[k] ∉ vars) : freshK vars l (k + 1) = freshK vars l k ++ [l[k]] := by
  unfold freshK
  rw [List.take_succ_eq_append_getElem h, List.filter_append]
  simp [hn]
theorem freshK_old {vars l : List (List UInt8)} {k : Nat} (h : k < l.length) (hn : l[k] ∈ vars) : freshK vars l (k + 1) = freshK vars l k := by
  unfold freshK
  rw [List.take_succ_eq_append_getElem h, List.filter_append]
  simp [hn]
theorem freshK_all (vars : List (List UInt8)) (p : Pt) : freshK vars (varsL p) (varsL p).length = freshV vars p := by
  unfold freshK freshV
  rw [List.take_length]
theorem freshK_len (vars l : List (List UInt8)) (k : Nat) : (freshK vars l k).length ≤ k := by
  unfold freshK
  refine Nat.le_trans (List.length_filter_le _ _) ?_
  rw [List.length_take]
  omega
theorem varsL_few (p : Pt) : (varsL p).length ≤ 3 := by
  have h : ∀ (l : List (List UInt8)) (s : Sl), (addV l s).length ≤ l.length + 1 := fun l s => by
    unfold addV
    split
    · omega
    · split
      · omega
      · simp
  unfold varsL
  have h1 := h [] p.1
  have h2 := h (addV [] p.1) p.2.1
  have h3 := h (addV (addV [] p.1) p.2.1) p.2.2
  simp at h1
  omega
theorem fresh_few (vars : List (List UInt8)) (p : Pt) : (freshV vars p).length ≤ 3 := Nat.le_trans (List.length_filter_le _ _) (varsL_few p)

/-! ### a row -/
def rowK (p : Pt) (t : Tr) (r : List Tm) (fresh : List (List UInt8)) (k : Nat) : List Tm := r ++ (fresh.take k).map (pickT p t)
theorem rowK_zero (p : Pt) (t : Tr) (r : List Tm) (fresh : List (List UInt8)) : rowK p t r fresh 0 = r := by simp [rowK]
theorem rowK_next {p : Pt} {t : Tr} {r : List Tm} {fresh : List (List UInt8)} {k : Nat} (h : k < fresh.length) : rowK p t r fresh (k + 1) = rowK p t r fresh k ++ [pickT p t fresh[k]] := by
  unfold rowK
  rw [List.take_succ_eq_append_getElem h, List.map_append]
  simp
theorem rowK_all (vars : List (List UInt8)) (p : Pt) (t : Tr) (r : List Tm) : rowK p t r (freshV vars p) (freshV vars p).length = extR vars p r t := by
  unfold rowK extR
  rw [List.take_length]
theorem rowK_len (p : Pt) (t : Tr) (r : List Tm) (fresh : List (List UInt8)) (k : Nat) : (rowK p t r fresh k).length ≤ r.length + k := by
  unfold rowK
  rw [List.length_append, List.length_map, List.length_take]
  omega
/-- a triple's part, a pattern's slot, by number -/
def partK (t : Tr) (g : Nat) : Tm := if g = 0 then t.1 else if g = 1 then t.2.1 else t.2.2
def slotV (p : Pt) (g : Nat) : List UInt8 := if g = 0 then p.1.1 else if g = 1 then p.2.1.1 else p.2.2.1
/-- the first slot of a variable tells what it is -/
theorem pick_first {p : Pt} {t : Tr} {v : List UInt8} {g : Nat} (hg : g < 3) (h : slotV p g = v) (hb : ∀ j, j < g → slotV p j ≠ v) : pickT p t v = partK t g := by
  unfold pickT
  rcases (by omega : g = 0 ∨ g = 1 ∨ g = 2) with rfl | rfl | rfl
  · have h' : p.1.1 = v := h
    rw [if_pos h']; rfl
  · have h' : p.2.1.1 = v := h
    have h0 : p.1.1 ≠ v := hb 0 (by omega)
    rw [if_neg h0, if_pos h']; rfl
  · have h0 : p.1.1 ≠ v := hb 0 (by omega)
    have h1 : p.2.1.1 ≠ v := hb 1 (by omega)
    rw [if_neg h0, if_neg h1]; rfl
theorem pick_found {vars : List (List UInt8)} {p : Pt} {v : List UInt8} (hv : v ∈ freshV vars p) : ¬ ∀ j, j < 3 → slotV p j ≠ v := fun h => by
  rcases (varsL_mem.1 (fresh_mem.1 hv).1).2 with e | e | e
  · exact h 0 (by omega) e.symm
  · exact h 1 (by omega) e.symm
  · exact h 2 (by omega) e.symm

/-! ### rows -/
def madeK (vars : List (List UInt8)) (p : Pt) (r : List Tm) (m : List Tr) (k : Nat) : List (List Tm) := (m.take k).map (extR vars p r)
theorem madeK_next {vars : List (List UInt8)} {p : Pt} {r : List Tm} {m : List Tr} {k : Nat} (h : k < m.length) : madeK vars p r m (k + 1) = madeK vars p r m k ++ [extR vars p r m[k]] := by
  unfold madeK
  rw [List.take_succ_eq_append_getElem h, List.map_append]
  rfl
theorem madeK_all (S : List Tr) (vars : List (List UInt8)) (p : Pt) (r : List Tm) : madeK vars p r (matchP S (bindP vars r p)) (matchP S (bindP vars r p)).length = rowsOf S vars p r := by
  unfold madeK rowsOf
  rw [List.take_length]
theorem madeK_len (vars : List (List UInt8)) (p : Pt) (r : List Tm) (m : List Tr) (k : Nat) : (madeK vars p r m k).length ≤ k := by
  unfold madeK
  rw [List.length_map, List.length_take]
  omega
theorem match_len (S : List Tr) (p : Pt) : (matchP S p).length ≤ S.length := List.length_filter_le _ _
theorem step_next {S : List Tr} {vars : List (List UInt8)} {p : Pt} {rows : List (List Tm)} {j : Nat} (h : j < rows.length) : stepR S vars p (rows.take (j + 1)) = stepR S vars p (rows.take j) ++ rowsOf S vars p rows[j] := by
  unfold stepR
  rw [List.take_succ_eq_append_getElem h, List.flatMap_append]
  simp
theorem rowsOf_len (S : List Tr) (vars : List (List UInt8)) (p : Pt) (r : List Tm) : (rowsOf S vars p r).length = (matchP S (bindP vars r p)).length := by simp [rowsOf]
theorem step_le (S : List Tr) (vars : List (List UInt8)) (p : Pt) (rows : List (List Tm)) (j : Nat) : (stepR S vars p (rows.take j)).length ≤ (stepR S vars p rows).length := by
  conv => rhs; rw [← List.take_append_drop j rows]
  unfold stepR
  rw [List.flatMap_append, List.length_append]
  omega
theorem answers_over {S : List Tr} {vars : List (List UInt8)} {p : Pt} {ps : List Pt} {rows : List (List Tm)} {j : Nat} (h : 500 < (stepR S vars p (rows.take j)).length) : answersF S vars rows (p :: ps) = none := by
  have := step_le S vars p rows j
  rw [answersF, if_pos (by omega)]
theorem answers_next {S : List Tr} {vars : List (List UInt8)} {p : Pt} {ps : List Pt} {rows : List (List Tm)} (h : ¬ 500 < (stepR S vars p rows).length) : answersF S vars rows (p :: ps) = answersF S (vars ++ freshV vars p) (stepR S vars p rows) ps := by
  rw [answersF, if_neg h]
theorem looked_next {S : List Tr} {vars : List (List UInt8)} {p : Pt} {ps : List Pt} {rows : List (List Tm)} : lookedF S vars rows (p :: ps) = (stepR S vars p rows).length + lookedF S (vars ++ freshV vars p) (stepR S vars p rows) ps := rfl
theorem step_len {S : List Tr} {vars : List (List UInt8)} {p : Pt} {rows : List (List Tm)} (h : ∀ r ∈ rows, r.length = vars.length) : ∀ r ∈ stepR S vars p rows, r.length = (vars ++ freshV vars p).length := fun r' hr' => by
  obtain ⟨r, hr, h1⟩ := List.mem_flatMap.1 hr'
  obtain ⟨t, ht, rfl⟩ := List.mem_map.1 h1
  simp [extR, h r hr]
end Go.Proofs.YtbacenhgedopjaaGreatDoor

/- Rows of one's own that lie in blocks of their own. -/
namespace Go.Proofs.YtbacenhgedopjaaGreatDoor
open Go Go.RowKit Go.Proofs

theorem own_mono {W : World} {B C e s n : Nat} {v : Value} {xs : List Value} (h : W.ownsRow B e s v n xs) (hb : C ≤ B) : W.ownsRow C e s v n xs :=
  ⟨h.1, h.2.imp id fun ⟨g, cap, cur, e, hg, r⟩ => ⟨g, cap, cur, e, Nat.le_trans hb hg, r⟩⟩
/-- two rows of one's own lie in blocks of their own -/
def Far2 (v u : Value) : Prop := ∀ g, v.ownBlock = some g → u.ownBlock ≠ some g
theorem Far2.symm {v u : Value} (h : Far2 v u) : Far2 u v := fun g h1 h2 => h g h2 h1
theorem Far2.out {v u : Value} (h : Far2 v u) : u.ownBlock = none ∨ u.ownBlock ≠ v.ownBlock := by
  cases e : u.ownBlock with
  | none => exact .inl rfl
  | some g => exact .inr fun e' => h g e'.symm e
theorem far2_nil (u : Value) : Far2 (.slice none 0 0) u := fun g h => by cases h
theorem Far2.grow {v v' u : Value} {W : World} {B e s n : Nat} {ys : List Value} (h : Far2 v u) (hu : W.ownsRow B e s u n ys) (hv : v'.ownBlock = v.ownBlock ∨ v'.ownBlock = some W.heap.size) : Far2 v' u := fun g h1 h2 => by
  rcases hv with hv | hv
  · exact h g (hv ▸ h1) h2
  · rw [hv] at h1
    cases h1
    have := (hu.lt _ h2).2
    omega
end Go.Proofs.YtbacenhgedopjaaGreatDoor
