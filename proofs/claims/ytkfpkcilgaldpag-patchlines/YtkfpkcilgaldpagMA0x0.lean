import Derived.Test.YtkfpkcilgaldpagRows
import Derived.WalkKit
import Derived.Below
import Derived.Shelf.Abstract
import Derived.Shelf.Strings.Builder1
import Derived.Shelf.Strings.Builder2
import Derived.Shelf.Small.Strs
import Derived.Shelf.Small.Wraps
import Derived.Shelf.Strings.BuilderF
import Derived.Shelf.Strings.BuilderK
import Derived.Shelf.LaysM
import Derived.Shelf.Strconv.Clone
import Derived.Test.YtkfpkcilgaldpagProg
import Derived.Lib.Builder
import Derived.OwnWalk
import Derived.Deep.RegionWith
import Derived.BigQuiet

/- The leaves of package term: which bytes may stand where. Each contract says what the call returns; the world is as it was. -/
namespace Go.Proofs.Ytkfpkcilgaldpag
open Go

/-- a letter a to z, a digit, and the three sets of bytes that the chapter names -/
def letB (n : Int) : Bool := decide (97 ≤ n ∧ n ≤ 122)
def digB (n : Int) : Bool := decide (48 ≤ n ∧ n ≤ 57)
def nameB (n : Int) : Bool := letB n || digB n || decide (n = 58 ∨ n = 47 ∨ n = 46)
def anonB (n : Int) : Bool := letB n || digB n
def textB (n : Int) : Bool := decide (32 ≤ n ∧ n ≤ 126)
def markB (n : Int) : Bool := decide (n = 34 ∨ n = 92)

theorem ret_bool {a b : Bool} (h : a = b) : Ending.returned (.bool a) = .returned (.bool b) := by rw [h]

theorem isLetter_any (n : Int) (w : World) :
    Calls Try.prog 46 #[.int .u8 n] w fun e w' => e = .returned (.bool (letB n)) ∧ w' = w := by
  by_cases h1 : 97 ≤ n
  all_goals
    go_enter Try.func46, Try.ntmps46
    go_wp2
    go_ret
    exact ⟨ret_bool (by first | exact decide_eq_decide.2 (by omega) | exact (decide_eq_false (by omega)).symm), rfl⟩

theorem isDigit_any (n : Int) (w : World) :
    Calls Try.prog 49 #[.int .u8 n] w fun e w' => e = .returned (.bool (digB n)) ∧ w' = w := by
  by_cases h1 : 48 ≤ n
  all_goals
    go_enter Try.func49, Try.ntmps49
    go_wp2
    go_ret
    exact ⟨ret_bool (by first | exact decide_eq_decide.2 (by omega) | exact (decide_eq_false (by omega)).symm), rfl⟩

theorem isMarked_any (n : Int) (w : World) :
    Calls Try.prog 41 #[.int .u8 n] w fun e w' => e = .returned (.bool (markB n)) ∧ w' = w := by
  by_cases h1 : (n == 34) = true
  · go_enter Try.func41, Try.ntmps41
    go_wp2
    go_ret
    exact ⟨ret_bool (by simp at h1; simp [markB, h1]), rfl⟩
  · have h2 : (n == 34) = false := by simpa using h1
    clear h1
    go_enter Try.func41, Try.ntmps41
    go_wp2
    go_ret
    exact ⟨ret_bool (by rw [Bool.eq_iff_iff]; simp only [markB, decide_eq_true_eq, beq_iff_eq]; simp at h2; omega), rfl⟩

theorem isTextByte_any (n : Int) (w : World) :
    Calls Try.prog 51 #[.int .u8 n] w fun e w' => e = .returned (.bool (textB n)) ∧ w' = w := by
  by_cases h1 : 32 ≤ n
  all_goals
    go_enter Try.func51, Try.ntmps51
    go_wp2
    go_ret
    exact ⟨ret_bool (by first | exact decide_eq_decide.2 (by omega) | exact (decide_eq_false (by omega)).symm), rfl⟩
end Go.Proofs.Ytkfpkcilgaldpag

/- 'every', and the four readers of a whole text that go by it. -/
namespace Go.Proofs.Ytkfpkcilgaldpag
open Go Go.RowKit Go.Proofs

theorem isNameByte_any (n : Int) (w : World) :
    Calls Try.prog 48 #[.int .u8 n] w fun e w' => e = .returned (.bool (nameB n)) ∧ w' = w := by
  have fin : Hid (nameB n = (letB n || digB n || decide (n = 58 ∨ n = 47 ∨ n = 46))) := rfl
  cases hl : letB n <;> cases hd : digB n <;> cases h58 : (n == 58) <;> cases h47 : (n == 47)
  all_goals
    go_enter Try.func48, Try.ntmps48
    go_wp2_with (first
      | (go_at_call 46; refine (isLetter_any _ _).mono ?_; rintro e w' ⟨rfl, rfl⟩)
      | (go_at_call 49; refine (isDigit_any _ _).mono ?_; rintro e w' ⟨rfl, rfl⟩))
    go_ret
    refine ⟨ret_bool ?_, rfl⟩
    rw [fin.out, hl, hd]
    simp at h58 h47 ⊢
    try (by_cases h46 : n = 46 <;> simp [h58, h47, h46])

theorem isAnonByte_any (n : Int) (w : World) :
    Calls Try.prog 50 #[.int .u8 n] w fun e w' => e = .returned (.bool (anonB n)) ∧ w' = w := by
  have fin : Hid (anonB n = (letB n || digB n)) := rfl
  cases hl : letB n <;> cases hd : digB n
  all_goals
    go_enter Try.func50, Try.ntmps50
    go_wp2_with (first
      | (go_at_call 46; refine (isLetter_any _ _).mono ?_; rintro e w' ⟨rfl, rfl⟩)
      | (go_at_call 49; refine (isDigit_any _ _).mono ?_; rintro e w' ⟨rfl, rfl⟩))
    go_ret
    refine ⟨ret_bool ?_, rfl⟩
    rw [fin.out, hl, hd]
    rfl

/-- every byte of the list is so -/
def allB (p : Int → Bool) (l : List UInt8) : Bool := l.all fun c => p (c.toNat : Int)

theorem allB_take (p : Int → Bool) (s : ByteArray) (k : Nat) (h : k < s.size) :
    allB p (s.data.toList.take (k + 1)) = (allB p (s.data.toList.take k) && p (s[k].toNat : Int)) := by
  unfold allB
  rw [List.take_succ_eq_append_getElem (by simpa using h)]
  simp
  rfl

theorem allB_false (p : Int → Bool) (s : ByteArray) (k : Nat) (h : k < s.size) (hp : p (s[k].toNat : Int) = false) : allB p s.data.toList = false := by
  unfold allB
  rw [List.all_eq_false]
  exact ⟨s.data.toList[k]'(by simpa using h), List.getElem_mem _, by rw [show s.data.toList[k]'(by simpa using h) = s[k] from rfl, hp]; simp⟩

set_option maxHeartbeats 400000 in
theorem every_any (s : ByteArray) (f : Nat) (p : Int → Bool) (w : World) (hs : s.size ≤ maxLen)
    (eg : ∀ args w, (callFunc f args).run Try.prog w = .ok (.enter f args) w)
    (hf : ∀ (n : Int) (w : World), Calls Try.prog f #[.int .u8 n] w fun e w' => e = .returned (.bool (p n)) ∧ w' = w) :
    Calls Try.prog 47 #[.string s, .func (.func f) #[] #[]] w fun e w' => e = .returned (.bool (allB p s.data.toList)) ∧ w' = w := by
  unfold maxLen at hs
  have Hf : Hid (∀ (n : Int) (w : World), Calls Try.prog f #[.int .u8 n] w fun e w' => e = .returned (.bool (p n)) ∧ w' = w) := hf
  clear hf
  go_enter Try.func47, Try.ntmps47
  go_wp2
  go_loop [8] (fun i => ∃ k : Nat, k ≤ s.size ∧ i = .int .i64 k ∧ allB p (s.data.toList.take k) = true) (fun i => s.size - (intOf i).toNat)
  case atStart => exact ⟨0, Nat.zero_le _, rfl, rfl⟩
  case round =>
    obtain ⟨k, hk, rfl, hall0⟩ := hrel
    have hall : Hid (allB p (s.data.toList.take k) = true) := hall0
    clear hall0
    by_cases hlt : k < s.size
    · cases hp : p (s[k].toNat : Int)
      · go_wp2_with (go_at_fn f; refine (Hf.out _ _).mono ?_; rintro e w' ⟨rfl, rfl⟩)
        go_ret
        exact ⟨ret_bool (allB_false p s k hlt hp).symm, rfl⟩
      · go_wp2_with (go_at_fn f; refine (Hf.out _ _).mono ?_; rintro e w' ⟨rfl, rfl⟩)
        refine ⟨⟨k + 1, by omega, by go_num, ?_⟩, by simp [intOf]; omega⟩
        rw [allB_take p s k hlt, hall.out, hp]
        rfl
    · go_wp2
      go_ret
      refine ⟨ret_bool ?_, rfl⟩
      rw [← hall.out, List.take_of_length_le (by simp; omega)]

/-! ### what a whole text is -/
def nameOk (l : List UInt8) : Bool := match l with | [] => false | c :: _ => letB (c.toNat : Int) && allB nameB l
def anonOk (l : List UInt8) : Bool := match l with | [] => false | _ :: _ => allB anonB l
def langOk (l : List UInt8) : Bool := l.length == 2 && allB letB l
def textOk (l : List UInt8) : Bool := allB textB l

theorem enters46 : ∀ args w, (callFunc 46 args).run Try.prog w = .ok (.enter 46 args) w := enters_of Try.func46 (by kernel_rfl) rfl
theorem enters48 : ∀ args w, (callFunc 48 args).run Try.prog w = .ok (.enter 48 args) w := enters_of Try.func48 (by kernel_rfl) rfl
theorem enters50 : ∀ args w, (callFunc 50 args).run Try.prog w = .ok (.enter 50 args) w := enters_of Try.func50 (by kernel_rfl) rfl
theorem enters51 : ∀ args w, (callFunc 51 args).run Try.prog w = .ok (.enter 51 args) w := enters_of Try.func51 (by kernel_rfl) rfl

theorem isText_any (l : List UInt8) (w : World) (hs : l.length ≤ maxLen) :
    Calls Try.prog 39 #[.string ⟨l.toArray⟩] w fun e w' => e = .returned (.bool (textOk l)) ∧ w' = w := by
  go_enter Try.func39, Try.ntmps39
  go_wp2_with (go_at_call 47; refine (every_any ⟨l.toArray⟩ 51 textB _ hs enters51 isTextByte_any).mono ?_; rintro e w' ⟨rfl, rfl⟩)
  go_ret
  exact ⟨rfl, rfl⟩

theorem isAnon_any (l : List UInt8) (w : World) (hs : l.length ≤ maxLen) :
    Calls Try.prog 37 #[.string ⟨l.toArray⟩] w fun e w' => e = .returned (.bool (anonOk l)) ∧ w' = w := by
  cases l with
  | nil =>
    go_enter Try.func37, Try.ntmps37
    go_wp2
    go_ret
    exact ⟨rfl, rfl⟩
  | cons c r =>
    go_enter Try.func37, Try.ntmps37
    go_wp2_with (go_at_call 47; refine (every_any ⟨(c :: r).toArray⟩ 50 anonB _ hs enters50 isAnonByte_any).mono ?_; rintro e w' ⟨rfl, rfl⟩)
    go_ret
    exact ⟨rfl, rfl⟩

theorem isLang_any (l : List UInt8) (w : World) (hs : l.length ≤ maxLen) :
    Calls Try.prog 38 #[.string ⟨l.toArray⟩] w fun e w' => e = .returned (.bool (langOk l)) ∧ w' = w := by
  have fin : Hid (langOk l = (l.length == 2 && allB letB l)) := rfl
  by_cases h : l.length = 2
  all_goals
    go_enter Try.func38, Try.ntmps38
    go_wp2_with (go_at_call 47; refine (every_any ⟨l.toArray⟩ 46 letB _ hs enters46 isLetter_any).mono ?_; rintro e w' ⟨rfl, rfl⟩)
    go_ret
    exact ⟨ret_bool (by rw [fin.out]; simp [h]), rfl⟩

theorem isName_any (l : List UInt8) (w : World) (hs : l.length ≤ maxLen) :
    Calls Try.prog 36 #[.string ⟨l.toArray⟩] w fun e w' => e = .returned (.bool (nameOk l)) ∧ w' = w := by
  cases l with
  | nil =>
    go_enter Try.func36, Try.ntmps36
    go_wp2
    go_ret
    exact ⟨rfl, rfl⟩
  | cons c r =>
    have fin : Hid (nameOk (c :: r) = (letB (c.toNat : Int) && allB nameB (c :: r))) := rfl
    cases hc0 : letB (c.toNat : Int)
    all_goals
      have hc : letB (((⟨(c :: r).toArray⟩ : ByteArray)[0]'(by simp [ByteArray.size])).toNat : Int) = _ := hc0
      go_enter Try.func36, Try.ntmps36
      go_wp2_with (first
        | (go_at_call 46; refine (isLetter_any _ _).mono ?_; rintro e w' ⟨rfl, rfl⟩)
        | (go_at_call 47; refine (every_any ⟨(c :: r).toArray⟩ 48 nameB _ hs enters48 isNameByte_any).mono ?_; rintro e w' ⟨rfl, rfl⟩))
      go_ret
      exact ⟨ret_bool (by rw [fin.out, hc0]; simp), rfl⟩
end Go.Proofs.Ytkfpkcilgaldpag

/- isKind, tooLong, spelled, Check: what is wrong with a term. A term is boxed by each call: nothing old turns ('Below'). -/
namespace Go.Proofs.Ytkfpkcilgaldpag
open Go Go.RowKit Go.Proofs

def kindB (k : Int) : Bool := decide (k = 1 ∨ k = 2 ∨ k = 3)
def longB (S : List UInt8) : Bool := decide (24 < S.length)
def spellB (k : Int) (S L : List UInt8) : Bool :=
  if k = 1 then L.isEmpty && nameOk S else if k = 2 then L.isEmpty && anonOk S else if k = 3 then (L.isEmpty || langOk L) && textOk S else false
/-- the number of the error that Check tells: 0 for none -/
def checkN (k : Int) (S L : List UInt8) : Int := if kindB k = false then 1 else if longB S = true then 4 else if spellB k S L = false then 2 else 0
/-- an error as a value -/
def errV (n : Int) : Value := if n = 0 then .nilIface else .iface 48 (.int .i64 n)

theorem isKind_any (k : Int) (w : World) :
    Calls Try.prog 26 #[.int .i64 k] w fun e w' => e = .returned (.bool (kindB k)) ∧ w' = w := by
  have fin : Hid (kindB k = decide (k = 1 ∨ k = 2 ∨ k = 3)) := rfl
  by_cases h1 : k = 1
  · subst h1
    go_enter Try.func26, Try.ntmps26
    go_wp2
    go_ret
    exact ⟨rfl, rfl⟩
  · have h1' : (k == 1) = false := by simpa using h1
    by_cases h2 : k = 2
    · subst h2
      go_enter Try.func26, Try.ntmps26
      go_wp2
      go_ret
      exact ⟨rfl, rfl⟩
    · have h2' : (k == 2) = false := by simpa using h2
      clear h1 h2
      go_enter Try.func26, Try.ntmps26
      go_wp2
      go_ret
      refine ⟨ret_bool ?_, rfl⟩
      rw [fin.out]
      simp at h1' h2'
      by_cases h3 : k = 3 <;> simp [h1', h2', h3]

theorem tooLong_any (k : Int) (S L : List UInt8) (w : World) (hs : S.length ≤ maxLen) :
    Calls Try.prog 27 #[.agg #[.int .i64 k, .string ⟨S.toArray⟩, .string ⟨L.toArray⟩]] w fun e w' => e = .returned (.bool (longB S)) ∧ Below w.heap.size w w' := by
  unfold maxLen at hs
  go_enter Try.func27, Try.ntmps27
  go_wp2
  go_ret
  exact ⟨ret_bool (by unfold longB; exact decide_eq_decide.2 (by omega)), (Below.refl _ _).alloc (Nat.le_refl _) _⟩

theorem spelled_any (k : Int) (S L : List UInt8) (w : World) (hs : S.length ≤ maxLen) (hl : L.length ≤ maxLen) :
    Calls Try.prog 28 #[.agg #[.int .i64 k, .string ⟨S.toArray⟩, .string ⟨L.toArray⟩]] w fun e w' => e = .returned (.bool (spellB k S L)) ∧ Below w.heap.size w w' := by
  by_cases h1 : k = 1
  · subst h1
    cases L
    all_goals
      go_enter Try.func28, Try.ntmps28
      go_wp2_with (go_at_call 36; refine (isName_any S _ hs).mono ?_; rintro e w' ⟨rfl, rfl⟩)
      go_ret
      exact ⟨rfl, (Below.refl _ _).alloc (Nat.le_refl _) _⟩
  have h1' : (k == 1) = false := by simpa using h1
  by_cases h2 : k = 2
  · subst h2
    clear h1 h1'
    cases L
    all_goals
      go_enter Try.func28, Try.ntmps28
      go_wp2_with (go_at_call 37; refine (isAnon_any S _ hs).mono ?_; rintro e w' ⟨rfl, rfl⟩)
      go_ret
      exact ⟨rfl, (Below.refl _ _).alloc (Nat.le_refl _) _⟩
  have h2' : (k == 2) = false := by simpa using h2
  by_cases h3 : k = 3
  · subst h3
    clear h1 h1' h2 h2'
    cases L with
    | nil =>
      go_enter Try.func28, Try.ntmps28
      go_wp2_with (go_at_call 39; refine (isText_any S _ hs).mono ?_; rintro e w' ⟨rfl, rfl⟩)
      go_ret
      exact ⟨rfl, (Below.refl _ _).alloc (Nat.le_refl _) _⟩
    | cons c r =>
      have fin : Hid (spellB 3 S (c :: r) = (langOk (c :: r) && textOk S)) := rfl
      cases hk : langOk (c :: r)
      all_goals
        go_enter Try.func28, Try.ntmps28
        go_wp2_with (first
          | (go_at_call 38; refine (isLang_any (c :: r) _ hl).mono ?_; rintro e w' ⟨rfl, rfl⟩)
          | (go_at_call 39; refine (isText_any S _ hs).mono ?_; rintro e w' ⟨rfl, rfl⟩))
        go_ret
        exact ⟨ret_bool (by rw [fin.out, hk]; simp), (Below.refl _ _).alloc (Nat.le_refl _) _⟩
  · have h3' : (k == 3) = false := by simpa using h3
    have fin : Hid (spellB k S L = false) := by simp [Hid, spellB, h1, h2, h3]
    clear h1 h2 h3
    go_enter Try.func28, Try.ntmps28
    go_wp2
    go_ret
    exact ⟨ret_bool fin.out.symm, (Below.refl _ _).alloc (Nat.le_refl _) _⟩

/-- behind a call that turned nothing old: every old cell and every old mark reads as it did -/
theorem bcell {W w1 : World} (hb : Below W.heap.size W w1) : (∀ b o, b < W.heap.size → w1.cell? ⟨b, o, none⟩ = W.cell? ⟨b, o, none⟩) ∧ (∀ b o, b < W.heap.size → w1.frozen? ⟨b, o, none⟩ = W.frozen? ⟨b, o, none⟩) :=
  ⟨fun b o h => hb.cell (p := ⟨b, o, none⟩) h, fun b o h => hb.frozen (p := ⟨b, o, none⟩) h⟩

/-- one call behind another: nothing that was there at the first has turned -/
theorem bstep {w W w1 : World} (h : Below w.heap.size w W) (hb : Below W.heap.size W w1) : Below w.heap.size w w1 := h.trans (hb.mono h.size)
theorem balloc (w : World) (o : Obj) : Below w.heap.size w (w.alloc o) := (Below.refl _ _).alloc (Nat.le_refl _) _

theorem ret_val {a b : Value} (h : a = b) : Ending.returned a = .returned b := by rw [h]

theorem Check_any (k : Int) (S L : List UInt8) (w : World) (hs : S.length ≤ maxLen) (hl : L.length ≤ maxLen) :
    Calls Try.prog 19 #[.agg #[.int .i64 k, .string ⟨S.toArray⟩, .string ⟨L.toArray⟩]] w fun e w' => e = .returned (errV (checkN k S L)) ∧ Below w.heap.size w w' := by
  have fin : Hid (checkN k S L = if kindB k = false then 1 else if longB S = true then 4 else if spellB k S L = false then 2 else 0) := rfl
  cases hk : kindB k
  · go_enter Try.func19, Try.ntmps19
    go_wp2_with (go_at_call 26; refine (isKind_any k _).mono ?_; rintro e w' ⟨rfl, rfl⟩)
    go_ret
    exact ⟨ret_val (by rw [fin.out, hk]; rfl), (Below.refl _ _).alloc (Nat.le_refl _) _⟩
  cases hlong : longB S
  · cases hsp : spellB k S L
    all_goals
      go_enter Try.func19, Try.ntmps19
      go_wp2_with (go_at_call 26; refine (isKind_any k _).mono ?_; rintro e w' ⟨rfl, rfl⟩)
      refine (tooLong_any k S L _ hs).mono ?_
      rintro e w1 ⟨rfl, hb1⟩
      obtain ⟨hc1, hf1⟩ := bcell hb1
      go_wp2_with fail
      refine (spelled_any k S L _ hs hl).mono ?_
      rintro e w2 ⟨rfl, hb2⟩
      go_wp2_with fail
      go_ret
      exact ⟨ret_val (by rw [fin.out, hk, hlong, hsp]; rfl), bstep (bstep (balloc _ _) hb1) hb2⟩
  · go_enter Try.func19, Try.ntmps19
    go_wp2_with (go_at_call 26; refine (isKind_any k _).mono ?_; rintro e w' ⟨rfl, rfl⟩)
    refine (tooLong_any k S L _ hs).mono ?_
    rintro e w1 ⟨rfl, hb1⟩
    go_wp2_with fail
    go_ret
    exact ⟨ret_val (by rw [fin.out, hk, hlong]; rfl), bstep (balloc _ _) hb1⟩
theorem ret_two {a b c d : Value} (h : a = c) (h' : b = d) : Ending.returned (.tuple #[a, b]) = .returned (.tuple #[c, d]) := by rw [h, h']

theorem bdrew {w w1 : World} (h : Below w.drew.heap.size w.drew w1) : Below w.heap.size w w1 := ⟨h.os, h.tape, h.output, h.size, h.block⟩

theorem check_zero {k : Int} {S L : List UInt8} (h : checkN k S L = 0) : (k = 1 ∨ k = 2 ∨ k = 3) ∧ S.length ≤ 24 ∧ spellB k S L = true := by
  unfold checkN at h
  cases hk : kindB k
  · simp [hk] at h
  cases hlong : longB S
  · cases hsp : spellB k S L
    · simp [hk, hlong, hsp] at h
    · refine ⟨by simpa [kindB] using hk, ?_, rfl⟩
      simp [longB] at hlong
      exact hlong
  · simp [hk, hlong] at h

theorem spell_lang {k : Int} {S L : List UInt8} (h : spellB k S L = true) : L.length ≤ 2 := by
  unfold spellB at h
  cases L with
  | nil => simp
  | cons c r =>
    by_cases h3 : k = 3
    · simp [h3, langOk] at h
      simp only [List.length_cons]
      omega
    · by_cases h1 : k = 1
      · simp [h1] at h
      · by_cases h2 : k = 2
        · simp [h2] at h
        · simp [h1, h2, h3] at h

end Go.Proofs.Ytkfpkcilgaldpag

/- The contracts of the library functions that this program calls, laid at its numbers by program. -/
namespace Go.Proofs
open Go.Shelf
def Try.lays169_ren : Go.Shelf.Ren := ⟨fun | 169 => 11 | n => n, fun | 70 => 38 | 9 => 9 | 0 => 0 | 72 => 41 | 37 => 39 | 127 => 51 | 3 => 3 | 5 => 5 | n => n, fun | n => n⟩
theorem Try.lays169 : Go.Proofs.Lays.n169 Try.prog Try.lays169_ren := {
  mixed := by kernel_rfl
  f169 := Try.func11.trans (congrArg some (by kernel_rfl))
  t0 := Try.underlying0
  a0 := Try.isAgg0
  z0 := Try.sizeOf0
  v0 := Try.zeroValue0
  t3 := Try.underlying3
  a3 := Try.isAgg3
  z3 := Try.sizeOf3
  v3 := Try.zeroValue3
  t9 := Try.underlying9
  a9 := Try.isAgg9
  z9 := Try.sizeOf9
  v9 := Try.zeroValue9
  t37 := Try.underlying39
  a37 := Try.isAgg39
  z37 := Try.sizeOf39
  v37 := Try.zeroValue39
  t70 := Try.underlying38
  a70 := Try.isAgg38
  z70 := Try.sizeOf38
  v70 := Try.zeroValue38
  t72 := Try.underlying41
  a72 := Try.isAgg41
  z72 := Try.sizeOf41
  v72 := Try.zeroValue41
  t127 := Try.underlying51
  a127 := Try.isAgg51
  z127 := Try.sizeOf51
  v127 := Try.zeroValue51 }
theorem Try.Builder_Extra_169 : Builder.Extra Try.prog Try.lays169_ren := {
  sizeBuilder := by kernel_rfl
  liesBuilder := by kernel_rfl
  t5 := Try.underlying5
  a5 := Try.isAgg5
  z5 := Try.sizeOf5
  v5 := Try.zeroValue5
  infoByte := by kernel_rfl
  cellsByte := by kernel_rfl
  sizeByte := by kernel_rfl
  neB5 := by decide }
open Go.RowKit in
theorem Try.Builder_String (B b : Nat) (l : List UInt8) (w : World) (h : Lib.IsBuilder 41 5 B b (Lib.byteCells l) w) (h0 : l ≠ []) :
    Calls Try.prog 11 #[.pointer (some ⟨b, 0, none⟩)] w fun e w' => e = .returned (.string ⟨l.toArray⟩) ∧ Below B w w' := Any.Builder_String Try.lays169 Try.Builder_Extra_169 B b l w h h0
open Go.RowKit in
theorem Try.Builder_String_empty (B b : Nat) (w : World) (h : Lib.IsBuilder 41 5 B b [] w) (hBw : B ≤ w.heap.size) :
    Calls Try.prog 11 #[.pointer (some ⟨b, 0, none⟩)] w fun e w' => e = .returned (.string ⟨#[]⟩) ∧ Below B w w' := Any.Builder_String_empty Try.lays169 Try.Builder_Extra_169 B b w h hBw
open Go.RowKit in
theorem Try.Builder_String_any (B b : Nat) (l : List UInt8) (w : World) (h : Lib.IsBuilder 41 5 B b (Lib.byteCells l) w) (hBw : B ≤ w.heap.size) :
    Calls Try.prog 11 #[.pointer (some ⟨b, 0, none⟩)] w fun e w' => e = .returned (.string ⟨l.toArray⟩) ∧ Below B w w' := Any.Builder_String_any Try.lays169 Try.Builder_Extra_169 B b l w h hBw
def Try.lays241_ren : Go.Shelf.Ren := ⟨fun | 241 => 43 | 277 => 52 | n => n, fun | 70 => 38 | 3 => 3 | 0 => 0 | 72 => 41 | 37 => 39 | 5 => 5 | n => n, fun | n => n⟩
theorem Try.lays241 : Go.Proofs.Lays.n241 Try.prog Try.lays241_ren := {
  mixed := by kernel_rfl
  f241 := Try.func43.trans (congrArg some (by kernel_rfl))
  f277 := Try.func52.trans (congrArg some (by kernel_rfl))
  t0 := Try.underlying0
  a0 := Try.isAgg0
  z0 := Try.sizeOf0
  v0 := Try.zeroValue0
  t3 := Try.underlying3
  a3 := Try.isAgg3
  z3 := Try.sizeOf3
  v3 := Try.zeroValue3
  t37 := Try.underlying39
  a37 := Try.isAgg39
  z37 := Try.sizeOf39
  v37 := Try.zeroValue39
  t70 := Try.underlying38
  a70 := Try.isAgg38
  z70 := Try.sizeOf38
  v70 := Try.zeroValue38
  t72 := Try.underlying41
  a72 := Try.isAgg41
  z72 := Try.sizeOf41
  v72 := Try.zeroValue41 }
theorem Try.Builder_Extra_241 : Builder.Extra Try.prog Try.lays241_ren := {
  sizeBuilder := by kernel_rfl
  liesBuilder := by kernel_rfl
  t5 := Try.underlying5
  a5 := Try.isAgg5
  z5 := Try.sizeOf5
  v5 := Try.zeroValue5
  infoByte := by kernel_rfl
  cellsByte := by kernel_rfl
  sizeByte := by kernel_rfl
  neB5 := by decide }
open Go.RowKit in
theorem Try.Builder_grow_fresh (B b n : Nat) (w : World) (hB : B ≤ b) (hbk : w.heap[b]? = some (.cells #[.pointer (some ⟨b, 0, none⟩), .slice none 0 0] 41 (0, 0))) (hBw : B ≤ w.heap.size) (hn : n ≤ 281474976710656) :
    Calls Try.prog 43 #[.pointer (some ⟨b, 0, none⟩), .int .i64 n] w fun e w' => e = .returned (.tuple #[]) ∧ (Lib.BuilderAt 41 5 B b (.pointer (some ⟨b, 0, none⟩)) [] w' ∧ Below B w w') := Any.Builder_grow_fresh Try.lays241 Try.Builder_Extra_241 B b n w hB hbk hBw hn
def Try.lays165_ren : Go.Shelf.Ren := ⟨fun | 165 => 32 | 240 => 15 | 241 => 43 | 276 => 23 | 277 => 52 | n => n, fun | 70 => 38 | 3 => 3 | 0 => 0 | 4 => 4 | 9 => 9 | 20 => 20 | 72 => 41 | 37 => 39 | 164 => 61 | 5 => 5 | n => n, fun | n => n⟩
theorem Try.lays165 : Go.Proofs.Lays.n165 Try.prog Try.lays165_ren := {
  mixed := by kernel_rfl
  f165 := Try.func32.trans (congrArg some (by kernel_rfl))
  f240 := Try.func15.trans (congrArg some (by kernel_rfl))
  f241 := Try.func43.trans (congrArg some (by kernel_rfl))
  f276 := Try.func23.trans (congrArg some (by kernel_rfl))
  f277 := Try.func52.trans (congrArg some (by kernel_rfl))
  t0 := Try.underlying0
  a0 := Try.isAgg0
  z0 := Try.sizeOf0
  v0 := Try.zeroValue0
  t3 := Try.underlying3
  a3 := Try.isAgg3
  z3 := Try.sizeOf3
  v3 := Try.zeroValue3
  t4 := Try.underlying4
  a4 := Try.isAgg4
  z4 := Try.sizeOf4
  v4 := Try.zeroValue4
  t9 := Try.underlying9
  a9 := Try.isAgg9
  z9 := Try.sizeOf9
  v9 := Try.zeroValue9
  t20 := Try.underlying20
  a20 := Try.isAgg20
  z20 := Try.sizeOf20
  v20 := Try.zeroValue20
  t37 := Try.underlying39
  a37 := Try.isAgg39
  z37 := Try.sizeOf39
  v37 := Try.zeroValue39
  t70 := Try.underlying38
  a70 := Try.isAgg38
  z70 := Try.sizeOf38
  v70 := Try.zeroValue38
  t72 := Try.underlying41
  a72 := Try.isAgg41
  z72 := Try.sizeOf41
  v72 := Try.zeroValue41
  t164 := Try.underlying61
  a164 := Try.isAgg61
  z164 := Try.sizeOf61
  v164 := Try.zeroValue61 }
theorem Try.Builder_Extra_165 : Builder.Extra Try.prog Try.lays165_ren := {
  sizeBuilder := by kernel_rfl
  liesBuilder := by kernel_rfl
  t5 := Try.underlying5
  a5 := Try.isAgg5
  z5 := Try.sizeOf5
  v5 := Try.zeroValue5
  infoByte := by kernel_rfl
  cellsByte := by kernel_rfl
  sizeByte := by kernel_rfl
  neB5 := by decide }
open Go.RowKit in
theorem Try.Builder_Grow_fresh (B b n : Nat) (w : World) (hB : B ≤ b) (hbk : w.heap[b]? = some (.cells #[.pointer none, .slice none 0 0] 41 (0, 0))) (hBw : B ≤ w.heap.size) (hn : n ≤ 281474976710656) :
    Calls Try.prog 32 #[.pointer (some ⟨b, 0, none⟩), .int .i64 n] w fun e w' => e = .returned (.tuple #[]) ∧ (Lib.BuilderAt 41 5 B b (.pointer (some ⟨b, 0, none⟩)) [] w' ∧ Below B w w') := Any.Builder_Grow_fresh Try.lays165 Try.Builder_Extra_165 B b n w hB hbk hBw hn
def Try.lays213_ren : Go.Shelf.Ren := ⟨fun | 213 => 56 | 265 => 57 | n => n, fun | 9 => 9 | 3 => 3 | n => n, fun | n => n⟩
theorem Try.lays213 : Go.Proofs.Lays.n213 Try.prog Try.lays213_ren := {
  mixed := by kernel_rfl
  f213 := Try.func56.trans (congrArg some (by kernel_rfl))
  f265 := Try.func57.trans (congrArg some (by kernel_rfl))
  t3 := Try.underlying3
  a3 := Try.isAgg3
  z3 := Try.sizeOf3
  v3 := Try.zeroValue3
  t9 := Try.underlying9
  a9 := Try.isAgg9
  z9 := Try.sizeOf9
  v9 := Try.zeroValue9 }
open Go.RowKit in
theorem Try.bytealg_CompareString (a b : ByteArray) (w : World) :
    Calls Try.prog 56 #[.string a, .string b] w fun e w' => e = .returned (.int .i64 (Lib.compareBytes a.data.toList b.data.toList)) ∧ w' = w := Any.bytealg_CompareString Try.lays213 a b w
def Try.lays106_ren : Go.Shelf.Ren := ⟨fun | 106 => 54 | 213 => 56 | 265 => 57 | n => n, fun | 9 => 9 | 3 => 3 | n => n, fun | n => n⟩
theorem Try.lays106 : Go.Proofs.Lays.n106 Try.prog Try.lays106_ren := {
  mixed := by kernel_rfl
  f106 := Try.func54.trans (congrArg some (by kernel_rfl))
  f213 := Try.func56.trans (congrArg some (by kernel_rfl))
  f265 := Try.func57.trans (congrArg some (by kernel_rfl))
  t3 := Try.underlying3
  a3 := Try.isAgg3
  z3 := Try.sizeOf3
  v3 := Try.zeroValue3
  t9 := Try.underlying9
  a9 := Try.isAgg9
  z9 := Try.sizeOf9
  v9 := Try.zeroValue9 }
open Go.RowKit in
theorem Try.strings_Compare (a b : ByteArray) (w : World) :
    Calls Try.prog 54 #[.string a, .string b] w fun e w' => e = .returned (.int .i64 (Lib.compareBytes a.data.toList b.data.toList)) ∧ w' = w := Any.strings_Compare Try.lays106 a b w
def Try.lays215_ren : Go.Shelf.Ren := ⟨fun | 215 => 55 | n => n, fun | 3 => 3 | 4 => 4 | n => n, fun | n => n⟩
theorem Try.lays215 : Go.Proofs.Lays.n215 Try.prog Try.lays215_ren := {
  mixed := by kernel_rfl
  f215 := Try.func55.trans (congrArg some (by kernel_rfl))
  t3 := Try.underlying3
  a3 := Try.isAgg3
  z3 := Try.sizeOf3
  v3 := Try.zeroValue3
  t4 := Try.underlying4
  a4 := Try.isAgg4
  z4 := Try.sizeOf4
  v4 := Try.zeroValue4 }
open Go.RowKit in
theorem Try.cmp_isNaN_int (x : Int) (w : World) :
    Calls Try.prog 55 #[.int .i64 x] w fun e w' => e = .returned (.bool false) ∧ w' = w := Any.cmp_isNaN_int Try.lays215 x w
def Try.lays122_ren : Go.Shelf.Ren := ⟨fun | 122 => 53 | 215 => 55 | n => n, fun | 3 => 3 | 4 => 4 | n => n, fun | n => n⟩
theorem Try.lays122 : Go.Proofs.Lays.n122 Try.prog Try.lays122_ren := {
  mixed := by kernel_rfl
  f122 := Try.func53.trans (congrArg some (by kernel_rfl))
  f215 := Try.func55.trans (congrArg some (by kernel_rfl))
  t3 := Try.underlying3
  a3 := Try.isAgg3
  z3 := Try.sizeOf3
  v3 := Try.zeroValue3
  t4 := Try.underlying4
  a4 := Try.isAgg4
  z4 := Try.sizeOf4
  v4 := Try.zeroValue4 }
open Go.RowKit in
theorem Try.cmp_Compare_int (x y : Int) (w : World) :
    Calls Try.prog 53 #[.int .i64 x, .int .i64 y] w fun e w' => e = .returned (.int .i64 (Lib.compareInt x y)) ∧ w' = w := Any.cmp_Compare_int Try.lays122 x y w
open Go.RowKit in
theorem Try.Builder_String_f (B b : Nat) (l : List UInt8) (w : World) (h : Lib.IsBuilderF 41 5 B b (Lib.byteCells l) w) (h0 : l ≠ []) :
    Calls Try.prog 11 #[.pointer (some ⟨b, 0, none⟩)] w fun e w' => e = .returned (.string ⟨l.toArray⟩) ∧ (Lib.IsBuilderF 41 5 B b (Lib.byteCells l) w' ∧ Below B w w') := Any.Builder_String_f Try.lays169 Try.Builder_Extra_169 B b l w h h0
open Go.RowKit in
theorem Try.Builder_String_empty_f (B b : Nat) (w : World) (h : Lib.IsBuilderF 41 5 B b [] w) (hBw : B ≤ w.heap.size) :
    Calls Try.prog 11 #[.pointer (some ⟨b, 0, none⟩)] w fun e w' => e = .returned (.string ⟨#[]⟩) ∧ (Lib.IsBuilderF 41 5 B b [] w' ∧ Below B w w') := Any.Builder_String_empty_f Try.lays169 Try.Builder_Extra_169 B b w h hBw
open Go.RowKit in
theorem Try.Builder_String_any_f (B b : Nat) (l : List UInt8) (w : World) (h : Lib.IsBuilderF 41 5 B b (Lib.byteCells l) w) (hBw : B ≤ w.heap.size) :
    Calls Try.prog 11 #[.pointer (some ⟨b, 0, none⟩)] w fun e w' => e = .returned (.string ⟨l.toArray⟩) ∧ (Lib.IsBuilderF 41 5 B b (Lib.byteCells l) w' ∧ Below B w w') := Any.Builder_String_any_f Try.lays169 Try.Builder_Extra_169 B b l w h hBw
open Go.RowKit in
theorem Try.Builder_String_k (B b : Nat) (l : List UInt8) (w : World) (h : Lib.IsBuilderF 41 5 B b (Lib.byteCells l) w) (h0 : l ≠ []) :
    Calls Try.prog 11 #[.pointer (some ⟨b, 0, none⟩)] w fun e w' => e = .returned (.string ⟨l.toArray⟩) ∧ (Lib.IsBuilderF 41 5 B b (Lib.byteCells l) w' ∧ Below B w w' ∧ Lib.OthersKept 5 (some b) w w') := Any.Builder_String_k Try.lays169 Try.Builder_Extra_169 B b l w h h0
open Go.RowKit in
theorem Try.Builder_String_empty_k (B b : Nat) (w : World) (h : Lib.IsBuilderF 41 5 B b [] w) (hBw : B ≤ w.heap.size) :
    Calls Try.prog 11 #[.pointer (some ⟨b, 0, none⟩)] w fun e w' => e = .returned (.string ⟨#[]⟩) ∧ (Lib.IsBuilderF 41 5 B b [] w' ∧ Below B w w' ∧ Lib.OthersKept 5 (some b) w w') := Any.Builder_String_empty_k Try.lays169 Try.Builder_Extra_169 B b w h hBw
open Go.RowKit in
theorem Try.Builder_String_any_k (B b : Nat) (l : List UInt8) (w : World) (h : Lib.IsBuilderF 41 5 B b (Lib.byteCells l) w) (hBw : B ≤ w.heap.size) :
    Calls Try.prog 11 #[.pointer (some ⟨b, 0, none⟩)] w fun e w' => e = .returned (.string ⟨l.toArray⟩) ∧ (Lib.IsBuilderF 41 5 B b (Lib.byteCells l) w' ∧ Below B w w' ∧ Lib.OthersKept 5 (some b) w w') := Any.Builder_String_any_k Try.lays169 Try.Builder_Extra_169 B b l w h hBw
def Try.laysM316_ren : Go.Shelf.Ren := ⟨fun | 316 => 42 | n => n, fun | 9 => 9 | 3 => 3 | 4 => 4 | 37 => 39 | 0 => 0 | 127 => 51 | 5 => 5 | n => n, fun | n => n⟩
theorem Try.laysM316 : Go.Proofs.LaysM.n316 Try.prog Try.laysM316_ren := {
  mixed := by kernel_rfl
  f316 := Try.func42.trans (congrArg some (by kernel_rfl))
  t0 := Try.underlying0
  a0 := Try.isAgg0
  z0 := Try.sizeOf0
  v0 := Try.zeroValue0
  t3 := Try.underlying3
  a3 := Try.isAgg3
  z3 := Try.sizeOf3
  v3 := Try.zeroValue3
  t4 := Try.underlying4
  a4 := Try.isAgg4
  z4 := Try.sizeOf4
  v4 := Try.zeroValue4
  t9 := Try.underlying9
  a9 := Try.isAgg9
  z9 := Try.sizeOf9
  v9 := Try.zeroValue9
  t37 := Try.underlying39
  a37 := Try.isAgg39
  z37 := Try.sizeOf39
  v37 := Try.zeroValue39
  t127 := Try.underlying51
  a127 := Try.isAgg51
  z127 := Try.sizeOf51
  v127 := Try.zeroValue51
  t5 := Try.underlying5
  a5 := Try.isAgg5
  z5 := Try.sizeOf5
  v5 := Try.zeroValue5
  i0 := by kernel_rfl
  i3 := by kernel_rfl
  i4 := by kernel_rfl
  i5 := by kernel_rfl
  i9 := by kernel_rfl
  i37 := by kernel_rfl
  i127 := by kernel_rfl }
open Go.RowKit in
theorem Try.stringslite_Clone (s : ByteArray) (w : World) (hlim : s.size ≤ 281474976710656) :
    Calls Try.prog 42 #[.string s] w fun e w' => e = .returned (.string s) ∧ Below w.heap.size w w' := Any.stringslite_Clone Try.laysM316 s w hlim
end Go.Proofs

/- strings.Builder: WriteByte (its own check walked here), String; strings.Clone. -/
namespace Go.Proofs.Ytkfpkcilgaldpag
open Go Go.RowKit Go.Proofs

theorem neBuilder : (41 : TypeId) ≠ 5 := by decide
theorem sizeBuilder : (Try.prog.info? 41).map (·.size) = some 2 := by kernel_rfl
theorem liesBuilder : liesAt Try.prog Try.prog.depth 41 (2 / Try.prog.cellsOf 41) 0 41 1 = true := by kernel_rfl
theorem infoByte : (Try.prog.info? 5).map (fun i => (i.zero, i.size, i.bytes)) = some (some (.int .u8 0), 1, 1) := by kernel_rfl

set_option maxHeartbeats 1000000 in
set_option maxRecDepth 100000 in
theorem copyCheck_fresh (b : Nat) (w : World) (h0 : w.cell? ⟨b, 0, none⟩ = some (.pointer none)) (hsh : w.shape? b = some (41, 2)) (hz : w.frozen? ⟨b, 0, none⟩ = false) :
    Calls Try.prog 15 #[.pointer (some ⟨b, 0, none⟩)] w fun e w' => e = .returned (.tuple #[]) ∧ w' = w.setCell ⟨b, 0, none⟩ (.pointer (some ⟨b, 0, none⟩)) := by
  obtain ⟨j, hj, hjs⟩ := Option.map_eq_some_iff.1 sizeBuilder
  go_enter Try.func15, Try.ntmps15
  go_wp2
  rw [Lib.run_to_unsafe w ⟨b, 0, none⟩ Try.underlying38 Try.underlying61 hj (by rw [hjs]; decide) hsh (Nat.zero_lt_succ 1)]
  simp only [Result.andThen]
  rw [Oper.upon_value]
  go_wp2
  rw [run_callFunc_extern Try.func23 (by kernel_rfl) (by kernel_rfl) (by kernel_rfl) (e := Extern.AbiNoEscape.same) (by kernel_rfl)]
  rw [Lib.run_noEscape]
  simp only [Result.andThen]
  rw [Oper.upon_value]
  go_wp2
  rw [Lib.run_from_unsafe w ⟨b, 0, none⟩ Try.underlying61 Try.underlying38 hj hsh liesBuilder]
  simp only [Result.andThen]
  rw [Oper.upon_value]
  go_wp2
  go_end0
  exact ⟨rfl, rfl⟩

set_option maxHeartbeats 1000000 in
set_option maxRecDepth 100000 in
theorem copyCheck_used (b : Nat) (w : World) (h0 : w.cell? ⟨b, 0, none⟩ = some (.pointer (some ⟨b, 0, none⟩))) :
    Calls Try.prog 15 #[.pointer (some ⟨b, 0, none⟩)] w fun e w' => e = .returned (.tuple #[]) ∧ w' = w := by
  obtain ⟨j, hj, _⟩ := Option.map_eq_some_iff.1 sizeBuilder
  go_enter Try.func15, Try.ntmps15
  go_wp2
  rw [Lib.run_neq_ptr_same w _ Try.underlying38 hj]
  go_wp2
  go_end0
  exact ⟨rfl, rfl⟩

theorem copyCheck_any (B b : Nat) (bs : List Value) (w : World) (h : Lib.IsBuilder 41 5 B b bs w) :
    Calls Try.prog 15 #[.pointer (some ⟨b, 0, none⟩)] w fun e w' => e = .returned (.tuple #[]) ∧ (Lib.BuilderAt 41 5 B b (.pointer (some ⟨b, 0, none⟩)) bs w' ∧ Below B w w') := by
  rcases h with h | h
  · refine (copyCheck_fresh b w h.cell0 h.shape h.frozen0).mono ?_
    rintro e w' ⟨rfl, rfl⟩
    exact ⟨rfl, h.used _, (Below.refl B w).setCell (p := ⟨b, 0, none⟩) h.1 _⟩
  · refine (copyCheck_used b w h.cell0).mono ?_
    rintro e w' ⟨rfl, rfl⟩
    exact ⟨rfl, h, Below.refl B _⟩

set_option maxHeartbeats 1000000 in
set_option maxRecDepth 100000 in
theorem WriteByte_any (B b : Nat) (bs : List Value) (c : Int) (w : World) (h : Lib.IsBuilder 41 5 B b bs w) (hlen : bs.length + 1 ≤ 140737488355328) (hBw : B ≤ w.heap.size) :
    Calls Try.prog 40 #[.pointer (some ⟨b, 0, none⟩), .int .u8 c] w fun e w' => e = .returned .nilIface ∧ (Lib.BuilderAt 41 5 B b (.pointer (some ⟨b, 0, none⟩)) (bs ++ [.int .u8 c]) w' ∧ Below B w w') := by
  obtain ⟨i0, hi, hz⟩ := Option.map_eq_some_iff.1 infoByte
  simp only [Prod.mk.injEq] at hz
  obtain ⟨hz0, hz1, hz2⟩ := hz
  go_enter Try.func40, Try.ntmps40
  go_wp2_with (go_at_call 15; refine (copyCheck_any B b bs _ h).mono ?_)
  rintro e w1 ⟨rfl, h1, hb1⟩
  obtain ⟨hB, v, hbk, hown, hne⟩ := h1
  have c0 : w1.cell? ⟨b, 0, none⟩ = some (.pointer (some ⟨b, 0, none⟩)) := by rw [Lib.cell_of_heap hbk]; rfl
  have c1 : w1.cell? ⟨b, 1, none⟩ = some v := by rw [Lib.cell_of_heap hbk]; rfl
  go_wp2_with (at_builtin; refine wpList_append_own _ rfl _ _ 39 rfl B 5 i0 (.int .u8 0) 1 1 Try.underlying39 hi hz0 hz1 hz2 rfl (by decide) _ _ _ rfl (hown.alloc _) ⟨w1.heap.size, 0, none⟩ 1 1 [.int .u8 c] rfl rfl ?c1 ?c2 ?c3 ?c4 ?c5 ?_)
  case c1 =>
    intro j u hj
    match j, hj with
    | 0, hj => simp at hj; subst hj; simp [Addr.add]
  case c2 => intro u hu; simp at hu; subst hu; rfl
  case c3 => unfold maxLen; omega
  case c4 => omega
  case c5 => have := hb1.size; simp; omega
  intro v' w2 hown' hgrow _
  have hlt : b < w1.heap.size := by
    rcases Nat.lt_or_ge b w1.heap.size with h' | h'
    · exact h'
    · simp [Array.getElem?_eq_none h'] at hbk
  have hb2 : w2.heap[b]? = some (.cells #[.pointer (some ⟨b, 0, none⟩), v] 41 (0, 0)) := by
    rw [hgrow.block b (by simp; omega) (fun e => hne e.symm), Lib.alloc_old w1 _ b hlt]
    exact hbk
  have d0 : w2.cell? ⟨b, 0, none⟩ = some (.pointer (some ⟨b, 0, none⟩)) := by rw [Lib.cell_of_heap hb2]; rfl
  have d1 : w2.cell? ⟨b, 1, none⟩ = some v := by rw [Lib.cell_of_heap hb2]; rfl
  have f1 : w2.frozen? ⟨b, 1, none⟩ = false := Lib.frozen_of_heap hb2 1
  obtain ⟨g, cap, rfl⟩ : ∃ g cap, v' = .slice (some ⟨g, 0, none⟩) (bs.length + 1) cap := by
    rcases hown'.2 with ⟨_, h0⟩ | ⟨g, cap, cur, hv, _⟩
    · omega
    · exact ⟨g, cap, hv⟩
  go_wp2
  go_ret
  refine ⟨rfl, ?_, ?_⟩
  · exact Lib.BuilderAt.put (T := 41) (e := 5) hB hb2 (bs' := bs ++ [.int .u8 c]) (by simpa using hown') neBuilder
  · exact ((hb1.alloc (by have := hb1.size; omega) _).grown hgrow (by have := hb1.size; simp; omega) (fun k hk => (hown.lt k hk).1)).setCell (p := ⟨b, 1, none⟩) hB _

theorem Clone_any (l : List UInt8) (w : World) (hl : l.length ≤ 281474976710656) :
    Calls Try.prog 31 #[.string ⟨l.toArray⟩] w fun e w' => e = .returned (.string ⟨l.toArray⟩) ∧ Below w.heap.size w w' := by
  go_enter Try.func31, Try.ntmps31
  go_wp2_with (go_at_call 42; refine (Try.stringslite_Clone ⟨l.toArray⟩ _ hl).mono ?_; rintro e w' ⟨rfl, hb⟩)
  go_ret
  exact ⟨rfl, hb⟩
end Go.Proofs.Ytkfpkcilgaldpag

/- quote, langMark: a text between quotes, and what stands behind it. -/
namespace Go.Proofs.Ytkfpkcilgaldpag
open Go Go.RowKit Go.Proofs

/-- what stands between the quotes -/
def escL (l : List UInt8) : List UInt8 := l.flatMap fun c => if markB (c.toNat : Int) then [92, c] else [c]
def quoteL (l : List UInt8) : List UInt8 := 34 :: (escL l ++ [34])

theorem escL_len (l : List UInt8) : (escL l).length ≤ 2 * l.length := by
  induction l with
  | nil => simp [escL]
  | cons c r ih =>
    have : escL (c :: r) = (if markB (c.toNat : Int) then [92, c] else [c]) ++ escL r := by simp [escL]
    rw [this, List.length_append]
    cases markB (c.toNat : Int) <;> simp <;> omega

theorem escL_take (l : List UInt8) (k : Nat) (h : k < l.length) : escL (l.take (k + 1)) = escL (l.take k) ++ if markB (l[k].toNat : Int) then [92, l[k]] else [l[k]] := by
  rw [List.take_succ_eq_append_getElem h]
  simp only [escL, List.flatMap_append, List.flatMap_cons, List.flatMap_nil, List.append_nil]

theorem cells_snoc (l : List UInt8) (c : UInt8) : Lib.byteCells l ++ [.int .u8 (c.toNat : Int)] = Lib.byteCells (l ++ [c]) := by simp [Lib.byteCells]

set_option maxHeartbeats 1000000 in
set_option maxRecDepth 100000 in
theorem quote_any (S : List UInt8) (w : World) (hs : S.length ≤ 1000000) :
    Calls Try.prog 29 #[.string ⟨S.toArray⟩] w fun e w' => e = .returned (.string ⟨(quoteL S).toArray⟩) ∧ Below w.heap.size w w' := by
  have hB0 := Lib.fresh_isBuilder 41 5 w
  go_enter Try.func29, Try.ntmps29
  go_wp2_with fail
  refine (WriteByte_any w.heap.size w.heap.size [] 34 _ hB0 (by simp) (by simp)).mono ?_
  rintro e w1 ⟨rfl, hI1, hb1⟩
  have hI1' : Lib.IsBuilder 41 5 w.heap.size w.heap.size (Lib.byteCells (34 :: escL (S.take 0))) w1 := Or.inr hI1
  clear hI1
  have hbw : Below w.heap.size w w1 := (balloc w _).trans hb1
  clear hb1 hB0
  go_wp2_with fail
  go_loopw [8] (fun i wr => ∃ k : Nat, k ≤ S.length ∧ i = .int .i64 k ∧ Lib.IsBuilder 41 5 w.heap.size w.heap.size (Lib.byteCells (34 :: escL (S.take k))) wr ∧ Below w.heap.size w wr) (fun i wr => S.length - (intOf i).toNat)
  case atStart => exact ⟨0, Nat.zero_le _, rfl, hI1', hbw⟩
  case round =>
    obtain ⟨k, hk, rfl, hI, hbr⟩ := hrel
    have hlen := escL_len (S.take k)
    have hlt2 : (S.take k).length ≤ k := List.length_take_le _ _
    have hsz := hbr.size
    clear hI1' hbw
    by_cases hlt : k < S.length
    · have hidx : ∀ h, (⟨S.toArray⟩ : ByteArray)[k]'h = S[k] := fun _ => rfl
      cases hm : markB (S[k].toNat : Int)
      · have hnext : Hid (Lib.byteCells (34 :: escL (S.take (k + 1))) = Lib.byteCells (34 :: escL (S.take k)) ++ [.int .u8 (S[k].toNat : Int)]) := by
          show _ = _; rw [cells_snoc, escL_take S k hlt, hm]; simp
        go_wp2_with (first | (go_at_call 41; refine (isMarked_any _ _).mono ?_; rintro e w' ⟨rfl, rfl⟩))
        refine (WriteByte_any w.heap.size w.heap.size _ _ _ hI (by simp [Lib.byteCells]; omega) hsz).mono ?_
        rintro e w2 ⟨rfl, hI2, hb2⟩
        rw [← hnext.out] at hI2
        go_wp2_with fail
        exact ⟨⟨k + 1, by omega, by go_num, Or.inr hI2, hbr.trans hb2⟩, by simp [intOf]; omega⟩
      · have hnext : Hid (Lib.byteCells (34 :: escL (S.take (k + 1))) = (Lib.byteCells (34 :: escL (S.take k)) ++ [.int .u8 92]) ++ [.int .u8 (S[k].toNat : Int)]) := by
          show _ = _
          have e92 : (.int .u8 92 : Value) = .int .u8 ((92 : UInt8).toNat : Int) := rfl
          rw [e92, cells_snoc, cells_snoc, escL_take S k hlt, hm]; simp
        go_wp2_with (first | (go_at_call 41; refine (isMarked_any _ _).mono ?_; rintro e w' ⟨rfl, rfl⟩))
        refine (WriteByte_any w.heap.size w.heap.size _ _ _ hI (by simp [Lib.byteCells]; omega) hsz).mono ?_
        rintro e w2 ⟨rfl, hI2, hb2⟩
        have hbr2 := hbr.trans hb2
        have hsz2 := hbr2.size
        go_wp2_with fail
        refine (WriteByte_any w.heap.size w.heap.size _ _ _ (Or.inr hI2) (by simp [Lib.byteCells]; omega) hsz2).mono ?_
        rintro e w3 ⟨rfl, hI3, hb3⟩
        rw [← hnext.out] at hI3
        go_wp2_with fail
        exact ⟨⟨k + 1, by omega, by go_num, Or.inr hI3, hbr2.trans hb3⟩, by simp [intOf]; omega⟩
    · have hk' : k = S.length := by omega
      subst hk'
      rw [List.take_length] at hI hlen
      go_wp2_with fail
      refine (WriteByte_any w.heap.size w.heap.size _ _ _ hI (by simp [Lib.byteCells]; omega) hsz).mono ?_
      rintro e w2 ⟨rfl, hI2, hb2⟩
      have hbr2 := hbr.trans hb2
      have hsz2 := hbr2.size
      have e34 : (.int .u8 34 : Value) = .int .u8 ((34 : UInt8).toNat : Int) := rfl
      rw [e34, cells_snoc] at hI2
      clear e34
      go_wp2_with fail
      refine (Try.Builder_String_any w.heap.size w.heap.size _ _ (Or.inr hI2) hsz2).mono ?_
      rintro e w3 ⟨rfl, hb3⟩
      go_wp2_with fail
      go_ret
      exact ⟨rfl, hbr2.trans hb3⟩

theorem str_app (a b : List UInt8) : ((⟨a.toArray⟩ : ByteArray) ++ (⟨b.toArray⟩ : ByteArray)) = ⟨(a ++ b).toArray⟩ := by
  apply ByteArray.ext
  rw [ByteArray.data_append]
  simp

def markL (L : List UInt8) : List UInt8 := match L with | [] => [] | c :: r => 64 :: c :: r
theorem markL_len (L : List UInt8) : (markL L).length ≤ L.length + 1 := by cases L <;> simp [markL]
theorem quoteL_len (L : List UInt8) : (quoteL L).length ≤ 2 * L.length + 2 := by have := escL_len L; simp [quoteL]; omega

theorem langMark_any (L : List UInt8) (w : World) (hl : L.length ≤ 1000000) :
    Calls Try.prog 30 #[.string ⟨L.toArray⟩] w fun e w' => e = .returned (.string ⟨(markL L).toArray⟩) ∧ w' = w := by
  cases L with
  | nil =>
    go_enter Try.func30, Try.ntmps30
    go_wp2
    go_ret
    exact ⟨rfl, rfl⟩
  | cons c r =>
    simp only [List.length_cons] at hl
    go_enter Try.func30, Try.ntmps30
    go_wp2
    go_ret
    exact ⟨ret_val (congrArg Value.string (str_app [64] (c :: r))), rfl⟩
end Go.Proofs.Ytkfpkcilgaldpag

/- Print: a term as text. -/
namespace Go.Proofs.Ytkfpkcilgaldpag
open Go Go.RowKit Go.Proofs

/-- the text of a right term -/
def showL (k : Int) (S L : List UInt8) : List UInt8 := if k = 2 then 95 :: S else if k = 3 then quoteL S ++ markL L else S
def printL (k : Int) (S L : List UInt8) : List UInt8 := if checkN k S L = 0 then showL k S L else []

theorem str_app2 (c : UInt8) (b : List UInt8) : ((⟨#[c]⟩ : ByteArray) ++ (⟨b.toArray⟩ : ByteArray)) = ⟨(c :: b).toArray⟩ := str_app [c] b

theorem Print_bad (k : Int) (S L : List UInt8) (w : World) (hs : S.length ≤ maxLen) (hl : L.length ≤ maxLen) (h : checkN k S L ≠ 0) :
    Calls Try.prog 21 #[.agg #[.int .i64 k, .string ⟨S.toArray⟩, .string ⟨L.toArray⟩]] w fun e w' => e = .returned (.tuple #[.string ⟨#[]⟩, errV (checkN k S L)]) ∧ Below w.heap.size w w' := by
  have he : errV (checkN k S L) = .iface 48 (.int .i64 (checkN k S L)) := by simp [errV, h]
  rw [he]
  have He : Hid (errV (checkN k S L) = .iface 48 (.int .i64 (checkN k S L))) := he
  clear he
  go_enter Try.func21, Try.ntmps21
  go_wp2_with fail
  refine (Check_any k S L _ hs hl).mono ?_
  rintro e w1 ⟨rfl, hb1⟩
  rw [He.out]
  go_wp2_with fail
  go_ret2
  exact ⟨rfl, bstep (balloc _ _) hb1⟩

set_option maxHeartbeats 2000000 in
theorem Print_text (S L : List UInt8) (w : World) (hS : S.length ≤ 24) (hL : L.length ≤ 2) (He : Hid (errV (checkN 3 S L) = .nilIface)) :
    Calls Try.prog 21 #[.agg #[.int .i64 3, .string ⟨S.toArray⟩, .string ⟨L.toArray⟩]] w fun e w' => e = .returned (.tuple #[.string ⟨(showL 3 S L).toArray⟩, .nilIface]) ∧ Below w.heap.size w w' := by
  have hs : S.length ≤ maxLen := by unfold maxLen; omega
  have hl : L.length ≤ maxLen := by unfold maxLen; omega
  have fin : Hid (showL 3 S L = quoteL S ++ markL L) := rfl
  go_enter Try.func21, Try.ntmps21
  go_wp2_with fail
  refine (Check_any 3 S L _ hs hl).mono ?_
  rintro e w1 ⟨rfl, hb1⟩
  obtain ⟨hc1, hf1⟩ := bcell hb1
  have hz : w.heap.size < w1.heap.size := by have := hb1.size; simp at this; omega
  rw [He.out]
  go_wp2_with fail
  have hcS : w1.cell? ⟨w.heap.size, 1, none⟩ = some (.string ⟨S.toArray⟩) := by rw [hc1 _ _ (by simp)]; simp
  have hcL : w1.cell? ⟨w.heap.size, 2, none⟩ = some (.string ⟨L.toArray⟩) := by rw [hc1 _ _ (by simp)]; simp
  clear hc1 hf1
  have hq := quoteL_len S
  have hm := markL_len L
  go_region_with (first
    | (go_at_call 29; refine (quote_any S _ (by omega)).mono ?_; rintro e w2 ⟨rfl, hb2⟩
       have hcS2 : w2.cell? ⟨w.heap.size, 1, none⟩ = some (.string ⟨S.toArray⟩) := (hb2.cell (p := ⟨w.heap.size, 1, none⟩) hz).trans hcS
       have hcL2 : w2.cell? ⟨w.heap.size, 2, none⟩ = some (.string ⟨L.toArray⟩) := (hb2.cell (p := ⟨w.heap.size, 2, none⟩) hz).trans hcL)
    | (go_at_call 30; refine (langMark_any L _ (by omega)).mono ?_; rintro e w3 ⟨rfl, rfl⟩))
  all_goals
    go_wp2
    go_ret2
    exact ⟨ret_two (by rw [fin.out, ← str_app]; rfl) rfl, bstep (bstep (balloc _ _) hb1) (bdrew hb2)⟩

theorem Print_good (k : Int) (S L : List UInt8) (w : World) (h : checkN k S L = 0) :
    Calls Try.prog 21 #[.agg #[.int .i64 k, .string ⟨S.toArray⟩, .string ⟨L.toArray⟩]] w fun e w' => e = .returned (.tuple #[.string ⟨(showL k S L).toArray⟩, .nilIface]) ∧ Below w.heap.size w w' := by
  obtain ⟨hk, hS, hsp⟩ := check_zero h
  have hL := spell_lang hsp
  have hs : S.length ≤ maxLen := by unfold maxLen; omega
  have hl : L.length ≤ maxLen := by unfold maxLen; omega
  have He : Hid (errV (checkN k S L) = .nilIface) := by show _ = _; rw [h]; rfl
  clear h hsp
  rcases hk with rfl | rfl | rfl
  · have fin : Hid (showL 1 S L = S) := rfl
    go_enter Try.func21, Try.ntmps21
    go_wp2_with fail
    refine (Check_any 1 S L _ hs hl).mono ?_
    rintro e w1 ⟨rfl, hb1⟩
    obtain ⟨hc1, hf1⟩ := bcell hb1
    rw [He.out]
    go_wp2_with fail
    refine (Clone_any S _ (by omega)).mono ?_
    rintro e w2 ⟨rfl, hb2⟩
    go_wp2_with fail
    go_ret2
    exact ⟨ret_two (by rw [fin.out]; rfl) rfl, bstep (bstep (balloc _ _) hb1) hb2⟩
  · have fin : Hid (showL 2 S L = 95 :: S) := rfl
    go_enter Try.func21, Try.ntmps21
    go_wp2_with fail
    refine (Check_any 2 S L _ hs hl).mono ?_
    rintro e w1 ⟨rfl, hb1⟩
    obtain ⟨hc1, hf1⟩ := bcell hb1
    rw [He.out]
    go_wp2_with fail
    go_ret2
    exact ⟨ret_two (by rw [fin.out, ← str_app2 95 S]; rfl) rfl, bstep (balloc _ _) hb1⟩
  · exact Print_text S L w hS hL He

theorem Print_any (k : Int) (S L : List UInt8) (w : World) (hs : S.length ≤ maxLen) (hl : L.length ≤ maxLen) :
    Calls Try.prog 21 #[.agg #[.int .i64 k, .string ⟨S.toArray⟩, .string ⟨L.toArray⟩]] w fun e w' => e = .returned (.tuple #[.string ⟨(printL k S L).toArray⟩, errV (checkN k S L)]) ∧ Below w.heap.size w w' := by
  by_cases h : checkN k S L = 0
  · refine (Print_good k S L w h).mono ?_
    rintro e w' ⟨rfl, hb⟩
    exact ⟨by rw [show printL k S L = showL k S L from if_pos h, h]; rfl, hb⟩
  · refine (Print_bad k S L w hs hl h).mono ?_
    rintro e w' ⟨rfl, hb⟩
    exact ⟨by rw [show printL k S L = [] from if_neg h], hb⟩
end Go.Proofs.Ytkfpkcilgaldpag

/- (*strings.Builder).WriteString; strings.Join of three texts. -/
namespace Go.Proofs.Ytkfpkcilgaldpag
open Go Go.RowKit Go.Proofs

theorem infoStr : (Try.prog.info? 9).map (fun i => (i.zero, i.size, i.bytes)) = some (some (.string ByteArray.empty), 1, 16) := by kernel_rfl

set_option maxHeartbeats 1000000 in
set_option maxRecDepth 100000 in
theorem WriteString_any (B b : Nat) (bs l : List UInt8) (w : World) (h : Lib.IsBuilder 41 5 B b (Lib.byteCells bs) w) (hlen : bs.length + l.length ≤ 140737488355328) (hBw : B ≤ w.heap.size) :
    Calls Try.prog 10 #[.pointer (some ⟨b, 0, none⟩), .string ⟨l.toArray⟩] w fun e w' => (∃ v, e = .returned v) ∧ (Lib.BuilderAt 41 5 B b (.pointer (some ⟨b, 0, none⟩)) (Lib.byteCells (bs ++ l)) w' ∧ Below B w w') := by
  obtain ⟨i0, hi, hz⟩ := Option.map_eq_some_iff.1 infoByte
  simp only [Prod.mk.injEq] at hz
  obtain ⟨hz0, hz1, hz2⟩ := hz
  have hbl : (Lib.byteCells bs).length = bs.length := by simp [Lib.byteCells]
  go_enter Try.func10, Try.ntmps10
  go_wp2_with (go_at_call 15; refine (copyCheck_any B b (Lib.byteCells bs) _ h).mono ?_)
  rintro e w1 ⟨rfl, h1, hb1⟩
  obtain ⟨hB, v, hbk, hown, hne⟩ := h1
  have c0 : w1.cell? ⟨b, 0, none⟩ = some (.pointer (some ⟨b, 0, none⟩)) := by rw [Lib.cell_of_heap hbk]; rfl
  have c1 : w1.cell? ⟨b, 1, none⟩ = some v := by rw [Lib.cell_of_heap hbk]; rfl
  go_wp2_with (at_builtin; refine Lib.wpList_append_own_string _ rfl _ _ 39 9 rfl B 5 i0 Try.underlying39 Try.underlying9 hi hz0 hz1 hz2 _ _ _ rfl hown ⟨l.toArray⟩ rfl ?c3 ?c4 ?c5 ?_)
  case c3 => unfold maxLen; simp [ByteArray.size]; omega
  case c4 => simp [ByteArray.size]; omega
  case c5 => have := hb1.size; omega
  intro v' w2 hown' hgrow _
  have hlt : b < w1.heap.size := by
    rcases Nat.lt_or_ge b w1.heap.size with h' | h'
    · exact h'
    · simp [Array.getElem?_eq_none h'] at hbk
  have hb2 : w2.heap[b]? = some (.cells #[.pointer (some ⟨b, 0, none⟩), v] 41 (0, 0)) := by
    rw [hgrow.block b hlt (fun e => hne e.symm)]
    exact hbk
  have d0 : w2.cell? ⟨b, 0, none⟩ = some (.pointer (some ⟨b, 0, none⟩)) := by rw [Lib.cell_of_heap hb2]; rfl
  have d1 : w2.cell? ⟨b, 1, none⟩ = some v := by rw [Lib.cell_of_heap hb2]; rfl
  have f1 : w2.frozen? ⟨b, 1, none⟩ = false := Lib.frozen_of_heap hb2 1
  obtain ⟨ao, n', cap, rfl⟩ : ∃ ao n' cap, v' = .slice ao n' cap := by
    rcases hown'.2 with ⟨hv, _⟩ | ⟨g, cap, cur, hv, _⟩
    · exact ⟨_, _, _, hv⟩
    · exact ⟨_, _, _, hv⟩
  have hcat : Lib.byteCells bs ++ Lib.strCells ⟨l.toArray⟩ = Lib.byteCells (bs ++ l) := by simp [Lib.byteCells, Lib.strCells]
  rw [hcat] at hown'
  go_wp2
  refine bodyPost_ret (v := .tuple #[.int .i64 l.length, .nilIface]) (by simp [results, Try.results10, go_sem]) rfl ⟨⟨_, rfl⟩, ?_, ?_⟩
  · exact Lib.BuilderAt.put (T := 41) (e := 5) hB hb2 (bs' := Lib.byteCells (bs ++ l)) (by simpa [Lib.byteCells, ByteArray.size] using hown') neBuilder
  · exact (hb1.grown hgrow (by have := hb1.size; omega) (fun k hk => (hown.lt k hk).1)).setCell (p := ⟨b, 1, none⟩) hB _

theorem Grow_any (b n : Nat) (N : Int) (w : World) (hN : N = (n : Int)) (hbk : w.heap[b]? = some (.cells #[.pointer none, .slice none 0 0] 41 (0, 0))) (hBw : b ≤ w.heap.size) (hn : n ≤ 281474976710656) :
    Calls Try.prog 32 #[.pointer (some ⟨b, 0, none⟩), .int .i64 N] w fun e w' => e = .returned (.tuple #[]) ∧ (Lib.BuilderAt 41 5 b b (.pointer (some ⟨b, 0, none⟩)) [] w' ∧ Below b w w') := by
  subst hN
  exact Try.Builder_Grow_fresh b b n w (Nat.le_refl _) hbk hBw hn

/-- how long what was counted is -/
def lenUpto (x y z : List UInt8) (k : Nat) : Nat := 2 + (if 0 < k then x.length else 0) + (if 1 < k then y.length else 0) + (if 2 < k then z.length else 0)
/-- what was written -/
def joinUpto (x y z : List UInt8) (k : Nat) : List UInt8 := x ++ (if 0 < k then 32 :: y else []) ++ (if 1 < k then 32 :: z else [])

set_option maxHeartbeats 4000000 in
set_option maxRecDepth 100000 in
theorem Join_any (c : Nat) (x y z : List UInt8) (w : World) (hx : x.length ≤ 1000) (hy : y.length ≤ 1000) (hz : z.length ≤ 1000)
    (h0 : w.cell? ⟨c, 0, none⟩ = some (.string ⟨x.toArray⟩)) (h1 : w.cell? ⟨c, 1, none⟩ = some (.string ⟨y.toArray⟩)) (h2 : w.cell? ⟨c, 2, none⟩ = some (.string ⟨z.toArray⟩)) :
    Calls Try.prog 22 #[.slice (some ⟨c, 0, none⟩) 3 3, .string ⟨#[32]⟩] w fun e w' => e = .returned (.string ⟨(joinUpto x y z 2).toArray⟩) ∧ Below w.heap.size w w' := by
  go_enter Try.func22, Try.ntmps22
  go_wp2
  go_loop [5, 41] (fun n i => ∃ (k : Nat) (N : Int), k ≤ 3 ∧ i = .int .i64 k ∧ n = .int .i64 N ∧ 0 ≤ N ∧ N ≤ 10000 ∧ Hid (N = (lenUpto x y z k : Int))) (fun _ i => 3 - (intOf i).toNat)
  case atStart => exact ⟨0, 2, by omega, rfl, rfl, by omega, by omega, rfl⟩
  case round =>
    obtain ⟨k, N, hk, rfl, rfl, hN0, hN1, hN⟩ := hrel
    have hw1 : IntKind.i64.wrap (9223372036854775807 - N) = 9223372036854775807 - N := by simp [IntKind.wrap, IntKind.bits, IntKind.signed]; omega
    rcases (by omega : k = 0 ∨ k = 1 ∨ k = 2 ∨ k = 3) with rfl | rfl | rfl | rfl
    · have hs : IntKind.i64.wrap (N + (x.length : Int)) = N + (x.length : Int) := by simp [IntKind.wrap, IntKind.bits, IntKind.signed]; omega
      have hd : decide ((x.length : Int) > 9223372036854775807 - N) = false := by simp; omega
      go_wp2
      exact ⟨⟨1, N + x.length, by omega, by go_num, rfl, by omega, by have := hN.out; simp [lenUpto] at this; omega, by have := hN.out; simp [Hid, lenUpto] at this ⊢; omega⟩, by simp [intOf]⟩
    · have hs : IntKind.i64.wrap (N + (y.length : Int)) = N + (y.length : Int) := by simp [IntKind.wrap, IntKind.bits, IntKind.signed]; omega
      have hd : decide ((y.length : Int) > 9223372036854775807 - N) = false := by simp; omega
      go_wp2
      exact ⟨⟨2, N + y.length, by omega, by go_num, rfl, by omega, by have := hN.out; simp [lenUpto] at this; omega, by have := hN.out; simp [Hid, lenUpto] at this ⊢; omega⟩, by simp [intOf]⟩
    · have hs : IntKind.i64.wrap (N + (z.length : Int)) = N + (z.length : Int) := by simp [IntKind.wrap, IntKind.bits, IntKind.signed]; omega
      have hd : decide ((z.length : Int) > 9223372036854775807 - N) = false := by simp; omega
      go_wp2
      exact ⟨⟨3, N + z.length, by omega, by go_num, rfl, by omega, by have := hN.out; simp [lenUpto] at this; omega, by have := hN.out; simp [Hid, lenUpto] at this ⊢; omega⟩, by simp [intOf]⟩
    · clear hw1
      go_wp2_with fail
      refine (Grow_any w.heap.size (lenUpto x y z 3) N _ hN.out (heap_alloc_new w _) (by simp) (by have : lenUpto x y z 3 = 2 + x.length + y.length + z.length := rfl; omega)).mono ?_
      rintro e w1 ⟨rfl, hI1, hb1⟩
      have hbw : Below w.heap.size w w1 := (balloc w _).trans hb1
      have hB1 := hbw.size
      obtain ⟨kc, _⟩ := bcell hbw
      have g0 := hbw.cell (World.block_lt_of_cell? w _ h0) |>.trans h0
      have g1 := hbw.cell (World.block_lt_of_cell? w _ h1) |>.trans h1
      have g2 := hbw.cell (World.block_lt_of_cell? w _ h2) |>.trans h2
      clear hb1 kc
      go_wp2_with fail
      refine (WriteString_any w.heap.size w.heap.size [] x _ (Or.inr hI1) (by simp; omega) hB1).mono ?_
      rintro e w2 ⟨⟨v, rfl⟩, hI2, hb2⟩
      have hbw2 := hbw.trans hb2
      clear hb2 hI1 hbw g0 g1 g2 hB1
      go_wp2_with fail
      go_loopw [65] (fun i wr => ∃ k : Nat, k ≤ 2 ∧ i = .int .i64 k ∧ Lib.IsBuilder 41 5 w.heap.size w.heap.size (Lib.byteCells (joinUpto x y z k)) wr ∧ Below w.heap.size w wr) (fun i wr => 2 - (intOf i).toNat)
      case atStart => exact ⟨0, by omega, rfl, Or.inr (by simpa [joinUpto] using hI2), hbw2⟩
      case round =>
        obtain ⟨k, hk, rfl, hI, hbr⟩ := hrel
        have hB := hbr.size
        have g1 := hbr.cell (World.block_lt_of_cell? w _ h1) |>.trans h1
        have g2 := hbr.cell (World.block_lt_of_cell? w _ h2) |>.trans h2
        rcases (by omega : k = 0 ∨ k = 1 ∨ k = 2) with rfl | rfl | rfl
        · go_wp2_with fail
          refine (WriteString_any w.heap.size w.heap.size _ [32] _ hI (by simp [joinUpto]; omega) hB).mono ?_
          rintro e w3 ⟨⟨v, rfl⟩, hI3, hb3⟩
          have hbr3 := hbr.trans hb3
          have hB3 := hbr3.size
          go_wp2_with fail
          refine (WriteString_any w.heap.size w.heap.size _ y _ (Or.inr hI3) (by simp [joinUpto]; omega) hB3).mono ?_
          rintro e w4 ⟨⟨v, rfl⟩, hI4, hb4⟩
          go_wp2_with fail
          exact ⟨⟨1, by omega, by go_num, Or.inr (by simpa [joinUpto] using hI4), hbr3.trans hb4⟩, by simp [intOf]⟩
        · go_wp2_with fail
          refine (WriteString_any w.heap.size w.heap.size _ [32] _ hI (by simp [joinUpto]; omega) hB).mono ?_
          rintro e w3 ⟨⟨v, rfl⟩, hI3, hb3⟩
          have hbr3 := hbr.trans hb3
          have hB3 := hbr3.size
          go_wp2_with fail
          refine (WriteString_any w.heap.size w.heap.size _ z _ (Or.inr hI3) (by simp [joinUpto]; omega) hB3).mono ?_
          rintro e w4 ⟨⟨v, rfl⟩, hI4, hb4⟩
          go_wp2_with fail
          exact ⟨⟨2, by omega, by go_num, Or.inr (by simpa [joinUpto] using hI4), hbr3.trans hb4⟩, by simp [intOf]⟩
        · go_wp2_with fail
          refine (Try.Builder_String_any w.heap.size w.heap.size (joinUpto x y z 2) _ hI hB).mono ?_
          rintro e w3 ⟨rfl, hb3⟩
          go_wp2_with fail
          go_ret
          exact ⟨rfl, hbr.trans hb3⟩
end Go.Proofs.Ytkfpkcilgaldpag

/- An error against nil; what is kept of three terms that a law has boxed. -/
namespace Go.Proofs.Ytkfpkcilgaldpag
open Go Go.RowKit Go.Proofs

theorem eql_errV (n : Int) (w : World) : (binOp .eql 26 (errV n) .nilIface).run Try.prog w = .ok (.bool (n == 0)) w := by
  unfold errV
  by_cases h : n = 0
  · subst h; rw [if_pos rfl]; go_simp
  · rw [if_neg h]
    have h' : (n == 0) = false := by simpa using h
    rw [h']
    go_simp
theorem neq_errV (n : Int) (w : World) : (binOp .neq 26 (errV n) .nilIface).run Try.prog w = .ok (.bool (!(n == 0))) w := by
  unfold errV
  by_cases h : n = 0
  · subst h; rw [if_pos rfl]; go_simp
  · rw [if_neg h]
    have h' : (n == 0) = false := by simpa using h
    rw [h']
    go_simp
theorem guard_errV (op : BinOp) (t : TypeId) (x : Operand) (c : Value) (n : Int) : eqGuard op t x (.const c) (errV n) .nilIface = pure () := by
  unfold errV
  by_cases h : n = 0
  · subst h; rw [if_pos rfl]; exact eqGuard_nil_constR ..
  · rw [if_neg h]; cases op <;> rfl

/-- three terms that were boxed, read later on -/
theorem boxes {w W : World} {T : TypeId} {a0 a1 a2 b0 b1 b2 c0 c1 c2 : Value}
    (hb : Below (((w.alloc (.cells #[a0, a1, a2] T)).alloc (.cells #[b0, b1, b2] T)).alloc (.cells #[c0, c1, c2] T)).heap.size (((w.alloc (.cells #[a0, a1, a2] T)).alloc (.cells #[b0, b1, b2] T)).alloc (.cells #[c0, c1, c2] T)) W) :
    W.cell? ⟨w.heap.size, 0, none⟩ = some a0 ∧ W.cell? ⟨w.heap.size, 1, none⟩ = some a1 ∧ W.cell? ⟨w.heap.size, 2, none⟩ = some a2 ∧
    W.cell? ⟨w.heap.size + 1, 0, none⟩ = some b0 ∧ W.cell? ⟨w.heap.size + 1, 1, none⟩ = some b1 ∧ W.cell? ⟨w.heap.size + 1, 2, none⟩ = some b2 ∧
    W.cell? ⟨w.heap.size + 1 + 1, 0, none⟩ = some c0 ∧ W.cell? ⟨w.heap.size + 1 + 1, 1, none⟩ = some c1 ∧ W.cell? ⟨w.heap.size + 1 + 1, 2, none⟩ = some c2 ∧
    w.heap.size + 1 + 1 < W.heap.size := by
  obtain ⟨h, _⟩ := bcell hb
  have hs := hb.size
  refine ⟨?_, ?_, ?_, ?_, ?_, ?_, ?_, ?_, ?_, by simp at hs; omega⟩
  all_goals
    rw [h]
    · go_simp
    · simp <;> omega
end Go.Proofs.Ytkfpkcilgaldpag

/- triple.Check: what is wrong with a triple: with S, with P, with O, and then where they stand. -/
namespace Go.Proofs.Ytkfpkcilgaldpag
open Go Go.RowKit Go.Proofs

/-- the number of the error that triple.Check tells: 0 for none -/
def shapeB (k1 k2 : Int) : Bool := (k1 == 3) || !(k2 == 1)
def check3 (c1 c2 c3 : Int) (k1 k2 : Int) : Int := if c1 = 0 then (if c2 = 0 then (if c3 = 0 then (if shapeB k1 k2 = true then 3 else 0) else c3) else c2) else c1

attribute [local go_sem] eql_errV neq_errV guard_errV

theorem ninebox {w W : World} {T : TypeId} {a0 a1 a2 b0 b1 b2 c0 c1 c2 : Value}
    (hb : Below (w.alloc (.cells #[a0, a1, a2, b0, b1, b2, c0, c1, c2] T)).heap.size (w.alloc (.cells #[a0, a1, a2, b0, b1, b2, c0, c1, c2] T)) W) :
    W.cell? ⟨w.heap.size, 0, none⟩ = some a0 ∧ W.cell? ⟨w.heap.size, 1, none⟩ = some a1 ∧ W.cell? ⟨w.heap.size, 2, none⟩ = some a2 ∧ W.cell? ⟨w.heap.size, 3, none⟩ = some b0 ∧ W.cell? ⟨w.heap.size, 4, none⟩ = some b1 ∧ W.cell? ⟨w.heap.size, 5, none⟩ = some b2 ∧ W.cell? ⟨w.heap.size, 6, none⟩ = some c0 ∧ W.cell? ⟨w.heap.size, 7, none⟩ = some c1 ∧ W.cell? ⟨w.heap.size, 8, none⟩ = some c2 ∧ w.heap.size < W.heap.size := by
  obtain ⟨h, _⟩ := bcell hb
  have hs := hb.size
  refine ⟨?_, ?_, ?_, ?_, ?_, ?_, ?_, ?_, ?_, by simp at hs; omega⟩
  all_goals
    rw [h]
    · go_simp
    · simp <;> omega

set_option maxHeartbeats 1000000 in
theorem misplaced_any (k1 : Int) (S1 L1 : List UInt8) (k2 : Int) (S2 L2 : List UInt8) (k3 : Int) (S3 L3 : List UInt8) (w : World) :
    Calls Try.prog 20 #[.agg #[.int .i64 k1, .string ⟨S1.toArray⟩, .string ⟨L1.toArray⟩, .int .i64 k2, .string ⟨S2.toArray⟩, .string ⟨L2.toArray⟩, .int .i64 k3, .string ⟨S3.toArray⟩, .string ⟨L3.toArray⟩]] w
      fun e w' => e = .returned (.bool (shapeB k1 k2)) ∧ Below w.heap.size w w' := by
  have fin2 : Hid (shapeB k1 k2 = ((k1 == 3) || !(k2 == 1))) := rfl
  cases h3 : (k1 == 3)
  · cases h1 : (k2 == 1)
    all_goals
      go_enter Try.func20, Try.ntmps20
      go_wp2_with fail
      go_ret
      exact ⟨ret_bool (by rw [fin2.out, h3]; rfl), balloc _ _⟩
  · go_enter Try.func20, Try.ntmps20
    go_wp2_with fail
    go_ret
    exact ⟨ret_bool (by rw [fin2.out, h3]; rfl), balloc _ _⟩

theorem index0 (a0 a1 a2 b0 b1 b2 c0 c1 c2 : Value) (w : World) : (Instr.index 55 (.agg #[a0, a1, a2, b0, b1, b2, c0, c1, c2]) (.int .i64 0)).run Try.prog w = .ok (.agg #[a0, a1, a2]) w := by kernel_rfl
theorem index1 (a0 a1 a2 b0 b1 b2 c0 c1 c2 : Value) (w : World) : (Instr.index 55 (.agg #[a0, a1, a2, b0, b1, b2, c0, c1, c2]) (.int .i64 1)).run Try.prog w = .ok (.agg #[b0, b1, b2]) w := by kernel_rfl
theorem index2 (a0 a1 a2 b0 b1 b2 c0 c1 c2 : Value) (w : World) : (Instr.index 55 (.agg #[a0, a1, a2, b0, b1, b2, c0, c1, c2]) (.int .i64 2)).run Try.prog w = .ok (.agg #[c0, c1, c2]) w := by kernel_rfl
attribute [local go_sem] index0 index1 index2

set_option maxHeartbeats 4000000 in
set_option maxRecDepth 100000 in
theorem TCheck_any (k1 : Int) (S1 L1 : List UInt8) (k2 : Int) (S2 L2 : List UInt8) (k3 : Int) (S3 L3 : List UInt8) (w : World)
    (hs1 : S1.length ≤ maxLen) (hl1 : L1.length ≤ maxLen) (hs2 : S2.length ≤ maxLen) (hl2 : L2.length ≤ maxLen) (hs3 : S3.length ≤ maxLen) (hl3 : L3.length ≤ maxLen) :
    Calls Try.prog 13 #[.agg #[.int .i64 k1, .string ⟨S1.toArray⟩, .string ⟨L1.toArray⟩, .int .i64 k2, .string ⟨S2.toArray⟩, .string ⟨L2.toArray⟩, .int .i64 k3, .string ⟨S3.toArray⟩, .string ⟨L3.toArray⟩]] w
      fun e w' => e = .returned (errV (check3 (checkN k1 S1 L1) (checkN k2 S2 L2) (checkN k3 S3 L3) k1 k2)) ∧ Below w.heap.size w w' := by
  have H1 := fun W => Check_any k1 S1 L1 W hs1 hl1
  have H2 := fun W => Check_any k2 S2 L2 W hs2 hl2
  have H3 := fun W => Check_any k3 S3 L3 W hs3 hl3
  generalize checkN k1 S1 L1 = c1 at H1 ⊢
  generalize checkN k2 S2 L2 = c2 at H2 ⊢
  generalize checkN k3 S3 L3 = c3 at H3 ⊢
  have fin : Hid (check3 c1 c2 c3 k1 k2 = if c1 = 0 then (if c2 = 0 then (if c3 = 0 then (if shapeB k1 k2 = true then 3 else 0) else c3) else c2) else c1) := rfl
  clear hs1 hl1 hs2 hl2 hs3 hl3
  go_enter Try.func13, Try.ntmps13
  go_wp2_with fail
  go_loopw [13] (fun i wr => ∃ k : Int, 0 ≤ k ∧ k ≤ 3 ∧ i = .int .i64 k ∧ Below (w.alloc (.cells #[.int .i64 k1, .string ⟨S1.toArray⟩, .string ⟨L1.toArray⟩, .int .i64 k2, .string ⟨S2.toArray⟩, .string ⟨L2.toArray⟩, .int .i64 k3, .string ⟨S3.toArray⟩, .string ⟨L3.toArray⟩] 33)).heap.size (w.alloc (.cells #[.int .i64 k1, .string ⟨S1.toArray⟩, .string ⟨L1.toArray⟩, .int .i64 k2, .string ⟨S2.toArray⟩, .string ⟨L2.toArray⟩, .int .i64 k3, .string ⟨S3.toArray⟩, .string ⟨L3.toArray⟩] 33)) wr
      ∧ (0 < k → c1 = 0) ∧ (1 < k → c2 = 0) ∧ (2 < k → c3 = 0)) (fun i wr => (3 - intOf i).toNat)
  case atStart => exact ⟨0, by omega, by omega, rfl, Below.refl _ _, by omega, by omega, by omega⟩
  case round =>
    obtain ⟨k, hk, hk', rfl, hbr, q0, q1, q2⟩ := hrel
    rcases (by omega : k = 0 ∨ k = 1 ∨ k = 2 ∨ k = 3) with rfl | rfl | rfl | rfl
    · clear hk hk' q0 q1 q2
      go_wp2_with fail
      refine (H1 _).mono ?_
      rintro e w1 ⟨rfl, hb1⟩
      have hB := bstep (bstep hbr (balloc _ _)) hb1
      cases hc : (c1 == 0)
      · go_wp2_with fail
        go_ret
        simp at hc
        exact ⟨ret_val (by rw [fin.out]; simp [hc]), bstep (balloc _ _) hB⟩
      · go_wp2_with fail
        simp at hc
        exact ⟨⟨1, by omega, by omega, by go_num, hB, fun _ => hc, by omega, by omega⟩, by simp [intOf]⟩
    · have hx : Hid (c1 = 0) := q0 (by omega)
      clear hk hk' q0 q1 q2
      go_wp2_with fail
      refine (H2 _).mono ?_
      rintro e w1 ⟨rfl, hb1⟩
      have hB := bstep (bstep hbr (balloc _ _)) hb1
      cases hc : (c2 == 0)
      · go_wp2_with fail
        go_ret
        simp at hc
        exact ⟨ret_val (by rw [fin.out]; simp [hc, hx.out]), bstep (balloc _ _) hB⟩
      · go_wp2_with fail
        simp at hc
        exact ⟨⟨2, by omega, by omega, by go_num, hB, fun _ => hx.out, fun _ => hc, by omega⟩, by simp [intOf]⟩
    · have hx : Hid (c1 = 0) := q0 (by omega)
      have hy : Hid (c2 = 0) := q1 (by omega)
      clear hk hk' q0 q1 q2
      go_wp2_with fail
      refine (H3 _).mono ?_
      rintro e w1 ⟨rfl, hb1⟩
      have hB := bstep (bstep hbr (balloc _ _)) hb1
      cases hc : (c3 == 0)
      · go_wp2_with fail
        go_ret
        simp at hc
        exact ⟨ret_val (by rw [fin.out]; simp [hc, hx.out, hy.out]), bstep (balloc _ _) hB⟩
      · go_wp2_with fail
        simp at hc
        exact ⟨⟨3, by omega, by omega, by go_num, hB, fun _ => hx.out, fun _ => hy.out, fun _ => hc⟩, by simp [intOf]⟩
    · have hx : Hid (c1 = 0) := q0 (by omega)
      have hy : Hid (c2 = 0) := q1 (by omega)
      have hz : Hid (c3 = 0) := q2 (by omega)
      clear hk hk' q0 q1 q2
      obtain ⟨n0, n1, n2, n3, n4, n5, n6, n7, n8, hz9⟩ := ninebox hbr
      have HM := fun W => misplaced_any k1 S1 L1 k2 S2 L2 k3 S3 L3 W
      generalize shapeB k1 k2 = sh at *
      cases sh
      all_goals
        go_wp2_with fail
        refine (HM _).mono ?_
        rintro e w4 ⟨rfl, hb4⟩
        go_wp2_with fail
        go_ret
        exact ⟨ret_val (by rw [fin.out]; simp [hx.out, hy.out, hz.out]; rfl), bstep (bstep (balloc _ _) hbr) hb4⟩
end Go.Proofs.Ytkfpkcilgaldpag
