import Derived.Test.YtpgcbhhkmjknkaaGreatRows
import Derived.WalkKit
import Derived.Below
import Derived.Shelf.Abstract

/- The leaves of package term: which bytes may stand where. Each contract says what the call returns; the world is as it was. -/
namespace Go.Proofs.YtpgcbhhkmjknkaaGreat
open Go

/-- a letter a to z, a digit, and the three sets of bytes that the chapter names -/
def letB (n : Int) : Bool := decide (97 ≤ n ∧ n ≤ 122)
def digB (n : Int) : Bool := decide (48 ≤ n ∧ n ≤ 57)
def nameB (n : Int) : Bool := letB n || digB n || decide (n = 58 ∨ n = 47 ∨ n = 46)
def anonB (n : Int) : Bool := letB n || digB n
def textB (n : Int) : Bool := decide (32 ≤ n ∧ n ≤ 126)
def markB (n : Int) : Bool := decide (n = 34 ∨ n = 92)

theorem ret_bool {a b : Bool} (h : a = b) : Ending.returned (.bool a) = .returned (.bool b) := by rw [h]

theorem isLetter_any (n : Int) (w : World) :
    Calls Tryz.prog 160 #[.int .u8 n] w fun e w' => e = .returned (.bool (letB n)) ∧ w' = w := by
  by_cases h1 : 97 ≤ n
  all_goals
    go_enter Tryz.func160, Tryz.ntmps160
    go_wp2
    go_ret
    exact ⟨ret_bool (by first | exact decide_eq_decide.2 (by omega) | exact (decide_eq_false (by omega)).symm), rfl⟩

theorem isDigit_any (n : Int) (w : World) :
    Calls Tryz.prog 163 #[.int .u8 n] w fun e w' => e = .returned (.bool (digB n)) ∧ w' = w := by
  by_cases h1 : 48 ≤ n
  all_goals
    go_enter Tryz.func163, Tryz.ntmps163
    go_wp2
    go_ret
    exact ⟨ret_bool (by first | exact decide_eq_decide.2 (by omega) | exact (decide_eq_false (by omega)).symm), rfl⟩

theorem isMarked_any (n : Int) (w : World) :
    Calls Tryz.prog 232 #[.int .u8 n] w fun e w' => e = .returned (.bool (markB n)) ∧ w' = w := by
  by_cases h1 : (n == 34) = true
  · go_enter Tryz.func232, Tryz.ntmps232
    go_wp2
    go_ret
    exact ⟨ret_bool (by simp at h1; simp [markB, h1]), rfl⟩
  · have h2 : (n == 34) = false := by simpa using h1
    clear h1
    go_enter Tryz.func232, Tryz.ntmps232
    go_wp2
    go_ret
    exact ⟨ret_bool (by rw [Bool.eq_iff_iff]; simp only [markB, decide_eq_true_eq, beq_iff_eq]; simp at h2; omega), rfl⟩

theorem isTextByte_any (n : Int) (w : World) :
    Calls Tryz.prog 165 #[.int .u8 n] w fun e w' => e = .returned (.bool (textB n)) ∧ w' = w := by
  by_cases h1 : 32 ≤ n
  all_goals
    go_enter Tryz.func165, Tryz.ntmps165
    go_wp2
    go_ret
    exact ⟨ret_bool (by first | exact decide_eq_decide.2 (by omega) | exact (decide_eq_false (by omega)).symm), rfl⟩
end Go.Proofs.YtpgcbhhkmjknkaaGreat

/- 'every', and the four readers of a whole text that go by it. -/
namespace Go.Proofs.YtpgcbhhkmjknkaaGreat
open Go Go.RowKit Go.Proofs

theorem isNameByte_any (n : Int) (w : World) :
    Calls Tryz.prog 162 #[.int .u8 n] w fun e w' => e = .returned (.bool (nameB n)) ∧ w' = w := by
  have fin : Hid (nameB n = (letB n || digB n || decide (n = 58 ∨ n = 47 ∨ n = 46))) := rfl
  cases hl : letB n <;> cases hd : digB n <;> cases h58 : (n == 58) <;> cases h47 : (n == 47)
  all_goals
    go_enter Tryz.func162, Tryz.ntmps162
    go_wp2_with (first
      | (go_at_call 160; refine (isLetter_any _ _).mono ?_; rintro e w' ⟨rfl, rfl⟩)
      | (go_at_call 163; refine (isDigit_any _ _).mono ?_; rintro e w' ⟨rfl, rfl⟩))
    go_ret
    refine ⟨ret_bool ?_, rfl⟩
    rw [fin.out, hl, hd]
    simp at h58 h47 ⊢
    try (by_cases h46 : n = 46 <;> simp [h58, h47, h46])

theorem isAnonByte_any (n : Int) (w : World) :
    Calls Tryz.prog 164 #[.int .u8 n] w fun e w' => e = .returned (.bool (anonB n)) ∧ w' = w := by
  have fin : Hid (anonB n = (letB n || digB n)) := rfl
  cases hl : letB n <;> cases hd : digB n
  all_goals
    go_enter Tryz.func164, Tryz.ntmps164
    go_wp2_with (first
      | (go_at_call 160; refine (isLetter_any _ _).mono ?_; rintro e w' ⟨rfl, rfl⟩)
      | (go_at_call 163; refine (isDigit_any _ _).mono ?_; rintro e w' ⟨rfl, rfl⟩))
    go_ret
    refine ⟨ret_bool ?_, rfl⟩
    rw [fin.out, hl, hd]
    rfl

/-- every byte of the list is so -/
def allB (p : Int → Bool) (l : List UInt8) : Bool := l.all fun c => p (c.toNat : Int)

theorem allB_take (p : Int → Bool) (s : ByteArray) (k : Nat) (h : k < s.size) :
    allB p (s.data.toList.take (k + 1)) = (allB p (s.data.toList.take k) && p (s[k].toNat : Int)) := by
  unfold allB
  rw [List.take_succ_eq_append_getElem (by simpa using h)]
  simp
  rfl

theorem allB_false (p : Int → Bool) (s : ByteArray) (k : Nat) (h : k < s.size) (hp : p (s[k].toNat : Int) = false) : allB p s.data.toList = false := by
  unfold allB
  rw [List.all_eq_false]
  exact ⟨s.data.toList[k]'(by simpa using h), List.getElem_mem _, by rw [show s.data.toList[k]'(by simpa using h) = s[k] from rfl, hp]; simp⟩

set_option maxHeartbeats 400000 in
theorem every_any (s : ByteArray) (f : Nat) (p : Int → Bool) (w : World) (hs : s.size ≤ maxLen)
    (eg : ∀ args w, (callFunc f args).run Tryz.prog w = .ok (.enter f args) w)
    (hf : ∀ (n : Int) (w : World), Calls Tryz.prog f #[.int .u8 n] w fun e w' => e = .returned (.bool (p n)) ∧ w' = w) :
    Calls Tryz.prog 161 #[.string s, .func (.func f) #[] #[]] w fun e w' => e = .returned (.bool (allB p s.data.toList)) ∧ w' = w := by
  unfold maxLen at hs
  have Hf : Hid (∀ (n : Int) (w : World), Calls Tryz.prog f #[.int .u8 n] w fun e w' => e = .returned (.bool (p n)) ∧ w' = w) := hf
  clear hf
  go_enter Tryz.func161, Tryz.ntmps161
  go_wp2
  go_loop [8] (fun i => ∃ k : Nat, k ≤ s.size ∧ i = .int .i64 k ∧ allB p (s.data.toList.take k) = true) (fun i => s.size - (intOf i).toNat)
  case atStart => exact ⟨0, Nat.zero_le _, rfl, rfl⟩
  case round =>
    obtain ⟨k, hk, rfl, hall0⟩ := hrel
    have hall : Hid (allB p (s.data.toList.take k) = true) := hall0
    clear hall0
    by_cases hlt : k < s.size
    · cases hp : p (s[k].toNat : Int)
      · go_wp2_with (go_at_fn f; refine (Hf.out _ _).mono ?_; rintro e w' ⟨rfl, rfl⟩)
        go_ret
        exact ⟨ret_bool (allB_false p s k hlt hp).symm, rfl⟩
      · go_wp2_with (go_at_fn f; refine (Hf.out _ _).mono ?_; rintro e w' ⟨rfl, rfl⟩)
        refine ⟨⟨k + 1, by omega, by go_num, ?_⟩, by simp [intOf]; omega⟩
        rw [allB_take p s k hlt, hall.out, hp]
        rfl
    · go_wp2
      go_ret
      refine ⟨ret_bool ?_, rfl⟩
      rw [← hall.out, List.take_of_length_le (by simp; omega)]

/-! ### what a whole text is -/
def nameOk (l : List UInt8) : Bool := match l with | [] => false | c :: _ => letB (c.toNat : Int) && allB nameB l
def anonOk (l : List UInt8) : Bool := match l with | [] => false | _ :: _ => allB anonB l
def langOk (l : List UInt8) : Bool := l.length == 2 && allB letB l
def textOk (l : List UInt8) : Bool := allB textB l

theorem enters160 : ∀ args w, (callFunc 160 args).run Tryz.prog w = .ok (.enter 160 args) w := enters_of Tryz.func160 (by kernel_rfl) rfl
theorem enters162 : ∀ args w, (callFunc 162 args).run Tryz.prog w = .ok (.enter 162 args) w := enters_of Tryz.func162 (by kernel_rfl) rfl
theorem enters164 : ∀ args w, (callFunc 164 args).run Tryz.prog w = .ok (.enter 164 args) w := enters_of Tryz.func164 (by kernel_rfl) rfl
theorem enters165 : ∀ args w, (callFunc 165 args).run Tryz.prog w = .ok (.enter 165 args) w := enters_of Tryz.func165 (by kernel_rfl) rfl

theorem isText_any (l : List UInt8) (w : World) (hs : l.length ≤ maxLen) :
    Calls Tryz.prog 119 #[.string ⟨l.toArray⟩] w fun e w' => e = .returned (.bool (textOk l)) ∧ w' = w := by
  go_enter Tryz.func119, Tryz.ntmps119
  go_wp2_with (go_at_call 161; refine (every_any ⟨l.toArray⟩ 165 textB _ hs enters165 isTextByte_any).mono ?_; rintro e w' ⟨rfl, rfl⟩)
  go_ret
  exact ⟨rfl, rfl⟩

theorem isAnon_any (l : List UInt8) (w : World) (hs : l.length ≤ maxLen) :
    Calls Tryz.prog 117 #[.string ⟨l.toArray⟩] w fun e w' => e = .returned (.bool (anonOk l)) ∧ w' = w := by
  cases l with
  | nil =>
    go_enter Tryz.func117, Tryz.ntmps117
    go_wp2
    go_ret
    exact ⟨rfl, rfl⟩
  | cons c r =>
    go_enter Tryz.func117, Tryz.ntmps117
    go_wp2_with (go_at_call 161; refine (every_any ⟨(c :: r).toArray⟩ 164 anonB _ hs enters164 isAnonByte_any).mono ?_; rintro e w' ⟨rfl, rfl⟩)
    go_ret
    exact ⟨rfl, rfl⟩

theorem isLang_any (l : List UInt8) (w : World) (hs : l.length ≤ maxLen) :
    Calls Tryz.prog 118 #[.string ⟨l.toArray⟩] w fun e w' => e = .returned (.bool (langOk l)) ∧ w' = w := by
  have fin : Hid (langOk l = (l.length == 2 && allB letB l)) := rfl
  by_cases h : l.length = 2
  all_goals
    go_enter Tryz.func118, Tryz.ntmps118
    go_wp2_with (go_at_call 161; refine (every_any ⟨l.toArray⟩ 160 letB _ hs enters160 isLetter_any).mono ?_; rintro e w' ⟨rfl, rfl⟩)
    go_ret
    exact ⟨ret_bool (by rw [fin.out]; simp [h]), rfl⟩

theorem isName_any (l : List UInt8) (w : World) (hs : l.length ≤ maxLen) :
    Calls Tryz.prog 116 #[.string ⟨l.toArray⟩] w fun e w' => e = .returned (.bool (nameOk l)) ∧ w' = w := by
  cases l with
  | nil =>
    go_enter Tryz.func116, Tryz.ntmps116
    go_wp2
    go_ret
    exact ⟨rfl, rfl⟩
  | cons c r =>
    have fin : Hid (nameOk (c :: r) = (letB (c.toNat : Int) && allB nameB (c :: r))) := rfl
    cases hc0 : letB (c.toNat : Int)
    all_goals
      have hc : letB (((⟨(c :: r).toArray⟩ : ByteArray)[0]'(by simp [ByteArray.size])).toNat : Int) = _ := hc0
      go_enter Tryz.func116, Tryz.ntmps116
      go_wp2_with (first
        | (go_at_call 160; refine (isLetter_any _ _).mono ?_; rintro e w' ⟨rfl, rfl⟩)
        | (go_at_call 161; refine (every_any ⟨(c :: r).toArray⟩ 162 nameB _ hs enters162 isNameByte_any).mono ?_; rintro e w' ⟨rfl, rfl⟩))
      go_ret
      exact ⟨ret_bool (by rw [fin.out, hc0]; simp), rfl⟩
end Go.Proofs.YtpgcbhhkmjknkaaGreat

/- isKind, tooLong, spelled, Check: what is wrong with a term. A term is boxed by each call: nothing old turns ('Below'). -/
namespace Go.Proofs.YtpgcbhhkmjknkaaGreat
open Go Go.RowKit Go.Proofs

def kindB (k : Int) : Bool := decide (k = 1 ∨ k = 2 ∨ k = 3)
def longB (S : List UInt8) : Bool := decide (24 < S.length)
def spellB (k : Int) (S L : List UInt8) : Bool :=
  if k = 1 then L.isEmpty && nameOk S else if k = 2 then L.isEmpty && anonOk S else if k = 3 then (L.isEmpty || langOk L) && textOk S else false
/-- the number of the error that Check tells: 0 for none -/
def checkN (k : Int) (S L : List UInt8) : Int := if kindB k = false then 1 else if longB S = true then 4 else if spellB k S L = false then 2 else 0
/-- an error as a value -/
def errV (n : Int) : Value := if n = 0 then .nilIface else .iface 89 (.int .i64 n)

theorem isKind_any (k : Int) (w : World) :
    Calls Tryz.prog 67 #[.int .i64 k] w fun e w' => e = .returned (.bool (kindB k)) ∧ w' = w := by
  have fin : Hid (kindB k = decide (k = 1 ∨ k = 2 ∨ k = 3)) := rfl
  by_cases h1 : k = 1
  · subst h1
    go_enter Tryz.func67, Tryz.ntmps67
    go_wp2
    go_ret
    exact ⟨rfl, rfl⟩
  · have h1' : (k == 1) = false := by simpa using h1
    by_cases h2 : k = 2
    · subst h2
      go_enter Tryz.func67, Tryz.ntmps67
      go_wp2
      go_ret
      exact ⟨rfl, rfl⟩
    · have h2' : (k == 2) = false := by simpa using h2
      clear h1 h2
      go_enter Tryz.func67, Tryz.ntmps67
      go_wp2
      go_ret
      refine ⟨ret_bool ?_, rfl⟩
      rw [fin.out]
      simp at h1' h2'
      by_cases h3 : k = 3 <;> simp [h1', h2', h3]

theorem tooLong_any (k : Int) (S L : List UInt8) (w : World) (hs : S.length ≤ maxLen) :
    Calls Tryz.prog 68 #[.agg #[.int .i64 k, .string ⟨S.toArray⟩, .string ⟨L.toArray⟩]] w fun e w' => e = .returned (.bool (longB S)) ∧ Below w.heap.size w w' := by
  unfold maxLen at hs
  go_enter Tryz.func68, Tryz.ntmps68
  go_wp2
  go_ret
  exact ⟨ret_bool (by unfold longB; exact decide_eq_decide.2 (by omega)), (Below.refl _ _).alloc (Nat.le_refl _) _⟩

theorem spelled_any (k : Int) (S L : List UInt8) (w : World) (hs : S.length ≤ maxLen) (hl : L.length ≤ maxLen) :
    Calls Tryz.prog 69 #[.agg #[.int .i64 k, .string ⟨S.toArray⟩, .string ⟨L.toArray⟩]] w fun e w' => e = .returned (.bool (spellB k S L)) ∧ Below w.heap.size w w' := by
  by_cases h1 : k = 1
  · subst h1
    cases L
    all_goals
      go_enter Tryz.func69, Tryz.ntmps69
      go_wp2_with (go_at_call 116; refine (isName_any S _ hs).mono ?_; rintro e w' ⟨rfl, rfl⟩)
      go_ret
      exact ⟨rfl, (Below.refl _ _).alloc (Nat.le_refl _) _⟩
  have h1' : (k == 1) = false := by simpa using h1
  by_cases h2 : k = 2
  · subst h2
    clear h1 h1'
    cases L
    all_goals
      go_enter Tryz.func69, Tryz.ntmps69
      go_wp2_with (go_at_call 117; refine (isAnon_any S _ hs).mono ?_; rintro e w' ⟨rfl, rfl⟩)
      go_ret
      exact ⟨rfl, (Below.refl _ _).alloc (Nat.le_refl _) _⟩
  have h2' : (k == 2) = false := by simpa using h2
  by_cases h3 : k = 3
  · subst h3
    clear h1 h1' h2 h2'
    cases L with
    | nil =>
      go_enter Tryz.func69, Tryz.ntmps69
      go_wp2_with (go_at_call 119; refine (isText_any S _ hs).mono ?_; rintro e w' ⟨rfl, rfl⟩)
      go_ret
      exact ⟨rfl, (Below.refl _ _).alloc (Nat.le_refl _) _⟩
    | cons c r =>
      have fin : Hid (spellB 3 S (c :: r) = (langOk (c :: r) && textOk S)) := rfl
      cases hk : langOk (c :: r)
      all_goals
        go_enter Tryz.func69, Tryz.ntmps69
        go_wp2_with (first
          | (go_at_call 118; refine (isLang_any (c :: r) _ hl).mono ?_; rintro e w' ⟨rfl, rfl⟩)
          | (go_at_call 119; refine (isText_any S _ hs).mono ?_; rintro e w' ⟨rfl, rfl⟩))
        go_ret
        exact ⟨ret_bool (by rw [fin.out, hk]; simp), (Below.refl _ _).alloc (Nat.le_refl _) _⟩
  · have h3' : (k == 3) = false := by simpa using h3
    have fin : Hid (spellB k S L = false) := by simp [Hid, spellB, h1, h2, h3]
    clear h1 h2 h3
    go_enter Tryz.func69, Tryz.ntmps69
    go_wp2
    go_ret
    exact ⟨ret_bool fin.out.symm, (Below.refl _ _).alloc (Nat.le_refl _) _⟩

/-- behind a call that turned nothing old: every old cell and every old mark reads as it did -/
theorem bcell {W w1 : World} (hb : Below W.heap.size W w1) : (∀ b o, b < W.heap.size → w1.cell? ⟨b, o, none⟩ = W.cell? ⟨b, o, none⟩) ∧ (∀ b o, b < W.heap.size → w1.frozen? ⟨b, o, none⟩ = W.frozen? ⟨b, o, none⟩) :=
  ⟨fun b o h => hb.cell (p := ⟨b, o, none⟩) h, fun b o h => hb.frozen (p := ⟨b, o, none⟩) h⟩

/-- one call behind another: nothing that was there at the first has turned -/
theorem bstep {w W w1 : World} (h : Below w.heap.size w W) (hb : Below W.heap.size W w1) : Below w.heap.size w w1 := h.trans (hb.mono h.size)
theorem balloc (w : World) (o : Obj) : Below w.heap.size w (w.alloc o) := (Below.refl _ _).alloc (Nat.le_refl _) _

theorem ret_val {a b : Value} (h : a = b) : Ending.returned a = .returned b := by rw [h]

theorem Check_any (k : Int) (S L : List UInt8) (w : World) (hs : S.length ≤ maxLen) (hl : L.length ≤ maxLen) :
    Calls Tryz.prog 33 #[.agg #[.int .i64 k, .string ⟨S.toArray⟩, .string ⟨L.toArray⟩]] w fun e w' => e = .returned (errV (checkN k S L)) ∧ Below w.heap.size w w' := by
  have fin : Hid (checkN k S L = if kindB k = false then 1 else if longB S = true then 4 else if spellB k S L = false then 2 else 0) := rfl
  cases hk : kindB k
  · go_enter Tryz.func33, Tryz.ntmps33
    go_wp2_with (go_at_call 67; refine (isKind_any k _).mono ?_; rintro e w' ⟨rfl, rfl⟩)
    go_ret
    exact ⟨ret_val (by rw [fin.out, hk]; rfl), (Below.refl _ _).alloc (Nat.le_refl _) _⟩
  cases hlong : longB S
  · cases hsp : spellB k S L
    all_goals
      go_enter Tryz.func33, Tryz.ntmps33
      go_wp2_with (go_at_call 67; refine (isKind_any k _).mono ?_; rintro e w' ⟨rfl, rfl⟩)
      refine (tooLong_any k S L _ hs).mono ?_
      rintro e w1 ⟨rfl, hb1⟩
      obtain ⟨hc1, hf1⟩ := bcell hb1
      go_wp2_with fail
      refine (spelled_any k S L _ hs hl).mono ?_
      rintro e w2 ⟨rfl, hb2⟩
      go_wp2_with fail
      go_ret
      exact ⟨ret_val (by rw [fin.out, hk, hlong, hsp]; rfl), bstep (bstep (balloc _ _) hb1) hb2⟩
  · go_enter Tryz.func33, Tryz.ntmps33
    go_wp2_with (go_at_call 67; refine (isKind_any k _).mono ?_; rintro e w' ⟨rfl, rfl⟩)
    refine (tooLong_any k S L _ hs).mono ?_
    rintro e w1 ⟨rfl, hb1⟩
    go_wp2_with fail
    go_ret
    exact ⟨ret_val (by rw [fin.out, hk, hlong]; rfl), bstep (balloc _ _) hb1⟩
theorem ret_two {a b c d : Value} (h : a = c) (h' : b = d) : Ending.returned (.tuple #[a, b]) = .returned (.tuple #[c, d]) := by rw [h, h']

theorem bdrew {w w1 : World} (h : Below w.drew.heap.size w.drew w1) : Below w.heap.size w w1 := ⟨h.os, h.tape, h.output, h.size, h.block⟩

theorem check_zero {k : Int} {S L : List UInt8} (h : checkN k S L = 0) : (k = 1 ∨ k = 2 ∨ k = 3) ∧ S.length ≤ 24 ∧ spellB k S L = true := by
  unfold checkN at h
  cases hk : kindB k
  · simp [hk] at h
  cases hlong : longB S
  · cases hsp : spellB k S L
    · simp [hk, hlong, hsp] at h
    · refine ⟨by simpa [kindB] using hk, ?_, rfl⟩
      simp [longB] at hlong
      exact hlong
  · simp [hk, hlong] at h

theorem spell_lang {k : Int} {S L : List UInt8} (h : spellB k S L = true) : L.length ≤ 2 := by
  unfold spellB at h
  cases L with
  | nil => simp
  | cons c r =>
    by_cases h3 : k = 3
    · simp [h3, langOk] at h
      simp only [List.length_cons]
      omega
    · by_cases h1 : k = 1
      · simp [h1] at h
      · by_cases h2 : k = 2
        · simp [h2] at h
        · simp [h1, h2, h3] at h

end Go.Proofs.YtpgcbhhkmjknkaaGreat

/- An error against nil; what is kept of three terms that a law has boxed. -/
namespace Go.Proofs.YtpgcbhhkmjknkaaGreat
open Go Go.RowKit Go.Proofs

theorem eql_errV (n : Int) (w : World) : (binOp .eql 37 (errV n) .nilIface).run Tryz.prog w = .ok (.bool (n == 0)) w := by
  unfold errV
  by_cases h : n = 0
  · subst h; rw [if_pos rfl]; go_simp
  · rw [if_neg h]
    have h' : (n == 0) = false := by simpa using h
    rw [h']
    go_simp
theorem neq_errV (n : Int) (w : World) : (binOp .neq 37 (errV n) .nilIface).run Tryz.prog w = .ok (.bool (!(n == 0))) w := by
  unfold errV
  by_cases h : n = 0
  · subst h; rw [if_pos rfl]; go_simp
  · rw [if_neg h]
    have h' : (n == 0) = false := by simpa using h
    rw [h']
    go_simp
theorem guard_errV (op : BinOp) (t : TypeId) (x : Operand) (c : Value) (n : Int) : eqGuard op t x (.const c) (errV n) .nilIface = pure () := by
  unfold errV
  by_cases h : n = 0
  · subst h; rw [if_pos rfl]; exact eqGuard_nil_constR ..
  · rw [if_neg h]; cases op <;> rfl

/-- three terms that were boxed, read later on -/
theorem boxes {w W : World} {T : TypeId} {a0 a1 a2 b0 b1 b2 c0 c1 c2 : Value}
    (hb : Below (((w.alloc (.cells #[a0, a1, a2] T)).alloc (.cells #[b0, b1, b2] T)).alloc (.cells #[c0, c1, c2] T)).heap.size (((w.alloc (.cells #[a0, a1, a2] T)).alloc (.cells #[b0, b1, b2] T)).alloc (.cells #[c0, c1, c2] T)) W) :
    W.cell? ⟨w.heap.size, 0, none⟩ = some a0 ∧ W.cell? ⟨w.heap.size, 1, none⟩ = some a1 ∧ W.cell? ⟨w.heap.size, 2, none⟩ = some a2 ∧
    W.cell? ⟨w.heap.size + 1, 0, none⟩ = some b0 ∧ W.cell? ⟨w.heap.size + 1, 1, none⟩ = some b1 ∧ W.cell? ⟨w.heap.size + 1, 2, none⟩ = some b2 ∧
    W.cell? ⟨w.heap.size + 1 + 1, 0, none⟩ = some c0 ∧ W.cell? ⟨w.heap.size + 1 + 1, 1, none⟩ = some c1 ∧ W.cell? ⟨w.heap.size + 1 + 1, 2, none⟩ = some c2 ∧
    w.heap.size + 1 + 1 < W.heap.size := by
  obtain ⟨h, _⟩ := bcell hb
  have hs := hb.size
  refine ⟨?_, ?_, ?_, ?_, ?_, ?_, ?_, ?_, ?_, by simp at hs; omega⟩
  all_goals
    rw [h]
    · go_simp
    · simp <;> omega
end Go.Proofs.YtpgcbhhkmjknkaaGreat

/- triple.Check: what is wrong with a triple: with S, with P, with O, and then where they stand. -/
namespace Go.Proofs.YtpgcbhhkmjknkaaGreat
open Go Go.RowKit Go.Proofs

/-- the number of the error that triple.Check tells: 0 for none -/
def shapeB (k1 k2 : Int) : Bool := (k1 == 3) || !(k2 == 1)
def check3 (c1 c2 c3 : Int) (k1 k2 : Int) : Int := if c1 = 0 then (if c2 = 0 then (if c3 = 0 then (if shapeB k1 k2 = true then 3 else 0) else c3) else c2) else c1

attribute [local go_sem] eql_errV neq_errV guard_errV

theorem ninebox {w W : World} {T : TypeId} {a0 a1 a2 b0 b1 b2 c0 c1 c2 : Value}
    (hb : Below (w.alloc (.cells #[a0, a1, a2, b0, b1, b2, c0, c1, c2] T)).heap.size (w.alloc (.cells #[a0, a1, a2, b0, b1, b2, c0, c1, c2] T)) W) :
    W.cell? ⟨w.heap.size, 0, none⟩ = some a0 ∧ W.cell? ⟨w.heap.size, 1, none⟩ = some a1 ∧ W.cell? ⟨w.heap.size, 2, none⟩ = some a2 ∧ W.cell? ⟨w.heap.size, 3, none⟩ = some b0 ∧ W.cell? ⟨w.heap.size, 4, none⟩ = some b1 ∧ W.cell? ⟨w.heap.size, 5, none⟩ = some b2 ∧ W.cell? ⟨w.heap.size, 6, none⟩ = some c0 ∧ W.cell? ⟨w.heap.size, 7, none⟩ = some c1 ∧ W.cell? ⟨w.heap.size, 8, none⟩ = some c2 ∧ w.heap.size < W.heap.size := by
  obtain ⟨h, _⟩ := bcell hb
  have hs := hb.size
  refine ⟨?_, ?_, ?_, ?_, ?_, ?_, ?_, ?_, ?_, by simp at hs; omega⟩
  all_goals
    rw [h]
    · go_simp
    · simp <;> omega

set_option maxHeartbeats 1000000 in
theorem misplaced_any (k1 : Int) (S1 L1 : List UInt8) (k2 : Int) (S2 L2 : List UInt8) (k3 : Int) (S3 L3 : List UInt8) (w : World) :
    Calls Tryz.prog 124 #[.agg #[.int .i64 k1, .string ⟨S1.toArray⟩, .string ⟨L1.toArray⟩, .int .i64 k2, .string ⟨S2.toArray⟩, .string ⟨L2.toArray⟩, .int .i64 k3, .string ⟨S3.toArray⟩, .string ⟨L3.toArray⟩]] w
      fun e w' => e = .returned (.bool (shapeB k1 k2)) ∧ Below w.heap.size w w' := by
  have fin2 : Hid (shapeB k1 k2 = ((k1 == 3) || !(k2 == 1))) := rfl
  cases h3 : (k1 == 3)
  · cases h1 : (k2 == 1)
    all_goals
      go_enter Tryz.func124, Tryz.ntmps124
      go_wp2_with fail
      go_ret
      exact ⟨ret_bool (by rw [fin2.out, h3]; rfl), balloc _ _⟩
  · go_enter Tryz.func124, Tryz.ntmps124
    go_wp2_with fail
    go_ret
    exact ⟨ret_bool (by rw [fin2.out, h3]; rfl), balloc _ _⟩

theorem index0 (a0 a1 a2 b0 b1 b2 c0 c1 c2 : Value) (w : World) : (Instr.index 180 (.agg #[a0, a1, a2, b0, b1, b2, c0, c1, c2]) (.int .i64 0)).run Tryz.prog w = .ok (.agg #[a0, a1, a2]) w := by kernel_rfl
theorem index1 (a0 a1 a2 b0 b1 b2 c0 c1 c2 : Value) (w : World) : (Instr.index 180 (.agg #[a0, a1, a2, b0, b1, b2, c0, c1, c2]) (.int .i64 1)).run Tryz.prog w = .ok (.agg #[b0, b1, b2]) w := by kernel_rfl
theorem index2 (a0 a1 a2 b0 b1 b2 c0 c1 c2 : Value) (w : World) : (Instr.index 180 (.agg #[a0, a1, a2, b0, b1, b2, c0, c1, c2]) (.int .i64 2)).run Tryz.prog w = .ok (.agg #[c0, c1, c2]) w := by kernel_rfl
attribute [local go_sem] index0 index1 index2

set_option maxHeartbeats 4000000 in
set_option maxRecDepth 100000 in
theorem TCheck_any (k1 : Int) (S1 L1 : List UInt8) (k2 : Int) (S2 L2 : List UInt8) (k3 : Int) (S3 L3 : List UInt8) (w : World)
    (hs1 : S1.length ≤ maxLen) (hl1 : L1.length ≤ maxLen) (hs2 : S2.length ≤ maxLen) (hl2 : L2.length ≤ maxLen) (hs3 : S3.length ≤ maxLen) (hl3 : L3.length ≤ maxLen) :
    Calls Tryz.prog 76 #[.agg #[.int .i64 k1, .string ⟨S1.toArray⟩, .string ⟨L1.toArray⟩, .int .i64 k2, .string ⟨S2.toArray⟩, .string ⟨L2.toArray⟩, .int .i64 k3, .string ⟨S3.toArray⟩, .string ⟨L3.toArray⟩]] w
      fun e w' => e = .returned (errV (check3 (checkN k1 S1 L1) (checkN k2 S2 L2) (checkN k3 S3 L3) k1 k2)) ∧ Below w.heap.size w w' := by
  have H1 := fun W => Check_any k1 S1 L1 W hs1 hl1
  have H2 := fun W => Check_any k2 S2 L2 W hs2 hl2
  have H3 := fun W => Check_any k3 S3 L3 W hs3 hl3
  generalize checkN k1 S1 L1 = c1 at H1 ⊢
  generalize checkN k2 S2 L2 = c2 at H2 ⊢
  generalize checkN k3 S3 L3 = c3 at H3 ⊢
  have fin : Hid (check3 c1 c2 c3 k1 k2 = if c1 = 0 then (if c2 = 0 then (if c3 = 0 then (if shapeB k1 k2 = true then 3 else 0) else c3) else c2) else c1) := rfl
  clear hs1 hl1 hs2 hl2 hs3 hl3
  go_enter Tryz.func76, Tryz.ntmps76
  go_wp2_with fail
  go_loopw [13] (fun i wr => ∃ k : Int, 0 ≤ k ∧ k ≤ 3 ∧ i = .int .i64 k ∧ Below (w.alloc (.cells #[.int .i64 k1, .string ⟨S1.toArray⟩, .string ⟨L1.toArray⟩, .int .i64 k2, .string ⟨S2.toArray⟩, .string ⟨L2.toArray⟩, .int .i64 k3, .string ⟨S3.toArray⟩, .string ⟨L3.toArray⟩] 30)).heap.size (w.alloc (.cells #[.int .i64 k1, .string ⟨S1.toArray⟩, .string ⟨L1.toArray⟩, .int .i64 k2, .string ⟨S2.toArray⟩, .string ⟨L2.toArray⟩, .int .i64 k3, .string ⟨S3.toArray⟩, .string ⟨L3.toArray⟩] 30)) wr
      ∧ (0 < k → c1 = 0) ∧ (1 < k → c2 = 0) ∧ (2 < k → c3 = 0)) (fun i wr => (3 - intOf i).toNat)
  case atStart => exact ⟨0, by omega, by omega, rfl, Below.refl _ _, by omega, by omega, by omega⟩
  case round =>
    obtain ⟨k, hk, hk', rfl, hbr, q0, q1, q2⟩ := hrel
    rcases (by omega : k = 0 ∨ k = 1 ∨ k = 2 ∨ k = 3) with rfl | rfl | rfl | rfl
    · clear hk hk' q0 q1 q2
      go_wp2_with fail
      refine (H1 _).mono ?_
      rintro e w1 ⟨rfl, hb1⟩
      have hB := bstep (bstep hbr (balloc _ _)) hb1
      cases hc : (c1 == 0)
      · go_wp2_with fail
        go_ret
        simp at hc
        exact ⟨ret_val (by rw [fin.out]; simp [hc]), bstep (balloc _ _) hB⟩
      · go_wp2_with fail
        simp at hc
        exact ⟨⟨1, by omega, by omega, by go_num, hB, fun _ => hc, by omega, by omega⟩, by simp [intOf]⟩
    · have hx : Hid (c1 = 0) := q0 (by omega)
      clear hk hk' q0 q1 q2
      go_wp2_with fail
      refine (H2 _).mono ?_
      rintro e w1 ⟨rfl, hb1⟩
      have hB := bstep (bstep hbr (balloc _ _)) hb1
      cases hc : (c2 == 0)
      · go_wp2_with fail
        go_ret
        simp at hc
        exact ⟨ret_val (by rw [fin.out]; simp [hc, hx.out]), bstep (balloc _ _) hB⟩
      · go_wp2_with fail
        simp at hc
        exact ⟨⟨2, by omega, by omega, by go_num, hB, fun _ => hx.out, fun _ => hc, by omega⟩, by simp [intOf]⟩
    · have hx : Hid (c1 = 0) := q0 (by omega)
      have hy : Hid (c2 = 0) := q1 (by omega)
      clear hk hk' q0 q1 q2
      go_wp2_with fail
      refine (H3 _).mono ?_
      rintro e w1 ⟨rfl, hb1⟩
      have hB := bstep (bstep hbr (balloc _ _)) hb1
      cases hc : (c3 == 0)
      · go_wp2_with fail
        go_ret
        simp at hc
        exact ⟨ret_val (by rw [fin.out]; simp [hc, hx.out, hy.out]), bstep (balloc _ _) hB⟩
      · go_wp2_with fail
        simp at hc
        exact ⟨⟨3, by omega, by omega, by go_num, hB, fun _ => hx.out, fun _ => hy.out, fun _ => hc⟩, by simp [intOf]⟩
    · have hx : Hid (c1 = 0) := q0 (by omega)
      have hy : Hid (c2 = 0) := q1 (by omega)
      have hz : Hid (c3 = 0) := q2 (by omega)
      clear hk hk' q0 q1 q2
      obtain ⟨n0, n1, n2, n3, n4, n5, n6, n7, n8, hz9⟩ := ninebox hbr
      have HM := fun W => misplaced_any k1 S1 L1 k2 S2 L2 k3 S3 L3 W
      generalize shapeB k1 k2 = sh at *
      cases sh
      all_goals
        go_wp2_with fail
        refine (HM _).mono ?_
        rintro e w4 ⟨rfl, hb4⟩
        go_wp2_with fail
        go_ret
        exact ⟨ret_val (by rw [fin.out]; simp [hx.out, hy.out, hz.out]; rfl), bstep (bstep (balloc _ _) hbr) hb4⟩
end Go.Proofs.YtpgcbhhkmjknkaaGreat
