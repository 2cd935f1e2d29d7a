import Derived.Lib.ItoaMem
import Derived.Lib.AtoiAllCases
import Derived.Test.YtnphjdckdkjopaaGreatDoorRows
import Derived.WalkKit
import Derived.Below
import Derived.Shelf.Abstract
import Derived.OwnWalk
import Derived.Laws.OwnMore
import Derived.Deep.RegionHeld3
import Derived.Deep.AppendLies
import Derived.Deep.Draws

/- A bundle's text, in plain words: how it is written, how it is read, and that what was written is read as it was; no program. -/
namespace Go.Proofs.YtnphjdckdkjopaaGreatDoor
open Go Go.Proofs

/-- a commit of a bundle: parents, object, message -/
abbrev BCom : Type := List Int × Int × List UInt8
/-- a bundle: what it needs, objects, commits -/
abbrev Bun : Type := List (List UInt8) × List (List UInt8) × List BCom
def numZ (n : Int) : List UInt8 := Lib.itoa n ++ [32]
def listW {α : Type} (f : α → List UInt8) (l : List α) : List UInt8 := numZ l.length ++ l.flatMap f
def textW (s : List UInt8) : List UInt8 := numZ s.length ++ s
def comW (c : BCom) : List UInt8 := listW numZ c.1 ++ (numZ c.2.1 ++ textW c.2.2)
/-- 'strataweb bundle' and a line's end -/
def headW : List UInt8 := [115, 116, 114, 97, 116, 97, 119, 101, 98, 32, 98, 117, 110, 100, 108, 101, 10]
def writeB (b : Bun) : List UInt8 := headW ++ (listW textW b.1 ++ (listW textW b.2.1 ++ listW comW b.2.2))

/-! ### the reader: what is left, and whether it is over -/
abbrev RdS : Type := List UInt8 × Bool
def cutB : List UInt8 → Option (List UInt8 × List UInt8)
  | [] => none
  | c :: r => if c = 32 then some ([], r) else match cutB r with
    | none => none
    | some (x, y) => some (c :: x, y)
def numR (s : RdS) : Int × RdS := match cutB s.1 with
  | none => (0, [], true)
  | some (x, r) => match Lib.atoiAll x with
    | .ok n => (n, r, s.2)
    | _ => (0, [], true)
def textR (s : RdS) : List UInt8 × RdS := if (numR s).1 < 0 ∨ ((numR s).2.1.length : Int) < (numR s).1 then ([], [], true) else ((numR s).2.1.take (numR s).1.toNat, (numR s).2.1.drop (numR s).1.toNat, (numR s).2.2)
def moreR {α : Type} (f : RdS → α × RdS) : Nat → RdS → List α × RdS
  | 0, s => ([], s)
  | k + 1, s => if s.2 = true then ([], s) else ((f s).1 :: (moreR f k (f s).2).1, (moreR f k (f s).2).2)
def listR {α : Type} (f : RdS → α × RdS) (s : RdS) : List α × RdS := moreR f (numR s).1.toNat (numR s).2
def comR (s : RdS) : BCom × RdS := (((listR numR s).1, (numR (listR numR s).2).1, (textR (numR (listR numR s).2).2).1), (textR (numR (listR numR s).2).2).2)
def startR (t : List UInt8) : RdS := if headW.isPrefixOf t = true then (t.drop 17, false) else (t, true)
def readB (t : List UInt8) : Bun := ((listR textR (startR t)).1, (listR textR (listR textR (startR t)).2).1, (listR comR (listR textR (listR textR (startR t)).2).2).1)

/-! ### a number that was written is read -/
theorem cutB_word : ∀ (x r : List UInt8), (∀ c ∈ x, c ≠ 32) → cutB (x ++ 32 :: r) = some (x, r)
  | [], r, _ => by simp [cutB]
  | c :: x, r, h => by
    rw [List.cons_append, cutB, if_neg (h c (by simp)), cutB_word x r fun d hd => h d (by simp [hd])]
theorem uint_app : ∀ (l m : List UInt8) (acc : Nat), Lib.parseUint10 acc (l ++ m) = match Lib.parseUint10 acc l with
    | .ok v => Lib.parseUint10 v m
    | .syntax => .syntax
    | .range => .range
  | [], m, acc => rfl
  | c :: l, m, acc => by
    rw [List.cons_append, Lib.parseUint10, Lib.parseUint10]
    by_cases h1 : 48 ≤ c.toNat ∧ c.toNat ≤ 57
    · rw [if_pos h1, if_pos h1]
      by_cases h2 : 1844674407370955162 ≤ acc
      · rw [if_pos h2, if_pos h2]
      · rw [if_neg h2, if_neg h2]
        by_cases h3 : 18446744073709551616 ≤ acc * 10 + (c.toNat - 48)
        · rw [if_pos h3, if_pos h3]
        · rw [if_neg h3, if_neg h3]
          exact uint_app l m _
    · rw [if_neg h1, if_neg h1]
theorem dig_nat {d : Nat} (h : d < 10) : (UInt8.ofNat (48 + d)).toNat = 48 + d := by
  rw [UInt8.toNat_ofNat']
  omega
theorem uint_dec : ∀ (f u : Nat), u ≤ f → u < 18446744073709551616 → Lib.parseUint10 0 (Lib.decDigits u) = .ok u
  | 0, u, hf, _ => by
    have h0 : u = 0 := by omega
    subst h0
    rw [Lib.decDigits, dif_pos (by omega), Lib.parseUint10, dig_nat (by omega)]
    rfl
  | f + 1, u, hf, h => by
    by_cases h10 : u < 10
    · rw [Lib.decDigits, dif_pos h10, Lib.parseUint10, dig_nat h10, if_pos (by omega), if_neg (by omega), if_neg (by omega), Lib.parseUint10]
      congr 1
      omega
    · rw [Lib.decDigits, dif_neg h10, uint_app, uint_dec f (u / 10) (by omega) (by omega)]
      show Lib.parseUint10 (u / 10) [UInt8.ofNat (48 + u % 10)] = .ok u
      rw [Lib.parseUint10, dig_nat (by omega), if_pos (by omega), if_neg (by omega), if_neg (by omega), Lib.parseUint10]
      congr 1
      omega
theorem dec_mem : ∀ (f u : Nat), u ≤ f → ∀ c ∈ Lib.decDigits u, 48 ≤ c.toNat ∧ c.toNat ≤ 57
  | 0, u, hf, c, hc => by
    rw [Lib.decDigits, dif_pos (by omega)] at hc
    simp only [List.mem_singleton] at hc
    rw [hc, dig_nat (by omega)]
    omega
  | f + 1, u, hf, c, hc => by
    by_cases h10 : u < 10
    · rw [Lib.decDigits, dif_pos h10] at hc
      simp only [List.mem_singleton] at hc
      rw [hc, dig_nat h10]
      omega
    · rw [Lib.decDigits, dif_neg h10] at hc
      rcases List.mem_append.1 hc with h | h
      · exact dec_mem f (u / 10) (by omega) c h
      · simp only [List.mem_singleton] at h
        rw [h, dig_nat (by omega)]
        omega
theorem dec_ne (u : Nat) : Lib.decDigits u ≠ [] := by
  rw [Lib.decDigits]
  split <;> simp
theorem itoa_no32 (n : Int) : ∀ c ∈ Lib.itoa n, c ≠ 32 := fun c hc e => by
  subst e
  unfold Lib.itoa at hc
  split at hc
  · rcases List.mem_cons.1 hc with h | h
    · cases h
    · have := dec_mem _ _ (Nat.le_refl _) _ h
      simp at this
  · have := dec_mem _ _ (Nat.le_refl _) _ hc
    simp at this
theorem mag_dec {u : Nat} (h : u < 18446744073709551616) : Lib.parseMag (Lib.decDigits u) = .ok u := by
  unfold Lib.parseMag
  rw [if_neg (dec_ne u)]
  exact uint_dec u u (Nat.le_refl _) h
theorem atoi_itoa {n : Int} (h0 : -9223372036854775808 ≤ n) (h1 : n ≤ 9223372036854775807) : Lib.atoiAll (Lib.itoa n) = .ok n := by
  unfold Lib.itoa
  by_cases hn : n < 0
  · rw [if_pos hn, Lib.atoiAll_minus, mag_dec (by omega)]
    simp only [Lib.signed]
    rw [if_neg (by omega)]
    congr 1
    omega
  · rw [if_neg hn]
    have hd := dec_mem n.toNat n.toNat (Nat.le_refl _)
    cases he : Lib.decDigits n.toNat with
    | nil => exact absurd he (dec_ne _)
    | cons c r =>
      have hc := hd c (by rw [he]; simp)
      rw [Lib.atoiAll_plain c r (by omega) (by omega), ← he, mag_dec (by omega)]
      simp only [Lib.signless]
      rw [if_neg (by omega)]
      congr 1
      omega
theorem num_back {n : Int} (h0 : -9223372036854775808 ≤ n) (h1 : n ≤ 9223372036854775807) (r : List UInt8) (b : Bool) : numR (numZ n ++ r, b) = (n, r, b) := by
  unfold numR numZ
  rw [List.append_assoc]
  show (match cutB (Lib.itoa n ++ 32 :: r) with
    | none => (0, [], true)
    | some (x, r) => match Lib.atoiAll x with
      | .ok n => (n, r, b)
      | _ => (0, [], true)) = _
  rw [cutB_word _ _ (itoa_no32 n)]
  simp only [atoi_itoa h0 h1]
theorem text_back {s : List UInt8} (h : s.length ≤ 9223372036854775807) (r : List UInt8) (b : Bool) : textR (textW s ++ r, b) = (s, r, b) := by
  unfold textR textW
  rw [List.append_assoc, num_back (by omega) (by omega)]
  simp only
  rw [if_neg (by simp only [List.length_append]; omega)]
  simp
theorem more_back {α : Type} (f : RdS → α × RdS) (g : α → List UInt8) (r : List UInt8) : ∀ (l : List α), (∀ x ∈ l, ∀ r, f (g x ++ r, false) = (x, r, false)) → moreR f l.length (l.flatMap g ++ r, false) = (l, r, false)
  | [], _ => rfl
  | x :: l, h => by
    rw [List.length_cons, List.flatMap_cons, List.append_assoc, moreR, if_neg (by simp), h x (by simp)]
    simp only
    rw [more_back f g r l fun y hy => h y (by simp [hy])]
theorem list_back {α : Type} (f : RdS → α × RdS) (g : α → List UInt8) (r : List UInt8) (l : List α) (hl : l.length ≤ 9223372036854775807) (h : ∀ x ∈ l, ∀ r, f (g x ++ r, false) = (x, r, false)) : listR f (listW g l ++ r, false) = (l, r, false) := by
  unfold listR listW
  rw [List.append_assoc, num_back (by omega) (by omega)]
  exact more_back f g r l h
/-- lengths and numbers that an int can be -/
structure FitB (b : Bun) : Prop where
  needs : b.1.length ≤ 9223372036854775807 ∧ ∀ s ∈ b.1, s.length ≤ 9223372036854775807
  objs : b.2.1.length ≤ 9223372036854775807 ∧ ∀ s ∈ b.2.1, s.length ≤ 9223372036854775807
  coms : b.2.2.length ≤ 9223372036854775807 ∧ ∀ c ∈ b.2.2, (c.1.length ≤ 9223372036854775807 ∧ ∀ p ∈ c.1, -9223372036854775808 ≤ p ∧ p ≤ 9223372036854775807) ∧ (-9223372036854775808 ≤ c.2.1 ∧ c.2.1 ≤ 9223372036854775807) ∧ c.2.2.length ≤ 9223372036854775807
theorem com_back {c : BCom} (h1 : c.1.length ≤ 9223372036854775807 ∧ ∀ p ∈ c.1, -9223372036854775808 ≤ p ∧ p ≤ 9223372036854775807) (h2 : -9223372036854775808 ≤ c.2.1 ∧ c.2.1 ≤ 9223372036854775807) (h3 : c.2.2.length ≤ 9223372036854775807) (r : List UInt8) : comR (comW c ++ r, false) = (c, r, false) := by
  unfold comR comW
  rw [List.append_assoc, list_back numR numZ _ _ h1.1 (fun x hx r => num_back (h1.2 x hx).1 (h1.2 x hx).2 r false)]
  simp only
  rw [List.append_assoc, num_back h2.1 h2.2]
  simp only
  rw [text_back h3]
/-- WHAT WAS WRITTEN IS READ AS IT WAS -/
theorem read_write {b : Bun} (h : FitB b) : readB (writeB b) = b := by
  have hs : startR (writeB b) = (listW textW b.1 ++ (listW textW b.2.1 ++ (listW comW b.2.2 ++ [])), false) := by
    unfold startR writeB
    rw [if_pos (by rw [List.isPrefixOf_iff_prefix]; exact ⟨_, rfl⟩), List.append_nil]
    rfl
  unfold readB
  rw [hs, list_back textR textW _ _ h.needs.1 (fun x hx r => text_back (h.needs.2 x hx) r false)]
  simp only
  rw [list_back textR textW _ _ h.objs.1 (fun x hx r => text_back (h.objs.2 x hx) r false)]
  simp only
  rw [list_back comR comW _ _ h.coms.1 (fun x hx r => com_back (h.coms.2 x hx).1 (h.coms.2 x hx).2.1 (h.coms.2 x hx).2.2 r)]
end Go.Proofs.YtnphjdckdkjopaaGreatDoor

/- The leaves of package term: which bytes may stand where. Each contract says what the call returns; the world is as it was. -/
namespace Go.Proofs.YtnphjdckdkjopaaGreatDoor
open Go

/-- a letter a to z, a digit, and the three sets of bytes that the chapter names -/
def letB (n : Int) : Bool := decide (97 ≤ n ∧ n ≤ 122)
def digB (n : Int) : Bool := decide (48 ≤ n ∧ n ≤ 57)
def nameB (n : Int) : Bool := letB n || digB n || decide (n = 58 ∨ n = 47 ∨ n = 46)
def anonB (n : Int) : Bool := letB n || digB n
def textB (n : Int) : Bool := decide (32 ≤ n ∧ n ≤ 126)
def markB (n : Int) : Bool := decide (n = 34 ∨ n = 92)

theorem ret_bool {a b : Bool} (h : a = b) : Ending.returned (.bool a) = .returned (.bool b) := by rw [h]

theorem isLetter_any (n : Int) (w : World) :
    Calls Tryz.prog 233 #[.int .u8 n] w fun e w' => e = .returned (.bool (letB n)) ∧ w' = w := by
  by_cases h1 : 97 ≤ n
  all_goals
    go_enter Tryz.func233, Tryz.ntmps233
    go_wp2
    go_ret
    exact ⟨ret_bool (by first | exact decide_eq_decide.2 (by omega) | exact (decide_eq_false (by omega)).symm), rfl⟩

theorem isDigit_any (n : Int) (w : World) :
    Calls Tryz.prog 236 #[.int .u8 n] w fun e w' => e = .returned (.bool (digB n)) ∧ w' = w := by
  by_cases h1 : 48 ≤ n
  all_goals
    go_enter Tryz.func236, Tryz.ntmps236
    go_wp2
    go_ret
    exact ⟨ret_bool (by first | exact decide_eq_decide.2 (by omega) | exact (decide_eq_false (by omega)).symm), rfl⟩

theorem isTextByte_any (n : Int) (w : World) :
    Calls Tryz.prog 238 #[.int .u8 n] w fun e w' => e = .returned (.bool (textB n)) ∧ w' = w := by
  by_cases h1 : 32 ≤ n
  all_goals
    go_enter Tryz.func238, Tryz.ntmps238
    go_wp2
    go_ret
    exact ⟨ret_bool (by first | exact decide_eq_decide.2 (by omega) | exact (decide_eq_false (by omega)).symm), rfl⟩
end Go.Proofs.YtnphjdckdkjopaaGreatDoor

/- 'every', and the four readers of a whole text that go by it. -/
namespace Go.Proofs.YtnphjdckdkjopaaGreatDoor
open Go Go.RowKit Go.Proofs

theorem isNameByte_any (n : Int) (w : World) :
    Calls Tryz.prog 235 #[.int .u8 n] w fun e w' => e = .returned (.bool (nameB n)) ∧ w' = w := by
  have fin : Hid (nameB n = (letB n || digB n || decide (n = 58 ∨ n = 47 ∨ n = 46))) := rfl
  cases hl : letB n <;> cases hd : digB n <;> cases h58 : (n == 58) <;> cases h47 : (n == 47)
  all_goals
    go_enter Tryz.func235, Tryz.ntmps235
    go_wp2_with (first
      | (go_at_call 233; refine (isLetter_any _ _).mono ?_; rintro e w' ⟨rfl, rfl⟩)
      | (go_at_call 236; refine (isDigit_any _ _).mono ?_; rintro e w' ⟨rfl, rfl⟩))
    go_ret
    refine ⟨ret_bool ?_, rfl⟩
    rw [fin.out, hl, hd]
    simp at h58 h47 ⊢
    try (by_cases h46 : n = 46 <;> simp [h58, h47, h46])

theorem isAnonByte_any (n : Int) (w : World) :
    Calls Tryz.prog 237 #[.int .u8 n] w fun e w' => e = .returned (.bool (anonB n)) ∧ w' = w := by
  have fin : Hid (anonB n = (letB n || digB n)) := rfl
  cases hl : letB n <;> cases hd : digB n
  all_goals
    go_enter Tryz.func237, Tryz.ntmps237
    go_wp2_with (first
      | (go_at_call 233; refine (isLetter_any _ _).mono ?_; rintro e w' ⟨rfl, rfl⟩)
      | (go_at_call 236; refine (isDigit_any _ _).mono ?_; rintro e w' ⟨rfl, rfl⟩))
    go_ret
    refine ⟨ret_bool ?_, rfl⟩
    rw [fin.out, hl, hd]
    rfl

/-- every byte of the list is so -/
def allB (p : Int → Bool) (l : List UInt8) : Bool := l.all fun c => p (c.toNat : Int)

theorem allB_take (p : Int → Bool) (s : ByteArray) (k : Nat) (h : k < s.size) :
    allB p (s.data.toList.take (k + 1)) = (allB p (s.data.toList.take k) && p (s[k].toNat : Int)) := by
  unfold allB
  rw [List.take_succ_eq_append_getElem (by simpa using h)]
  simp
  rfl

theorem allB_false (p : Int → Bool) (s : ByteArray) (k : Nat) (h : k < s.size) (hp : p (s[k].toNat : Int) = false) : allB p s.data.toList = false := by
  unfold allB
  rw [List.all_eq_false]
  exact ⟨s.data.toList[k]'(by simpa using h), List.getElem_mem _, by rw [show s.data.toList[k]'(by simpa using h) = s[k] from rfl, hp]; simp⟩

set_option maxHeartbeats 400000 in
theorem every_any (s : ByteArray) (f : Nat) (p : Int → Bool) (w : World) (hs : s.size ≤ maxLen)
    (eg : ∀ args w, (callFunc f args).run Tryz.prog w = .ok (.enter f args) w)
    (hf : ∀ (n : Int) (w : World), Calls Tryz.prog f #[.int .u8 n] w fun e w' => e = .returned (.bool (p n)) ∧ w' = w) :
    Calls Tryz.prog 234 #[.string s, .func (.func f) #[] #[]] w fun e w' => e = .returned (.bool (allB p s.data.toList)) ∧ w' = w := by
  unfold maxLen at hs
  have Hf : Hid (∀ (n : Int) (w : World), Calls Tryz.prog f #[.int .u8 n] w fun e w' => e = .returned (.bool (p n)) ∧ w' = w) := hf
  clear hf
  go_enter Tryz.func234, Tryz.ntmps234
  go_wp2
  go_loop [8] (fun i => ∃ k : Nat, k ≤ s.size ∧ i = .int .i64 k ∧ allB p (s.data.toList.take k) = true) (fun i => s.size - (intOf i).toNat)
  case atStart => exact ⟨0, Nat.zero_le _, rfl, rfl⟩
  case round =>
    obtain ⟨k, hk, rfl, hall0⟩ := hrel
    have hall : Hid (allB p (s.data.toList.take k) = true) := hall0
    clear hall0
    by_cases hlt : k < s.size
    · cases hp : p (s[k].toNat : Int)
      · go_wp2_with (go_at_fn f; refine (Hf.out _ _).mono ?_; rintro e w' ⟨rfl, rfl⟩)
        go_ret
        exact ⟨ret_bool (allB_false p s k hlt hp).symm, rfl⟩
      · go_wp2_with (go_at_fn f; refine (Hf.out _ _).mono ?_; rintro e w' ⟨rfl, rfl⟩)
        refine ⟨⟨k + 1, by omega, by go_num, ?_⟩, by simp [intOf]; omega⟩
        rw [allB_take p s k hlt, hall.out, hp]
        rfl
    · go_wp2
      go_ret
      refine ⟨ret_bool ?_, rfl⟩
      rw [← hall.out, List.take_of_length_le (by simp; omega)]

/-! ### what a whole text is -/
def nameOk (l : List UInt8) : Bool := match l with | [] => false | c :: _ => letB (c.toNat : Int) && allB nameB l
def anonOk (l : List UInt8) : Bool := match l with | [] => false | _ :: _ => allB anonB l
def langOk (l : List UInt8) : Bool := l.length == 2 && allB letB l
def textOk (l : List UInt8) : Bool := allB textB l

theorem enters233 : ∀ args w, (callFunc 233 args).run Tryz.prog w = .ok (.enter 233 args) w := enters_of Tryz.func233 (by kernel_rfl) rfl
theorem enters235 : ∀ args w, (callFunc 235 args).run Tryz.prog w = .ok (.enter 235 args) w := enters_of Tryz.func235 (by kernel_rfl) rfl
theorem enters237 : ∀ args w, (callFunc 237 args).run Tryz.prog w = .ok (.enter 237 args) w := enters_of Tryz.func237 (by kernel_rfl) rfl
theorem enters238 : ∀ args w, (callFunc 238 args).run Tryz.prog w = .ok (.enter 238 args) w := enters_of Tryz.func238 (by kernel_rfl) rfl

theorem isText_any (l : List UInt8) (w : World) (hs : l.length ≤ maxLen) :
    Calls Tryz.prog 226 #[.string ⟨l.toArray⟩] w fun e w' => e = .returned (.bool (textOk l)) ∧ w' = w := by
  go_enter Tryz.func226, Tryz.ntmps226
  go_wp2_with (go_at_call 234; refine (every_any ⟨l.toArray⟩ 238 textB _ hs enters238 isTextByte_any).mono ?_; rintro e w' ⟨rfl, rfl⟩)
  go_ret
  exact ⟨rfl, rfl⟩

theorem isAnon_any (l : List UInt8) (w : World) (hs : l.length ≤ maxLen) :
    Calls Tryz.prog 224 #[.string ⟨l.toArray⟩] w fun e w' => e = .returned (.bool (anonOk l)) ∧ w' = w := by
  cases l with
  | nil =>
    go_enter Tryz.func224, Tryz.ntmps224
    go_wp2
    go_ret
    exact ⟨rfl, rfl⟩
  | cons c r =>
    go_enter Tryz.func224, Tryz.ntmps224
    go_wp2_with (go_at_call 234; refine (every_any ⟨(c :: r).toArray⟩ 237 anonB _ hs enters237 isAnonByte_any).mono ?_; rintro e w' ⟨rfl, rfl⟩)
    go_ret
    exact ⟨rfl, rfl⟩

theorem isLang_any (l : List UInt8) (w : World) (hs : l.length ≤ maxLen) :
    Calls Tryz.prog 225 #[.string ⟨l.toArray⟩] w fun e w' => e = .returned (.bool (langOk l)) ∧ w' = w := by
  have fin : Hid (langOk l = (l.length == 2 && allB letB l)) := rfl
  by_cases h : l.length = 2
  all_goals
    go_enter Tryz.func225, Tryz.ntmps225
    go_wp2_with (go_at_call 234; refine (every_any ⟨l.toArray⟩ 233 letB _ hs enters233 isLetter_any).mono ?_; rintro e w' ⟨rfl, rfl⟩)
    go_ret
    exact ⟨ret_bool (by rw [fin.out]; simp [h]), rfl⟩

theorem isName_any (l : List UInt8) (w : World) (hs : l.length ≤ maxLen) :
    Calls Tryz.prog 223 #[.string ⟨l.toArray⟩] w fun e w' => e = .returned (.bool (nameOk l)) ∧ w' = w := by
  cases l with
  | nil =>
    go_enter Tryz.func223, Tryz.ntmps223
    go_wp2
    go_ret
    exact ⟨rfl, rfl⟩
  | cons c r =>
    have fin : Hid (nameOk (c :: r) = (letB (c.toNat : Int) && allB nameB (c :: r))) := rfl
    cases hc0 : letB (c.toNat : Int)
    all_goals
      have hc : letB (((⟨(c :: r).toArray⟩ : ByteArray)[0]'(by simp [ByteArray.size])).toNat : Int) = _ := hc0
      go_enter Tryz.func223, Tryz.ntmps223
      go_wp2_with (first
        | (go_at_call 233; refine (isLetter_any _ _).mono ?_; rintro e w' ⟨rfl, rfl⟩)
        | (go_at_call 234; refine (every_any ⟨(c :: r).toArray⟩ 235 nameB _ hs enters235 isNameByte_any).mono ?_; rintro e w' ⟨rfl, rfl⟩))
      go_ret
      exact ⟨ret_bool (by rw [fin.out, hc0]; simp), rfl⟩
end Go.Proofs.YtnphjdckdkjopaaGreatDoor

/- isKind, tooLong, spelled, Check: what is wrong with a term. A term is boxed by each call: nothing old turns ('Below'). -/
namespace Go.Proofs.YtnphjdckdkjopaaGreatDoor
open Go Go.RowKit Go.Proofs

def kindB (k : Int) : Bool := decide (k = 1 ∨ k = 2 ∨ k = 3)
def longB (S : List UInt8) : Bool := decide (24 < S.length)
def spellB (k : Int) (S L : List UInt8) : Bool :=
  if k = 1 then L.isEmpty && nameOk S else if k = 2 then L.isEmpty && anonOk S else if k = 3 then (L.isEmpty || langOk L) && textOk S else false
/-- the number of the error that Check tells: 0 for none -/
def checkN (k : Int) (S L : List UInt8) : Int := if kindB k = false then 1 else if longB S = true then 4 else if spellB k S L = false then 2 else 0
/-- an error as a value -/
def errV (n : Int) : Value := if n = 0 then .nilIface else .iface 72 (.int .i64 n)

theorem isKind_any (k : Int) (w : World) :
    Calls Tryz.prog 205 #[.int .i64 k] w fun e w' => e = .returned (.bool (kindB k)) ∧ w' = w := by
  have fin : Hid (kindB k = decide (k = 1 ∨ k = 2 ∨ k = 3)) := rfl
  by_cases h1 : k = 1
  · subst h1
    go_enter Tryz.func205, Tryz.ntmps205
    go_wp2
    go_ret
    exact ⟨rfl, rfl⟩
  · have h1' : (k == 1) = false := by simpa using h1
    by_cases h2 : k = 2
    · subst h2
      go_enter Tryz.func205, Tryz.ntmps205
      go_wp2
      go_ret
      exact ⟨rfl, rfl⟩
    · have h2' : (k == 2) = false := by simpa using h2
      clear h1 h2
      go_enter Tryz.func205, Tryz.ntmps205
      go_wp2
      go_ret
      refine ⟨ret_bool ?_, rfl⟩
      rw [fin.out]
      simp at h1' h2'
      by_cases h3 : k = 3 <;> simp [h1', h2', h3]

theorem tooLong_any (k : Int) (S L : List UInt8) (w : World) (hs : S.length ≤ maxLen) :
    Calls Tryz.prog 206 #[.agg #[.int .i64 k, .string ⟨S.toArray⟩, .string ⟨L.toArray⟩]] w fun e w' => e = .returned (.bool (longB S)) ∧ Below w.heap.size w w' := by
  unfold maxLen at hs
  go_enter Tryz.func206, Tryz.ntmps206
  go_wp2
  go_ret
  exact ⟨ret_bool (by unfold longB; exact decide_eq_decide.2 (by omega)), (Below.refl _ _).alloc (Nat.le_refl _) _⟩

theorem spelled_any (k : Int) (S L : List UInt8) (w : World) (hs : S.length ≤ maxLen) (hl : L.length ≤ maxLen) :
    Calls Tryz.prog 207 #[.agg #[.int .i64 k, .string ⟨S.toArray⟩, .string ⟨L.toArray⟩]] w fun e w' => e = .returned (.bool (spellB k S L)) ∧ Below w.heap.size w w' := by
  by_cases h1 : k = 1
  · subst h1
    cases L
    all_goals
      go_enter Tryz.func207, Tryz.ntmps207
      go_wp2_with (go_at_call 223; refine (isName_any S _ hs).mono ?_; rintro e w' ⟨rfl, rfl⟩)
      go_ret
      exact ⟨rfl, (Below.refl _ _).alloc (Nat.le_refl _) _⟩
  have h1' : (k == 1) = false := by simpa using h1
  by_cases h2 : k = 2
  · subst h2
    clear h1 h1'
    cases L
    all_goals
      go_enter Tryz.func207, Tryz.ntmps207
      go_wp2_with (go_at_call 224; refine (isAnon_any S _ hs).mono ?_; rintro e w' ⟨rfl, rfl⟩)
      go_ret
      exact ⟨rfl, (Below.refl _ _).alloc (Nat.le_refl _) _⟩
  have h2' : (k == 2) = false := by simpa using h2
  by_cases h3 : k = 3
  · subst h3
    clear h1 h1' h2 h2'
    cases L with
    | nil =>
      go_enter Tryz.func207, Tryz.ntmps207
      go_wp2_with (go_at_call 226; refine (isText_any S _ hs).mono ?_; rintro e w' ⟨rfl, rfl⟩)
      go_ret
      exact ⟨rfl, (Below.refl _ _).alloc (Nat.le_refl _) _⟩
    | cons c r =>
      have fin : Hid (spellB 3 S (c :: r) = (langOk (c :: r) && textOk S)) := rfl
      cases hk : langOk (c :: r)
      all_goals
        go_enter Tryz.func207, Tryz.ntmps207
        go_wp2_with (first
          | (go_at_call 225; refine (isLang_any (c :: r) _ hl).mono ?_; rintro e w' ⟨rfl, rfl⟩)
          | (go_at_call 226; refine (isText_any S _ hs).mono ?_; rintro e w' ⟨rfl, rfl⟩))
        go_ret
        exact ⟨ret_bool (by rw [fin.out, hk]; simp), (Below.refl _ _).alloc (Nat.le_refl _) _⟩
  · have h3' : (k == 3) = false := by simpa using h3
    have fin : Hid (spellB k S L = false) := by simp [Hid, spellB, h1, h2, h3]
    clear h1 h2 h3
    go_enter Tryz.func207, Tryz.ntmps207
    go_wp2
    go_ret
    exact ⟨ret_bool fin.out.symm, (Below.refl _ _).alloc (Nat.le_refl _) _⟩

/-- behind a call that turned nothing old: every old cell and every old mark reads as it did -/
theorem bcell {W w1 : World} (hb : Below W.heap.size W w1) : (∀ b o, b < W.heap.size → w1.cell? ⟨b, o, none⟩ = W.cell? ⟨b, o, none⟩) ∧ (∀ b o, b < W.heap.size → w1.frozen? ⟨b, o, none⟩ = W.frozen? ⟨b, o, none⟩) :=
  ⟨fun b o h => hb.cell (p := ⟨b, o, none⟩) h, fun b o h => hb.frozen (p := ⟨b, o, none⟩) h⟩

/-- one call behind another: nothing that was there at the first has turned -/
theorem bstep {w W w1 : World} (h : Below w.heap.size w W) (hb : Below W.heap.size W w1) : Below w.heap.size w w1 := h.trans (hb.mono h.size)
theorem balloc (w : World) (o : Obj) : Below w.heap.size w (w.alloc o) := (Below.refl _ _).alloc (Nat.le_refl _) _

theorem ret_val {a b : Value} (h : a = b) : Ending.returned a = .returned b := by rw [h]

theorem Check_any (k : Int) (S L : List UInt8) (w : World) (hs : S.length ≤ maxLen) (hl : L.length ≤ maxLen) :
    Calls Tryz.prog 175 #[.agg #[.int .i64 k, .string ⟨S.toArray⟩, .string ⟨L.toArray⟩]] w fun e w' => e = .returned (errV (checkN k S L)) ∧ Below w.heap.size w w' := by
  have fin : Hid (checkN k S L = if kindB k = false then 1 else if longB S = true then 4 else if spellB k S L = false then 2 else 0) := rfl
  cases hk : kindB k
  · go_enter Tryz.func175, Tryz.ntmps175
    go_wp2_with (go_at_call 205; refine (isKind_any k _).mono ?_; rintro e w' ⟨rfl, rfl⟩)
    go_ret
    exact ⟨ret_val (by rw [fin.out, hk]; rfl), (Below.refl _ _).alloc (Nat.le_refl _) _⟩
  cases hlong : longB S
  · cases hsp : spellB k S L
    all_goals
      go_enter Tryz.func175, Tryz.ntmps175
      go_wp2_with (go_at_call 205; refine (isKind_any k _).mono ?_; rintro e w' ⟨rfl, rfl⟩)
      refine (tooLong_any k S L _ hs).mono ?_
      rintro e w1 ⟨rfl, hb1⟩
      obtain ⟨hc1, hf1⟩ := bcell hb1
      go_wp2_with fail
      refine (spelled_any k S L _ hs hl).mono ?_
      rintro e w2 ⟨rfl, hb2⟩
      go_wp2_with fail
      go_ret
      exact ⟨ret_val (by rw [fin.out, hk, hlong, hsp]; rfl), bstep (bstep (balloc _ _) hb1) hb2⟩
  · go_enter Tryz.func175, Tryz.ntmps175
    go_wp2_with (go_at_call 205; refine (isKind_any k _).mono ?_; rintro e w' ⟨rfl, rfl⟩)
    refine (tooLong_any k S L _ hs).mono ?_
    rintro e w1 ⟨rfl, hb1⟩
    go_wp2_with fail
    go_ret
    exact ⟨ret_val (by rw [fin.out, hk, hlong]; rfl), bstep (balloc _ _) hb1⟩
theorem ret_two {a b c d : Value} (h : a = c) (h' : b = d) : Ending.returned (.tuple #[a, b]) = .returned (.tuple #[c, d]) := by rw [h, h']

theorem bdrew {w w1 : World} (h : Below w.drew.heap.size w.drew w1) : Below w.heap.size w w1 := ⟨h.os, h.tape, h.output, h.size, h.block⟩

theorem check_zero {k : Int} {S L : List UInt8} (h : checkN k S L = 0) : (k = 1 ∨ k = 2 ∨ k = 3) ∧ S.length ≤ 24 ∧ spellB k S L = true := by
  unfold checkN at h
  cases hk : kindB k
  · simp [hk] at h
  cases hlong : longB S
  · cases hsp : spellB k S L
    · simp [hk, hlong, hsp] at h
    · refine ⟨by simpa [kindB] using hk, ?_, rfl⟩
      simp [longB] at hlong
      exact hlong
  · simp [hk, hlong] at h

theorem spell_lang {k : Int} {S L : List UInt8} (h : spellB k S L = true) : L.length ≤ 2 := by
  unfold spellB at h
  cases L with
  | nil => simp
  | cons c r =>
    by_cases h3 : k = 3
    · simp [h3, langOk] at h
      simp only [List.length_cons]
      omega
    · by_cases h1 : k = 1
      · simp [h1] at h
      · by_cases h2 : k = 2
        · simp [h2] at h
        · simp [h1, h2, h3] at h

end Go.Proofs.YtnphjdckdkjopaaGreatDoor

/- A store in plain words: objects by number; what is put, got, found, kept. -/
namespace Go.Proofs.YtnphjdckdkjopaaGreatDoor
open Go Go.RowKit Go.Proofs
set_option synthInstance.maxSize 1000

/-- an object: its number, its bytes -/
abbrev Ob := Nat × List UInt8
def findO : List Ob → List UInt8 → Nat
  | [], _ => 0
  | x :: r, b => if x.2 = b then x.1 else findO r b
def getO : List Ob → Int → Option (List UInt8)
  | [], _ => none
  | x :: r, n => if (x.1 : Int) = n then some x.2 else getO r n
def sizeO (L : List Ob) : Nat := (L.map fun x => x.2.length).sum
/-- a number as an int has it -/
def wr64 (n : Int) : Int := (n + 9223372036854775808) % 18446744073709551616 - 9223372036854775808
theorem wr64_id {n : Int} (h0 : -9223372036854775808 ≤ n) (h1 : n ≤ 9223372036854775807) : wr64 n = n := by unfold wr64; omega
theorem wr64_add (a b : Int) : wr64 (wr64 a + b) = wr64 (a + b) := by unfold wr64; omega
def fullO (L : List Ob) (b : List UInt8) : Bool := decide (300 ≤ L.length ∨ 60000 < wr64 (b.length + sizeO L : Nat))
/-- put: the fault, the number, the last number and the list behind it -/
def putE (L : List Ob) (b : List UInt8) : Int := if findO L b ≠ 0 then 0 else if fullO L b = true then 4 else 0
def putI (n : Nat) (L : List Ob) (b : List UInt8) : Nat := if findO L b ≠ 0 then findO L b else if fullO L b = true then 0 else n + 1
def putM (n : Nat) (L : List Ob) (b : List UInt8) : Nat := if findO L b ≠ 0 then n else if fullO L b = true then n else n + 1
def putL (n : Nat) (L : List Ob) (b : List UInt8) : List Ob := if findO L b ≠ 0 then L else if fullO L b = true then L else L ++ [(n + 1, b)]
/-- keep: whether all are there, what is left -/
def heldO (L : List Ob) (ids : List Int) : Bool := ids.all fun i => (getO L i).isSome
def keepO (L : List Ob) (ids : List Int) : List Ob := L.filter fun x => ids.contains (x.1 : Int)
def keepE (L : List Ob) (ids : List Int) : Int := if heldO L ids = true then 0 else 5
def keepI (L : List Ob) (ids : List Int) : Nat := if heldO L ids = true then L.length - (keepO L ids).length else 0
def keepL (L : List Ob) (ids : List Int) : List Ob := if heldO L ids = true then keepO L ids else L

/-- what a store's list is: numbers rise, from 1 to the last; each object once; no more than may be -/
structure GoodO (n : Nat) (L : List Ob) : Prop where
  low : ∀ x ∈ L, 1 ≤ x.1 ∧ x.1 ≤ n
  rise : L.Pairwise fun x y => x.1 < y.1
  once : L.Pairwise fun x y => x.2 ≠ y.2
  len : L.length ≤ 300

theorem goodO_nil (n : Nat) : GoodO n [] := ⟨by simp, by simp, by simp, by simp⟩
theorem sizeO_app (L M : List Ob) : sizeO (L ++ M) = sizeO L + sizeO M := by simp [sizeO]
theorem sizeO_filter (p : Ob → Bool) (L : List Ob) : sizeO (L.filter p) ≤ sizeO L := by
  induction L with
  | nil => simp [sizeO]
  | cons x r ih =>
    rw [List.filter_cons]
    have e : sizeO (x :: r) = x.2.length + sizeO r := by simp [sizeO]
    split
    · have e' : sizeO (x :: r.filter p) = x.2.length + sizeO (r.filter p) := by simp [sizeO]
      omega
    · omega
theorem findO_mem {L : List Ob} {b : List UInt8} (hl : ∀ x ∈ L, 1 ≤ x.1) : findO L b ≠ 0 ↔ ∃ x ∈ L, x.2 = b := by
  induction L with
  | nil => simp [findO]
  | cons x r ih =>
    have := ih fun y hy => hl y (List.mem_cons_of_mem _ hy)
    unfold findO
    split
    · rename_i h
      have := hl x (List.mem_cons_self ..)
      constructor
      · exact fun _ => ⟨x, List.mem_cons_self .., h⟩
      · exact fun _ => by omega
    · rename_i h
      rw [this]
      constructor
      · rintro ⟨y, hy, e⟩; exact ⟨y, List.mem_cons_of_mem _ hy, e⟩
      · rintro ⟨y, hy, e⟩
        rcases List.mem_cons.1 hy with rfl | hy
        · exact absurd e h
        · exact ⟨y, hy, e⟩
theorem findO_at {L : List Ob} {b : List UInt8} {k : Nat} (hk : k < L.length) (hn : ∀ x ∈ L.take k, x.2 ≠ b) (he : L[k].2 = b) : findO L b = L[k].1 := by
  induction L generalizing k with
  | nil => simp at hk
  | cons x r ih =>
    cases k with
    | zero => simp at he; simp [findO, he]
    | succ j =>
      have h0 : x.2 ≠ b := hn x (by simp)
      simp at hk he
      unfold findO
      rw [if_neg h0, ih hk (fun y hy => hn y (by simp [hy])) he]
      simp
theorem findO_none {L : List Ob} {b : List UInt8} (hn : ∀ x ∈ L, x.2 ≠ b) : findO L b = 0 := by
  induction L with
  | nil => rfl
  | cons x r ih =>
    unfold findO
    rw [if_neg (hn x (by simp)), ih fun y hy => hn y (List.mem_cons_of_mem _ hy)]
theorem getO_at {L : List Ob} {n : Int} {k : Nat} (hk : k < L.length) (hn : ∀ x ∈ L.take k, (x.1 : Int) ≠ n) (he : (L[k].1 : Int) = n) : getO L n = some L[k].2 := by
  induction L generalizing k with
  | nil => simp at hk
  | cons x r ih =>
    cases k with
    | zero => simp at he; simp [getO, he]
    | succ j =>
      have h0 : (x.1 : Int) ≠ n := hn x (by simp)
      simp at hk he
      unfold getO
      rw [if_neg h0, ih hk (fun y hy => hn y (by simp [hy])) he]
      simp
theorem getO_none {L : List Ob} {n : Int} (hn : ∀ x ∈ L, (x.1 : Int) ≠ n) : getO L n = none := by
  induction L with
  | nil => rfl
  | cons x r ih =>
    unfold getO
    rw [if_neg (hn x (by simp)), ih fun y hy => hn y (List.mem_cons_of_mem _ hy)]
theorem getO_some {L : List Ob} {n : Int} {b : List UInt8} (h : getO L n = some b) : ∃ x ∈ L, (x.1 : Int) = n ∧ x.2 = b := by
  induction L with
  | nil => simp [getO] at h
  | cons x r ih =>
    unfold getO at h
    split at h
    · rename_i e
      exact ⟨x, by simp, e, Option.some.inj h⟩
    · obtain ⟨y, hy, e⟩ := ih h
      exact ⟨y, List.mem_cons_of_mem _ hy, e⟩
theorem getO_mem {L : List Ob} (hr : L.Pairwise fun x y => x.1 < y.1) {x : Ob} (hx : x ∈ L) : getO L x.1 = some x.2 := by
  induction L with
  | nil => simp at hx
  | cons y r ih =>
    obtain ⟨h1, h2⟩ := List.pairwise_cons.1 hr
    unfold getO
    rcases List.mem_cons.1 hx with rfl | hx
    · rw [if_pos rfl]
    · rw [if_neg (by have := h1 x hx; omega), ih h2 hx]
theorem findO_in {L : List Ob} (ho : L.Pairwise fun x y => x.2 ≠ y.2) {x : Ob} (hx : x ∈ L) : findO L x.2 = x.1 := by
  induction L with
  | nil => simp at hx
  | cons y r ih =>
    obtain ⟨h1, h2⟩ := List.pairwise_cons.1 ho
    unfold findO
    rcases List.mem_cons.1 hx with rfl | hx
    · rw [if_pos rfl]
    · rw [if_neg (h1 x hx), ih h2 hx]

theorem GoodO.put {n : Nat} {L : List Ob} (h : GoodO n L) (b : List UInt8) : GoodO (putM n L b) (putL n L b) := by
  unfold putM putL
  split
  · exact h
  · rename_i h0
    split
    · exact h
    · rename_i hf
      have hf' : ¬ (300 ≤ L.length ∨ 60000 < wr64 (b.length + sizeO L : Nat)) := by simpa [fullO] using hf
      have hnb : ∀ x ∈ L, x.2 ≠ b := fun x hx e => h0 ((findO_mem fun y hy => (h.low y hy).1).2 ⟨x, hx, e⟩)
      refine ⟨fun x hx => ?_, List.pairwise_append.2 ⟨h.rise, by simp, fun x hx y hy => ?_⟩, List.pairwise_append.2 ⟨h.once, by simp, fun x hx y hy => ?_⟩, by simp; omega⟩
      · rcases List.mem_append.1 hx with hx | hx
        · have := h.low x hx; omega
        · simp at hx; subst hx; exact ⟨by show 1 ≤ n + 1; omega, Nat.le_refl _⟩
      · simp at hy; subst hy; have := h.low x hx; show x.1 < n + 1; omega
      · simp at hy; subst hy; exact hnb x hx
theorem GoodO.keep {n : Nat} {L : List Ob} (h : GoodO n L) (ids : List Int) : GoodO n (keepL L ids) := by
  unfold keepL
  split
  · unfold keepO
    refine ⟨fun x hx => h.low x (List.mem_filter.1 hx).1, h.rise.filter _, h.once.filter _, Nat.le_trans (List.length_filter_le _ _) h.len⟩
  · exact h

/-- as long as texts are not too long for a sum, there are no more bytes than may be -/
theorem putL_size {n : Nat} {L : List Ob} {b : List UInt8} (hL : sizeO L ≤ 60000) (hb : b.length ≤ 9223372036854715807) : sizeO (putL n L b) ≤ 60000 := by
  unfold putL
  split
  · exact hL
  · split
    · exact hL
    · rename_i hf
      have hf' : ¬ (300 ≤ L.length ∨ 60000 < wr64 (b.length + sizeO L : Nat)) := by simpa [fullO] using hf
      rw [wr64_id (by omega) (by omega)] at hf'
      rw [sizeO_app]
      simp [sizeO] at hf' ⊢
      omega
theorem keepL_size {L : List Ob} (ids : List Int) : sizeO (keepL L ids) ≤ sizeO L := by
  unfold keepL
  split
  · exact sizeO_filter _ _
  · exact Nat.le_refl _

/-! ### objects in memory -/
def encO (x : Ob) : List Value := [.int .i64 (x.1 : Int), .string ⟨x.2.toArray⟩]
def cellsO (L : List Ob) : List Value := L.flatMap encO
theorem cellsO_len (L : List Ob) : (cellsO L).length = L.length * 2 := by
  induction L with
  | nil => rfl
  | cons x r ih => simp only [cellsO, List.flatMap_cons, List.length_append, List.length_cons] at ih ⊢; rw [ih]; simp [encO]; omega
theorem cellsO_app (L M : List Ob) : cellsO (L ++ M) = cellsO L ++ cellsO M := by simp [cellsO]
theorem cellsO_at (L : List Ob) (k : Nat) (hk : k < L.length) : (cellsO L)[k * 2]? = some (.int .i64 (L[k].1 : Int)) ∧ (cellsO L)[k * 2 + 1]? = some (.string ⟨L[k].2.toArray⟩) := by
  induction L generalizing k with
  | nil => simp at hk
  | cons x r ih =>
    have e : cellsO (x :: r) = .int .i64 (x.1 : Int) :: .string ⟨x.2.toArray⟩ :: cellsO r := rfl
    rw [e]
    cases k with
    | zero => exact ⟨rfl, rfl⟩
    | succ j =>
      have := ih j (by simpa using hk)
      rw [show (j + 1) * 2 = j * 2 + 1 + 1 by omega]
      simpa using this
theorem ownO_at {W : World} {base : Nat} {e : TypeId} {v : Value} {L : List Ob} (h : W.ownsRow base e 2 v L.length (cellsO L)) (k : Nat) (hk : k < L.length) :
    ∃ g cap, v = .slice (some ⟨g, 0, none⟩) L.length cap ∧ W.cell? ⟨g, k * 2, none⟩ = some (.int .i64 (L[k].1 : Int)) ∧ W.cell? ⟨g, k * 2 + 1, none⟩ = some (.string ⟨L[k].2.toArray⟩) := by
  have h' := h
  rcases h.2 with ⟨rfl, h0⟩ | ⟨g, cap, cur, rfl, _⟩
  · omega
  · obtain ⟨c0, c1⟩ := cellsO_at L k hk
    have q0 := h'.cells (g := g) rfl _ _ c0
    have q1 := h'.cells (g := g) rfl _ _ c1
    rw [Addr.add_lit, Nat.zero_add] at q0 q1
    exact ⟨g, cap, rfl, q0, q1⟩
theorem ownO_form {W : World} {base : Nat} {e : TypeId} {v : Value} {L : List Ob} (h : W.ownsRow base e 2 v L.length (cellsO L)) : ∃ ad cap, v = .slice ad L.length cap := by
  rcases h.2 with ⟨rfl, h0⟩ | ⟨g, cap, cur, rfl, _⟩
  · exact ⟨none, 0, by rw [h0]⟩
  · exact ⟨_, cap, rfl⟩
theorem hideO {p : Prop} (h : p) : Hid p := h
theorem ownsO_below {W W' : World} {base : Nat} {e : TypeId} {sz : Nat} {v : Value} {n : Nat} {cs : List Value} (h : W.ownsRow base e sz v n cs) (hb : RowKit.Below W.heap.size W W') : W'.ownsRow base e sz v n cs :=
  h.kept (row := none) ⟨hb.os, hb.tape, hb.output, hb.size, fun i hi _ => hb.block i hi⟩ (Classical.em _)
theorem bdO (w : World) (q : Nat) : RowKit.Below w.heap.size w (w.drewN q) := ⟨rfl, rfl, rfl, Nat.le_refl _, fun _ _ => rfl⟩

/-- the blocks that a change may turn: all others are as they were -/
structure Offs (O : Nat → Prop) (w w' : World) : Prop where
  os : w'.os = w.os
  tape : w'.tape = w.tape
  output : w'.output = w.output
  size : w.heap.size ≤ w'.heap.size
  block : ∀ k, k < w.heap.size → ¬ O k → w'.heap[k]? = w.heap[k]?
theorem Offs.of_below {O : Nat → Prop} {w w' : World} (h : RowKit.Below w.heap.size w w') : Offs O w w' := ⟨h.os, h.tape, h.output, h.size, fun k hk _ => h.block k hk⟩
theorem Offs.of_grown {O : Nat → Prop} {w w' : World} {row : Option Nat} (h : w.grownBy w' row) (hr : ∀ k, row = some k → O k) : Offs O w w' :=
  ⟨h.os, h.tape, h.output, h.size, fun k hk hO => h.block k hk fun e => hO (hr k e.symm)⟩
theorem Offs.trans {O O' : Nat → Prop} {a b c : World} (h : Offs O a b) (k : Offs O' b c) (hO : ∀ j, O' j → O j ∨ a.heap.size ≤ j) : Offs O a c :=
  ⟨k.os.trans h.os, k.tape.trans h.tape, k.output.trans h.output, Nat.le_trans h.size k.size, fun j hj hn => (k.block j (Nat.lt_of_lt_of_le hj h.size) fun hj' => (hO j hj').elim hn (fun h' => by omega)).trans (h.block j hj hn)⟩
theorem Offs.step {O : Nat → Prop} {a b c : World} (h : Offs O a b) (k : RowKit.Below b.heap.size b c) : Offs O a c := h.trans (Offs.of_below (O := O) k) fun _ h' => Or.inl h'
theorem Offs.mono {O O' : Nat → Prop} {a b : World} (h : Offs O a b) (hO : ∀ j, O j → O' j ∨ a.heap.size ≤ j) : Offs O' a b :=
  ⟨h.os, h.tape, h.output, h.size, fun j hj hn => h.block j hj fun hj' => (hO j hj').elim hn (fun h' => by omega)⟩
theorem Offs.cell {O : Nat → Prop} {w w' : World} (h : Offs O w w') {p : Addr} (hp : p.block < w.heap.size) (hO : ¬ O p.block) : w'.cell? p = w.cell? p := World.cell?_of_block (w := w) (h.block p.block hp hO)
theorem Offs.below {O : Nat → Prop} {B : Nat} {w w' : World} (h : Offs O w w') (hO : ∀ j, O j → B ≤ j) (hB : B ≤ w.heap.size) : RowKit.Below B w w' :=
  ⟨h.os, h.tape, h.output, h.size, fun k hk => h.block k (by omega) fun hk' => by have := hO k hk'; omega⟩

/-- a slice of numbers (nothing is said of an empty one) -/
def SlI (w : World) (ad : Option Addr) (l : List Int) : Prop := l ≠ [] → ∃ b o, ad = some ⟨b, o, none⟩ ∧ ∀ (j : Nat) (hj : j < l.length), w.cell? ⟨b, o + j, none⟩ = some (.int .i64 l[j])
theorem SlI.below {w w' : World} {ad : Option Addr} {l : List Int} (h : SlI w ad l) (hb : RowKit.Below w.heap.size w w') : SlI w' ad l := fun hl => by
  obtain ⟨b, o, e, h1⟩ := h hl
  exact ⟨b, o, e, fun j hj => (hb.cell (World.block_lt_of_cell? w _ (h1 j hj))).trans (h1 j hj)⟩
theorem SlI.at {w : World} {ad : Option Addr} {l : List Int} (h : SlI w ad l) {j : Nat} (hj : j < l.length) : ∃ b o, ad = some ⟨b, o, none⟩ ∧ w.cell? ⟨b, o + j, none⟩ = some (.int .i64 l[j]) := by
  obtain ⟨b, o, e, h1⟩ := h (fun e => by rw [e] at hj; simp at hj)
  exact ⟨b, o, e, h1 j hj⟩

/-- lists of numbers, in a list -/
def ListsAt (w : World) (b o : Nat) (Q : List (List Int)) : Prop := ∀ (i : Nat) (hi : i < Q.length), ∃ a c, w.cell? ⟨b, o + i, none⟩ = some (.slice a Q[i].length c) ∧ SlI w a Q[i] ∧ Q[i].length ≤ c
/-- texts, in a list -/
def TextsAt (w : World) (b o : Nat) (T : List (List UInt8)) : Prop := ∀ (i : Nat) (hi : i < T.length), w.cell? ⟨b, o + i, none⟩ = some (.string ⟨T[i].toArray⟩)

end Go.Proofs.YtnphjdckdkjopaaGreatDoor

/- Commits in plain words: which is wrong; who comes of whom. -/
namespace Go.Proofs.YtnphjdckdkjopaaGreatDoor
open Go Go.RowKit Go.Proofs
set_option synthInstance.maxSize 1000

/-- a commit: its parents, its layer, its message -/
abbrev Cm := List Int × Int × List UInt8
def okM (l : List UInt8) : Bool := l.all fun c => decide (32 ≤ c.toNat ∧ c.toNat ≤ 126)
def msgN (l : List UInt8) : Int := if 24 < l.length then 4 else if okM l = true then 0 else 2
def twinB (p : List Int) : Bool := match p with
  | [a, b] => decide (a = b)
  | _ => false
def rangeB (p : List Int) (i : Nat) : Bool := p.all fun a => decide (0 ≤ a ∧ a < i)
/-- the fault of commit i -/
def comN (c : Cm) (i : Nat) : Int :=
  if 2 < c.1.length ∨ msgN c.2.2 = 4 then 4 else if rangeB c.1 i = false then 1 else if twinB c.1 = true then 7 else if msgN c.2.2 ≠ 0 then msgN c.2.2 else if c.2.1 < 1 ∨ 300 < c.2.1 then 1 else 0
/-- the first that is wrong, from i on -/
def firstC : List Cm → Nat → Nat × Int
  | [], _ => (0, 0)
  | c :: r, i => if comN c i ≠ 0 then (i, comN c i) else firstC r (i + 1)
def comsN (l : List Cm) : Nat × Int := if 60 < l.length then (0, 4) else firstC l 0
theorem firstC_at {l : List Cm} {i k : Nat} (hk : k < l.length) (hn : ∀ (j : Nat) (hj : j < k), comN (l[j]'(by omega)) (i + j) = 0) (h : comN l[k] (i + k) ≠ 0) : firstC l i = (i + k, comN l[k] (i + k)) := by
  induction l generalizing i k with
  | nil => simp at hk
  | cons c r ih =>
    cases k with
    | zero => unfold firstC; rw [if_pos (by simpa using h)]; rfl
    | succ m =>
      have h0 := hn 0 (by omega)
      unfold firstC
      rw [if_neg (fun h' => h' (by simpa using h0))]
      have := ih (i := i + 1) (k := m) (by simpa using hk) (fun j hj => by have := hn (j + 1) (by omega); simpa [Nat.add_assoc, Nat.add_comm 1 j] using this) (by simpa [Nat.add_assoc, Nat.add_comm 1 m] using h)
      rw [this]
      simp [Nat.add_assoc, Nat.add_comm 1 m]
theorem firstC_none {l : List Cm} {i : Nat} (hn : ∀ (j : Nat) (hj : j < l.length), comN l[j] (i + j) = 0) : firstC l i = (0, 0) := by
  induction l generalizing i with
  | nil => rfl
  | cons c r ih =>
    have h0 := hn 0 (by simp)
    unfold firstC
    rw [if_neg (fun h' => h' (by simpa using h0))]
    exact ih fun j hj => by have := hn (j + 1) (by simpa using hj); simpa [Nat.add_assoc, Nat.add_comm 1 j] using this

theorem firstC_zero {l : List Cm} {i : Nat} (h : (firstC l i).2 = 0) : ∀ (j : Nat) (hj : j < l.length), comN l[j] (i + j) = 0 := by
  induction l generalizing i with
  | nil => intro j hj; simp at hj
  | cons c r ih =>
    unfold firstC at h
    split at h
    · rename_i h0; exact absurd h h0
    · rename_i h0
      have h0' : comN c i = 0 := Classical.byContradiction h0
      intro j hj
      cases j with
      | zero => simpa using h0'
      | succ m =>
        have := ih h m (by simpa using hj)
        simpa [Nat.add_assoc, Nat.add_comm 1 m] using this
/-- commits that are right -/
def GoodC (l : List Cm) : Prop := l.length ≤ 60 ∧ ∀ (j : Nat) (hj : j < l.length), comN l[j] j = 0
theorem coms_good {l : List Cm} : (comsN l).2 = 0 ↔ GoodC l := by
  unfold comsN GoodC
  by_cases h : 60 < l.length
  · rw [if_pos h]
    constructor
    · intro e; cases e
    · intro e; omega
  · rw [if_neg h]
    constructor
    · intro e
      exact ⟨by omega, fun j hj => by simpa using firstC_zero e j hj⟩
    · rintro ⟨_, e⟩
      rw [firstC_none fun j hj => by simpa using e j hj]

/-- who comes of whom: k is i, or a parent of one that is -/
def parsOf (l : List Cm) (c : Nat) : List Int := (l[c]?.map fun x => x.1).getD []
def Up (l : List Cm) (i k : Nat) : Prop := ∀ S : Nat → Prop, S i → (∀ c p : Nat, S c → (p : Int) ∈ parsOf l c → S p) → S k
theorem Up.refl (l : List Cm) (i : Nat) : Up l i i := fun _ h _ => h
theorem Up.step {l : List Cm} {i c p : Nat} (h : Up l i c) (hp : (p : Int) ∈ parsOf l c) : Up l i p := fun S h1 h2 => h2 c p (h S h1 h2) hp
/-- a rising list is told by what is in it -/
def RiseN (m : List Nat) : Prop := m.Pairwise fun a b => a < b
theorem rise_unique {m q : List Nat} (hm : RiseN m) (hq : RiseN q) (h : ∀ k, k ∈ m ↔ k ∈ q) : m = q := by
  induction m generalizing q with
  | nil =>
    cases q with
    | nil => rfl
    | cons b s => exact absurd ((h b).2 (by simp)) (by simp)
  | cons a r ih =>
    cases q with
    | nil => exact absurd ((h a).1 (by simp)) (by simp)
    | cons b s =>
      obtain ⟨m1, m2⟩ := List.pairwise_cons.1 hm
      obtain ⟨q1, q2⟩ := List.pairwise_cons.1 hq
      have hab : a = b := by
        have h1 := (h a).1 (by simp)
        have h2 := (h b).2 (by simp)
        rcases List.mem_cons.1 h1 with e | h1
        · exact e
        · rcases List.mem_cons.1 h2 with e | h2
          · exact e.symm
          · have := q1 a h1
            have := m1 b h2
            omega
      subst hab
      congr 1
      refine ih m2 q2 fun k => ?_
      constructor
      · intro hk
        have := m1 k hk
        rcases List.mem_cons.1 ((h k).1 (List.mem_cons_of_mem _ hk)) with e | h'
        · omega
        · exact h'
      · intro hk
        have := q1 k hk
        rcases List.mem_cons.1 ((h k).2 (List.mem_cons_of_mem _ hk)) with e | h'
        · omega
        · exact h'

/-! ### commits in memory -/
/-- commits, in a list: three cells each -/
def ComsAt (w : World) (b o : Nat) (l : List Cm) : Prop := ∀ (i : Nat) (hi : i < l.length), ∃ a c, w.cell? ⟨b, o + i * 3, none⟩ = some (.slice a l[i].1.length c) ∧ w.cell? ⟨b, o + i * 3 + 1, none⟩ = some (.int .i64 l[i].2.1) ∧ w.cell? ⟨b, o + i * 3 + 2, none⟩ = some (.string ⟨l[i].2.2.toArray⟩) ∧ SlI w a l[i].1
def SlC (w : World) (ad : Option Addr) (l : List Cm) : Prop := l ≠ [] → ∃ b o, ad = some ⟨b, o, none⟩ ∧ ComsAt w b o l
theorem SlC.below {w w' : World} {ad : Option Addr} {l : List Cm} (h : SlC w ad l) (hb : RowKit.Below w.heap.size w w') : SlC w' ad l := fun hl => by
  obtain ⟨b, o, e, h1⟩ := h hl
  refine ⟨b, o, e, fun i hi => ?_⟩
  obtain ⟨a, c, h2, h3, h4, h5⟩ := h1 i hi
  exact ⟨a, c, (hb.cell (World.block_lt_of_cell? w _ h2)).trans h2, (hb.cell (World.block_lt_of_cell? w _ h3)).trans h3, (hb.cell (World.block_lt_of_cell? w _ h4)).trans h4, h5.below hb⟩
theorem SlC.at {w : World} {ad : Option Addr} {l : List Cm} (h : SlC w ad l) {i : Nat} (hi : i < l.length) : ∃ b o a c, ad = some ⟨b, o, none⟩ ∧ w.cell? ⟨b, o + i * 3, none⟩ = some (.slice a l[i].1.length c) ∧ w.cell? ⟨b, o + i * 3 + 1, none⟩ = some (.int .i64 l[i].2.1) ∧ w.cell? ⟨b, o + i * 3 + 2, none⟩ = some (.string ⟨l[i].2.2.toArray⟩) ∧ SlI w a l[i].1 := by
  obtain ⟨b, o, e, h1⟩ := h (fun e => by rw [e] at hi; simp at hi)
  obtain ⟨a, c, h2, h3, h4, h5⟩ := h1 i hi
  exact ⟨b, o, a, c, e, h2, h3, h4, h5⟩
end Go.Proofs.YtnphjdckdkjopaaGreatDoor

/- Who comes of whom, marked one by one. -/
namespace Go.Proofs.YtnphjdckdkjopaaGreatDoor
open Go Go.RowKit Go.Proofs
set_option synthInstance.maxSize 1000

def onB (B : List Bool) (k : Nat) : Bool := B.getD k false
def SoundB (l : List Cm) (i : Nat) (B : List Bool) : Prop := ∀ k, onB B k = true → Up l i k
def ClosedTo (l : List Cm) (B : List Bool) (m : Nat) : Prop := ∀ c, c < m → onB B c = true → ∀ p : Nat, (p : Int) ∈ parsOf l c → onB B p = true
theorem onB_set {B : List Bool} {p k : Nat} (hp : p < B.length) : onB (B.set p true) k = if k = p then true else onB B k := by
  unfold onB
  rw [List.getD_eq_getElem?_getD, List.getD_eq_getElem?_getD]
  by_cases e : k = p
  · subst e
    rw [if_pos rfl, List.getElem?_set_self hp]
    rfl
  · rw [if_neg e, List.getElem?_set_ne (fun h => e h.symm)]
theorem onB_lt {B : List Bool} {k : Nat} (h : onB B k = true) : k < B.length := by
  unfold onB at h
  rw [List.getD_eq_getElem?_getD] at h
  exact Classical.byContradiction fun hn => by
    rw [List.getElem?_eq_none (by omega)] at h
    simp at h
theorem onB_get {B : List Bool} {k : Nat} (h : k < B.length) : onB B k = B[k] := by
  unfold onB
  rw [List.getD_eq_getElem?_getD, List.getElem?_eq_getElem h]
  rfl
theorem SoundB.set {l : List Cm} {i : Nat} {B : List Bool} (h : SoundB l i B) {p : Nat} (hp : p < B.length) (hu : Up l i p) : SoundB l i (B.set p true) := fun k hk => by
  rw [onB_set hp] at hk
  split at hk
  · rename_i e; rw [e]; exact hu
  · exact h k hk
theorem closed_up {l : List Cm} {i : Nat} {B : List Bool} (hi : onB B i = true) (hc : ClosedTo l B B.length) : ∀ k, Up l i k → onB B k = true := by
  intro k h
  exact h (fun k => onB B k = true) hi fun c p h1 hp => hc c (onB_lt h1) h1 p hp
/-- how many are not marked -/
def nF : List Bool → Nat
  | [] => 0
  | b :: r => (if b = true then 0 else 1) + nF r
theorem nF_set {B : List Bool} {p : Nat} (hp : p < B.length) (h : onB B p = false) : nF (B.set p true) < nF B := by
  induction B generalizing p with
  | nil => simp at hp
  | cons b r ih =>
    cases p with
    | zero =>
      have hb : b = false := by simpa [onB] using h
      subst hb
      simp [nF]
    | succ m =>
      have := ih (p := m) (by simpa using hp) (by simpa [onB] using h)
      simp only [List.set_cons_succ, nF]
      omega
/-- those that are marked, rising -/
def markedB (B : List Bool) (k : Nat) : List Nat := (List.range k).filter fun j => onB B j
theorem marked_next (B : List Bool) (k : Nat) : markedB B (k + 1) = markedB B k ++ if onB B k = true then [k] else [] := by
  unfold markedB
  rw [List.range_succ, List.filter_append, List.filter_cons]
  simp
theorem marked_rise (B : List Bool) (k : Nat) : RiseN (markedB B k) := by
  unfold markedB RiseN
  exact List.Pairwise.filter _ List.pairwise_lt_range
theorem marked_up {l : List Cm} {i : Nat} {B : List Bool} (hs : SoundB l i B) (hi : onB B i = true) (hc : ClosedTo l B B.length) : ∀ k, k ∈ markedB B B.length ↔ Up l i k := by
  intro k
  unfold markedB
  rw [List.mem_filter, List.mem_range]
  constructor
  · rintro ⟨_, h⟩; exact hs k h
  · intro h
    have := closed_up hi hc k h
    exact ⟨onB_lt this, this⟩
theorem marked_len (B : List Bool) (k : Nat) : (markedB B k).length ≤ k := by
  unfold markedB
  exact Nat.le_trans (List.length_filter_le _ _) (by simp)
/-- parents of commits that are right are earlier ones -/
theorem good_pars {l : List Cm} (h : GoodC l) {c : Nat} (hc : c < l.length) : ∀ z ∈ parsOf l c, 0 ≤ z ∧ z < c := by
  have h1 := h.2 c hc
  have e : parsOf l c = l[c].1 := by unfold parsOf; rw [List.getElem?_eq_getElem hc]; rfl
  rw [e]
  unfold comN at h1
  split at h1
  · cases h1
  · split at h1
    · cases h1
    · rename_i h2
      have h3 : rangeB l[c].1 c = true := by simpa using h2
      unfold rangeB at h3
      rw [List.all_eq_true] at h3
      intro z hz
      simpa using h3 z hz
theorem up_le {l : List Cm} (h : GoodC l) {i k : Nat} (hi : i < l.length) (hu : Up l i k) : k ≤ i ∧ k < l.length := by
  refine hu (fun k => k ≤ i ∧ k < l.length) ⟨Nat.le_refl _, hi⟩ fun c p h1 hp => ?_
  have := (good_pars h h1.2) _ hp
  have h2 : c ≤ i ∧ c < l.length := h1
  show p ≤ i ∧ p < l.length
  omega
end Go.Proofs.YtnphjdckdkjopaaGreatDoor

/- An error against nil; what is kept of three terms that a law has boxed. -/
namespace Go.Proofs.YtnphjdckdkjopaaGreatDoor
open Go Go.RowKit Go.Proofs

theorem eql_errV (n : Int) (w : World) : (binOp .eql 28 (errV n) .nilIface).run Tryz.prog w = .ok (.bool (n == 0)) w := by
  unfold errV
  by_cases h : n = 0
  · subst h; rw [if_pos rfl]; go_simp
  · rw [if_neg h]
    have h' : (n == 0) = false := by simpa using h
    rw [h']
    go_simp
theorem neq_errV (n : Int) (w : World) : (binOp .neq 28 (errV n) .nilIface).run Tryz.prog w = .ok (.bool (!(n == 0))) w := by
  unfold errV
  by_cases h : n = 0
  · subst h; rw [if_pos rfl]; go_simp
  · rw [if_neg h]
    have h' : (n == 0) = false := by simpa using h
    rw [h']
    go_simp
theorem guard_errV (op : BinOp) (t : TypeId) (x : Operand) (c : Value) (n : Int) : eqGuard op t x (.const c) (errV n) .nilIface = pure () := by
  unfold errV
  by_cases h : n = 0
  · subst h; rw [if_pos rfl]; exact eqGuard_nil_constR ..
  · rw [if_neg h]; cases op <;> rfl

/-- three terms that were boxed, read later on -/
theorem boxes {w W : World} {T : TypeId} {a0 a1 a2 b0 b1 b2 c0 c1 c2 : Value}
    (hb : Below (((w.alloc (.cells #[a0, a1, a2] T)).alloc (.cells #[b0, b1, b2] T)).alloc (.cells #[c0, c1, c2] T)).heap.size (((w.alloc (.cells #[a0, a1, a2] T)).alloc (.cells #[b0, b1, b2] T)).alloc (.cells #[c0, c1, c2] T)) W) :
    W.cell? ⟨w.heap.size, 0, none⟩ = some a0 ∧ W.cell? ⟨w.heap.size, 1, none⟩ = some a1 ∧ W.cell? ⟨w.heap.size, 2, none⟩ = some a2 ∧
    W.cell? ⟨w.heap.size + 1, 0, none⟩ = some b0 ∧ W.cell? ⟨w.heap.size + 1, 1, none⟩ = some b1 ∧ W.cell? ⟨w.heap.size + 1, 2, none⟩ = some b2 ∧
    W.cell? ⟨w.heap.size + 1 + 1, 0, none⟩ = some c0 ∧ W.cell? ⟨w.heap.size + 1 + 1, 1, none⟩ = some c1 ∧ W.cell? ⟨w.heap.size + 1 + 1, 2, none⟩ = some c2 ∧
    w.heap.size + 1 + 1 < W.heap.size := by
  obtain ⟨h, _⟩ := bcell hb
  have hs := hb.size
  refine ⟨?_, ?_, ?_, ?_, ?_, ?_, ?_, ?_, ?_, by simp at hs; omega⟩
  all_goals
    rw [h]
    · go_simp
    · simp <;> omega
end Go.Proofs.YtnphjdckdkjopaaGreatDoor

/- triple.Check: what is wrong with a triple: with S, with P, with O, and then where they stand. -/
namespace Go.Proofs.YtnphjdckdkjopaaGreatDoor
open Go Go.RowKit Go.Proofs

/-- the number of the error that triple.Check tells: 0 for none -/
def shapeB (k1 k2 : Int) : Bool := (k1 == 3) || !(k2 == 1)
def check3 (c1 c2 c3 : Int) (k1 k2 : Int) : Int := if c1 = 0 then (if c2 = 0 then (if c3 = 0 then (if shapeB k1 k2 = true then 3 else 0) else c3) else c2) else c1

attribute [local go_sem] eql_errV neq_errV guard_errV

theorem ninebox {w W : World} {T : TypeId} {a0 a1 a2 b0 b1 b2 c0 c1 c2 : Value}
    (hb : Below (w.alloc (.cells #[a0, a1, a2, b0, b1, b2, c0, c1, c2] T)).heap.size (w.alloc (.cells #[a0, a1, a2, b0, b1, b2, c0, c1, c2] T)) W) :
    W.cell? ⟨w.heap.size, 0, none⟩ = some a0 ∧ W.cell? ⟨w.heap.size, 1, none⟩ = some a1 ∧ W.cell? ⟨w.heap.size, 2, none⟩ = some a2 ∧ W.cell? ⟨w.heap.size, 3, none⟩ = some b0 ∧ W.cell? ⟨w.heap.size, 4, none⟩ = some b1 ∧ W.cell? ⟨w.heap.size, 5, none⟩ = some b2 ∧ W.cell? ⟨w.heap.size, 6, none⟩ = some c0 ∧ W.cell? ⟨w.heap.size, 7, none⟩ = some c1 ∧ W.cell? ⟨w.heap.size, 8, none⟩ = some c2 ∧ w.heap.size < W.heap.size := by
  obtain ⟨h, _⟩ := bcell hb
  have hs := hb.size
  refine ⟨?_, ?_, ?_, ?_, ?_, ?_, ?_, ?_, ?_, by simp at hs; omega⟩
  all_goals
    rw [h]
    · go_simp
    · simp <;> omega

set_option maxHeartbeats 1000000 in
theorem misplaced_any (k1 : Int) (S1 L1 : List UInt8) (k2 : Int) (S2 L2 : List UInt8) (k3 : Int) (S3 L3 : List UInt8) (w : World) :
    Calls Tryz.prog 176 #[.agg #[.int .i64 k1, .string ⟨S1.toArray⟩, .string ⟨L1.toArray⟩, .int .i64 k2, .string ⟨S2.toArray⟩, .string ⟨L2.toArray⟩, .int .i64 k3, .string ⟨S3.toArray⟩, .string ⟨L3.toArray⟩]] w
      fun e w' => e = .returned (.bool (shapeB k1 k2)) ∧ Below w.heap.size w w' := by
  have fin2 : Hid (shapeB k1 k2 = ((k1 == 3) || !(k2 == 1))) := rfl
  cases h3 : (k1 == 3)
  · cases h1 : (k2 == 1)
    all_goals
      go_enter Tryz.func176, Tryz.ntmps176
      go_wp2_with fail
      go_ret
      exact ⟨ret_bool (by rw [fin2.out, h3]; rfl), balloc _ _⟩
  · go_enter Tryz.func176, Tryz.ntmps176
    go_wp2_with fail
    go_ret
    exact ⟨ret_bool (by rw [fin2.out, h3]; rfl), balloc _ _⟩

theorem index0 (a0 a1 a2 b0 b1 b2 c0 c1 c2 : Value) (w : World) : (Instr.index 255 (.agg #[a0, a1, a2, b0, b1, b2, c0, c1, c2]) (.int .i64 0)).run Tryz.prog w = .ok (.agg #[a0, a1, a2]) w := by kernel_rfl
theorem index1 (a0 a1 a2 b0 b1 b2 c0 c1 c2 : Value) (w : World) : (Instr.index 255 (.agg #[a0, a1, a2, b0, b1, b2, c0, c1, c2]) (.int .i64 1)).run Tryz.prog w = .ok (.agg #[b0, b1, b2]) w := by kernel_rfl
theorem index2 (a0 a1 a2 b0 b1 b2 c0 c1 c2 : Value) (w : World) : (Instr.index 255 (.agg #[a0, a1, a2, b0, b1, b2, c0, c1, c2]) (.int .i64 2)).run Tryz.prog w = .ok (.agg #[c0, c1, c2]) w := by kernel_rfl
attribute [local go_sem] index0 index1 index2

set_option maxHeartbeats 4000000 in
set_option maxRecDepth 100000 in
theorem TCheck_any (k1 : Int) (S1 L1 : List UInt8) (k2 : Int) (S2 L2 : List UInt8) (k3 : Int) (S3 L3 : List UInt8) (w : World)
    (hs1 : S1.length ≤ maxLen) (hl1 : L1.length ≤ maxLen) (hs2 : S2.length ≤ maxLen) (hl2 : L2.length ≤ maxLen) (hs3 : S3.length ≤ maxLen) (hl3 : L3.length ≤ maxLen) :
    Calls Tryz.prog 147 #[.agg #[.int .i64 k1, .string ⟨S1.toArray⟩, .string ⟨L1.toArray⟩, .int .i64 k2, .string ⟨S2.toArray⟩, .string ⟨L2.toArray⟩, .int .i64 k3, .string ⟨S3.toArray⟩, .string ⟨L3.toArray⟩]] w
      fun e w' => e = .returned (errV (check3 (checkN k1 S1 L1) (checkN k2 S2 L2) (checkN k3 S3 L3) k1 k2)) ∧ Below w.heap.size w w' := by
  have H1 := fun W => Check_any k1 S1 L1 W hs1 hl1
  have H2 := fun W => Check_any k2 S2 L2 W hs2 hl2
  have H3 := fun W => Check_any k3 S3 L3 W hs3 hl3
  generalize checkN k1 S1 L1 = c1 at H1 ⊢
  generalize checkN k2 S2 L2 = c2 at H2 ⊢
  generalize checkN k3 S3 L3 = c3 at H3 ⊢
  have fin : Hid (check3 c1 c2 c3 k1 k2 = if c1 = 0 then (if c2 = 0 then (if c3 = 0 then (if shapeB k1 k2 = true then 3 else 0) else c3) else c2) else c1) := rfl
  clear hs1 hl1 hs2 hl2 hs3 hl3
  go_enter Tryz.func147, Tryz.ntmps147
  go_wp2_with fail
  go_loopw [13] (fun i wr => ∃ k : Int, 0 ≤ k ∧ k ≤ 3 ∧ i = .int .i64 k ∧ Below (w.alloc (.cells #[.int .i64 k1, .string ⟨S1.toArray⟩, .string ⟨L1.toArray⟩, .int .i64 k2, .string ⟨S2.toArray⟩, .string ⟨L2.toArray⟩, .int .i64 k3, .string ⟨S3.toArray⟩, .string ⟨L3.toArray⟩] 41)).heap.size (w.alloc (.cells #[.int .i64 k1, .string ⟨S1.toArray⟩, .string ⟨L1.toArray⟩, .int .i64 k2, .string ⟨S2.toArray⟩, .string ⟨L2.toArray⟩, .int .i64 k3, .string ⟨S3.toArray⟩, .string ⟨L3.toArray⟩] 41)) wr
      ∧ (0 < k → c1 = 0) ∧ (1 < k → c2 = 0) ∧ (2 < k → c3 = 0)) (fun i wr => (3 - intOf i).toNat)
  case atStart => exact ⟨0, by omega, by omega, rfl, Below.refl _ _, by omega, by omega, by omega⟩
  case round =>
    obtain ⟨k, hk, hk', rfl, hbr, q0, q1, q2⟩ := hrel
    rcases (by omega : k = 0 ∨ k = 1 ∨ k = 2 ∨ k = 3) with rfl | rfl | rfl | rfl
    · clear hk hk' q0 q1 q2
      go_wp2_with fail
      refine (H1 _).mono ?_
      rintro e w1 ⟨rfl, hb1⟩
      have hB := bstep (bstep hbr (balloc _ _)) hb1
      cases hc : (c1 == 0)
      · go_wp2_with fail
        go_ret
        simp at hc
        exact ⟨ret_val (by rw [fin.out]; simp [hc]), bstep (balloc _ _) hB⟩
      · go_wp2_with fail
        simp at hc
        exact ⟨⟨1, by omega, by omega, by go_num, hB, fun _ => hc, by omega, by omega⟩, by simp [intOf]⟩
    · have hx : Hid (c1 = 0) := q0 (by omega)
      clear hk hk' q0 q1 q2
      go_wp2_with fail
      refine (H2 _).mono ?_
      rintro e w1 ⟨rfl, hb1⟩
      have hB := bstep (bstep hbr (balloc _ _)) hb1
      cases hc : (c2 == 0)
      · go_wp2_with fail
        go_ret
        simp at hc
        exact ⟨ret_val (by rw [fin.out]; simp [hc, hx.out]), bstep (balloc _ _) hB⟩
      · go_wp2_with fail
        simp at hc
        exact ⟨⟨2, by omega, by omega, by go_num, hB, fun _ => hx.out, fun _ => hc, by omega⟩, by simp [intOf]⟩
    · have hx : Hid (c1 = 0) := q0 (by omega)
      have hy : Hid (c2 = 0) := q1 (by omega)
      clear hk hk' q0 q1 q2
      go_wp2_with fail
      refine (H3 _).mono ?_
      rintro e w1 ⟨rfl, hb1⟩
      have hB := bstep (bstep hbr (balloc _ _)) hb1
      cases hc : (c3 == 0)
      · go_wp2_with fail
        go_ret
        simp at hc
        exact ⟨ret_val (by rw [fin.out]; simp [hc, hx.out, hy.out]), bstep (balloc _ _) hB⟩
      · go_wp2_with fail
        simp at hc
        exact ⟨⟨3, by omega, by omega, by go_num, hB, fun _ => hx.out, fun _ => hy.out, fun _ => hc⟩, by simp [intOf]⟩
    · have hx : Hid (c1 = 0) := q0 (by omega)
      have hy : Hid (c2 = 0) := q1 (by omega)
      have hz : Hid (c3 = 0) := q2 (by omega)
      clear hk hk' q0 q1 q2
      obtain ⟨n0, n1, n2, n3, n4, n5, n6, n7, n8, hz9⟩ := ninebox hbr
      have HM := fun W => misplaced_any k1 S1 L1 k2 S2 L2 k3 S3 L3 W
      generalize shapeB k1 k2 = sh at *
      cases sh
      all_goals
        go_wp2_with fail
        refine (HM _).mono ?_
        rintro e w4 ⟨rfl, hb4⟩
        go_wp2_with fail
        go_ret
        exact ⟨ret_val (by rw [fin.out]; simp [hx.out, hy.out, hz.out]; rfl), bstep (bstep (balloc _ _) hbr) hb4⟩
end Go.Proofs.YtnphjdckdkjopaaGreatDoor
