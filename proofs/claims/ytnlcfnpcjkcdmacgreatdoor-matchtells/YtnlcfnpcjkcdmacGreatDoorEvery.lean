/- 'every', and the four readers of a whole text that go by it. -/
import Derived.Test.YtnlcfnpcjkcdmacGreatDoorLeaf
import Derived.Below
import Derived.Shelf.Abstract
namespace Go.Proofs.YtnlcfnpcjkcdmacGreatDoor
open Go Go.RowKit Go.Proofs

theorem isNameByte_any (n : Int) (w : World) :
    Calls Tryz.prog 132 #[.int .u8 n] w fun e w' => e = .returned (.bool (nameB n)) ∧ w' = w := by
  have fin : Hid (nameB n = (letB n || digB n || decide (n = 58 ∨ n = 47 ∨ n = 46))) := rfl
  cases hl : letB n <;> cases hd : digB n <;> cases h58 : (n == 58) <;> cases h47 : (n == 47)
  all_goals
    go_enter Tryz.func132, Tryz.ntmps132
    go_wp2_with (first
      | (go_at_call 130; refine (isLetter_any _ _).mono ?_; rintro e w' ⟨rfl, rfl⟩)
      | (go_at_call 133; refine (isDigit_any _ _).mono ?_; rintro e w' ⟨rfl, rfl⟩))
    go_ret
    refine ⟨ret_bool ?_, rfl⟩
    rw [fin.out, hl, hd]
    simp at h58 h47 ⊢
    try (by_cases h46 : n = 46 <;> simp [h58, h47, h46])

theorem isAnonByte_any (n : Int) (w : World) :
    Calls Tryz.prog 134 #[.int .u8 n] w fun e w' => e = .returned (.bool (anonB n)) ∧ w' = w := by
  have fin : Hid (anonB n = (letB n || digB n)) := rfl
  cases hl : letB n <;> cases hd : digB n
  all_goals
    go_enter Tryz.func134, Tryz.ntmps134
    go_wp2_with (first
      | (go_at_call 130; refine (isLetter_any _ _).mono ?_; rintro e w' ⟨rfl, rfl⟩)
      | (go_at_call 133; refine (isDigit_any _ _).mono ?_; rintro e w' ⟨rfl, rfl⟩))
    go_ret
    refine ⟨ret_bool ?_, rfl⟩
    rw [fin.out, hl, hd]
    rfl

/-- every byte of the list is so -/
def allB (p : Int → Bool) (l : List UInt8) : Bool := l.all fun c => p (c.toNat : Int)

theorem allB_take (p : Int → Bool) (s : ByteArray) (k : Nat) (h : k < s.size) :
    allB p (s.data.toList.take (k + 1)) = (allB p (s.data.toList.take k) && p (s[k].toNat : Int)) := by
  unfold allB
  rw [List.take_succ_eq_append_getElem (by simpa using h)]
  simp
  rfl

theorem allB_false (p : Int → Bool) (s : ByteArray) (k : Nat) (h : k < s.size) (hp : p (s[k].toNat : Int) = false) : allB p s.data.toList = false := by
  unfold allB
  rw [List.all_eq_false]
  exact ⟨s.data.toList[k]'(by simpa using h), List.getElem_mem _, by rw [show s.data.toList[k]'(by simpa using h) = s[k] from rfl, hp]; simp⟩

set_option maxHeartbeats 400000 in
theorem every_any (s : ByteArray) (f : Nat) (p : Int → Bool) (w : World) (hs : s.size ≤ maxLen)
    (eg : ∀ args w, (callFunc f args).run Tryz.prog w = .ok (.enter f args) w)
    (hf : ∀ (n : Int) (w : World), Calls Tryz.prog f #[.int .u8 n] w fun e w' => e = .returned (.bool (p n)) ∧ w' = w) :
    Calls Tryz.prog 131 #[.string s, .func (.func f) #[] #[]] w fun e w' => e = .returned (.bool (allB p s.data.toList)) ∧ w' = w := by
  unfold maxLen at hs
  have Hf : Hid (∀ (n : Int) (w : World), Calls Tryz.prog f #[.int .u8 n] w fun e w' => e = .returned (.bool (p n)) ∧ w' = w) := hf
  clear hf
  go_enter Tryz.func131, Tryz.ntmps131
  go_wp2
  go_loop [8] (fun i => ∃ k : Nat, k ≤ s.size ∧ i = .int .i64 k ∧ allB p (s.data.toList.take k) = true) (fun i => s.size - (intOf i).toNat)
  case atStart => exact ⟨0, Nat.zero_le _, rfl, rfl⟩
  case round =>
    obtain ⟨k, hk, rfl, hall0⟩ := hrel
    have hall : Hid (allB p (s.data.toList.take k) = true) := hall0
    clear hall0
    by_cases hlt : k < s.size
    · cases hp : p (s[k].toNat : Int)
      · go_wp2_with (go_at_fn f; refine (Hf.out _ _).mono ?_; rintro e w' ⟨rfl, rfl⟩)
        go_ret
        exact ⟨ret_bool (allB_false p s k hlt hp).symm, rfl⟩
      · go_wp2_with (go_at_fn f; refine (Hf.out _ _).mono ?_; rintro e w' ⟨rfl, rfl⟩)
        refine ⟨⟨k + 1, by omega, by go_num, ?_⟩, by simp [intOf]; omega⟩
        rw [allB_take p s k hlt, hall.out, hp]
        rfl
    · go_wp2
      go_ret
      refine ⟨ret_bool ?_, rfl⟩
      rw [← hall.out, List.take_of_length_le (by simp; omega)]

/-! ### what a whole text is -/
def nameOk (l : List UInt8) : Bool := match l with | [] => false | c :: _ => letB (c.toNat : Int) && allB nameB l
def anonOk (l : List UInt8) : Bool := match l with | [] => false | _ :: _ => allB anonB l
def langOk (l : List UInt8) : Bool := l.length == 2 && allB letB l
def textOk (l : List UInt8) : Bool := allB textB l

theorem enters130 : ∀ args w, (callFunc 130 args).run Tryz.prog w = .ok (.enter 130 args) w := enters_of Tryz.func130 (by kernel_rfl) rfl
theorem enters132 : ∀ args w, (callFunc 132 args).run Tryz.prog w = .ok (.enter 132 args) w := enters_of Tryz.func132 (by kernel_rfl) rfl
theorem enters134 : ∀ args w, (callFunc 134 args).run Tryz.prog w = .ok (.enter 134 args) w := enters_of Tryz.func134 (by kernel_rfl) rfl
theorem enters135 : ∀ args w, (callFunc 135 args).run Tryz.prog w = .ok (.enter 135 args) w := enters_of Tryz.func135 (by kernel_rfl) rfl

theorem isText_any (l : List UInt8) (w : World) (hs : l.length ≤ maxLen) :
    Calls Tryz.prog 115 #[.string ⟨l.toArray⟩] w fun e w' => e = .returned (.bool (textOk l)) ∧ w' = w := by
  go_enter Tryz.func115, Tryz.ntmps115
  go_wp2_with (go_at_call 131; refine (every_any ⟨l.toArray⟩ 135 textB _ hs enters135 isTextByte_any).mono ?_; rintro e w' ⟨rfl, rfl⟩)
  go_ret
  exact ⟨rfl, rfl⟩

theorem isAnon_any (l : List UInt8) (w : World) (hs : l.length ≤ maxLen) :
    Calls Tryz.prog 113 #[.string ⟨l.toArray⟩] w fun e w' => e = .returned (.bool (anonOk l)) ∧ w' = w := by
  cases l with
  | nil =>
    go_enter Tryz.func113, Tryz.ntmps113
    go_wp2
    go_ret
    exact ⟨rfl, rfl⟩
  | cons c r =>
    go_enter Tryz.func113, Tryz.ntmps113
    go_wp2_with (go_at_call 131; refine (every_any ⟨(c :: r).toArray⟩ 134 anonB _ hs enters134 isAnonByte_any).mono ?_; rintro e w' ⟨rfl, rfl⟩)
    go_ret
    exact ⟨rfl, rfl⟩

theorem isLang_any (l : List UInt8) (w : World) (hs : l.length ≤ maxLen) :
    Calls Tryz.prog 114 #[.string ⟨l.toArray⟩] w fun e w' => e = .returned (.bool (langOk l)) ∧ w' = w := by
  have fin : Hid (langOk l = (l.length == 2 && allB letB l)) := rfl
  by_cases h : l.length = 2
  all_goals
    go_enter Tryz.func114, Tryz.ntmps114
    go_wp2_with (go_at_call 131; refine (every_any ⟨l.toArray⟩ 130 letB _ hs enters130 isLetter_any).mono ?_; rintro e w' ⟨rfl, rfl⟩)
    go_ret
    exact ⟨ret_bool (by rw [fin.out]; simp [h]), rfl⟩

theorem isName_any (l : List UInt8) (w : World) (hs : l.length ≤ maxLen) :
    Calls Tryz.prog 112 #[.string ⟨l.toArray⟩] w fun e w' => e = .returned (.bool (nameOk l)) ∧ w' = w := by
  cases l with
  | nil =>
    go_enter Tryz.func112, Tryz.ntmps112
    go_wp2
    go_ret
    exact ⟨rfl, rfl⟩
  | cons c r =>
    have fin : Hid (nameOk (c :: r) = (letB (c.toNat : Int) && allB nameB (c :: r))) := rfl
    cases hc0 : letB (c.toNat : Int)
    all_goals
      have hc : letB (((⟨(c :: r).toArray⟩ : ByteArray)[0]'(by simp [ByteArray.size])).toNat : Int) = _ := hc0
      go_enter Tryz.func112, Tryz.ntmps112
      go_wp2_with (first
        | (go_at_call 130; refine (isLetter_any _ _).mono ?_; rintro e w' ⟨rfl, rfl⟩)
        | (go_at_call 131; refine (every_any ⟨(c :: r).toArray⟩ 132 nameB _ hs enters132 isNameByte_any).mono ?_; rintro e w' ⟨rfl, rfl⟩))
      go_ret
      exact ⟨ret_bool (by rw [fin.out, hc0]; simp), rfl⟩
end Go.Proofs.YtnlcfnpcjkcdmacGreatDoor
