/- quotesEnd, CutWord, cut: the texts of three terms. -/
import Derived.Test.YtnlcfnpcjkcdmaaGreatDoorWordsPlain
import Derived.Test.YtnlcfnpcjkcdmaaGreatDoorRead
import Derived.Test.YtnlcfnpcjkcdmaaGreatDoorCompare
import Derived.Laws.DeepStrings4
import Derived.RegionTactic
namespace Go.Proofs.YtnlcfnpcjkcdmaaGreatDoor
open Go Go.RowKit Go.Proofs

theorem qScan_mark (l : List UInt8) (k : Nat) (h : k + 1 < l.length) (hm : l[k] = 92) : qScan (l.drop k) = 2 + qScan (l.drop (k + 2)) := by
  rw [drop_at l k (by omega), drop_at l (k + 1) h, qScan, if_pos hm]
theorem qScan_mark_last (l : List UInt8) (k : Nat) (h : k + 1 = l.length) : qScan (l.drop k) = 1 := by
  rw [drop_at l k (by omega), List.drop_eq_nil_of_le (by omega)]
  simp [qScan]
theorem qScan_quote (l : List UInt8) (k : Nat) (h : k < l.length) (hm : l[k] = 34) : qScan (l.drop k) = 1 := by
  rw [drop_at l k h]
  cases hd : l.drop (k + 1) with
  | nil => simp [qScan]
  | cons d r => rw [qScan, hm]; rfl
theorem qScan_plain (l : List UInt8) (k : Nat) (h : k < l.length) (h1 : l[k] ≠ 92) (h2 : l[k] ≠ 34) : qScan (l.drop k) = 1 + qScan (l.drop (k + 1)) := by
  rw [drop_at l k h]
  cases hd : l.drop (k + 1) with
  | nil => simp [qScan]
  | cons d r => rw [qScan, if_neg h1, if_neg h2]

theorem byte_beq (c : UInt8) (n : UInt8) : ((c.toNat : Int) == (n.toNat : Int)) = (c == n) := by
  rw [Bool.eq_iff_iff]
  simp only [beq_iff_eq]
  constructor
  · intro h
    exact UInt8.toNat_inj.1 (by omega)
  · intro h; rw [h]

theorem hasP_nil : Lib.hasPrefix ([] : List UInt8) [34] = false := rfl
theorem hasP_cons (c : UInt8) (r : List UInt8) : Lib.hasPrefix (c :: r) [34] = (c == 34) := by
  show ((34 : UInt8) == c && true) = (c == 34)
  rw [Bool.and_true, Bool.eq_iff_iff]
  simp only [beq_iff_eq]
  exact eq_comm

set_option maxHeartbeats 1000000 in
theorem quotesEnd_any (l : List UInt8) (w : World) (hl : l.length ≤ 140737488355328) :
    Calls Tryz.prog 69 #[.string ⟨l.toArray⟩] w fun e w' => e = .returned (.int .i64 (qEnd l)) ∧ w' = w := by
  cases hpre : Lib.hasPrefix l [34]
  · have hp : Calls Tryz.prog 99 #[.string ⟨l.toArray⟩, .string ⟨#[34]⟩] w fun e w' => e = .returned (.bool false) ∧ w' = w := by
      have := Tryz.strings_HasPrefix ⟨l.toArray⟩ ⟨#[34]⟩ w
      rw [show Lib.hasPrefix (⟨l.toArray⟩ : ByteArray).data.toList (⟨#[34]⟩ : ByteArray).data.toList = Lib.hasPrefix l [34] from rfl, hpre] at this
      exact this
    have fin : Hid (qEnd l = 0) := by
      cases l with
      | nil => rfl
      | cons c r => rw [hasP_cons] at hpre; simp at hpre; simp [Hid, qEnd, hpre]
    go_enter Tryz.func69, Tryz.ntmps69
    go_wp2_with (go_at_call 99; refine hp.mono ?_; rintro e w' ⟨rfl, rfl⟩)
    go_ret
    exact ⟨ret_int (by rw [fin.out]; rfl), rfl⟩
  · have hp : Calls Tryz.prog 99 #[.string ⟨l.toArray⟩, .string ⟨#[34]⟩] w fun e w' => e = .returned (.bool true) ∧ w' = w := by
      have := Tryz.strings_HasPrefix ⟨l.toArray⟩ ⟨#[34]⟩ w
      rw [show Lib.hasPrefix (⟨l.toArray⟩ : ByteArray).data.toList (⟨#[34]⟩ : ByteArray).data.toList = Lib.hasPrefix l [34] from rfl, hpre] at this
      exact this
    obtain ⟨h1, fin⟩ : 1 ≤ l.length ∧ Hid (qEnd l = 1 + qScan (l.drop 1)) := by
      cases l with
      | nil => rw [hasP_nil] at hpre; simp at hpre
      | cons c r => rw [hasP_cons] at hpre; simp at hpre; simp [Hid, qEnd, hpre]
    clear hpre
    go_enter Tryz.func69, Tryz.ntmps69
    go_wp2_with (go_at_call 99; refine hp.mono ?_; rintro e w' ⟨rfl, rfl⟩)
    go_loop [3] (fun i => ∃ k : Nat, 1 ≤ k ∧ k ≤ l.length + 1 ∧ i = .int .i64 k ∧ Hid (k ≤ l.length → qEnd l = k + qScan (l.drop k)) ∧ Hid (k = l.length + 1 → qEnd l = l.length)) (fun i => l.length + 1 - (intOf i).toNat)
    case atStart => exact ⟨1, by omega, by omega, rfl, fun _ => fin.out, fun h => by omega⟩
    case round =>
      obtain ⟨k, hk1, hk, rfl, hA, hE⟩ := hrel
      by_cases hlt : k < l.length
      · have hidx : ∀ h, (⟨l.toArray⟩ : ByteArray)[k]'h = l[k] := fun _ => rfl
        cases hm : ((l[k].toNat : Int) == 92)
        · cases hq : ((l[k].toNat : Int) == 34)
          · go_wp2
            have n1 : l[k] ≠ 92 := by have := byte_beq l[k] 92; rw [show ((92 : UInt8).toNat : Int) = 92 from rfl, hm] at this; simpa using this.symm
            have n2 : l[k] ≠ 34 := by have := byte_beq l[k] 34; rw [show ((34 : UInt8).toNat : Int) = 34 from rfl, hq] at this; simpa using this.symm
            refine ⟨⟨k + 1, by omega, by omega, by go_num, fun _ => ?_, fun h => by omega⟩, by simp [intOf]; omega⟩
            rw [hA.out (by omega), qScan_plain l k hlt n1 n2]; omega
          · go_wp2
            go_ret
            have n2 : l[k] = 34 := by have := byte_beq l[k] 34; rw [show ((34 : UInt8).toNat : Int) = 34 from rfl, hq] at this; simpa using this.symm
            refine ⟨ret_int ?_, rfl⟩
            rw [hA.out (by omega), qScan_quote l k hlt n2]
            try go_num
        · have n1 : Hid (l[k] = 92) := by have := byte_beq l[k] 92; rw [show ((92 : UInt8).toNat : Int) = 92 from rfl, hm] at this; simpa [Hid] using this.symm
          go_wp2
          refine ⟨⟨k + 2, by omega, by omega, by go_num, fun h => ?_, fun h => ?_⟩, by simp [intOf]; omega⟩
          · by_cases h2 : k + 1 < l.length
            · rw [hA.out (by omega), qScan_mark l k h2 n1.out]; omega
            · omega
          · rw [hA.out (by omega), qScan_mark_last l k (by omega)]; omega
      · have fin2 : Hid (qEnd l = l.length) := by
          by_cases h : k = l.length + 1
          · exact hE.out h
          · have hk' : k = l.length := by omega
            have := hA.out (by omega)
            rw [hk', List.drop_length] at this
            simpa [Hid, qScan] using this
        go_wp2
        go_ret
        exact ⟨ret_int (by rw [fin2.out]), rfl⟩

theorem indexByte_lt (l : List UInt8) (c : UInt8) : Lib.indexByte l c < l.length := by
  induction l with
  | nil => simp [Lib.indexByte]
  | cons b r ih =>
    unfold Lib.indexByte
    simp only [List.length_cons]
    repeat' split
    all_goals omega

theorem take_extract (l : List UInt8) (k : Nat) : (⟨l.toArray⟩ : ByteArray).extract 0 k = ⟨(l.take k).toArray⟩ := by
  apply ByteArray.ext
  rw [ByteArray.data_extract]
  simp

set_option maxHeartbeats 1000000 in
theorem cutWord_none (l : List UInt8) (w : World) (hl : l.length ≤ 140737488355328) (h : cutW l = none) :
    Calls Tryz.prog 46 #[.string ⟨l.toArray⟩] w fun e w' => e = .returned (.tuple #[.string ⟨l.toArray⟩, .string ⟨#[]⟩, .bool false]) ∧ Below w.heap.size w w' := by
  have hq := fun W => quotesEnd_any l W hl
  have hle := qEnd_le l
  have hi : Calls Tryz.prog 70 #[.string ⟨(l.drop (qEnd l)).toArray⟩, .int .u8 32] w fun e w' => e = .returned (.int .i64 (Lib.indexByte (l.drop (qEnd l)) 32)) ∧ w' = w := Tryz.strings_IndexByte ⟨(l.drop (qEnd l)).toArray⟩ 32 w
  have hn : Lib.indexByte (l.drop (qEnd l)) 32 < 0 := by
    unfold cutW at h
    by_cases hh : Lib.indexByte (l.drop (qEnd l)) 32 < 0
    · exact hh
    · rw [if_neg hh] at h; simp at h
  have hd : decide (Lib.indexByte (l.drop (qEnd l)) 32 < 0) = true := by simpa using hn
  have hx := drop_extract l (qEnd l)
  generalize qEnd l = f at *
  have i0 : (0 : Int) ≤ (f : Int) := by omega
  have i1 : (f : Int) ≤ (l.length : Int) := by omega
  clear h
  go_enter Tryz.func46, Tryz.ntmps46
  go_wp2_with (first
    | (go_at_call 69; refine (hq _).mono ?_; rintro e w' ⟨rfl, rfl⟩)
    | (go_at_call 70; refine hi.mono ?_; rintro e w' ⟨rfl, rfl⟩))
  exact bodyPost_ret (v := .tuple #[.string ⟨l.toArray⟩, .string ⟨#[]⟩, .bool false]) (by simp [results, Tryz.results46, go_sem]) rfl ⟨rfl, Below.refl _ _⟩

set_option maxHeartbeats 1000000 in
theorem cutWord_some (l a r : List UInt8) (w : World) (hl : l.length ≤ 140737488355328) (h : cutW l = some (a, r)) :
    Calls Tryz.prog 46 #[.string ⟨l.toArray⟩] w fun e w' => e = .returned (.tuple #[.string ⟨a.toArray⟩, .string ⟨r.toArray⟩, .bool true]) ∧ Below w.heap.size w w' := by
  have hq := fun W => quotesEnd_any l W hl
  have hle := qEnd_le l
  have hi : Calls Tryz.prog 70 #[.string ⟨(l.drop (qEnd l)).toArray⟩, .int .u8 32] w fun e w' => e = .returned (.int .i64 (Lib.indexByte (l.drop (qEnd l)) 32)) ∧ w' = w := Tryz.strings_IndexByte ⟨(l.drop (qEnd l)).toArray⟩ 32 w
  have hlt := indexByte_lt (l.drop (qEnd l)) 32
  have hn : ¬ Lib.indexByte (l.drop (qEnd l)) 32 < 0 := by
    intro hh
    unfold cutW at h
    rw [if_pos hh] at h
    simp at h
  unfold cutW at h
  rw [if_neg hn] at h
  obtain ⟨N, hN⟩ : ∃ N : Nat, Lib.indexByte (l.drop (qEnd l)) 32 = (N : Int) := ⟨(Lib.indexByte (l.drop (qEnd l)) 32).toNat, by omega⟩
  rw [hN] at hi h hlt
  have hx := drop_extract l (qEnd l)
  simp only [Int.toNat_natCast, Option.some.injEq, Prod.mk.injEq] at h
  rw [List.length_drop] at hlt
  generalize qEnd l = f at *
  obtain ⟨M, hM⟩ : ∃ M : Nat, M = f + N := ⟨_, rfl⟩
  obtain ⟨M1, hM1⟩ : ∃ M1 : Nat, M1 = f + N + 1 := ⟨_, rfl⟩
  rw [← hM1, ← hM] at h
  obtain ⟨ha, hr⟩ := h
  have hxa := take_extract l M
  have hxr := drop_extract l M1
  rw [ha] at hxa
  rw [hr] at hxr
  have i0 : (0 : Int) ≤ (f : Int) := by omega
  have i1 : (f : Int) ≤ (l.length : Int) := by omega
  have w1 : IntKind.i64.wrap ((f : Int) + (N : Int)) = (M : Int) := by subst hM; simp [IntKind.wrap, IntKind.bits, IntKind.signed]; omega
  have w2 : IntKind.i64.wrap ((M : Int) + 1) = (M1 : Int) := by subst hM hM1; simp [IntKind.wrap, IntKind.bits, IntKind.signed]; omega
  have i2 : (0 : Int) ≤ (M : Int) := by omega
  have i3 : (M : Int) ≤ (l.length : Int) := by omega
  have i4 : (0 : Int) ≤ (M1 : Int) := by omega
  have i5 : (M1 : Int) ≤ (l.length : Int) := by omega
  have i6 : M ≤ l.length := by omega
  have i7 : M1 ≤ l.length := by omega
  clear hM hM1 ha hr hN hn hlt
  go_enter Tryz.func46, Tryz.ntmps46
  go_wp2_with (first
    | (go_at_call 69; refine (hq _).mono ?_; rintro e w' ⟨rfl, rfl⟩)
    | (go_at_call 70; refine hi.mono ?_; rintro e w' ⟨rfl, rfl⟩))
  go_region
  go_wp2
  exact bodyPost_ret (v := .tuple #[.string ⟨a.toArray⟩, .string ⟨r.toArray⟩, .bool true]) (by simp [results, Tryz.results46, go_sem]) rfl ⟨rfl, (Below.refl _ _).drew⟩
end Go.Proofs.YtnlcfnpcjkcdmaaGreatDoor
