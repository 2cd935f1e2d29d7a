/- The document's answer (package strataref1): Show. -/
import Derived.Test.YtnlcfnpcjkcdmaaGreatDoorRefTerm
import Derived.Test.YtnlcfnpcjkcdmaaGreatDoorPlain
import Derived.Laws.DeepStrings4
namespace Go.Proofs.YtnlcfnpcjkcdmaaGreatDoor
open Go Go.RowKit Go.Proofs

theorem slice_one (l : List UInt8) (k : Nat) (h : k < l.length) : (⟨l.toArray⟩ : ByteArray).extract k (k + 1) = ⟨#[l[k]]⟩ := by
  apply ByteArray.ext
  rw [ByteArray.data_extract]
  simp
  rw [List.drop_eq_getElem_cons h]
  rfl

theorem step_plain (S : List UInt8) (k : Nat) (h : k < S.length) (hm : markB (S[k].toNat : Int) = false) :
    (⟨(34 :: escL (S.take k)).toArray⟩ : ByteArray) ++ (⟨S.toArray⟩ : ByteArray).extract k (k + 1) = ⟨(34 :: escL (S.take (k + 1))).toArray⟩ := by
  rw [slice_one S k h, escL_take S k h, hm]
  exact str_app (34 :: escL (S.take k)) [S[k]]
theorem step_mark (S : List UInt8) (k : Nat) (h : k < S.length) (hm : markB (S[k].toNat : Int) = true) :
    ((⟨(34 :: escL (S.take k)).toArray⟩ : ByteArray) ++ (⟨#[92]⟩ : ByteArray)) ++ (⟨S.toArray⟩ : ByteArray).extract k (k + 1) = ⟨(34 :: escL (S.take (k + 1))).toArray⟩ := by
  rw [slice_one S k h, escL_take S k h, hm]
  have e := str_app (34 :: escL (S.take k)) [92]
  rw [show ((⟨#[92]⟩ : ByteArray)) = ⟨([92] : List UInt8).toArray⟩ from rfl, e, show ((⟨#[S[k]]⟩ : ByteArray)) = ⟨([S[k]] : List UInt8).toArray⟩ from rfl, str_app]
  simp

theorem end_nil (S : List UInt8) : (⟨(34 :: escL S).toArray⟩ : ByteArray) ++ (⟨#[34]⟩ : ByteArray) = ⟨(showL 3 S []).toArray⟩ := by
  have e := str_app (34 :: escL S) [34]
  rw [show ((⟨#[34]⟩ : ByteArray)) = ⟨([34] : List UInt8).toArray⟩ from rfl, e]
  show _ = (⟨(quoteL S ++ markL []).toArray⟩ : ByteArray)
  simp [quoteL, markL]
theorem end_cons (S : List UInt8) (c : UInt8) (r : List UInt8) : (((⟨(34 :: escL S).toArray⟩ : ByteArray) ++ (⟨#[34]⟩ : ByteArray)) ++ (⟨#[64]⟩ : ByteArray)) ++ (⟨(c :: r).toArray⟩ : ByteArray) = ⟨(showL 3 S (c :: r)).toArray⟩ := by
  rw [show ((⟨#[34]⟩ : ByteArray)) = ⟨([34] : List UInt8).toArray⟩ from rfl, show ((⟨#[64]⟩ : ByteArray)) = ⟨([64] : List UInt8).toArray⟩ from rfl, str_app, str_app, str_app]
  show _ = (⟨(quoteL S ++ markL (c :: r)).toArray⟩ : ByteArray)
  simp [quoteL, markL]

theorem RShow_plain (k : Int) (S L : List UInt8) (w : World) (hs : S.length ≤ 24) (hk : k = 1 ∨ k = 2) :
    Calls Tryz.prog 23 #[.agg #[.int .i64 k, .string ⟨S.toArray⟩, .string ⟨L.toArray⟩]] w fun e w' => e = .returned (.string ⟨(showL k S L).toArray⟩) ∧ Below w.heap.size w w' := by
  rcases hk with rfl | rfl
  · go_enter Tryz.func23, Tryz.ntmps23
    go_wp2
    go_ret
    exact ⟨rfl, balloc _ _⟩
  · go_enter Tryz.func23, Tryz.ntmps23
    go_wp2
    go_ret
    exact ⟨ret_val (congrArg Value.string (str_app2 95 S)), balloc _ _⟩

set_option maxHeartbeats 2000000 in
set_option maxRecDepth 100000 in
theorem RShow_text (S L : List UInt8) (w : World) (hs : S.length ≤ 24) (hl : L.length ≤ 2) :
    Calls Tryz.prog 23 #[.agg #[.int .i64 3, .string ⟨S.toArray⟩, .string ⟨L.toArray⟩]] w fun e w' => e = .returned (.string ⟨(showL 3 S L).toArray⟩) ∧ Below w.heap.size w w' := by
  have fin : Hid (showL 3 S L = 34 :: (escL S ++ [34]) ++ markL L) := rfl
  go_enter Tryz.func23, Tryz.ntmps23
  go_wp2
  go_loop [3, 4] (fun s i => ∃ k : Nat, k ≤ S.length ∧ i = .int .i64 k ∧ s = .string ⟨(34 :: escL (S.take k)).toArray⟩) (fun _ i => S.length - (intOf i).toNat)
  case atStart => exact ⟨0, Nat.zero_le _, rfl, rfl⟩
  case round =>
    obtain ⟨k, hk, rfl, rfl⟩ := hrel
    have hlen := escL_len (S.take k)
    have hlt2 : (S.take k).length ≤ k := List.length_take_le _ _
    by_cases hlt : k < S.length
    · have hidx : ∀ h, (⟨S.toArray⟩ : ByteArray)[k]'h = S[k] := fun _ => rfl
      have hex : (⟨S.toArray⟩ : ByteArray).size = S.length := rfl
      cases h34 : ((S[k].toNat : Int) == 34)
      · cases h92 : ((S[k].toNat : Int) == 92)
        · have hm : markB (S[k].toNat : Int) = false := by
            simp at h34 h92; simp [markB, h34, h92]
          have Hn : Hid (_ = _) := step_plain S k hlt hm
          clear hm
          go_wp2
          exact ⟨⟨k + 1, by omega, by go_num, congrArg Value.string Hn.out⟩, by simp [intOf]; omega⟩
        · have hm : markB (S[k].toNat : Int) = true := by
            simp at h92; simp [markB, h92]
          have Hn : Hid (_ = _) := step_mark S k hlt hm
          clear hm
          go_wp2
          exact ⟨⟨k + 1, by omega, by go_num, congrArg Value.string Hn.out⟩, by simp [intOf]; omega⟩
      · have hm : markB (S[k].toNat : Int) = true := by
          simp at h34; simp [markB, h34]
        have Hn : Hid (_ = _) := step_mark S k hlt hm
        clear hm
        go_wp2
        exact ⟨⟨k + 1, by omega, by go_num, congrArg Value.string Hn.out⟩, by simp [intOf]; omega⟩
    · have hk' : k = S.length := by omega
      subst hk'
      rw [List.take_length] at *
      cases L with
      | nil =>
        go_wp2
        go_ret
        exact ⟨ret_val (congrArg Value.string (end_nil S)), balloc _ _⟩
      | cons c r =>
        simp only [List.length_cons] at hl
        go_wp2
        go_ret
        exact ⟨ret_val (congrArg Value.string (end_cons S c r)), balloc _ _⟩

theorem RShow_any (k : Int) (S L : List UInt8) (w : World) (h : checkN k S L = 0) :
    Calls Tryz.prog 23 #[.agg #[.int .i64 k, .string ⟨S.toArray⟩, .string ⟨L.toArray⟩]] w fun e w' => e = .returned (.string ⟨(showL k S L).toArray⟩) ∧ Below w.heap.size w w' := by
  obtain ⟨hk, hS, hsp⟩ := check_zero h
  have hL := spell_lang hsp
  rcases hk with rfl | rfl | rfl
  · exact RShow_plain 1 S L w hS (Or.inl rfl)
  · exact RShow_plain 2 S L w hS (Or.inr rfl)
  · exact RShow_text S L w hS hL
end Go.Proofs.YtnlcfnpcjkcdmaaGreatDoor
