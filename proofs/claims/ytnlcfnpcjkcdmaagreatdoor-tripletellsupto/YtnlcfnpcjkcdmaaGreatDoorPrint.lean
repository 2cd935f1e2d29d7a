/- Print: a term as text. -/
import Derived.Test.YtnlcfnpcjkcdmaaGreatDoorQuote
import Derived.Deep.RegionWith
import Derived.BigQuiet
namespace Go.Proofs.YtnlcfnpcjkcdmaaGreatDoor
open Go Go.RowKit Go.Proofs

/-- the text of a right term -/
def showL (k : Int) (S L : List UInt8) : List UInt8 := if k = 2 then 95 :: S else if k = 3 then quoteL S ++ markL L else S
def printL (k : Int) (S L : List UInt8) : List UInt8 := if checkN k S L = 0 then showL k S L else []

theorem str_app2 (c : UInt8) (b : List UInt8) : ((⟨#[c]⟩ : ByteArray) ++ (⟨b.toArray⟩ : ByteArray)) = ⟨(c :: b).toArray⟩ := str_app [c] b

theorem Print_bad (k : Int) (S L : List UInt8) (w : World) (hs : S.length ≤ maxLen) (hl : L.length ≤ maxLen) (h : checkN k S L ≠ 0) :
    Calls Tryz.prog 44 #[.agg #[.int .i64 k, .string ⟨S.toArray⟩, .string ⟨L.toArray⟩]] w fun e w' => e = .returned (.tuple #[.string ⟨#[]⟩, errV (checkN k S L)]) ∧ Below w.heap.size w w' := by
  have he : errV (checkN k S L) = .iface 49 (.int .i64 (checkN k S L)) := by simp [errV, h]
  rw [he]
  have He : Hid (errV (checkN k S L) = .iface 49 (.int .i64 (checkN k S L))) := he
  clear he
  go_enter Tryz.func44, Tryz.ntmps44
  go_wp2_with fail
  refine (Check_any k S L _ hs hl).mono ?_
  rintro e w1 ⟨rfl, hb1⟩
  rw [He.out]
  go_wp2_with fail
  go_ret2
  exact ⟨rfl, bstep (balloc _ _) hb1⟩

set_option maxHeartbeats 2000000 in
theorem Print_text (S L : List UInt8) (w : World) (hS : S.length ≤ 24) (hL : L.length ≤ 2) (He : Hid (errV (checkN 3 S L) = .nilIface)) :
    Calls Tryz.prog 44 #[.agg #[.int .i64 3, .string ⟨S.toArray⟩, .string ⟨L.toArray⟩]] w fun e w' => e = .returned (.tuple #[.string ⟨(showL 3 S L).toArray⟩, .nilIface]) ∧ Below w.heap.size w w' := by
  have hs : S.length ≤ maxLen := by unfold maxLen; omega
  have hl : L.length ≤ maxLen := by unfold maxLen; omega
  have fin : Hid (showL 3 S L = quoteL S ++ markL L) := rfl
  go_enter Tryz.func44, Tryz.ntmps44
  go_wp2_with fail
  refine (Check_any 3 S L _ hs hl).mono ?_
  rintro e w1 ⟨rfl, hb1⟩
  obtain ⟨hc1, hf1⟩ := bcell hb1
  have hz : w.heap.size < w1.heap.size := by have := hb1.size; simp at this; omega
  rw [He.out]
  go_wp2_with fail
  have hcS : w1.cell? ⟨w.heap.size, 1, none⟩ = some (.string ⟨S.toArray⟩) := by rw [hc1 _ _ (by simp)]; simp
  have hcL : w1.cell? ⟨w.heap.size, 2, none⟩ = some (.string ⟨L.toArray⟩) := by rw [hc1 _ _ (by simp)]; simp
  clear hc1 hf1
  have hq := quoteL_len S
  have hm := markL_len L
  go_region_with (first
    | (go_at_call 63; refine (quote_any S _ (by omega)).mono ?_; rintro e w2 ⟨rfl, hb2⟩
       have hcS2 : w2.cell? ⟨w.heap.size, 1, none⟩ = some (.string ⟨S.toArray⟩) := (hb2.cell (p := ⟨w.heap.size, 1, none⟩) hz).trans hcS
       have hcL2 : w2.cell? ⟨w.heap.size, 2, none⟩ = some (.string ⟨L.toArray⟩) := (hb2.cell (p := ⟨w.heap.size, 2, none⟩) hz).trans hcL)
    | (go_at_call 64; refine (langMark_any L _ (by omega)).mono ?_; rintro e w3 ⟨rfl, rfl⟩))
  all_goals
    go_wp2
    go_ret2
    exact ⟨ret_two (by rw [fin.out, ← str_app]; rfl) rfl, bstep (bstep (balloc _ _) hb1) (bdrew hb2)⟩

theorem Print_good (k : Int) (S L : List UInt8) (w : World) (h : checkN k S L = 0) :
    Calls Tryz.prog 44 #[.agg #[.int .i64 k, .string ⟨S.toArray⟩, .string ⟨L.toArray⟩]] w fun e w' => e = .returned (.tuple #[.string ⟨(showL k S L).toArray⟩, .nilIface]) ∧ Below w.heap.size w w' := by
  obtain ⟨hk, hS, hsp⟩ := check_zero h
  have hL := spell_lang hsp
  have hs : S.length ≤ maxLen := by unfold maxLen; omega
  have hl : L.length ≤ maxLen := by unfold maxLen; omega
  have He : Hid (errV (checkN k S L) = .nilIface) := by show _ = _; rw [h]; rfl
  clear h hsp
  rcases hk with rfl | rfl | rfl
  · have fin : Hid (showL 1 S L = S) := rfl
    go_enter Tryz.func44, Tryz.ntmps44
    go_wp2_with fail
    refine (Check_any 1 S L _ hs hl).mono ?_
    rintro e w1 ⟨rfl, hb1⟩
    obtain ⟨hc1, hf1⟩ := bcell hb1
    rw [He.out]
    go_wp2_with fail
    refine (Clone_any S _ (by omega)).mono ?_
    rintro e w2 ⟨rfl, hb2⟩
    go_wp2_with fail
    go_ret2
    exact ⟨ret_two (by rw [fin.out]; rfl) rfl, bstep (bstep (balloc _ _) hb1) hb2⟩
  · have fin : Hid (showL 2 S L = 95 :: S) := rfl
    go_enter Tryz.func44, Tryz.ntmps44
    go_wp2_with fail
    refine (Check_any 2 S L _ hs hl).mono ?_
    rintro e w1 ⟨rfl, hb1⟩
    obtain ⟨hc1, hf1⟩ := bcell hb1
    rw [He.out]
    go_wp2_with fail
    go_ret2
    exact ⟨ret_two (by rw [fin.out, ← str_app2 95 S]; rfl) rfl, bstep (balloc _ _) hb1⟩
  · exact Print_text S L w hS hL He

theorem Print_any (k : Int) (S L : List UInt8) (w : World) (hs : S.length ≤ maxLen) (hl : L.length ≤ maxLen) :
    Calls Tryz.prog 44 #[.agg #[.int .i64 k, .string ⟨S.toArray⟩, .string ⟨L.toArray⟩]] w fun e w' => e = .returned (.tuple #[.string ⟨(printL k S L).toArray⟩, errV (checkN k S L)]) ∧ Below w.heap.size w w' := by
  by_cases h : checkN k S L = 0
  · refine (Print_good k S L w h).mono ?_
    rintro e w' ⟨rfl, hb⟩
    exact ⟨by rw [show printL k S L = showL k S L from if_pos h, h]; rfl, hb⟩
  · refine (Print_bad k S L w hs hl h).mono ?_
    rintro e w' ⟨rfl, hb⟩
    exact ⟨by rw [show printL k S L = [] from if_neg h], hb⟩
end Go.Proofs.YtnlcfnpcjkcdmaaGreatDoor
