/- stratalaw1.CodeBack: what is read of what was written. -/
import Derived.Test.YtonmmnhikjfibadGreatDoorCodeReadL
import Derived.Test.YtonmmnhikjfibadGreatDoorCodeOps
namespace Go.Proofs.YtonmmnhikjfibadGreatDoor
open Go Go.RowKit Go.Proofs
set_option synthInstance.maxSize 1000

theorem back_term {x : Tm} (h : okTm x = 0) : readTermN (encT x) = 0 ∧ readTermX (encT x) = x := by
  have e := termS_good h []
  rw [List.append_nil] at e
  have h1 : readTermN (encT x) = 0 := by unfold readTermN; rw [e]; rfl
  refine ⟨h1, ?_⟩
  unfold readTermX
  rw [if_pos h1, e]
theorem back_set {l : List Tr} (h : IsSet l) : readSetN (encS l) = 0 ∧ readSetL (encS l) = l := by
  have e := setS_good l h.1 (okTr_set h) []
  rw [List.append_nil] at e
  have h1 : readSetN (encS l) = 0 := by
    unfold readSetN
    rw [e, sortedN_set.2 h]
    rfl
  refine ⟨h1, ?_⟩
  unfold readSetL
  rw [if_pos h1, e]
theorem lay_reads {a d : List Tr} (ha : IsSet a) (hd : IsSet d) (r : List UInt8) : setS (0, encS a ++ encS d ++ r) = (a, (0, encS d ++ r)) ∧ setS (0, encS d ++ r) = (d, (0, r)) := by
  rw [List.append_assoc]
  exact ⟨setS_good a ha.1 (okTr_set ha) _, setS_good d hd.1 (okTr_set hd) _⟩
theorem back_layer {a d : List Tr} (h : apartN a d = 0) : readLayN (encS a ++ encS d) = 0 ∧ readLayA (encS a ++ encS d) = a ∧ readLayD (encS a ++ encS d) = d := by
  obtain ⟨ha, hd⟩ := apart_sets h
  obtain ⟨e1, e2⟩ := lay_reads ha hd []
  rw [List.append_nil] at e1 e2
  rw [List.append_nil] at e1
  have h1 : readLayN (encS a ++ encS d) = 0 := by
    unfold readLayN
    rw [e1]
    dsimp only
    rw [e2]
    dsimp only
    rw [h]
    rfl
  refine ⟨h1, ?_, ?_⟩
  · unfold readLayA
    rw [if_pos h1, e1]
  · unfold readLayD
    rw [if_pos h1, e1]
    dsimp only
    rw [e2]
theorem more_layer {a d : List Tr} (h : apartN a d = 0) {r : List UInt8} (hr : r ≠ []) : readLayN (encS a ++ encS d ++ r) = 2 := by
  obtain ⟨ha, hd⟩ := apart_sets h
  obtain ⟨e1, e2⟩ := lay_reads ha hd r
  unfold readLayN
  rw [e1]
  dsimp only
  rw [e2]
  dsimp only
  rw [h, wholeN_good, if_neg hr]
theorem cut_layer {a d : List Tr} (h : apartN a d = 0) {n : Nat} (hn : n < (encS a ++ encS d).length) : readLayN ((encS a ++ encS d).take n) = 8 := by
  obtain ⟨ha, hd⟩ := apart_sets h
  have key : (setS (setS (0, (encS a ++ encS d).take n)).2).2.1 = 8 := by
    by_cases h1 : n < (encS a).length
    · rw [List.take_append_of_le_length (by omega)]
      have e := setS_short a ha.1 (okTr_set ha) h1
      rw [setS_keep (by rw [e]; decide), e]
    · obtain ⟨m, rfl⟩ : ∃ m, n = (encS a).length + m := ⟨n - (encS a).length, by omega⟩
      rw [List.take_length_add_append, setS_good a ha.1 (okTr_set ha)]
      refine setS_short d hd.1 (okTr_set hd) ?_
      rw [List.length_append] at hn
      omega
  unfold readLayN
  rw [wholeN_keep (by rw [key]; decide), key]
theorem any_set {b : List UInt8} (h : readSetN b = 0) : IsSet (readSetL b) ∧ encS (readSetL b) = b := by
  have h' := h
  unfold readSetN at h'
  obtain ⟨h1, h2⟩ := wholeN_zero h'
  have h3 : (setS (0, b)).2.1 = 0 := by rw [h2]
  obtain ⟨e, -, -⟩ := setS_ok h3
  have e2 : b = encS (setS (0, b)).1 ++ (setS (0, b)).2.2 := congrArg Prod.snd e
  rw [h2, List.append_nil] at e2
  unfold readSetL
  rw [if_pos h]
  exact ⟨sortedN_set.1 h1, e2.symm⟩
theorem appX (a b : List UInt8) : (⟨a.toArray⟩ : ByteArray) ++ (⟨b.toArray⟩ : ByteArray) = ⟨(a ++ b).toArray⟩ := by
  apply ByteArray.ext
  rw [ByteArray.data_append]
  simp
end Go.Proofs.YtonmmnhikjfibadGreatDoor
