/- '==' on two terms; which of two is ahead, in numbers. -/
import Derived.Test.YtnlcfnpcjkcdmacGreatDoorOrder
import Derived.Test.YtnlcfnpcjkcdmacGreatDoorErrEq
import Derived.Laws.StructEq
namespace Go.Proofs.YtnlcfnpcjkcdmacGreatDoor
open Go Go.RowKit Go.Proofs

def eqTB (k : Int) (S L : List UInt8) (k' : Int) (S' L' : List UInt8) : Bool := k == k' && (S == S' && L == L')

theorem eqTB_iff (k : Int) (S L : List UInt8) (k' : Int) (S' L' : List UInt8) : eqTB k S L k' S' L' = true ↔ k = k' ∧ S = S' ∧ L = L' := by simp [eqTB]

theorem toList_mk (l : List UInt8) : (⟨l.toArray⟩ : ByteArray).toList = l := by rw [ByteArray.toList_eq]

theorem equalTerm (k : Int) (S L : List UInt8) (k' : Int) (S' L' : List UInt8) (w : World) :
    (Op.equalIn 10000 24 (.agg #[.int .i64 k, .string ⟨S.toArray⟩, .string ⟨L.toArray⟩]) (.agg #[.int .i64 k', .string ⟨S'.toArray⟩, .string ⟨L'.toArray⟩])).run Tryz.prog w = .ok (eqTB k S L k' S' L') w := by
  have hS : Tryz.prog.underlying 24 = some (.struct (Tryz.prog.fieldsOf 24)) := by kernel_rfl
  rw [show (10000 : Nat) = 9999 + 1 from rfl, run_equalIn_agg w 9999 24 _ _ hS (by kernel_rfl)]
  simp only [Program.fieldsOf, Tryz.underlying24]
  go_simp
  unfold eqTB
  by_cases h1 : k = k' <;> by_cases h2 : S = S' <;> by_cases h3 : L = L' <;> simp [h1, h2, h3]

theorem cb_range (a : List UInt8) : ∀ b, -1 ≤ Lib.compareBytes a b ∧ Lib.compareBytes a b ≤ 1 := by
  induction a with
  | nil => intro b; cases b <;> simp [Lib.compareBytes]
  | cons x xs ih =>
    intro b
    cases b with
    | nil => simp [Lib.compareBytes]
    | cons y ys =>
      by_cases h1 : x < y
      · simp [Lib.compareBytes, h1]
      · by_cases h2 : y < x
        · simp [Lib.compareBytes, h1, h2]
        · simp only [Lib.compareBytes, h1, h2, if_false]; exact ih ys
theorem ci_range (a b : Int) : -1 ≤ Lib.compareInt a b ∧ Lib.compareInt a b ≤ 1 := by
  unfold Lib.compareInt
  repeat' split
  all_goals omega
theorem cmpT_range (k : Int) (S L : List UInt8) (k' : Int) (S' L' : List UInt8) : -1 ≤ cmpT k S L k' S' L' ∧ cmpT k S L k' S' L' ≤ 1 := by
  have h1 := ci_range k k'
  have h2 := cb_range S S'
  have h3 := cb_range L L'
  unfold cmpT orI
  repeat' split
  all_goals omega
theorem cmp_eq (k : Int) (S L : List UInt8) (k' : Int) (S' L' : List UInt8) : (cmpT k S L k' S' L' == 0) = eqTB k S L k' S' L' := by
  rw [Bool.eq_iff_iff, eqTB_iff, beq_iff_eq, cmpT_zero]
theorem cmp_neg_beq (k : Int) (S L : List UInt8) (k' : Int) (S' L' : List UInt8) : (cmpT k S L k' S' L' == - cmpT k' S' L' k S L) = true := by
  rw [beq_iff_eq]; exact cmpT_neg k S L k' S' L'
theorem cmp_tri (k1 : Int) (S1 L1 : List UInt8) (k2 : Int) (S2 L2 : List UInt8) (k3 : Int) (S3 L3 : List UInt8) :
    (0 < cmpT k1 S1 L1 k2 S2 L2) ∨ (¬ 0 < cmpT k1 S1 L1 k2 S2 L2 ∧ 0 < cmpT k2 S2 L2 k3 S3 L3) ∨ (¬ 0 < cmpT k1 S1 L1 k2 S2 L2 ∧ ¬ 0 < cmpT k2 S2 L2 k3 S3 L3 ∧ cmpT k1 S1 L1 k3 S3 L3 ≤ 0) := by
  have := cmpT_trans k1 S1 L1 k2 S2 L2 k3 S3 L3
  omega

end Go.Proofs.YtnlcfnpcjkcdmacGreatDoor
