/- Terms are in one order: plain lists, no program. -/
import Derived.Test.YtnlcfnpcjkcdmacGreatDoorCompare
namespace Go.Proofs.YtnlcfnpcjkcdmacGreatDoor
open Go Go.RowKit Go.Proofs

/-! ### one order -/
theorem cb_zero (a : List UInt8) : ∀ b, Lib.compareBytes a b = 0 ↔ a = b := by
  induction a with
  | nil => intro b; cases b <;> simp [Lib.compareBytes]
  | cons x xs ih =>
    intro b
    cases b with
    | nil => simp [Lib.compareBytes]
    | cons y ys =>
      by_cases h1 : x < y
      · simp [Lib.compareBytes, h1]; intro h; subst h; exact absurd h1 (by simp)
      · by_cases h2 : y < x
        · simp [Lib.compareBytes, h1, h2]; intro h; subst h; exact absurd h2 (by simp)
        · have : x = y := UInt8.le_antisymm (UInt8.not_lt.1 h2) (UInt8.not_lt.1 h1)
          subst this
          simp [Lib.compareBytes, ih]

theorem cb_neg (a : List UInt8) : ∀ b, Lib.compareBytes b a = - Lib.compareBytes a b := by
  induction a with
  | nil => intro b; cases b <;> simp [Lib.compareBytes]
  | cons x xs ih =>
    intro b
    cases b with
    | nil => simp [Lib.compareBytes]
    | cons y ys =>
      by_cases h1 : x < y
      · have h3 : ¬ y < x := fun h => by have := UInt8.lt_iff_toNat_lt.1 h; have := UInt8.lt_iff_toNat_lt.1 h1; omega
        simp [Lib.compareBytes, h1, h3]
      · by_cases h2 : y < x
        · simp [Lib.compareBytes, h1, h2]
        · simp [Lib.compareBytes, h1, h2, ih]

theorem cb_trans (a : List UInt8) : ∀ b c, Lib.compareBytes a b ≤ 0 → Lib.compareBytes b c ≤ 0 → Lib.compareBytes a c ≤ 0 := by
  induction a with
  | nil => intro b c _ _; cases c <;> simp [Lib.compareBytes]
  | cons x xs ih =>
    intro b c h1 h2
    cases b with
    | nil => simp [Lib.compareBytes] at h1
    | cons y ys =>
      cases c with
      | nil => simp [Lib.compareBytes] at h2
      | cons z zs =>
        by_cases a1 : x < y
        · by_cases a2 : y < z
          · have : x < z := UInt8.lt_iff_toNat_lt.2 (by have := UInt8.lt_iff_toNat_lt.1 a1; have := UInt8.lt_iff_toNat_lt.1 a2; omega)
            simp [Lib.compareBytes, this]
          · by_cases a3 : z < y
            · simp [Lib.compareBytes, a2, a3] at h2
            · have : y = z := UInt8.le_antisymm (UInt8.not_lt.1 a3) (UInt8.not_lt.1 a2)
              subst this
              simp [Lib.compareBytes, a1]
        · by_cases a0 : y < x
          · simp [Lib.compareBytes, a1, a0] at h1
          · have : x = y := UInt8.le_antisymm (UInt8.not_lt.1 a0) (UInt8.not_lt.1 a1)
            subst this
            by_cases a2 : x < z
            · simp [Lib.compareBytes, a2]
            · by_cases a3 : z < x
              · simp [Lib.compareBytes, a2, a3] at h2
              · simp only [Lib.compareBytes, a1, a2, a3, if_false] at h1 h2 ⊢
                exact ih ys zs h1 h2

theorem ci_zero (a b : Int) : Lib.compareInt a b = 0 ↔ a = b := by
  unfold Lib.compareInt; split
  · omega
  · split <;> omega
theorem ci_neg (a b : Int) : Lib.compareInt b a = - Lib.compareInt a b := by
  unfold Lib.compareInt
  repeat' split
  all_goals omega
theorem ci_trans (a b c : Int) (h1 : Lib.compareInt a b ≤ 0) (h2 : Lib.compareInt b c ≤ 0) : Lib.compareInt a c ≤ 0 := by
  unfold Lib.compareInt at *
  repeat' split
  all_goals (repeat' split at h1)
  all_goals (repeat' split at h2)
  all_goals omega

theorem cmpT_zero (k : Int) (S L : List UInt8) (k' : Int) (S' L' : List UInt8) : cmpT k S L k' S' L' = 0 ↔ k = k' ∧ S = S' ∧ L = L' := by
  have h1 := ci_zero k k'
  have h2 := cb_zero S S'
  have h3 := cb_zero L L'
  unfold cmpT orI
  by_cases q1 : Lib.compareInt k k' = 0
  · rw [if_pos q1]
    by_cases q2 : Lib.compareBytes S S' = 0
    · rw [if_pos q2]
      exact ⟨fun h => ⟨h1.1 q1, h2.1 q2, h3.1 h⟩, fun h => h3.2 h.2.2⟩
    · rw [if_neg q2]
      exact ⟨fun h => absurd h q2, fun h => absurd (h2.2 h.2.1) q2⟩
  · rw [if_neg q1]
    exact ⟨fun h => absurd h q1, fun h => absurd (h1.2 h.1) q1⟩

theorem cmpT_neg (k : Int) (S L : List UInt8) (k' : Int) (S' L' : List UInt8) : cmpT k S L k' S' L' = - cmpT k' S' L' k S L := by
  unfold cmpT orI
  rw [ci_neg k k', cb_neg S S', cb_neg L L']
  repeat' split
  all_goals omega

theorem orI_le (x y z : Int) : orI x y z ≤ 0 ↔ x < 0 ∨ (x = 0 ∧ (y < 0 ∨ (y = 0 ∧ z ≤ 0))) := by
  unfold orI
  by_cases h : x = 0
  · by_cases h' : y = 0
    · simp [h, h']
    · rw [if_pos h, if_neg h']; omega
  · rw [if_neg h]; omega

theorem cmpT_trans (k1 : Int) (S1 L1 : List UInt8) (k2 : Int) (S2 L2 : List UInt8) (k3 : Int) (S3 L3 : List UInt8)
    (h12 : cmpT k1 S1 L1 k2 S2 L2 ≤ 0) (h23 : cmpT k2 S2 L2 k3 S3 L3 ≤ 0) : cmpT k1 S1 L1 k3 S3 L3 ≤ 0 := by
  have a1 := ci_trans k1 k2 k3
  have a2 := cb_trans S1 S2 S3
  have a3 := cb_trans L1 L2 L3
  have b1 : Lib.compareInt k1 k3 = 0 → Lib.compareInt k2 k3 = - Lib.compareInt k1 k2 := fun h => by
    have := (ci_zero _ _).1 h; subst this; exact ci_neg _ _
  have b2 : Lib.compareBytes S1 S3 = 0 → Lib.compareBytes S2 S3 = - Lib.compareBytes S1 S2 := fun h => by
    have := (cb_zero _ _).1 h; subst this; exact cb_neg _ _
  have c1 : Lib.compareInt k1 k2 = 0 → Lib.compareInt k1 k3 = Lib.compareInt k2 k3 := fun h => by
    have := (ci_zero _ _).1 h; subst this; rfl
  have c2 : Lib.compareBytes S1 S2 = 0 → Lib.compareBytes S1 S3 = Lib.compareBytes S2 S3 := fun h => by
    have := (cb_zero _ _).1 h; subst this; rfl
  unfold cmpT at *
  rw [orI_le] at *
  generalize Lib.compareInt k1 k2 = x12 at *
  generalize Lib.compareInt k2 k3 = x23 at *
  generalize Lib.compareInt k1 k3 = x13 at *
  generalize Lib.compareBytes S1 S2 = y12 at *
  generalize Lib.compareBytes S2 S3 = y23 at *
  generalize Lib.compareBytes S1 S3 = y13 at *
  generalize Lib.compareBytes L1 L2 = z12 at *
  generalize Lib.compareBytes L2 L3 = z23 at *
  generalize Lib.compareBytes L1 L3 = z13 at *
  omega
end Go.Proofs.YtnlcfnpcjkcdmacGreatDoor
