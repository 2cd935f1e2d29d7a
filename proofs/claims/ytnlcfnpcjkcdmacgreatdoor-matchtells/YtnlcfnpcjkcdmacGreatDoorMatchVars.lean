/- match.isFree, spelled, slotFault, slotsOf, and slices.Contains at texts: what they tell. -/
import Derived.Test.YtnlcfnpcjkcdmacGreatDoorMatchPlain
import Derived.Test.YtnlcfnpcjkcdmacGreatDoorTripleEq
import Derived.Test.YtnlcfnpcjkcdmacGreatDoorShelf
namespace Go.Proofs.YtnlcfnpcjkcdmacGreatDoor
open Go Go.RowKit Go.Proofs
set_option synthInstance.maxSize 1000

attribute [local go_sem] eql_errV neq_errV guard_errV

def valTermM (x : Tm) : Value := .agg #[.int .i64 x.1, .string ⟨x.2.1.toArray⟩, .string ⟨x.2.2.toArray⟩]
def valSl (s : Sl) : Value := .agg #[.string ⟨s.1.toArray⟩, .int .i64 s.2.1, .string ⟨s.2.2.1.toArray⟩, .string ⟨s.2.2.2.toArray⟩]
def encPt (p : Pt) : List Value := [.string ⟨p.1.1.toArray⟩, .int .i64 p.1.2.1, .string ⟨p.1.2.2.1.toArray⟩, .string ⟨p.1.2.2.2.toArray⟩, .string ⟨p.2.1.1.toArray⟩, .int .i64 p.2.1.2.1, .string ⟨p.2.1.2.2.1.toArray⟩, .string ⟨p.2.1.2.2.2.toArray⟩, .string ⟨p.2.2.1.toArray⟩, .int .i64 p.2.2.2.1, .string ⟨p.2.2.2.2.1.toArray⟩, .string ⟨p.2.2.2.2.2.toArray⟩]
def valPt (p : Pt) : Value := .agg #[.string ⟨p.1.1.toArray⟩, .int .i64 p.1.2.1, .string ⟨p.1.2.2.1.toArray⟩, .string ⟨p.1.2.2.2.toArray⟩, .string ⟨p.2.1.1.toArray⟩, .int .i64 p.2.1.2.1, .string ⟨p.2.1.2.2.1.toArray⟩, .string ⟨p.2.1.2.2.2.toArray⟩, .string ⟨p.2.2.1.toArray⟩, .int .i64 p.2.2.2.1, .string ⟨p.2.2.2.2.1.toArray⟩, .string ⟨p.2.2.2.2.2.toArray⟩]
def fitSl (s : Sl) : Prop := s.1.length ≤ maxLen ∧ s.2.2.1.length ≤ maxLen ∧ s.2.2.2.length ≤ maxLen
def fitPt (p : Pt) : Prop := fitSl p.1 ∧ fitSl p.2.1 ∧ fitSl p.2.2

theorem eqlTerm (k : Int) (S L : List UInt8) (k' : Int) (S' L' : List UInt8) (w : World) : (binOp .eql 24 (.agg #[.int .i64 k, .string ⟨S.toArray⟩, .string ⟨L.toArray⟩]) (.agg #[.int .i64 k', .string ⟨S'.toArray⟩, .string ⟨L'.toArray⟩])).run Tryz.prog w = .ok (.bool (eqTB k S L k' S' L')) w := by
  rw [run_eql_struct, equalTerm]; rfl
theorem neqTerm (k : Int) (S L : List UInt8) (k' : Int) (S' L' : List UInt8) (w : World) : (binOp .neq 24 (.agg #[.int .i64 k, .string ⟨S.toArray⟩, .string ⟨L.toArray⟩]) (.agg #[.int .i64 k', .string ⟨S'.toArray⟩, .string ⟨L'.toArray⟩])).run Tryz.prog w = .ok (.bool (!eqTB k S L k' S' L')) w := by
  rw [run_neq_struct, equalTerm]; rfl
theorem neqTermZ (k : Int) (S L : List UInt8) (w : World) : (binOp .neq 24 (.agg #[.int .i64 k, .string ⟨S.toArray⟩, .string ⟨L.toArray⟩]) (.agg #[.int .i64 0, .string ⟨#[]⟩, .string ⟨#[]⟩])).run Tryz.prog w = .ok (.bool (!eqTB k S L 0 [] [])) w := neqTerm k S L 0 [] [] w
theorem eqTB_tm (x y : Tm) : eqTB x.1 x.2.1 x.2.2 y.1 y.2.1 y.2.2 = decide (x = y) := by
  obtain ⟨k, s, l⟩ := x
  obtain ⟨k', s', l'⟩ := y
  rw [Bool.eq_iff_iff, eqTB_iff]
  simp

theorem isVar_any (v : List UInt8) (k : Int) (S L : List UInt8) (w : World) :
    Calls Tryz.prog 34 #[.agg #[.string ⟨v.toArray⟩, .int .i64 k, .string ⟨S.toArray⟩, .string ⟨L.toArray⟩]] w fun e w' => e = .returned (.bool (!v.isEmpty)) ∧ Below w.heap.size w w' := by
  cases v
  all_goals
    go_enter Tryz.func34, Tryz.ntmps34
    go_wp2
    go_ret
    exact ⟨rfl, balloc _ _⟩

theorem offR_any (x : Nat) (w : World) : Calls Tryz.prog 90 #[.int .i32 x] w fun e w' => e = .returned (.bool (offR x)) ∧ ∃ q, w' = w.drewN q := by
  have fin : Hid (offR x = (decide (x < 97) || decide (122 < x))) := rfl
  by_cases h : x < 97
  · have h' : decide ((x : Int) < 97) = true := by simp; omega
    go_enter Tryz.func90, Tryz.ntmps90
    go_wp2
    go_ret
    exact ⟨ret_bool (by rw [fin.out]; simp [h]), 0, rfl⟩
  · have h' : decide ((x : Int) < 97) = false := by simp; omega
    go_enter Tryz.func90, Tryz.ntmps90
    go_wp2
    go_ret
    exact ⟨ret_bool (by rw [fin.out]; simp [h]; omega), 0, rfl⟩

theorem enters90 : ∀ args w, (callFunc 90 args).run Tryz.prog w = .ok (.enter 90 args) w := enters_of Tryz.func90 (by kernel_rfl) rfl

set_option maxHeartbeats 1000000 in
theorem IsVar_any (v : List UInt8) (w : World) (hv : v.length ≤ maxLen) :
    Calls Tryz.prog 61 #[.string ⟨v.toArray⟩] w fun e w' => e = .returned (.bool (!v.isEmpty && spellV v)) ∧ Below w.heap.size w w' := by
  have H := fun W => Tryz.strings_ContainsFunc 90 #[] enters90 offR ⟨v.toArray⟩ W (fun W' x _ => offR_any x W')
  have e : decide (0 ≤ Lib.idxFunc offR true ⟨v.toArray⟩) = !allB letB v := offAny ⟨v.toArray⟩
  rw [e] at H
  cases v with
  | nil =>
    clear e H
    go_enter Tryz.func61, Tryz.ntmps61
    go_wp2
    go_ret
    exact ⟨rfl, Below.refl _ _⟩
  | cons c r =>
    have fin : Hid (spellV (c :: r) = (decide (r.length + 1 ≤ 10) && allB letB (c :: r))) := rfl
    generalize allB letB (c :: r) = d at *
    clear e
    unfold maxLen at hv
    have hv' : r.length + 1 ≤ 9223372036854775807 := hv
    by_cases h : r.length + 1 ≤ 10
    · have h' : decide ((r.length : Int) + 1 ≤ 10) = true := by simp; omega
      go_enter Tryz.func61, Tryz.ntmps61
      go_wp2_with (go_at_call 89; refine (H _).mono ?_; rintro e w' ⟨rfl, hb⟩)
      go_ret
      exact ⟨ret_bool (by rw [fin.out]; simp [h]), by assumption⟩
    · have h' : decide ((r.length : Int) + 1 ≤ 10) = false := by simp; omega
      clear H
      go_enter Tryz.func61, Tryz.ntmps61
      go_wp2
      go_ret
      exact ⟨ret_bool (by rw [fin.out]; simp [h]), Below.refl _ _⟩

theorem spelledV_any (v : List UInt8) (w : World) (hv : v.length ≤ maxLen) (hne : v ≠ []) :
    Calls Tryz.prog 61 #[.string ⟨v.toArray⟩] w fun e w' => e = .returned (.bool (spellV v)) ∧ Below w.heap.size w w' := by
  have := IsVar_any v w hv
  rw [show (!v.isEmpty) = true by cases v with | nil => exact absurd rfl hne | cons c r => rfl, Bool.true_and] at this
  exact this
end Go.Proofs.YtnlcfnpcjkcdmacGreatDoor
