/- isKind, tooLong, spelled, Check: what is wrong with a term. A term is boxed by each call: nothing old turns ('Below'). -/
import Derived.Test.YtackdedbphfaeaeDoorEvery
namespace Go.Proofs.YtackdedbphfaeaeDoor
open Go Go.RowKit Go.Proofs

def kindB (k : Int) : Bool := decide (k = 1 ∨ k = 2 ∨ k = 3)
def longB (S : List UInt8) : Bool := decide (24 < S.length)
def spellB (k : Int) (S L : List UInt8) : Bool :=
  if k = 1 then L.isEmpty && nameOk S else if k = 2 then L.isEmpty && anonOk S else if k = 3 then (L.isEmpty || langOk L) && textOk S else false
/-- the number of the error that Check tells: 0 for none -/
def checkN (k : Int) (S L : List UInt8) : Int := if kindB k = false then 1 else if longB S = true then 4 else if spellB k S L = false then 2 else 0
/-- an error as a value -/
def errV (n : Int) : Value := if n = 0 then .nilIface else .iface 74 (.int .i64 n)

/-- behind a call that turned nothing old: every old cell and every old mark reads as it did -/
theorem bcell {W w1 : World} (hb : Below W.heap.size W w1) : (∀ b o, b < W.heap.size → w1.cell? ⟨b, o, none⟩ = W.cell? ⟨b, o, none⟩) ∧ (∀ b o, b < W.heap.size → w1.frozen? ⟨b, o, none⟩ = W.frozen? ⟨b, o, none⟩) :=
  ⟨fun b o h => hb.cell (p := ⟨b, o, none⟩) h, fun b o h => hb.frozen (p := ⟨b, o, none⟩) h⟩

/-- one call behind another: nothing that was there at the first has turned -/
theorem bstep {w W w1 : World} (h : Below w.heap.size w W) (hb : Below W.heap.size W w1) : Below w.heap.size w w1 := h.trans (hb.mono h.size)
theorem balloc (w : World) (o : Obj) : Below w.heap.size w (w.alloc o) := (Below.refl _ _).alloc (Nat.le_refl _) _

theorem ret_val {a b : Value} (h : a = b) : Ending.returned a = .returned b := by rw [h]

theorem ret_two {a b c d : Value} (h : a = c) (h' : b = d) : Ending.returned (.tuple #[a, b]) = .returned (.tuple #[c, d]) := by rw [h, h']

theorem bdrew {w w1 : World} (h : Below w.drew.heap.size w.drew w1) : Below w.heap.size w w1 := ⟨h.os, h.tape, h.output, h.size, h.block⟩

theorem check_zero {k : Int} {S L : List UInt8} (h : checkN k S L = 0) : (k = 1 ∨ k = 2 ∨ k = 3) ∧ S.length ≤ 24 ∧ spellB k S L = true := by
  unfold checkN at h
  cases hk : kindB k
  · simp [hk] at h
  cases hlong : longB S
  · cases hsp : spellB k S L
    · simp [hk, hlong, hsp] at h
    · refine ⟨by simpa [kindB] using hk, ?_, rfl⟩
      simp [longB] at hlong
      exact hlong
  · simp [hk, hlong] at h

theorem spell_lang {k : Int} {S L : List UInt8} (h : spellB k S L = true) : L.length ≤ 2 := by
  unfold spellB at h
  cases L with
  | nil => simp
  | cons c r =>
    by_cases h3 : k = 3
    · simp [h3, langOk] at h
      simp only [List.length_cons]
      omega
    · by_cases h1 : k = 1
      · simp [h1] at h
      · by_cases h2 : k = 2
        · simp [h2] at h
        · simp [h1, h2, h3] at h

end Go.Proofs.YtackdedbphfaeaeDoor
