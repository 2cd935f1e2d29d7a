/- A store's face: what the laws ask of the program's store, whatever it is made of. -/
import Derived.Test.YtpdieckoemfebaeDoorStorePlain
namespace Go.Proofs.YtpdieckoemfebaeDoor
open Go Go.RowKit Go.Proofs
set_option synthInstance.maxSize 1000

def getE (L : List Ob) (id : Int) : Int := if (getO L id).isSome = true then 0 else 5
def getB (L : List Ob) (id : Int) : List UInt8 := (getO L id).getD []
def findE (L : List Ob) (b : List UInt8) : Int := if findO L b = 0 then 5 else 0
def idsO (L : List Ob) : List Int := L.map fun x => (x.1 : Int)

/-- the program's store: where it lies, which blocks it owns, and what its calls answer; texts of up to 'lim' bytes -/
structure Face where
  lim : Nat
  At : World → Nat → (Nat → Prop) → Nat → List Ob → Prop
  own : ∀ {w : World} {s : Nat} {O : Nat → Prop} {n : Nat} {L : List Ob}, At w s O n L → ∀ j, O j → j < w.heap.size
  keep : ∀ {w w' : World} {s : Nat} {O : Nat → Prop} {n : Nat} {L : List Ob}, At w s O n L → (∀ j, O j → w'.heap[j]? = w.heap[j]?) → At w' s O n L
  new : ∀ w : World, Calls Tryd.prog 5 #[] w fun e w' => ∃ (s : Nat) (O : Nat → Prop), e = .returned (.pointer (some ⟨s, 0, none⟩)) ∧ At w' s O 0 [] ∧ RowKit.Below w.heap.size w w' ∧ ∀ j, O j → w.heap.size ≤ j
  put : ∀ (w : World) (s : Nat) (O : Nat → Prop) (n : Nat) (L : List Ob) (b : List UInt8), At w s O n L → GoodO n L → n ≤ 1000000 → b.length ≤ lim →
    Calls Tryd.prog 7 #[.pointer (some ⟨s, 0, none⟩), .string ⟨b.toArray⟩] w fun e w' => e = .returned (.tuple #[.int .i64 (putI n L b : Int), errV (putE L b)]) ∧ ∃ O' : Nat → Prop, At w' s O' (putM n L b) (putL n L b) ∧ Offs O w w' ∧ ∀ j, O' j → O j ∨ w.heap.size ≤ j
  get : ∀ (w : World) (s : Nat) (O : Nat → Prop) (n : Nat) (L : List Ob) (id : Int), At w s O n L → GoodO n L →
    Calls Tryd.prog 14 #[.pointer (some ⟨s, 0, none⟩), .int .i64 id] w fun e w' => e = .returned (.tuple #[.string ⟨(getB L id).toArray⟩, errV (getE L id)]) ∧ RowKit.Below w.heap.size w w'
  find : ∀ (w : World) (s : Nat) (O : Nat → Prop) (n : Nat) (L : List Ob) (b : List UInt8), At w s O n L → GoodO n L → b.length ≤ lim →
    Calls Tryd.prog 16 #[.pointer (some ⟨s, 0, none⟩), .string ⟨b.toArray⟩] w fun e w' => e = .returned (.tuple #[.int .i64 (findO L b : Int), errV (findE L b)]) ∧ RowKit.Below w.heap.size w w'
  kept : ∀ (w : World) (s : Nat) (O : Nat → Prop) (n : Nat) (L : List Ob) (ad : Option Addr) (ca : Nat) (ids : List Int), At w s O n L → GoodO n L → SlI w ad ids → ids.length ≤ 9223372036854775807 → ids.length ≤ ca → (∀ b, ids ≠ [] → ad = some b → ¬ O b.block) →
    Calls Tryd.prog 12 #[.pointer (some ⟨s, 0, none⟩), .slice ad ids.length ca] w fun e w' => e = .returned (.tuple #[.int .i64 (keepI L ids : Int), errV (keepE L ids)]) ∧ ∃ O' : Nat → Prop, At w' s O' n (keepL L ids) ∧ Offs O w w' ∧ ∀ j, O' j → O j ∨ w.heap.size ≤ j
  len : ∀ (w : World) (s : Nat) (O : Nat → Prop) (n : Nat) (L : List Ob), At w s O n L → GoodO n L →
    Calls Tryd.prog 9 #[.pointer (some ⟨s, 0, none⟩)] w fun e w' => e = .returned (.int .i64 (L.length : Int)) ∧ RowKit.Below w.heap.size w w'
  ids : ∀ (w : World) (s : Nat) (O : Nat → Prop) (n : Nat) (L : List Ob), At w s O n L → GoodO n L →
    Calls Tryd.prog 18 #[.pointer (some ⟨s, 0, none⟩)] w fun e w' => ∃ a c, e = .returned (.slice a L.length c) ∧ SlI w' a (idsO L) ∧ RowKit.Below w.heap.size w w' ∧ (L ≠ [] → ∀ d, a = some d → w.heap.size ≤ d.block)

theorem Face.below (F : Face) {w w' : World} {s : Nat} {O : Nat → Prop} {n : Nat} {L : List Ob} (h : F.At w s O n L) (hb : RowKit.Below w.heap.size w w') : F.At w' s O n L := F.keep h fun j hj => hb.block j (F.own h j hj)

/-- the program's store alone -/
def SB (F : Face) (w0 : World) (s n : Nat) (L : List Ob) (W : World) : Prop := ∃ O : Nat → Prop, F.At W s O n L ∧ RowKit.Below w0.heap.size w0 W ∧ ∀ j, O j → w0.heap.size ≤ j
theorem SB.below {F : Face} {w0 : World} {s n : Nat} {L : List Ob} {W W' : World} (h : SB F w0 s n L W) (hb : RowKit.Below W.heap.size W W') : SB F w0 s n L W' := by
  obtain ⟨O, h1, h2, h3⟩ := h
  exact ⟨O, F.below h1 hb, bstep h2 hb, h3⟩
theorem SB.low {F : Face} {w0 : World} {s n : Nat} {L : List Ob} {W : World} (h : SB F w0 s n L W) : RowKit.Below w0.heap.size w0 W := by
  obtain ⟨O, h1, h2, h3⟩ := h
  exact h2
theorem SB.put {F : Face} {w0 : World} {s n : Nat} {L : List Ob} {W : World} (b : List UInt8) (h : SB F w0 s n L W) (hg : GoodO n L) (hn : n ≤ 1000000) (hb : b.length ≤ F.lim) :
    Calls Tryd.prog 7 #[.pointer (some ⟨s, 0, none⟩), .string ⟨b.toArray⟩] W fun e W' => e = .returned (.tuple #[.int .i64 (putI n L b : Int), errV (putE L b)]) ∧ SB F w0 s (putM n L b) (putL n L b) W' := by
  obtain ⟨O, h1, h2, h3⟩ := h
  refine (F.put W s O n L b h1 hg hn hb).mono ?_
  rintro e W' ⟨rfl, O', hA, ho, hj⟩
  refine ⟨rfl, O', hA, h2.trans (ho.below h3 h2.size), fun j hj' => ?_⟩
  rcases hj j hj' with h | h
  · exact h3 j h
  · exact Nat.le_trans h2.size h
theorem SB.len {F : Face} {w0 : World} {s n : Nat} {L : List Ob} {W : World} (h : SB F w0 s n L W) (hg : GoodO n L) :
    Calls Tryd.prog 9 #[.pointer (some ⟨s, 0, none⟩)] W fun e W' => e = .returned (.int .i64 (L.length : Int)) ∧ RowKit.Below W.heap.size W W' := by
  obtain ⟨O, h1, h2, h3⟩ := h
  exact F.len W s O n L h1 hg
end Go.Proofs.YtpdieckoemfebaeDoor
