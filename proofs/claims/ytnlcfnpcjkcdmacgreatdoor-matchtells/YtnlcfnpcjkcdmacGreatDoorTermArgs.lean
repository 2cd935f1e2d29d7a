/- A term that is an argument: opened, and read again. -/
import Derived.Test.YtnlcfnpcjkcdmacGreatDoorRows
import Derived.WalkKit
import Derived.ProofKit
import Derived.OpenShut
import Derived.ShutString
import Derived.SizedLaws
import Derived.Lib.SmallJoins
namespace Go.Proofs.YtnlcfnpcjkcdmacGreatDoor
open Go Go.ChangeShapes Go.WideShapes Go.ChangeAt Go.RowKit Go.Joins
open Go.ChangeMaps (open_string shut_string)

theorem own : ownKnob Tryz.prog.godebug = none := by kernel_rfl
theorem cellsTerm : Tryz.prog.cellsOf 24 = 3 := by kernel_rfl

set_option maxRecDepth 100000 in
theorem open_term {H : Type} {enc : TypeId × Value → H} {W : World} {base b0 : Nat} {spare : Nat → Bool} {held : Bool} {r : Reach} {v : Value} {d : DataW H} {p : List MemPlace}
    (hv : Value.okWide Tryz.prog W r b0 24 v) (h : DataW.Trod enc Tryz.prog W base spare held 24 v d p) :
    ∃ (k : Int) (S L : List UInt8), v = .agg #[.int .i64 k, .string ⟨S.toArray⟩, .string ⟨L.toArray⟩] ∧ d = .agg [.lit (.int .i64 k), .lit (.string S), .lit (.string L)] ∧ p = [] ∧ (Lit.int .i64 k).wf = true ∧ S.length ≤ maxLen ∧ L.length ≤ maxLen := by
  obtain ⟨c0, c1, c2, y0, y1, y2, m, rfl, rfl, rfl, hy0, hy1, hy2⟩ := open_agg3 Tryz.underlying24 (by kernel_rfl) cellsTerm hv h
  obtain ⟨k, e0, rfl, wk⟩ := DataW.trod_int Tryz.underlying3 hy0
  obtain ⟨s, e1, rfl, ws⟩ := DataW.trod_string Tryz.underlying9 hy1
  obtain ⟨l, e2, rfl, wl⟩ := DataW.trod_string Tryz.underlying9 hy2
  simp at e0 e1 e2
  subst e0 e1 e2
  exact ⟨k, s.data.toList, l.data.toList, rfl, rfl, rfl, wk, by simpa using ws, by simpa using wl⟩

set_option maxRecDepth 100000 in
theorem read_term {H : Type} {enc : TypeId × Value → H} {k : Int} {S L : List UInt8} (wk : (Lit.int .i64 k).wf = true) (hS : S.length ≤ maxLen) (hL : L.length ≤ maxLen) (W' : World) (sp : Nat → Bool) :
    DataW.Trod enc Tryz.prog W' 0 sp true 24 (.agg #[.int .i64 k, .string ⟨S.toArray⟩, .string ⟨L.toArray⟩]) (.agg [.lit (.int .i64 k), .lit (.string S), .lit (.string L)]) [] :=
  shut_agg3 (y0 := (.lit (.int .i64 k), [])) (y1 := (.lit (.string S), [])) (y2 := (.lit (.string L), [])) Tryz.underlying24 (by kernel_rfl) cellsTerm
    ⟨1, by simp [DataW.trod, Tryz.underlying3, wk]⟩ ⟨1, by simp [DataW.trod, Tryz.underlying9]; exact hS⟩ ⟨1, by simp [DataW.trod, Tryz.underlying9]; exact hL⟩
end Go.Proofs.YtnlcfnpcjkcdmacGreatDoor
