/- StorePlays' code, in pieces; what its tail asks. -/
import Derived.Test.YtpdieckoemfebaeDoorStoreBoth
import Derived.Test.YtpdieckoemfebaeDoorCodeCut
namespace Go.Proofs.YtpdieckoemfebaeDoor
open Go Go.RowKit Go.Proofs
set_option synthInstance.maxSize 1000

theorem SameErrorO (m : Int) (w : World) (hg : errVar w) : Calls Tryd.prog 8 #[errV m, .int .i64 m] w fun r w' => r = .returned (.bool true) ∧ RowKit.Below w.heap.size w w' := by
  have := SameError_any m m w hg
  rw [show (m == m) = true by simp] at this
  exact this
theorem idsO_len (L : List Ob) : (idsO L).length = L.length := by simp [idsO]
theorem SameIdsO (L : List Ob) (a b : Option Addr) (ca cb : Nat) (w : World) (ha : SlI w a (idsO L)) (hb : SlI w b (idsO L)) (hl : L.length ≤ 1000) :
    Calls Tryd.prog 17 #[.slice a L.length ca, .slice b L.length cb] w fun r w' => r = .returned (.bool true) ∧ RowKit.Below w.heap.size w w' := by
  have := SameInts_any a b ca cb (idsO L) (idsO L) w ha hb (by rw [idsO_len]; omega) (by rw [idsO_len]; omega)
  rw [show decide (idsO L = idsO L) = true by simp, idsO_len] at this
  exact this

/-! ### a row of numbers of one's own -/
def cellsZ (l : List Int) : List Value := l.map (Value.int .i64)
theorem cellsZ_len (l : List Int) : (cellsZ l).length = l.length * 1 := by simp [cellsZ]
theorem infoZ : (Tryd.prog.info? 3).map (fun i => (i.zero, i.size, i.bytes)) = some (some (.int .i64 0), 1, 8) := by kernel_rfl
theorem ownZ_sl {W : World} {base : Nat} {e : TypeId} {v : Value} {n : Nat} {l : List Int} (h : W.ownsRow base e 1 v n (cellsZ l)) (hn : l.length = n) : ∃ ad cap, v = .slice ad n cap ∧ SlI W ad l := by
  have h' := h
  rcases h.2 with ⟨rfl, h0⟩ | ⟨g, cap, cur, rfl, _⟩
  · exact ⟨none, 0, by rw [h0], fun hne => absurd (List.eq_nil_of_length_eq_zero (hn.trans h0)) hne⟩
  · refine ⟨some ⟨g, 0, none⟩, cap, rfl, fun _ => ⟨g, 0, rfl, fun j hj => ?_⟩⟩
    have := h'.cells (g := g) rfl j (.int .i64 l[j]) (by simp [cellsZ, hj])
    rwa [Addr.add_lit] at this
theorem idsO_take {L : List Ob} {k : Nat} (hk : k < L.length) : idsO (L.take (k + 1)) = idsO (L.take k) ++ [(L[k].1 : Int)] := by
  rw [List.take_succ_eq_append_getElem hk]
  simp only [idsO, List.map_append, List.map_cons, List.map_nil]
end Go.Proofs.YtpdieckoemfebaeDoor
