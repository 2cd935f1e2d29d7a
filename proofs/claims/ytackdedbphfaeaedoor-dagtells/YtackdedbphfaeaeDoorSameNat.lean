/- stratasame.Ints at numbers that are the same. -/
import Derived.Test.YtackdedbphfaeaeDoorDagFace
import Derived.Test.YtackdedbphfaeaeDoorSameInts
namespace Go.Proofs.YtackdedbphfaeaeDoor
open Go Go.RowKit Go.Proofs
set_option synthInstance.maxSize 1000

theorem SameNat (ad bd : Option Addr) (ca cb : Nat) (m q : List Nat) (w : World) (hl : SlI w ad (natI m)) (hm : SlI w bd (natI q)) (h : m = q) (hz : m.length ≤ 60) :
    Calls Tryd.prog 18 #[.slice ad m.length ca, .slice bd q.length cb] w fun e w' => e = .returned (.bool true) ∧ RowKit.Below w.heap.size w w' := by
  subst h
  have := SameInts_any ad bd ca cb (natI m) (natI m) w hl hm (by rw [natI_len]; omega) (by rw [natI_len]; omega)
  rw [natI_len, decide_eq_true rfl] at this
  exact this
theorem errV_zero : errV 0 = .nilIface := rfl
theorem errV_some {f : Int} (h : f ≠ 0) : errV f = .iface 74 (.int .i64 f) := by unfold errV; rw [if_neg h]
end Go.Proofs.YtackdedbphfaeaeDoor
