/- stratasame.Ints at numbers that are the same. -/
import Derived.Test.YtackdedbphfaeafDagFace
import Derived.Test.YtackdedbphfaeafSameInts
namespace Go.Proofs.Ytackdedbphfaeaf
open Go Go.RowKit Go.Proofs
set_option synthInstance.maxSize 1000

theorem errV_zero : errV 0 = .nilIface := rfl
theorem errV_some {f : Int} (h : f ≠ 0) : errV f = .iface 40 (.int .i64 f) := by unfold errV; rw [if_neg h]
end Go.Proofs.Ytackdedbphfaeaf
