/- The program's dag keeps the face. -/
import Derived.Test.YtackdedbphfaeaeDoorDagProgC
import Derived.Test.YtackdedbphfaeaeDoorDagLog
namespace Go.Proofs.YtackdedbphfaeaeDoor
open Go Go.RowKit Go.Proofs

theorem theDag : DFace where
  check := DCheck_any
  anc := DAnc_any
  log := DLog_any
  bases := DBases_any
  is := DIs_any
end Go.Proofs.YtackdedbphfaeaeDoor
