/- The program's dag keeps the face. -/
import Derived.Test.YtackdedbphfaeafDagProgC
namespace Go.Proofs.Ytackdedbphfaeaf
open Go Go.RowKit Go.Proofs

theorem theDag : DFace where
  check := DCheck_any
  anc := DAnc_any
  bases := DBases_any
end Go.Proofs.Ytackdedbphfaeaf
