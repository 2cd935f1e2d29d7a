/- The program's dag keeps the face. -/
import Derived.Test.YtackdedbphfaeaeDagProgC
namespace Go.Proofs.Ytackdedbphfaeae
open Go Go.RowKit Go.Proofs

theorem theDag : DFace where
  check := DCheck_any
  anc := DAnc_any
  bases := DBases_any
  is := DIs_any
end Go.Proofs.Ytackdedbphfaeae
