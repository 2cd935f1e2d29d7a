/- stratasame.Ints: whether two lists of numbers are the same. -/
import Derived.Test.YtackdedbphfaeafStorePlain
import Derived.Deep.RegionLaw
namespace Go.Proofs.Ytackdedbphfaeaf
open Go Go.RowKit Go.Proofs
set_option synthInstance.maxSize 1000

end Go.Proofs.Ytackdedbphfaeaf
