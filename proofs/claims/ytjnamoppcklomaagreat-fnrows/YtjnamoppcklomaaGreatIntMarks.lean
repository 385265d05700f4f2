/- The walks through the helpers of the laws that mark slices of numbers (and slices of such) and look whether the marks still stand. No statement of the seat is proved here. -/
import Derived.Test.YtjnamoppcklomaaGreatIntRows
import Derived.Test.YtjnamoppcklomaaGreatMarkMath
import Derived.Test.YtjnamoppcklomaaGreatBlocks
namespace Go.Proofs.YtjnamoppcklomaaGreat
open Go.RowKit
end Go.Proofs.YtjnamoppcklomaaGreat
