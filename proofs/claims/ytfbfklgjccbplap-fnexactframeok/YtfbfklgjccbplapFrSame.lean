/- The walks through the model's l7Item and FrameSame. No statement of the seat is proved here. -/
import Derived.Test.YtfbfklgjccbplapFrModel
import Derived.Test.YtfbfklgjccbplapItSameS
namespace Go.Proofs.Ytfbfklgjccbplap
open Go.RowKit
end Go.Proofs.Ytfbfklgjccbplap
