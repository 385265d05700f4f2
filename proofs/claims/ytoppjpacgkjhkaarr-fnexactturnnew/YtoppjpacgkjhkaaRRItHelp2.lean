/- The walks through more helpers of the laws over items and entries. No statement of the seat is proved here. -/
import Derived.Test.YtoppjpacgkjhkaaRRItHelp
namespace Go.Proofs.YtoppjpacgkjhkaaRR
open Go.RowKit
end Go.Proofs.YtoppjpacgkjhkaaRR
