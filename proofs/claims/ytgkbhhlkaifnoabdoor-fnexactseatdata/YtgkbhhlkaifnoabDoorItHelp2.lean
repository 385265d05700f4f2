/- The walks through more helpers of the laws over items and entries. No statement of the seat is proved here. -/
import Derived.Test.YtgkbhhlkaifnoabDoorItHelp
namespace Go.Proofs.YtgkbhhlkaifnoabDoor
open Go.RowKit
end Go.Proofs.YtgkbhhlkaifnoabDoor
