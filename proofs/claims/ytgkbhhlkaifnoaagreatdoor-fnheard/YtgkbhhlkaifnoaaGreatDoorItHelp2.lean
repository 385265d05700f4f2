/- The walks through more helpers of the laws over items and entries. No statement of the seat is proved here. -/
import Derived.Test.YtgkbhhlkaifnoaaGreatDoorItHelp
namespace Go.Proofs.YtgkbhhlkaifnoaaGreatDoor
open Go.RowKit
end Go.Proofs.YtgkbhhlkaifnoaaGreatDoor
