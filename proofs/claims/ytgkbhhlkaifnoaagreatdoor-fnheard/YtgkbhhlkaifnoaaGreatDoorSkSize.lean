/- What a summary that comes in weighs, however long its lists are. No statement of the seat is proved here. -/
import Derived.Test.YtgkbhhlkaifnoaaGreatDoorSk
namespace Go.Proofs.YtgkbhhlkaifnoaaGreatDoor
open Go.RowKit
end Go.Proofs.YtgkbhhlkaifnoaaGreatDoor
