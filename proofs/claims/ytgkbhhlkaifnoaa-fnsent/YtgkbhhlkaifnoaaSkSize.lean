/- What a summary that comes in weighs, however long its lists are. No statement of the seat is proved here. -/
import Derived.Test.YtgkbhhlkaifnoaaSk
namespace Go.Proofs.Ytgkbhhlkaifnoaa
open Go.RowKit
end Go.Proofs.Ytgkbhhlkaifnoaa
