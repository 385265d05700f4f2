/- What a summary that comes in weighs, however long its lists are. No statement of the seat is proved here. -/
import Derived.Test.YtjnamoppcklomaaGreatSk
namespace Go.Proofs.YtjnamoppcklomaaGreat
open Go.RowKit
end Go.Proofs.YtjnamoppcklomaaGreat
