/- The walks through more helpers of the laws over items and entries. No statement of the seat is proved here. -/
import Derived.Test.YtjnamoppcklomaaGreatItHelp
namespace Go.Proofs.YtjnamoppcklomaaGreat
open Go.RowKit
end Go.Proofs.YtjnamoppcklomaaGreat
