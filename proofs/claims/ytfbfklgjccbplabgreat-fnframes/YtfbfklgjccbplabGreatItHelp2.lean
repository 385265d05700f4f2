/- The walks through more helpers of the laws over items and entries. No statement of the seat is proved here. -/
import Derived.Test.YtfbfklgjccbplabGreatItHelp
namespace Go.Proofs.YtfbfklgjccbplabGreat
open Go.RowKit
end Go.Proofs.YtfbfklgjccbplabGreat
