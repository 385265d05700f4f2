/- The walks through more helpers of the laws over items and entries. No statement of the seat is proved here. -/
import Derived.Test.YthimjmkdcocofaaItHelp
namespace Go.Proofs.Ythimjmkdcocofaa
open Go.RowKit
end Go.Proofs.Ythimjmkdcocofaa
