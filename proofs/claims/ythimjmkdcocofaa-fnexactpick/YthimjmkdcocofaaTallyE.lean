/- A summary that is right, by the program. No statement of the seat is proved here. -/
import Derived.Test.YthimjmkdcocofaaTallyD
namespace Go.Proofs.Ythimjmkdcocofaa
open Go.RowKit
end Go.Proofs.Ythimjmkdcocofaa
