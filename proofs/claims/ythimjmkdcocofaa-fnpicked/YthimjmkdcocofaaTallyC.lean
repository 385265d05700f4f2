/- Two rows of numbers of the program's own kind, compared; a summary that is right. No statement of the seat is proved here. -/
import Derived.Test.YthimjmkdcocofaaTallyB
import Derived.Test.YthimjmkdcocofaaArrEq
namespace Go.Proofs.Ythimjmkdcocofaa
open Go.RowKit
end Go.Proofs.Ythimjmkdcocofaa
