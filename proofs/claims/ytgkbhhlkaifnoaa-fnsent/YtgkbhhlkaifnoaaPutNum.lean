/- The walks through PutNum, the program's and the model's. No statement of the seat is proved here. -/
import Derived.Test.YtgkbhhlkaifnoaaBase
import Derived.Test.YtgkbhhlkaifnoaaNumMath
import Derived.Test.YtgkbhhlkaifnoaaInOf
namespace Go.Proofs.Ytgkbhhlkaifnoaa
open Go.RowKit




end Go.Proofs.Ytgkbhhlkaifnoaa
