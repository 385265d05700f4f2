/- A summary that comes in as an argument: what it holds. No statement of the seat is proved here. -/
import Derived.Test.YtgkbhhlkaifnoaaSkSize
import Derived.ProofKit
import Derived.OpenShut
import Derived.ChangeSlices
import Derived.WideShapes
import Derived.Deep.Matrix
namespace Go.Proofs.Ytgkbhhlkaifnoaa
open Go.RowKit Go.WideShapes Go.ChangeShapes Go.ChangeAt Go.Deep
end Go.Proofs.Ytgkbhhlkaifnoaa
