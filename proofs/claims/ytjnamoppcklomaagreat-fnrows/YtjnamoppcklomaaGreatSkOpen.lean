/- A summary that comes in as an argument: what it holds. No statement of the seat is proved here. -/
import Derived.Test.YtjnamoppcklomaaGreatSkSize
import Derived.ProofKit
import Derived.OpenShut
import Derived.ChangeSlices
import Derived.WideShapes
import Derived.Deep.Matrix
namespace Go.Proofs.YtjnamoppcklomaaGreat
open Go.RowKit Go.WideShapes Go.ChangeShapes Go.ChangeAt Go.Deep
end Go.Proofs.YtjnamoppcklomaaGreat
