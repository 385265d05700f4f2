/- Items and entries that came in. No statement of the seat is proved here. -/
import Derived.Test.YtjnamoppcklomaaGreatItHelp2
namespace Go.Proofs.YtjnamoppcklomaaGreat
open Go.RowKit Go.WideShapes Go.ChangeShapes Go.ChangeAt Go.Deep
end Go.Proofs.YtjnamoppcklomaaGreat
