/- Items and entries that came in. No statement of the seat is proved here. -/
import Derived.Test.YtjndcfamfminkarItHelp2
namespace Go.Proofs.Ytjndcfamfminkar
open Go.RowKit Go.WideShapes Go.ChangeShapes Go.ChangeAt Go.Deep
end Go.Proofs.Ytjndcfamfminkar
