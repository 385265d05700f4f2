/- Frames that came in. No statement of the seat is proved here. -/
import Derived.Test.YtjndcfamfminkarItOpen
import Derived.Test.YtjndcfamfminkarFrHelp
namespace Go.Proofs.Ytjndcfamfminkar
open Go.RowKit Go.WideShapes Go.ChangeShapes Go.ChangeAt Go.Deep
end Go.Proofs.Ytjndcfamfminkar
