/- The walks through chapter 2: the program's functions and the model's. No statement of the seat is proved here. -/
import Derived.Test.YtjndcfamfminkarBase
import Derived.Test.YtjndcfamfminkarStopMath
import Derived.Test.YtjndcfamfminkarInOf
namespace Go.Proofs.Ytjndcfamfminkar
open Go.RowKit

end Go.Proofs.Ytjndcfamfminkar
