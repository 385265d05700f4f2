/- The walks through PutNum, the program's and the model's. No statement of the seat is proved here. -/
import Derived.Test.YtjndcfamfminkarBase
import Derived.Test.YtjndcfamfminkarNumMath
import Derived.Test.YtjndcfamfminkarInOf
namespace Go.Proofs.Ytjndcfamfminkar
open Go.RowKit




end Go.Proofs.Ytjndcfamfminkar
