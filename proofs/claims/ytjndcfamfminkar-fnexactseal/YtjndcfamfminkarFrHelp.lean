/- The walks through the helpers of the laws over frames. No statement of the seat is proved here. -/
import Derived.Test.YtjndcfamfminkarFrData
namespace Go.Proofs.Ytjndcfamfminkar
open Go.RowKit
end Go.Proofs.Ytjndcfamfminkar
