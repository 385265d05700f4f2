/- The walks through the model's l7Item and FrameSame. No statement of the seat is proved here. -/
import Derived.Test.YtjndcfamfminkapFrModel
import Derived.Test.YtjndcfamfminkapItSameS
namespace Go.Proofs.Ytjndcfamfminkap
open Go.RowKit
end Go.Proofs.Ytjndcfamfminkap
