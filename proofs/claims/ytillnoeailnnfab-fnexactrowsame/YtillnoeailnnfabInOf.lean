/- Whether a number lies between two, as the model tells it. No statement of the seat is proved here. -/
import Derived.Test.YtillnoeailnnfabBase
namespace Go.Proofs.Ytillnoeailnnfab
open Go.RowKit
end Go.Proofs.Ytillnoeailnnfab
