/- Chapter 2 over whole numbers: sums that stop, binary digits, buckets, noughts at the end. No statement of the seat is proved here. -/
import Derived.WalkKit
import Derived.Laws.BitsAllLaws
namespace Go.Proofs.Ytjndcfamfminkar
open Go.RowKit


/-! ### the mixed number -/

/-! ### binary digits -/

/-! ### noughts at the end -/
def rk (x : Nat) : Nat := if x = 0 then 17 else if x % 2 = 1 then 1 else rk (x / 2) + 1
  termination_by x
  decreasing_by omega
end Go.Proofs.Ytjndcfamfminkar
