/- The walks through GetNum, the program's and the model's. No statement of the seat is proved here. -/
import Derived.Test.YtgoalcakfaellaaBase
import Derived.Test.YtgoalcakfaellaaGetMath
namespace Go.Proofs.Ytgoalcakfaellaa
open Go.RowKit

theorem out_none {r : Option (Int × Nat)} (h : r = none) (p : Int) : Ending.returned (.tuple #[.int .i64 0, .int .i64 0, .bool false]) = .returned (out3 r p) := by rw [h]; rfl
theorem out_some {r : Option (Int × Nat)} {n m : Int} {u : Nat} {p : Int} (h : r = some (n, u)) (hm : m = p + u) : Ending.returned (.tuple #[.int .i64 n, .int .i64 m, .bool true]) = .returned (out3 r p) := by rw [h, hm]; rfl

end Go.Proofs.Ytgoalcakfaellaa
