/- The walks through the helpers of the laws over slices of spans: weighing, comparing, marking, looking whether the marks stand. No statement of the seat is proved here. -/
import Derived.Test.YtjnamoppcklomaaGreatSpData
import Derived.Test.YtjnamoppcklomaaGreatWhole
namespace Go.Proofs.YtjnamoppcklomaaGreat
open Go.RowKit
theorem eqP_step {xs ys : Sp} {k : Nat} (hl : xs.length = ys.length) (hk : k < xs.length) (h : xs.take k = ys.take k) (he : xs[k]?.getD (0, 0) = ys[k]?.getD (0, 0)) : xs.take (k + 1) = ys.take (k + 1) := by
 rw [takeP_succ xs k hk, takeP_succ ys k (by omega), h, he]
theorem neP_of_at {xs ys : Sp} {k : Nat} (he : ¬ xs[k]?.getD (0, 0) = ys[k]?.getD (0, 0)) : decide (xs = ys) = false := by
 rw [decide_eq_false_iff_not]; intro e; subst e; exact he rfl
theorem eqP_end {xs ys : Sp} {k : Nat} (hx : xs.length = k) (hy : ys.length = k) (h : xs.take k = ys.take k) : decide (xs = ys) = true := by
 rw [decide_eq_true_iff]
 rw [List.take_of_length_le (Nat.le_of_eq hx), List.take_of_length_le (Nat.le_of_eq hy)] at h
 exact h
end Go.Proofs.YtjnamoppcklomaaGreat
