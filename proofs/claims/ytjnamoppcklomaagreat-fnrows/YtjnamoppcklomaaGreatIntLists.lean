/- The walks through the helpers of the laws over slices of numbers, and over slices of such: copying, comparing, weighing. No statement of the seat is proved here. -/
import Derived.Test.YtjnamoppcklomaaGreatOwn
namespace Go.Proofs.YtjnamoppcklomaaGreat
open Go.RowKit
theorem infoInt : (Tryz.prog.info? 3).map (fun i => (i.zero, i.size, i.bytes)) = some (some (.int .i64 0), 1, 8) := by kernel_rfl
def NewI (w : World) (zs : List Int) (e : Ending) (w' : World) : Prop :=
 ∃ a len cap F, e = .returned (.slice a len cap) ∧ RdI w' a len zs F ∧ Own w.heap.size w' F ∧ Below w.heap.size w w'
theorem eqI_step {xs ys : List Int} {k : Nat} (hl : xs.length = ys.length) (hk : k < xs.length) (h : xs.take k = ys.take k) (he : xs[k]?.getD 0 = ys[k]?.getD 0) : xs.take (k + 1) = ys.take (k + 1) := by
 rw [take_succ' xs k hk, take_succ' ys k (by omega), h, he]
theorem neI_of_at {xs ys : List Int} {k : Nat} (he : ¬ xs[k]?.getD 0 = ys[k]?.getD 0) : decide (xs = ys) = false := by
 rw [decide_eq_false_iff_not]; intro e; subst e; exact he rfl
theorem eqI_end {xs ys : List Int} {k : Nat} (hx : xs.length = k) (hy : ys.length = k) (h : xs.take k = ys.take k) : decide (xs = ys) = true := by
 rw [decide_eq_true_iff]
 rw [List.take_of_length_le (Nat.le_of_eq hx), List.take_of_length_le (Nat.le_of_eq hy)] at h
 exact h
end Go.Proofs.YtjnamoppcklomaaGreat
