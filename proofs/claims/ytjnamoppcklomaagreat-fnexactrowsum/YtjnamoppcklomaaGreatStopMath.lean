/- Chapter 2 over whole numbers: sums that stop, binary digits, buckets, noughts at the end. No statement of the seat is proved here. -/
import Derived.WalkKit
import Derived.Laws.BitsAllLaws
namespace Go.Proofs.YtjnamoppcklomaaGreat
open Go.RowKit

def clip (n m : Int) : Int := if n < 0 then 0 else if m < n then m else n
def addN (a b : Int) : Int := if 1000000000 < clip a 1000000000 + clip b 1000000000 then 1000000000 else clip a 1000000000 + clip b 1000000000
theorem clip_range (n m : Int) (h : 0 ≤ m) : 0 ≤ clip n m ∧ clip n m ≤ m := by
  unfold clip
  by_cases h1 : n < 0 <;> by_cases h2 : m < n <;> simp only [h1, h2, if_true, if_false] <;> omega
theorem clip_id (n m : Int) (h0 : 0 ≤ n) (h1 : n ≤ m) : clip n m = n := by unfold clip; rw [if_neg (by omega), if_neg (by omega)]
theorem addN_range (a b : Int) : 0 ≤ addN a b ∧ addN a b ≤ 1000000000 := by
  have h1 := clip_range a 1000000000 (by omega)
  have h2 := clip_range b 1000000000 (by omega)
  unfold addN; split <;> omega

/-! ### the mixed number -/

/-! ### binary digits -/

/-! ### noughts at the end -/
def rk (x : Nat) : Nat := if x = 0 then 17 else if x % 2 = 1 then 1 else rk (x / 2) + 1
  termination_by x
  decreasing_by omega
end Go.Proofs.YtjnamoppcklomaaGreat
