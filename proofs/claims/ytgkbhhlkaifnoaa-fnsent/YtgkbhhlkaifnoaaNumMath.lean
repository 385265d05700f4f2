/- How chapter 1 writes a number as bytes, over natural numbers. No statement of the seat is proved here. -/
import Derived.WalkKit
namespace Go.Proofs.Ytgkbhhlkaifnoaa
open Go.RowKit

/-- Seven bits a byte, the low ones first, 128 more in each byte but the last. -/
def encN (n : Nat) : List Int := if n < 128 then [(n : Int)] else ((n : Int) % 128 + 128) :: encN (n / 128)
  termination_by n
  decreasing_by omega

/-- The bytes of a number: none of one that is not in 0 .. 2147483647. -/
def encOf (n : Int) : List Int := if 0 ≤ n ∧ n ≤ 2147483647 then encN n.toNat else []


/-- What a marked slice of n bytes holds: k, k + 1, .. each by 256. -/
def marks (k : Int) (n : Nat) : List Int := (List.range n).map fun i : Nat => (k + (i : Int)) % 256
/-- Marked up to i, the rest as it was. -/
def marked (k : Int) (i : Nat) (xs : List Value) : List Value := (marks k i).map (Value.int .u8) ++ xs.drop i
end Go.Proofs.Ytgkbhhlkaifnoaa
