/- What a summary that comes in weighs, however long its lists are. No statement of the seat is proved here. -/
import Derived.Test.YtgkbhhlkaifnoaaGreatDoorSk
namespace Go.Proofs.YtgkbhhlkaifnoaaGreatDoor
open Go.RowKit
/-- Each list is no longer than a length can say. -/
structure Sk.vast (s : Sk) : Prop where
  hist : s.hist.length ≤ 9223372036854775807
  regs : s.regs.length ≤ 9223372036854775807
  rows : s.rows.length ≤ 9223372036854775807
  row : ∀ z ∈ s.rows, z.length ≤ 9223372036854775807
end Go.Proofs.YtgkbhhlkaifnoaaGreatDoor
