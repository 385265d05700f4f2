/- The walks through the helpers of the laws over slices of spans: weighing, comparing, marking, looking whether the marks stand. No statement of the seat is proved here. -/
import Derived.Test.YtgkbhhlkaifnoaaSpData
import Derived.Test.YtgkbhhlkaifnoaaWhole
namespace Go.Proofs.Ytgkbhhlkaifnoaa
open Go.RowKit
/-- Two spans lie in memory. -/
def TwoAt (b1 p1 b2 p2 : Nat) (x y x' y' : Int) (W : World) : Prop := (W.cell? ⟨b1, p1, none⟩ = some (.int .i64 x) ∧ W.cell? ⟨b1, p1 + 1, none⟩ = some (.int .i64 y)) ∧ W.cell? ⟨b2, p2, none⟩ = some (.int .i64 x') ∧ W.cell? ⟨b2, p2 + 1, none⟩ = some (.int .i64 y')
theorem TwoAt.below {b1 p1 b2 p2 : Nat} {x y x' y' : Int} {W W' : World} (h : TwoAt b1 p1 b2 p2 x y x' y' W) (hb : Below W.heap.size W W') : TwoAt b1 p1 b2 p2 x y x' y' W' :=
  ⟨⟨(hb.cell (World.block_lt_of_cell? _ _ h.1.1)).trans h.1.1, (hb.cell (World.block_lt_of_cell? _ _ h.1.2)).trans h.1.2⟩, (hb.cell (World.block_lt_of_cell? _ _ h.2.1)).trans h.2.1, (hb.cell (World.block_lt_of_cell? _ _ h.2.2)).trans h.2.2⟩
end Go.Proofs.Ytgkbhhlkaifnoaa
