/- The walks through the helpers of the laws over slices of spans: weighing, comparing, marking, looking whether the marks stand. No statement of the seat is proved here. -/
import Derived.Test.YthimjmkdcocofaaSpData
import Derived.Test.YthimjmkdcocofaaWhole
namespace Go.Proofs.Ythimjmkdcocofaa
open Go.RowKit
theorem eqP_step {xs ys : Sp} {k : Nat} (hl : xs.length = ys.length) (hk : k < xs.length) (h : xs.take k = ys.take k) (he : xs[k]?.getD (0, 0) = ys[k]?.getD (0, 0)) : xs.take (k + 1) = ys.take (k + 1) := by
  rw [takeP_succ xs k hk, takeP_succ ys k (by omega), h, he]
theorem neP_of_at {xs ys : Sp} {k : Nat} (he : ¬ xs[k]?.getD (0, 0) = ys[k]?.getD (0, 0)) : decide (xs = ys) = false := by
  rw [decide_eq_false_iff_not]; intro e; subst e; exact he rfl
theorem eqP_end {xs ys : Sp} {k : Nat} (hx : xs.length = k) (hy : ys.length = k) (h : xs.take k = ys.take k) : decide (xs = ys) = true := by
  rw [decide_eq_true_iff]
  rw [List.take_of_length_le (Nat.le_of_eq hx), List.take_of_length_le (Nat.le_of_eq hy)] at h
  exact h
/-- Two spans lie in memory. -/
def TwoAt (b1 p1 b2 p2 : Nat) (x y x' y' : Int) (W : World) : Prop := (W.cell? ⟨b1, p1, none⟩ = some (.int .i64 x) ∧ W.cell? ⟨b1, p1 + 1, none⟩ = some (.int .i64 y)) ∧ W.cell? ⟨b2, p2, none⟩ = some (.int .i64 x') ∧ W.cell? ⟨b2, p2 + 1, none⟩ = some (.int .i64 y')
theorem TwoAt.below {b1 p1 b2 p2 : Nat} {x y x' y' : Int} {W W' : World} (h : TwoAt b1 p1 b2 p2 x y x' y' W) (hb : Below W.heap.size W W') : TwoAt b1 p1 b2 p2 x y x' y' W' :=
  ⟨⟨(hb.cell (World.block_lt_of_cell? _ _ h.1.1)).trans h.1.1, (hb.cell (World.block_lt_of_cell? _ _ h.1.2)).trans h.1.2⟩, (hb.cell (World.block_lt_of_cell? _ _ h.2.1)).trans h.2.1, (hb.cell (World.block_lt_of_cell? _ _ h.2.2)).trans h.2.2⟩
theorem MarkingI.step2 {B : Nat} {w wr : World} {b off len : Nat} {k : Int} {zs : List Int} {j : Nat} (h : MarkingI B w (some ⟨b, off, none⟩) (2 * len) k zs (2 * j) [b] wr) (hl : zs.length = 2 * len) (hj : j < len) :
    MarkingI B w (some ⟨b, off, none⟩) (2 * len) k zs (2 * (j + 1)) [b] ((wr.setCell ⟨b, off + j * 2, none⟩ (.int .i64 (k + 2 * j))).setCell ⟨b, off + j * 2 + 1, none⟩ (.int .i64 (k + 2 * j + 1))) := by
  have h1 := h.step hl (by omega)
  have h2 := h1.step hl (by omega)
  rw [show off + (2 * j + 1) = off + j * 2 + 1 by omega, show off + 2 * j = off + j * 2 by omega] at h2
  rw [show k + ((2 * j : Nat) : Int) = k + 2 * (j : Int) by omega, show k + ((2 * j + 1 : Nat) : Int) = k + 2 * (j : Int) + 1 by omega] at h2
  exact h2
/-- The marks that a slice of spans bears. -/
structure MarkedP (B : Nat) (w : World) (a : Option Addr) (len : Nat) (k : Int) (F : List Nat) (w' : World) : Prop where
  rd : RdI w' a (2 * len) (marksI k (2 * len)) F
  own : Own B w' F
  only : Only F w w'
end Go.Proofs.Ythimjmkdcocofaa
