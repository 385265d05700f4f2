/- What the program lays out of its row: a summary in memory of its own. No statement of the seat is proved here. -/
import Derived.Test.YtgkbhhlkaifnoaaTallyD
import Derived.Test.YtgkbhhlkaifnoaaSkSum
namespace Go.Proofs.Ytgkbhhlkaifnoaa
open Go.RowKit
/-- The summary whose numbers these are. -/
def skOf (xs : List Int) : Sk := ⟨xs.getD 0 0, xs.getD 1 0, xs.getD 2 0, xs.getD 3 0, (xs.drop 4).take 8, (xs.drop 12).take 8, [(xs.drop 20).take 4, (xs.drop 24).take 4]⟩
theorem Own.blk {B : Nat} {w : World} {F : List Nat} {g : Nat} {cs : Array Value} {t : TypeId} (h : Own B w F) (b : Blk w g cs t) (hg : g ∉ F) (hB : B ≤ g) : Own B w (F ++ [g]) :=
  h.app ⟨by simp, fun x hx o => by (obtain rfl : x = g := by simpa using hx); exact b.frozen o, fun x hx => by (obtain rfl : x = g := by simpa using hx); exact hB⟩ (fun x hx hx' => hg (by (obtain rfl : x = g := by simpa using hx'); exact hx))
end Go.Proofs.Ytgkbhhlkaifnoaa
