/- The walk through the program's laying of spans behind a set that it makes. No statement of the seat is proved here. -/
import Derived.Test.YtgkbhhlkaifnoabSpLay
namespace Go.Proofs.Ytgkbhhlkaifnoab
open Go.RowKit
/-- A set of the maker's own: not nil. -/
theorem own_cases {W : World} {B e n : Nat} {v : Value} {xs : List Value} (h : W.ownsRow B e 2 v n xs) : (v = .slice none 0 0 ∧ n = 0) ∨ ∃ g cap n', v = .slice (some ⟨g, 0, none⟩) n' cap ∧ n' = n ∧ n ≤ cap := by
  rcases h.2 with e | ⟨g, cap, cur, e, _, _, h4, _⟩
  · exact .inl e
  · exact .inr ⟨g, cap, n, e, rfl, h4⟩
end Go.Proofs.Ytgkbhhlkaifnoab
