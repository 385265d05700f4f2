/- The walks through the model's SetOk, SetSize and SetApart. No statement of the seat is proved here. -/
import Derived.Test.YthimjmkdcocofaaSpMath
namespace Go.Proofs.Ythimjmkdcocofaa
open Go.RowKit
theorem Sp.okAt_false {ps : Sp} {k : Nat} (h : ¬ ((0 ≤ (ps.at k).1 ∧ (ps.at k).1 ≤ 9999) ∧ ((ps.at k).1 ≤ (ps.at k).2 ∧ (ps.at k).2 ≤ 9999) ∧ (k = 0 ∨ (ps.at (k - 1)).2 + 1 < (ps.at k).1))) : ps.okAt k = false := by
  rw [Bool.eq_false_iff]
  intro e
  unfold Sp.okAt at e
  simp only [Bool.and_eq_true, Bool.or_eq_true, decide_eq_true_eq] at e
  exact h ⟨e.1.1, e.1.2, e.2⟩
theorem Sp.okAt_true {ps : Sp} {k : Nat} (h1 : 0 ≤ (ps.at k).1 ∧ (ps.at k).1 ≤ 9999) (h2 : (ps.at k).1 ≤ (ps.at k).2 ∧ (ps.at k).2 ≤ 9999) (h3 : k = 0 ∨ (ps.at (k - 1)).2 + 1 < (ps.at k).1) : ps.okAt k = true := by
  unfold Sp.okAt
  simp only [Bool.and_eq_true, Bool.or_eq_true, decide_eq_true_eq]
  exact ⟨⟨h1, h2⟩, h3⟩
theorem all_up {P : Nat → Prop} {k : Nat} (h : ∀ j, j < k → P j) (hk : P k) : ∀ j, j < k + 1 → P j := fun j hj => by
  by_cases e : j < k
  · exact h j e
  · obtain rfl : j = k := by omega
    exact hk
end Go.Proofs.Ythimjmkdcocofaa
