/- The walks through the model's l7Zero and FrameOk. No statement of the seat is proved here. -/
import Derived.Test.YtgkbhhlkaifnoaaFrData
import Derived.Test.YtgkbhhlkaifnoaaItModel
import Derived.Test.YtgkbhhlkaifnoaaPart
namespace Go.Proofs.Ytgkbhhlkaifnoaa
open Go.RowKit
def It.zero : It := ⟨0, 0, 0, 0, Sk.zero⟩
/-- All of a set lies from 1 to m. -/
def Sp.under (ps : Sp) (m : Int) : Bool := (List.range ps.length).all fun k => decide (1 ≤ (ps.at k).1 ∧ (ps.at k).2 ≤ m)
theorem Sp.under_not {ps : Sp} {m : Int} {k : Nat} (hk : k < ps.length) (h : ¬ (1 ≤ (ps.at k).1 ∧ (ps.at k).2 ≤ m)) : ps.under m = false := by
  rw [Bool.eq_false_iff]
  intro e
  unfold Sp.under at e
  rw [List.all_eq_true] at e
  exact h (of_decide_eq_true (e k (List.mem_range.mpr hk)))
theorem Sp.under_all {ps : Sp} {m : Int} (h : ∀ k, k < ps.length → 1 ≤ (ps.at k).1 ∧ (ps.at k).2 ≤ m) : ps.under m = true := by
  unfold Sp.under
  rw [List.all_eq_true]
  exact fun k hk => decide_eq_true (h k (List.mem_range.mp hk))
def Sp.taken (ps : Sp) : Bool := (List.range ps.length).all fun k => decide (1 ≤ (ps.at k).1 ∧ (ps.at k).2 ≤ 60)
def Fr.ok (x : Fr) : Bool := decide (0 ≤ x.kind ∧ x.kind ≤ 3) && decide (0 ≤ x.agent ∧ x.agent ≤ 2) && decide (0 ≤ x.epoch ∧ x.epoch ≤ 1000) && decide (0 ≤ x.granted ∧ x.granted ≤ 60) && x.taken.ok && x.taken.taken && (if x.kind = 1 then x.item.ok else decide (x.item = It.zero))
theorem infoItA : (Try.prog.info? 36).map (·.size) = some 11 := by kernel_rfl
end Go.Proofs.Ytgkbhhlkaifnoaa
