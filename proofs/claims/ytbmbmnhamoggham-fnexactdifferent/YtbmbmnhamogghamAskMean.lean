/- The walks through Mean, of the program and of the model. No statement of the seat is proved here. -/
import Derived.Test.YtbmbmnhamogghamTallyMath
import Derived.Test.YtbmbmnhamogghamSkOk
import Derived.Test.YtbmbmnhamogghamSkLaw
namespace Go.Proofs.Ytbmbmnhamoggham
open Go.RowKit
theorem okHead_of {s : Sk} (h : s.ok = true) : (0 ≤ s.count ∧ s.count ≤ 1000000000) ∧ (0 ≤ s.sum ∧ s.sum ≤ 1000000000) ∧ (0 ≤ s.min ∧ s.min ≤ 1000000) ∧ (0 ≤ s.max ∧ s.max ≤ 1000000) := by
  unfold Sk.ok okHead at h
  simp only [Bool.and_eq_true, decide_eq_true_eq] at h
  exact ⟨h.1.1.1.1.1.1.1, h.1.1.1.1.1.1.2, h.1.1.1.1.1.2, h.1.1.1.1.2⟩
def meanN (s : Sk) : Int := if s.ok = true ∧ s.count ≠ 0 then s.sum / s.count else 0
theorem meanN_not {s : Sk} (h : s.ok = false) : meanN s = 0 := by unfold meanN; rw [if_neg (by rw [h]; simp)]
theorem meanN_zero {s : Sk} (h : s.count = 0) : meanN s = 0 := by unfold meanN; rw [if_neg (by simp [h])]
theorem meanN_pos {s : Sk} (h : s.ok = true) (h0 : ¬ s.count = 0) : meanN s = s.sum / s.count := by unfold meanN; rw [if_pos ⟨h, h0⟩]
end Go.Proofs.Ytbmbmnhamoggham
