/- A slice of spans that comes in as an argument: what it holds. No statement of the seat is proved here. -/
import Derived.Test.YtjnamoppcklomaaGreatSpHelp
import Derived.ProofKit
import Derived.OpenShut
import Derived.ChangeSlices
import Derived.WideShapes
import Derived.Deep.SlicePairs
namespace Go.Proofs.YtjnamoppcklomaaGreat
open Go.RowKit Go.WideShapes Go.ChangeShapes Go.ChangeAt Go.Deep
theorem sp_add (b off i : Nat) : (⟨b, off, none⟩ : Addr).add i = ⟨b, off + i, none⟩ := by unfold Addr.add; split <;> simp_all
def Fit64 (x : Int) : Prop := -9223372036854775808 ≤ x ∧ x ≤ 9223372036854775807
def Sp.fit (ps : Sp) : Prop := ∀ p ∈ ps, Fit64 p.1 ∧ Fit64 p.2
end Go.Proofs.YtjnamoppcklomaaGreat
