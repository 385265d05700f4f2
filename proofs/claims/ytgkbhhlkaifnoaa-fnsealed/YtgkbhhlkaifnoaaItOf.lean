/- The walk through the model's EntryOf. No statement of the seat is proved here. -/
import Derived.Test.YtgkbhhlkaifnoaaItModel
import Derived.Test.YtgkbhhlkaifnoaaSkShape
import Derived.Test.YtgkbhhlkaifnoaaSkCopy
namespace Go.Proofs.Ytgkbhhlkaifnoaa
open Go.RowKit
def It.entryOk (a : Int) (x : It) : Bool := x.ok && decide (0 ≤ idOf a x.seq)
def It.entry (a : Int) (x : It) : En := if x.entryOk a = true then ⟨x.key, x.window, [(idOf a x.seq, idOf a x.seq)], x.sk⟩ else En.zero
theorem rdP_single {W : World} {g : Nat} {n : Int} {t : TypeId} (h : Blk W g #[.int .i64 n, .int .i64 n] t) : RdP W (some ⟨g, 0, none⟩) 1 [(n, n)] [g] :=
  ⟨rfl, rdI_tcv (xs := flat [(n, n)]) (by simpa [tcv, flat] using h) (by simp [flat]) (by omega)⟩
theorem infoItA : (Try.prog.info? 36).map (·.size) = some 11 := by kernel_rfl
end Go.Proofs.Ytgkbhhlkaifnoaa
