/- The walk through the model's EntryOf. No statement of the seat is proved here. -/
import Derived.Test.YtgkbhhlkaifnoaaGreatDoorItModel
import Derived.Test.YtgkbhhlkaifnoaaGreatDoorSkShape
import Derived.Test.YtgkbhhlkaifnoaaGreatDoorSkCopy
namespace Go.Proofs.YtgkbhhlkaifnoaaGreatDoor
open Go.RowKit
def It.entryOk (a : Int) (x : It) : Bool := x.ok && decide (0 ≤ idOf a x.seq)
def It.entry (a : Int) (x : It) : En := if x.entryOk a = true then ⟨x.key, x.window, [(idOf a x.seq, idOf a x.seq)], x.sk⟩ else En.zero
theorem rdP_single {W : World} {g : Nat} {n : Int} {t : TypeId} (h : Blk W g #[.int .i64 n, .int .i64 n] t) : RdP W (some ⟨g, 0, none⟩) 1 [(n, n)] [g] :=
  ⟨rfl, rdI_tcv (xs := flat [(n, n)]) (by simpa [tcv, flat] using h) (by simp [flat]) (by omega)⟩
theorem infoItA : (Tryz.prog.info? 33).map (·.size) = some 11 := by kernel_rfl
end Go.Proofs.YtgkbhhlkaifnoaaGreatDoor
