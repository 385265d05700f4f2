/- The walk through the model's EntryOf. No statement of the seat is proved here. -/
import Derived.Test.YtjndcfamfminkabGreatItModel
import Derived.Test.YtjndcfamfminkabGreatSkShape
import Derived.Test.YtjndcfamfminkabGreatSkCopy
namespace Go.Proofs.YtjndcfamfminkabGreat
open Go.RowKit
def It.entryOk (a : Int) (x : It) : Bool := x.ok && decide (0 ≤ idOf a x.seq)
def It.entry (a : Int) (x : It) : En := if x.entryOk a = true then ⟨x.key, x.window, [(idOf a x.seq, idOf a x.seq)], x.sk⟩ else En.zero
theorem infoItA : (Tryz.prog.info? 30).map (·.size) = some 11 := by kernel_rfl
end Go.Proofs.YtjndcfamfminkabGreat
