/- What the laws over entries take of the program and the model. No statement of the seat is proved here. -/
import Derived.Test.YtbmbmnhamogghapItLaw
import Derived.Test.YtbmbmnhamogghapItImplA
namespace Go.Proofs.Ytbmbmnhamogghap
open Go.RowKit
set_option maxRecDepth 200000 in
theorem entryOkImpl_any (v : Value) (x : En) (F : List Nat) (w : World) (h : RdE w v x F) (hw : x.wide) :
    Calls Try.prog 12 #[v] w fun e w' => e = .returned (.bool x.ok) ∧ Below w.heap.size w w' := by
  obtain ⟨F1, F2, rfl, h⟩ := h
  exact entryOkImpl_en v x F1 F2 w h hw.1 (by have := hw.2; omega)
end Go.Proofs.Ytbmbmnhamogghap
