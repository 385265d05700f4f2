/- What the law over an entry's size needs. No statement of the seat is proved here. -/
import Derived.Test.YtbmbmnhamogghapItLaw
import Derived.Test.YtbmbmnhamogghapItSize
namespace Go.Proofs.Ytbmbmnhamogghap
open Go.RowKit
set_option maxRecDepth 200000 in
theorem entrySizeE_any (v : Value) (x : En) (F : List Nat) (w : World) (h : RdE w v x F) (hw : x.wide) :
    Calls Try.prog 24 #[v] w fun e w' => e = .returned (.int .i64 x.size) ∧ Below w.heap.size w w' := by
  obtain ⟨F1, F2, rfl, h⟩ := h
  exact entrySizeSpec_any v x F1 F2 w h hw.1 hw.2
end Go.Proofs.Ytbmbmnhamogghap
