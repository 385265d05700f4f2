/- The walk through the model's SetApart. No statement of the seat is proved here. -/
import Derived.Test.YthimjmkdcocofaaSpModel2
namespace Go.Proofs.Ythimjmkdcocofaa
open Go.RowKit
theorem QuietTo.trans {a b c : World} (h : QuietTo a b) (k : QuietTo b c) : QuietTo a c := by
  obtain ⟨m, rfl⟩ := h
  obtain ⟨n, rfl⟩ := k
  exact ⟨m + n, World.drewN_drewN ..⟩
theorem RdP.quiet {w w' : World} {a : Option Addr} {len : Nat} {ps : Sp} {F : List Nat} (h : RdP w a len ps F) (q : QuietTo w w') : RdP w' a len ps F := h.below (quiet_below q)
end Go.Proofs.Ythimjmkdcocofaa
