/- What the laws over a summary share. No statement of the seat is proved here. -/
import Derived.Test.YtimhgggihalahalSkOpen
import Derived.Test.YtimhgggihalahalWhole
namespace Go.Proofs.Ytimhgggihalahal
open Go.RowKit
theorem RdSk.cells {w : World} {v : Value} {s : Sk} {F : List Nat} (h : RdSk w v s F) : ∃ cs : Array Value, v = .agg cs ∧ cs.size = 7 ∧ cs.all (·.oneCell') = true := by
  obtain ⟨a1, n1, c1, a2, n2, c2, a3, n3, c3, F1, F2, F3, rfl, _⟩ := h
  exact ⟨_, rfl, rfl, by kernel_rfl⟩
theorem infoSk : (Try.prog.info? 27).map (·.size) = some 7 := by kernel_rfl
theorem skSize {cs : Array Value} (h : cs.size = 7) : (Try.prog.info? 27).map (·.size) = some cs.size := by rw [h]; exact infoSk
theorem infoLSk : (Try.prog.info? 32).map (·.size) = some 7 := by kernel_rfl
theorem lskSize {cs : Array Value} (h : cs.size = 7) : (Try.prog.info? 32).map (·.size) = some cs.size := by rw [h]; exact infoLSk
/-- The argument's box and the copy lie there. -/
def SkTwo (g : Nat) (cs : Array Value) (k : Nat) (ds : Array Value) (W : World) : Prop := Blk W g cs 32 ∧ Blk W k ds 27
theorem laidOut : laidOutB Try.prog = true := by kernel_rfl
end Go.Proofs.Ytimhgggihalahal
