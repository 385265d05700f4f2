/- A call of a Go function that leaves the world as it was, as one step of a region that draws its order. No statement of the seat is proved here. -/
import Derived.Test.YtjnamoppcklomaaGreatBase
import Derived.Deep.RegionLaw
namespace Go.Proofs.YtjnamoppcklomaaGreat
open Go.RowKit
theorem step_call_quiet {P : Program} {ops : Array Oper} {o : Oper} {a : Act} {w : World} {K : Act → World → Prop} {Q : Exit → Act → World → Prop} {E : Prop} (hg : o.guard = none) (f : FuncId) (x y : Operand) (ts : Array TypeId)
    (fn : Func) (hfn : P.funcs[f]? = some fn) (hnm : (fn.name == "runtime.NumGoroutine") = false) (hbd : fn.body.isNone = false) (hop : o.op = Op.call { callee := Callee.value (Operand.func f), args := #[x, y], argTypes := ts }) (v : Value) (hc : Calls P f #[a.eval x, a.eval y] w fun e w' => e = .returned v ∧ w' = w) (hK : K (a.put o.dst v) w) :
    if Region.wanted o (yielded ops a.tmps) = true then Oper.wp P o a w K Q else E := by
  have hw : Region.wanted o (yielded ops a.tmps) = true := by simp [Region.wanted, hg]
  rw [if_pos hw]
  have hnm' : ¬ fn.name = "runtime.NumGoroutine" := by simpa using hnm
  have hbd' : ¬ fn.body = none := by intro e; rw [e] at hbd; cases hbd
  unfold Oper.wp
  simp only [execOp, hop, resolve, invoke, Oper.upon, go_sem]
  simp [callFunc, hfn, hnm', hbd', go_sem]
  simp [Act.eval, go_sem] at hc
  simp [Act.put] at hK
  exact Calls.mono hc (by rintro e w1 ⟨rfl, rfl⟩; exact hK)
end Go.Proofs.YtjnamoppcklomaaGreat
