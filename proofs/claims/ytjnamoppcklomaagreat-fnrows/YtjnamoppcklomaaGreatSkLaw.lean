/- What the laws over a summary share. No statement of the seat is proved here. -/
import Derived.Test.YtjnamoppcklomaaGreatSkOpen
import Derived.Test.YtjnamoppcklomaaGreatSkMarks
import Derived.Test.YtjnamoppcklomaaGreatWhole
namespace Go.Proofs.YtjnamoppcklomaaGreat
open Go.RowKit
theorem RdSk.cells {w : World} {v : Value} {s : Sk} {F : List Nat} (h : RdSk w v s F) : ∃ cs : Array Value, v = .agg cs ∧ cs.size = 7 ∧ cs.all (·.oneCell') = true := by
 obtain ⟨a1, n1, c1, a2, n2, c2, a3, n3, c3, F1, F2, F3, rfl, _⟩ := h
 exact ⟨_, rfl, rfl, by kernel_rfl⟩
theorem infoSk : (Tryz.prog.info? 31).map (·.size) = some 7 := by kernel_rfl
theorem skSize {cs : Array Value} (h : cs.size = 7) : (Tryz.prog.info? 31).map (·.size) = some cs.size := by rw [h]; exact infoSk
theorem laidOut : laidOutB Tryz.prog = true := by kernel_rfl
section
variable {P : Program} {ops : Array Oper} {Q : Exit → Act → World → Prop} {rest : List Oper} {a : Act} {w : World} {x y : Operand} {o : Oper} {K : Act → World → Prop}
theorem load_any (ty : TypeId) (g : Nat) (cells : Array Value) (t : TypeId) (d : TypeDesc) (hg : Blk w g cells t) (hw : Region.wanted o (yielded ops a.tmps) = true) (ho : o.op = .load ty x) (hx : a.eval x = .pointer (some ⟨g, 0, none⟩))
 (hu : P.underlying ty = some d) (hd : (match d with | .struct _ | .array _ _ => true | _ => false) = true) (hi : (P.info? ty).map (·.size) = some cells.size)
 (h : wpList P ops Q rest (a.put o.dst (.agg cells)) w) : Stop (wpList P ops Q (o :: rest) a w) :=
 wpList_step fun K hK => by rw [if_pos hw]; exact wp_load_row ty x ho g hx t cells (0, 0) d hg hu hd hi (hK _ _ h)
theorem op_call2' (f : FuncId) (x y : Operand) (ts : Array TypeId) (fn : Func) (R : Value → World → Prop) (hw : Region.wanted o (yielded ops a.tmps) = true) (ho : o.op = Op.call { callee := Callee.value (Operand.func f), args := #[x, y], argTypes := ts })
 (hfn : P.funcs[f]? = some fn) (hnm : (fn.name == "runtime.NumGoroutine") = false) (hbd : fn.body.isNone = false) (hc : Calls P f #[a.eval x, a.eval y] w fun e w' => ∃ v, e = .returned v ∧ R v w') (h : ∀ v w', R v w' → ∃ a', a.put o.dst v = a' ∧ K a' w') : if Region.wanted o (yielded ops a.tmps) = true then Oper.wp P o a w K Q else K (a.put o.dst undef) w := by
 rw [if_pos hw]
 have hnm' : ¬ fn.name = "runtime.NumGoroutine" := by simpa using hnm
 have hbd' : ¬ fn.body = none := by intro e; rw [e] at hbd; cases hbd
 unfold Oper.wp
 simp only [execOp, ho, resolve, invoke, Oper.upon, go_sem]
 simp [callFunc, hfn, hnm', hbd', go_sem]
 simp [Act.eval, go_sem] at hc
 refine Calls.mono hc ?_
 rintro e w1 ⟨v, rfl, hR⟩
 obtain ⟨_, rfl, hk⟩ := h v w1 hR
 exact hk
end
end Go.Proofs.YtjnamoppcklomaaGreat
