/- What the laws over a summary share. No statement of the seat is proved here. -/
import Derived.Test.YtjnamoppcklomaaGreatSkOpen
import Derived.Test.YtjnamoppcklomaaGreatSkMarks
import Derived.Test.YtjnamoppcklomaaGreatWhole
namespace Go.Proofs.YtjnamoppcklomaaGreat
open Go.RowKit
theorem RdSk.cells {w : World} {v : Value} {s : Sk} {F : List Nat} (h : RdSk w v s F) : ∃ cs : Array Value, v = .agg cs ∧ cs.size = 7 ∧ cs.all (·.oneCell') = true := by
  obtain ⟨a1, n1, c1, a2, n2, c2, a3, n3, c3, F1, F2, F3, rfl, _⟩ := h
  exact ⟨_, rfl, rfl, by kernel_rfl⟩
/-- The boxes of two arguments lie there. -/
def SkBoxes (g : Nat) (cs ds : Array Value) (W : World) : Prop := Blk W g cs 125 ∧ Blk W (g + 1) ds 125
theorem SkBoxes.below {g : Nat} {cs ds : Array Value} {W W' : World} (h : SkBoxes g cs ds W) (b : Below W.heap.size W W') : SkBoxes g cs ds W' := ⟨h.1.below b, h.2.below b⟩
theorem SkBoxes.setRow {g k : Nat} {cs ds es : Array Value} {W : World} (h : SkBoxes g cs ds W) (hk : g + 1 < k) : SkBoxes g cs ds (W.setRow k es) := ⟨h.1.setRowOther (by omega), h.2.setRowOther (by omega)⟩
theorem laidOut : laidOutB Tryz.prog = true := by kernel_rfl
section
variable {P : Program} {ops : Array Oper} {Q : Exit → Act → World → Prop} {rest : List Oper} {a : Act} {w : World} {x y : Operand} {o : Oper} {K : Act → World → Prop}
/-- A whole struct out of a block that is known, guarded or not. -/
theorem load_any (ty : TypeId) (g : Nat) (cells : Array Value) (t : TypeId) (d : TypeDesc) (hg : Blk w g cells t) (hw : Region.wanted o (yielded ops a.tmps) = true) (ho : o.op = .load ty x) (hx : a.eval x = .pointer (some ⟨g, 0, none⟩))
    (hu : P.underlying ty = some d) (hd : (match d with | .struct _ | .array _ _ => true | _ => false) = true) (hi : (P.info? ty).map (·.size) = some cells.size)
    (h : wpList P ops Q rest (a.put o.dst (.agg cells)) w) : Stop (wpList P ops Q (o :: rest) a w) :=
  wpList_step fun K hK => by rw [if_pos hw]; exact wp_load_row ty x ho g hx t cells (0, 0) d hg hu hd hi (hK _ _ h)
theorem op_call2' (f : FuncId) (x y : Operand) (ts : Array TypeId) (fn : Func) (R : Value → World → Prop) (hw : Region.wanted o (yielded ops a.tmps) = true) (ho : o.op = Op.call { callee := Callee.value (Operand.func f), args := #[x, y], argTypes := ts })
    (hfn : P.funcs[f]? = some fn) (hnm : (fn.name == "runtime.NumGoroutine") = false) (hbd : fn.body.isNone = false) (hc : Calls P f #[a.eval x, a.eval y] w fun e w' => ∃ v, e = .returned v ∧ R v w') (h : ∀ v w', R v w' → ∃ a', a.put o.dst v = a' ∧ K a' w') : if Region.wanted o (yielded ops a.tmps) = true then Oper.wp P o a w K Q else K (a.put o.dst undef) w := by
  rw [if_pos hw]
  have hnm' : ¬ fn.name = "runtime.NumGoroutine" := by simpa using hnm
  have hbd' : ¬ fn.body = none := by intro e; rw [e] at hbd; cases hbd
  unfold Oper.wp
  simp only [execOp, ho, resolve, invoke, Oper.upon, go_sem]
  simp [callFunc, hfn, hnm', hbd', go_sem]
  simp [Act.eval, go_sem] at hc
  refine Calls.mono hc ?_
  rintro e w1 ⟨v, rfl, hR⟩
  obtain ⟨_, rfl, hk⟩ := h v w1 hR
  exact hk
end
/-- A summary in a variable of the call's own: its struct lies in block g, its lists in memory between lo and hi. -/
structure Var (W : World) (lo hi g : Nat) (cs : Array Value) (s : Sk) (F : List Nat) : Prop where
  blk : Blk W g cs 31
  rd : RdSk W (.agg cs) s F
  sz : cs.size = 7
  own : Own lo W F
  lt : ∀ b ∈ F, b < hi
  ge : lo ≤ g
  glt : g < hi
  apart : g ∉ F
theorem Var.below {W W' : World} {lo hi g : Nat} {cs : Array Value} {s : Sk} {F : List Nat} (h : Var W lo hi g cs s F) (b : Below W.heap.size W W') : Var W' lo hi g cs s F :=
  ⟨h.blk.below b, h.rd.below b, h.sz, h.own.below h.rd.lt b, h.lt, h.ge, h.glt, h.apart⟩
theorem Var.fresh {w0 w1 W : World} {cs : Array Value} {s : Sk} {F : List Nat} (r : RdSk w1 (.agg cs) s F) (o : Own w0.heap.size w1 F) (b : Below w0.heap.size w0 w1) (sz : cs.size = 7) (k : Blk W w1.heap.size cs 31) (b2 : Below w1.heap.size w1 W) : Var W w0.heap.size W.heap.size w1.heap.size cs s F :=
  ⟨k, r.below b2, sz, o.below r.lt b2, fun x hx => by have := r.lt x hx; have := b2.size; omega, b.size, k.lt, fun hx => by have := r.lt _ hx; omega⟩
theorem Var.only {W W' : World} {lo hi g lo' hi' g' : Nat} {cs ds : Array Value} {s t : Sk} {F G : List Nat} (h : Var W lo hi g cs s F) (k : Var W lo' hi' g' ds t G) (o : Only G W W') (hd : hi ≤ lo' ∨ hi' ≤ lo) : Var W' lo hi g cs s F := by
  have d : ∀ b ∈ F, b ∉ G := fun b hb hg => by have := h.lt b hb; have := h.own.ge b hb; have := k.lt b hg; have := k.own.ge b hg; omega
  have e : g ∉ G := fun hg => by have := h.ge; have := h.glt; have := k.lt g hg; have := k.own.ge g hg; omega
  exact ⟨h.blk.agree (o.block g h.blk.lt e), h.rd.agree (o.agree h.rd.lt d), h.sz, h.own.agree (o.agree h.rd.lt d), h.lt, h.ge, h.glt, h.apart⟩
theorem Var.bel {w W W' : World} {lo' hi' g' : Nat} {ds : Array Value} {t : Sk} {G : List Nat} (k : Var W lo' hi' g' ds t G) (o : Only G W W') (h : Below w.heap.size w W) (hb : w.heap.size ≤ lo') : Below w.heap.size w W' :=
  o.below h h.size (fun b hg => by have := k.own.ge b hg; omega)
end Go.Proofs.YtjnamoppcklomaaGreat
