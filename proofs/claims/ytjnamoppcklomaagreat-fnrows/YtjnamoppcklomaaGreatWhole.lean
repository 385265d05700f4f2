/- Whole structs of numbers, out of and into memory, at one step each. No statement of the seat is proved here. -/
import Derived.Test.YtjnamoppcklomaaGreatBlocks
import Derived.Deep.WholeRow
import Derived.Laws.CopyOwn
import Derived.Laws.ResultCell
import Derived.OrdersHeld
import Derived.RegionTactic
namespace Go.Proofs.YtjnamoppcklomaaGreat
open Go.RowKit
theorem results_row_tmp {P : Program} {fn : Func} {p u : Tmp} {ty : TypeId} (h : fn.results = #[.cell p ty, .tmp u]) (tmps : Array Value) (w : World) (g : Nat) (t : TypeId) (cs : Array Value) (fr : Nat × Nat) (d : TypeDesc)
 (hp : tmps.getD p undef = .pointer (some ⟨g, 0, none⟩)) (hg : w.heap[g]? = some (.cells cs t fr))
 (hu : P.underlying ty = some d) (hd : (match d with | .struct _ | .array _ _ => true | _ => false) = true) (hi : (P.info? ty).map (·.size) = some cs.size) :
 (results fn tmps).run P w = .ok (.tuple #[.agg cs, tmps.getD u undef]) w := by
 rw [results_cell_tmp h, hp]
 simp [asAddr, run_loadVar_row w g t ty cs fr d hg hu hd hi, Result.andThen]
def Stop (p : Prop) : Prop := p
section
variable {P : Program} {ops : Array Oper} {Q : Exit → Act → World → Prop} {rest : List Oper} {a : Act} {w : World} {x y : Operand} {o : Oper}
theorem stopStore (ty : TypeId) (_ho : o.op = .store ty x y) (h : Stop (wpList P ops Q (o :: rest) a w)) : wpList P ops Q (o :: rest) a w := h
theorem stopLoad (ty : TypeId) (_ho : o.op = .load ty x) (h : Stop (wpList P ops Q (o :: rest) a w)) : wpList P ops Q (o :: rest) a w := h
theorem stopCopy {ts : Array TypeId} (_ho : o.op = .call { callee := .builtin .copy, args := #[x, y], argTypes := ts }) (h : Stop (wpList P ops Q (o :: rest) a w)) : wpList P ops Q (o :: rest) a w := h
theorem Stop.intro {p : Prop} (h : p) : Stop p := h
theorem Blk.setRow {g : Nat} {cs ds : Array Value} {t : TypeId} (h : Blk w g cs t) : Blk (w.setRow g ds) g ds t := setRow_heap w g cs ds t _ h
theorem Blk.setRowOther {g k : Nat} {cs ds : Array Value} {t : TypeId} (h : Blk w g cs t) (hne : g ≠ k) : Blk (w.setRow k ds) g cs t := h.agree (setRow_other w k g ds hne)
theorem store_fresh {w0 : World} (ty : TypeId) (g : Nat) (hsz : w0.heap.size = g) (old cells : Array Value) (t : TypeId) (hgd : o.guard = none) (ho : o.op = .store ty x y) (hx : a.eval x = .pointer (some ⟨g, 0, none⟩)) (hy : a.eval y = .agg cells)
 (hi : (P.info? ty).map (·.size) = some cells.size) (hold : old.size = cells.size) (h1 : cells.all (·.oneCell') = true)
 (h : ∀ W, Blk W g cells t → Below w0.heap.size w0 W → wpList P ops Q rest (a.put o.dst undef) W) : Stop (wpList P ops Q (o :: rest) a (w0.alloc (.cells old t))) := by
 subst hsz
 refine wpList_store_row hgd ty x y ho w0.heap.size cells hx hy t old (heap_alloc_last w0 _) hi hold h1 ?_
 rw [World.setRow_alloc_new]
 exact h _ (Blk.made w0 cells t) ((Below.refl _ _).alloc (Nat.le_refl _) _)
theorem store_known (ty : TypeId) (g : Nat) (old cells : Array Value) (t : TypeId) (hg : Blk w g old t) (hgd : o.guard = none) (ho : o.op = .store ty x y) (hx : a.eval x = .pointer (some ⟨g, 0, none⟩)) (hy : a.eval y = .agg cells)
 (hi : (P.info? ty).map (·.size) = some cells.size) (hold : old.size = cells.size) (h1 : cells.all (·.oneCell') = true)
 (h : wpList P ops Q rest (a.put o.dst undef) (w.setRow g cells)) : Stop (wpList P ops Q (o :: rest) a w) :=
 wpList_store_row hgd ty x y ho g cells hx hy t old hg hi hold h1 h
theorem load_known (ty : TypeId) (g : Nat) (cells : Array Value) (t : TypeId) (d : TypeDesc) (hg : Blk w g cells t) (hgd : o.guard = none) (ho : o.op = .load ty x) (hx : a.eval x = .pointer (some ⟨g, 0, none⟩))
 (hu : P.underlying ty = some d) (hd : (match d with | .struct _ | .array _ _ => true | _ => false) = true) (hi : (P.info? ty).map (·.size) = some cells.size)
 (h : wpList P ops Q rest (a.put o.dst (.agg cells)) w) : Stop (wpList P ops Q (o :: rest) a w) :=
 wpList_load_row hgd ty x ho g hx t cells (0, 0) d hg hu hd hi h
variable {S : World → Prop} {i : Nat} {K : Act → World → Prop}
theorem yields_whole (ty : TypeId) (g : Nat) (cells : Array Value) (t : TypeId) (d : TypeDesc) (hw : Region.wanted o (yielded ops a.tmps) = true) (ho : o.op = .load ty x) (hx : a.eval x = .pointer (some ⟨g, 0, none⟩)) (hu : P.underlying ty = some d) (hd : (match d with | .struct _ | .array _ _ => true | _ => false) = true)
 (hi : (P.info? ty).map (·.size) = some cells.size) (hS : ∀ W, S W → Blk W g cells t) : YieldsIf P ops S o (.agg cells) a :=
 .inl ⟨hw, fun W hW => by
   unfold execOp
   simp only [ho, hx, Instr.loadAt, Instr.sureAddr, Sem.run_bind, Sem.run_pure, Result.andThen_ok, run_loadVar_row W g t ty cells (0, 0) d (hS W hW) hu hd hi]⟩
theorem takeH {md : Region.Mode} {fuel : Nat} {listed : Array Bool} (i : Nat) (v : Value) (hi : ops[i]? = some o)
 (H : ∃ a', a.put o.dst v = a' ∧ Region.noSelect ops = true ∧ Region.free md ops listed i = true ∧ (Region.ready md ops listed).contains i = true ∧
   (∀ c a w, Q (.panic c) (a.put o.dst v) w → Q (.panic c) a w) ∧ YieldsIf P ops S o v a ∧ S w ∧ wpAnyH P md ops Q S fuel (listed.setIfInBounds i true) a' w) : wpAnyH P md ops Q S (fuel + 1) listed a w := by
 obtain ⟨_, rfl, hs, hf, hr, hQ, hy, hS, h⟩ := H
 exact wpAnyH_take hi hs hf hr hQ hy hS h
theorem onlyH {md : Region.Mode} {fuel : Nat} {listed : Array Bool} (i : Nat) (hr : Region.ready md ops listed = [i]) (hi : ops[i]? = some o)
 (H : ∀ K : Act → World → Prop, (∀ a' w', S w' ∧ wpAnyH P md ops Q S fuel (listed.setIfInBounds i true) a' w' → K a' w') → if Region.wanted o (yielded ops a.tmps) = true then Oper.wp P o a w K Q else K (a.put o.dst undef) w) : wpAnyH P md ops Q S (fuel + 1) listed a w := by
 refine wpAnyH_all hr (by simp) ?_
 intro j hj
 obtain rfl : j = i := by simpa using hj
 exact wpOp_step hi H
theorem twoH {md : Region.Mode} {fuel : Nat} {listed : Array Bool} {o' : Oper} (i j : Nat) (hr : Region.ready md ops listed = [i, j]) (hi : ops[i]? = some o) (hj : ops[j]? = some o')
 (H : ∀ K : Act → World → Prop, (∀ a' w', S w' ∧ wpAnyH P md ops Q S fuel (listed.setIfInBounds i true) a' w' → K a' w') → if Region.wanted o (yielded ops a.tmps) = true then Oper.wp P o a w K Q else K (a.put o.dst undef) w)
 (H' : ∀ K : Act → World → Prop, (∀ a' w', S w' ∧ wpAnyH P md ops Q S fuel (listed.setIfInBounds j true) a' w' → K a' w') → if Region.wanted o' (yielded ops a.tmps) = true then Oper.wp P o' a w K Q else K (a.put o'.dst undef) w) : wpAnyH P md ops Q S (fuel + 1) listed a w := by
 refine wpAnyH_all hr (by simp) ?_
 intro k hk
 rcases (by simpa using hk : k = i ∨ k = j) with rfl | rfl
 ·
  exact wpOp_step hi H
 ·
  exact wpOp_step hj H'
theorem tk {md : Region.Mode} {fuel : Nat} {listed : Array Bool} {a' : Act} (i : Nat) (v : Value) (hi : ops[i]? = some o := by simp only [aT, aS, aZ]; rfl) (ha : a.put o.dst v = a' := by simp [Act.put]; rfl) (hs : Region.noSelect ops = true := by kernel_rfl) (hf : Region.free md ops listed i = true := by kernel_rfl) (hr : (Region.ready md ops listed).contains i = true := by kernel_rfl) (hQ : ∀ c a w, Q (.panic c) (a.put o.dst v) w → Q (.panic c) a w := by exact fun _ _ _ h => h) (H : YieldsIf P ops S o v a ∧ S w ∧ wpAnyH P md ops Q S fuel (listed.setIfInBounds i true) a' w) : wpAnyH P md ops Q S (fuel + 1) listed a w :=
 takeH i v hi ⟨a', ha, hs, hf, hr, hQ, H⟩
theorem tg {md : Region.Mode} {fuel : Nat} {listed : Array Bool} {a' : Act} (i : Nat) (v : Value) (hi : ops[i]? = some o := by simp only [aT, aS, aZ]; rfl) (ha : a.put o.dst v = a' := by simp [Act.put]; rfl) (hs : Region.noSelect ops = true := by kernel_rfl) (hf : Region.free md ops listed i = true := by kernel_rfl) (hr : (Region.ready md ops listed).contains i = true := by kernel_rfl) (hQ : ∀ c a w, Q (.panic c) (a.put o.dst v) w → Q (.panic c) a w := by exact fun _ _ _ h => h) (hy : YieldsIf P ops S o v a := by exact .inl ⟨rfl, fun W _ => by go_simp⟩) (H : S w ∧ wpAnyH P md ops Q S fuel (listed.setIfInBounds i true) a' w) : wpAnyH P md ops Q S (fuel + 1) listed a w :=
 takeH i v hi ⟨a', ha, hs, hf, hr, hQ, hy, H⟩
theorem tm {md : Region.Mode} {fuel : Nat} {listed : Array Bool} {a' : Act} (i : Nat) (v : Value) (hi : ops[i]? = some o := by simp only [aT, aS, aZ]; rfl) (ha : a.put o.dst v = a' := by simp [Act.put]; rfl) (hs : Region.noSelect ops = true := by kernel_rfl) (hf : Region.free md ops listed i = true := by kernel_rfl) (hr : (Region.ready md ops listed).contains i = true := by kernel_rfl) (hQ : ∀ c a w, Q (.panic c) (a.put o.dst v) w → Q (.panic c) a w := by exact fun _ _ _ h => h) (hy : YieldsIf P ops S o v a := by exact .inl ⟨rfl, fun W _ => by kernel_rfl⟩) (H : S w ∧ wpAnyH P md ops Q S fuel (listed.setIfInBounds i true) a' w) : wpAnyH P md ops Q S (fuel + 1) listed a w :=
 takeH i v hi ⟨a', ha, hs, hf, hr, hQ, hy, H⟩
theorem oq {md : Region.Mode} {fuel : Nat} {listed : Array Bool} (i : Nat) (hr : Region.ready md ops listed = [i] := by kernel_rfl) (hi : ops[i]? = some o := by simp only [aT, aS, aZ]; rfl)
 (H : ∀ K : Act → World → Prop, (∀ a' w', S w' ∧ wpAnyH P md ops Q S fuel (listed.setIfInBounds i true) a' w' → K a' w') → if Region.wanted o (yielded ops a.tmps) = true then Oper.wp P o a w K Q else K (a.put o.dst undef) w) : wpAnyH P md ops Q S (fuel + 1) listed a w :=
 onlyH i hr hi H
theorem pk {d : Option Tmp} {a a' : Act} {v : Value} {w : World} {K : Act → World → Prop} (ha : a.put d v = a' := by simp [Act.put]; rfl) (h : K a' w) : ∃ a', a.put d v = a' ∧ K a' w := ⟨_, ha, h⟩
theorem op_store (ty : TypeId) (g : Nat) (old cells : Array Value) (t : TypeId) (hw : Region.wanted o (yielded ops a.tmps) = true) (ho : o.op = .store ty x y) (hx : a.eval x = .pointer (some ⟨g, 0, none⟩)) (hy : a.eval y = .agg cells)
 (hg : Blk w g old t) (hs : (P.info? ty).map (·.size) = some cells.size) (hold : old.size = cells.size) (h1 : cells.all (·.oneCell') = true)
 (h : ∃ a', a.put o.dst undef = a' ∧ K a' (w.setRow g cells)) : if Region.wanted o (yielded ops a.tmps) = true then Oper.wp P o a w K Q else K (a.put o.dst undef) w := by
 obtain ⟨_, rfl, h⟩ := h
 rw [if_pos hw]
 exact wp_store_row ty x y ho g cells hx hy t old hg hs hold h1 h
theorem op_value (v : Value) (hw : Region.wanted o (yielded ops a.tmps) = true) (hr : (execOp a.eval o).run P w = .ok (.value v) w) (h : ∃ a', a.put o.dst v = a' ∧ K a' w) : if Region.wanted o (yielded ops a.tmps) = true then Oper.wp P o a w K Q else K (a.put o.dst undef) w := by
 obtain ⟨_, rfl, h⟩ := h
 rw [if_pos hw]
 unfold Oper.wp
 rw [hr]
 exact h
theorem op_call2 (f : FuncId) (x y : Operand) (ts : Array TypeId) (fn : Func) (R : World → Prop) (v : Value) (hw : Region.wanted o (yielded ops a.tmps) = true) (ho : o.op = Op.call { callee := Callee.value (Operand.func f), args := #[x, y], argTypes := ts })
 (hfn : P.funcs[f]? = some fn) (hnm : (fn.name == "runtime.NumGoroutine") = false) (hbd : fn.body.isNone = false) (hc : Calls P f #[a.eval x, a.eval y] w fun e w' => e = .returned v ∧ R w') (h : ∃ a', a.put o.dst v = a' ∧ ∀ w', R w' → K a' w') : if Region.wanted o (yielded ops a.tmps) = true then Oper.wp P o a w K Q else K (a.put o.dst undef) w := by
 obtain ⟨_, rfl, h⟩ := h
 rw [if_pos hw]
 have hnm' : ¬ fn.name = "runtime.NumGoroutine" := by simpa using hnm
 have hbd' : ¬ fn.body = none := by intro e; rw [e] at hbd; cases hbd
 unfold Oper.wp
 simp only [execOp, ho, resolve, invoke, Oper.upon, go_sem]
 simp [callFunc, hfn, hnm', hbd', go_sem]
 simp [Act.eval, go_sem] at hc
 refine Calls.mono hc ?_
 rintro e w1 ⟨rfl, hR⟩
 exact h w1 hR
theorem op_call1 (f : FuncId) (x : Operand) (ts : Array TypeId) (fn : Func) (R : Value → World → Prop) (hw : Region.wanted o (yielded ops a.tmps) = true) (ho : o.op = Op.call { callee := Callee.value (Operand.func f), args := #[x], argTypes := ts })
 (hfn : P.funcs[f]? = some fn) (hnm : (fn.name == "runtime.NumGoroutine") = false) (hbd : fn.body.isNone = false) (hc : Calls P f #[a.eval x] w fun e w' => ∃ v, e = .returned v ∧ R v w') (h : ∀ v w', R v w' → ∃ a', a.put o.dst v = a' ∧ K a' w') : if Region.wanted o (yielded ops a.tmps) = true then Oper.wp P o a w K Q else K (a.put o.dst undef) w := by
 rw [if_pos hw]
 have hnm' : ¬ fn.name = "runtime.NumGoroutine" := by simpa using hnm
 have hbd' : ¬ fn.body = none := by intro e; rw [e] at hbd; cases hbd
 unfold Oper.wp
 simp only [execOp, ho, resolve, invoke, Oper.upon, go_sem]
 simp [callFunc, hfn, hnm', hbd', go_sem]
 simp [Act.eval, go_sem] at hc
 refine Calls.mono hc ?_
 rintro e w1 ⟨v, rfl, hR⟩
 obtain ⟨_, rfl, hk⟩ := h v w1 hR
 exact hk
theorem op_turn (v : Value) (w' : World) (hw : Region.wanted o (yielded ops a.tmps) = true) (hr : (execOp a.eval o).run P w = .ok (.value v) w') (h : ∃ a', a.put o.dst v = a' ∧ K a' w') : if Region.wanted o (yielded ops a.tmps) = true then Oper.wp P o a w K Q else K (a.put o.dst undef) w := by
 obtain ⟨_, rfl, h⟩ := h
 rw [if_pos hw]
 unfold Oper.wp
 rw [hr]
 exact h
theorem op_skip (w' : World) (hw : Region.wanted o (yielded ops a.tmps) = true) (hr : (execOp a.eval o).run P w = .ok .skip w') (h : ∃ a', a.put o.dst undef = a' ∧ K a' w') : if Region.wanted o (yielded ops a.tmps) = true then Oper.wp P o a w K Q else K (a.put o.dst undef) w := by
 obtain ⟨_, rfl, h⟩ := h
 rw [if_pos hw]
 unfold Oper.wp
 rw [hr]
 exact h
end
end Go.Proofs.YtjnamoppcklomaaGreat
