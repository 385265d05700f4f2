/- Several texts of mine, laid together. No statement of the seat is proved here. -/
import Derived.Test.YtbmbmnhamogghabB1
import Derived.Deep.WholeRow
import Derived.Laws.CopyOwn
import Derived.Laws.ResultCell
import Derived.OrdersHeld
import Derived.RegionTactic
import Derived.ProofKit
import Derived.OpenShut
import Derived.ChangeSlices
import Derived.WideShapes
import Derived.Deep.SlicePairs
import Derived.Laws.CopyRow
import Derived.WalkKit
import Derived.Laws.BitsAllLaws
/- The walks through the helpers of the laws that mark a summary and look whether the marks still stand. No statement of the seat is proved here. -/
namespace Go.Proofs.Ytbmbmnhamogghab
open Go.RowKit

/-- How many numbers its lists have. -/
def Sk.many (s : Sk) : Int := s.hist.length + s.regs.length + sumLen s.rows
def Sk.marked (k : Int) (s : Sk) : Sk := { s with hist := marksI k s.hist.length, regs := marksI (k + s.hist.length) s.regs.length, rows := marksII (k + s.hist.length + s.regs.length) s.rows }
structure MarkedSk (B : Nat) (w : World) (v : Value) (k : Int) (s : Sk) (F : List Nat) (w' : World) : Prop where
  rd : RdSk w' v (s.marked k) F
  own : Own B w' F
  only : Only F w w'
theorem Only.blk {F : List Nat} {w w' : World} {g : Nat} {cs : Array Value} {t : TypeId} (h : Only F w w') (hb : Blk w g cs t) (hg : g ∉ F) : Blk w' g cs t := hb.agree (h.block g hb.lt hg)
theorem Own.only {B : Nat} {w w' : World} {F G : List Nat} (h : Own B w F) (ho : Only G w w') (hlt : ∀ b ∈ F, b < w.heap.size) (hd : ∀ b ∈ F, b ∉ G) : Own B w' F := h.agree (ho.agree hlt hd)
/-- Three lists of a summary in the midst of a marking. -/
structure MkSk (B : Nat) (w : World) (A : Array Value) (t : TypeId) (a1 : Option Addr) (n1 : Nat) (z1 : List Int) (F1 : List Nat) (a2 : Option Addr) (n2 : Nat) (z2 : List Int) (F2 : List Nat) (a3 : Option Addr) (n3 : Nat) (z3 : List (List Int)) (F3 : List Nat) (W : World) : Prop where
  r1 : RdI W a1 n1 z1 F1
  r2 : RdI W a2 n2 z2 F2
  r3 : RdII W a3 n3 z3 F3
  o1 : Own B W F1
  o2 : Own B W F2
  o3 : Own B W F3
  d12 : ∀ b ∈ F1, b ∉ F2
  d13 : ∀ b ∈ F1, b ∉ F3
  d23 : ∀ b ∈ F2, b ∉ F3
  lt : ∀ b ∈ F1 ++ (F2 ++ F3), b < w.heap.size
  box : Blk W w.heap.size A t
  only : Only (F1 ++ (F2 ++ F3)) w W
section
variable {B : Nat} {w W W' : World} {A : Array Value} {t : TypeId} {a1 a2 a3 : Option Addr} {n1 n2 n3 : Nat} {z1 z2 : List Int} {z3 : List (List Int)} {F1 F2 F3 : List Nat} {k : Int}
theorem MkSk.one (h : MkSk B w A t a1 n1 z1 F1 a2 n2 z2 F2 a3 n3 z3 F3 W) (m : MarkedI B W a1 n1 k F1 W') : MkSk B w A t a1 n1 (marksI k n1) F1 a2 n2 z2 F2 a3 n3 z3 F3 W' := by
  have g2 := m.only.agree h.r2.lt (fun b hb hx => h.d12 b hx hb)
  have g3 := m.only.agree h.r3.lt (fun b hb hx => h.d13 b hx hb)
  exact ⟨m.rd, h.r2.agree g2, h.r3.agree g3, m.own, h.o2.agree g2, h.o3.agree g3, h.d12, h.d13, h.d23, h.lt,
    m.only.blk h.box (fun hx => by have := h.lt _ (List.mem_append_left _ hx); omega), h.only.trans (m.only.mono (fun x hx => List.mem_append_left _ hx))⟩
theorem MkSk.two (h : MkSk B w A t a1 n1 z1 F1 a2 n2 z2 F2 a3 n3 z3 F3 W) (m : MarkedI B W a2 n2 k F2 W') : MkSk B w A t a1 n1 z1 F1 a2 n2 (marksI k n2) F2 a3 n3 z3 F3 W' := by
  have g1 := m.only.agree h.r1.lt (fun b hb hx => h.d12 b hb hx)
  have g3 := m.only.agree h.r3.lt (fun b hb hx => h.d23 b hx hb)
  exact ⟨h.r1.agree g1, m.rd, h.r3.agree g3, h.o1.agree g1, m.own, h.o3.agree g3, h.d12, h.d13, h.d23, h.lt,
    m.only.blk h.box (fun hx => by have := h.lt _ (List.mem_append_right _ (List.mem_append_left _ hx)); omega), h.only.trans (m.only.mono (fun x hx => List.mem_append_right _ (List.mem_append_left _ hx)))⟩
theorem MkSk.three (h : MkSk B w A t a1 n1 z1 F1 a2 n2 z2 F2 a3 n3 z3 F3 W) (m : MarkedII B W a3 n3 k z3 F3 W') : MkSk B w A t a1 n1 z1 F1 a2 n2 z2 F2 a3 n3 (marksII k z3) F3 W' := by
  have g1 := m.only.agree h.r1.lt (fun b hb hx => h.d13 b hb hx)
  have g2 := m.only.agree h.r2.lt (fun b hb hx => h.d23 b hb hx)
  exact ⟨h.r1.agree g1, h.r2.agree g2, m.rd, h.o1.agree g1, h.o2.agree g2, m.own, h.d12, h.d13, h.d23, h.lt,
    m.only.blk h.box (fun hx => by have := h.lt _ (List.mem_append_right _ (List.mem_append_right _ hx)); omega), h.only.trans (m.only.mono (fun x hx => List.mem_append_right _ (List.mem_append_right _ hx)))⟩
theorem MkSk.own (h : MkSk B w A t a1 n1 z1 F1 a2 n2 z2 F2 a3 n3 z3 F3 W) : Own B W (F1 ++ (F2 ++ F3)) :=
  h.o1.app (h.o2.app h.o3 h.d23) (fun b hb hx => (List.mem_append.1 hx).elim (h.d12 b hb) (h.d13 b hb))
end
theorem MkSk.made (B : Nat) (w : World) (A : Array Value) (t : TypeId) {a1 a2 a3 : Option Addr} {n1 n2 n3 : Nat} {z1 z2 : List Int} {z3 : List (List Int)} {F1 F2 F3 : List Nat} (h1 : RdI w a1 n1 z1 F1) (h2 : RdI w a2 n2 z2 F2) (h3 : RdII w a3 n3 z3 F3) (ho : Own B w (F1 ++ (F2 ++ F3))) :
    MkSk B w A t a1 n1 z1 F1 a2 n2 z2 F2 a3 n3 z3 F3 (w.alloc (.cells A t)) := by
  have bw := (Below.refl w.heap.size w).alloc (Nat.le_refl _) (.cells A t)
  have lt : ∀ b ∈ F1 ++ (F2 ++ F3), b < w.heap.size := fun b hb => (List.mem_append.1 hb).elim (h1.lt b) (fun hb => (List.mem_append.1 hb).elim (h2.lt b) (h3.lt b))
  have ho' := ho.below lt bw
  have d1 := ho.apart
  exact ⟨h1.below bw, h2.below bw, h3.below bw, ho'.left, ho'.right.left, ho'.right.right, fun b hb hx => d1 b hb (List.mem_append_left _ hx), fun b hb hx => d1 b hb (List.mem_append_right _ hx), ho.right.apart, lt, Blk.made w A t, Only.of_below bw⟩
end Go.Proofs.Ytbmbmnhamogghab
/- Whole structs of numbers, out of and into memory, at one step each. No statement of the seat is proved here. -/
namespace Go.Proofs.Ytbmbmnhamogghab
open Go.RowKit
theorem results_row_tmp {P : Program} {fn : Func} {p u : Tmp} {ty : TypeId} (h : fn.results = #[.cell p ty, .tmp u]) (tmps : Array Value) (w : World) (g : Nat) (t : TypeId) (cs : Array Value) (fr : Nat × Nat) (d : TypeDesc)
    (hp : tmps.getD p undef = .pointer (some ⟨g, 0, none⟩)) (hg : w.heap[g]? = some (.cells cs t fr))
    (hu : P.underlying ty = some d) (hd : (match d with | .struct _ | .array _ _ => true | _ => false) = true) (hi : (P.info? ty).map (·.size) = some cs.size) :
    (results fn tmps).run P w = .ok (.tuple #[.agg cs, tmps.getD u undef]) w := by
  rw [results_cell_tmp h, hp]
  simp [asAddr, run_loadVar_row w g t ty cs fr d hg hu hd hi, Result.andThen]
/-- The walk stands still here. -/
def Stop (p : Prop) : Prop := p
section
variable {P : Program} {ops : Array Oper} {Q : Exit → Act → World → Prop} {rest : List Oper} {a : Act} {w : World} {x y : Operand} {o : Oper}
theorem stopStore (ty : TypeId) (_ho : o.op = .store ty x y) (h : Stop (wpList P ops Q (o :: rest) a w)) : wpList P ops Q (o :: rest) a w := h
theorem stopLoad (ty : TypeId) (_ho : o.op = .load ty x) (h : Stop (wpList P ops Q (o :: rest) a w)) : wpList P ops Q (o :: rest) a w := h
theorem stopCopy {ts : Array TypeId} (_ho : o.op = .call { callee := .builtin .copy, args := #[x, y], argTypes := ts }) (h : Stop (wpList P ops Q (o :: rest) a w)) : wpList P ops Q (o :: rest) a w := h
theorem Stop.intro {p : Prop} (h : p) : Stop p := h
theorem Blk.setRow {g : Nat} {cs ds : Array Value} {t : TypeId} (h : Blk w g cs t) : Blk (w.setRow g ds) g ds t := setRow_heap w g cs ds t _ h
theorem Blk.setRowOther {g k : Nat} {cs ds : Array Value} {t : TypeId} (h : Blk w g cs t) (hne : g ≠ k) : Blk (w.setRow k ds) g cs t := h.agree (setRow_other w k g ds hne)
/-- A whole struct into the block that was made last. -/
theorem store_fresh {w0 : World} (ty : TypeId) (g : Nat) (hsz : w0.heap.size = g) (old cells : Array Value) (t : TypeId) (hgd : o.guard = none) (ho : o.op = .store ty x y) (hx : a.eval x = .pointer (some ⟨g, 0, none⟩)) (hy : a.eval y = .agg cells)
    (hi : (P.info? ty).map (·.size) = some cells.size) (hold : old.size = cells.size) (h1 : cells.all (·.oneCell') = true)
    (h : ∀ W, Blk W g cells t → Below w0.heap.size w0 W → wpList P ops Q rest (a.put o.dst undef) W) : Stop (wpList P ops Q (o :: rest) a (w0.alloc (.cells old t))) := by
  subst hsz
  refine wpList_store_row hgd ty x y ho w0.heap.size cells hx hy t old (heap_alloc_last w0 _) hi hold h1 ?_
  rw [World.setRow_alloc_new]
  exact h _ (Blk.made w0 cells t) ((Below.refl _ _).alloc (Nat.le_refl _) _)
/-- A whole struct into a block that is known. -/
theorem store_known (ty : TypeId) (g : Nat) (old cells : Array Value) (t : TypeId) (hg : Blk w g old t) (hgd : o.guard = none) (ho : o.op = .store ty x y) (hx : a.eval x = .pointer (some ⟨g, 0, none⟩)) (hy : a.eval y = .agg cells)
    (hi : (P.info? ty).map (·.size) = some cells.size) (hold : old.size = cells.size) (h1 : cells.all (·.oneCell') = true)
    (h : wpList P ops Q rest (a.put o.dst undef) (w.setRow g cells)) : Stop (wpList P ops Q (o :: rest) a w) :=
  wpList_store_row hgd ty x y ho g cells hx hy t old hg hi hold h1 h
/-- A whole struct out of a block that is known. -/
theorem load_known (ty : TypeId) (g : Nat) (cells : Array Value) (t : TypeId) (d : TypeDesc) (hg : Blk w g cells t) (hgd : o.guard = none) (ho : o.op = .load ty x) (hx : a.eval x = .pointer (some ⟨g, 0, none⟩))
    (hu : P.underlying ty = some d) (hd : (match d with | .struct _ | .array _ _ => true | _ => false) = true) (hi : (P.info? ty).map (·.size) = some cells.size)
    (h : wpList P ops Q rest (a.put o.dst (.agg cells)) w) : Stop (wpList P ops Q (o :: rest) a w) :=
  wpList_load_row hgd ty x ho g hx t cells (0, 0) d hg hu hd hi h
/-! ### single operations of a region that draws its order -/
variable {S : World → Prop} {i : Nat} {K : Act → World → Prop}
/-- A whole struct that nobody in the region writes. -/
theorem yields_whole (ty : TypeId) (g : Nat) (cells : Array Value) (t : TypeId) (d : TypeDesc) (hw : Region.wanted o (yielded ops a.tmps) = true) (ho : o.op = .load ty x) (hx : a.eval x = .pointer (some ⟨g, 0, none⟩)) (hu : P.underlying ty = some d) (hd : (match d with | .struct _ | .array _ _ => true | _ => false) = true)
    (hi : (P.info? ty).map (·.size) = some cells.size) (hS : ∀ W, S W → Blk W g cells t) : YieldsIf P ops S o (.agg cells) a :=
  .inl ⟨hw, fun W hW => by
    unfold execOp
    simp only [ho, hx, Instr.loadAt, Instr.sureAddr, Sem.run_bind, Sem.run_pure, Result.andThen_ok, run_loadVar_row W g t ty cells (0, 0) d (hS W hW) hu hd hi]⟩
theorem takeH {md : Region.Mode} {fuel : Nat} {listed : Array Bool} (i : Nat) (v : Value) (hi : ops[i]? = some o)
    (H : ∃ a', a.put o.dst v = a' ∧ Region.noSelect ops = true ∧ Region.free md ops listed i = true ∧ (Region.ready md ops listed).contains i = true ∧
      (∀ c a w, Q (.panic c) (a.put o.dst v) w → Q (.panic c) a w) ∧ YieldsIf P ops S o v a ∧ S w ∧ wpAnyH P md ops Q S fuel (listed.setIfInBounds i true) a' w) : wpAnyH P md ops Q S (fuel + 1) listed a w := by
  obtain ⟨_, rfl, hs, hf, hr, hQ, hy, hS, h⟩ := H
  exact wpAnyH_take hi hs hf hr hQ hy hS h
/-- What is to be shown of the one operation that may come up. -/
theorem onlyH {md : Region.Mode} {fuel : Nat} {listed : Array Bool} (i : Nat) (hr : Region.ready md ops listed = [i]) (hi : ops[i]? = some o)
    (H : ∀ K : Act → World → Prop, (∀ a' w', S w' ∧ wpAnyH P md ops Q S fuel (listed.setIfInBounds i true) a' w' → K a' w') → if Region.wanted o (yielded ops a.tmps) = true then Oper.wp P o a w K Q else K (a.put o.dst undef) w) : wpAnyH P md ops Q S (fuel + 1) listed a w := by
  refine wpAnyH_all hr (by simp) ?_
  intro j hj
  obtain rfl : j = i := by simpa using hj
  exact wpOp_step hi H
theorem twoH {md : Region.Mode} {fuel : Nat} {listed : Array Bool} {o' : Oper} (i j : Nat) (hr : Region.ready md ops listed = [i, j]) (hi : ops[i]? = some o) (hj : ops[j]? = some o')
    (H : ∀ K : Act → World → Prop, (∀ a' w', S w' ∧ wpAnyH P md ops Q S fuel (listed.setIfInBounds i true) a' w' → K a' w') → if Region.wanted o (yielded ops a.tmps) = true then Oper.wp P o a w K Q else K (a.put o.dst undef) w)
    (H' : ∀ K : Act → World → Prop, (∀ a' w', S w' ∧ wpAnyH P md ops Q S fuel (listed.setIfInBounds j true) a' w' → K a' w') → if Region.wanted o' (yielded ops a.tmps) = true then Oper.wp P o' a w K Q else K (a.put o'.dst undef) w) : wpAnyH P md ops Q S (fuel + 1) listed a w := by
  refine wpAnyH_all hr (by simp) ?_
  intro k hk
  rcases (by simpa using hk : k = i ∨ k = j) with rfl | rfl
  · exact wpOp_step hi H
  · exact wpOp_step hj H'
theorem op_store (ty : TypeId) (g : Nat) (old cells : Array Value) (t : TypeId) (hw : Region.wanted o (yielded ops a.tmps) = true) (ho : o.op = .store ty x y) (hx : a.eval x = .pointer (some ⟨g, 0, none⟩)) (hy : a.eval y = .agg cells)
    (hg : Blk w g old t) (hs : (P.info? ty).map (·.size) = some cells.size) (hold : old.size = cells.size) (h1 : cells.all (·.oneCell') = true)
    (h : ∃ a', a.put o.dst undef = a' ∧ K a' (w.setRow g cells)) : if Region.wanted o (yielded ops a.tmps) = true then Oper.wp P o a w K Q else K (a.put o.dst undef) w := by
  obtain ⟨_, rfl, h⟩ := h
  rw [if_pos hw]
  exact wp_store_row ty x y ho g cells hx hy t old hg hs hold h1 h
theorem op_value (v : Value) (hw : Region.wanted o (yielded ops a.tmps) = true) (hr : (execOp a.eval o).run P w = .ok (.value v) w) (h : ∃ a', a.put o.dst v = a' ∧ K a' w) : if Region.wanted o (yielded ops a.tmps) = true then Oper.wp P o a w K Q else K (a.put o.dst undef) w := by
  obtain ⟨_, rfl, h⟩ := h
  rw [if_pos hw]
  unfold Oper.wp
  rw [hr]
  exact h
theorem op_call2 (f : FuncId) (x y : Operand) (ts : Array TypeId) (fn : Func) (R : World → Prop) (v : Value) (hw : Region.wanted o (yielded ops a.tmps) = true) (ho : o.op = Op.call { callee := Callee.value (Operand.func f), args := #[x, y], argTypes := ts })
    (hfn : P.funcs[f]? = some fn) (hnm : (fn.name == "runtime.NumGoroutine") = false) (hbd : fn.body.isNone = false) (hc : Calls P f #[a.eval x, a.eval y] w fun e w' => e = .returned v ∧ R w') (h : ∃ a', a.put o.dst v = a' ∧ ∀ w', R w' → K a' w') : if Region.wanted o (yielded ops a.tmps) = true then Oper.wp P o a w K Q else K (a.put o.dst undef) w := by
  obtain ⟨_, rfl, h⟩ := h
  rw [if_pos hw]
  have hnm' : ¬ fn.name = "runtime.NumGoroutine" := by simpa using hnm
  have hbd' : ¬ fn.body = none := by intro e; rw [e] at hbd; cases hbd
  unfold Oper.wp
  simp only [execOp, ho, resolve, invoke, Oper.upon, go_sem]
  simp [callFunc, hfn, hnm', hbd', go_sem]
  simp [Act.eval, go_sem] at hc
  refine Calls.mono hc ?_
  rintro e w1 ⟨rfl, hR⟩
  exact h w1 hR
theorem op_call1 (f : FuncId) (x : Operand) (ts : Array TypeId) (fn : Func) (R : Value → World → Prop) (hw : Region.wanted o (yielded ops a.tmps) = true) (ho : o.op = Op.call { callee := Callee.value (Operand.func f), args := #[x], argTypes := ts })
    (hfn : P.funcs[f]? = some fn) (hnm : (fn.name == "runtime.NumGoroutine") = false) (hbd : fn.body.isNone = false) (hc : Calls P f #[a.eval x] w fun e w' => ∃ v, e = .returned v ∧ R v w') (h : ∀ v w', R v w' → ∃ a', a.put o.dst v = a' ∧ K a' w') : if Region.wanted o (yielded ops a.tmps) = true then Oper.wp P o a w K Q else K (a.put o.dst undef) w := by
  rw [if_pos hw]
  have hnm' : ¬ fn.name = "runtime.NumGoroutine" := by simpa using hnm
  have hbd' : ¬ fn.body = none := by intro e; rw [e] at hbd; cases hbd
  unfold Oper.wp
  simp only [execOp, ho, resolve, invoke, Oper.upon, go_sem]
  simp [callFunc, hfn, hnm', hbd', go_sem]
  simp [Act.eval, go_sem] at hc
  refine Calls.mono hc ?_
  rintro e w1 ⟨v, rfl, hR⟩
  obtain ⟨_, rfl, hk⟩ := h v w1 hR
  exact hk
/-- An operation that yields its value and may turn the world. -/
theorem op_turn (v : Value) (w' : World) (hw : Region.wanted o (yielded ops a.tmps) = true) (hr : (execOp a.eval o).run P w = .ok (.value v) w') (h : ∃ a', a.put o.dst v = a' ∧ K a' w') : if Region.wanted o (yielded ops a.tmps) = true then Oper.wp P o a w K Q else K (a.put o.dst undef) w := by
  obtain ⟨_, rfl, h⟩ := h
  rw [if_pos hw]
  unfold Oper.wp
  rw [hr]
  exact h
/-- A store. -/
theorem op_skip (w' : World) (hw : Region.wanted o (yielded ops a.tmps) = true) (hr : (execOp a.eval o).run P w = .ok .skip w') (h : ∃ a', a.put o.dst undef = a' ∧ K a' w') : if Region.wanted o (yielded ops a.tmps) = true then Oper.wp P o a w K Q else K (a.put o.dst undef) w := by
  obtain ⟨_, rfl, h⟩ := h
  rw [if_pos hw]
  unfold Oper.wp
  rw [hr]
  exact h
end
end Go.Proofs.Ytbmbmnhamogghab
/- What the laws over a summary share. No statement of the seat is proved here. -/
namespace Go.Proofs.Ytbmbmnhamogghab
open Go.RowKit
theorem RdSk.cells {w : World} {v : Value} {s : Sk} {F : List Nat} (h : RdSk w v s F) : ∃ cs : Array Value, v = .agg cs ∧ cs.size = 7 ∧ cs.all (·.oneCell') = true := by
  obtain ⟨a1, n1, c1, a2, n2, c2, a3, n3, c3, F1, F2, F3, rfl, _⟩ := h
  exact ⟨_, rfl, rfl, by kernel_rfl⟩
theorem infoSk : (Try.prog.info? 28).map (·.size) = some 7 := by kernel_rfl
theorem skSize {cs : Array Value} (h : cs.size = 7) : (Try.prog.info? 28).map (·.size) = some cs.size := by rw [h]; exact infoSk
section
variable {P : Program} {ops : Array Oper} {Q : Exit → Act → World → Prop} {rest : List Oper} {a : Act} {w : World} {x y : Operand} {o : Oper} {K : Act → World → Prop}
/-- A whole struct out of a block that is known, guarded or not. -/
theorem load_any (ty : TypeId) (g : Nat) (cells : Array Value) (t : TypeId) (d : TypeDesc) (hg : Blk w g cells t) (hw : Region.wanted o (yielded ops a.tmps) = true) (ho : o.op = .load ty x) (hx : a.eval x = .pointer (some ⟨g, 0, none⟩))
    (hu : P.underlying ty = some d) (hd : (match d with | .struct _ | .array _ _ => true | _ => false) = true) (hi : (P.info? ty).map (·.size) = some cells.size)
    (h : wpList P ops Q rest (a.put o.dst (.agg cells)) w) : Stop (wpList P ops Q (o :: rest) a w) :=
  wpList_step fun K hK => by rw [if_pos hw]; exact wp_load_row ty x ho g hx t cells (0, 0) d hg hu hd hi (hK _ _ h)
theorem op_call2' (f : FuncId) (x y : Operand) (ts : Array TypeId) (fn : Func) (R : Value → World → Prop) (hw : Region.wanted o (yielded ops a.tmps) = true) (ho : o.op = Op.call { callee := Callee.value (Operand.func f), args := #[x, y], argTypes := ts })
    (hfn : P.funcs[f]? = some fn) (hnm : (fn.name == "runtime.NumGoroutine") = false) (hbd : fn.body.isNone = false) (hc : Calls P f #[a.eval x, a.eval y] w fun e w' => ∃ v, e = .returned v ∧ R v w') (h : ∀ v w', R v w' → ∃ a', a.put o.dst v = a' ∧ K a' w') : if Region.wanted o (yielded ops a.tmps) = true then Oper.wp P o a w K Q else K (a.put o.dst undef) w := by
  rw [if_pos hw]
  have hnm' : ¬ fn.name = "runtime.NumGoroutine" := by simpa using hnm
  have hbd' : ¬ fn.body = none := by intro e; rw [e] at hbd; cases hbd
  unfold Oper.wp
  simp only [execOp, ho, resolve, invoke, Oper.upon, go_sem]
  simp [callFunc, hfn, hnm', hbd', go_sem]
  simp [Act.eval, go_sem] at hc
  refine Calls.mono hc ?_
  rintro e w1 ⟨v, rfl, hR⟩
  obtain ⟨_, rfl, hk⟩ := h v w1 hR
  exact hk
end
theorem many_fits {s : Sk} (h : s.size ≤ 1048576) : 0 ≤ s.many ∧ s.many ≤ 1048576 := by
  have h0 := sumLen_nonneg s.rows
  unfold Sk.size at h
  unfold Sk.many
  omega
/-- A summary in a variable of the call's own: its struct lies in block g, its lists in memory between lo and hi. -/
structure Var (W : World) (lo hi g : Nat) (cs : Array Value) (s : Sk) (F : List Nat) : Prop where
  blk : Blk W g cs 28
  rd : RdSk W (.agg cs) s F
  sz : cs.size = 7
  own : Own lo W F
  lt : ∀ b ∈ F, b < hi
  ge : lo ≤ g
  glt : g < hi
  apart : g ∉ F
theorem Var.below {W W' : World} {lo hi g : Nat} {cs : Array Value} {s : Sk} {F : List Nat} (h : Var W lo hi g cs s F) (b : Below W.heap.size W W') : Var W' lo hi g cs s F :=
  ⟨h.blk.below b, h.rd.below b, h.sz, h.own.below h.rd.lt b, h.lt, h.ge, h.glt, h.apart⟩
theorem Var.fresh {w0 w1 W : World} {cs : Array Value} {s : Sk} {F : List Nat} (r : RdSk w1 (.agg cs) s F) (o : Own w0.heap.size w1 F) (b : Below w0.heap.size w0 w1) (sz : cs.size = 7) (k : Blk W w1.heap.size cs 28) (b2 : Below w1.heap.size w1 W) : Var W w0.heap.size W.heap.size w1.heap.size cs s F :=
  ⟨k, r.below b2, sz, o.below r.lt b2, fun x hx => by have := r.lt x hx; have := b2.size; omega, b.size, k.lt, fun hx => by have := r.lt _ hx; omega⟩
theorem Var.only {W W' : World} {lo hi g lo' hi' g' : Nat} {cs ds : Array Value} {s t : Sk} {F G : List Nat} (h : Var W lo hi g cs s F) (k : Var W lo' hi' g' ds t G) (o : Only G W W') (hd : hi ≤ lo' ∨ hi' ≤ lo) : Var W' lo hi g cs s F := by
  have d : ∀ b ∈ F, b ∉ G := fun b hb hg => by have := h.lt b hb; have := h.own.ge b hb; have := k.lt b hg; have := k.own.ge b hg; omega
  have e : g ∉ G := fun hg => by have := h.ge; have := h.glt; have := k.lt g hg; have := k.own.ge g hg; omega
  exact ⟨h.blk.agree (o.block g h.blk.lt e), h.rd.agree (o.agree h.rd.lt d), h.sz, h.own.agree (o.agree h.rd.lt d), h.lt, h.ge, h.glt, h.apart⟩
theorem Var.keep {W W' : World} {lo' hi' g' : Nat} {ds : Array Value} {t : Sk} {G : List Nat} {b : Nat} {cs : Array Value} {ty : TypeId} (k : Var W lo' hi' g' ds t G) (o : Only G W W') (h : Blk W b cs ty) (hb : b < lo') : Blk W' b cs ty :=
  h.agree (o.block b h.lt (fun hg => by have := k.own.ge b hg; omega))
theorem Var.bel {w W W' : World} {lo' hi' g' : Nat} {ds : Array Value} {t : Sk} {G : List Nat} (k : Var W lo' hi' g' ds t G) (o : Only G W W') (h : Below w.heap.size w W) (hb : w.heap.size ≤ lo') : Below w.heap.size w W' :=
  o.below h h.size (fun b hg => by have := k.own.ge b hg; omega)
theorem var_stored {W : World} {lo g : Nat} {old rr : Array Value} {s : Sk} {X : List Nat} (k : Blk W g old 28) (r : RdSk W (.agg rr) s X) (sz : rr.size = 7) (o : Own lo W X) (lt : ∀ b ∈ X, b < W.heap.size) (ge : lo ≤ g) (ap : g ∉ X) : Var (W.setRow g rr) lo (W.setRow g rr).heap.size g rr s X := by
  have ag : Agree W (W.setRow g rr) X := fun b hb => setRow_other W _ b _ (fun e => ap (e ▸ hb))
  have hs : (W.setRow g rr).heap.size = W.heap.size := by simp
  exact ⟨k.setRow, r.agree ag, sz, o.agree ag, by rw [hs]; exact lt, ge, by rw [hs]; exact k.lt, ap⟩
end Go.Proofs.Ytbmbmnhamogghab
/- Slices of spans, as plain data: pairs of numbers, in memory one behind the other. No statement of the seat is proved here. -/
namespace Go.Proofs.Ytbmbmnhamogghab
open Go.RowKit
abbrev Sp := List (Int × Int)
def flat : Sp → List Int
  | [] => []
  | p :: ps => p.1 :: p.2 :: flat ps
theorem flat_length : ∀ ps : Sp, (flat ps).length = 2 * ps.length
  | [] => rfl
  | p :: ps => by simp [flat, flat_length ps]; omega
theorem flat_lo : ∀ (ps : Sp) (i : Nat), (flat ps)[2 * i]?.getD 0 = (ps[i]?.getD (0, 0)).1
  | [], i => by simp [flat]
  | p :: ps, 0 => by simp [flat]
  | p :: ps, i + 1 => by rw [show 2 * (i + 1) = 2 * i + 1 + 1 by omega, flat]; simpa using flat_lo ps i
theorem flat_hi : ∀ (ps : Sp) (i : Nat), (flat ps)[2 * i + 1]?.getD 0 = (ps[i]?.getD (0, 0)).2
  | [], i => by simp [flat]
  | p :: ps, 0 => by simp [flat]
  | p :: ps, i + 1 => by rw [show 2 * (i + 1) + 1 = 2 * i + 1 + 1 + 1 by omega, flat]; simpa using flat_hi ps i
theorem flat_append : ∀ (ps qs : Sp), flat (ps ++ qs) = flat ps ++ flat qs
  | [], qs => rfl
  | p :: ps, qs => by simp [flat, flat_append ps qs]
theorem flat_inj : ∀ {ps qs : Sp}, flat ps = flat qs → ps = qs
  | [], [], _ => rfl
  | [], q :: qs, h => by simp [flat] at h
  | p :: ps, [], h => by simp [flat] at h
  | p :: ps, q :: qs, h => by
    simp only [flat, List.cons.injEq] at h
    obtain ⟨h1, h2, h3⟩ := h
    rw [flat_inj h3, Prod.ext h1 h2]
/-- A slice of spans that can be read; F: its block. -/
structure RdP (w : World) (a : Option Addr) (len : Nat) (ps : Sp) (F : List Nat) : Prop where
  length : ps.length = len
  rd : RdI w a (2 * len) (flat ps) F
theorem RdP.below {w w' : World} {a : Option Addr} {len : Nat} {ps : Sp} {F : List Nat} (h : RdP w a len ps F) (hb : Below w.heap.size w w') : RdP w' a len ps F := ⟨h.length, h.rd.below hb⟩
theorem RdP.agree {w w' : World} {a : Option Addr} {len : Nat} {ps : Sp} {F : List Nat} (h : RdP w a len ps F) (hb : Agree w w' F) : RdP w' a len ps F := ⟨h.length, h.rd.agree hb⟩
theorem RdP.lt {w : World} {a : Option Addr} {len : Nat} {ps : Sp} {F : List Nat} (h : RdP w a len ps F) : ∀ b ∈ F, b < w.heap.size := h.rd.lt
theorem RdP.cells {w : World} {a : Option Addr} {len : Nat} {ps : Sp} {F : List Nat} (h : RdP w a len ps F) : (len = 0 ∧ F = [] ∧ ps = []) ∨ ∃ b off, 0 < len ∧ a = some ⟨b, off, none⟩ ∧ F = [b] ∧ ∀ i, i < len → w.cell? ⟨b, off + i * 2, none⟩ = some (.int .i64 (ps[i]?.getD (0, 0)).1) ∧ w.cell? ⟨b, off + i * 2 + 1, none⟩ = some (.int .i64 (ps[i]?.getD (0, 0)).2) := by
  rcases h.rd.cells with ⟨h0, hF⟩ | ⟨b, off, hp, ha, hF, hc⟩
  · left
    have hl := h.length
    refine ⟨by omega, hF, List.eq_nil_of_length_eq_zero (by omega)⟩
  · right
    refine ⟨b, off, by omega, ha, hF, fun i hi => ?_⟩
    have e1 := hc (2 * i) (by omega)
    have e2 := hc (2 * i + 1) (by omega)
    rw [List.getD_eq_getElem?_getD, flat_lo] at e1
    rw [List.getD_eq_getElem?_getD, flat_hi] at e2
    rw [show off + i * 2 = off + 2 * i by omega]
    exact ⟨e1, by rw [show off + 2 * i + 1 = off + (2 * i + 1) by omega]; exact e2⟩
theorem RdP.nil {w : World} {a : Option Addr} : RdP w a 0 [] [] := ⟨rfl, rfl, .inl ⟨rfl, rfl⟩⟩
/-- Out of a row that the call made. -/
theorem RdP.of_own {w : World} {B e len cap g : Nat} {ps : Sp} (h : w.ownsRow B e 2 (.slice (some ⟨g, 0, none⟩) len cap) len ((flat ps).map (Value.int .i64))) : ∃ F, RdP w (some ⟨g, 0, none⟩) len ps F ∧ Own B w F ∧ ∀ b ∈ F, b = g := by
  have hl : (flat ps).length = len * 2 := by simpa using h.1
  rw [flat_length] at hl
  by_cases h0 : len = 0
  · exact ⟨[], ⟨by omega, by rw [flat_length]; omega, .inl ⟨by omega, rfl⟩⟩, Own.nil, by simp⟩
  · have hlt := h.lt g rfl
    refine ⟨[g], ⟨by omega, by rw [flat_length]; omega, .inr ⟨g, 0, by omega, rfl, rfl, fun i hi => ?_⟩⟩, ⟨by simp, fun b hb o => ?_, fun b hb => ?_⟩, by simp⟩
    · rw [Nat.zero_add, h.cellAt i (by omega)]
      simp [List.getElem?_eq_getElem (show i < (flat ps).length by rw [flat_length]; omega)]
    · obtain rfl : b = g := by simpa using hb
      exact h.frozenAt o
    · obtain rfl : b = g := by simpa using hb
      exact hlt.1
/-- What is known of a slice's room. -/
abbrev Capd (a : Option Addr) (l c : Nat) : Prop := (a = none → c = 0) ∧ l ≤ c
def NewP (w : World) (ps : Sp) (e : Ending) (w' : World) : Prop :=
  ∃ a len cap F, e = .returned (.slice a len cap) ∧ RdP w' a len ps F ∧ Own w.heap.size w' F ∧ Below w.heap.size w w' ∧ Capd a len cap
/-- The same, and the room behind it is no less than its length. -/
def NewPc (w : World) (ps : Sp) (e : Ending) (w' : World) : Prop :=
  ∃ a len cap F, e = .returned (.slice a len cap) ∧ RdP w' a len ps F ∧ Own w.heap.size w' F ∧ Below w.heap.size w w' ∧ (a = none → cap = 0) ∧ len ≤ cap
theorem NewPc.p {w : World} {ps : Sp} {e : Ending} {w' : World} (h : NewPc w ps e w') : NewP w ps e w' := by
  obtain ⟨a, len, cap, F, h1, h2, h3, h4, h5, h6⟩ := h
  exact ⟨a, len, cap, F, h1, h2, h3, h4, h5, h6⟩
theorem infoSpan : (Try.prog.info? 68).map (fun i => (i.zero, i.size, i.bytes)) = some (some (.agg #[.int .i64 0, .int .i64 0]), 2, 16) := by kernel_rfl
def tcv (xs : List Int) : Array Value := (xs.map (Value.int .i64)).toArray
theorem tcv_get {xs : List Int} {i : Nat} (h : i < xs.length) : (tcv xs)[i]? = some (.int .i64 (xs.getD i 0)) := by simp [tcv, h]
theorem tcv_set (xs : List Int) (i : Nat) (x : Int) : (tcv xs).setIfInBounds i (.int .i64 x) = tcv (xs.set i x) := by simp [tcv]
theorem rdI_tcv {W : World} {g n : Nat} {xs : List Int} {t : TypeId} (h : Blk W g (tcv xs) t) (hn : xs.length = n) (hp : 0 < n) : RdI W (some ⟨g, 0, none⟩) n xs [g] :=
  ⟨hn, .inr ⟨g, 0, hp, rfl, rfl, fun i hi => by rw [Nat.zero_add, h.cell, tcv_get (by omega)]⟩⟩
theorem own_blk {w : World} {B e s n g : Nat} {xs : List Value} (h : w.ownsRow B e s (.slice (some ⟨g, 0, none⟩) n n) n xs) (hn : 0 < n) : Blk w g xs.toArray e := by
  rcases h.2 with ⟨_, h0⟩ | ⟨g', cap, cur, e1, _, hg, h1, h2, h3, h4⟩
  · omega
  · cases e1
    have e2 : cur.toList = xs := by
      have e3 : cur.toList.take (n * s) = cur.toList := List.take_of_length_le (by rw [Array.length_toList]; omega)
      rw [e3] at h4
      exact h4
    rw [← e2]
    exact hg
/-- What a copy holds behind k rounds. -/
def halfP (ps : Sp) (k len : Nat) : List Int := flat (ps.take k) ++ List.replicate (2 * (len - k)) 0
theorem halfP_zero (ps : Sp) (len : Nat) : halfP ps 0 len = List.replicate (2 * len) 0 := by simp [halfP, flat]
theorem halfP_end (ps : Sp) (len : Nat) (h : ps.length = len) : halfP ps len len = flat ps := by simp [halfP, List.take_of_length_le (Nat.le_of_eq h)]
theorem takeP_succ (ps : Sp) (k : Nat) (hk : k < ps.length) : ps.take (k + 1) = ps.take k ++ [ps[k]?.getD (0, 0)] := by
  rw [List.take_add_one, List.getElem?_eq_getElem hk]; rfl
theorem halfP_length (ps : Sp) (k len : Nat) (h : ps.length = len) (hk : k ≤ len) : (halfP ps k len).length = 2 * len := by
  simp [halfP, flat_length]; omega
theorem halfP_step (ps : Sp) (k len : Nat) (h : ps.length = len) (hk : k < len) : ((halfP ps k len).set (k * 2) (ps[k]?.getD (0, 0)).1).set (k * 2 + 1) (ps[k]?.getD (0, 0)).2 = halfP ps (k + 1) len := by
  unfold halfP
  have hkl : (flat (ps.take k)).length = k * 2 := by rw [flat_length]; simp; omega
  rw [List.set_append_right (k * 2) _ (by omega), hkl, Nat.sub_self, takeP_succ ps k (by omega), flat_append]
  have e : List.replicate (2 * (len - k)) (0 : Int) = 0 :: 0 :: List.replicate (2 * (len - (k + 1))) 0 := by
    rw [show 2 * (len - k) = 2 * (len - (k + 1)) + 1 + 1 by omega]; rfl
  rw [e, List.set_append_right (k * 2 + 1) _ (by omega), hkl, show k * 2 + 1 - k * 2 = 1 by omega]
  simp [flat]
theorem made_flat (len : Nat) : (madeCells (Value.agg #[Value.int IntKind.i64 0, Value.int IntKind.i64 0]).cells (len * 2)).toList.toArray = tcv (List.replicate (2 * len) 0) := by
  have hz : ∀ j, (Value.agg #[Value.int IntKind.i64 0, Value.int IntKind.i64 0]).cells[j % (Value.agg #[Value.int IntKind.i64 0, Value.int IntKind.i64 0]).cells.size]! = Value.int .i64 0 := fun j => by
    have hj : j % 2 = 0 ∨ j % 2 = 1 := by omega
    rcases hj with e | e <;> simp [Value.cells, e]
  apply Array.ext
  · simp [madeCells, tcv]; omega
  · intro i h1 h2
    simp only [madeCells, tcv] at h1 h2 ⊢
    simp only [List.getElem_toArray, Array.getElem_toList, Array.getElem_map, List.getElem_map, List.getElem_replicate]
    exact hz _
end Go.Proofs.Ytbmbmnhamogghab
/- The walks through the helpers of the laws over slices of spans: weighing, comparing, marking, looking whether the marks stand. No statement of the seat is proved here. -/
namespace Go.Proofs.Ytbmbmnhamogghab
open Go.RowKit
theorem eqP_step {xs ys : Sp} {k : Nat} (hl : xs.length = ys.length) (hk : k < xs.length) (h : xs.take k = ys.take k) (he : xs[k]?.getD (0, 0) = ys[k]?.getD (0, 0)) : xs.take (k + 1) = ys.take (k + 1) := by
  rw [takeP_succ xs k hk, takeP_succ ys k (by omega), h, he]
theorem neP_of_at {xs ys : Sp} {k : Nat} (he : ¬ xs[k]?.getD (0, 0) = ys[k]?.getD (0, 0)) : decide (xs = ys) = false := by
  rw [decide_eq_false_iff_not]; intro e; subst e; exact he rfl
theorem eqP_end {xs ys : Sp} {k : Nat} (hx : xs.length = k) (hy : ys.length = k) (h : xs.take k = ys.take k) : decide (xs = ys) = true := by
  rw [decide_eq_true_iff]
  rw [List.take_of_length_le (Nat.le_of_eq hx), List.take_of_length_le (Nat.le_of_eq hy)] at h
  exact h
/-- Two spans lie in memory. -/
def TwoAt (b1 p1 b2 p2 : Nat) (x y x' y' : Int) (W : World) : Prop := (W.cell? ⟨b1, p1, none⟩ = some (.int .i64 x) ∧ W.cell? ⟨b1, p1 + 1, none⟩ = some (.int .i64 y)) ∧ W.cell? ⟨b2, p2, none⟩ = some (.int .i64 x') ∧ W.cell? ⟨b2, p2 + 1, none⟩ = some (.int .i64 y')
theorem TwoAt.below {b1 p1 b2 p2 : Nat} {x y x' y' : Int} {W W' : World} (h : TwoAt b1 p1 b2 p2 x y x' y' W) (hb : Below W.heap.size W W') : TwoAt b1 p1 b2 p2 x y x' y' W' :=
  ⟨⟨(hb.cell (World.block_lt_of_cell? _ _ h.1.1)).trans h.1.1, (hb.cell (World.block_lt_of_cell? _ _ h.1.2)).trans h.1.2⟩, (hb.cell (World.block_lt_of_cell? _ _ h.2.1)).trans h.2.1, (hb.cell (World.block_lt_of_cell? _ _ h.2.2)).trans h.2.2⟩
theorem MarkingI.step2 {B : Nat} {w wr : World} {b off len : Nat} {k : Int} {zs : List Int} {j : Nat} (h : MarkingI B w (some ⟨b, off, none⟩) (2 * len) k zs (2 * j) [b] wr) (hl : zs.length = 2 * len) (hj : j < len) :
    MarkingI B w (some ⟨b, off, none⟩) (2 * len) k zs (2 * (j + 1)) [b] ((wr.setCell ⟨b, off + j * 2, none⟩ (.int .i64 (k + 2 * j))).setCell ⟨b, off + j * 2 + 1, none⟩ (.int .i64 (k + 2 * j + 1))) := by
  have h1 := h.step hl (by omega)
  have h2 := h1.step hl (by omega)
  rw [show off + (2 * j + 1) = off + j * 2 + 1 by omega, show off + 2 * j = off + j * 2 by omega] at h2
  rw [show k + ((2 * j : Nat) : Int) = k + 2 * (j : Int) by omega, show k + ((2 * j + 1 : Nat) : Int) = k + 2 * (j : Int) + 1 by omega] at h2
  exact h2
/-- The marks that a slice of spans bears. -/
structure MarkedP (B : Nat) (w : World) (a : Option Addr) (len : Nat) (k : Int) (F : List Nat) (w' : World) : Prop where
  rd : RdI w' a (2 * len) (marksI k (2 * len)) F
  own : Own B w' F
  only : Only F w w'
end Go.Proofs.Ytbmbmnhamogghab
/- A slice of spans that comes in as an argument: what it holds. No statement of the seat is proved here. -/
namespace Go.Proofs.Ytbmbmnhamogghab
open Go.RowKit Go.WideShapes Go.ChangeShapes Go.ChangeAt Go.Deep
theorem sp_addr {w : World} {x : Addr} {v : Value} (h : w.cell? (x.add (0 * 2)) = some v) : ∃ b off, x = ⟨b, off, none⟩ := by
  obtain ⟨b, off, spot⟩ := x
  have hspot : spot = none := by simpa [Addr.add] using World.cell?_spot h
  subst hspot
  exact ⟨b, off, rfl⟩
theorem sp_add (b off i : Nat) : (⟨b, off, none⟩ : Addr).add i = ⟨b, off + i, none⟩ := by unfold Addr.add; split <;> simp_all
/-- Each number fits 64 bits. -/
def Fit64 (x : Int) : Prop := -9223372036854775808 ≤ x ∧ x ≤ 9223372036854775807
def Sp.fit (ps : Sp) : Prop := ∀ p ∈ ps, Fit64 p.1 ∧ Fit64 p.2
theorem flat_range (n : Nat) (f g : Nat → Int) : ∀ i, i < n → ((List.range n).map fun i => (f i, g i))[i]?.getD (0, 0) = (f i, g i) := fun i hi => by simp [hi]
theorem rdP_mk {W : World} {b off len : Nat} (ps : Sp) (hl : ps.length = len) (hp : 0 < len) (h : ∀ i, i < len → W.cell? ⟨b, off + i * 2, none⟩ = some (.int .i64 (ps[i]?.getD (0, 0)).1) ∧ W.cell? ⟨b, off + i * 2 + 1, none⟩ = some (.int .i64 (ps[i]?.getD (0, 0)).2)) : RdP W (some ⟨b, off, none⟩) len ps [b] := by
  refine ⟨hl, by rw [flat_length, hl], .inr ⟨b, off, by omega, rfl, rfl, fun j hj => ?_⟩⟩
  rw [List.getD_eq_getElem?_getD]
  have hj2 : j = 2 * (j / 2) ∨ j = 2 * (j / 2) + 1 := by omega
  rcases hj2 with e | e
  · rw [e, flat_lo, show off + 2 * (j / 2) = off + j / 2 * 2 by omega]
    exact (h (j / 2) (by omega)).1
  · rw [e, flat_hi, show off + (2 * (j / 2) + 1) = off + j / 2 * 2 + 1 by omega]
    exact (h (j / 2) (by omega)).2
end Go.Proofs.Ytbmbmnhamogghab
/- A part of a whole struct, out of memory and into it. No statement of the seat is proved here. -/
namespace Go.Proofs.Ytbmbmnhamogghab
open Go.RowKit
/-- The cells of a part; what a part that is stored leaves. -/
def cutOf (cs : Array Value) (off n : Nat) : Array Value := ((cs.toList.drop off).take n).toArray
def cutIn (cs : Array Value) (off : Nat) (ds : Array Value) : Array Value := (cs.toList.take off ++ ds.toList ++ cs.toList.drop (off + ds.size)).toArray
section
variable {P : Program} {ops : Array Oper} {Q : Exit → Act → World → Prop} {rest : List Oper} {a : Act} {w : World} {x y : Operand} {o : Oper}
theorem run_loadVar_cut (w : World) (g off n : Nat) (t ty : TypeId) (cs : Array Value) (d : TypeDesc) (hg : Blk w g cs t) (hu : P.underlying ty = some d) (hd : (match d with | .struct _ | .array _ _ => true | _ => false) = true) (hi : (P.info? ty).map (·.size) = some n) (hfit : off + n ≤ cs.size) :
    (loadVar ty ⟨g, off, none⟩).run P w = .ok (.agg (cutOf cs off n)) w := by
  have hlen : ((cs.toList.drop off).take n).length = n := by simp; omega
  have hl := run_loadCells_list (P := P) w ⟨g, off, none⟩ ((cs.toList.drop off).take n) (fun j v hv => by
      have hadd : (⟨g, off, none⟩ : Addr).add j = ⟨g, off + j, none⟩ := by unfold Addr.add; split <;> simp_all
      have hj : j < n := by rw [← hlen]; exact (List.getElem?_eq_some_iff.1 hv).1
      rw [hadd, hg.cell]
      rw [List.getElem?_take, if_pos hj, List.getElem?_drop] at hv
      simpa using hv)
  rw [hlen] at hl
  cases hq : P.info? ty with
  | none => simp [hq] at hi
  | some i =>
    have hs : i.size = n := by simpa [hq] using hi
    have hagg : (isAgg ty).run P w = .ok true w := by
      unfold isAgg
      rw [Sem.run_bind, run_underlying hu w]
      cases d <;> simp_all
    simp only [loadVar, Sem.run_bind, hagg, sizeOf, typeInfo, Result.andThen_ok, if_true]
    simp [cutOf, hq, hs, hl]
theorem load_cut (ty : TypeId) (g off n : Nat) (cs ds : Array Value) (t : TypeId) (d : TypeDesc) (hg : Blk w g cs t) (hgd : o.guard = none) (ho : o.op = .load ty x) (hx : a.eval x = .pointer (some ⟨g, off, none⟩))
    (hu : P.underlying ty = some d) (hd : (match d with | .struct _ | .array _ _ => true | _ => false) = true) (hi : (P.info? ty).map (·.size) = some n) (hfit : off + n ≤ cs.size) (hds : cutOf cs off n = ds)
    (h : wpList P ops Q rest (a.put o.dst (.agg ds)) w) : Stop (wpList P ops Q (o :: rest) a w) := by
  subst hds
  refine wpList_plain hgd fun K hK => ?_
  unfold Oper.wp execOp
  simp only [ho, hx, Instr.loadAt, Instr.sureAddr, Sem.run_bind, Sem.run_pure, Result.andThen_ok, run_loadVar_cut w g off n t ty cs d hg hu hd hi hfit]
  exact hK _ _ h
theorem load_cutw (ty : TypeId) (g off n : Nat) (cs ds : Array Value) (t : TypeId) (d : TypeDesc) (hg : Blk w g cs t) (hw : Region.wanted o (yielded ops a.tmps) = true) (ho : o.op = .load ty x) (hx : a.eval x = .pointer (some ⟨g, off, none⟩))
    (hu : P.underlying ty = some d) (hd : (match d with | .struct _ | .array _ _ => true | _ => false) = true) (hi : (P.info? ty).map (·.size) = some n) (hfit : off + n ≤ cs.size) (hds : cutOf cs off n = ds)
    (h : wpList P ops Q rest (a.put o.dst (.agg ds)) w) : Stop (wpList P ops Q (o :: rest) a w) := by
  subst hds
  refine wpList_step fun K hK => ?_
  rw [if_pos hw]
  unfold Oper.wp execOp
  simp only [ho, hx, Instr.loadAt, Instr.sureAddr, Sem.run_bind, Sem.run_pure, Result.andThen_ok, run_loadVar_cut w g off n t ty cs d hg hu hd hi hfit]
  exact hK _ _ h
theorem run_storeVar_cut (w : World) (g off : Nat) (t ty : TypeId) (cs ds : Array Value) (hg : Blk w g cs t) (hi : (P.info? ty).map (·.size) = some ds.size) (hfit : off + ds.size ≤ cs.size) (h1 : ds.all (·.oneCell') = true) :
    (storeVar ty ⟨g, off, none⟩ (.agg ds)).run P w = .ok () (w.setRow g (cutIn cs off ds)) := by
  have := run_storeCells_at P g off t ds.toList 0 cs w hg (by simpa using hfit) (fun v hv => (Array.all_eq_true_iff_forall_mem.1 h1) v (by simpa using hv))
  cases hq : P.info? ty with
  | none => simp [hq] at hi
  | some i =>
    have hs : i.size = ds.size := by simpa [hq] using hi
    simp [storeVar, Value.cells, sizeOf, typeInfo, hq, hs, this, cutIn]
theorem store_cut (ty : TypeId) (g off : Nat) (cs ds es : Array Value) (t : TypeId) (hg : Blk w g cs t) (hgd : o.guard = none) (ho : o.op = .store ty x y) (hx : a.eval x = .pointer (some ⟨g, off, none⟩)) (hy : a.eval y = .agg ds)
    (hi : (P.info? ty).map (·.size) = some ds.size) (hfit : off + ds.size ≤ cs.size) (h1 : ds.all (·.oneCell') = true) (hes : cutIn cs off ds = es)
    (h : wpList P ops Q rest (a.put o.dst undef) (w.setRow g es)) : Stop (wpList P ops Q (o :: rest) a w) := by
  subst hes
  refine wpList_plain hgd fun K hK => ?_
  unfold Oper.wp execOp
  simp only [ho, hx, hy, Instr.storeAt, Instr.sureAddr, Sem.run_bind, Sem.run_pure, Result.andThen_ok, run_storeVar_cut w g off t ty cs ds hg hi hfit h1]
  exact hK _ _ h
variable {S : World → Prop}
/-- A part of a struct that nobody in the region writes. -/
theorem yields_cut (ty : TypeId) (g off n : Nat) (cs ds : Array Value) (t : TypeId) (d : TypeDesc) (hw : Region.wanted o (yielded ops a.tmps) = true) (ho : o.op = .load ty x) (hx : a.eval x = .pointer (some ⟨g, off, none⟩)) (hu : P.underlying ty = some d) (hd : (match d with | .struct _ | .array _ _ => true | _ => false) = true)
    (hi : (P.info? ty).map (·.size) = some n) (hfit : off + n ≤ cs.size) (hds : cutOf cs off n = ds) (hS : ∀ W, S W → Blk W g cs t) : YieldsIf P ops S o (.agg ds) a :=
  .inl ⟨hw, fun W hW => by
    subst hds
    unfold execOp
    simp only [ho, hx, Instr.loadAt, Instr.sureAddr, Sem.run_bind, Sem.run_pure, Result.andThen_ok, run_loadVar_cut W g off n t ty cs d (hS W hW) hu hd hi hfit]⟩
end
end Go.Proofs.Ytbmbmnhamogghab
/- Items and entries, as plain data. No statement of the seat is proved here. -/
namespace Go.Proofs.Ytbmbmnhamogghab
open Go.RowKit
structure It where
  seq : Int
  cls : Int
  key : Int
  window : Int
  sk : Sk
  deriving DecidableEq
structure En where
  key : Int
  window : Int
  ids : Sp
  sk : Sk
  deriving DecidableEq
/-- An item's value that can be read. -/
def RdIt (w : World) (v : Value) (x : It) (F : List Nat) : Prop :=
  ∃ a1 n1 c1 a2 n2 c2 a3 n3 c3, v = .agg #[.int .i64 x.seq, .int .i64 x.cls, .int .i64 x.key, .int .i64 x.window, .int .i64 x.sk.count, .int .i64 x.sk.sum, .int .i64 x.sk.min, .int .i64 x.sk.max, .slice a1 n1 c1, .slice a2 n2 c2, .slice a3 n3 c3] ∧
    RdSk w (.agg #[.int .i64 x.sk.count, .int .i64 x.sk.sum, .int .i64 x.sk.min, .int .i64 x.sk.max, .slice a1 n1 c1, .slice a2 n2 c2, .slice a3 n3 c3]) x.sk F
/-- An entry's value that can be read; F: its numbers' block, G: its summary's. -/
def RdEn (w : World) (v : Value) (e : En) (F G : List Nat) : Prop :=
  ∃ b l c a1 n1 c1 a2 n2 c2 a3 n3 c3, v = .agg #[.int .i64 e.key, .int .i64 e.window, .slice b l c, .int .i64 e.sk.count, .int .i64 e.sk.sum, .int .i64 e.sk.min, .int .i64 e.sk.max, .slice a1 n1 c1, .slice a2 n2 c2, .slice a3 n3 c3] ∧
    RdP w b l e.ids F ∧ RdSk w (.agg #[.int .i64 e.sk.count, .int .i64 e.sk.sum, .int .i64 e.sk.min, .int .i64 e.sk.max, .slice a1 n1 c1, .slice a2 n2 c2, .slice a3 n3 c3]) e.sk G ∧ Capd b l c
theorem RdIt.agree {w w' : World} {v : Value} {x : It} {F : List Nat} (h : RdIt w v x F) (ha : Agree w w' F) : RdIt w' v x F := by
  obtain ⟨a1, n1, c1, a2, n2, c2, a3, n3, c3, hv, hr⟩ := h
  exact ⟨a1, n1, c1, a2, n2, c2, a3, n3, c3, hv, hr.agree ha⟩
theorem RdIt.lt {w : World} {v : Value} {x : It} {F : List Nat} (h : RdIt w v x F) : ∀ b ∈ F, b < w.heap.size := by
  obtain ⟨a1, n1, c1, a2, n2, c2, a3, n3, c3, hv, hr⟩ := h
  exact hr.lt
theorem RdIt.below {w w' : World} {v : Value} {x : It} {F : List Nat} (h : RdIt w v x F) (hb : Below w.heap.size w w') : RdIt w' v x F := h.agree (.below hb h.lt)
theorem RdEn.agree {w w' : World} {v : Value} {e : En} {F G : List Nat} (h : RdEn w v e F G) (ha : Agree w w' F) (hg : Agree w w' G) : RdEn w' v e F G := by
  obtain ⟨b, l, c, a1, n1, c1, a2, n2, c2, a3, n3, c3, hv, hp, hr, hcp⟩ := h
  exact ⟨b, l, c, a1, n1, c1, a2, n2, c2, a3, n3, c3, hv, hp.agree ha, hr.agree hg, hcp⟩
theorem RdEn.lt1 {w : World} {v : Value} {e : En} {F G : List Nat} (h : RdEn w v e F G) : ∀ b ∈ F, b < w.heap.size := by
  obtain ⟨b, l, c, a1, n1, c1, a2, n2, c2, a3, n3, c3, hv, hp, hr, _⟩ := h
  exact hp.lt
theorem RdEn.lt2 {w : World} {v : Value} {e : En} {F G : List Nat} (h : RdEn w v e F G) : ∀ b ∈ G, b < w.heap.size := by
  obtain ⟨b, l, c, a1, n1, c1, a2, n2, c2, a3, n3, c3, hv, hp, hr, _⟩ := h
  exact hr.lt
theorem RdEn.below {w w' : World} {v : Value} {e : En} {F G : List Nat} (h : RdEn w v e F G) (hb : Below w.heap.size w w') : RdEn w' v e F G := h.agree (.below hb h.lt1) (.below hb h.lt2)
def NewIt (w : World) (x : It) (e : Ending) (w' : World) : Prop := ∃ v F, e = .returned v ∧ RdIt w' v x F ∧ Own w.heap.size w' F ∧ Below w.heap.size w w'
def NewEn (w : World) (x : En) (e : Ending) (w' : World) : Prop := ∃ v F G, e = .returned v ∧ RdEn w' v x F G ∧ Own w.heap.size w' F ∧ Own w.heap.size w' G ∧ (∀ b ∈ F, b ∉ G) ∧ Below w.heap.size w w'
def NewEn2 (w : World) (x : En) (d : Bool) (e : Ending) (w' : World) : Prop := ∃ v F G, e = .returned (.tuple #[v, .bool d]) ∧ RdEn w' v x F G ∧ Own w.heap.size w' F ∧ Own w.heap.size w' G ∧ (∀ b ∈ F, b ∉ G) ∧ Below w.heap.size w w'
theorem It.eq_of {x y : It} (h1 : x.seq = y.seq) (h2 : x.cls = y.cls) (h3 : x.key = y.key) (h4 : x.window = y.window) (h5 : x.sk = y.sk) : x = y := by
  cases x; cases y; simp_all
theorem En.eq_of {x y : En} (h1 : x.key = y.key) (h2 : x.window = y.window) (h3 : x.ids = y.ids) (h4 : x.sk = y.sk) : x = y := by
  cases x; cases y; simp_all
end Go.Proofs.Ytbmbmnhamogghab
/- The walks through the helpers of the laws over items: making, weighing, comparing. No statement of the seat is proved here. -/
namespace Go.Proofs.Ytbmbmnhamogghab
open Go.RowKit
theorem Agree.row {w : World} {F : List Nat} {g : Nat} (hg : g ∉ F) (ds : Array Value) : Agree w (w.setRow g ds) F := fun b hb => setRow_other w g b ds (fun e => hg (e ▸ hb))
theorem RdSk.cells7 {w : World} {v : Value} {s : Sk} {F : List Nat} (h : RdSk w v s F) : ∃ a1 n1 c1 a2 n2 c2 a3 n3 c3, v = .agg #[.int .i64 s.count, .int .i64 s.sum, .int .i64 s.min, .int .i64 s.max, .slice a1 n1 c1, .slice a2 n2 c2, .slice a3 n3 c3] := by
  obtain ⟨a1, n1, c1, a2, n2, c2, a3, n3, c3, F1, F2, F3, rfl, _⟩ := h
  exact ⟨a1, n1, c1, a2, n2, c2, a3, n3, c3, rfl⟩
theorem one7 (p q r s : Int) (a1 : Option Addr) (n1 c1 : Nat) (a2 : Option Addr) (n2 c2 : Nat) (a3 : Option Addr) (n3 c3 : Nat) : (#[Value.int .i64 p, .int .i64 q, .int .i64 r, .int .i64 s, .slice a1 n1 c1, .slice a2 n2 c2, .slice a3 n3 c3] : Array Value).all (·.oneCell') = true := by
  simp [Value.oneCell']
theorem infoSkI : (Try.prog.info? 28).map (·.size) = some 7 := by kernel_rfl
end Go.Proofs.Ytbmbmnhamogghab
/- The walks through more helpers of the laws over items and entries. No statement of the seat is proved here. -/
namespace Go.Proofs.Ytbmbmnhamogghab
open Go.RowKit
end Go.Proofs.Ytbmbmnhamogghab
/- Chapter 2 over whole numbers: sums that stop, binary digits, buckets, noughts at the end. No statement of the seat is proved here. -/
namespace Go.Proofs.Ytbmbmnhamogghab
open Go.RowKit

def clip (n m : Int) : Int := if n < 0 then 0 else if m < n then m else n
def addN (a b : Int) : Int := if 1000000000 < clip a 1000000000 + clip b 1000000000 then 1000000000 else clip a 1000000000 + clip b 1000000000
theorem clip_range (n m : Int) (h : 0 ≤ m) : 0 ≤ clip n m ∧ clip n m ≤ m := by
  unfold clip
  by_cases h1 : n < 0 <;> by_cases h2 : m < n <;> simp only [h1, h2, if_true, if_false] <;> omega
theorem clip_mono (a b m : Int) (hm : 0 ≤ m) (h : a ≤ b) : clip a m ≤ clip b m := by
  unfold clip
  by_cases h1 : a < 0 <;> by_cases h2 : b < 0 <;> by_cases h3 : m < a <;> by_cases h4 : m < b <;> simp only [h1, h2, h3, h4, if_true, if_false] <;> omega
theorem clip_id (n m : Int) (h0 : 0 ≤ n) (h1 : n ≤ m) : clip n m = n := by unfold clip; rw [if_neg (by omega), if_neg (by omega)]
theorem addN_range (a b : Int) : 0 ≤ addN a b ∧ addN a b ≤ 1000000000 := by
  have h1 := clip_range a 1000000000 (by omega)
  have h2 := clip_range b 1000000000 (by omega)
  unfold addN; split <;> omega
theorem addN_comm (a b : Int) : addN a b = addN b a := by
  unfold addN; rw [Int.add_comm]
theorem addN_assoc (a b d : Int) : addN (addN a b) d = addN a (addN b d) := by
  have e1 := clip_id (addN a b) 1000000000 (addN_range a b).1 (addN_range a b).2
  have e2 := clip_id (addN b d) 1000000000 (addN_range b d).1 (addN_range b d).2
  have h1 := clip_range a 1000000000 (by omega)
  have h2 := clip_range b 1000000000 (by omega)
  have h3 := clip_range d 1000000000 (by omega)
  unfold addN at e1 e2 ⊢
  rw [e1, e2]
  generalize clip a 1000000000 = x at *
  generalize clip b 1000000000 = y at *
  generalize clip d 1000000000 = z at *
  clear e1 e2
  by_cases c1 : 1000000000 < x + y
  · rw [if_pos c1]
    by_cases c2 : 1000000000 < y + z
    · rw [if_pos c2]; split <;> split <;> omega
    · rw [if_neg c2]; split <;> split <;> omega
  · rw [if_neg c1]
    by_cases c2 : 1000000000 < y + z
    · rw [if_pos c2]; split <;> split <;> omega
    · rw [if_neg c2]; split <;> split <;> omega

/-! ### the mixed number -/
def pre (n : Int) : Int := (clip n 1000000 * 40503 + 12345) % 65536
def mixN (n : Int) : Int := bits .xor .i64 (pre n) (pre n / 256)
theorem pre_range (n : Int) : 0 ≤ pre n ∧ pre n < 65536 := by unfold pre; omega
theorem xor64s (a b : Nat) (ha : a < 65536) (hb : b < 65536) : bits .xor .i64 (a : Int) (b : Int) = ((a ^^^ b : Nat) : Int) ∧ a ^^^ b < 65536 := by
  have hx : a ^^^ b < 65536 := Nat.xor_lt_two_pow (n := 16) ha hb
  refine ⟨?_, hx⟩
  have ea : (BitVec.ofInt 64 (a : Int)).toNat = a := by rw [BitVec.toNat_ofInt]; omega
  have eb : (BitVec.ofInt 64 (b : Int)).toNat = b := by rw [BitVec.toNat_ofInt]; omega
  have e : ((BitVec.ofInt 64 (a : Int)) ^^^ (BitVec.ofInt 64 (b : Int))).toNat = a ^^^ b := by
    rw [BitVec.toNat_xor, ea, eb]
  show IntKind.i64.wrap (((BitVec.ofInt 64 (a : Int)) ^^^ (BitVec.ofInt 64 (b : Int))).toNat : Int) = _
  rw [e]
  generalize a ^^^ b = c at *
  simp [IntKind.wrap, IntKind.bits, IntKind.signed]
  omega
theorem mixN_range (n : Int) : 0 ≤ mixN n ∧ mixN n < 65536 := by
  obtain ⟨h0, h1⟩ := pre_range n
  unfold mixN
  generalize pre n = x at *
  obtain ⟨a, rfl⟩ := Int.eq_ofNat_of_zero_le h0
  have e : (a : Int) / 256 = ((a / 256 : Nat) : Int) := by omega
  rw [e]
  have := xor64s a (a / 256) (by omega) (by omega)
  rw [this.1]; omega

/-! ### binary digits -/
def digs (n : Nat) : Nat := if n = 0 then 0 else digs (n / 2) + 1
  termination_by n
  decreasing_by omega
theorem digs_zero : digs 0 = 0 := by rw [digs]; simp
theorem digs_pos (n : Nat) (h : 0 < n) : digs n = digs (n / 2) + 1 := by rw [digs, if_neg (by omega)]
theorem digs_lt (n : Nat) : ∀ k, k < digs n ↔ 0 < n / 2 ^ k := by
  induction n using digs.induct with
  | case1 => intro k; rw [digs_zero]; simp
  | case2 n h ih =>
    intro k
    rw [digs_pos n (by omega)]
    cases k with
    | zero => simp; omega
    | succ k =>
      have e : n / 2 ^ (k + 1) = n / 2 / 2 ^ k := by rw [Nat.pow_succ, Nat.mul_comm, Nat.div_div_eq_div_mul]
      rw [e, ← ih k]; omega
theorem digs_le (n k : Nat) : k < digs n ↔ 2 ^ k ≤ n := by
  rw [digs_lt, Nat.div_pos_iff]
  have : 0 < 2 ^ k := Nat.two_pow_pos k
  exact ⟨fun h => h.2, fun h => ⟨this, h⟩⟩
theorem digs_mono (a b : Nat) (h : a ≤ b) : digs a ≤ digs b := by
  rcases Nat.lt_or_ge (digs b) (digs a) with h' | h'
  · have h1 := (digs_le a (digs b)).1 h'
    have h2 := (digs_le b (digs b)).2 (by omega)
    omega
  · exact h'
theorem digs_top (n : Nat) (h : n ≤ 1000000) : digs n ≤ 20 := by
  rcases Nat.lt_or_ge 20 (digs n) with h' | h'
  · have := (digs_le n 20).1 h'; omega
  · exact h'
def bucketN (v : Int) : Int := ((digs (clip v 1000000).toNat + 2) / 3 : Nat)
theorem bucketN_range (v : Int) : 0 ≤ bucketN v ∧ bucketN v < 8 := by
  have h := clip_range v 1000000 (by omega)
  have := digs_top (clip v 1000000).toNat (by omega)
  unfold bucketN; omega
theorem bucketN_mono (a b : Int) (h : a ≤ b) : bucketN a ≤ bucketN b := by
  have h1 := clip_mono a b 1000000 (by omega) h
  have := digs_mono (clip a 1000000).toNat (clip b 1000000).toNat (by omega)
  unfold bucketN; omega
def lowN (k : Int) : Int := if k = 0 then 0 else if k = 1 then 1 else if k = 2 then 8 else if k = 3 then 64 else if k = 4 then 512 else if k = 5 then 4096 else if k = 6 then 32768 else if k = 7 then 262144 else -1
theorem digs_eq (n k : Nat) (h0 : 2 ^ k ≤ n) (h1 : n < 2 ^ (k + 1)) : digs n = k + 1 := by
  have a := (digs_le n k).2 h0
  have b : ¬ k + 1 < digs n := fun h => by have := (digs_le n (k + 1)).1 h; omega
  omega
theorem bucketN_nat (n : Nat) (h : n ≤ 1000000) : bucketN (n : Int) = ((digs n + 2) / 3 : Nat) := by
  unfold bucketN; rw [clip_id _ _ (by omega) (by omega)]; rfl
theorem low_parts (a : Int) (h0 : 0 ≤ a) (h1 : a ≤ 1000000) : lowN (bucketN a) ≤ a ∧ bucketN (lowN (bucketN a)) = bucketN a ∧ (bucketN a + 1 < 8 → a < lowN (bucketN a + 1)) := by
  obtain ⟨n, rfl⟩ := Int.eq_ofNat_of_zero_le h0
  have hr := bucketN_range (n : Int)
  have hb := bucketN_nat n (by omega)
  have hlt : ∀ k, bucketN (n : Int) ≤ (k : Nat) → n < 2 ^ (3 * k) := by
    intro k hk
    rcases Nat.lt_or_ge n (2 ^ (3 * k)) with h | h
    · exact h
    · have := (digs_le n (3 * k)).2 h; omega
  have hge : ∀ k, (k : Nat) + 1 ≤ bucketN (n : Int) → 2 ^ (3 * k) ≤ n := by
    intro k hk
    exact (digs_le n (3 * k)).1 (by omega)
  have hp : ∀ k : Nat, 2 ^ (3 * k) ≤ 1000000 → bucketN ((2 ^ (3 * k) : Nat) : Int) = k + 1 := by
    intro k hk
    rw [bucketN_nat _ hk, digs_eq (2 ^ (3 * k)) (3 * k) (Nat.le_refl _) (by rw [Nat.pow_succ]; have := Nat.two_pow_pos (3 * k); omega)]
    omega
  generalize bucketN (n : Int) = q at *
  clear hb
  have hq : q = 0 ∨ q = 1 ∨ q = 2 ∨ q = 3 ∨ q = 4 ∨ q = 5 ∨ q = 6 ∨ q = 7 := by omega
  rcases hq with rfl | rfl | rfl | rfl | rfl | rfl | rfl | rfl
  · have a := hlt 0 (by omega); have z : bucketN 0 = 0 := by rw [show (0 : Int) = ((0 : Nat) : Int) from rfl, bucketN_nat 0 (by omega), digs_zero]
    refine ⟨by simp [lowN], by simpa [lowN] using z, fun _ => by simp [lowN]; simp at a; omega⟩
  · have a := hlt 1 (by omega); have b := hge 0 (by omega); have z := hp 0 (by omega)
    refine ⟨by simp [lowN]; simp at b; omega, by simpa [lowN] using z, fun _ => by simp [lowN]; simp at a; omega⟩
  · have a := hlt 2 (by omega); have b := hge 1 (by omega); have z := hp 1 (by omega)
    refine ⟨by simp [lowN]; simp at b; omega, by simpa [lowN] using z, fun _ => by simp [lowN]; simp at a; omega⟩
  · have a := hlt 3 (by omega); have b := hge 2 (by omega); have z := hp 2 (by omega)
    refine ⟨by simp [lowN]; simp at b; omega, by simpa [lowN] using z, fun _ => by simp [lowN]; simp at a; omega⟩
  · have a := hlt 4 (by omega); have b := hge 3 (by omega); have z := hp 3 (by omega)
    refine ⟨by simp [lowN]; simp at b; omega, by simpa [lowN] using z, fun _ => by simp [lowN]; simp at a; omega⟩
  · have a := hlt 5 (by omega); have b := hge 4 (by omega); have z := hp 4 (by omega)
    refine ⟨by simp [lowN]; simp at b; omega, by simpa [lowN] using z, fun _ => by simp [lowN]; simp at a; omega⟩
  · have a := hlt 6 (by omega); have b := hge 5 (by omega); have z := hp 5 (by omega)
    refine ⟨by simp [lowN]; simp at b; omega, by simpa [lowN] using z, fun _ => by simp [lowN]; simp at a; omega⟩
  · have b := hge 6 (by omega); have z := hp 6 (by omega)
    refine ⟨by simp [lowN]; simp at b; omega, by simpa [lowN] using z, fun h => by omega⟩

/-! ### noughts at the end -/
def rk (x : Nat) : Nat := if x = 0 then 17 else if x % 2 = 1 then 1 else rk (x / 2) + 1
  termination_by x
  decreasing_by omega
theorem rk_zero : rk 0 = 17 := by rw [rk]; simp
theorem rk_odd (x : Nat) (h : x % 2 = 1) : rk x = 1 := by rw [rk, if_neg (by omega), if_pos h]
theorem rk_even (x : Nat) (h0 : 0 < x) (h : ¬ x % 2 = 1) : rk x = rk (x / 2) + 1 := by rw [rk, if_neg (by omega), if_neg h]
theorem rk_top (x : Nat) : ∀ k, 0 < x → x < 2 ^ k → 1 ≤ rk x ∧ rk x ≤ k := by
  induction x using rk.induct with
  | case1 => intro k h; omega
  | case2 x h0 h =>
    intro k _ hk
    rw [rk_odd x h]
    cases k with
    | zero => simp at hk; omega
    | succ k => omega
  | case3 x h0 h ih =>
    intro k _ hk
    cases k with
    | zero => simp at hk; omega
    | succ k =>
      rw [Nat.pow_succ] at hk
      have := ih k (by omega) (by omega)
      rw [rk_even x (by omega) h]
      omega
def rankN (n : Int) : Int := (rk (mixN n).toNat : Nat)
theorem rankN_range (n : Int) : 1 ≤ rankN n ∧ rankN n ≤ 17 := by
  have h := mixN_range n
  unfold rankN
  generalize mixN n = x at *
  by_cases h0 : x = 0
  · subst h0; rw [show (0 : Int).toNat = 0 from rfl, rk_zero]; omega
  · have := rk_top x.toNat 16 (by omega) (by omega)
    omega
end Go.Proofs.Ytbmbmnhamogghab
