/- For every byte slice (no condition): laws.FnMerged returns true, and its argument reads afterwards as it did: two summaries are merged in any order, what comes of it is right, and of one and nothing it is that one. -/
import Derived.Test.YtlapdamopclojaaLawBase
import Derived.Test.YtlapdamopclojaaSkDrawM
import Derived.Test.YtlapdamopclojaaSkAlg
import Derived.Test.YtlapdamopclojaaTallyG
import Derived.Test.YtlapdamopclojaaTallyN
import Derived.Test.YtlapdamopclojaaTallyI
import Derived.Test.YtlapdamopclojaaSkSameI
import Derived.Test.YtlapdamopclojaaRows
import Derived.WalkKit
import Derived.ProofKit
import Derived.OpenShut
import Derived.ShutString
import Derived.ChangeOld
import Derived.Below
namespace Go.Proofs.Ytlapdamopclojaa.fnMerged
open Go.ChangeShapes Go.WideShapes Go.ChangeAt Go.RowKit
open Go.ChangeMaps (open_string shut_string)
set_option linter.unusedVariables false

theorem own : ownKnob Try.prog.godebug = none := by kernel_rfl
theorem laidOut : laidOutB Try.prog = true := by kernel_rfl

/-- WHAT THE WALK IS TOLD OF A SLICE OF INTEGERS THAT CAME IN: it is nil; or it leads to a row of 'cap' cells, the numbers 'zs' (the first 'len' are its elements, the rest its spare room), each fitting its kind. -/
def IsRow (k : IntKind) (w : World) (a : Option Addr) (len cap : Nat) (zs : List Int) : Prop :=
  (a = none ∧ len = 0 ∧ cap = 0 ∧ zs = []) ∨
  ∃ x, a = some x ∧ len ≤ cap ∧ cap ≤ maxLen ∧ zs.length = cap ∧ (∀ i, i < zs.length → w.cell? (x.add i) = some (.int k (zs.getD i 0))) ∧ ∀ n ∈ zs, (Lit.int k n).wf = true

/-- A summary in a variable: its struct lies in block g. -/
structure VSk (W : World) (g : Nat) (cs : Array Value) (s : Sk) : Prop where
  blk : Blk W g cs 41
  rd : ∃ F, RdSk W (.agg cs) s F
  sz : cs.size = 7
theorem VSk.below {W W' : World} {g : Nat} {cs : Array Value} {s : Sk} (h : VSk W g cs s) (b : Below W.heap.size W W') : VSk W' g cs s := by
  obtain ⟨F, hF⟩ := h.rd
  exact ⟨h.blk.below b, ⟨F, hF.below b⟩, h.sz⟩
theorem VSk.fresh {W W' : World} {g : Nat} {cs : Array Value} {s : Sk} {F : List Nat} (r : RdSk W (.agg cs) s F) (sz : cs.size = 7) (k : Blk W' g cs 41) (b : Below W.heap.size W W') : VSk W' g cs s := ⟨k, ⟨F, r.below b⟩, sz⟩
theorem VSk.drew {W : World} {g : Nat} {cs : Array Value} {s : Sk} (h : VSk W g cs s) : VSk W.drew g cs s := h.below (Below.refl _ _).drew
theorem VSk.setRow {W : World} {g k : Nat} {cs ds : Array Value} {s : Sk} (h : VSk W g cs s) (hk : g ≠ k) (hl : ∃ F, RdSk W (.agg cs) s F ∧ k ∉ F) : VSk (W.setRow k ds) g cs s := by
  obtain ⟨F, hF, hn⟩ := hl
  exact ⟨h.blk.setRowOther hk, ⟨F, hF.agree (fun b hb => setRow_other W _ b _ (fun e => hn (e ▸ hb)))⟩, h.sz⟩
theorem mergeR_wides (s t : Sk) : (s.mergeR t).wide := by
  rcases mergeR_cases s t with e | ⟨e1, e2, x, y, e3, e4, e5⟩
  · rw [e]; exact ⟨by simp [Sk.zero], by simp [Sk.zero], by simp [Sk.zero], by simp [Sk.zero]⟩
  · refine ⟨by omega, by omega, by rw [e3]; simp, fun z hz => ?_⟩
    rw [e3] at hz
    simp at hz
    rcases hz with rfl | rfl <;> omega
theorem new_wide : Sk.new.wide := ⟨by decide, by decide, by decide, by decide⟩
theorem mergeR_ok {s t : Sk} (hs : s.ok = true) (ht : t.ok = true) : s.mergeR t = s.merge t := by unfold Sk.mergeR; rw [hs, ht]; rfl
theorem mergeR_not {s t : Sk} (h : (s.ok && t.ok) = false) : s.mergeR t = Sk.zero := by unfold Sk.mergeR; rw [h]; rfl
section
variable {P : Program} {ops : Array Oper} {Q : Exit → Act → World → Prop} {a : Act} {w : World} {o : Oper} {K : Act → World → Prop}
theorem op_call0 (f : FuncId) (ts : Array TypeId) (fn : Func) (R : Value → World → Prop) (hw : Region.wanted o (yielded ops a.tmps) = true) (ho : o.op = Op.call { callee := Callee.value (Operand.func f), args := #[], argTypes := ts })
    (hfn : P.funcs[f]? = some fn) (hnm : (fn.name == "runtime.NumGoroutine") = false) (hbd : fn.body.isNone = false) (hc : Calls P f #[] w fun e w' => ∃ v, e = .returned v ∧ R v w') (h : ∀ v w', R v w' → ∃ a', a.put o.dst v = a' ∧ K a' w') : if Region.wanted o (yielded ops a.tmps) = true then Oper.wp P o a w K Q else K (a.put o.dst undef) w := by
  rw [if_pos hw]
  have hnm' : ¬ fn.name = "runtime.NumGoroutine" := by simpa using hnm
  have hbd' : ¬ fn.body = none := by intro e; rw [e] at hbd; cases hbd
  unfold Oper.wp
  simp only [execOp, ho, resolve, invoke, Oper.upon, go_sem]
  simp [callFunc, hfn, hnm', hbd', go_sem]
  refine Calls.mono hc ?_
  rintro e w1 ⟨v, rfl, hR⟩
  obtain ⟨_, rfl, hk⟩ := h v w1 hR
  exact hk
end
theorem two_vars {y1 : World} {ca cb : Array Value} {s t : Sk} {Fa Fb : List Nat} (ra : RdSk y1 (.agg ca) s Fa) (rb : RdSk y1 (.agg cb) t Fb) (za : ca.size = 7) (zb : cb.size = 7) (Y : World) (hY : Y = (((y1.alloc (.cells #[.int .i64 0, .int .i64 0, .int .i64 0, .int .i64 0, .slice none 0 0, .slice none 0 0, .slice none 0 0] 41)).alloc (.cells #[.int .i64 0, .int .i64 0, .int .i64 0, .int .i64 0, .slice none 0 0, .slice none 0 0, .slice none 0 0] 41)).setRow y1.heap.size ca).setRow (y1.heap.size + 1) cb) : VSk Y y1.heap.size ca s ∧ VSk Y (y1.heap.size + 1) cb t ∧ Below y1.heap.size y1 Y := by
  subst hY
  obtain ⟨h0, h1, hb⟩ := two_made y1 #[.int .i64 0, .int .i64 0, .int .i64 0, .int .i64 0, .slice none 0 0, .slice none 0 0, .slice none 0 0] #[.int .i64 0, .int .i64 0, .int .i64 0, .int .i64 0, .slice none 0 0, .slice none 0 0, .slice none 0 0] 41 41
  have b : Below y1.heap.size y1 ((((y1.alloc (.cells #[.int .i64 0, .int .i64 0, .int .i64 0, .int .i64 0, .slice none 0 0, .slice none 0 0, .slice none 0 0] 41)).alloc (.cells #[.int .i64 0, .int .i64 0, .int .i64 0, .int .i64 0, .slice none 0 0, .slice none 0 0, .slice none 0 0] 41)).setRow y1.heap.size ca).setRow (y1.heap.size + 1) cb) := below_setRow (below_setRow hb (Nat.le_refl _) _) (by omega) _
  exact ⟨⟨h0.setRow.setRowOther (by omega), ⟨Fa, ra.below b⟩, za⟩, ⟨(h1.setRowOther (by omega)).setRow, ⟨Fb, rb.below b⟩, zb⟩, b⟩
/-- The merging with nothing, as the region that draws leaves it. -/
def ZOut (W : World) (s : Sk) (v0 : Value) (W' : World) : Prop := ∃ g cs, v0 = .pointer (some ⟨g, 0, none⟩) ∧ VSk W' g cs (s.mergeR Sk.new) ∧ Below W.heap.size W W'

set_option maxHeartbeats 16000000 in
set_option maxRecDepth 200000 in
theorem walk (a0 : Option Addr) (len0 cap0 : Nat) (z0 : List Int) (w : World) (w0 : IsRow .u8 w a0 len0 cap0 z0) :
    Calls Try.prog 5 #[.slice a0 len0 cap0] w fun e w' => e = .returned (.bool true) ∧ Below w.heap.size w w' := by
  obtain ⟨hR, hcap, hmax⟩ := rdOf w0
  generalize z0.take len0 = zs at hR
  clear w0
  by_cases hbig : (1048576 : Int) < (len0 : Int)
  · have hd : decide ((1048576 : Int) < (len0 : Int)) = true := by simpa using hbig
    clear hR hbig hcap hmax
    go_enter Try.func5, Try.ntmps5
    go_wp2_with fail
    refine (big_any _ _ _ _).mono ?_
    rintro e x1 ⟨rfl, rfl⟩
    rw [hd]
    go_wp2
    go_ret
    exact ⟨rfl, Below.refl _ _⟩
  · have hlen : len0 ≤ 1048576 := by omega
    have hd : decide ((1048576 : Int) < (len0 : Int)) = false := by simpa using hbig
    have HR : Hid (RdB w a0 len0 zs) := hR
    have HCap : Hid (len0 ≤ cap0 ∧ cap0 ≤ maxLen) := ⟨hcap, hmax⟩
    clear hR hbig hcap hmax
    go_enter Try.func5, Try.ntmps5
    go_wp2_with fail
    refine (big_any _ _ _ _).mono ?_
    rintro e x1 ⟨rfl, hx1⟩
    have hx1' := hx1.symm
    subst hx1'
    rw [hd]
    clear hd hx1
    go_wp2_with fail
    refine (drawMerge_any a0 len0 cap0 zs _ HR.out hlen).mono ?_
    rintro e y1 ⟨ca, s, Fa, cb, t, Fb, rfl, r1, f1, r2, f2, b1⟩
    obtain ⟨_, ec, e7, e1⟩ := r1.cells
    cases ec
    obtain ⟨_, ed, d7, d1⟩ := r2.cells
    cases ed
    have HA : Hid (RdSk y1 (.agg ca) s Fa ∧ ca.size = 7 ∧ ca.all (·.oneCell') = true) := ⟨r1, e7, e1⟩
    have HB : Hid (RdSk y1 (.agg cb) t Fb ∧ cb.size = 7 ∧ cb.all (·.oneCell') = true) := ⟨r2, d7, d1⟩
    have BEL : Hid (Below w.heap.size w y1) := b1
    have HW : Hid (s.wide ∧ t.wide) := ⟨full_wide f1, full_wide f2⟩
    clear r1 r2 f1 f2 b1 e7 e1 d7 d1
    go_wp2_with (first | go_skip | (with_reducible refine stopLoad 41 rfl ?_) | (with_reducible refine stopStore 41 rfl ?_))
    have tm := two_made y1 #[.int .i64 0, .int .i64 0, .int .i64 0, .int .i64 0, .slice none 0 0, .slice none 0 0, .slice none 0 0] #[.int .i64 0, .int .i64 0, .int .i64 0, .int .i64 0, .slice none 0 0, .slice none 0 0, .slice none 0 0] 41 41
    refine store_known 41 y1.heap.size _ ca 41 tm.1 rfl rfl rfl rfl (skSize HA.out.2.1) HA.out.2.1.symm HA.out.2.2 ?_
    go_wp2_with (first | go_skip | (with_reducible refine stopLoad 41 rfl ?_) | (with_reducible refine stopStore 41 rfl ?_))
    refine store_known 41 (y1.heap.size + 1) _ cb 41 (tm.2.1.setRowOther (by omega)) rfl rfl rfl rfl (skSize HB.out.2.1) HB.out.2.1.symm HB.out.2.2 ?_
    obtain ⟨y2, hy2⟩ : ∃ W, W = (((y1.alloc (.cells #[.int .i64 0, .int .i64 0, .int .i64 0, .int .i64 0, .slice none 0 0, .slice none 0 0, .slice none 0 0] 41)).alloc (.cells #[.int .i64 0, .int .i64 0, .int .i64 0, .int .i64 0, .slice none 0 0, .slice none 0 0, .slice none 0 0] 41)).setRow y1.heap.size ca).setRow (y1.heap.size + 1) cb := ⟨_, rfl⟩
    have tv := two_vars HA.out.1 HB.out.1 HA.out.2.1 HB.out.2.1 y2 hy2
    rw [← hy2]
    have Va : Hid (VSk y2 y1.heap.size ca s) := tv.1
    have Vb : Hid (VSk y2 (y1.heap.size + 1) cb t) := tv.2.1
    have hb := tv.2.2
    have BEL : Hid (Below w.heap.size w y2) := Below.next BEL.out hb
    clear tm tv hy2 hb HA HB
    have HRx : Hid (RdB y2 a0 len0 zs) := HR.out.below BEL.out
    clear HR
    go_wp2_with fail
    refine (tail_any a0 len0 cap0 zs _ HRx.out HCap.out.1 HCap.out.2).mono ?_
    rintro e x2 ⟨⟨a', len', cap', zs', rfl, R2, hl2, _, _⟩, hx2⟩
    have hx2' := hx2.symm
    subst hx2'
    have HR2 : Hid (RdB y2 a' len' zs') := R2
    have hlen' : len' ≤ 1048576 := by omega
    clear R2 HRx HCap hx2
    go_wp2_with fail
    refine (drawMerge_any a' len' cap' zs' _ HR2.out hlen').mono ?_
    rintro e y3 ⟨cd, u, Fd, ce, u', Fe, rfl, r1, f1, r2, f2, b1⟩
    obtain ⟨_, ec, e7, e1⟩ := r1.cells
    cases ec
    obtain ⟨_, ed, d7, d1⟩ := r2.cells
    cases ed
    have HA : Hid (RdSk y3 (.agg cd) u Fd ∧ cd.size = 7 ∧ cd.all (·.oneCell') = true) := ⟨r1, e7, e1⟩
    have HB : Hid (RdSk y3 (.agg ce) u' Fe ∧ ce.size = 7 ∧ ce.all (·.oneCell') = true) := ⟨r2, d7, d1⟩
    have HWU : Hid u.wide := full_wide f1
    have BEL : Hid (Below w.heap.size w y3) := Below.next BEL.out b1
    have Va : Hid (VSk y3 y1.heap.size ca s) := Va.out.below b1
    have Vb : Hid (VSk y3 (y1.heap.size + 1) cb t) := Vb.out.below b1
    clear r1 r2 f1 f2 b1 e7 e1 d7 d1 HR2
    go_wp2_with (first | go_skip | (with_reducible refine stopLoad 41 rfl ?_) | (with_reducible refine stopStore 41 rfl ?_))
    have tm := two_made y3 #[.int .i64 0, .int .i64 0, .int .i64 0, .int .i64 0, .slice none 0 0, .slice none 0 0, .slice none 0 0] #[.int .i64 0, .int .i64 0, .int .i64 0, .int .i64 0, .slice none 0 0, .slice none 0 0, .slice none 0 0] 41 41
    refine store_known 41 y3.heap.size _ cd 41 tm.1 rfl rfl rfl rfl (skSize HA.out.2.1) HA.out.2.1.symm HA.out.2.2 ?_
    go_wp2_with (first | go_skip | (with_reducible refine stopLoad 41 rfl ?_) | (with_reducible refine stopStore 41 rfl ?_))
    refine store_known 41 (y3.heap.size + 1) _ ce 41 (tm.2.1.setRowOther (by omega)) rfl rfl rfl rfl (skSize HB.out.2.1) HB.out.2.1.symm HB.out.2.2 ?_
    obtain ⟨y4, hy2⟩ : ∃ W, W = (((y3.alloc (.cells #[.int .i64 0, .int .i64 0, .int .i64 0, .int .i64 0, .slice none 0 0, .slice none 0 0, .slice none 0 0] 41)).alloc (.cells #[.int .i64 0, .int .i64 0, .int .i64 0, .int .i64 0, .slice none 0 0, .slice none 0 0, .slice none 0 0] 41)).setRow y3.heap.size cd).setRow (y3.heap.size + 1) ce := ⟨_, rfl⟩
    have tv := two_vars HA.out.1 HB.out.1 HA.out.2.1 HB.out.2.1 y4 hy2
    rw [← hy2]
    have Vd : Hid (VSk y4 y3.heap.size cd u) := tv.1
    have Ve : Hid (VSk y4 (y3.heap.size + 1) ce u') := tv.2.1
    have hb := tv.2.2
    have BEL : Hid (Below w.heap.size w y4) := Below.next BEL.out hb
    have Va : Hid (VSk y4 y1.heap.size ca s) := Va.out.below hb
    have Vb : Hid (VSk y4 (y1.heap.size + 1) cb t) := Vb.out.below hb
    clear tm tv hy2 hb HA HB
    clear Ve
    go_wp2_with (first | go_skip | (with_reducible refine stopLoad 41 rfl ?_) | (with_reducible refine stopStore 41 rfl ?_))
    refine load_any 41 y1.heap.size ca 41 _ Va.out.blk rfl rfl rfl Try.underlying41 rfl (skSize Va.out.sz) ?_
    go_wp2_with (first | go_skip | (with_reducible refine stopLoad 41 rfl ?_) | (with_reducible refine stopStore 41 rfl ?_))
    refine load_any 41 (y1.heap.size + 1) cb 41 _ Vb.out.blk rfl rfl rfl Try.underlying41 rfl (skSize Vb.out.sz) ?_
    go_wp2_with fail
    obtain ⟨Fu, hFu⟩ := Va.out.rd
    obtain ⟨Fv, hFv⟩ := Vb.out.rd
    refine (mergeImpl_any _ _ s t Fu Fv _ hFu hFv HW.out.1 HW.out.2).mono ?_
    rintro e y11 ⟨vx, Fx, rfl, rr, _, hb⟩
    obtain ⟨cx, rfl, e7, e1⟩ := rr.cells
    clear hFu hFv Fu Fv
    have BEL : Hid (Below w.heap.size w y11) := Below.next BEL.out hb
    have Va : Hid (VSk y11 y1.heap.size ca s) := Va.out.below hb
    have Vb : Hid (VSk y11 (y1.heap.size + 1) cb t) := Vb.out.below hb
    have Vd : Hid (VSk y11 y3.heap.size cd u) := Vd.out.below hb
    have Rx : Hid (RdSk y11 (.agg cx) (s.mergeR t) Fx ∧ cx.size = 7 ∧ cx.all (·.oneCell') = true) := ⟨rr, e7, e1⟩
    clear rr e7 e1 hb
    go_wp2_with (first | go_skip | (with_reducible refine stopLoad 41 rfl ?_) | (with_reducible refine stopStore 41 rfl ?_))
    refine store_fresh 41 y11.heap.size rfl #[.int .i64 0, .int .i64 0, .int .i64 0, .int .i64 0, .slice none 0 0, .slice none 0 0, .slice none 0 0] cx 41 rfl rfl rfl rfl (skSize Rx.out.2.1) Rx.out.2.1.symm Rx.out.2.2 ?_
    intro y12 hg hb
    have Vx : Hid (VSk y12 y11.heap.size cx (s.mergeR t)) := VSk.fresh Rx.out.1 Rx.out.2.1 hg hb
    have BEL : Hid (Below w.heap.size w y12) := Below.next BEL.out hb
    have Va : Hid (VSk y12 y1.heap.size ca s) := Va.out.below hb
    have Vb : Hid (VSk y12 (y1.heap.size + 1) cb t) := Vb.out.below hb
    have Vd : Hid (VSk y12 y3.heap.size cd u) := Vd.out.below hb
    clear hg hb Rx
    go_wp2_with (first | go_skip | (with_reducible refine stopLoad 41 rfl ?_) | (with_reducible refine stopStore 41 rfl ?_))
    refine load_any 41 (y1.heap.size + 1) cb 41 _ Vb.out.blk rfl rfl rfl Try.underlying41 rfl (skSize Vb.out.sz) ?_
    go_wp2_with (first | go_skip | (with_reducible refine stopLoad 41 rfl ?_) | (with_reducible refine stopStore 41 rfl ?_))
    refine load_any 41 y1.heap.size ca 41 _ Va.out.blk rfl rfl rfl Try.underlying41 rfl (skSize Va.out.sz) ?_
    go_wp2_with fail
    obtain ⟨Fu, hFu⟩ := Vb.out.rd
    obtain ⟨Fv, hFv⟩ := Va.out.rd
    refine (mergeImpl_any _ _ t s Fu Fv _ hFu hFv HW.out.2 HW.out.1).mono ?_
    rintro e y13 ⟨vy, Fy, rfl, rr, _, hb⟩
    obtain ⟨cy, rfl, e7, e1⟩ := rr.cells
    clear hFu hFv Fu Fv
    have BEL : Hid (Below w.heap.size w y13) := Below.next BEL.out hb
    have Va : Hid (VSk y13 y1.heap.size ca s) := Va.out.below hb
    have Vb : Hid (VSk y13 (y1.heap.size + 1) cb t) := Vb.out.below hb
    have Vd : Hid (VSk y13 y3.heap.size cd u) := Vd.out.below hb
    have Vx : Hid (VSk y13 y11.heap.size cx (s.mergeR t)) := Vx.out.below hb
    have Ry : Hid (RdSk y13 (.agg cy) (t.mergeR s) Fy ∧ cy.size = 7 ∧ cy.all (·.oneCell') = true) := ⟨rr, e7, e1⟩
    clear rr e7 e1 hb
    go_wp2_with (first | go_skip | (with_reducible refine stopLoad 41 rfl ?_) | (with_reducible refine stopStore 41 rfl ?_))
    refine store_fresh 41 y13.heap.size rfl #[.int .i64 0, .int .i64 0, .int .i64 0, .int .i64 0, .slice none 0 0, .slice none 0 0, .slice none 0 0] cy 41 rfl rfl rfl rfl (skSize Ry.out.2.1) Ry.out.2.1.symm Ry.out.2.2 ?_
    intro y14 hg hb
    have Vy : Hid (VSk y14 y13.heap.size cy (t.mergeR s)) := VSk.fresh Ry.out.1 Ry.out.2.1 hg hb
    have BEL : Hid (Below w.heap.size w y14) := Below.next BEL.out hb
    have Va : Hid (VSk y14 y1.heap.size ca s) := Va.out.below hb
    have Vb : Hid (VSk y14 (y1.heap.size + 1) cb t) := Vb.out.below hb
    have Vd : Hid (VSk y14 y3.heap.size cd u) := Vd.out.below hb
    have Vx : Hid (VSk y14 y11.heap.size cx (s.mergeR t)) := Vx.out.below hb
    clear hg hb Ry
    go_wp2_with (first | go_skip | (with_reducible refine stopLoad 41 rfl ?_) | (with_reducible refine stopStore 41 rfl ?_))
    refine load_any 41 y1.heap.size ca 41 _ Va.out.blk rfl rfl rfl Try.underlying41 rfl (skSize Va.out.sz) ?_
    go_wp2_with (first | go_skip | (with_reducible refine stopLoad 41 rfl ?_) | (with_reducible refine stopStore 41 rfl ?_))
    refine load_any 41 (y1.heap.size + 1) cb 41 _ Vb.out.blk rfl rfl rfl Try.underlying41 rfl (skSize Vb.out.sz) ?_
    go_wp2_with fail
    obtain ⟨Fu, hFu⟩ := Va.out.rd
    obtain ⟨Fv, hFv⟩ := Vb.out.rd
    refine (mergeSpec_any _ _ s t Fu Fv _ hFu hFv HW.out.1 HW.out.2).mono ?_
    rintro e y15 ⟨vq, Fq, rfl, rr, _, hb⟩
    obtain ⟨cq, rfl, e7, e1⟩ := rr.cells
    clear hFu hFv Fu Fv
    have BEL : Hid (Below w.heap.size w y15) := Below.next BEL.out hb
    have Va : Hid (VSk y15 y1.heap.size ca s) := Va.out.below hb
    have Vb : Hid (VSk y15 (y1.heap.size + 1) cb t) := Vb.out.below hb
    have Vd : Hid (VSk y15 y3.heap.size cd u) := Vd.out.below hb
    have Vx : Hid (VSk y15 y11.heap.size cx (s.mergeR t)) := Vx.out.below hb
    have Vy : Hid (VSk y15 y13.heap.size cy (t.mergeR s)) := Vy.out.below hb
    have Rq : Hid (RdSk y15 (.agg cq) (s.mergeR t) Fq ∧ cq.size = 7 ∧ cq.all (·.oneCell') = true) := ⟨rr, e7, e1⟩
    clear rr e7 e1 hb
    go_wp2_with (first | go_skip | (with_reducible refine stopLoad 41 rfl ?_) | (with_reducible refine stopStore 41 rfl ?_))
    refine store_fresh 41 y15.heap.size rfl #[.int .i64 0, .int .i64 0, .int .i64 0, .int .i64 0, .slice none 0 0, .slice none 0 0, .slice none 0 0] cq 41 rfl rfl rfl rfl (skSize Rq.out.2.1) Rq.out.2.1.symm Rq.out.2.2 ?_
    intro y16 hg hb
    have Vq : Hid (VSk y16 y15.heap.size cq (s.mergeR t)) := VSk.fresh Rq.out.1 Rq.out.2.1 hg hb
    have BEL : Hid (Below w.heap.size w y16) := Below.next BEL.out hb
    have Va : Hid (VSk y16 y1.heap.size ca s) := Va.out.below hb
    have Vb : Hid (VSk y16 (y1.heap.size + 1) cb t) := Vb.out.below hb
    have Vd : Hid (VSk y16 y3.heap.size cd u) := Vd.out.below hb
    have Vx : Hid (VSk y16 y11.heap.size cx (s.mergeR t)) := Vx.out.below hb
    have Vy : Hid (VSk y16 y13.heap.size cy (t.mergeR s)) := Vy.out.below hb
    clear hg hb Rq
    clear Vq
    cases hs : s.ok
    · have HX : Hid (s.mergeR t = Sk.zero) := mergeR_not (by rw [hs]; rfl)
      clear hs
      obtain ⟨Fx, rx⟩ := Vx.out.rd
      rw [HX.out] at rx
      obtain ⟨a1, n1, k1, a2, n2, k2, a3, n3, k3, F1, F2, F3, ec, r1, _⟩ := rx
      injection ec with ec
      have hn : n1 = 0 := r1.length.symm
      subst hn
      have c4 : y16.cell? ⟨y11.heap.size, 4, none⟩ = some (.slice a1 0 k1) := by rw [Vx.out.blk.cell, ec]; rfl
      clear r1
      go_wp2
      go_ret
      exact ⟨rfl, BEL.out⟩
    cases ht : t.ok
    · have HX : Hid (s.mergeR t = Sk.zero) := mergeR_not (by rw [hs, ht]; rfl)
      clear hs ht
      obtain ⟨Fx, rx⟩ := Vx.out.rd
      rw [HX.out] at rx
      obtain ⟨a1, n1, k1, a2, n2, k2, a3, n3, k3, F1, F2, F3, ec, r1, _⟩ := rx
      injection ec with ec
      have hn : n1 = 0 := r1.length.symm
      subst hn
      have c4 : y16.cell? ⟨y11.heap.size, 4, none⟩ = some (.slice a1 0 k1) := by rw [Vx.out.blk.cell, ec]; rfl
      clear r1
      go_wp2
      go_ret
      exact ⟨rfl, BEL.out⟩
    have HS : Hid (s.ok = true) := hs
    have HT : Hid (t.ok = true) := ht
    clear hs ht
    go_upto_region 12 with fail
    go_cut [13] (fun a13 wx => ZOut y16 s a13 wx)
    case first =>
      have HS0 : Hid (Blk y16.drew y1.heap.size ca 41 ∧ Below y16.heap.size y16 y16.drew ∧ (∃ F, RdSk y16.drew (.agg ca) s F)) := ⟨Va.out.blk.drew, (Below.refl _ _).drew, Va.out.drew.rd⟩
      refine wp_region_held (S := fun W => Blk W y1.heap.size ca 41) (by kernel_rfl) ?_
      change wpAnyH _ _ _ _ _ _ _ _ (World.drew _)
      refine takeH (o := ?o1) 0 (.agg ca) ?h1 ?r1
      case h1 => simp only [List.getElem?_toArray, List.getElem?_cons_zero]; rfl
      refine ⟨_, by simp [Act.put]; rfl, by kernel_rfl, by kernel_rfl, by kernel_rfl, fun _ _ _ h => h, (yields_whole 41 y1.heap.size ca 41 _ rfl rfl rfl Try.underlying41 rfl (skSize Va.out.sz) (fun W hW => hW)), HS0.out.1, ?_⟩
      refine twoH (o := ?o2) (o' := ?p2) 1 6 (by kernel_rfl) ?h2 ?g2 ?r2 ?s2
      case h2 => simp only [List.getElem?_toArray, List.getElem?_cons_succ, List.getElem?_cons_zero]; rfl
      case g2 => simp only [List.getElem?_toArray, List.getElem?_cons_succ, List.getElem?_cons_zero]; rfl
      case r2 =>
        intro K hK
        refine op_call0 29 _ Try.f29 (fun v w' => ∃ X, RdSk w' v Sk.new X ∧ Below y16.drew.heap.size y16.drew w') rfl rfl Try.func29 (by kernel_rfl) (by kernel_rfl) ((newImpl_any y16.drew).mono (by rintro e w' ⟨v, X, rfl, h1, _, h3⟩; exact ⟨_, rfl, X, h1, h3⟩)) ?_
        rintro vn z1 ⟨Xn, rn, bz⟩
        have HS1 : Hid (Blk z1 y1.heap.size ca 41 ∧ Below y16.heap.size y16 z1 ∧ (∃ F, RdSk z1 (.agg ca) s F) ∧ RdSk z1 vn Sk.new Xn) := ⟨HS0.out.1.below bz, Below.next HS0.out.2.1 bz, (by obtain ⟨F, hF⟩ := HS0.out.2.2; exact ⟨F, hF.below bz⟩), rn⟩
        refine ⟨_, by simp [Act.put]; rfl, hK _ _ ⟨HS1.out.1, ?_⟩⟩
        clear hK bz HS0 rn
        refine twoH (o := ?o3) (o' := ?p3) 2 6 (by kernel_rfl) ?h3 ?g3 ?r3 ?s3
        case h3 => simp only [List.getElem?_toArray, List.getElem?_cons_succ, List.getElem?_cons_zero]; rfl
        case g3 => simp only [List.getElem?_toArray, List.getElem?_cons_succ, List.getElem?_cons_zero]; rfl
        case r3 =>
          intro K hK
          obtain ⟨Fa, rA⟩ := HS1.out.2.2.1
          refine op_call2' 27 _ _ _ Try.f27 (fun v w' => ∃ r X, v = .tuple #[.agg r, .bool (s.ok && Sk.new.ok)] ∧ r.size = 7 ∧ r.all (·.oneCell') = true ∧ RdSk w' (.agg r) (s.mergeR Sk.new) X ∧ Own z1.heap.size w' X ∧ Below z1.heap.size z1 w') rfl rfl Try.func27 (by kernel_rfl) (by kernel_rfl) ((mergeImpl_any (.agg ca) vn s Sk.new Fa Xn z1 rA HS1.out.2.2.2 HW.out.1 new_wide).mono (by rintro e w' ⟨v, X, rfl, h1, h2, h3⟩; obtain ⟨r, rfl, h7, h8⟩ := h1.cells; exact ⟨_, rfl, r, X, rfl, h7, h8, h1, h2, h3⟩)) ?_
          rintro _ z2 ⟨rr, XR, rfl, r7, r8, rz, oz, bz⟩
          have HS2 : Hid (Blk z2 y1.heap.size ca 41 ∧ Below y16.heap.size y16 z2 ∧ (RdSk z2 (.agg rr) (s.mergeR Sk.new) XR ∧ rr.size = 7 ∧ rr.all (·.oneCell') = true)) := ⟨HS1.out.1.below bz, Below.next HS1.out.2.1 bz, ⟨rz, r7, r8⟩⟩
          have LXR : Hid (∀ b ∈ XR, z1.heap.size ≤ b) := oz.ge
          refine ⟨_, by simp [Act.put]; rfl, hK _ _ ⟨HS2.out.1, ?_⟩⟩
          clear hK bz rA r7 r8 rz oz
          refine takeH (o := ?o4) 3 (.tuple #[.agg rr, .bool (s.ok && Sk.new.ok)]) ?h4 ?r4
          case h4 => simp only [List.getElem?_toArray, List.getElem?_cons_succ, List.getElem?_cons_zero]; rfl
          refine ⟨_, by simp [Act.put]; rfl, by kernel_rfl, by kernel_rfl, by kernel_rfl, fun _ _ _ h => h, (.inl ⟨rfl, fun W _ => by go_simp⟩), HS2.out.1, ?_⟩
          refine takeH (o := ?o5) 4 (.agg rr) ?h5 ?r5
          case h5 => simp only [List.getElem?_toArray, List.getElem?_cons_succ, List.getElem?_cons_zero]; rfl
          refine ⟨_, by simp [Act.put]; rfl, by kernel_rfl, by kernel_rfl, by kernel_rfl, fun _ _ _ h => h, (.inl ⟨rfl, fun W _ => by go_simp⟩), HS2.out.1, ?_⟩
          refine takeH (o := ?o6) 5 (.bool (s.ok && Sk.new.ok)) ?h6 ?r6
          case h6 => simp only [List.getElem?_toArray, List.getElem?_cons_succ, List.getElem?_cons_zero]; rfl
          refine ⟨_, by simp [Act.put]; rfl, by kernel_rfl, by kernel_rfl, by kernel_rfl, fun _ _ _ h => h, (.inl ⟨rfl, fun W _ => by go_simp⟩), HS2.out.1, ?_⟩
          refine onlyH (o := ?o7) 6 (by kernel_rfl) ?h7 ?r7
          case h7 => simp only [List.getElem?_toArray, List.getElem?_cons_succ, List.getElem?_cons_zero]; rfl
          intro K hK
          have LR : Hid (∀ b ∈ XR, b < z2.heap.size) := HS2.out.2.2.1.lt
          refine op_turn (.pointer (some ⟨z2.heap.size, 0, none⟩)) (z2.alloc (.cells #[.int .i64 0, .int .i64 0, .int .i64 0, .int .i64 0, .slice none 0 0, .slice none 0 0, .slice none 0 0] 41)) rfl (by go_simp) ⟨_, by simp [Act.put]; rfl, hK _ _ ⟨HS2.out.1.alloc _, ?_⟩⟩
          clear hK
          obtain ⟨z3, hWn⟩ : ∃ W, W = z2.alloc (.cells #[.int .i64 0, .int .i64 0, .int .i64 0, .int .i64 0, .slice none 0 0, .slice none 0 0, .slice none 0 0] 41) := ⟨_, rfl⟩
          have bz : Below z2.heap.size z2 z3 := by rw [hWn]; exact (Below.refl _ _).alloc (Nat.le_refl _) _
          have GB : Blk z3 z2.heap.size #[.int .i64 0, .int .i64 0, .int .i64 0, .int .i64 0, .slice none 0 0, .slice none 0 0, .slice none 0 0] 41 := by rw [hWn]; exact Blk.made _ _ _
          rw [← hWn]
          have HS3 : Hid (Blk z3 y1.heap.size ca 41 ∧ Below y16.heap.size y16 z3 ∧ (RdSk z3 (.agg rr) (s.mergeR Sk.new) XR ∧ rr.size = 7 ∧ rr.all (·.oneCell') = true) ∧ Blk z3 z2.heap.size #[.int .i64 0, .int .i64 0, .int .i64 0, .int .i64 0, .slice none 0 0, .slice none 0 0, .slice none 0 0] 41) := ⟨HS2.out.1.below bz, Below.next HS2.out.2.1 bz, ⟨HS2.out.2.2.1.below bz, HS2.out.2.2.2⟩, GB⟩
          clear bz GB hWn
          have LGB : Hid (y16.heap.size ≤ z2.heap.size) := HS2.out.2.1.size
          refine onlyH (o := ?o8) 7 (by kernel_rfl) ?h8 ?r8
          case h8 => simp only [List.getElem?_toArray, List.getElem?_cons_succ, List.getElem?_cons_zero]; rfl
          intro K hK
          refine op_store 41 z2.heap.size #[.int .i64 0, .int .i64 0, .int .i64 0, .int .i64 0, .slice none 0 0, .slice none 0 0, .slice none 0 0] rr 41 rfl rfl rfl rfl HS3.out.2.2.2 (skSize HS3.out.2.2.1.2.1) HS3.out.2.2.1.2.1.symm HS3.out.2.2.1.2.2 ⟨_, by simp [Act.put]; rfl, hK _ _ ⟨HS3.out.1.setRowOther (by have := Va.out.blk.lt; have := LGB.out; omega), ?_⟩⟩
          clear hK
          refine onlyH (o := ?o9) 8 (by kernel_rfl) ?h9 ?r9
          case h9 => simp only [List.getElem?_toArray, List.getElem?_cons_succ, List.getElem?_cons_zero]; rfl
          intro K hK
          refine op_value (.bool (s.ok && Sk.new.ok)) rfl (by go_simp) ⟨_, by simp [Act.put]; rfl, hK _ _ ⟨HS3.out.1.setRowOther (by have := Va.out.blk.lt; have := LGB.out; omega), ?_⟩⟩
          clear hK
          refine wpAnyH_done (by kernel_rfl) ?_ _
          go_wp2_with fail
          go_meet
          case rel => exact ⟨z2.heap.size, rr, rfl, ⟨(HS3.out.2.2.2).setRow, ⟨XR, HS3.out.2.2.1.1.agree (fun b hb => setRow_other z3 _ b _ (fun e => by have := LR.out b hb; omega))⟩, HS3.out.2.2.1.2.1⟩, below_setRow HS3.out.2.1 LGB.out _⟩
        case s3 =>
          intro K hK
          have LGB : Hid (y16.heap.size ≤ z1.heap.size) := HS1.out.2.1.size
          refine op_turn (.pointer (some ⟨z1.heap.size, 0, none⟩)) (z1.alloc (.cells #[.int .i64 0, .int .i64 0, .int .i64 0, .int .i64 0, .slice none 0 0, .slice none 0 0, .slice none 0 0] 41)) rfl (by go_simp) ⟨_, by simp [Act.put]; rfl, hK _ _ ⟨HS1.out.1.alloc _, ?_⟩⟩
          clear hK
          obtain ⟨z4, hWn⟩ : ∃ W, W = z1.alloc (.cells #[.int .i64 0, .int .i64 0, .int .i64 0, .int .i64 0, .slice none 0 0, .slice none 0 0, .slice none 0 0] 41) := ⟨_, rfl⟩
          have bz : Below z1.heap.size z1 z4 := by rw [hWn]; exact (Below.refl _ _).alloc (Nat.le_refl _) _
          have GB : Blk z4 z1.heap.size #[.int .i64 0, .int .i64 0, .int .i64 0, .int .i64 0, .slice none 0 0, .slice none 0 0, .slice none 0 0] 41 := by rw [hWn]; exact Blk.made _ _ _
          rw [← hWn]
          have HS4 : Hid (Blk z4 y1.heap.size ca 41 ∧ Below y16.heap.size y16 z4 ∧ (∃ F, RdSk z4 (.agg ca) s F) ∧ RdSk z4 vn Sk.new Xn ∧ Blk z4 z1.heap.size #[.int .i64 0, .int .i64 0, .int .i64 0, .int .i64 0, .slice none 0 0, .slice none 0 0, .slice none 0 0] 41) := ⟨HS1.out.1.below bz, Below.next HS1.out.2.1 bz, (by obtain ⟨F, hF⟩ := HS1.out.2.2.1; exact ⟨F, hF.below bz⟩), HS1.out.2.2.2.below bz, GB⟩
          clear bz GB hWn
          refine onlyH (o := ?o10) 2 (by kernel_rfl) ?h10 ?r10
          case h10 => simp only [List.getElem?_toArray, List.getElem?_cons_succ, List.getElem?_cons_zero]; rfl
          intro K hK
          obtain ⟨Fa, rA⟩ := HS4.out.2.2.1
          refine op_call2' 27 _ _ _ Try.f27 (fun v w' => ∃ r X, v = .tuple #[.agg r, .bool (s.ok && Sk.new.ok)] ∧ r.size = 7 ∧ r.all (·.oneCell') = true ∧ RdSk w' (.agg r) (s.mergeR Sk.new) X ∧ Own z4.heap.size w' X ∧ Below z4.heap.size z4 w') rfl rfl Try.func27 (by kernel_rfl) (by kernel_rfl) ((mergeImpl_any (.agg ca) vn s Sk.new Fa Xn z4 rA HS4.out.2.2.2.1 HW.out.1 new_wide).mono (by rintro e w' ⟨v, X, rfl, h1, h2, h3⟩; obtain ⟨r, rfl, h7, h8⟩ := h1.cells; exact ⟨_, rfl, r, X, rfl, h7, h8, h1, h2, h3⟩)) ?_
          rintro _ z5 ⟨rr, XR, rfl, r7, r8, rz, oz, bz⟩
          have HS5 : Hid (Blk z5 y1.heap.size ca 41 ∧ Below y16.heap.size y16 z5 ∧ (RdSk z5 (.agg rr) (s.mergeR Sk.new) XR ∧ rr.size = 7 ∧ rr.all (·.oneCell') = true) ∧ Blk z5 z1.heap.size #[.int .i64 0, .int .i64 0, .int .i64 0, .int .i64 0, .slice none 0 0, .slice none 0 0, .slice none 0 0] 41) := ⟨HS4.out.1.below bz, Below.next HS4.out.2.1 bz, ⟨rz, r7, r8⟩, HS4.out.2.2.2.2.below bz⟩
          have LXR : Hid (∀ b ∈ XR, z4.heap.size ≤ b) := oz.ge
          refine ⟨_, by simp [Act.put]; rfl, hK _ _ ⟨HS5.out.1, ?_⟩⟩
          clear hK bz rA r7 r8 rz oz
          have LT : Hid (z1.heap.size < z4.heap.size) := HS4.out.2.2.2.2.lt
          refine takeH (o := ?o11) 3 (.tuple #[.agg rr, .bool (s.ok && Sk.new.ok)]) ?h11 ?r11
          case h11 => simp only [List.getElem?_toArray, List.getElem?_cons_succ, List.getElem?_cons_zero]; rfl
          refine ⟨_, by simp [Act.put]; rfl, by kernel_rfl, by kernel_rfl, by kernel_rfl, fun _ _ _ h => h, (.inl ⟨rfl, fun W _ => by go_simp⟩), HS5.out.1, ?_⟩
          refine takeH (o := ?o12) 4 (.agg rr) ?h12 ?r12
          case h12 => simp only [List.getElem?_toArray, List.getElem?_cons_succ, List.getElem?_cons_zero]; rfl
          refine ⟨_, by simp [Act.put]; rfl, by kernel_rfl, by kernel_rfl, by kernel_rfl, fun _ _ _ h => h, (.inl ⟨rfl, fun W _ => by go_simp⟩), HS5.out.1, ?_⟩
          refine takeH (o := ?o13) 5 (.bool (s.ok && Sk.new.ok)) ?h13 ?r13
          case h13 => simp only [List.getElem?_toArray, List.getElem?_cons_succ, List.getElem?_cons_zero]; rfl
          refine ⟨_, by simp [Act.put]; rfl, by kernel_rfl, by kernel_rfl, by kernel_rfl, fun _ _ _ h => h, (.inl ⟨rfl, fun W _ => by go_simp⟩), HS5.out.1, ?_⟩
          refine onlyH (o := ?o14) 7 (by kernel_rfl) ?h14 ?r14
          case h14 => simp only [List.getElem?_toArray, List.getElem?_cons_succ, List.getElem?_cons_zero]; rfl
          intro K hK
          refine op_store 41 z1.heap.size #[.int .i64 0, .int .i64 0, .int .i64 0, .int .i64 0, .slice none 0 0, .slice none 0 0, .slice none 0 0] rr 41 rfl rfl rfl rfl HS5.out.2.2.2 (skSize HS5.out.2.2.1.2.1) HS5.out.2.2.1.2.1.symm HS5.out.2.2.1.2.2 ⟨_, by simp [Act.put]; rfl, hK _ _ ⟨HS5.out.1.setRowOther (by have := Va.out.blk.lt; have := LGB.out; omega), ?_⟩⟩
          clear hK
          refine onlyH (o := ?o15) 8 (by kernel_rfl) ?h15 ?r15
          case h15 => simp only [List.getElem?_toArray, List.getElem?_cons_succ, List.getElem?_cons_zero]; rfl
          intro K hK
          refine op_value (.bool (s.ok && Sk.new.ok)) rfl (by go_simp) ⟨_, by simp [Act.put]; rfl, hK _ _ ⟨HS5.out.1.setRowOther (by have := Va.out.blk.lt; have := LGB.out; omega), ?_⟩⟩
          clear hK
          refine wpAnyH_done (by kernel_rfl) ?_ _
          go_wp2_with fail
          go_meet
          case rel => exact ⟨z1.heap.size, rr, rfl, ⟨(HS5.out.2.2.2).setRow, ⟨XR, HS5.out.2.2.1.1.agree (fun b hb => setRow_other z5 _ b _ (fun e => by have := LXR.out b hb; have := LT.out; omega))⟩, HS5.out.2.2.1.2.1⟩, below_setRow HS5.out.2.1 LGB.out _⟩
      case s2 =>
        intro K hK
        have LGB : Hid (y16.heap.size ≤ y16.drew.heap.size) := HS0.out.2.1.size
        refine op_turn (.pointer (some ⟨y16.drew.heap.size, 0, none⟩)) (y16.drew.alloc (.cells #[.int .i64 0, .int .i64 0, .int .i64 0, .int .i64 0, .slice none 0 0, .slice none 0 0, .slice none 0 0] 41)) rfl (by go_simp) ⟨_, by simp [Act.put]; rfl, hK _ _ ⟨HS0.out.1.alloc _, ?_⟩⟩
        clear hK
        obtain ⟨z6, hWn⟩ : ∃ W, W = y16.drew.alloc (.cells #[.int .i64 0, .int .i64 0, .int .i64 0, .int .i64 0, .slice none 0 0, .slice none 0 0, .slice none 0 0] 41) := ⟨_, rfl⟩
        have bz : Below y16.drew.heap.size y16.drew z6 := by rw [hWn]; exact (Below.refl _ _).alloc (Nat.le_refl _) _
        have GB : Blk z6 y16.drew.heap.size #[.int .i64 0, .int .i64 0, .int .i64 0, .int .i64 0, .slice none 0 0, .slice none 0 0, .slice none 0 0] 41 := by rw [hWn]; exact Blk.made _ _ _
        rw [← hWn]
        have HS6 : Hid (Blk z6 y1.heap.size ca 41 ∧ Below y16.heap.size y16 z6 ∧ (∃ F, RdSk z6 (.agg ca) s F) ∧ Blk z6 y16.drew.heap.size #[.int .i64 0, .int .i64 0, .int .i64 0, .int .i64 0, .slice none 0 0, .slice none 0 0, .slice none 0 0] 41) := ⟨HS0.out.1.below bz, Below.next HS0.out.2.1 bz, (by obtain ⟨F, hF⟩ := HS0.out.2.2; exact ⟨F, hF.below bz⟩), GB⟩
        clear bz GB hWn
        refine onlyH (o := ?o16) 1 (by kernel_rfl) ?h16 ?r16
        case h16 => simp only [List.getElem?_toArray, List.getElem?_cons_succ, List.getElem?_cons_zero]; rfl
        intro K hK
        refine op_call0 29 _ Try.f29 (fun v w' => ∃ X, RdSk w' v Sk.new X ∧ Below z6.heap.size z6 w') rfl rfl Try.func29 (by kernel_rfl) (by kernel_rfl) ((newImpl_any z6).mono (by rintro e w' ⟨v, X, rfl, h1, _, h3⟩; exact ⟨_, rfl, X, h1, h3⟩)) ?_
        rintro vn z7 ⟨Xn, rn, bz⟩
        have HS7 : Hid (Blk z7 y1.heap.size ca 41 ∧ Below y16.heap.size y16 z7 ∧ (∃ F, RdSk z7 (.agg ca) s F) ∧ RdSk z7 vn Sk.new Xn ∧ Blk z7 y16.drew.heap.size #[.int .i64 0, .int .i64 0, .int .i64 0, .int .i64 0, .slice none 0 0, .slice none 0 0, .slice none 0 0] 41) := ⟨HS6.out.1.below bz, Below.next HS6.out.2.1 bz, (by obtain ⟨F, hF⟩ := HS6.out.2.2.1; exact ⟨F, hF.below bz⟩), rn, HS6.out.2.2.2.below bz⟩
        refine ⟨_, by simp [Act.put]; rfl, hK _ _ ⟨HS7.out.1, ?_⟩⟩
        clear hK bz HS6 rn
        refine onlyH (o := ?o17) 2 (by kernel_rfl) ?h17 ?r17
        case h17 => simp only [List.getElem?_toArray, List.getElem?_cons_succ, List.getElem?_cons_zero]; rfl
        intro K hK
        obtain ⟨Fa, rA⟩ := HS7.out.2.2.1
        refine op_call2' 27 _ _ _ Try.f27 (fun v w' => ∃ r X, v = .tuple #[.agg r, .bool (s.ok && Sk.new.ok)] ∧ r.size = 7 ∧ r.all (·.oneCell') = true ∧ RdSk w' (.agg r) (s.mergeR Sk.new) X ∧ Own z7.heap.size w' X ∧ Below z7.heap.size z7 w') rfl rfl Try.func27 (by kernel_rfl) (by kernel_rfl) ((mergeImpl_any (.agg ca) vn s Sk.new Fa Xn z7 rA HS7.out.2.2.2.1 HW.out.1 new_wide).mono (by rintro e w' ⟨v, X, rfl, h1, h2, h3⟩; obtain ⟨r, rfl, h7, h8⟩ := h1.cells; exact ⟨_, rfl, r, X, rfl, h7, h8, h1, h2, h3⟩)) ?_
        rintro _ z8 ⟨rr, XR, rfl, r7, r8, rz, oz, bz⟩
        have HS8 : Hid (Blk z8 y1.heap.size ca 41 ∧ Below y16.heap.size y16 z8 ∧ (RdSk z8 (.agg rr) (s.mergeR Sk.new) XR ∧ rr.size = 7 ∧ rr.all (·.oneCell') = true) ∧ Blk z8 y16.drew.heap.size #[.int .i64 0, .int .i64 0, .int .i64 0, .int .i64 0, .slice none 0 0, .slice none 0 0, .slice none 0 0] 41) := ⟨HS7.out.1.below bz, Below.next HS7.out.2.1 bz, ⟨rz, r7, r8⟩, HS7.out.2.2.2.2.below bz⟩
        have LXR : Hid (∀ b ∈ XR, z7.heap.size ≤ b) := oz.ge
        refine ⟨_, by simp [Act.put]; rfl, hK _ _ ⟨HS8.out.1, ?_⟩⟩
        clear hK bz rA r7 r8 rz oz
        have LT : Hid (y16.drew.heap.size < z7.heap.size) := HS7.out.2.2.2.2.lt
        refine takeH (o := ?o18) 3 (.tuple #[.agg rr, .bool (s.ok && Sk.new.ok)]) ?h18 ?r18
        case h18 => simp only [List.getElem?_toArray, List.getElem?_cons_succ, List.getElem?_cons_zero]; rfl
        refine ⟨_, by simp [Act.put]; rfl, by kernel_rfl, by kernel_rfl, by kernel_rfl, fun _ _ _ h => h, (.inl ⟨rfl, fun W _ => by go_simp⟩), HS8.out.1, ?_⟩
        refine takeH (o := ?o19) 4 (.agg rr) ?h19 ?r19
        case h19 => simp only [List.getElem?_toArray, List.getElem?_cons_succ, List.getElem?_cons_zero]; rfl
        refine ⟨_, by simp [Act.put]; rfl, by kernel_rfl, by kernel_rfl, by kernel_rfl, fun _ _ _ h => h, (.inl ⟨rfl, fun W _ => by go_simp⟩), HS8.out.1, ?_⟩
        refine takeH (o := ?o20) 5 (.bool (s.ok && Sk.new.ok)) ?h20 ?r20
        case h20 => simp only [List.getElem?_toArray, List.getElem?_cons_succ, List.getElem?_cons_zero]; rfl
        refine ⟨_, by simp [Act.put]; rfl, by kernel_rfl, by kernel_rfl, by kernel_rfl, fun _ _ _ h => h, (.inl ⟨rfl, fun W _ => by go_simp⟩), HS8.out.1, ?_⟩
        refine onlyH (o := ?o21) 7 (by kernel_rfl) ?h21 ?r21
        case h21 => simp only [List.getElem?_toArray, List.getElem?_cons_succ, List.getElem?_cons_zero]; rfl
        intro K hK
        refine op_store 41 y16.drew.heap.size #[.int .i64 0, .int .i64 0, .int .i64 0, .int .i64 0, .slice none 0 0, .slice none 0 0, .slice none 0 0] rr 41 rfl rfl rfl rfl HS8.out.2.2.2 (skSize HS8.out.2.2.1.2.1) HS8.out.2.2.1.2.1.symm HS8.out.2.2.1.2.2 ⟨_, by simp [Act.put]; rfl, hK _ _ ⟨HS8.out.1.setRowOther (by have := Va.out.blk.lt; have := LGB.out; omega), ?_⟩⟩
        clear hK
        refine onlyH (o := ?o22) 8 (by kernel_rfl) ?h22 ?r22
        case h22 => simp only [List.getElem?_toArray, List.getElem?_cons_succ, List.getElem?_cons_zero]; rfl
        intro K hK
        refine op_value (.bool (s.ok && Sk.new.ok)) rfl (by go_simp) ⟨_, by simp [Act.put]; rfl, hK _ _ ⟨HS8.out.1.setRowOther (by have := Va.out.blk.lt; have := LGB.out; omega), ?_⟩⟩
        clear hK
        refine wpAnyH_done (by kernel_rfl) ?_ _
        go_wp2_with fail
        go_meet
        case rel => exact ⟨y16.drew.heap.size, rr, rfl, ⟨(HS8.out.2.2.2).setRow, ⟨XR, HS8.out.2.2.1.1.agree (fun b hb => setRow_other z8 _ b _ (fun e => by have := LXR.out b hb; have := LT.out; omega))⟩, HS8.out.2.2.1.2.1⟩, below_setRow HS8.out.2.1 LGB.out _⟩
    case rest =>
      obtain ⟨gz, cz, rfl, hvz, hbw⟩ := hcut
      obtain ⟨y40, hWn⟩ : ∃ W, W = wc := ⟨_, rfl⟩
      rw [← hWn] at hbw hvz ⊢
      clear hWn
      have BEL : Hid (Below w.heap.size w y40) := Below.next BEL.out hbw
      have Va : Hid (VSk y40 y1.heap.size ca s) := Va.out.below hbw
      have Vb : Hid (VSk y40 (y1.heap.size + 1) cb t) := Vb.out.below hbw
      have Vd : Hid (VSk y40 y3.heap.size cd u) := Vd.out.below hbw
      have Vx : Hid (VSk y40 y11.heap.size cx (s.mergeR t)) := Vx.out.below hbw
      have Vy : Hid (VSk y40 y13.heap.size cy (t.mergeR s)) := Vy.out.below hbw
      have Vz : Hid (VSk y40 gz cz (s.mergeR Sk.new)) := hvz
      clear hvz hbw
      go_wp2_with (first | go_skip | (with_reducible refine stopLoad 41 rfl ?_) | (with_reducible refine stopStore 41 rfl ?_))
      refine load_any 41 y11.heap.size cx 41 _ Vx.out.blk rfl rfl rfl Try.underlying41 rfl (skSize Vx.out.sz) ?_
      go_wp2_with (first | go_skip | (with_reducible refine stopLoad 41 rfl ?_) | (with_reducible refine stopStore 41 rfl ?_))
      refine load_any 41 y13.heap.size cy 41 _ Vy.out.blk rfl rfl rfl Try.underlying41 rfl (skSize Vy.out.sz) ?_
      go_wp2_with fail
      obtain ⟨Fu, hFu⟩ := Vx.out.rd
      obtain ⟨Fv, hFv⟩ := Vy.out.rd
      refine (sameImpl_any _ _ (s.mergeR t) (t.mergeR s) Fu Fv _ hFu hFv (mergeR_wides _ _) (mergeR_wides _ _)).mono ?_
      rintro e y50 ⟨rfl, hb⟩
      clear hFu hFv Fu Fv
      have BEL : Hid (Below w.heap.size w y50) := Below.next BEL.out hb
      have Va : Hid (VSk y50 y1.heap.size ca s) := Va.out.below hb
      have Vb : Hid (VSk y50 (y1.heap.size + 1) cb t) := Vb.out.below hb
      have Vd : Hid (VSk y50 y3.heap.size cd u) := Vd.out.below hb
      have Vx : Hid (VSk y50 y11.heap.size cx (s.mergeR t)) := Vx.out.below hb
      have Vy : Hid (VSk y50 y13.heap.size cy (t.mergeR s)) := Vy.out.below hb
      have Vz : Hid (VSk y50 gz cz (s.mergeR Sk.new)) := Vz.out.below hb
      clear hb
      rw [show decide ((s.mergeR t) = (t.mergeR s)) = true from dec_true (by rw [mergeR_ok HS.out HT.out, mergeR_ok HT.out HS.out]; exact merge_comm HS.out HT.out)]
      go_wp2_with (first | go_skip | (with_reducible refine stopLoad 41 rfl ?_) | (with_reducible refine stopStore 41 rfl ?_))
      refine load_any 41 y11.heap.size cx 41 _ Vx.out.blk rfl rfl rfl Try.underlying41 rfl (skSize Vx.out.sz) ?_
      go_wp2_with fail
      obtain ⟨Fu, hFu⟩ := Vx.out.rd
      refine (okImpl_any _ (s.mergeR t) Fu _ hFu (mergeR_wides _ _)).mono ?_
      rintro e y51 ⟨rfl, hb⟩
      clear hFu Fu
      have BEL : Hid (Below w.heap.size w y51) := Below.next BEL.out hb
      have Va : Hid (VSk y51 y1.heap.size ca s) := Va.out.below hb
      have Vb : Hid (VSk y51 (y1.heap.size + 1) cb t) := Vb.out.below hb
      have Vd : Hid (VSk y51 y3.heap.size cd u) := Vd.out.below hb
      have Vx : Hid (VSk y51 y11.heap.size cx (s.mergeR t)) := Vx.out.below hb
      have Vy : Hid (VSk y51 y13.heap.size cy (t.mergeR s)) := Vy.out.below hb
      have Vz : Hid (VSk y51 gz cz (s.mergeR Sk.new)) := Vz.out.below hb
      clear hb
      rw [show (s.mergeR t).ok = true by rw [mergeR_ok HS.out HT.out]; exact merge_ok HS.out HT.out]
      go_wp2_with (first | go_skip | (with_reducible refine stopLoad 41 rfl ?_) | (with_reducible refine stopStore 41 rfl ?_))
      refine load_any 41 gz cz 41 _ Vz.out.blk rfl rfl rfl Try.underlying41 rfl (skSize Vz.out.sz) ?_
      go_wp2_with (first | go_skip | (with_reducible refine stopLoad 41 rfl ?_) | (with_reducible refine stopStore 41 rfl ?_))
      refine load_any 41 y1.heap.size ca 41 _ Va.out.blk rfl rfl rfl Try.underlying41 rfl (skSize Va.out.sz) ?_
      go_wp2_with fail
      obtain ⟨Fu, hFu⟩ := Vz.out.rd
      obtain ⟨Fv, hFv⟩ := Va.out.rd
      refine (sameImpl_any _ _ (s.mergeR Sk.new) s Fu Fv _ hFu hFv (mergeR_wides _ _) HW.out.1).mono ?_
      rintro e y52 ⟨rfl, hb⟩
      clear hFu hFv Fu Fv
      have BEL : Hid (Below w.heap.size w y52) := Below.next BEL.out hb
      have Va : Hid (VSk y52 y1.heap.size ca s) := Va.out.below hb
      have Vb : Hid (VSk y52 (y1.heap.size + 1) cb t) := Vb.out.below hb
      have Vd : Hid (VSk y52 y3.heap.size cd u) := Vd.out.below hb
      have Vx : Hid (VSk y52 y11.heap.size cx (s.mergeR t)) := Vx.out.below hb
      have Vy : Hid (VSk y52 y13.heap.size cy (t.mergeR s)) := Vy.out.below hb
      have Vz : Hid (VSk y52 gz cz (s.mergeR Sk.new)) := Vz.out.below hb
      clear hb
      rw [show decide ((s.mergeR Sk.new) = s) = true from dec_true (by rw [mergeR_ok HS.out new_ok]; exact merge_zero_right HS.out)]
      clear Vy
      clear Vz
      go_wp2_with (first | go_skip | (with_reducible refine stopLoad 41 rfl ?_) | (with_reducible refine stopStore 41 rfl ?_))
      refine load_any 41 y11.heap.size cx 41 _ Vx.out.blk rfl rfl rfl Try.underlying41 rfl (skSize Vx.out.sz) ?_
      go_wp2_with (first | go_skip | (with_reducible refine stopLoad 41 rfl ?_) | (with_reducible refine stopStore 41 rfl ?_))
      refine load_any 41 y3.heap.size cd 41 _ Vd.out.blk rfl rfl rfl Try.underlying41 rfl (skSize Vd.out.sz) ?_
      go_wp2_with fail
      obtain ⟨Fu, hFu⟩ := Vx.out.rd
      obtain ⟨Fv, hFv⟩ := Vd.out.rd
      refine (mergeImpl_any _ _ (s.mergeR t) u Fu Fv _ hFu hFv (mergeR_wides _ _) HWU.out).mono ?_
      rintro e y61 ⟨vl, Fl, rfl, rr, _, hb⟩
      obtain ⟨cl, rfl, e7, e1⟩ := rr.cells
      clear hFu hFv Fu Fv
      have BEL : Hid (Below w.heap.size w y61) := Below.next BEL.out hb
      have Va : Hid (VSk y61 y1.heap.size ca s) := Va.out.below hb
      have Vb : Hid (VSk y61 (y1.heap.size + 1) cb t) := Vb.out.below hb
      have Vd : Hid (VSk y61 y3.heap.size cd u) := Vd.out.below hb
      have Vx : Hid (VSk y61 y11.heap.size cx (s.mergeR t)) := Vx.out.below hb
      have Rl : Hid (RdSk y61 (.agg cl) ((s.mergeR t).mergeR u) Fl ∧ cl.size = 7 ∧ cl.all (·.oneCell') = true) := ⟨rr, e7, e1⟩
      clear rr e7 e1 hb
      go_wp2_with (first | go_skip | (with_reducible refine stopLoad 41 rfl ?_) | (with_reducible refine stopStore 41 rfl ?_))
      refine store_fresh 41 y61.heap.size rfl #[.int .i64 0, .int .i64 0, .int .i64 0, .int .i64 0, .slice none 0 0, .slice none 0 0, .slice none 0 0] cl 41 rfl rfl rfl rfl (skSize Rl.out.2.1) Rl.out.2.1.symm Rl.out.2.2 ?_
      intro y62 hg hb
      have Vl : Hid (VSk y62 y61.heap.size cl ((s.mergeR t).mergeR u)) := VSk.fresh Rl.out.1 Rl.out.2.1 hg hb
      have BEL : Hid (Below w.heap.size w y62) := Below.next BEL.out hb
      have Va : Hid (VSk y62 y1.heap.size ca s) := Va.out.below hb
      have Vb : Hid (VSk y62 (y1.heap.size + 1) cb t) := Vb.out.below hb
      have Vd : Hid (VSk y62 y3.heap.size cd u) := Vd.out.below hb
      have Vx : Hid (VSk y62 y11.heap.size cx (s.mergeR t)) := Vx.out.below hb
      clear hg hb Rl
      clear Vx
      go_wp2_with (first | go_skip | (with_reducible refine stopLoad 41 rfl ?_) | (with_reducible refine stopStore 41 rfl ?_))
      refine load_any 41 (y1.heap.size + 1) cb 41 _ Vb.out.blk rfl rfl rfl Try.underlying41 rfl (skSize Vb.out.sz) ?_
      go_wp2_with (first | go_skip | (with_reducible refine stopLoad 41 rfl ?_) | (with_reducible refine stopStore 41 rfl ?_))
      refine load_any 41 y3.heap.size cd 41 _ Vd.out.blk rfl rfl rfl Try.underlying41 rfl (skSize Vd.out.sz) ?_
      go_wp2_with fail
      obtain ⟨Fu, hFu⟩ := Vb.out.rd
      obtain ⟨Fv, hFv⟩ := Vd.out.rd
      refine (mergeImpl_any _ _ t u Fu Fv _ hFu hFv HW.out.2 HWU.out).mono ?_
      rintro e y63 ⟨vm, Fm, rfl, rr, _, hb⟩
      obtain ⟨cm, rfl, e7, e1⟩ := rr.cells
      clear hFu hFv Fu Fv
      have BEL : Hid (Below w.heap.size w y63) := Below.next BEL.out hb
      have Va : Hid (VSk y63 y1.heap.size ca s) := Va.out.below hb
      have Vb : Hid (VSk y63 (y1.heap.size + 1) cb t) := Vb.out.below hb
      have Vd : Hid (VSk y63 y3.heap.size cd u) := Vd.out.below hb
      have Vl : Hid (VSk y63 y61.heap.size cl ((s.mergeR t).mergeR u)) := Vl.out.below hb
      have Rm : Hid (RdSk y63 (.agg cm) (t.mergeR u) Fm ∧ cm.size = 7 ∧ cm.all (·.oneCell') = true) := ⟨rr, e7, e1⟩
      clear rr e7 e1 hb
      go_wp2_with (first | go_skip | (with_reducible refine stopLoad 41 rfl ?_) | (with_reducible refine stopStore 41 rfl ?_))
      refine store_fresh 41 y63.heap.size rfl #[.int .i64 0, .int .i64 0, .int .i64 0, .int .i64 0, .slice none 0 0, .slice none 0 0, .slice none 0 0] cm 41 rfl rfl rfl rfl (skSize Rm.out.2.1) Rm.out.2.1.symm Rm.out.2.2 ?_
      intro y64 hg hb
      have Vm : Hid (VSk y64 y63.heap.size cm (t.mergeR u)) := VSk.fresh Rm.out.1 Rm.out.2.1 hg hb
      have BEL : Hid (Below w.heap.size w y64) := Below.next BEL.out hb
      have Va : Hid (VSk y64 y1.heap.size ca s) := Va.out.below hb
      have Vb : Hid (VSk y64 (y1.heap.size + 1) cb t) := Vb.out.below hb
      have Vd : Hid (VSk y64 y3.heap.size cd u) := Vd.out.below hb
      have Vl : Hid (VSk y64 y61.heap.size cl ((s.mergeR t).mergeR u)) := Vl.out.below hb
      clear hg hb Rm
      go_wp2_with (first | go_skip | (with_reducible refine stopLoad 41 rfl ?_) | (with_reducible refine stopStore 41 rfl ?_))
      refine load_any 41 y1.heap.size ca 41 _ Va.out.blk rfl rfl rfl Try.underlying41 rfl (skSize Va.out.sz) ?_
      go_wp2_with (first | go_skip | (with_reducible refine stopLoad 41 rfl ?_) | (with_reducible refine stopStore 41 rfl ?_))
      refine load_any 41 y63.heap.size cm 41 _ Vm.out.blk rfl rfl rfl Try.underlying41 rfl (skSize Vm.out.sz) ?_
      go_wp2_with fail
      obtain ⟨Fu, hFu⟩ := Va.out.rd
      obtain ⟨Fv, hFv⟩ := Vm.out.rd
      refine (mergeImpl_any _ _ s (t.mergeR u) Fu Fv _ hFu hFv HW.out.1 (mergeR_wides _ _)).mono ?_
      rintro e y65 ⟨vr, Fr, rfl, rr, _, hb⟩
      obtain ⟨cr, rfl, e7, e1⟩ := rr.cells
      clear hFu hFv Fu Fv
      have BEL : Hid (Below w.heap.size w y65) := Below.next BEL.out hb
      have Va : Hid (VSk y65 y1.heap.size ca s) := Va.out.below hb
      have Vb : Hid (VSk y65 (y1.heap.size + 1) cb t) := Vb.out.below hb
      have Vd : Hid (VSk y65 y3.heap.size cd u) := Vd.out.below hb
      have Vl : Hid (VSk y65 y61.heap.size cl ((s.mergeR t).mergeR u)) := Vl.out.below hb
      have Vm : Hid (VSk y65 y63.heap.size cm (t.mergeR u)) := Vm.out.below hb
      have Rr : Hid (RdSk y65 (.agg cr) (s.mergeR (t.mergeR u)) Fr ∧ cr.size = 7 ∧ cr.all (·.oneCell') = true) := ⟨rr, e7, e1⟩
      clear rr e7 e1 hb
      go_wp2_with (first | go_skip | (with_reducible refine stopLoad 41 rfl ?_) | (with_reducible refine stopStore 41 rfl ?_))
      refine store_fresh 41 y65.heap.size rfl #[.int .i64 0, .int .i64 0, .int .i64 0, .int .i64 0, .slice none 0 0, .slice none 0 0, .slice none 0 0] cr 41 rfl rfl rfl rfl (skSize Rr.out.2.1) Rr.out.2.1.symm Rr.out.2.2 ?_
      intro y66 hg hb
      have Vr : Hid (VSk y66 y65.heap.size cr (s.mergeR (t.mergeR u))) := VSk.fresh Rr.out.1 Rr.out.2.1 hg hb
      have BEL : Hid (Below w.heap.size w y66) := Below.next BEL.out hb
      have Va : Hid (VSk y66 y1.heap.size ca s) := Va.out.below hb
      have Vb : Hid (VSk y66 (y1.heap.size + 1) cb t) := Vb.out.below hb
      have Vd : Hid (VSk y66 y3.heap.size cd u) := Vd.out.below hb
      have Vl : Hid (VSk y66 y61.heap.size cl ((s.mergeR t).mergeR u)) := Vl.out.below hb
      have Vm : Hid (VSk y66 y63.heap.size cm (t.mergeR u)) := Vm.out.below hb
      clear hg hb Rr
      rw [show ((s.mergeR t).ok && u.ok) = u.ok by rw [mergeR_ok HS.out HT.out, merge_ok HS.out HT.out]; rfl]
      cases hu : u.ok
      · clear hu
        go_wp2
        go_ret
        exact ⟨rfl, BEL.out⟩
      have HU : Hid (u.ok = true) := hu
      clear hu
      go_wp2_with (first | go_skip | (with_reducible refine stopLoad 41 rfl ?_) | (with_reducible refine stopStore 41 rfl ?_))
      refine load_any 41 y61.heap.size cl 41 _ Vl.out.blk rfl rfl rfl Try.underlying41 rfl (skSize Vl.out.sz) ?_
      go_wp2_with (first | go_skip | (with_reducible refine stopLoad 41 rfl ?_) | (with_reducible refine stopStore 41 rfl ?_))
      refine load_any 41 y65.heap.size cr 41 _ Vr.out.blk rfl rfl rfl Try.underlying41 rfl (skSize Vr.out.sz) ?_
      go_wp2_with fail
      obtain ⟨Fu, hFu⟩ := Vl.out.rd
      obtain ⟨Fv, hFv⟩ := Vr.out.rd
      refine (sameImpl_any _ _ ((s.mergeR t).mergeR u) (s.mergeR (t.mergeR u)) Fu Fv _ hFu hFv (mergeR_wides _ _) (mergeR_wides _ _)).mono ?_
      rintro e y90 ⟨rfl, hb⟩
      clear hFu hFv Fu Fv
      have BEL : Hid (Below w.heap.size w y90) := Below.next BEL.out hb
      have Va : Hid (VSk y90 y1.heap.size ca s) := Va.out.below hb
      have Vb : Hid (VSk y90 (y1.heap.size + 1) cb t) := Vb.out.below hb
      have Vd : Hid (VSk y90 y3.heap.size cd u) := Vd.out.below hb
      have Vl : Hid (VSk y90 y61.heap.size cl ((s.mergeR t).mergeR u)) := Vl.out.below hb
      have Vm : Hid (VSk y90 y63.heap.size cm (t.mergeR u)) := Vm.out.below hb
      have Vr : Hid (VSk y90 y65.heap.size cr (s.mergeR (t.mergeR u))) := Vr.out.below hb
      clear hb
      rw [show decide (((s.mergeR t).mergeR u) = (s.mergeR (t.mergeR u))) = true from dec_true (by rw [mergeR_ok HS.out HT.out, mergeR_ok HT.out HU.out, mergeR_ok (merge_ok HS.out HT.out) HU.out, mergeR_ok HS.out (merge_ok HT.out HU.out)]; exact merge_assoc HS.out HT.out HU.out)]
      go_wp2
      go_ret
      exact ⟨rfl, BEL.out⟩

set_option maxRecDepth 100000 in
theorem lifted (os : Os) (started : os.Started) (H : Type) (enc : TypeId × Value → H) :
    ReturnsInHanded {} Try.checked os 5 .any (Rows.fnMergedSpec.pre6 enc Try.prog Try.f5 Rows.fnMergedRow.domain false) (Rows.fnMergedSpec.post enc Try.prog Try.f5 false true false false) := by
  refine returnsInHanded_of_change (C := Try.checked) own started (by kernel_rfl) Try.func5
    (ChangeSpec.witness6 (enc := enc) (C := Try.checked) false ⟨#[], #[.slice none 0 0], []⟩ 8 (by kernel_rfl) (by kernel_rfl) (by kernel_rfl) (by kernel_rfl)) ?_
  intro W base args ds gs before hval0 hW hcnd _
  have hval : ∀ (j : Nat) t v, Try.f5.params[j]? = some t → args[j]? = some v → Value.okWide Try.prog W .any base t v := hval0
  have hW' := hW
  obtain ⟨p, q, hA0, hV, rfl, hfz, hnd⟩ := hW
  have hA : DataW.TrodAll enc Try.prog W 0 (fun _ => true) true Try.f5.params.toList args.toList ds p := hA0
  rw [Try.params5] at hA hval
  obtain ⟨v0, vs0, d0, ds0, p0, q0, hargs, rfl, rfl, h0, r0⟩ := trodAll_cons hA
  obtain ⟨rfl, rfl, rfl⟩ := trodAll_nil r0
  obtain rfl : args = #[v0] := by cases args; simp_all
  obtain ⟨rfl, rfl⟩ := trodVars_none hV
  obtain ⟨a0, len0, cap0, rfl⟩ := okWide_slice Try.underlying22 (hval 0 22 v0 rfl rfl)
  have k0 := h0
  have lt0 : ∀ x ∈ p0, x.block < W.heap.size := by obtain ⟨m, hm⟩ := k0; exact DataW.trod_lt m _ _ _ hm
  obtain ⟨z0, w0⟩ : ∃ zs, IsRow .u8 W a0 len0 cap0 zs := by
    obtain ⟨fuel, hf⟩ := h0
    rcases open_ints Try.underlying22 Try.underlying5 (by kernel_rfl) hf with ⟨hcs, _⟩ | ⟨x, l, c, zs, hcs, _, hl, hm, hz, _, hcell, hwz⟩
    · simp [Value.cells] at hcs
      obtain ⟨rfl, rfl, rfl⟩ := hcs
      exact ⟨[], .inl ⟨rfl, rfl, rfl, rfl⟩⟩
    · simp [Value.cells] at hcs
      obtain ⟨rfl, rfl, rfl⟩ := hcs
      exact ⟨zs, .inr ⟨_, rfl, hl, hm, by simpa using hz, hcell, hwz⟩⟩
  clear hA0 hval0
  refine (walk a0 len0 cap0 z0 W w0).mono fun e W' ⟨he, bel⟩ => ?_
  subst he
  exact ⟨_, rfl, _, _, _, [], _, [], hW', trodAll_mk1 (shut_bool Try.underlying4 _), (trodAll_cons_mk (Below.trod laidOut (by kernel_rfl) (of_decide_eq_true (by kernel_rfl)) k0 bel lt0) trodAll_mk0), rfl, bel.frame _, fun h => by cases h⟩

theorem over : Rows.fnMergedRow.holds Try.pinned (OpenSpec.ofChange Rows.fnMergedSpec) :=
  OpenClaim.holds_of_wide 5 Try.f5 rfl rfl rfl rfl rfl rfl rfl ⟨rfl, rfl, rfl, rfl, rfl⟩ rfl rfl rfl rfl rfl (by kernel_rfl) Try.func5 (by kernel_rfl)
    (of_decide_eq_true (by kernel_rfl)) (by unfold Func.isWrapper; first | (rw [if_pos (by decide +kernel)]; kernel_rfl) | (rw [if_neg (by decide +kernel)]; exact ⟨rfl, rfl⟩))
    (fun os started H enc _ => lifted os started H enc)

theorem proved : Rows.FnMergedSaid := over
#print axioms proved
end Go.Proofs.Ytlapdamopclojaa.fnMerged
