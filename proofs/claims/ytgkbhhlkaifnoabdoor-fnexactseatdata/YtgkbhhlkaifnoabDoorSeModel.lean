/- Seats: what the model and the program share; the model's SeatOk and l9Copy. No statement of the seat is proved here. -/
import Derived.Test.YtgkbhhlkaifnoabDoorSeHelp
import Derived.Test.YtgkbhhlkaifnoabDoorAgOk
import Derived.Test.YtgkbhhlkaifnoabDoorSpModel2
import Derived.Test.YtgkbhhlkaifnoabDoorSpJoin
namespace Go.Proofs.YtgkbhhlkaifnoabDoor
open Go.RowKit
/-- A seat that is right, for a share. -/
def Se.ok (x : Se) (per : Int) : Bool := decide (1 ≤ per ∧ per ≤ 8) && decide (0 ≤ x.epoch ∧ x.epoch ≤ 1000) && decide (0 ≤ x.granted ∧ x.granted ≤ 60) && (x.taken.ok && x.taken.under x.granted) && decide (0 ≤ x.merged ∧ x.merged ≤ x.taken.size) && decide (x.granted ≤ x.merged + per) && decide (0 ≤ x.last ∧ x.last ≤ 1000000)
theorem Sp.size_range (ps : Sp) : 0 ≤ ps.size ∧ ps.size ≤ 10000 * ps.length := by
  unfold Sp.size
  by_cases h : ps.ok = true
  · rw [if_pos h]
    have := Sp.sum_range h ps.length (Nat.le_refl _)
    rw [List.take_length] at this
    exact this
  · rw [if_neg h]
    omega
theorem wrapSe {n : Int} (h : -9223372036854775808 ≤ n ∧ n ≤ 9223372036854775807) : IntKind.i64.wrap n = n := by
  unfold IntKind.wrap
  simp [IntKind.bits, IntKind.signed]
  omega
structure Se.Right (x : Se) (p : Int) : Prop where
  per : 1 ≤ p ∧ p ≤ 8
  epoch : 0 ≤ x.epoch ∧ x.epoch ≤ 1000
  granted : 0 ≤ x.granted ∧ x.granted ≤ 60
  taken : x.taken.ok = true
  under : x.taken.under x.granted = true
  merged : 0 ≤ x.merged ∧ x.merged ≤ x.taken.size
  share : x.granted ≤ x.merged + p
  last : 0 ≤ x.last ∧ x.last ≤ 1000000
theorem Se.right {x : Se} {per : Int} (h : x.ok per = true) : x.Right per := by
  unfold Se.ok at h
  simp only [Bool.and_eq_true, decide_eq_true_eq] at h
  exact ⟨h.1.1.1.1.1.1, h.1.1.1.1.1.2, h.1.1.1.1.2, h.1.1.1.2.1, h.1.1.1.2.2, h.1.1.2, h.1.2, h.2⟩
theorem Se.Right.ok {x : Se} {per : Int} (h : x.Right per) : x.ok per = true := by
  unfold Se.ok
  simp only [Bool.and_eq_true, decide_eq_true_eq]
  exact ⟨⟨⟨⟨⟨⟨h.per, h.epoch⟩, h.granted⟩, h.taken, h.under⟩, h.merged⟩, h.share⟩, h.last⟩
section
variable {P : Program} {ops : Array Oper} {Q : Exit → Act → World → Prop} {a : Act} {w : World} {o : Oper} {K : Act → World → Prop}
theorem op_callS2 (f : FuncId) (x y : Operand) (ts : Array TypeId) (fn : Func) (R : Value → World → Prop) (hw : Region.wanted o (yielded ops a.tmps) = true) (ho : o.op = Op.call { callee := Callee.value (Operand.func f), args := #[x, y], argTypes := ts })
    (hfn : P.funcs[f]? = some fn) (hnm : (fn.name == "runtime.NumGoroutine") = false) (hbd : fn.body.isNone = false) (hc : Calls P f #[a.eval x, a.eval y] w fun e w' => ∃ v, e = .returned v ∧ R v w') (h : ∀ v w', R v w' → ∃ a', a.put o.dst v = a' ∧ K a' w') : if Region.wanted o (yielded ops a.tmps) = true then Oper.wp P o a w K Q else K (a.put o.dst undef) w := by
  rw [if_pos hw]
  have hnm' : ¬ fn.name = "runtime.NumGoroutine" := by simpa using hnm
  have hbd' : ¬ fn.body = none := by intro e; rw [e] at hbd; cases hbd
  unfold Oper.wp
  simp only [execOp, ho, resolve, invoke, Oper.upon, go_sem]
  simp [callFunc, hfn, hnm', hbd', go_sem]
  simp [Act.eval, go_sem] at hc
  refine Calls.mono hc ?_
  rintro e w' ⟨v, rfl, hr⟩
  obtain ⟨a', ha', hk⟩ := h v w' hr
  rw [← ha'] at hk
  exact hk
theorem op_callS3 (f : FuncId) (x y z : Operand) (ts : Array TypeId) (fn : Func) (R : Value → World → Prop) (hw : Region.wanted o (yielded ops a.tmps) = true) (ho : o.op = Op.call { callee := Callee.value (Operand.func f), args := #[x, y, z], argTypes := ts })
    (hfn : P.funcs[f]? = some fn) (hnm : (fn.name == "runtime.NumGoroutine") = false) (hbd : fn.body.isNone = false) (hc : Calls P f #[a.eval x, a.eval y, a.eval z] w fun e w' => ∃ v, e = .returned v ∧ R v w') (h : ∀ v w', R v w' → ∃ a', a.put o.dst v = a' ∧ K a' w') : if Region.wanted o (yielded ops a.tmps) = true then Oper.wp P o a w K Q else K (a.put o.dst undef) w := by
  rw [if_pos hw]
  have hnm' : ¬ fn.name = "runtime.NumGoroutine" := by simpa using hnm
  have hbd' : ¬ fn.body = none := by intro e; rw [e] at hbd; cases hbd
  unfold Oper.wp
  simp only [execOp, ho, resolve, invoke, Oper.upon, go_sem]
  simp [callFunc, hfn, hnm', hbd', go_sem]
  simp [Act.eval, go_sem] at hc
  refine Calls.mono hc ?_
  rintro e w' ⟨v, rfl, hr⟩
  obtain ⟨a', ha', hk⟩ := h v w' hr
  rw [← ha'] at hk
  exact hk
end
/-- A seat in a variable at L that will be the answer: the argument's box, the result's place. -/
structure SeW (w : World) (A : Array Value) (L : Nat) (ep gr me la : Int) (ts : Sp) (b : Option Addr) (l c : Nat) (F : List Nat) (W : World) : Prop where
  box : Blk W w.heap.size A 28
  res : Blk W (w.heap.size + 1) #[.int .i64 0, .int .i64 0, .slice none 0 0, .int .i64 0, .int .i64 0] 28
  loc : Blk W L #[.int .i64 ep, .int .i64 gr, .slice b l c, .int .i64 me, .int .i64 la] 28
  rp : RdP W b l ts F
  cp : Capd b l c
  own : Own (w.heap.size + 2) W F
  bel : Below w.heap.size w W
  gt : w.heap.size + 2 ≤ L
  ap : L ∉ F
section
variable {w W W' : World} {A : Array Value} {L : Nat} {ep gr me la : Int} {ts : Sp} {b : Option Addr} {l c : Nat} {F : List Nat}
theorem SeW.below (h : SeW w A L ep gr me la ts b l c F W) (k : Below W.heap.size W W') : SeW w A L ep gr me la ts b l c F W' :=
  ⟨h.box.below k, h.res.below k, h.loc.below k, h.rp.below k, h.cp, h.own.below h.rp.lt k, Below.next h.bel k, h.gt, h.ap⟩
theorem SeW.drew (h : SeW w A L ep gr me la ts b l c F W) : SeW w A L ep gr me la ts b l c F W.drew := h.below (Below.refl _ _).drew
theorem SeW.set (h : SeW w A L ep gr me la ts b l c F W) (j : Nat) (v : Value) {ep' gr' me' la' : Int} (hc : (#[.int .i64 ep, .int .i64 gr, .slice b l c, .int .i64 me, .int .i64 la] : Array Value).setIfInBounds j v = #[.int .i64 ep', .int .i64 gr', .slice b l c, .int .i64 me', .int .i64 la']) : SeW w A L ep' gr' me' la' ts b l c F (W.setCell ⟨L, j, none⟩ v) := by
  have gt := h.gt
  have hl := h.loc.set j v
  rw [hc] at hl
  have ag : Agree W (W.setCell ⟨L, j, none⟩ v) F := .set h.ap j v
  exact ⟨h.box.setOther (by omega) j v, h.res.setOther (by omega) j v, hl, h.rp.agree ag, h.cp, h.own.agree ag, h.bel.setCell (by show w.heap.size ≤ L; omega) v, h.gt, h.ap⟩
theorem SeW.put (h : SeW w A L ep gr me la ts b l c F W) {b' : Option Addr} {l' c' : Nat} {us : Sp} {G : List Nat} (r : RdP W b' l' us G) (k : Capd b' l' c') (o : Own (w.heap.size + 2) W G) (nL : L ∉ G) : SeW w A L ep gr me la us b' l' c' G (W.setCell ⟨L, 2, none⟩ (.slice b' l' c')) := by
  have gt := h.gt
  have ag : Agree W (W.setCell ⟨L, 2, none⟩ (.slice b' l' c')) G := .set nL 2 _
  exact ⟨h.box.setOther (by omega) 2 _, h.res.setOther (by omega) 2 _, h.loc.set 2 _, r.agree ag, k, o.agree ag, h.bel.setCell (by show w.heap.size ≤ L; omega) _, h.gt, nL⟩
theorem SeW.rd (h : SeW w A L ep gr me la ts b l c F W) : RdSe W (.agg #[.int .i64 ep, .int .i64 gr, .slice b l c, .int .i64 me, .int .i64 la]) ⟨ep, gr, ts, me, la⟩ F := ⟨b, l, c, rfl, h.rp, h.cp⟩
theorem SeW.done (h : SeW w A L ep gr me la ts b l c F W) : RdSe (W.setRow (w.heap.size + 1) #[.int .i64 ep, .int .i64 gr, .slice b l c, .int .i64 me, .int .i64 la]) (.agg #[.int .i64 ep, .int .i64 gr, .slice b l c, .int .i64 me, .int .i64 la]) ⟨ep, gr, ts, me, la⟩ F ∧ Own w.heap.size (W.setRow (w.heap.size + 1) #[.int .i64 ep, .int .i64 gr, .slice b l c, .int .i64 me, .int .i64 la]) F ∧ Below w.heap.size w (W.setRow (w.heap.size + 1) #[.int .i64 ep, .int .i64 gr, .slice b l c, .int .i64 me, .int .i64 la]) := by
  have nr : w.heap.size + 1 ∉ F := fun hx => by have := h.own.ge _ hx; omega
  exact ⟨h.rd.agree (Agree.row nr _), (h.own.agree (Agree.row nr _)).mono (by omega), below_setRow h.bel (by omega) _⟩
theorem SeW.made {W1 W2 : World} {cs : Array Value} {x : Se} (T : Two w A #[.int .i64 0, .int .i64 0, .slice none 0 0, .int .i64 0, .int .i64 0] 28 W) (r : RdSe W1 (.agg cs) x F) (o : Own W.heap.size W1 F) (k : Below W.heap.size W W1) (g : Blk W2 W1.heap.size cs 28) (k2 : Below W1.heap.size W1 W2) : ∃ b l c, cs = #[.int .i64 x.epoch, .int .i64 x.granted, .slice b l c, .int .i64 x.merged, .int .i64 x.last] ∧ SeW w A W1.heap.size x.epoch x.granted x.merged x.last x.taken b l c F W2 := by
  obtain ⟨b, l, c, e, hp, hc⟩ := r
  injection e with e
  subst e
  have hs := T.snd.lt
  have hk := k.size
  exact ⟨b, l, c, rfl, (T.fst.below k).below k2, (T.snd.below k).below k2, g, hp.below k2, hc, (o.below hp.lt k2).mono (by omega), Below.next (Below.next T.bel k) k2, by omega, fun hx => by have := hp.lt _ hx; omega⟩
end
theorem Sp.boxed {w : World} {A : Array Value} {t : TypeId} : Blk (w.alloc (.cells A t)) w.heap.size A t ∧ Below w.heap.size w (w.alloc (.cells A t)) := ⟨Blk.made _ _ _, (Below.refl _ _).alloc (Nat.le_refl _) _⟩
set_option maxRecDepth 200000 in
set_option maxHeartbeats 4000000 in
theorem seOkSpec_any (v : Value) (x : Se) (per : Int) (F : List Nat) (w : World) (h : RdSe w v x F) (hl : x.taken.length ≤ 2097152) :
    Calls Tryd.prog 13 #[v, .int .i64 per] w fun e w' => e = .returned (.bool (x.ok per)) ∧ Below w.heap.size w w' := by
  obtain ⟨b, l, c, rfl, hP, _⟩ := h
  have HP : Hid (RdP w b l x.taken F ∧ l ≤ 2097152) := ⟨hP, by rw [← hP.length]; exact hl⟩
  have HSZ : Hid (0 ≤ x.taken.size ∧ x.taken.size ≤ 20971520000) := by have := Sp.size_range x.taken; exact ⟨this.1, by omega⟩
  have HB : Hid (Blk (w.alloc (.cells #[.int .i64 x.epoch, .int .i64 x.granted, .slice b l c, .int .i64 x.merged, .int .i64 x.last] 28)) w.heap.size #[.int .i64 x.epoch, .int .i64 x.granted, .slice b l c, .int .i64 x.merged, .int .i64 x.last] 28 ∧ Below w.heap.size w (w.alloc (.cells #[.int .i64 x.epoch, .int .i64 x.granted, .slice b l c, .int .i64 x.merged, .int .i64 x.last] 28))) := Sp.boxed
  clear hP hl
  go_enter Tryd.func13, Tryd.ntmps13
  go_wp2_with fail
  obtain ⟨W0, hW0⟩ : ∃ W, W = (w.alloc (.cells #[.int .i64 x.epoch, .int .i64 x.granted, .slice b l c, .int .i64 x.merged, .int .i64 x.last] 28)).drew := ⟨_, rfl⟩
  have HS : Hid (Blk W0 w.heap.size #[.int .i64 x.epoch, .int .i64 x.granted, .slice b l c, .int .i64 x.merged, .int .i64 x.last] 28 ∧ Below w.heap.size w W0) := by rw [hW0]; exact ⟨HB.out.1.below (Below.refl _ _).drew, Below.next HB.out.2 (Below.refl _ _).drew⟩
  clear HB
  refine wp_region_held (S := fun W => Blk W w.heap.size #[.int .i64 x.epoch, .int .i64 x.granted, .slice b l c, .int .i64 x.merged, .int .i64 x.last] 28) (by kernel_rfl) ?_
  change wpAnyH _ _ _ _ _ _ _ _ (World.drew _)
  rw [← hW0]
  clear hW0
  refine takeH (o := ?o1) 0 (.int .i64 per) ?h1 ?r1
  case h1 => simp only [aT, aZ]; rfl
  refine ⟨_, by simp [Act.put]; rfl, by kernel_rfl, by kernel_rfl, by kernel_rfl, fun _ _ _ h => h, (.inl ⟨rfl, fun W _ => by kernel_rfl⟩), HS.out.1, ?_⟩
  refine onlyH (o := ?o2) 1 (by kernel_rfl) ?h2 ?r2
  case h2 => simp only [aT, aS, aZ]; rfl
  intro K hK
  obtain ⟨d1, hd1⟩ : ∃ d, d = decide (1 ≤ per ∧ per ≤ 8) := ⟨_, rfl⟩
  have HD1 : Hid (d1 = decide (1 ≤ per ∧ per ≤ 8)) := hd1
  refine op_callS3 14 _ _ _ _ Tryd.f14 (fun v w' => v = .bool d1 ∧ w' = W0) rfl rfl Tryd.func14 (by kernel_rfl) (by kernel_rfl) ((l1In_any per 1 8 W0).mono (by rintro e w' ⟨rfl, rfl⟩; exact ⟨_, rfl, by rw [hd1], rfl⟩)) ?_
  rintro v W1 ⟨rfl, hq⟩
  have hq' := hq.symm
  subst hq'
  clear hq hd1
  refine ⟨_, by simp [Act.put]; rfl, hK _ _ ⟨HS.out.1, ?_⟩⟩
  clear hK
  cases d1
  · refine takeH (o := ?o3) 2 (.bool false) ?h3 ?r3
    case h3 => simp only [aT, aS, aZ]; rfl
    refine ⟨_, by simp [Act.put]; rfl, by kernel_rfl, by kernel_rfl, by kernel_rfl, fun _ _ _ h => h, (.inl ⟨rfl, fun W _ => by kernel_rfl⟩), HS.out.1, ?_⟩
    refine takeH (o := ?o4) 3 (undef) ?h4 ?r4
    case h4 => simp only [aT, aS, aZ]; rfl
    refine ⟨_, by simp [Act.put]; rfl, by kernel_rfl, by kernel_rfl, by kernel_rfl, fun _ _ _ h => h, (.inr ⟨rfl, rfl⟩), HS.out.1, ?_⟩
    refine takeH (o := ?o5) 4 (undef) ?h5 ?r5
    case h5 => simp only [aT, aS, aZ]; rfl
    refine ⟨_, by simp [Act.put]; rfl, by kernel_rfl, by kernel_rfl, by kernel_rfl, fun _ _ _ h => h, (.inr ⟨rfl, rfl⟩), HS.out.1, ?_⟩
    refine takeH (o := ?o6) 5 (undef) ?h6 ?r6
    case h6 => simp only [aT, aS, aZ]; rfl
    refine ⟨_, by simp [Act.put]; rfl, by kernel_rfl, by kernel_rfl, by kernel_rfl, fun _ _ _ h => h, (.inr ⟨rfl, rfl⟩), HS.out.1, ?_⟩
    refine takeH (o := ?o7) 6 (.bool false) ?h7 ?r7
    case h7 => simp only [aT, aS, aZ]; rfl
    refine ⟨_, by simp [Act.put]; rfl, by kernel_rfl, by kernel_rfl, by kernel_rfl, fun _ _ _ h => h, (.inl ⟨rfl, fun W _ => by kernel_rfl⟩), HS.out.1, ?_⟩
    refine takeH (o := ?o8) 7 (.bool false) ?h8 ?r8
    case h8 => simp only [aT, aS, aZ]; rfl
    refine ⟨_, by simp [Act.put]; rfl, by kernel_rfl, by kernel_rfl, by kernel_rfl, fun _ _ _ h => h, (.inl ⟨rfl, fun W _ => by kernel_rfl⟩), HS.out.1, ?_⟩
    refine takeH (o := ?o9) 8 (undef) ?h9 ?r9
    case h9 => simp only [aT, aS, aZ]; rfl
    refine ⟨_, by simp [Act.put]; rfl, by kernel_rfl, by kernel_rfl, by kernel_rfl, fun _ _ _ h => h, (.inr ⟨rfl, rfl⟩), HS.out.1, ?_⟩
    refine takeH (o := ?o10) 9 (undef) ?h10 ?r10
    case h10 => simp only [aT, aS, aZ]; rfl
    refine ⟨_, by simp [Act.put]; rfl, by kernel_rfl, by kernel_rfl, by kernel_rfl, fun _ _ _ h => h, (.inr ⟨rfl, rfl⟩), HS.out.1, ?_⟩
    refine takeH (o := ?o11) 10 (undef) ?h11 ?r11
    case h11 => simp only [aT, aS, aZ]; rfl
    refine ⟨_, by simp [Act.put]; rfl, by kernel_rfl, by kernel_rfl, by kernel_rfl, fun _ _ _ h => h, (.inr ⟨rfl, rfl⟩), HS.out.1, ?_⟩
    refine takeH (o := ?o12) 11 (.bool false) ?h12 ?r12
    case h12 => simp only [aT, aS, aZ]; rfl
    refine ⟨_, by simp [Act.put]; rfl, by kernel_rfl, by kernel_rfl, by kernel_rfl, fun _ _ _ h => h, (.inl ⟨rfl, fun W _ => by kernel_rfl⟩), HS.out.1, ?_⟩
    refine takeH (o := ?o13) 12 (.bool false) ?h13 ?r13
    case h13 => simp only [aT, aS, aZ]; rfl
    refine ⟨_, by simp [Act.put]; rfl, by kernel_rfl, by kernel_rfl, by kernel_rfl, fun _ _ _ h => h, (.inl ⟨rfl, fun W _ => by kernel_rfl⟩), HS.out.1, ?_⟩
    refine takeH (o := ?o14) 13 (undef) ?h14 ?r14
    case h14 => simp only [aT, aS, aZ]; rfl
    refine ⟨_, by simp [Act.put]; rfl, by kernel_rfl, by kernel_rfl, by kernel_rfl, fun _ _ _ h => h, (.inr ⟨rfl, rfl⟩), HS.out.1, ?_⟩
    refine takeH (o := ?o15) 14 (undef) ?h15 ?r15
    case h15 => simp only [aT, aS, aZ]; rfl
    refine ⟨_, by simp [Act.put]; rfl, by kernel_rfl, by kernel_rfl, by kernel_rfl, fun _ _ _ h => h, (.inr ⟨rfl, rfl⟩), HS.out.1, ?_⟩
    refine takeH (o := ?o16) 15 (undef) ?h16 ?r16
    case h16 => simp only [aT, aS, aZ]; rfl
    refine ⟨_, by simp [Act.put]; rfl, by kernel_rfl, by kernel_rfl, by kernel_rfl, fun _ _ _ h => h, (.inr ⟨rfl, rfl⟩), HS.out.1, ?_⟩
    refine takeH (o := ?o17) 16 (undef) ?h17 ?r17
    case h17 => simp only [aT, aS, aZ]; rfl
    refine ⟨_, by simp [Act.put]; rfl, by kernel_rfl, by kernel_rfl, by kernel_rfl, fun _ _ _ h => h, (.inr ⟨rfl, rfl⟩), HS.out.1, ?_⟩
    refine takeH (o := ?o18) 17 (undef) ?h18 ?r18
    case h18 => simp only [aT, aS, aZ]; rfl
    refine ⟨_, by simp [Act.put]; rfl, by kernel_rfl, by kernel_rfl, by kernel_rfl, fun _ _ _ h => h, (.inr ⟨rfl, rfl⟩), HS.out.1, ?_⟩
    refine takeH (o := ?o19) 18 (.bool false) ?h19 ?r19
    case h19 => simp only [aT, aS, aZ]; rfl
    refine ⟨_, by simp [Act.put]; rfl, by kernel_rfl, by kernel_rfl, by kernel_rfl, fun _ _ _ h => h, (.inl ⟨rfl, fun W _ => by kernel_rfl⟩), HS.out.1, ?_⟩
    refine takeH (o := ?o20) 19 (.bool false) ?h20 ?r20
    case h20 => simp only [aT, aS, aZ]; rfl
    refine ⟨_, by simp [Act.put]; rfl, by kernel_rfl, by kernel_rfl, by kernel_rfl, fun _ _ _ h => h, (.inl ⟨rfl, fun W _ => by kernel_rfl⟩), HS.out.1, ?_⟩
    refine takeH (o := ?o21) 20 (undef) ?h21 ?r21
    case h21 => simp only [aT, aS, aZ]; rfl
    refine ⟨_, by simp [Act.put]; rfl, by kernel_rfl, by kernel_rfl, by kernel_rfl, fun _ _ _ h => h, (.inr ⟨rfl, rfl⟩), HS.out.1, ?_⟩
    refine takeH (o := ?o22) 21 (undef) ?h22 ?r22
    case h22 => simp only [aT, aS, aZ]; rfl
    refine ⟨_, by simp [Act.put]; rfl, by kernel_rfl, by kernel_rfl, by kernel_rfl, fun _ _ _ h => h, (.inr ⟨rfl, rfl⟩), HS.out.1, ?_⟩
    refine takeH (o := ?o23) 22 (undef) ?h23 ?r23
    case h23 => simp only [aT, aS, aZ]; rfl
    refine ⟨_, by simp [Act.put]; rfl, by kernel_rfl, by kernel_rfl, by kernel_rfl, fun _ _ _ h => h, (.inr ⟨rfl, rfl⟩), HS.out.1, ?_⟩
    refine takeH (o := ?o24) 23 (undef) ?h24 ?r24
    case h24 => simp only [aT, aS, aZ]; rfl
    refine ⟨_, by simp [Act.put]; rfl, by kernel_rfl, by kernel_rfl, by kernel_rfl, fun _ _ _ h => h, (.inr ⟨rfl, rfl⟩), HS.out.1, ?_⟩
    refine takeH (o := ?o25) 24 (undef) ?h25 ?r25
    case h25 => simp only [aT, aS, aZ]; rfl
    refine ⟨_, by simp [Act.put]; rfl, by kernel_rfl, by kernel_rfl, by kernel_rfl, fun _ _ _ h => h, (.inr ⟨rfl, rfl⟩), HS.out.1, ?_⟩
    refine takeH (o := ?o26) 25 (undef) ?h26 ?r26
    case h26 => simp only [aT, aS, aZ]; rfl
    refine ⟨_, by simp [Act.put]; rfl, by kernel_rfl, by kernel_rfl, by kernel_rfl, fun _ _ _ h => h, (.inr ⟨rfl, rfl⟩), HS.out.1, ?_⟩
    refine takeH (o := ?o27) 26 (.bool false) ?h27 ?r27
    case h27 => simp only [aT, aS, aZ]; rfl
    refine ⟨_, by simp [Act.put]; rfl, by kernel_rfl, by kernel_rfl, by kernel_rfl, fun _ _ _ h => h, (.inl ⟨rfl, fun W _ => by kernel_rfl⟩), HS.out.1, ?_⟩
    refine takeH (o := ?o28) 27 (.bool false) ?h28 ?r28
    case h28 => simp only [aT, aS, aZ]; rfl
    refine ⟨_, by simp [Act.put]; rfl, by kernel_rfl, by kernel_rfl, by kernel_rfl, fun _ _ _ h => h, (.inl ⟨rfl, fun W _ => by kernel_rfl⟩), HS.out.1, ?_⟩
    refine takeH (o := ?o29) 28 (undef) ?h29 ?r29
    case h29 => simp only [aT, aS, aZ]; rfl
    refine ⟨_, by simp [Act.put]; rfl, by kernel_rfl, by kernel_rfl, by kernel_rfl, fun _ _ _ h => h, (.inr ⟨rfl, rfl⟩), HS.out.1, ?_⟩
    refine takeH (o := ?o30) 29 (undef) ?h30 ?r30
    case h30 => simp only [aT, aS, aZ]; rfl
    refine ⟨_, by simp [Act.put]; rfl, by kernel_rfl, by kernel_rfl, by kernel_rfl, fun _ _ _ h => h, (.inr ⟨rfl, rfl⟩), HS.out.1, ?_⟩
    refine takeH (o := ?o31) 30 (undef) ?h31 ?r31
    case h31 => simp only [aT, aS, aZ]; rfl
    refine ⟨_, by simp [Act.put]; rfl, by kernel_rfl, by kernel_rfl, by kernel_rfl, fun _ _ _ h => h, (.inr ⟨rfl, rfl⟩), HS.out.1, ?_⟩
    refine takeH (o := ?o32) 31 (undef) ?h32 ?r32
    case h32 => simp only [aT, aS, aZ]; rfl
    refine ⟨_, by simp [Act.put]; rfl, by kernel_rfl, by kernel_rfl, by kernel_rfl, fun _ _ _ h => h, (.inr ⟨rfl, rfl⟩), HS.out.1, ?_⟩
    refine takeH (o := ?o33) 32 (undef) ?h33 ?r33
    case h33 => simp only [aT, aS, aZ]; rfl
    refine ⟨_, by simp [Act.put]; rfl, by kernel_rfl, by kernel_rfl, by kernel_rfl, fun _ _ _ h => h, (.inr ⟨rfl, rfl⟩), HS.out.1, ?_⟩
    refine takeH (o := ?o34) 33 (undef) ?h34 ?r34
    case h34 => simp only [aT, aS, aZ]; rfl
    refine ⟨_, by simp [Act.put]; rfl, by kernel_rfl, by kernel_rfl, by kernel_rfl, fun _ _ _ h => h, (.inr ⟨rfl, rfl⟩), HS.out.1, ?_⟩
    refine takeH (o := ?o35) 34 (undef) ?h35 ?r35
    case h35 => simp only [aT, aS, aZ]; rfl
    refine ⟨_, by simp [Act.put]; rfl, by kernel_rfl, by kernel_rfl, by kernel_rfl, fun _ _ _ h => h, (.inr ⟨rfl, rfl⟩), HS.out.1, ?_⟩
    refine takeH (o := ?o36) 35 (.bool false) ?h36 ?r36
    case h36 => simp only [aT, aS, aZ]; rfl
    refine ⟨_, by simp [Act.put]; rfl, by kernel_rfl, by kernel_rfl, by kernel_rfl, fun _ _ _ h => h, (.inl ⟨rfl, fun W _ => by kernel_rfl⟩), HS.out.1, ?_⟩
    refine takeH (o := ?o37) 36 (.bool false) ?h37 ?r37
    case h37 => simp only [aT, aS, aZ]; rfl
    refine ⟨_, by simp [Act.put]; rfl, by kernel_rfl, by kernel_rfl, by kernel_rfl, fun _ _ _ h => h, (.inl ⟨rfl, fun W _ => by kernel_rfl⟩), HS.out.1, ?_⟩
    refine takeH (o := ?o38) 37 (undef) ?h38 ?r38
    case h38 => simp only [aT, aS, aZ]; rfl
    refine ⟨_, by simp [Act.put]; rfl, by kernel_rfl, by kernel_rfl, by kernel_rfl, fun _ _ _ h => h, (.inr ⟨rfl, rfl⟩), HS.out.1, ?_⟩
    refine takeH (o := ?o39) 38 (undef) ?h39 ?r39
    case h39 => simp only [aT, aS, aZ]; rfl
    refine ⟨_, by simp [Act.put]; rfl, by kernel_rfl, by kernel_rfl, by kernel_rfl, fun _ _ _ h => h, (.inr ⟨rfl, rfl⟩), HS.out.1, ?_⟩
    refine takeH (o := ?o40) 39 (undef) ?h40 ?r40
    case h40 => simp only [aT, aS, aZ]; rfl
    refine ⟨_, by simp [Act.put]; rfl, by kernel_rfl, by kernel_rfl, by kernel_rfl, fun _ _ _ h => h, (.inr ⟨rfl, rfl⟩), HS.out.1, ?_⟩
    refine takeH (o := ?o41) 40 (.bool false) ?h41 ?r41
    case h41 => simp only [aT, aS, aZ]; rfl
    refine ⟨_, by simp [Act.put]; rfl, by kernel_rfl, by kernel_rfl, by kernel_rfl, fun _ _ _ h => h, (.inl ⟨rfl, fun W _ => by kernel_rfl⟩), HS.out.1, ?_⟩
    refine takeH (o := ?o42) 41 (.bool false) ?h42 ?r42
    case h42 => simp only [aT, aS, aZ]; rfl
    refine ⟨_, by simp [Act.put]; rfl, by kernel_rfl, by kernel_rfl, by kernel_rfl, fun _ _ _ h => h, (.inl ⟨rfl, fun W _ => by kernel_rfl⟩), HS.out.1, ?_⟩
    refine wpAnyH_done (by kernel_rfl) ?_ _
    have HV : Hid (x.ok per = false) := by show _ = _; unfold Se.ok; rw [← HD1.out]; simp
    go_wp2
    go_ret
    exact ⟨ret_bool HV.out.symm, HS.out.2⟩
  refine takeH (o := ?o43) 2 (.bool true) ?h43 ?r43
  case h43 => simp only [aT, aS, aZ]; rfl
  refine ⟨_, by simp [Act.put]; rfl, by kernel_rfl, by kernel_rfl, by kernel_rfl, fun _ _ _ h => h, (.inl ⟨rfl, fun W _ => by kernel_rfl⟩), HS.out.1, ?_⟩
  refine takeH (o := ?o44) 3 (.pointer (some ⟨w.heap.size, 0, none⟩)) ?h44 ?r44
  case h44 => simp only [aT, aS, aZ]; rfl
  refine ⟨_, by simp [Act.put]; rfl, by kernel_rfl, by kernel_rfl, by kernel_rfl, fun _ _ _ h => h, (.inl ⟨rfl, fun W _ => by kernel_rfl⟩), HS.out.1, ?_⟩
  refine takeH (o := ?o45) 4 (.int .i64 x.epoch) ?h45 ?r45
  case h45 => simp only [aT, aS, aZ]; rfl
  refine ⟨_, by simp [Act.put]; rfl, by kernel_rfl, by kernel_rfl, by kernel_rfl, fun _ _ _ h => h, (.inl ⟨rfl, fun W hW => by have c := hW.cell 0; simp only [aT, aZ] at c; go_simp⟩), HS.out.1, ?_⟩
  refine onlyH (o := ?o46) 5 (by kernel_rfl) ?h46 ?r46
  case h46 => simp only [aT, aS, aZ]; rfl
  intro K hK
  obtain ⟨d2, hd2⟩ : ∃ d, d = decide (0 ≤ x.epoch ∧ x.epoch ≤ 1000) := ⟨_, rfl⟩
  have HD2 : Hid (d2 = decide (0 ≤ x.epoch ∧ x.epoch ≤ 1000)) := hd2
  refine op_callS3 14 _ _ _ _ Tryd.f14 (fun v w' => v = .bool d2 ∧ w' = W0) rfl rfl Tryd.func14 (by kernel_rfl) (by kernel_rfl) ((l1In_any x.epoch 0 1000 W0).mono (by rintro e w' ⟨rfl, rfl⟩; exact ⟨_, rfl, by rw [hd2], rfl⟩)) ?_
  rintro v W2 ⟨rfl, hq⟩
  have hq' := hq.symm
  subst hq'
  clear hq hd2
  refine ⟨_, by simp [Act.put]; rfl, hK _ _ ⟨HS.out.1, ?_⟩⟩
  clear hK
  cases d2
  · refine takeH (o := ?o47) 6 (.bool false) ?h47 ?r47
    case h47 => simp only [aT, aS, aZ]; rfl
    refine ⟨_, by simp [Act.put]; rfl, by kernel_rfl, by kernel_rfl, by kernel_rfl, fun _ _ _ h => h, (.inl ⟨rfl, fun W _ => by kernel_rfl⟩), HS.out.1, ?_⟩
    refine takeH (o := ?o48) 7 (.bool false) ?h48 ?r48
    case h48 => simp only [aT, aS, aZ]; rfl
    refine ⟨_, by simp [Act.put]; rfl, by kernel_rfl, by kernel_rfl, by kernel_rfl, fun _ _ _ h => h, (.inl ⟨rfl, fun W _ => by kernel_rfl⟩), HS.out.1, ?_⟩
    refine takeH (o := ?o49) 8 (undef) ?h49 ?r49
    case h49 => simp only [aT, aS, aZ]; rfl
    refine ⟨_, by simp [Act.put]; rfl, by kernel_rfl, by kernel_rfl, by kernel_rfl, fun _ _ _ h => h, (.inr ⟨rfl, rfl⟩), HS.out.1, ?_⟩
    refine takeH (o := ?o50) 9 (undef) ?h50 ?r50
    case h50 => simp only [aT, aS, aZ]; rfl
    refine ⟨_, by simp [Act.put]; rfl, by kernel_rfl, by kernel_rfl, by kernel_rfl, fun _ _ _ h => h, (.inr ⟨rfl, rfl⟩), HS.out.1, ?_⟩
    refine takeH (o := ?o51) 10 (undef) ?h51 ?r51
    case h51 => simp only [aT, aS, aZ]; rfl
    refine ⟨_, by simp [Act.put]; rfl, by kernel_rfl, by kernel_rfl, by kernel_rfl, fun _ _ _ h => h, (.inr ⟨rfl, rfl⟩), HS.out.1, ?_⟩
    refine takeH (o := ?o52) 11 (.bool false) ?h52 ?r52
    case h52 => simp only [aT, aS, aZ]; rfl
    refine ⟨_, by simp [Act.put]; rfl, by kernel_rfl, by kernel_rfl, by kernel_rfl, fun _ _ _ h => h, (.inl ⟨rfl, fun W _ => by kernel_rfl⟩), HS.out.1, ?_⟩
    refine takeH (o := ?o53) 12 (.bool false) ?h53 ?r53
    case h53 => simp only [aT, aS, aZ]; rfl
    refine ⟨_, by simp [Act.put]; rfl, by kernel_rfl, by kernel_rfl, by kernel_rfl, fun _ _ _ h => h, (.inl ⟨rfl, fun W _ => by kernel_rfl⟩), HS.out.1, ?_⟩
    refine takeH (o := ?o54) 13 (undef) ?h54 ?r54
    case h54 => simp only [aT, aS, aZ]; rfl
    refine ⟨_, by simp [Act.put]; rfl, by kernel_rfl, by kernel_rfl, by kernel_rfl, fun _ _ _ h => h, (.inr ⟨rfl, rfl⟩), HS.out.1, ?_⟩
    refine takeH (o := ?o55) 14 (undef) ?h55 ?r55
    case h55 => simp only [aT, aS, aZ]; rfl
    refine ⟨_, by simp [Act.put]; rfl, by kernel_rfl, by kernel_rfl, by kernel_rfl, fun _ _ _ h => h, (.inr ⟨rfl, rfl⟩), HS.out.1, ?_⟩
    refine takeH (o := ?o56) 15 (undef) ?h56 ?r56
    case h56 => simp only [aT, aS, aZ]; rfl
    refine ⟨_, by simp [Act.put]; rfl, by kernel_rfl, by kernel_rfl, by kernel_rfl, fun _ _ _ h => h, (.inr ⟨rfl, rfl⟩), HS.out.1, ?_⟩
    refine takeH (o := ?o57) 16 (undef) ?h57 ?r57
    case h57 => simp only [aT, aS, aZ]; rfl
    refine ⟨_, by simp [Act.put]; rfl, by kernel_rfl, by kernel_rfl, by kernel_rfl, fun _ _ _ h => h, (.inr ⟨rfl, rfl⟩), HS.out.1, ?_⟩
    refine takeH (o := ?o58) 17 (undef) ?h58 ?r58
    case h58 => simp only [aT, aS, aZ]; rfl
    refine ⟨_, by simp [Act.put]; rfl, by kernel_rfl, by kernel_rfl, by kernel_rfl, fun _ _ _ h => h, (.inr ⟨rfl, rfl⟩), HS.out.1, ?_⟩
    refine takeH (o := ?o59) 18 (.bool false) ?h59 ?r59
    case h59 => simp only [aT, aS, aZ]; rfl
    refine ⟨_, by simp [Act.put]; rfl, by kernel_rfl, by kernel_rfl, by kernel_rfl, fun _ _ _ h => h, (.inl ⟨rfl, fun W _ => by kernel_rfl⟩), HS.out.1, ?_⟩
    refine takeH (o := ?o60) 19 (.bool false) ?h60 ?r60
    case h60 => simp only [aT, aS, aZ]; rfl
    refine ⟨_, by simp [Act.put]; rfl, by kernel_rfl, by kernel_rfl, by kernel_rfl, fun _ _ _ h => h, (.inl ⟨rfl, fun W _ => by kernel_rfl⟩), HS.out.1, ?_⟩
    refine takeH (o := ?o61) 20 (undef) ?h61 ?r61
    case h61 => simp only [aT, aS, aZ]; rfl
    refine ⟨_, by simp [Act.put]; rfl, by kernel_rfl, by kernel_rfl, by kernel_rfl, fun _ _ _ h => h, (.inr ⟨rfl, rfl⟩), HS.out.1, ?_⟩
    refine takeH (o := ?o62) 21 (undef) ?h62 ?r62
    case h62 => simp only [aT, aS, aZ]; rfl
    refine ⟨_, by simp [Act.put]; rfl, by kernel_rfl, by kernel_rfl, by kernel_rfl, fun _ _ _ h => h, (.inr ⟨rfl, rfl⟩), HS.out.1, ?_⟩
    refine takeH (o := ?o63) 22 (undef) ?h63 ?r63
    case h63 => simp only [aT, aS, aZ]; rfl
    refine ⟨_, by simp [Act.put]; rfl, by kernel_rfl, by kernel_rfl, by kernel_rfl, fun _ _ _ h => h, (.inr ⟨rfl, rfl⟩), HS.out.1, ?_⟩
    refine takeH (o := ?o64) 23 (undef) ?h64 ?r64
    case h64 => simp only [aT, aS, aZ]; rfl
    refine ⟨_, by simp [Act.put]; rfl, by kernel_rfl, by kernel_rfl, by kernel_rfl, fun _ _ _ h => h, (.inr ⟨rfl, rfl⟩), HS.out.1, ?_⟩
    refine takeH (o := ?o65) 24 (undef) ?h65 ?r65
    case h65 => simp only [aT, aS, aZ]; rfl
    refine ⟨_, by simp [Act.put]; rfl, by kernel_rfl, by kernel_rfl, by kernel_rfl, fun _ _ _ h => h, (.inr ⟨rfl, rfl⟩), HS.out.1, ?_⟩
    refine takeH (o := ?o66) 25 (undef) ?h66 ?r66
    case h66 => simp only [aT, aS, aZ]; rfl
    refine ⟨_, by simp [Act.put]; rfl, by kernel_rfl, by kernel_rfl, by kernel_rfl, fun _ _ _ h => h, (.inr ⟨rfl, rfl⟩), HS.out.1, ?_⟩
    refine takeH (o := ?o67) 26 (.bool false) ?h67 ?r67
    case h67 => simp only [aT, aS, aZ]; rfl
    refine ⟨_, by simp [Act.put]; rfl, by kernel_rfl, by kernel_rfl, by kernel_rfl, fun _ _ _ h => h, (.inl ⟨rfl, fun W _ => by kernel_rfl⟩), HS.out.1, ?_⟩
    refine takeH (o := ?o68) 27 (.bool false) ?h68 ?r68
    case h68 => simp only [aT, aS, aZ]; rfl
    refine ⟨_, by simp [Act.put]; rfl, by kernel_rfl, by kernel_rfl, by kernel_rfl, fun _ _ _ h => h, (.inl ⟨rfl, fun W _ => by kernel_rfl⟩), HS.out.1, ?_⟩
    refine takeH (o := ?o69) 28 (undef) ?h69 ?r69
    case h69 => simp only [aT, aS, aZ]; rfl
    refine ⟨_, by simp [Act.put]; rfl, by kernel_rfl, by kernel_rfl, by kernel_rfl, fun _ _ _ h => h, (.inr ⟨rfl, rfl⟩), HS.out.1, ?_⟩
    refine takeH (o := ?o70) 29 (undef) ?h70 ?r70
    case h70 => simp only [aT, aS, aZ]; rfl
    refine ⟨_, by simp [Act.put]; rfl, by kernel_rfl, by kernel_rfl, by kernel_rfl, fun _ _ _ h => h, (.inr ⟨rfl, rfl⟩), HS.out.1, ?_⟩
    refine takeH (o := ?o71) 30 (undef) ?h71 ?r71
    case h71 => simp only [aT, aS, aZ]; rfl
    refine ⟨_, by simp [Act.put]; rfl, by kernel_rfl, by kernel_rfl, by kernel_rfl, fun _ _ _ h => h, (.inr ⟨rfl, rfl⟩), HS.out.1, ?_⟩
    refine takeH (o := ?o72) 31 (undef) ?h72 ?r72
    case h72 => simp only [aT, aS, aZ]; rfl
    refine ⟨_, by simp [Act.put]; rfl, by kernel_rfl, by kernel_rfl, by kernel_rfl, fun _ _ _ h => h, (.inr ⟨rfl, rfl⟩), HS.out.1, ?_⟩
    refine takeH (o := ?o73) 32 (undef) ?h73 ?r73
    case h73 => simp only [aT, aS, aZ]; rfl
    refine ⟨_, by simp [Act.put]; rfl, by kernel_rfl, by kernel_rfl, by kernel_rfl, fun _ _ _ h => h, (.inr ⟨rfl, rfl⟩), HS.out.1, ?_⟩
    refine takeH (o := ?o74) 33 (undef) ?h74 ?r74
    case h74 => simp only [aT, aS, aZ]; rfl
    refine ⟨_, by simp [Act.put]; rfl, by kernel_rfl, by kernel_rfl, by kernel_rfl, fun _ _ _ h => h, (.inr ⟨rfl, rfl⟩), HS.out.1, ?_⟩
    refine takeH (o := ?o75) 34 (undef) ?h75 ?r75
    case h75 => simp only [aT, aS, aZ]; rfl
    refine ⟨_, by simp [Act.put]; rfl, by kernel_rfl, by kernel_rfl, by kernel_rfl, fun _ _ _ h => h, (.inr ⟨rfl, rfl⟩), HS.out.1, ?_⟩
    refine takeH (o := ?o76) 35 (.bool false) ?h76 ?r76
    case h76 => simp only [aT, aS, aZ]; rfl
    refine ⟨_, by simp [Act.put]; rfl, by kernel_rfl, by kernel_rfl, by kernel_rfl, fun _ _ _ h => h, (.inl ⟨rfl, fun W _ => by kernel_rfl⟩), HS.out.1, ?_⟩
    refine takeH (o := ?o77) 36 (.bool false) ?h77 ?r77
    case h77 => simp only [aT, aS, aZ]; rfl
    refine ⟨_, by simp [Act.put]; rfl, by kernel_rfl, by kernel_rfl, by kernel_rfl, fun _ _ _ h => h, (.inl ⟨rfl, fun W _ => by kernel_rfl⟩), HS.out.1, ?_⟩
    refine takeH (o := ?o78) 37 (undef) ?h78 ?r78
    case h78 => simp only [aT, aS, aZ]; rfl
    refine ⟨_, by simp [Act.put]; rfl, by kernel_rfl, by kernel_rfl, by kernel_rfl, fun _ _ _ h => h, (.inr ⟨rfl, rfl⟩), HS.out.1, ?_⟩
    refine takeH (o := ?o79) 38 (undef) ?h79 ?r79
    case h79 => simp only [aT, aS, aZ]; rfl
    refine ⟨_, by simp [Act.put]; rfl, by kernel_rfl, by kernel_rfl, by kernel_rfl, fun _ _ _ h => h, (.inr ⟨rfl, rfl⟩), HS.out.1, ?_⟩
    refine takeH (o := ?o80) 39 (undef) ?h80 ?r80
    case h80 => simp only [aT, aS, aZ]; rfl
    refine ⟨_, by simp [Act.put]; rfl, by kernel_rfl, by kernel_rfl, by kernel_rfl, fun _ _ _ h => h, (.inr ⟨rfl, rfl⟩), HS.out.1, ?_⟩
    refine takeH (o := ?o81) 40 (.bool false) ?h81 ?r81
    case h81 => simp only [aT, aS, aZ]; rfl
    refine ⟨_, by simp [Act.put]; rfl, by kernel_rfl, by kernel_rfl, by kernel_rfl, fun _ _ _ h => h, (.inl ⟨rfl, fun W _ => by kernel_rfl⟩), HS.out.1, ?_⟩
    refine takeH (o := ?o82) 41 (.bool false) ?h82 ?r82
    case h82 => simp only [aT, aS, aZ]; rfl
    refine ⟨_, by simp [Act.put]; rfl, by kernel_rfl, by kernel_rfl, by kernel_rfl, fun _ _ _ h => h, (.inl ⟨rfl, fun W _ => by kernel_rfl⟩), HS.out.1, ?_⟩
    refine wpAnyH_done (by kernel_rfl) ?_ _
    have HV : Hid (x.ok per = false) := by show _ = _; unfold Se.ok; rw [← HD2.out]; simp
    go_wp2
    go_ret
    exact ⟨ret_bool HV.out.symm, HS.out.2⟩
  refine takeH (o := ?o83) 6 (.bool true) ?h83 ?r83
  case h83 => simp only [aT, aS, aZ]; rfl
  refine ⟨_, by simp [Act.put]; rfl, by kernel_rfl, by kernel_rfl, by kernel_rfl, fun _ _ _ h => h, (.inl ⟨rfl, fun W _ => by kernel_rfl⟩), HS.out.1, ?_⟩
  refine takeH (o := ?o84) 7 (.bool true) ?h84 ?r84
  case h84 => simp only [aT, aS, aZ]; rfl
  refine ⟨_, by simp [Act.put]; rfl, by kernel_rfl, by kernel_rfl, by kernel_rfl, fun _ _ _ h => h, (.inl ⟨rfl, fun W _ => by kernel_rfl⟩), HS.out.1, ?_⟩
  refine takeH (o := ?o85) 8 (.pointer (some ⟨w.heap.size, 1, none⟩)) ?h85 ?r85
  case h85 => simp only [aT, aS, aZ]; rfl
  refine ⟨_, by simp [Act.put]; rfl, by kernel_rfl, by kernel_rfl, by kernel_rfl, fun _ _ _ h => h, (.inl ⟨rfl, fun W _ => by kernel_rfl⟩), HS.out.1, ?_⟩
  refine takeH (o := ?o86) 9 (.int .i64 x.granted) ?h86 ?r86
  case h86 => simp only [aT, aS, aZ]; rfl
  refine ⟨_, by simp [Act.put]; rfl, by kernel_rfl, by kernel_rfl, by kernel_rfl, fun _ _ _ h => h, (.inl ⟨rfl, fun W hW => by have c := hW.cell 1; simp only [aT, aS, aZ] at c; go_simp⟩), HS.out.1, ?_⟩
  refine onlyH (o := ?o87) 10 (by kernel_rfl) ?h87 ?r87
  case h87 => simp only [aT, aS, aZ]; rfl
  intro K hK
  obtain ⟨d3, hd3⟩ : ∃ d, d = decide (0 ≤ x.granted ∧ x.granted ≤ 60) := ⟨_, rfl⟩
  have HD3 : Hid (d3 = decide (0 ≤ x.granted ∧ x.granted ≤ 60)) := hd3
  refine op_callS3 14 _ _ _ _ Tryd.f14 (fun v w' => v = .bool d3 ∧ w' = W0) rfl rfl Tryd.func14 (by kernel_rfl) (by kernel_rfl) ((l1In_any x.granted 0 60 W0).mono (by rintro e w' ⟨rfl, rfl⟩; exact ⟨_, rfl, by rw [hd3], rfl⟩)) ?_
  rintro v W3 ⟨rfl, hq⟩
  have hq' := hq.symm
  subst hq'
  clear hq hd3
  refine ⟨_, by simp [Act.put]; rfl, hK _ _ ⟨HS.out.1, ?_⟩⟩
  clear hK
  cases d3
  · refine takeH (o := ?o88) 11 (.bool false) ?h88 ?r88
    case h88 => simp only [aT, aS, aZ]; rfl
    refine ⟨_, by simp [Act.put]; rfl, by kernel_rfl, by kernel_rfl, by kernel_rfl, fun _ _ _ h => h, (.inl ⟨rfl, fun W _ => by kernel_rfl⟩), HS.out.1, ?_⟩
    refine takeH (o := ?o89) 12 (.bool false) ?h89 ?r89
    case h89 => simp only [aT, aS, aZ]; rfl
    refine ⟨_, by simp [Act.put]; rfl, by kernel_rfl, by kernel_rfl, by kernel_rfl, fun _ _ _ h => h, (.inl ⟨rfl, fun W _ => by kernel_rfl⟩), HS.out.1, ?_⟩
    refine takeH (o := ?o90) 13 (undef) ?h90 ?r90
    case h90 => simp only [aT, aS, aZ]; rfl
    refine ⟨_, by simp [Act.put]; rfl, by kernel_rfl, by kernel_rfl, by kernel_rfl, fun _ _ _ h => h, (.inr ⟨rfl, rfl⟩), HS.out.1, ?_⟩
    refine takeH (o := ?o91) 14 (undef) ?h91 ?r91
    case h91 => simp only [aT, aS, aZ]; rfl
    refine ⟨_, by simp [Act.put]; rfl, by kernel_rfl, by kernel_rfl, by kernel_rfl, fun _ _ _ h => h, (.inr ⟨rfl, rfl⟩), HS.out.1, ?_⟩
    refine takeH (o := ?o92) 15 (undef) ?h92 ?r92
    case h92 => simp only [aT, aS, aZ]; rfl
    refine ⟨_, by simp [Act.put]; rfl, by kernel_rfl, by kernel_rfl, by kernel_rfl, fun _ _ _ h => h, (.inr ⟨rfl, rfl⟩), HS.out.1, ?_⟩
    refine takeH (o := ?o93) 16 (undef) ?h93 ?r93
    case h93 => simp only [aT, aS, aZ]; rfl
    refine ⟨_, by simp [Act.put]; rfl, by kernel_rfl, by kernel_rfl, by kernel_rfl, fun _ _ _ h => h, (.inr ⟨rfl, rfl⟩), HS.out.1, ?_⟩
    refine takeH (o := ?o94) 17 (undef) ?h94 ?r94
    case h94 => simp only [aT, aS, aZ]; rfl
    refine ⟨_, by simp [Act.put]; rfl, by kernel_rfl, by kernel_rfl, by kernel_rfl, fun _ _ _ h => h, (.inr ⟨rfl, rfl⟩), HS.out.1, ?_⟩
    refine takeH (o := ?o95) 18 (.bool false) ?h95 ?r95
    case h95 => simp only [aT, aS, aZ]; rfl
    refine ⟨_, by simp [Act.put]; rfl, by kernel_rfl, by kernel_rfl, by kernel_rfl, fun _ _ _ h => h, (.inl ⟨rfl, fun W _ => by kernel_rfl⟩), HS.out.1, ?_⟩
    refine takeH (o := ?o96) 19 (.bool false) ?h96 ?r96
    case h96 => simp only [aT, aS, aZ]; rfl
    refine ⟨_, by simp [Act.put]; rfl, by kernel_rfl, by kernel_rfl, by kernel_rfl, fun _ _ _ h => h, (.inl ⟨rfl, fun W _ => by kernel_rfl⟩), HS.out.1, ?_⟩
    refine takeH (o := ?o97) 20 (undef) ?h97 ?r97
    case h97 => simp only [aT, aS, aZ]; rfl
    refine ⟨_, by simp [Act.put]; rfl, by kernel_rfl, by kernel_rfl, by kernel_rfl, fun _ _ _ h => h, (.inr ⟨rfl, rfl⟩), HS.out.1, ?_⟩
    refine takeH (o := ?o98) 21 (undef) ?h98 ?r98
    case h98 => simp only [aT, aS, aZ]; rfl
    refine ⟨_, by simp [Act.put]; rfl, by kernel_rfl, by kernel_rfl, by kernel_rfl, fun _ _ _ h => h, (.inr ⟨rfl, rfl⟩), HS.out.1, ?_⟩
    refine takeH (o := ?o99) 22 (undef) ?h99 ?r99
    case h99 => simp only [aT, aS, aZ]; rfl
    refine ⟨_, by simp [Act.put]; rfl, by kernel_rfl, by kernel_rfl, by kernel_rfl, fun _ _ _ h => h, (.inr ⟨rfl, rfl⟩), HS.out.1, ?_⟩
    refine takeH (o := ?o100) 23 (undef) ?h100 ?r100
    case h100 => simp only [aT, aS, aZ]; rfl
    refine ⟨_, by simp [Act.put]; rfl, by kernel_rfl, by kernel_rfl, by kernel_rfl, fun _ _ _ h => h, (.inr ⟨rfl, rfl⟩), HS.out.1, ?_⟩
    refine takeH (o := ?o101) 24 (undef) ?h101 ?r101
    case h101 => simp only [aT, aS, aZ]; rfl
    refine ⟨_, by simp [Act.put]; rfl, by kernel_rfl, by kernel_rfl, by kernel_rfl, fun _ _ _ h => h, (.inr ⟨rfl, rfl⟩), HS.out.1, ?_⟩
    refine takeH (o := ?o102) 25 (undef) ?h102 ?r102
    case h102 => simp only [aT, aS, aZ]; rfl
    refine ⟨_, by simp [Act.put]; rfl, by kernel_rfl, by kernel_rfl, by kernel_rfl, fun _ _ _ h => h, (.inr ⟨rfl, rfl⟩), HS.out.1, ?_⟩
    refine takeH (o := ?o103) 26 (.bool false) ?h103 ?r103
    case h103 => simp only [aT, aS, aZ]; rfl
    refine ⟨_, by simp [Act.put]; rfl, by kernel_rfl, by kernel_rfl, by kernel_rfl, fun _ _ _ h => h, (.inl ⟨rfl, fun W _ => by kernel_rfl⟩), HS.out.1, ?_⟩
    refine takeH (o := ?o104) 27 (.bool false) ?h104 ?r104
    case h104 => simp only [aT, aS, aZ]; rfl
    refine ⟨_, by simp [Act.put]; rfl, by kernel_rfl, by kernel_rfl, by kernel_rfl, fun _ _ _ h => h, (.inl ⟨rfl, fun W _ => by kernel_rfl⟩), HS.out.1, ?_⟩
    refine takeH (o := ?o105) 28 (undef) ?h105 ?r105
    case h105 => simp only [aT, aS, aZ]; rfl
    refine ⟨_, by simp [Act.put]; rfl, by kernel_rfl, by kernel_rfl, by kernel_rfl, fun _ _ _ h => h, (.inr ⟨rfl, rfl⟩), HS.out.1, ?_⟩
    refine takeH (o := ?o106) 29 (undef) ?h106 ?r106
    case h106 => simp only [aT, aS, aZ]; rfl
    refine ⟨_, by simp [Act.put]; rfl, by kernel_rfl, by kernel_rfl, by kernel_rfl, fun _ _ _ h => h, (.inr ⟨rfl, rfl⟩), HS.out.1, ?_⟩
    refine takeH (o := ?o107) 30 (undef) ?h107 ?r107
    case h107 => simp only [aT, aS, aZ]; rfl
    refine ⟨_, by simp [Act.put]; rfl, by kernel_rfl, by kernel_rfl, by kernel_rfl, fun _ _ _ h => h, (.inr ⟨rfl, rfl⟩), HS.out.1, ?_⟩
    refine takeH (o := ?o108) 31 (undef) ?h108 ?r108
    case h108 => simp only [aT, aS, aZ]; rfl
    refine ⟨_, by simp [Act.put]; rfl, by kernel_rfl, by kernel_rfl, by kernel_rfl, fun _ _ _ h => h, (.inr ⟨rfl, rfl⟩), HS.out.1, ?_⟩
    refine takeH (o := ?o109) 32 (undef) ?h109 ?r109
    case h109 => simp only [aT, aS, aZ]; rfl
    refine ⟨_, by simp [Act.put]; rfl, by kernel_rfl, by kernel_rfl, by kernel_rfl, fun _ _ _ h => h, (.inr ⟨rfl, rfl⟩), HS.out.1, ?_⟩
    refine takeH (o := ?o110) 33 (undef) ?h110 ?r110
    case h110 => simp only [aT, aS, aZ]; rfl
    refine ⟨_, by simp [Act.put]; rfl, by kernel_rfl, by kernel_rfl, by kernel_rfl, fun _ _ _ h => h, (.inr ⟨rfl, rfl⟩), HS.out.1, ?_⟩
    refine takeH (o := ?o111) 34 (undef) ?h111 ?r111
    case h111 => simp only [aT, aS, aZ]; rfl
    refine ⟨_, by simp [Act.put]; rfl, by kernel_rfl, by kernel_rfl, by kernel_rfl, fun _ _ _ h => h, (.inr ⟨rfl, rfl⟩), HS.out.1, ?_⟩
    refine takeH (o := ?o112) 35 (.bool false) ?h112 ?r112
    case h112 => simp only [aT, aS, aZ]; rfl
    refine ⟨_, by simp [Act.put]; rfl, by kernel_rfl, by kernel_rfl, by kernel_rfl, fun _ _ _ h => h, (.inl ⟨rfl, fun W _ => by kernel_rfl⟩), HS.out.1, ?_⟩
    refine takeH (o := ?o113) 36 (.bool false) ?h113 ?r113
    case h113 => simp only [aT, aS, aZ]; rfl
    refine ⟨_, by simp [Act.put]; rfl, by kernel_rfl, by kernel_rfl, by kernel_rfl, fun _ _ _ h => h, (.inl ⟨rfl, fun W _ => by kernel_rfl⟩), HS.out.1, ?_⟩
    refine takeH (o := ?o114) 37 (undef) ?h114 ?r114
    case h114 => simp only [aT, aS, aZ]; rfl
    refine ⟨_, by simp [Act.put]; rfl, by kernel_rfl, by kernel_rfl, by kernel_rfl, fun _ _ _ h => h, (.inr ⟨rfl, rfl⟩), HS.out.1, ?_⟩
    refine takeH (o := ?o115) 38 (undef) ?h115 ?r115
    case h115 => simp only [aT, aS, aZ]; rfl
    refine ⟨_, by simp [Act.put]; rfl, by kernel_rfl, by kernel_rfl, by kernel_rfl, fun _ _ _ h => h, (.inr ⟨rfl, rfl⟩), HS.out.1, ?_⟩
    refine takeH (o := ?o116) 39 (undef) ?h116 ?r116
    case h116 => simp only [aT, aS, aZ]; rfl
    refine ⟨_, by simp [Act.put]; rfl, by kernel_rfl, by kernel_rfl, by kernel_rfl, fun _ _ _ h => h, (.inr ⟨rfl, rfl⟩), HS.out.1, ?_⟩
    refine takeH (o := ?o117) 40 (.bool false) ?h117 ?r117
    case h117 => simp only [aT, aS, aZ]; rfl
    refine ⟨_, by simp [Act.put]; rfl, by kernel_rfl, by kernel_rfl, by kernel_rfl, fun _ _ _ h => h, (.inl ⟨rfl, fun W _ => by kernel_rfl⟩), HS.out.1, ?_⟩
    refine takeH (o := ?o118) 41 (.bool false) ?h118 ?r118
    case h118 => simp only [aT, aS, aZ]; rfl
    refine ⟨_, by simp [Act.put]; rfl, by kernel_rfl, by kernel_rfl, by kernel_rfl, fun _ _ _ h => h, (.inl ⟨rfl, fun W _ => by kernel_rfl⟩), HS.out.1, ?_⟩
    refine wpAnyH_done (by kernel_rfl) ?_ _
    have HV : Hid (x.ok per = false) := by show _ = _; unfold Se.ok; rw [← HD3.out]; simp
    go_wp2
    go_ret
    exact ⟨ret_bool HV.out.symm, HS.out.2⟩
  refine takeH (o := ?o119) 11 (.bool true) ?h119 ?r119
  case h119 => simp only [aT, aS, aZ]; rfl
  refine ⟨_, by simp [Act.put]; rfl, by kernel_rfl, by kernel_rfl, by kernel_rfl, fun _ _ _ h => h, (.inl ⟨rfl, fun W _ => by kernel_rfl⟩), HS.out.1, ?_⟩
  refine takeH (o := ?o120) 12 (.bool true) ?h120 ?r120
  case h120 => simp only [aT, aS, aZ]; rfl
  refine ⟨_, by simp [Act.put]; rfl, by kernel_rfl, by kernel_rfl, by kernel_rfl, fun _ _ _ h => h, (.inl ⟨rfl, fun W _ => by kernel_rfl⟩), HS.out.1, ?_⟩
  refine takeH (o := ?o121) 13 (.pointer (some ⟨w.heap.size, 2, none⟩)) ?h121 ?r121
  case h121 => simp only [aT, aS, aZ]; rfl
  refine ⟨_, by simp [Act.put]; rfl, by kernel_rfl, by kernel_rfl, by kernel_rfl, fun _ _ _ h => h, (.inl ⟨rfl, fun W _ => by kernel_rfl⟩), HS.out.1, ?_⟩
  refine takeH (o := ?o122) 14 (.slice b l c) ?h122 ?r122
  case h122 => simp only [aT, aS, aZ]; rfl
  refine ⟨_, by simp [Act.put]; rfl, by kernel_rfl, by kernel_rfl, by kernel_rfl, fun _ _ _ h => h, (.inl ⟨rfl, fun W hW => by have c := hW.cell 2; simp only [aT, aS, aZ] at c; go_simp⟩), HS.out.1, ?_⟩
  refine takeH (o := ?o123) 15 (.pointer (some ⟨w.heap.size, 1, none⟩)) ?h123 ?r123
  case h123 => simp only [aT, aS, aZ]; rfl
  refine ⟨_, by simp [Act.put]; rfl, by kernel_rfl, by kernel_rfl, by kernel_rfl, fun _ _ _ h => h, (.inl ⟨rfl, fun W _ => by kernel_rfl⟩), HS.out.1, ?_⟩
  refine takeH (o := ?o124) 16 (.int .i64 x.granted) ?h124 ?r124
  case h124 => simp only [aT, aS, aZ]; rfl
  refine ⟨_, by simp [Act.put]; rfl, by kernel_rfl, by kernel_rfl, by kernel_rfl, fun _ _ _ h => h, (.inl ⟨rfl, fun W hW => by have c := hW.cell 1; simp only [aT, aS, aZ] at c; go_simp⟩), HS.out.1, ?_⟩
  refine onlyH (o := ?o125) 17 (by kernel_rfl) ?h125 ?r125
  case h125 => simp only [aT, aS, aZ]; rfl
  intro K hK
  obtain ⟨d4, hd4⟩ : ∃ d, d = (x.taken.ok && x.taken.under x.granted) := ⟨_, rfl⟩
  have HD4 : Hid (d4 = (x.taken.ok && x.taken.under x.granted)) := hd4
  refine op_callS2 27 _ _ _ Tryd.f27 (fun v w' => v = .bool d4 ∧ Below W0.heap.size W0 w') rfl rfl Tryd.func27 (by kernel_rfl) (by kernel_rfl) ((l8Below_any b l c x.granted x.taken F W0 (HP.out.1.below HS.out.2) (by have := HP.out.2; omega)).mono (by rintro e w' ⟨rfl, hb⟩; exact ⟨_, rfl, by rw [hd4], hb⟩)) ?_
  rintro v W4 ⟨rfl, hb⟩
  have HS : Hid (Blk W4 w.heap.size #[.int .i64 x.epoch, .int .i64 x.granted, .slice b l c, .int .i64 x.merged, .int .i64 x.last] 28 ∧ Below w.heap.size w W4) := ⟨HS.out.1.below hb, Below.next HS.out.2 hb⟩
  clear hd4 hb
  refine ⟨_, by simp [Act.put]; rfl, hK _ _ ⟨HS.out.1, ?_⟩⟩
  clear hK
  cases d4
  · refine takeH (o := ?o126) 18 (.bool false) ?h126 ?r126
    case h126 => simp only [aT, aS, aZ]; rfl
    refine ⟨_, by simp [Act.put]; rfl, by kernel_rfl, by kernel_rfl, by kernel_rfl, fun _ _ _ h => h, (.inl ⟨rfl, fun W _ => by kernel_rfl⟩), HS.out.1, ?_⟩
    refine takeH (o := ?o127) 19 (.bool false) ?h127 ?r127
    case h127 => simp only [aT, aS, aZ]; rfl
    refine ⟨_, by simp [Act.put]; rfl, by kernel_rfl, by kernel_rfl, by kernel_rfl, fun _ _ _ h => h, (.inl ⟨rfl, fun W _ => by kernel_rfl⟩), HS.out.1, ?_⟩
    refine takeH (o := ?o128) 20 (undef) ?h128 ?r128
    case h128 => simp only [aT, aS, aZ]; rfl
    refine ⟨_, by simp [Act.put]; rfl, by kernel_rfl, by kernel_rfl, by kernel_rfl, fun _ _ _ h => h, (.inr ⟨rfl, rfl⟩), HS.out.1, ?_⟩
    refine takeH (o := ?o129) 21 (undef) ?h129 ?r129
    case h129 => simp only [aT, aS, aZ]; rfl
    refine ⟨_, by simp [Act.put]; rfl, by kernel_rfl, by kernel_rfl, by kernel_rfl, fun _ _ _ h => h, (.inr ⟨rfl, rfl⟩), HS.out.1, ?_⟩
    refine takeH (o := ?o130) 22 (undef) ?h130 ?r130
    case h130 => simp only [aT, aS, aZ]; rfl
    refine ⟨_, by simp [Act.put]; rfl, by kernel_rfl, by kernel_rfl, by kernel_rfl, fun _ _ _ h => h, (.inr ⟨rfl, rfl⟩), HS.out.1, ?_⟩
    refine takeH (o := ?o131) 23 (undef) ?h131 ?r131
    case h131 => simp only [aT, aS, aZ]; rfl
    refine ⟨_, by simp [Act.put]; rfl, by kernel_rfl, by kernel_rfl, by kernel_rfl, fun _ _ _ h => h, (.inr ⟨rfl, rfl⟩), HS.out.1, ?_⟩
    refine takeH (o := ?o132) 24 (undef) ?h132 ?r132
    case h132 => simp only [aT, aS, aZ]; rfl
    refine ⟨_, by simp [Act.put]; rfl, by kernel_rfl, by kernel_rfl, by kernel_rfl, fun _ _ _ h => h, (.inr ⟨rfl, rfl⟩), HS.out.1, ?_⟩
    refine takeH (o := ?o133) 25 (undef) ?h133 ?r133
    case h133 => simp only [aT, aS, aZ]; rfl
    refine ⟨_, by simp [Act.put]; rfl, by kernel_rfl, by kernel_rfl, by kernel_rfl, fun _ _ _ h => h, (.inr ⟨rfl, rfl⟩), HS.out.1, ?_⟩
    refine takeH (o := ?o134) 26 (.bool false) ?h134 ?r134
    case h134 => simp only [aT, aS, aZ]; rfl
    refine ⟨_, by simp [Act.put]; rfl, by kernel_rfl, by kernel_rfl, by kernel_rfl, fun _ _ _ h => h, (.inl ⟨rfl, fun W _ => by kernel_rfl⟩), HS.out.1, ?_⟩
    refine takeH (o := ?o135) 27 (.bool false) ?h135 ?r135
    case h135 => simp only [aT, aS, aZ]; rfl
    refine ⟨_, by simp [Act.put]; rfl, by kernel_rfl, by kernel_rfl, by kernel_rfl, fun _ _ _ h => h, (.inl ⟨rfl, fun W _ => by kernel_rfl⟩), HS.out.1, ?_⟩
    refine takeH (o := ?o136) 28 (undef) ?h136 ?r136
    case h136 => simp only [aT, aS, aZ]; rfl
    refine ⟨_, by simp [Act.put]; rfl, by kernel_rfl, by kernel_rfl, by kernel_rfl, fun _ _ _ h => h, (.inr ⟨rfl, rfl⟩), HS.out.1, ?_⟩
    refine takeH (o := ?o137) 29 (undef) ?h137 ?r137
    case h137 => simp only [aT, aS, aZ]; rfl
    refine ⟨_, by simp [Act.put]; rfl, by kernel_rfl, by kernel_rfl, by kernel_rfl, fun _ _ _ h => h, (.inr ⟨rfl, rfl⟩), HS.out.1, ?_⟩
    refine takeH (o := ?o138) 30 (undef) ?h138 ?r138
    case h138 => simp only [aT, aS, aZ]; rfl
    refine ⟨_, by simp [Act.put]; rfl, by kernel_rfl, by kernel_rfl, by kernel_rfl, fun _ _ _ h => h, (.inr ⟨rfl, rfl⟩), HS.out.1, ?_⟩
    refine takeH (o := ?o139) 31 (undef) ?h139 ?r139
    case h139 => simp only [aT, aS, aZ]; rfl
    refine ⟨_, by simp [Act.put]; rfl, by kernel_rfl, by kernel_rfl, by kernel_rfl, fun _ _ _ h => h, (.inr ⟨rfl, rfl⟩), HS.out.1, ?_⟩
    refine takeH (o := ?o140) 32 (undef) ?h140 ?r140
    case h140 => simp only [aT, aS, aZ]; rfl
    refine ⟨_, by simp [Act.put]; rfl, by kernel_rfl, by kernel_rfl, by kernel_rfl, fun _ _ _ h => h, (.inr ⟨rfl, rfl⟩), HS.out.1, ?_⟩
    refine takeH (o := ?o141) 33 (undef) ?h141 ?r141
    case h141 => simp only [aT, aS, aZ]; rfl
    refine ⟨_, by simp [Act.put]; rfl, by kernel_rfl, by kernel_rfl, by kernel_rfl, fun _ _ _ h => h, (.inr ⟨rfl, rfl⟩), HS.out.1, ?_⟩
    refine takeH (o := ?o142) 34 (undef) ?h142 ?r142
    case h142 => simp only [aT, aS, aZ]; rfl
    refine ⟨_, by simp [Act.put]; rfl, by kernel_rfl, by kernel_rfl, by kernel_rfl, fun _ _ _ h => h, (.inr ⟨rfl, rfl⟩), HS.out.1, ?_⟩
    refine takeH (o := ?o143) 35 (.bool false) ?h143 ?r143
    case h143 => simp only [aT, aS, aZ]; rfl
    refine ⟨_, by simp [Act.put]; rfl, by kernel_rfl, by kernel_rfl, by kernel_rfl, fun _ _ _ h => h, (.inl ⟨rfl, fun W _ => by kernel_rfl⟩), HS.out.1, ?_⟩
    refine takeH (o := ?o144) 36 (.bool false) ?h144 ?r144
    case h144 => simp only [aT, aS, aZ]; rfl
    refine ⟨_, by simp [Act.put]; rfl, by kernel_rfl, by kernel_rfl, by kernel_rfl, fun _ _ _ h => h, (.inl ⟨rfl, fun W _ => by kernel_rfl⟩), HS.out.1, ?_⟩
    refine takeH (o := ?o145) 37 (undef) ?h145 ?r145
    case h145 => simp only [aT, aS, aZ]; rfl
    refine ⟨_, by simp [Act.put]; rfl, by kernel_rfl, by kernel_rfl, by kernel_rfl, fun _ _ _ h => h, (.inr ⟨rfl, rfl⟩), HS.out.1, ?_⟩
    refine takeH (o := ?o146) 38 (undef) ?h146 ?r146
    case h146 => simp only [aT, aS, aZ]; rfl
    refine ⟨_, by simp [Act.put]; rfl, by kernel_rfl, by kernel_rfl, by kernel_rfl, fun _ _ _ h => h, (.inr ⟨rfl, rfl⟩), HS.out.1, ?_⟩
    refine takeH (o := ?o147) 39 (undef) ?h147 ?r147
    case h147 => simp only [aT, aS, aZ]; rfl
    refine ⟨_, by simp [Act.put]; rfl, by kernel_rfl, by kernel_rfl, by kernel_rfl, fun _ _ _ h => h, (.inr ⟨rfl, rfl⟩), HS.out.1, ?_⟩
    refine takeH (o := ?o148) 40 (.bool false) ?h148 ?r148
    case h148 => simp only [aT, aS, aZ]; rfl
    refine ⟨_, by simp [Act.put]; rfl, by kernel_rfl, by kernel_rfl, by kernel_rfl, fun _ _ _ h => h, (.inl ⟨rfl, fun W _ => by kernel_rfl⟩), HS.out.1, ?_⟩
    refine takeH (o := ?o149) 41 (.bool false) ?h149 ?r149
    case h149 => simp only [aT, aS, aZ]; rfl
    refine ⟨_, by simp [Act.put]; rfl, by kernel_rfl, by kernel_rfl, by kernel_rfl, fun _ _ _ h => h, (.inl ⟨rfl, fun W _ => by kernel_rfl⟩), HS.out.1, ?_⟩
    refine wpAnyH_done (by kernel_rfl) ?_ _
    have HV : Hid (x.ok per = false) := by show _ = _; unfold Se.ok; rw [← HD4.out]; simp
    go_wp2
    go_ret
    exact ⟨ret_bool HV.out.symm, HS.out.2⟩
  refine takeH (o := ?o150) 18 (.bool true) ?h150 ?r150
  case h150 => simp only [aT, aS, aZ]; rfl
  refine ⟨_, by simp [Act.put]; rfl, by kernel_rfl, by kernel_rfl, by kernel_rfl, fun _ _ _ h => h, (.inl ⟨rfl, fun W _ => by kernel_rfl⟩), HS.out.1, ?_⟩
  refine takeH (o := ?o151) 19 (.bool true) ?h151 ?r151
  case h151 => simp only [aT, aS, aZ]; rfl
  refine ⟨_, by simp [Act.put]; rfl, by kernel_rfl, by kernel_rfl, by kernel_rfl, fun _ _ _ h => h, (.inl ⟨rfl, fun W _ => by kernel_rfl⟩), HS.out.1, ?_⟩
  refine takeH (o := ?o152) 20 (.pointer (some ⟨w.heap.size, 3, none⟩)) ?h152 ?r152
  case h152 => simp only [aT, aS, aZ]; rfl
  refine ⟨_, by simp [Act.put]; rfl, by kernel_rfl, by kernel_rfl, by kernel_rfl, fun _ _ _ h => h, (.inl ⟨rfl, fun W _ => by kernel_rfl⟩), HS.out.1, ?_⟩
  refine takeH (o := ?o153) 21 (.int .i64 x.merged) ?h153 ?r153
  case h153 => simp only [aT, aS, aZ]; rfl
  refine ⟨_, by simp [Act.put]; rfl, by kernel_rfl, by kernel_rfl, by kernel_rfl, fun _ _ _ h => h, (.inl ⟨rfl, fun W hW => by have c := hW.cell 3; simp only [aT, aS, aZ] at c; go_simp⟩), HS.out.1, ?_⟩
  refine takeH (o := ?o154) 22 (.pointer (some ⟨w.heap.size, 2, none⟩)) ?h154 ?r154
  case h154 => simp only [aT, aS, aZ]; rfl
  refine ⟨_, by simp [Act.put]; rfl, by kernel_rfl, by kernel_rfl, by kernel_rfl, fun _ _ _ h => h, (.inl ⟨rfl, fun W _ => by kernel_rfl⟩), HS.out.1, ?_⟩
  refine takeH (o := ?o155) 23 (.slice b l c) ?h155 ?r155
  case h155 => simp only [aT, aS, aZ]; rfl
  refine ⟨_, by simp [Act.put]; rfl, by kernel_rfl, by kernel_rfl, by kernel_rfl, fun _ _ _ h => h, (.inl ⟨rfl, fun W hW => by have c := hW.cell 2; simp only [aT, aS, aZ] at c; go_simp⟩), HS.out.1, ?_⟩
  refine onlyH (o := ?o156) 24 (by kernel_rfl) ?h156 ?r156
  case h156 => simp only [aT, aS, aZ]; rfl
  intro K hK
  refine op_call1 28 _ _ Tryd.f28 (fun v w' => v = .int .i64 x.taken.size ∧ Below W4.heap.size W4 w') rfl rfl Tryd.func28 (by kernel_rfl) (by kernel_rfl) ((sizeSpec_any b l c x.taken F W4 (HP.out.1.below HS.out.2) HP.out.2).mono (by rintro e w' ⟨rfl, m, rfl⟩; exact ⟨_, rfl, rfl, quiet_below ⟨m, rfl⟩⟩)) ?_
  rintro v W5 ⟨rfl, hb⟩
  have HS : Hid (Blk W5 w.heap.size #[.int .i64 x.epoch, .int .i64 x.granted, .slice b l c, .int .i64 x.merged, .int .i64 x.last] 28 ∧ Below w.heap.size w W5) := ⟨HS.out.1.below hb, Below.next HS.out.2 hb⟩
  clear hb
  refine ⟨_, by simp [Act.put]; rfl, hK _ _ ⟨HS.out.1, ?_⟩⟩
  clear hK
  refine onlyH (o := ?o157) 25 (by kernel_rfl) ?h157 ?r157
  case h157 => simp only [aT, aS, aZ]; rfl
  intro K hK
  obtain ⟨d5, hd5⟩ : ∃ d, d = decide (0 ≤ x.merged ∧ x.merged ≤ x.taken.size) := ⟨_, rfl⟩
  have HD5 : Hid (d5 = decide (0 ≤ x.merged ∧ x.merged ≤ x.taken.size)) := hd5
  refine op_callS3 14 _ _ _ _ Tryd.f14 (fun v w' => v = .bool d5 ∧ w' = W5) rfl rfl Tryd.func14 (by kernel_rfl) (by kernel_rfl) ((l1In_any x.merged 0 x.taken.size W5).mono (by rintro e w' ⟨rfl, rfl⟩; exact ⟨_, rfl, by rw [hd5], rfl⟩)) ?_
  rintro v W6 ⟨rfl, hq⟩
  have hq' := hq.symm
  subst hq'
  clear hq hd5
  refine ⟨_, by simp [Act.put]; rfl, hK _ _ ⟨HS.out.1, ?_⟩⟩
  clear hK
  cases d5
  · refine takeH (o := ?o158) 26 (.bool false) ?h158 ?r158
    case h158 => simp only [aT, aS, aZ]; rfl
    refine ⟨_, by simp [Act.put]; rfl, by kernel_rfl, by kernel_rfl, by kernel_rfl, fun _ _ _ h => h, (.inl ⟨rfl, fun W _ => by kernel_rfl⟩), HS.out.1, ?_⟩
    refine takeH (o := ?o159) 27 (.bool false) ?h159 ?r159
    case h159 => simp only [aT, aS, aZ]; rfl
    refine ⟨_, by simp [Act.put]; rfl, by kernel_rfl, by kernel_rfl, by kernel_rfl, fun _ _ _ h => h, (.inl ⟨rfl, fun W _ => by kernel_rfl⟩), HS.out.1, ?_⟩
    refine takeH (o := ?o160) 28 (undef) ?h160 ?r160
    case h160 => simp only [aT, aS, aZ]; rfl
    refine ⟨_, by simp [Act.put]; rfl, by kernel_rfl, by kernel_rfl, by kernel_rfl, fun _ _ _ h => h, (.inr ⟨rfl, rfl⟩), HS.out.1, ?_⟩
    refine takeH (o := ?o161) 29 (undef) ?h161 ?r161
    case h161 => simp only [aT, aS, aZ]; rfl
    refine ⟨_, by simp [Act.put]; rfl, by kernel_rfl, by kernel_rfl, by kernel_rfl, fun _ _ _ h => h, (.inr ⟨rfl, rfl⟩), HS.out.1, ?_⟩
    refine takeH (o := ?o162) 30 (undef) ?h162 ?r162
    case h162 => simp only [aT, aS, aZ]; rfl
    refine ⟨_, by simp [Act.put]; rfl, by kernel_rfl, by kernel_rfl, by kernel_rfl, fun _ _ _ h => h, (.inr ⟨rfl, rfl⟩), HS.out.1, ?_⟩
    refine takeH (o := ?o163) 31 (undef) ?h163 ?r163
    case h163 => simp only [aT, aS, aZ]; rfl
    refine ⟨_, by simp [Act.put]; rfl, by kernel_rfl, by kernel_rfl, by kernel_rfl, fun _ _ _ h => h, (.inr ⟨rfl, rfl⟩), HS.out.1, ?_⟩
    refine takeH (o := ?o164) 32 (undef) ?h164 ?r164
    case h164 => simp only [aT, aS, aZ]; rfl
    refine ⟨_, by simp [Act.put]; rfl, by kernel_rfl, by kernel_rfl, by kernel_rfl, fun _ _ _ h => h, (.inr ⟨rfl, rfl⟩), HS.out.1, ?_⟩
    refine takeH (o := ?o165) 33 (undef) ?h165 ?r165
    case h165 => simp only [aT, aS, aZ]; rfl
    refine ⟨_, by simp [Act.put]; rfl, by kernel_rfl, by kernel_rfl, by kernel_rfl, fun _ _ _ h => h, (.inr ⟨rfl, rfl⟩), HS.out.1, ?_⟩
    refine takeH (o := ?o166) 34 (undef) ?h166 ?r166
    case h166 => simp only [aT, aS, aZ]; rfl
    refine ⟨_, by simp [Act.put]; rfl, by kernel_rfl, by kernel_rfl, by kernel_rfl, fun _ _ _ h => h, (.inr ⟨rfl, rfl⟩), HS.out.1, ?_⟩
    refine takeH (o := ?o167) 35 (.bool false) ?h167 ?r167
    case h167 => simp only [aT, aS, aZ]; rfl
    refine ⟨_, by simp [Act.put]; rfl, by kernel_rfl, by kernel_rfl, by kernel_rfl, fun _ _ _ h => h, (.inl ⟨rfl, fun W _ => by kernel_rfl⟩), HS.out.1, ?_⟩
    refine takeH (o := ?o168) 36 (.bool false) ?h168 ?r168
    case h168 => simp only [aT, aS, aZ]; rfl
    refine ⟨_, by simp [Act.put]; rfl, by kernel_rfl, by kernel_rfl, by kernel_rfl, fun _ _ _ h => h, (.inl ⟨rfl, fun W _ => by kernel_rfl⟩), HS.out.1, ?_⟩
    refine takeH (o := ?o169) 37 (undef) ?h169 ?r169
    case h169 => simp only [aT, aS, aZ]; rfl
    refine ⟨_, by simp [Act.put]; rfl, by kernel_rfl, by kernel_rfl, by kernel_rfl, fun _ _ _ h => h, (.inr ⟨rfl, rfl⟩), HS.out.1, ?_⟩
    refine takeH (o := ?o170) 38 (undef) ?h170 ?r170
    case h170 => simp only [aT, aS, aZ]; rfl
    refine ⟨_, by simp [Act.put]; rfl, by kernel_rfl, by kernel_rfl, by kernel_rfl, fun _ _ _ h => h, (.inr ⟨rfl, rfl⟩), HS.out.1, ?_⟩
    refine takeH (o := ?o171) 39 (undef) ?h171 ?r171
    case h171 => simp only [aT, aS, aZ]; rfl
    refine ⟨_, by simp [Act.put]; rfl, by kernel_rfl, by kernel_rfl, by kernel_rfl, fun _ _ _ h => h, (.inr ⟨rfl, rfl⟩), HS.out.1, ?_⟩
    refine takeH (o := ?o172) 40 (.bool false) ?h172 ?r172
    case h172 => simp only [aT, aS, aZ]; rfl
    refine ⟨_, by simp [Act.put]; rfl, by kernel_rfl, by kernel_rfl, by kernel_rfl, fun _ _ _ h => h, (.inl ⟨rfl, fun W _ => by kernel_rfl⟩), HS.out.1, ?_⟩
    refine takeH (o := ?o173) 41 (.bool false) ?h173 ?r173
    case h173 => simp only [aT, aS, aZ]; rfl
    refine ⟨_, by simp [Act.put]; rfl, by kernel_rfl, by kernel_rfl, by kernel_rfl, fun _ _ _ h => h, (.inl ⟨rfl, fun W _ => by kernel_rfl⟩), HS.out.1, ?_⟩
    refine wpAnyH_done (by kernel_rfl) ?_ _
    have HV : Hid (x.ok per = false) := by show _ = _; unfold Se.ok; rw [← HD5.out]; simp
    go_wp2
    go_ret
    exact ⟨ret_bool HV.out.symm, HS.out.2⟩
  refine takeH (o := ?o174) 26 (.bool true) ?h174 ?r174
  case h174 => simp only [aT, aS, aZ]; rfl
  refine ⟨_, by simp [Act.put]; rfl, by kernel_rfl, by kernel_rfl, by kernel_rfl, fun _ _ _ h => h, (.inl ⟨rfl, fun W _ => by kernel_rfl⟩), HS.out.1, ?_⟩
  refine takeH (o := ?o175) 27 (.bool true) ?h175 ?r175
  case h175 => simp only [aT, aS, aZ]; rfl
  refine ⟨_, by simp [Act.put]; rfl, by kernel_rfl, by kernel_rfl, by kernel_rfl, fun _ _ _ h => h, (.inl ⟨rfl, fun W _ => by kernel_rfl⟩), HS.out.1, ?_⟩
  refine takeH (o := ?o176) 28 (.pointer (some ⟨w.heap.size, 1, none⟩)) ?h176 ?r176
  case h176 => simp only [aT, aS, aZ]; rfl
  refine ⟨_, by simp [Act.put]; rfl, by kernel_rfl, by kernel_rfl, by kernel_rfl, fun _ _ _ h => h, (.inl ⟨rfl, fun W _ => by kernel_rfl⟩), HS.out.1, ?_⟩
  refine takeH (o := ?o177) 29 (.int .i64 x.granted) ?h177 ?r177
  case h177 => simp only [aT, aS, aZ]; rfl
  refine ⟨_, by simp [Act.put]; rfl, by kernel_rfl, by kernel_rfl, by kernel_rfl, fun _ _ _ h => h, (.inl ⟨rfl, fun W hW => by have c := hW.cell 1; simp only [aT, aS, aZ] at c; go_simp⟩), HS.out.1, ?_⟩
  refine takeH (o := ?o178) 30 (.pointer (some ⟨w.heap.size, 3, none⟩)) ?h178 ?r178
  case h178 => simp only [aT, aS, aZ]; rfl
  refine ⟨_, by simp [Act.put]; rfl, by kernel_rfl, by kernel_rfl, by kernel_rfl, fun _ _ _ h => h, (.inl ⟨rfl, fun W _ => by kernel_rfl⟩), HS.out.1, ?_⟩
  refine takeH (o := ?o179) 31 (.int .i64 x.merged) ?h179 ?r179
  case h179 => simp only [aT, aS, aZ]; rfl
  refine ⟨_, by simp [Act.put]; rfl, by kernel_rfl, by kernel_rfl, by kernel_rfl, fun _ _ _ h => h, (.inl ⟨rfl, fun W hW => by have c := hW.cell 3; simp only [aT, aS, aZ] at c; go_simp⟩), HS.out.1, ?_⟩
  refine takeH (o := ?o180) 32 (.int .i64 per) ?h180 ?r180
  case h180 => simp only [aT, aS, aZ]; rfl
  refine ⟨_, by simp [Act.put]; rfl, by kernel_rfl, by kernel_rfl, by kernel_rfl, fun _ _ _ h => h, (.inl ⟨rfl, fun W _ => by kernel_rfl⟩), HS.out.1, ?_⟩
  have hm : x.merged + per ≤ 20971520008 ∧ 0 ≤ x.merged + per := by have h1 := of_decide_eq_true HD1.out.symm; have h5 := of_decide_eq_true HD5.out.symm; have := HSZ.out; omega
  have hwz : IntKind.i64.wrap (x.merged + per) = x.merged + per := wrapSe (by omega)
  refine takeH (o := ?o181) 33 (.int .i64 (x.merged + per)) ?h181 ?r181
  case h181 => simp only [aT, aS, aZ]; rfl
  refine ⟨_, by simp [Act.put]; rfl, by kernel_rfl, by kernel_rfl, by kernel_rfl, fun _ _ _ h => h, (.inl ⟨rfl, fun W _ => by first | (go_simp; done) | (go_simp; exact hwz)⟩), HS.out.1, ?_⟩
  obtain ⟨d6, hd6⟩ : ∃ d, d = decide (x.granted ≤ x.merged + per) := ⟨_, rfl⟩
  have HD6 : Hid (d6 = decide (x.granted ≤ x.merged + per)) := hd6
  refine takeH (o := ?o182) 34 (.bool d6) ?h182 ?r182
  case h182 => simp only [aT, aS, aZ]; rfl
  refine ⟨_, by simp [Act.put]; rfl, by kernel_rfl, by kernel_rfl, by kernel_rfl, fun _ _ _ h => h, (.inl ⟨rfl, fun W _ => by rw [hd6]; go_simp⟩), HS.out.1, ?_⟩
  clear hd6 hwz hm
  cases d6
  · refine takeH (o := ?o183) 35 (.bool false) ?h183 ?r183
    case h183 => simp only [aT, aS, aZ]; rfl
    refine ⟨_, by simp [Act.put]; rfl, by kernel_rfl, by kernel_rfl, by kernel_rfl, fun _ _ _ h => h, (.inl ⟨rfl, fun W _ => by kernel_rfl⟩), HS.out.1, ?_⟩
    refine takeH (o := ?o184) 36 (.bool false) ?h184 ?r184
    case h184 => simp only [aT, aS, aZ]; rfl
    refine ⟨_, by simp [Act.put]; rfl, by kernel_rfl, by kernel_rfl, by kernel_rfl, fun _ _ _ h => h, (.inl ⟨rfl, fun W _ => by kernel_rfl⟩), HS.out.1, ?_⟩
    refine takeH (o := ?o185) 37 (undef) ?h185 ?r185
    case h185 => simp only [aT, aS, aZ]; rfl
    refine ⟨_, by simp [Act.put]; rfl, by kernel_rfl, by kernel_rfl, by kernel_rfl, fun _ _ _ h => h, (.inr ⟨rfl, rfl⟩), HS.out.1, ?_⟩
    refine takeH (o := ?o186) 38 (undef) ?h186 ?r186
    case h186 => simp only [aT, aS, aZ]; rfl
    refine ⟨_, by simp [Act.put]; rfl, by kernel_rfl, by kernel_rfl, by kernel_rfl, fun _ _ _ h => h, (.inr ⟨rfl, rfl⟩), HS.out.1, ?_⟩
    refine takeH (o := ?o187) 39 (undef) ?h187 ?r187
    case h187 => simp only [aT, aS, aZ]; rfl
    refine ⟨_, by simp [Act.put]; rfl, by kernel_rfl, by kernel_rfl, by kernel_rfl, fun _ _ _ h => h, (.inr ⟨rfl, rfl⟩), HS.out.1, ?_⟩
    refine takeH (o := ?o188) 40 (.bool false) ?h188 ?r188
    case h188 => simp only [aT, aS, aZ]; rfl
    refine ⟨_, by simp [Act.put]; rfl, by kernel_rfl, by kernel_rfl, by kernel_rfl, fun _ _ _ h => h, (.inl ⟨rfl, fun W _ => by kernel_rfl⟩), HS.out.1, ?_⟩
    refine takeH (o := ?o189) 41 (.bool false) ?h189 ?r189
    case h189 => simp only [aT, aS, aZ]; rfl
    refine ⟨_, by simp [Act.put]; rfl, by kernel_rfl, by kernel_rfl, by kernel_rfl, fun _ _ _ h => h, (.inl ⟨rfl, fun W _ => by kernel_rfl⟩), HS.out.1, ?_⟩
    refine wpAnyH_done (by kernel_rfl) ?_ _
    have HV : Hid (x.ok per = false) := by show _ = _; unfold Se.ok; rw [← HD6.out]; simp
    go_wp2
    go_ret
    exact ⟨ret_bool HV.out.symm, HS.out.2⟩
  refine takeH (o := ?o190) 35 (.bool true) ?h190 ?r190
  case h190 => simp only [aT, aS, aZ]; rfl
  refine ⟨_, by simp [Act.put]; rfl, by kernel_rfl, by kernel_rfl, by kernel_rfl, fun _ _ _ h => h, (.inl ⟨rfl, fun W _ => by kernel_rfl⟩), HS.out.1, ?_⟩
  refine takeH (o := ?o191) 36 (.bool true) ?h191 ?r191
  case h191 => simp only [aT, aS, aZ]; rfl
  refine ⟨_, by simp [Act.put]; rfl, by kernel_rfl, by kernel_rfl, by kernel_rfl, fun _ _ _ h => h, (.inl ⟨rfl, fun W _ => by kernel_rfl⟩), HS.out.1, ?_⟩
  refine takeH (o := ?o192) 37 (.pointer (some ⟨w.heap.size, 4, none⟩)) ?h192 ?r192
  case h192 => simp only [aT, aS, aZ]; rfl
  refine ⟨_, by simp [Act.put]; rfl, by kernel_rfl, by kernel_rfl, by kernel_rfl, fun _ _ _ h => h, (.inl ⟨rfl, fun W _ => by kernel_rfl⟩), HS.out.1, ?_⟩
  refine takeH (o := ?o193) 38 (.int .i64 x.last) ?h193 ?r193
  case h193 => simp only [aT, aS, aZ]; rfl
  refine ⟨_, by simp [Act.put]; rfl, by kernel_rfl, by kernel_rfl, by kernel_rfl, fun _ _ _ h => h, (.inl ⟨rfl, fun W hW => by have c := hW.cell 4; simp only [aT, aS, aZ] at c; go_simp⟩), HS.out.1, ?_⟩
  refine onlyH (o := ?o194) 39 (by kernel_rfl) ?h194 ?r194
  case h194 => simp only [aT, aS, aZ]; rfl
  intro K hK
  obtain ⟨d7, hd7⟩ : ∃ d, d = decide (0 ≤ x.last ∧ x.last ≤ 1000000) := ⟨_, rfl⟩
  have HD7 : Hid (d7 = decide (0 ≤ x.last ∧ x.last ≤ 1000000)) := hd7
  refine op_callS3 14 _ _ _ _ Tryd.f14 (fun v w' => v = .bool d7 ∧ w' = W5) rfl rfl Tryd.func14 (by kernel_rfl) (by kernel_rfl) ((l1In_any x.last 0 1000000 W5).mono (by rintro e w' ⟨rfl, rfl⟩; exact ⟨_, rfl, by rw [hd7], rfl⟩)) ?_
  rintro v W7 ⟨rfl, hq⟩
  have hq' := hq.symm
  subst hq'
  clear hq hd7
  refine ⟨_, by simp [Act.put]; rfl, hK _ _ ⟨HS.out.1, ?_⟩⟩
  clear hK
  cases d7
  · refine takeH (o := ?o195) 40 (.bool false) ?h195 ?r195
    case h195 => simp only [aT, aS, aZ]; rfl
    refine ⟨_, by simp [Act.put]; rfl, by kernel_rfl, by kernel_rfl, by kernel_rfl, fun _ _ _ h => h, (.inl ⟨rfl, fun W _ => by kernel_rfl⟩), HS.out.1, ?_⟩
    refine takeH (o := ?o196) 41 (.bool false) ?h196 ?r196
    case h196 => simp only [aT, aS, aZ]; rfl
    refine ⟨_, by simp [Act.put]; rfl, by kernel_rfl, by kernel_rfl, by kernel_rfl, fun _ _ _ h => h, (.inl ⟨rfl, fun W _ => by kernel_rfl⟩), HS.out.1, ?_⟩
    refine wpAnyH_done (by kernel_rfl) ?_ _
    have HV : Hid (x.ok per = false) := by show _ = _; unfold Se.ok; rw [← HD7.out]; simp
    go_wp2
    go_ret
    exact ⟨ret_bool HV.out.symm, HS.out.2⟩
  refine takeH (o := ?o197) 40 (.bool true) ?h197 ?r197
  case h197 => simp only [aT, aS, aZ]; rfl
  refine ⟨_, by simp [Act.put]; rfl, by kernel_rfl, by kernel_rfl, by kernel_rfl, fun _ _ _ h => h, (.inl ⟨rfl, fun W _ => by kernel_rfl⟩), HS.out.1, ?_⟩
  refine takeH (o := ?o198) 41 (.bool true) ?h198 ?r198
  case h198 => simp only [aT, aS, aZ]; rfl
  refine ⟨_, by simp [Act.put]; rfl, by kernel_rfl, by kernel_rfl, by kernel_rfl, fun _ _ _ h => h, (.inl ⟨rfl, fun W _ => by kernel_rfl⟩), HS.out.1, ?_⟩
  refine wpAnyH_done (by kernel_rfl) ?_ _
  have HV : Hid (x.ok per = true) := by show _ = _; unfold Se.ok; rw [← HD1.out, ← HD2.out, ← HD3.out, ← HD4.out, ← HD5.out, ← HD6.out, ← HD7.out]; rfl
  go_wp2
  go_ret
  exact ⟨ret_bool HV.out.symm, HS.out.2⟩
set_option maxRecDepth 200000 in
set_option maxHeartbeats 2000000 in
theorem l9Copy_any (v : Value) (x : Se) (F : List Nat) (w : World) (h : RdSe w v x F) (hl : x.taken.length ≤ 2097152) :
    Calls Tryd.prog 12 #[v] w fun e w' => NewSe w x e w' := by
  obtain ⟨b, l, c, rfl, hP, hcp⟩ := h
  have HP : Hid (RdP w b l x.taken F ∧ l ≤ 2097152 ∧ (b = none → c = 0)) := ⟨hP, by rw [← hP.length]; exact hl, hcp.1⟩
  have HT : Hid (Two w #[.int .i64 x.epoch, .int .i64 x.granted, .slice b l c, .int .i64 x.merged, .int .i64 x.last] #[.int .i64 0, .int .i64 0, .slice none 0 0, .int .i64 0, .int .i64 0] 28 ((w.alloc (.cells #[.int .i64 x.epoch, .int .i64 x.granted, .slice b l c, .int .i64 x.merged, .int .i64 x.last] 28)).alloc (.cells #[.int .i64 0, .int .i64 0, .slice none 0 0, .int .i64 0, .int .i64 0] 28))) := Two.made w _ _ _
  clear hP hl hcp
  go_enter Tryd.func12, Tryd.ntmps12
  go_wp2_with (first | go_skip | (with_reducible refine stopLoad 28 rfl ?_) | (with_reducible refine stopStore 28 rfl ?_))
  obtain ⟨W0, hW0⟩ : ∃ W, W = (w.alloc (.cells #[.int .i64 x.epoch, .int .i64 x.granted, .slice b l c, .int .i64 x.merged, .int .i64 x.last] 28)).alloc (.cells #[.int .i64 0, .int .i64 0, .slice none 0 0, .int .i64 0, .int .i64 0] 28) := ⟨_, rfl⟩
  have HS0 : Hid (W0.heap.size = w.heap.size + 2) := by rw [hW0]; show _ = _; simp
  rw [← hW0] at HT ⊢
  clear hW0
  refine load_known 28 w.heap.size #[.int .i64 x.epoch, .int .i64 x.granted, .slice b l c, .int .i64 x.merged, .int .i64 x.last] 28 _ HT.out.fst rfl rfl rfl Tryd.underlying28 rfl infoSeI ?_
  go_wp2_with (first | go_skip | (with_reducible refine stopLoad 28 rfl ?_) | (with_reducible refine stopStore 28 rfl ?_))
  refine store_fresh 28 W0.heap.size rfl #[.int .i64 0, .int .i64 0, .slice none 0 0, .int .i64 0, .int .i64 0] #[.int .i64 x.epoch, .int .i64 x.granted, .slice b l c, .int .i64 x.merged, .int .i64 x.last] 28 rfl rfl rfl rfl infoSeI rfl (by simp [Value.oneCell']) ?_
  intro w1 hg hb
  have H1 : Hid (Two w #[.int .i64 x.epoch, .int .i64 x.granted, .slice b l c, .int .i64 x.merged, .int .i64 x.last] #[.int .i64 0, .int .i64 0, .slice none 0 0, .int .i64 0, .int .i64 0] 28 w1 ∧ Blk w1 W0.heap.size #[.int .i64 x.epoch, .int .i64 x.granted, .slice b l c, .int .i64 x.merged, .int .i64 x.last] 28) := ⟨HT.out.below hb, hg⟩
  have c2' := H1.out.1.fst.cell 2
  simp only [aT, aS, aZ] at c2'
  obtain ⟨L, hL⟩ : ∃ L, L = W0.heap.size := ⟨_, rfl⟩
  have HLw : Hid (L = w.heap.size + 2) := by rw [hL]; exact HS0.out
  rw [← hL] at H1 ⊢
  clear hg hb HT hL HS0
  go_wp2_with fail
  refine (l5Copy_any b l c x.taken F _ (HP.out.1.below H1.out.1.bel) HP.out.2.1 HP.out.2.2).mono ?_
  rintro e w2 ⟨p, n, k, G, rfl, rp, op, bp, kp⟩
  have hlt := H1.out.2.lt
  have hlw := HLw.out
  have H2 : Hid (Two w #[.int .i64 x.epoch, .int .i64 x.granted, .slice b l c, .int .i64 x.merged, .int .i64 x.last] #[.int .i64 0, .int .i64 0, .slice none 0 0, .int .i64 0, .int .i64 0] 28 w2 ∧ Blk w2 L #[.int .i64 x.epoch, .int .i64 x.granted, .slice b l c, .int .i64 x.merged, .int .i64 x.last] 28 ∧ RdP w2 p n x.taken G ∧ Own (w.heap.size + 2) w2 G ∧ Capd p n k ∧ L ∉ G) := ⟨H1.out.1.below bp, H1.out.2.below bp, rp, op.mono (by omega), kp, fun hx => by have := op.ge _ hx; omega⟩
  clear rp op bp kp H1 c2' hlt hlw
  have c2' := H2.out.2.1.cell 2
  have f2' := H2.out.2.1.frozen 2
  simp only [aT, aS, aZ] at c2'
  go_wp2_with (first | go_skip | (with_reducible refine stopLoad 28 rfl ?_) | (with_reducible refine stopStore 28 rfl ?_))
  have hlw := HLw.out
  have H3 : Hid (SeW w #[.int .i64 x.epoch, .int .i64 x.granted, .slice b l c, .int .i64 x.merged, .int .i64 x.last] L x.epoch x.granted x.merged x.last x.taken p n k G (w2.setCell ⟨L, 2, none⟩ (.slice p n k))) := by
    have ag : Agree w2 (w2.setCell ⟨L, 2, none⟩ (.slice p n k)) G := .set H2.out.2.2.2.2.2 2 _
    exact ⟨H2.out.1.fst.setOther (by omega) 2 _, H2.out.1.snd.setOther (by omega) 2 _, H2.out.2.1.set 2 _, H2.out.2.2.1.agree ag, H2.out.2.2.2.2.1, H2.out.2.2.2.1.agree ag, H2.out.1.bel.setCell (by show w.heap.size ≤ L; omega) _, by omega, H2.out.2.2.2.2.2⟩
  obtain ⟨w3, hw3⟩ : ∃ W, W = w2.setCell ⟨L, 2, none⟩ (.slice p n k) := ⟨_, rfl⟩
  rw [← hw3] at H3 ⊢
  clear hw3 c2' f2' H2 hlw HLw
  refine load_known 28 L #[.int .i64 x.epoch, .int .i64 x.granted, .slice p n k, .int .i64 x.merged, .int .i64 x.last] 28 _ H3.out.loc rfl rfl rfl Tryd.underlying28 rfl infoSeI ?_
  go_wp2_with (first | go_skip | (with_reducible refine stopLoad 28 rfl ?_) | (with_reducible refine stopStore 28 rfl ?_))
  refine store_known 28 (w.heap.size + 1) _ #[.int .i64 x.epoch, .int .i64 x.granted, .slice p n k, .int .i64 x.merged, .int .i64 x.last] 28 H3.out.res rfl rfl rfl rfl infoSeI rfl (by simp [Value.oneCell']) ?_
  go_wp2
  refine bodyPost_ret (results_cell_row Tryd.results12 _ _ (w.heap.size + 1) _ _ (0, 0) _ rfl H3.out.res.setRow Tryd.underlying28 rfl infoSeI) rfl ?_
  exact ⟨_, G, rfl, H3.out.done.1, H3.out.done.2.1, H3.out.done.2.2⟩
end Go.Proofs.YtgkbhhlkaifnoabDoor
