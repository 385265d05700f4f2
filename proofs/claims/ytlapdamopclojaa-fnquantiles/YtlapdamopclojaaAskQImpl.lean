/- The walk through the program's Quantile. No statement of the seat is proved here. -/
import Derived.Test.YtlapdamopclojaaAskQIter
import Derived.Test.YtlapdamopclojaaAskQSpec
namespace Go.Proofs.Ytlapdamopclojaa
open Go.RowKit Go.Shelf
attribute [local go_sem] Oper.semAt_some
/-- The boxes of the call: its number, its two results. -/
structure QBox (w : World) (p y z : Int) (W : World) : Prop where
  p : Blk W (w.heap.size + 1) #[.int .i64 p] 3
  r : Blk W (w.heap.size + 1 + 1) #[.int .i64 y] 3
  q : Blk W (w.heap.size + 1 + 1 + 1) #[.int .i64 z] 3
  b : Below w.heap.size w W
theorem QBox.below {w W W' : World} {p y z : Int} (h : QBox w p y z W) (hb : Below W.heap.size W W') : QBox w p y z W' := ⟨h.p.below hb, h.r.below hb, h.q.below hb, Below.next h.b hb⟩
theorem QBox.made (w : World) (cs : Array Value) (t : TypeId) (p : Int) : QBox w p 0 0 ((((w.alloc (.cells cs t)).alloc (.cells #[.int .i64 p] 3)).alloc (.cells #[.int .i64 0] 3)).alloc (.cells #[.int .i64 0] 3)) := by
  refine ⟨?_, ?_, ?_, ?_⟩
  · exact ((Blk.made_eq (by simp)).alloc _).alloc _
  · exact (Blk.made_eq (by simp)).alloc _
  · exact Blk.made_eq (by simp)
  · exact Below.allocW _ (Below.allocW _ (Below.allocW _ (Below.allocW _ (Below.refl _ _) (Nat.le_refl _)) (Nat.le_refl _)) (Nat.le_refl _)) (Nat.le_refl _)
theorem QBox.set {w W : World} {p y z : Int} (h : QBox w p y z W) (y' z' : Int) : QBox w p y' z' ((W.setCell ⟨w.heap.size + 1 + 1, 0, none⟩ (.int .i64 y')).setCell ⟨w.heap.size + 1 + 1 + 1, 0, none⟩ (.int .i64 z')) := by
  refine ⟨(h.p.setOther (by omega) _ _).setOther (by omega) _ _, ?_, ?_, (h.b.setCell (by simp; omega) _).setCell (by simp; omega) _⟩
  · exact (h.r.set 0 (.int .i64 y')).setOther (by omega) _ _
  · exact (h.q.setOther (by omega) _ _).set 0 (.int .i64 z')
theorem QBox.put {w W : World} {p y z : Int} (h : QBox w p y z W) {D : Nat} {o o' : Obj} (hD : W.heap[D]? = some o) (hc : o.isCells = false) (hg : w.heap.size ≤ D) : QBox w p y z (W.putObj D o') := by
  have ne : ∀ {g : Nat} {cs : Array Value} {t : TypeId}, Blk W g cs t → g ≠ D := fun {g cs t} hb e => by
    subst e
    have e2 : W.heap[g]? = some (.cells cs t (0, 0)) := hb
    rw [e2] at hD
    cases hD
    simp [Obj.isCells] at hc
  have ag : ∀ {g : Nat}, g ≠ D → (W.putObj D o').heap[g]? = W.heap[g]? := fun {g} hne => by
    simp only [World.putObj]
    rw [Array.getElem?_setIfInBounds_ne (fun e => hne e.symm)]
  exact ⟨h.p.agree (ag (ne h.p)), h.r.agree (ag (ne h.r)), h.q.agree (ag (ne h.q)), ⟨h.b.os, h.b.tape, h.b.output, by simpa [World.putObj] using h.b.size, fun k hk => (ag (by omega)).trans (h.b.block k hk)⟩⟩
theorem Blk.kept {A B : World} {row : Option Nat} {g : Nat} {cs : Array Value} {t : TypeId} (h : Blk A g cs t) (hg : A.grownBy B row) (hr : ∀ r, row = some r → ∃ o : Obj, A.heap[r]? = some o ∧ o.isCells = false) : Blk B g cs t := by
  refine h.agree (hg.block g h.lt (fun e => ?_))
  obtain ⟨o, h1, h2⟩ := hr g e.symm
  have e2 : A.heap[g]? = some (.cells cs t (0, 0)) := h
  rw [e2] at h1
  cases h1
  simp [Obj.isCells] at h2
theorem QBox.kept {w A B : World} {row : Option Nat} {p y z : Int} (h : QBox w p y z A) (hg : A.grownBy B row) (hr : ∀ r, row = some r → w.heap.size ≤ r ∧ ∃ o : Obj, A.heap[r]? = some o ∧ o.isCells = false) : QBox w p y z B :=
  have hr' : ∀ r, row = some r → ∃ o : Obj, A.heap[r]? = some o ∧ o.isCells = false := fun r e => (hr r e).2
  ⟨h.p.kept hg hr', h.r.kept hg hr', h.q.kept hg hr', ⟨hg.os.trans h.b.os, hg.tape.trans h.b.tape, hg.output.trans h.b.output, Nat.le_trans h.b.size hg.size, fun k hk => (hg.block k (Nat.lt_of_lt_of_le hk h.b.size) (fun e => by have := (hr k e.symm).1; omega)).trans (h.b.block k hk)⟩⟩
/-- Between two rounds; a round has left. -/
def QI (w : World) (p A : Int) (g : Nat) (pre : List Fb) (W : World) : Prop := (∀ y ∈ pre, y.1.2 * 1000 < p * A) ∧ QBox w p 0 0 W ∧ Blk W g #[.int .i64 A] 3
def QX (w : World) (p A : Int) (c : Code) (pre : List Fb) (W : World) : Prop := c = .ret ∧ ∃ init x, pre = init ++ [x] ∧ (∀ y ∈ init, y.1.2 * 1000 < p * A) ∧ p * A ≤ x.1.2 * 1000 ∧ QBox w p (lowN x.1.1) (highN x.1.1) W
theorem quant_end {w W : World} {p y z : Int} (h : QBox w p y z W) (tmps : Array Value) (h4 : tmps[4]?.getD undef = .pointer (some ⟨w.heap.size + 1 + 1, 0, none⟩)) (h5 : tmps[5]?.getD undef = .pointer (some ⟨w.heap.size + 1 + 1 + 1, 0, none⟩)) :
    (results Try.f33 tmps).run Try.prog W = .ok (.tuple #[.int .i64 y, .int .i64 z]) W := by
  have cr : W.cell? ⟨w.heap.size + 1 + 1, 0, none⟩ = some (.int .i64 y) := by rw [h.r.cell]; rfl
  have cq : W.cell? ⟨w.heap.size + 1 + 1 + 1, 0, none⟩ = some (.int .i64 z) := by rw [h.q.cell]; rfl
  simp [results, Try.f33, go_sem, h4, h5, cr, cq]
set_option maxRecDepth 100000 in
set_option maxHeartbeats 2000000 in
theorem quantImpl_any (v : Value) (s : Sk) (p : Int) (F : List Nat) (w : World) (h : RdSk w v s F) (hw : s.wide) :
    Calls Try.prog 33 #[v, .int .i64 p] w fun e w' => e = .returned (.tuple #[.int .i64 (quantN s p).1, .int .i64 (quantN s p).2]) ∧ Below w.heap.size w w' := by
  have HH : Hid (RdSk w v s F ∧ s.wide) := ⟨h, hw⟩
  obtain ⟨a1', n1, c1, a2, n2, c2, a3, n3, c3, F1, F2, F3, rfl, h1, h2, h3, _⟩ := h
  clear h1 h2 h3 hw
  have HT : Hid (QBox w p 0 0 _) := QBox.made w #[.int .i64 s.count, .int .i64 s.sum, .int .i64 s.min, .int .i64 s.max, .slice a1' n1 c1, .slice a2 n2 c2, .slice a3 n3 c3] 41 p
  refine (callsIn_wide (n := 5)).1 ?_
  refine callsIn_of_wp_marks Try.func33 rfl trivial ?_ rfl
  simp only [Try.ntmps33, List.size_toArray, List.length_cons, List.length_nil, Nat.reduceAdd, Nat.reduceSub, Array.replicate_succ, Array.replicate_zero, List.push_toArray, List.append_toArray, List.nil_append, List.cons_append]
  refine wpIn_wide.2 ?_
  go_wp2_with fail
  refine (okTally_any _ s F _ (HH.out.1.below HT.out.b) HH.out.2).mono ?_
  rintro e w1 ⟨xs, ys, rfl, _, hy, hx, hyx, hb1⟩
  have hok := okT_ok hx
  have HB : Hid (ys.length = 28 ∧ QBox w p 0 0 w1 ∧ (s.ok = true → ys = s.tl)) := ⟨hy, HT.out.below hb1, fun e => by rw [hyx (hok.trans e)]; exact hx (Sk.ok_shaped e)⟩
  rw [hok]
  clear hb1 hy hx hyx hok HT
  obtain ⟨d, hd⟩ : ∃ d, d = s.ok := ⟨_, rfl⟩
  rw [← hd]
  have HD : Hid (d = s.ok) := hd
  clear hd
  go_wp2_with (with_reducible refine stopStore 66 rfl ?_)
  refine store_fresh 66 w1.heap.size rfl (tc (List.replicate 28 0)) (tc ys) 66 rfl rfl rfl rfl (tallySize HB.out.1) (by rw [tc_size, tc_size, HB.out.1]; rfl) (tc_one _) ?_
  intro W2 hg2 hb2
  have HB2 : Hid (Blk W2 w1.heap.size (tc ys) 66 ∧ QBox w p 0 0 W2 ∧ w.heap.size + 3 < w1.heap.size) := ⟨hg2, HB.out.2.1.below hb2, HB.out.2.1.q.lt⟩
  clear hb2 hg2
  have cp : W2.cell? ⟨w.heap.size + 1, 0, none⟩ = some (.int .i64 p) := by rw [HB2.out.2.1.p.cell]; rfl
  have cr : W2.cell? ⟨w.heap.size + 1 + 1, 0, none⟩ = some (.int .i64 0) := by rw [HB2.out.2.1.r.cell]; rfl
  have cq : W2.cell? ⟨w.heap.size + 1 + 1 + 1, 0, none⟩ = some (.int .i64 0) := by rw [HB2.out.2.1.q.cell]; rfl
  have fr := HB2.out.2.1.r.frozen 0
  have fq := HB2.out.2.1.q.frozen 0
  cases d
  · go_wp2
    have e := HB2.out.2.1.set 0 0
    exact ⟨_, quant_end e _ rfl rfl, ret_two (quantN_not HD.out.symm), e.b⟩
  by_cases qp : 1 ≤ p ∧ p ≤ 1000
  rotate_left
  · have HP : Hid (¬ (1 ≤ p ∧ p ≤ 1000)) := qp
    by_cases q1 : p < 1
    · have q1d : decide (p < 1) = true := dec_true q1
      clear qp
      go_wp2
      have e := HB2.out.2.1.set 0 0
      exact ⟨_, quant_end e _ rfl rfl, ret_two (quantN_out HP.out), e.b⟩
    · have q1d : decide (p < 1) = false := dec_false q1
      have q2d : decide (1000 < p) = true := dec_true (by omega)
      clear qp q1
      go_wp2
      have e := HB2.out.2.1.set 0 0
      exact ⟨_, quant_end e _ rfl rfl, ret_two (quantN_out HP.out), e.b⟩
  obtain ⟨p1, p2⟩ := qp
  have q1d : decide (p < 1) = false := dec_false (by omega)
  have q2d : decide (1000 < p) = false := dec_false (by omega)
  go_wp2_with (first | go_skip | (with_reducible refine stopLoad 66 rfl ?_))
  refine load_part 66 w1.heap.size 0 28 ys 66 _ HB2.out.1 rfl rfl rfl Try.underlying66 rfl infoTally (by rw [HB.out.1]; omega) ?_
  rw [List.drop_zero, List.take_of_length_le (Nat.le_of_eq HB.out.1)]
  obtain ⟨H, hH⟩ : ∃ H, H = (ys.drop 4).take 8 := ⟨_, rfl⟩
  have eH : H = s.hist := by rw [hH, HB.out.2.2 HD.out.symm]; exact (tl_hist HD.out.symm).1
  have HHI : Hid (Hin H ∧ H = (ys.drop 4).take 8 ∧ quantN s p = quantH H p) := ⟨by rw [eH]; exact okHist HD.out.symm, hH, by rw [eH]; exact quantN_in HD.out.symm p1 p2⟩
  clear eH
  go_wp2_with fail
  refine (inBuckets_any ys _ HB.out.1 (by rw [← HHI.out.2.1]; exact HHI.out.1)).mono ?_
  rintro e w3 ⟨rfl, hb3⟩
  rw [← hH]
  clear hH
  have HB3 : Hid (Blk w3 w1.heap.size (tc ys) 66 ∧ QBox w p 0 0 w3 ∧ w.heap.size + 1 + 1 + 1 < w1.heap.size) := ⟨HB2.out.1.below hb3, HB2.out.2.1.below hb3, HB2.out.2.2⟩
  clear hb3 HB2 cp cr cq fr fq
  obtain ⟨A, hA⟩ : ∃ A, A = up H 8 := ⟨_, rfl⟩
  rw [← hA]
  have a0 : 0 ≤ A := by rw [hA]; exact (HHI.out.1.up 8).1
  have a1 : A ≤ 8000000000 := by rw [hA]; exact (HHI.out.1.up 8).2.2
  have HA : Hid (A = up H 8) := hA
  clear hA
  obtain ⟨pa0, pa1⟩ := prod_range p1 p2 a0 a1
  have HB4 : Hid (Blk (w3.alloc (.cells #[.int .i64 A] 3)) w1.heap.size (tc ys) 66 ∧ QBox w p 0 0 (w3.alloc (.cells #[.int .i64 A] 3)) ∧ Blk (w3.alloc (.cells #[.int .i64 A] 3)) w3.heap.size #[.int .i64 A] 3) := ⟨HB3.out.1.alloc _, HB3.out.2.1.below ((Below.refl _ _).alloc (Nat.le_refl _) _), Blk.made _ _ _⟩
  go_wp2_with (first | go_skip | (with_reducible refine stopLoad 66 rfl ?_))
  refine load_part 66 w1.heap.size 0 28 ys 66 _ HB4.out.1 rfl rfl rfl Try.underlying66 rfl infoTally (by rw [HB.out.1]; omega) ?_
  rw [List.drop_zero, List.take_of_length_le (Nat.le_of_eq HB.out.1)]
  obtain ⟨W4, hW4⟩ : ∃ W, W = w3.alloc (.cells #[.int .i64 A] 3) := ⟨_, rfl⟩
  rw [← hW4] at HB4 ⊢
  have hs4 : w3.heap.size < W4.heap.size := HB4.out.2.2.lt
  have hs3 : w.heap.size + 1 + 1 + 1 < w3.heap.size := HB3.out.2.1.q.lt
  clear hW4 HB3
  go_wp2_with fail
  refine (filled_any ys _).mono ?_
  rintro e W5 ⟨rfl, hW5⟩
  have HB5 : Hid (Blk W5 W4.heap.size (tc ys) 66 ∧ QBox w p 0 0 W5 ∧ Blk W5 w3.heap.size #[.int .i64 A] 3) := by
    rw [hW5]
    exact ⟨Blk.made _ _ _, HB4.out.2.1.below ((Below.refl _ _).alloc (Nat.le_refl _) _), HB4.out.2.2.alloc _⟩
  have hs5 : W4.heap.size < W5.heap.size := HB5.out.1.lt
  clear hW5 HB4
  go_wp2
  refine (wpIn_wide (n := 5)).1 ?_
  refine wpIn_rangeFunc_ownF (α := Fb) rfl (by omega) (gf := 77) (lb := #[.pointer (some ⟨W4.heap.size, 0, none⟩)]) rfl trivial (enters_of Try.func77 (by kernel_rfl) rfl)
    (filled_stops 4 (by omega) W4.heap.size w.heap.size ys HB.out.1 (by rw [← HHI.out.2.1]; exact HHI.out.1) W5 HB5.out.1) belowK_t (belowK_b HB5.out.2.1.b.size) (Below.refl _ _) (fun _ => rfl)
    (fun pre W => QI w p A w3.heap.size pre W)
    (fun c pre W => QX w p A c pre W)
    (fun _ A' B' row hs hg hr => ⟨hs.1, hs.2.1.kept hg (fun r e => ⟨Nat.le_trans HB5.out.2.1.b.size (hr r e).1, (hr r e).2⟩), hs.2.2.kept hg (fun r e => (hr r e).2)⟩)
    (fun c _ A' B' row hs hg hr => by
      obtain ⟨h1, init, x, h2, h3, h4, h5⟩ := hs
      exact ⟨h1, init, x, h2, h3, h4, h5.kept hg (fun r e => ⟨Nat.le_trans HB5.out.2.1.b.size (hr r e).1, (hr r e).2⟩)⟩)
    ⟨by simp, HB5.out.2.1, HB5.out.2.2⟩
    (fun x => { tmps := #[Value.agg #[Value.int IntKind.i64 s.count, Value.int IntKind.i64 s.sum, Value.int IntKind.i64 s.min, Value.int IntKind.i64 s.max, Value.slice a1' n1 c1, Value.slice a2 n2 c2, Value.slice a3 n3 c3],
          Value.int IntKind.i64 p, Value.pointer (some ⟨w.heap.size, 0, none⟩), Value.pointer (some ⟨w.heap.size + 1, 0, none⟩), Value.pointer (some ⟨w.heap.size + 1 + 1, 0, none⟩), Value.pointer (some ⟨w.heap.size + 1 + 1 + 1, 0, none⟩),
          Value.pointer (some ⟨w1.heap.size, 0, none⟩), Value.bool true, Value.pointer (some ⟨w3.heap.size, 0, none⟩), .int .i64 (x.1.1 : Int), .int .i64 x.1.2,
          Value.tuple #[Value.agg (tc ys), Value.bool true],
          Value.agg #[Value.int IntKind.i64 s.count, Value.int IntKind.i64 s.sum, Value.int IntKind.i64 s.min, Value.int IntKind.i64 s.max, Value.slice a1' n1 c1, Value.slice a2 n2 c2, Value.slice a3 n3 c3],
          Value.tuple #[Value.agg (tc ys), Value.bool true], Value.agg (tc ys), Value.bool true, Value.bool true,
          Value.bool false, Value.bool false, Value.int IntKind.i64 p, Value.bool false, Value.bool false,
          Value.bool false, Value.int IntKind.i64 p, Value.bool false, Value.bool false, Value.agg (tc ys),
          Value.int IntKind.i64 A, Value.agg (tc ys), Value.func (Fn.func 77) #[] #[Value.pointer (some ⟨W4.heap.size, 0, none⟩)], .int .i64 (x.1.1 : Int), .int .i64 x.1.2, undef,
          undef, undef, undef, undef, undef, undef, undef, undef, undef], defers := [] }) ?assign ?body ?done ?stop
  case assign =>
    intro l x W K hK
    gi_wp2
    exact hK
  case body =>
    rintro l pre ⟨⟨k, u⟩, hk, u0, u1⟩ W hI _
    have HI : Hid (QI w p A w3.heap.size pre W) := hI
    clear hI
    have cp : W.cell? ⟨w.heap.size + 1, 0, none⟩ = some (.int .i64 p) := by rw [HI.out.2.1.p.cell]; rfl
    have cA : W.cell? ⟨w3.heap.size, 0, none⟩ = some (.int .i64 A) := by rw [HI.out.2.2.cell]; rfl
    dsimp only
    by_cases hq : p * A ≤ u * 1000
    rotate_left
    · have hqd : decide (p * A ≤ u * 1000) = false := dec_false hq
      have HI2 : Hid (QI w p A w3.heap.size (pre ++ [(⟨(k, u), hk, u0, u1⟩ : Fb)]) W) := ⟨fun y hy => by
        rcases List.mem_append.1 hy with hy | hy
        · exact HI.out.1 y hy
        · obtain rfl := List.mem_singleton.1 hy
          show u * 1000 < p * A
          omega, HI.out.2⟩
      gi_wp2
      exact ⟨KeepsOthers.refl _, Below.refl _ _, HI2.out⟩
    have hqd : decide (p * A ≤ u * 1000) = true := dec_true hq
    have cr : W.cell? ⟨w.heap.size + 1 + 1, 0, none⟩ = some (.int .i64 0) := by rw [HI.out.2.1.r.cell]; rfl
    have cq : W.cell? ⟨w.heap.size + 1 + 1 + 1, 0, none⟩ = some (.int .i64 0) := by rw [HI.out.2.1.q.cell]; rfl
    have fr := HI.out.2.1.r.frozen 0
    have fq := HI.out.2.1.q.frozen 0
    have HE : Hid (QX w p A .ret (pre ++ [(⟨(k, u), hk, u0, u1⟩ : Fb)]) ((W.setCell ⟨w.heap.size + 1 + 1, 0, none⟩ (.int .i64 (lowN k))).setCell ⟨w.heap.size + 1 + 1 + 1, 0, none⟩ (.int .i64 (highN k)))) :=
      ⟨rfl, pre, ⟨(k, u), hk, u0, u1⟩, rfl, HI.out.1, hq, HI.out.2.1.set _ _⟩
    clear HI hq
    gi_wp2_with (first | (refine ⟨trivial, ?_⟩; gi_at_call 23; refine (CallsIn.inRound l (callsIn_wide.2 (lowImpl_any _ _))).mono ?_; rintro e W' ⟨rfl, rfl⟩) | (refine ⟨trivial, ?_⟩; gi_at_call 60; refine (CallsIn.inRound l (callsIn_wide.2 (high_any _ _ (by omega) (by omega)))).mono ?_; rintro e W' ⟨rfl, rfl⟩))
    exact ⟨(KeepsOthers.setCell _ _ _).trans (KeepsOthers.setCell _ _ _), HE.out⟩
  case done =>
    rintro D ls W hD hS hI hK
    have HI : Hid (QI w p A w3.heap.size ls W) := hI
    clear hI
    have cr : W.cell? ⟨w.heap.size + 1 + 1, 0, none⟩ = some (.int .i64 0) := by rw [HI.out.2.1.r.cell]; rfl
    have cq : W.cell? ⟨w.heap.size + 1 + 1 + 1, 0, none⟩ = some (.int .i64 0) := by rw [HI.out.2.1.q.cell]; rfl
    have fr := HI.out.2.1.r.frozen 0
    have fq := HI.out.2.1.q.frozen 0
    have HV : Hid (quantN s p = (0, 0)) := by
      rw [HHI.out.2.2]
      rw [← HHI.out.2.1] at hS
      exact quantH_came_none hS (by rw [← HA.out]; exact HI.out.1)
    have HS : Hid (QBox w p 0 0 _) := HI.out.2.1.set 0 0
    have HK : Hid (W.heap[D]? = some (.deferred (some [])) ∧ w.heap.size ≤ D) := ⟨hK, Nat.le_trans HB5.out.2.1.b.size hD⟩
    clear HI hK hS hD
    go_wp2
    have hK' := ((KeepsOthers.setCell W ⟨w.heap.size + 1 + 1, 0, none⟩ (.int .i64 0)).trans (KeepsOthers.setCell _ ⟨w.heap.size + 1 + 1 + 1, 0, none⟩ (.int .i64 0))).same D _ HK.out.1 rfl
    refine ⟨by simp, .inl ⟨_, _, rfl, run_takeDeferred hK', ?_⟩⟩
    have e := HS.out.put (o' := .deferred none) hK' rfl HK.out.2
    exact ⟨_, quant_end e _ rfl rfl, ret_two HV.out, e.b⟩
  case stop =>
    rintro D c pre W hD hSp HX hK
    obtain ⟨rfl, init, x, rfl, h3, h4, h5⟩ := HX
    obtain ⟨k, hk, hC⟩ := hSp
    have HV : Hid (quantN s p = (lowN x.1.1, highN x.1.1)) := by
      rw [HHI.out.2.2]
      rw [← HHI.out.2.1] at hC
      exact quantH_came_hit hk hC (by rw [← HA.out]; exact h3) (by rw [← HA.out]; exact h4)
    gi_wp2
    refine ⟨by simp, .inl ⟨_, _, rfl, run_takeDeferred hK, ?_⟩⟩
    have e := h5.put (o' := .deferred none) hK rfl (Nat.le_trans HB5.out.2.1.b.size hD)
    exact ⟨_, quant_end e _ rfl rfl, ret_two HV.out, e.b⟩
end Go.Proofs.Ytlapdamopclojaa
