/- For every number and every item (no condition): laws.FnExactEntryOf returns true, and its arguments read afterwards as they did: the program's EntryOf answers as the model's, writes nothing into its argument, and its answer owns its memory. -/
import Derived.Test.YtbmbmnhamogghapItVarI
import Derived.Test.YtbmbmnhamogghapB1
import Derived.Test.YtbmbmnhamogghapRows
import Derived.WalkKit
import Derived.ProofKit
import Derived.OpenShut
import Derived.ShutString
import Derived.ChangeOld
import Derived.Below
import Derived.Deep.DeepCutAuto
namespace Go.Proofs.Ytbmbmnhamogghap.fnExactEntryOf
open Go.ChangeShapes Go.WideShapes Go.ChangeAt Go.RowKit
set_option linter.unusedVariables false
theorem own : ownKnob Try.prog.godebug = none := by kernel_rfl
set_option maxRecDepth 200000 in
set_option maxHeartbeats 8000000 in
theorem walk (ag : Int) (v0 : Value) (s : It) (F : List Nat) (w : World) (h : RdIt w v0 s F) (hv : s.vast) :
    Calls Try.prog 4 #[.int .i64 ag, v0] w fun e w' => e = .returned (.bool true) ∧ Below w.heap.size w w' := by
  have HH : Hid (RdIt w v0 s F ∧ s.vast) := ⟨h, hv⟩
  obtain ⟨cs0, rfl, hc7, hone⟩ := h.cells
  have HC : Hid (cs0.size = 11) := hc7
  have BX : Hid (Blk (w.alloc (.cells cs0 39)) w.heap.size cs0 39) := Blk.made _ _ _
  have BEL : Hid (Below w.heap.size w (w.alloc (.cells cs0 39))) := (Below.refl _ _).alloc (Nat.le_refl _) _
  have HDE : Hid ((s.entry ag).wide → True) := fun _ => trivial
  clear h hv hc7 hone
  go_enter Try.func4, Try.ntmps4
  go_wp2_with (first | go_skip | (with_reducible refine stopLoad 39 rfl ?_) | (with_reducible refine stopLoad 44 rfl ?_) | (with_reducible refine stopLoad 34 rfl ?_) | (with_reducible refine stopStore 44 rfl ?_) | (with_reducible refine stopStore 34 rfl ?_))
  refine load_any 39 w.heap.size cs0 39 _ BX.out rfl rfl rfl Try.underlying39 rfl (litSize HC.out) ?_
  go_wp2_with fail
  refine (szItem_vast _ s F 1048576 _ (HH.out.1.below BEL.out) HH.out.2 (by omega) (by omega)).mono ?_
  rintro e w1 ⟨⟨r, rfl, ra, rb, rc⟩, hb1⟩
  have BEL : Hid (Below w.heap.size w w1) := Below.next BEL.out hb1
  have BX : Hid (Blk w1 w.heap.size cs0 39) := BX.out.below hb1
  by_cases q : r < 0
  · clear ra rb rc hb1
    go_wp2
    go_ret
    exact ⟨rfl, BEL.out⟩
  have q' : 0 ≤ r := by omega
  have HSZ : Hid (s.sk.size ≤ 1048576) := by have := rb q'; show _ ≤ _; omega
  have HF : Hid (s.fits) := Sk.fits_of HSZ.out
  have HM : Hid ((s.entry ag).wide) := entry_wide HF.out
  have HMG : Hid (0 ≤ (s.entry ag).many ∧ (s.entry ag).many ≤ 4194304) := entry_many HSZ.out
  have HMI : Hid (0 ≤ s.sk.many ∧ s.sk.many ≤ 1048576) := many_fits HSZ.out
  have LB0 : Hid (w.heap.size < w1.heap.size) := BX.out.lt
  clear ra rb rc hb1 q HDE
  go_wp2_with (first | go_skip | (with_reducible refine stopLoad 39 rfl ?_) | (with_reducible refine stopLoad 44 rfl ?_) | (with_reducible refine stopLoad 34 rfl ?_) | (with_reducible refine stopStore 44 rfl ?_) | (with_reducible refine stopStore 34 rfl ?_))
  refine load_any 39 w.heap.size cs0 39 _ BX.out rfl rfl rfl Try.underlying39 rfl (litSize HC.out) ?_
  go_wp2_with fail
  refine (toItem_any _ s F _ (HH.out.1.below BEL.out) HF.out).mono ?_
  rintro e w2 ⟨z1, X1, rfl, rz, oz, bz⟩
  have BEL : Hid (Below w.heap.size w w2) := Below.next BEL.out bz
  have BX : Hid (Blk w2 w.heap.size cs0 39) := BX.out.below bz
  have LB2 : Hid (w1.heap.size ≤ w2.heap.size) := bz.size
  have T1 : Hid (RdIt w2 z1 s X1 ∧ Own w1.heap.size w2 X1 ∧ Below w1.heap.size w1 w2) := ⟨rz, oz, bz⟩
  clear rz oz bz
  go_wp2_with fail
  refine (entryOfSpec_any ag _ s X1 _ T1.out.1 HF.out.wide).mono ?_
  rintro e w3 ⟨zv, Y1, Y2, rfl, ry, oy1, oy2, ydis, bz⟩
  obtain ⟨cw, rfl, szw, onw⟩ := (show RdE w3 zv (s.entry ag) (Y1 ++ Y2) from ⟨Y1, Y2, rfl, ry⟩).cells
  have BEL : Hid (Below w.heap.size w w3) := Below.next BEL.out bz
  have BX : Hid (Blk w3 w.heap.size cs0 39) := BX.out.below bz
  have TT : Hid (RdE w3 (.agg cw) (s.entry ag) (Y1 ++ Y2) ∧ Own w2.heap.size w3 (Y1 ++ Y2) ∧ Below w2.heap.size w2 w3 ∧ cw.size = 10 ∧ cw.all (·.oneCell') = true) := ⟨⟨Y1, Y2, rfl, ry⟩, oy1.app oy2 ydis, bz, szw, onw⟩
  clear ry oy1 oy2 ydis bz szw onw
  obtain ⟨Yw, hY⟩ : ∃ Y, Y = Y1 ++ Y2 := ⟨_, rfl⟩
  rw [← hY] at TT
  clear hY Y1 Y2
  go_wp2_with (first | go_skip | (with_reducible refine stopLoad 39 rfl ?_) | (with_reducible refine stopLoad 44 rfl ?_) | (with_reducible refine stopLoad 34 rfl ?_) | (with_reducible refine stopStore 44 rfl ?_) | (with_reducible refine stopStore 34 rfl ?_))
  refine store_fresh 34 w3.heap.size rfl #[.int .i64 0, .int .i64 0, .slice none 0 0, .int .i64 0, .int .i64 0, .int .i64 0, .int .i64 0, .slice none 0 0, .slice none 0 0, .slice none 0 0] cw 34 rfl rfl rfl rfl (enSize TT.out.2.2.2.1) TT.out.2.2.2.1.symm TT.out.2.2.2.2 ?_
  intro w4 hg hb
  have BEL : Hid (Below w.heap.size w w4) := Below.next BEL.out hb
  have BX : Hid (Blk w4 w.heap.size cs0 39) := BX.out.below hb
  have Vw : Hid (VarE w4 w2.heap.size w4.heap.size w3.heap.size cw (s.entry ag) Yw) := VarE.fresh TT.out.1 TT.out.2.1 TT.out.2.2.1 TT.out.2.2.2.1 hg hb
  have Ow : Hid (w2.heap.size ≤ w4.heap.size) := by have := TT.out.2.2.1.size; have := hb.size; show _ ≤ _; omega
  clear hg hb TT
  clear T1
  go_wp2_with (first | go_skip | (with_reducible refine stopLoad 39 rfl ?_) | (with_reducible refine stopLoad 44 rfl ?_) | (with_reducible refine stopLoad 34 rfl ?_) | (with_reducible refine stopStore 44 rfl ?_) | (with_reducible refine stopStore 34 rfl ?_))
  refine load_any 39 w.heap.size cs0 39 _ BX.out rfl rfl rfl Try.underlying39 rfl (litSize HC.out) ?_
  go_wp2_with fail
  refine (toItem_any _ s F _ (HH.out.1.below BEL.out) HF.out).mono ?_
  rintro e w5 ⟨z2, X2, rfl, rz, oz, bz⟩
  have BEL : Hid (Below w.heap.size w w5) := Below.next BEL.out bz
  have BX : Hid (Blk w5 w.heap.size cs0 39) := BX.out.below bz
  have Vw : Hid (VarE w5 w2.heap.size w4.heap.size w3.heap.size cw (s.entry ag) Yw) := Vw.out.below bz
  have T2 : Hid (RdIt w5 z2 s X2 ∧ Own w4.heap.size w5 X2 ∧ Below w4.heap.size w4 w5) := ⟨rz, oz, bz⟩
  clear rz oz bz
  obtain ⟨cx, rfl, szx, onx⟩ := T2.out.1.cells
  have SZ : Hid (cx.size = 11 ∧ cx.all (·.oneCell') = true) := ⟨szx, onx⟩
  clear szx onx
  go_wp2_with (first | go_skip | (with_reducible refine stopLoad 39 rfl ?_) | (with_reducible refine stopLoad 44 rfl ?_) | (with_reducible refine stopLoad 34 rfl ?_) | (with_reducible refine stopStore 44 rfl ?_) | (with_reducible refine stopStore 34 rfl ?_))
  refine store_fresh 44 w5.heap.size rfl #[.int .i64 0, .int .i64 0, .int .i64 0, .int .i64 0, .int .i64 0, .int .i64 0, .int .i64 0, .int .i64 0, .slice none 0 0, .slice none 0 0, .slice none 0 0] cx 44 rfl rfl rfl rfl (itSize SZ.out.1) SZ.out.1.symm SZ.out.2 ?_
  intro w6 hg hb
  have BEL : Hid (Below w.heap.size w w6) := Below.next BEL.out hb
  have BX : Hid (Blk w6 w.heap.size cs0 39) := BX.out.below hb
  have Vw : Hid (VarE w6 w2.heap.size w4.heap.size w3.heap.size cw (s.entry ag) Yw) := Vw.out.below hb
  have Vx : Hid (VarI w6 w4.heap.size w6.heap.size w5.heap.size cx s X2) := VarI.fresh T2.out.1 T2.out.2.1 T2.out.2.2 SZ.out.1 hg hb
  have Ox : Hid (w4.heap.size ≤ w6.heap.size) := by have := T2.out.2.2.size; have := hb.size; show _ ≤ _; omega
  clear hg hb T2
  go_wp2_with (first | go_skip | (with_reducible refine stopLoad 39 rfl ?_) | (with_reducible refine stopLoad 44 rfl ?_) | (with_reducible refine stopLoad 34 rfl ?_) | (with_reducible refine stopStore 44 rfl ?_) | (with_reducible refine stopStore 34 rfl ?_))
  refine load_any 44 w5.heap.size cx 44 _ Vx.out.blk rfl rfl rfl Try.underlying44 rfl (itSize Vx.out.sz) ?_
  go_wp2_with fail
  refine (entryOfImpl_any ag _ s X2 _ Vx.out.rd HF.out.wide).mono ?_
  rintro e w7 ⟨zv, Y1, Y2, rfl, ry, oy1, oy2, ydis, bz⟩
  obtain ⟨cg, rfl, szg, ong⟩ := (show RdE w7 zv (s.entry ag) (Y1 ++ Y2) from ⟨Y1, Y2, rfl, ry⟩).cells
  have BEL : Hid (Below w.heap.size w w7) := Below.next BEL.out bz
  have BX : Hid (Blk w7 w.heap.size cs0 39) := BX.out.below bz
  have Vw : Hid (VarE w7 w2.heap.size w4.heap.size w3.heap.size cw (s.entry ag) Yw) := Vw.out.below bz
  have Vx : Hid (VarI w7 w4.heap.size w6.heap.size w5.heap.size cx s X2) := Vx.out.below bz
  have TT : Hid (RdE w7 (.agg cg) (s.entry ag) (Y1 ++ Y2) ∧ Own w6.heap.size w7 (Y1 ++ Y2) ∧ Below w6.heap.size w6 w7 ∧ cg.size = 10 ∧ cg.all (·.oneCell') = true) := ⟨⟨Y1, Y2, rfl, ry⟩, oy1.app oy2 ydis, bz, szg, ong⟩
  clear ry oy1 oy2 ydis bz szg ong
  obtain ⟨Yg, hY⟩ : ∃ Y, Y = Y1 ++ Y2 := ⟨_, rfl⟩
  rw [← hY] at TT
  clear hY Y1 Y2
  go_wp2_with (first | go_skip | (with_reducible refine stopLoad 39 rfl ?_) | (with_reducible refine stopLoad 44 rfl ?_) | (with_reducible refine stopLoad 34 rfl ?_) | (with_reducible refine stopStore 44 rfl ?_) | (with_reducible refine stopStore 34 rfl ?_))
  refine store_fresh 34 w7.heap.size rfl #[.int .i64 0, .int .i64 0, .slice none 0 0, .int .i64 0, .int .i64 0, .int .i64 0, .int .i64 0, .slice none 0 0, .slice none 0 0, .slice none 0 0] cg 34 rfl rfl rfl rfl (enSize TT.out.2.2.2.1) TT.out.2.2.2.1.symm TT.out.2.2.2.2 ?_
  intro w8 hg hb
  have BEL : Hid (Below w.heap.size w w8) := Below.next BEL.out hb
  have BX : Hid (Blk w8 w.heap.size cs0 39) := BX.out.below hb
  have Vw : Hid (VarE w8 w2.heap.size w4.heap.size w3.heap.size cw (s.entry ag) Yw) := Vw.out.below hb
  have Vx : Hid (VarI w8 w4.heap.size w6.heap.size w5.heap.size cx s X2) := Vx.out.below hb
  have Vg : Hid (VarE w8 w6.heap.size w8.heap.size w7.heap.size cg (s.entry ag) Yg) := VarE.fresh TT.out.1 TT.out.2.1 TT.out.2.2.1 TT.out.2.2.2.1 hg hb
  have Og : Hid (w6.heap.size ≤ w8.heap.size) := by have := TT.out.2.2.1.size; have := hb.size; show _ ≤ _; omega
  clear hg hb TT
  obtain ⟨dd, hdd⟩ : ∃ d, d = s.entryOk ag := ⟨_, rfl⟩
  rw [← hdd]
  have HDD : Hid (dd = s.entryOk ag) := hdd
  clear hdd
  have hne : (dd != dd) = false := by simp
  go_wp2_with (first | go_skip | (with_reducible refine stopLoad 39 rfl ?_) | (with_reducible refine stopLoad 44 rfl ?_) | (with_reducible refine stopLoad 34 rfl ?_) | (with_reducible refine stopStore 44 rfl ?_) | (with_reducible refine stopStore 34 rfl ?_))
  refine load_any 34 w7.heap.size cg 34 _ Vg.out.blk rfl rfl rfl Try.underlying34 rfl (enSize Vg.out.sz) ?_
  go_wp2_with (first | go_skip | (with_reducible refine stopLoad 39 rfl ?_) | (with_reducible refine stopLoad 44 rfl ?_) | (with_reducible refine stopLoad 34 rfl ?_) | (with_reducible refine stopStore 44 rfl ?_) | (with_reducible refine stopStore 34 rfl ?_))
  refine load_any 34 w3.heap.size cw 34 _ Vw.out.blk rfl rfl rfl Try.underlying34 rfl (enSize Vw.out.sz) ?_
  go_wp2_with fail
  refine (eqE_any _ _ (s.entry ag) (s.entry ag) Yg Yw _ Vg.out.rd Vw.out.rd HM.out HM.out).mono ?_
  rintro e w9 ⟨rfl, hb⟩
  have BEL : Hid (Below w.heap.size w w9) := Below.next BEL.out hb
  have BX : Hid (Blk w9 w.heap.size cs0 39) := BX.out.below hb
  have Vw : Hid (VarE w9 w2.heap.size w4.heap.size w3.heap.size cw (s.entry ag) Yw) := Vw.out.below hb
  have Vg : Hid (VarE w9 w6.heap.size w8.heap.size w7.heap.size cg (s.entry ag) Yg) := Vg.out.below hb
  have Vx : Hid (VarI w9 w4.heap.size w6.heap.size w5.heap.size cx s X2) := Vx.out.below hb
  clear hb
  have hdec : decide (s.entry ag = s.entry ag) = true := by simp
  rw [hdec]
  clear hdec
  go_wp2
  have HS : Hid (ItTwo w.heap.size cs0 w5.heap.size cx w9.drew) := ⟨BX.out.drew, Vx.out.blk.drew⟩
  have keepS : ∀ {W W' : World}, ItTwo w.heap.size cs0 w5.heap.size cx W → Below W.heap.size W W' → ItTwo w.heap.size cs0 w5.heap.size cx W' := fun h b => ⟨h.1.below b, h.2.below b⟩
  refine wp_region_held (S := ItTwo w.heap.size cs0 w5.heap.size cx) (by kernel_rfl) ?_
  change wpAnyH _ _ _ _ _ _ _ _ (World.drew _)
  refine takeH (o := ?o1) 0 (.agg cx) ?h1 ?r1
  case h1 => simp only [List.getElem?_toArray, List.getElem?_cons_zero]; rfl
  refine ⟨_, by simp [Act.put]; rfl, by kernel_rfl, by kernel_rfl, by kernel_rfl, fun _ _ _ h => h, (yields_whole 44 w5.heap.size cx 44 _ rfl rfl rfl Try.underlying44 rfl (itSize Vx.out.sz) (fun W hW => hW.2)), HS.out, ?_⟩
  refine takeH (o := ?o2) 1 (.agg cs0) ?h2 ?r2
  case h2 => simp only [List.getElem?_toArray, List.getElem?_cons_succ, List.getElem?_cons_zero]; rfl
  refine ⟨_, by simp [Act.put]; rfl, by kernel_rfl, by kernel_rfl, by kernel_rfl, fun _ _ _ h => h, (yields_whole 39 w.heap.size cs0 39 _ rfl rfl rfl Try.underlying39 rfl (litSize HC.out) (fun W hW => hW.1)), HS.out, ?_⟩
  refine onlyH (o := ?o3) 2 (by kernel_rfl) ?h3 ?r3
  case h3 => simp only [List.getElem?_toArray, List.getElem?_cons_succ, List.getElem?_cons_zero]; rfl
  intro K hK
  refine op_call1 16 _ _ Try.f16 (fun v w' => ∃ X, RdIt w' v s X ∧ Below w9.drew.heap.size w9.drew w') rfl rfl Try.func16 (by kernel_rfl) (by kernel_rfl) ((toItem_any _ s F w9.drew (HH.out.1.below BEL.out.drew) HF.out).mono (by rintro e w' ⟨v, X, rfl, h1, _, h3⟩; exact ⟨_, rfl, X, h1, h3⟩)) ?_
  rintro zq w10 ⟨Xq, rz, bz⟩
  refine ⟨_, by simp [Act.put]; rfl, hK _ _ ⟨keepS HS.out bz, ?_⟩⟩
  have TQ : Hid (RdIt w10 (.agg cx) s X2 ∧ RdIt w10 zq s Xq ∧ ItTwo w.heap.size cs0 w5.heap.size cx w10 ∧ Below w9.heap.size w9 w10) := ⟨(Vx.out.rd.below (Below.refl _ _).drew).below bz, rz, keepS HS.out bz, Below.next (Below.refl _ _).drew bz⟩
  clear hK rz bz
  refine onlyH (o := ?o4) 3 (by kernel_rfl) ?h4 ?r4
  case h4 => simp only [List.getElem?_toArray, List.getElem?_cons_succ, List.getElem?_cons_zero]; rfl
  intro K hK
  refine op_call2 18 _ _ _ Try.f18 (fun w' => Below w10.heap.size w10 w') (.bool (decide (s = s))) rfl rfl Try.func18 (by kernel_rfl) (by kernel_rfl) (eqItem_any (.agg cx) zq s s X2 Xq w10 TQ.out.1 TQ.out.2.1 HF.out.wide HF.out.wide) ⟨_, by simp [Act.put]; rfl, ?_⟩
  intro w11 bz
  refine hK _ _ ⟨keepS TQ.out.2.2.1 bz, ?_⟩
  have HSZ9 : Hid (ItTwo w.heap.size cs0 w5.heap.size cx w11) := keepS TQ.out.2.2.1 bz
  have hbq : Below w9.heap.size w9 w11 := Below.next TQ.out.2.2.2 bz
  have BEL : Hid (Below w.heap.size w w11) := Below.next BEL.out hbq
  have BX : Hid (Blk w11 w.heap.size cs0 39) := BX.out.below hbq
  have Vw : Hid (VarE w11 w2.heap.size w4.heap.size w3.heap.size cw (s.entry ag) Yw) := Vw.out.below hbq
  have Vg : Hid (VarE w11 w6.heap.size w8.heap.size w7.heap.size cg (s.entry ag) Yg) := Vg.out.below hbq
  have Vx : Hid (VarI w11 w4.heap.size w6.heap.size w5.heap.size cx s X2) := Vx.out.below hbq
  clear hK bz hbq
  refine takeH (o := ?o5) 4 (.bool false) ?h5 ?r5
  case h5 => simp only [List.getElem?_toArray, List.getElem?_cons_succ, List.getElem?_cons_zero]; rfl
  refine ⟨_, by simp [Act.put]; rfl, by kernel_rfl, by kernel_rfl, by kernel_rfl, fun _ _ _ h => h, (.inl ⟨rfl, fun W _ => by go_simp⟩), HSZ9.out, ?_⟩
  refine wpAnyH_done (by kernel_rfl) ?_ _
  clear TQ HSZ9 HS keepS
  have OR : Hid (w.heap.size < w2.heap.size ∧ w2.heap.size ≤ w4.heap.size ∧ w4.heap.size ≤ w6.heap.size ∧ w6.heap.size ≤ w8.heap.size) := ⟨by have := LB0.out; have := LB2.out; omega, Ow.out, Ox.out, Og.out⟩
  go_wp2_with (first | go_skip | (with_reducible refine stopLoad 39 rfl ?_) | (with_reducible refine stopLoad 44 rfl ?_) | (with_reducible refine stopLoad 34 rfl ?_) | (with_reducible refine stopStore 44 rfl ?_) | (with_reducible refine stopStore 34 rfl ?_))
  refine load_any 44 w5.heap.size cx 44 _ Vx.out.blk rfl rfl rfl Try.underlying44 rfl (itSize Vx.out.sz) ?_
  go_wp2_with fail
  refine (markIt_any w4.heap.size _ s X2 1 _ Vx.out.rd Vx.out.own HF.out.wide (by omega) (by have := HMI.out; omega)).mono ?_
  rintro e w12 ⟨rfl, _, _, mo⟩
  have BEL : Hid (Below w.heap.size w w12) := mo.below BEL.out BEL.out.size (fun b hb => by have := Vx.out.own.ge b hb; have := OR.out; omega)
  have BX : Hid (Blk w12 w.heap.size cs0 39) := BX.out.agree (mo.block _ BX.out.lt (fun hb => by have := Vx.out.own.ge _ hb; have := OR.out; omega))
  have Vw : Hid (VarE w12 w2.heap.size w4.heap.size w3.heap.size cw (s.entry ag) Yw) := Vw.out.only' mo Vx.out.lt Vx.out.own.ge (.inl (by have := OR.out; omega))
  have Vg : Hid (VarE w12 w6.heap.size w8.heap.size w7.heap.size cg (s.entry ag) Yg) := Vg.out.only' mo Vx.out.lt Vx.out.own.ge (.inr (by have := OR.out; omega))
  obtain ⟨ki, hki⟩ : ∃ k, k = 1 + s.sk.many := ⟨_, rfl⟩
  rw [← hki]
  have hki0 : 0 ≤ ki := by have := HMI.out; omega
  have hkid : decide (ki < 0) = false := dec_false (by omega)
  clear hki mo Vx
  go_wp2_with (first | go_skip | (with_reducible refine stopLoad 39 rfl ?_) | (with_reducible refine stopLoad 44 rfl ?_) | (with_reducible refine stopLoad 34 rfl ?_) | (with_reducible refine stopStore 44 rfl ?_) | (with_reducible refine stopStore 34 rfl ?_))
  refine load_any 34 w7.heap.size cg 34 _ Vg.out.blk rfl rfl rfl Try.underlying34 rfl (enSize Vg.out.sz) ?_
  go_wp2_with (first | go_skip | (with_reducible refine stopLoad 39 rfl ?_) | (with_reducible refine stopLoad 44 rfl ?_) | (with_reducible refine stopLoad 34 rfl ?_) | (with_reducible refine stopStore 44 rfl ?_) | (with_reducible refine stopStore 34 rfl ?_))
  refine load_any 34 w3.heap.size cw 34 _ Vw.out.blk rfl rfl rfl Try.underlying34 rfl (enSize Vw.out.sz) ?_
  go_wp2_with fail
  refine (eqE_any _ _ (s.entry ag) (s.entry ag) Yg Yw _ Vg.out.rd Vw.out.rd HM.out HM.out).mono ?_
  rintro e w13 ⟨rfl, hb⟩
  have BEL : Hid (Below w.heap.size w w13) := Below.next BEL.out hb
  have BX : Hid (Blk w13 w.heap.size cs0 39) := BX.out.below hb
  have Vw : Hid (VarE w13 w2.heap.size w4.heap.size w3.heap.size cw (s.entry ag) Yw) := Vw.out.below hb
  have Vg : Hid (VarE w13 w6.heap.size w8.heap.size w7.heap.size cg (s.entry ag) Yg) := Vg.out.below hb
  clear hb
  have hdec : decide (s.entry ag = s.entry ag) = true := by simp
  rw [hdec]
  clear hdec
  go_wp2_with (first | go_skip | (with_reducible refine stopLoad 39 rfl ?_) | (with_reducible refine stopLoad 44 rfl ?_) | (with_reducible refine stopLoad 34 rfl ?_) | (with_reducible refine stopStore 44 rfl ?_) | (with_reducible refine stopStore 34 rfl ?_))
  refine load_any 34 w7.heap.size cg 34 _ Vg.out.blk rfl rfl rfl Try.underlying34 rfl (enSize Vg.out.sz) ?_
  go_wp2_with fail
  refine (markE_any w6.heap.size _ (s.entry ag) Yg 1 _ Vg.out.rd Vg.out.own HM.out (by omega) (by have := HMG.out; omega)).mono ?_
  rintro e w14 ⟨rfl, mk⟩
  have BEL : Hid (Below w.heap.size w w14) := Vg.out.bel mk.only BEL.out (by have := OR.out; omega)
  have BX : Hid (Blk w14 w.heap.size cs0 39) := Vg.out.keep mk.only BX.out (by have := OR.out; omega)
  have Nw : Hid (VarE w14 w2.heap.size w4.heap.size w3.heap.size cw (s.entry ag) Yw) := Vw.out.only Vg.out mk.only (.inl (by have := OR.out; omega))
  have Ng : Hid (VarE w14 w6.heap.size w8.heap.size w7.heap.size cg ((s.entry ag).marked 1) Yg) := Vg.out.mark mk
  have Vw : Hid (VarE w14 w2.heap.size w4.heap.size w3.heap.size cw (s.entry ag) Yw) := Nw.out
  have Vg : Hid (VarE w14 w6.heap.size w8.heap.size w7.heap.size cg ((s.entry ag).marked 1) Yg) := Ng.out
  clear mk Nw Ng
  obtain ⟨km, hkm⟩ : ∃ k, k = 1 + (s.entry ag).many := ⟨_, rfl⟩
  rw [← hkm]
  have HKM : Hid (km = 1 + (s.entry ag).many) := hkm
  have hkm0 : 0 ≤ km := by have := HMG.out; omega
  have hkme : (km != km) = false := by simp
  clear hkm
  go_wp2_with (first | go_skip | (with_reducible refine stopLoad 39 rfl ?_) | (with_reducible refine stopLoad 44 rfl ?_) | (with_reducible refine stopLoad 34 rfl ?_) | (with_reducible refine stopStore 44 rfl ?_) | (with_reducible refine stopStore 34 rfl ?_))
  refine load_any 34 w7.heap.size cg 34 _ Vg.out.blk rfl rfl rfl Try.underlying34 rfl (enSize Vg.out.sz) ?_
  go_wp2_with fail
  refine (heldE_any _ (s.entry ag) Yg 1 _ Vg.out.rd HM.out (by omega) (by have := HMG.out; omega)).mono ?_
  rintro e w15 ⟨rfl, hb⟩
  have BEL : Hid (Below w.heap.size w w15) := Below.next BEL.out hb
  have BX : Hid (Blk w15 w.heap.size cs0 39) := BX.out.below hb
  have Vw : Hid (VarE w15 w2.heap.size w4.heap.size w3.heap.size cw (s.entry ag) Yw) := Vw.out.below hb
  have Vg : Hid (VarE w15 w6.heap.size w8.heap.size w7.heap.size cg ((s.entry ag).marked 1) Yg) := Vg.out.below hb
  clear hb
  rw [← HKM.out]
  go_wp2_with (first | go_skip | (with_reducible refine stopLoad 39 rfl ?_) | (with_reducible refine stopLoad 44 rfl ?_) | (with_reducible refine stopLoad 34 rfl ?_) | (with_reducible refine stopStore 44 rfl ?_) | (with_reducible refine stopStore 34 rfl ?_))
  refine load_any 39 w.heap.size cs0 39 _ BX.out rfl rfl rfl Try.underlying39 rfl (litSize HC.out) ?_
  go_wp2_with fail
  refine (toItem_any _ s F _ (HH.out.1.below BEL.out) HF.out).mono ?_
  rintro e w16 ⟨z3, X3, rfl, rz, oz, bz⟩
  have BEL : Hid (Below w.heap.size w w16) := Below.next BEL.out bz
  have BX : Hid (Blk w16 w.heap.size cs0 39) := BX.out.below bz
  have Vw : Hid (VarE w16 w2.heap.size w4.heap.size w3.heap.size cw (s.entry ag) Yw) := Vw.out.below bz
  have Vg : Hid (VarE w16 w6.heap.size w8.heap.size w7.heap.size cg ((s.entry ag).marked 1) Yg) := Vg.out.below bz
  have T3 : Hid (RdIt w16 z3 s X3 ∧ Own w15.heap.size w16 X3 ∧ Below w15.heap.size w15 w16) := ⟨rz, oz, bz⟩
  clear rz oz bz
  go_wp2_with fail
  refine (entryOfImpl_any ag _ s X3 _ T3.out.1 HF.out.wide).mono ?_
  rintro e w17 ⟨zv, Y1, Y2, rfl, ry, oy1, oy2, ydis, bz⟩
  obtain ⟨ch, rfl, szh, onh⟩ := (show RdE w17 zv (s.entry ag) (Y1 ++ Y2) from ⟨Y1, Y2, rfl, ry⟩).cells
  have BEL : Hid (Below w.heap.size w w17) := Below.next BEL.out bz
  have BX : Hid (Blk w17 w.heap.size cs0 39) := BX.out.below bz
  have Vw : Hid (VarE w17 w2.heap.size w4.heap.size w3.heap.size cw (s.entry ag) Yw) := Vw.out.below bz
  have Vg : Hid (VarE w17 w6.heap.size w8.heap.size w7.heap.size cg ((s.entry ag).marked 1) Yg) := Vg.out.below bz
  have TT : Hid (RdE w17 (.agg ch) (s.entry ag) (Y1 ++ Y2) ∧ Own w16.heap.size w17 (Y1 ++ Y2) ∧ Below w16.heap.size w16 w17 ∧ ch.size = 10 ∧ ch.all (·.oneCell') = true) := ⟨⟨Y1, Y2, rfl, ry⟩, oy1.app oy2 ydis, bz, szh, onh⟩
  clear ry oy1 oy2 ydis bz szh onh
  obtain ⟨Yh, hY⟩ : ∃ Y, Y = Y1 ++ Y2 := ⟨_, rfl⟩
  rw [← hY] at TT
  clear hY Y1 Y2
  go_wp2_with (first | go_skip | (with_reducible refine stopLoad 39 rfl ?_) | (with_reducible refine stopLoad 44 rfl ?_) | (with_reducible refine stopLoad 34 rfl ?_) | (with_reducible refine stopStore 44 rfl ?_) | (with_reducible refine stopStore 34 rfl ?_))
  refine store_fresh 34 w17.heap.size rfl #[.int .i64 0, .int .i64 0, .slice none 0 0, .int .i64 0, .int .i64 0, .int .i64 0, .int .i64 0, .slice none 0 0, .slice none 0 0, .slice none 0 0] ch 34 rfl rfl rfl rfl (enSize TT.out.2.2.2.1) TT.out.2.2.2.1.symm TT.out.2.2.2.2 ?_
  intro w18 hg hb
  have BEL : Hid (Below w.heap.size w w18) := Below.next BEL.out hb
  have BX : Hid (Blk w18 w.heap.size cs0 39) := BX.out.below hb
  have Vw : Hid (VarE w18 w2.heap.size w4.heap.size w3.heap.size cw (s.entry ag) Yw) := Vw.out.below hb
  have Vg : Hid (VarE w18 w6.heap.size w8.heap.size w7.heap.size cg ((s.entry ag).marked 1) Yg) := Vg.out.below hb
  have Vh : Hid (VarE w18 w16.heap.size w18.heap.size w17.heap.size ch (s.entry ag) Yh) := VarE.fresh TT.out.1 TT.out.2.1 TT.out.2.2.1 TT.out.2.2.2.1 hg hb
  have Oh : Hid (w16.heap.size ≤ w18.heap.size) := by have := TT.out.2.2.1.size; have := hb.size; show _ ≤ _; omega
  clear hg hb TT
  clear T3
  rw [← HDD.out]
  go_wp2_with (first | go_skip | (with_reducible refine stopLoad 39 rfl ?_) | (with_reducible refine stopLoad 44 rfl ?_) | (with_reducible refine stopLoad 34 rfl ?_) | (with_reducible refine stopStore 44 rfl ?_) | (with_reducible refine stopStore 34 rfl ?_))
  refine load_any 34 w17.heap.size ch 34 _ Vh.out.blk rfl rfl rfl Try.underlying34 rfl (enSize Vh.out.sz) ?_
  go_wp2_with (first | go_skip | (with_reducible refine stopLoad 39 rfl ?_) | (with_reducible refine stopLoad 44 rfl ?_) | (with_reducible refine stopLoad 34 rfl ?_) | (with_reducible refine stopStore 44 rfl ?_) | (with_reducible refine stopStore 34 rfl ?_))
  refine load_any 34 w3.heap.size cw 34 _ Vw.out.blk rfl rfl rfl Try.underlying34 rfl (enSize Vw.out.sz) ?_
  go_wp2_with fail
  refine (eqE_any _ _ (s.entry ag) (s.entry ag) Yh Yw _ Vh.out.rd Vw.out.rd HM.out HM.out).mono ?_
  rintro e w19 ⟨rfl, hb⟩
  have BEL : Hid (Below w.heap.size w w19) := Below.next BEL.out hb
  have BX : Hid (Blk w19 w.heap.size cs0 39) := BX.out.below hb
  have Vw : Hid (VarE w19 w2.heap.size w4.heap.size w3.heap.size cw (s.entry ag) Yw) := Vw.out.below hb
  have Vg : Hid (VarE w19 w6.heap.size w8.heap.size w7.heap.size cg ((s.entry ag).marked 1) Yg) := Vg.out.below hb
  have Vh : Hid (VarE w19 w16.heap.size w18.heap.size w17.heap.size ch (s.entry ag) Yh) := Vh.out.below hb
  clear hb
  have hdec : decide (s.entry ag = s.entry ag) = true := by simp
  rw [hdec]
  clear hdec
  go_wp2_with (first | go_skip | (with_reducible refine stopLoad 39 rfl ?_) | (with_reducible refine stopLoad 44 rfl ?_) | (with_reducible refine stopLoad 34 rfl ?_) | (with_reducible refine stopStore 44 rfl ?_) | (with_reducible refine stopStore 34 rfl ?_))
  refine load_any 34 w7.heap.size cg 34 _ Vg.out.blk rfl rfl rfl Try.underlying34 rfl (enSize Vg.out.sz) ?_
  go_wp2_with fail
  refine (heldE_any _ (s.entry ag) Yg 1 _ Vg.out.rd HM.out (by omega) (by have := HMG.out; omega)).mono ?_
  rintro e w20 ⟨rfl, hb⟩
  have BEL : Hid (Below w.heap.size w w20) := Below.next BEL.out hb
  have BX : Hid (Blk w20 w.heap.size cs0 39) := BX.out.below hb
  have Vw : Hid (VarE w20 w2.heap.size w4.heap.size w3.heap.size cw (s.entry ag) Yw) := Vw.out.below hb
  have Vg : Hid (VarE w20 w6.heap.size w8.heap.size w7.heap.size cg ((s.entry ag).marked 1) Yg) := Vg.out.below hb
  have Vh : Hid (VarE w20 w16.heap.size w18.heap.size w17.heap.size ch (s.entry ag) Yh) := Vh.out.below hb
  clear hb
  rw [← HKM.out]
  go_wp2
  go_ret
  exact ⟨rfl, BEL.out⟩
set_option maxRecDepth 100000 in
theorem lifted (os : Os) (started : os.Started) (H : Type) (enc : TypeId × Value → H) :
    ReturnsInHanded {} Try.checked os 4 .any (Rows.fnExactEntryOfSpec.pre6 enc Try.prog Try.f4 Rows.fnExactEntryOfRow.domain false) (Rows.fnExactEntryOfSpec.post enc Try.prog Try.f4 false true false false) := by
  refine returnsInHanded_of_change (C := Try.checked) own started (by kernel_rfl) Try.func4
    (ChangeSpec.witness6 (enc := enc) (C := Try.checked) false ⟨#[], #[.int .i64 0, .agg #[.int .i64 0, .int .i64 0, .int .i64 0, .int .i64 0, .int .i64 0, .int .i64 0, .int .i64 0, .int .i64 0, .slice none 0 0, .slice none 0 0, .slice none 0 0]], []⟩ 8 (by kernel_rfl) (by kernel_rfl) (by kernel_rfl) (by kernel_rfl)) ?_
  intro W base args ds gs before hval0 hW hcnd _
  have hval : ∀ (j : Nat) t v, Try.f4.params[j]? = some t → args[j]? = some v → Value.okWide Try.prog W .any base t v := hval0
  have hW' := hW
  obtain ⟨p, q, hA0, hV, rfl, hfz, hnd⟩ := hW
  have hA : DataW.TrodAll enc Try.prog W 0 (fun _ => true) true Try.f4.params.toList args.toList ds p := hA0
  rw [Try.params4] at hA hval
  obtain ⟨v0, vs0, d0, ds0, p0, q0, hargs, rfl, rfl, h0, r0⟩ := trodAll_cons hA
  obtain ⟨v1, vs1, d1, ds1, p1, q1, hargs1, rfl, rfl, h1, r1⟩ := trodAll_cons r0
  obtain ⟨rfl, rfl, rfl⟩ := trodAll_nil r1
  obtain rfl : args = #[v0, v1] := by cases args; simp_all
  obtain ⟨rfl, rfl⟩ := trodVars_none hV
  have k1 := h1
  have lt1 : ∀ x ∈ p1, x.block < W.heap.size := by obtain ⟨m, hm⟩ := k1; exact DataW.trod_lt m _ _ _ hm
  obtain ⟨a1, rfl, rfl, rfl, w1⟩ := open_int Try.underlying3 (hval 0 3 v0 rfl rfl) h0
  obtain ⟨s, F, hR, hv⟩ := open_item (hval 1 39 v1 rfl rfl) h1
  clear hA0 hval0
  refine (walk a1 v1 s F W hR hv).mono fun e W' ⟨he, bel⟩ => ?_
  subst he
  exact ⟨_, rfl, _, _, _, [], _, [], hW', trodAll_mk1 (shut_bool Try.underlying4 _), (trodAll_cons_mk (shut_int Try.underlying3 w1) (trodAll_cons_mk (Below.trod laidOut (by kernel_rfl) (of_decide_eq_true (by kernel_rfl)) k1 bel lt1) trodAll_mk0)), rfl, bel.frame _, fun h => by cases h⟩
theorem over : Rows.fnExactEntryOfRow.holds Try.pinned (OpenSpec.ofChange Rows.fnExactEntryOfSpec) :=
  OpenClaim.holds_of_wide 4 Try.f4 rfl rfl rfl rfl rfl rfl rfl ⟨rfl, rfl, rfl, rfl, rfl⟩ rfl rfl rfl rfl rfl (by kernel_rfl) Try.func4 (by kernel_rfl)
    (of_decide_eq_true (by kernel_rfl)) (by unfold Func.isWrapper; first | (rw [if_pos (by decide +kernel)]; kernel_rfl) | (rw [if_neg (by decide +kernel)]; exact ⟨rfl, rfl⟩))
    (fun os started H enc _ => lifted os started H enc)
theorem proved : Rows.FnExactEntryOfSaid := over
#print axioms proved
end Go.Proofs.Ytbmbmnhamogghap.fnExactEntryOf
