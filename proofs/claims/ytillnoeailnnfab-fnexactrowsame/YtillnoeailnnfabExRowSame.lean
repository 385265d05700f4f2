/- For every two rows (no condition): laws.FnExactRowSame returns true, and its arguments read afterwards as they did: the program's RowSame answers as the model's and writes nothing into its arguments. -/
import Derived.Test.YtillnoeailnnfabRwSameS
import Derived.Test.YtillnoeailnnfabB2
import Derived.Test.YtillnoeailnnfabRows
import Derived.WalkKit
import Derived.ProofKit
import Derived.OpenShut
import Derived.ShutString
import Derived.ChangeOld
import Derived.Below
import Derived.Deep.DeepCutAuto
namespace Go.Proofs.Ytillnoeailnnfab.fnExactRowSame
open Go.ChangeShapes Go.WideShapes Go.ChangeAt Go.RowKit
set_option linter.unusedVariables false
theorem own : ownKnob Try.prog.godebug = none := by kernel_rfl
set_option maxRecDepth 200000 in
set_option maxHeartbeats 8000000 in
theorem walk (v0 u0 : Value) (s t : Rw) (F G : List Nat) (w : World) (h : RdRw w v0 s F) (k : RdRw w u0 t G) (hv : s.vast) (kv : t.vast) :
    Calls Try.prog 3 #[v0, u0] w fun e w' => e = .returned (.bool true) ∧ Below w.heap.size w w' := by
  have HH : Hid ((RdRw w v0 s F ∧ s.vast) ∧ (RdRw w u0 t G ∧ t.vast)) := ⟨⟨h, hv⟩, ⟨k, kv⟩⟩
  obtain ⟨cs0, rfl, hc7, hone⟩ := h.cells
  obtain ⟨cs1, rfl, hd7, hone'⟩ := k.cells
  have HC : Hid (cs0.size = 1 ∧ cs1.size = 1) := ⟨hc7, hd7⟩
  have HT := two_made w cs0 cs1 24 24
  have BX0 : Hid (Blk ((w.alloc (.cells cs0 24)).alloc (.cells cs1 24)) w.heap.size cs0 24) := HT.1
  have BX1 : Hid (Blk ((w.alloc (.cells cs0 24)).alloc (.cells cs1 24)) (w.heap.size + 1) cs1 24) := HT.2.1
  have BEL : Hid (Below w.heap.size w ((w.alloc (.cells cs0 24)).alloc (.cells cs1 24))) := HT.2.2
  clear h k hv kv hc7 hone hd7 hone' HT
  go_enter Try.func3, Try.ntmps3
  go_wp2_with (first | go_skip | (with_reducible refine stopLoad 24 rfl ?_) | (with_reducible refine stopLoad 29 rfl ?_) | (with_reducible refine stopStore 29 rfl ?_))
  refine load_any 24 w.heap.size cs0 24 _ BX0.out rfl rfl rfl Try.underlying24 rfl (lrwSize HC.out.1) ?_
  go_wp2_with fail
  refine (szRw_vast _ s F 1048576 _ (HH.out.1.1.below BEL.out) HH.out.1.2 (by omega) (by omega)).mono ?_
  rintro e w1 ⟨⟨r, rfl, ra, rb, rc⟩, hb1⟩
  have BEL : Hid (Below w.heap.size w w1) := Below.next BEL.out hb1
  have BX0 : Hid (Blk w1 w.heap.size cs0 24) := BX0.out.below hb1
  have BX1 : Hid (Blk w1 (w.heap.size + 1) cs1 24) := BX1.out.below hb1
  by_cases q : r < 0
  · clear ra rb rc hb1
    go_wp2
    go_ret
    exact ⟨rfl, BEL.out⟩
  have q' : 0 ≤ r := by omega
  have q2 : r ≤ 1048576 := ra
  have HSZ1 : Hid (s.size ≤ 1048576) := by have := rb q'; show _ ≤ _; omega
  have HF1 : Hid (s.fits) := Rw.fits_of HSZ1.out
  clear ra rb rc hb1 q
  go_wp2_with (first | go_skip | (with_reducible refine stopLoad 24 rfl ?_) | (with_reducible refine stopLoad 29 rfl ?_) | (with_reducible refine stopStore 29 rfl ?_))
  refine load_any 24 (w.heap.size + 1) cs1 24 _ BX1.out rfl rfl rfl Try.underlying24 rfl (lrwSize HC.out.2) ?_
  go_wp2_with fail
  refine (szRw_vast _ t G r _ (HH.out.2.1.below BEL.out) HH.out.2.2 q' q2).mono ?_
  rintro e w2 ⟨⟨r2, rfl, ra, rb, rc⟩, hb2⟩
  have BEL : Hid (Below w.heap.size w w2) := Below.next BEL.out hb2
  have BX0 : Hid (Blk w2 w.heap.size cs0 24) := BX0.out.below hb2
  have BX1 : Hid (Blk w2 (w.heap.size + 1) cs1 24) := BX1.out.below hb2
  by_cases q : r2 < 0
  · clear ra rb rc hb2
    go_wp2
    go_ret
    exact ⟨rfl, BEL.out⟩
  have p' : 0 ≤ r2 := by omega
  have HSZ2 : Hid (t.size ≤ 1048576) := by have := rb p'; show _ ≤ _; omega
  have HF2 : Hid (t.fits) := Rw.fits_of HSZ2.out
  clear ra rb rc hb2 q
  go_wp2
  have HS : Hid (RwBoxes w.heap.size cs0 cs1 w2.drew) := ⟨BX0.out.drew, BX1.out.drew⟩
  refine wp_region_held (S := RwBoxes w.heap.size cs0 cs1) (by kernel_rfl) ?_
  change wpAnyH _ _ _ _ _ _ _ _ (World.drew _)
  refine takeH (o := ?o1) 0 (.agg cs0) ?h1 ?r1
  case h1 => simp only [aT, aZ]; rfl
  refine ⟨_, by simp [Act.put]; rfl, by kernel_rfl, by kernel_rfl, by kernel_rfl, fun _ _ _ h => h, (yields_whole 24 w.heap.size cs0 24 _ rfl rfl rfl Try.underlying24 rfl (lrwSize HC.out.1) (fun W hW => hW.1)), HS.out, ?_⟩
  refine takeH (o := ?o2) 2 (.agg cs1) ?h2 ?r2
  case h2 => simp only [aT, aS, aZ]; rfl
  refine ⟨_, by simp [Act.put]; rfl, by kernel_rfl, by kernel_rfl, by kernel_rfl, fun _ _ _ h => h, (yields_whole 24 (w.heap.size + 1) cs1 24 _ rfl rfl rfl Try.underlying24 rfl (lrwSize HC.out.2) (fun W hW => hW.2)), HS.out, ?_⟩
  have BZ : Hid (Below w.heap.size w w2.drew) := BEL.out.drew
  have HSN : Hid (RwBoxes w.heap.size cs0 cs1 w2.drew) := HS.out
  refine onlyH (o := ?o3) 1 (by kernel_rfl) ?h3 ?r3
  case h3 => simp only [aT, aS, aZ]; rfl
  intro K hK
  refine op_call1 6 _ _ Try.f6 (fun v w' => ∃ X, RdRw w' v s X ∧ Own w2.drew.heap.size w' X ∧ Below w2.drew.heap.size w2.drew w') rfl rfl Try.func6 (by kernel_rfl) (by kernel_rfl) ((toRw_any _ s F w2.drew (HH.out.1.1.below BZ.out) HF1.out).mono (by rintro e w' ⟨v, X, rfl, h1, h2, h3⟩; exact ⟨_, rfl, X, h1, h2, h3⟩)) ?_
  rintro z0 w3 ⟨X0, rz, oz, bz⟩
  refine ⟨_, by simp [Act.put]; rfl, hK _ _ ⟨HSN.out.below bz, ?_⟩⟩
  have BZ : Hid (Below w.heap.size w w3) := Below.next BZ.out bz
  have HSN : Hid (RwBoxes w.heap.size cs0 cs1 w3) := HSN.out.below bz
  have T0 : Hid (RdRw w3 z0 s X0) := rz
  clear hK rz oz bz
  refine onlyH (o := ?o4) 3 (by kernel_rfl) ?h4 ?r4
  case h4 => simp only [aT, aS, aZ]; rfl
  intro K hK
  refine op_call1 6 _ _ Try.f6 (fun v w' => ∃ X, RdRw w' v t X ∧ Own w3.heap.size w' X ∧ Below w3.heap.size w3 w') rfl rfl Try.func6 (by kernel_rfl) (by kernel_rfl) ((toRw_any _ t G w3 (HH.out.2.1.below BZ.out) HF2.out).mono (by rintro e w' ⟨v, X, rfl, h1, h2, h3⟩; exact ⟨_, rfl, X, h1, h2, h3⟩)) ?_
  rintro z1 w4 ⟨X1, rz, oz, bz⟩
  refine ⟨_, by simp [Act.put]; rfl, hK _ _ ⟨HSN.out.below bz, ?_⟩⟩
  have BZ : Hid (Below w.heap.size w w4) := Below.next BZ.out bz
  have HSN : Hid (RwBoxes w.heap.size cs0 cs1 w4) := HSN.out.below bz
  have T0 : Hid (RdRw w4 z0 s X0) := T0.out.below bz
  have T1 : Hid (RdRw w4 z1 t X1) := rz
  clear hK rz oz bz
  obtain ⟨dd, hdd⟩ : ∃ d, d = decide (s = t) := ⟨_, rfl⟩
  refine onlyH (o := ?o5) 4 (by kernel_rfl) ?h5 ?r5
  case h5 => simp only [aT, aS, aZ]; rfl
  intro K hK
  refine op_call2 5 _ _ _ Try.f5 (fun w' => Below w4.heap.size w4 w') (.bool dd) rfl rfl Try.func5 (by kernel_rfl) (by kernel_rfl) (by rw [hdd]; exact rowSameSpec_any z0 z1 s t X0 X1 w4 T0.out T1.out HF1.out.wide HF2.out.wide) ⟨_, by simp [Act.put]; rfl, ?_⟩
  intro w5 bz
  refine hK _ _ ⟨HSN.out.below bz, ?_⟩
  have BEL : Hid (Below w.heap.size w w5) := Below.next BZ.out bz
  have HSN : Hid (RwBoxes w.heap.size cs0 cs1 w5) := HSN.out.below bz
  have BX0 : Hid (Blk w5 w.heap.size cs0 24) := HSN.out.1
  have BX1 : Hid (Blk w5 (w.heap.size + 1) cs1 24) := HSN.out.2
  have HDD : Hid (dd = decide (s = t)) := hdd
  clear hK bz T0 T1 BZ HS hdd
  refine onlyH (o := ?o6) 5 (by kernel_rfl) ?h6 ?r6
  case h6 => simp only [aT, aS, aZ]; rfl
  intro K hK
  refine op_value (.bool dd) rfl (by go_simp) ⟨_, by simp [Act.put]; rfl, hK _ _ ⟨HSN.out, ?_⟩⟩
  clear hK HSN
  refine wpAnyH_done (by kernel_rfl) ?_ _
  have LB : Hid (w.heap.size + 1 < w5.heap.size) := BX1.out.lt
  go_wp2_with (first | go_skip | (with_reducible refine stopLoad 24 rfl ?_) | (with_reducible refine stopLoad 29 rfl ?_) | (with_reducible refine stopStore 29 rfl ?_))
  refine load_any 24 w.heap.size cs0 24 _ BX0.out rfl rfl rfl Try.underlying24 rfl (lrwSize HC.out.1) ?_
  go_wp2_with fail
  refine (toRw_any _ s F _ (HH.out.1.1.below BEL.out) HF1.out).mono ?_
  rintro e w6 ⟨zv, Xa, rfl, rz, oz, bz⟩
  obtain ⟨ca, rfl, sza, ona⟩ := rz.cells
  have BEL : Hid (Below w.heap.size w w6) := Below.next BEL.out bz
  have BX0 : Hid (Blk w6 w.heap.size cs0 24) := BX0.out.below bz
  have BX1 : Hid (Blk w6 (w.heap.size + 1) cs1 24) := BX1.out.below bz
  have TT : Hid (RdRw w6 (.agg ca) s Xa ∧ Own w5.heap.size w6 Xa ∧ Below w5.heap.size w5 w6 ∧ ca.size = 1 ∧ ca.all (·.oneCell') = true) := ⟨rz, oz, bz, sza, ona⟩
  clear rz oz bz sza ona
  go_wp2_with (first | go_skip | (with_reducible refine stopLoad 24 rfl ?_) | (with_reducible refine stopLoad 29 rfl ?_) | (with_reducible refine stopStore 29 rfl ?_))
  refine store_fresh 29 w6.heap.size rfl #[.slice none 0 0] ca 29 rfl rfl rfl rfl (rwSize TT.out.2.2.2.1) TT.out.2.2.2.1.symm TT.out.2.2.2.2 ?_
  intro w7 hg hb
  have BEL : Hid (Below w.heap.size w w7) := Below.next BEL.out hb
  have BX0 : Hid (Blk w7 w.heap.size cs0 24) := BX0.out.below hb
  have BX1 : Hid (Blk w7 (w.heap.size + 1) cs1 24) := BX1.out.below hb
  have Va : Hid (VarRw w7 w5.heap.size w7.heap.size w6.heap.size ca s Xa) := VarRw.fresh TT.out.1 TT.out.2.1 TT.out.2.2.1 TT.out.2.2.2.1 hg hb
  have Oa : Hid (w5.heap.size ≤ w7.heap.size ∧ w.heap.size + 1 < w5.heap.size) := ⟨by have := TT.out.2.2.1.size; have := hb.size; omega, LB.out⟩
  clear hg hb TT
  have LB : Hid (w.heap.size + 1 < w7.heap.size) := BX1.out.lt
  go_wp2_with (first | go_skip | (with_reducible refine stopLoad 24 rfl ?_) | (with_reducible refine stopLoad 29 rfl ?_) | (with_reducible refine stopStore 29 rfl ?_))
  refine load_any 24 (w.heap.size + 1) cs1 24 _ BX1.out rfl rfl rfl Try.underlying24 rfl (lrwSize HC.out.2) ?_
  go_wp2_with fail
  refine (toRw_any _ t G _ (HH.out.2.1.below BEL.out) HF2.out).mono ?_
  rintro e w8 ⟨zv, Xb, rfl, rz, oz, bz⟩
  obtain ⟨cb, rfl, szb, onb⟩ := rz.cells
  have BEL : Hid (Below w.heap.size w w8) := Below.next BEL.out bz
  have BX0 : Hid (Blk w8 w.heap.size cs0 24) := BX0.out.below bz
  have BX1 : Hid (Blk w8 (w.heap.size + 1) cs1 24) := BX1.out.below bz
  have Va : Hid (VarRw w8 w5.heap.size w7.heap.size w6.heap.size ca s Xa) := Va.out.below bz
  have TT : Hid (RdRw w8 (.agg cb) t Xb ∧ Own w7.heap.size w8 Xb ∧ Below w7.heap.size w7 w8 ∧ cb.size = 1 ∧ cb.all (·.oneCell') = true) := ⟨rz, oz, bz, szb, onb⟩
  clear rz oz bz szb onb
  go_wp2_with (first | go_skip | (with_reducible refine stopLoad 24 rfl ?_) | (with_reducible refine stopLoad 29 rfl ?_) | (with_reducible refine stopStore 29 rfl ?_))
  refine store_fresh 29 w8.heap.size rfl #[.slice none 0 0] cb 29 rfl rfl rfl rfl (rwSize TT.out.2.2.2.1) TT.out.2.2.2.1.symm TT.out.2.2.2.2 ?_
  intro w9 hg hb
  have BEL : Hid (Below w.heap.size w w9) := Below.next BEL.out hb
  have BX0 : Hid (Blk w9 w.heap.size cs0 24) := BX0.out.below hb
  have BX1 : Hid (Blk w9 (w.heap.size + 1) cs1 24) := BX1.out.below hb
  have Va : Hid (VarRw w9 w5.heap.size w7.heap.size w6.heap.size ca s Xa) := Va.out.below hb
  have Vb : Hid (VarRw w9 w7.heap.size w9.heap.size w8.heap.size cb t Xb) := VarRw.fresh TT.out.1 TT.out.2.1 TT.out.2.2.1 TT.out.2.2.2.1 hg hb
  have Ob : Hid (w7.heap.size ≤ w9.heap.size ∧ w.heap.size + 1 < w7.heap.size) := ⟨by have := TT.out.2.2.1.size; have := hb.size; omega, LB.out⟩
  clear hg hb TT
  have LB : Hid (w.heap.size + 1 < w9.heap.size) := BX1.out.lt
  go_wp2_with (first | go_skip | (with_reducible refine stopLoad 24 rfl ?_) | (with_reducible refine stopLoad 29 rfl ?_) | (with_reducible refine stopStore 29 rfl ?_))
  refine load_any 29 w6.heap.size ca 29 _ Va.out.blk rfl rfl rfl Try.underlying29 rfl (rwSize Va.out.sz) ?_
  go_wp2_with (first | go_skip | (with_reducible refine stopLoad 24 rfl ?_) | (with_reducible refine stopLoad 29 rfl ?_) | (with_reducible refine stopStore 29 rfl ?_))
  refine load_any 29 w8.heap.size cb 29 _ Vb.out.blk rfl rfl rfl Try.underlying29 rfl (rwSize Vb.out.sz) ?_
  go_wp2_with fail
  refine (rowSameImpl_any _ _ s t Xa Xb _ Va.out.rd Vb.out.rd HF1.out.wide HF2.out.wide).mono ?_
  rintro e w10 ⟨rfl, hb⟩
  have BEL : Hid (Below w.heap.size w w10) := Below.next BEL.out hb
  have BX0 : Hid (Blk w10 w.heap.size cs0 24) := BX0.out.below hb
  have BX1 : Hid (Blk w10 (w.heap.size + 1) cs1 24) := BX1.out.below hb
  have Va : Hid (VarRw w10 w5.heap.size w7.heap.size w6.heap.size ca s Xa) := Va.out.below hb
  have Vb : Hid (VarRw w10 w7.heap.size w9.heap.size w8.heap.size cb t Xb) := Vb.out.below hb
  clear hb
  rw [← HDD.out]
  have hne : (dd != dd) = false := by simp
  go_wp2
  have HS : Hid (RwTwo w.heap.size cs0 w6.heap.size ca w10.drew) := ⟨BX0.out.drew, Va.out.blk.drew⟩
  have keepS : ∀ {W W' : World}, RwTwo w.heap.size cs0 w6.heap.size ca W → Below W.heap.size W W' → RwTwo w.heap.size cs0 w6.heap.size ca W' := fun h b => ⟨h.1.below b, h.2.below b⟩
  refine wp_region_held (S := RwTwo w.heap.size cs0 w6.heap.size ca) (by kernel_rfl) ?_
  change wpAnyH _ _ _ _ _ _ _ _ (World.drew _)
  refine takeH (o := ?o7) 0 (.agg ca) ?h7 ?r7
  case h7 => simp only [aT, aZ]; rfl
  refine ⟨_, by simp [Act.put]; rfl, by kernel_rfl, by kernel_rfl, by kernel_rfl, fun _ _ _ h => h, (yields_whole 29 w6.heap.size ca 29 _ rfl rfl rfl Try.underlying29 rfl (rwSize Va.out.sz) (fun W hW => hW.2)), HS.out, ?_⟩
  refine takeH (o := ?o8) 1 (.agg cs0) ?h8 ?r8
  case h8 => simp only [aT, aS, aZ]; rfl
  refine ⟨_, by simp [Act.put]; rfl, by kernel_rfl, by kernel_rfl, by kernel_rfl, fun _ _ _ h => h, (yields_whole 24 w.heap.size cs0 24 _ rfl rfl rfl Try.underlying24 rfl (lrwSize HC.out.1) (fun W hW => hW.1)), HS.out, ?_⟩
  refine onlyH (o := ?o9) 2 (by kernel_rfl) ?h9 ?r9
  case h9 => simp only [aT, aS, aZ]; rfl
  intro K hK
  refine op_call1 6 _ _ Try.f6 (fun v w' => ∃ X, RdRw w' v s X ∧ Below w10.drew.heap.size w10.drew w') rfl rfl Try.func6 (by kernel_rfl) (by kernel_rfl) ((toRw_any _ s F w10.drew (HH.out.1.1.below BEL.out.drew) HF1.out).mono (by rintro e w' ⟨v, X, rfl, h1, _, h3⟩; exact ⟨_, rfl, X, h1, h3⟩)) ?_
  rintro zq w11x ⟨Xq, rz, bz⟩
  refine ⟨_, by simp [Act.put]; rfl, hK _ _ ⟨keepS HS.out bz, ?_⟩⟩
  have TQ : Hid (RdRw w11x (.agg ca) s Xa ∧ RdRw w11x zq s Xq ∧ RwTwo w.heap.size cs0 w6.heap.size ca w11x ∧ Below w10.heap.size w10 w11x) := ⟨(Va.out.rd.below (Below.refl _ _).drew).below bz, rz, keepS HS.out bz, Below.next (Below.refl _ _).drew bz⟩
  clear hK rz bz
  refine onlyH (o := ?o10) 3 (by kernel_rfl) ?h10 ?r10
  case h10 => simp only [aT, aS, aZ]; rfl
  intro K hK
  refine op_call2 8 _ _ _ Try.f8 (fun w' => Below w11x.heap.size w11x w') (.bool (decide (s = s))) rfl rfl Try.func8 (by kernel_rfl) (by kernel_rfl) (eqRw_any (.agg ca) zq s s Xa Xq w11x TQ.out.1 TQ.out.2.1 HF1.out.wide HF1.out.wide) ⟨_, by simp [Act.put]; rfl, ?_⟩
  intro w11 bz
  refine hK _ _ ⟨keepS TQ.out.2.2.1 bz, ?_⟩
  have HSZ : Hid (RwTwo w.heap.size cs0 w6.heap.size ca w11) := keepS TQ.out.2.2.1 bz
  have hbq : Below w10.heap.size w10 w11 := Below.next TQ.out.2.2.2 bz
  have BEL : Hid (Below w.heap.size w w11) := Below.next BEL.out hbq
  have BX0 : Hid (Blk w11 w.heap.size cs0 24) := BX0.out.below hbq
  have BX1 : Hid (Blk w11 (w.heap.size + 1) cs1 24) := BX1.out.below hbq
  have Va : Hid (VarRw w11 w5.heap.size w7.heap.size w6.heap.size ca s Xa) := Va.out.below hbq
  have Vb : Hid (VarRw w11 w7.heap.size w9.heap.size w8.heap.size cb t Xb) := Vb.out.below hbq
  clear hK bz hbq
  refine takeH (o := ?o11) 4 (.bool false) ?h11 ?r11
  case h11 => simp only [aT, aS, aZ]; rfl
  refine ⟨_, by simp [Act.put]; rfl, by kernel_rfl, by kernel_rfl, by kernel_rfl, fun _ _ _ h => h, (.inl ⟨rfl, fun W _ => by go_simp⟩), HSZ.out, ?_⟩
  refine wpAnyH_done (by kernel_rfl) ?_ _
  clear TQ HSZ HS keepS
  go_wp2
  have HS : Hid (RwTwo (w.heap.size + 1) cs1 w8.heap.size cb w11.drew) := ⟨BX1.out.drew, Vb.out.blk.drew⟩
  have keepS : ∀ {W W' : World}, RwTwo (w.heap.size + 1) cs1 w8.heap.size cb W → Below W.heap.size W W' → RwTwo (w.heap.size + 1) cs1 w8.heap.size cb W' := fun h b => ⟨h.1.below b, h.2.below b⟩
  refine wp_region_held (S := RwTwo (w.heap.size + 1) cs1 w8.heap.size cb) (by kernel_rfl) ?_
  change wpAnyH _ _ _ _ _ _ _ _ (World.drew _)
  refine takeH (o := ?o12) 0 (.agg cb) ?h12 ?r12
  case h12 => simp only [aT, aZ]; rfl
  refine ⟨_, by simp [Act.put]; rfl, by kernel_rfl, by kernel_rfl, by kernel_rfl, fun _ _ _ h => h, (yields_whole 29 w8.heap.size cb 29 _ rfl rfl rfl Try.underlying29 rfl (rwSize Vb.out.sz) (fun W hW => hW.2)), HS.out, ?_⟩
  refine takeH (o := ?o13) 1 (.agg cs1) ?h13 ?r13
  case h13 => simp only [aT, aS, aZ]; rfl
  refine ⟨_, by simp [Act.put]; rfl, by kernel_rfl, by kernel_rfl, by kernel_rfl, fun _ _ _ h => h, (yields_whole 24 (w.heap.size + 1) cs1 24 _ rfl rfl rfl Try.underlying24 rfl (lrwSize HC.out.2) (fun W hW => hW.1)), HS.out, ?_⟩
  refine onlyH (o := ?o14) 2 (by kernel_rfl) ?h14 ?r14
  case h14 => simp only [aT, aS, aZ]; rfl
  intro K hK
  refine op_call1 6 _ _ Try.f6 (fun v w' => ∃ X, RdRw w' v t X ∧ Below w11.drew.heap.size w11.drew w') rfl rfl Try.func6 (by kernel_rfl) (by kernel_rfl) ((toRw_any _ t G w11.drew (HH.out.2.1.below BEL.out.drew) HF2.out).mono (by rintro e w' ⟨v, X, rfl, h1, _, h3⟩; exact ⟨_, rfl, X, h1, h3⟩)) ?_
  rintro zq w12x ⟨Xq, rz, bz⟩
  refine ⟨_, by simp [Act.put]; rfl, hK _ _ ⟨keepS HS.out bz, ?_⟩⟩
  have TQ : Hid (RdRw w12x (.agg cb) t Xb ∧ RdRw w12x zq t Xq ∧ RwTwo (w.heap.size + 1) cs1 w8.heap.size cb w12x ∧ Below w11.heap.size w11 w12x) := ⟨(Vb.out.rd.below (Below.refl _ _).drew).below bz, rz, keepS HS.out bz, Below.next (Below.refl _ _).drew bz⟩
  clear hK rz bz
  refine onlyH (o := ?o15) 3 (by kernel_rfl) ?h15 ?r15
  case h15 => simp only [aT, aS, aZ]; rfl
  intro K hK
  refine op_call2 8 _ _ _ Try.f8 (fun w' => Below w12x.heap.size w12x w') (.bool (decide (t = t))) rfl rfl Try.func8 (by kernel_rfl) (by kernel_rfl) (eqRw_any (.agg cb) zq t t Xb Xq w12x TQ.out.1 TQ.out.2.1 HF2.out.wide HF2.out.wide) ⟨_, by simp [Act.put]; rfl, ?_⟩
  intro w12 bz
  refine hK _ _ ⟨keepS TQ.out.2.2.1 bz, ?_⟩
  have HSZ : Hid (RwTwo (w.heap.size + 1) cs1 w8.heap.size cb w12) := keepS TQ.out.2.2.1 bz
  have hbq : Below w11.heap.size w11 w12 := Below.next TQ.out.2.2.2 bz
  have BEL : Hid (Below w.heap.size w w12) := Below.next BEL.out hbq
  have BX0 : Hid (Blk w12 w.heap.size cs0 24) := BX0.out.below hbq
  have BX1 : Hid (Blk w12 (w.heap.size + 1) cs1 24) := BX1.out.below hbq
  have Va : Hid (VarRw w12 w5.heap.size w7.heap.size w6.heap.size ca s Xa) := Va.out.below hbq
  have Vb : Hid (VarRw w12 w7.heap.size w9.heap.size w8.heap.size cb t Xb) := Vb.out.below hbq
  clear hK bz hbq
  refine takeH (o := ?o16) 4 (.bool false) ?h16 ?r16
  case h16 => simp only [aT, aS, aZ]; rfl
  refine ⟨_, by simp [Act.put]; rfl, by kernel_rfl, by kernel_rfl, by kernel_rfl, fun _ _ _ h => h, (.inl ⟨rfl, fun W _ => by go_simp⟩), HSZ.out, ?_⟩
  refine wpAnyH_done (by kernel_rfl) ?_ _
  clear TQ HSZ HS keepS
  go_wp2
  go_ret
  exact ⟨rfl, BEL.out⟩
set_option maxRecDepth 100000 in
theorem lifted (os : Os) (started : os.Started) (H : Type) (enc : TypeId × Value → H) :
    ReturnsInHanded {} Try.checked os 3 .any (Rows.fnExactRowSameSpec.pre6 enc Try.prog Try.f3 Rows.fnExactRowSameRow.domain false) (Rows.fnExactRowSameSpec.post enc Try.prog Try.f3 false true false false) := by
  refine returnsInHanded_of_change (C := Try.checked) own started (by kernel_rfl) Try.func3
    (ChangeSpec.witness6 (enc := enc) (C := Try.checked) false ⟨#[], #[.agg #[.slice none 0 0], .agg #[.slice none 0 0]], []⟩ 8 (by kernel_rfl) (by kernel_rfl) (by kernel_rfl) (by kernel_rfl)) ?_
  intro W base args ds gs before hval0 hW hcnd _
  have hval : ∀ (j : Nat) t v, Try.f3.params[j]? = some t → args[j]? = some v → Value.okWide Try.prog W .any base t v := hval0
  have hW' := hW
  obtain ⟨p, q, hA0, hV, rfl, hfz, hnd⟩ := hW
  have hA : DataW.TrodAll enc Try.prog W 0 (fun _ => true) true Try.f3.params.toList args.toList ds p := hA0
  rw [Try.params3] at hA hval
  obtain ⟨v0, vs0, d0, ds0, p0, q0, hargs, rfl, rfl, h0, r0⟩ := trodAll_cons hA
  obtain ⟨v1, vs1, d1, ds1, p1, q1, hargs1, rfl, rfl, h1, r1⟩ := trodAll_cons r0
  obtain ⟨rfl, rfl, rfl⟩ := trodAll_nil r1
  obtain rfl : args = #[v0, v1] := by cases args; simp_all
  obtain ⟨rfl, rfl⟩ := trodVars_none hV
  have k0 := h0
  have k1 := h1
  have lt0 : ∀ x ∈ p0, x.block < W.heap.size := by obtain ⟨m, hm⟩ := k0; exact DataW.trod_lt m _ _ _ hm
  have lt1 : ∀ x ∈ p1, x.block < W.heap.size := by obtain ⟨m, hm⟩ := k1; exact DataW.trod_lt m _ _ _ hm
  obtain ⟨s, F, hR, hv⟩ := open_Rw (hval 0 24 v0 rfl rfl) h0
  obtain ⟨t, G, kR, kv⟩ := open_Rw (hval 1 24 v1 rfl rfl) h1
  clear hA0 hval0
  refine (walk v0 v1 s t F G W hR kR hv kv).mono fun e W' ⟨he, bel⟩ => ?_
  subst he
  exact ⟨_, rfl, _, _, _, [], _, [], hW', trodAll_mk1 (shut_bool Try.underlying4 _), (trodAll_cons_mk (Below.trod laidOut (by kernel_rfl) (of_decide_eq_true (by kernel_rfl)) k0 bel lt0) (trodAll_cons_mk (Below.trod laidOut (by kernel_rfl) (of_decide_eq_true (by kernel_rfl)) k1 bel lt1) trodAll_mk0)), rfl, bel.frame _, fun h => by cases h⟩
theorem over : Rows.fnExactRowSameRow.holds Try.pinned (OpenSpec.ofChange Rows.fnExactRowSameSpec) :=
  OpenClaim.holds_of_wide 3 Try.f3 rfl rfl rfl rfl rfl rfl rfl ⟨rfl, rfl, rfl, rfl, rfl⟩ rfl rfl rfl rfl rfl (by kernel_rfl) Try.func3 (by kernel_rfl)
    (of_decide_eq_true (by kernel_rfl)) (by unfold Func.isWrapper; first | (rw [if_pos (by decide +kernel)]; kernel_rfl) | (rw [if_neg (by decide +kernel)]; exact ⟨rfl, rfl⟩))
    (fun os started H enc _ => lifted os started H enc)
theorem proved : Rows.FnExactRowSameSaid := over
#print axioms proved
end Go.Proofs.Ytillnoeailnnfab.fnExactRowSame
