/- For every frame (no condition): laws.FnExactFrameBytes returns true, and its argument reads afterwards as it did: the program's FrameBytes answers as the model's, writes nothing into its argument, and its answer owns its memory. -/
import Derived.Test.YtjndcfamfminkaqB2
import Derived.Test.YtjndcfamfminkaqRows
import Derived.WalkKit
import Derived.ProofKit
import Derived.OpenShut
import Derived.ShutString
import Derived.ChangeOld
import Derived.Below
namespace Go.Proofs.Ytjndcfamfminkaq.fnExactFrameBytes
open Go.ChangeShapes Go.WideShapes Go.ChangeAt Go.RowKit
set_option linter.unusedVariables false
theorem own : ownKnob Try.prog.godebug = none := by kernel_rfl
set_option maxRecDepth 200000 in
set_option maxHeartbeats 8000000 in
theorem walk (v0 : Value) (s : Fr) (F : List Nat) (w : World) (h : RdF w v0 s F) (hv : s.vast) :
    Calls Try.prog 5 #[v0] w fun e w' => e = .returned (.bool true) ∧ Below w.heap.size w w' := by
  have HH : Hid (RdF w v0 s F ∧ s.vast) := ⟨h, hv⟩
  obtain ⟨cs0, rfl, hc7, hone⟩ := h.cells
  have HC : Hid (cs0.size = 16) := hc7
  have BX : Hid (Blk (w.alloc (.cells cs0 44)) w.heap.size cs0 44) := Blk.made _ _ _
  have BEL : Hid (Below w.heap.size w (w.alloc (.cells cs0 44))) := (Below.refl _ _).alloc (Nat.le_refl _) _
  obtain ⟨L, hL⟩ : ∃ L, L = s.bytes := ⟨_, rfl⟩
  have HL : Hid (s.bytes = L) := hL.symm
  have HLL : Hid (L.length ≤ 491) := by show _ ≤ _; rw [hL]; exact Fr.bytes_len s
  have HLR : Hid (∀ x ∈ L, 0 ≤ x ∧ x ≤ 255) := by rw [hL]; exact Fr.bytes_range s
  clear h hv hc7 hone hL
  go_enter Try.func5, Try.ntmps5
  go_wp2_with (first | go_skip | (with_reducible refine stopLoad 44 rfl ?_) | (with_reducible refine stopLoad 51 rfl ?_) | (with_reducible refine stopStore 51 rfl ?_))
  refine load_any 44 w.heap.size cs0 44 _ BX.out rfl rfl rfl Try.underlying44 rfl (lfrSize HC.out) ?_
  go_wp2_with fail
  refine (szF_vast _ s F 1048576 _ (HH.out.1.below BEL.out) HH.out.2 (by omega) (by omega)).mono ?_
  rintro e w1 ⟨⟨r, rfl, ra, rb, rc⟩, hb1⟩
  have BEL : Hid (Below w.heap.size w w1) := Below.next BEL.out hb1
  have BX : Hid (Blk w1 w.heap.size cs0 44) := BX.out.below hb1
  by_cases q : r < 0
  · clear ra rb rc hb1
    go_wp2
    go_ret
    exact ⟨rfl, BEL.out⟩
  have q' : 0 ≤ r := by omega
  have HSZ : Hid (s.taken.length + s.item.sk.size ≤ 1048576) := by have := rb q'; show _ ≤ _; omega
  have HF : Hid (s.fits) := Fr.fits_sz HSZ.out
  have HMI : Hid (0 ≤ s.many ∧ s.many ≤ 4194304) := Fr.many_fits HSZ.out
  have LB0 : Hid (w.heap.size < w1.heap.size) := BX.out.lt
  clear ra rb rc hb1 q
  go_wp2_with (first | go_skip | (with_reducible refine stopLoad 44 rfl ?_) | (with_reducible refine stopLoad 51 rfl ?_) | (with_reducible refine stopStore 51 rfl ?_))
  refine load_any 44 w.heap.size cs0 44 _ BX.out rfl rfl rfl Try.underlying44 rfl (lfrSize HC.out) ?_
  go_wp2_with fail
  refine (toF_any _ s F _ (HH.out.1.below BEL.out) HF.out).mono ?_
  rintro e w2 ⟨z1, X1, rfl, rz, oz, bz⟩
  have BEL : Hid (Below w.heap.size w w2) := Below.next BEL.out bz
  have BX : Hid (Blk w2 w.heap.size cs0 44) := BX.out.below bz
  have Tz1 : Hid (RdF w2 z1 s X1 ∧ Own w1.heap.size w2 X1 ∧ Below w1.heap.size w1 w2) := ⟨rz, oz, bz⟩
  clear rz oz bz
  have LB2 : Hid (w1.heap.size ≤ w2.heap.size) := Tz1.out.2.2.size
  go_wp2_with fail
  refine (bytesSpecF_any _ s X1 _ Tz1.out.1 HF.out.wide).mono ?_
  rintro e w3 ⟨vw, rfl, oy, bz⟩
  rw [HL.out] at oy
  have BEL : Hid (Below w.heap.size w w3) := Below.next BEL.out bz
  have BX : Hid (Blk w3 w.heap.size cs0 44) := BX.out.below bz
  have RW : Hid (RowB w3 w2.heap.size w3.heap.size vw L) := RowB.fresh oy
  have LB3 : Hid (w2.heap.size ≤ w3.heap.size) := bz.size
  clear oy bz Tz1
  go_wp2_with (first | go_skip | (with_reducible refine stopLoad 44 rfl ?_) | (with_reducible refine stopLoad 51 rfl ?_) | (with_reducible refine stopStore 51 rfl ?_))
  refine load_any 44 w.heap.size cs0 44 _ BX.out rfl rfl rfl Try.underlying44 rfl (lfrSize HC.out) ?_
  go_wp2_with fail
  refine (toF_any _ s F _ (HH.out.1.below BEL.out) HF.out).mono ?_
  rintro e w5 ⟨z2, X2, rfl, rz, oz, bz⟩
  have BEL : Hid (Below w.heap.size w w5) := Below.next BEL.out bz
  have BX : Hid (Blk w5 w.heap.size cs0 44) := BX.out.below bz
  have RW : Hid (RowB w5 w2.heap.size w3.heap.size vw L) := RW.out.below bz
  have Tz2 : Hid (RdF w5 z2 s X2 ∧ Own w3.heap.size w5 X2 ∧ Below w3.heap.size w3 w5) := ⟨rz, oz, bz⟩
  clear rz oz bz
  obtain ⟨cx, rfl, szx, onx⟩ := Tz2.out.1.cells
  have SZ : Hid (cx.size = 16 ∧ cx.all (·.oneCell') = true) := ⟨szx, onx⟩
  clear szx onx
  go_wp2_with (first | go_skip | (with_reducible refine stopLoad 44 rfl ?_) | (with_reducible refine stopLoad 51 rfl ?_) | (with_reducible refine stopStore 51 rfl ?_))
  refine store_fresh 51 w5.heap.size rfl #[.int .i64 0, .int .i64 0, .int .i64 0, .int .i64 0, .slice none 0 0, .int .i64 0, .int .i64 0, .int .i64 0, .int .i64 0, .int .i64 0, .int .i64 0, .int .i64 0, .int .i64 0, .slice none 0 0, .slice none 0 0, .slice none 0 0] cx 51 rfl rfl rfl rfl (frSize SZ.out.1) SZ.out.1.symm SZ.out.2 ?_
  intro w6 hg hb
  have BEL : Hid (Below w.heap.size w w6) := Below.next BEL.out hb
  have BX : Hid (Blk w6 w.heap.size cs0 44) := BX.out.below hb
  have RW : Hid (RowB w6 w2.heap.size w3.heap.size vw L) := RW.out.below hb
  have Vx : Hid (VarF w6 w3.heap.size w6.heap.size w5.heap.size cx s X2) := VarF.fresh Tz2.out.1 Tz2.out.2.1 Tz2.out.2.2 SZ.out.1 hg hb
  have LB6 : Hid (w3.heap.size ≤ w6.heap.size) := by have := Tz2.out.2.2.size; have := hb.size; show _ ≤ _; omega
  clear hg hb Tz2
  go_wp2_with (first | go_skip | (with_reducible refine stopLoad 44 rfl ?_) | (with_reducible refine stopLoad 51 rfl ?_) | (with_reducible refine stopStore 51 rfl ?_))
  refine load_any 51 w5.heap.size cx 51 _ Vx.out.blk rfl rfl rfl Try.underlying51 rfl (frSize Vx.out.sz) ?_
  go_wp2_with fail
  refine (bytesImplF_any _ s X2 _ Vx.out.rd HF.out.wide).mono ?_
  rintro e w7 ⟨vg, rfl, oy, bz⟩
  rw [HL.out] at oy
  have BEL : Hid (Below w.heap.size w w7) := Below.next BEL.out bz
  have BX : Hid (Blk w7 w.heap.size cs0 44) := BX.out.below bz
  have RW : Hid (RowB w7 w2.heap.size w3.heap.size vw L) := RW.out.below bz
  have Vx : Hid (VarF w7 w3.heap.size w6.heap.size w5.heap.size cx s X2) := Vx.out.below bz
  have RG : Hid (RowB w7 w6.heap.size w7.heap.size vg L) := RowB.fresh oy
  clear oy bz
  go_wp2_with fail
  refine (eqOwn_any _ _ _ _ _ _ L L _ RG.out.own RW.out.own HLR.out HLR.out (by have := HLL.out; omega) (by have := HLL.out; omega)).mono ?_
  rintro e w9 ⟨rfl, hb⟩
  have BEL : Hid (Below w.heap.size w w9) := Below.next BEL.out hb
  have BX : Hid (Blk w9 w.heap.size cs0 44) := BX.out.below hb
  have RW : Hid (RowB w9 w2.heap.size w3.heap.size vw L) := RW.out.below hb
  have Vx : Hid (VarF w9 w3.heap.size w6.heap.size w5.heap.size cx s X2) := Vx.out.below hb
  have RG : Hid (RowB w9 w6.heap.size w7.heap.size vg L) := RG.out.below hb
  clear hb
  have hdec : decide (L = L) = true := by simp
  rw [hdec]
  clear hdec
  go_wp2
  have HS : Hid (FrTwo w.heap.size cs0 w5.heap.size cx w9.drew) := ⟨BX.out.drew, Vx.out.blk.drew⟩
  have keepS : ∀ {W W' : World}, FrTwo w.heap.size cs0 w5.heap.size cx W → Below W.heap.size W W' → FrTwo w.heap.size cs0 w5.heap.size cx W' := fun h b => ⟨h.1.below b, h.2.below b⟩
  refine wp_region_held (S := FrTwo w.heap.size cs0 w5.heap.size cx) (by kernel_rfl) ?_
  change wpAnyH _ _ _ _ _ _ _ _ (World.drew _)
  refine takeH (o := ?o1) 0 (.agg cx) ?h1 ?r1
  case h1 => simp only [aT, aZ]; rfl
  refine ⟨_, by simp [Act.put]; rfl, by kernel_rfl, by kernel_rfl, by kernel_rfl, fun _ _ _ h => h, (yields_whole 51 w5.heap.size cx 51 _ rfl rfl rfl Try.underlying51 rfl (frSize Vx.out.sz) (fun W hW => hW.2)), HS.out, ?_⟩
  refine takeH (o := ?o2) 1 (.agg cs0) ?h2 ?r2
  case h2 => simp only [aT, aS, aZ]; rfl
  refine ⟨_, by simp [Act.put]; rfl, by kernel_rfl, by kernel_rfl, by kernel_rfl, fun _ _ _ h => h, (yields_whole 44 w.heap.size cs0 44 _ rfl rfl rfl Try.underlying44 rfl (lfrSize HC.out) (fun W hW => hW.1)), HS.out, ?_⟩
  refine onlyH (o := ?o3) 2 (by kernel_rfl) ?h3 ?r3
  case h3 => simp only [aT, aS, aZ]; rfl
  intro K hK
  refine op_call1 24 _ _ Try.f24 (fun v w' => ∃ X, RdF w' v s X ∧ Below w9.drew.heap.size w9.drew w') rfl rfl Try.func24 (by kernel_rfl) (by kernel_rfl) ((toF_any _ s F w9.drew (HH.out.1.below BEL.out.drew) HF.out).mono (by rintro e w' ⟨v, X, rfl, h1, _, h3⟩; exact ⟨_, rfl, X, h1, h3⟩)) ?_
  rintro zq w10 ⟨Xq, rz, bz⟩
  refine ⟨_, by simp [Act.put]; rfl, hK _ _ ⟨keepS HS.out bz, ?_⟩⟩
  have TQ : Hid (RdF w10 (.agg cx) s X2 ∧ RdF w10 zq s Xq ∧ FrTwo w.heap.size cs0 w5.heap.size cx w10 ∧ Below w9.heap.size w9 w10) := ⟨(Vx.out.rd.below (Below.refl _ _).drew).below bz, rz, keepS HS.out bz, Below.next (Below.refl _ _).drew bz⟩
  clear hK rz bz
  refine onlyH (o := ?o4) 3 (by kernel_rfl) ?h4 ?r4
  case h4 => simp only [aT, aS, aZ]; rfl
  intro K hK
  refine op_call2 26 _ _ _ Try.f26 (fun w' => Below w10.heap.size w10 w') (.bool (decide (s = s))) rfl rfl Try.func26 (by kernel_rfl) (by kernel_rfl) (eqF_any (.agg cx) zq s s X2 Xq w10 TQ.out.1 TQ.out.2.1 HF.out.wide HF.out.wide) ⟨_, by simp [Act.put]; rfl, ?_⟩
  intro w11 bz
  refine hK _ _ ⟨keepS TQ.out.2.2.1 bz, ?_⟩
  have HSZ9 : Hid (FrTwo w.heap.size cs0 w5.heap.size cx w11) := keepS TQ.out.2.2.1 bz
  have hbq : Below w9.heap.size w9 w11 := Below.next TQ.out.2.2.2 bz
  have BEL : Hid (Below w.heap.size w w11) := Below.next BEL.out hbq
  have BX : Hid (Blk w11 w.heap.size cs0 44) := BX.out.below hbq
  have RW : Hid (RowB w11 w2.heap.size w3.heap.size vw L) := RW.out.below hbq
  have Vx : Hid (VarF w11 w3.heap.size w6.heap.size w5.heap.size cx s X2) := Vx.out.below hbq
  have RG : Hid (RowB w11 w6.heap.size w7.heap.size vg L) := RG.out.below hbq
  clear hK bz hbq
  refine takeH (o := ?o5) 4 (.bool false) ?h5 ?r5
  case h5 => simp only [aT, aS, aZ]; rfl
  refine ⟨_, by simp [Act.put]; rfl, by kernel_rfl, by kernel_rfl, by kernel_rfl, fun _ _ _ h => h, (.inl ⟨rfl, fun W _ => by go_simp⟩), HSZ9.out, ?_⟩
  refine wpAnyH_done (by kernel_rfl) ?_ _
  clear TQ HSZ9 HS keepS
  have OR : Hid (w.heap.size < w2.heap.size ∧ w2.heap.size ≤ w3.heap.size ∧ w3.heap.size ≤ w6.heap.size) := ⟨by have := LB0.out; have := LB2.out; omega, LB3.out, LB6.out⟩
  go_wp2_with (first | go_skip | (with_reducible refine stopLoad 44 rfl ?_) | (with_reducible refine stopLoad 51 rfl ?_) | (with_reducible refine stopStore 51 rfl ?_))
  refine load_any 51 w5.heap.size cx 51 _ Vx.out.blk rfl rfl rfl Try.underlying51 rfl (frSize Vx.out.sz) ?_
  go_wp2_with fail
  refine (markF_any w3.heap.size _ s X2 1 _ Vx.out.rd Vx.out.own HF.out.wide (by omega) (by have := HMI.out; omega)).mono ?_
  rintro e w12 ⟨rfl, mk⟩
  have mo := mk.only
  have BEL : Hid (Below w.heap.size w w12) := mo.belowOf BEL.out Vx.out.own.ge (by have := OR.out; omega)
  have BX : Hid (Blk w12 w.heap.size cs0 44) := BX.out.only mo Vx.out.own.ge (by have := OR.out; omega)
  have RW : Hid (RowB w12 w2.heap.size w3.heap.size vw L) := RW.out.only' mo Vx.out.lt Vx.out.own.ge (.inl (Nat.le_refl _))
  have RG : Hid (RowB w12 w6.heap.size w7.heap.size vg L) := RG.out.only' mo Vx.out.lt Vx.out.own.ge (.inr (Nat.le_refl _))
  obtain ⟨ki, hki⟩ : ∃ k, k = 1 + s.many := ⟨_, rfl⟩
  rw [← hki]
  have hki0 : 0 ≤ ki := by have := HMI.out; omega
  have hkid : decide (ki < 0) = false := dec_false (by omega)
  clear hki mo mk Vx
  go_wp2_with fail
  refine (eqOwn_any _ _ _ _ _ _ L L _ RG.out.own RW.out.own HLR.out HLR.out (by have := HLL.out; omega) (by have := HLL.out; omega)).mono ?_
  rintro e w13 ⟨rfl, hb⟩
  have BEL : Hid (Below w.heap.size w w13) := Below.next BEL.out hb
  have BX : Hid (Blk w13 w.heap.size cs0 44) := BX.out.below hb
  have RW : Hid (RowB w13 w2.heap.size w3.heap.size vw L) := RW.out.below hb
  have RG : Hid (RowB w13 w6.heap.size w7.heap.size vg L) := RG.out.below hb
  clear hb
  have hdec : decide (L = L) = true := by simp
  rw [hdec]
  clear hdec
  go_wp2_with fail
  refine (markByteS_any _ _ _ _ 1 _ RG.out.own (by omega) (by have := HLL.out; omega)).mono ?_
  rintro e w14 ⟨rfl, own4, g4⟩
  have mo := only_grown g4
  have BEL : Hid (Below w.heap.size w w14) := mo.belowOf BEL.out RG.out.geRow (by have := OR.out; omega)
  have BX : Hid (Blk w14 w.heap.size cs0 44) := BX.out.only mo RG.out.geRow (by have := OR.out; omega)
  have RW : Hid (RowB w14 w2.heap.size w3.heap.size vw L) := RW.out.only' mo RG.out.ltRow RG.out.geRow (.inl (by have := OR.out; omega))
  have RM : Hid (w14.ownsRow w6.heap.size 5 1 vg L.length ((marks 1 L.length).map (Value.int .u8))) := own4
  clear own4 g4 mo RG
  go_wp2_with fail
  refine (heldByteS_any _ _ _ 1 _ RM.out (by omega) (by have := HLL.out; omega)).mono ?_
  rintro e w15 ⟨rfl, hb⟩
  have BEL : Hid (Below w.heap.size w w15) := Below.next BEL.out hb
  have BX : Hid (Blk w15 w.heap.size cs0 44) := BX.out.below hb
  have RW : Hid (RowB w15 w2.heap.size w3.heap.size vw L) := RW.out.below hb
  have RM : Hid (w15.ownsRow w6.heap.size 5 1 vg L.length ((marks 1 L.length).map (Value.int .u8))) := ownsRow_below RM.out hb
  clear hb
  have hq1 : decide ((1 : Int) + (L.length : Int) < 0) = false := by simp; omega
  have hq2 : ((1 : Int) + (L.length : Int) != 1 + (L.length : Int)) = false := by simp
  go_wp2_with (first | go_skip | (with_reducible refine stopLoad 44 rfl ?_) | (with_reducible refine stopLoad 51 rfl ?_) | (with_reducible refine stopStore 51 rfl ?_))
  refine load_any 44 w.heap.size cs0 44 _ BX.out rfl rfl rfl Try.underlying44 rfl (lfrSize HC.out) ?_
  go_wp2_with fail
  refine (toF_any _ s F _ (HH.out.1.below BEL.out) HF.out).mono ?_
  rintro e w16 ⟨z3, X3, rfl, rz, oz, bz⟩
  have BEL : Hid (Below w.heap.size w w16) := Below.next BEL.out bz
  have BX : Hid (Blk w16 w.heap.size cs0 44) := BX.out.below bz
  have RW : Hid (RowB w16 w2.heap.size w3.heap.size vw L) := RW.out.below bz
  have RM : Hid (w16.ownsRow w6.heap.size 5 1 vg L.length ((marks 1 L.length).map (Value.int .u8))) := ownsRow_below RM.out bz
  have Tz3 : Hid (RdF w16 z3 s X3 ∧ Own w15.heap.size w16 X3 ∧ Below w15.heap.size w15 w16) := ⟨rz, oz, bz⟩
  clear rz oz bz
  go_wp2_with fail
  refine (bytesImplF_any _ s X3 _ Tz3.out.1 HF.out.wide).mono ?_
  rintro e w17 ⟨vh, rfl, oy, bz⟩
  rw [HL.out] at oy
  have BEL : Hid (Below w.heap.size w w17) := Below.next BEL.out bz
  have BX : Hid (Blk w17 w.heap.size cs0 44) := BX.out.below bz
  have RW : Hid (RowB w17 w2.heap.size w3.heap.size vw L) := RW.out.below bz
  have RM : Hid (w17.ownsRow w6.heap.size 5 1 vg L.length ((marks 1 L.length).map (Value.int .u8))) := ownsRow_below RM.out bz
  have RH : Hid (RowB w17 w16.heap.size w17.heap.size vh L) := RowB.fresh oy
  clear oy bz Tz3
  go_wp2_with fail
  refine (eqOwn_any _ _ _ _ _ _ L L _ RH.out.own RW.out.own HLR.out HLR.out (by have := HLL.out; omega) (by have := HLL.out; omega)).mono ?_
  rintro e w18 ⟨rfl, hb⟩
  have BEL : Hid (Below w.heap.size w w18) := Below.next BEL.out hb
  have BX : Hid (Blk w18 w.heap.size cs0 44) := BX.out.below hb
  have RW : Hid (RowB w18 w2.heap.size w3.heap.size vw L) := RW.out.below hb
  have RM : Hid (w18.ownsRow w6.heap.size 5 1 vg L.length ((marks 1 L.length).map (Value.int .u8))) := ownsRow_below RM.out hb
  have RH : Hid (RowB w18 w16.heap.size w17.heap.size vh L) := RH.out.below hb
  clear hb
  have hdec : decide (L = L) = true := by simp
  rw [hdec]
  clear hdec
  go_wp2_with fail
  refine (heldByteS_any _ _ _ 1 _ RM.out (by omega) (by have := HLL.out; omega)).mono ?_
  rintro e w19 ⟨rfl, hb⟩
  have BEL : Hid (Below w.heap.size w w19) := Below.next BEL.out hb
  have BX : Hid (Blk w19 w.heap.size cs0 44) := BX.out.below hb
  have RW : Hid (RowB w19 w2.heap.size w3.heap.size vw L) := RW.out.below hb
  have RM : Hid (w19.ownsRow w6.heap.size 5 1 vg L.length ((marks 1 L.length).map (Value.int .u8))) := ownsRow_below RM.out hb
  have RH : Hid (RowB w19 w16.heap.size w17.heap.size vh L) := RH.out.below hb
  clear hb
  go_wp2
  go_ret
  exact ⟨rfl, BEL.out⟩
set_option maxRecDepth 100000 in
theorem lifted (os : Os) (started : os.Started) (H : Type) (enc : TypeId × Value → H) :
    ReturnsInHanded {} Try.checked os 5 .any (Rows.fnExactFrameBytesSpec.pre6 enc Try.prog Try.f5 Rows.fnExactFrameBytesRow.domain false) (Rows.fnExactFrameBytesSpec.post enc Try.prog Try.f5 false true false false) := by
  refine returnsInHanded_of_change (C := Try.checked) own started (by kernel_rfl) Try.func5
    (ChangeSpec.witness6 (enc := enc) (C := Try.checked) false ⟨#[], #[.agg #[.int .i64 0, .int .i64 0, .int .i64 0, .int .i64 0, .slice none 0 0, .int .i64 0, .int .i64 0, .int .i64 0, .int .i64 0, .int .i64 0, .int .i64 0, .int .i64 0, .int .i64 0, .slice none 0 0, .slice none 0 0, .slice none 0 0]], []⟩ 8 (by kernel_rfl) (by kernel_rfl) (by kernel_rfl) (by kernel_rfl)) ?_
  intro W base args ds gs before hval0 hW hcnd _
  have hval : ∀ (j : Nat) t v, Try.f5.params[j]? = some t → args[j]? = some v → Value.okWide Try.prog W .any base t v := hval0
  have hW' := hW
  obtain ⟨p, q, hA0, hV, rfl, hfz, hnd⟩ := hW
  have hA : DataW.TrodAll enc Try.prog W 0 (fun _ => true) true Try.f5.params.toList args.toList ds p := hA0
  rw [Try.params5] at hA hval
  obtain ⟨v0, vs0, d0, ds0, p0, q0, hargs, rfl, rfl, h0, r0⟩ := trodAll_cons hA
  obtain ⟨rfl, rfl, rfl⟩ := trodAll_nil r0
  obtain rfl : args = #[v0] := by cases args; simp_all
  obtain ⟨rfl, rfl⟩ := trodVars_none hV
  have k0 := h0
  have lt0 : ∀ x ∈ p0, x.block < W.heap.size := by obtain ⟨m, hm⟩ := k0; exact DataW.trod_lt m _ _ _ hm
  obtain ⟨s, F, hR, hv⟩ := open_F (hval 0 44 v0 rfl rfl) h0
  clear hA0 hval0
  refine (walk v0 s F W hR hv).mono fun e W' ⟨he, bel⟩ => ?_
  subst he
  exact ⟨_, rfl, _, _, _, [], _, [], hW', trodAll_mk1 (shut_bool Try.underlying4 _), (trodAll_cons_mk (Below.trod laidOut (by kernel_rfl) (of_decide_eq_true (by kernel_rfl)) k0 bel lt0) trodAll_mk0), rfl, bel.frame _, fun h => by cases h⟩
theorem over : Rows.fnExactFrameBytesRow.holds Try.pinned (OpenSpec.ofChange Rows.fnExactFrameBytesSpec) :=
  OpenClaim.holds_of_wide 5 Try.f5 rfl rfl rfl rfl rfl rfl rfl ⟨rfl, rfl, rfl, rfl, rfl⟩ rfl rfl rfl rfl rfl (by kernel_rfl) Try.func5 (by kernel_rfl)
    (of_decide_eq_true (by kernel_rfl)) (by unfold Func.isWrapper; first | (rw [if_pos (by decide +kernel)]; kernel_rfl) | (rw [if_neg (by decide +kernel)]; exact ⟨rfl, rfl⟩))
    (fun os started H enc _ => lifted os started H enc)
theorem proved : Rows.FnExactFrameBytesSaid := over
#print axioms proved
end Go.Proofs.Ytjndcfamfminkaq.fnExactFrameBytes
