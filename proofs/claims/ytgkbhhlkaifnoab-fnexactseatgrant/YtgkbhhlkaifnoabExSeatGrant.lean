/- For every seat and all numbers (no condition): laws.FnExactSeatGrant returns true, and its argument reads afterwards as it did: the program's SeatGrant answers as the model's, writes nothing into its argument, and its answer owns its memory. -/
import Derived.Test.YtgkbhhlkaifnoabB1
import Derived.Test.YtgkbhhlkaifnoabSkLaw
import Derived.Test.YtgkbhhlkaifnoabRows
import Derived.WalkKit
import Derived.ProofKit
import Derived.OpenShut
import Derived.ShutString
import Derived.ChangeOld
import Derived.Below
import Derived.Deep.DeepCutAuto
namespace Go.Proofs.Ytgkbhhlkaifnoab.fnExactSeatGrant
open Go.ChangeShapes Go.WideShapes Go.ChangeAt Go.RowKit
set_option linter.unusedVariables false
theorem own : ownKnob Try.prog.godebug = none := by kernel_rfl
set_option maxRecDepth 200000 in
set_option maxHeartbeats 16000000 in
theorem walk (c : Int) (v0 : Value) (s : Se) (F : List Nat) (w : World) (h0 : RdSe w v0 s F) (hv0 : s.vast) :
    Calls Try.prog 3 #[v0, .int .i64 c] w fun e w' => e = .returned (.bool true) ∧ Below w.heap.size w w' := by
  have HH0 : Hid (RdSe w v0 s F ∧ s.vast) := ⟨h0, hv0⟩
  obtain ⟨cs0, rfl, hc0, _⟩ := h0.cells
  have HC0 : Hid (cs0.size = 5) := hc0
  have BX0 : Hid (Blk (w.alloc (.cells cs0 24)) (w.heap.size) cs0 24) := Blk.made _ _ _
  have BEL : Hid (Below w.heap.size w (w.alloc (.cells cs0 24))) := Below.allocW _ (Below.refl _ _) (Nat.le_refl _)
  clear h0 hv0 hc0
  go_enter Try.func3, Try.ntmps3
  go_wp2_with (first | go_skip | (with_reducible refine stopLoad 24 rfl ?_) | (with_reducible refine stopLoad 28 rfl ?_) | (with_reducible refine stopStore 28 rfl ?_))
  refine load_any 24 (w.heap.size) cs0 24 _ BX0.out rfl rfl rfl Try.underlying24 rfl (lseSize HC0.out) ?_
  go_wp2_with fail
  refine (szSe_vast _ s F 1048576 _ (HH0.out.1.below BEL.out) HH0.out.2 (by omega) (by omega)).mono ?_
  rintro e w1 ⟨⟨r0, rfl, ra, rb, rc⟩, hb1⟩
  have BX0 : Hid (Blk w1 (w.heap.size) cs0 24) := BX0.out.below hb1
  have BEL : Hid (Below w.heap.size w w1) := Below.next BEL.out hb1
  by_cases q : r0 < 0
  · clear ra rb rc hb1
    have hq : decide (r0 < 0) = true := dec_true q
    go_wp2
    go_ret
    exact ⟨rfl, BEL.out⟩
  have q' : 0 ≤ r0 := by omega
  have hq : decide (r0 < 0) = false := dec_false q
  have HSZ0 : Hid ((s.taken.length : Int) ≤ 1048576) := by have := rb q'; show _ ≤ _; omega
  have HR0 : Hid (0 ≤ r0 ∧ r0 ≤ 1048576) := ⟨q', by omega⟩
  have HF0 : Hid (s.fits) := (by have := HSZ0.out; show s.taken.length ≤ 1048576; omega)
  have HMI0 : Hid (0 ≤ s.many ∧ s.many ≤ 16777216) := ⟨(Se.many_fits HF0.out).1, by have := (Se.many_fits HF0.out).2; omega⟩
  clear ra rb rc hb1 q q'
  have LB0 : Hid (w.heap.size + 1 ≤ w1.heap.size) := BX0.out.lt
  obtain ⟨ra, hz⟩ : ∃ ra, ra = s.grant c := ⟨_, rfl⟩
  have HZ : Hid (ra = s.grant c) := hz
  have HM0 := (show (s.grant c).wide ∧ 0 ≤ (s.grant c).many ∧ (s.grant c).many ≤ 4194304 from ⟨Se.grant_wide HF0.out.wide c, Se.many_wide (Se.grant_wide HF0.out.wide c)⟩)
  rw [← hz] at HM0
  have HM : Hid (ra.wide ∧ 0 ≤ ra.many ∧ ra.many ≤ 4194304) := HM0
  clear HM0 hz
  go_wp2_with (first | go_skip | (with_reducible refine stopLoad 24 rfl ?_) | (with_reducible refine stopLoad 28 rfl ?_) | (with_reducible refine stopStore 28 rfl ?_))
  refine load_any 24 (w.heap.size) cs0 24 _ BX0.out rfl rfl rfl Try.underlying24 rfl (lseSize HC0.out) ?_
  go_wp2_with fail
  refine (toSe_any _ s F _ (HH0.out.1.below BEL.out) HF0.out).mono ?_
  rintro e w2 ⟨ztw, Xtw, rfl, rz, oz, bz⟩
  have BX0 : Hid (Blk w2 (w.heap.size) cs0 24) := BX0.out.below bz
  have BEL : Hid (Below w.heap.size w w2) := Below.next BEL.out bz
  have Ttw : Hid (RdSe w2 ztw s Xtw ∧ Own w1.heap.size w2 Xtw ∧ Below w1.heap.size w1 w2) := ⟨rz, oz, bz⟩
  have O1 : Hid (w1.heap.size ≤ w2.heap.size) := by show _ ≤ _; exact bz.size
  clear rz oz bz
  go_wp2_with fail
  refine (seGrantSpec_any _ s c Xtw _ (Ttw.out.1) HF0.out.wide).mono ?_
  intro e w3 hres
  rw [← HZ.out] at hres
  obtain ⟨zv, Yw, rfl, ry, oy, bz⟩ := hres
  obtain ⟨cw, rfl, szw, onw⟩ := ry.cells
  have BX0 : Hid (Blk w3 (w.heap.size) cs0 24) := BX0.out.below bz
  have BEL : Hid (Below w.heap.size w w3) := Below.next BEL.out bz
  have TT : Hid (RdSe w3 (.agg cw) ra Yw ∧ Own w2.heap.size w3 Yw ∧ Below w2.heap.size w2 w3 ∧ cw.size = 5 ∧ cw.all (·.oneCell') = true) := ⟨ry, oy, bz, szw, onw⟩
  clear ry oy bz szw onw Ttw
  go_wp2_with (first | go_skip | (with_reducible refine stopLoad 24 rfl ?_) | (with_reducible refine stopLoad 28 rfl ?_) | (with_reducible refine stopStore 28 rfl ?_))
  refine store_fresh 28 w3.heap.size rfl #[.int .i64 0, .int .i64 0, .slice none 0 0, .int .i64 0, .int .i64 0] cw 28 rfl rfl rfl rfl (seSize TT.out.2.2.2.1) TT.out.2.2.2.1.symm TT.out.2.2.2.2 ?_
  intro w4 hg hb
  have BX0 : Hid (Blk w4 (w.heap.size) cs0 24) := BX0.out.below hb
  have BEL : Hid (Below w.heap.size w w4) := Below.next BEL.out hb
  have Vw : Hid (VarSe w4 w2.heap.size w4.heap.size w3.heap.size cw ra Yw) := VarSe.fresh TT.out.1 TT.out.2.1 TT.out.2.2.1 TT.out.2.2.2.1 hg hb
  have O2 : Hid (w2.heap.size ≤ w4.heap.size) := by show _ ≤ _; have := TT.out.2.2.1.size; have := hb.size; omega
  clear hg hb TT
  go_wp2_with (first | go_skip | (with_reducible refine stopLoad 24 rfl ?_) | (with_reducible refine stopLoad 28 rfl ?_) | (with_reducible refine stopStore 28 rfl ?_))
  refine load_any 24 (w.heap.size) cs0 24 _ BX0.out rfl rfl rfl Try.underlying24 rfl (lseSize HC0.out) ?_
  go_wp2_with fail
  refine (toSe_any _ s F _ (HH0.out.1.below BEL.out) HF0.out).mono ?_
  rintro e w5 ⟨zx0, Xx0, rfl, rz, oz, bz⟩
  have BX0 : Hid (Blk w5 (w.heap.size) cs0 24) := BX0.out.below bz
  have BEL : Hid (Below w.heap.size w w5) := Below.next BEL.out bz
  have Vw : Hid (VarSe w5 w2.heap.size w4.heap.size w3.heap.size cw ra Yw) := Vw.out.below bz
  have Tx0 : Hid (RdSe w5 zx0 s Xx0 ∧ Own w4.heap.size w5 Xx0 ∧ Below w4.heap.size w4 w5) := ⟨rz, oz, bz⟩
  have O3 : Hid (w4.heap.size ≤ w5.heap.size) := by show _ ≤ _; exact bz.size
  clear rz oz bz
  obtain ⟨cx0, rfl, szx0, onx0⟩ := Tx0.out.1.cells
  have SZ : Hid (cx0.size = 5 ∧ cx0.all (·.oneCell') = true) := ⟨szx0, onx0⟩
  clear szx0 onx0
  go_wp2_with (first | go_skip | (with_reducible refine stopLoad 24 rfl ?_) | (with_reducible refine stopLoad 28 rfl ?_) | (with_reducible refine stopStore 28 rfl ?_))
  refine store_fresh 28 w5.heap.size rfl #[.int .i64 0, .int .i64 0, .slice none 0 0, .int .i64 0, .int .i64 0] cx0 28 rfl rfl rfl rfl (seSize SZ.out.1) SZ.out.1.symm SZ.out.2 ?_
  intro w6 hg hb
  have BX0 : Hid (Blk w6 (w.heap.size) cs0 24) := BX0.out.below hb
  have BEL : Hid (Below w.heap.size w w6) := Below.next BEL.out hb
  have Vw : Hid (VarSe w6 w2.heap.size w4.heap.size w3.heap.size cw ra Yw) := Vw.out.below hb
  have Vx0 : Hid (VarSe w6 w4.heap.size w6.heap.size w5.heap.size cx0 s Xx0) := VarSe.fresh Tx0.out.1 Tx0.out.2.1 Tx0.out.2.2 SZ.out.1 hg hb
  have O4 : Hid (w4.heap.size ≤ w6.heap.size) := by show _ ≤ _; have := Tx0.out.2.2.size; have := hb.size; omega
  clear hg hb Tx0 SZ
  go_wp2_with (first | go_skip | (with_reducible refine stopLoad 24 rfl ?_) | (with_reducible refine stopLoad 28 rfl ?_) | (with_reducible refine stopStore 28 rfl ?_))
  refine load_any 28 _ cx0 28 _ Vx0.out.blk rfl rfl rfl Try.underlying28 rfl (seSize Vx0.out.sz) ?_
  go_wp2_with fail
  refine (seGrantImpl_any _ s c Xx0 _ (Vx0.out.rd) HF0.out.wide).mono ?_
  intro e w7 hres
  rw [← HZ.out] at hres
  obtain ⟨zv, Yg, rfl, ry, oy, bz⟩ := hres
  obtain ⟨cg, rfl, szg, ong⟩ := ry.cells
  have BX0 : Hid (Blk w7 (w.heap.size) cs0 24) := BX0.out.below bz
  have BEL : Hid (Below w.heap.size w w7) := Below.next BEL.out bz
  have Vw : Hid (VarSe w7 w2.heap.size w4.heap.size w3.heap.size cw ra Yw) := Vw.out.below bz
  have Vx0 : Hid (VarSe w7 w4.heap.size w6.heap.size w5.heap.size cx0 s Xx0) := Vx0.out.below bz
  have TT : Hid (RdSe w7 (.agg cg) ra Yg ∧ Own w6.heap.size w7 Yg ∧ Below w6.heap.size w6 w7 ∧ cg.size = 5 ∧ cg.all (·.oneCell') = true) := ⟨ry, oy, bz, szg, ong⟩
  clear ry oy bz szg ong
  go_wp2_with (first | go_skip | (with_reducible refine stopLoad 24 rfl ?_) | (with_reducible refine stopLoad 28 rfl ?_) | (with_reducible refine stopStore 28 rfl ?_))
  refine store_fresh 28 w7.heap.size rfl #[.int .i64 0, .int .i64 0, .slice none 0 0, .int .i64 0, .int .i64 0] cg 28 rfl rfl rfl rfl (seSize TT.out.2.2.2.1) TT.out.2.2.2.1.symm TT.out.2.2.2.2 ?_
  intro w8 hg hb
  have BX0 : Hid (Blk w8 (w.heap.size) cs0 24) := BX0.out.below hb
  have BEL : Hid (Below w.heap.size w w8) := Below.next BEL.out hb
  have Vw : Hid (VarSe w8 w2.heap.size w4.heap.size w3.heap.size cw ra Yw) := Vw.out.below hb
  have Vx0 : Hid (VarSe w8 w4.heap.size w6.heap.size w5.heap.size cx0 s Xx0) := Vx0.out.below hb
  have Vg : Hid (VarSe w8 w6.heap.size w8.heap.size w7.heap.size cg ra Yg) := VarSe.fresh TT.out.1 TT.out.2.1 TT.out.2.2.1 TT.out.2.2.2.1 hg hb
  have O5 : Hid (w6.heap.size ≤ w8.heap.size) := by show _ ≤ _; have := TT.out.2.2.1.size; have := hb.size; omega
  clear hg hb TT
  go_wp2_with (first | go_skip | (with_reducible refine stopLoad 24 rfl ?_) | (with_reducible refine stopLoad 28 rfl ?_) | (with_reducible refine stopStore 28 rfl ?_))
  refine load_any 28 _ cg 28 _ Vg.out.blk rfl rfl rfl Try.underlying28 rfl (seSize Vg.out.sz) ?_
  go_wp2_with (first | go_skip | (with_reducible refine stopLoad 24 rfl ?_) | (with_reducible refine stopLoad 28 rfl ?_) | (with_reducible refine stopStore 28 rfl ?_))
  refine load_any 28 _ cw 28 _ Vw.out.blk rfl rfl rfl Try.underlying28 rfl (seSize Vw.out.sz) ?_
  go_wp2_with fail
  refine (eqSe_any _ _ ra ra Yg Yw _ Vg.out.rd Vw.out.rd HM.out.1 HM.out.1).mono ?_
  rintro e w9 ⟨rfl, hb⟩
  have BX0 : Hid (Blk w9 (w.heap.size) cs0 24) := BX0.out.below hb
  have BEL : Hid (Below w.heap.size w w9) := Below.next BEL.out hb
  have Vw : Hid (VarSe w9 w2.heap.size w4.heap.size w3.heap.size cw ra Yw) := Vw.out.below hb
  have Vx0 : Hid (VarSe w9 w4.heap.size w6.heap.size w5.heap.size cx0 s Xx0) := Vx0.out.below hb
  have Vg : Hid (VarSe w9 w6.heap.size w8.heap.size w7.heap.size cg ra Yg) := Vg.out.below hb
  clear hb
  have hdec : decide (ra = ra) = true := by simp
  rw [hdec]
  clear hdec
  go_wp2_with fail
  have BD := (Below.refl w9.heap.size w9).drew
  obtain ⟨Y10, hY10⟩ : ∃ Y, Y = w9.drew := ⟨_, rfl⟩
  rw [← hY10] at BD
  have BX0 : Hid (Blk Y10 (w.heap.size) cs0 24) := BX0.out.below BD
  have BEL : Hid (Below w.heap.size w Y10) := Below.next BEL.out BD
  have Vw : Hid (VarSe Y10 w2.heap.size w4.heap.size w3.heap.size cw ra Yw) := Vw.out.below BD
  have Vx0 : Hid (VarSe Y10 w4.heap.size w6.heap.size w5.heap.size cx0 s Xx0) := Vx0.out.below BD
  have Vg : Hid (VarSe Y10 w6.heap.size w8.heap.size w7.heap.size cg ra Yg) := Vg.out.below BD
  refine wp_region_held (S := fun W => Blk W (w.heap.size) cs0 24 ∧ Blk W (w5.heap.size) cx0 28) (by kernel_rfl) ?_
  change wpAnyH _ _ _ _ _ _ _ _ (World.drew _)
  rw [← hY10]
  clear hY10 BD
  refine takeH (o := ?o11) 0 (.agg cx0) ?h11 ?r11
  case h11 => simp only [aT, aZ]; rfl
  refine ⟨_, by simp [Act.put]; rfl, by kernel_rfl, by kernel_rfl, by kernel_rfl, fun _ _ _ h => h, (yields_whole 28 _ cx0 28 _ rfl rfl rfl Try.underlying28 rfl (seSize Vx0.out.sz) (fun W hW => hW.2)), ⟨BX0.out, Vx0.out.blk⟩, ?_⟩
  refine takeH (o := ?o12) 1 (.agg cs0) ?h12 ?r12
  case h12 => simp only [aT, aS, aZ]; rfl
  refine ⟨_, by simp [Act.put]; rfl, by kernel_rfl, by kernel_rfl, by kernel_rfl, fun _ _ _ h => h, (yields_whole 24 _ cs0 24 _ rfl rfl rfl Try.underlying24 rfl (lseSize HC0.out) (fun W hW => hW.1)), ⟨BX0.out, Vx0.out.blk⟩, ?_⟩
  refine onlyH (o := ?o13) 2 (by kernel_rfl) ?h13 ?r13
  case h13 => simp only [aT, aS, aZ]; rfl
  intro K hK
  refine op_call1 9 _ _ Try.f9 (fun v w' => ∃ X, RdSe w' v s X ∧ Below Y10.heap.size Y10 w') rfl rfl Try.func9 (by kernel_rfl) (by kernel_rfl) ((toSe_any _ s F Y10 (HH0.out.1.below BEL.out) HF0.out).mono (by rintro e w' ⟨v, X, rfl, h1, _, h3⟩; exact ⟨_, rfl, X, h1, h3⟩)) ?_
  rintro zq w10 ⟨Xq, rz, bz⟩
  have BX0 : Hid (Blk w10 (w.heap.size) cs0 24) := BX0.out.below bz
  have BEL : Hid (Below w.heap.size w w10) := Below.next BEL.out bz
  have Vw : Hid (VarSe w10 w2.heap.size w4.heap.size w3.heap.size cw ra Yw) := Vw.out.below bz
  have Vx0 : Hid (VarSe w10 w4.heap.size w6.heap.size w5.heap.size cx0 s Xx0) := Vx0.out.below bz
  have Vg : Hid (VarSe w10 w6.heap.size w8.heap.size w7.heap.size cg ra Yg) := Vg.out.below bz
  have TQ : Hid (RdSe w10 zq s Xq) := rz
  refine ⟨_, by simp [Act.put]; rfl, hK _ _ ⟨⟨BX0.out, Vx0.out.blk⟩, ?_⟩⟩
  clear hK rz bz
  refine onlyH (o := ?o14) 3 (by kernel_rfl) ?h14 ?r14
  case h14 => simp only [aT, aS, aZ]; rfl
  intro K hK
  refine op_call2 11 _ _ _ Try.f11 (fun w' => Below w10.heap.size w10 w') (.bool (decide (s = s))) rfl rfl Try.func11 (by kernel_rfl) (by kernel_rfl) (eqSe_any (.agg cx0) zq s s Xx0 Xq w10 Vx0.out.rd TQ.out HF0.out.wide HF0.out.wide) ⟨_, by simp [Act.put]; rfl, ?_⟩
  intro w11 bz
  have BX0 : Hid (Blk w11 (w.heap.size) cs0 24) := BX0.out.below bz
  have BEL : Hid (Below w.heap.size w w11) := Below.next BEL.out bz
  have Vw : Hid (VarSe w11 w2.heap.size w4.heap.size w3.heap.size cw ra Yw) := Vw.out.below bz
  have Vx0 : Hid (VarSe w11 w4.heap.size w6.heap.size w5.heap.size cx0 s Xx0) := Vx0.out.below bz
  have Vg : Hid (VarSe w11 w6.heap.size w8.heap.size w7.heap.size cg ra Yg) := Vg.out.below bz
  refine hK _ _ ⟨⟨BX0.out, Vx0.out.blk⟩, ?_⟩
  clear hK bz TQ
  refine takeH (o := ?o15) 4 (.bool false) ?h15 ?r15
  case h15 => simp only [aT, aS, aZ]; rfl
  refine ⟨_, by simp [Act.put]; rfl, by kernel_rfl, by kernel_rfl, by kernel_rfl, fun _ _ _ h => h, (.inl ⟨rfl, fun W _ => by go_simp⟩), ⟨BX0.out, Vx0.out.blk⟩, ?_⟩
  refine wpAnyH_done (by kernel_rfl) ?_ _
  go_wp2_with (first | go_skip | (with_reducible refine stopLoad 24 rfl ?_) | (with_reducible refine stopLoad 28 rfl ?_) | (with_reducible refine stopStore 28 rfl ?_))
  refine load_any 28 _ cx0 28 _ Vx0.out.blk rfl rfl rfl Try.underlying28 rfl (seSize Vx0.out.sz) ?_
  go_wp2_with fail
  refine (markSe_any _ _ s Xx0 1 _ Vx0.out.rd Vx0.out.own HF0.out.wide (by omega) (by have := HMI0.out; omega)).mono ?_
  rintro e w12 ⟨rfl, mk⟩
  have NBX0 : Hid (Blk w12 (w.heap.size) cs0 24) := BX0.out.agree (mk.only.block _ BX0.out.lt (fun hb => by have := Vx0.out.own.ge _ hb; have := LB0.out; have := O1.out; have := O2.out; have := O3.out; have := O4.out; have := O5.out; omega))
  have NBEL : Hid (Below w.heap.size w w12) := mk.only.below BEL.out BEL.out.size (fun b hb => by have := Vx0.out.own.ge b hb; have := LB0.out; have := O1.out; have := O2.out; have := O3.out; have := O4.out; have := O5.out; omega)
  have NVw : Hid (VarSe w12 w2.heap.size w4.heap.size w3.heap.size cw ra Yw) := Vw.out.only' mk.only Vx0.out.lt Vx0.out.own.ge (.inl (by have := LB0.out; have := O1.out; have := O2.out; have := O3.out; have := O4.out; have := O5.out; omega))
  have NVg : Hid (VarSe w12 w6.heap.size w8.heap.size w7.heap.size cg ra Yg) := Vg.out.only' mk.only Vx0.out.lt Vx0.out.own.ge (.inr (by have := LB0.out; have := O1.out; have := O2.out; have := O3.out; have := O4.out; have := O5.out; omega))
  have BX0 : Hid (Blk w12 (w.heap.size) cs0 24) := NBX0.out
  have BEL : Hid (Below w.heap.size w w12) := NBEL.out
  have Vw : Hid (VarSe w12 w2.heap.size w4.heap.size w3.heap.size cw ra Yw) := NVw.out
  have Vg : Hid (VarSe w12 w6.heap.size w8.heap.size w7.heap.size cg ra Yg) := NVg.out
  clear NBX0 NBEL NVw NVg
  obtain ⟨ki0, hki⟩ : ∃ k, k = 1 + s.many := ⟨_, rfl⟩
  rw [← hki]
  have HKI0 : Hid (0 ≤ ki0 ∧ ki0 ≤ 20000000) := by have := HMI0.out; exact ⟨by omega, by omega⟩
  clear hki mk Vx0
  have hkid : decide (ki0 < 0) = false := dec_false (by have := HKI0.out; omega)
  go_wp2_with (first | go_skip | (with_reducible refine stopLoad 24 rfl ?_) | (with_reducible refine stopLoad 28 rfl ?_) | (with_reducible refine stopStore 28 rfl ?_))
  refine load_any 28 _ cg 28 _ Vg.out.blk rfl rfl rfl Try.underlying28 rfl (seSize Vg.out.sz) ?_
  go_wp2_with (first | go_skip | (with_reducible refine stopLoad 24 rfl ?_) | (with_reducible refine stopLoad 28 rfl ?_) | (with_reducible refine stopStore 28 rfl ?_))
  refine load_any 28 _ cw 28 _ Vw.out.blk rfl rfl rfl Try.underlying28 rfl (seSize Vw.out.sz) ?_
  go_wp2_with fail
  refine (eqSe_any _ _ ra ra Yg Yw _ Vg.out.rd Vw.out.rd HM.out.1 HM.out.1).mono ?_
  rintro e w13 ⟨rfl, hb⟩
  have BX0 : Hid (Blk w13 (w.heap.size) cs0 24) := BX0.out.below hb
  have BEL : Hid (Below w.heap.size w w13) := Below.next BEL.out hb
  have Vw : Hid (VarSe w13 w2.heap.size w4.heap.size w3.heap.size cw ra Yw) := Vw.out.below hb
  have Vg : Hid (VarSe w13 w6.heap.size w8.heap.size w7.heap.size cg ra Yg) := Vg.out.below hb
  clear hb
  have hdec : decide (ra = ra) = true := by simp
  rw [hdec]
  clear hdec
  go_wp2_with (first | go_skip | (with_reducible refine stopLoad 24 rfl ?_) | (with_reducible refine stopLoad 28 rfl ?_) | (with_reducible refine stopStore 28 rfl ?_))
  refine load_any 28 _ cg 28 _ Vg.out.blk rfl rfl rfl Try.underlying28 rfl (seSize Vg.out.sz) ?_
  go_wp2_with fail
  refine (markSe_any w6.heap.size _ ra Yg 1 _ Vg.out.rd Vg.out.own HM.out.1 (by omega) (by have := HM.out; omega)).mono ?_
  rintro e w14 ⟨rfl, mk⟩
  have NG : Hid (VarSe w14 w6.heap.size w8.heap.size w7.heap.size cg (ra.marked 1) Yg) := Vg.out.mark mk
  have NBX0 : Hid (Blk w14 (w.heap.size) cs0 24) := BX0.out.agree (mk.only.block _ BX0.out.lt (fun hb => by have := Vg.out.own.ge _ hb; have := LB0.out; have := O1.out; have := O2.out; have := O3.out; have := O4.out; have := O5.out; omega))
  have NBEL : Hid (Below w.heap.size w w14) := mk.only.below BEL.out BEL.out.size (fun b hb => by have := Vg.out.own.ge b hb; have := LB0.out; have := O1.out; have := O2.out; have := O3.out; have := O4.out; have := O5.out; omega)
  have NVw : Hid (VarSe w14 w2.heap.size w4.heap.size w3.heap.size cw ra Yw) := Vw.out.only' mk.only Vg.out.lt Vg.out.own.ge (.inl (by have := LB0.out; have := O1.out; have := O2.out; have := O3.out; have := O4.out; have := O5.out; omega))
  have BX0 : Hid (Blk w14 (w.heap.size) cs0 24) := NBX0.out
  have BEL : Hid (Below w.heap.size w w14) := NBEL.out
  have Vw : Hid (VarSe w14 w2.heap.size w4.heap.size w3.heap.size cw ra Yw) := NVw.out
  clear NBX0 NBEL NVw
  have Vg : Hid (VarSe w14 w6.heap.size w8.heap.size w7.heap.size cg (ra.marked 1) Yg) := NG.out
  obtain ⟨km, hkm⟩ : ∃ k, k = 1 + ra.many := ⟨_, rfl⟩
  rw [← hkm]
  have HKM : Hid (km = 1 + ra.many) := hkm
  have hkm0 : 0 ≤ km := by have := HM.out; omega
  have hkmn : decide (km < 0) = false := dec_false (by omega)
  have hkme : (km != km) = false := by simp
  clear hkm mk NG
  go_wp2_with (first | go_skip | (with_reducible refine stopLoad 24 rfl ?_) | (with_reducible refine stopLoad 28 rfl ?_) | (with_reducible refine stopStore 28 rfl ?_))
  refine load_any 28 _ cg 28 _ Vg.out.blk rfl rfl rfl Try.underlying28 rfl (seSize Vg.out.sz) ?_
  go_wp2_with fail
  refine (heldSe_any _ ra Yg 1 _ Vg.out.rd HM.out.1 (by omega) (by have := HM.out; omega)).mono ?_
  rintro e w15 ⟨rfl, hb⟩
  have BX0 : Hid (Blk w15 (w.heap.size) cs0 24) := BX0.out.below hb
  have BEL : Hid (Below w.heap.size w w15) := Below.next BEL.out hb
  have Vw : Hid (VarSe w15 w2.heap.size w4.heap.size w3.heap.size cw ra Yw) := Vw.out.below hb
  have Vg : Hid (VarSe w15 w6.heap.size w8.heap.size w7.heap.size cg (ra.marked 1) Yg) := Vg.out.below hb
  clear hb
  rw [← HKM.out]
  go_wp2_with (first | go_skip | (with_reducible refine stopLoad 24 rfl ?_) | (with_reducible refine stopLoad 28 rfl ?_) | (with_reducible refine stopStore 28 rfl ?_))
  refine load_any 24 (w.heap.size) cs0 24 _ BX0.out rfl rfl rfl Try.underlying24 rfl (lseSize HC0.out) ?_
  go_wp2_with fail
  refine (toSe_any _ s F _ (HH0.out.1.below BEL.out) HF0.out).mono ?_
  rintro e w16 ⟨zth, Xth, rfl, rz, oz, bz⟩
  have BX0 : Hid (Blk w16 (w.heap.size) cs0 24) := BX0.out.below bz
  have BEL : Hid (Below w.heap.size w w16) := Below.next BEL.out bz
  have Vw : Hid (VarSe w16 w2.heap.size w4.heap.size w3.heap.size cw ra Yw) := Vw.out.below bz
  have Vg : Hid (VarSe w16 w6.heap.size w8.heap.size w7.heap.size cg (ra.marked 1) Yg) := Vg.out.below bz
  have Tth : Hid (RdSe w16 zth s Xth ∧ Own w15.heap.size w16 Xth ∧ Below w15.heap.size w15 w16) := ⟨rz, oz, bz⟩
  have O6 : Hid (w15.heap.size ≤ w16.heap.size) := by show _ ≤ _; exact bz.size
  clear rz oz bz
  go_wp2_with fail
  refine (seGrantImpl_any _ s c Xth _ (Tth.out.1) HF0.out.wide).mono ?_
  intro e w17 hres
  rw [← HZ.out] at hres
  obtain ⟨zv, Yh, rfl, ry, oy, bz⟩ := hres
  obtain ⟨ch, rfl, szh, onh⟩ := ry.cells
  have BX0 : Hid (Blk w17 (w.heap.size) cs0 24) := BX0.out.below bz
  have BEL : Hid (Below w.heap.size w w17) := Below.next BEL.out bz
  have Vw : Hid (VarSe w17 w2.heap.size w4.heap.size w3.heap.size cw ra Yw) := Vw.out.below bz
  have Vg : Hid (VarSe w17 w6.heap.size w8.heap.size w7.heap.size cg (ra.marked 1) Yg) := Vg.out.below bz
  have TT : Hid (RdSe w17 (.agg ch) ra Yh ∧ Own w16.heap.size w17 Yh ∧ Below w16.heap.size w16 w17 ∧ ch.size = 5 ∧ ch.all (·.oneCell') = true) := ⟨ry, oy, bz, szh, onh⟩
  clear ry oy bz szh onh Tth
  go_wp2_with (first | go_skip | (with_reducible refine stopLoad 24 rfl ?_) | (with_reducible refine stopLoad 28 rfl ?_) | (with_reducible refine stopStore 28 rfl ?_))
  refine store_fresh 28 w17.heap.size rfl #[.int .i64 0, .int .i64 0, .slice none 0 0, .int .i64 0, .int .i64 0] ch 28 rfl rfl rfl rfl (seSize TT.out.2.2.2.1) TT.out.2.2.2.1.symm TT.out.2.2.2.2 ?_
  intro w18 hg hb
  have BX0 : Hid (Blk w18 (w.heap.size) cs0 24) := BX0.out.below hb
  have BEL : Hid (Below w.heap.size w w18) := Below.next BEL.out hb
  have Vw : Hid (VarSe w18 w2.heap.size w4.heap.size w3.heap.size cw ra Yw) := Vw.out.below hb
  have Vg : Hid (VarSe w18 w6.heap.size w8.heap.size w7.heap.size cg (ra.marked 1) Yg) := Vg.out.below hb
  have Vh : Hid (VarSe w18 w16.heap.size w18.heap.size w17.heap.size ch ra Yh) := VarSe.fresh TT.out.1 TT.out.2.1 TT.out.2.2.1 TT.out.2.2.2.1 hg hb
  have O7 : Hid (w16.heap.size ≤ w18.heap.size) := by show _ ≤ _; have := TT.out.2.2.1.size; have := hb.size; omega
  clear hg hb TT
  go_wp2_with (first | go_skip | (with_reducible refine stopLoad 24 rfl ?_) | (with_reducible refine stopLoad 28 rfl ?_) | (with_reducible refine stopStore 28 rfl ?_))
  refine load_any 28 _ ch 28 _ Vh.out.blk rfl rfl rfl Try.underlying28 rfl (seSize Vh.out.sz) ?_
  go_wp2_with (first | go_skip | (with_reducible refine stopLoad 24 rfl ?_) | (with_reducible refine stopLoad 28 rfl ?_) | (with_reducible refine stopStore 28 rfl ?_))
  refine load_any 28 _ cw 28 _ Vw.out.blk rfl rfl rfl Try.underlying28 rfl (seSize Vw.out.sz) ?_
  go_wp2_with fail
  refine (eqSe_any _ _ ra ra Yh Yw _ Vh.out.rd Vw.out.rd HM.out.1 HM.out.1).mono ?_
  rintro e w19 ⟨rfl, hb⟩
  have BX0 : Hid (Blk w19 (w.heap.size) cs0 24) := BX0.out.below hb
  have BEL : Hid (Below w.heap.size w w19) := Below.next BEL.out hb
  have Vw : Hid (VarSe w19 w2.heap.size w4.heap.size w3.heap.size cw ra Yw) := Vw.out.below hb
  have Vg : Hid (VarSe w19 w6.heap.size w8.heap.size w7.heap.size cg (ra.marked 1) Yg) := Vg.out.below hb
  have Vh : Hid (VarSe w19 w16.heap.size w18.heap.size w17.heap.size ch ra Yh) := Vh.out.below hb
  clear hb
  have hdec : decide (ra = ra) = true := by simp
  rw [hdec]
  clear hdec
  go_wp2_with (first | go_skip | (with_reducible refine stopLoad 24 rfl ?_) | (with_reducible refine stopLoad 28 rfl ?_) | (with_reducible refine stopStore 28 rfl ?_))
  refine load_any 28 _ cg 28 _ Vg.out.blk rfl rfl rfl Try.underlying28 rfl (seSize Vg.out.sz) ?_
  go_wp2_with fail
  refine (heldSe_any _ ra Yg 1 _ Vg.out.rd HM.out.1 (by omega) (by have := HM.out; omega)).mono ?_
  rintro e w20 ⟨rfl, hb⟩
  have BX0 : Hid (Blk w20 (w.heap.size) cs0 24) := BX0.out.below hb
  have BEL : Hid (Below w.heap.size w w20) := Below.next BEL.out hb
  have Vw : Hid (VarSe w20 w2.heap.size w4.heap.size w3.heap.size cw ra Yw) := Vw.out.below hb
  have Vg : Hid (VarSe w20 w6.heap.size w8.heap.size w7.heap.size cg (ra.marked 1) Yg) := Vg.out.below hb
  have Vh : Hid (VarSe w20 w16.heap.size w18.heap.size w17.heap.size ch ra Yh) := Vh.out.below hb
  clear hb
  rw [← HKM.out]
  go_wp2
  go_ret
  exact ⟨rfl, BEL.out⟩
set_option maxRecDepth 200000 in
theorem lifted (os : Os) (started : os.Started) (H : Type) (enc : TypeId × Value → H) :
    ReturnsInHanded {} Try.checked os 3 .any (Rows.fnExactSeatGrantSpec.pre6 enc Try.prog Try.f3 Rows.fnExactSeatGrantRow.domain false) (Rows.fnExactSeatGrantSpec.post enc Try.prog Try.f3 false true false false) := by
  refine returnsInHanded_of_change (C := Try.checked) own started (by kernel_rfl) Try.func3
    (ChangeSpec.witness6 (enc := enc) (C := Try.checked) false ⟨#[], #[.agg #[.int .i64 0, .int .i64 0, .slice none 0 0, .int .i64 0, .int .i64 0], .int .i64 0], []⟩ 8 (by kernel_rfl) (by kernel_rfl) (by kernel_rfl) (by kernel_rfl)) ?_
  intro W base args ds gs before hval0 hW hcnd _
  have hval : ∀ (j : Nat) t v, Try.f3.params[j]? = some t → args[j]? = some v → Value.okWide Try.prog W .any base t v := hval0
  have hW' := hW
  obtain ⟨p, q, hA0, hV, rfl, hfz, hnd⟩ := hW
  have hA : DataW.TrodAll enc Try.prog W 0 (fun _ => true) true Try.f3.params.toList args.toList ds p := hA0
  rw [Try.params3] at hA hval
  obtain ⟨v0, vs0, d0, ds0, p0, q0, hargs0, rfl, rfl, h0, r0⟩ := trodAll_cons hA
  obtain ⟨v1, vs1, d1, ds1, p1, q1, hargs1, rfl, rfl, h1, r1⟩ := trodAll_cons r0
  obtain ⟨rfl, rfl, rfl⟩ := trodAll_nil r1
  obtain rfl : args = #[v0, v1] := by cases args; simp_all
  obtain ⟨rfl, rfl⟩ := trodVars_none hV
  have k0 := h0
  have lt0 : ∀ x ∈ p0, x.block < W.heap.size := by obtain ⟨m, hm⟩ := k0; exact DataW.trod_lt m _ _ _ hm
  obtain ⟨s0, F0, hR0, hv0⟩ := open_Se (hval 0 24 v0 rfl rfl) h0
  obtain ⟨a1, rfl, rfl, rfl, w1⟩ := open_int Try.underlying3 (hval 1 3 v1 rfl rfl) h1
  clear hA0 hval0
  refine (walk a1 v0 s0 F0 W hR0 hv0).mono fun e W' ⟨he, bel⟩ => ?_
  subst he
  exact ⟨_, rfl, _, _, _, [], _, [], hW', trodAll_mk1 (shut_bool Try.underlying4 _), (trodAll_cons_mk (Below.trod sp_laidOut (by kernel_rfl) (of_decide_eq_true (by kernel_rfl)) k0 bel lt0) (trodAll_cons_mk (shut_int Try.underlying3 w1) trodAll_mk0)), rfl, bel.frame _, fun h => by cases h⟩
theorem over : Rows.fnExactSeatGrantRow.holds Try.pinned (OpenSpec.ofChange Rows.fnExactSeatGrantSpec) :=
  OpenClaim.holds_of_wide 3 Try.f3 rfl rfl rfl rfl rfl rfl rfl ⟨rfl, rfl, rfl, rfl, rfl⟩ rfl rfl rfl rfl rfl (by kernel_rfl) Try.func3 (by kernel_rfl)
    (of_decide_eq_true (by kernel_rfl)) (by unfold Func.isWrapper; first | (rw [if_pos (by decide +kernel)]; kernel_rfl) | (rw [if_neg (by decide +kernel)]; exact ⟨rfl, rfl⟩))
    (fun os started H enc _ => lifted os started H enc)
theorem proved : Rows.FnExactSeatGrantSaid := over
#print axioms proved
end Go.Proofs.Ytgkbhhlkaifnoab.fnExactSeatGrant
