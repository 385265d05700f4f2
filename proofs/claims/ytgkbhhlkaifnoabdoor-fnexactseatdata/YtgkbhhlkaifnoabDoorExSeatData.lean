/- For every seat and all numbers (no condition): laws.FnExactSeatData returns true, and its argument reads afterwards as it did: the program's SeatData answers as the model's, writes nothing into its argument, and its answer owns its memory. The library's one variable that errors.As reads starts as the program's text lays it (the card ties it). -/
import Derived.Test.YtgkbhhlkaifnoabDoorB1
import Derived.Test.YtgkbhhlkaifnoabDoorCards
import Derived.Test.YtgkbhhlkaifnoabDoorTie
import Derived.Test.YtgkbhhlkaifnoabDoorB2
import Derived.Test.YtgkbhhlkaifnoabDoorSkLaw
import Derived.ProofKit
import Derived.OpenShut
import Derived.ShutString
import Derived.Below
import Derived.LaidSub
import Derived.LaidHandle
import Derived.Deep.DeepHandedRow
import Derived.Deep.DeepCutAuto
namespace Go.Proofs.YtgkbhhlkaifnoabDoor.fnExactSeatData
open Go.ChangeShapes Go.WideShapes Go.ChangeAt Go.RowKit
set_option linter.unusedVariables false
theorem own : ownKnob Tryd.prog.godebug = none := by kernel_rfl
set_option maxRecDepth 200000 in
set_option maxHeartbeats 16000000 in
theorem walk (c : Int) (k : Int) (n : Int) (v0 : Value) (s : Se) (F : List Nat) (w : World) (h0 : RdSe w v0 s F) (hv0 : s.vast) (hE : ErrAt w) :
    Calls Tryd.prog 3 #[v0, .int .i64 c, .int .i64 k, .int .i64 n] w fun e w' => e = .returned (.bool true) ∧ Below w.heap.size w w' := by
  have HER : Hid (ErrAt w) := hE
  clear hE
  have HH0 : Hid (RdSe w v0 s F ∧ s.vast) := ⟨h0, hv0⟩
  obtain ⟨cs0, rfl, hc0, _⟩ := h0.cells
  have HC0 : Hid (cs0.size = 5) := hc0
  have BX0 : Hid (Blk (w.alloc (.cells cs0 24)) (w.heap.size) cs0 24) := Blk.made _ _ _
  have BEL : Hid (Below w.heap.size w (w.alloc (.cells cs0 24))) := Below.allocW _ (Below.refl _ _) (Nat.le_refl _)
  clear h0 hv0 hc0
  go_enter Tryd.func3, Tryd.ntmps3
  go_wp2_with (first | go_skip | (with_reducible refine stopLoad 24 rfl ?_) | (with_reducible refine stopLoad 28 rfl ?_) | (with_reducible refine stopStore 28 rfl ?_))
  refine load_any 24 (w.heap.size) cs0 24 _ BX0.out rfl rfl rfl Tryd.underlying24 rfl (lseSize HC0.out) ?_
  go_wp2_with fail
  refine (szSe_vast _ s F 1048576 _ (HH0.out.1.below BEL.out) HH0.out.2 (by omega) (by omega)).mono ?_
  rintro e w1 ⟨⟨r0, rfl, ra, rb, rc⟩, hb1⟩
  have BX0 : Hid (Blk w1 (w.heap.size) cs0 24) := BX0.out.below hb1
  have BEL : Hid (Below w.heap.size w w1) := Below.next BEL.out hb1
  by_cases q : r0 < 0
  · clear ra rb rc hb1
    have hq : decide (r0 < 0) = true := dec_true q
    go_wp2
    go_ret
    exact ⟨rfl, BEL.out⟩
  have q' : 0 ≤ r0 := by omega
  have hq : decide (r0 < 0) = false := dec_false q
  have HSZ0 : Hid ((s.taken.length : Int) ≤ 1048576) := by have := rb q'; show _ ≤ _; omega
  have HR0 : Hid (0 ≤ r0 ∧ r0 ≤ 1048576) := ⟨q', by omega⟩
  have HF0 : Hid (s.fits) := (by have := HSZ0.out; show s.taken.length ≤ 1048576; omega)
  have HMI0 : Hid (0 ≤ s.many ∧ s.many ≤ 16777216) := ⟨(Se.many_fits HF0.out).1, by have := (Se.many_fits HF0.out).2; omega⟩
  clear ra rb rc hb1 q q'
  have LB0 : Hid (w.heap.size + 1 ≤ w1.heap.size) := BX0.out.lt
  obtain ⟨ra, rc, hz⟩ : ∃ ra rc, (ra, rc) = s.data c k n := ⟨(s.data c k n).1, (s.data c k n).2, rfl⟩
  have HZ : Hid ((ra, rc) = s.data c k n) := hz
  have HM0 := (show (s.data c k n).1.wide ∧ 0 ≤ (s.data c k n).1.many ∧ (s.data c k n).1.many ≤ 4194304 from ⟨Se.data_wide HF0.out c k n, Se.many_wide (Se.data_wide HF0.out c k n)⟩)
  rw [← hz] at HM0
  have HM : Hid (ra.wide ∧ 0 ≤ ra.many ∧ ra.many ≤ 4194304) := HM0
  have hrc : (rc != rc) = false := by simp
  clear HM0 hz
  go_wp2_with (first | go_skip | (with_reducible refine stopLoad 24 rfl ?_) | (with_reducible refine stopLoad 28 rfl ?_) | (with_reducible refine stopStore 28 rfl ?_))
  refine load_any 24 (w.heap.size) cs0 24 _ BX0.out rfl rfl rfl Tryd.underlying24 rfl (lseSize HC0.out) ?_
  go_wp2_with fail
  refine (toSe_any _ s F _ (HH0.out.1.below BEL.out) HF0.out).mono ?_
  rintro e w2 ⟨ztw, Xtw, rfl, rz, oz, bz⟩
  have BX0 : Hid (Blk w2 (w.heap.size) cs0 24) := BX0.out.below bz
  have BEL : Hid (Below w.heap.size w w2) := Below.next BEL.out bz
  have Ttw : Hid (RdSe w2 ztw s Xtw ∧ Own w1.heap.size w2 Xtw ∧ Below w1.heap.size w1 w2) := ⟨rz, oz, bz⟩
  have O1 : Hid (w1.heap.size ≤ w2.heap.size) := by show _ ≤ _; exact bz.size
  clear rz oz bz
  go_wp2_with fail
  refine (seDataSpec_any _ s c k n Xtw _ (Ttw.out.1) HF0.out.wide).mono ?_
  intro e w3 hres
  rw [← HZ.out] at hres
  obtain ⟨zv, Yw, rfl, ry, oy, bz⟩ := hres
  obtain ⟨cw, rfl, szw, onw⟩ := ry.cells
  have BX0 : Hid (Blk w3 (w.heap.size) cs0 24) := BX0.out.below bz
  have BEL : Hid (Below w.heap.size w w3) := Below.next BEL.out bz
  have TT : Hid (RdSe w3 (.agg cw) ra Yw ∧ Own w2.heap.size w3 Yw ∧ Below w2.heap.size w2 w3 ∧ cw.size = 5 ∧ cw.all (·.oneCell') = true) := ⟨ry, oy, bz, szw, onw⟩
  clear ry oy bz szw onw Ttw
  go_wp2_with (first | go_skip | (with_reducible refine stopLoad 24 rfl ?_) | (with_reducible refine stopLoad 28 rfl ?_) | (with_reducible refine stopStore 28 rfl ?_))
  refine store_fresh 28 w3.heap.size rfl #[.int .i64 0, .int .i64 0, .slice none 0 0, .int .i64 0, .int .i64 0] cw 28 rfl rfl rfl rfl (seSize TT.out.2.2.2.1) TT.out.2.2.2.1.symm TT.out.2.2.2.2 ?_
  intro w4 hg hb
  have BX0 : Hid (Blk w4 (w.heap.size) cs0 24) := BX0.out.below hb
  have BEL : Hid (Below w.heap.size w w4) := Below.next BEL.out hb
  have Vw : Hid (VarSe w4 w2.heap.size w4.heap.size w3.heap.size cw ra Yw) := VarSe.fresh TT.out.1 TT.out.2.1 TT.out.2.2.1 TT.out.2.2.2.1 hg hb
  have O2 : Hid (w2.heap.size ≤ w4.heap.size) := by show _ ≤ _; have := TT.out.2.2.1.size; have := hb.size; omega
  clear hg hb TT
  go_wp2_with (first | go_skip | (with_reducible refine stopLoad 24 rfl ?_) | (with_reducible refine stopLoad 28 rfl ?_) | (with_reducible refine stopStore 28 rfl ?_))
  refine load_any 24 (w.heap.size) cs0 24 _ BX0.out rfl rfl rfl Tryd.underlying24 rfl (lseSize HC0.out) ?_
  go_wp2_with fail
  refine (toSe_any _ s F _ (HH0.out.1.below BEL.out) HF0.out).mono ?_
  rintro e w5 ⟨zx0, Xx0, rfl, rz, oz, bz⟩
  have BX0 : Hid (Blk w5 (w.heap.size) cs0 24) := BX0.out.below bz
  have BEL : Hid (Below w.heap.size w w5) := Below.next BEL.out bz
  have Vw : Hid (VarSe w5 w2.heap.size w4.heap.size w3.heap.size cw ra Yw) := Vw.out.below bz
  have Tx0 : Hid (RdSe w5 zx0 s Xx0 ∧ Own w4.heap.size w5 Xx0 ∧ Below w4.heap.size w4 w5) := ⟨rz, oz, bz⟩
  have O3 : Hid (w4.heap.size ≤ w5.heap.size) := by show _ ≤ _; exact bz.size
  clear rz oz bz
  obtain ⟨cx0, rfl, szx0, onx0⟩ := Tx0.out.1.cells
  have SZ : Hid (cx0.size = 5 ∧ cx0.all (·.oneCell') = true) := ⟨szx0, onx0⟩
  clear szx0 onx0
  go_wp2_with (first | go_skip | (with_reducible refine stopLoad 24 rfl ?_) | (with_reducible refine stopLoad 28 rfl ?_) | (with_reducible refine stopStore 28 rfl ?_))
  refine store_fresh 28 w5.heap.size rfl #[.int .i64 0, .int .i64 0, .slice none 0 0, .int .i64 0, .int .i64 0] cx0 28 rfl rfl rfl rfl (seSize SZ.out.1) SZ.out.1.symm SZ.out.2 ?_
  intro w6 hg hb
  have BX0 : Hid (Blk w6 (w.heap.size) cs0 24) := BX0.out.below hb
  have BEL : Hid (Below w.heap.size w w6) := Below.next BEL.out hb
  have Vw : Hid (VarSe w6 w2.heap.size w4.heap.size w3.heap.size cw ra Yw) := Vw.out.below hb
  have Vx0 : Hid (VarSe w6 w4.heap.size w6.heap.size w5.heap.size cx0 s Xx0) := VarSe.fresh Tx0.out.1 Tx0.out.2.1 Tx0.out.2.2 SZ.out.1 hg hb
  have O4 : Hid (w4.heap.size ≤ w6.heap.size) := by show _ ≤ _; have := Tx0.out.2.2.size; have := hb.size; omega
  clear hg hb Tx0 SZ
  go_wp2_with (first | go_skip | (with_reducible refine stopLoad 24 rfl ?_) | (with_reducible refine stopLoad 28 rfl ?_) | (with_reducible refine stopStore 28 rfl ?_))
  refine load_any 28 _ cx0 28 _ Vx0.out.blk rfl rfl rfl Tryd.underlying28 rfl (seSize Vx0.out.sz) ?_
  go_wp2_with fail
  refine (seDataImpl_any _ s c k n Xx0 _ (Vx0.out.rd) (HF0.out : s.taken.length ≤ 1048576) (HER.out.below BEL.out)).mono ?_
  intro e w7 hres
  rw [← HZ.out] at hres
  obtain ⟨zv, Yg, rfl, ry, oy, bz⟩ := hres
  obtain ⟨cg, rfl, szg, ong⟩ := ry.cells
  have BX0 : Hid (Blk w7 (w.heap.size) cs0 24) := BX0.out.below bz
  have BEL : Hid (Below w.heap.size w w7) := Below.next BEL.out bz
  have Vw : Hid (VarSe w7 w2.heap.size w4.heap.size w3.heap.size cw ra Yw) := Vw.out.below bz
  have Vx0 : Hid (VarSe w7 w4.heap.size w6.heap.size w5.heap.size cx0 s Xx0) := Vx0.out.below bz
  have TT : Hid (RdSe w7 (.agg cg) ra Yg ∧ Own w6.heap.size w7 Yg ∧ Below w6.heap.size w6 w7 ∧ cg.size = 5 ∧ cg.all (·.oneCell') = true) := ⟨ry, oy, bz, szg, ong⟩
  clear ry oy bz szg ong
  go_wp2_with (first | go_skip | (with_reducible refine stopLoad 24 rfl ?_) | (with_reducible refine stopLoad 28 rfl ?_) | (with_reducible refine stopStore 28 rfl ?_))
  refine store_fresh 28 w7.heap.size rfl #[.int .i64 0, .int .i64 0, .slice none 0 0, .int .i64 0, .int .i64 0] cg 28 rfl rfl rfl rfl (seSize TT.out.2.2.2.1) TT.out.2.2.2.1.symm TT.out.2.2.2.2 ?_
  intro w8 hg hb
  have BX0 : Hid (Blk w8 (w.heap.size) cs0 24) := BX0.out.below hb
  have BEL : Hid (Below w.heap.size w w8) := Below.next BEL.out hb
  have Vw : Hid (VarSe w8 w2.heap.size w4.heap.size w3.heap.size cw ra Yw) := Vw.out.below hb
  have Vx0 : Hid (VarSe w8 w4.heap.size w6.heap.size w5.heap.size cx0 s Xx0) := Vx0.out.below hb
  have Vg : Hid (VarSe w8 w6.heap.size w8.heap.size w7.heap.size cg ra Yg) := VarSe.fresh TT.out.1 TT.out.2.1 TT.out.2.2.1 TT.out.2.2.2.1 hg hb
  have O5 : Hid (w6.heap.size ≤ w8.heap.size) := by show _ ≤ _; have := TT.out.2.2.1.size; have := hb.size; omega
  clear hg hb TT
  go_wp2_with (first | go_skip | (with_reducible refine stopLoad 24 rfl ?_) | (with_reducible refine stopLoad 28 rfl ?_) | (with_reducible refine stopStore 28 rfl ?_))
  refine load_any 28 _ cg 28 _ Vg.out.blk rfl rfl rfl Tryd.underlying28 rfl (seSize Vg.out.sz) ?_
  go_wp2_with (first | go_skip | (with_reducible refine stopLoad 24 rfl ?_) | (with_reducible refine stopLoad 28 rfl ?_) | (with_reducible refine stopStore 28 rfl ?_))
  refine load_any 28 _ cw 28 _ Vw.out.blk rfl rfl rfl Tryd.underlying28 rfl (seSize Vw.out.sz) ?_
  go_wp2_with fail
  refine (eqSe_any _ _ ra ra Yg Yw _ Vg.out.rd Vw.out.rd HM.out.1 HM.out.1).mono ?_
  rintro e w9 ⟨rfl, hb⟩
  have BX0 : Hid (Blk w9 (w.heap.size) cs0 24) := BX0.out.below hb
  have BEL : Hid (Below w.heap.size w w9) := Below.next BEL.out hb
  have Vw : Hid (VarSe w9 w2.heap.size w4.heap.size w3.heap.size cw ra Yw) := Vw.out.below hb
  have Vx0 : Hid (VarSe w9 w4.heap.size w6.heap.size w5.heap.size cx0 s Xx0) := Vx0.out.below hb
  have Vg : Hid (VarSe w9 w6.heap.size w8.heap.size w7.heap.size cg ra Yg) := Vg.out.below hb
  clear hb
  have hdec : decide (ra = ra) = true := by simp
  rw [hdec]
  clear hdec
  go_wp2_with fail
  have BD := (Below.refl w9.heap.size w9).drew
  obtain ⟨Y10, hY10⟩ : ∃ Y, Y = w9.drew := ⟨_, rfl⟩
  rw [← hY10] at BD
  have BX0 : Hid (Blk Y10 (w.heap.size) cs0 24) := BX0.out.below BD
  have BEL : Hid (Below w.heap.size w Y10) := Below.next BEL.out BD
  have Vw : Hid (VarSe Y10 w2.heap.size w4.heap.size w3.heap.size cw ra Yw) := Vw.out.below BD
  have Vx0 : Hid (VarSe Y10 w4.heap.size w6.heap.size w5.heap.size cx0 s Xx0) := Vx0.out.below BD
  have Vg : Hid (VarSe Y10 w6.heap.size w8.heap.size w7.heap.size cg ra Yg) := Vg.out.below BD
  refine wp_region_held (S := fun W => Blk W (w.heap.size) cs0 24 ∧ Blk W (w5.heap.size) cx0 28) (by kernel_rfl) ?_
  change wpAnyH _ _ _ _ _ _ _ _ (World.drew _)
  rw [← hY10]
  clear hY10 BD
  refine takeH (o := ?o1) 0 (.agg cx0) ?h1 ?r1
  case h1 => simp only [aT, aZ]; rfl
  refine ⟨_, by simp [Act.put]; rfl, by kernel_rfl, by kernel_rfl, by kernel_rfl, fun _ _ _ h => h, (yields_whole 28 _ cx0 28 _ rfl rfl rfl Tryd.underlying28 rfl (seSize Vx0.out.sz) (fun W hW => hW.2)), ⟨BX0.out, Vx0.out.blk⟩, ?_⟩
  refine takeH (o := ?o2) 1 (.agg cs0) ?h2 ?r2
  case h2 => simp only [aT, aS, aZ]; rfl
  refine ⟨_, by simp [Act.put]; rfl, by kernel_rfl, by kernel_rfl, by kernel_rfl, fun _ _ _ h => h, (yields_whole 24 _ cs0 24 _ rfl rfl rfl Tryd.underlying24 rfl (lseSize HC0.out) (fun W hW => hW.1)), ⟨BX0.out, Vx0.out.blk⟩, ?_⟩
  refine onlyH (o := ?o3) 2 (by kernel_rfl) ?h3 ?r3
  case h3 => simp only [aT, aS, aZ]; rfl
  intro K hK
  refine op_call1 6 _ _ Tryd.f6 (fun v w' => ∃ X, RdSe w' v s X ∧ Below Y10.heap.size Y10 w') rfl rfl Tryd.func6 (by kernel_rfl) (by kernel_rfl) ((toSe_any _ s F Y10 (HH0.out.1.below BEL.out) HF0.out).mono (by rintro e w' ⟨v, X, rfl, h1, _, h3⟩; exact ⟨_, rfl, X, h1, h3⟩)) ?_
  rintro zq w10 ⟨Xq, rz, bz⟩
  have BX0 : Hid (Blk w10 (w.heap.size) cs0 24) := BX0.out.below bz
  have BEL : Hid (Below w.heap.size w w10) := Below.next BEL.out bz
  have Vw : Hid (VarSe w10 w2.heap.size w4.heap.size w3.heap.size cw ra Yw) := Vw.out.below bz
  have Vx0 : Hid (VarSe w10 w4.heap.size w6.heap.size w5.heap.size cx0 s Xx0) := Vx0.out.below bz
  have Vg : Hid (VarSe w10 w6.heap.size w8.heap.size w7.heap.size cg ra Yg) := Vg.out.below bz
  have TQ : Hid (RdSe w10 zq s Xq) := rz
  refine ⟨_, by simp [Act.put]; rfl, hK _ _ ⟨⟨BX0.out, Vx0.out.blk⟩, ?_⟩⟩
  clear hK rz bz
  refine onlyH (o := ?o4) 3 (by kernel_rfl) ?h4 ?r4
  case h4 => simp only [aT, aS, aZ]; rfl
  intro K hK
  refine op_call2 8 _ _ _ Tryd.f8 (fun w' => Below w10.heap.size w10 w') (.bool (decide (s = s))) rfl rfl Tryd.func8 (by kernel_rfl) (by kernel_rfl) (eqSe_any (.agg cx0) zq s s Xx0 Xq w10 Vx0.out.rd TQ.out HF0.out.wide HF0.out.wide) ⟨_, by simp [Act.put]; rfl, ?_⟩
  intro w11 bz
  have BX0 : Hid (Blk w11 (w.heap.size) cs0 24) := BX0.out.below bz
  have BEL : Hid (Below w.heap.size w w11) := Below.next BEL.out bz
  have Vw : Hid (VarSe w11 w2.heap.size w4.heap.size w3.heap.size cw ra Yw) := Vw.out.below bz
  have Vx0 : Hid (VarSe w11 w4.heap.size w6.heap.size w5.heap.size cx0 s Xx0) := Vx0.out.below bz
  have Vg : Hid (VarSe w11 w6.heap.size w8.heap.size w7.heap.size cg ra Yg) := Vg.out.below bz
  refine hK _ _ ⟨⟨BX0.out, Vx0.out.blk⟩, ?_⟩
  clear hK bz TQ
  refine takeH (o := ?o5) 4 (.bool false) ?h5 ?r5
  case h5 => simp only [aT, aS, aZ]; rfl
  refine ⟨_, by simp [Act.put]; rfl, by kernel_rfl, by kernel_rfl, by kernel_rfl, fun _ _ _ h => h, (.inl ⟨rfl, fun W _ => by go_simp⟩), ⟨BX0.out, Vx0.out.blk⟩, ?_⟩
  refine wpAnyH_done (by kernel_rfl) ?_ _
  go_wp2_with (first | go_skip | (with_reducible refine stopLoad 24 rfl ?_) | (with_reducible refine stopLoad 28 rfl ?_) | (with_reducible refine stopStore 28 rfl ?_))
  refine load_any 28 _ cx0 28 _ Vx0.out.blk rfl rfl rfl Tryd.underlying28 rfl (seSize Vx0.out.sz) ?_
  go_wp2_with fail
  refine (markSe_any _ _ s Xx0 1 _ Vx0.out.rd Vx0.out.own HF0.out.wide (by omega) (by have := HMI0.out; omega)).mono ?_
  rintro e w12 ⟨rfl, mk⟩
  have NBX0 : Hid (Blk w12 (w.heap.size) cs0 24) := BX0.out.agree (mk.only.block _ BX0.out.lt (fun hb => by have := Vx0.out.own.ge _ hb; have := LB0.out; have := O1.out; have := O2.out; have := O3.out; have := O4.out; have := O5.out; omega))
  have NBEL : Hid (Below w.heap.size w w12) := mk.only.below BEL.out BEL.out.size (fun b hb => by have := Vx0.out.own.ge b hb; have := LB0.out; have := O1.out; have := O2.out; have := O3.out; have := O4.out; have := O5.out; omega)
  have NVw : Hid (VarSe w12 w2.heap.size w4.heap.size w3.heap.size cw ra Yw) := Vw.out.only' mk.only Vx0.out.lt Vx0.out.own.ge (.inl (by have := LB0.out; have := O1.out; have := O2.out; have := O3.out; have := O4.out; have := O5.out; omega))
  have NVg : Hid (VarSe w12 w6.heap.size w8.heap.size w7.heap.size cg ra Yg) := Vg.out.only' mk.only Vx0.out.lt Vx0.out.own.ge (.inr (by have := LB0.out; have := O1.out; have := O2.out; have := O3.out; have := O4.out; have := O5.out; omega))
  have BX0 : Hid (Blk w12 (w.heap.size) cs0 24) := NBX0.out
  have BEL : Hid (Below w.heap.size w w12) := NBEL.out
  have Vw : Hid (VarSe w12 w2.heap.size w4.heap.size w3.heap.size cw ra Yw) := NVw.out
  have Vg : Hid (VarSe w12 w6.heap.size w8.heap.size w7.heap.size cg ra Yg) := NVg.out
  clear NBX0 NBEL NVw NVg
  obtain ⟨ki0, hki⟩ : ∃ k, k = 1 + s.many := ⟨_, rfl⟩
  rw [← hki]
  have HKI0 : Hid (0 ≤ ki0 ∧ ki0 ≤ 20000000) := by have := HMI0.out; exact ⟨by omega, by omega⟩
  clear hki mk Vx0
  have hkid : decide (ki0 < 0) = false := dec_false (by have := HKI0.out; omega)
  go_wp2_with (first | go_skip | (with_reducible refine stopLoad 24 rfl ?_) | (with_reducible refine stopLoad 28 rfl ?_) | (with_reducible refine stopStore 28 rfl ?_))
  refine load_any 28 _ cg 28 _ Vg.out.blk rfl rfl rfl Tryd.underlying28 rfl (seSize Vg.out.sz) ?_
  go_wp2_with (first | go_skip | (with_reducible refine stopLoad 24 rfl ?_) | (with_reducible refine stopLoad 28 rfl ?_) | (with_reducible refine stopStore 28 rfl ?_))
  refine load_any 28 _ cw 28 _ Vw.out.blk rfl rfl rfl Tryd.underlying28 rfl (seSize Vw.out.sz) ?_
  go_wp2_with fail
  refine (eqSe_any _ _ ra ra Yg Yw _ Vg.out.rd Vw.out.rd HM.out.1 HM.out.1).mono ?_
  rintro e w13 ⟨rfl, hb⟩
  have BX0 : Hid (Blk w13 (w.heap.size) cs0 24) := BX0.out.below hb
  have BEL : Hid (Below w.heap.size w w13) := Below.next BEL.out hb
  have Vw : Hid (VarSe w13 w2.heap.size w4.heap.size w3.heap.size cw ra Yw) := Vw.out.below hb
  have Vg : Hid (VarSe w13 w6.heap.size w8.heap.size w7.heap.size cg ra Yg) := Vg.out.below hb
  clear hb
  have hdec : decide (ra = ra) = true := by simp
  rw [hdec]
  clear hdec
  go_wp2_with (first | go_skip | (with_reducible refine stopLoad 24 rfl ?_) | (with_reducible refine stopLoad 28 rfl ?_) | (with_reducible refine stopStore 28 rfl ?_))
  refine load_any 28 _ cg 28 _ Vg.out.blk rfl rfl rfl Tryd.underlying28 rfl (seSize Vg.out.sz) ?_
  go_wp2_with fail
  refine (markSe_any w6.heap.size _ ra Yg 1 _ Vg.out.rd Vg.out.own HM.out.1 (by omega) (by have := HM.out; omega)).mono ?_
  rintro e w14 ⟨rfl, mk⟩
  have NG : Hid (VarSe w14 w6.heap.size w8.heap.size w7.heap.size cg (ra.marked 1) Yg) := Vg.out.mark mk
  have NBX0 : Hid (Blk w14 (w.heap.size) cs0 24) := BX0.out.agree (mk.only.block _ BX0.out.lt (fun hb => by have := Vg.out.own.ge _ hb; have := LB0.out; have := O1.out; have := O2.out; have := O3.out; have := O4.out; have := O5.out; omega))
  have NBEL : Hid (Below w.heap.size w w14) := mk.only.below BEL.out BEL.out.size (fun b hb => by have := Vg.out.own.ge b hb; have := LB0.out; have := O1.out; have := O2.out; have := O3.out; have := O4.out; have := O5.out; omega)
  have NVw : Hid (VarSe w14 w2.heap.size w4.heap.size w3.heap.size cw ra Yw) := Vw.out.only' mk.only Vg.out.lt Vg.out.own.ge (.inl (by have := LB0.out; have := O1.out; have := O2.out; have := O3.out; have := O4.out; have := O5.out; omega))
  have BX0 : Hid (Blk w14 (w.heap.size) cs0 24) := NBX0.out
  have BEL : Hid (Below w.heap.size w w14) := NBEL.out
  have Vw : Hid (VarSe w14 w2.heap.size w4.heap.size w3.heap.size cw ra Yw) := NVw.out
  clear NBX0 NBEL NVw
  have Vg : Hid (VarSe w14 w6.heap.size w8.heap.size w7.heap.size cg (ra.marked 1) Yg) := NG.out
  obtain ⟨km, hkm⟩ : ∃ k, k = 1 + ra.many := ⟨_, rfl⟩
  rw [← hkm]
  have HKM : Hid (km = 1 + ra.many) := hkm
  have hkm0 : 0 ≤ km := by have := HM.out; omega
  have hkmn : decide (km < 0) = false := dec_false (by omega)
  have hkme : (km != km) = false := by simp
  clear hkm mk NG
  go_wp2_with (first | go_skip | (with_reducible refine stopLoad 24 rfl ?_) | (with_reducible refine stopLoad 28 rfl ?_) | (with_reducible refine stopStore 28 rfl ?_))
  refine load_any 28 _ cg 28 _ Vg.out.blk rfl rfl rfl Tryd.underlying28 rfl (seSize Vg.out.sz) ?_
  go_wp2_with fail
  refine (heldSe_any _ ra Yg 1 _ Vg.out.rd HM.out.1 (by omega) (by have := HM.out; omega)).mono ?_
  rintro e w15 ⟨rfl, hb⟩
  have BX0 : Hid (Blk w15 (w.heap.size) cs0 24) := BX0.out.below hb
  have BEL : Hid (Below w.heap.size w w15) := Below.next BEL.out hb
  have Vw : Hid (VarSe w15 w2.heap.size w4.heap.size w3.heap.size cw ra Yw) := Vw.out.below hb
  have Vg : Hid (VarSe w15 w6.heap.size w8.heap.size w7.heap.size cg (ra.marked 1) Yg) := Vg.out.below hb
  clear hb
  rw [← HKM.out]
  go_wp2_with (first | go_skip | (with_reducible refine stopLoad 24 rfl ?_) | (with_reducible refine stopLoad 28 rfl ?_) | (with_reducible refine stopStore 28 rfl ?_))
  refine load_any 24 (w.heap.size) cs0 24 _ BX0.out rfl rfl rfl Tryd.underlying24 rfl (lseSize HC0.out) ?_
  go_wp2_with fail
  refine (toSe_any _ s F _ (HH0.out.1.below BEL.out) HF0.out).mono ?_
  rintro e w16 ⟨zth, Xth, rfl, rz, oz, bz⟩
  have BX0 : Hid (Blk w16 (w.heap.size) cs0 24) := BX0.out.below bz
  have BEL : Hid (Below w.heap.size w w16) := Below.next BEL.out bz
  have Vw : Hid (VarSe w16 w2.heap.size w4.heap.size w3.heap.size cw ra Yw) := Vw.out.below bz
  have Vg : Hid (VarSe w16 w6.heap.size w8.heap.size w7.heap.size cg (ra.marked 1) Yg) := Vg.out.below bz
  have Tth : Hid (RdSe w16 zth s Xth ∧ Own w15.heap.size w16 Xth ∧ Below w15.heap.size w15 w16) := ⟨rz, oz, bz⟩
  have O6 : Hid (w15.heap.size ≤ w16.heap.size) := by show _ ≤ _; exact bz.size
  clear rz oz bz
  go_wp2_with fail
  refine (seDataImpl_any _ s c k n Xth _ (Tth.out.1) (HF0.out : s.taken.length ≤ 1048576) (HER.out.below BEL.out)).mono ?_
  intro e w17 hres
  rw [← HZ.out] at hres
  obtain ⟨zv, Yh, rfl, ry, oy, bz⟩ := hres
  obtain ⟨ch, rfl, szh, onh⟩ := ry.cells
  have BX0 : Hid (Blk w17 (w.heap.size) cs0 24) := BX0.out.below bz
  have BEL : Hid (Below w.heap.size w w17) := Below.next BEL.out bz
  have Vw : Hid (VarSe w17 w2.heap.size w4.heap.size w3.heap.size cw ra Yw) := Vw.out.below bz
  have Vg : Hid (VarSe w17 w6.heap.size w8.heap.size w7.heap.size cg (ra.marked 1) Yg) := Vg.out.below bz
  have TT : Hid (RdSe w17 (.agg ch) ra Yh ∧ Own w16.heap.size w17 Yh ∧ Below w16.heap.size w16 w17 ∧ ch.size = 5 ∧ ch.all (·.oneCell') = true) := ⟨ry, oy, bz, szh, onh⟩
  clear ry oy bz szh onh Tth
  go_wp2_with (first | go_skip | (with_reducible refine stopLoad 24 rfl ?_) | (with_reducible refine stopLoad 28 rfl ?_) | (with_reducible refine stopStore 28 rfl ?_))
  refine store_fresh 28 w17.heap.size rfl #[.int .i64 0, .int .i64 0, .slice none 0 0, .int .i64 0, .int .i64 0] ch 28 rfl rfl rfl rfl (seSize TT.out.2.2.2.1) TT.out.2.2.2.1.symm TT.out.2.2.2.2 ?_
  intro w18 hg hb
  have BX0 : Hid (Blk w18 (w.heap.size) cs0 24) := BX0.out.below hb
  have BEL : Hid (Below w.heap.size w w18) := Below.next BEL.out hb
  have Vw : Hid (VarSe w18 w2.heap.size w4.heap.size w3.heap.size cw ra Yw) := Vw.out.below hb
  have Vg : Hid (VarSe w18 w6.heap.size w8.heap.size w7.heap.size cg (ra.marked 1) Yg) := Vg.out.below hb
  have Vh : Hid (VarSe w18 w16.heap.size w18.heap.size w17.heap.size ch ra Yh) := VarSe.fresh TT.out.1 TT.out.2.1 TT.out.2.2.1 TT.out.2.2.2.1 hg hb
  have O7 : Hid (w16.heap.size ≤ w18.heap.size) := by show _ ≤ _; have := TT.out.2.2.1.size; have := hb.size; omega
  clear hg hb TT
  go_wp2_with (first | go_skip | (with_reducible refine stopLoad 24 rfl ?_) | (with_reducible refine stopLoad 28 rfl ?_) | (with_reducible refine stopStore 28 rfl ?_))
  refine load_any 28 _ ch 28 _ Vh.out.blk rfl rfl rfl Tryd.underlying28 rfl (seSize Vh.out.sz) ?_
  go_wp2_with (first | go_skip | (with_reducible refine stopLoad 24 rfl ?_) | (with_reducible refine stopLoad 28 rfl ?_) | (with_reducible refine stopStore 28 rfl ?_))
  refine load_any 28 _ cw 28 _ Vw.out.blk rfl rfl rfl Tryd.underlying28 rfl (seSize Vw.out.sz) ?_
  go_wp2_with fail
  refine (eqSe_any _ _ ra ra Yh Yw _ Vh.out.rd Vw.out.rd HM.out.1 HM.out.1).mono ?_
  rintro e w19 ⟨rfl, hb⟩
  have BX0 : Hid (Blk w19 (w.heap.size) cs0 24) := BX0.out.below hb
  have BEL : Hid (Below w.heap.size w w19) := Below.next BEL.out hb
  have Vw : Hid (VarSe w19 w2.heap.size w4.heap.size w3.heap.size cw ra Yw) := Vw.out.below hb
  have Vg : Hid (VarSe w19 w6.heap.size w8.heap.size w7.heap.size cg (ra.marked 1) Yg) := Vg.out.below hb
  have Vh : Hid (VarSe w19 w16.heap.size w18.heap.size w17.heap.size ch ra Yh) := Vh.out.below hb
  clear hb
  have hdec : decide (ra = ra) = true := by simp
  rw [hdec]
  clear hdec
  go_wp2_with (first | go_skip | (with_reducible refine stopLoad 24 rfl ?_) | (with_reducible refine stopLoad 28 rfl ?_) | (with_reducible refine stopStore 28 rfl ?_))
  refine load_any 28 _ cg 28 _ Vg.out.blk rfl rfl rfl Tryd.underlying28 rfl (seSize Vg.out.sz) ?_
  go_wp2_with fail
  refine (heldSe_any _ ra Yg 1 _ Vg.out.rd HM.out.1 (by omega) (by have := HM.out; omega)).mono ?_
  rintro e w20 ⟨rfl, hb⟩
  have BX0 : Hid (Blk w20 (w.heap.size) cs0 24) := BX0.out.below hb
  have BEL : Hid (Below w.heap.size w w20) := Below.next BEL.out hb
  have Vw : Hid (VarSe w20 w2.heap.size w4.heap.size w3.heap.size cw ra Yw) := Vw.out.below hb
  have Vg : Hid (VarSe w20 w6.heap.size w8.heap.size w7.heap.size cg (ra.marked 1) Yg) := Vg.out.below hb
  have Vh : Hid (VarSe w20 w16.heap.size w18.heap.size w17.heap.size ch ra Yh) := Vh.out.below hb
  clear hb
  rw [← HKM.out]
  go_wp2
  go_ret
  exact ⟨rfl, BEL.out⟩
set_option maxRecDepth 100000
theorem eT : Tryd.prog.globalNamed "errors.errorType" = some 0 := by kernel_rfl
theorem rT : (Tryd.prog.cutTypes.find? (·.1 == "internal/reflectlite.rtype")).map (·.2) = some 80 := by kernel_rfl
theorem oneRow : ((List.range 126).filter fun t => Tryd.prog.rowNamed t [101, 114, 114, 111, 114]) = [49] := by kernel_rfl
theorem typesSize : Tryd.prog.types.size = 126 := by kernel_rfl
/-- What the row's list gives: the variable's one cell. -/
theorem handle {W : World} (h : laidMetH Tryd.prog Rows.fnExactSeatDataRow.laid W) : ErrAt W := by
  have h3 := laidMetH.filter (fun x => x.1 == "errors.errorType") h
  have e : Rows.fnExactSeatDataRow.laid.filter (fun x => x.1 == "errors.errorType") = [("errors.errorType", Rows.laid_errors_errorType)] := by kernel_rfl
  rw [e] at h3
  have h' : laidMet Tryd.prog [] W ∧ handlesMet Tryd.prog [("errors.errorType", Rows.laid_errors_errorType)] W := h3
  obtain ⟨name, u, ty, e1, e2, e3, e4, e5⟩ := h'.2 _ (List.mem_singleton.2 rfl)
  have en : name = [101, 114, 114, 111, 114] := (Option.some.inj e1).symm
  subst en
  obtain rfl := Option.some.inj (rT.symm.trans e2)
  have hm : ty ∈ (List.range 126).filter fun t => Tryd.prog.rowNamed t [101, 114, 114, 111, 114] := List.mem_filter.2 ⟨List.mem_range.2 (by rw [← typesSize]; exact e3), e4⟩
  rw [oneRow] at hm
  obtain rfl := List.mem_singleton.1 hm
  have hh : typeHandle Tryd.prog 49 = .pointer (some ⟨1, 49, none⟩) := by kernel_rfl
  rw [hh] at e5
  simpa [ErrAt] using World.var?_cell eT e5 0
theorem contract (H : Type) (enc : TypeId × Value → H) (W : World) (base : Nat) (args : Array Value) (ds gs : List (DataW H)) (before : List MemPlace)
    (hval0 : ∀ (j : Nat) t v, Tryd.f3.params[j]? = some t → args[j]? = some v → Value.okWide Tryd.prog W .any base t v)
    (hW : DataW.Whole enc Tryd.prog Tryd.f3.params.toList Rows.fnExactSeatDataSpec.vars false W args.toList ds gs before) (hL : laidMetH Tryd.prog Rows.fnExactSeatDataRow.laid W) :
    Calls Tryd.prog 3 args W fun e W' => ∃ v, e = .returned v ∧ Rows.fnExactSeatDataSpec.post enc Tryd.prog Tryd.f3 false true false false W args v W' := by
  have hval := hval0
  have hW' := hW
  obtain ⟨p, q, hA0, hV, rfl, hfz, hnd⟩ := hW
  have hA : DataW.TrodAll enc Tryd.prog W 0 (fun _ => true) true Tryd.f3.params.toList args.toList ds p := hA0
  rw [Tryd.params3] at hA hval
  obtain ⟨v0, vs0, d0, ds0, p0, q0, hargs0, rfl, rfl, h0, r0⟩ := trodAll_cons hA
  obtain ⟨v1, vs1, d1, ds1, p1, q1, hargs1, rfl, rfl, h1, r1⟩ := trodAll_cons r0
  obtain ⟨v2, vs2, d2, ds2, p2, q2, hargs2, rfl, rfl, h2, r2⟩ := trodAll_cons r1
  obtain ⟨v3, vs3, d3, ds3, p3, q3, hargs3, rfl, rfl, h3, r3⟩ := trodAll_cons r2
  obtain ⟨rfl, rfl, rfl⟩ := trodAll_nil r3
  obtain rfl : args = #[v0, v1, v2, v3] := by cases args; simp_all
  obtain ⟨rfl, rfl⟩ := trodVars_none hV
  have k0 := h0
  have lt0 : ∀ x ∈ p0, x.block < W.heap.size := by obtain ⟨m, hm⟩ := k0; exact DataW.trod_lt m _ _ _ hm
  obtain ⟨s0, F0, hR0, hv0⟩ := open_Se (hval 0 24 v0 rfl rfl) h0
  obtain ⟨a1, rfl, rfl, rfl, w1⟩ := open_int Tryd.underlying3 (hval 1 3 v1 rfl rfl) h1
  obtain ⟨a2, rfl, rfl, rfl, w2⟩ := open_int Tryd.underlying3 (hval 2 3 v2 rfl rfl) h2
  obtain ⟨a3, rfl, rfl, rfl, w3⟩ := open_int Tryd.underlying3 (hval 3 3 v3 rfl rfl) h3
  clear hA0 hval0
  refine (walk a1 a2 a3 v0 s0 F0 W hR0 hv0 (handle hL)).mono fun e W' ⟨he, bel⟩ => ?_
  subst he
  exact ⟨_, rfl, _, _, _, [], _, [], hW', trodAll_mk1 (shut_bool Tryd.underlying4 _), (trodAll_cons_mk (Below.trod sp_laidOut (by kernel_rfl) (of_decide_eq_true (by kernel_rfl)) k0 bel lt0) (trodAll_cons_mk (shut_int Tryd.underlying3 w1) (trodAll_cons_mk (shut_int Tryd.underlying3 w2) (trodAll_cons_mk (shut_int Tryd.underlying3 w3) trodAll_mk0)))), rfl, bel.frame _, fun h => by cases h⟩
/-- A world for the witness: the settled one, the variable's cell laid. -/
noncomputable def laidWorld (os : Os) : World :=
  let w0 := World.holding Tryd.prog os ⟨#[], #[], []⟩
  { w0 with heap := w0.heap.modify 0 fun
      | .cells _ t frozen => .cells #[.iface 80 (.agg #[.pointer (some ⟨1, 49, none⟩)])] t frozen
      | o => o }
theorem laid_met (os : Os) : laidMetH Tryd.prog Rows.fnExactSeatDataRow.laid ((laidWorld os).forCall (fun _ _ => 0) ⟨#[], #[.agg #[.int .i64 0, .int .i64 0, .slice none 0 0, .int .i64 0, .int .i64 0], .int .i64 0, .int .i64 0, .int .i64 0], []⟩).memory :=
  laidMetH_of_parts (laidMet_nil _ _) (by kernel_rfl)
theorem reads (os : Os) {H : Type} (enc : TypeId × Value → H) : ∃ places, DataW.whole enc Tryd.prog ((laidWorld os).forCall (fun _ _ => 0) ⟨#[], #[.agg #[.int .i64 0, .int .i64 0, .slice none 0 0, .int .i64 0, .int .i64 0], .int .i64 0, .int .i64 0, .int .i64 0], []⟩).memory Tryd.f3.params.toList Rows.fnExactSeatDataSpec.vars false (#[.agg #[.int .i64 0, .int .i64 0, .slice none 0 0, .int .i64 0, .int .i64 0], .int .i64 0, .int .i64 0, .int .i64 0] : Array Value).toList 8 = some ([.agg [.lit (.int .i64 0), .lit (.int .i64 0), .nil, .lit (.int .i64 0), .lit (.int .i64 0)], .lit (.int .i64 0), .lit (.int .i64 0), .lit (.int .i64 0)], [], places) :=
  ⟨[], by kernel_rfl⟩
theorem lifted (os : Os) (started : os.Started) (H : Type) (enc : TypeId × Value → H) (F : Stop.Interp) :
    ReturnsInHanded {} Tryd.checked os 3 .any ((OpenSpec.ofChange Rows.fnExactSeatDataSpec).preRow enc Tryd.prog Tryd.f3 Rows.fnExactSeatDataRow.domain false Rows.fnExactSeatDataRow.laid) (((OpenSpec.ofChange Rows.fnExactSeatDataSpec).at F).post enc Tryd.prog Tryd.f3 false true false false) := by
  obtain ⟨places, hx⟩ := reads os enc
  refine returnsInHanded_of_row (C := Tryd.checked) (s := OpenSpec.ofChange Rows.fnExactSeatDataSpec) own started (by kernel_rfl) Tryd.func3
    (witness_row_at (enc := enc) (C := Tryd.checked) false (laidWorld os) #[.agg #[.int .i64 0, .int .i64 0, .slice none 0 0, .int .i64 0, .int .i64 0], .int .i64 0, .int .i64 0, .int .i64 0] rfl (by kernel_rfl) (by kernel_rfl) (by kernel_rfl)
      (OpenSpec.preRow_of_cond 8 hx (by kernel_rfl) (fun k hk => by cases hk) (by kernel_rfl) (laid_met os))) ?_
  intro W base args ds gs before hval hW _ _ _ hL _ _
  exact contract H enc W base args ds gs before hval hW hL
theorem said : Rows.FnExactSeatDataSaid :=
  OpenClaim.holds_of_cond 3 Tryd.f3 rfl rfl rfl rfl rfl rfl rfl ⟨rfl, rfl, rfl, rfl, rfl⟩ rfl rfl rfl rfl rfl (by kernel_rfl) Tryd.func3 (by kernel_rfl)
    (of_decide_eq_true (by kernel_rfl)) (by unfold Func.isWrapper; first | (rw [if_pos (by decide +kernel)]; kernel_rfl) | (rw [if_neg (by decide +kernel)]; exact ⟨rfl, rfl⟩))
    (fun os started H enc _ F => by rw [OpenClaim.pre_eq_preRow]; exact lifted os started H enc F)
theorem plain (f : FuncId) (fn : Func) (hf : Tryd.pinned.checked.prog.funcNamed "loop.example/g00491/laws.FnExactSeatData" = some f) (hfn : Tryd.pinned.checked.prog.funcs[f]? = some fn) :
    true = Tryd.pinned.checked.prog.looks [] ∧ ∀ (j : Nat) t, fn.params[j]? = some t → Tryd.pinned.checked.prog.wantsStandIn t = false := by
  obtain rfl : f = 3 := Option.some.inj ((show Tryd.prog.funcNamed "loop.example/g00491/laws.FnExactSeatData" = some 3 by kernel_rfl).symm.trans hf) |>.symm
  obtain rfl : fn = Tryd.f3 := (Option.some.inj (Tryd.func3.symm.trans hfn)).symm
  refine ⟨by kernel_rfl, fun j t ht => ?_⟩
  rw [Tryd.params3] at ht
  have ht' : t = 24 ∨ t = 3 := by simpa using Array.mem_of_getElem? ht
  rcases ht' with rfl | rfl <;> exact (show Tryd.prog.wantsStandIn _ = false by kernel_rfl)
theorem proved : Rows.FnExactSeatDataCardSaid :=
  Claim7.holds_tied_plain_at .later [] _ _ _ _ said (fun _ h => by cases h) (by kernel_rfl) (fun _ h => by cases h) fnExactSeatData_row_tie rfl ⟨rfl, rfl⟩ (by kernel_rfl) rfl plain (by kernel_rfl)
#print axioms proved
end Go.Proofs.YtgkbhhlkaifnoabDoor.fnExactSeatData
