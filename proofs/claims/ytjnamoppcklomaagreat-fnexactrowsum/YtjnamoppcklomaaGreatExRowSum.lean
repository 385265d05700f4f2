/- For every row (no condition): laws.FnExactRowSum returns true, and its argument reads afterwards as it did: the program's RowSum answers as the model's, writes nothing into its argument, and its answer owns its memory. -/
import Derived.Test.YtjnamoppcklomaaGreatB4
import Derived.Test.YtjnamoppcklomaaGreatB5
import Derived.Test.YtjnamoppcklomaaGreatSkLaw
import Derived.Test.YtjnamoppcklomaaGreatRows
import Derived.WalkKit
import Derived.ProofKit
import Derived.OpenShut
import Derived.ShutString
import Derived.ChangeOld
import Derived.Below
import Derived.Deep.DeepCutAuto
namespace Go.Proofs.YtjnamoppcklomaaGreat.fnExactRowSum
open Go.ChangeShapes Go.WideShapes Go.ChangeAt Go.RowKit
set_option linter.unusedVariables false
theorem own : ownKnob Tryz.prog.godebug = none := by kernel_rfl
set_option maxRecDepth 200000 in
set_option maxHeartbeats 16000000 in
theorem walk  (v0 : Value) (s : Rw) (F : List Nat) (w : World) (h0 : RdRw w v0 s F) (hv0 : s.vast) :
    Calls Tryz.prog 4 #[v0] w fun e w' => e = .returned (.bool true) ∧ Below w.heap.size w w' := by
  have HH0 : Hid (RdRw w v0 s F ∧ s.vast) := ⟨h0, hv0⟩
  obtain ⟨cs0, rfl, hc0, _⟩ := h0.cells
  have HC0 : Hid (cs0.size = 1) := hc0
  have BX0 : Hid (Blk (w.alloc (.cells cs0 48)) (w.heap.size) cs0 48) := Blk.made _ _ _
  have BEL : Hid (Below w.heap.size w (w.alloc (.cells cs0 48))) := Below.allocW _ (Below.refl _ _) (Nat.le_refl _)
  clear h0 hv0 hc0
  go_enter Tryz.func4, Tryz.ntmps4
  go_wp2_with (first | go_skip | (with_reducible refine stopLoad 48 rfl ?_) | (with_reducible refine stopLoad 26 rfl ?_) | (with_reducible refine stopStore 26 rfl ?_))
  refine load_any 48 (w.heap.size) cs0 48 _ BX0.out rfl rfl rfl Tryz.underlying48 rfl (lrwSize HC0.out) ?_
  go_wp2_with fail
  refine (szRw_vast _ s F 1048576 _ (HH0.out.1.below BEL.out) HH0.out.2 (by omega) (by omega)).mono ?_
  rintro e w1 ⟨⟨r0, rfl, ra, rb, rc⟩, hb1⟩
  have BX0 : Hid (Blk w1 (w.heap.size) cs0 48) := BX0.out.below hb1
  have BEL : Hid (Below w.heap.size w w1) := Below.next BEL.out hb1
  by_cases q : r0 < 0
  · clear ra rb rc hb1
    have hq : decide (r0 < 0) = true := dec_true q
    go_wp2
    go_ret
    exact ⟨rfl, BEL.out⟩
  have q' : 0 ≤ r0 := by omega
  have hq : decide (r0 < 0) = false := dec_false q
  have HSZ0 : Hid (s.size ≤ 1048576) := by have := rb q'; show _ ≤ _; omega
  have HR0 : Hid (0 ≤ r0 ∧ r0 ≤ 1048576) := ⟨q', by omega⟩
  have HF0 : Hid (s.fits) := Rw.fits_of HSZ0.out
  have HMI0 : Hid (0 ≤ s.many ∧ s.many ≤ 16777216) := ⟨Rw.many_nonneg s, by have := Rw.fits.many HF0.out; omega⟩
  clear ra rb rc hb1 q q'
  have LB0 : Hid (w.heap.size + 1 ≤ w1.heap.size) := BX0.out.lt
  have HN : Hid ((∀ y ∈ s.sums, y.wide) ∧ s.sums.length ≤ 24 ∧ 0 ≤ ensMany s.sums ∧ ensMany s.sums ≤ 2097296) := Rw.sums_fine HF0.out
  go_wp2_with (first | go_skip | (with_reducible refine stopLoad 48 rfl ?_) | (with_reducible refine stopLoad 26 rfl ?_) | (with_reducible refine stopStore 26 rfl ?_))
  refine load_any 48 (w.heap.size) cs0 48 _ BX0.out rfl rfl rfl Tryz.underlying48 rfl (lrwSize HC0.out) ?_
  go_wp2_with fail
  refine (toRw_any _ s F _ (HH0.out.1.below BEL.out) HF0.out).mono ?_
  rintro e w2 ⟨ztw, Xtw, rfl, rz, oz, bz⟩
  have BX0 : Hid (Blk w2 (w.heap.size) cs0 48) := BX0.out.below bz
  have BEL : Hid (Below w.heap.size w w2) := Below.next BEL.out bz
  have Ttw : Hid (RdRw w2 ztw s Xtw ∧ Own w1.heap.size w2 Xtw ∧ Below w1.heap.size w1 w2) := ⟨rz, oz, bz⟩
  have O1 : Hid (w1.heap.size ≤ w2.heap.size) := by show _ ≤ _; exact bz.size
  clear rz oz bz
  go_wp2_with fail
  refine (rowSumSpec_any _ s Xtw _ Ttw.out.1 HF0.out).mono ?_
  intro e w3 hres
  obtain ⟨aw, kw, Yw, rfl, ry, oy, bz⟩ := hres.parts
  clear hres
  have BX0 : Hid (Blk w3 (w.heap.size) cs0 48) := BX0.out.below bz
  have BEL : Hid (Below w.heap.size w w3) := Below.next BEL.out bz
  have Iw : Hid (RdL enK w3 aw s.sums.length s.sums Yw ∧ Own w2.heap.size w3 Yw ∧ ∀ b ∈ Yw, b < w3.heap.size) := ⟨ry, oy, ry.lt⟩
  have O2 : Hid (w2.heap.size ≤ w3.heap.size) := by show _ ≤ _; have := bz.size; omega
  clear Ttw
  clear ry oy bz
  go_wp2_with (first | go_skip | (with_reducible refine stopLoad 48 rfl ?_) | (with_reducible refine stopLoad 26 rfl ?_) | (with_reducible refine stopStore 26 rfl ?_))
  refine load_any 48 (w.heap.size) cs0 48 _ BX0.out rfl rfl rfl Tryz.underlying48 rfl (lrwSize HC0.out) ?_
  go_wp2_with fail
  refine (toRw_any _ s F _ (HH0.out.1.below BEL.out) HF0.out).mono ?_
  rintro e w4 ⟨zx0, Xx0, rfl, rz, oz, bz⟩
  have BX0 : Hid (Blk w4 (w.heap.size) cs0 48) := BX0.out.below bz
  have BEL : Hid (Below w.heap.size w w4) := Below.next BEL.out bz
  have Iw : Hid (RdL enK w4 aw s.sums.length s.sums Yw ∧ Own w2.heap.size w4 Yw ∧ ∀ b ∈ Yw, b < w3.heap.size) := ⟨Iw.out.1.below bz, Iw.out.2.1.below Iw.out.1.lt bz, Iw.out.2.2⟩
  have Tx0 : Hid (RdRw w4 zx0 s Xx0 ∧ Own w3.heap.size w4 Xx0 ∧ Below w3.heap.size w3 w4) := ⟨rz, oz, bz⟩
  have O3 : Hid (w3.heap.size ≤ w4.heap.size) := by show _ ≤ _; exact bz.size
  clear rz oz bz
  obtain ⟨cx0, rfl, szx0, onx0⟩ := Tx0.out.1.cells
  have SZ : Hid (cx0.size = 1 ∧ cx0.all (·.oneCell') = true) := ⟨szx0, onx0⟩
  clear szx0 onx0
  go_wp2_with (first | go_skip | (with_reducible refine stopLoad 48 rfl ?_) | (with_reducible refine stopLoad 26 rfl ?_) | (with_reducible refine stopStore 26 rfl ?_))
  refine store_fresh 26 w4.heap.size rfl #[.slice none 0 0] cx0 26 rfl rfl rfl rfl (rwSize SZ.out.1) SZ.out.1.symm SZ.out.2 ?_
  intro w5 hg hb
  have BX0 : Hid (Blk w5 (w.heap.size) cs0 48) := BX0.out.below hb
  have BEL : Hid (Below w.heap.size w w5) := Below.next BEL.out hb
  have Iw : Hid (RdL enK w5 aw s.sums.length s.sums Yw ∧ Own w2.heap.size w5 Yw ∧ ∀ b ∈ Yw, b < w3.heap.size) := ⟨Iw.out.1.below hb, Iw.out.2.1.below Iw.out.1.lt hb, Iw.out.2.2⟩
  have Vx0 : Hid (VarRw w5 w3.heap.size w5.heap.size w4.heap.size cx0 s Xx0) := VarRw.fresh Tx0.out.1 Tx0.out.2.1 Tx0.out.2.2 SZ.out.1 hg hb
  have O4 : Hid (w3.heap.size ≤ w5.heap.size) := by show _ ≤ _; have := Tx0.out.2.2.size; have := hb.size; omega
  clear hg hb Tx0 SZ
  go_wp2_with (first | go_skip | (with_reducible refine stopLoad 48 rfl ?_) | (with_reducible refine stopLoad 26 rfl ?_) | (with_reducible refine stopStore 26 rfl ?_))
  refine load_any 26 _ cx0 26 _ Vx0.out.blk rfl rfl rfl Tryz.underlying26 rfl (rwSize Vx0.out.sz) ?_
  go_wp2_with fail
  refine (rowSumImpl_any _ s Xx0 _ Vx0.out.rd HF0.out).mono ?_
  intro e w6 hres
  obtain ⟨ag, kg, Yg, rfl, ry, oy, bz⟩ := hres.parts
  clear hres
  have BX0 : Hid (Blk w6 (w.heap.size) cs0 48) := BX0.out.below bz
  have BEL : Hid (Below w.heap.size w w6) := Below.next BEL.out bz
  have Iw : Hid (RdL enK w6 aw s.sums.length s.sums Yw ∧ Own w2.heap.size w6 Yw ∧ ∀ b ∈ Yw, b < w3.heap.size) := ⟨Iw.out.1.below bz, Iw.out.2.1.below Iw.out.1.lt bz, Iw.out.2.2⟩
  have Vx0 : Hid (VarRw w6 w3.heap.size w5.heap.size w4.heap.size cx0 s Xx0) := Vx0.out.below bz
  have Ig : Hid (RdL enK w6 ag s.sums.length s.sums Yg ∧ Own w5.heap.size w6 Yg ∧ ∀ b ∈ Yg, b < w6.heap.size) := ⟨ry, oy, ry.lt⟩
  have O5 : Hid (w5.heap.size ≤ w6.heap.size) := by show _ ≤ _; have := bz.size; omega
  clear ry oy bz
  go_wp2_with fail
  refine (eqEntryS_any _ _ _ _ _ _ s.sums s.sums Yg Yw _ Ig.out.1 Iw.out.1 (by have := HN.out; omega) (by have := HN.out; omega) HN.out.1 HN.out.1).mono ?_
  rintro e w7 ⟨rfl, hb⟩
  have BX0 : Hid (Blk w7 (w.heap.size) cs0 48) := BX0.out.below hb
  have BEL : Hid (Below w.heap.size w w7) := Below.next BEL.out hb
  have Iw : Hid (RdL enK w7 aw s.sums.length s.sums Yw ∧ Own w2.heap.size w7 Yw ∧ ∀ b ∈ Yw, b < w3.heap.size) := ⟨Iw.out.1.below hb, Iw.out.2.1.below Iw.out.1.lt hb, Iw.out.2.2⟩
  have Vx0 : Hid (VarRw w7 w3.heap.size w5.heap.size w4.heap.size cx0 s Xx0) := Vx0.out.below hb
  have Ig : Hid (RdL enK w7 ag s.sums.length s.sums Yg ∧ Own w5.heap.size w7 Yg ∧ ∀ b ∈ Yg, b < w6.heap.size) := ⟨Ig.out.1.below hb, Ig.out.2.1.below Ig.out.1.lt hb, Ig.out.2.2⟩
  clear hb
  have hdec : decide (s.sums = s.sums) = true := by simp
  rw [hdec]
  clear hdec
  go_wp2_with fail
  have BD := (Below.refl w7.heap.size w7).drew
  obtain ⟨Y10, hY10⟩ : ∃ Y, Y = w7.drew := ⟨_, rfl⟩
  rw [← hY10] at BD
  have BX0 : Hid (Blk Y10 (w.heap.size) cs0 48) := BX0.out.below BD
  have BEL : Hid (Below w.heap.size w Y10) := Below.next BEL.out BD
  have Iw : Hid (RdL enK Y10 aw s.sums.length s.sums Yw ∧ Own w2.heap.size Y10 Yw ∧ ∀ b ∈ Yw, b < w3.heap.size) := ⟨Iw.out.1.below BD, Iw.out.2.1.below Iw.out.1.lt BD, Iw.out.2.2⟩
  have Vx0 : Hid (VarRw Y10 w3.heap.size w5.heap.size w4.heap.size cx0 s Xx0) := Vx0.out.below BD
  have Ig : Hid (RdL enK Y10 ag s.sums.length s.sums Yg ∧ Own w5.heap.size Y10 Yg ∧ ∀ b ∈ Yg, b < w6.heap.size) := ⟨Ig.out.1.below BD, Ig.out.2.1.below Ig.out.1.lt BD, Ig.out.2.2⟩
  refine wp_region_held (S := fun W => Blk W (w.heap.size) cs0 48 ∧ Blk W (w4.heap.size) cx0 26) (by kernel_rfl) ?_
  change wpAnyH _ _ _ _ _ _ _ _ (World.drew _)
  rw [← hY10]
  clear hY10 BD
  refine takeH (o := ?o1) 0 (.agg cx0) ?h1 ?r1
  case h1 => simp only [aT, aZ]; rfl
  refine ⟨_, by simp [Act.put]; rfl, by kernel_rfl, by kernel_rfl, by kernel_rfl, fun _ _ _ h => h, (yields_whole 26 _ cx0 26 _ rfl rfl rfl Tryz.underlying26 rfl (rwSize Vx0.out.sz) (fun W hW => hW.2)), ⟨BX0.out, Vx0.out.blk⟩, ?_⟩
  refine takeH (o := ?o2) 1 (.agg cs0) ?h2 ?r2
  case h2 => simp only [aT, aS, aZ]; rfl
  refine ⟨_, by simp [Act.put]; rfl, by kernel_rfl, by kernel_rfl, by kernel_rfl, fun _ _ _ h => h, (yields_whole 48 _ cs0 48 _ rfl rfl rfl Tryz.underlying48 rfl (lrwSize HC0.out) (fun W hW => hW.1)), ⟨BX0.out, Vx0.out.blk⟩, ?_⟩
  refine onlyH (o := ?o3) 2 (by kernel_rfl) ?h3 ?r3
  case h3 => simp only [aT, aS, aZ]; rfl
  intro K hK
  refine op_call1 18 _ _ Tryz.f18 (fun v w' => ∃ X, RdRw w' v s X ∧ Below Y10.heap.size Y10 w') rfl rfl Tryz.func18 (by kernel_rfl) (by kernel_rfl) ((toRw_any _ s F Y10 (HH0.out.1.below BEL.out) HF0.out).mono (by rintro e w' ⟨v, X, rfl, h1, _, h3⟩; exact ⟨_, rfl, X, h1, h3⟩)) ?_
  rintro zq w8 ⟨Xq, rz, bz⟩
  have BX0 : Hid (Blk w8 (w.heap.size) cs0 48) := BX0.out.below bz
  have BEL : Hid (Below w.heap.size w w8) := Below.next BEL.out bz
  have Iw : Hid (RdL enK w8 aw s.sums.length s.sums Yw ∧ Own w2.heap.size w8 Yw ∧ ∀ b ∈ Yw, b < w3.heap.size) := ⟨Iw.out.1.below bz, Iw.out.2.1.below Iw.out.1.lt bz, Iw.out.2.2⟩
  have Vx0 : Hid (VarRw w8 w3.heap.size w5.heap.size w4.heap.size cx0 s Xx0) := Vx0.out.below bz
  have Ig : Hid (RdL enK w8 ag s.sums.length s.sums Yg ∧ Own w5.heap.size w8 Yg ∧ ∀ b ∈ Yg, b < w6.heap.size) := ⟨Ig.out.1.below bz, Ig.out.2.1.below Ig.out.1.lt bz, Ig.out.2.2⟩
  have TQ : Hid (RdRw w8 zq s Xq) := rz
  refine ⟨_, by simp [Act.put]; rfl, hK _ _ ⟨⟨BX0.out, Vx0.out.blk⟩, ?_⟩⟩
  clear hK rz bz
  refine onlyH (o := ?o4) 3 (by kernel_rfl) ?h4 ?r4
  case h4 => simp only [aT, aS, aZ]; rfl
  intro K hK
  refine op_call2 20 _ _ _ Tryz.f20 (fun w' => Below w8.heap.size w8 w') (.bool (decide (s = s))) rfl rfl Tryz.func20 (by kernel_rfl) (by kernel_rfl) (eqRw_any (.agg cx0) zq s s Xx0 Xq w8 Vx0.out.rd TQ.out HF0.out.wide HF0.out.wide) ⟨_, by simp [Act.put]; rfl, ?_⟩
  intro w9 bz
  have BX0 : Hid (Blk w9 (w.heap.size) cs0 48) := BX0.out.below bz
  have BEL : Hid (Below w.heap.size w w9) := Below.next BEL.out bz
  have Iw : Hid (RdL enK w9 aw s.sums.length s.sums Yw ∧ Own w2.heap.size w9 Yw ∧ ∀ b ∈ Yw, b < w3.heap.size) := ⟨Iw.out.1.below bz, Iw.out.2.1.below Iw.out.1.lt bz, Iw.out.2.2⟩
  have Vx0 : Hid (VarRw w9 w3.heap.size w5.heap.size w4.heap.size cx0 s Xx0) := Vx0.out.below bz
  have Ig : Hid (RdL enK w9 ag s.sums.length s.sums Yg ∧ Own w5.heap.size w9 Yg ∧ ∀ b ∈ Yg, b < w6.heap.size) := ⟨Ig.out.1.below bz, Ig.out.2.1.below Ig.out.1.lt bz, Ig.out.2.2⟩
  refine hK _ _ ⟨⟨BX0.out, Vx0.out.blk⟩, ?_⟩
  clear hK bz TQ
  refine takeH (o := ?o5) 4 (.bool false) ?h5 ?r5
  case h5 => simp only [aT, aS, aZ]; rfl
  refine ⟨_, by simp [Act.put]; rfl, by kernel_rfl, by kernel_rfl, by kernel_rfl, fun _ _ _ h => h, (.inl ⟨rfl, fun W _ => by go_simp⟩), ⟨BX0.out, Vx0.out.blk⟩, ?_⟩
  refine wpAnyH_done (by kernel_rfl) ?_ _
  go_wp2_with (first | go_skip | (with_reducible refine stopLoad 48 rfl ?_) | (with_reducible refine stopLoad 26 rfl ?_) | (with_reducible refine stopStore 26 rfl ?_))
  refine load_any 26 _ cx0 26 _ Vx0.out.blk rfl rfl rfl Tryz.underlying26 rfl (rwSize Vx0.out.sz) ?_
  go_wp2_with fail
  refine (markRw_any _ _ s Xx0 1 _ Vx0.out.rd Vx0.out.own HF0.out.wide (by omega) (by have := HMI0.out; omega)).mono ?_
  rintro e w10 ⟨rfl, mk⟩
  have NBX0 : Hid (Blk w10 (w.heap.size) cs0 48) := BX0.out.agree (mk.only.block _ BX0.out.lt (fun hb => by have := Vx0.out.own.ge _ hb; have := LB0.out; have := O1.out; have := O2.out; have := O3.out; have := O4.out; have := O5.out; omega))
  have NBEL : Hid (Below w.heap.size w w10) := mk.only.below BEL.out BEL.out.size (fun b hb => by have := Vx0.out.own.ge b hb; have := LB0.out; have := O1.out; have := O2.out; have := O3.out; have := O4.out; have := O5.out; omega)
  have NIw : Hid (RdL enK w10 aw s.sums.length s.sums Yw ∧ Own w2.heap.size w10 Yw ∧ ∀ b ∈ Yw, b < w3.heap.size) := ⟨Iw.out.1.agree (mk.only.agree Iw.out.1.lt (fun b hb q => by have h1 := Iw.out.2.1.ge b hb; have h2 := Iw.out.2.2 b hb; have h3 := Vx0.out.lt b q; have h4 := Vx0.out.own.ge b q; have := LB0.out; have := O1.out; have := O2.out; have := O3.out; have := O4.out; have := O5.out; omega)), Iw.out.2.1.agree (mk.only.agree Iw.out.1.lt (fun b hb q => by have h1 := Iw.out.2.1.ge b hb; have h2 := Iw.out.2.2 b hb; have h3 := Vx0.out.lt b q; have h4 := Vx0.out.own.ge b q; have := LB0.out; have := O1.out; have := O2.out; have := O3.out; have := O4.out; have := O5.out; omega)), Iw.out.2.2⟩
  have NIg : Hid (RdL enK w10 ag s.sums.length s.sums Yg ∧ Own w5.heap.size w10 Yg ∧ ∀ b ∈ Yg, b < w6.heap.size) := ⟨Ig.out.1.agree (mk.only.agree Ig.out.1.lt (fun b hb q => by have h1 := Ig.out.2.1.ge b hb; have h2 := Ig.out.2.2 b hb; have h3 := Vx0.out.lt b q; have h4 := Vx0.out.own.ge b q; have := LB0.out; have := O1.out; have := O2.out; have := O3.out; have := O4.out; have := O5.out; omega)), Ig.out.2.1.agree (mk.only.agree Ig.out.1.lt (fun b hb q => by have h1 := Ig.out.2.1.ge b hb; have h2 := Ig.out.2.2 b hb; have h3 := Vx0.out.lt b q; have h4 := Vx0.out.own.ge b q; have := LB0.out; have := O1.out; have := O2.out; have := O3.out; have := O4.out; have := O5.out; omega)), Ig.out.2.2⟩
  have BX0 : Hid (Blk w10 (w.heap.size) cs0 48) := NBX0.out
  have BEL : Hid (Below w.heap.size w w10) := NBEL.out
  have Iw : Hid (RdL enK w10 aw s.sums.length s.sums Yw ∧ Own w2.heap.size w10 Yw ∧ ∀ b ∈ Yw, b < w3.heap.size) := NIw.out
  have Ig : Hid (RdL enK w10 ag s.sums.length s.sums Yg ∧ Own w5.heap.size w10 Yg ∧ ∀ b ∈ Yg, b < w6.heap.size) := NIg.out
  clear NBX0 NBEL NIw NIg
  obtain ⟨ki0, hki⟩ : ∃ k, k = 1 + s.many := ⟨_, rfl⟩
  rw [← hki]
  have HKI0 : Hid (0 ≤ ki0 ∧ ki0 ≤ 20000000) := by have := HMI0.out; exact ⟨by omega, by omega⟩
  clear hki mk Vx0
  have hkid : decide (ki0 < 0) = false := dec_false (by have := HKI0.out; omega)
  go_wp2_with fail
  refine (eqEntryS_any _ _ _ _ _ _ s.sums s.sums Yg Yw _ Ig.out.1 Iw.out.1 (by have := HN.out; omega) (by have := HN.out; omega) HN.out.1 HN.out.1).mono ?_
  rintro e w11 ⟨rfl, hb⟩
  have BX0 : Hid (Blk w11 (w.heap.size) cs0 48) := BX0.out.below hb
  have BEL : Hid (Below w.heap.size w w11) := Below.next BEL.out hb
  have Iw : Hid (RdL enK w11 aw s.sums.length s.sums Yw ∧ Own w2.heap.size w11 Yw ∧ ∀ b ∈ Yw, b < w3.heap.size) := ⟨Iw.out.1.below hb, Iw.out.2.1.below Iw.out.1.lt hb, Iw.out.2.2⟩
  have Ig : Hid (RdL enK w11 ag s.sums.length s.sums Yg ∧ Own w5.heap.size w11 Yg ∧ ∀ b ∈ Yg, b < w6.heap.size) := ⟨Ig.out.1.below hb, Ig.out.2.1.below Ig.out.1.lt hb, Ig.out.2.2⟩
  clear hb
  have hdec : decide (s.sums = s.sums) = true := by simp
  rw [hdec]
  clear hdec
  go_wp2_with fail
  refine (markEntryS_any w5.heap.size ag _ _ s.sums Yg 1 _ Ig.out.1 Ig.out.2.1 HN.out.1 (by have := HN.out; omega) (by omega) (by have := HN.out; omega)).mono ?_
  rintro e w12 ⟨rfl, mk⟩
  have NBX0 : Hid (Blk w12 (w.heap.size) cs0 48) := BX0.out.agree (mk.only.block _ BX0.out.lt (fun hb => by have := Ig.out.2.1.ge _ hb; have := LB0.out; have := O1.out; have := O2.out; have := O3.out; have := O4.out; have := O5.out; omega))
  have NBEL : Hid (Below w.heap.size w w12) := mk.only.below BEL.out BEL.out.size (fun b hb => by have := Ig.out.2.1.ge b hb; have := LB0.out; have := O1.out; have := O2.out; have := O3.out; have := O4.out; have := O5.out; omega)
  have NIw : Hid (RdL enK w12 aw s.sums.length s.sums Yw ∧ Own w2.heap.size w12 Yw ∧ ∀ b ∈ Yw, b < w3.heap.size) := ⟨Iw.out.1.agree (mk.only.agree Iw.out.1.lt (fun b hb q => by have h1 := Iw.out.2.1.ge b hb; have h2 := Iw.out.2.2 b hb; have h3 := Ig.out.2.2 b q; have h4 := Ig.out.2.1.ge b q; have := LB0.out; have := O1.out; have := O2.out; have := O3.out; have := O4.out; have := O5.out; omega)), Iw.out.2.1.agree (mk.only.agree Iw.out.1.lt (fun b hb q => by have h1 := Iw.out.2.1.ge b hb; have h2 := Iw.out.2.2 b hb; have h3 := Ig.out.2.2 b q; have h4 := Ig.out.2.1.ge b q; have := LB0.out; have := O1.out; have := O2.out; have := O3.out; have := O4.out; have := O5.out; omega)), Iw.out.2.2⟩
  have BX0 : Hid (Blk w12 (w.heap.size) cs0 48) := NBX0.out
  have BEL : Hid (Below w.heap.size w w12) := NBEL.out
  have Iw : Hid (RdL enK w12 aw s.sums.length s.sums Yw ∧ Own w2.heap.size w12 Yw ∧ ∀ b ∈ Yw, b < w3.heap.size) := NIw.out
  clear NBX0 NBEL NIw
  have Ng : Hid (RdL enK w12 ag s.sums.length (ensMark 1 s.sums) Yg ∧ Own w5.heap.size w12 Yg ∧ ∀ b ∈ Yg, b < w6.heap.size) := ⟨mk.rd, mk.own, Ig.out.2.2⟩
  have Ig : Hid (RdL enK w12 ag s.sums.length (ensMark 1 s.sums) Yg ∧ Own w5.heap.size w12 Yg ∧ ∀ b ∈ Yg, b < w6.heap.size) := Ng.out
  obtain ⟨km, hkm⟩ : ∃ k, k = 1 + ensMany s.sums := ⟨_, rfl⟩
  rw [← hkm]
  have HKM : Hid (km = 1 + ensMany s.sums) := hkm
  have hkm0 : 0 ≤ km := by have := HN.out; omega
  have hkmn : decide (km < 0) = false := dec_false (by omega)
  have hkme : (km != km) = false := by simp
  clear hkm mk Ng
  go_wp2_with fail
  refine (heldEntryS_any ag _ _ s.sums Yg 1 _ Ig.out.1 HN.out.1 (by have := HN.out; omega) (by omega) (by have := HN.out; omega)).mono ?_
  rintro e w13 ⟨rfl, hb⟩
  have BX0 : Hid (Blk w13 (w.heap.size) cs0 48) := BX0.out.below hb
  have BEL : Hid (Below w.heap.size w w13) := Below.next BEL.out hb
  have Iw : Hid (RdL enK w13 aw s.sums.length s.sums Yw ∧ Own w2.heap.size w13 Yw ∧ ∀ b ∈ Yw, b < w3.heap.size) := ⟨Iw.out.1.below hb, Iw.out.2.1.below Iw.out.1.lt hb, Iw.out.2.2⟩
  have Ig : Hid (RdL enK w13 ag s.sums.length (ensMark 1 s.sums) Yg ∧ Own w5.heap.size w13 Yg ∧ ∀ b ∈ Yg, b < w6.heap.size) := ⟨Ig.out.1.below hb, Ig.out.2.1.below Ig.out.1.lt hb, Ig.out.2.2⟩
  clear hb
  rw [← HKM.out]
  go_wp2_with (first | go_skip | (with_reducible refine stopLoad 48 rfl ?_) | (with_reducible refine stopLoad 26 rfl ?_) | (with_reducible refine stopStore 26 rfl ?_))
  refine load_any 48 (w.heap.size) cs0 48 _ BX0.out rfl rfl rfl Tryz.underlying48 rfl (lrwSize HC0.out) ?_
  go_wp2_with fail
  refine (toRw_any _ s F _ (HH0.out.1.below BEL.out) HF0.out).mono ?_
  rintro e w14 ⟨zth, Xth, rfl, rz, oz, bz⟩
  have BX0 : Hid (Blk w14 (w.heap.size) cs0 48) := BX0.out.below bz
  have BEL : Hid (Below w.heap.size w w14) := Below.next BEL.out bz
  have Iw : Hid (RdL enK w14 aw s.sums.length s.sums Yw ∧ Own w2.heap.size w14 Yw ∧ ∀ b ∈ Yw, b < w3.heap.size) := ⟨Iw.out.1.below bz, Iw.out.2.1.below Iw.out.1.lt bz, Iw.out.2.2⟩
  have Ig : Hid (RdL enK w14 ag s.sums.length (ensMark 1 s.sums) Yg ∧ Own w5.heap.size w14 Yg ∧ ∀ b ∈ Yg, b < w6.heap.size) := ⟨Ig.out.1.below bz, Ig.out.2.1.below Ig.out.1.lt bz, Ig.out.2.2⟩
  have Tth : Hid (RdRw w14 zth s Xth ∧ Own w13.heap.size w14 Xth ∧ Below w13.heap.size w13 w14) := ⟨rz, oz, bz⟩
  have O6 : Hid (w13.heap.size ≤ w14.heap.size) := by show _ ≤ _; exact bz.size
  clear rz oz bz
  go_wp2_with fail
  refine (rowSumImpl_any _ s Xth _ Tth.out.1 HF0.out).mono ?_
  intro e w15 hres
  obtain ⟨ah, kh, Yh, rfl, ry, oy, bz⟩ := hres.parts
  clear hres
  have BX0 : Hid (Blk w15 (w.heap.size) cs0 48) := BX0.out.below bz
  have BEL : Hid (Below w.heap.size w w15) := Below.next BEL.out bz
  have Iw : Hid (RdL enK w15 aw s.sums.length s.sums Yw ∧ Own w2.heap.size w15 Yw ∧ ∀ b ∈ Yw, b < w3.heap.size) := ⟨Iw.out.1.below bz, Iw.out.2.1.below Iw.out.1.lt bz, Iw.out.2.2⟩
  have Ig : Hid (RdL enK w15 ag s.sums.length (ensMark 1 s.sums) Yg ∧ Own w5.heap.size w15 Yg ∧ ∀ b ∈ Yg, b < w6.heap.size) := ⟨Ig.out.1.below bz, Ig.out.2.1.below Ig.out.1.lt bz, Ig.out.2.2⟩
  have Ih : Hid (RdL enK w15 ah s.sums.length s.sums Yh ∧ Own w14.heap.size w15 Yh ∧ ∀ b ∈ Yh, b < w15.heap.size) := ⟨ry, oy, ry.lt⟩
  have O7 : Hid (w14.heap.size ≤ w15.heap.size) := by show _ ≤ _; have := bz.size; omega
  clear Tth
  clear ry oy bz
  go_wp2_with fail
  refine (eqEntryS_any _ _ _ _ _ _ s.sums s.sums Yh Yw _ Ih.out.1 Iw.out.1 (by have := HN.out; omega) (by have := HN.out; omega) HN.out.1 HN.out.1).mono ?_
  rintro e w16 ⟨rfl, hb⟩
  have BX0 : Hid (Blk w16 (w.heap.size) cs0 48) := BX0.out.below hb
  have BEL : Hid (Below w.heap.size w w16) := Below.next BEL.out hb
  have Iw : Hid (RdL enK w16 aw s.sums.length s.sums Yw ∧ Own w2.heap.size w16 Yw ∧ ∀ b ∈ Yw, b < w3.heap.size) := ⟨Iw.out.1.below hb, Iw.out.2.1.below Iw.out.1.lt hb, Iw.out.2.2⟩
  have Ig : Hid (RdL enK w16 ag s.sums.length (ensMark 1 s.sums) Yg ∧ Own w5.heap.size w16 Yg ∧ ∀ b ∈ Yg, b < w6.heap.size) := ⟨Ig.out.1.below hb, Ig.out.2.1.below Ig.out.1.lt hb, Ig.out.2.2⟩
  have Ih : Hid (RdL enK w16 ah s.sums.length s.sums Yh ∧ Own w14.heap.size w16 Yh ∧ ∀ b ∈ Yh, b < w15.heap.size) := ⟨Ih.out.1.below hb, Ih.out.2.1.below Ih.out.1.lt hb, Ih.out.2.2⟩
  clear hb
  have hdec : decide (s.sums = s.sums) = true := by simp
  rw [hdec]
  clear hdec
  go_wp2_with fail
  refine (heldEntryS_any ag _ _ s.sums Yg 1 _ Ig.out.1 HN.out.1 (by have := HN.out; omega) (by omega) (by have := HN.out; omega)).mono ?_
  rintro e w17 ⟨rfl, hb⟩
  have BX0 : Hid (Blk w17 (w.heap.size) cs0 48) := BX0.out.below hb
  have BEL : Hid (Below w.heap.size w w17) := Below.next BEL.out hb
  have Iw : Hid (RdL enK w17 aw s.sums.length s.sums Yw ∧ Own w2.heap.size w17 Yw ∧ ∀ b ∈ Yw, b < w3.heap.size) := ⟨Iw.out.1.below hb, Iw.out.2.1.below Iw.out.1.lt hb, Iw.out.2.2⟩
  have Ig : Hid (RdL enK w17 ag s.sums.length (ensMark 1 s.sums) Yg ∧ Own w5.heap.size w17 Yg ∧ ∀ b ∈ Yg, b < w6.heap.size) := ⟨Ig.out.1.below hb, Ig.out.2.1.below Ig.out.1.lt hb, Ig.out.2.2⟩
  have Ih : Hid (RdL enK w17 ah s.sums.length s.sums Yh ∧ Own w14.heap.size w17 Yh ∧ ∀ b ∈ Yh, b < w15.heap.size) := ⟨Ih.out.1.below hb, Ih.out.2.1.below Ih.out.1.lt hb, Ih.out.2.2⟩
  clear hb
  rw [← HKM.out]
  go_wp2
  go_ret
  exact ⟨rfl, BEL.out⟩
set_option maxRecDepth 200000 in
theorem lifted (os : Os) (started : os.Started) (H : Type) (enc : TypeId × Value → H) :
    ReturnsInHanded {} Tryz.checked os 4 .any (Rows.fnExactRowSumSpec.pre6 enc Tryz.prog Tryz.f4 Rows.fnExactRowSumRow.domain false) (Rows.fnExactRowSumSpec.post enc Tryz.prog Tryz.f4 false true false false) := by
  refine returnsInHanded_of_change (C := Tryz.checked) own started (by kernel_rfl) Tryz.func4
    (ChangeSpec.witness6 (enc := enc) (C := Tryz.checked) false ⟨#[], #[.agg #[.slice none 0 0]], []⟩ 8 (by kernel_rfl) (by kernel_rfl) (by kernel_rfl) (by kernel_rfl)) ?_
  intro W base args ds gs before hval0 hW hcnd _
  have hval : ∀ (j : Nat) t v, Tryz.f4.params[j]? = some t → args[j]? = some v → Value.okWide Tryz.prog W .any base t v := hval0
  have hW' := hW
  obtain ⟨p, q, hA0, hV, rfl, hfz, hnd⟩ := hW
  have hA : DataW.TrodAll enc Tryz.prog W 0 (fun _ => true) true Tryz.f4.params.toList args.toList ds p := hA0
  rw [Tryz.params4] at hA hval
  obtain ⟨v0, vs0, d0, ds0, p0, q0, hargs0, rfl, rfl, h0, r0⟩ := trodAll_cons hA
  obtain ⟨rfl, rfl, rfl⟩ := trodAll_nil r0
  obtain rfl : args = #[v0] := by cases args; simp_all
  obtain ⟨rfl, rfl⟩ := trodVars_none hV
  have k0 := h0
  have lt0 : ∀ x ∈ p0, x.block < W.heap.size := by obtain ⟨m, hm⟩ := k0; exact DataW.trod_lt m _ _ _ hm
  obtain ⟨s0, F0, hR0, hv0⟩ := open_Rw (hval 0 48 v0 rfl rfl) h0
  clear hA0 hval0
  refine (walk  v0 s0 F0 W hR0 hv0).mono fun e W' ⟨he, bel⟩ => ?_
  subst he
  exact ⟨_, rfl, _, _, _, [], _, [], hW', trodAll_mk1 (shut_bool Tryz.underlying4 _), (trodAll_cons_mk (Below.trod laidOut (by kernel_rfl) (of_decide_eq_true (by kernel_rfl)) k0 bel lt0) trodAll_mk0), rfl, bel.frame _, fun h => by cases h⟩
theorem over : Rows.fnExactRowSumRow.holds Tryz.pinned (OpenSpec.ofChange Rows.fnExactRowSumSpec) :=
  OpenClaim.holds_of_wide 4 Tryz.f4 rfl rfl rfl rfl rfl rfl rfl ⟨rfl, rfl, rfl, rfl, rfl⟩ rfl rfl rfl rfl rfl (by kernel_rfl) Tryz.func4 (by kernel_rfl)
    (of_decide_eq_true (by kernel_rfl)) (by unfold Func.isWrapper; first | (rw [if_pos (by decide +kernel)]; kernel_rfl) | (rw [if_neg (by decide +kernel)]; exact ⟨rfl, rfl⟩))
    (fun os started H enc _ => lifted os started H enc)
theorem proved : Rows.FnExactRowSumSaid := over
#print axioms proved
end Go.Proofs.YtjnamoppcklomaaGreat.fnExactRowSum
