/- For every turn (no condition): laws.FnExactTurnOk returns true, and its argument reads afterwards as it did: the program's TurnOk answers as the model's, and writes nothing into its argument. -/
import Derived.Test.YtoppjpacgkjhkaaRRTuImplA
import Derived.Test.YtoppjpacgkjhkaaRRTuVar
import Derived.Test.YtoppjpacgkjhkaaRRSkLaw
import Derived.Test.YtoppjpacgkjhkaaRRRows
import Derived.WalkKit
import Derived.ProofKit
import Derived.OpenShut
import Derived.ShutString
import Derived.ChangeOld
import Derived.Below
import Derived.Deep.DeepCutAuto
namespace Go.Proofs.YtoppjpacgkjhkaaRR.fnExactTurnOk
open Go.ChangeShapes Go.WideShapes Go.ChangeAt Go.RowKit
set_option linter.unusedVariables false
theorem own : ownKnob Try.prog.godebug = none := by kernel_rfl
set_option maxRecDepth 200000 in
set_option maxHeartbeats 16000000 in
theorem walk  (v0 : Value) (s : Tu) (F : List Nat) (w : World) (h0 : RdTu w v0 s F) (hv0 : s.vast) :
    Calls Try.prog 3 #[v0] w fun e w' => e = .returned (.bool true) ∧ Below w.heap.size w w' := by
  have HH0 : Hid (RdTu w v0 s F ∧ s.vast) := ⟨h0, hv0⟩
  obtain ⟨cs0, rfl, hc0, _⟩ := h0.cells
  have HC0 : Hid (cs0.size = 3) := hc0
  have BX0 : Hid (Blk (w.alloc (.cells cs0 24)) (w.heap.size) cs0 24) := Blk.made _ _ _
  have BEL : Hid (Below w.heap.size w (w.alloc (.cells cs0 24))) := Below.allocW _ (Below.refl _ _) (Nat.le_refl _)
  clear h0 hv0 hc0
  go_enter Try.func3, Try.ntmps3
  go_wp2_with (first | go_skip | (with_reducible refine stopLoad 24 rfl ?_) | (with_reducible refine stopLoad 27 rfl ?_) | (with_reducible refine stopStore 27 rfl ?_))
  refine load_any 24 (w.heap.size) cs0 24 _ BX0.out rfl rfl rfl Try.underlying24 rfl (ltuSize HC0.out) ?_
  go_wp2_with fail
  refine (szTu_vast _ s F 1048576 _ (HH0.out.1.below BEL.out) HH0.out.2 (by omega) (by omega)).mono ?_
  rintro e w1 ⟨⟨r0, rfl, ra, rb, rc⟩, hb1⟩
  have BX0 : Hid (Blk w1 (w.heap.size) cs0 24) := BX0.out.below hb1
  have BEL : Hid (Below w.heap.size w w1) := Below.next BEL.out hb1
  by_cases q : r0 < 0
  · clear ra rb rc hb1
    have hq : decide (r0 < 0) = true := dec_true q
    go_wp2
    go_ret
    exact ⟨rfl, BEL.out⟩
  have q' : 0 ≤ r0 := by omega
  have hq : decide (r0 < 0) = false := dec_false q
  have HSZ0 : Hid ((s.left.length : Int) ≤ 1048576) := by have := rb q'; show _ ≤ _; omega
  have HR0 : Hid (0 ≤ r0 ∧ r0 ≤ 1048576) := ⟨q', by omega⟩
  have HF0 : Hid (s.fits) := (by have := HSZ0.out; show s.left.length ≤ 1048576; omega)
  have HMI0 : Hid (0 ≤ s.many ∧ s.many ≤ 16777216) := ⟨(Tu.many_fits HF0.out).1, by have := (Tu.many_fits HF0.out).2; omega⟩
  clear ra rb rc hb1 q q'
  have LB0 : Hid (w.heap.size + 1 ≤ w1.heap.size) := BX0.out.lt
  obtain ⟨ra, hz⟩ : ∃ ra, ra = s.ok := ⟨_, rfl⟩
  have HZ : Hid (ra = s.ok) := hz
  have hra : (ra != ra) = false := by simp
  clear hz
  go_wp2_with (first | go_skip | (with_reducible refine stopLoad 24 rfl ?_) | (with_reducible refine stopLoad 27 rfl ?_) | (with_reducible refine stopStore 27 rfl ?_))
  refine load_any 24 (w.heap.size) cs0 24 _ BX0.out rfl rfl rfl Try.underlying24 rfl (ltuSize HC0.out) ?_
  go_wp2_with fail
  refine (toTu_any _ s F _ (HH0.out.1.below BEL.out) HF0.out).mono ?_
  rintro e w2 ⟨ztw0, Xtw0, rfl, rz, oz, bz⟩
  have BX0 : Hid (Blk w2 (w.heap.size) cs0 24) := BX0.out.below bz
  have BEL : Hid (Below w.heap.size w w2) := Below.next BEL.out bz
  have Ttw0 : Hid (RdTu w2 ztw0 s Xtw0 ∧ Own w1.heap.size w2 Xtw0 ∧ Below w1.heap.size w1 w2) := ⟨rz, oz, bz⟩
  have O1 : Hid (w1.heap.size ≤ w2.heap.size) := by show _ ≤ _; exact bz.size
  clear rz oz bz
  go_wp2_with fail
  refine (turnOkSpec_any _ s Xtw0 _ (Ttw0.out.1) HF0.out.wide).mono ?_
  rintro e w3 ⟨he, bz⟩
  rw [← HZ.out] at he
  subst he
  have BX0 : Hid (Blk w3 (w.heap.size) cs0 24) := BX0.out.below bz
  have BEL : Hid (Below w.heap.size w w3) := Below.next BEL.out bz
  clear bz Ttw0
  go_wp2_with (first | go_skip | (with_reducible refine stopLoad 24 rfl ?_) | (with_reducible refine stopLoad 27 rfl ?_) | (with_reducible refine stopStore 27 rfl ?_))
  refine load_any 24 (w.heap.size) cs0 24 _ BX0.out rfl rfl rfl Try.underlying24 rfl (ltuSize HC0.out) ?_
  go_wp2_with fail
  refine (toTu_any _ s F _ (HH0.out.1.below BEL.out) HF0.out).mono ?_
  rintro e w4 ⟨zx0, Xx0, rfl, rz, oz, bz⟩
  have BX0 : Hid (Blk w4 (w.heap.size) cs0 24) := BX0.out.below bz
  have BEL : Hid (Below w.heap.size w w4) := Below.next BEL.out bz
  have Tx0 : Hid (RdTu w4 zx0 s Xx0 ∧ Own w3.heap.size w4 Xx0 ∧ Below w3.heap.size w3 w4) := ⟨rz, oz, bz⟩
  have O2 : Hid (w3.heap.size ≤ w4.heap.size) := by show _ ≤ _; exact bz.size
  clear rz oz bz
  obtain ⟨cx0, rfl, szx0, onx0⟩ := Tx0.out.1.cells
  have SZ : Hid (cx0.size = 3 ∧ cx0.all (·.oneCell') = true) := ⟨szx0, onx0⟩
  clear szx0 onx0
  go_wp2_with (first | go_skip | (with_reducible refine stopLoad 24 rfl ?_) | (with_reducible refine stopLoad 27 rfl ?_) | (with_reducible refine stopStore 27 rfl ?_))
  refine store_fresh 27 w4.heap.size rfl #[.int .i64 0, .bool false, .slice none 0 0] cx0 27 rfl rfl rfl rfl (tuSize SZ.out.1) SZ.out.1.symm SZ.out.2 ?_
  intro w5 hg hb
  have BX0 : Hid (Blk w5 (w.heap.size) cs0 24) := BX0.out.below hb
  have BEL : Hid (Below w.heap.size w w5) := Below.next BEL.out hb
  have Vx0 : Hid (VarTu w5 w3.heap.size w5.heap.size w4.heap.size cx0 s Xx0) := VarTu.fresh Tx0.out.1 Tx0.out.2.1 Tx0.out.2.2 SZ.out.1 hg hb
  have O3 : Hid (w3.heap.size ≤ w5.heap.size) := by show _ ≤ _; have := Tx0.out.2.2.size; have := hb.size; omega
  clear hg hb Tx0 SZ
  go_wp2_with (first | go_skip | (with_reducible refine stopLoad 24 rfl ?_) | (with_reducible refine stopLoad 27 rfl ?_) | (with_reducible refine stopStore 27 rfl ?_))
  refine load_any 27 _ cx0 27 _ Vx0.out.blk rfl rfl rfl Try.underlying27 rfl (tuSize Vx0.out.sz) ?_
  go_wp2_with fail
  refine (turnOkImpl_any _ s Xx0 _ (Vx0.out.rd) HF0.out.wide).mono ?_
  rintro e w6 ⟨he, bz⟩
  rw [← HZ.out] at he
  subst he
  have BX0 : Hid (Blk w6 (w.heap.size) cs0 24) := BX0.out.below bz
  have BEL : Hid (Below w.heap.size w w6) := Below.next BEL.out bz
  have Vx0 : Hid (VarTu w6 w3.heap.size w5.heap.size w4.heap.size cx0 s Xx0) := Vx0.out.below bz
  clear bz
  go_wp2_with fail
  have BD := (Below.refl w6.heap.size w6).drew
  obtain ⟨Y10, hY10⟩ : ∃ Y, Y = w6.drew := ⟨_, rfl⟩
  rw [← hY10] at BD
  have BX0 : Hid (Blk Y10 (w.heap.size) cs0 24) := BX0.out.below BD
  have BEL : Hid (Below w.heap.size w Y10) := Below.next BEL.out BD
  have Vx0 : Hid (VarTu Y10 w3.heap.size w5.heap.size w4.heap.size cx0 s Xx0) := Vx0.out.below BD
  refine wp_region_held (S := fun W => Blk W (w.heap.size) cs0 24 ∧ Blk W (w4.heap.size) cx0 27) (by kernel_rfl) ?_
  change wpAnyH _ _ _ _ _ _ _ _ (World.drew _)
  rw [← hY10]
  clear hY10 BD
  refine takeH (o := ?o1) 0 (.agg cx0) ?h1 ?r1
  case h1 => simp only [aT, aZ]; rfl
  refine ⟨_, by simp [Act.put]; rfl, by kernel_rfl, by kernel_rfl, by kernel_rfl, fun _ _ _ h => h, (yields_whole 27 _ cx0 27 _ rfl rfl rfl Try.underlying27 rfl (tuSize Vx0.out.sz) (fun W hW => hW.2)), ⟨BX0.out, Vx0.out.blk⟩, ?_⟩
  refine takeH (o := ?o2) 1 (.agg cs0) ?h2 ?r2
  case h2 => simp only [aT, aS, aZ]; rfl
  refine ⟨_, by simp [Act.put]; rfl, by kernel_rfl, by kernel_rfl, by kernel_rfl, fun _ _ _ h => h, (yields_whole 24 _ cs0 24 _ rfl rfl rfl Try.underlying24 rfl (ltuSize HC0.out) (fun W hW => hW.1)), ⟨BX0.out, Vx0.out.blk⟩, ?_⟩
  refine onlyH (o := ?o3) 2 (by kernel_rfl) ?h3 ?r3
  case h3 => simp only [aT, aS, aZ]; rfl
  intro K hK
  refine op_call1 7 _ _ Try.f7 (fun v w' => ∃ X, RdTu w' v s X ∧ Below Y10.heap.size Y10 w') rfl rfl Try.func7 (by kernel_rfl) (by kernel_rfl) ((toTu_any _ s F Y10 (HH0.out.1.below BEL.out) HF0.out).mono (by rintro e w' ⟨v, X, rfl, h1, _, h3⟩; exact ⟨_, rfl, X, h1, h3⟩)) ?_
  rintro zq w7 ⟨Xq, rz, bz⟩
  have BX0 : Hid (Blk w7 (w.heap.size) cs0 24) := BX0.out.below bz
  have BEL : Hid (Below w.heap.size w w7) := Below.next BEL.out bz
  have Vx0 : Hid (VarTu w7 w3.heap.size w5.heap.size w4.heap.size cx0 s Xx0) := Vx0.out.below bz
  have TQ : Hid (RdTu w7 zq s Xq) := rz
  refine ⟨_, by simp [Act.put]; rfl, hK _ _ ⟨⟨BX0.out, Vx0.out.blk⟩, ?_⟩⟩
  clear hK rz bz
  refine onlyH (o := ?o4) 3 (by kernel_rfl) ?h4 ?r4
  case h4 => simp only [aT, aS, aZ]; rfl
  intro K hK
  refine op_call2 9 _ _ _ Try.f9 (fun w' => Below w7.heap.size w7 w') (.bool (decide (s = s))) rfl rfl Try.func9 (by kernel_rfl) (by kernel_rfl) (eqTu_any (.agg cx0) zq s s Xx0 Xq w7 Vx0.out.rd TQ.out HF0.out.wide HF0.out.wide) ⟨_, by simp [Act.put]; rfl, ?_⟩
  intro w8 bz
  have BX0 : Hid (Blk w8 (w.heap.size) cs0 24) := BX0.out.below bz
  have BEL : Hid (Below w.heap.size w w8) := Below.next BEL.out bz
  have Vx0 : Hid (VarTu w8 w3.heap.size w5.heap.size w4.heap.size cx0 s Xx0) := Vx0.out.below bz
  refine hK _ _ ⟨⟨BX0.out, Vx0.out.blk⟩, ?_⟩
  clear hK bz TQ
  refine takeH (o := ?o5) 4 (.bool false) ?h5 ?r5
  case h5 => simp only [aT, aS, aZ]; rfl
  refine ⟨_, by simp [Act.put]; rfl, by kernel_rfl, by kernel_rfl, by kernel_rfl, fun _ _ _ h => h, (.inl ⟨rfl, fun W _ => by go_simp⟩), ⟨BX0.out, Vx0.out.blk⟩, ?_⟩
  refine wpAnyH_done (by kernel_rfl) ?_ _
  go_wp2
  go_ret
  exact ⟨rfl, BEL.out⟩
set_option maxRecDepth 200000 in
theorem lifted (os : Os) (started : os.Started) (H : Type) (enc : TypeId × Value → H) :
    ReturnsInHanded {} Try.checked os 3 .any (Rows.fnExactTurnOkSpec.pre6 enc Try.prog Try.f3 Rows.fnExactTurnOkRow.domain false) (Rows.fnExactTurnOkSpec.post enc Try.prog Try.f3 false true false false) := by
  refine returnsInHanded_of_change (C := Try.checked) own started (by kernel_rfl) Try.func3
    (ChangeSpec.witness6 (enc := enc) (C := Try.checked) false ⟨#[], #[.agg #[.int .i64 0, .bool false, .slice none 0 0]], []⟩ 8 (by kernel_rfl) (by kernel_rfl) (by kernel_rfl) (by kernel_rfl)) ?_
  intro W base args ds gs before hval0 hW hcnd _
  have hval : ∀ (j : Nat) t v, Try.f3.params[j]? = some t → args[j]? = some v → Value.okWide Try.prog W .any base t v := hval0
  have hW' := hW
  obtain ⟨p, q, hA0, hV, rfl, hfz, hnd⟩ := hW
  have hA : DataW.TrodAll enc Try.prog W 0 (fun _ => true) true Try.f3.params.toList args.toList ds p := hA0
  rw [Try.params3] at hA hval
  obtain ⟨v0, vs0, d0, ds0, p0, q0, hargs0, rfl, rfl, h0, r0⟩ := trodAll_cons hA
  obtain ⟨rfl, rfl, rfl⟩ := trodAll_nil r0
  obtain rfl : args = #[v0] := by cases args; simp_all
  obtain ⟨rfl, rfl⟩ := trodVars_none hV
  have k0 := h0
  have lt0 : ∀ x ∈ p0, x.block < W.heap.size := by obtain ⟨m, hm⟩ := k0; exact DataW.trod_lt m _ _ _ hm
  obtain ⟨s0, F0, hR0, hv0⟩ := open_Tu (hval 0 24 v0 rfl rfl) h0
  clear hA0 hval0
  refine (walk  v0 s0 F0 W hR0 hv0).mono fun e W' ⟨he, bel⟩ => ?_
  subst he
  exact ⟨_, rfl, _, _, _, [], _, [], hW', trodAll_mk1 (shut_bool Try.underlying4 _), (trodAll_cons_mk (Below.trod tu_laidOut (by kernel_rfl) (of_decide_eq_true (by kernel_rfl)) k0 bel lt0) trodAll_mk0), rfl, bel.frame _, fun h => by cases h⟩
theorem over : Rows.fnExactTurnOkRow.holds Try.pinned (OpenSpec.ofChange Rows.fnExactTurnOkSpec) :=
  OpenClaim.holds_of_wide 3 Try.f3 rfl rfl rfl rfl rfl rfl rfl ⟨rfl, rfl, rfl, rfl, rfl⟩ rfl rfl rfl rfl rfl (by kernel_rfl) Try.func3 (by kernel_rfl)
    (of_decide_eq_true (by kernel_rfl)) (by unfold Func.isWrapper; first | (rw [if_pos (by decide +kernel)]; kernel_rfl) | (rw [if_neg (by decide +kernel)]; exact ⟨rfl, rfl⟩))
    (fun os started H enc _ => lifted os started H enc)
theorem proved : Rows.FnExactTurnOkSaid := over
#print axioms proved
end Go.Proofs.YtoppjpacgkjhkaaRR.fnExactTurnOk
