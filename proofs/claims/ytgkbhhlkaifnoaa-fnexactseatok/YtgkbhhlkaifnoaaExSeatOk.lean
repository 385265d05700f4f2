/- For every seat and all numbers (no condition): laws.FnExactSeatOk returns true, and its argument reads afterwards as it did: the program's SeatOk answers as the model's, writes nothing into its argument, and its answer owns its memory. -/
import Derived.Test.YtgkbhhlkaifnoaaSeModel
import Derived.Test.YtgkbhhlkaifnoaaB1
import Derived.Test.YtgkbhhlkaifnoaaSkLaw
import Derived.Test.YtgkbhhlkaifnoaaRows
import Derived.WalkKit
import Derived.ProofKit
import Derived.OpenShut
import Derived.ShutString
import Derived.ChangeOld
import Derived.Below
import Derived.Deep.DeepCutAuto
namespace Go.Proofs.Ytgkbhhlkaifnoaa.fnExactSeatOk
open Go.ChangeShapes Go.WideShapes Go.ChangeAt Go.RowKit
set_option linter.unusedVariables false
theorem own : ownKnob Try.prog.godebug = none := by kernel_rfl
set_option maxRecDepth 200000 in
set_option maxHeartbeats 16000000 in
theorem walk (c : Int) (v0 : Value) (s : Se) (F : List Nat) (w : World) (h0 : RdSe w v0 s F) (hv0 : s.vast) :
    Calls Try.prog 6 #[v0, .int .i64 c] w fun e w' => e = .returned (.bool true) ∧ Below w.heap.size w w' := by
  have HH0 : Hid (RdSe w v0 s F ∧ s.vast) := ⟨h0, hv0⟩
  obtain ⟨cs0, rfl, hc0, _⟩ := h0.cells
  have HC0 : Hid (cs0.size = 5) := hc0
  have BX0 : Hid (Blk (w.alloc (.cells cs0 64)) (w.heap.size) cs0 64) := Blk.made _ _ _
  have BEL : Hid (Below w.heap.size w (w.alloc (.cells cs0 64))) := Below.allocW _ (Below.refl _ _) (Nat.le_refl _)
  clear h0 hv0 hc0
  go_enter Try.func6, Try.ntmps6
  go_wp2_with (first | go_skip | (with_reducible refine stopLoad 64 rfl ?_) | (with_reducible refine stopLoad 54 rfl ?_) | (with_reducible refine stopStore 54 rfl ?_))
  refine load_any 64 (w.heap.size) cs0 64 _ BX0.out rfl rfl rfl Try.underlying64 rfl (lseSize HC0.out) ?_
  go_wp2_with fail
  refine (szSe_vast _ s F 1048576 _ (HH0.out.1.below BEL.out) HH0.out.2 (by omega) (by omega)).mono ?_
  rintro e w1 ⟨⟨r0, rfl, ra, rb, rc⟩, hb1⟩
  have BX0 : Hid (Blk w1 (w.heap.size) cs0 64) := BX0.out.below hb1
  have BEL : Hid (Below w.heap.size w w1) := Below.next BEL.out hb1
  by_cases q : r0 < 0
  · clear ra rb rc hb1
    have hq : decide (r0 < 0) = true := dec_true q
    go_wp2
    go_ret
    exact ⟨rfl, BEL.out⟩
  have q' : 0 ≤ r0 := by omega
  have hq : decide (r0 < 0) = false := dec_false q
  have HSZ0 : Hid ((s.taken.length : Int) ≤ 1048576) := by have := rb q'; show _ ≤ _; omega
  have HR0 : Hid (0 ≤ r0 ∧ r0 ≤ 1048576) := ⟨q', by omega⟩
  have HF0 : Hid (s.fits) := (by have := HSZ0.out; show s.taken.length ≤ 1048576; omega)
  have HMI0 : Hid (0 ≤ s.many ∧ s.many ≤ 16777216) := ⟨(Se.many_fits HF0.out).1, by have := (Se.many_fits HF0.out).2; omega⟩
  clear ra rb rc hb1 q q'
  have LB0 : Hid (w.heap.size + 1 ≤ w1.heap.size) := BX0.out.lt
  obtain ⟨ra, hz⟩ : ∃ ra, ra = s.ok c := ⟨_, rfl⟩
  have HZ : Hid (ra = s.ok c) := hz
  have hra : (ra != ra) = false := by simp
  clear hz
  go_wp2_with (first | go_skip | (with_reducible refine stopLoad 64 rfl ?_) | (with_reducible refine stopLoad 54 rfl ?_) | (with_reducible refine stopStore 54 rfl ?_))
  refine load_any 64 (w.heap.size) cs0 64 _ BX0.out rfl rfl rfl Try.underlying64 rfl (lseSize HC0.out) ?_
  go_wp2_with fail
  refine (toSe_any _ s F _ (HH0.out.1.below BEL.out) HF0.out).mono ?_
  rintro e w2 ⟨ztw, Xtw, rfl, rz, oz, bz⟩
  have BX0 : Hid (Blk w2 (w.heap.size) cs0 64) := BX0.out.below bz
  have BEL : Hid (Below w.heap.size w w2) := Below.next BEL.out bz
  have Ttw : Hid (RdSe w2 ztw s Xtw ∧ Own w1.heap.size w2 Xtw ∧ Below w1.heap.size w1 w2) := ⟨rz, oz, bz⟩
  have O1 : Hid (w1.heap.size ≤ w2.heap.size) := by show _ ≤ _; exact bz.size
  clear rz oz bz
  go_wp2_with fail
  refine (seOkSpec_any _ s c Xtw _ (Ttw.out.1) HF0.out.wide).mono ?_
  rintro e w3 ⟨he, bz⟩
  rw [← HZ.out] at he
  subst he
  have BX0 : Hid (Blk w3 (w.heap.size) cs0 64) := BX0.out.below bz
  have BEL : Hid (Below w.heap.size w w3) := Below.next BEL.out bz
  clear bz Ttw
  go_wp2_with (first | go_skip | (with_reducible refine stopLoad 64 rfl ?_) | (with_reducible refine stopLoad 54 rfl ?_) | (with_reducible refine stopStore 54 rfl ?_))
  refine load_any 64 (w.heap.size) cs0 64 _ BX0.out rfl rfl rfl Try.underlying64 rfl (lseSize HC0.out) ?_
  go_wp2_with fail
  refine (toSe_any _ s F _ (HH0.out.1.below BEL.out) HF0.out).mono ?_
  rintro e w4 ⟨zx0, Xx0, rfl, rz, oz, bz⟩
  have BX0 : Hid (Blk w4 (w.heap.size) cs0 64) := BX0.out.below bz
  have BEL : Hid (Below w.heap.size w w4) := Below.next BEL.out bz
  have Tx0 : Hid (RdSe w4 zx0 s Xx0 ∧ Own w3.heap.size w4 Xx0 ∧ Below w3.heap.size w3 w4) := ⟨rz, oz, bz⟩
  have O2 : Hid (w3.heap.size ≤ w4.heap.size) := by show _ ≤ _; exact bz.size
  clear rz oz bz
  obtain ⟨cx0, rfl, szx0, onx0⟩ := Tx0.out.1.cells
  have SZ : Hid (cx0.size = 5 ∧ cx0.all (·.oneCell') = true) := ⟨szx0, onx0⟩
  clear szx0 onx0
  go_wp2_with (first | go_skip | (with_reducible refine stopLoad 64 rfl ?_) | (with_reducible refine stopLoad 54 rfl ?_) | (with_reducible refine stopStore 54 rfl ?_))
  refine store_fresh 54 w4.heap.size rfl #[.int .i64 0, .int .i64 0, .slice none 0 0, .int .i64 0, .int .i64 0] cx0 54 rfl rfl rfl rfl (seSize SZ.out.1) SZ.out.1.symm SZ.out.2 ?_
  intro w5 hg hb
  have BX0 : Hid (Blk w5 (w.heap.size) cs0 64) := BX0.out.below hb
  have BEL : Hid (Below w.heap.size w w5) := Below.next BEL.out hb
  have Vx0 : Hid (VarSe w5 w3.heap.size w5.heap.size w4.heap.size cx0 s Xx0) := VarSe.fresh Tx0.out.1 Tx0.out.2.1 Tx0.out.2.2 SZ.out.1 hg hb
  have O3 : Hid (w3.heap.size ≤ w5.heap.size) := by show _ ≤ _; have := Tx0.out.2.2.size; have := hb.size; omega
  clear hg hb Tx0 SZ
  go_wp2_with (first | go_skip | (with_reducible refine stopLoad 64 rfl ?_) | (with_reducible refine stopLoad 54 rfl ?_) | (with_reducible refine stopStore 54 rfl ?_))
  refine load_any 54 _ cx0 54 _ Vx0.out.blk rfl rfl rfl Try.underlying54 rfl (seSize Vx0.out.sz) ?_
  go_wp2_with fail
  refine (seOkImpl_any _ s c Xx0 _ (Vx0.out.rd) HF0.out.wide).mono ?_
  rintro e w6 ⟨he, bz⟩
  rw [← HZ.out] at he
  subst he
  have BX0 : Hid (Blk w6 (w.heap.size) cs0 64) := BX0.out.below bz
  have BEL : Hid (Below w.heap.size w w6) := Below.next BEL.out bz
  have Vx0 : Hid (VarSe w6 w3.heap.size w5.heap.size w4.heap.size cx0 s Xx0) := Vx0.out.below bz
  clear bz
  go_wp2_with fail
  have BD := (Below.refl w6.heap.size w6).drew
  obtain ⟨Y10, hY10⟩ : ∃ Y, Y = w6.drew := ⟨_, rfl⟩
  rw [← hY10] at BD
  have BX0 : Hid (Blk Y10 (w.heap.size) cs0 64) := BX0.out.below BD
  have BEL : Hid (Below w.heap.size w Y10) := Below.next BEL.out BD
  have Vx0 : Hid (VarSe Y10 w3.heap.size w5.heap.size w4.heap.size cx0 s Xx0) := Vx0.out.below BD
  refine wp_region_held (S := fun W => Blk W (w.heap.size) cs0 64 ∧ Blk W (w4.heap.size) cx0 54) (by kernel_rfl) ?_
  change wpAnyH _ _ _ _ _ _ _ _ (World.drew _)
  rw [← hY10]
  clear hY10 BD
  refine takeH (o := ?o1) 0 (.agg cx0) ?h1 ?r1
  case h1 => simp only [aT, aZ]; rfl
  refine ⟨_, by simp [Act.put]; rfl, by kernel_rfl, by kernel_rfl, by kernel_rfl, fun _ _ _ h => h, (yields_whole 54 _ cx0 54 _ rfl rfl rfl Try.underlying54 rfl (seSize Vx0.out.sz) (fun W hW => hW.2)), ⟨BX0.out, Vx0.out.blk⟩, ?_⟩
  refine takeH (o := ?o2) 1 (.agg cs0) ?h2 ?r2
  case h2 => simp only [aT, aS, aZ]; rfl
  refine ⟨_, by simp [Act.put]; rfl, by kernel_rfl, by kernel_rfl, by kernel_rfl, fun _ _ _ h => h, (yields_whole 64 _ cs0 64 _ rfl rfl rfl Try.underlying64 rfl (lseSize HC0.out) (fun W hW => hW.1)), ⟨BX0.out, Vx0.out.blk⟩, ?_⟩
  refine onlyH (o := ?o3) 2 (by kernel_rfl) ?h3 ?r3
  case h3 => simp only [aT, aS, aZ]; rfl
  intro K hK
  refine op_call1 35 _ _ Try.f35 (fun v w' => ∃ X, RdSe w' v s X ∧ Below Y10.heap.size Y10 w') rfl rfl Try.func35 (by kernel_rfl) (by kernel_rfl) ((toSe_any _ s F Y10 (HH0.out.1.below BEL.out) HF0.out).mono (by rintro e w' ⟨v, X, rfl, h1, _, h3⟩; exact ⟨_, rfl, X, h1, h3⟩)) ?_
  rintro zq w7 ⟨Xq, rz, bz⟩
  have BX0 : Hid (Blk w7 (w.heap.size) cs0 64) := BX0.out.below bz
  have BEL : Hid (Below w.heap.size w w7) := Below.next BEL.out bz
  have Vx0 : Hid (VarSe w7 w3.heap.size w5.heap.size w4.heap.size cx0 s Xx0) := Vx0.out.below bz
  have TQ : Hid (RdSe w7 zq s Xq) := rz
  refine ⟨_, by simp [Act.put]; rfl, hK _ _ ⟨⟨BX0.out, Vx0.out.blk⟩, ?_⟩⟩
  clear hK rz bz
  refine onlyH (o := ?o4) 3 (by kernel_rfl) ?h4 ?r4
  case h4 => simp only [aT, aS, aZ]; rfl
  intro K hK
  refine op_call2 36 _ _ _ Try.f36 (fun w' => Below w7.heap.size w7 w') (.bool (decide (s = s))) rfl rfl Try.func36 (by kernel_rfl) (by kernel_rfl) (eqSe_any (.agg cx0) zq s s Xx0 Xq w7 Vx0.out.rd TQ.out HF0.out.wide HF0.out.wide) ⟨_, by simp [Act.put]; rfl, ?_⟩
  intro w8 bz
  have BX0 : Hid (Blk w8 (w.heap.size) cs0 64) := BX0.out.below bz
  have BEL : Hid (Below w.heap.size w w8) := Below.next BEL.out bz
  have Vx0 : Hid (VarSe w8 w3.heap.size w5.heap.size w4.heap.size cx0 s Xx0) := Vx0.out.below bz
  refine hK _ _ ⟨⟨BX0.out, Vx0.out.blk⟩, ?_⟩
  clear hK bz TQ
  refine takeH (o := ?o5) 4 (.bool false) ?h5 ?r5
  case h5 => simp only [aT, aS, aZ]; rfl
  refine ⟨_, by simp [Act.put]; rfl, by kernel_rfl, by kernel_rfl, by kernel_rfl, fun _ _ _ h => h, (.inl ⟨rfl, fun W _ => by go_simp⟩), ⟨BX0.out, Vx0.out.blk⟩, ?_⟩
  refine wpAnyH_done (by kernel_rfl) ?_ _
  go_wp2
  go_ret
  exact ⟨rfl, BEL.out⟩
set_option maxRecDepth 200000 in
theorem lifted (os : Os) (started : os.Started) (H : Type) (enc : TypeId × Value → H) :
    ReturnsInHanded {} Try.checked os 6 .any (Rows.fnExactSeatOkSpec.pre6 enc Try.prog Try.f6 Rows.fnExactSeatOkRow.domain false) (Rows.fnExactSeatOkSpec.post enc Try.prog Try.f6 false true false false) := by
  refine returnsInHanded_of_change (C := Try.checked) own started (by kernel_rfl) Try.func6
    (ChangeSpec.witness6 (enc := enc) (C := Try.checked) false ⟨#[], #[.agg #[.int .i64 0, .int .i64 0, .slice none 0 0, .int .i64 0, .int .i64 0], .int .i64 0], []⟩ 8 (by kernel_rfl) (by kernel_rfl) (by kernel_rfl) (by kernel_rfl)) ?_
  intro W base args ds gs before hval0 hW hcnd _
  have hval : ∀ (j : Nat) t v, Try.f6.params[j]? = some t → args[j]? = some v → Value.okWide Try.prog W .any base t v := hval0
  have hW' := hW
  obtain ⟨p, q, hA0, hV, rfl, hfz, hnd⟩ := hW
  have hA : DataW.TrodAll enc Try.prog W 0 (fun _ => true) true Try.f6.params.toList args.toList ds p := hA0
  rw [Try.params6] at hA hval
  obtain ⟨v0, vs0, d0, ds0, p0, q0, hargs0, rfl, rfl, h0, r0⟩ := trodAll_cons hA
  obtain ⟨v1, vs1, d1, ds1, p1, q1, hargs1, rfl, rfl, h1, r1⟩ := trodAll_cons r0
  obtain ⟨rfl, rfl, rfl⟩ := trodAll_nil r1
  obtain rfl : args = #[v0, v1] := by cases args; simp_all
  obtain ⟨rfl, rfl⟩ := trodVars_none hV
  have k0 := h0
  have lt0 : ∀ x ∈ p0, x.block < W.heap.size := by obtain ⟨m, hm⟩ := k0; exact DataW.trod_lt m _ _ _ hm
  obtain ⟨s0, F0, hR0, hv0⟩ := open_Se (hval 0 64 v0 rfl rfl) h0
  obtain ⟨a1, rfl, rfl, rfl, w1⟩ := open_int Try.underlying3 (hval 1 3 v1 rfl rfl) h1
  clear hA0 hval0
  refine (walk a1 v0 s0 F0 W hR0 hv0).mono fun e W' ⟨he, bel⟩ => ?_
  subst he
  exact ⟨_, rfl, _, _, _, [], _, [], hW', trodAll_mk1 (shut_bool Try.underlying4 _), (trodAll_cons_mk (Below.trod sp_laidOut (by kernel_rfl) (of_decide_eq_true (by kernel_rfl)) k0 bel lt0) (trodAll_cons_mk (shut_int Try.underlying3 w1) trodAll_mk0)), rfl, bel.frame _, fun h => by cases h⟩
theorem over : Rows.fnExactSeatOkRow.holds Try.pinned (OpenSpec.ofChange Rows.fnExactSeatOkSpec) :=
  OpenClaim.holds_of_wide 6 Try.f6 rfl rfl rfl rfl rfl rfl rfl ⟨rfl, rfl, rfl, rfl, rfl⟩ rfl rfl rfl rfl rfl (by kernel_rfl) Try.func6 (by kernel_rfl)
    (of_decide_eq_true (by kernel_rfl)) (by unfold Func.isWrapper; first | (rw [if_pos (by decide +kernel)]; kernel_rfl) | (rw [if_neg (by decide +kernel)]; exact ⟨rfl, rfl⟩))
    (fun os started H enc _ => lifted os started H enc)
theorem proved : Rows.FnExactSeatOkSaid := over
#print axioms proved
end Go.Proofs.Ytgkbhhlkaifnoaa.fnExactSeatOk
