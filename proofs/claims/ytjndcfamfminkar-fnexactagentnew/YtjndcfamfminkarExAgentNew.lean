/- For every number (no condition): laws.FnExactAgentNew returns true, and its arguments read afterwards as they did: the program's AgentNew answers as the model's, writes nothing into its arguments, and its answer owns its memory. -/
import Derived.Test.YtjndcfamfminkarB4
import Derived.Test.YtjndcfamfminkarB2
import Derived.Test.YtjndcfamfminkarSkLaw
import Derived.Test.YtjndcfamfminkarRows
import Derived.WalkKit
import Derived.ProofKit
import Derived.OpenShut
import Derived.ShutString
import Derived.ChangeOld
import Derived.Below
import Derived.Deep.DeepCutAuto
namespace Go.Proofs.Ytjndcfamfminkar.fnExactAgentNew
open Go.ChangeShapes Go.WideShapes Go.ChangeAt Go.RowKit
set_option linter.unusedVariables false
def NewA1 (w : World) (x : Ag) (d : Bool) (e : Ending) (w' : World) : Prop := ∃ v F, e = .returned (.tuple #[v, .bool d]) ∧ RdA w' v x F ∧ Own w.heap.size w' F ∧ Below w.heap.size w w'
set_option maxRecDepth 200000 in
theorem newSpecA_any (n : Int) (w : World) : Calls Try.prog 8 #[.int .i64 n] w fun e w' => NewA1 w (Ag.made n) (Ag.fresh n).ok e w' := (agentNewSpec_any n w).mono fun e w' h => by
  obtain ⟨⟨v, rfl, r⟩, b⟩ := h
  exact ⟨v, [], rfl, ⟨[], [], rfl, r⟩, Own.nil, b⟩
set_option maxRecDepth 200000 in
theorem newImplA_any (n : Int) (w : World) : Calls Try.prog 9 #[.int .i64 n] w fun e w' => NewA1 w (Ag.made n) (Ag.fresh n).ok e w' := (agentNewImpl_any n w).mono fun e w' h => by
  obtain ⟨⟨v, rfl, r⟩, b⟩ := h
  exact ⟨v, [], rfl, ⟨[], [], rfl, r⟩, Own.nil, b⟩
theorem made_wide (n : Int) : (Ag.made n).wide ∧ 0 ≤ (Ag.made n).many ∧ (Ag.made n).many ≤ 16777216 := by
  have q : ∀ k, (Ag.fresh k).wide ∧ 0 ≤ (Ag.fresh k).many ∧ (Ag.fresh k).many ≤ 16777216 := fun k => ⟨⟨(fun y hy => nomatch (show y ∈ ([] : List It) from hy)), (show 0 ≤ 1048576 by omega), (show 0 ≤ 2097152 by omega)⟩, Ag.many_nonneg _, by simp [Ag.many, Ag.fresh, itsMany]⟩
  unfold Ag.made
  by_cases h : (Ag.fresh n).ok = true
  · rw [if_pos h]; exact q n
  · rw [if_neg h]; exact q 0
theorem own : ownKnob Try.prog.godebug = none := by kernel_rfl
set_option maxRecDepth 200000 in
set_option maxHeartbeats 16000000 in
theorem walk (c : Int) (w : World) :
    Calls Try.prog 3 #[.int .i64 c] w fun e w' => e = .returned (.bool true) ∧ Below w.heap.size w w' := by
  have BEL : Hid (Below w.heap.size w w) := Below.refl _ _
  go_enter Try.func3, Try.ntmps3
  obtain ⟨ra, hz⟩ : ∃ ra, ra = Ag.made c := ⟨_, rfl⟩
  obtain ⟨d, hd⟩ : ∃ d, d = (Ag.fresh c).ok := ⟨_, rfl⟩
  have HZ : Hid (ra = Ag.made c) := hz
  have HD : Hid (d = (Ag.fresh c).ok) := hd
  have HM0 := made_wide c
  rw [← hz] at HM0
  have HM : Hid (ra.wide ∧ 0 ≤ ra.many ∧ ra.many ≤ 16777216) := HM0
  have hdd : (d != d) = false := by simp
  clear HM0 hz hd
  go_wp2_with fail
  refine (newSpecA_any c _).mono ?_
  intro e w1 hres
  rw [← HZ.out, ← HD.out] at hres
  obtain ⟨zv, Yw, rfl, ry, oy, bz⟩ := hres
  obtain ⟨cw, rfl, szw, onw⟩ := ry.cells
  have BEL : Hid (Below w.heap.size w w1) := Below.next BEL.out bz
  have TT : Hid (RdA w1 (.agg cw) ra Yw ∧ Own w.heap.size w1 Yw ∧ Below w.heap.size w w1 ∧ cw.size = 7 ∧ cw.all (·.oneCell') = true) := ⟨ry, oy, bz, szw, onw⟩
  clear ry oy bz szw onw
  go_wp2_with (first | go_skip | (with_reducible refine stopLoad 25 rfl ?_) | (with_reducible refine stopStore 25 rfl ?_))
  refine store_fresh 25 w1.heap.size rfl #[.int .i64 0, .int .i64 0, .bool false, .int .i64 0, .slice none 0 0, .slice none 0 0, .int .i64 0] cw 25 rfl rfl rfl rfl (agSize TT.out.2.2.2.1) TT.out.2.2.2.1.symm TT.out.2.2.2.2 ?_
  intro w2 hg hb
  have BEL : Hid (Below w.heap.size w w2) := Below.next BEL.out hb
  have Vw : Hid (VarA w2 w.heap.size w2.heap.size w1.heap.size cw ra Yw) := VarA.fresh TT.out.1 TT.out.2.1 TT.out.2.2.1 TT.out.2.2.2.1 hg hb
  have O0 : Hid (w.heap.size ≤ w2.heap.size) := by show _ ≤ _; have := TT.out.2.2.1.size; have := hb.size; omega
  clear hg hb TT
  go_wp2_with fail
  refine (newImplA_any c _).mono ?_
  intro e w3 hres
  rw [← HZ.out, ← HD.out] at hres
  obtain ⟨zv, Yg, rfl, ry, oy, bz⟩ := hres
  obtain ⟨cg, rfl, szg, ong⟩ := ry.cells
  have BEL : Hid (Below w.heap.size w w3) := Below.next BEL.out bz
  have Vw : Hid (VarA w3 w.heap.size w2.heap.size w1.heap.size cw ra Yw) := Vw.out.below bz
  have TT : Hid (RdA w3 (.agg cg) ra Yg ∧ Own w2.heap.size w3 Yg ∧ Below w2.heap.size w2 w3 ∧ cg.size = 7 ∧ cg.all (·.oneCell') = true) := ⟨ry, oy, bz, szg, ong⟩
  clear ry oy bz szg ong
  go_wp2_with (first | go_skip | (with_reducible refine stopLoad 25 rfl ?_) | (with_reducible refine stopStore 25 rfl ?_))
  refine store_fresh 25 w3.heap.size rfl #[.int .i64 0, .int .i64 0, .bool false, .int .i64 0, .slice none 0 0, .slice none 0 0, .int .i64 0] cg 25 rfl rfl rfl rfl (agSize TT.out.2.2.2.1) TT.out.2.2.2.1.symm TT.out.2.2.2.2 ?_
  intro w4 hg hb
  have BEL : Hid (Below w.heap.size w w4) := Below.next BEL.out hb
  have Vw : Hid (VarA w4 w.heap.size w2.heap.size w1.heap.size cw ra Yw) := Vw.out.below hb
  have Vg : Hid (VarA w4 w2.heap.size w4.heap.size w3.heap.size cg ra Yg) := VarA.fresh TT.out.1 TT.out.2.1 TT.out.2.2.1 TT.out.2.2.2.1 hg hb
  have O1 : Hid (w2.heap.size ≤ w4.heap.size) := by show _ ≤ _; have := TT.out.2.2.1.size; have := hb.size; omega
  clear hg hb TT
  go_wp2_with (first | go_skip | (with_reducible refine stopLoad 25 rfl ?_) | (with_reducible refine stopStore 25 rfl ?_))
  refine load_any 25 _ cg 25 _ Vg.out.blk rfl rfl rfl Try.underlying25 rfl (agSize Vg.out.sz) ?_
  go_wp2_with (first | go_skip | (with_reducible refine stopLoad 25 rfl ?_) | (with_reducible refine stopStore 25 rfl ?_))
  refine load_any 25 _ cw 25 _ Vw.out.blk rfl rfl rfl Try.underlying25 rfl (agSize Vw.out.sz) ?_
  go_wp2_with fail
  refine (eqA_any _ _ ra ra Yg Yw _ Vg.out.rd Vw.out.rd HM.out.1 HM.out.1).mono ?_
  rintro e w5 ⟨rfl, hb⟩
  have BEL : Hid (Below w.heap.size w w5) := Below.next BEL.out hb
  have Vw : Hid (VarA w5 w.heap.size w2.heap.size w1.heap.size cw ra Yw) := Vw.out.below hb
  have Vg : Hid (VarA w5 w2.heap.size w4.heap.size w3.heap.size cg ra Yg) := Vg.out.below hb
  clear hb
  have hdec : decide (ra = ra) = true := by simp
  rw [hdec]
  clear hdec
  go_wp2_with (first | go_skip | (with_reducible refine stopLoad 25 rfl ?_) | (with_reducible refine stopStore 25 rfl ?_))
  refine load_any 25 _ cg 25 _ Vg.out.blk rfl rfl rfl Try.underlying25 rfl (agSize Vg.out.sz) ?_
  go_wp2_with fail
  refine (markA_any w2.heap.size _ ra Yg 1 _ Vg.out.rd Vg.out.own HM.out.1 (by omega) (by have := HM.out; omega)).mono ?_
  rintro e w6 ⟨rfl, mk⟩
  have NG : Hid (VarA w6 w2.heap.size w4.heap.size w3.heap.size cg (ra.marked 1) Yg) := Vg.out.mark mk
  have NBEL : Hid (Below w.heap.size w w6) := mk.only.below BEL.out BEL.out.size (fun b hb => by have := Vg.out.own.ge b hb; have := O0.out; have := O1.out; omega)
  have NVw : Hid (VarA w6 w.heap.size w2.heap.size w1.heap.size cw ra Yw) := Vw.out.only' mk.only Vg.out.lt Vg.out.own.ge (.inl (by have := O0.out; have := O1.out; omega))
  have BEL : Hid (Below w.heap.size w w6) := NBEL.out
  have Vw : Hid (VarA w6 w.heap.size w2.heap.size w1.heap.size cw ra Yw) := NVw.out
  clear NBEL NVw
  have Vg : Hid (VarA w6 w2.heap.size w4.heap.size w3.heap.size cg (ra.marked 1) Yg) := NG.out
  obtain ⟨km, hkm⟩ : ∃ k, k = 1 + ra.many := ⟨_, rfl⟩
  rw [← hkm]
  have HKM : Hid (km = 1 + ra.many) := hkm
  have hkm0 : 0 ≤ km := by have := HM.out; omega
  have hkmn : decide (km < 0) = false := dec_false (by omega)
  have hkme : (km != km) = false := by simp
  clear hkm mk NG
  go_wp2_with (first | go_skip | (with_reducible refine stopLoad 25 rfl ?_) | (with_reducible refine stopStore 25 rfl ?_))
  refine load_any 25 _ cg 25 _ Vg.out.blk rfl rfl rfl Try.underlying25 rfl (agSize Vg.out.sz) ?_
  go_wp2_with fail
  refine (heldA_any _ ra Yg 1 _ Vg.out.rd HM.out.1 (by omega) (by have := HM.out; omega)).mono ?_
  rintro e w7 ⟨rfl, hb⟩
  have BEL : Hid (Below w.heap.size w w7) := Below.next BEL.out hb
  have Vw : Hid (VarA w7 w.heap.size w2.heap.size w1.heap.size cw ra Yw) := Vw.out.below hb
  have Vg : Hid (VarA w7 w2.heap.size w4.heap.size w3.heap.size cg (ra.marked 1) Yg) := Vg.out.below hb
  clear hb
  rw [← HKM.out]
  go_wp2_with fail
  refine (newImplA_any c _).mono ?_
  intro e w8 hres
  rw [← HZ.out, ← HD.out] at hres
  obtain ⟨zv, Yh, rfl, ry, oy, bz⟩ := hres
  obtain ⟨ch, rfl, szh, onh⟩ := ry.cells
  have BEL : Hid (Below w.heap.size w w8) := Below.next BEL.out bz
  have Vw : Hid (VarA w8 w.heap.size w2.heap.size w1.heap.size cw ra Yw) := Vw.out.below bz
  have Vg : Hid (VarA w8 w2.heap.size w4.heap.size w3.heap.size cg (ra.marked 1) Yg) := Vg.out.below bz
  have TT : Hid (RdA w8 (.agg ch) ra Yh ∧ Own w7.heap.size w8 Yh ∧ Below w7.heap.size w7 w8 ∧ ch.size = 7 ∧ ch.all (·.oneCell') = true) := ⟨ry, oy, bz, szh, onh⟩
  clear ry oy bz szh onh
  go_wp2_with (first | go_skip | (with_reducible refine stopLoad 25 rfl ?_) | (with_reducible refine stopStore 25 rfl ?_))
  refine store_fresh 25 w8.heap.size rfl #[.int .i64 0, .int .i64 0, .bool false, .int .i64 0, .slice none 0 0, .slice none 0 0, .int .i64 0] ch 25 rfl rfl rfl rfl (agSize TT.out.2.2.2.1) TT.out.2.2.2.1.symm TT.out.2.2.2.2 ?_
  intro w9 hg hb
  have BEL : Hid (Below w.heap.size w w9) := Below.next BEL.out hb
  have Vw : Hid (VarA w9 w.heap.size w2.heap.size w1.heap.size cw ra Yw) := Vw.out.below hb
  have Vg : Hid (VarA w9 w2.heap.size w4.heap.size w3.heap.size cg (ra.marked 1) Yg) := Vg.out.below hb
  have Vh : Hid (VarA w9 w7.heap.size w9.heap.size w8.heap.size ch ra Yh) := VarA.fresh TT.out.1 TT.out.2.1 TT.out.2.2.1 TT.out.2.2.2.1 hg hb
  have O2 : Hid (w7.heap.size ≤ w9.heap.size) := by show _ ≤ _; have := TT.out.2.2.1.size; have := hb.size; omega
  clear hg hb TT
  go_wp2_with (first | go_skip | (with_reducible refine stopLoad 25 rfl ?_) | (with_reducible refine stopStore 25 rfl ?_))
  refine load_any 25 _ ch 25 _ Vh.out.blk rfl rfl rfl Try.underlying25 rfl (agSize Vh.out.sz) ?_
  go_wp2_with (first | go_skip | (with_reducible refine stopLoad 25 rfl ?_) | (with_reducible refine stopStore 25 rfl ?_))
  refine load_any 25 _ cw 25 _ Vw.out.blk rfl rfl rfl Try.underlying25 rfl (agSize Vw.out.sz) ?_
  go_wp2_with fail
  refine (eqA_any _ _ ra ra Yh Yw _ Vh.out.rd Vw.out.rd HM.out.1 HM.out.1).mono ?_
  rintro e w10 ⟨rfl, hb⟩
  have BEL : Hid (Below w.heap.size w w10) := Below.next BEL.out hb
  have Vw : Hid (VarA w10 w.heap.size w2.heap.size w1.heap.size cw ra Yw) := Vw.out.below hb
  have Vg : Hid (VarA w10 w2.heap.size w4.heap.size w3.heap.size cg (ra.marked 1) Yg) := Vg.out.below hb
  have Vh : Hid (VarA w10 w7.heap.size w9.heap.size w8.heap.size ch ra Yh) := Vh.out.below hb
  clear hb
  have hdec : decide (ra = ra) = true := by simp
  rw [hdec]
  clear hdec
  go_wp2_with (first | go_skip | (with_reducible refine stopLoad 25 rfl ?_) | (with_reducible refine stopStore 25 rfl ?_))
  refine load_any 25 _ cg 25 _ Vg.out.blk rfl rfl rfl Try.underlying25 rfl (agSize Vg.out.sz) ?_
  go_wp2_with fail
  refine (heldA_any _ ra Yg 1 _ Vg.out.rd HM.out.1 (by omega) (by have := HM.out; omega)).mono ?_
  rintro e w11 ⟨rfl, hb⟩
  have BEL : Hid (Below w.heap.size w w11) := Below.next BEL.out hb
  have Vw : Hid (VarA w11 w.heap.size w2.heap.size w1.heap.size cw ra Yw) := Vw.out.below hb
  have Vg : Hid (VarA w11 w2.heap.size w4.heap.size w3.heap.size cg (ra.marked 1) Yg) := Vg.out.below hb
  have Vh : Hid (VarA w11 w7.heap.size w9.heap.size w8.heap.size ch ra Yh) := Vh.out.below hb
  clear hb
  rw [← HKM.out]
  go_wp2
  go_ret
  exact ⟨rfl, BEL.out⟩
set_option maxRecDepth 200000 in
theorem lifted (os : Os) (started : os.Started) (H : Type) (enc : TypeId × Value → H) :
    ReturnsInHanded {} Try.checked os 3 .any (Rows.fnExactAgentNewSpec.pre6 enc Try.prog Try.f3 Rows.fnExactAgentNewRow.domain false) (Rows.fnExactAgentNewSpec.post enc Try.prog Try.f3 false true false false) := by
  refine returnsInHanded_of_change (C := Try.checked) own started (by kernel_rfl) Try.func3
    (ChangeSpec.witness6 (enc := enc) (C := Try.checked) false ⟨#[], #[.int .i64 0], []⟩ 8 (by kernel_rfl) (by kernel_rfl) (by kernel_rfl) (by kernel_rfl)) ?_
  intro W base args ds gs before hval0 hW hcnd _
  have hval : ∀ (j : Nat) t v, Try.f3.params[j]? = some t → args[j]? = some v → Value.okWide Try.prog W .any base t v := hval0
  have hW' := hW
  obtain ⟨p, q, hA0, hV, rfl, hfz, hnd⟩ := hW
  have hA : DataW.TrodAll enc Try.prog W 0 (fun _ => true) true Try.f3.params.toList args.toList ds p := hA0
  rw [Try.params3] at hA hval
  obtain ⟨v0, vs0, d0, ds0, p0, q0, hargs0, rfl, rfl, h0, r0⟩ := trodAll_cons hA
  obtain ⟨rfl, rfl, rfl⟩ := trodAll_nil r0
  obtain rfl : args = #[v0] := by cases args; simp_all
  obtain ⟨rfl, rfl⟩ := trodVars_none hV
  obtain ⟨a0, rfl, rfl, rfl, w0⟩ := open_int Try.underlying3 (hval 0 3 v0 rfl rfl) h0
  clear hA0 hval0
  refine (walk a0  W ).mono fun e W' ⟨he, bel⟩ => ?_
  subst he
  exact ⟨_, rfl, _, _, _, [], _, [], hW', trodAll_mk1 (shut_bool Try.underlying4 _), (trodAll_cons_mk (shut_int Try.underlying3 w0) trodAll_mk0), rfl, bel.frame _, fun h => by cases h⟩
theorem over : Rows.fnExactAgentNewRow.holds Try.pinned (OpenSpec.ofChange Rows.fnExactAgentNewSpec) :=
  OpenClaim.holds_of_wide 3 Try.f3 rfl rfl rfl rfl rfl rfl rfl ⟨rfl, rfl, rfl, rfl, rfl⟩ rfl rfl rfl rfl rfl (by kernel_rfl) Try.func3 (by kernel_rfl)
    (of_decide_eq_true (by kernel_rfl)) (by unfold Func.isWrapper; first | (rw [if_pos (by decide +kernel)]; kernel_rfl) | (rw [if_neg (by decide +kernel)]; exact ⟨rfl, rfl⟩))
    (fun os started H enc _ => lifted os started H enc)
theorem proved : Rows.FnExactAgentNewSaid := over
#print axioms proved
end Go.Proofs.Ytjndcfamfminkar.fnExactAgentNew
