/- (No argument, no condition): laws.FnExactTurnNew returns true: the program's TurnNew answers as the model's, and its answer owns its memory. -/
import Derived.Test.YtoppjpacgkjhkaaRRTuVar
import Derived.Test.YtoppjpacgkjhkaaRRTuImplA
import Derived.Test.YtoppjpacgkjhkaaRRRows
import Derived.WalkKit
import Derived.ProofKit
import Derived.OpenShut
import Derived.ShutString
namespace Go.Proofs.YtoppjpacgkjhkaaRR.fnExactTurnNew
open Go.ChangeShapes Go.WideShapes Go.ChangeAt Go.RowKit
open Go.ChangeMaps (open_string shut_string)
set_option linter.unusedVariables false      -- a walk need not use every 'w<i>' (that an integer argument fits its kind)

theorem own : ownKnob Try.prog.godebug = none := by kernel_rfl

theorem new_wide : Tu.new.wide := (by decide : 3 ≤ 2097152)
theorem new_many : Tu.new.many = 3 := by kernel_rfl

set_option maxHeartbeats 4000000 in
theorem walk  (w : World) :
    Calls Try.prog 4 #[] w fun e w' => e = .returned (.bool true) ∧ Below w.heap.size w w' := by
  go_enter Try.func4, Try.ntmps4
  go_wp2_with fail
  refine (turnNewSpec_any _).mono ?_
  rintro e w1 ⟨v1, F1, rfl, r1, o1, b1⟩
  obtain ⟨cs, rfl, hc7, hc1⟩ := r1.cells
  have H1 : Hid (RdTu w1 (.agg cs) Tu.new F1 ∧ Below w.heap.size w w1 ∧ cs.size = 3 ∧ cs.all (·.oneCell') = true) := ⟨r1, b1, hc7, hc1⟩
  clear r1 o1 b1 hc7 hc1
  go_wp2_with (first | (with_reducible refine stopLoad 27 rfl ?_) | (with_reducible refine stopStore 27 rfl ?_))
  refine store_fresh 27 w1.heap.size rfl #[.int .i64 0, .bool false, .slice none 0 0] cs 27 rfl rfl rfl rfl (tuSize H1.out.2.2.1) H1.out.2.2.1.symm H1.out.2.2.2 ?_
  intro W2 hg2 hb2
  have H2 : Hid (RdTu W2 (.agg cs) Tu.new F1 ∧ Below w.heap.size w W2 ∧ Blk W2 w1.heap.size cs 27 ∧ w1.heap.size < W2.heap.size ∧ (∀ b ∈ F1, b < w1.heap.size)) := ⟨H1.out.1.below hb2, Below.next H1.out.2.1 hb2, hg2, hg2.lt, H1.out.1.lt⟩
  clear hg2 hb2
  go_wp2_with fail
  refine (turnNewImpl_any _).mono ?_
  rintro e w3 ⟨v3, F3, rfl, r3, o3, b3⟩
  obtain ⟨ds, rfl, hd7, hd1⟩ := r3.cells
  have H3 : Hid (RdTu w3 (.agg cs) Tu.new F1 ∧ RdTu w3 (.agg ds) Tu.new F3 ∧ Own W2.heap.size w3 F3 ∧ Below w.heap.size w w3 ∧ Blk w3 w1.heap.size cs 27 ∧ ds.size = 3 ∧ ds.all (·.oneCell') = true) := ⟨H2.out.1.below b3, r3, o3, Below.next H2.out.2.1 b3, H2.out.2.2.1.below b3, hd7, hd1⟩
  clear r3 o3 b3 hd7 hd1
  go_wp2_with (first | (with_reducible refine stopLoad 27 rfl ?_) | (with_reducible refine stopStore 27 rfl ?_))
  refine store_fresh 27 w3.heap.size rfl #[.int .i64 0, .bool false, .slice none 0 0] ds 27 rfl rfl rfl rfl (tuSize H3.out.2.2.2.2.2.1) H3.out.2.2.2.2.2.1.symm H3.out.2.2.2.2.2.2 ?_
  intro W4 hg4 hb4
  have H4 : Hid (RdTu W4 (.agg cs) Tu.new F1 ∧ RdTu W4 (.agg ds) Tu.new F3 ∧ Own W2.heap.size W4 F3 ∧ Below w.heap.size w W4 ∧ Blk W4 w1.heap.size cs 27 ∧ Blk W4 w3.heap.size ds 27 ∧ (∀ b ∈ F3, b < w3.heap.size)) := ⟨H3.out.1.below hb4, H3.out.2.1.below hb4, H3.out.2.2.1.below H3.out.2.1.lt hb4, Below.next H3.out.2.2.2.1 hb4, H3.out.2.2.2.2.1.below hb4, hg4, H3.out.2.1.lt⟩
  clear hg4 hb4
  go_wp2_with (first | (with_reducible refine stopLoad 27 rfl ?_) | (with_reducible refine stopStore 27 rfl ?_))
  refine load_known 27 w3.heap.size ds 27 _ H4.out.2.2.2.2.2.1 rfl rfl rfl Try.underlying27 rfl (tuSize H3.out.2.2.2.2.2.1) ?_
  go_wp2_with (first | (with_reducible refine stopLoad 27 rfl ?_) | (with_reducible refine stopStore 27 rfl ?_))
  refine load_known 27 w1.heap.size cs 27 _ H4.out.2.2.2.2.1 rfl rfl rfl Try.underlying27 rfl (tuSize H1.out.2.2.1) ?_
  go_wp2_with fail
  refine (eqTu_any _ _ Tu.new Tu.new F3 F1 _ H4.out.2.1 H4.out.1 new_wide new_wide).mono ?_
  rintro e w5 ⟨rfl, b5⟩
  have hdec : decide (Tu.new = Tu.new) = true := by simp
  rw [hdec]
  have H5 : Hid (RdTu w5 (.agg cs) Tu.new F1 ∧ RdTu w5 (.agg ds) Tu.new F3 ∧ Own W2.heap.size w5 F3 ∧ Below w.heap.size w w5 ∧ Blk w5 w1.heap.size cs 27 ∧ Blk w5 w3.heap.size ds 27) := ⟨H4.out.1.below b5, H4.out.2.1.below b5, H4.out.2.2.1.below H4.out.2.1.lt b5, Below.next H4.out.2.2.2.1 b5, H4.out.2.2.2.2.1.below b5, H4.out.2.2.2.2.2.1.below b5⟩
  clear b5 hdec
  go_wp2_with (first | (with_reducible refine stopLoad 27 rfl ?_) | (with_reducible refine stopStore 27 rfl ?_))
  refine load_known 27 w3.heap.size ds 27 _ H5.out.2.2.2.2.2 rfl rfl rfl Try.underlying27 rfl (tuSize H3.out.2.2.2.2.2.1) ?_
  go_wp2_with fail
  refine (markTu_any W2.heap.size _ Tu.new F3 1 _ H5.out.2.1 H5.out.2.2.1 new_wide (by omega) (by rw [new_many]; omega)).mono ?_
  rintro e w6 ⟨rfl, mk⟩
  have nF3 : w3.heap.size ∉ F3 := fun hx => by have := H4.out.2.2.2.2.2.2 _ hx; omega
  have nF1 : w1.heap.size ∉ F3 := fun hx => by have := H4.out.2.2.1.ge _ hx; have := H2.out.2.2.2.1; omega
  have dF : ∀ b ∈ F1, b ∉ F3 := fun b hb hx => by have := H4.out.2.2.1.ge _ hx; have := H2.out.2.2.2.2 b hb; have := H2.out.2.2.2.1; omega
  have H6 : Hid (RdTu w6 (.agg cs) Tu.new F1 ∧ RdTu w6 (.agg ds) (Tu.new.marked 1) F3 ∧ Below w.heap.size w w6 ∧ Blk w6 w1.heap.size cs 27 ∧ Blk w6 w3.heap.size ds 27) :=
    ⟨H5.out.1.agree (mk.only.agree H5.out.1.lt dF), mk.rd, mk.only.below H5.out.2.2.2.1 H5.out.2.2.2.1.size (fun b hb => Nat.le_trans H2.out.2.1.size (H5.out.2.2.1.ge b hb)), mk.only.blk H5.out.2.2.2.2.1 nF1, mk.only.blk H5.out.2.2.2.2.2 nF3⟩
  rw [new_many]
  clear mk nF3 nF1 dF
  go_wp2_with (first | (with_reducible refine stopLoad 27 rfl ?_) | (with_reducible refine stopStore 27 rfl ?_))
  refine load_known 27 w3.heap.size ds 27 _ H6.out.2.2.2.2 rfl rfl rfl Try.underlying27 rfl (tuSize H3.out.2.2.2.2.2.1) ?_
  go_wp2_with fail
  refine (heldTu_any _ Tu.new F3 1 _ H6.out.2.1 new_wide (by omega) (by rw [new_many]; omega)).mono ?_
  rintro e w7 ⟨rfl, b7⟩
  have H7 : Hid (RdTu w7 (.agg cs) Tu.new F1 ∧ RdTu w7 (.agg ds) (Tu.new.marked 1) F3 ∧ Below w.heap.size w w7 ∧ Blk w7 w1.heap.size cs 27 ∧ Blk w7 w3.heap.size ds 27) := ⟨H6.out.1.below b7, H6.out.2.1.below b7, Below.next H6.out.2.2.1 b7, H6.out.2.2.2.1.below b7, H6.out.2.2.2.2.below b7⟩
  rw [new_many]
  clear b7
  go_wp2_with fail
  refine (turnNewImpl_any _).mono ?_
  rintro e w8 ⟨v8, F8, rfl, r8, o8, b8⟩
  obtain ⟨es, rfl, he7, he1⟩ := r8.cells
  have H8 : Hid (RdTu w8 (.agg cs) Tu.new F1 ∧ RdTu w8 (.agg ds) (Tu.new.marked 1) F3 ∧ Below w.heap.size w w8 ∧ Blk w8 w1.heap.size cs 27 ∧ Blk w8 w3.heap.size ds 27 ∧ RdTu w8 (.agg es) Tu.new F8 ∧ es.size = 3 ∧ es.all (·.oneCell') = true) := ⟨H7.out.1.below b8, H7.out.2.1.below b8, Below.next H7.out.2.2.1 b8, H7.out.2.2.2.1.below b8, H7.out.2.2.2.2.below b8, r8, he7, he1⟩
  clear r8 o8 b8 he7 he1
  go_wp2_with (first | (with_reducible refine stopLoad 27 rfl ?_) | (with_reducible refine stopStore 27 rfl ?_))
  refine store_fresh 27 w8.heap.size rfl #[.int .i64 0, .bool false, .slice none 0 0] es 27 rfl rfl rfl rfl (tuSize H8.out.2.2.2.2.2.2.1) H8.out.2.2.2.2.2.2.1.symm H8.out.2.2.2.2.2.2.2 ?_
  intro W9 hg9 b9
  have H9 : Hid (RdTu W9 (.agg cs) Tu.new F1 ∧ RdTu W9 (.agg ds) (Tu.new.marked 1) F3 ∧ Below w.heap.size w W9 ∧ Blk W9 w1.heap.size cs 27 ∧ Blk W9 w3.heap.size ds 27 ∧ RdTu W9 (.agg es) Tu.new F8 ∧ Blk W9 w8.heap.size es 27) := ⟨H8.out.1.below b9, H8.out.2.1.below b9, Below.next H8.out.2.2.1 b9, H8.out.2.2.2.1.below b9, H8.out.2.2.2.2.1.below b9, H8.out.2.2.2.2.2.1.below b9, hg9⟩
  clear hg9 b9
  go_wp2_with (first | (with_reducible refine stopLoad 27 rfl ?_) | (with_reducible refine stopStore 27 rfl ?_))
  refine load_known 27 w8.heap.size es 27 _ H9.out.2.2.2.2.2.2 rfl rfl rfl Try.underlying27 rfl (tuSize H8.out.2.2.2.2.2.2.1) ?_
  go_wp2_with (first | (with_reducible refine stopLoad 27 rfl ?_) | (with_reducible refine stopStore 27 rfl ?_))
  refine load_known 27 w1.heap.size cs 27 _ H9.out.2.2.2.1 rfl rfl rfl Try.underlying27 rfl (tuSize H1.out.2.2.1) ?_
  go_wp2_with fail
  refine (eqTu_any _ _ Tu.new Tu.new F8 F1 _ H9.out.2.2.2.2.2.1 H9.out.1 new_wide new_wide).mono ?_
  rintro e w10 ⟨rfl, b10⟩
  have hdec : decide (Tu.new = Tu.new) = true := by simp
  rw [hdec]
  have H10 : Hid (RdTu w10 (.agg ds) (Tu.new.marked 1) F3 ∧ Below w.heap.size w w10 ∧ Blk w10 w3.heap.size ds 27) := ⟨H9.out.2.1.below b10, Below.next H9.out.2.2.1 b10, H9.out.2.2.2.2.1.below b10⟩
  clear b10 hdec
  go_wp2_with (first | (with_reducible refine stopLoad 27 rfl ?_) | (with_reducible refine stopStore 27 rfl ?_))
  refine load_known 27 w3.heap.size ds 27 _ H10.out.2.2 rfl rfl rfl Try.underlying27 rfl (tuSize H3.out.2.2.2.2.2.1) ?_
  go_wp2_with fail
  refine (heldTu_any _ Tu.new F3 1 _ H10.out.1 new_wide (by omega) (by rw [new_many]; omega)).mono ?_
  rintro e w11 ⟨rfl, b11⟩
  have H11 : Hid (Below w.heap.size w w11) := Below.next H10.out.2.1 b11
  rw [new_many]
  clear b11
  go_wp2
  go_ret
  exact ⟨rfl, H11.out⟩

set_option maxRecDepth 100000 in
theorem lifted (os : Os) (started : os.Started) (H : Type) (enc : TypeId × Value → H) :
    ReturnsInHanded {} Try.checked os 4 .any (Rows.fnExactTurnNewSpec.pre6 enc Try.prog Try.f4 Rows.fnExactTurnNewRow.domain false) (Rows.fnExactTurnNewSpec.post enc Try.prog Try.f4 false true false false) := by
  refine returnsInHanded_of_change (C := Try.checked) own started (by kernel_rfl) Try.func4
    (ChangeSpec.witness6 (enc := enc) (C := Try.checked) false ⟨#[], #[], []⟩ 8 (by kernel_rfl) (by kernel_rfl) (by kernel_rfl) (by kernel_rfl)) ?_
  intro W base args ds gs before hval0 hW hcnd _
  have hval : ∀ (j : Nat) t v, Try.f4.params[j]? = some t → args[j]? = some v → Value.okWide Try.prog W .any base t v := hval0
  have hW' := hW
  obtain ⟨p, q, hA0, hV, rfl, hfz, hnd⟩ := hW
  have hA : DataW.TrodAll enc Try.prog W 0 (fun _ => true) true Try.f4.params.toList args.toList ds p := hA0
  rw [Try.params4] at hA hval
  obtain ⟨rfl, rfl, rfl⟩ := trodAll_none hA
  obtain ⟨rfl, rfl⟩ := trodVars_none hV
  clear hA0 hval0
  simp only [List.append_nil] at hW'
  refine (walk  W).mono fun e W' ⟨he, hg⟩ => ?_
  subst he
  exact ⟨_, rfl, _, _, _, [], [], [], hW', (trodAll_cons_mk (shut_bool Try.underlying4 _) trodAll_mk0), rfl, rfl, hg.frame _, fun h => by cases h⟩

theorem over : Rows.fnExactTurnNewRow.holds Try.pinned (OpenSpec.ofChange Rows.fnExactTurnNewSpec) :=
  OpenClaim.holds_of_wide 4 Try.f4 rfl rfl rfl rfl rfl rfl rfl ⟨rfl, rfl, rfl, rfl, rfl⟩ rfl rfl rfl rfl rfl (by kernel_rfl) Try.func4 (by kernel_rfl)
    (of_decide_eq_true (by kernel_rfl)) (by unfold Func.isWrapper; first | (rw [if_pos (by decide +kernel)]; kernel_rfl) | (rw [if_neg (by decide +kernel)]; exact ⟨rfl, rfl⟩))
    (fun os started H enc _ => lifted os started H enc)

theorem proved : Rows.FnExactTurnNewSaid :=
  over
#print axioms proved
end Go.Proofs.YtoppjpacgkjhkaaRR.fnExactTurnNew
