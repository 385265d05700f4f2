/- For every number (no condition): laws.FnExactPutNum returns true, and its argument reads afterwards as it did: the program's PutNum answers as the model's, at each call anew, in memory of its own. -/
import Derived.Test.YtgoalcakfaellajPutNum
import Derived.Test.YtgoalcakfaellajMarks
import Derived.Test.YtgoalcakfaellajBytes
import Derived.Test.YtgoalcakfaellajRows
import Derived.WalkKit
import Derived.ProofKit
import Derived.OpenShut
import Derived.ShutString
namespace Go.Proofs.Ytgoalcakfaellaj.fnExactPutNum
open Go.ChangeShapes Go.WideShapes Go.ChangeAt Go.RowKit
open Go.ChangeMaps (open_string shut_string)
set_option linter.unusedVariables false      -- a walk need not use every 'w<i>' (that an integer argument fits its kind)

theorem own : ownKnob Try.prog.godebug = none := by kernel_rfl



theorem walk (a0 : Int) (w0 : (Lit.int .i64 a0).wf = true) (w : World) :
    Calls Try.prog 3 #[.int .i64 a0] w fun e w' => e = .returned (.bool true) ∧ Below w.heap.size w w' := by
  obtain ⟨hb0, hb1⟩ := int_wf w0
  obtain ⟨L, hLe⟩ : ∃ L, L = encOf a0 := ⟨_, rfl⟩
  have hL : L.length ≤ 5 := by rw [hLe]; exact encOf_len a0
  have Hr : Hid (∀ x ∈ L, 0 ≤ x ∧ x ≤ 255) := by rw [hLe]; exact encOf_range a0
  have HL : Hid (encOf a0 = L) := hLe.symm
  have hdec : decide (L = L) = true := by simp
  clear w0 hLe
  go_enter Try.func3, Try.ntmps3
  go_wp2_with fail
  refine (putSpec_any a0 _ hb0 hb1).mono ?_
  rintro e w1 ⟨v1, rfl, own1, b1⟩
  rw [HL.out] at own1
  go_wp2_with fail
  refine (putImpl_any a0 _ hb0 hb1).mono ?_
  rintro e w2 ⟨v2, rfl, own2, b2⟩
  rw [HL.out] at own2
  have hap : Hid (v1.ownBlock = none ∨ v1.ownBlock ≠ v2.ownBlock) := own_apart own1 own2
  have hw1 := b1.size
  have own1 := ownsRow_below own1 b2
  have b2 := b1.trans (b2.mono b1.size)
  clear b1
  go_wp2_with fail
  refine (eqOwn_any _ _ _ _ _ _ L L _ own2 own1 Hr.out Hr.out (by omega) (by omega)).mono ?_
  rintro e w3 ⟨rfl, b3⟩
  have own1 := ownsRow_below own1 b3
  have own2 := ownsRow_below own2 b3
  have b3 := b2.trans (b3.mono b2.size)
  clear b2
  go_wp2_with fail
  refine (markByteS_any _ _ _ _ 1 _ own2 (by omega) (by omega)).mono ?_
  rintro e w4 ⟨rfl, own4, g4⟩
  have own1 := own1.kept g4 hap.out
  have b4 := b3.grown g4 b3.size (fun k hk => Nat.le_trans hw1 (own2.lt k hk).1)
  clear g4 own2 b3
  go_wp2_with fail
  refine (heldByteS_any _ _ _ 1 _ own4 (by omega) (by omega)).mono ?_
  rintro e w5 ⟨rfl, b5⟩
  have own1 := ownsRow_below own1 b5
  have own4 := ownsRow_below own4 b5
  have b5 := b4.trans (b5.mono b4.size)
  clear b4
  have hq1 : decide ((1 : Int) + (L.length : Int) < 0) = false := by simp; omega
  have hq2 : ((1 : Int) + (L.length : Int) != 1 + (L.length : Int)) = false := by simp
  go_wp2_with fail
  refine (putImpl_any a0 _ hb0 hb1).mono ?_
  rintro e w6 ⟨v6, rfl, own6, b6⟩
  rw [HL.out] at own6
  have own1 := ownsRow_below own1 b6
  have own4 := ownsRow_below own4 b6
  have b6 := b5.trans (b6.mono b5.size)
  clear b5
  go_wp2_with fail
  refine (eqOwn_any _ _ _ _ _ _ L L _ own6 own1 Hr.out Hr.out (by omega) (by omega)).mono ?_
  rintro e w7 ⟨rfl, b7⟩
  have own4 := ownsRow_below own4 b7
  have b7 := b6.trans (b7.mono b6.size)
  clear b6 own1 own6
  go_wp2_with fail
  refine (heldByteS_any _ _ _ 1 _ own4 (by omega) (by omega)).mono ?_
  rintro e w8 ⟨rfl, b8⟩
  have b8 := b7.trans (b8.mono b7.size)
  clear b7 own4
  go_wp2
  go_ret
  exact ⟨rfl, b8⟩

set_option maxRecDepth 100000 in
theorem lifted (os : Os) (started : os.Started) (H : Type) (enc : TypeId × Value → H) :
    ReturnsInHanded {} Try.checked os 3 .any (Rows.fnExactPutNumSpec.pre6 enc Try.prog Try.f3 Rows.fnExactPutNumRow.domain false) (Rows.fnExactPutNumSpec.post enc Try.prog Try.f3 false true false false) := by
  refine returnsInHanded_of_change (C := Try.checked) own started (by kernel_rfl) Try.func3
    (ChangeSpec.witness6 (enc := enc) (C := Try.checked) false ⟨#[], #[.int .i64 0], []⟩ 8 (by kernel_rfl) (by kernel_rfl) (by kernel_rfl) (by kernel_rfl)) ?_
  intro W base args ds gs before hval0 hW hcnd _
  have hval : ∀ (j : Nat) t v, Try.f3.params[j]? = some t → args[j]? = some v → Value.okWide Try.prog W .any base t v := hval0
  have hW' := hW
  obtain ⟨p, q, hA0, hV, rfl, hfz, hnd⟩ := hW
  have hA : DataW.TrodAll enc Try.prog W 0 (fun _ => true) true Try.f3.params.toList args.toList ds p := hA0
  rw [Try.params3] at hA hval
  obtain ⟨v0, vs0, d0, ds0, p0, q0, hargs, rfl, rfl, h0, r0⟩ := trodAll_cons hA
  obtain ⟨rfl, rfl, rfl⟩ := trodAll_nil r0
  obtain rfl : args = #[v0] := by cases args; simp_all
  obtain ⟨rfl, rfl⟩ := trodVars_none hV
  obtain ⟨a0, rfl, rfl, rfl, w0⟩ := open_int Try.underlying3 (hval 0 3 v0 rfl rfl) h0
  clear hA0 hval0
  simp only [List.append_nil] at hW'
  refine (walk a0 w0 W).mono fun e W' ⟨he, hg⟩ => ?_
  subst he
  exact ⟨_, rfl, _, _, _, [], [], [], hW', (trodAll_cons_mk (shut_bool Try.underlying4 _) trodAll_mk0), (trodAll_cons_mk (shut_int Try.underlying3 w0) trodAll_mk0), rfl, hg.frame _, fun h => by cases h⟩

theorem over : Rows.fnExactPutNumRow.holds Try.pinned (OpenSpec.ofChange Rows.fnExactPutNumSpec) :=
  OpenClaim.holds_of_wide 3 Try.f3 rfl rfl rfl rfl rfl rfl rfl ⟨rfl, rfl, rfl, rfl, rfl⟩ rfl rfl rfl rfl rfl (by kernel_rfl) Try.func3 (by kernel_rfl)
    (of_decide_eq_true (by kernel_rfl)) (by unfold Func.isWrapper; first | (rw [if_pos (by decide +kernel)]; kernel_rfl) | (rw [if_neg (by decide +kernel)]; exact ⟨rfl, rfl⟩))
    (fun os started H enc _ => lifted os started H enc)

theorem proved : Rows.FnExactPutNumSaid :=
  over
#print axioms proved
end Go.Proofs.Ytgoalcakfaellaj.fnExactPutNum
