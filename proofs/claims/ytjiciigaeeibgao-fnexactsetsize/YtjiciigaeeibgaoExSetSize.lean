/- For every slice of spans (no condition): laws.FnExactSetSize returns true, and its arguments read afterwards as they did: the program's SetSize answers as the model's and writes nothing into its arguments. -/
import Derived.Test.YtjiciigaeeibgaoSpImplA
import Derived.Test.YtjiciigaeeibgaoRows
import Derived.WalkKit
import Derived.ProofKit
import Derived.OpenShut
import Derived.ShutString
import Derived.ChangeOld
import Derived.Below
namespace Go.Proofs.Ytjiciigaeeibgao.fnExactSetSize
open Go.ChangeShapes Go.WideShapes Go.ChangeAt Go.RowKit
set_option linter.unusedVariables false
theorem own : ownKnob Try.prog.godebug = none := by kernel_rfl
set_option maxHeartbeats 4000000 in
theorem walk (a00 : Option Addr) (n00 k00 : Nat) (ps : Sp) (F0 : List Nat) (w : World) (h0 : RdP w a00 n00 ps F0) (g0 : n00 ≤ 9223372036854775807) :
    Calls Try.prog 4 #[.slice a00 n00 k00] w fun e w' => e = .returned (.bool true) ∧ Below w.heap.size w w' := by
  have HH : Hid (RdP w a00 n00 ps F0 ∧ True) := ⟨h0, trivial⟩
  have HLEN : Hid (ps.length = n00 ∧ True) := ⟨h0.length, trivial⟩
  have BEL : Hid (Below w.heap.size w w) := Below.refl _ _
  clear h0
  go_enter Try.func4, Try.ntmps4
  go_wp2_with fail
  refine (szSpanS_vast _ _ _ 1048576 _ g0 (by omega) (by omega)).mono ?_
  rintro e x0 ⟨⟨r0, rfl, ra, rb, rc⟩, hw⟩
  have hw' := hw.symm
  subst hw'
  clear hw
  by_cases q : r0 < 0
  · clear ra rb rc
    go_wp2
    go_ret
    exact ⟨rfl, BEL.out⟩
  have q00 : 0 ≤ r0 := by omega
  have q01 : r0 ≤ 1048576 := by omega
  have HF0 : Hid (n00 ≤ 1048576) := by have := rb q00; show _ ≤ _; omega
  have HS0 : Hid (r0 = 1048576 - n00) := rb q00
  clear ra rb rc q
  go_wp2_with fail
  refine (toSpanS_cap _ _ _ ps F0 _ (HH.out.1.below BEL.out) HF0.out).mono ?_
  rintro e w1 ⟨as0, ls0, cs0, Fs0, rfl, rr, oo, hb, nn, cc⟩
  have BEL : Hid (Below w.heap.size w w1) := Below.next BEL.out hb
  have Rs0 : Hid (RdP w1 as0 ls0 ps Fs0) := rr
  have Os0 : Hid (Own w.heap.size w1 Fs0 ∧ (as0 = none → cs0 = 0) ∧ ls0 ≤ 1048576 ∧ w.heap.size ≤ w1.heap.size ∧ ls0 ≤ cs0) := ⟨oo, nn, by rw [← rr.length, HLEN.out.1]; exact HF0.out, hb.size, cc⟩
  clear rr oo hb nn cc
  go_wp2_with fail
  refine (sizeSpec_any _ _ _ ps Fs0 _ Rs0.out (by have := Os0.out.2.2.1; omega)).mono ?_
  rintro e w2 ⟨rfl, hq⟩
  have hb := quiet_below hq
  have BEL : Hid (Below w.heap.size w w2) := Below.next BEL.out hb
  have Rs0 : Hid (RdP w2 as0 ls0 ps Fs0) := Rs0.out.below hb
  clear hb hq
  clear Rs0 Os0
  go_wp2_with fail
  refine (toSpanS_cap _ _ _ ps F0 _ (HH.out.1.below BEL.out) HF0.out).mono ?_
  rintro e w3 ⟨ax0, lx0, cx0, Fx0, rfl, rr, oo, hb, nn, cc⟩
  have BEL : Hid (Below w.heap.size w w3) := Below.next BEL.out hb
  have Rx0 : Hid (RdP w3 ax0 lx0 ps Fx0) := rr
  have Ox0 : Hid (Own w2.heap.size w3 Fx0 ∧ (ax0 = none → cx0 = 0) ∧ lx0 ≤ 1048576 ∧ w2.heap.size ≤ w3.heap.size ∧ lx0 ≤ cx0) := ⟨oo, nn, by rw [← rr.length, HLEN.out.1]; exact HF0.out, hb.size, cc⟩
  clear rr oo hb nn cc
  go_wp2_with fail
  refine (sizeImpl_any _ _ _ ps Fx0 _ Rx0.out (by have := Ox0.out.2.2.1; omega)).mono ?_
  rintro e w4 ⟨rfl, hb⟩
  have BEL : Hid (Below w.heap.size w w4) := Below.next BEL.out hb
  have Rx0 : Hid (RdP w4 ax0 lx0 ps Fx0) := Rx0.out.below hb
  clear hb
  obtain ⟨vv, hv⟩ : ∃ v, v = ps.size := ⟨_, rfl⟩
  rw [← hv]
  have hne : (vv != vv) = false := by simp
  clear hv
  go_wp2_with fail
  refine (toSpanS_cap _ _ _ ps F0 _ (HH.out.1.below BEL.out) HF0.out).mono ?_
  rintro e w5 ⟨ax0e4, lx0e4, cx0e4, Fx0e4, rfl, rr, oo, hb, nn, cc⟩
  have BEL : Hid (Below w.heap.size w w5) := Below.next BEL.out hb
  have Rx0 : Hid (RdP w5 ax0 lx0 ps Fx0) := Rx0.out.below hb
  have Rx0e4 : Hid (RdP w5 ax0e4 lx0e4 ps Fx0e4) := rr
  have Ox0e4 : Hid (Own w4.heap.size w5 Fx0e4 ∧ (ax0e4 = none → cx0e4 = 0) ∧ lx0e4 ≤ 1048576 ∧ w4.heap.size ≤ w5.heap.size ∧ lx0e4 ≤ cx0e4) := ⟨oo, nn, by rw [← rr.length, HLEN.out.1]; exact HF0.out, hb.size, cc⟩
  clear rr oo hb nn cc
  go_wp2_with fail
  refine (eqSpanS_any _ _ _ _ _ _ ps ps Fx0 Fx0e4 _ Rx0.out Rx0e4.out (by have := Ox0.out.2.2.1; omega) (by have := Ox0e4.out.2.2.1; omega)).mono ?_
  rintro e w6 ⟨rfl, hb⟩
  have BEL : Hid (Below w.heap.size w w6) := Below.next BEL.out hb
  have Rx0 : Hid (RdP w6 ax0 lx0 ps Fx0) := Rx0.out.below hb
  have Rx0e4 : Hid (RdP w6 ax0e4 lx0e4 ps Fx0e4) := Rx0e4.out.below hb
  clear hb
  rw [show decide (ps = ps) = true from decT rfl]
  clear Rx0e4 Ox0e4
  go_wp2
  go_ret
  exact ⟨rfl, BEL.out⟩
set_option maxRecDepth 100000 in
theorem lifted (os : Os) (started : os.Started) (H : Type) (enc : TypeId × Value → H) :
    ReturnsInHanded {} Try.checked os 4 .any (Rows.fnExactSetSizeSpec.pre6 enc Try.prog Try.f4 Rows.fnExactSetSizeRow.domain false) (Rows.fnExactSetSizeSpec.post enc Try.prog Try.f4 false true false false) := by
  refine returnsInHanded_of_change (C := Try.checked) own started (by kernel_rfl) Try.func4
    (ChangeSpec.witness6 (enc := enc) (C := Try.checked) false ⟨#[], #[.slice none 0 0], []⟩ 8 (by kernel_rfl) (by kernel_rfl) (by kernel_rfl) (by kernel_rfl)) ?_
  intro W base args ds gs before hval0 hW hcnd _
  have hval : ∀ (j : Nat) t v, Try.f4.params[j]? = some t → args[j]? = some v → Value.okWide Try.prog W .any base t v := hval0
  have hW' := hW
  obtain ⟨p, q, hA0, hV, rfl, hfz, hnd⟩ := hW
  have hA : DataW.TrodAll enc Try.prog W 0 (fun _ => true) true Try.f4.params.toList args.toList ds p := hA0
  rw [Try.params4] at hA hval
  obtain ⟨v0, vs0, d0, ds0, p0, q0, hargs0, rfl, rfl, h0, r0⟩ := trodAll_cons hA
  obtain ⟨rfl, rfl, rfl⟩ := trodAll_nil r0
  obtain rfl : args = #[v0] := by cases args; simp_all
  obtain ⟨rfl, rfl⟩ := trodVars_none hV
  have k0 := h0
  have lt0 : ∀ x ∈ p0, x.block < W.heap.size := by obtain ⟨m, hm⟩ := k0; exact DataW.trod_lt m _ _ _ hm
  obtain ⟨a0, n0, c0, ps0, F0, rfl, hR0, hb0, _⟩ := open_spans (hval 0 22 v0 rfl rfl) h0
  clear hA0 hval0
  refine (walk a0 n0 c0 ps0 F0 W hR0 hb0).mono fun e W' ⟨he, bel⟩ => ?_
  subst he
  exact ⟨_, rfl, _, _, _, [], _, [], hW', trodAll_mk1 (shut_bool Try.underlying4 _), (trodAll_cons_mk (Below.trod sp_laidOut (by kernel_rfl) (of_decide_eq_true (by kernel_rfl)) k0 bel lt0) trodAll_mk0), rfl, bel.frame _, fun h => by cases h⟩
theorem over : Rows.fnExactSetSizeRow.holds Try.pinned (OpenSpec.ofChange Rows.fnExactSetSizeSpec) :=
  OpenClaim.holds_of_wide 4 Try.f4 rfl rfl rfl rfl rfl rfl rfl ⟨rfl, rfl, rfl, rfl, rfl⟩ rfl rfl rfl rfl rfl (by kernel_rfl) Try.func4 (by kernel_rfl)
    (of_decide_eq_true (by kernel_rfl)) (by unfold Func.isWrapper; first | (rw [if_pos (by decide +kernel)]; kernel_rfl) | (rw [if_neg (by decide +kernel)]; exact ⟨rfl, rfl⟩))
    (fun os started H enc _ => lifted os started H enc)
theorem proved : Rows.FnExactSetSizeSaid := over
#print axioms proved
end Go.Proofs.Ytjiciigaeeibgao.fnExactSetSize
