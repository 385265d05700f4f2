/- For every two slices of spans (no condition): laws.FnExactSetApart returns true, and its arguments read afterwards as they did: the program's SetApart answers as the model's and writes nothing into its arguments. -/
import Derived.Test.YtjiciigaeeibgaoSpApart
import Derived.Test.YtjiciigaeeibgaoRows
import Derived.WalkKit
import Derived.ProofKit
import Derived.OpenShut
import Derived.ShutString
import Derived.ChangeOld
import Derived.Below
namespace Go.Proofs.Ytjiciigaeeibgao.fnExactSetApart
open Go.ChangeShapes Go.WideShapes Go.ChangeAt Go.RowKit
set_option linter.unusedVariables false
theorem own : ownKnob Try.prog.godebug = none := by kernel_rfl
set_option maxHeartbeats 4000000 in
theorem walk (a00 : Option Addr) (n00 k00 : Nat) (ps : Sp) (F0 : List Nat) (a10 : Option Addr) (n10 k10 : Nat) (qs : Sp) (F1 : List Nat) (w : World) (h0 : RdP w a00 n00 ps F0) (g0 : n00 ≤ 9223372036854775807) (h1 : RdP w a10 n10 qs F1) (g1 : n10 ≤ 9223372036854775807) :
    Calls Try.prog 5 #[.slice a00 n00 k00, .slice a10 n10 k10] w fun e w' => e = .returned (.bool true) ∧ Below w.heap.size w w' := by
  have HH : Hid (RdP w a00 n00 ps F0 ∧ RdP w a10 n10 qs F1) := ⟨h0, h1⟩
  have HLEN : Hid (ps.length = n00 ∧ qs.length = n10) := ⟨h0.length, h1.length⟩
  have BEL : Hid (Below w.heap.size w w) := Below.refl _ _
  clear h0 h1
  go_enter Try.func5, Try.ntmps5
  go_wp2_with fail
  refine (szSpanS_vast _ _ _ 1048576 _ g0 (by omega) (by omega)).mono ?_
  rintro e x0 ⟨⟨r0, rfl, ra, rb, rc⟩, hw⟩
  have hw' := hw.symm
  subst hw'
  clear hw
  by_cases q : r0 < 0
  · clear ra rb rc
    go_wp2
    go_ret
    exact ⟨rfl, BEL.out⟩
  have q00 : 0 ≤ r0 := by omega
  have q01 : r0 ≤ 1048576 := by omega
  have HF0 : Hid (n00 ≤ 1048576) := by have := rb q00; show _ ≤ _; omega
  have HS0 : Hid (r0 = 1048576 - n00) := rb q00
  clear ra rb rc q
  go_wp2_with fail
  refine (szSpanS_vast _ _ _ r0 _ g1 (by omega) (by omega)).mono ?_
  rintro e x1 ⟨⟨r1, rfl, ra, rb, rc⟩, hw⟩
  have hw' := hw.symm
  subst hw'
  clear hw
  by_cases q : r1 < 0
  · clear ra rb rc
    go_wp2
    go_ret
    exact ⟨rfl, BEL.out⟩
  have q10 : 0 ≤ r1 := by omega
  have q11 : r1 ≤ 1048576 := by omega
  have HF1 : Hid (n10 ≤ 1048576) := by have := rb q10; show _ ≤ _; omega
  have HS1 : Hid (r1 = r0 - n10) := rb q10
  clear ra rb rc q
  go_wp2_with fail
  refine (toSpanS_cap _ _ _ ps F0 _ (HH.out.1.below BEL.out) HF0.out).mono ?_
  rintro e w1 ⟨as0, ls0, cs0, Fs0, rfl, rr, oo, hb, nn, cc⟩
  have BEL : Hid (Below w.heap.size w w1) := Below.next BEL.out hb
  have Rs0 : Hid (RdP w1 as0 ls0 ps Fs0) := rr
  have Os0 : Hid (Own w.heap.size w1 Fs0 ∧ (as0 = none → cs0 = 0) ∧ ls0 ≤ 1048576 ∧ w.heap.size ≤ w1.heap.size ∧ ls0 ≤ cs0) := ⟨oo, nn, by rw [← rr.length, HLEN.out.1]; exact HF0.out, hb.size, cc⟩
  clear rr oo hb nn cc
  go_wp2_with fail
  refine (toSpanS_cap _ _ _ qs F1 _ (HH.out.2.below BEL.out) HF1.out).mono ?_
  rintro e w2 ⟨as1, ls1, cs1, Fs1, rfl, rr, oo, hb, nn, cc⟩
  have BEL : Hid (Below w.heap.size w w2) := Below.next BEL.out hb
  have Rs0 : Hid (RdP w2 as0 ls0 ps Fs0) := Rs0.out.below hb
  have Rs1 : Hid (RdP w2 as1 ls1 qs Fs1) := rr
  have Os1 : Hid (Own w1.heap.size w2 Fs1 ∧ (as1 = none → cs1 = 0) ∧ ls1 ≤ 1048576 ∧ w1.heap.size ≤ w2.heap.size ∧ ls1 ≤ cs1) := ⟨oo, nn, by rw [← rr.length, HLEN.out.2]; exact HF1.out, hb.size, cc⟩
  clear rr oo hb nn cc
  go_wp2_with fail
  refine (apartSpec_any _ _ _ _ _ _ ps qs Fs0 Fs1 _ Rs0.out Rs1.out (by have := Os0.out.2.2.1; omega) (by have := Os1.out.2.2.1; omega)).mono ?_
  rintro e w3 ⟨rfl, hq⟩
  have hb := quiet_below hq
  have BEL : Hid (Below w.heap.size w w3) := Below.next BEL.out hb
  have Rs0 : Hid (RdP w3 as0 ls0 ps Fs0) := Rs0.out.below hb
  have Rs1 : Hid (RdP w3 as1 ls1 qs Fs1) := Rs1.out.below hb
  clear hb hq
  clear Rs0 Os0
  clear Rs1 Os1
  go_wp2_with fail
  refine (toSpanS_cap _ _ _ ps F0 _ (HH.out.1.below BEL.out) HF0.out).mono ?_
  rintro e w4 ⟨ax0, lx0, cx0, Fx0, rfl, rr, oo, hb, nn, cc⟩
  have BEL : Hid (Below w.heap.size w w4) := Below.next BEL.out hb
  have Rx0 : Hid (RdP w4 ax0 lx0 ps Fx0) := rr
  have Ox0 : Hid (Own w3.heap.size w4 Fx0 ∧ (ax0 = none → cx0 = 0) ∧ lx0 ≤ 1048576 ∧ w3.heap.size ≤ w4.heap.size ∧ lx0 ≤ cx0) := ⟨oo, nn, by rw [← rr.length, HLEN.out.1]; exact HF0.out, hb.size, cc⟩
  clear rr oo hb nn cc
  go_wp2_with fail
  refine (toSpanS_cap _ _ _ qs F1 _ (HH.out.2.below BEL.out) HF1.out).mono ?_
  rintro e w5 ⟨ax1, lx1, cx1, Fx1, rfl, rr, oo, hb, nn, cc⟩
  have BEL : Hid (Below w.heap.size w w5) := Below.next BEL.out hb
  have Rx0 : Hid (RdP w5 ax0 lx0 ps Fx0) := Rx0.out.below hb
  have Rx1 : Hid (RdP w5 ax1 lx1 qs Fx1) := rr
  have Ox1 : Hid (Own w4.heap.size w5 Fx1 ∧ (ax1 = none → cx1 = 0) ∧ lx1 ≤ 1048576 ∧ w4.heap.size ≤ w5.heap.size ∧ lx1 ≤ cx1) := ⟨oo, nn, by rw [← rr.length, HLEN.out.2]; exact HF1.out, hb.size, cc⟩
  clear rr oo hb nn cc
  go_wp2_with fail
  refine (apartImpl_any _ _ _ _ _ _ ps qs Fx0 Fx1 _ Rx0.out Rx1.out (by have := Ox0.out.2.2.1; omega) (by have := Ox1.out.2.2.1; omega) Ox0.out.2.2.2.2 Ox1.out.2.2.2.2).mono ?_
  rintro e w6 ⟨rfl, hb⟩
  have BEL : Hid (Below w.heap.size w w6) := Below.next BEL.out hb
  have Rx0 : Hid (RdP w6 ax0 lx0 ps Fx0) := Rx0.out.below hb
  have Rx1 : Hid (RdP w6 ax1 lx1 qs Fx1) := Rx1.out.below hb
  clear hb
  obtain ⟨vv, hv⟩ : ∃ v, v = ps.apart qs := ⟨_, rfl⟩
  rw [← hv]
  have hne : (vv != vv) = false := by simp
  clear hv
  go_wp2_with fail
  refine (toSpanS_cap _ _ _ ps F0 _ (HH.out.1.below BEL.out) HF0.out).mono ?_
  rintro e w7 ⟨ax0e6, lx0e6, cx0e6, Fx0e6, rfl, rr, oo, hb, nn, cc⟩
  have BEL : Hid (Below w.heap.size w w7) := Below.next BEL.out hb
  have Rx0 : Hid (RdP w7 ax0 lx0 ps Fx0) := Rx0.out.below hb
  have Rx1 : Hid (RdP w7 ax1 lx1 qs Fx1) := Rx1.out.below hb
  have Rx0e6 : Hid (RdP w7 ax0e6 lx0e6 ps Fx0e6) := rr
  have Ox0e6 : Hid (Own w6.heap.size w7 Fx0e6 ∧ (ax0e6 = none → cx0e6 = 0) ∧ lx0e6 ≤ 1048576 ∧ w6.heap.size ≤ w7.heap.size ∧ lx0e6 ≤ cx0e6) := ⟨oo, nn, by rw [← rr.length, HLEN.out.1]; exact HF0.out, hb.size, cc⟩
  clear rr oo hb nn cc
  go_wp2_with fail
  refine (eqSpanS_any _ _ _ _ _ _ ps ps Fx0 Fx0e6 _ Rx0.out Rx0e6.out (by have := Ox0.out.2.2.1; omega) (by have := Ox0e6.out.2.2.1; omega)).mono ?_
  rintro e w8 ⟨rfl, hb⟩
  have BEL : Hid (Below w.heap.size w w8) := Below.next BEL.out hb
  have Rx0 : Hid (RdP w8 ax0 lx0 ps Fx0) := Rx0.out.below hb
  have Rx1 : Hid (RdP w8 ax1 lx1 qs Fx1) := Rx1.out.below hb
  have Rx0e6 : Hid (RdP w8 ax0e6 lx0e6 ps Fx0e6) := Rx0e6.out.below hb
  clear hb
  rw [show decide (ps = ps) = true from decT rfl]
  clear Rx0e6 Ox0e6
  go_wp2_with fail
  refine (toSpanS_cap _ _ _ qs F1 _ (HH.out.2.below BEL.out) HF1.out).mono ?_
  rintro e w9 ⟨ax1e8, lx1e8, cx1e8, Fx1e8, rfl, rr, oo, hb, nn, cc⟩
  have BEL : Hid (Below w.heap.size w w9) := Below.next BEL.out hb
  have Rx0 : Hid (RdP w9 ax0 lx0 ps Fx0) := Rx0.out.below hb
  have Rx1 : Hid (RdP w9 ax1 lx1 qs Fx1) := Rx1.out.below hb
  have Rx1e8 : Hid (RdP w9 ax1e8 lx1e8 qs Fx1e8) := rr
  have Ox1e8 : Hid (Own w8.heap.size w9 Fx1e8 ∧ (ax1e8 = none → cx1e8 = 0) ∧ lx1e8 ≤ 1048576 ∧ w8.heap.size ≤ w9.heap.size ∧ lx1e8 ≤ cx1e8) := ⟨oo, nn, by rw [← rr.length, HLEN.out.2]; exact HF1.out, hb.size, cc⟩
  clear rr oo hb nn cc
  go_wp2_with fail
  refine (eqSpanS_any _ _ _ _ _ _ qs qs Fx1 Fx1e8 _ Rx1.out Rx1e8.out (by have := Ox1.out.2.2.1; omega) (by have := Ox1e8.out.2.2.1; omega)).mono ?_
  rintro e w10 ⟨rfl, hb⟩
  have BEL : Hid (Below w.heap.size w w10) := Below.next BEL.out hb
  have Rx0 : Hid (RdP w10 ax0 lx0 ps Fx0) := Rx0.out.below hb
  have Rx1 : Hid (RdP w10 ax1 lx1 qs Fx1) := Rx1.out.below hb
  have Rx1e8 : Hid (RdP w10 ax1e8 lx1e8 qs Fx1e8) := Rx1e8.out.below hb
  clear hb
  rw [show decide (qs = qs) = true from decT rfl]
  clear Rx1e8 Ox1e8
  go_wp2
  go_ret
  exact ⟨rfl, BEL.out⟩
set_option maxRecDepth 100000 in
theorem lifted (os : Os) (started : os.Started) (H : Type) (enc : TypeId × Value → H) :
    ReturnsInHanded {} Try.checked os 5 .any (Rows.fnExactSetApartSpec.pre6 enc Try.prog Try.f5 Rows.fnExactSetApartRow.domain false) (Rows.fnExactSetApartSpec.post enc Try.prog Try.f5 false true false false) := by
  refine returnsInHanded_of_change (C := Try.checked) own started (by kernel_rfl) Try.func5
    (ChangeSpec.witness6 (enc := enc) (C := Try.checked) false ⟨#[], #[.slice none 0 0, .slice none 0 0], []⟩ 8 (by kernel_rfl) (by kernel_rfl) (by kernel_rfl) (by kernel_rfl)) ?_
  intro W base args ds gs before hval0 hW hcnd _
  have hval : ∀ (j : Nat) t v, Try.f5.params[j]? = some t → args[j]? = some v → Value.okWide Try.prog W .any base t v := hval0
  have hW' := hW
  obtain ⟨p, q, hA0, hV, rfl, hfz, hnd⟩ := hW
  have hA : DataW.TrodAll enc Try.prog W 0 (fun _ => true) true Try.f5.params.toList args.toList ds p := hA0
  rw [Try.params5] at hA hval
  obtain ⟨v0, vs0, d0, ds0, p0, q0, hargs0, rfl, rfl, h0, r0⟩ := trodAll_cons hA
  obtain ⟨v1, vs1, d1, ds1, p1, q1, hargs1, rfl, rfl, h1, r1⟩ := trodAll_cons r0
  obtain ⟨rfl, rfl, rfl⟩ := trodAll_nil r1
  obtain rfl : args = #[v0, v1] := by cases args; simp_all
  obtain ⟨rfl, rfl⟩ := trodVars_none hV
  have k0 := h0
  have lt0 : ∀ x ∈ p0, x.block < W.heap.size := by obtain ⟨m, hm⟩ := k0; exact DataW.trod_lt m _ _ _ hm
  obtain ⟨a0, n0, c0, ps0, F0, rfl, hR0, hb0, _⟩ := open_spans (hval 0 22 v0 rfl rfl) h0
  have k1 := h1
  have lt1 : ∀ x ∈ p1, x.block < W.heap.size := by obtain ⟨m, hm⟩ := k1; exact DataW.trod_lt m _ _ _ hm
  obtain ⟨a1, n1, c1, ps1, F1, rfl, hR1, hb1, _⟩ := open_spans (hval 1 22 v1 rfl rfl) h1
  clear hA0 hval0
  refine (walk a0 n0 c0 ps0 F0 a1 n1 c1 ps1 F1 W hR0 hb0 hR1 hb1).mono fun e W' ⟨he, bel⟩ => ?_
  subst he
  exact ⟨_, rfl, _, _, _, [], _, [], hW', trodAll_mk1 (shut_bool Try.underlying4 _), (trodAll_cons_mk (Below.trod sp_laidOut (by kernel_rfl) (of_decide_eq_true (by kernel_rfl)) k0 bel lt0) (trodAll_cons_mk (Below.trod sp_laidOut (by kernel_rfl) (of_decide_eq_true (by kernel_rfl)) k1 bel lt1) trodAll_mk0)), rfl, bel.frame _, fun h => by cases h⟩
theorem over : Rows.fnExactSetApartRow.holds Try.pinned (OpenSpec.ofChange Rows.fnExactSetApartSpec) :=
  OpenClaim.holds_of_wide 5 Try.f5 rfl rfl rfl rfl rfl rfl rfl ⟨rfl, rfl, rfl, rfl, rfl⟩ rfl rfl rfl rfl rfl (by kernel_rfl) Try.func5 (by kernel_rfl)
    (of_decide_eq_true (by kernel_rfl)) (by unfold Func.isWrapper; first | (rw [if_pos (by decide +kernel)]; kernel_rfl) | (rw [if_neg (by decide +kernel)]; exact ⟨rfl, rfl⟩))
    (fun os started H enc _ => lifted os started H enc)
theorem proved : Rows.FnExactSetApartSaid := over
#print axioms proved
end Go.Proofs.Ytjiciigaeeibgao.fnExactSetApart
