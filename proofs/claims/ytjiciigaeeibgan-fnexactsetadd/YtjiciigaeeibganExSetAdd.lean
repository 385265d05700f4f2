/- For every slice of spans and every number (no condition): laws.FnExactSetAdd returns true, and its arguments read afterwards as they did: the program's SetAdd answers as the model's and writes nothing into its arguments, and its answer owns its memory. -/
import Derived.Test.YtjiciigaeeibganSpLawImpl
import Derived.Test.YtjiciigaeeibganRows
import Derived.WalkKit
import Derived.ProofKit
import Derived.OpenShut
import Derived.ShutString
import Derived.ChangeOld
import Derived.Below
namespace Go.Proofs.Ytjiciigaeeibgan.fnExactSetAdd
open Go.ChangeShapes Go.WideShapes Go.ChangeAt Go.RowKit
set_option linter.unusedVariables false
theorem own : ownKnob Try.prog.godebug = none := by kernel_rfl
set_option maxHeartbeats 8000000 in
theorem walk (a00 : Option Addr) (n00 k00 : Nat) (ps : Sp) (F0 : List Nat) (n : Int) (w : World) (h0 : RdP w a00 n00 ps F0) (g0 : n00 ≤ 9223372036854775807) :
    Calls Try.prog 7 #[.slice a00 n00 k00, .int .i64 n] w fun e w' => e = .returned (.bool true) ∧ Below w.heap.size w w' := by
  have HH : Hid (RdP w a00 n00 ps F0 ∧ True) := ⟨h0, trivial⟩
  have HLEN : Hid (ps.length = n00 ∧ True) := ⟨h0.length, trivial⟩
  have BEL : Hid (Below w.heap.size w w) := Below.refl _ _
  clear h0
  go_enter Try.func7, Try.ntmps7
  go_wp2_with fail
  refine (szSpanS_vast _ _ _ 1048576 _ g0 (by omega) (by omega)).mono ?_
  rintro e x0 ⟨⟨r0, rfl, ra, rb, rc⟩, hw⟩
  have hw' := hw.symm
  subst hw'
  clear hw
  by_cases q : r0 < 0
  · clear ra rb rc
    go_wp2
    go_ret
    exact ⟨rfl, BEL.out⟩
  have q00 : 0 ≤ r0 := by omega
  have q01 : r0 ≤ 1048576 := by omega
  have HF0 : Hid (n00 ≤ 1048576) := by have := rb q00; show _ ≤ _; omega
  have HS0 : Hid (r0 = 1048576 - n00) := rb q00
  clear ra rb rc q
  go_wp2_with fail
  refine (toSpanS_cap _ _ _ ps F0 _ (HH.out.1.below BEL.out) HF0.out).mono ?_
  rintro e w1 ⟨as0, ls0, cs0, Fs0, rfl, rr, oo, hb, nn, cc⟩
  have BEL : Hid (Below w.heap.size w w1) := Below.next BEL.out hb
  have SZ : Hid (w.heap.size ≤ w1.heap.size) := hb.size
  have CHw1 : Hid (w.heap.size ≤ w1.heap.size) := SZ
  clear SZ
  have Ks0 : Hid (ls0 ≤ cs0) := cc
  clear cc
  have Vs0 : Hid (VP w1 w.heap.size w1.heap.size as0 ls0 (flat (ps)) Fs0) := VP.of rr oo
  have Ls0 : Hid ((ps).length = ls0 ∧ ls0 ≤ 2097152 ∧ (as0 = none → cs0 = 0)) := ⟨rr.length, by rw [← rr.length]; have := HF0.out; have := HLEN.out.1; omega, nn⟩
  clear rr oo hb nn
  go_wp2_with fail
  refine (addSpec_any' _ _ _ ps n Fs0 _ (Vs0.out.rdp Ls0.out.1) Ls0.out.2.1 Ls0.out.2.2).mono ?_
  rintro e w2 ⟨aw, lw, cw, Fw, rfl, rr, oo, hb, nn⟩
  have BEL : Hid (Below w.heap.size w w2) := Below.next BEL.out hb
  have Vs0 : Hid (VP w2 w.heap.size w1.heap.size as0 ls0 (flat (ps)) Fs0) := Vs0.out.below hb
  have SZ : Hid (w1.heap.size ≤ w2.heap.size) := hb.size
  have CHw2 : Hid (w1.heap.size ≤ w2.heap.size) := SZ
  clear SZ
  have Vw : Hid (VP w2 w1.heap.size w2.heap.size aw lw (flat ((ps.add n).1)) Fw) := VP.of rr oo
  have Lw : Hid (((ps.add n).1).length = lw ∧ lw ≤ 2097152 ∧ (aw = none → cw = 0)) := ⟨rr.length, by rw [← rr.length]; have := add_length ps n; have := HLEN.out.1; have := HF0.out; omega, nn⟩
  clear rr oo hb nn
  clear Vs0 Ls0 Ks0
  go_wp2_with fail
  refine (toSpanS_cap _ _ _ ps F0 _ (HH.out.1.below BEL.out) HF0.out).mono ?_
  rintro e w3 ⟨ax0, lx0, cx0, Fx0, rfl, rr, oo, hb, nn, cc⟩
  have BEL : Hid (Below w.heap.size w w3) := Below.next BEL.out hb
  have Vw : Hid (VP w3 w1.heap.size w2.heap.size aw lw (flat ((ps.add n).1)) Fw) := Vw.out.below hb
  have SZ : Hid (w2.heap.size ≤ w3.heap.size) := hb.size
  have CHw3 : Hid (w2.heap.size ≤ w3.heap.size) := SZ
  clear SZ
  have Kx0 : Hid (lx0 ≤ cx0) := cc
  clear cc
  have Vx0 : Hid (VP w3 w2.heap.size w3.heap.size ax0 lx0 (flat (ps)) Fx0) := VP.of rr oo
  have Lx0 : Hid ((ps).length = lx0 ∧ lx0 ≤ 2097152 ∧ (ax0 = none → cx0 = 0)) := ⟨rr.length, by rw [← rr.length]; have := HF0.out; have := HLEN.out.1; omega, nn⟩
  clear rr oo hb nn
  go_wp2_with fail
  refine (addImpl_any _ _ _ ps n Fx0 _ (Vx0.out.rdp Lx0.out.1) Lx0.out.2.1 Kx0.out).mono ?_
  rintro e w4 ⟨ag, lg, cg, Fg, rfl, rr, oo, hb, nn⟩
  have BEL : Hid (Below w.heap.size w w4) := Below.next BEL.out hb
  have Vw : Hid (VP w4 w1.heap.size w2.heap.size aw lw (flat ((ps.add n).1)) Fw) := Vw.out.below hb
  have Vx0 : Hid (VP w4 w2.heap.size w3.heap.size ax0 lx0 (flat (ps)) Fx0) := Vx0.out.below hb
  have SZ : Hid (w3.heap.size ≤ w4.heap.size) := hb.size
  have CHw4 : Hid (w3.heap.size ≤ w4.heap.size) := SZ
  clear SZ
  have Vg : Hid (VP w4 w3.heap.size w4.heap.size ag lg (flat ((ps.add n).1)) Fg) := VP.of rr oo
  have Lg : Hid (((ps.add n).1).length = lg ∧ lg ≤ 2097152 ∧ (ag = none → cg = 0)) := ⟨rr.length, by rw [← rr.length]; have := add_length ps n; have := HLEN.out.1; have := HF0.out; omega, nn⟩
  clear rr oo hb nn
  obtain ⟨dd, hdd⟩ : ∃ d, d = (ps.add n).2 := ⟨_, rfl⟩
  rw [← hdd]
  have HDD : Hid (dd = (ps.add n).2) := hdd
  clear hdd
  have hne : (dd != dd) = false := by simp
  go_wp2_with fail
  refine (eqSpanS_any _ _ _ _ _ _ ((ps.add n).1) ((ps.add n).1) Fg Fw _ (Vg.out.rdp Lg.out.1) (Vw.out.rdp Lw.out.1) (by have := Lg.out.2.1; omega) (by have := Lw.out.2.1; omega)).mono ?_
  rintro e w5 ⟨rfl, hb⟩
  have BEL : Hid (Below w.heap.size w w5) := Below.next BEL.out hb
  have Vw : Hid (VP w5 w1.heap.size w2.heap.size aw lw (flat ((ps.add n).1)) Fw) := Vw.out.below hb
  have Vx0 : Hid (VP w5 w2.heap.size w3.heap.size ax0 lx0 (flat (ps)) Fx0) := Vx0.out.below hb
  have Vg : Hid (VP w5 w3.heap.size w4.heap.size ag lg (flat ((ps.add n).1)) Fg) := Vg.out.below hb
  have SZ : Hid (w4.heap.size ≤ w5.heap.size) := hb.size
  have CHw5 : Hid (w4.heap.size ≤ w5.heap.size) := SZ
  clear SZ
  clear hb
  rw [show decide (((ps.add n).1) = ((ps.add n).1)) = true from decT rfl]
  go_wp2_with fail
  refine (toSpanS_cap _ _ _ ps F0 _ (HH.out.1.below BEL.out) HF0.out).mono ?_
  rintro e w6 ⟨ae0, le0, ce0, Fe0, rfl, rr, oo, hb, nn, cc⟩
  have BEL : Hid (Below w.heap.size w w6) := Below.next BEL.out hb
  have Vw : Hid (VP w6 w1.heap.size w2.heap.size aw lw (flat ((ps.add n).1)) Fw) := Vw.out.below hb
  have Vx0 : Hid (VP w6 w2.heap.size w3.heap.size ax0 lx0 (flat (ps)) Fx0) := Vx0.out.below hb
  have Vg : Hid (VP w6 w3.heap.size w4.heap.size ag lg (flat ((ps.add n).1)) Fg) := Vg.out.below hb
  have SZ : Hid (w5.heap.size ≤ w6.heap.size) := hb.size
  have CHw6 : Hid (w5.heap.size ≤ w6.heap.size) := SZ
  clear SZ
  have Ke0 : Hid (le0 ≤ ce0) := cc
  clear cc
  have Ve0 : Hid (VP w6 w5.heap.size w6.heap.size ae0 le0 (flat (ps)) Fe0) := VP.of rr oo
  have Le0 : Hid ((ps).length = le0 ∧ le0 ≤ 2097152 ∧ (ae0 = none → ce0 = 0)) := ⟨rr.length, by rw [← rr.length]; have := HF0.out; have := HLEN.out.1; omega, nn⟩
  clear rr oo hb nn
  go_wp2_with fail
  refine (eqSpanS_any _ _ _ _ _ _ (ps) (ps) Fx0 Fe0 _ (Vx0.out.rdp Lx0.out.1) (Ve0.out.rdp Le0.out.1) (by have := Lx0.out.2.1; omega) (by have := Le0.out.2.1; omega)).mono ?_
  rintro e w7 ⟨rfl, hb⟩
  have BEL : Hid (Below w.heap.size w w7) := Below.next BEL.out hb
  have Vw : Hid (VP w7 w1.heap.size w2.heap.size aw lw (flat ((ps.add n).1)) Fw) := Vw.out.below hb
  have Vx0 : Hid (VP w7 w2.heap.size w3.heap.size ax0 lx0 (flat (ps)) Fx0) := Vx0.out.below hb
  have Vg : Hid (VP w7 w3.heap.size w4.heap.size ag lg (flat ((ps.add n).1)) Fg) := Vg.out.below hb
  have Ve0 : Hid (VP w7 w5.heap.size w6.heap.size ae0 le0 (flat (ps)) Fe0) := Ve0.out.below hb
  have SZ : Hid (w6.heap.size ≤ w7.heap.size) := hb.size
  have CHw7 : Hid (w6.heap.size ≤ w7.heap.size) := SZ
  clear SZ
  clear hb
  rw [show decide ((ps) = (ps)) = true from decT rfl]
  clear Ve0 Le0 Ke0
  go_wp2_with fail
  refine (markSpanS_any w2.heap.size _ _ _ (flat (ps)) Fx0 1 _ Vx0.out.rd Vx0.out.own (by omega) (by have := Lx0.out.2.1; omega)).mono ?_
  rintro e w8 ⟨rfl, mk⟩
  have BEL : Hid (Below w.heap.size w w8) := Vx0.out.bel mk.only BEL.out (by have := CHw1.out; have := CHw2.out; have := CHw3.out; have := CHw4.out; have := CHw5.out; have := CHw6.out; have := CHw7.out; omega)
  have Nw : Hid (VP w8 w1.heap.size w2.heap.size aw lw (flat ((ps.add n).1)) Fw) := Vw.out.only Vx0.out mk.only (.inl (by have := CHw1.out; have := CHw2.out; have := CHw3.out; have := CHw4.out; have := CHw5.out; have := CHw6.out; have := CHw7.out; omega))
  have Ng : Hid (VP w8 w3.heap.size w4.heap.size ag lg (flat ((ps.add n).1)) Fg) := Vg.out.only Vx0.out mk.only (.inr (by have := CHw1.out; have := CHw2.out; have := CHw3.out; have := CHw4.out; have := CHw5.out; have := CHw6.out; have := CHw7.out; omega))
  have Nx0 : Hid (VP w8 w2.heap.size w3.heap.size ax0 lx0 (marksI 1 (2 * lx0)) Fx0) := Vx0.out.mark mk
  have Vw : Hid (VP w8 w1.heap.size w2.heap.size aw lw (flat ((ps.add n).1)) Fw) := Nw.out
  have Vx0 : Hid (VP w8 w2.heap.size w3.heap.size ax0 lx0 (marksI 1 (2 * lx0)) Fx0) := Nx0.out
  have Vg : Hid (VP w8 w3.heap.size w4.heap.size ag lg (flat ((ps.add n).1)) Fg) := Ng.out
  have CHw8 : Hid (w7.heap.size ≤ w8.heap.size) := mk.only.size'
  clear mk Nw Nx0 Ng
  have hk2 : (0 : Int) ≤ 1 + 2 * lg := by omega
  have hkx : lx0 ≤ 2097152 := Lx0.out.2.1
  go_wp2_with fail
  refine (eqSpanS_any _ _ _ _ _ _ ((ps.add n).1) ((ps.add n).1) Fg Fw _ (Vg.out.rdp Lg.out.1) (Vw.out.rdp Lw.out.1) (by have := Lg.out.2.1; omega) (by have := Lw.out.2.1; omega)).mono ?_
  rintro e w9 ⟨rfl, hb⟩
  have BEL : Hid (Below w.heap.size w w9) := Below.next BEL.out hb
  have Vw : Hid (VP w9 w1.heap.size w2.heap.size aw lw (flat ((ps.add n).1)) Fw) := Vw.out.below hb
  have Vx0 : Hid (VP w9 w2.heap.size w3.heap.size ax0 lx0 (marksI 1 (2 * lx0)) Fx0) := Vx0.out.below hb
  have Vg : Hid (VP w9 w3.heap.size w4.heap.size ag lg (flat ((ps.add n).1)) Fg) := Vg.out.below hb
  have SZ : Hid (w8.heap.size ≤ w9.heap.size) := hb.size
  have CHw9 : Hid (w8.heap.size ≤ w9.heap.size) := SZ
  clear SZ
  clear hb
  rw [show decide (((ps.add n).1) = ((ps.add n).1)) = true from decT rfl]
  have hlg : lg ≤ 2097152 := Lg.out.2.1
  have hm : ((1 + 2 * (lg : Int)) != (1 + 2 * (lg : Int))) = false := by simp
  go_wp2_with fail
  refine (markSpanS_any w3.heap.size _ _ _ (flat ((ps.add n).1)) Fg 1 _ Vg.out.rd Vg.out.own (by omega) (by have := Lg.out.2.1; omega)).mono ?_
  rintro e w10 ⟨rfl, mk⟩
  have BEL : Hid (Below w.heap.size w w10) := Vg.out.bel mk.only BEL.out (by have := CHw1.out; have := CHw2.out; have := CHw3.out; have := CHw4.out; have := CHw5.out; have := CHw6.out; have := CHw7.out; have := CHw8.out; have := CHw9.out; omega)
  have Nw : Hid (VP w10 w1.heap.size w2.heap.size aw lw (flat ((ps.add n).1)) Fw) := Vw.out.only Vg.out mk.only (.inl (by have := CHw1.out; have := CHw2.out; have := CHw3.out; have := CHw4.out; have := CHw5.out; have := CHw6.out; have := CHw7.out; have := CHw8.out; have := CHw9.out; omega))
  have Nx0 : Hid (VP w10 w2.heap.size w3.heap.size ax0 lx0 (marksI 1 (2 * lx0)) Fx0) := Vx0.out.only Vg.out mk.only (.inl (by have := CHw1.out; have := CHw2.out; have := CHw3.out; have := CHw4.out; have := CHw5.out; have := CHw6.out; have := CHw7.out; have := CHw8.out; have := CHw9.out; omega))
  have Ng : Hid (VP w10 w3.heap.size w4.heap.size ag lg (marksI 1 (2 * lg)) Fg) := Vg.out.mark mk
  have Vw : Hid (VP w10 w1.heap.size w2.heap.size aw lw (flat ((ps.add n).1)) Fw) := Nw.out
  have Vx0 : Hid (VP w10 w2.heap.size w3.heap.size ax0 lx0 (marksI 1 (2 * lx0)) Fx0) := Nx0.out
  have Vg : Hid (VP w10 w3.heap.size w4.heap.size ag lg (marksI 1 (2 * lg)) Fg) := Ng.out
  have CHw10 : Hid (w9.heap.size ≤ w10.heap.size) := mk.only.size'
  clear mk Nw Nx0 Ng
  go_wp2_with fail
  refine (heldSpanS_any _ _ _ Fg 1 _ Vg.out.rd (by omega) (by have := Lg.out.2.1; omega)).mono ?_
  rintro e w11 ⟨rfl, hb⟩
  have BEL : Hid (Below w.heap.size w w11) := Below.next BEL.out hb
  have Vw : Hid (VP w11 w1.heap.size w2.heap.size aw lw (flat ((ps.add n).1)) Fw) := Vw.out.below hb
  have Vx0 : Hid (VP w11 w2.heap.size w3.heap.size ax0 lx0 (marksI 1 (2 * lx0)) Fx0) := Vx0.out.below hb
  have Vg : Hid (VP w11 w3.heap.size w4.heap.size ag lg (marksI 1 (2 * lg)) Fg) := Vg.out.below hb
  have SZ : Hid (w10.heap.size ≤ w11.heap.size) := hb.size
  have CHw11 : Hid (w10.heap.size ≤ w11.heap.size) := SZ
  clear SZ
  clear hb
  clear Vx0 Lx0 Kx0
  go_wp2_with fail
  refine (toSpanS_cap _ _ _ ps F0 _ (HH.out.1.below BEL.out) HF0.out).mono ?_
  rintro e w12 ⟨at0, lt0, ct0, Ft0, rfl, rr, oo, hb, nn, cc⟩
  have BEL : Hid (Below w.heap.size w w12) := Below.next BEL.out hb
  have Vw : Hid (VP w12 w1.heap.size w2.heap.size aw lw (flat ((ps.add n).1)) Fw) := Vw.out.below hb
  have Vg : Hid (VP w12 w3.heap.size w4.heap.size ag lg (marksI 1 (2 * lg)) Fg) := Vg.out.below hb
  have SZ : Hid (w11.heap.size ≤ w12.heap.size) := hb.size
  have CHw12 : Hid (w11.heap.size ≤ w12.heap.size) := SZ
  clear SZ
  have Kt0 : Hid (lt0 ≤ ct0) := cc
  clear cc
  have Vt0 : Hid (VP w12 w11.heap.size w12.heap.size at0 lt0 (flat (ps)) Ft0) := VP.of rr oo
  have Lt0 : Hid ((ps).length = lt0 ∧ lt0 ≤ 2097152 ∧ (at0 = none → ct0 = 0)) := ⟨rr.length, by rw [← rr.length]; have := HF0.out; have := HLEN.out.1; omega, nn⟩
  clear rr oo hb nn
  go_wp2_with fail
  refine (addImpl_any _ _ _ ps n Ft0 _ (Vt0.out.rdp Lt0.out.1) Lt0.out.2.1 Kt0.out).mono ?_
  rintro e w13 ⟨ah, lh, ch, Fh, rfl, rr, oo, hb, nn⟩
  have BEL : Hid (Below w.heap.size w w13) := Below.next BEL.out hb
  have Vw : Hid (VP w13 w1.heap.size w2.heap.size aw lw (flat ((ps.add n).1)) Fw) := Vw.out.below hb
  have Vg : Hid (VP w13 w3.heap.size w4.heap.size ag lg (marksI 1 (2 * lg)) Fg) := Vg.out.below hb
  have Vt0 : Hid (VP w13 w11.heap.size w12.heap.size at0 lt0 (flat (ps)) Ft0) := Vt0.out.below hb
  have SZ : Hid (w12.heap.size ≤ w13.heap.size) := hb.size
  have CHw13 : Hid (w12.heap.size ≤ w13.heap.size) := SZ
  clear SZ
  have Vh : Hid (VP w13 w12.heap.size w13.heap.size ah lh (flat ((ps.add n).1)) Fh) := VP.of rr oo
  have Lh : Hid (((ps.add n).1).length = lh ∧ lh ≤ 2097152 ∧ (ah = none → ch = 0)) := ⟨rr.length, by rw [← rr.length]; have := add_length ps n; have := HLEN.out.1; have := HF0.out; omega, nn⟩
  clear rr oo hb nn
  rw [← HDD.out]
  go_wp2_with fail
  refine (eqSpanS_any _ _ _ _ _ _ ((ps.add n).1) ((ps.add n).1) Fh Fw _ (Vh.out.rdp Lh.out.1) (Vw.out.rdp Lw.out.1) (by have := Lh.out.2.1; omega) (by have := Lw.out.2.1; omega)).mono ?_
  rintro e w14 ⟨rfl, hb⟩
  have BEL : Hid (Below w.heap.size w w14) := Below.next BEL.out hb
  have Vw : Hid (VP w14 w1.heap.size w2.heap.size aw lw (flat ((ps.add n).1)) Fw) := Vw.out.below hb
  have Vg : Hid (VP w14 w3.heap.size w4.heap.size ag lg (marksI 1 (2 * lg)) Fg) := Vg.out.below hb
  have Vt0 : Hid (VP w14 w11.heap.size w12.heap.size at0 lt0 (flat (ps)) Ft0) := Vt0.out.below hb
  have Vh : Hid (VP w14 w12.heap.size w13.heap.size ah lh (flat ((ps.add n).1)) Fh) := Vh.out.below hb
  have SZ : Hid (w13.heap.size ≤ w14.heap.size) := hb.size
  have CHw14 : Hid (w13.heap.size ≤ w14.heap.size) := SZ
  clear SZ
  clear hb
  rw [show decide (((ps.add n).1) = ((ps.add n).1)) = true from decT rfl]
  go_wp2_with fail
  refine (heldSpanS_any _ _ _ Fg 1 _ Vg.out.rd (by omega) (by have := Lg.out.2.1; omega)).mono ?_
  rintro e w15 ⟨rfl, hb⟩
  have BEL : Hid (Below w.heap.size w w15) := Below.next BEL.out hb
  have Vw : Hid (VP w15 w1.heap.size w2.heap.size aw lw (flat ((ps.add n).1)) Fw) := Vw.out.below hb
  have Vg : Hid (VP w15 w3.heap.size w4.heap.size ag lg (marksI 1 (2 * lg)) Fg) := Vg.out.below hb
  have Vt0 : Hid (VP w15 w11.heap.size w12.heap.size at0 lt0 (flat (ps)) Ft0) := Vt0.out.below hb
  have Vh : Hid (VP w15 w12.heap.size w13.heap.size ah lh (flat ((ps.add n).1)) Fh) := Vh.out.below hb
  have SZ : Hid (w14.heap.size ≤ w15.heap.size) := hb.size
  have CHw15 : Hid (w14.heap.size ≤ w15.heap.size) := SZ
  clear SZ
  clear hb
  go_wp2
  go_ret
  exact ⟨rfl, BEL.out⟩
set_option maxRecDepth 100000 in
theorem lifted (os : Os) (started : os.Started) (H : Type) (enc : TypeId × Value → H) :
    ReturnsInHanded {} Try.checked os 7 .any (Rows.fnExactSetAddSpec.pre6 enc Try.prog Try.f7 Rows.fnExactSetAddRow.domain false) (Rows.fnExactSetAddSpec.post enc Try.prog Try.f7 false true false false) := by
  refine returnsInHanded_of_change (C := Try.checked) own started (by kernel_rfl) Try.func7
    (ChangeSpec.witness6 (enc := enc) (C := Try.checked) false ⟨#[], #[.slice none 0 0, .int .i64 0], []⟩ 8 (by kernel_rfl) (by kernel_rfl) (by kernel_rfl) (by kernel_rfl)) ?_
  intro W base args ds gs before hval0 hW hcnd _
  have hval : ∀ (j : Nat) t v, Try.f7.params[j]? = some t → args[j]? = some v → Value.okWide Try.prog W .any base t v := hval0
  have hW' := hW
  obtain ⟨p, q, hA0, hV, rfl, hfz, hnd⟩ := hW
  have hA : DataW.TrodAll enc Try.prog W 0 (fun _ => true) true Try.f7.params.toList args.toList ds p := hA0
  rw [Try.params7] at hA hval
  obtain ⟨v0, vs0, d0, ds0, p0, q0, hargs0, rfl, rfl, h0, r0⟩ := trodAll_cons hA
  obtain ⟨v1, vs1, d1, ds1, p1, q1, hargs1, rfl, rfl, h1, r1⟩ := trodAll_cons r0
  obtain ⟨rfl, rfl, rfl⟩ := trodAll_nil r1
  obtain rfl : args = #[v0, v1] := by cases args; simp_all
  obtain ⟨rfl, rfl⟩ := trodVars_none hV
  have k0 := h0
  have lt0 : ∀ x ∈ p0, x.block < W.heap.size := by obtain ⟨m, hm⟩ := k0; exact DataW.trod_lt m _ _ _ hm
  obtain ⟨a0, n0, c0, ps0, F0, rfl, hR0, hb0, _⟩ := open_spans (hval 0 35 v0 rfl rfl) h0
  obtain ⟨z1, rfl, rfl, rfl, wz⟩ := open_int Try.underlying3 (hval 1 3 v1 rfl rfl) h1
  clear hA0 hval0
  refine (walk a0 n0 c0 ps0 F0 z1 W hR0 hb0).mono fun e W' ⟨he, bel⟩ => ?_
  subst he
  exact ⟨_, rfl, _, _, _, [], _, [], hW', trodAll_mk1 (shut_bool Try.underlying4 _), (trodAll_cons_mk (Below.trod sp_laidOut (by kernel_rfl) (of_decide_eq_true (by kernel_rfl)) k0 bel lt0) (trodAll_cons_mk (shut_int Try.underlying3 wz) trodAll_mk0)), rfl, bel.frame _, fun h => by cases h⟩
theorem over : Rows.fnExactSetAddRow.holds Try.pinned (OpenSpec.ofChange Rows.fnExactSetAddSpec) :=
  OpenClaim.holds_of_wide 7 Try.f7 rfl rfl rfl rfl rfl rfl rfl ⟨rfl, rfl, rfl, rfl, rfl⟩ rfl rfl rfl rfl rfl (by kernel_rfl) Try.func7 (by kernel_rfl)
    (of_decide_eq_true (by kernel_rfl)) (by unfold Func.isWrapper; first | (rw [if_pos (by decide +kernel)]; kernel_rfl) | (rw [if_neg (by decide +kernel)]; exact ⟨rfl, rfl⟩))
    (fun os started H enc _ => lifted os started H enc)
theorem proved : Rows.FnExactSetAddSaid := over
#print axioms proved
end Go.Proofs.Ytjiciigaeeibgan.fnExactSetAdd
