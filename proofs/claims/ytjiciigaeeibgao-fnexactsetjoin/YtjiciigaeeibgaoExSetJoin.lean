/- For every two slices of spans (no condition): laws.FnExactSetJoin returns true, and its arguments read afterwards as they did: the program's SetJoin answers as the model's and writes nothing into its arguments, and its answer owns its memory. -/
import Derived.Test.YtjiciigaeeibgaoSpLawImpl
import Derived.Test.YtjiciigaeeibgaoRows
import Derived.WalkKit
import Derived.ProofKit
import Derived.OpenShut
import Derived.ShutString
import Derived.ChangeOld
import Derived.Below
namespace Go.Proofs.Ytjiciigaeeibgao.fnExactSetJoin
open Go.ChangeShapes Go.WideShapes Go.ChangeAt Go.RowKit
set_option linter.unusedVariables false
theorem own : ownKnob Try.prog.godebug = none := by kernel_rfl
set_option maxHeartbeats 8000000 in
theorem walk (a00 : Option Addr) (n00 k00 : Nat) (ps : Sp) (F0 : List Nat) (a10 : Option Addr) (n10 k10 : Nat) (qs : Sp) (F1 : List Nat) (w : World) (h0 : RdP w a00 n00 ps F0) (g0 : n00 ≤ 9223372036854775807) (h1 : RdP w a10 n10 qs F1) (g1 : n10 ≤ 9223372036854775807) :
    Calls Try.prog 3 #[.slice a00 n00 k00, .slice a10 n10 k10] w fun e w' => e = .returned (.bool true) ∧ Below w.heap.size w w' := by
  have HH : Hid (RdP w a00 n00 ps F0 ∧ RdP w a10 n10 qs F1) := ⟨h0, h1⟩
  have HLEN : Hid (ps.length = n00 ∧ qs.length = n10) := ⟨h0.length, h1.length⟩
  have BEL : Hid (Below w.heap.size w w) := Below.refl _ _
  clear h0 h1
  go_enter Try.func3, Try.ntmps3
  go_wp2_with fail
  refine (szSpanS_vast _ _ _ 1048576 _ g0 (by omega) (by omega)).mono ?_
  rintro e x0 ⟨⟨r0, rfl, ra, rb, rc⟩, hw⟩
  have hw' := hw.symm
  subst hw'
  clear hw
  by_cases q : r0 < 0
  · clear ra rb rc
    go_wp2
    go_ret
    exact ⟨rfl, BEL.out⟩
  have q00 : 0 ≤ r0 := by omega
  have q01 : r0 ≤ 1048576 := by omega
  have HF0 : Hid (n00 ≤ 1048576) := by have := rb q00; show _ ≤ _; omega
  have HS0 : Hid (r0 = 1048576 - n00) := rb q00
  clear ra rb rc q
  go_wp2_with fail
  refine (szSpanS_vast _ _ _ r0 _ g1 (by omega) (by omega)).mono ?_
  rintro e x1 ⟨⟨r1, rfl, ra, rb, rc⟩, hw⟩
  have hw' := hw.symm
  subst hw'
  clear hw
  by_cases q : r1 < 0
  · clear ra rb rc
    go_wp2
    go_ret
    exact ⟨rfl, BEL.out⟩
  have q10 : 0 ≤ r1 := by omega
  have q11 : r1 ≤ 1048576 := by omega
  have HF1 : Hid (n10 ≤ 1048576) := by have := rb q10; show _ ≤ _; omega
  have HS1 : Hid (r1 = r0 - n10) := rb q10
  clear ra rb rc q
  have HSUM : Hid (n00 + n10 ≤ 1048576) := by have := HS0.out; have := HS1.out; show _ ≤ _; omega
  go_wp2_with fail
  refine (toSpanS_cap _ _ _ ps F0 _ (HH.out.1.below BEL.out) HF0.out).mono ?_
  rintro e w1 ⟨as0, ls0, cs0, Fs0, rfl, rr, oo, hb, nn, cc⟩
  have BEL : Hid (Below w.heap.size w w1) := Below.next BEL.out hb
  have SZ : Hid (w.heap.size ≤ w1.heap.size) := hb.size
  have CHw1 : Hid (w.heap.size ≤ w1.heap.size) := SZ
  clear SZ
  have Ks0 : Hid (ls0 ≤ cs0) := cc
  clear cc
  have Vs0 : Hid (VP w1 w.heap.size w1.heap.size as0 ls0 (flat (ps)) Fs0) := VP.of rr oo
  have Ls0 : Hid ((ps).length = ls0 ∧ ls0 ≤ 2097152 ∧ (as0 = none → cs0 = 0)) := ⟨rr.length, by rw [← rr.length]; have := HF0.out; have := HLEN.out.1; omega, nn⟩
  clear rr oo hb nn
  go_wp2_with fail
  refine (toSpanS_cap _ _ _ qs F1 _ (HH.out.2.below BEL.out) HF1.out).mono ?_
  rintro e w2 ⟨as1, ls1, cs1, Fs1, rfl, rr, oo, hb, nn, cc⟩
  have BEL : Hid (Below w.heap.size w w2) := Below.next BEL.out hb
  have Vs0 : Hid (VP w2 w.heap.size w1.heap.size as0 ls0 (flat (ps)) Fs0) := Vs0.out.below hb
  have SZ : Hid (w1.heap.size ≤ w2.heap.size) := hb.size
  have CHw2 : Hid (w1.heap.size ≤ w2.heap.size) := SZ
  clear SZ
  have Ks1 : Hid (ls1 ≤ cs1) := cc
  clear cc
  have Vs1 : Hid (VP w2 w1.heap.size w2.heap.size as1 ls1 (flat (qs)) Fs1) := VP.of rr oo
  have Ls1 : Hid ((qs).length = ls1 ∧ ls1 ≤ 2097152 ∧ (as1 = none → cs1 = 0)) := ⟨rr.length, by rw [← rr.length]; have := HF1.out; have := HLEN.out.2; omega, nn⟩
  clear rr oo hb nn
  go_wp2_with fail
  refine (joinSpec_any _ _ _ _ _ _ ps qs Fs0 Fs1 _ (Vs0.out.rdp Ls0.out.1) (Vs1.out.rdp Ls1.out.1) (by have := Ls0.out.1; have := Ls1.out.1; have := HLEN.out; have := HSUM.out; omega) Ls0.out.2.2).mono ?_
  rintro e w3 ⟨aw, lw, cw, Fw, rfl, rr, oo, hb, nn⟩
  have BEL : Hid (Below w.heap.size w w3) := Below.next BEL.out hb
  have Vs0 : Hid (VP w3 w.heap.size w1.heap.size as0 ls0 (flat (ps)) Fs0) := Vs0.out.below hb
  have Vs1 : Hid (VP w3 w1.heap.size w2.heap.size as1 ls1 (flat (qs)) Fs1) := Vs1.out.below hb
  have SZ : Hid (w2.heap.size ≤ w3.heap.size) := hb.size
  have CHw3 : Hid (w2.heap.size ≤ w3.heap.size) := SZ
  clear SZ
  have Vw : Hid (VP w3 w2.heap.size w3.heap.size aw lw (flat (ps.join qs)) Fw) := VP.of rr oo
  have Lw : Hid ((ps.join qs).length = lw ∧ lw ≤ 2097152 ∧ (aw = none → cw = 0)) := ⟨rr.length, by rw [← rr.length]; have := join_length ps qs; have := HLEN.out; have := HSUM.out; omega, nn⟩
  clear rr oo hb nn
  clear Vs0 Ls0 Ks0
  clear Vs1 Ls1 Ks1
  go_wp2_with fail
  refine (toSpanS_cap _ _ _ ps F0 _ (HH.out.1.below BEL.out) HF0.out).mono ?_
  rintro e w4 ⟨ax0, lx0, cx0, Fx0, rfl, rr, oo, hb, nn, cc⟩
  have BEL : Hid (Below w.heap.size w w4) := Below.next BEL.out hb
  have Vw : Hid (VP w4 w2.heap.size w3.heap.size aw lw (flat (ps.join qs)) Fw) := Vw.out.below hb
  have SZ : Hid (w3.heap.size ≤ w4.heap.size) := hb.size
  have CHw4 : Hid (w3.heap.size ≤ w4.heap.size) := SZ
  clear SZ
  have Kx0 : Hid (lx0 ≤ cx0) := cc
  clear cc
  have Vx0 : Hid (VP w4 w3.heap.size w4.heap.size ax0 lx0 (flat (ps)) Fx0) := VP.of rr oo
  have Lx0 : Hid ((ps).length = lx0 ∧ lx0 ≤ 2097152 ∧ (ax0 = none → cx0 = 0)) := ⟨rr.length, by rw [← rr.length]; have := HF0.out; have := HLEN.out.1; omega, nn⟩
  clear rr oo hb nn
  go_wp2_with fail
  refine (toSpanS_cap _ _ _ qs F1 _ (HH.out.2.below BEL.out) HF1.out).mono ?_
  rintro e w5 ⟨ax1, lx1, cx1, Fx1, rfl, rr, oo, hb, nn, cc⟩
  have BEL : Hid (Below w.heap.size w w5) := Below.next BEL.out hb
  have Vw : Hid (VP w5 w2.heap.size w3.heap.size aw lw (flat (ps.join qs)) Fw) := Vw.out.below hb
  have Vx0 : Hid (VP w5 w3.heap.size w4.heap.size ax0 lx0 (flat (ps)) Fx0) := Vx0.out.below hb
  have SZ : Hid (w4.heap.size ≤ w5.heap.size) := hb.size
  have CHw5 : Hid (w4.heap.size ≤ w5.heap.size) := SZ
  clear SZ
  have Kx1 : Hid (lx1 ≤ cx1) := cc
  clear cc
  have Vx1 : Hid (VP w5 w4.heap.size w5.heap.size ax1 lx1 (flat (qs)) Fx1) := VP.of rr oo
  have Lx1 : Hid ((qs).length = lx1 ∧ lx1 ≤ 2097152 ∧ (ax1 = none → cx1 = 0)) := ⟨rr.length, by rw [← rr.length]; have := HF1.out; have := HLEN.out.2; omega, nn⟩
  clear rr oo hb nn
  go_wp2_with fail
  refine (joinImpl_any _ _ _ _ _ _ ps qs Fx0 Fx1 _ (Vx0.out.rdp Lx0.out.1) (Vx1.out.rdp Lx1.out.1) (by have := Lx0.out.1; have := Lx1.out.1; have := HLEN.out; have := HSUM.out; omega) Kx0.out).mono ?_
  rintro e w6 ⟨ag, lg, cg, Fg, rfl, rr, oo, hb, nn⟩
  have BEL : Hid (Below w.heap.size w w6) := Below.next BEL.out hb
  have Vw : Hid (VP w6 w2.heap.size w3.heap.size aw lw (flat (ps.join qs)) Fw) := Vw.out.below hb
  have Vx0 : Hid (VP w6 w3.heap.size w4.heap.size ax0 lx0 (flat (ps)) Fx0) := Vx0.out.below hb
  have Vx1 : Hid (VP w6 w4.heap.size w5.heap.size ax1 lx1 (flat (qs)) Fx1) := Vx1.out.below hb
  have SZ : Hid (w5.heap.size ≤ w6.heap.size) := hb.size
  have CHw6 : Hid (w5.heap.size ≤ w6.heap.size) := SZ
  clear SZ
  have Vg : Hid (VP w6 w5.heap.size w6.heap.size ag lg (flat (ps.join qs)) Fg) := VP.of rr oo
  have Lg : Hid ((ps.join qs).length = lg ∧ lg ≤ 2097152 ∧ (ag = none → cg = 0)) := ⟨rr.length, by rw [← rr.length]; have := join_length ps qs; have := HLEN.out; have := HSUM.out; omega, nn⟩
  clear rr oo hb nn
  obtain ⟨dd, hdd⟩ : ∃ d, d = (ps.ok && qs.ok) := ⟨_, rfl⟩
  rw [← hdd]
  have HDD : Hid (dd = (ps.ok && qs.ok)) := hdd
  clear hdd
  have hne : (dd != dd) = false := by simp
  go_wp2_with fail
  refine (eqSpanS_any _ _ _ _ _ _ (ps.join qs) (ps.join qs) Fg Fw _ (Vg.out.rdp Lg.out.1) (Vw.out.rdp Lw.out.1) (by have := Lg.out.2.1; omega) (by have := Lw.out.2.1; omega)).mono ?_
  rintro e w7 ⟨rfl, hb⟩
  have BEL : Hid (Below w.heap.size w w7) := Below.next BEL.out hb
  have Vw : Hid (VP w7 w2.heap.size w3.heap.size aw lw (flat (ps.join qs)) Fw) := Vw.out.below hb
  have Vx0 : Hid (VP w7 w3.heap.size w4.heap.size ax0 lx0 (flat (ps)) Fx0) := Vx0.out.below hb
  have Vx1 : Hid (VP w7 w4.heap.size w5.heap.size ax1 lx1 (flat (qs)) Fx1) := Vx1.out.below hb
  have Vg : Hid (VP w7 w5.heap.size w6.heap.size ag lg (flat (ps.join qs)) Fg) := Vg.out.below hb
  have SZ : Hid (w6.heap.size ≤ w7.heap.size) := hb.size
  have CHw7 : Hid (w6.heap.size ≤ w7.heap.size) := SZ
  clear SZ
  clear hb
  rw [show decide ((ps.join qs) = (ps.join qs)) = true from decT rfl]
  go_wp2_with fail
  refine (toSpanS_cap _ _ _ ps F0 _ (HH.out.1.below BEL.out) HF0.out).mono ?_
  rintro e w8 ⟨ae0, le0, ce0, Fe0, rfl, rr, oo, hb, nn, cc⟩
  have BEL : Hid (Below w.heap.size w w8) := Below.next BEL.out hb
  have Vw : Hid (VP w8 w2.heap.size w3.heap.size aw lw (flat (ps.join qs)) Fw) := Vw.out.below hb
  have Vx0 : Hid (VP w8 w3.heap.size w4.heap.size ax0 lx0 (flat (ps)) Fx0) := Vx0.out.below hb
  have Vx1 : Hid (VP w8 w4.heap.size w5.heap.size ax1 lx1 (flat (qs)) Fx1) := Vx1.out.below hb
  have Vg : Hid (VP w8 w5.heap.size w6.heap.size ag lg (flat (ps.join qs)) Fg) := Vg.out.below hb
  have SZ : Hid (w7.heap.size ≤ w8.heap.size) := hb.size
  have CHw8 : Hid (w7.heap.size ≤ w8.heap.size) := SZ
  clear SZ
  have Ke0 : Hid (le0 ≤ ce0) := cc
  clear cc
  have Ve0 : Hid (VP w8 w7.heap.size w8.heap.size ae0 le0 (flat (ps)) Fe0) := VP.of rr oo
  have Le0 : Hid ((ps).length = le0 ∧ le0 ≤ 2097152 ∧ (ae0 = none → ce0 = 0)) := ⟨rr.length, by rw [← rr.length]; have := HF0.out; have := HLEN.out.1; omega, nn⟩
  clear rr oo hb nn
  go_wp2_with fail
  refine (eqSpanS_any _ _ _ _ _ _ (ps) (ps) Fx0 Fe0 _ (Vx0.out.rdp Lx0.out.1) (Ve0.out.rdp Le0.out.1) (by have := Lx0.out.2.1; omega) (by have := Le0.out.2.1; omega)).mono ?_
  rintro e w9 ⟨rfl, hb⟩
  have BEL : Hid (Below w.heap.size w w9) := Below.next BEL.out hb
  have Vw : Hid (VP w9 w2.heap.size w3.heap.size aw lw (flat (ps.join qs)) Fw) := Vw.out.below hb
  have Vx0 : Hid (VP w9 w3.heap.size w4.heap.size ax0 lx0 (flat (ps)) Fx0) := Vx0.out.below hb
  have Vx1 : Hid (VP w9 w4.heap.size w5.heap.size ax1 lx1 (flat (qs)) Fx1) := Vx1.out.below hb
  have Vg : Hid (VP w9 w5.heap.size w6.heap.size ag lg (flat (ps.join qs)) Fg) := Vg.out.below hb
  have Ve0 : Hid (VP w9 w7.heap.size w8.heap.size ae0 le0 (flat (ps)) Fe0) := Ve0.out.below hb
  have SZ : Hid (w8.heap.size ≤ w9.heap.size) := hb.size
  have CHw9 : Hid (w8.heap.size ≤ w9.heap.size) := SZ
  clear SZ
  clear hb
  rw [show decide ((ps) = (ps)) = true from decT rfl]
  clear Ve0 Le0 Ke0
  go_wp2_with fail
  refine (toSpanS_cap _ _ _ qs F1 _ (HH.out.2.below BEL.out) HF1.out).mono ?_
  rintro e w10 ⟨ae1, le1, ce1, Fe1, rfl, rr, oo, hb, nn, cc⟩
  have BEL : Hid (Below w.heap.size w w10) := Below.next BEL.out hb
  have Vw : Hid (VP w10 w2.heap.size w3.heap.size aw lw (flat (ps.join qs)) Fw) := Vw.out.below hb
  have Vx0 : Hid (VP w10 w3.heap.size w4.heap.size ax0 lx0 (flat (ps)) Fx0) := Vx0.out.below hb
  have Vx1 : Hid (VP w10 w4.heap.size w5.heap.size ax1 lx1 (flat (qs)) Fx1) := Vx1.out.below hb
  have Vg : Hid (VP w10 w5.heap.size w6.heap.size ag lg (flat (ps.join qs)) Fg) := Vg.out.below hb
  have SZ : Hid (w9.heap.size ≤ w10.heap.size) := hb.size
  have CHw10 : Hid (w9.heap.size ≤ w10.heap.size) := SZ
  clear SZ
  have Ke1 : Hid (le1 ≤ ce1) := cc
  clear cc
  have Ve1 : Hid (VP w10 w9.heap.size w10.heap.size ae1 le1 (flat (qs)) Fe1) := VP.of rr oo
  have Le1 : Hid ((qs).length = le1 ∧ le1 ≤ 2097152 ∧ (ae1 = none → ce1 = 0)) := ⟨rr.length, by rw [← rr.length]; have := HF1.out; have := HLEN.out.2; omega, nn⟩
  clear rr oo hb nn
  go_wp2_with fail
  refine (eqSpanS_any _ _ _ _ _ _ (qs) (qs) Fx1 Fe1 _ (Vx1.out.rdp Lx1.out.1) (Ve1.out.rdp Le1.out.1) (by have := Lx1.out.2.1; omega) (by have := Le1.out.2.1; omega)).mono ?_
  rintro e w11 ⟨rfl, hb⟩
  have BEL : Hid (Below w.heap.size w w11) := Below.next BEL.out hb
  have Vw : Hid (VP w11 w2.heap.size w3.heap.size aw lw (flat (ps.join qs)) Fw) := Vw.out.below hb
  have Vx0 : Hid (VP w11 w3.heap.size w4.heap.size ax0 lx0 (flat (ps)) Fx0) := Vx0.out.below hb
  have Vx1 : Hid (VP w11 w4.heap.size w5.heap.size ax1 lx1 (flat (qs)) Fx1) := Vx1.out.below hb
  have Vg : Hid (VP w11 w5.heap.size w6.heap.size ag lg (flat (ps.join qs)) Fg) := Vg.out.below hb
  have Ve1 : Hid (VP w11 w9.heap.size w10.heap.size ae1 le1 (flat (qs)) Fe1) := Ve1.out.below hb
  have SZ : Hid (w10.heap.size ≤ w11.heap.size) := hb.size
  have CHw11 : Hid (w10.heap.size ≤ w11.heap.size) := SZ
  clear SZ
  clear hb
  rw [show decide ((qs) = (qs)) = true from decT rfl]
  clear Ve1 Le1 Ke1
  go_wp2_with fail
  refine (markSpanS_any w3.heap.size _ _ _ (flat (ps)) Fx0 1 _ Vx0.out.rd Vx0.out.own (by omega) (by have := Lx0.out.2.1; omega)).mono ?_
  rintro e w12 ⟨rfl, mk⟩
  have BEL : Hid (Below w.heap.size w w12) := Vx0.out.bel mk.only BEL.out (by have := CHw1.out; have := CHw2.out; have := CHw3.out; have := CHw4.out; have := CHw5.out; have := CHw6.out; have := CHw7.out; have := CHw8.out; have := CHw9.out; have := CHw10.out; have := CHw11.out; omega)
  have Nw : Hid (VP w12 w2.heap.size w3.heap.size aw lw (flat (ps.join qs)) Fw) := Vw.out.only Vx0.out mk.only (.inl (by have := CHw1.out; have := CHw2.out; have := CHw3.out; have := CHw4.out; have := CHw5.out; have := CHw6.out; have := CHw7.out; have := CHw8.out; have := CHw9.out; have := CHw10.out; have := CHw11.out; omega))
  have Nx1 : Hid (VP w12 w4.heap.size w5.heap.size ax1 lx1 (flat (qs)) Fx1) := Vx1.out.only Vx0.out mk.only (.inr (by have := CHw1.out; have := CHw2.out; have := CHw3.out; have := CHw4.out; have := CHw5.out; have := CHw6.out; have := CHw7.out; have := CHw8.out; have := CHw9.out; have := CHw10.out; have := CHw11.out; omega))
  have Ng : Hid (VP w12 w5.heap.size w6.heap.size ag lg (flat (ps.join qs)) Fg) := Vg.out.only Vx0.out mk.only (.inr (by have := CHw1.out; have := CHw2.out; have := CHw3.out; have := CHw4.out; have := CHw5.out; have := CHw6.out; have := CHw7.out; have := CHw8.out; have := CHw9.out; have := CHw10.out; have := CHw11.out; omega))
  have Nx0 : Hid (VP w12 w3.heap.size w4.heap.size ax0 lx0 (marksI 1 (2 * lx0)) Fx0) := Vx0.out.mark mk
  have Vw : Hid (VP w12 w2.heap.size w3.heap.size aw lw (flat (ps.join qs)) Fw) := Nw.out
  have Vx0 : Hid (VP w12 w3.heap.size w4.heap.size ax0 lx0 (marksI 1 (2 * lx0)) Fx0) := Nx0.out
  have Vx1 : Hid (VP w12 w4.heap.size w5.heap.size ax1 lx1 (flat (qs)) Fx1) := Nx1.out
  have Vg : Hid (VP w12 w5.heap.size w6.heap.size ag lg (flat (ps.join qs)) Fg) := Ng.out
  have CHw12 : Hid (w11.heap.size ≤ w12.heap.size) := mk.only.size'
  clear mk Nw Nx0 Nx1 Ng
  have hk1 : (0 : Int) ≤ 1 + 2 * lx0 := by omega
  go_wp2_with fail
  refine (markSpanS_any w4.heap.size _ _ _ (flat (qs)) Fx1 (1 + 2 * lx0) _ Vx1.out.rd Vx1.out.own (by omega) (by have := Lx1.out.2.1; have := Lx0.out.2.1; omega)).mono ?_
  rintro e w13 ⟨rfl, mk⟩
  have BEL : Hid (Below w.heap.size w w13) := Vx1.out.bel mk.only BEL.out (by have := CHw1.out; have := CHw2.out; have := CHw3.out; have := CHw4.out; have := CHw5.out; have := CHw6.out; have := CHw7.out; have := CHw8.out; have := CHw9.out; have := CHw10.out; have := CHw11.out; have := CHw12.out; omega)
  have Nw : Hid (VP w13 w2.heap.size w3.heap.size aw lw (flat (ps.join qs)) Fw) := Vw.out.only Vx1.out mk.only (.inl (by have := CHw1.out; have := CHw2.out; have := CHw3.out; have := CHw4.out; have := CHw5.out; have := CHw6.out; have := CHw7.out; have := CHw8.out; have := CHw9.out; have := CHw10.out; have := CHw11.out; have := CHw12.out; omega))
  have Nx0 : Hid (VP w13 w3.heap.size w4.heap.size ax0 lx0 (marksI 1 (2 * lx0)) Fx0) := Vx0.out.only Vx1.out mk.only (.inl (by have := CHw1.out; have := CHw2.out; have := CHw3.out; have := CHw4.out; have := CHw5.out; have := CHw6.out; have := CHw7.out; have := CHw8.out; have := CHw9.out; have := CHw10.out; have := CHw11.out; have := CHw12.out; omega))
  have Ng : Hid (VP w13 w5.heap.size w6.heap.size ag lg (flat (ps.join qs)) Fg) := Vg.out.only Vx1.out mk.only (.inr (by have := CHw1.out; have := CHw2.out; have := CHw3.out; have := CHw4.out; have := CHw5.out; have := CHw6.out; have := CHw7.out; have := CHw8.out; have := CHw9.out; have := CHw10.out; have := CHw11.out; have := CHw12.out; omega))
  have Nx1 : Hid (VP w13 w4.heap.size w5.heap.size ax1 lx1 (marksI (1 + 2 * lx0) (2 * lx1)) Fx1) := Vx1.out.mark mk
  have Vw : Hid (VP w13 w2.heap.size w3.heap.size aw lw (flat (ps.join qs)) Fw) := Nw.out
  have Vx0 : Hid (VP w13 w3.heap.size w4.heap.size ax0 lx0 (marksI 1 (2 * lx0)) Fx0) := Nx0.out
  have Vx1 : Hid (VP w13 w4.heap.size w5.heap.size ax1 lx1 (marksI (1 + 2 * lx0) (2 * lx1)) Fx1) := Nx1.out
  have Vg : Hid (VP w13 w5.heap.size w6.heap.size ag lg (flat (ps.join qs)) Fg) := Ng.out
  have CHw13 : Hid (w12.heap.size ≤ w13.heap.size) := mk.only.size'
  clear mk Nw Nx0 Nx1 Ng
  have hk2 : (0 : Int) ≤ 1 + 2 * lg := by omega
  have hkx : lx0 ≤ 2097152 := Lx0.out.2.1
  have hky : lx1 ≤ 2097152 := Lx1.out.2.1
  go_wp2_with fail
  refine (eqSpanS_any _ _ _ _ _ _ (ps.join qs) (ps.join qs) Fg Fw _ (Vg.out.rdp Lg.out.1) (Vw.out.rdp Lw.out.1) (by have := Lg.out.2.1; omega) (by have := Lw.out.2.1; omega)).mono ?_
  rintro e w14 ⟨rfl, hb⟩
  have BEL : Hid (Below w.heap.size w w14) := Below.next BEL.out hb
  have Vw : Hid (VP w14 w2.heap.size w3.heap.size aw lw (flat (ps.join qs)) Fw) := Vw.out.below hb
  have Vx0 : Hid (VP w14 w3.heap.size w4.heap.size ax0 lx0 (marksI 1 (2 * lx0)) Fx0) := Vx0.out.below hb
  have Vx1 : Hid (VP w14 w4.heap.size w5.heap.size ax1 lx1 (marksI (1 + 2 * lx0) (2 * lx1)) Fx1) := Vx1.out.below hb
  have Vg : Hid (VP w14 w5.heap.size w6.heap.size ag lg (flat (ps.join qs)) Fg) := Vg.out.below hb
  have SZ : Hid (w13.heap.size ≤ w14.heap.size) := hb.size
  have CHw14 : Hid (w13.heap.size ≤ w14.heap.size) := SZ
  clear SZ
  clear hb
  rw [show decide ((ps.join qs) = (ps.join qs)) = true from decT rfl]
  have hlg : lg ≤ 2097152 := Lg.out.2.1
  have hm : ((1 + 2 * (lg : Int)) != (1 + 2 * (lg : Int))) = false := by simp
  go_wp2_with fail
  refine (markSpanS_any w5.heap.size _ _ _ (flat (ps.join qs)) Fg 1 _ Vg.out.rd Vg.out.own (by omega) (by have := Lg.out.2.1; omega)).mono ?_
  rintro e w15 ⟨rfl, mk⟩
  have BEL : Hid (Below w.heap.size w w15) := Vg.out.bel mk.only BEL.out (by have := CHw1.out; have := CHw2.out; have := CHw3.out; have := CHw4.out; have := CHw5.out; have := CHw6.out; have := CHw7.out; have := CHw8.out; have := CHw9.out; have := CHw10.out; have := CHw11.out; have := CHw12.out; have := CHw13.out; have := CHw14.out; omega)
  have Nw : Hid (VP w15 w2.heap.size w3.heap.size aw lw (flat (ps.join qs)) Fw) := Vw.out.only Vg.out mk.only (.inl (by have := CHw1.out; have := CHw2.out; have := CHw3.out; have := CHw4.out; have := CHw5.out; have := CHw6.out; have := CHw7.out; have := CHw8.out; have := CHw9.out; have := CHw10.out; have := CHw11.out; have := CHw12.out; have := CHw13.out; have := CHw14.out; omega))
  have Nx0 : Hid (VP w15 w3.heap.size w4.heap.size ax0 lx0 (marksI 1 (2 * lx0)) Fx0) := Vx0.out.only Vg.out mk.only (.inl (by have := CHw1.out; have := CHw2.out; have := CHw3.out; have := CHw4.out; have := CHw5.out; have := CHw6.out; have := CHw7.out; have := CHw8.out; have := CHw9.out; have := CHw10.out; have := CHw11.out; have := CHw12.out; have := CHw13.out; have := CHw14.out; omega))
  have Nx1 : Hid (VP w15 w4.heap.size w5.heap.size ax1 lx1 (marksI (1 + 2 * lx0) (2 * lx1)) Fx1) := Vx1.out.only Vg.out mk.only (.inl (by have := CHw1.out; have := CHw2.out; have := CHw3.out; have := CHw4.out; have := CHw5.out; have := CHw6.out; have := CHw7.out; have := CHw8.out; have := CHw9.out; have := CHw10.out; have := CHw11.out; have := CHw12.out; have := CHw13.out; have := CHw14.out; omega))
  have Ng : Hid (VP w15 w5.heap.size w6.heap.size ag lg (marksI 1 (2 * lg)) Fg) := Vg.out.mark mk
  have Vw : Hid (VP w15 w2.heap.size w3.heap.size aw lw (flat (ps.join qs)) Fw) := Nw.out
  have Vx0 : Hid (VP w15 w3.heap.size w4.heap.size ax0 lx0 (marksI 1 (2 * lx0)) Fx0) := Nx0.out
  have Vx1 : Hid (VP w15 w4.heap.size w5.heap.size ax1 lx1 (marksI (1 + 2 * lx0) (2 * lx1)) Fx1) := Nx1.out
  have Vg : Hid (VP w15 w5.heap.size w6.heap.size ag lg (marksI 1 (2 * lg)) Fg) := Ng.out
  have CHw15 : Hid (w14.heap.size ≤ w15.heap.size) := mk.only.size'
  clear mk Nw Nx0 Nx1 Ng
  go_wp2_with fail
  refine (heldSpanS_any _ _ _ Fg 1 _ Vg.out.rd (by omega) (by have := Lg.out.2.1; omega)).mono ?_
  rintro e w16 ⟨rfl, hb⟩
  have BEL : Hid (Below w.heap.size w w16) := Below.next BEL.out hb
  have Vw : Hid (VP w16 w2.heap.size w3.heap.size aw lw (flat (ps.join qs)) Fw) := Vw.out.below hb
  have Vx0 : Hid (VP w16 w3.heap.size w4.heap.size ax0 lx0 (marksI 1 (2 * lx0)) Fx0) := Vx0.out.below hb
  have Vx1 : Hid (VP w16 w4.heap.size w5.heap.size ax1 lx1 (marksI (1 + 2 * lx0) (2 * lx1)) Fx1) := Vx1.out.below hb
  have Vg : Hid (VP w16 w5.heap.size w6.heap.size ag lg (marksI 1 (2 * lg)) Fg) := Vg.out.below hb
  have SZ : Hid (w15.heap.size ≤ w16.heap.size) := hb.size
  have CHw16 : Hid (w15.heap.size ≤ w16.heap.size) := SZ
  clear SZ
  clear hb
  clear Vx0 Lx0 Kx0
  clear Vx1 Lx1 Kx1
  go_wp2_with fail
  refine (toSpanS_cap _ _ _ ps F0 _ (HH.out.1.below BEL.out) HF0.out).mono ?_
  rintro e w17 ⟨at0, lt0, ct0, Ft0, rfl, rr, oo, hb, nn, cc⟩
  have BEL : Hid (Below w.heap.size w w17) := Below.next BEL.out hb
  have Vw : Hid (VP w17 w2.heap.size w3.heap.size aw lw (flat (ps.join qs)) Fw) := Vw.out.below hb
  have Vg : Hid (VP w17 w5.heap.size w6.heap.size ag lg (marksI 1 (2 * lg)) Fg) := Vg.out.below hb
  have SZ : Hid (w16.heap.size ≤ w17.heap.size) := hb.size
  have CHw17 : Hid (w16.heap.size ≤ w17.heap.size) := SZ
  clear SZ
  have Kt0 : Hid (lt0 ≤ ct0) := cc
  clear cc
  have Vt0 : Hid (VP w17 w16.heap.size w17.heap.size at0 lt0 (flat (ps)) Ft0) := VP.of rr oo
  have Lt0 : Hid ((ps).length = lt0 ∧ lt0 ≤ 2097152 ∧ (at0 = none → ct0 = 0)) := ⟨rr.length, by rw [← rr.length]; have := HF0.out; have := HLEN.out.1; omega, nn⟩
  clear rr oo hb nn
  go_wp2_with fail
  refine (toSpanS_cap _ _ _ qs F1 _ (HH.out.2.below BEL.out) HF1.out).mono ?_
  rintro e w18 ⟨at1, lt1, ct1, Ft1, rfl, rr, oo, hb, nn, cc⟩
  have BEL : Hid (Below w.heap.size w w18) := Below.next BEL.out hb
  have Vw : Hid (VP w18 w2.heap.size w3.heap.size aw lw (flat (ps.join qs)) Fw) := Vw.out.below hb
  have Vg : Hid (VP w18 w5.heap.size w6.heap.size ag lg (marksI 1 (2 * lg)) Fg) := Vg.out.below hb
  have Vt0 : Hid (VP w18 w16.heap.size w17.heap.size at0 lt0 (flat (ps)) Ft0) := Vt0.out.below hb
  have SZ : Hid (w17.heap.size ≤ w18.heap.size) := hb.size
  have CHw18 : Hid (w17.heap.size ≤ w18.heap.size) := SZ
  clear SZ
  have Kt1 : Hid (lt1 ≤ ct1) := cc
  clear cc
  have Vt1 : Hid (VP w18 w17.heap.size w18.heap.size at1 lt1 (flat (qs)) Ft1) := VP.of rr oo
  have Lt1 : Hid ((qs).length = lt1 ∧ lt1 ≤ 2097152 ∧ (at1 = none → ct1 = 0)) := ⟨rr.length, by rw [← rr.length]; have := HF1.out; have := HLEN.out.2; omega, nn⟩
  clear rr oo hb nn
  go_wp2_with fail
  refine (joinImpl_any _ _ _ _ _ _ ps qs Ft0 Ft1 _ (Vt0.out.rdp Lt0.out.1) (Vt1.out.rdp Lt1.out.1) (by have := Lt0.out.1; have := Lt1.out.1; have := HLEN.out; have := HSUM.out; omega) Kt0.out).mono ?_
  rintro e w19 ⟨ah, lh, ch, Fh, rfl, rr, oo, hb, nn⟩
  have BEL : Hid (Below w.heap.size w w19) := Below.next BEL.out hb
  have Vw : Hid (VP w19 w2.heap.size w3.heap.size aw lw (flat (ps.join qs)) Fw) := Vw.out.below hb
  have Vg : Hid (VP w19 w5.heap.size w6.heap.size ag lg (marksI 1 (2 * lg)) Fg) := Vg.out.below hb
  have Vt0 : Hid (VP w19 w16.heap.size w17.heap.size at0 lt0 (flat (ps)) Ft0) := Vt0.out.below hb
  have Vt1 : Hid (VP w19 w17.heap.size w18.heap.size at1 lt1 (flat (qs)) Ft1) := Vt1.out.below hb
  have SZ : Hid (w18.heap.size ≤ w19.heap.size) := hb.size
  have CHw19 : Hid (w18.heap.size ≤ w19.heap.size) := SZ
  clear SZ
  have Vh : Hid (VP w19 w18.heap.size w19.heap.size ah lh (flat (ps.join qs)) Fh) := VP.of rr oo
  have Lh : Hid ((ps.join qs).length = lh ∧ lh ≤ 2097152 ∧ (ah = none → ch = 0)) := ⟨rr.length, by rw [← rr.length]; have := join_length ps qs; have := HLEN.out; have := HSUM.out; omega, nn⟩
  clear rr oo hb nn
  rw [← HDD.out]
  go_wp2_with fail
  refine (eqSpanS_any _ _ _ _ _ _ (ps.join qs) (ps.join qs) Fh Fw _ (Vh.out.rdp Lh.out.1) (Vw.out.rdp Lw.out.1) (by have := Lh.out.2.1; omega) (by have := Lw.out.2.1; omega)).mono ?_
  rintro e w20 ⟨rfl, hb⟩
  have BEL : Hid (Below w.heap.size w w20) := Below.next BEL.out hb
  have Vw : Hid (VP w20 w2.heap.size w3.heap.size aw lw (flat (ps.join qs)) Fw) := Vw.out.below hb
  have Vg : Hid (VP w20 w5.heap.size w6.heap.size ag lg (marksI 1 (2 * lg)) Fg) := Vg.out.below hb
  have Vt0 : Hid (VP w20 w16.heap.size w17.heap.size at0 lt0 (flat (ps)) Ft0) := Vt0.out.below hb
  have Vt1 : Hid (VP w20 w17.heap.size w18.heap.size at1 lt1 (flat (qs)) Ft1) := Vt1.out.below hb
  have Vh : Hid (VP w20 w18.heap.size w19.heap.size ah lh (flat (ps.join qs)) Fh) := Vh.out.below hb
  have SZ : Hid (w19.heap.size ≤ w20.heap.size) := hb.size
  have CHw20 : Hid (w19.heap.size ≤ w20.heap.size) := SZ
  clear SZ
  clear hb
  rw [show decide ((ps.join qs) = (ps.join qs)) = true from decT rfl]
  go_wp2_with fail
  refine (heldSpanS_any _ _ _ Fg 1 _ Vg.out.rd (by omega) (by have := Lg.out.2.1; omega)).mono ?_
  rintro e w21 ⟨rfl, hb⟩
  have BEL : Hid (Below w.heap.size w w21) := Below.next BEL.out hb
  have Vw : Hid (VP w21 w2.heap.size w3.heap.size aw lw (flat (ps.join qs)) Fw) := Vw.out.below hb
  have Vg : Hid (VP w21 w5.heap.size w6.heap.size ag lg (marksI 1 (2 * lg)) Fg) := Vg.out.below hb
  have Vt0 : Hid (VP w21 w16.heap.size w17.heap.size at0 lt0 (flat (ps)) Ft0) := Vt0.out.below hb
  have Vt1 : Hid (VP w21 w17.heap.size w18.heap.size at1 lt1 (flat (qs)) Ft1) := Vt1.out.below hb
  have Vh : Hid (VP w21 w18.heap.size w19.heap.size ah lh (flat (ps.join qs)) Fh) := Vh.out.below hb
  have SZ : Hid (w20.heap.size ≤ w21.heap.size) := hb.size
  have CHw21 : Hid (w20.heap.size ≤ w21.heap.size) := SZ
  clear SZ
  clear hb
  go_wp2
  go_ret
  exact ⟨rfl, BEL.out⟩
set_option maxRecDepth 100000 in
theorem lifted (os : Os) (started : os.Started) (H : Type) (enc : TypeId × Value → H) :
    ReturnsInHanded {} Try.checked os 3 .any (Rows.fnExactSetJoinSpec.pre6 enc Try.prog Try.f3 Rows.fnExactSetJoinRow.domain false) (Rows.fnExactSetJoinSpec.post enc Try.prog Try.f3 false true false false) := by
  refine returnsInHanded_of_change (C := Try.checked) own started (by kernel_rfl) Try.func3
    (ChangeSpec.witness6 (enc := enc) (C := Try.checked) false ⟨#[], #[.slice none 0 0, .slice none 0 0], []⟩ 8 (by kernel_rfl) (by kernel_rfl) (by kernel_rfl) (by kernel_rfl)) ?_
  intro W base args ds gs before hval0 hW hcnd _
  have hval : ∀ (j : Nat) t v, Try.f3.params[j]? = some t → args[j]? = some v → Value.okWide Try.prog W .any base t v := hval0
  have hW' := hW
  obtain ⟨p, q, hA0, hV, rfl, hfz, hnd⟩ := hW
  have hA : DataW.TrodAll enc Try.prog W 0 (fun _ => true) true Try.f3.params.toList args.toList ds p := hA0
  rw [Try.params3] at hA hval
  obtain ⟨v0, vs0, d0, ds0, p0, q0, hargs0, rfl, rfl, h0, r0⟩ := trodAll_cons hA
  obtain ⟨v1, vs1, d1, ds1, p1, q1, hargs1, rfl, rfl, h1, r1⟩ := trodAll_cons r0
  obtain ⟨rfl, rfl, rfl⟩ := trodAll_nil r1
  obtain rfl : args = #[v0, v1] := by cases args; simp_all
  obtain ⟨rfl, rfl⟩ := trodVars_none hV
  have k0 := h0
  have lt0 : ∀ x ∈ p0, x.block < W.heap.size := by obtain ⟨m, hm⟩ := k0; exact DataW.trod_lt m _ _ _ hm
  obtain ⟨a0, n0, c0, ps0, F0, rfl, hR0, hb0, _⟩ := open_spans (hval 0 22 v0 rfl rfl) h0
  have k1 := h1
  have lt1 : ∀ x ∈ p1, x.block < W.heap.size := by obtain ⟨m, hm⟩ := k1; exact DataW.trod_lt m _ _ _ hm
  obtain ⟨a1, n1, c1, ps1, F1, rfl, hR1, hb1, _⟩ := open_spans (hval 1 22 v1 rfl rfl) h1
  clear hA0 hval0
  refine (walk a0 n0 c0 ps0 F0 a1 n1 c1 ps1 F1 W hR0 hb0 hR1 hb1).mono fun e W' ⟨he, bel⟩ => ?_
  subst he
  exact ⟨_, rfl, _, _, _, [], _, [], hW', trodAll_mk1 (shut_bool Try.underlying4 _), (trodAll_cons_mk (Below.trod sp_laidOut (by kernel_rfl) (of_decide_eq_true (by kernel_rfl)) k0 bel lt0) (trodAll_cons_mk (Below.trod sp_laidOut (by kernel_rfl) (of_decide_eq_true (by kernel_rfl)) k1 bel lt1) trodAll_mk0)), rfl, bel.frame _, fun h => by cases h⟩
theorem over : Rows.fnExactSetJoinRow.holds Try.pinned (OpenSpec.ofChange Rows.fnExactSetJoinSpec) :=
  OpenClaim.holds_of_wide 3 Try.f3 rfl rfl rfl rfl rfl rfl rfl ⟨rfl, rfl, rfl, rfl, rfl⟩ rfl rfl rfl rfl rfl (by kernel_rfl) Try.func3 (by kernel_rfl)
    (of_decide_eq_true (by kernel_rfl)) (by unfold Func.isWrapper; first | (rw [if_pos (by decide +kernel)]; kernel_rfl) | (rw [if_neg (by decide +kernel)]; exact ⟨rfl, rfl⟩))
    (fun os started H enc _ => lifted os started H enc)
theorem proved : Rows.FnExactSetJoinSaid := over
#print axioms proved
end Go.Proofs.Ytjiciigaeeibgao.fnExactSetJoin
