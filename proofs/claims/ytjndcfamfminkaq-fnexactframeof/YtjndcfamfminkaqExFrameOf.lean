/- For every byte slice (no condition): laws.FnExactFrameOf returns true, and its argument reads afterwards as it did: the program's FrameOf answers as the model's, writes nothing into its argument, and its answer owns its memory. -/
import Derived.Test.YtjndcfamfminkaqB1
import Derived.Test.YtjndcfamfminkaqB4
import Derived.Test.YtjndcfamfminkaqRows
import Derived.WalkKit
import Derived.ProofKit
import Derived.OpenShut
import Derived.ShutString
import Derived.ChangeOld
import Derived.Below
namespace Go.Proofs.Ytjndcfamfminkaq.fnExactFrameOf
open Go.ChangeShapes Go.WideShapes Go.ChangeAt Go.RowKit
open Go.ChangeMaps (open_string shut_string)
set_option linter.unusedVariables false

theorem own : ownKnob Try.prog.godebug = none := by kernel_rfl
theorem laidOut : laidOutB Try.prog = true := by kernel_rfl

/-- WHAT THE WALK IS TOLD OF A SLICE OF INTEGERS THAT CAME IN: it is nil; or it leads to a row of 'cap' cells, the numbers 'zs' (the first 'len' are its elements, the rest its spare room), each fitting its kind. -/
def IsRow (k : IntKind) (w : World) (a : Option Addr) (len cap : Nat) (zs : List Int) : Prop :=
  (a = none ∧ len = 0 ∧ cap = 0 ∧ zs = []) ∨
  ∃ x, a = some x ∧ len ≤ cap ∧ cap ≤ maxLen ∧ zs.length = cap ∧ (∀ i, i < zs.length → w.cell? (x.add i) = some (.int k (zs.getD i 0))) ∧ ∀ n ∈ zs, (Lit.int k n).wf = true

theorem newF {w w' : World} {R : Fr → Bool → Prop} {e : Ending} (h : NewFrR w R e w') : ∃ v f d X, e = .returned (.tuple #[v, .bool d]) ∧ RdF w' v f X ∧ Own w.heap.size w' X ∧ Below w.heap.size w w' ∧ R f d := by
  obtain ⟨v, f, d, F, G, he, rf, oF, oG, ap, b, r⟩ := h
  exact ⟨v, f, d, F ++ G, he, ⟨F, G, rfl, rf⟩, oF.app oG ap, b, r⟩
set_option maxRecDepth 200000 in
theorem frameOfSpecF_any (a : Option Addr) (len cap : Nat) (zs : List Int) (w : World) (h : RdB w a len zs) (hlen : len ≤ 1048576) (hcap : len ≤ cap) :
    Calls Try.prog 28 #[.slice a len cap] w fun e w' => ∃ v f d X, e = .returned (.tuple #[v, .bool d]) ∧ RdF w' v f X ∧ Own w.heap.size w' X ∧ Below w.heap.size w w' ∧ FrIs zs f d :=
  (frameOfSpec_any a len cap zs w h hlen hcap).mono fun _ _ h => newF h
set_option maxRecDepth 200000 in
theorem frameOfImplF_any (a : Option Addr) (len cap : Nat) (zs : List Int) (w : World) (h : RdB w a len zs) (hlen : len ≤ 1048576) (hcap : len ≤ cap) (ha : a = none → cap = 0) :
    Calls Try.prog 29 #[.slice a len cap] w fun e w' => ∃ v f d X, e = .returned (.tuple #[v, .bool d]) ∧ RdF w' v f X ∧ Own w.heap.size w' X ∧ Below w.heap.size w w' ∧ FrIs zs f d :=
  (frameOfImpl_any a len cap zs w h hlen hcap ha).mono fun _ _ h => newF h
theorem rd_of {w : World} {a : Option Addr} {len cap : Nat} {zs : List Int} (h : IsRow .u8 w a len cap zs) : RdB w a len (zs.take len) := by
  rcases h with ⟨rfl, rfl, rfl, rfl⟩ | ⟨x, rfl, hl, _, hz, hcell, hwz⟩
  · exact RdB.nil
  · refine ⟨by simp; omega, fun n hn => byte_wf (hwz n (List.mem_of_mem_take hn)), ?_⟩
    by_cases h0 : len = 0
    · exact .inl h0
    · obtain ⟨b, off, spot⟩ := x
      have hspot : spot = none := by simpa [Addr.add] using World.cell?_spot (hcell 0 (by omega))
      subst hspot
      refine .inr ⟨b, off, rfl, fun i hi => ?_⟩
      have := hcell i (by omega)
      rw [add_plain] at this
      simpa [List.getElem?_take, hi] using this

set_option maxHeartbeats 8000000 in
set_option maxRecDepth 200000 in
theorem walk (a0 : Option Addr) (len0 cap0 : Nat) (z0 : List Int) (w : World) (w0 : IsRow .u8 w a0 len0 cap0 z0) :
    Calls Try.prog 6 #[.slice a0 len0 cap0] w fun e w' => e = .returned (.bool true) ∧ Below w.heap.size w w' := by
  have hR := rd_of w0
  generalize z0.take len0 = zs at hR
  clear w0
  by_cases hbig : 1048576 < len0
  · go_enter Try.func6, Try.ntmps6
    clear hR
    go_wp2
    go_ret
    exact ⟨rfl, Below.refl _ _⟩
  · have hlen : len0 ≤ 1048576 := by omega
    have HR : Hid (RdB w a0 len0 zs) := hR
    have HLR : Hid (∀ n ∈ zs, 0 ≤ n ∧ n ≤ 255) := hR.range
    have HLZ : Hid (zs.length = len0) := hR.length
    have BEL : Hid (Below w.heap.size w w) := Below.refl _ _
    clear hR
    go_enter Try.func6, Try.ntmps6
    go_wp2_with fail
    refine (toByteS_any a0 len0 cap0 zs _ (HR.out.below BEL.out) hlen).mono ?_
    rintro e w1 ⟨rfl, hown, hb⟩
    have BEL : Hid (Below w.heap.size w w1) := Below.next BEL.out hb
    have TB1 : Hid (w1.ownsRow w.heap.size 5 1 (.slice (some ⟨w.heap.size, 0, none⟩) len0 len0) len0 (zs.map (Value.int .u8)) ∧ w.heap.size ≤ w1.heap.size) := ⟨hown, hb.size⟩
    clear hown hb
    go_wp2_with fail
    refine (frameOfSpecF_any _ len0 len0 zs _ (RdB.of_own TB1.out.1 HLR.out) hlen (Nat.le_refl _)).mono ?_
    rintro e w2 ⟨vv, s, dd, wX, rfl, rr, oo, bz, hIs⟩
    have HIS : Hid (FrIs zs s dd) := hIs
    have HSZ : Hid (s.taken.length + s.item.sk.size ≤ 1048576) := frIs_size hIs
    have HF : Hid (s.fits) := Fr.fits_sz HSZ.out
    have HMG : Hid (0 ≤ s.many ∧ s.many ≤ 4194304) := Fr.many_fits HSZ.out
    have BEL : Hid (Below w.heap.size w w2) := Below.next BEL.out bz
    obtain ⟨cw, rfl, szw, onw⟩ := rr.cells
    have TT : Hid (RdF w2 (.agg cw) s wX ∧ Own w1.heap.size w2 wX ∧ Below w1.heap.size w1 w2 ∧ cw.size = 16 ∧ cw.all (·.oneCell') = true) := ⟨rr, oo, bz, szw, onw⟩
    clear rr oo bz szw onw hIs
    go_wp2_with (first | go_skip | (with_reducible refine stopLoad 51 rfl ?_) | (with_reducible refine stopStore 51 rfl ?_))
    refine store_fresh 51 w2.heap.size rfl #[.int .i64 0, .int .i64 0, .int .i64 0, .int .i64 0, .slice none 0 0, .int .i64 0, .int .i64 0, .int .i64 0, .int .i64 0, .int .i64 0, .int .i64 0, .int .i64 0, .int .i64 0, .slice none 0 0, .slice none 0 0, .slice none 0 0] cw 51 rfl rfl rfl rfl (frSize TT.out.2.2.2.1) TT.out.2.2.2.1.symm TT.out.2.2.2.2 ?_
    intro w3 hg hb
    have BEL : Hid (Below w.heap.size w w3) := Below.next BEL.out hb
    have Vw : Hid (VarF w3 w1.heap.size w3.heap.size w2.heap.size cw s wX) := VarF.fresh TT.out.1 TT.out.2.1 TT.out.2.2.1 TT.out.2.2.2.1 hg hb
    have Ow : Hid (w1.heap.size ≤ w3.heap.size) := by have := TT.out.2.2.1.size; have := hb.size; show _ ≤ _; omega
    clear hg hb TT
    have L1 : Hid (w.heap.size ≤ w1.heap.size) := TB1.out.2
    clear TB1
    have hne : (dd != dd) = false := by simp
    go_wp2_with fail
    refine (toByteS_any a0 len0 cap0 zs _ (HR.out.below BEL.out) hlen).mono ?_
    rintro e w4 ⟨rfl, hown, hb⟩
    have BEL : Hid (Below w.heap.size w w4) := Below.next BEL.out hb
    have Vw : Hid (VarF w4 w1.heap.size w3.heap.size w2.heap.size cw s wX) := Vw.out.below hb
    have TB2 : Hid (w4.ownsRow w3.heap.size 5 1 (.slice (some ⟨w3.heap.size, 0, none⟩) len0 len0) len0 (zs.map (Value.int .u8)) ∧ w3.heap.size ≤ w4.heap.size) := ⟨hown, hb.size⟩
    clear hown hb
    have RX : Hid (RowB w4 w3.heap.size w4.heap.size (.slice (some ⟨w3.heap.size, 0, none⟩) len0 len0) zs) := RowB.fresh (by rw [HLZ.out]; exact TB2.out.1)
    have L4 : Hid (w3.heap.size ≤ w4.heap.size) := TB2.out.2
    go_wp2_with fail
    refine (frameOfImplF_any _ len0 len0 zs _ (RdB.of_own TB2.out.1 HLR.out) hlen (Nat.le_refl _) (by intro h; cases h)).mono ?_
    rintro e w5 ⟨vv, s2, dd2, gX, rfl, rr, oo, bz, hIs⟩
    obtain ⟨e1, e2⟩ := HIS.out.unique hIs
    subst e1
    subst e2
    clear TB2
    have BEL : Hid (Below w.heap.size w w5) := Below.next BEL.out bz
    have Vw : Hid (VarF w5 w1.heap.size w3.heap.size w2.heap.size cw s wX) := Vw.out.below bz
    have RX : Hid (RowB w5 w3.heap.size w4.heap.size (.slice (some ⟨w3.heap.size, 0, none⟩) len0 len0) zs) := RX.out.below bz
    obtain ⟨cg, rfl, szg, ong⟩ := rr.cells
    have TT : Hid (RdF w5 (.agg cg) s gX ∧ Own w4.heap.size w5 gX ∧ Below w4.heap.size w4 w5 ∧ cg.size = 16 ∧ cg.all (·.oneCell') = true) := ⟨rr, oo, bz, szg, ong⟩
    clear rr oo bz szg ong hIs
    go_wp2_with (first | go_skip | (with_reducible refine stopLoad 51 rfl ?_) | (with_reducible refine stopStore 51 rfl ?_))
    refine store_fresh 51 w5.heap.size rfl #[.int .i64 0, .int .i64 0, .int .i64 0, .int .i64 0, .slice none 0 0, .int .i64 0, .int .i64 0, .int .i64 0, .int .i64 0, .int .i64 0, .int .i64 0, .int .i64 0, .int .i64 0, .slice none 0 0, .slice none 0 0, .slice none 0 0] cg 51 rfl rfl rfl rfl (frSize TT.out.2.2.2.1) TT.out.2.2.2.1.symm TT.out.2.2.2.2 ?_
    intro w6 hg hb
    have BEL : Hid (Below w.heap.size w w6) := Below.next BEL.out hb
    have Vw : Hid (VarF w6 w1.heap.size w3.heap.size w2.heap.size cw s wX) := Vw.out.below hb
    have RX : Hid (RowB w6 w3.heap.size w4.heap.size (.slice (some ⟨w3.heap.size, 0, none⟩) len0 len0) zs) := RX.out.below hb
    have Vg : Hid (VarF w6 w4.heap.size w6.heap.size w5.heap.size cg s gX) := VarF.fresh TT.out.1 TT.out.2.1 TT.out.2.2.1 TT.out.2.2.2.1 hg hb
    have Og : Hid (w4.heap.size ≤ w6.heap.size) := by have := TT.out.2.2.1.size; have := hb.size; show _ ≤ _; omega
    clear hg hb TT
    go_wp2_with (first | go_skip | (with_reducible refine stopLoad 51 rfl ?_) | (with_reducible refine stopStore 51 rfl ?_))
    refine load_any 51 w5.heap.size cg 51 _ Vg.out.blk rfl rfl rfl Try.underlying51 rfl (frSize Vg.out.sz) ?_
    go_wp2_with (first | go_skip | (with_reducible refine stopLoad 51 rfl ?_) | (with_reducible refine stopStore 51 rfl ?_))
    refine load_any 51 w2.heap.size cw 51 _ Vw.out.blk rfl rfl rfl Try.underlying51 rfl (frSize Vw.out.sz) ?_
    go_wp2_with fail
    refine (eqF_any _ _ s s gX wX _ Vg.out.rd Vw.out.rd HF.out.wide HF.out.wide).mono ?_
    rintro e w7 ⟨rfl, hb⟩
    have BEL : Hid (Below w.heap.size w w7) := Below.next BEL.out hb
    have Vw : Hid (VarF w7 w1.heap.size w3.heap.size w2.heap.size cw s wX) := Vw.out.below hb
    have RX : Hid (RowB w7 w3.heap.size w4.heap.size (.slice (some ⟨w3.heap.size, 0, none⟩) len0 len0) zs) := RX.out.below hb
    have Vg : Hid (VarF w7 w4.heap.size w6.heap.size w5.heap.size cg s gX) := Vg.out.below hb
    clear hb
    have hdec : decide (s = s) = true := by simp
    rw [hdec]
    clear hdec
    go_wp2_with fail
    refine (toByteS_any a0 len0 cap0 zs _ (HR.out.below BEL.out) hlen).mono ?_
    rintro e w8 ⟨rfl, hown, hb⟩
    have BEL : Hid (Below w.heap.size w w8) := Below.next BEL.out hb
    have Vw : Hid (VarF w8 w1.heap.size w3.heap.size w2.heap.size cw s wX) := Vw.out.below hb
    have RX : Hid (RowB w8 w3.heap.size w4.heap.size (.slice (some ⟨w3.heap.size, 0, none⟩) len0 len0) zs) := RX.out.below hb
    have Vg : Hid (VarF w8 w4.heap.size w6.heap.size w5.heap.size cg s gX) := Vg.out.below hb
    have TB3 : Hid (w8.ownsRow w7.heap.size 5 1 (.slice (some ⟨w7.heap.size, 0, none⟩) len0 len0) len0 (zs.map (Value.int .u8)) ∧ w7.heap.size ≤ w8.heap.size) := ⟨hown, hb.size⟩
    clear hown hb
    go_wp2_with fail
    refine (eqOwn_any _ _ _ _ _ _ zs zs _ RX.out.own TB3.out.1 HLR.out HLR.out (by rw [HLZ.out]; omega) (by omega)).mono ?_
    rintro e w9 ⟨rfl, hb⟩
    have BEL : Hid (Below w.heap.size w w9) := Below.next BEL.out hb
    have Vw : Hid (VarF w9 w1.heap.size w3.heap.size w2.heap.size cw s wX) := Vw.out.below hb
    have RX : Hid (RowB w9 w3.heap.size w4.heap.size (.slice (some ⟨w3.heap.size, 0, none⟩) len0 len0) zs) := RX.out.below hb
    have Vg : Hid (VarF w9 w4.heap.size w6.heap.size w5.heap.size cg s gX) := Vg.out.below hb
    clear hb TB3
    have hdec : decide (zs = zs) = true := by simp
    rw [hdec]
    clear hdec
    have OR : Hid (w.heap.size ≤ w1.heap.size ∧ w1.heap.size ≤ w3.heap.size ∧ w3.heap.size ≤ w4.heap.size ∧ w4.heap.size ≤ w6.heap.size) := ⟨L1.out, Ow.out, L4.out, Og.out⟩
    go_wp2_with fail
    refine (markByteS_any _ _ _ _ 1 _ RX.out.own (by omega) (by rw [HLZ.out]; omega)).mono ?_
    rintro e w10 ⟨rfl, _, g4⟩
    have mo := only_grown g4
    have BEL : Hid (Below w.heap.size w w10) := mo.belowOf BEL.out RX.out.geRow (by have := OR.out; omega)
    have Vw : Hid (VarF w10 w1.heap.size w3.heap.size w2.heap.size cw s wX) := Vw.out.only' mo RX.out.ltRow RX.out.geRow (.inl (Nat.le_refl _))
    have Vg : Hid (VarF w10 w4.heap.size w6.heap.size w5.heap.size cg s gX) := Vg.out.only' mo RX.out.ltRow RX.out.geRow (.inr (Nat.le_refl _))
    obtain ⟨ki, hki⟩ : ∃ k : Int, k = 1 + (zs.length : Int) := ⟨_, rfl⟩
    rw [← hki]
    have hki0 : 0 ≤ ki := by omega
    have hkid : decide (ki < 0) = false := dec_false (by omega)
    clear hki g4 mo RX
    go_wp2_with (first | go_skip | (with_reducible refine stopLoad 51 rfl ?_) | (with_reducible refine stopStore 51 rfl ?_))
    refine load_any 51 w5.heap.size cg 51 _ Vg.out.blk rfl rfl rfl Try.underlying51 rfl (frSize Vg.out.sz) ?_
    go_wp2_with (first | go_skip | (with_reducible refine stopLoad 51 rfl ?_) | (with_reducible refine stopStore 51 rfl ?_))
    refine load_any 51 w2.heap.size cw 51 _ Vw.out.blk rfl rfl rfl Try.underlying51 rfl (frSize Vw.out.sz) ?_
    go_wp2_with fail
    refine (eqF_any _ _ s s gX wX _ Vg.out.rd Vw.out.rd HF.out.wide HF.out.wide).mono ?_
    rintro e w11 ⟨rfl, hb⟩
    have BEL : Hid (Below w.heap.size w w11) := Below.next BEL.out hb
    have Vw : Hid (VarF w11 w1.heap.size w3.heap.size w2.heap.size cw s wX) := Vw.out.below hb
    have Vg : Hid (VarF w11 w4.heap.size w6.heap.size w5.heap.size cg s gX) := Vg.out.below hb
    clear hb
    have hdec : decide (s = s) = true := by simp
    rw [hdec]
    clear hdec
    go_wp2_with (first | go_skip | (with_reducible refine stopLoad 51 rfl ?_) | (with_reducible refine stopStore 51 rfl ?_))
    refine load_any 51 w5.heap.size cg 51 _ Vg.out.blk rfl rfl rfl Try.underlying51 rfl (frSize Vg.out.sz) ?_
    go_wp2_with fail
    refine (markF_any w4.heap.size _ s gX 1 _ Vg.out.rd Vg.out.own HF.out.wide (by omega) (by have := HMG.out; omega)).mono ?_
    rintro e w12 ⟨rfl, mk⟩
    have BEL : Hid (Below w.heap.size w w12) := Vg.out.bel mk.only BEL.out (by have := OR.out; omega)
    have Nw : Hid (VarF w12 w1.heap.size w3.heap.size w2.heap.size cw s wX) := Vw.out.only Vg.out mk.only (.inl (by have := OR.out; omega))
    have Ng : Hid (VarF w12 w4.heap.size w6.heap.size w5.heap.size cg (s.marked 1) gX) := Vg.out.mark mk
    have Vw : Hid (VarF w12 w1.heap.size w3.heap.size w2.heap.size cw s wX) := Nw.out
    have Vg : Hid (VarF w12 w4.heap.size w6.heap.size w5.heap.size cg (s.marked 1) gX) := Ng.out
    clear mk Nw Ng
    obtain ⟨km, hkm⟩ : ∃ k, k = 1 + s.many := ⟨_, rfl⟩
    rw [← hkm]
    have HKM : Hid (km = 1 + s.many) := hkm
    have hkm0 : 0 ≤ km := by have := HMG.out; omega
    have hkme : (km != km) = false := by simp
    clear hkm
    go_wp2_with (first | go_skip | (with_reducible refine stopLoad 51 rfl ?_) | (with_reducible refine stopStore 51 rfl ?_))
    refine load_any 51 w5.heap.size cg 51 _ Vg.out.blk rfl rfl rfl Try.underlying51 rfl (frSize Vg.out.sz) ?_
    go_wp2_with fail
    refine (heldF_any _ s gX 1 _ Vg.out.rd HF.out.wide (by omega) (by have := HMG.out; omega)).mono ?_
    rintro e w13 ⟨rfl, hb⟩
    have BEL : Hid (Below w.heap.size w w13) := Below.next BEL.out hb
    have Vw : Hid (VarF w13 w1.heap.size w3.heap.size w2.heap.size cw s wX) := Vw.out.below hb
    have Vg : Hid (VarF w13 w4.heap.size w6.heap.size w5.heap.size cg (s.marked 1) gX) := Vg.out.below hb
    clear hb
    rw [← HKM.out]
    go_wp2_with fail
    refine (toByteS_any a0 len0 cap0 zs _ (HR.out.below BEL.out) hlen).mono ?_
    rintro e w14 ⟨rfl, hown, hb⟩
    have BEL : Hid (Below w.heap.size w w14) := Below.next BEL.out hb
    have Vw : Hid (VarF w14 w1.heap.size w3.heap.size w2.heap.size cw s wX) := Vw.out.below hb
    have Vg : Hid (VarF w14 w4.heap.size w6.heap.size w5.heap.size cg (s.marked 1) gX) := Vg.out.below hb
    have TB4 : Hid (w14.ownsRow w13.heap.size 5 1 (.slice (some ⟨w13.heap.size, 0, none⟩) len0 len0) len0 (zs.map (Value.int .u8)) ∧ w13.heap.size ≤ w14.heap.size) := ⟨hown, hb.size⟩
    clear hown hb
    go_wp2_with fail
    refine (frameOfImplF_any _ len0 len0 zs _ (RdB.of_own TB4.out.1 HLR.out) hlen (Nat.le_refl _) (by intro h; cases h)).mono ?_
    rintro e w15 ⟨vv, s3, dd3, hX, rfl, rr, oo, bz, hIs⟩
    obtain ⟨e1, e2⟩ := HIS.out.unique hIs
    subst e1
    subst e2
    clear TB4
    have BEL : Hid (Below w.heap.size w w15) := Below.next BEL.out bz
    have Vw : Hid (VarF w15 w1.heap.size w3.heap.size w2.heap.size cw s wX) := Vw.out.below bz
    have Vg : Hid (VarF w15 w4.heap.size w6.heap.size w5.heap.size cg (s.marked 1) gX) := Vg.out.below bz
    obtain ⟨ch, rfl, szh, onh⟩ := rr.cells
    have TT : Hid (RdF w15 (.agg ch) s hX ∧ Own w14.heap.size w15 hX ∧ Below w14.heap.size w14 w15 ∧ ch.size = 16 ∧ ch.all (·.oneCell') = true) := ⟨rr, oo, bz, szh, onh⟩
    clear rr oo bz szh onh hIs
    go_wp2_with (first | go_skip | (with_reducible refine stopLoad 51 rfl ?_) | (with_reducible refine stopStore 51 rfl ?_))
    refine store_fresh 51 w15.heap.size rfl #[.int .i64 0, .int .i64 0, .int .i64 0, .int .i64 0, .slice none 0 0, .int .i64 0, .int .i64 0, .int .i64 0, .int .i64 0, .int .i64 0, .int .i64 0, .int .i64 0, .int .i64 0, .slice none 0 0, .slice none 0 0, .slice none 0 0] ch 51 rfl rfl rfl rfl (frSize TT.out.2.2.2.1) TT.out.2.2.2.1.symm TT.out.2.2.2.2 ?_
    intro w16 hg hb
    have BEL : Hid (Below w.heap.size w w16) := Below.next BEL.out hb
    have Vw : Hid (VarF w16 w1.heap.size w3.heap.size w2.heap.size cw s wX) := Vw.out.below hb
    have Vg : Hid (VarF w16 w4.heap.size w6.heap.size w5.heap.size cg (s.marked 1) gX) := Vg.out.below hb
    have Vh : Hid (VarF w16 w14.heap.size w16.heap.size w15.heap.size ch s hX) := VarF.fresh TT.out.1 TT.out.2.1 TT.out.2.2.1 TT.out.2.2.2.1 hg hb
    have Oh : Hid (w14.heap.size ≤ w16.heap.size) := by have := TT.out.2.2.1.size; have := hb.size; show _ ≤ _; omega
    clear hg hb TT
    go_wp2_with (first | go_skip | (with_reducible refine stopLoad 51 rfl ?_) | (with_reducible refine stopStore 51 rfl ?_))
    refine load_any 51 w15.heap.size ch 51 _ Vh.out.blk rfl rfl rfl Try.underlying51 rfl (frSize Vh.out.sz) ?_
    go_wp2_with (first | go_skip | (with_reducible refine stopLoad 51 rfl ?_) | (with_reducible refine stopStore 51 rfl ?_))
    refine load_any 51 w2.heap.size cw 51 _ Vw.out.blk rfl rfl rfl Try.underlying51 rfl (frSize Vw.out.sz) ?_
    go_wp2_with fail
    refine (eqF_any _ _ s s hX wX _ Vh.out.rd Vw.out.rd HF.out.wide HF.out.wide).mono ?_
    rintro e w17 ⟨rfl, hb⟩
    have BEL : Hid (Below w.heap.size w w17) := Below.next BEL.out hb
    have Vw : Hid (VarF w17 w1.heap.size w3.heap.size w2.heap.size cw s wX) := Vw.out.below hb
    have Vg : Hid (VarF w17 w4.heap.size w6.heap.size w5.heap.size cg (s.marked 1) gX) := Vg.out.below hb
    have Vh : Hid (VarF w17 w14.heap.size w16.heap.size w15.heap.size ch s hX) := Vh.out.below hb
    clear hb
    have hdec : decide (s = s) = true := by simp
    rw [hdec]
    clear hdec
    go_wp2_with (first | go_skip | (with_reducible refine stopLoad 51 rfl ?_) | (with_reducible refine stopStore 51 rfl ?_))
    refine load_any 51 w5.heap.size cg 51 _ Vg.out.blk rfl rfl rfl Try.underlying51 rfl (frSize Vg.out.sz) ?_
    go_wp2_with fail
    refine (heldF_any _ s gX 1 _ Vg.out.rd HF.out.wide (by omega) (by have := HMG.out; omega)).mono ?_
    rintro e w18 ⟨rfl, hb⟩
    have BEL : Hid (Below w.heap.size w w18) := Below.next BEL.out hb
    have Vw : Hid (VarF w18 w1.heap.size w3.heap.size w2.heap.size cw s wX) := Vw.out.below hb
    have Vg : Hid (VarF w18 w4.heap.size w6.heap.size w5.heap.size cg (s.marked 1) gX) := Vg.out.below hb
    have Vh : Hid (VarF w18 w14.heap.size w16.heap.size w15.heap.size ch s hX) := Vh.out.below hb
    clear hb
    rw [← HKM.out]
    go_wp2
    go_ret
    exact ⟨rfl, BEL.out⟩

set_option maxRecDepth 100000 in
theorem lifted (os : Os) (started : os.Started) (H : Type) (enc : TypeId × Value → H) :
    ReturnsInHanded {} Try.checked os 6 .any (Rows.fnExactFrameOfSpec.pre6 enc Try.prog Try.f6 Rows.fnExactFrameOfRow.domain false) (Rows.fnExactFrameOfSpec.post enc Try.prog Try.f6 false true false false) := by
  refine returnsInHanded_of_change (C := Try.checked) own started (by kernel_rfl) Try.func6
    (ChangeSpec.witness6 (enc := enc) (C := Try.checked) false ⟨#[], #[.slice none 0 0], []⟩ 8 (by kernel_rfl) (by kernel_rfl) (by kernel_rfl) (by kernel_rfl)) ?_
  intro W base args ds gs before hval0 hW hcnd _
  have hval : ∀ (j : Nat) t v, Try.f6.params[j]? = some t → args[j]? = some v → Value.okWide Try.prog W .any base t v := hval0
  have hW' := hW
  obtain ⟨p, q, hA0, hV, rfl, hfz, hnd⟩ := hW
  have hA : DataW.TrodAll enc Try.prog W 0 (fun _ => true) true Try.f6.params.toList args.toList ds p := hA0
  rw [Try.params6] at hA hval
  obtain ⟨v0, vs0, d0, ds0, p0, q0, hargs, rfl, rfl, h0, r0⟩ := trodAll_cons hA
  obtain ⟨rfl, rfl, rfl⟩ := trodAll_nil r0
  obtain rfl : args = #[v0] := by cases args; simp_all
  obtain ⟨rfl, rfl⟩ := trodVars_none hV
  obtain ⟨a0, len0, cap0, rfl⟩ := okWide_slice Try.underlying27 (hval 0 27 v0 rfl rfl)
  have k0 := h0
  have lt0 : ∀ x ∈ p0, x.block < W.heap.size := by obtain ⟨m, hm⟩ := k0; exact DataW.trod_lt m _ _ _ hm
  obtain ⟨z0, w0⟩ : ∃ zs, IsRow .u8 W a0 len0 cap0 zs := by
    obtain ⟨fuel, hf⟩ := h0
    rcases open_ints Try.underlying27 Try.underlying5 (by kernel_rfl) hf with ⟨hcs, _⟩ | ⟨x, l, c, zs, hcs, _, hl, hm, hz, _, hcell, hwz⟩
    · simp [Value.cells] at hcs
      obtain ⟨rfl, rfl, rfl⟩ := hcs
      exact ⟨[], .inl ⟨rfl, rfl, rfl, rfl⟩⟩
    · simp [Value.cells] at hcs
      obtain ⟨rfl, rfl, rfl⟩ := hcs
      exact ⟨zs, .inr ⟨_, rfl, hl, hm, by simpa using hz, hcell, hwz⟩⟩
  clear hA0 hval0
  refine (walk a0 len0 cap0 z0 W w0).mono fun e W' ⟨he, bel⟩ => ?_
  subst he
  exact ⟨_, rfl, _, _, _, [], _, [], hW', trodAll_mk1 (shut_bool Try.underlying4 _), (trodAll_cons_mk (Below.trod laidOut (by kernel_rfl) (of_decide_eq_true (by kernel_rfl)) k0 bel lt0) trodAll_mk0), rfl, bel.frame _, fun h => by cases h⟩

theorem over : Rows.fnExactFrameOfRow.holds Try.pinned (OpenSpec.ofChange Rows.fnExactFrameOfSpec) :=
  OpenClaim.holds_of_wide 6 Try.f6 rfl rfl rfl rfl rfl rfl rfl ⟨rfl, rfl, rfl, rfl, rfl⟩ rfl rfl rfl rfl rfl (by kernel_rfl) Try.func6 (by kernel_rfl)
    (of_decide_eq_true (by kernel_rfl)) (by unfold Func.isWrapper; first | (rw [if_pos (by decide +kernel)]; kernel_rfl) | (rw [if_neg (by decide +kernel)]; exact ⟨rfl, rfl⟩))
    (fun os started H enc _ => lifted os started H enc)

theorem proved : Rows.FnExactFrameOfSaid := over
#print axioms proved
end Go.Proofs.Ytjndcfamfminkaq.fnExactFrameOf
