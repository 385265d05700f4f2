/- For every byte slice (no condition): laws.FnRows returns true, and its argument reads afterwards as it did: what is pushed into a row is in it, joined or not; what all come to is the same; the first goes first. -/
import Derived.Test.YtjnamoppcklomaaGreatLawBase
import Derived.Test.YtjnamoppcklomaaGreatB5
import Derived.Test.YtjnamoppcklomaaGreatB6
import Derived.Test.YtjnamoppcklomaaGreatRwPopI
import Derived.Test.YtjnamoppcklomaaGreatB3
import Derived.Test.YtjnamoppcklomaaGreatB2
import Derived.Test.YtjnamoppcklomaaGreatB4
import Derived.Test.YtjnamoppcklomaaGreatSkLaw
import Derived.Deep.DeepCutAuto
import Derived.Test.YtjnamoppcklomaaGreatRows
import Derived.WalkKit
import Derived.ProofKit
import Derived.OpenShut
import Derived.ShutString
import Derived.ChangeOld
import Derived.Below
set_option maxRecDepth 200000
set_option maxHeartbeats 16000000
namespace Go.Proofs.YtjnamoppcklomaaGreat.fnRows
open Go.ChangeShapes Go.WideShapes Go.ChangeAt Go.RowKit
open Go.ChangeMaps (open_string shut_string)
set_option linter.unusedVariables false
theorem own : ownKnob Tryz.prog.godebug = none := by kernel_rfl
theorem laidOut : laidOutB Tryz.prog = true := by kernel_rfl
def IsRow (k : IntKind) (w : World) (a : Option Addr) (len cap : Nat) (zs : List Int) : Prop :=
 (a = none ∧ len = 0 ∧ cap = 0 ∧ zs = []) ∨
 ∃ x, a = some x ∧ len ≤ cap ∧ cap ≤ maxLen ∧ zs.length = cap ∧ (∀ i, i < zs.length → w.cell? (x.add i) = some (.int k (zs.getD i 0))) ∧ ∀ n ∈ zs, (Lit.int k n).wf = true
theorem walk (a0 : Option Addr) (len0 cap0 : Nat) (z0 : List Int) (w : World) (w0 : IsRow .u8 w a0 len0 cap0 z0) :
 Calls Tryz.prog 3 #[.slice a0 len0 cap0] w fun e w' => e = .returned (.bool true) ∧ Below w.heap.size w w' := by
 have hR0 := rdOf w0
 have hR := hR0.1
 generalize z0.take len0 = zs at hR
 clear w0 hR0
 have HR : Hid (RdB w a0 len0 zs) := hR
 clear hR
 go_enter Tryz.func3, Tryz.ntmps3
 go_wp2_with fail
 refine (big_any a0 len0 cap0 _).mono ?_
 rintro e w1 ⟨rfl, hw1⟩
 have hw1' := hw1.symm
 subst hw1'
 clear hw1
 by_cases hbig : 1048576 < len0
 ·
  have hd : decide ((1048576 : Int) < (len0 : Int)) = true := dec_true (by omega)
  rw [hd]
  clear hd
  go_wp2
  go_ret
  exact ⟨rfl, Below.refl _ _⟩
 have hd : decide ((1048576 : Int) < (len0 : Int)) = false := dec_false (by omega)
 have hlen : len0 ≤ 1048576 := by omega
 rw [hd]
 clear hd hbig
 have BEL : Hid (Below w.heap.size w w) := Below.refl _ _
 go_wp2_with fail
 refine (drawRowPush_any a0 len0 cap0 zs _ HR.out hlen).mono ?_
 rintro e w1 ⟨zv, r, F, ec, t, G, j, rfl, rR, rE, hcs, hco, hl6, hens, hwt, b1⟩
 obtain ⟨ar, nr, kr, rfl, rl, rc⟩ := rR
 have rE' := rE
 obtain ⟨G1, G2, hG, pt, lq, kt, a1, n1, c1, a2, n2, c2, a3, n3, c3, hv, px, _, _⟩ := rE'
 injection hv with hv
 have BEL : Hid (Below w.heap.size w w1) := Below.next BEL.out b1
 have HS : Hid (r.list.length ≤ 6 ∧ ensSize r.list ≤ 2000 ∧ t.wt ≤ 1300) := ⟨hl6, hens, hwt⟩
 have HE : Hid (ec.size = 10 ∧ ec.all (·.oneCell') = true ∧ ec[2]? = some (.slice pt lq kt)) := ⟨hcs, hco, by rw [hv]; rfl⟩
 have HSP : Hid (r.size + t.wt ≤ 1048576) := by show (r.list.length : Int) + ensSize r.list + t.wt ≤ _; omega
 have HX : Hid (RdL enK w1 ar nr r.list F ∧ Capd ar nr kr ∧ RdE w1 (.agg ec) t G ∧ RdP w1 pt lq t.ids G1) := ⟨rl, rc, rE, px⟩
 have HT : Hid (_ ∧ _ ∧ _) := two_made w1 #[.slice none 0 0] #[.int .i64 0, .int .i64 0, .slice none 0 0, .int .i64 0, .int .i64 0, .int .i64 0, .int .i64 0, .slice none 0 0, .slice none 0 0, .slice none 0 0] 26 33
 clear rl rc rE px hcs hco hl6 hens hwt b1 hv hG
 go_wp2_with (first | go_skip | (with_reducible refine stopLoad 26 rfl ?_) | (with_reducible refine stopStore 26 rfl ?_) | (with_reducible refine stopLoad 33 rfl ?_) | (with_reducible refine stopStore 33 rfl ?_))
 refine store_known 26 w1.heap.size _ #[.slice ar nr kr] 26 HT.out.1 rfl rfl rfl rfl infoRwI rfl (by simp [Value.oneCell']) ?_
 go_wp2_with (first | go_skip | (with_reducible refine stopLoad 26 rfl ?_) | (with_reducible refine stopStore 26 rfl ?_) | (with_reducible refine stopLoad 33 rfl ?_) | (with_reducible refine stopStore 33 rfl ?_))
 refine store_known 33 (w1.heap.size + 1) _ ec 33 (HT.out.2.1.setRowOther (by omega)) rfl rfl rfl rfl (enSizeD HE.out.1) HE.out.1.symm HE.out.2.1 ?_
 have hb : Below w1.heap.size w1 ((((w1.alloc (.cells #[.slice none 0 0] 26)).alloc (.cells #[.int .i64 0, .int .i64 0, .slice none 0 0, .int .i64 0, .int .i64 0, .int .i64 0, .int .i64 0, .slice none 0 0, .slice none 0 0, .slice none 0 0] 33)).setRow w1.heap.size #[.slice ar nr kr]).setRow (w1.heap.size + 1) ec) := below_setRow (below_setRow HT.out.2.2 (Nat.le_refl _) _) (by omega) _
 have v1 : Blk ((((w1.alloc (.cells #[.slice none 0 0] 26)).alloc (.cells #[.int .i64 0, .int .i64 0, .slice none 0 0, .int .i64 0, .int .i64 0, .int .i64 0, .int .i64 0, .slice none 0 0, .slice none 0 0, .slice none 0 0] 33)).setRow w1.heap.size #[.slice ar nr kr]).setRow (w1.heap.size + 1) ec) w1.heap.size #[.slice ar nr kr] 26 := HT.out.1.setRow.setRowOther (by omega)
 have v2 : Blk ((((w1.alloc (.cells #[.slice none 0 0] 26)).alloc (.cells #[.int .i64 0, .int .i64 0, .slice none 0 0, .int .i64 0, .int .i64 0, .int .i64 0, .int .i64 0, .slice none 0 0, .slice none 0 0, .slice none 0 0] 33)).setRow w1.heap.size #[.slice ar nr kr]).setRow (w1.heap.size + 1) ec) (w1.heap.size + 1) ec 33 := (HT.out.2.1.setRowOther (by omega)).setRow
 obtain ⟨w2, hW2⟩ : ∃ Z, Z = ((((w1.alloc (.cells #[.slice none 0 0] 26)).alloc (.cells #[.int .i64 0, .int .i64 0, .slice none 0 0, .int .i64 0, .int .i64 0, .int .i64 0, .int .i64 0, .slice none 0 0, .slice none 0 0, .slice none 0 0] 33)).setRow w1.heap.size #[.slice ar nr kr]).setRow (w1.heap.size + 1) ec) := ⟨_, rfl⟩
 rw [← hW2] at hb v1 v2 ⊢
 obtain ⟨gr, hga⟩ : ∃ g, g = w1.heap.size := ⟨_, rfl⟩
 obtain ⟨gt, hgf⟩ : ∃ g, g = w1.heap.size + 1 := ⟨_, rfl⟩
 rw [← hgf] at v2 ⊢
 rw [← hga] at v1 ⊢
 have BEL : Hid (Below w.heap.size w w2) := Below.next BEL.out hb
 have Vr : Hid (VRw w2 gr r ar nr kr F) := ⟨v1, HX.out.1.agree (.below hb HX.out.1.lt), HX.out.2.1⟩
 have Vt : Hid (VEn w2 gt ec t G) := ⟨v2, HX.out.2.2.1.below hb, HE.out.1⟩
 have Vi : Hid (RdP w2 pt lq t.ids G1) := HX.out.2.2.2.below hb
 clear hb v1 v2 hW2 hga hgf HT HX
 obtain ⟨z0, hz⟩ : ∃ z, z = r.push t j := ⟨_, rfl⟩
 have HZ : Hid (r.push t j = z0) := hz.symm
 clear hz
 obtain ⟨x, d⟩ := z0
 go_wp2_with (first | go_skip | (with_reducible refine stopLoad 26 rfl ?_) | (with_reducible refine stopStore 26 rfl ?_) | (with_reducible refine stopLoad 33 rfl ?_) | (with_reducible refine stopStore 33 rfl ?_))
 refine load_known 26 gr #[.slice ar nr kr] 26 _ Vr.out.blk rfl rfl rfl Tryz.underlying26 rfl infoRwI ?_
 go_wp2_with (first | go_skip | (with_reducible refine stopLoad 26 rfl ?_) | (with_reducible refine stopStore 26 rfl ?_) | (with_reducible refine stopLoad 33 rfl ?_) | (with_reducible refine stopStore 33 rfl ?_))
 refine load_any 33 gt ec 33 _ Vt.out.blk rfl rfl rfl Tryz.underlying33 rfl (enSizeD Vt.out.sz) ?_
 go_wp2_with fail
 refine (rowPushImpl_any _ _ r F t G j _ Vr.out.rd Vt.out.rd HSP.out).mono ?_
 intro e w3 hh
 rw [HZ.out] at hh
 obtain ⟨zv, Fx, he, ⟨ax, nx, kx, hzv, rlx, cpx⟩, _, bb⟩ := hh
 subst hzv
 have he : e = .returned (.tuple #[.agg #[.slice ax nx kx], .bool d]) := he
 subst he
 have BEL : Hid (Below w.heap.size w w3) := Below.next BEL.out bb
 have Vr : Hid (VRw w3 gr r ar nr kr F) := Vr.out.below bb
 have Vt : Hid (VEn w3 gt ec t G) := Vt.out.below bb
 have Vi : Hid (RdP w3 pt lq t.ids G1) := Vi.out.below bb
 have Rx : Hid (RdL enK w3 ax nx x.list Fx ∧ Capd ax nx kx) := ⟨rlx, cpx⟩
 clear rlx cpx bb
 go_wp2_with (first | go_skip | (with_reducible refine stopLoad 26 rfl ?_) | (with_reducible refine stopStore 26 rfl ?_) | (with_reducible refine stopLoad 33 rfl ?_) | (with_reducible refine stopStore 33 rfl ?_))
 refine store_fresh 26 w3.heap.size rfl #[.slice none 0 0] #[.slice ax nx kx] 26 rfl rfl rfl rfl infoRwI rfl (by simp [Value.oneCell']) ?_
 intro w4 hg hb
 have BEL : Hid (Below w.heap.size w w4) := Below.next BEL.out hb
 have Vr : Hid (VRw w4 gr r ar nr kr F) := Vr.out.below hb
 have Vt : Hid (VEn w4 gt ec t G) := Vt.out.below hb
 have Vi : Hid (RdP w4 pt lq t.ids G1) := Vi.out.below hb
 obtain ⟨gx, hgv⟩ : ∃ g, g = w3.heap.size := ⟨_, rfl⟩
 rw [← hgv] at hg ⊢
 have Vx : Hid (VRw w4 gx x ax nx kx Fx) := ⟨hg, Rx.out.1.agree (.below hb Rx.out.1.lt), Rx.out.2⟩
 clear hg hb hgv Rx
 go_wp2_with (first | go_skip | (with_reducible refine stopLoad 26 rfl ?_) | (with_reducible refine stopStore 26 rfl ?_) | (with_reducible refine stopLoad 33 rfl ?_) | (with_reducible refine stopStore 33 rfl ?_))
 refine load_known 26 gr #[.slice ar nr kr] 26 _ Vr.out.blk rfl rfl rfl Tryz.underlying26 rfl infoRwI ?_
 go_wp2_with (first | go_skip | (with_reducible refine stopLoad 26 rfl ?_) | (with_reducible refine stopStore 26 rfl ?_) | (with_reducible refine stopLoad 33 rfl ?_) | (with_reducible refine stopStore 33 rfl ?_))
 refine load_any 33 gt ec 33 _ Vt.out.blk rfl rfl rfl Tryz.underlying33 rfl (enSizeD Vt.out.sz) ?_
 go_wp2_with fail
 refine (rowPushSpec_grow _ _ r F t G j _ Vr.out.rd Vt.out.rd HSP.out).mono ?_
 intro e w5 hh
 rw [HZ.out] at hh
 obtain ⟨au, nu, ku, _, _, _, _, he, _, _, bb, _⟩ := hh
 have he : e = .returned (.tuple #[.agg #[.slice au nu ku], .bool d]) := he
 subst he
 have BEL : Hid (Below w.heap.size w w5) := Below.next BEL.out bb
 have Vr : Hid (VRw w5 gr r ar nr kr F) := Vr.out.below bb
 have Vt : Hid (VEn w5 gt ec t G) := Vt.out.below bb
 have Vi : Hid (RdP w5 pt lq t.ids G1) := Vi.out.below bb
 have Vx : Hid (VRw w5 gx x ax nx kx Fx) := Vx.out.below bb
 clear bb
 go_wp2_with (first | go_skip | (with_reducible refine stopLoad 26 rfl ?_) | (with_reducible refine stopStore 26 rfl ?_) | (with_reducible refine stopLoad 33 rfl ?_) | (with_reducible refine stopStore 33 rfl ?_))
 refine store_fresh 26 w5.heap.size rfl #[.slice none 0 0] #[.slice au nu ku] 26 rfl rfl rfl rfl infoRwI rfl (by simp [Value.oneCell']) ?_
 intro w6 hg hb
 have BEL : Hid (Below w.heap.size w w6) := Below.next BEL.out hb
 have Vr : Hid (VRw w6 gr r ar nr kr F) := Vr.out.below hb
 have Vt : Hid (VEn w6 gt ec t G) := Vt.out.below hb
 have Vi : Hid (RdP w6 pt lq t.ids G1) := Vi.out.below hb
 have Vx : Hid (VRw w6 gx x ax nx kx Fx) := Vx.out.below hb
 clear hg hb
 have hdd : (d != d) = false := by simp
 cases d
 ·
  skip
  go_wp2_with (first | go_skip | (with_reducible refine stopLoad 26 rfl ?_) | (with_reducible refine stopStore 26 rfl ?_) | (with_reducible refine stopLoad 33 rfl ?_) | (with_reducible refine stopStore 33 rfl ?_))
  refine load_known 26 gx #[.slice ax nx kx] 26 _ Vx.out.blk rfl rfl rfl Tryz.underlying26 rfl infoRwI ?_
  go_wp2_with (first | go_skip | (with_reducible refine stopLoad 26 rfl ?_) | (with_reducible refine stopStore 26 rfl ?_) | (with_reducible refine stopLoad 33 rfl ?_) | (with_reducible refine stopStore 33 rfl ?_))
  refine load_known 26 gr #[.slice ar nr kr] 26 _ Vr.out.blk rfl rfl rfl Tryz.underlying26 rfl infoRwI ?_
  have hxr : x = r := push_no HZ.out
  have hwr : r.wide := (push_sizes j HSP.out).1.wide
  have hwx : x.wide := by rw [hxr]; exact hwr
  have hdec : decide (x = r) = true := decide_eq_true hxr
  go_wp2_with fail
  refine (rowSameSpec_any _ _ x r Fx F _ Vx.out.rd Vr.out.rd hwx hwr).mono ?_
  rintro e w7 ⟨rfl, bb⟩
  rw [hdec]
  clear hdec hwx hwr hxr
  have BEL : Hid (Below w.heap.size w w7) := Below.next BEL.out bb
  have Vr : Hid (VRw w7 gr r ar nr kr F) := Vr.out.below bb
  have Vt : Hid (VEn w7 gt ec t G) := Vt.out.below bb
  have Vi : Hid (RdP w7 pt lq t.ids G1) := Vi.out.below bb
  have Vx : Hid (VRw w7 gx x ax nx kx Fx) := Vx.out.below bb
  go_wp2
  go_ret
  exact ⟨rfl, BEL.out⟩
 ·
  skip
  obtain ⟨y, M, hf⟩ := rfacts HZ.out HS.out.1 HS.out.2.1 HS.out.2.2
  have HF : Hid (RFacts r t j x y M) := hf
  obtain ⟨N, hN⟩ : ∃ N, N = M.length := ⟨_, rfl⟩
  have HN : Hid (M.length = N ∧ N ≤ 24) := ⟨hN.symm, by rw [hN]; exact hf.len⟩
  clear hf hN hdd
  go_wp2_with (first | go_skip | (with_reducible refine stopLoad 26 rfl ?_) | (with_reducible refine stopStore 26 rfl ?_) | (with_reducible refine stopLoad 33 rfl ?_) | (with_reducible refine stopStore 33 rfl ?_))
  refine load_known 26 gr #[.slice ar nr kr] 26 _ Vr.out.blk rfl rfl rfl Tryz.underlying26 rfl infoRwI ?_
  go_wp2_with (first | go_skip | (with_reducible refine stopLoad 26 rfl ?_) | (with_reducible refine stopStore 26 rfl ?_) | (with_reducible refine stopLoad 33 rfl ?_) | (with_reducible refine stopStore 33 rfl ?_))
  refine load_any 33 gt ec 33 _ Vt.out.blk rfl rfl rfl Tryz.underlying33 rfl (enSizeD Vt.out.sz) ?_
  go_wp2_with fail
  refine (rowPushImpl_any _ _ r F t G (!j) _ Vr.out.rd Vt.out.rd HSP.out).mono ?_
  intro e w8 hh
  rw [HF.out.hy] at hh
  obtain ⟨zv, Fy, he, ⟨ay, ny, ky, hzv, rly, cpy⟩, _, bb⟩ := hh
  subst hzv
  have he : e = .returned (.tuple #[.agg #[.slice ay ny ky], .bool true]) := he
  subst he
  have BEL : Hid (Below w.heap.size w w8) := Below.next BEL.out bb
  have Vr : Hid (VRw w8 gr r ar nr kr F) := Vr.out.below bb
  have Vt : Hid (VEn w8 gt ec t G) := Vt.out.below bb
  have Vi : Hid (RdP w8 pt lq t.ids G1) := Vi.out.below bb
  have Vx : Hid (VRw w8 gx x ax nx kx Fx) := Vx.out.below bb
  have Ry : Hid (RdL enK w8 ay ny y.list Fy ∧ Capd ay ny ky) := ⟨rly, cpy⟩
  clear rly cpy bb
  go_wp2_with (first | go_skip | (with_reducible refine stopLoad 26 rfl ?_) | (with_reducible refine stopStore 26 rfl ?_) | (with_reducible refine stopLoad 33 rfl ?_) | (with_reducible refine stopStore 33 rfl ?_))
  refine store_fresh 26 w8.heap.size rfl #[.slice none 0 0] #[.slice ay ny ky] 26 rfl rfl rfl rfl infoRwI rfl (by simp [Value.oneCell']) ?_
  intro w9 hg hb
  have BEL : Hid (Below w.heap.size w w9) := Below.next BEL.out hb
  have Vr : Hid (VRw w9 gr r ar nr kr F) := Vr.out.below hb
  have Vt : Hid (VEn w9 gt ec t G) := Vt.out.below hb
  have Vi : Hid (RdP w9 pt lq t.ids G1) := Vi.out.below hb
  have Vx : Hid (VRw w9 gx x ax nx kx Fx) := Vx.out.below hb
  obtain ⟨gy, hgv⟩ : ∃ g, g = w8.heap.size := ⟨_, rfl⟩
  rw [← hgv] at hg ⊢
  have Vy : Hid (VRw w9 gy y ay ny ky Fy) := ⟨hg, Ry.out.1.agree (.below hb Ry.out.1.lt), Ry.out.2⟩
  clear hg hb hgv Ry
  go_wp2_with (first | go_skip | (with_reducible refine stopLoad 26 rfl ?_) | (with_reducible refine stopStore 26 rfl ?_) | (with_reducible refine stopLoad 33 rfl ?_) | (with_reducible refine stopStore 33 rfl ?_))
  refine load_known 26 gx #[.slice ax nx kx] 26 _ Vx.out.blk rfl rfl rfl Tryz.underlying26 rfl infoRwI ?_
  go_wp2_with fail
  refine (rowSumImpl_any _ x Fx _ Vx.out.rd HF.out.fx).mono ?_
  intro e w10 hh
  rw [HF.out.sx] at hh
  obtain ⟨pa, ka, Ya, he, rr, _, bb⟩ := hh.parts
  rw [HN.out.1] at he rr
  subst he
  have BEL : Hid (Below w.heap.size w w10) := Below.next BEL.out bb
  have Vr : Hid (VRw w10 gr r ar nr kr F) := Vr.out.below bb
  have Vt : Hid (VEn w10 gt ec t G) := Vt.out.below bb
  have Vi : Hid (RdP w10 pt lq t.ids G1) := Vi.out.below bb
  have Vx : Hid (VRw w10 gx x ax nx kx Fx) := Vx.out.below bb
  have Vy : Hid (VRw w10 gy y ay ny ky Fy) := Vy.out.below bb
  have Ia : Hid (RdL enK w10 pa N M Ya) := rr
  clear rr bb hh
  go_wp2_with (first | go_skip | (with_reducible refine stopLoad 26 rfl ?_) | (with_reducible refine stopStore 26 rfl ?_) | (with_reducible refine stopLoad 33 rfl ?_) | (with_reducible refine stopStore 33 rfl ?_))
  refine load_known 26 gy #[.slice ay ny ky] 26 _ Vy.out.blk rfl rfl rfl Tryz.underlying26 rfl infoRwI ?_
  go_wp2_with fail
  refine (rowSumImpl_any _ y Fy _ Vy.out.rd HF.out.fy).mono ?_
  intro e w11 hh
  rw [HF.out.sy] at hh
  obtain ⟨pb, kb, Yb, he, rr, _, bb⟩ := hh.parts
  rw [HN.out.1] at he rr
  subst he
  have BEL : Hid (Below w.heap.size w w11) := Below.next BEL.out bb
  have Vr : Hid (VRw w11 gr r ar nr kr F) := Vr.out.below bb
  have Vt : Hid (VEn w11 gt ec t G) := Vt.out.below bb
  have Vi : Hid (RdP w11 pt lq t.ids G1) := Vi.out.below bb
  have Vx : Hid (VRw w11 gx x ax nx kx Fx) := Vx.out.below bb
  have Vy : Hid (VRw w11 gy y ay ny ky Fy) := Vy.out.below bb
  have Ia : Hid (RdL enK w11 pa N M Ya) := Ia.out.agree (.below bb Ia.out.lt)
  have Ib : Hid (RdL enK w11 pb N M Yb) := rr
  clear rr bb hh
  clear Vy
  have hNn : ((N : Int) != (N : Int)) = false := by simp
  go_wp2_with (first | go_skip | (with_reducible refine stopLoad 26 rfl ?_) | (with_reducible refine stopStore 26 rfl ?_) | (with_reducible refine stopLoad 33 rfl ?_) | (with_reducible refine stopStore 33 rfl ?_))
  refine load_known 26 gx #[.slice ax nx kx] 26 _ Vx.out.blk rfl rfl rfl Tryz.underlying26 rfl infoRwI ?_
  go_wp2_with (first | go_skip | (with_reducible refine stopLoad 26 rfl ?_) | (with_reducible refine stopStore 26 rfl ?_) | (with_reducible refine stopLoad 33 rfl ?_) | (with_reducible refine stopStore 33 rfl ?_))
  refine load_any 33 gt ec 33 _ Vt.out.blk rfl rfl rfl Tryz.underlying33 rfl (enSizeD Vt.out.sz) ?_
  go_wp2_with fail
  refine (rowPushImpl_any _ _ x Fx t G j _ Vx.out.rd Vt.out.rd HF.out.sz).mono ?_
  intro e w12 hh
  rw [HF.out.tw] at hh
  obtain ⟨zv, Fv, he, ⟨av, nv, kv, hzv, rlv, cpv⟩, _, bb⟩ := hh
  subst hzv
  have he : e = .returned (.tuple #[.agg #[.slice av nv kv], .bool false]) := he
  subst he
  have BEL : Hid (Below w.heap.size w w12) := Below.next BEL.out bb
  have Vr : Hid (VRw w12 gr r ar nr kr F) := Vr.out.below bb
  have Vt : Hid (VEn w12 gt ec t G) := Vt.out.below bb
  have Vi : Hid (RdP w12 pt lq t.ids G1) := Vi.out.below bb
  have Vx : Hid (VRw w12 gx x ax nx kx Fx) := Vx.out.below bb
  have Ia : Hid (RdL enK w12 pa N M Ya) := Ia.out.agree (.below bb Ia.out.lt)
  have Ib : Hid (RdL enK w12 pb N M Yb) := Ib.out.agree (.below bb Ib.out.lt)
  clear rlv cpv bb
  go_wp2_with (first | go_skip | (with_reducible refine stopLoad 26 rfl ?_) | (with_reducible refine stopStore 26 rfl ?_) | (with_reducible refine stopLoad 33 rfl ?_) | (with_reducible refine stopStore 33 rfl ?_))
  refine store_fresh 26 w12.heap.size rfl #[.slice none 0 0] #[.slice av nv kv] 26 rfl rfl rfl rfl infoRwI rfl (by simp [Value.oneCell']) ?_
  intro w13 hg hb
  have BEL : Hid (Below w.heap.size w w13) := Below.next BEL.out hb
  have Vr : Hid (VRw w13 gr r ar nr kr F) := Vr.out.below hb
  have Vt : Hid (VEn w13 gt ec t G) := Vt.out.below hb
  have Vi : Hid (RdP w13 pt lq t.ids G1) := Vi.out.below hb
  have Vx : Hid (VRw w13 gx x ax nx kx Fx) := Vx.out.below hb
  have Ia : Hid (RdL enK w13 pa N M Ya) := Ia.out.agree (.below hb Ia.out.lt)
  have Ib : Hid (RdL enK w13 pb N M Yb) := Ib.out.agree (.below hb Ib.out.lt)
  clear hg hb
  go_wp2_with (first | go_skip | (with_reducible refine stopLoad 26 rfl ?_) | (with_reducible refine stopStore 26 rfl ?_) | (with_reducible refine stopLoad 33 rfl ?_) | (with_reducible refine stopStore 33 rfl ?_))
  refine load_known 26 gx #[.slice ax nx kx] 26 _ Vx.out.blk rfl rfl rfl Tryz.underlying26 rfl infoRwI ?_
  go_wp2_with fail
  refine (rowPopImpl_any _ x Fx _ Vx.out.rd HF.out.fx).mono ?_
  intro e w14 hh
  obtain ⟨zv, zu, Fp, Fq, he, rf, ⟨aq, nq, kq, hzu, rlq, cpq⟩, _, _, _, bb⟩ := hh
  rw [HF.out.pops] at he
  subst hzu
  obtain ⟨fc, hzv, hfs, hfo⟩ := RdE.cells rf
  subst hzv
  subst he
  have BEL : Hid (Below w.heap.size w w14) := Below.next BEL.out bb
  have Vr : Hid (VRw w14 gr r ar nr kr F) := Vr.out.below bb
  have Vt : Hid (VEn w14 gt ec t G) := Vt.out.below bb
  have Vi : Hid (RdP w14 pt lq t.ids G1) := Vi.out.below bb
  have Vx : Hid (VRw w14 gx x ax nx kx Fx) := Vx.out.below bb
  have Ia : Hid (RdL enK w14 pa N M Ya) := Ia.out.agree (.below bb Ia.out.lt)
  have Ib : Hid (RdL enK w14 pb N M Yb) := Ib.out.agree (.below bb Ib.out.lt)
  have HX : Hid (RdL enK w14 aq nq x.rest.list Fq ∧ Capd aq nq kq ∧ RdE w14 (.agg fc) x.first Fp ∧ fc.size = 10 ∧ fc.all (·.oneCell') = true) := ⟨rlq, cpq, rf, hfs, hfo⟩
  have HT : Hid (_ ∧ _ ∧ _) := two_made w14 #[.int .i64 0, .int .i64 0, .slice none 0 0, .int .i64 0, .int .i64 0, .int .i64 0, .int .i64 0, .slice none 0 0, .slice none 0 0, .slice none 0 0] #[.slice none 0 0] 33 26
  clear rlq cpq rf hfs hfo bb
  go_wp2_with (first | go_skip | (with_reducible refine stopLoad 26 rfl ?_) | (with_reducible refine stopStore 26 rfl ?_) | (with_reducible refine stopLoad 33 rfl ?_) | (with_reducible refine stopStore 33 rfl ?_))
  refine store_known 33 w14.heap.size _ fc 33 HT.out.1 rfl rfl rfl rfl (enSizeD HX.out.2.2.2.1) HX.out.2.2.2.1.symm HX.out.2.2.2.2 ?_
  go_wp2_with (first | go_skip | (with_reducible refine stopLoad 26 rfl ?_) | (with_reducible refine stopStore 26 rfl ?_) | (with_reducible refine stopLoad 33 rfl ?_) | (with_reducible refine stopStore 33 rfl ?_))
  refine store_known 26 (w14.heap.size + 1) _ #[.slice aq nq kq] 26 (HT.out.2.1.setRowOther (by omega)) rfl rfl rfl rfl infoRwI rfl (by simp [Value.oneCell']) ?_
  have hb : Below w14.heap.size w14 ((((w14.alloc (.cells #[.int .i64 0, .int .i64 0, .slice none 0 0, .int .i64 0, .int .i64 0, .int .i64 0, .int .i64 0, .slice none 0 0, .slice none 0 0, .slice none 0 0] 33)).alloc (.cells #[.slice none 0 0] 26)).setRow w14.heap.size fc).setRow (w14.heap.size + 1) #[.slice aq nq kq]) := below_setRow (below_setRow HT.out.2.2 (Nat.le_refl _) _) (by omega) _
  have v1 : Blk ((((w14.alloc (.cells #[.int .i64 0, .int .i64 0, .slice none 0 0, .int .i64 0, .int .i64 0, .int .i64 0, .int .i64 0, .slice none 0 0, .slice none 0 0, .slice none 0 0] 33)).alloc (.cells #[.slice none 0 0] 26)).setRow w14.heap.size fc).setRow (w14.heap.size + 1) #[.slice aq nq kq]) w14.heap.size fc 33 := HT.out.1.setRow.setRowOther (by omega)
  have v2 : Blk ((((w14.alloc (.cells #[.int .i64 0, .int .i64 0, .slice none 0 0, .int .i64 0, .int .i64 0, .int .i64 0, .int .i64 0, .slice none 0 0, .slice none 0 0, .slice none 0 0] 33)).alloc (.cells #[.slice none 0 0] 26)).setRow w14.heap.size fc).setRow (w14.heap.size + 1) #[.slice aq nq kq]) (w14.heap.size + 1) #[.slice aq nq kq] 26 := (HT.out.2.1.setRowOther (by omega)).setRow
  obtain ⟨w15, hW2⟩ : ∃ Z, Z = ((((w14.alloc (.cells #[.int .i64 0, .int .i64 0, .slice none 0 0, .int .i64 0, .int .i64 0, .int .i64 0, .int .i64 0, .slice none 0 0, .slice none 0 0, .slice none 0 0] 33)).alloc (.cells #[.slice none 0 0] 26)).setRow w14.heap.size fc).setRow (w14.heap.size + 1) #[.slice aq nq kq]) := ⟨_, rfl⟩
  rw [← hW2] at hb v1 v2 ⊢
  obtain ⟨gf, hga⟩ : ∃ g, g = w14.heap.size := ⟨_, rfl⟩
  obtain ⟨gq, hgf⟩ : ∃ g, g = w14.heap.size + 1 := ⟨_, rfl⟩
  rw [← hgf] at v2 ⊢
  rw [← hga] at v1 ⊢
  have BEL : Hid (Below w.heap.size w w15) := Below.next BEL.out hb
  have Vr : Hid (VRw w15 gr r ar nr kr F) := Vr.out.below hb
  have Vt : Hid (VEn w15 gt ec t G) := Vt.out.below hb
  have Vi : Hid (RdP w15 pt lq t.ids G1) := Vi.out.below hb
  have Vx : Hid (VRw w15 gx x ax nx kx Fx) := Vx.out.below hb
  have Ia : Hid (RdL enK w15 pa N M Ya) := Ia.out.agree (.below hb Ia.out.lt)
  have Ib : Hid (RdL enK w15 pb N M Yb) := Ib.out.agree (.below hb Ib.out.lt)
  have Vf : Hid (VEn w15 gf fc x.first Fp) := ⟨v1, HX.out.2.2.1.below hb, HX.out.2.2.2.1⟩
  have Vq : Hid (VRw w15 gq x.rest aq nq kq Fq) := ⟨v2, HX.out.1.agree (.below hb HX.out.1.lt), HX.out.2.1⟩
  clear hb v1 v2 hW2 hga hgf HT HX
  have hnq : nq = x.rest.list.length := Vq.out.rl.length.symm
  have hnx : nx = x.list.length := Vx.out.rl.length.symm
  have hrest := HF.out.rest
  have hpos := HF.out.pos
  have hle7 := HF.out.le
  have hr6 := HS.out.1
  have HNX : Hid (nq + 1 = nx ∧ nx ≤ 7 ∧ nx = x.list.length ∧ nr = r.list.length) := ⟨by omega, by omega, hnx, Vr.out.rl.length.symm⟩
  clear hnq hnx hrest hpos hle7 hr6
  go_wp2_with fail
  obtain ⟨Y0, hY0⟩ : ∃ Y, Y = w15.drew := ⟨_, rfl⟩
  have bd := (Below.refl w15.heap.size w15).drew
  rw [← hY0] at bd
  have BEL : Hid (Below w.heap.size w Y0) := Below.next BEL.out bd
  have Vr : Hid (VRw Y0 gr r ar nr kr F) := Vr.out.below bd
  have Vt : Hid (VEn Y0 gt ec t G) := Vt.out.below bd
  have Vi : Hid (RdP Y0 pt lq t.ids G1) := Vi.out.below bd
  have Vx : Hid (VRw Y0 gx x ax nx kx Fx) := Vx.out.below bd
  have Ia : Hid (RdL enK Y0 pa N M Ya) := Ia.out.agree (.below bd Ia.out.lt)
  have Ib : Hid (RdL enK Y0 pb N M Yb) := Ib.out.agree (.below bd Ib.out.lt)
  have Vf : Hid (VEn Y0 gf fc x.first Fp) := Vf.out.below bd
  have Vq : Hid (VRw Y0 gq x.rest aq nq kq Fq) := Vq.out.below bd
  obtain ⟨b9, o9, z9, cs, Fi, hax, hbw, hz9, hcs9, hcc, hr9⟩ := ens_at Vx.out.rl (k := 0) (by have := HNX.out.1; omega)
  have hz9' : z9 = x.first := by have := HF.out.first; rw [hz9] at this; exact Option.some.inj this
  rw [hz9'] at hz9 hr9
  clear hz9'
  have HC : Hid (b9 < Y0.heap.size ∧ (∀ j, j < 10 → Y0.cell? ⟨b9, o9 + j, none⟩ = cs[j]?) ∧ RdE Y0 (.agg cs) x.first Fi ∧ cs.size = 10) := ⟨hbw, fun j hj => by have := hcc j hj; rw [show o9 + 0 * 10 + j = o9 + j by omega] at this; exact this, hr9, hcs9⟩
  have HAX : Hid (ax = some ⟨b9, o9, none⟩) := hax
  have HFW : Hid (x.first.wide) := HF.out.each _ (List.mem_of_getElem? hz9)
  clear bd hax hbw hz9 hcs9 hcc hr9
  refine wp_region_held (S := fun W => Blk W gq #[.slice aq nq kq] 26 ∧ Blk W gx #[.slice ax nx kx] 26 ∧ Blk W gf fc 33 ∧ ∀ j, j < 10 → W.cell? ⟨b9, o9 + j, none⟩ = cs[j]?) (by kernel_rfl) ?_
  change wpAnyH _ _ _ _ _ _ _ _ (World.drew _)
  rw [← hY0]
  clear hY0
  refine tm 0 (.bool false) (H := ⟨⟨Vq.out.blk, Vx.out.blk, Vf.out.blk, HC.out.2.1⟩, ?_⟩)
  refine tm 1 (.bool false) (H := ⟨⟨Vq.out.blk, Vx.out.blk, Vf.out.blk, HC.out.2.1⟩, ?_⟩)
  refine tm 2 (.bool true) (H := ⟨⟨Vq.out.blk, Vx.out.blk, Vf.out.blk, HC.out.2.1⟩, ?_⟩)
  refine tg 3 (.bool false) (H := ⟨⟨Vq.out.blk, Vx.out.blk, Vf.out.blk, HC.out.2.1⟩, ?_⟩)
  refine tm 4 (.bool false) (H := ⟨⟨Vq.out.blk, Vx.out.blk, Vf.out.blk, HC.out.2.1⟩, ?_⟩)
  refine tm 5 (.bool false) (H := ⟨⟨Vq.out.blk, Vx.out.blk, Vf.out.blk, HC.out.2.1⟩, ?_⟩)
  refine tg 6 (.pointer (some ⟨gq, 0, none⟩)) (H := ⟨⟨Vq.out.blk, Vx.out.blk, Vf.out.blk, HC.out.2.1⟩, ?_⟩)
  refine tk 7 (.slice aq nq kq) (H := ⟨(.inl ⟨rfl, fun W hW => by have c := hW.1.cell 0; simp only [aT, aZ] at c; go_simp⟩), ⟨Vq.out.blk, Vx.out.blk, Vf.out.blk, HC.out.2.1⟩, ?_⟩)
  refine tg 8 (.int .i64 (nq : Int)) (H := ⟨⟨Vq.out.blk, Vx.out.blk, Vf.out.blk, HC.out.2.1⟩, ?_⟩)
  refine tg 9 (.pointer (some ⟨gx, 0, none⟩)) (H := ⟨⟨Vq.out.blk, Vx.out.blk, Vf.out.blk, HC.out.2.1⟩, ?_⟩)
  refine tk 10 (.slice ax nx kx) (H := ⟨(.inl ⟨rfl, fun W hW => by have c := hW.2.1.cell 0; simp only [aT, aZ] at c; go_simp⟩), ⟨Vq.out.blk, Vx.out.blk, Vf.out.blk, HC.out.2.1⟩, ?_⟩)
  refine tg 11 (.int .i64 (nx : Int)) (H := ⟨⟨Vq.out.blk, Vx.out.blk, Vf.out.blk, HC.out.2.1⟩, ?_⟩)
  have hwp : IntKind.i64.wrap ((nx : Int) - 1) = (nq : Int) := by have h1 := HNX.out.1; have h2 := HNX.out.2.1; rw [wrapI (by omega)]; omega
  have hqq : ((nq : Int) != (nq : Int)) = false := by simp
  refine tk 12 (.int .i64 (nq : Int)) (H := ⟨(.inl ⟨rfl, fun W _ => by first | (go_simp; done) | (go_simp; exact hwp) | (go_simp; rw [hwp])⟩), ⟨Vq.out.blk, Vx.out.blk, Vf.out.blk, HC.out.2.1⟩, ?_⟩)
  refine tg 13 (.bool false) (H := ⟨⟨Vq.out.blk, Vx.out.blk, Vf.out.blk, HC.out.2.1⟩, ?_⟩)
  refine tm 14 (.bool false) (H := ⟨⟨Vq.out.blk, Vx.out.blk, Vf.out.blk, HC.out.2.1⟩, ?_⟩)
  refine tm 15 (.bool false) (H := ⟨⟨Vq.out.blk, Vx.out.blk, Vf.out.blk, HC.out.2.1⟩, ?_⟩)
  refine tk 16 (.agg fc) (H := ⟨(yields_whole 33 gf fc 33 _ rfl rfl rfl Tryz.underlying33 rfl (enSizeD Vf.out.sz) (fun W hW => hW.2.2.1)), ⟨Vq.out.blk, Vx.out.blk, Vf.out.blk, HC.out.2.1⟩, ?_⟩)
  refine tg 17 (.pointer (some ⟨gx, 0, none⟩)) (H := ⟨⟨Vq.out.blk, Vx.out.blk, Vf.out.blk, HC.out.2.1⟩, ?_⟩)
  refine tk 18 (.slice (some ⟨b9, o9, none⟩) nx kx) (H := ⟨(.inl ⟨rfl, fun W hW => by have c := hW.2.1.cell 0; simp only [aT, aZ] at c; rw [HAX.out] at c; go_simp⟩), ⟨Vq.out.blk, Vx.out.blk, Vf.out.blk, HC.out.2.1⟩, ?_⟩)
  have hx0 : (0 : Int) < (nx : Int) := by have h1 := HNX.out.1; omega
  have hx1 : 0 < nx := by have h1 := HNX.out.1; omega
  refine tk 19 (.pointer (some ⟨b9, o9, none⟩)) (H := ⟨(.inl ⟨rfl, fun W _ => by go_simp; first | done | (intro h; omega) | (rw [if_pos (by omega)]; rfl)⟩), ⟨Vq.out.blk, Vx.out.blk, Vf.out.blk, HC.out.2.1⟩, ?_⟩)
  refine tk 20 (.agg cs) (H := ⟨(yields_at 33 b9 o9 10 cs _ rfl rfl rfl Tryz.underlying33 rfl infoEnG2 HC.out.2.2.2 (fun W hW => hW.2.2.2)), ⟨Vq.out.blk, Vx.out.blk, Vf.out.blk, HC.out.2.1⟩, ?_⟩)
  refine oq 21 (H := fun K hK => ?_)
  refine op_call2' 12 _ _ _ Tryz.f12 (fun v w' => v = .bool true ∧ Below Y0.heap.size Y0 w') rfl rfl Tryz.func12 (by kernel_rfl) (by kernel_rfl) ((sameE_any (.agg fc) (.agg cs) x.first x.first Fp Fi Y0 Vf.out.rd HC.out.2.2.1 HFW.out HFW.out).mono (by rintro e w' ⟨rfl, h1⟩; exact ⟨_, rfl, by rw [decide_eq_true rfl], h1⟩)) ?_
  rintro v Y1 ⟨rfl, hb⟩
  have BEL : Hid (Below w.heap.size w Y1) := Below.next BEL.out hb
  have Vr : Hid (VRw Y1 gr r ar nr kr F) := Vr.out.below hb
  have Vt : Hid (VEn Y1 gt ec t G) := Vt.out.below hb
  have Vi : Hid (RdP Y1 pt lq t.ids G1) := Vi.out.below hb
  have Vx : Hid (VRw Y1 gx x ax nx kx Fx) := Vx.out.below hb
  have Ia : Hid (RdL enK Y1 pa N M Ya) := Ia.out.agree (.below hb Ia.out.lt)
  have Ib : Hid (RdL enK Y1 pb N M Yb) := Ib.out.agree (.below hb Ib.out.lt)
  have Vf : Hid (VEn Y1 gf fc x.first Fp) := Vf.out.below hb
  have Vq : Hid (VRw Y1 gq x.rest aq nq kq Fq) := Vq.out.below hb
  have HC : Hid (b9 < Y1.heap.size ∧ (∀ j, j < 10 → Y1.cell? ⟨b9, o9 + j, none⟩ = cs[j]?) ∧ RdE Y1 (.agg cs) x.first Fi ∧ cs.size = 10) := ⟨Nat.lt_of_lt_of_le HC.out.1 (Below.size hb), fun j hj => by rw [← HC.out.2.1 j hj]; exact Below.cell hb (p := ⟨b9, o9 + j, none⟩) HC.out.1, HC.out.2.2.1.below hb, HC.out.2.2.2⟩
  clear hb hwp hqq hx0 hx1
  refine pk (h := hK _ _ ⟨⟨Vq.out.blk, Vx.out.blk, Vf.out.blk, HC.out.2.1⟩, ?_⟩)
  clear hK
  refine tg 22 (.bool false) (H := ⟨⟨Vq.out.blk, Vx.out.blk, Vf.out.blk, HC.out.2.1⟩, ?_⟩)
  refine tm 23 (.bool false) (H := ⟨⟨Vq.out.blk, Vx.out.blk, Vf.out.blk, HC.out.2.1⟩, ?_⟩)
  refine tm 24 (.bool false) (H := ⟨⟨Vq.out.blk, Vx.out.blk, Vf.out.blk, HC.out.2.1⟩, ?_⟩)
  refine tk 25 (.agg #[.slice ax nx kx]) (H := ⟨(yields_whole 26 gx #[.slice ax nx kx] 26 _ rfl rfl rfl Tryz.underlying26 rfl infoRwI (fun W hW => hW.2.1)), ⟨Vq.out.blk, Vx.out.blk, Vf.out.blk, HC.out.2.1⟩, ?_⟩)
  refine oq 26 (H := fun K hK => ?_)
  refine op_call1 13 _ _ Tryz.f13 (fun v w' => v = .bool true ∧ Below Y1.heap.size Y1 w') rfl rfl Tryz.func13 (by kernel_rfl) (by kernel_rfl) ((rowOkImpl_any _ x Fx Y1 Vx.out.rd HF.out.fx).mono (by rintro e w' ⟨rfl, h1⟩; exact ⟨_, rfl, by rw [HF.out.ok], h1⟩)) ?_
  rintro v Y2 ⟨rfl, hb⟩
  have BEL : Hid (Below w.heap.size w Y2) := Below.next BEL.out hb
  have Vr : Hid (VRw Y2 gr r ar nr kr F) := Vr.out.below hb
  have Vt : Hid (VEn Y2 gt ec t G) := Vt.out.below hb
  have Vi : Hid (RdP Y2 pt lq t.ids G1) := Vi.out.below hb
  have Vx : Hid (VRw Y2 gx x ax nx kx Fx) := Vx.out.below hb
  have Ia : Hid (RdL enK Y2 pa N M Ya) := Ia.out.agree (.below hb Ia.out.lt)
  have Ib : Hid (RdL enK Y2 pb N M Yb) := Ib.out.agree (.below hb Ib.out.lt)
  have Vf : Hid (VEn Y2 gf fc x.first Fp) := Vf.out.below hb
  have Vq : Hid (VRw Y2 gq x.rest aq nq kq Fq) := Vq.out.below hb
  have HC : Hid (b9 < Y2.heap.size ∧ (∀ j, j < 10 → Y2.cell? ⟨b9, o9 + j, none⟩ = cs[j]?) ∧ RdE Y2 (.agg cs) x.first Fi ∧ cs.size = 10) := ⟨Nat.lt_of_lt_of_le HC.out.1 (Below.size hb), fun j hj => by rw [← HC.out.2.1 j hj]; exact Below.cell hb (p := ⟨b9, o9 + j, none⟩) HC.out.1, HC.out.2.2.1.below hb, HC.out.2.2.2⟩
  clear hb
  refine pk (h := hK _ _ ⟨⟨Vq.out.blk, Vx.out.blk, Vf.out.blk, HC.out.2.1⟩, ?_⟩)
  clear hK
  refine tg 27 (.bool false) (H := ⟨⟨Vq.out.blk, Vx.out.blk, Vf.out.blk, HC.out.2.1⟩, ?_⟩)
  refine tm 28 (.bool false) (H := ⟨⟨Vq.out.blk, Vx.out.blk, Vf.out.blk, HC.out.2.1⟩, ?_⟩)
  refine wpAnyH_done (by kernel_rfl) ?_ _
  have HA : Hid (AllR w gr r ar nr kr F gt ec t G pt lq G1 gx x ax nx kx Fx pa pb N M Ya Yb Y2) := ⟨BEL.out, Vr.out, Vt.out, Vi.out, Vx.out, Ia.out, Ib.out⟩
  clear BEL Vr Vt Vi Vx Ia Ib Vf Vq HC HAX
  go_wp2
  go_loopw [19] (fun i wr => ∃ k : Nat, k ≤ N ∧ i = .int .i64 k ∧ Hid (AllR w gr r ar nr kr F gt ec t G pt lq G1 gx x ax nx kx Fx pa pb N M Ya Yb wr)) (fun i _ => N - (intOf i).toNat)
  case atStart => exact ⟨0, by omega, rfl, HA.out⟩
  case round =>
   clear HA
   obtain ⟨k, hk, rfl, HA⟩ := hrel
   have hNe : ((N : Int) == (N : Int)) = true := by simp
   have hN24 : N ≤ 24 := HN.out.2
   by_cases hlt : k < N
   ·
    have hI : (k : Int) < (N : Int) := by omega
    go_wp2_with fail
    have hb := (Below.refl wr.heap.size wr).drew
    obtain ⟨Y, hY⟩ : ∃ Y, Y = wr.drew := ⟨_, rfl⟩
    rw [← hY] at hb
    have HD : Hid (AllR w gr r ar nr kr F gt ec t G pt lq G1 gx x ax nx kx Fx pa pb N M Ya Yb Y) := HA.out.below hb
    clear hb HA
    obtain ⟨b1, o1, z1, c1, F1, hp1, hw1, hz1, hs1, hc1, hr1⟩ := ens_at HD.out.va hlt
    obtain ⟨b2, o2, z2, c2, F2, hp2, hw2, hz2, hs2, hc2, hr2⟩ := ens_at HD.out.vb hlt
    have hzz : z1 = z2 := Option.some.inj (hz1.symm.trans hz2)
    subst hzz
    have HW : Hid (z1.wide) := HF.out.wide _ (List.mem_of_getElem? hz1)
    have HP : Hid (pa = some ⟨b1, o1, none⟩ ∧ pb = some ⟨b2, o2, none⟩ ∧ c1.size = 10 ∧ c2.size = 10 ∧ RdE Y (.agg c1) z1 F1 ∧ RdE Y (.agg c2) z1 F2) := ⟨hp1, hp2, hs1, hs2, hr1, hr2⟩
    have HCW : Hid ((∀ j, j < 10 → Y.cell? ⟨b1, o1 + k * 10 + j, none⟩ = c1[j]?) ∧ ∀ j, j < 10 → Y.cell? ⟨b2, o2 + k * 10 + j, none⟩ = c2[j]?) := ⟨hc1, hc2⟩
    have HLT : Hid (b1 < Y.heap.size ∧ b2 < Y.heap.size) := ⟨hw1, hw2⟩
    clear hp1 hw1 hz1 hs1 hc1 hr1 hp2 hw2 hz2 hs2 hc2 hr2
    refine wp_region_held (S := fun W => (∀ j, j < 10 → W.cell? ⟨b1, o1 + k * 10 + j, none⟩ = c1[j]?) ∧ ∀ j, j < 10 → W.cell? ⟨b2, o2 + k * 10 + j, none⟩ = c2[j]?) (by kernel_rfl) ?_
    change wpAnyH _ _ _ _ _ _ _ _ (World.drew _)
    rw [← hY]
    clear hY
    refine tk 0 (.slice (some ⟨b1, o1, none⟩) N ka) (H := ⟨(.inl ⟨rfl, fun W _ => by rw [← HP.out.1]; kernel_rfl⟩), HCW.out, ?_⟩)
    refine tm 1 (.int .i64 (k : Int)) (H := ⟨HCW.out, ?_⟩)
    refine tk 2 (.pointer (some ⟨b1, o1 + k * 10, none⟩)) (H := ⟨(.inl ⟨rfl, fun W _ => by go_simp; first | done | (intro h; omega) | (rw [if_pos (by omega)]; rfl)⟩), HCW.out, ?_⟩)
    refine tk 3 (.agg c1) (H := ⟨(yields_at 33 b1 (o1 + k * 10) 10 c1 _ rfl rfl rfl Tryz.underlying33 rfl infoEnG2 HP.out.2.2.1 (fun W hW => hW.1)), HCW.out, ?_⟩)
    refine tk 4 (.slice (some ⟨b2, o2, none⟩) N kb) (H := ⟨(.inl ⟨rfl, fun W _ => by rw [← HP.out.2.1]; kernel_rfl⟩), HCW.out, ?_⟩)
    refine tm 5 (.int .i64 (k : Int)) (H := ⟨HCW.out, ?_⟩)
    refine tk 6 (.pointer (some ⟨b2, o2 + k * 10, none⟩)) (H := ⟨(.inl ⟨rfl, fun W _ => by go_simp; first | done | (intro h; omega) | (rw [if_pos (by omega)]; rfl)⟩), HCW.out, ?_⟩)
    refine tk 7 (.agg c2) (H := ⟨(yields_at 33 b2 (o2 + k * 10) 10 c2 _ rfl rfl rfl Tryz.underlying33 rfl infoEnG2 HP.out.2.2.2.1 (fun W hW => hW.2)), HCW.out, ?_⟩)
    refine oq 8 (H := fun K hK => ?_)
    refine op_call2' 12 _ _ _ Tryz.f12 (fun v w' => v = .bool true ∧ Below Y.heap.size Y w') rfl rfl Tryz.func12 (by kernel_rfl) (by kernel_rfl) ((sameE_any (.agg c1) (.agg c2) z1 z1 F1 F2 Y HP.out.2.2.2.2.1 HP.out.2.2.2.2.2 HW.out HW.out).mono (by rintro e w' ⟨rfl, h1⟩; exact ⟨_, rfl, by rw [decide_eq_true rfl], h1⟩)) ?_
    rintro v Y2 ⟨rfl, hb⟩
    have HA : Hid (AllR w gr r ar nr kr F gt ec t G pt lq G1 gx x ax nx kx Fx pa pb N M Ya Yb Y2) := HD.out.below hb
    have HCW : Hid ((∀ j, j < 10 → Y2.cell? ⟨b1, o1 + k * 10 + j, none⟩ = c1[j]?) ∧ ∀ j, j < 10 → Y2.cell? ⟨b2, o2 + k * 10 + j, none⟩ = c2[j]?) := ⟨fun j hj => by rw [← HCW.out.1 j hj]; exact hb.cell (p := ⟨b1, o1 + k * 10 + j, none⟩) HLT.out.1, fun j hj => by rw [← HCW.out.2 j hj]; exact hb.cell (p := ⟨b2, o2 + k * 10 + j, none⟩) HLT.out.2⟩
    clear hb HD
    refine pk (h := hK _ _ ⟨HCW.out, ?_⟩)
    clear hK
    refine tg 9 (.bool false) (H := ⟨HCW.out, ?_⟩)
    refine wpAnyH_done (by kernel_rfl) ?_ _
    clear HCW HLT HP HW
    go_wp2
    go_roundw
    case rel => exact ⟨k + 1, by omega, by go_num, HA.out⟩
    case measure => simp [intOf]; omega
   ·
    obtain rfl : k = N := by omega
    have hI : ¬ ((k : Int) < (k : Int)) := by omega
    go_wp2_with fail
    have hb := (Below.refl wr.heap.size wr).drew
    obtain ⟨Y, hY⟩ : ∃ Y, Y = wr.drew := ⟨_, rfl⟩
    rw [← hY] at hb
    have HD : Hid (AllR w gr r ar nr kr F gt ec t G pt lq G1 gx x ax nx kx Fx pa pb k M Ya Yb Y) := HA.out.below hb
    clear hb HA
    obtain ⟨sx, hsx⟩ : ∃ z, z = x.ids.size := ⟨_, rfl⟩
    obtain ⟨sr, hsr⟩ : ∃ z, z = r.ids.size := ⟨_, rfl⟩
    obtain ⟨st, hst⟩ : ∃ z, z = t.ids.size := ⟨_, rfl⟩
    have hsum : sx = sr + st := by rw [hsx, hsr, hst]; exact HF.out.ids
    have q1 := size_range (ps := r.ids)
    have q2 := size_range (ps := t.ids)
    rw [← hsr] at q1
    rw [← hst] at q2
    have HSZ : Hid (x.ids.size = sx ∧ r.ids.size = sr ∧ t.ids.size = st) := ⟨hsx.symm, hsr.symm, hst.symm⟩
    have hwr : IntKind.i64.wrap (sr + st) = sx := by rw [wrapI (by omega)]; exact hsum.symm
    have hwn : IntKind.i64.wrap ((nr : Int) + 1) = (nr : Int) + 1 := by have h1 := HNX.out.2.2.2; have h2 := HS.out.1; exact wrapI (by omega)
    have hxle : (nx : Int) ≤ (nr : Int) + 1 := by have h1 := HNX.out.2.2; have h2 := HF.out.le; omega
    have hfr : r.fits := (push_sizes j HSP.out).1
    have hli : lq ≤ 2097152 := by have h1 := HD.out.vi.length; have h2 := wide_of_wt HS.out.2.2; omega
    have HLN : Hid (r.fits ∧ lq ≤ 2097152) := ⟨hfr, hli⟩
    clear hsx hsr hst hsum q1 q2 hfr hli
    refine wp_region_held (S := fun W => Blk W gx #[.slice ax nx kx] 26 ∧ Blk W gr #[.slice ar nr kr] 26 ∧ Blk W gt ec 33) (by kernel_rfl) ?_
    change wpAnyH _ _ _ _ _ _ _ _ (World.drew _)
    rw [← hY]
    clear hY
    refine tk 0 (.agg #[.slice ax nx kx]) (H := ⟨(yields_whole 26 gx #[.slice ax nx kx] 26 _ rfl rfl rfl Tryz.underlying26 rfl infoRwI (fun W hW => hW.1)), ⟨HD.out.vx.blk, HD.out.vr.blk, HD.out.vt.blk⟩, ?_⟩)
    refine tk 3 (.agg #[.slice ar nr kr]) (H := ⟨(yields_whole 26 gr #[.slice ar nr kr] 26 _ rfl rfl rfl Tryz.underlying26 rfl infoRwI (fun W hW => hW.2.1)), ⟨HD.out.vx.blk, HD.out.vr.blk, HD.out.vt.blk⟩, ?_⟩)
    refine tg 6 (.pointer (some ⟨gt, 2, none⟩)) (H := ⟨⟨HD.out.vx.blk, HD.out.vr.blk, HD.out.vt.blk⟩, ?_⟩)
    refine tk 7 (.slice pt lq kt) (H := ⟨(.inl ⟨rfl, fun W hW => by have c := hW.2.2.cell 2; rw [HE.out.2.2] at c; go_simp⟩), ⟨HD.out.vx.blk, HD.out.vr.blk, HD.out.vt.blk⟩, ?_⟩)
    refine oq 1 (H := fun K hK => ?_)
    refine op_call1 15 _ _ Tryz.f15 (fun v w' => ∃ p l c X, v = .slice p l c ∧ RdP w' p l x.ids X ∧ Below Y.heap.size Y w') rfl rfl Tryz.func15 (by kernel_rfl) (by kernel_rfl) ((rowIdsImpl_any _ x Fx Y HD.out.vx.rd HF.out.fx).mono (by rintro e w' ⟨p, l, c, X, rfl, h1, _, h2, _⟩; exact ⟨_, rfl, p, l, c, X, rfl, h1, h2⟩)) ?_
    rintro v Z1 ⟨pi, li, ci, Xi, rfl, hpi, hb⟩
    have HD : Hid (AllR w gr r ar nr kr F gt ec t G pt lq G1 gx x ax nx kx Fx pa pb k M Ya Yb Z1) := HD.out.below hb
    have HIi : Hid (RdP Z1 pi li x.ids Xi ∧ li ≤ 2097152) := ⟨hpi, by rw [← hpi.length]; have := Rw.ids_len (HF.out.fx); omega⟩
    clear hb hpi
    refine pk (h := hK _ _ ⟨⟨HD.out.vx.blk, HD.out.vr.blk, HD.out.vt.blk⟩, ?_⟩)
    clear hK
    refine oq 2 (H := fun K hK => ?_)
    refine op_call1 14 _ _ Tryz.f14 (fun v w' => v = .int .i64 sx ∧ Below Z1.heap.size Z1 w') rfl rfl Tryz.func14 (by kernel_rfl) (by kernel_rfl) ((sizeImpl_any pi li ci x.ids Xi Z1 (HIi.out.1) (HIi.out.2)).mono (by rintro e w' ⟨rfl, hb⟩; exact ⟨_, rfl, by rw [HSZ.out.1], hb⟩)) ?_
    rintro v Z2 ⟨rfl, hb⟩
    have HD : Hid (AllR w gr r ar nr kr F gt ec t G pt lq G1 gx x ax nx kx Fx pa pb k M Ya Yb Z2) := HD.out.below hb
    clear hb
    refine pk (h := hK _ _ ⟨⟨HD.out.vx.blk, HD.out.vr.blk, HD.out.vt.blk⟩, ?_⟩)
    clear hK
    refine oq 4 (H := fun K hK => ?_)
    refine op_call1 15 _ _ Tryz.f15 (fun v w' => ∃ p l c X, v = .slice p l c ∧ RdP w' p l r.ids X ∧ Below Z2.heap.size Z2 w') rfl rfl Tryz.func15 (by kernel_rfl) (by kernel_rfl) ((rowIdsImpl_any _ r F Z2 HD.out.vr.rd HLN.out.1).mono (by rintro e w' ⟨p, l, c, X, rfl, h1, _, h2, _⟩; exact ⟨_, rfl, p, l, c, X, rfl, h1, h2⟩)) ?_
    rintro v Z3 ⟨po, lo, co, Xo, rfl, hpo, hb⟩
    have HD : Hid (AllR w gr r ar nr kr F gt ec t G pt lq G1 gx x ax nx kx Fx pa pb k M Ya Yb Z3) := HD.out.below hb
    have HIo : Hid (RdP Z3 po lo r.ids Xo ∧ lo ≤ 2097152) := ⟨hpo, by rw [← hpo.length]; have := Rw.ids_len (HLN.out.1); omega⟩
    clear hb hpo
    refine pk (h := hK _ _ ⟨⟨HD.out.vx.blk, HD.out.vr.blk, HD.out.vt.blk⟩, ?_⟩)
    clear hK
    refine oq 5 (H := fun K hK => ?_)
    refine op_call1 14 _ _ Tryz.f14 (fun v w' => v = .int .i64 sr ∧ Below Z3.heap.size Z3 w') rfl rfl Tryz.func14 (by kernel_rfl) (by kernel_rfl) ((sizeImpl_any po lo co r.ids Xo Z3 (HIo.out.1) (HIo.out.2)).mono (by rintro e w' ⟨rfl, hb⟩; exact ⟨_, rfl, by rw [HSZ.out.2.1], hb⟩)) ?_
    rintro v Z4 ⟨rfl, hb⟩
    have HD : Hid (AllR w gr r ar nr kr F gt ec t G pt lq G1 gx x ax nx kx Fx pa pb k M Ya Yb Z4) := HD.out.below hb
    clear hb
    refine pk (h := hK _ _ ⟨⟨HD.out.vx.blk, HD.out.vr.blk, HD.out.vt.blk⟩, ?_⟩)
    clear hK
    refine oq 8 (H := fun K hK => ?_)
    refine op_call1 14 _ _ Tryz.f14 (fun v w' => v = .int .i64 st ∧ Below Z4.heap.size Z4 w') rfl rfl Tryz.func14 (by kernel_rfl) (by kernel_rfl) ((sizeImpl_any pt lq kt t.ids G1 Z4 (HD.out.vi) (HLN.out.2)).mono (by rintro e w' ⟨rfl, hb⟩; exact ⟨_, rfl, by rw [HSZ.out.2.2], hb⟩)) ?_
    rintro v Z5 ⟨rfl, hb⟩
    have HD : Hid (AllR w gr r ar nr kr F gt ec t G pt lq G1 gx x ax nx kx Fx pa pb k M Ya Yb Z5) := HD.out.below hb
    clear hb
    refine pk (h := hK _ _ ⟨⟨HD.out.vx.blk, HD.out.vr.blk, HD.out.vt.blk⟩, ?_⟩)
    clear hK
    refine tk 9 (.int .i64 sx) (H := ⟨(.inl ⟨rfl, fun W _ => by first | (go_simp; done) | (go_simp; exact hwr) | (go_simp; rw [hwr])⟩), ⟨HD.out.vx.blk, HD.out.vr.blk, HD.out.vt.blk⟩, ?_⟩)
    have hss : (sx == sx) = true := by simp
    refine tg 10 (.bool true) (H := ⟨⟨HD.out.vx.blk, HD.out.vr.blk, HD.out.vt.blk⟩, ?_⟩)
    refine tm 11 (.bool true) (H := ⟨⟨HD.out.vx.blk, HD.out.vr.blk, HD.out.vt.blk⟩, ?_⟩)
    refine tg 12 (.pointer (some ⟨gx, 0, none⟩)) (H := ⟨⟨HD.out.vx.blk, HD.out.vr.blk, HD.out.vt.blk⟩, ?_⟩)
    refine tk 13 (.slice ax nx kx) (H := ⟨(.inl ⟨rfl, fun W hW => by have c := hW.1.cell 0; simp only [aT, aZ] at c; go_simp⟩), ⟨HD.out.vx.blk, HD.out.vr.blk, HD.out.vt.blk⟩, ?_⟩)
    refine tg 14 (.int .i64 (nx : Int)) (H := ⟨⟨HD.out.vx.blk, HD.out.vr.blk, HD.out.vt.blk⟩, ?_⟩)
    refine tg 15 (.pointer (some ⟨gr, 0, none⟩)) (H := ⟨⟨HD.out.vx.blk, HD.out.vr.blk, HD.out.vt.blk⟩, ?_⟩)
    refine tk 16 (.slice ar nr kr) (H := ⟨(.inl ⟨rfl, fun W hW => by have c := hW.2.1.cell 0; simp only [aT, aZ] at c; go_simp⟩), ⟨HD.out.vx.blk, HD.out.vr.blk, HD.out.vt.blk⟩, ?_⟩)
    refine tg 17 (.int .i64 (nr : Int)) (H := ⟨⟨HD.out.vx.blk, HD.out.vr.blk, HD.out.vt.blk⟩, ?_⟩)
    refine tk 18 (.int .i64 ((nr : Int) + 1)) (H := ⟨(.inl ⟨rfl, fun W _ => by first | (go_simp; done) | (go_simp; exact hwn) | (go_simp; rw [hwn])⟩), ⟨HD.out.vx.blk, HD.out.vr.blk, HD.out.vt.blk⟩, ?_⟩)
    have hld : decide ((nx : Int) ≤ (nr : Int) + 1) = true := decide_eq_true hxle
    refine tg 19 (.bool true) (H := ⟨⟨HD.out.vx.blk, HD.out.vr.blk, HD.out.vt.blk⟩, ?_⟩)
    refine tm 20 (.bool true) (H := ⟨⟨HD.out.vx.blk, HD.out.vr.blk, HD.out.vt.blk⟩, ?_⟩)
    refine tm 21 (.bool true) (H := ⟨⟨HD.out.vx.blk, HD.out.vr.blk, HD.out.vt.blk⟩, ?_⟩)
    refine wpAnyH_done (by kernel_rfl) ?_ _
    have HEND : Hid (Below w.heap.size w Z5) := HD.out.bel
    clear HD
    go_wp2
    go_ret
    exact ⟨rfl, HEND.out⟩
theorem lifted (os : Os) (started : os.Started) (H : Type) (enc : TypeId × Value → H) :
 ReturnsInHanded {} Tryz.checked os 3 .any (Rows.fnRowsSpec.pre6 enc Tryz.prog Tryz.f3 Rows.fnRowsRow.domain false) (Rows.fnRowsSpec.post enc Tryz.prog Tryz.f3 false true false false) := by
 refine returnsInHanded_of_change (C := Tryz.checked) own started (by kernel_rfl) Tryz.func3
  (ChangeSpec.witness6 (enc := enc) (C := Tryz.checked) false ⟨#[], #[.slice none 0 0], []⟩ 8 (by kernel_rfl) (by kernel_rfl) (by kernel_rfl) (by kernel_rfl)) ?_
 intro W base args ds gs before hval0 hW hcnd _
 have hval : ∀ (j : Nat) t v, Tryz.f3.params[j]? = some t → args[j]? = some v → Value.okWide Tryz.prog W .any base t v := hval0
 have hW' := hW
 obtain ⟨p, q, hA0, hV, rfl, hfz, hnd⟩ := hW
 have hA : DataW.TrodAll enc Tryz.prog W 0 (fun _ => true) true Tryz.f3.params.toList args.toList ds p := hA0
 rw [Tryz.params3] at hA hval
 obtain ⟨v0, vs0, d0, ds0, p0, q0, hargs, rfl, rfl, h0, r0⟩ := trodAll_cons hA
 obtain ⟨rfl, rfl, rfl⟩ := trodAll_nil r0
 obtain rfl : args = #[v0] := by cases args; simp_all
 obtain ⟨rfl, rfl⟩ := trodVars_none hV
 obtain ⟨a0, len0, cap0, rfl⟩ := okWide_slice Tryz.underlying22 (hval 0 22 v0 rfl rfl)
 have k0 := h0
 have lt0 : ∀ x ∈ p0, x.block < W.heap.size := by obtain ⟨m, hm⟩ := k0; exact DataW.trod_lt m _ _ _ hm
 obtain ⟨z0, w0⟩ : ∃ zs, IsRow .u8 W a0 len0 cap0 zs := by
  obtain ⟨fuel, hf⟩ := h0
  rcases open_ints Tryz.underlying22 Tryz.underlying5 (by kernel_rfl) hf with ⟨hcs, _⟩ | ⟨x, l, c, zs, hcs, _, hl, hm, hz, _, hcell, hwz⟩
  ·
   simp [Value.cells] at hcs
   obtain ⟨rfl, rfl, rfl⟩ := hcs
   exact ⟨[], .inl ⟨rfl, rfl, rfl, rfl⟩⟩
  ·
   simp [Value.cells] at hcs
   obtain ⟨rfl, rfl, rfl⟩ := hcs
   exact ⟨zs, .inr ⟨_, rfl, hl, hm, by simpa using hz, hcell, hwz⟩⟩
 clear hA0 hval0
 refine (walk a0 len0 cap0 z0 W w0).mono fun e W' ⟨he, bel⟩ => ?_
 subst he
 exact ⟨_, rfl, _, _, _, [], _, [], hW', trodAll_mk1 (shut_bool Tryz.underlying4 _), (trodAll_cons_mk (Below.trod laidOut (by kernel_rfl) (of_decide_eq_true (by kernel_rfl)) k0 bel lt0) trodAll_mk0), rfl, bel.frame _, fun h => by cases h⟩
theorem over : Rows.fnRowsRow.holds Tryz.pinned (OpenSpec.ofChange Rows.fnRowsSpec) :=
 OpenClaim.holds_of_wide 3 Tryz.f3 rfl rfl rfl rfl rfl rfl rfl ⟨rfl, rfl, rfl, rfl, rfl⟩ rfl rfl rfl rfl rfl (by kernel_rfl) Tryz.func3 (by kernel_rfl)
  (of_decide_eq_true (by kernel_rfl)) (by unfold Func.isWrapper; first | (rw [if_pos (by decide +kernel)]; kernel_rfl) | (rw [if_neg (by decide +kernel)]; exact ⟨rfl, rfl⟩))
  (fun os started H enc _ => lifted os started H enc)
theorem proved : Rows.FnRowsSaid := over
#print axioms proved
end Go.Proofs.YtjnamoppcklomaaGreat.fnRows
