/- For every byte slice (no condition): laws.FnSealed returns true, and its argument reads afterwards as it did: what is sealed is the last, and stays as it was, whatever is heard. -/
import Derived.Test.YtgkbhhlkaifnoaaLawBase
import Derived.Test.YtgkbhhlkaifnoaaB4
import Derived.Test.YtgkbhhlkaifnoaaB5
import Derived.Test.YtgkbhhlkaifnoaaB2
import Derived.Test.YtgkbhhlkaifnoaaB3
import Derived.Test.YtgkbhhlkaifnoaaSkLaw
import Derived.Deep.DeepCutAuto
import Derived.Test.YtgkbhhlkaifnoaaRows
import Derived.WalkKit
import Derived.ProofKit
import Derived.OpenShut
import Derived.ShutString
import Derived.ChangeOld
import Derived.Below
namespace Go.Proofs.Ytgkbhhlkaifnoaa.fnSealed
open Go.ChangeShapes Go.WideShapes Go.ChangeAt Go.RowKit
open Go.ChangeMaps (open_string shut_string)
set_option linter.unusedVariables false

theorem own : ownKnob Try.prog.godebug = none := by kernel_rfl
theorem laidOut : laidOutB Try.prog = true := by kernel_rfl

/-- WHAT THE WALK IS TOLD OF A SLICE OF INTEGERS THAT CAME IN: it is nil; or it leads to a row of 'cap' cells, the numbers 'zs' (the first 'len' are its elements, the rest its spare room), each fitting its kind. -/
def IsRow (k : IntKind) (w : World) (a : Option Addr) (len cap : Nat) (zs : List Int) : Prop :=
 (a = none ∧ len = 0 ∧ cap = 0 ∧ zs = []) ∨
 ∃ x, a = some x ∧ len ≤ cap ∧ cap ≤ maxLen ∧ zs.length = cap ∧ (∀ i, i < zs.length → w.cell? (x.add i) = some (.int k (zs.getD i 0))) ∧ ∀ n ∈ zs, (Lit.int k n).wf = true

/-- An agent in a variable. -/
structure VarA (g : Nat) (x : Ag) (b1 : Option Addr) (n1 c1 : Nat) (b2 : Option Addr) (n2 c2 : Nat) (F G : List Nat) (W : World) : Prop where
 blk : Blk W g #[.int .i64 x.id, .int .i64 x.epoch, .bool x.live, .int .i64 x.granted, .slice b1 n1 c1, .slice b2 n2 c2, .int .i64 x.next] 27
 rl : RdL itK W b1 n1 x.sealed F
 rp : RdP W b2 n2 x.taken G
 k1 : Capd b1 n1 c1
 k2 : Capd b2 n2 c2
section
variable {g : Nat} {x : Ag} {b1 : Option Addr} {n1 c1 : Nat} {b2 : Option Addr} {n2 c2 : Nat} {F G : List Nat} {W W' : World}
theorem VarA.below (h : VarA g x b1 n1 c1 b2 n2 c2 F G W) (k : Below W.heap.size W W') : VarA g x b1 n1 c1 b2 n2 c2 F G W' := ⟨h.blk.below k, h.rl.agree (.below k h.rl.lt), h.rp.below k, h.k1, h.k2⟩
theorem VarA.rd (h : VarA g x b1 n1 c1 b2 n2 c2 F G W) : RdAg W (.agg #[.int .i64 x.id, .int .i64 x.epoch, .bool x.live, .int .i64 x.granted, .slice b1 n1 c1, .slice b2 n2 c2, .int .i64 x.next]) x F G := ⟨b1, n1, c1, b2, n2, c2, rfl, h.rl, h.rp, h.k1, h.k2⟩
end
theorem infoSkL : (Try.prog.info? 34).map (·.size) = some 7 := by kernel_rfl
theorem infoAgL : (Try.prog.info? 27).map (·.size) = some 7 := by kernel_rfl
theorem infoFrL : (Try.prog.info? 38).map (·.size) = some 16 := by kernel_rfl
theorem Ag.hear_sealed (x : Ag) (f : Fr) : (x.hear f).1.sealed = x.sealed := by
 unfold Ag.hear
 split
 ·
  rfl
 split
 ·
  rfl
 split <;> rfl
theorem sk_of_it {W : World} {b o : Nat} {v0 v1 v2 v3 v4 v5 v6 v7 v8 v9 v10 : Value} (h : ∀ j, j < 11 → W.cell? ⟨b, o + j, none⟩ = (#[v0, v1, v2, v3, v4, v5, v6, v7, v8, v9, v10] : Array Value)[j]?) (j : Nat) (hj : j < 7) : W.cell? ⟨b, o + 4 + j, none⟩ = (#[v4, v5, v6, v7, v8, v9, v10] : Array Value)[j]? := by
 have e := h (4 + j) (by omega)
 rw [← Nat.add_assoc] at e
 rw [e]
 match j, hj with
 | 0, _ => rfl
 | 1, _ => rfl
 | 2, _ => rfl
 | 3, _ => rfl
 | 4, _ => rfl
 | 5, _ => rfl
 | 6, _ => rfl
 | n + 7, hn => omega

set_option maxHeartbeats 16000000 in
set_option maxRecDepth 200000 in
theorem walk (a0 : Option Addr) (len0 cap0 : Nat) (z0 : List Int) (w : World) (w0 : IsRow .u8 w a0 len0 cap0 z0) :
 Calls Try.prog 4 #[.slice a0 len0 cap0] w fun e w' => e = .returned (.bool true) ∧ Below w.heap.size w w' := by
 have hR0 := rdOf w0
 have hR := hR0.1
 generalize z0.take len0 = zs at hR
 clear w0 hR0
 have HR : Hid (RdB w a0 len0 zs) := hR
 clear hR
 go_enter Try.func4, Try.ntmps4
 go_wp2_with fail
 refine (big_any a0 len0 cap0 _).mono ?_
 rintro e w1 ⟨rfl, hw1⟩
 have hw1' := hw1.symm
 subst hw1'
 clear hw1
 by_cases hbig : 1048576 < len0
 ·
  have hd : decide ((1048576 : Int) < (len0 : Int)) = true := dec_true (by omega)
  rw [hd]
  clear hd
  go_wp2
  go_ret
  exact ⟨rfl, Below.refl _ _⟩
 have hd : decide ((1048576 : Int) < (len0 : Int)) = false := dec_false (by omega)
 have hlen : len0 ≤ 1048576 := by omega
 rw [hd]
 clear hd hbig
 have BEL : Hid (Below w.heap.size w w) := Below.refl _ _
 go_wp2_with fail
 refine (drawSeal_any a0 len0 cap0 zs _ HR.out hlen).mono ?_
 rintro e w1 ⟨va, us, a, s, cl, ky, wn, F, G, Hs, rfl, ra, rs, hsa, hfl, b1⟩
 obtain ⟨a1, n1, c1, a2, n2, c2, rfl, rla, rpa, kaa, kba⟩ := ra
 obtain ⟨s1, s2, s3, s4, s5, s6, s7, s8, s9, rfl⟩ := rs.cells7
 have BEL : Hid (Below w.heap.size w w1) := Below.next BEL.out b1
 have HSA : Hid ((∀ y ∈ a.sealed, y.sk.fits) ∧ a.sealed.length ≤ 7 ∧ a.taken.length ≤ 8) := ⟨fun y hy => full_fitsG (hsa.1 y hy), hsa.2.1, hsa.2.2.1⟩
 have HSF : Hid s.fits := full_fitsG hfl
 have HRA : Hid (RdL itK w1 a1 n1 a.sealed F ∧ RdP w1 a2 n2 a.taken G ∧ Capd a1 n1 c1 ∧ Capd a2 n2 c2) := ⟨rla, rpa, kaa, kba⟩
 have HRS : Hid (RdSk w1 (.agg #[.int .i64 s.count, .int .i64 s.sum, .int .i64 s.min, .int .i64 s.max, .slice s1 s2 s3, .slice s4 s5 s6, .slice s7 s8 s9]) s Hs) := rs
 clear rla rpa kaa kba rs hsa hfl b1
 have HB : Hid (Blk ((w1.alloc (.cells #[.int .i64 0, .int .i64 0, .bool false, .int .i64 0, .slice none 0 0, .slice none 0 0, .int .i64 0] 27)).alloc (.cells #[.int .i64 0, .int .i64 0, .int .i64 0, .int .i64 0, .slice none 0 0, .slice none 0 0, .slice none 0 0] 34)) w1.heap.size #[.int .i64 0, .int .i64 0, .bool false, .int .i64 0, .slice none 0 0, .slice none 0 0, .int .i64 0] 27 ∧ Blk ((w1.alloc (.cells #[.int .i64 0, .int .i64 0, .bool false, .int .i64 0, .slice none 0 0, .slice none 0 0, .int .i64 0] 27)).alloc (.cells #[.int .i64 0, .int .i64 0, .int .i64 0, .int .i64 0, .slice none 0 0, .slice none 0 0, .slice none 0 0] 34)) (w1.heap.size + 1) #[.int .i64 0, .int .i64 0, .int .i64 0, .int .i64 0, .slice none 0 0, .slice none 0 0, .slice none 0 0] 34 ∧ Below w1.heap.size w1 ((w1.alloc (.cells #[.int .i64 0, .int .i64 0, .bool false, .int .i64 0, .slice none 0 0, .slice none 0 0, .int .i64 0] 27)).alloc (.cells #[.int .i64 0, .int .i64 0, .int .i64 0, .int .i64 0, .slice none 0 0, .slice none 0 0, .slice none 0 0] 34))) := ⟨(Blk.made _ _ _).alloc _, Blk.made_eq (by simp), Below.allocW _ (Below.allocW _ (Below.refl _ _) (Nat.le_refl _)) (Nat.le_refl _)⟩
 go_wp2_with (first | go_skip | (with_reducible refine stopLoad 34 rfl ?_) | (with_reducible refine stopStore 34 rfl ?_) | (with_reducible refine stopLoad 27 rfl ?_) | (with_reducible refine stopStore 27 rfl ?_) | (with_reducible refine stopLoad 38 rfl ?_) | (with_reducible refine stopStore 38 rfl ?_))
 refine store_known 27 w1.heap.size _ #[.int .i64 a.id, .int .i64 a.epoch, .bool a.live, .int .i64 a.granted, .slice a1 n1 c1, .slice a2 n2 c2, .int .i64 a.next] 27 HB.out.1 rfl rfl rfl rfl infoAgL rfl (by simp [Value.oneCell']) ?_
 go_wp2_with (first | go_skip | (with_reducible refine stopLoad 34 rfl ?_) | (with_reducible refine stopStore 34 rfl ?_) | (with_reducible refine stopLoad 27 rfl ?_) | (with_reducible refine stopStore 27 rfl ?_) | (with_reducible refine stopLoad 38 rfl ?_) | (with_reducible refine stopStore 38 rfl ?_))
 refine store_known 34 (w1.heap.size + 1) _ #[.int .i64 s.count, .int .i64 s.sum, .int .i64 s.min, .int .i64 s.max, .slice s1 s2 s3, .slice s4 s5 s6, .slice s7 s8 s9] 34 (HB.out.2.1.setRowOther (by omega)) rfl rfl rfl rfl infoSkL rfl (by simp [Value.oneCell']) ?_
 have hb : Below w1.heap.size w1 ((((w1.alloc (.cells #[.int .i64 0, .int .i64 0, .bool false, .int .i64 0, .slice none 0 0, .slice none 0 0, .int .i64 0] 27)).alloc (.cells #[.int .i64 0, .int .i64 0, .int .i64 0, .int .i64 0, .slice none 0 0, .slice none 0 0, .slice none 0 0] 34)).setRow w1.heap.size #[.int .i64 a.id, .int .i64 a.epoch, .bool a.live, .int .i64 a.granted, .slice a1 n1 c1, .slice a2 n2 c2, .int .i64 a.next]).setRow (w1.heap.size + 1) #[.int .i64 s.count, .int .i64 s.sum, .int .i64 s.min, .int .i64 s.max, .slice s1 s2 s3, .slice s4 s5 s6, .slice s7 s8 s9]) := below_setRow (below_setRow HB.out.2.2 (Nat.le_refl _) _) (by omega) _
 have v1 : Blk ((((w1.alloc (.cells #[.int .i64 0, .int .i64 0, .bool false, .int .i64 0, .slice none 0 0, .slice none 0 0, .int .i64 0] 27)).alloc (.cells #[.int .i64 0, .int .i64 0, .int .i64 0, .int .i64 0, .slice none 0 0, .slice none 0 0, .slice none 0 0] 34)).setRow w1.heap.size #[.int .i64 a.id, .int .i64 a.epoch, .bool a.live, .int .i64 a.granted, .slice a1 n1 c1, .slice a2 n2 c2, .int .i64 a.next]).setRow (w1.heap.size + 1) #[.int .i64 s.count, .int .i64 s.sum, .int .i64 s.min, .int .i64 s.max, .slice s1 s2 s3, .slice s4 s5 s6, .slice s7 s8 s9]) w1.heap.size #[.int .i64 a.id, .int .i64 a.epoch, .bool a.live, .int .i64 a.granted, .slice a1 n1 c1, .slice a2 n2 c2, .int .i64 a.next] 27 := HB.out.1.setRow.setRowOther (by omega)
 have v2 : Blk ((((w1.alloc (.cells #[.int .i64 0, .int .i64 0, .bool false, .int .i64 0, .slice none 0 0, .slice none 0 0, .int .i64 0] 27)).alloc (.cells #[.int .i64 0, .int .i64 0, .int .i64 0, .int .i64 0, .slice none 0 0, .slice none 0 0, .slice none 0 0] 34)).setRow w1.heap.size #[.int .i64 a.id, .int .i64 a.epoch, .bool a.live, .int .i64 a.granted, .slice a1 n1 c1, .slice a2 n2 c2, .int .i64 a.next]).setRow (w1.heap.size + 1) #[.int .i64 s.count, .int .i64 s.sum, .int .i64 s.min, .int .i64 s.max, .slice s1 s2 s3, .slice s4 s5 s6, .slice s7 s8 s9]) (w1.heap.size + 1) #[.int .i64 s.count, .int .i64 s.sum, .int .i64 s.min, .int .i64 s.max, .slice s1 s2 s3, .slice s4 s5 s6, .slice s7 s8 s9] 34 := (HB.out.2.1.setRowOther (by omega)).setRow
 obtain ⟨w2, hW2⟩ : ∃ Z, Z = ((((w1.alloc (.cells #[.int .i64 0, .int .i64 0, .bool false, .int .i64 0, .slice none 0 0, .slice none 0 0, .int .i64 0] 27)).alloc (.cells #[.int .i64 0, .int .i64 0, .int .i64 0, .int .i64 0, .slice none 0 0, .slice none 0 0, .slice none 0 0] 34)).setRow w1.heap.size #[.int .i64 a.id, .int .i64 a.epoch, .bool a.live, .int .i64 a.granted, .slice a1 n1 c1, .slice a2 n2 c2, .int .i64 a.next]).setRow (w1.heap.size + 1) #[.int .i64 s.count, .int .i64 s.sum, .int .i64 s.min, .int .i64 s.max, .slice s1 s2 s3, .slice s4 s5 s6, .slice s7 s8 s9]) := ⟨_, rfl⟩
 rw [← hW2] at hb v1 v2 ⊢
 obtain ⟨ga, hga⟩ : ∃ g, g = w1.heap.size := ⟨_, rfl⟩
 obtain ⟨gs, hgf⟩ : ∃ g, g = w1.heap.size + 1 := ⟨_, rfl⟩
 rw [← hgf] at v2 ⊢
 rw [← hga] at v1 ⊢
 have BEL : Hid (Below w.heap.size w w2) := Below.next BEL.out hb
 have Va : Hid (VarA ga a a1 n1 c1 a2 n2 c2 F G w2) := ⟨v1, HRA.out.1.agree (.below hb HRA.out.1.lt), HRA.out.2.1.below hb, HRA.out.2.2.1, HRA.out.2.2.2⟩
 have Vs : Hid (Blk w2 gs #[.int .i64 s.count, .int .i64 s.sum, .int .i64 s.min, .int .i64 s.max, .slice s1 s2 s3, .slice s4 s5 s6, .slice s7 s8 s9] 34 ∧ RdSk w2 (.agg #[.int .i64 s.count, .int .i64 s.sum, .int .i64 s.min, .int .i64 s.max, .slice s1 s2 s3, .slice s4 s5 s6, .slice s7 s8 s9]) s Hs) := ⟨v2, HRS.out.below hb⟩
 clear hb v1 v2 hW2 hga hgf HB HRA HRS
 obtain ⟨z, hz⟩ : ∃ z, z = a.seal cl ky wn s := ⟨_, rfl⟩
 have HZ : Hid (a.seal cl ky wn s = z) := hz.symm
 clear hz
 obtain ⟨x, sq⟩ := z
 go_wp2_with (first | go_skip | (with_reducible refine stopLoad 34 rfl ?_) | (with_reducible refine stopStore 34 rfl ?_) | (with_reducible refine stopLoad 27 rfl ?_) | (with_reducible refine stopStore 27 rfl ?_) | (with_reducible refine stopLoad 38 rfl ?_) | (with_reducible refine stopStore 38 rfl ?_))
 refine load_known 27 ga #[.int .i64 a.id, .int .i64 a.epoch, .bool a.live, .int .i64 a.granted, .slice a1 n1 c1, .slice a2 n2 c2, .int .i64 a.next] 27 _ Va.out.blk rfl rfl rfl Try.underlying27 rfl infoAgL ?_
 go_wp2_with (first | go_skip | (with_reducible refine stopLoad 34 rfl ?_) | (with_reducible refine stopStore 34 rfl ?_) | (with_reducible refine stopLoad 27 rfl ?_) | (with_reducible refine stopStore 27 rfl ?_) | (with_reducible refine stopLoad 38 rfl ?_) | (with_reducible refine stopStore 38 rfl ?_))
 refine load_known 34 gs #[.int .i64 s.count, .int .i64 s.sum, .int .i64 s.min, .int .i64 s.max, .slice s1 s2 s3, .slice s4 s5 s6, .slice s7 s8 s9] 34 _ Vs.out.1 rfl rfl rfl Try.underlying34 rfl infoSkL ?_
 go_wp2_with fail
 refine (sealImpl_any _ _ a cl ky wn s F G Hs _ Va.out.rd Vs.out.2 HSA.out.1 (by have := HSA.out.2.1; omega) (by have := HSA.out.2.2; omega) HSF.out).mono ?_
 intro e w3 hh
 rw [HZ.out] at hh
 obtain ⟨zv, Fx, Gx, cc, rfl, ⟨x1, n3, c3, x2, n4, c4, rfl, rlx, rpx, kax, kbx⟩, hcc, _, _, _, bb⟩ := hh
 obtain rfl : sq = cc := hcc.symm
 have BEL : Hid (Below w.heap.size w w3) := Below.next BEL.out bb
 have Va : Hid (VarA ga a a1 n1 c1 a2 n2 c2 F G w3) := Va.out.below bb
 have Vs : Hid (Blk w3 gs #[.int .i64 s.count, .int .i64 s.sum, .int .i64 s.min, .int .i64 s.max, .slice s1 s2 s3, .slice s4 s5 s6, .slice s7 s8 s9] 34 ∧ RdSk w3 (.agg #[.int .i64 s.count, .int .i64 s.sum, .int .i64 s.min, .int .i64 s.max, .slice s1 s2 s3, .slice s4 s5 s6, .slice s7 s8 s9]) s Hs) := ⟨Vs.out.1.below bb, Vs.out.2.below bb⟩
 clear bb
 have Rx : Hid (RdL itK w3 x1 n3 x.sealed Fx ∧ RdP w3 x2 n4 x.taken Gx ∧ Capd x1 n3 c3 ∧ Capd x2 n4 c4) := ⟨rlx, rpx, kax, kbx⟩
 clear rlx rpx kax kbx
 go_wp2_with (first | go_skip | (with_reducible refine stopLoad 34 rfl ?_) | (with_reducible refine stopStore 34 rfl ?_) | (with_reducible refine stopLoad 27 rfl ?_) | (with_reducible refine stopStore 27 rfl ?_) | (with_reducible refine stopLoad 38 rfl ?_) | (with_reducible refine stopStore 38 rfl ?_))
 refine store_fresh 27 w3.heap.size rfl #[.int .i64 0, .int .i64 0, .bool false, .int .i64 0, .slice none 0 0, .slice none 0 0, .int .i64 0] #[.int .i64 x.id, .int .i64 x.epoch, .bool x.live, .int .i64 x.granted, .slice x1 n3 c3, .slice x2 n4 c4, .int .i64 x.next] 27 rfl rfl rfl rfl infoAgL rfl (by simp [Value.oneCell']) ?_
 intro w4 hg hb
 have BEL : Hid (Below w.heap.size w w4) := Below.next BEL.out hb
 have Va : Hid (VarA ga a a1 n1 c1 a2 n2 c2 F G w4) := Va.out.below hb
 have Vs : Hid (Blk w4 gs #[.int .i64 s.count, .int .i64 s.sum, .int .i64 s.min, .int .i64 s.max, .slice s1 s2 s3, .slice s4 s5 s6, .slice s7 s8 s9] 34 ∧ RdSk w4 (.agg #[.int .i64 s.count, .int .i64 s.sum, .int .i64 s.min, .int .i64 s.max, .slice s1 s2 s3, .slice s4 s5 s6, .slice s7 s8 s9]) s Hs) := ⟨Vs.out.1.below hb, Vs.out.2.below hb⟩
 obtain ⟨gx, hgv⟩ : ∃ g, g = w3.heap.size := ⟨_, rfl⟩
 rw [← hgv] at hg ⊢
 have Vx : Hid (VarA gx x x1 n3 c3 x2 n4 c4 Fx Gx w4) := ⟨hg, Rx.out.1.agree (.below hb Rx.out.1.lt), Rx.out.2.1.below hb, Rx.out.2.2.1, Rx.out.2.2.2⟩
 clear hg hb hgv Rx
 go_wp2_with (first | go_skip | (with_reducible refine stopLoad 34 rfl ?_) | (with_reducible refine stopStore 34 rfl ?_) | (with_reducible refine stopLoad 27 rfl ?_) | (with_reducible refine stopStore 27 rfl ?_) | (with_reducible refine stopLoad 38 rfl ?_) | (with_reducible refine stopStore 38 rfl ?_))
 refine load_known 27 ga #[.int .i64 a.id, .int .i64 a.epoch, .bool a.live, .int .i64 a.granted, .slice a1 n1 c1, .slice a2 n2 c2, .int .i64 a.next] 27 _ Va.out.blk rfl rfl rfl Try.underlying27 rfl infoAgL ?_
 go_wp2_with (first | go_skip | (with_reducible refine stopLoad 34 rfl ?_) | (with_reducible refine stopStore 34 rfl ?_) | (with_reducible refine stopLoad 27 rfl ?_) | (with_reducible refine stopStore 27 rfl ?_) | (with_reducible refine stopLoad 38 rfl ?_) | (with_reducible refine stopStore 38 rfl ?_))
 refine load_known 34 gs #[.int .i64 s.count, .int .i64 s.sum, .int .i64 s.min, .int .i64 s.max, .slice s1 s2 s3, .slice s4 s5 s6, .slice s7 s8 s9] 34 _ Vs.out.1 rfl rfl rfl Try.underlying34 rfl infoSkL ?_
 go_wp2_with fail
 refine (sealSpec_any _ _ a cl ky wn s F G Hs _ Va.out.rd Vs.out.2 HSA.out.1 (by have := HSA.out.2.1; omega) (by have := HSA.out.2.2; omega) HSF.out).mono ?_
 intro e w5 hh
 rw [HZ.out] at hh
 obtain ⟨zv, Fv, Gv, cc, rfl, ⟨v1, n5, c5, v2, n6, c6, rfl, rlv, rpv, kav, kbv⟩, hcc, _, _, _, bb⟩ := hh
 obtain rfl : sq = cc := hcc.symm
 have BEL : Hid (Below w.heap.size w w5) := Below.next BEL.out bb
 have Va : Hid (VarA ga a a1 n1 c1 a2 n2 c2 F G w5) := Va.out.below bb
 have Vs : Hid (Blk w5 gs #[.int .i64 s.count, .int .i64 s.sum, .int .i64 s.min, .int .i64 s.max, .slice s1 s2 s3, .slice s4 s5 s6, .slice s7 s8 s9] 34 ∧ RdSk w5 (.agg #[.int .i64 s.count, .int .i64 s.sum, .int .i64 s.min, .int .i64 s.max, .slice s1 s2 s3, .slice s4 s5 s6, .slice s7 s8 s9]) s Hs) := ⟨Vs.out.1.below bb, Vs.out.2.below bb⟩
 have Vx : Hid (VarA gx x x1 n3 c3 x2 n4 c4 Fx Gx w5) := Vx.out.below bb
 clear bb
 have Rv : Hid (RdL itK w5 v1 n5 x.sealed Fv ∧ RdP w5 v2 n6 x.taken Gv ∧ Capd v1 n5 c5 ∧ Capd v2 n6 c6) := ⟨rlv, rpv, kav, kbv⟩
 clear rlv rpv kav kbv
 go_wp2_with (first | go_skip | (with_reducible refine stopLoad 34 rfl ?_) | (with_reducible refine stopStore 34 rfl ?_) | (with_reducible refine stopLoad 27 rfl ?_) | (with_reducible refine stopStore 27 rfl ?_) | (with_reducible refine stopLoad 38 rfl ?_) | (with_reducible refine stopStore 38 rfl ?_))
 refine store_fresh 27 w5.heap.size rfl #[.int .i64 0, .int .i64 0, .bool false, .int .i64 0, .slice none 0 0, .slice none 0 0, .int .i64 0] #[.int .i64 x.id, .int .i64 x.epoch, .bool x.live, .int .i64 x.granted, .slice v1 n5 c5, .slice v2 n6 c6, .int .i64 x.next] 27 rfl rfl rfl rfl infoAgL rfl (by simp [Value.oneCell']) ?_
 intro w6 hg hb
 have BEL : Hid (Below w.heap.size w w6) := Below.next BEL.out hb
 have Va : Hid (VarA ga a a1 n1 c1 a2 n2 c2 F G w6) := Va.out.below hb
 have Vs : Hid (Blk w6 gs #[.int .i64 s.count, .int .i64 s.sum, .int .i64 s.min, .int .i64 s.max, .slice s1 s2 s3, .slice s4 s5 s6, .slice s7 s8 s9] 34 ∧ RdSk w6 (.agg #[.int .i64 s.count, .int .i64 s.sum, .int .i64 s.min, .int .i64 s.max, .slice s1 s2 s3, .slice s4 s5 s6, .slice s7 s8 s9]) s Hs) := ⟨Vs.out.1.below hb, Vs.out.2.below hb⟩
 have Vx : Hid (VarA gx x x1 n3 c3 x2 n4 c4 Fx Gx w6) := Vx.out.below hb
 obtain ⟨gv, hgv⟩ : ∃ g, g = w5.heap.size := ⟨_, rfl⟩
 rw [← hgv] at hg ⊢
 have Vv : Hid (VarA gv x v1 n5 c5 v2 n6 c6 Fv Gv w6) := ⟨hg, Rv.out.1.agree (.below hb Rv.out.1.lt), Rv.out.2.1.below hb, Rv.out.2.2.1, Rv.out.2.2.2⟩
 clear hg hb hgv Rv
 have hsn : (sq != sq) = false := by simp
 clear Vv
 go_wp2_with fail
 refine (drawAgentHear_any a0 len0 cap0 zs _ (HR.out.below BEL.out) hlen).mono ?_
 rintro e w7 ⟨va, vf, b, f, Fb, Gb, F', G', rfl, ra, rf, hsa, hsf, b1⟩
 obtain ⟨q1, l1, k1, q2, l2, k2, rfl, rla, rpa, kaa, kba⟩ := ra
 obtain ⟨bt, lt, ct, p1, m1, e1, p2, m2, e2, p3, m3, e3, rfl, kP, kI, kc⟩ := rf
 have BEL : Hid (Below w.heap.size w w7) := Below.next BEL.out b1
 have Va : Hid (VarA ga a a1 n1 c1 a2 n2 c2 F G w7) := Va.out.below b1
 have Vs : Hid (Blk w7 gs #[.int .i64 s.count, .int .i64 s.sum, .int .i64 s.min, .int .i64 s.max, .slice s1 s2 s3, .slice s4 s5 s6, .slice s7 s8 s9] 34 ∧ RdSk w7 (.agg #[.int .i64 s.count, .int .i64 s.sum, .int .i64 s.min, .int .i64 s.max, .slice s1 s2 s3, .slice s4 s5 s6, .slice s7 s8 s9]) s Hs) := ⟨Vs.out.1.below b1, Vs.out.2.below b1⟩
 have Vx : Hid (VarA gx x x1 n3 c3 x2 n4 c4 Fx Gx w7) := Vx.out.below b1
 clear hsn
 have HSB : Hid ((∀ y ∈ b.sealed, y.sk.fits) ∧ b.sealed.length ≤ 7 ∧ b.taken.length ≤ 8) := ⟨fun y hy => full_fitsG (hsa.1 y hy), hsa.2.1, hsa.2.2.1⟩
 have HFR : Hid (f.item.sk.wide ∧ f.taken.length ≤ 20) := hsf
 have HRA : Hid (RdL itK w7 q1 l1 b.sealed Fb ∧ RdP w7 q2 l2 b.taken Gb ∧ Capd q1 l1 k1 ∧ Capd q2 l2 k2) := ⟨rla, rpa, kaa, kba⟩
 have HRF : Hid (RdFr w7 (.agg #[.int .i64 f.kind, .int .i64 f.agent, .int .i64 f.epoch, .int .i64 f.granted, .slice bt lt ct, .int .i64 f.item.seq, .int .i64 f.item.cls, .int .i64 f.item.key, .int .i64 f.item.window, .int .i64 f.item.sk.count, .int .i64 f.item.sk.sum, .int .i64 f.item.sk.min, .int .i64 f.item.sk.max, .slice p1 m1 e1, .slice p2 m2 e2, .slice p3 m3 e3]) f F' G') := ⟨bt, lt, ct, p1, m1, e1, p2, m2, e2, p3, m3, e3, rfl, kP, kI, kc⟩
 clear rla rpa kaa kba kP kI kc hsa hsf b1
 have HB : Hid (Blk ((w7.alloc (.cells #[.int .i64 0, .int .i64 0, .bool false, .int .i64 0, .slice none 0 0, .slice none 0 0, .int .i64 0] 27)).alloc (.cells #[.int .i64 0, .int .i64 0, .int .i64 0, .int .i64 0, .slice none 0 0, .int .i64 0, .int .i64 0, .int .i64 0, .int .i64 0, .int .i64 0, .int .i64 0, .int .i64 0, .int .i64 0, .slice none 0 0, .slice none 0 0, .slice none 0 0] 38)) w7.heap.size #[.int .i64 0, .int .i64 0, .bool false, .int .i64 0, .slice none 0 0, .slice none 0 0, .int .i64 0] 27 ∧ Blk ((w7.alloc (.cells #[.int .i64 0, .int .i64 0, .bool false, .int .i64 0, .slice none 0 0, .slice none 0 0, .int .i64 0] 27)).alloc (.cells #[.int .i64 0, .int .i64 0, .int .i64 0, .int .i64 0, .slice none 0 0, .int .i64 0, .int .i64 0, .int .i64 0, .int .i64 0, .int .i64 0, .int .i64 0, .int .i64 0, .int .i64 0, .slice none 0 0, .slice none 0 0, .slice none 0 0] 38)) (w7.heap.size + 1) #[.int .i64 0, .int .i64 0, .int .i64 0, .int .i64 0, .slice none 0 0, .int .i64 0, .int .i64 0, .int .i64 0, .int .i64 0, .int .i64 0, .int .i64 0, .int .i64 0, .int .i64 0, .slice none 0 0, .slice none 0 0, .slice none 0 0] 38 ∧ Below w7.heap.size w7 ((w7.alloc (.cells #[.int .i64 0, .int .i64 0, .bool false, .int .i64 0, .slice none 0 0, .slice none 0 0, .int .i64 0] 27)).alloc (.cells #[.int .i64 0, .int .i64 0, .int .i64 0, .int .i64 0, .slice none 0 0, .int .i64 0, .int .i64 0, .int .i64 0, .int .i64 0, .int .i64 0, .int .i64 0, .int .i64 0, .int .i64 0, .slice none 0 0, .slice none 0 0, .slice none 0 0] 38))) := ⟨(Blk.made _ _ _).alloc _, Blk.made_eq (by simp), Below.allocW _ (Below.allocW _ (Below.refl _ _) (Nat.le_refl _)) (Nat.le_refl _)⟩
 go_wp2_with (first | go_skip | (with_reducible refine stopLoad 34 rfl ?_) | (with_reducible refine stopStore 34 rfl ?_) | (with_reducible refine stopLoad 27 rfl ?_) | (with_reducible refine stopStore 27 rfl ?_) | (with_reducible refine stopLoad 38 rfl ?_) | (with_reducible refine stopStore 38 rfl ?_))
 refine store_known 27 w7.heap.size _ #[.int .i64 b.id, .int .i64 b.epoch, .bool b.live, .int .i64 b.granted, .slice q1 l1 k1, .slice q2 l2 k2, .int .i64 b.next] 27 HB.out.1 rfl rfl rfl rfl infoAgL rfl (by simp [Value.oneCell']) ?_
 go_wp2_with (first | go_skip | (with_reducible refine stopLoad 34 rfl ?_) | (with_reducible refine stopStore 34 rfl ?_) | (with_reducible refine stopLoad 27 rfl ?_) | (with_reducible refine stopStore 27 rfl ?_) | (with_reducible refine stopLoad 38 rfl ?_) | (with_reducible refine stopStore 38 rfl ?_))
 refine store_known 38 (w7.heap.size + 1) _ #[.int .i64 f.kind, .int .i64 f.agent, .int .i64 f.epoch, .int .i64 f.granted, .slice bt lt ct, .int .i64 f.item.seq, .int .i64 f.item.cls, .int .i64 f.item.key, .int .i64 f.item.window, .int .i64 f.item.sk.count, .int .i64 f.item.sk.sum, .int .i64 f.item.sk.min, .int .i64 f.item.sk.max, .slice p1 m1 e1, .slice p2 m2 e2, .slice p3 m3 e3] 38 (HB.out.2.1.setRowOther (by omega)) rfl rfl rfl rfl infoFrL rfl (by simp [Value.oneCell']) ?_
 have hb : Below w7.heap.size w7 ((((w7.alloc (.cells #[.int .i64 0, .int .i64 0, .bool false, .int .i64 0, .slice none 0 0, .slice none 0 0, .int .i64 0] 27)).alloc (.cells #[.int .i64 0, .int .i64 0, .int .i64 0, .int .i64 0, .slice none 0 0, .int .i64 0, .int .i64 0, .int .i64 0, .int .i64 0, .int .i64 0, .int .i64 0, .int .i64 0, .int .i64 0, .slice none 0 0, .slice none 0 0, .slice none 0 0] 38)).setRow w7.heap.size #[.int .i64 b.id, .int .i64 b.epoch, .bool b.live, .int .i64 b.granted, .slice q1 l1 k1, .slice q2 l2 k2, .int .i64 b.next]).setRow (w7.heap.size + 1) #[.int .i64 f.kind, .int .i64 f.agent, .int .i64 f.epoch, .int .i64 f.granted, .slice bt lt ct, .int .i64 f.item.seq, .int .i64 f.item.cls, .int .i64 f.item.key, .int .i64 f.item.window, .int .i64 f.item.sk.count, .int .i64 f.item.sk.sum, .int .i64 f.item.sk.min, .int .i64 f.item.sk.max, .slice p1 m1 e1, .slice p2 m2 e2, .slice p3 m3 e3]) := below_setRow (below_setRow HB.out.2.2 (Nat.le_refl _) _) (by omega) _
 have v1 : Blk ((((w7.alloc (.cells #[.int .i64 0, .int .i64 0, .bool false, .int .i64 0, .slice none 0 0, .slice none 0 0, .int .i64 0] 27)).alloc (.cells #[.int .i64 0, .int .i64 0, .int .i64 0, .int .i64 0, .slice none 0 0, .int .i64 0, .int .i64 0, .int .i64 0, .int .i64 0, .int .i64 0, .int .i64 0, .int .i64 0, .int .i64 0, .slice none 0 0, .slice none 0 0, .slice none 0 0] 38)).setRow w7.heap.size #[.int .i64 b.id, .int .i64 b.epoch, .bool b.live, .int .i64 b.granted, .slice q1 l1 k1, .slice q2 l2 k2, .int .i64 b.next]).setRow (w7.heap.size + 1) #[.int .i64 f.kind, .int .i64 f.agent, .int .i64 f.epoch, .int .i64 f.granted, .slice bt lt ct, .int .i64 f.item.seq, .int .i64 f.item.cls, .int .i64 f.item.key, .int .i64 f.item.window, .int .i64 f.item.sk.count, .int .i64 f.item.sk.sum, .int .i64 f.item.sk.min, .int .i64 f.item.sk.max, .slice p1 m1 e1, .slice p2 m2 e2, .slice p3 m3 e3]) w7.heap.size #[.int .i64 b.id, .int .i64 b.epoch, .bool b.live, .int .i64 b.granted, .slice q1 l1 k1, .slice q2 l2 k2, .int .i64 b.next] 27 := HB.out.1.setRow.setRowOther (by omega)
 have v2 : Blk ((((w7.alloc (.cells #[.int .i64 0, .int .i64 0, .bool false, .int .i64 0, .slice none 0 0, .slice none 0 0, .int .i64 0] 27)).alloc (.cells #[.int .i64 0, .int .i64 0, .int .i64 0, .int .i64 0, .slice none 0 0, .int .i64 0, .int .i64 0, .int .i64 0, .int .i64 0, .int .i64 0, .int .i64 0, .int .i64 0, .int .i64 0, .slice none 0 0, .slice none 0 0, .slice none 0 0] 38)).setRow w7.heap.size #[.int .i64 b.id, .int .i64 b.epoch, .bool b.live, .int .i64 b.granted, .slice q1 l1 k1, .slice q2 l2 k2, .int .i64 b.next]).setRow (w7.heap.size + 1) #[.int .i64 f.kind, .int .i64 f.agent, .int .i64 f.epoch, .int .i64 f.granted, .slice bt lt ct, .int .i64 f.item.seq, .int .i64 f.item.cls, .int .i64 f.item.key, .int .i64 f.item.window, .int .i64 f.item.sk.count, .int .i64 f.item.sk.sum, .int .i64 f.item.sk.min, .int .i64 f.item.sk.max, .slice p1 m1 e1, .slice p2 m2 e2, .slice p3 m3 e3]) (w7.heap.size + 1) #[.int .i64 f.kind, .int .i64 f.agent, .int .i64 f.epoch, .int .i64 f.granted, .slice bt lt ct, .int .i64 f.item.seq, .int .i64 f.item.cls, .int .i64 f.item.key, .int .i64 f.item.window, .int .i64 f.item.sk.count, .int .i64 f.item.sk.sum, .int .i64 f.item.sk.min, .int .i64 f.item.sk.max, .slice p1 m1 e1, .slice p2 m2 e2, .slice p3 m3 e3] 38 := (HB.out.2.1.setRowOther (by omega)).setRow
 obtain ⟨w8, hW2⟩ : ∃ Z, Z = ((((w7.alloc (.cells #[.int .i64 0, .int .i64 0, .bool false, .int .i64 0, .slice none 0 0, .slice none 0 0, .int .i64 0] 27)).alloc (.cells #[.int .i64 0, .int .i64 0, .int .i64 0, .int .i64 0, .slice none 0 0, .int .i64 0, .int .i64 0, .int .i64 0, .int .i64 0, .int .i64 0, .int .i64 0, .int .i64 0, .int .i64 0, .slice none 0 0, .slice none 0 0, .slice none 0 0] 38)).setRow w7.heap.size #[.int .i64 b.id, .int .i64 b.epoch, .bool b.live, .int .i64 b.granted, .slice q1 l1 k1, .slice q2 l2 k2, .int .i64 b.next]).setRow (w7.heap.size + 1) #[.int .i64 f.kind, .int .i64 f.agent, .int .i64 f.epoch, .int .i64 f.granted, .slice bt lt ct, .int .i64 f.item.seq, .int .i64 f.item.cls, .int .i64 f.item.key, .int .i64 f.item.window, .int .i64 f.item.sk.count, .int .i64 f.item.sk.sum, .int .i64 f.item.sk.min, .int .i64 f.item.sk.max, .slice p1 m1 e1, .slice p2 m2 e2, .slice p3 m3 e3]) := ⟨_, rfl⟩
 rw [← hW2] at hb v1 v2 ⊢
 obtain ⟨gb, hga⟩ : ∃ g, g = w7.heap.size := ⟨_, rfl⟩
 obtain ⟨gf, hgf⟩ : ∃ g, g = w7.heap.size + 1 := ⟨_, rfl⟩
 rw [← hgf] at v2 ⊢
 rw [← hga] at v1 ⊢
 have BEL : Hid (Below w.heap.size w w8) := Below.next BEL.out hb
 have Va : Hid (VarA ga a a1 n1 c1 a2 n2 c2 F G w8) := Va.out.below hb
 have Vs : Hid (Blk w8 gs #[.int .i64 s.count, .int .i64 s.sum, .int .i64 s.min, .int .i64 s.max, .slice s1 s2 s3, .slice s4 s5 s6, .slice s7 s8 s9] 34 ∧ RdSk w8 (.agg #[.int .i64 s.count, .int .i64 s.sum, .int .i64 s.min, .int .i64 s.max, .slice s1 s2 s3, .slice s4 s5 s6, .slice s7 s8 s9]) s Hs) := ⟨Vs.out.1.below hb, Vs.out.2.below hb⟩
 have Vx : Hid (VarA gx x x1 n3 c3 x2 n4 c4 Fx Gx w8) := Vx.out.below hb
 have Vb : Hid (VarA gb b q1 l1 k1 q2 l2 k2 Fb Gb w8) := ⟨v1, HRA.out.1.agree (.below hb HRA.out.1.lt), HRA.out.2.1.below hb, HRA.out.2.2.1, HRA.out.2.2.2⟩
 have Vf : Hid (Blk w8 gf #[.int .i64 f.kind, .int .i64 f.agent, .int .i64 f.epoch, .int .i64 f.granted, .slice bt lt ct, .int .i64 f.item.seq, .int .i64 f.item.cls, .int .i64 f.item.key, .int .i64 f.item.window, .int .i64 f.item.sk.count, .int .i64 f.item.sk.sum, .int .i64 f.item.sk.min, .int .i64 f.item.sk.max, .slice p1 m1 e1, .slice p2 m2 e2, .slice p3 m3 e3] 38 ∧ RdFr w8 (.agg #[.int .i64 f.kind, .int .i64 f.agent, .int .i64 f.epoch, .int .i64 f.granted, .slice bt lt ct, .int .i64 f.item.seq, .int .i64 f.item.cls, .int .i64 f.item.key, .int .i64 f.item.window, .int .i64 f.item.sk.count, .int .i64 f.item.sk.sum, .int .i64 f.item.sk.min, .int .i64 f.item.sk.max, .slice p1 m1 e1, .slice p2 m2 e2, .slice p3 m3 e3]) f F' G') := ⟨v2, HRF.out.below hb⟩
 clear hb v1 v2 hW2 hga hgf HB HRA HRF
 obtain ⟨z, hz⟩ : ∃ z, z = b.hear f := ⟨_, rfl⟩
 have HY : Hid (b.hear f = z) := hz.symm
 have HYS : Hid (z.1.sealed = b.sealed) := by show _ = _; rw [hz]; exact Ag.hear_sealed b f
 clear hz
 obtain ⟨y, cd⟩ := z
 have HYS : Hid (y.sealed = b.sealed) := HYS
 go_wp2_with (first | go_skip | (with_reducible refine stopLoad 34 rfl ?_) | (with_reducible refine stopStore 34 rfl ?_) | (with_reducible refine stopLoad 27 rfl ?_) | (with_reducible refine stopStore 27 rfl ?_) | (with_reducible refine stopLoad 38 rfl ?_) | (with_reducible refine stopStore 38 rfl ?_))
 refine load_known 27 gb #[.int .i64 b.id, .int .i64 b.epoch, .bool b.live, .int .i64 b.granted, .slice q1 l1 k1, .slice q2 l2 k2, .int .i64 b.next] 27 _ Vb.out.blk rfl rfl rfl Try.underlying27 rfl infoAgL ?_
 go_wp2_with (first | go_skip | (with_reducible refine stopLoad 34 rfl ?_) | (with_reducible refine stopStore 34 rfl ?_) | (with_reducible refine stopLoad 27 rfl ?_) | (with_reducible refine stopStore 27 rfl ?_) | (with_reducible refine stopLoad 38 rfl ?_) | (with_reducible refine stopStore 38 rfl ?_))
 refine load_known 38 gf #[.int .i64 f.kind, .int .i64 f.agent, .int .i64 f.epoch, .int .i64 f.granted, .slice bt lt ct, .int .i64 f.item.seq, .int .i64 f.item.cls, .int .i64 f.item.key, .int .i64 f.item.window, .int .i64 f.item.sk.count, .int .i64 f.item.sk.sum, .int .i64 f.item.sk.min, .int .i64 f.item.sk.max, .slice p1 m1 e1, .slice p2 m2 e2, .slice p3 m3 e3] 38 _ Vf.out.1 rfl rfl rfl Try.underlying38 rfl infoFrL ?_
 go_wp2_with fail
 refine (hearImpl_any _ _ b f Fb Gb F' G' _ Vb.out.rd Vf.out.2 HSB.out.1 (by have := HSB.out.2.1; omega) (by have := HSB.out.2.2; omega) HFR.out.1 (by have := HFR.out.2; omega)).mono ?_
 intro e w9 hh
 rw [HY.out] at hh
 obtain ⟨zv, Fy, Gy, cc, rfl, ⟨y1, n7, c7, y2, n8, c8, rfl, rly, rpy, kay, kby⟩, hcc, _, _, _, bb⟩ := hh
 obtain rfl : cd = cc := hcc.symm
 obtain rfl : l1 = n7 := by have h1 : y.sealed.length = n7 := rly.length; rw [HYS.out] at h1; exact Vb.out.rl.length.symm.trans h1
 have BEL : Hid (Below w.heap.size w w9) := Below.next BEL.out bb
 have Va : Hid (VarA ga a a1 n1 c1 a2 n2 c2 F G w9) := Va.out.below bb
 have Vs : Hid (Blk w9 gs #[.int .i64 s.count, .int .i64 s.sum, .int .i64 s.min, .int .i64 s.max, .slice s1 s2 s3, .slice s4 s5 s6, .slice s7 s8 s9] 34 ∧ RdSk w9 (.agg #[.int .i64 s.count, .int .i64 s.sum, .int .i64 s.min, .int .i64 s.max, .slice s1 s2 s3, .slice s4 s5 s6, .slice s7 s8 s9]) s Hs) := ⟨Vs.out.1.below bb, Vs.out.2.below bb⟩
 have Vx : Hid (VarA gx x x1 n3 c3 x2 n4 c4 Fx Gx w9) := Vx.out.below bb
 have Vb : Hid (VarA gb b q1 l1 k1 q2 l2 k2 Fb Gb w9) := Vb.out.below bb
 have Vf : Hid (Blk w9 gf #[.int .i64 f.kind, .int .i64 f.agent, .int .i64 f.epoch, .int .i64 f.granted, .slice bt lt ct, .int .i64 f.item.seq, .int .i64 f.item.cls, .int .i64 f.item.key, .int .i64 f.item.window, .int .i64 f.item.sk.count, .int .i64 f.item.sk.sum, .int .i64 f.item.sk.min, .int .i64 f.item.sk.max, .slice p1 m1 e1, .slice p2 m2 e2, .slice p3 m3 e3] 38 ∧ RdFr w9 (.agg #[.int .i64 f.kind, .int .i64 f.agent, .int .i64 f.epoch, .int .i64 f.granted, .slice bt lt ct, .int .i64 f.item.seq, .int .i64 f.item.cls, .int .i64 f.item.key, .int .i64 f.item.window, .int .i64 f.item.sk.count, .int .i64 f.item.sk.sum, .int .i64 f.item.sk.min, .int .i64 f.item.sk.max, .slice p1 m1 e1, .slice p2 m2 e2, .slice p3 m3 e3]) f F' G') := ⟨Vf.out.1.below bb, Vf.out.2.below bb⟩
 clear bb
 have Ry : Hid (RdL itK w9 y1 l1 y.sealed Fy ∧ RdP w9 y2 n8 y.taken Gy ∧ Capd y1 l1 c7 ∧ Capd y2 n8 c8) := ⟨rly, rpy, kay, kby⟩
 clear rly rpy kay kby
 go_wp2_with (first | go_skip | (with_reducible refine stopLoad 34 rfl ?_) | (with_reducible refine stopStore 34 rfl ?_) | (with_reducible refine stopLoad 27 rfl ?_) | (with_reducible refine stopStore 27 rfl ?_) | (with_reducible refine stopLoad 38 rfl ?_) | (with_reducible refine stopStore 38 rfl ?_))
 refine store_fresh 27 w9.heap.size rfl #[.int .i64 0, .int .i64 0, .bool false, .int .i64 0, .slice none 0 0, .slice none 0 0, .int .i64 0] #[.int .i64 y.id, .int .i64 y.epoch, .bool y.live, .int .i64 y.granted, .slice y1 l1 c7, .slice y2 n8 c8, .int .i64 y.next] 27 rfl rfl rfl rfl infoAgL rfl (by simp [Value.oneCell']) ?_
 intro w10 hg hb
 have BEL : Hid (Below w.heap.size w w10) := Below.next BEL.out hb
 have Va : Hid (VarA ga a a1 n1 c1 a2 n2 c2 F G w10) := Va.out.below hb
 have Vs : Hid (Blk w10 gs #[.int .i64 s.count, .int .i64 s.sum, .int .i64 s.min, .int .i64 s.max, .slice s1 s2 s3, .slice s4 s5 s6, .slice s7 s8 s9] 34 ∧ RdSk w10 (.agg #[.int .i64 s.count, .int .i64 s.sum, .int .i64 s.min, .int .i64 s.max, .slice s1 s2 s3, .slice s4 s5 s6, .slice s7 s8 s9]) s Hs) := ⟨Vs.out.1.below hb, Vs.out.2.below hb⟩
 have Vx : Hid (VarA gx x x1 n3 c3 x2 n4 c4 Fx Gx w10) := Vx.out.below hb
 have Vb : Hid (VarA gb b q1 l1 k1 q2 l2 k2 Fb Gb w10) := Vb.out.below hb
 have Vf : Hid (Blk w10 gf #[.int .i64 f.kind, .int .i64 f.agent, .int .i64 f.epoch, .int .i64 f.granted, .slice bt lt ct, .int .i64 f.item.seq, .int .i64 f.item.cls, .int .i64 f.item.key, .int .i64 f.item.window, .int .i64 f.item.sk.count, .int .i64 f.item.sk.sum, .int .i64 f.item.sk.min, .int .i64 f.item.sk.max, .slice p1 m1 e1, .slice p2 m2 e2, .slice p3 m3 e3] 38 ∧ RdFr w10 (.agg #[.int .i64 f.kind, .int .i64 f.agent, .int .i64 f.epoch, .int .i64 f.granted, .slice bt lt ct, .int .i64 f.item.seq, .int .i64 f.item.cls, .int .i64 f.item.key, .int .i64 f.item.window, .int .i64 f.item.sk.count, .int .i64 f.item.sk.sum, .int .i64 f.item.sk.min, .int .i64 f.item.sk.max, .slice p1 m1 e1, .slice p2 m2 e2, .slice p3 m3 e3]) f F' G') := ⟨Vf.out.1.below hb, Vf.out.2.below hb⟩
 obtain ⟨gy, hgv⟩ : ∃ g, g = w9.heap.size := ⟨_, rfl⟩
 rw [← hgv] at hg ⊢
 have Vy : Hid (VarA gy y y1 l1 c7 y2 n8 c8 Fy Gy w10) := ⟨hg, Ry.out.1.agree (.below hb Ry.out.1.lt), Ry.out.2.1.below hb, Ry.out.2.2.1, Ry.out.2.2.2⟩
 clear hg hb hgv Ry
 go_wp2_with (first | go_skip | (with_reducible refine stopLoad 34 rfl ?_) | (with_reducible refine stopStore 34 rfl ?_) | (with_reducible refine stopLoad 27 rfl ?_) | (with_reducible refine stopStore 27 rfl ?_) | (with_reducible refine stopLoad 38 rfl ?_) | (with_reducible refine stopStore 38 rfl ?_))
 refine load_known 27 gb #[.int .i64 b.id, .int .i64 b.epoch, .bool b.live, .int .i64 b.granted, .slice q1 l1 k1, .slice q2 l2 k2, .int .i64 b.next] 27 _ Vb.out.blk rfl rfl rfl Try.underlying27 rfl infoAgL ?_
 go_wp2_with (first | go_skip | (with_reducible refine stopLoad 34 rfl ?_) | (with_reducible refine stopStore 34 rfl ?_) | (with_reducible refine stopLoad 27 rfl ?_) | (with_reducible refine stopStore 27 rfl ?_) | (with_reducible refine stopLoad 38 rfl ?_) | (with_reducible refine stopStore 38 rfl ?_))
 refine load_known 38 gf #[.int .i64 f.kind, .int .i64 f.agent, .int .i64 f.epoch, .int .i64 f.granted, .slice bt lt ct, .int .i64 f.item.seq, .int .i64 f.item.cls, .int .i64 f.item.key, .int .i64 f.item.window, .int .i64 f.item.sk.count, .int .i64 f.item.sk.sum, .int .i64 f.item.sk.min, .int .i64 f.item.sk.max, .slice p1 m1 e1, .slice p2 m2 e2, .slice p3 m3 e3] 38 _ Vf.out.1 rfl rfl rfl Try.underlying38 rfl infoFrL ?_
 go_wp2_with fail
 refine (agentHear_any _ _ b f Fb Gb F' G' _ Vb.out.rd Vf.out.2 HSB.out.1 (by have := HSB.out.2.1; omega) (by have := HSB.out.2.2; omega) HFR.out.1 (by have := HFR.out.2; omega)).mono ?_
 intro e w11 hh
 rw [HY.out] at hh
 obtain ⟨zv, Fu, Gu, cc, rfl, ⟨u1, n9, c9, u2, m9, d9, rfl, rlu, rpu, kau, kbu⟩, hcc, _, _, _, bb⟩ := hh
 obtain rfl : cd = cc := hcc.symm
 obtain rfl : l1 = n9 := by have h1 : y.sealed.length = n9 := rlu.length; rw [HYS.out] at h1; exact Vb.out.rl.length.symm.trans h1
 have BEL : Hid (Below w.heap.size w w11) := Below.next BEL.out bb
 have Va : Hid (VarA ga a a1 n1 c1 a2 n2 c2 F G w11) := Va.out.below bb
 have Vs : Hid (Blk w11 gs #[.int .i64 s.count, .int .i64 s.sum, .int .i64 s.min, .int .i64 s.max, .slice s1 s2 s3, .slice s4 s5 s6, .slice s7 s8 s9] 34 ∧ RdSk w11 (.agg #[.int .i64 s.count, .int .i64 s.sum, .int .i64 s.min, .int .i64 s.max, .slice s1 s2 s3, .slice s4 s5 s6, .slice s7 s8 s9]) s Hs) := ⟨Vs.out.1.below bb, Vs.out.2.below bb⟩
 have Vx : Hid (VarA gx x x1 n3 c3 x2 n4 c4 Fx Gx w11) := Vx.out.below bb
 have Vb : Hid (VarA gb b q1 l1 k1 q2 l2 k2 Fb Gb w11) := Vb.out.below bb
 have Vf : Hid (Blk w11 gf #[.int .i64 f.kind, .int .i64 f.agent, .int .i64 f.epoch, .int .i64 f.granted, .slice bt lt ct, .int .i64 f.item.seq, .int .i64 f.item.cls, .int .i64 f.item.key, .int .i64 f.item.window, .int .i64 f.item.sk.count, .int .i64 f.item.sk.sum, .int .i64 f.item.sk.min, .int .i64 f.item.sk.max, .slice p1 m1 e1, .slice p2 m2 e2, .slice p3 m3 e3] 38 ∧ RdFr w11 (.agg #[.int .i64 f.kind, .int .i64 f.agent, .int .i64 f.epoch, .int .i64 f.granted, .slice bt lt ct, .int .i64 f.item.seq, .int .i64 f.item.cls, .int .i64 f.item.key, .int .i64 f.item.window, .int .i64 f.item.sk.count, .int .i64 f.item.sk.sum, .int .i64 f.item.sk.min, .int .i64 f.item.sk.max, .slice p1 m1 e1, .slice p2 m2 e2, .slice p3 m3 e3]) f F' G') := ⟨Vf.out.1.below bb, Vf.out.2.below bb⟩
 have Vy : Hid (VarA gy y y1 l1 c7 y2 n8 c8 Fy Gy w11) := Vy.out.below bb
 clear bb
 have Ru : Hid (RdL itK w11 u1 l1 y.sealed Fu ∧ RdP w11 u2 m9 y.taken Gu ∧ Capd u1 l1 c9 ∧ Capd u2 m9 d9) := ⟨rlu, rpu, kau, kbu⟩
 clear rlu rpu kau kbu
 go_wp2_with (first | go_skip | (with_reducible refine stopLoad 34 rfl ?_) | (with_reducible refine stopStore 34 rfl ?_) | (with_reducible refine stopLoad 27 rfl ?_) | (with_reducible refine stopStore 27 rfl ?_) | (with_reducible refine stopLoad 38 rfl ?_) | (with_reducible refine stopStore 38 rfl ?_))
 refine store_fresh 27 w11.heap.size rfl #[.int .i64 0, .int .i64 0, .bool false, .int .i64 0, .slice none 0 0, .slice none 0 0, .int .i64 0] #[.int .i64 y.id, .int .i64 y.epoch, .bool y.live, .int .i64 y.granted, .slice u1 l1 c9, .slice u2 m9 d9, .int .i64 y.next] 27 rfl rfl rfl rfl infoAgL rfl (by simp [Value.oneCell']) ?_
 intro w12 hg hb
 have BEL : Hid (Below w.heap.size w w12) := Below.next BEL.out hb
 have Va : Hid (VarA ga a a1 n1 c1 a2 n2 c2 F G w12) := Va.out.below hb
 have Vs : Hid (Blk w12 gs #[.int .i64 s.count, .int .i64 s.sum, .int .i64 s.min, .int .i64 s.max, .slice s1 s2 s3, .slice s4 s5 s6, .slice s7 s8 s9] 34 ∧ RdSk w12 (.agg #[.int .i64 s.count, .int .i64 s.sum, .int .i64 s.min, .int .i64 s.max, .slice s1 s2 s3, .slice s4 s5 s6, .slice s7 s8 s9]) s Hs) := ⟨Vs.out.1.below hb, Vs.out.2.below hb⟩
 have Vx : Hid (VarA gx x x1 n3 c3 x2 n4 c4 Fx Gx w12) := Vx.out.below hb
 have Vb : Hid (VarA gb b q1 l1 k1 q2 l2 k2 Fb Gb w12) := Vb.out.below hb
 have Vf : Hid (Blk w12 gf #[.int .i64 f.kind, .int .i64 f.agent, .int .i64 f.epoch, .int .i64 f.granted, .slice bt lt ct, .int .i64 f.item.seq, .int .i64 f.item.cls, .int .i64 f.item.key, .int .i64 f.item.window, .int .i64 f.item.sk.count, .int .i64 f.item.sk.sum, .int .i64 f.item.sk.min, .int .i64 f.item.sk.max, .slice p1 m1 e1, .slice p2 m2 e2, .slice p3 m3 e3] 38 ∧ RdFr w12 (.agg #[.int .i64 f.kind, .int .i64 f.agent, .int .i64 f.epoch, .int .i64 f.granted, .slice bt lt ct, .int .i64 f.item.seq, .int .i64 f.item.cls, .int .i64 f.item.key, .int .i64 f.item.window, .int .i64 f.item.sk.count, .int .i64 f.item.sk.sum, .int .i64 f.item.sk.min, .int .i64 f.item.sk.max, .slice p1 m1 e1, .slice p2 m2 e2, .slice p3 m3 e3]) f F' G') := ⟨Vf.out.1.below hb, Vf.out.2.below hb⟩
 have Vy : Hid (VarA gy y y1 l1 c7 y2 n8 c8 Fy Gy w12) := Vy.out.below hb
 obtain ⟨gu, hgv⟩ : ∃ g, g = w11.heap.size := ⟨_, rfl⟩
 rw [← hgv] at hg ⊢
 have Vu : Hid (VarA gu y u1 l1 c9 u2 m9 d9 Fu Gu w12) := ⟨hg, Ru.out.1.agree (.below hb Ru.out.1.lt), Ru.out.2.1.below hb, Ru.out.2.2.1, Ru.out.2.2.2⟩
 clear hg hb hgv Ru
 clear Vu Vf HFR
 have hcn : (cd != cd) = false := by simp
 have hln : ((l1 : Int) != (l1 : Int)) = false := by simp
 have cy4 := Vy.out.blk.cell 4
 simp only [aT, aS, aZ] at cy4
 have cb4 := Vb.out.blk.cell 4
 simp only [aT, aS, aZ] at cb4
 go_wp2
 clear cy4 cb4 hcn hln
 go_loopw [18] (fun i wr => ∃ (k : Nat), (k : Int) ≤ l1 ∧ i = .int .i64 k ∧ Hid ((Below w.heap.size w wr) ∧ (VarA ga a a1 n1 c1 a2 n2 c2 F G wr) ∧ (Blk wr gs #[.int .i64 s.count, .int .i64 s.sum, .int .i64 s.min, .int .i64 s.max, .slice s1 s2 s3, .slice s4 s5 s6, .slice s7 s8 s9] 34 ∧ RdSk wr (.agg #[.int .i64 s.count, .int .i64 s.sum, .int .i64 s.min, .int .i64 s.max, .slice s1 s2 s3, .slice s4 s5 s6, .slice s7 s8 s9]) s Hs) ∧ (VarA gx x x1 n3 c3 x2 n4 c4 Fx Gx wr) ∧ (VarA gb b q1 l1 k1 q2 l2 k2 Fb Gb wr) ∧ (VarA gy y y1 l1 c7 y2 n8 c8 Fy Gy wr))) (fun i _ => ((l1 : Int) - intOf i).toNat)
 case atStart => exact ⟨0, by omega, rfl, ⟨BEL.out, Va.out, Vs.out, Vx.out, Vb.out, Vy.out⟩⟩
 case round =>
  clear BEL Va Vs Vx Vb Vy
  obtain ⟨k, hkl, rfl, HALL⟩ := hrel
  have BEL : Hid (Below w.heap.size w wr) := HALL.out.1
  have Va : Hid (VarA ga a a1 n1 c1 a2 n2 c2 F G wr) := HALL.out.2.1
  have Vs : Hid (Blk wr gs #[.int .i64 s.count, .int .i64 s.sum, .int .i64 s.min, .int .i64 s.max, .slice s1 s2 s3, .slice s4 s5 s6, .slice s7 s8 s9] 34 ∧ RdSk wr (.agg #[.int .i64 s.count, .int .i64 s.sum, .int .i64 s.min, .int .i64 s.max, .slice s1 s2 s3, .slice s4 s5 s6, .slice s7 s8 s9]) s Hs) := HALL.out.2.2.1
  have Vx : Hid (VarA gx x x1 n3 c3 x2 n4 c4 Fx Gx wr) := HALL.out.2.2.2.1
  have Vb : Hid (VarA gb b q1 l1 k1 q2 l2 k2 Fb Gb wr) := HALL.out.2.2.2.2.1
  have Vy : Hid (VarA gy y y1 l1 c7 y2 n8 c8 Fy Gy wr) := HALL.out.2.2.2.2.2
  clear HALL
  by_cases hlt : (k : Int) < l1
  ·
   have hcd : decide ((k : Int) < (l1 : Int)) = true := decT hlt
   have hkn : k < l1 := by omega
   have cb4 := Vb.out.blk.cell 4
   simp only [aT, aS, aZ] at cb4
   go_wp2_with fail
   clear cb4 hcd
   obtain ⟨w13, hY⟩ : ∃ Y, Y = wr.drew := ⟨_, rfl⟩
   have bd := (Below.refl wr.heap.size wr).drew
   rw [← hY] at bd
   have BEL : Hid (Below w.heap.size w w13) := Below.next BEL.out bd
   have Va : Hid (VarA ga a a1 n1 c1 a2 n2 c2 F G w13) := Va.out.below bd
   have Vs : Hid (Blk w13 gs #[.int .i64 s.count, .int .i64 s.sum, .int .i64 s.min, .int .i64 s.max, .slice s1 s2 s3, .slice s4 s5 s6, .slice s7 s8 s9] 34 ∧ RdSk w13 (.agg #[.int .i64 s.count, .int .i64 s.sum, .int .i64 s.min, .int .i64 s.max, .slice s1 s2 s3, .slice s4 s5 s6, .slice s7 s8 s9]) s Hs) := ⟨Vs.out.1.below bd, Vs.out.2.below bd⟩
   have Vx : Hid (VarA gx x x1 n3 c3 x2 n4 c4 Fx Gx w13) := Vx.out.below bd
   have Vb : Hid (VarA gb b q1 l1 k1 q2 l2 k2 Fb Gb w13) := Vb.out.below bd
   have Vy : Hid (VarA gy y y1 l1 c7 y2 n8 c8 Fy Gy w13) := Vy.out.below bd
   clear bd
   obtain ⟨it, hit⟩ : ∃ it, b.sealed[k]? = some it := ⟨_, List.getElem?_eq_getElem (by rw [Vb.out.rl.length]; exact hkn)⟩
   obtain ⟨oy, fy, eqy, memy, csy, Fiy, _, hcy, hry, _⟩ := Vy.out.rl.get k hkn
   have hiy := hry it (by rw [HYS.out]; exact hit)
   obtain ⟨ye1, ye2, ye3, ye4, ye5, ye6, ye7, ye8, ye9, ecy, rky⟩ := (show RdIt w13 (.agg csy) it Fiy from hiy)
   injection ecy with ecy
   subst ecy
   have lty := Vy.out.rl.lt oy memy
   obtain ⟨ob, fb, eqb, memb, csb, Fib, _, hcb, hrb, _⟩ := Vb.out.rl.get k hkn
   have hib := hrb it hit
   obtain ⟨be1, be2, be3, be4, be5, be6, be7, be8, be9, ecb, rkb⟩ := (show RdIt w13 (.agg csb) it Fib from hib)
   injection ecb with ecb
   subst ecb
   have ltb := Vb.out.rl.lt ob memb
   have HC : Hid (∀ W, Below w13.heap.size w13 W → ((W.cell? ⟨gy, 4, none⟩ = some (.slice (some ⟨oy, fy, none⟩) l1 c7)) ∧ ∀ j, j < 11 → W.cell? ⟨oy, fy + k * 11 + j, none⟩ = (#[.int .i64 it.seq, .int .i64 it.cls, .int .i64 it.key, .int .i64 it.window, .int .i64 it.sk.count, .int .i64 it.sk.sum, .int .i64 it.sk.min, .int .i64 it.sk.max, .slice ye1 ye2 ye3, .slice ye4 ye5 ye6, .slice ye7 ye8 ye9] : Array Value)[j]?) ∧ ((W.cell? ⟨gb, 4, none⟩ = some (.slice (some ⟨ob, fb, none⟩) l1 k1)) ∧ ∀ j, j < 11 → W.cell? ⟨ob, fb + k * 11 + j, none⟩ = (#[.int .i64 it.seq, .int .i64 it.cls, .int .i64 it.key, .int .i64 it.window, .int .i64 it.sk.count, .int .i64 it.sk.sum, .int .i64 it.sk.min, .int .i64 it.sk.max, .slice be1 be2 be3, .slice be4 be5 be6, .slice be7 be8 be9] : Array Value)[j]?)) := fun W hW => ⟨⟨by have c := (Vy.out.below hW).blk.cell 4; simp only [aT, aS, aZ] at c; rw [eqy] at c; exact c, fun j hj => (hW.cell (p := ⟨oy, _, none⟩) lty).trans (hcy j hj)⟩, ⟨by have c := (Vb.out.below hW).blk.cell 4; simp only [aT, aS, aZ] at c; rw [eqb] at c; exact c, fun j hj => (hW.cell (p := ⟨ob, _, none⟩) ltb).trans (hcb j hj)⟩⟩
   have HK : Hid (RdSk w13 (.agg #[.int .i64 it.sk.count, .int .i64 it.sk.sum, .int .i64 it.sk.min, .int .i64 it.sk.max, .slice ye1 ye2 ye3, .slice ye4 ye5 ye6, .slice ye7 ye8 ye9]) it.sk Fiy ∧ RdSk w13 (.agg #[.int .i64 it.sk.count, .int .i64 it.sk.sum, .int .i64 it.sk.min, .int .i64 it.sk.max, .slice be1 be2 be3, .slice be4 be5 be6, .slice be7 be8 be9]) it.sk Fib ∧ it.sk.wide) := ⟨rky, rkb, (HSB.out.1 it (List.mem_of_getElem? hit)).wide⟩
   clear hiy hib rky rkb eqy eqb memy memb hcy hcb hry hrb lty ltb hit
   refine wp_region_held (S := fun W => Below w13.heap.size w13 W) (by kernel_rfl) ?_
   change wpAnyH _ _ _ _ _ _ _ _ (World.drew _)
   rw [← hY]
   clear hY
   refine takeH (o := ?o212) 0 (.pointer (some ⟨gy, 4, none⟩)) ?h212 ?r212
   case h212 => simp only [aT, aZ]; rfl
   refine ⟨_, by simp [Act.put]; rfl, by kernel_rfl, by kernel_rfl, by kernel_rfl, fun _ _ _ h => h, (.inl ⟨rfl, fun W _ => by kernel_rfl⟩), (Below.refl _ _), ?_⟩
   refine takeH (o := ?o213) 1 (.slice (some ⟨oy, fy, none⟩) l1 c7) ?h213 ?r213
   case h213 => simp only [aT, aS, aZ]; rfl
   refine ⟨_, by simp [Act.put]; rfl, by kernel_rfl, by kernel_rfl, by kernel_rfl, fun _ _ _ h => h, (.inl ⟨rfl, fun W hW => by have c := (HC.out W hW).1.1; go_simp⟩), (Below.refl _ _), ?_⟩
   refine takeH (o := ?o214) 2 (.int .i64 k) ?h214 ?r214
   case h214 => simp only [aT, aS, aZ]; rfl
   refine ⟨_, by simp [Act.put]; rfl, by kernel_rfl, by kernel_rfl, by kernel_rfl, fun _ _ _ h => h, (.inl ⟨rfl, fun W _ => by kernel_rfl⟩), (Below.refl _ _), ?_⟩
   refine takeH (o := ?o215) 3 (.pointer (some ⟨oy, fy + k * 11, none⟩)) ?h215 ?r215
   case h215 => simp only [aT, aS, aZ]; rfl
   refine ⟨_, by simp [Act.put]; rfl, by kernel_rfl, by kernel_rfl, by kernel_rfl, fun _ _ _ h => h, (.inl ⟨rfl, fun W _ => by go_simp; first | done | (intro h; omega) | (rw [if_pos (by omega)]; rfl)⟩), (Below.refl _ _), ?_⟩
   refine takeH (o := ?o216) 4 (.pointer (some ⟨oy, fy + k * 11 + 4, none⟩)) ?h216 ?r216
   case h216 => simp only [aT, aS, aZ]; rfl
   refine ⟨_, by simp [Act.put]; rfl, by kernel_rfl, by kernel_rfl, by kernel_rfl, fun _ _ _ h => h, (.inl ⟨rfl, fun W _ => by kernel_rfl⟩), (Below.refl _ _), ?_⟩
   refine takeH (o := ?o217) 5 (.agg #[.int .i64 it.sk.count, .int .i64 it.sk.sum, .int .i64 it.sk.min, .int .i64 it.sk.max, .slice ye1 ye2 ye3, .slice ye4 ye5 ye6, .slice ye7 ye8 ye9]) ?h217 ?r217
   case h217 => simp only [aT, aS, aZ]; rfl
   refine ⟨_, by simp [Act.put]; rfl, by kernel_rfl, by kernel_rfl, by kernel_rfl, fun _ _ _ h => h, (yields_at 34 oy (fy + k * 11 + 4) 7 #[.int .i64 it.sk.count, .int .i64 it.sk.sum, .int .i64 it.sk.min, .int .i64 it.sk.max, .slice ye1 ye2 ye3, .slice ye4 ye5 ye6, .slice ye7 ye8 ye9] _ rfl rfl rfl Try.underlying34 rfl infoSkL rfl (fun W hW => sk_of_it (HC.out W hW).1.2)), (Below.refl _ _), ?_⟩
   refine takeH (o := ?o218) 6 (.pointer (some ⟨gb, 4, none⟩)) ?h218 ?r218
   case h218 => simp only [aT, aS, aZ]; rfl
   refine ⟨_, by simp [Act.put]; rfl, by kernel_rfl, by kernel_rfl, by kernel_rfl, fun _ _ _ h => h, (.inl ⟨rfl, fun W _ => by kernel_rfl⟩), (Below.refl _ _), ?_⟩
   refine takeH (o := ?o219) 7 (.slice (some ⟨ob, fb, none⟩) l1 k1) ?h219 ?r219
   case h219 => simp only [aT, aS, aZ]; rfl
   refine ⟨_, by simp [Act.put]; rfl, by kernel_rfl, by kernel_rfl, by kernel_rfl, fun _ _ _ h => h, (.inl ⟨rfl, fun W hW => by have c := (HC.out W hW).2.1; go_simp⟩), (Below.refl _ _), ?_⟩
   refine takeH (o := ?o220) 8 (.int .i64 k) ?h220 ?r220
   case h220 => simp only [aT, aS, aZ]; rfl
   refine ⟨_, by simp [Act.put]; rfl, by kernel_rfl, by kernel_rfl, by kernel_rfl, fun _ _ _ h => h, (.inl ⟨rfl, fun W _ => by kernel_rfl⟩), (Below.refl _ _), ?_⟩
   refine takeH (o := ?o221) 9 (.pointer (some ⟨ob, fb + k * 11, none⟩)) ?h221 ?r221
   case h221 => simp only [aT, aS, aZ]; rfl
   refine ⟨_, by simp [Act.put]; rfl, by kernel_rfl, by kernel_rfl, by kernel_rfl, fun _ _ _ h => h, (.inl ⟨rfl, fun W _ => by go_simp; first | done | (intro h; omega) | (rw [if_pos (by omega)]; rfl)⟩), (Below.refl _ _), ?_⟩
   refine takeH (o := ?o222) 10 (.pointer (some ⟨ob, fb + k * 11 + 4, none⟩)) ?h222 ?r222
   case h222 => simp only [aT, aS, aZ]; rfl
   refine ⟨_, by simp [Act.put]; rfl, by kernel_rfl, by kernel_rfl, by kernel_rfl, fun _ _ _ h => h, (.inl ⟨rfl, fun W _ => by kernel_rfl⟩), (Below.refl _ _), ?_⟩
   refine takeH (o := ?o223) 11 (.agg #[.int .i64 it.sk.count, .int .i64 it.sk.sum, .int .i64 it.sk.min, .int .i64 it.sk.max, .slice be1 be2 be3, .slice be4 be5 be6, .slice be7 be8 be9]) ?h223 ?r223
   case h223 => simp only [aT, aS, aZ]; rfl
   refine ⟨_, by simp [Act.put]; rfl, by kernel_rfl, by kernel_rfl, by kernel_rfl, fun _ _ _ h => h, (yields_at 34 ob (fb + k * 11 + 4) 7 #[.int .i64 it.sk.count, .int .i64 it.sk.sum, .int .i64 it.sk.min, .int .i64 it.sk.max, .slice be1 be2 be3, .slice be4 be5 be6, .slice be7 be8 be9] _ rfl rfl rfl Try.underlying34 rfl infoSkL rfl (fun W hW => sk_of_it (HC.out W hW).2.2)), (Below.refl _ _), ?_⟩
   refine onlyH (o := ?o224) 12 (by kernel_rfl) ?h224 ?r224
   case h224 => simp only [aT, aS, aZ]; rfl
   intro K hK
   refine op_call2v 26 _ _ _ Try.f26 (fun v w' => v = .bool true ∧ Below w13.heap.size w13 w') rfl rfl Try.func26 (by kernel_rfl) (by kernel_rfl) ((sameImpl_any _ _ it.sk it.sk Fiy Fib w13 HK.out.1 HK.out.2.1 HK.out.2.2 HK.out.2.2).mono (by rintro e w' ⟨rfl, hb⟩; exact ⟨_, rfl, by simp, hb⟩)) ?_
   rintro v w14 ⟨rfl, hb⟩
   have BEL : Hid (Below w.heap.size w w14) := Below.next BEL.out hb
   have Va : Hid (VarA ga a a1 n1 c1 a2 n2 c2 F G w14) := Va.out.below hb
   have Vs : Hid (Blk w14 gs #[.int .i64 s.count, .int .i64 s.sum, .int .i64 s.min, .int .i64 s.max, .slice s1 s2 s3, .slice s4 s5 s6, .slice s7 s8 s9] 34 ∧ RdSk w14 (.agg #[.int .i64 s.count, .int .i64 s.sum, .int .i64 s.min, .int .i64 s.max, .slice s1 s2 s3, .slice s4 s5 s6, .slice s7 s8 s9]) s Hs) := ⟨Vs.out.1.below hb, Vs.out.2.below hb⟩
   have Vx : Hid (VarA gx x x1 n3 c3 x2 n4 c4 Fx Gx w14) := Vx.out.below hb
   have Vb : Hid (VarA gb b q1 l1 k1 q2 l2 k2 Fb Gb w14) := Vb.out.below hb
   have Vy : Hid (VarA gy y y1 l1 c7 y2 n8 c8 Fy Gy w14) := Vy.out.below hb
   have HBL : Hid (Below w13.heap.size w13 w14) := hb
   clear hb
   refine ⟨_, by simp [Act.put]; rfl, hK _ _ ⟨HBL.out, ?_⟩⟩
   clear hK
   refine takeH (o := ?o225) 13 (.bool false) ?h225 ?r225
   case h225 => simp only [aT, aS, aZ]; rfl
   refine ⟨_, by simp [Act.put]; rfl, by kernel_rfl, by kernel_rfl, by kernel_rfl, fun _ _ _ h => h, (.inl ⟨rfl, fun W _ => by go_simp⟩), HBL.out, ?_⟩
   refine takeH (o := ?o226) 14 (.bool false) ?h226 ?r226
   case h226 => simp only [aT, aS, aZ]; rfl
   refine ⟨_, by simp [Act.put]; rfl, by kernel_rfl, by kernel_rfl, by kernel_rfl, fun _ _ _ h => h, (.inl ⟨rfl, fun W _ => by kernel_rfl⟩), HBL.out, ?_⟩
   refine takeH (o := ?o227) 15 (.pointer (some ⟨gy, 4, none⟩)) ?h227 ?r227
   case h227 => simp only [aT, aS, aZ]; rfl
   refine ⟨_, by simp [Act.put]; rfl, by kernel_rfl, by kernel_rfl, by kernel_rfl, fun _ _ _ h => h, (.inl ⟨rfl, fun W _ => by kernel_rfl⟩), HBL.out, ?_⟩
   refine takeH (o := ?o228) 16 (.slice (some ⟨oy, fy, none⟩) l1 c7) ?h228 ?r228
   case h228 => simp only [aT, aS, aZ]; rfl
   refine ⟨_, by simp [Act.put]; rfl, by kernel_rfl, by kernel_rfl, by kernel_rfl, fun _ _ _ h => h, (.inl ⟨rfl, fun W hW => by have c := (HC.out W hW).1.1; go_simp⟩), HBL.out, ?_⟩
   refine takeH (o := ?o229) 17 (.int .i64 k) ?h229 ?r229
   case h229 => simp only [aT, aS, aZ]; rfl
   refine ⟨_, by simp [Act.put]; rfl, by kernel_rfl, by kernel_rfl, by kernel_rfl, fun _ _ _ h => h, (.inl ⟨rfl, fun W _ => by kernel_rfl⟩), HBL.out, ?_⟩
   refine takeH (o := ?o230) 18 (.pointer (some ⟨oy, fy + k * 11, none⟩)) ?h230 ?r230
   case h230 => simp only [aT, aS, aZ]; rfl
   refine ⟨_, by simp [Act.put]; rfl, by kernel_rfl, by kernel_rfl, by kernel_rfl, fun _ _ _ h => h, (.inl ⟨rfl, fun W _ => by go_simp; first | done | (intro h; omega) | (rw [if_pos (by omega)]; rfl)⟩), HBL.out, ?_⟩
   refine takeH (o := ?o231) 19 (.pointer (some ⟨oy, fy + k * 11 + 2, none⟩)) ?h231 ?r231
   case h231 => simp only [aT, aS, aZ]; rfl
   refine ⟨_, by simp [Act.put]; rfl, by kernel_rfl, by kernel_rfl, by kernel_rfl, fun _ _ _ h => h, (.inl ⟨rfl, fun W _ => by kernel_rfl⟩), HBL.out, ?_⟩
   refine takeH (o := ?o232) 20 (.int .i64 it.key) ?h232 ?r232
   case h232 => simp only [aT, aS, aZ]; rfl
   refine ⟨_, by simp [Act.put]; rfl, by kernel_rfl, by kernel_rfl, by kernel_rfl, fun _ _ _ h => h, (.inl ⟨rfl, fun W hW => by have c := (HC.out W hW).1.2 2 (by omega); simp only [aT, aS, aZ] at c; go_simp⟩), HBL.out, ?_⟩
   refine takeH (o := ?o233) 21 (.pointer (some ⟨gb, 4, none⟩)) ?h233 ?r233
   case h233 => simp only [aT, aS, aZ]; rfl
   refine ⟨_, by simp [Act.put]; rfl, by kernel_rfl, by kernel_rfl, by kernel_rfl, fun _ _ _ h => h, (.inl ⟨rfl, fun W _ => by kernel_rfl⟩), HBL.out, ?_⟩
   refine takeH (o := ?o234) 22 (.slice (some ⟨ob, fb, none⟩) l1 k1) ?h234 ?r234
   case h234 => simp only [aT, aS, aZ]; rfl
   refine ⟨_, by simp [Act.put]; rfl, by kernel_rfl, by kernel_rfl, by kernel_rfl, fun _ _ _ h => h, (.inl ⟨rfl, fun W hW => by have c := (HC.out W hW).2.1; go_simp⟩), HBL.out, ?_⟩
   refine takeH (o := ?o235) 23 (.int .i64 k) ?h235 ?r235
   case h235 => simp only [aT, aS, aZ]; rfl
   refine ⟨_, by simp [Act.put]; rfl, by kernel_rfl, by kernel_rfl, by kernel_rfl, fun _ _ _ h => h, (.inl ⟨rfl, fun W _ => by kernel_rfl⟩), HBL.out, ?_⟩
   refine takeH (o := ?o236) 24 (.pointer (some ⟨ob, fb + k * 11, none⟩)) ?h236 ?r236
   case h236 => simp only [aT, aS, aZ]; rfl
   refine ⟨_, by simp [Act.put]; rfl, by kernel_rfl, by kernel_rfl, by kernel_rfl, fun _ _ _ h => h, (.inl ⟨rfl, fun W _ => by go_simp; first | done | (intro h; omega) | (rw [if_pos (by omega)]; rfl)⟩), HBL.out, ?_⟩
   refine takeH (o := ?o237) 25 (.pointer (some ⟨ob, fb + k * 11 + 2, none⟩)) ?h237 ?r237
   case h237 => simp only [aT, aS, aZ]; rfl
   refine ⟨_, by simp [Act.put]; rfl, by kernel_rfl, by kernel_rfl, by kernel_rfl, fun _ _ _ h => h, (.inl ⟨rfl, fun W _ => by kernel_rfl⟩), HBL.out, ?_⟩
   refine takeH (o := ?o238) 26 (.int .i64 it.key) ?h238 ?r238
   case h238 => simp only [aT, aS, aZ]; rfl
   refine ⟨_, by simp [Act.put]; rfl, by kernel_rfl, by kernel_rfl, by kernel_rfl, fun _ _ _ h => h, (.inl ⟨rfl, fun W hW => by have c := (HC.out W hW).2.2 2 (by omega); simp only [aT, aS, aZ] at c; go_simp⟩), HBL.out, ?_⟩
   refine takeH (o := ?o239) 27 (.bool false) ?h239 ?r239
   case h239 => simp only [aT, aS, aZ]; rfl
   refine ⟨_, by simp [Act.put]; rfl, by kernel_rfl, by kernel_rfl, by kernel_rfl, fun _ _ _ h => h, (.inl ⟨rfl, fun W _ => by go_simp⟩), HBL.out, ?_⟩
   refine takeH (o := ?o240) 28 (.bool false) ?h240 ?r240
   case h240 => simp only [aT, aS, aZ]; rfl
   refine ⟨_, by simp [Act.put]; rfl, by kernel_rfl, by kernel_rfl, by kernel_rfl, fun _ _ _ h => h, (.inl ⟨rfl, fun W _ => by kernel_rfl⟩), HBL.out, ?_⟩
   refine wpAnyH_done (by kernel_rfl) ?_ _
   clear HC HK HBL
   have hwk : IntKind.i64.wrap ((k : Int) + 1) = (k : Int) + 1 := wrapD (by omega) (by have := Vb.out.rl.length; have := HSB.out.2.1; omega)
   go_wp2
   go_roundw
   case rel => exact ⟨k + 1, by omega, by first | go_num | (simp [hwk]), ⟨BEL.out, Va.out, Vs.out, Vx.out, Vb.out, Vy.out⟩⟩
   case measure => simp [intOf]; omega
  have hcd : decide ((k : Int) < (l1 : Int)) = false := dec_false hlt
  have cb4 := Vb.out.blk.cell 4
  simp only [aT, aS, aZ] at cb4
  by_cases hsl : a.ok = true ∧ (a.item cl ky wn s).ok = true
  rotate_left
  ·
   obtain ⟨hx1, hx2⟩ := Prod.mk.inj ((show a.seal cl ky wn s = (a, 0) by unfold Ag.seal; rw [if_neg hsl]).symm.trans HZ.out)
   subst hx2
   obtain rfl : n1 = n3 := by have h1 := Va.out.rl.length; have h2 := Vx.out.rl.length; rw [← hx1] at h2; omega
   have hee : ((n1 : Int) == (n1 : Int)) = true := by simp
   clear hsl hx1
   have cx4 := Vx.out.blk.cell 4
   simp only [aT, aS, aZ] at cx4
   have ca4 := Va.out.blk.cell 4
   simp only [aT, aS, aZ] at ca4
   go_wp2
   go_ret
   exact ⟨rfl, BEL.out⟩
  obtain ⟨hx1, hx2⟩ := Prod.mk.inj ((show a.seal cl ky wn s = (a.plus (a.item cl ky wn s), (a.sealed.length : Int) + 1) by unfold Ag.seal; rw [if_pos hsl]).symm.trans HZ.out)
  have HX : Hid (x.ok = true ∧ x.granted = a.granted ∧ x.sealed = a.sealed ++ [a.item cl ky wn s] ∧ sq = (n1 : Int) + 1 ∧ n3 = n1 + 1 ∧ n1 ≤ 7 ∧ (∀ y ∈ x.sealed, y.sk.wide) ∧ x.taken.length ≤ 8) := by
   have h1 := Va.out.rl.length
   have h2 := Vx.out.rl.length
   have h3 := HSA.out.2.1
   have e3 : x.sealed = a.sealed ++ [a.item cl ky wn s] := by rw [← hx1]; rfl
   refine ⟨by rw [← hx1, Ag.plus_ok _ _ _ _ _ hsl.1]; exact hsl.2, by rw [← hx1]; rfl, e3, by rw [← hx2, h1], by rw [e3, List.length_append] at h2; simp at h2; omega, by omega, fun y hy => ?_, by rw [← hx1]; exact HSA.out.2.2⟩
   rw [e3] at hy
   rcases List.mem_append.1 hy with hy | hy
   ·
    exact (HSA.out.1 y hy).wide
   ·
    rw [List.mem_singleton.1 hy]; exact HSF.out.wide
  have hs0 : (sq == 0) = false := by have e := HX.out.2.2.2.1; rw [e]; simp; omega
  clear hx1 hx2 hsl
  go_wp2_with fail
  clear cb4 hcd hs0 hlt
  obtain ⟨w15, hY⟩ : ∃ Y, Y = wr.drew := ⟨_, rfl⟩
  have bd := (Below.refl wr.heap.size wr).drew
  rw [← hY] at bd
  have BEL : Hid (Below w.heap.size w w15) := Below.next BEL.out bd
  have Va : Hid (VarA ga a a1 n1 c1 a2 n2 c2 F G w15) := Va.out.below bd
  have Vs : Hid (Blk w15 gs #[.int .i64 s.count, .int .i64 s.sum, .int .i64 s.min, .int .i64 s.max, .slice s1 s2 s3, .slice s4 s5 s6, .slice s7 s8 s9] 34 ∧ RdSk w15 (.agg #[.int .i64 s.count, .int .i64 s.sum, .int .i64 s.min, .int .i64 s.max, .slice s1 s2 s3, .slice s4 s5 s6, .slice s7 s8 s9]) s Hs) := ⟨Vs.out.1.below bd, Vs.out.2.below bd⟩
  have Vx : Hid (VarA gx x x1 n3 c3 x2 n4 c4 Fx Gx w15) := Vx.out.below bd
  have Vb : Hid (VarA gb b q1 l1 k1 q2 l2 k2 Fb Gb w15) := Vb.out.below bd
  have Vy : Hid (VarA gy y y1 l1 c7 y2 n8 c8 Fy Gy w15) := Vy.out.below bd
  clear bd
  have hkn : n1 < n3 := by have := HX.out.2.2.2.2.1; omega
  obtain ⟨it, hit⟩ : ∃ it, it = a.item cl ky wn s := ⟨_, rfl⟩
  have hxk : x.sealed[n1]? = some it := by have e := HX.out.2.2.1; have h1 := Va.out.rl.length; rw [e, hit, ← h1]; simp
  have HI : Hid (it.seq = sq ∧ it.sk = s) := by have e := HX.out.2.2.2.1; have h1 := Va.out.rl.length; rw [hit, e, ← h1]; exact ⟨rfl, rfl⟩
  obtain ⟨ox, fx, eqx, memx, csx, Fix, _, hcx, hrx, _⟩ := Vx.out.rl.get n1 hkn
  have hix := hrx it hxk
  obtain ⟨xe1, xe2, xe3, xe4, xe5, xe6, xe7, xe8, xe9, ecx, rkx⟩ := (show RdIt w15 (.agg csx) it Fix from hix)
  injection ecx with ecx
  subst ecx
  have ltx := Vx.out.rl.lt ox memx
  have HC : Hid (∀ W, Below w15.heap.size w15 W → Blk W gx #[.int .i64 x.id, .int .i64 x.epoch, .bool x.live, .int .i64 x.granted, .slice x1 n3 c3, .slice x2 n4 c4, .int .i64 x.next] 27 ∧ Blk W ga #[.int .i64 a.id, .int .i64 a.epoch, .bool a.live, .int .i64 a.granted, .slice a1 n1 c1, .slice a2 n2 c2, .int .i64 a.next] 27 ∧ Blk W gs #[.int .i64 s.count, .int .i64 s.sum, .int .i64 s.min, .int .i64 s.max, .slice s1 s2 s3, .slice s4 s5 s6, .slice s7 s8 s9] 34 ∧ ((W.cell? ⟨gx, 4, none⟩ = some (.slice (some ⟨ox, fx, none⟩) n3 c3)) ∧ ∀ j, j < 11 → W.cell? ⟨ox, fx + n1 * 11 + j, none⟩ = (#[.int .i64 it.seq, .int .i64 it.cls, .int .i64 it.key, .int .i64 it.window, .int .i64 it.sk.count, .int .i64 it.sk.sum, .int .i64 it.sk.min, .int .i64 it.sk.max, .slice xe1 xe2 xe3, .slice xe4 xe5 xe6, .slice xe7 xe8 xe9] : Array Value)[j]?)) := fun W hW => ⟨(Vx.out.below hW).blk, (Va.out.below hW).blk, Vs.out.1.below hW, ⟨by have c := (Vx.out.below hW).blk.cell 4; simp only [aT, aS, aZ] at c; rw [eqx] at c; exact c, fun j hj => (hW.cell (p := ⟨ox, _, none⟩) ltx).trans (hcx j hj)⟩⟩
  have HK : Hid (RdSk w15 (.agg #[.int .i64 it.sk.count, .int .i64 it.sk.sum, .int .i64 it.sk.min, .int .i64 it.sk.max, .slice xe1 xe2 xe3, .slice xe4 xe5 xe6, .slice xe7 xe8 xe9]) it.sk Fix) := rkx
  clear hxk rkx eqx memx hcx hrx ltx hit hix
  have HN : Hid (n1 < n3) := hkn
  refine wp_region_held (S := fun W => Below w15.heap.size w15 W) (by kernel_rfl) ?_
  change wpAnyH _ _ _ _ _ _ _ _ (World.drew _)
  rw [← hY]
  clear hY
  refine takeH (o := ?o241) 0 (.agg #[.int .i64 x.id, .int .i64 x.epoch, .bool x.live, .int .i64 x.granted, .slice x1 n3 c3, .slice x2 n4 c4, .int .i64 x.next]) ?h241 ?r241
  case h241 => simp only [aT, aZ]; rfl
  refine ⟨_, by simp [Act.put]; rfl, by kernel_rfl, by kernel_rfl, by kernel_rfl, fun _ _ _ h => h, (yields_whole 27 gx #[.int .i64 x.id, .int .i64 x.epoch, .bool x.live, .int .i64 x.granted, .slice x1 n3 c3, .slice x2 n4 c4, .int .i64 x.next] 27 _ rfl rfl rfl Try.underlying27 rfl infoAgL (fun W hW => (HC.out W hW).1)), (Below.refl _ _), ?_⟩
  refine onlyH (o := ?o242) 1 (by kernel_rfl) ?h242 ?r242
  case h242 => simp only [aT, aS, aZ]; rfl
  intro K hK
  refine op_call1 19 _ _ Try.f19 (fun v w' => v = .bool true ∧ Below w15.heap.size w15 w') rfl rfl Try.func19 (by kernel_rfl) (by kernel_rfl) ((agentOkImpl_any _ x Fx Gx w15 Vx.out.rd HX.out.2.2.2.2.2.2.1 (by have h1 := Vx.out.rl.length; have h2 := HX.out; omega) (by have h2 := HX.out.2.2.2.2.2.2.2; omega)).mono (by rintro e w' ⟨rfl, hb⟩; exact ⟨_, rfl, by rw [HX.out.1], hb⟩)) ?_
  rintro v w16 ⟨rfl, hb⟩
  have BEL : Hid (Below w.heap.size w w16) := Below.next BEL.out hb
  have Va : Hid (VarA ga a a1 n1 c1 a2 n2 c2 F G w16) := Va.out.below hb
  have Vs : Hid (Blk w16 gs #[.int .i64 s.count, .int .i64 s.sum, .int .i64 s.min, .int .i64 s.max, .slice s1 s2 s3, .slice s4 s5 s6, .slice s7 s8 s9] 34 ∧ RdSk w16 (.agg #[.int .i64 s.count, .int .i64 s.sum, .int .i64 s.min, .int .i64 s.max, .slice s1 s2 s3, .slice s4 s5 s6, .slice s7 s8 s9]) s Hs) := ⟨Vs.out.1.below hb, Vs.out.2.below hb⟩
  have Vx : Hid (VarA gx x x1 n3 c3 x2 n4 c4 Fx Gx w16) := Vx.out.below hb
  have Vb : Hid (VarA gb b q1 l1 k1 q2 l2 k2 Fb Gb w16) := Vb.out.below hb
  have Vy : Hid (VarA gy y y1 l1 c7 y2 n8 c8 Fy Gy w16) := Vy.out.below hb
  have HBL : Hid (Below w15.heap.size w15 w16) := hb
  have HK2 : Hid (RdSk w16 (.agg #[.int .i64 it.sk.count, .int .i64 it.sk.sum, .int .i64 it.sk.min, .int .i64 it.sk.max, .slice xe1 xe2 xe3, .slice xe4 xe5 xe6, .slice xe7 xe8 xe9]) it.sk Fix) := HK.out.below hb
  clear hb HK
  refine ⟨_, by simp [Act.put]; rfl, hK _ _ ⟨HBL.out, ?_⟩⟩
  clear hK
  refine takeH (o := ?o243) 2 (.bool true) ?h243 ?r243
  case h243 => simp only [aT, aS, aZ]; rfl
  refine ⟨_, by simp [Act.put]; rfl, by kernel_rfl, by kernel_rfl, by kernel_rfl, fun _ _ _ h => h, (.inl ⟨rfl, fun W _ => by kernel_rfl⟩), HBL.out, ?_⟩
  refine takeH (o := ?o244) 3 (.pointer (some ⟨gx, 4, none⟩)) ?h244 ?r244
  case h244 => simp only [aT, aS, aZ]; rfl
  refine ⟨_, by simp [Act.put]; rfl, by kernel_rfl, by kernel_rfl, by kernel_rfl, fun _ _ _ h => h, (.inl ⟨rfl, fun W _ => by kernel_rfl⟩), HBL.out, ?_⟩
  refine takeH (o := ?o245) 4 (.slice (some ⟨ox, fx, none⟩) n3 c3) ?h245 ?r245
  case h245 => simp only [aT, aS, aZ]; rfl
  refine ⟨_, by simp [Act.put]; rfl, by kernel_rfl, by kernel_rfl, by kernel_rfl, fun _ _ _ h => h, (.inl ⟨rfl, fun W hW => by have c := (HC.out W hW).2.2.2.1; go_simp⟩), HBL.out, ?_⟩
  refine takeH (o := ?o246) 5 (.int .i64 n3) ?h246 ?r246
  case h246 => simp only [aT, aS, aZ]; rfl
  refine ⟨_, by simp [Act.put]; rfl, by kernel_rfl, by kernel_rfl, by kernel_rfl, fun _ _ _ h => h, (.inl ⟨rfl, fun W _ => by go_simp⟩), HBL.out, ?_⟩
  refine takeH (o := ?o247) 6 (.int .i64 sq) ?h247 ?r247
  case h247 => simp only [aT, aS, aZ]; rfl
  refine ⟨_, by simp [Act.put]; rfl, by kernel_rfl, by kernel_rfl, by kernel_rfl, fun _ _ _ h => h, (.inl ⟨rfl, fun W _ => by kernel_rfl⟩), HBL.out, ?_⟩
  obtain ⟨d7, hd7⟩ : ∃ d, d = ((n3 : Int) == sq) := ⟨_, rfl⟩
  refine takeH (o := ?o248) 7 (.bool d7) ?h248 ?r248
  case h248 => simp only [aT, aS, aZ]; rfl
  refine ⟨_, by simp [Act.put]; rfl, by kernel_rfl, by kernel_rfl, by kernel_rfl, fun _ _ _ h => h, (.inl ⟨rfl, fun W _ => by rw [hd7]; go_simp⟩), HBL.out, ?_⟩
  obtain rfl : d7 = true := by rw [hd7]; have h := HX.out; simp; omega
  clear hd7
  refine takeH (o := ?o249) 8 (.bool true) ?h249 ?r249
  case h249 => simp only [aT, aS, aZ]; rfl
  refine ⟨_, by simp [Act.put]; rfl, by kernel_rfl, by kernel_rfl, by kernel_rfl, fun _ _ _ h => h, (.inl ⟨rfl, fun W _ => by kernel_rfl⟩), HBL.out, ?_⟩
  refine takeH (o := ?o250) 9 (.bool true) ?h250 ?r250
  case h250 => simp only [aT, aS, aZ]; rfl
  refine ⟨_, by simp [Act.put]; rfl, by kernel_rfl, by kernel_rfl, by kernel_rfl, fun _ _ _ h => h, (.inl ⟨rfl, fun W _ => by kernel_rfl⟩), HBL.out, ?_⟩
  refine takeH (o := ?o251) 10 (.pointer (some ⟨gx, 4, none⟩)) ?h251 ?r251
  case h251 => simp only [aT, aS, aZ]; rfl
  refine ⟨_, by simp [Act.put]; rfl, by kernel_rfl, by kernel_rfl, by kernel_rfl, fun _ _ _ h => h, (.inl ⟨rfl, fun W _ => by kernel_rfl⟩), HBL.out, ?_⟩
  refine takeH (o := ?o252) 11 (.slice (some ⟨ox, fx, none⟩) n3 c3) ?h252 ?r252
  case h252 => simp only [aT, aS, aZ]; rfl
  refine ⟨_, by simp [Act.put]; rfl, by kernel_rfl, by kernel_rfl, by kernel_rfl, fun _ _ _ h => h, (.inl ⟨rfl, fun W hW => by have c := (HC.out W hW).2.2.2.1; go_simp⟩), HBL.out, ?_⟩
  refine takeH (o := ?o253) 12 (.int .i64 sq) ?h253 ?r253
  case h253 => simp only [aT, aS, aZ]; rfl
  refine ⟨_, by simp [Act.put]; rfl, by kernel_rfl, by kernel_rfl, by kernel_rfl, fun _ _ _ h => h, (.inl ⟨rfl, fun W _ => by kernel_rfl⟩), HBL.out, ?_⟩
  have hwq : IntKind.i64.wrap (sq - 1) = (n1 : Int) := by have h := HX.out; rw [wrapD (by omega) (by omega)]; omega
  refine takeH (o := ?o254) 13 (.int .i64 n1) ?h254 ?r254
  case h254 => simp only [aT, aS, aZ]; rfl
  refine ⟨_, by simp [Act.put]; rfl, by kernel_rfl, by kernel_rfl, by kernel_rfl, fun _ _ _ h => h, (.inl ⟨rfl, fun W _ => by first | (go_simp; done) | (go_simp; exact hwq)⟩), HBL.out, ?_⟩
  refine takeH (o := ?o255) 14 (.pointer (some ⟨ox, fx + n1 * 11, none⟩)) ?h255 ?r255
  case h255 => simp only [aT, aS, aZ]; rfl
  refine ⟨_, by simp [Act.put]; rfl, by kernel_rfl, by kernel_rfl, by kernel_rfl, fun _ _ _ h => h, (.inl ⟨rfl, fun W _ => by have hn := HN.out; go_simp; first | done | (intro h; omega) | (rw [if_pos (by omega)]; rfl)⟩), HBL.out, ?_⟩
  refine takeH (o := ?o256) 15 (.pointer (some ⟨ox, fx + n1 * 11, none⟩)) ?h256 ?r256
  case h256 => simp only [aT, aS, aZ]; rfl
  refine ⟨_, by simp [Act.put]; rfl, by kernel_rfl, by kernel_rfl, by kernel_rfl, fun _ _ _ h => h, (.inl ⟨rfl, fun W _ => by kernel_rfl⟩), HBL.out, ?_⟩
  refine takeH (o := ?o257) 16 (.int .i64 it.seq) ?h257 ?r257
  case h257 => simp only [aT, aS, aZ]; rfl
  refine ⟨_, by simp [Act.put]; rfl, by kernel_rfl, by kernel_rfl, by kernel_rfl, fun _ _ _ h => h, (.inl ⟨rfl, fun W hW => by have c := (HC.out W hW).2.2.2.2 0 (by omega); simp only [aT, aZ, Nat.add_zero] at c; go_simp⟩), HBL.out, ?_⟩
  refine takeH (o := ?o258) 17 (.int .i64 sq) ?h258 ?r258
  case h258 => simp only [aT, aS, aZ]; rfl
  refine ⟨_, by simp [Act.put]; rfl, by kernel_rfl, by kernel_rfl, by kernel_rfl, fun _ _ _ h => h, (.inl ⟨rfl, fun W _ => by kernel_rfl⟩), HBL.out, ?_⟩
  obtain ⟨d18, hd18⟩ : ∃ d, d = (it.seq == sq) := ⟨_, rfl⟩
  refine takeH (o := ?o259) 18 (.bool d18) ?h259 ?r259
  case h259 => simp only [aT, aS, aZ]; rfl
  refine ⟨_, by simp [Act.put]; rfl, by kernel_rfl, by kernel_rfl, by kernel_rfl, fun _ _ _ h => h, (.inl ⟨rfl, fun W _ => by rw [hd18]; go_simp⟩), HBL.out, ?_⟩
  obtain rfl : d18 = true := by rw [hd18]; rw [HI.out.1]; simp
  clear hd18
  refine takeH (o := ?o260) 19 (.bool true) ?h260 ?r260
  case h260 => simp only [aT, aS, aZ]; rfl
  refine ⟨_, by simp [Act.put]; rfl, by kernel_rfl, by kernel_rfl, by kernel_rfl, fun _ _ _ h => h, (.inl ⟨rfl, fun W _ => by kernel_rfl⟩), HBL.out, ?_⟩
  refine takeH (o := ?o261) 20 (.bool true) ?h261 ?r261
  case h261 => simp only [aT, aS, aZ]; rfl
  refine ⟨_, by simp [Act.put]; rfl, by kernel_rfl, by kernel_rfl, by kernel_rfl, fun _ _ _ h => h, (.inl ⟨rfl, fun W _ => by kernel_rfl⟩), HBL.out, ?_⟩
  refine takeH (o := ?o262) 21 (.pointer (some ⟨gx, 4, none⟩)) ?h262 ?r262
  case h262 => simp only [aT, aS, aZ]; rfl
  refine ⟨_, by simp [Act.put]; rfl, by kernel_rfl, by kernel_rfl, by kernel_rfl, fun _ _ _ h => h, (.inl ⟨rfl, fun W _ => by kernel_rfl⟩), HBL.out, ?_⟩
  refine takeH (o := ?o263) 22 (.slice (some ⟨ox, fx, none⟩) n3 c3) ?h263 ?r263
  case h263 => simp only [aT, aS, aZ]; rfl
  refine ⟨_, by simp [Act.put]; rfl, by kernel_rfl, by kernel_rfl, by kernel_rfl, fun _ _ _ h => h, (.inl ⟨rfl, fun W hW => by have c := (HC.out W hW).2.2.2.1; go_simp⟩), HBL.out, ?_⟩
  refine takeH (o := ?o264) 23 (.int .i64 sq) ?h264 ?r264
  case h264 => simp only [aT, aS, aZ]; rfl
  refine ⟨_, by simp [Act.put]; rfl, by kernel_rfl, by kernel_rfl, by kernel_rfl, fun _ _ _ h => h, (.inl ⟨rfl, fun W _ => by kernel_rfl⟩), HBL.out, ?_⟩
  refine takeH (o := ?o265) 24 (.int .i64 n1) ?h265 ?r265
  case h265 => simp only [aT, aS, aZ]; rfl
  refine ⟨_, by simp [Act.put]; rfl, by kernel_rfl, by kernel_rfl, by kernel_rfl, fun _ _ _ h => h, (.inl ⟨rfl, fun W _ => by first | (go_simp; done) | (go_simp; exact hwq)⟩), HBL.out, ?_⟩
  refine takeH (o := ?o266) 25 (.pointer (some ⟨ox, fx + n1 * 11, none⟩)) ?h266 ?r266
  case h266 => simp only [aT, aS, aZ]; rfl
  refine ⟨_, by simp [Act.put]; rfl, by kernel_rfl, by kernel_rfl, by kernel_rfl, fun _ _ _ h => h, (.inl ⟨rfl, fun W _ => by have hn := HN.out; go_simp; first | done | (intro h; omega) | (rw [if_pos (by omega)]; rfl)⟩), HBL.out, ?_⟩
  refine takeH (o := ?o267) 26 (.pointer (some ⟨ox, fx + n1 * 11 + 4, none⟩)) ?h267 ?r267
  case h267 => simp only [aT, aS, aZ]; rfl
  refine ⟨_, by simp [Act.put]; rfl, by kernel_rfl, by kernel_rfl, by kernel_rfl, fun _ _ _ h => h, (.inl ⟨rfl, fun W _ => by kernel_rfl⟩), HBL.out, ?_⟩
  refine takeH (o := ?o268) 27 (.agg #[.int .i64 it.sk.count, .int .i64 it.sk.sum, .int .i64 it.sk.min, .int .i64 it.sk.max, .slice xe1 xe2 xe3, .slice xe4 xe5 xe6, .slice xe7 xe8 xe9]) ?h268 ?r268
  case h268 => simp only [aT, aS, aZ]; rfl
  refine ⟨_, by simp [Act.put]; rfl, by kernel_rfl, by kernel_rfl, by kernel_rfl, fun _ _ _ h => h, (yields_at 34 ox (fx + n1 * 11 + 4) 7 #[.int .i64 it.sk.count, .int .i64 it.sk.sum, .int .i64 it.sk.min, .int .i64 it.sk.max, .slice xe1 xe2 xe3, .slice xe4 xe5 xe6, .slice xe7 xe8 xe9] _ rfl rfl rfl Try.underlying34 rfl infoSkL rfl (fun W hW => sk_of_it (HC.out W hW).2.2.2.2)), HBL.out, ?_⟩
  refine takeH (o := ?o269) 28 (.agg #[.int .i64 s.count, .int .i64 s.sum, .int .i64 s.min, .int .i64 s.max, .slice s1 s2 s3, .slice s4 s5 s6, .slice s7 s8 s9]) ?h269 ?r269
  case h269 => simp only [aT, aS, aZ]; rfl
  refine ⟨_, by simp [Act.put]; rfl, by kernel_rfl, by kernel_rfl, by kernel_rfl, fun _ _ _ h => h, (yields_whole 34 gs #[.int .i64 s.count, .int .i64 s.sum, .int .i64 s.min, .int .i64 s.max, .slice s1 s2 s3, .slice s4 s5 s6, .slice s7 s8 s9] 34 _ rfl rfl rfl Try.underlying34 rfl infoSkL (fun W hW => (HC.out W hW).2.2.1)), HBL.out, ?_⟩
  refine onlyH (o := ?o270) 29 (by kernel_rfl) ?h270 ?r270
  case h270 => simp only [aT, aS, aZ]; rfl
  intro K hK
  refine op_call2v 26 _ _ _ Try.f26 (fun v w' => v = .bool true ∧ Below w16.heap.size w16 w') rfl rfl Try.func26 (by kernel_rfl) (by kernel_rfl) ((sameImpl_any _ _ it.sk s Fix Hs w16 HK2.out Vs.out.2 (by rw [HI.out.2]; exact HSF.out.wide) HSF.out.wide).mono (by rintro e w' ⟨rfl, hb⟩; exact ⟨_, rfl, by rw [decide_eq_true HI.out.2], hb⟩)) ?_
  rintro v w17 ⟨rfl, hb⟩
  have BEL : Hid (Below w.heap.size w w17) := Below.next BEL.out hb
  have Va : Hid (VarA ga a a1 n1 c1 a2 n2 c2 F G w17) := Va.out.below hb
  have Vs : Hid (Blk w17 gs #[.int .i64 s.count, .int .i64 s.sum, .int .i64 s.min, .int .i64 s.max, .slice s1 s2 s3, .slice s4 s5 s6, .slice s7 s8 s9] 34 ∧ RdSk w17 (.agg #[.int .i64 s.count, .int .i64 s.sum, .int .i64 s.min, .int .i64 s.max, .slice s1 s2 s3, .slice s4 s5 s6, .slice s7 s8 s9]) s Hs) := ⟨Vs.out.1.below hb, Vs.out.2.below hb⟩
  have Vx : Hid (VarA gx x x1 n3 c3 x2 n4 c4 Fx Gx w17) := Vx.out.below hb
  have Vb : Hid (VarA gb b q1 l1 k1 q2 l2 k2 Fb Gb w17) := Vb.out.below hb
  have Vy : Hid (VarA gy y y1 l1 c7 y2 n8 c8 Fy Gy w17) := Vy.out.below hb
  have HBL : Hid (Below w15.heap.size w15 w17) := Below.next HBL.out hb
  clear hb HK2
  refine ⟨_, by simp [Act.put]; rfl, hK _ _ ⟨HBL.out, ?_⟩⟩
  clear hK
  refine takeH (o := ?o271) 30 (.bool true) ?h271 ?r271
  case h271 => simp only [aT, aS, aZ]; rfl
  refine ⟨_, by simp [Act.put]; rfl, by kernel_rfl, by kernel_rfl, by kernel_rfl, fun _ _ _ h => h, (.inl ⟨rfl, fun W _ => by kernel_rfl⟩), HBL.out, ?_⟩
  refine takeH (o := ?o272) 31 (.bool true) ?h272 ?r272
  case h272 => simp only [aT, aS, aZ]; rfl
  refine ⟨_, by simp [Act.put]; rfl, by kernel_rfl, by kernel_rfl, by kernel_rfl, fun _ _ _ h => h, (.inl ⟨rfl, fun W _ => by kernel_rfl⟩), HBL.out, ?_⟩
  refine takeH (o := ?o273) 32 (.pointer (some ⟨gx, 3, none⟩)) ?h273 ?r273
  case h273 => simp only [aT, aS, aZ]; rfl
  refine ⟨_, by simp [Act.put]; rfl, by kernel_rfl, by kernel_rfl, by kernel_rfl, fun _ _ _ h => h, (.inl ⟨rfl, fun W _ => by kernel_rfl⟩), HBL.out, ?_⟩
  refine takeH (o := ?o274) 33 (.int .i64 x.granted) ?h274 ?r274
  case h274 => simp only [aT, aS, aZ]; rfl
  refine ⟨_, by simp [Act.put]; rfl, by kernel_rfl, by kernel_rfl, by kernel_rfl, fun _ _ _ h => h, (.inl ⟨rfl, fun W hW => by have c := (HC.out W hW).1.cell 3; simp only [aT, aS, aZ] at c; go_simp⟩), HBL.out, ?_⟩
  refine takeH (o := ?o275) 34 (.pointer (some ⟨ga, 3, none⟩)) ?h275 ?r275
  case h275 => simp only [aT, aS, aZ]; rfl
  refine ⟨_, by simp [Act.put]; rfl, by kernel_rfl, by kernel_rfl, by kernel_rfl, fun _ _ _ h => h, (.inl ⟨rfl, fun W _ => by kernel_rfl⟩), HBL.out, ?_⟩
  refine takeH (o := ?o276) 35 (.int .i64 a.granted) ?h276 ?r276
  case h276 => simp only [aT, aS, aZ]; rfl
  refine ⟨_, by simp [Act.put]; rfl, by kernel_rfl, by kernel_rfl, by kernel_rfl, fun _ _ _ h => h, (.inl ⟨rfl, fun W hW => by have c := (HC.out W hW).2.1.cell 3; simp only [aT, aS, aZ] at c; go_simp⟩), HBL.out, ?_⟩
  obtain ⟨d36, hd36⟩ : ∃ d, d = (x.granted == a.granted) := ⟨_, rfl⟩
  refine takeH (o := ?o277) 36 (.bool d36) ?h277 ?r277
  case h277 => simp only [aT, aS, aZ]; rfl
  refine ⟨_, by simp [Act.put]; rfl, by kernel_rfl, by kernel_rfl, by kernel_rfl, fun _ _ _ h => h, (.inl ⟨rfl, fun W _ => by rw [hd36]; go_simp⟩), HBL.out, ?_⟩
  obtain rfl : d36 = true := by rw [hd36]; rw [HX.out.2.1]; simp
  clear hd36
  refine takeH (o := ?o278) 37 (.bool true) ?h278 ?r278
  case h278 => simp only [aT, aS, aZ]; rfl
  refine ⟨_, by simp [Act.put]; rfl, by kernel_rfl, by kernel_rfl, by kernel_rfl, fun _ _ _ h => h, (.inl ⟨rfl, fun W _ => by kernel_rfl⟩), HBL.out, ?_⟩
  refine takeH (o := ?o279) 38 (.bool true) ?h279 ?r279
  case h279 => simp only [aT, aS, aZ]; rfl
  refine ⟨_, by simp [Act.put]; rfl, by kernel_rfl, by kernel_rfl, by kernel_rfl, fun _ _ _ h => h, (.inl ⟨rfl, fun W _ => by kernel_rfl⟩), HBL.out, ?_⟩
  refine wpAnyH_done (by kernel_rfl) ?_ _
  go_wp2
  go_ret
  exact ⟨rfl, BEL.out⟩

set_option maxRecDepth 100000 in
theorem lifted (os : Os) (started : os.Started) (H : Type) (enc : TypeId × Value → H) :
 ReturnsInHanded {} Try.checked os 4 .any (Rows.fnSealedSpec.pre6 enc Try.prog Try.f4 Rows.fnSealedRow.domain false) (Rows.fnSealedSpec.post enc Try.prog Try.f4 false true false false) := by
 refine returnsInHanded_of_change (C := Try.checked) own started (by kernel_rfl) Try.func4
  (ChangeSpec.witness6 (enc := enc) (C := Try.checked) false ⟨#[], #[.slice none 0 0], []⟩ 8 (by kernel_rfl) (by kernel_rfl) (by kernel_rfl) (by kernel_rfl)) ?_
 intro W base args ds gs before hval0 hW hcnd _
 have hval : ∀ (j : Nat) t v, Try.f4.params[j]? = some t → args[j]? = some v → Value.okWide Try.prog W .any base t v := hval0
 have hW' := hW
 obtain ⟨p, q, hA0, hV, rfl, hfz, hnd⟩ := hW
 have hA : DataW.TrodAll enc Try.prog W 0 (fun _ => true) true Try.f4.params.toList args.toList ds p := hA0
 rw [Try.params4] at hA hval
 obtain ⟨v0, vs0, d0, ds0, p0, q0, hargs, rfl, rfl, h0, r0⟩ := trodAll_cons hA
 obtain ⟨rfl, rfl, rfl⟩ := trodAll_nil r0
 obtain rfl : args = #[v0] := by cases args; simp_all
 obtain ⟨rfl, rfl⟩ := trodVars_none hV
 obtain ⟨a0, len0, cap0, rfl⟩ := okWide_slice Try.underlying22 (hval 0 22 v0 rfl rfl)
 have k0 := h0
 have lt0 : ∀ x ∈ p0, x.block < W.heap.size := by obtain ⟨m, hm⟩ := k0; exact DataW.trod_lt m _ _ _ hm
 obtain ⟨z0, w0⟩ : ∃ zs, IsRow .u8 W a0 len0 cap0 zs := by
  obtain ⟨fuel, hf⟩ := h0
  rcases open_ints Try.underlying22 Try.underlying5 (by kernel_rfl) hf with ⟨hcs, _⟩ | ⟨x, l, c, zs, hcs, _, hl, hm, hz, _, hcell, hwz⟩
  ·
   simp [Value.cells] at hcs
   obtain ⟨rfl, rfl, rfl⟩ := hcs
   exact ⟨[], .inl ⟨rfl, rfl, rfl, rfl⟩⟩
  ·
   simp [Value.cells] at hcs
   obtain ⟨rfl, rfl, rfl⟩ := hcs
   exact ⟨zs, .inr ⟨_, rfl, hl, hm, by simpa using hz, hcell, hwz⟩⟩
 clear hA0 hval0
 refine (walk a0 len0 cap0 z0 W w0).mono fun e W' ⟨he, bel⟩ => ?_
 subst he
 exact ⟨_, rfl, _, _, _, [], _, [], hW', trodAll_mk1 (shut_bool Try.underlying4 _), (trodAll_cons_mk (Below.trod laidOut (by kernel_rfl) (of_decide_eq_true (by kernel_rfl)) k0 bel lt0) trodAll_mk0), rfl, bel.frame _, fun h => by cases h⟩

theorem over : Rows.fnSealedRow.holds Try.pinned (OpenSpec.ofChange Rows.fnSealedSpec) :=
 OpenClaim.holds_of_wide 4 Try.f4 rfl rfl rfl rfl rfl rfl rfl ⟨rfl, rfl, rfl, rfl, rfl⟩ rfl rfl rfl rfl rfl (by kernel_rfl) Try.func4 (by kernel_rfl)
  (of_decide_eq_true (by kernel_rfl)) (by unfold Func.isWrapper; first | (rw [if_pos (by decide +kernel)]; kernel_rfl) | (rw [if_neg (by decide +kernel)]; exact ⟨rfl, rfl⟩))
  (fun os started H enc _ => lifted os started H enc)

theorem proved : Rows.FnSealedSaid := over
#print axioms proved
end Go.Proofs.Ytgkbhhlkaifnoaa.fnSealed
