/- For every byte slice (no condition): laws.FnSeatMerged returns true, and its argument reads afterwards as it did: what is added up is never more than what was taken; with it the credit grows by as many. -/
import Derived.Test.YtgkbhhlkaifnoaaLawBase
import Derived.Test.YtgkbhhlkaifnoaaB3
import Derived.Test.YtgkbhhlkaifnoaaSkLaw
import Derived.Deep.DeepCutAuto
import Derived.Test.YtgkbhhlkaifnoaaRows
import Derived.WalkKit
import Derived.ProofKit
import Derived.OpenShut
import Derived.ShutString
import Derived.ChangeOld
import Derived.Below
namespace Go.Proofs.Ytgkbhhlkaifnoaa.fnSeatMerged
open Go.ChangeShapes Go.WideShapes Go.ChangeAt Go.RowKit
open Go.ChangeMaps (open_string shut_string)
set_option linter.unusedVariables false

theorem own : ownKnob Try.prog.godebug = none := by kernel_rfl
theorem laidOut : laidOutB Try.prog = true := by kernel_rfl

/-- WHAT THE WALK IS TOLD OF A SLICE OF INTEGERS THAT CAME IN: it is nil; or it leads to a row of 'cap' cells, the numbers 'zs' (the first 'len' are its elements, the rest its spare room), each fitting its kind. -/
def IsRow (k : IntKind) (w : World) (a : Option Addr) (len cap : Nat) (zs : List Int) : Prop :=
  (a = none ∧ len = 0 ∧ cap = 0 ∧ zs = []) ∨
  ∃ x, a = some x ∧ len ≤ cap ∧ cap ≤ maxLen ∧ zs.length = cap ∧ (∀ i, i < zs.length → w.cell? (x.add i) = some (.int k (zs.getD i 0))) ∧ ∀ n ∈ zs, (Lit.int k n).wf = true

/-- A seat in a variable. -/
structure VarQ (g : Nat) (x : Se) (b : Option Addr) (l c : Nat) (F : List Nat) (m : Nat) (W : World) : Prop where
  blk : Blk W g #[.int .i64 x.epoch, .int .i64 x.granted, .slice b l c, .int .i64 x.merged, .int .i64 x.last] 54
  rp : RdP W b l x.taken F
  cp : Capd b l c
  len : x.taken.length ≤ m
theorem VarQ.below {g : Nat} {x : Se} {b : Option Addr} {l c : Nat} {F : List Nat} {m : Nat} {W W' : World} (h : VarQ g x b l c F m W) (k : Below W.heap.size W W') : VarQ g x b l c F m W' := ⟨h.blk.below k, h.rp.below k, h.cp, h.len⟩
theorem VarQ.rd {g : Nat} {x : Se} {b : Option Addr} {l c : Nat} {F : List Nat} {m : Nat} {W : World} (h : VarQ g x b l c F m W) : RdSe W (.agg #[.int .i64 x.epoch, .int .i64 x.granted, .slice b l c, .int .i64 x.merged, .int .i64 x.last]) x F := ⟨b, l, c, rfl, h.rp, h.cp⟩
theorem VarQ.l {g : Nat} {x : Se} {b : Option Addr} {l c : Nat} {F : List Nat} {m : Nat} {W : World} (h : VarQ g x b l c F m W) : l ≤ m := by rw [← h.rp.length]; exact h.len

set_option maxHeartbeats 16000000 in
set_option maxRecDepth 200000 in
theorem walk (a0 : Option Addr) (len0 cap0 : Nat) (z0 : List Int) (w : World) (w0 : IsRow .u8 w a0 len0 cap0 z0) :
    Calls Try.prog 5 #[.slice a0 len0 cap0] w fun e w' => e = .returned (.bool true) ∧ Below w.heap.size w w' := by
  have hR0 := rdOf w0
  have hR := hR0.1
  generalize z0.take len0 = zs at hR
  clear w0 hR0
  have HR : Hid (RdB w a0 len0 zs) := hR
  clear hR
  go_enter Try.func5, Try.ntmps5
  go_wp2_with fail
  refine (big_any a0 len0 cap0 _).mono ?_
  rintro e w1 ⟨rfl, hw1⟩
  have hw1' := hw1.symm
  subst hw1'
  clear hw1
  by_cases hbig : 1048576 < len0
  · have hd : decide ((1048576 : Int) < (len0 : Int)) = true := dec_true (by omega)
    rw [hd]
    clear hd
    go_wp2
    go_ret
    exact ⟨rfl, Below.refl _ _⟩
  have hd : decide ((1048576 : Int) < (len0 : Int)) = false := dec_false (by omega)
  have hlen : len0 ≤ 1048576 := by omega
  rw [hd]
  clear hd hbig
  have BEL : Hid (Below w.heap.size w w) := Below.refl _ _
  go_wp2_with fail
  refine (drawSeatMerge_any a0 len0 cap0 zs _ HR.out hlen).mono ?_
  rintro e w1 ⟨v, s, per, n, F, rfl, ⟨p1, n1, k1, rfl, rps, cps⟩, ⟨hls, _⟩, o1, b1⟩
  have BEL : Hid (Below w.heap.size w w1) := Below.next BEL.out b1
  clear o1 b1
  have Rs : Hid (RdP w1 p1 n1 s.taken F ∧ Capd p1 n1 k1 ∧ s.taken.length ≤ 8) := ⟨rps, cps, hls⟩
  clear rps cps hls
  go_wp2_with (first | go_skip | (with_reducible refine stopLoad 54 rfl ?_) | (with_reducible refine stopStore 54 rfl ?_))
  refine store_fresh 54 w1.heap.size rfl #[.int .i64 0, .int .i64 0, .slice none 0 0, .int .i64 0, .int .i64 0] #[.int .i64 s.epoch, .int .i64 s.granted, .slice p1 n1 k1, .int .i64 s.merged, .int .i64 s.last] 54 rfl rfl rfl rfl infoSeI rfl (by simp [Value.oneCell']) ?_
  intro w2 hg hb
  have BEL : Hid (Below w.heap.size w w2) := Below.next BEL.out hb
  obtain ⟨gs, hgv⟩ : ∃ g, g = w1.heap.size := ⟨_, rfl⟩
  rw [← hgv] at hg ⊢
  have Vs : Hid (VarQ gs s p1 n1 k1 F 8 w2) := ⟨hg, Rs.out.1.below hb, Rs.out.2.1, Rs.out.2.2⟩
  clear hg hb hgv Rs
  obtain ⟨z, hz⟩ : ∃ z, z = s.merge per n := ⟨_, rfl⟩
  have HZ : Hid (s.merge per n = z) := hz.symm
  have HT : Hid (z.1.taken = s.taken) := by show _ = _; rw [hz]; exact Se.merge_taken s per n
  clear hz
  obtain ⟨x, d⟩ := z
  go_wp2_with (first | go_skip | (with_reducible refine stopLoad 54 rfl ?_) | (with_reducible refine stopStore 54 rfl ?_))
  refine load_known 54 gs #[.int .i64 s.epoch, .int .i64 s.granted, .slice p1 n1 k1, .int .i64 s.merged, .int .i64 s.last] 54 _ Vs.out.blk rfl rfl rfl Try.underlying54 rfl infoSeI ?_
  go_wp2_with fail
  refine (seMergeImpl_any _ s per n F _ Vs.out.rd (by have := Vs.out.len; omega)).mono ?_
  intro e w3 hh
  rw [HZ.out] at hh
  obtain ⟨zv, Fx, rfl, ⟨px, nx, kx, rfl, rpx, cpx⟩, oo, bb⟩ := hh
  have hlx : x.taken.length ≤ 8 := by have e : x.taken = s.taken := HT.out; rw [e]; exact Vs.out.len
  have BEL : Hid (Below w.heap.size w w3) := Below.next BEL.out bb
  have Vs : Hid (VarQ gs s p1 n1 k1 F 8 w3) := Vs.out.below bb
  clear oo bb
  have Rx : Hid (RdP w3 px nx x.taken Fx ∧ Capd px nx kx ∧ x.taken.length ≤ 8) := ⟨rpx, cpx, hlx⟩
  clear rpx cpx hlx
  go_wp2_with (first | go_skip | (with_reducible refine stopLoad 54 rfl ?_) | (with_reducible refine stopStore 54 rfl ?_))
  refine store_fresh 54 w3.heap.size rfl #[.int .i64 0, .int .i64 0, .slice none 0 0, .int .i64 0, .int .i64 0] #[.int .i64 x.epoch, .int .i64 x.granted, .slice px nx kx, .int .i64 x.merged, .int .i64 x.last] 54 rfl rfl rfl rfl infoSeI rfl (by simp [Value.oneCell']) ?_
  intro w4 hg hb
  have BEL : Hid (Below w.heap.size w w4) := Below.next BEL.out hb
  have Vs : Hid (VarQ gs s p1 n1 k1 F 8 w4) := Vs.out.below hb
  obtain ⟨gx, hgv⟩ : ∃ g, g = w3.heap.size := ⟨_, rfl⟩
  rw [← hgv] at hg ⊢
  have Vx : Hid (VarQ gx x px nx kx Fx 8 w4) := ⟨hg, Rx.out.1.below hb, Rx.out.2.1, Rx.out.2.2⟩
  clear hg hb hgv Rx
  go_wp2_with (first | go_skip | (with_reducible refine stopLoad 54 rfl ?_) | (with_reducible refine stopStore 54 rfl ?_))
  refine load_known 54 gs #[.int .i64 s.epoch, .int .i64 s.granted, .slice p1 n1 k1, .int .i64 s.merged, .int .i64 s.last] 54 _ Vs.out.blk rfl rfl rfl Try.underlying54 rfl infoSeI ?_
  go_wp2_with fail
  refine (seMergeSpec_any _ s per n F _ Vs.out.rd (by have := Vs.out.len; omega)).mono ?_
  intro e w5 hh
  rw [HZ.out] at hh
  obtain ⟨zv, Fy, rfl, ⟨py, ny, ky, rfl, rpy, cpy⟩, oo, bb⟩ := hh
  have hly : x.taken.length ≤ 8 := by have e : x.taken = s.taken := HT.out; rw [e]; exact Vs.out.len
  have BEL : Hid (Below w.heap.size w w5) := Below.next BEL.out bb
  have Vs : Hid (VarQ gs s p1 n1 k1 F 8 w5) := Vs.out.below bb
  have Vx : Hid (VarQ gx x px nx kx Fx 8 w5) := Vx.out.below bb
  clear oo bb
  have Ry : Hid (RdP w5 py ny x.taken Fy ∧ Capd py ny ky ∧ x.taken.length ≤ 8) := ⟨rpy, cpy, hly⟩
  clear rpy cpy hly
  go_wp2_with (first | go_skip | (with_reducible refine stopLoad 54 rfl ?_) | (with_reducible refine stopStore 54 rfl ?_))
  refine store_fresh 54 w5.heap.size rfl #[.int .i64 0, .int .i64 0, .slice none 0 0, .int .i64 0, .int .i64 0] #[.int .i64 x.epoch, .int .i64 x.granted, .slice py ny ky, .int .i64 x.merged, .int .i64 x.last] 54 rfl rfl rfl rfl infoSeI rfl (by simp [Value.oneCell']) ?_
  intro w6 hg hb
  have BEL : Hid (Below w.heap.size w w6) := Below.next BEL.out hb
  have Vs : Hid (VarQ gs s p1 n1 k1 F 8 w6) := Vs.out.below hb
  have Vx : Hid (VarQ gx x px nx kx Fx 8 w6) := Vx.out.below hb
  obtain ⟨gy, hgv⟩ : ∃ g, g = w5.heap.size := ⟨_, rfl⟩
  rw [← hgv] at hg ⊢
  have Vy : Hid (VarQ gy x py ny ky Fy 8 w6) := ⟨hg, Ry.out.1.below hb, Ry.out.2.1, Ry.out.2.2⟩
  clear hg hb hgv Ry
  have hdd : (d != d) = false := by simp
  cases d
  · have HE : Hid (x = s) := by
      have q := HZ.out
      show x = s
      unfold Se.merge at q
      split at q
      · exact absurd (Prod.mk.inj q).2 (by simp)
      · exact (Prod.mk.inj q).1.symm
    have e := HE.out
    subst e
    have c1 := Vx.out.blk.cell 3
    have c2 := Vs.out.blk.cell 3
    simp only [aT, aS, aZ] at c1 c2
    go_wp2
    go_ret
    exact ⟨by simp, BEL.out⟩
  have HC : Hid (s.ok per = true ∧ (0 ≤ n ∧ n ≤ s.taken.size - s.merged) ∧ x = s.plus n) := by
    have q := HZ.out
    show _ ∧ _
    unfold Se.merge at q
    split at q
    · rename_i h; exact ⟨h.1, h.2, (Prod.mk.inj q).1.symm⟩
    · exact absurd (Prod.mk.inj q).2 (by simp)
  have HRT : Hid (s.Right per) := Se.right HC.out.1
  have e := HC.out.2.2
  subst e
  clear HT HZ hdd
  obtain ⟨g, hg⟩ : ∃ g, g = min 60 (s.merged + n + per) := ⟨_, rfl⟩
  have HOK : Hid ((s.plus n).ok per = true) := by show _ = _; rw [Se.plus_ok HRT.out HC.out.2.1.1, decide_eq_true HC.out.2.1.2]
  have HG : Hid ((s.plus n).grant per = ⟨s.epoch, g, s.taken, s.merged + n, s.last⟩ ∧ s.granted ≤ g ∧ (g = s.merged + n + per ∨ g = 60) ∧ g ≤ 60 ∧ 0 ≤ g) := by
    have r := HRT.out
    have h1 := r.share
    have h2 := r.granted
    have h3 := HC.out.2.1
    refine ⟨by unfold Se.grant; rw [if_pos HOK.out, hg]; rfl, by rw [hg]; omega, by rw [hg]; omega, by rw [hg]; omega, by rw [hg]; omega⟩
  clear hg
  go_wp2_with (first | go_skip | (with_reducible refine stopLoad 54 rfl ?_) | (with_reducible refine stopStore 54 rfl ?_))
  refine load_known 54 gx #[.int .i64 s.epoch, .int .i64 s.granted, .slice px nx kx, .int .i64 (s.merged + n), .int .i64 s.last] 54 _ Vx.out.blk rfl rfl rfl Try.underlying54 rfl infoSeI ?_
  go_wp2_with fail
  refine (seGrantImpl_any _ (s.plus n) per Fx _ Vx.out.rd (by have := Vx.out.len; omega)).mono ?_
  intro e w7 hh
  rw [HG.out.1] at hh
  obtain ⟨zv, Fg, rfl, ⟨pg, ng, kg, rfl, rpg, cpg⟩, oo, bb⟩ := hh
  have hlg : s.taken.length ≤ 8 := Vs.out.len
  have BEL : Hid (Below w.heap.size w w7) := Below.next BEL.out bb
  have Vs : Hid (VarQ gs s p1 n1 k1 F 8 w7) := Vs.out.below bb
  have Vx : Hid (VarQ gx (s.plus n) px nx kx Fx 8 w7) := Vx.out.below bb
  have Vy : Hid (VarQ gy (s.plus n) py ny ky Fy 8 w7) := Vy.out.below bb
  clear oo bb
  go_wp2_with (first | go_skip | (with_reducible refine stopLoad 54 rfl ?_) | (with_reducible refine stopStore 54 rfl ?_))
  refine store_fresh 54 w7.heap.size rfl #[.int .i64 0, .int .i64 0, .slice none 0 0, .int .i64 0, .int .i64 0] #[.int .i64 s.epoch, .int .i64 g, .slice pg ng kg, .int .i64 (s.merged + n), .int .i64 s.last] 54 rfl rfl rfl rfl infoSeI rfl (by simp [Value.oneCell']) ?_
  intro w8 hg hb
  have BEL : Hid (Below w.heap.size w w8) := Below.next BEL.out hb
  have Vs : Hid (VarQ gs s p1 n1 k1 F 8 w8) := Vs.out.below hb
  have Vx : Hid (VarQ gx (s.plus n) px nx kx Fx 8 w8) := Vx.out.below hb
  have Vy : Hid (VarQ gy (s.plus n) py ny ky Fy 8 w8) := Vy.out.below hb
  obtain ⟨gg, hgv⟩ : ∃ g, g = w7.heap.size := ⟨_, rfl⟩
  rw [← hgv] at hg ⊢
  have VG : Hid (Blk w8 gg #[.int .i64 s.epoch, .int .i64 g, .slice pg ng kg, .int .i64 (s.merged + n), .int .i64 s.last] 54) := hg
  clear hg hb hgv rpg cpg hlg
  go_wp2_with fail
  obtain ⟨Y0, hY0⟩ : ∃ Y, Y = w8.drew := ⟨_, rfl⟩
  have bd := (Below.refl w8.heap.size w8).drew
  rw [← hY0] at bd
  have BEL : Hid (Below w.heap.size w Y0) := Below.next BEL.out bd
  have Vs : Hid (VarQ gs s p1 n1 k1 F 8 Y0) := Vs.out.below bd
  have Vx : Hid (VarQ gx (s.plus n) px nx kx Fx 8 Y0) := Vx.out.below bd
  have Vy : Hid (VarQ gy (s.plus n) py ny ky Fy 8 Y0) := Vy.out.below bd
  have VG : Hid (Blk Y0 gg #[.int .i64 s.epoch, .int .i64 g, .slice pg ng kg, .int .i64 (s.merged + n), .int .i64 s.last] 54) := VG.out.below bd
  clear bd
  refine wp_region_held (S := fun W => Blk W gs #[.int .i64 s.epoch, .int .i64 s.granted, .slice p1 n1 k1, .int .i64 s.merged, .int .i64 s.last] 54 ∧ Blk W gx #[.int .i64 s.epoch, .int .i64 s.granted, .slice px nx kx, .int .i64 (s.merged + n), .int .i64 s.last] 54 ∧ Blk W gg #[.int .i64 s.epoch, .int .i64 g, .slice pg ng kg, .int .i64 (s.merged + n), .int .i64 s.last] 54) (by kernel_rfl) ?_
  change wpAnyH _ _ _ _ _ _ _ _ (World.drew _)
  rw [← hY0]
  clear hY0
  refine takeH (o := ?o1) 0 (.agg #[.int .i64 s.epoch, .int .i64 s.granted, .slice px nx kx, .int .i64 (s.merged + n), .int .i64 s.last]) ?h1 ?r1
  case h1 => simp only [aT, aZ]; rfl
  refine ⟨_, by simp [Act.put]; rfl, by kernel_rfl, by kernel_rfl, by kernel_rfl, fun _ _ _ h => h, (yields_whole 54 _ #[.int .i64 s.epoch, .int .i64 s.granted, .slice px nx kx, .int .i64 (s.merged + n), .int .i64 s.last] 54 _ rfl rfl rfl Try.underlying54 rfl infoSeI (fun W hW => hW.2.1)), ⟨Vs.out.blk, Vx.out.blk, VG.out⟩, ?_⟩
  refine takeH (o := ?o2) 1 (.int .i64 per) ?h2 ?r2
  case h2 => simp only [aT, aS, aZ]; rfl
  refine ⟨_, by simp [Act.put]; rfl, by kernel_rfl, by kernel_rfl, by kernel_rfl, fun _ _ _ h => h, (.inl ⟨rfl, fun W _ => by kernel_rfl⟩), ⟨Vs.out.blk, Vx.out.blk, VG.out⟩, ?_⟩
  refine onlyH (o := ?o3) 2 (by kernel_rfl) ?h3 ?r3
  case h3 => simp only [aT, aS, aZ]; rfl
  intro K hK
  refine op_callS2 31 _ _ _ Try.f31 (fun v w' => v = .bool true ∧ Below Y0.heap.size Y0 w') rfl rfl Try.func31 (by kernel_rfl) (by kernel_rfl) ((seOkImpl_any _ (s.plus n) per Fx Y0 Vx.out.rd (by have := Vx.out.len; omega)).mono (by rintro e w' ⟨rfl, hb⟩; exact ⟨_, rfl, by rw [HOK.out], hb⟩)) ?_
  rintro v Y1 ⟨rfl, hb⟩
  have BEL : Hid (Below w.heap.size w Y1) := Below.next BEL.out hb
  have Vs : Hid (VarQ gs s p1 n1 k1 F 8 Y1) := Vs.out.below hb
  have Vx : Hid (VarQ gx (s.plus n) px nx kx Fx 8 Y1) := Vx.out.below hb
  have Vy : Hid (VarQ gy (s.plus n) py ny ky Fy 8 Y1) := Vy.out.below hb
  have VG : Hid (Blk Y1 gg #[.int .i64 s.epoch, .int .i64 g, .slice pg ng kg, .int .i64 (s.merged + n), .int .i64 s.last] 54) := VG.out.below hb
  clear hb
  refine ⟨_, by simp [Act.put]; rfl, hK _ _ ⟨⟨Vs.out.blk, Vx.out.blk, VG.out⟩, ?_⟩⟩
  clear hK
  refine takeH (o := ?o4) 3 (.bool true) ?h4 ?r4
  case h4 => simp only [aT, aS, aZ]; rfl
  refine ⟨_, by simp [Act.put]; rfl, by kernel_rfl, by kernel_rfl, by kernel_rfl, fun _ _ _ h => h, (.inl ⟨rfl, fun W _ => by kernel_rfl⟩), ⟨Vs.out.blk, Vx.out.blk, VG.out⟩, ?_⟩
  refine takeH (o := ?o5) 4 (.pointer (some ⟨gx, 3, none⟩)) ?h5 ?r5
  case h5 => simp only [aT, aS, aZ]; rfl
  refine ⟨_, by simp [Act.put]; rfl, by kernel_rfl, by kernel_rfl, by kernel_rfl, fun _ _ _ h => h, (.inl ⟨rfl, fun W _ => by kernel_rfl⟩), ⟨Vs.out.blk, Vx.out.blk, VG.out⟩, ?_⟩
  refine takeH (o := ?o6) 5 (.int .i64 (s.merged + n)) ?h6 ?r6
  case h6 => simp only [aT, aS, aZ]; rfl
  refine ⟨_, by simp [Act.put]; rfl, by kernel_rfl, by kernel_rfl, by kernel_rfl, fun _ _ _ h => h, (.inl ⟨rfl, fun W hW => by have c := hW.2.1.cell 3; simp only [aT, aS, aZ] at c; go_simp⟩), ⟨Vs.out.blk, Vx.out.blk, VG.out⟩, ?_⟩
  refine takeH (o := ?o7) 6 (.pointer (some ⟨gs, 3, none⟩)) ?h7 ?r7
  case h7 => simp only [aT, aS, aZ]; rfl
  refine ⟨_, by simp [Act.put]; rfl, by kernel_rfl, by kernel_rfl, by kernel_rfl, fun _ _ _ h => h, (.inl ⟨rfl, fun W _ => by kernel_rfl⟩), ⟨Vs.out.blk, Vx.out.blk, VG.out⟩, ?_⟩
  refine takeH (o := ?o8) 7 (.int .i64 s.merged) ?h8 ?r8
  case h8 => simp only [aT, aS, aZ]; rfl
  refine ⟨_, by simp [Act.put]; rfl, by kernel_rfl, by kernel_rfl, by kernel_rfl, fun _ _ _ h => h, (.inl ⟨rfl, fun W hW => by have c := hW.1.cell 3; simp only [aT, aS, aZ] at c; go_simp⟩), ⟨Vs.out.blk, Vx.out.blk, VG.out⟩, ?_⟩
  refine takeH (o := ?o9) 8 (.int .i64 n) ?h9 ?r9
  case h9 => simp only [aT, aS, aZ]; rfl
  refine ⟨_, by simp [Act.put]; rfl, by kernel_rfl, by kernel_rfl, by kernel_rfl, fun _ _ _ h => h, (.inl ⟨rfl, fun W _ => by kernel_rfl⟩), ⟨Vs.out.blk, Vx.out.blk, VG.out⟩, ?_⟩
  have hb1 := HC.out.2.1
  have hb2 := HRT.out.merged
  have hb3 := HRT.out.size
  have hb4 := HRT.out.per
  have hwz : IntKind.i64.wrap (s.merged + n) = s.merged + n := wrapSe (by omega)
  have hwp : IntKind.i64.wrap (s.merged + n + per) = s.merged + n + per := wrapSe (by omega)
  refine takeH (o := ?o10) 9 (.int .i64 (s.merged + n)) ?h10 ?r10
  case h10 => simp only [aT, aS, aZ]; rfl
  refine ⟨_, by simp [Act.put]; rfl, by kernel_rfl, by kernel_rfl, by kernel_rfl, fun _ _ _ h => h, (.inl ⟨rfl, fun W _ => by first | (go_simp; done) | (go_simp; exact hwz)⟩), ⟨Vs.out.blk, Vx.out.blk, VG.out⟩, ?_⟩
  refine takeH (o := ?o11) 10 (.bool true) ?h11 ?r11
  case h11 => simp only [aT, aS, aZ]; rfl
  refine ⟨_, by simp [Act.put]; rfl, by kernel_rfl, by kernel_rfl, by kernel_rfl, fun _ _ _ h => h, (.inl ⟨rfl, fun W _ => by go_simp⟩), ⟨Vs.out.blk, Vx.out.blk, VG.out⟩, ?_⟩
  refine takeH (o := ?o12) 11 (.bool true) ?h12 ?r12
  case h12 => simp only [aT, aS, aZ]; rfl
  refine ⟨_, by simp [Act.put]; rfl, by kernel_rfl, by kernel_rfl, by kernel_rfl, fun _ _ _ h => h, (.inl ⟨rfl, fun W _ => by kernel_rfl⟩), ⟨Vs.out.blk, Vx.out.blk, VG.out⟩, ?_⟩
  refine takeH (o := ?o13) 12 (.bool true) ?h13 ?r13
  case h13 => simp only [aT, aS, aZ]; rfl
  refine ⟨_, by simp [Act.put]; rfl, by kernel_rfl, by kernel_rfl, by kernel_rfl, fun _ _ _ h => h, (.inl ⟨rfl, fun W _ => by kernel_rfl⟩), ⟨Vs.out.blk, Vx.out.blk, VG.out⟩, ?_⟩
  refine takeH (o := ?o14) 13 (.pointer (some ⟨gx, 3, none⟩)) ?h14 ?r14
  case h14 => simp only [aT, aS, aZ]; rfl
  refine ⟨_, by simp [Act.put]; rfl, by kernel_rfl, by kernel_rfl, by kernel_rfl, fun _ _ _ h => h, (.inl ⟨rfl, fun W _ => by kernel_rfl⟩), ⟨Vs.out.blk, Vx.out.blk, VG.out⟩, ?_⟩
  refine takeH (o := ?o15) 14 (.int .i64 (s.merged + n)) ?h15 ?r15
  case h15 => simp only [aT, aS, aZ]; rfl
  refine ⟨_, by simp [Act.put]; rfl, by kernel_rfl, by kernel_rfl, by kernel_rfl, fun _ _ _ h => h, (.inl ⟨rfl, fun W hW => by have c := hW.2.1.cell 3; simp only [aT, aS, aZ] at c; go_simp⟩), ⟨Vs.out.blk, Vx.out.blk, VG.out⟩, ?_⟩
  refine takeH (o := ?o16) 15 (.pointer (some ⟨gx, 2, none⟩)) ?h16 ?r16
  case h16 => simp only [aT, aS, aZ]; rfl
  refine ⟨_, by simp [Act.put]; rfl, by kernel_rfl, by kernel_rfl, by kernel_rfl, fun _ _ _ h => h, (.inl ⟨rfl, fun W _ => by kernel_rfl⟩), ⟨Vs.out.blk, Vx.out.blk, VG.out⟩, ?_⟩
  refine takeH (o := ?o17) 16 (.slice px nx kx) ?h17 ?r17
  case h17 => simp only [aT, aS, aZ]; rfl
  refine ⟨_, by simp [Act.put]; rfl, by kernel_rfl, by kernel_rfl, by kernel_rfl, fun _ _ _ h => h, (.inl ⟨rfl, fun W hW => by have c := hW.2.1.cell 2; simp only [aT, aS, aZ] at c; go_simp⟩), ⟨Vs.out.blk, Vx.out.blk, VG.out⟩, ?_⟩
  refine onlyH (o := ?o18) 17 (by kernel_rfl) ?h18 ?r18
  case h18 => simp only [aT, aS, aZ]; rfl
  intro K hK
  refine op_call1 32 _ _ Try.f32 (fun v w' => v = .int .i64 s.taken.size ∧ Below Y1.heap.size Y1 w') rfl rfl Try.func32 (by kernel_rfl) (by kernel_rfl) ((sizeImpl_any px nx kx s.taken Fx Y1 Vx.out.rp (by have := Vx.out.l; omega)).mono (by rintro e w' ⟨rfl, hb⟩; exact ⟨_, rfl, rfl, hb⟩)) ?_
  rintro v Y2 ⟨rfl, hb⟩
  have BEL : Hid (Below w.heap.size w Y2) := Below.next BEL.out hb
  have Vs : Hid (VarQ gs s p1 n1 k1 F 8 Y2) := Vs.out.below hb
  have Vx : Hid (VarQ gx (s.plus n) px nx kx Fx 8 Y2) := Vx.out.below hb
  have Vy : Hid (VarQ gy (s.plus n) py ny ky Fy 8 Y2) := Vy.out.below hb
  have VG : Hid (Blk Y2 gg #[.int .i64 s.epoch, .int .i64 g, .slice pg ng kg, .int .i64 (s.merged + n), .int .i64 s.last] 54) := VG.out.below hb
  clear hb
  refine ⟨_, by simp [Act.put]; rfl, hK _ _ ⟨⟨Vs.out.blk, Vx.out.blk, VG.out⟩, ?_⟩⟩
  clear hK
  obtain ⟨d18, hd18⟩ : ∃ d, d = decide (s.merged + n ≤ s.taken.size) := ⟨_, rfl⟩
  refine takeH (o := ?o19) 18 (.bool d18) ?h19 ?r19
  case h19 => simp only [aT, aS, aZ]; rfl
  refine ⟨_, by simp [Act.put]; rfl, by kernel_rfl, by kernel_rfl, by kernel_rfl, fun _ _ _ h => h, (.inl ⟨rfl, fun W _ => by rw [hd18]; go_simp⟩), ⟨Vs.out.blk, Vx.out.blk, VG.out⟩, ?_⟩
  obtain rfl : d18 = true := by rw [hd18]; exact decide_eq_true (by omega)
  clear hd18
  refine takeH (o := ?o20) 19 (.bool true) ?h20 ?r20
  case h20 => simp only [aT, aS, aZ]; rfl
  refine ⟨_, by simp [Act.put]; rfl, by kernel_rfl, by kernel_rfl, by kernel_rfl, fun _ _ _ h => h, (.inl ⟨rfl, fun W _ => by kernel_rfl⟩), ⟨Vs.out.blk, Vx.out.blk, VG.out⟩, ?_⟩
  refine takeH (o := ?o21) 20 (.bool true) ?h21 ?r21
  case h21 => simp only [aT, aS, aZ]; rfl
  refine ⟨_, by simp [Act.put]; rfl, by kernel_rfl, by kernel_rfl, by kernel_rfl, fun _ _ _ h => h, (.inl ⟨rfl, fun W _ => by kernel_rfl⟩), ⟨Vs.out.blk, Vx.out.blk, VG.out⟩, ?_⟩
  refine takeH (o := ?o22) 21 (.pointer (some ⟨gg, 1, none⟩)) ?h22 ?r22
  case h22 => simp only [aT, aS, aZ]; rfl
  refine ⟨_, by simp [Act.put]; rfl, by kernel_rfl, by kernel_rfl, by kernel_rfl, fun _ _ _ h => h, (.inl ⟨rfl, fun W _ => by kernel_rfl⟩), ⟨Vs.out.blk, Vx.out.blk, VG.out⟩, ?_⟩
  refine takeH (o := ?o23) 22 (.int .i64 g) ?h23 ?r23
  case h23 => simp only [aT, aS, aZ]; rfl
  refine ⟨_, by simp [Act.put]; rfl, by kernel_rfl, by kernel_rfl, by kernel_rfl, fun _ _ _ h => h, (.inl ⟨rfl, fun W hW => by have c := hW.2.2.cell 1; simp only [aT, aS, aZ] at c; go_simp⟩), ⟨Vs.out.blk, Vx.out.blk, VG.out⟩, ?_⟩
  refine takeH (o := ?o24) 23 (.pointer (some ⟨gx, 1, none⟩)) ?h24 ?r24
  case h24 => simp only [aT, aS, aZ]; rfl
  refine ⟨_, by simp [Act.put]; rfl, by kernel_rfl, by kernel_rfl, by kernel_rfl, fun _ _ _ h => h, (.inl ⟨rfl, fun W _ => by kernel_rfl⟩), ⟨Vs.out.blk, Vx.out.blk, VG.out⟩, ?_⟩
  refine takeH (o := ?o25) 24 (.int .i64 s.granted) ?h25 ?r25
  case h25 => simp only [aT, aS, aZ]; rfl
  refine ⟨_, by simp [Act.put]; rfl, by kernel_rfl, by kernel_rfl, by kernel_rfl, fun _ _ _ h => h, (.inl ⟨rfl, fun W hW => by have c := hW.2.1.cell 1; simp only [aT, aS, aZ] at c; go_simp⟩), ⟨Vs.out.blk, Vx.out.blk, VG.out⟩, ?_⟩
  obtain ⟨d25, hd25⟩ : ∃ d, d = decide (s.granted ≤ g) := ⟨_, rfl⟩
  refine takeH (o := ?o26) 25 (.bool d25) ?h26 ?r26
  case h26 => simp only [aT, aS, aZ]; rfl
  refine ⟨_, by simp [Act.put]; rfl, by kernel_rfl, by kernel_rfl, by kernel_rfl, fun _ _ _ h => h, (.inl ⟨rfl, fun W _ => by rw [hd25]; go_simp⟩), ⟨Vs.out.blk, Vx.out.blk, VG.out⟩, ?_⟩
  obtain rfl : d25 = true := by rw [hd25]; exact decide_eq_true HG.out.2.1
  clear hd25
  refine takeH (o := ?o27) 26 (.bool true) ?h27 ?r27
  case h27 => simp only [aT, aS, aZ]; rfl
  refine ⟨_, by simp [Act.put]; rfl, by kernel_rfl, by kernel_rfl, by kernel_rfl, fun _ _ _ h => h, (.inl ⟨rfl, fun W _ => by kernel_rfl⟩), ⟨Vs.out.blk, Vx.out.blk, VG.out⟩, ?_⟩
  refine takeH (o := ?o28) 27 (.bool true) ?h28 ?r28
  case h28 => simp only [aT, aS, aZ]; rfl
  refine ⟨_, by simp [Act.put]; rfl, by kernel_rfl, by kernel_rfl, by kernel_rfl, fun _ _ _ h => h, (.inl ⟨rfl, fun W _ => by kernel_rfl⟩), ⟨Vs.out.blk, Vx.out.blk, VG.out⟩, ?_⟩
  refine takeH (o := ?o29) 28 (.pointer (some ⟨gg, 1, none⟩)) ?h29 ?r29
  case h29 => simp only [aT, aS, aZ]; rfl
  refine ⟨_, by simp [Act.put]; rfl, by kernel_rfl, by kernel_rfl, by kernel_rfl, fun _ _ _ h => h, (.inl ⟨rfl, fun W _ => by kernel_rfl⟩), ⟨Vs.out.blk, Vx.out.blk, VG.out⟩, ?_⟩
  refine takeH (o := ?o30) 29 (.int .i64 g) ?h30 ?r30
  case h30 => simp only [aT, aS, aZ]; rfl
  refine ⟨_, by simp [Act.put]; rfl, by kernel_rfl, by kernel_rfl, by kernel_rfl, fun _ _ _ h => h, (.inl ⟨rfl, fun W hW => by have c := hW.2.2.cell 1; simp only [aT, aS, aZ] at c; go_simp⟩), ⟨Vs.out.blk, Vx.out.blk, VG.out⟩, ?_⟩
  refine takeH (o := ?o31) 30 (.pointer (some ⟨gx, 3, none⟩)) ?h31 ?r31
  case h31 => simp only [aT, aS, aZ]; rfl
  refine ⟨_, by simp [Act.put]; rfl, by kernel_rfl, by kernel_rfl, by kernel_rfl, fun _ _ _ h => h, (.inl ⟨rfl, fun W _ => by kernel_rfl⟩), ⟨Vs.out.blk, Vx.out.blk, VG.out⟩, ?_⟩
  refine takeH (o := ?o32) 31 (.int .i64 (s.merged + n)) ?h32 ?r32
  case h32 => simp only [aT, aS, aZ]; rfl
  refine ⟨_, by simp [Act.put]; rfl, by kernel_rfl, by kernel_rfl, by kernel_rfl, fun _ _ _ h => h, (.inl ⟨rfl, fun W hW => by have c := hW.2.1.cell 3; simp only [aT, aS, aZ] at c; go_simp⟩), ⟨Vs.out.blk, Vx.out.blk, VG.out⟩, ?_⟩
  refine takeH (o := ?o33) 32 (.int .i64 per) ?h33 ?r33
  case h33 => simp only [aT, aS, aZ]; rfl
  refine ⟨_, by simp [Act.put]; rfl, by kernel_rfl, by kernel_rfl, by kernel_rfl, fun _ _ _ h => h, (.inl ⟨rfl, fun W _ => by kernel_rfl⟩), ⟨Vs.out.blk, Vx.out.blk, VG.out⟩, ?_⟩
  refine takeH (o := ?o34) 33 (.int .i64 (s.merged + n + per)) ?h34 ?r34
  case h34 => simp only [aT, aS, aZ]; rfl
  refine ⟨_, by simp [Act.put]; rfl, by kernel_rfl, by kernel_rfl, by kernel_rfl, fun _ _ _ h => h, (.inl ⟨rfl, fun W _ => by first | (go_simp; done) | (go_simp; exact hwp)⟩), ⟨Vs.out.blk, Vx.out.blk, VG.out⟩, ?_⟩
  obtain ⟨d34, hd34⟩ : ∃ d, d = (g == s.merged + n + per) := ⟨_, rfl⟩
  refine takeH (o := ?o35) 34 (.bool d34) ?h35 ?r35
  case h35 => simp only [aT, aS, aZ]; rfl
  refine ⟨_, by simp [Act.put]; rfl, by kernel_rfl, by kernel_rfl, by kernel_rfl, fun _ _ _ h => h, (.inl ⟨rfl, fun W _ => by rw [hd34]; go_simp⟩), ⟨Vs.out.blk, Vx.out.blk, VG.out⟩, ?_⟩
  have HD34 : Hid (d34 = (g == s.merged + n + per)) := hd34
  clear hwz hwp hb1 hb2 hb3 hb4 hd34
  cases d34
  · refine takeH (o := ?o36) 35 (.bool false) ?h36 ?r36
    case h36 => simp only [aT, aS, aZ]; rfl
    refine ⟨_, by simp [Act.put]; rfl, by kernel_rfl, by kernel_rfl, by kernel_rfl, fun _ _ _ h => h, (.inl ⟨rfl, fun W _ => by kernel_rfl⟩), ⟨Vs.out.blk, Vx.out.blk, VG.out⟩, ?_⟩
    refine takeH (o := ?o37) 36 (.pointer (some ⟨gg, 1, none⟩)) ?h37 ?r37
    case h37 => simp only [aT, aS, aZ]; rfl
    refine ⟨_, by simp [Act.put]; rfl, by kernel_rfl, by kernel_rfl, by kernel_rfl, fun _ _ _ h => h, (.inl ⟨rfl, fun W _ => by kernel_rfl⟩), ⟨Vs.out.blk, Vx.out.blk, VG.out⟩, ?_⟩
    refine takeH (o := ?o38) 37 (.int .i64 g) ?h38 ?r38
    case h38 => simp only [aT, aS, aZ]; rfl
    refine ⟨_, by simp [Act.put]; rfl, by kernel_rfl, by kernel_rfl, by kernel_rfl, fun _ _ _ h => h, (.inl ⟨rfl, fun W hW => by have c := hW.2.2.cell 1; simp only [aT, aS, aZ] at c; go_simp⟩), ⟨Vs.out.blk, Vx.out.blk, VG.out⟩, ?_⟩
    have hg60 : g = 60 := by
      rcases HG.out.2.2.1 with q | q
      · have hd34 := HD34.out; rw [q] at hd34; simp at hd34
      · exact q
    obtain ⟨d38, hd38⟩ : ∃ d, d = (g == 60) := ⟨_, rfl⟩
    refine takeH (o := ?o39) 38 (.bool d38) ?h39 ?r39
    case h39 => simp only [aT, aS, aZ]; rfl
    refine ⟨_, by simp [Act.put]; rfl, by kernel_rfl, by kernel_rfl, by kernel_rfl, fun _ _ _ h => h, (.inl ⟨rfl, fun W _ => by rw [hd38]; go_simp⟩), ⟨Vs.out.blk, Vx.out.blk, VG.out⟩, ?_⟩
    obtain rfl : d38 = true := by rw [hd38, hg60]; rfl
    clear hd38 hg60
    refine takeH (o := ?o40) 39 (.bool true) ?h40 ?r40
    case h40 => simp only [aT, aS, aZ]; rfl
    refine ⟨_, by simp [Act.put]; rfl, by kernel_rfl, by kernel_rfl, by kernel_rfl, fun _ _ _ h => h, (.inl ⟨rfl, fun W _ => by kernel_rfl⟩), ⟨Vs.out.blk, Vx.out.blk, VG.out⟩, ?_⟩
    refine takeH (o := ?o41) 40 (.bool true) ?h41 ?r41
    case h41 => simp only [aT, aS, aZ]; rfl
    refine ⟨_, by simp [Act.put]; rfl, by kernel_rfl, by kernel_rfl, by kernel_rfl, fun _ _ _ h => h, (.inl ⟨rfl, fun W _ => by kernel_rfl⟩), ⟨Vs.out.blk, Vx.out.blk, VG.out⟩, ?_⟩
    refine takeH (o := ?o42) 41 (.bool true) ?h42 ?r42
    case h42 => simp only [aT, aS, aZ]; rfl
    refine ⟨_, by simp [Act.put]; rfl, by kernel_rfl, by kernel_rfl, by kernel_rfl, fun _ _ _ h => h, (.inl ⟨rfl, fun W _ => by kernel_rfl⟩), ⟨Vs.out.blk, Vx.out.blk, VG.out⟩, ?_⟩
    refine wpAnyH_done (by kernel_rfl) ?_ _
    go_wp2
    go_ret
    exact ⟨rfl, BEL.out⟩
  · refine takeH (o := ?o43) 35 (.bool true) ?h43 ?r43
    case h43 => simp only [aT, aS, aZ]; rfl
    refine ⟨_, by simp [Act.put]; rfl, by kernel_rfl, by kernel_rfl, by kernel_rfl, fun _ _ _ h => h, (.inl ⟨rfl, fun W _ => by kernel_rfl⟩), ⟨Vs.out.blk, Vx.out.blk, VG.out⟩, ?_⟩
    refine takeH (o := ?o44) 36 (undef) ?h44 ?r44
    case h44 => simp only [aT, aS, aZ]; rfl
    refine ⟨_, by simp [Act.put]; rfl, by kernel_rfl, by kernel_rfl, by kernel_rfl, fun _ _ _ h => h, (.inr ⟨rfl, rfl⟩), ⟨Vs.out.blk, Vx.out.blk, VG.out⟩, ?_⟩
    refine takeH (o := ?o45) 37 (undef) ?h45 ?r45
    case h45 => simp only [aT, aS, aZ]; rfl
    refine ⟨_, by simp [Act.put]; rfl, by kernel_rfl, by kernel_rfl, by kernel_rfl, fun _ _ _ h => h, (.inr ⟨rfl, rfl⟩), ⟨Vs.out.blk, Vx.out.blk, VG.out⟩, ?_⟩
    refine takeH (o := ?o46) 38 (undef) ?h46 ?r46
    case h46 => simp only [aT, aS, aZ]; rfl
    refine ⟨_, by simp [Act.put]; rfl, by kernel_rfl, by kernel_rfl, by kernel_rfl, fun _ _ _ h => h, (.inr ⟨rfl, rfl⟩), ⟨Vs.out.blk, Vx.out.blk, VG.out⟩, ?_⟩
    refine takeH (o := ?o47) 39 (.bool true) ?h47 ?r47
    case h47 => simp only [aT, aS, aZ]; rfl
    refine ⟨_, by simp [Act.put]; rfl, by kernel_rfl, by kernel_rfl, by kernel_rfl, fun _ _ _ h => h, (.inl ⟨rfl, fun W _ => by kernel_rfl⟩), ⟨Vs.out.blk, Vx.out.blk, VG.out⟩, ?_⟩
    refine takeH (o := ?o48) 40 (.bool true) ?h48 ?r48
    case h48 => simp only [aT, aS, aZ]; rfl
    refine ⟨_, by simp [Act.put]; rfl, by kernel_rfl, by kernel_rfl, by kernel_rfl, fun _ _ _ h => h, (.inl ⟨rfl, fun W _ => by kernel_rfl⟩), ⟨Vs.out.blk, Vx.out.blk, VG.out⟩, ?_⟩
    refine takeH (o := ?o49) 41 (.bool true) ?h49 ?r49
    case h49 => simp only [aT, aS, aZ]; rfl
    refine ⟨_, by simp [Act.put]; rfl, by kernel_rfl, by kernel_rfl, by kernel_rfl, fun _ _ _ h => h, (.inl ⟨rfl, fun W _ => by kernel_rfl⟩), ⟨Vs.out.blk, Vx.out.blk, VG.out⟩, ?_⟩
    refine wpAnyH_done (by kernel_rfl) ?_ _
    go_wp2
    go_ret
    exact ⟨rfl, BEL.out⟩

set_option maxRecDepth 100000 in
theorem lifted (os : Os) (started : os.Started) (H : Type) (enc : TypeId × Value → H) :
    ReturnsInHanded {} Try.checked os 5 .any (Rows.fnSeatMergedSpec.pre6 enc Try.prog Try.f5 Rows.fnSeatMergedRow.domain false) (Rows.fnSeatMergedSpec.post enc Try.prog Try.f5 false true false false) := by
  refine returnsInHanded_of_change (C := Try.checked) own started (by kernel_rfl) Try.func5
    (ChangeSpec.witness6 (enc := enc) (C := Try.checked) false ⟨#[], #[.slice none 0 0], []⟩ 8 (by kernel_rfl) (by kernel_rfl) (by kernel_rfl) (by kernel_rfl)) ?_
  intro W base args ds gs before hval0 hW hcnd _
  have hval : ∀ (j : Nat) t v, Try.f5.params[j]? = some t → args[j]? = some v → Value.okWide Try.prog W .any base t v := hval0
  have hW' := hW
  obtain ⟨p, q, hA0, hV, rfl, hfz, hnd⟩ := hW
  have hA : DataW.TrodAll enc Try.prog W 0 (fun _ => true) true Try.f5.params.toList args.toList ds p := hA0
  rw [Try.params5] at hA hval
  obtain ⟨v0, vs0, d0, ds0, p0, q0, hargs, rfl, rfl, h0, r0⟩ := trodAll_cons hA
  obtain ⟨rfl, rfl, rfl⟩ := trodAll_nil r0
  obtain rfl : args = #[v0] := by cases args; simp_all
  obtain ⟨rfl, rfl⟩ := trodVars_none hV
  obtain ⟨a0, len0, cap0, rfl⟩ := okWide_slice Try.underlying22 (hval 0 22 v0 rfl rfl)
  have k0 := h0
  have lt0 : ∀ x ∈ p0, x.block < W.heap.size := by obtain ⟨m, hm⟩ := k0; exact DataW.trod_lt m _ _ _ hm
  obtain ⟨z0, w0⟩ : ∃ zs, IsRow .u8 W a0 len0 cap0 zs := by
    obtain ⟨fuel, hf⟩ := h0
    rcases open_ints Try.underlying22 Try.underlying5 (by kernel_rfl) hf with ⟨hcs, _⟩ | ⟨x, l, c, zs, hcs, _, hl, hm, hz, _, hcell, hwz⟩
    · simp [Value.cells] at hcs
      obtain ⟨rfl, rfl, rfl⟩ := hcs
      exact ⟨[], .inl ⟨rfl, rfl, rfl, rfl⟩⟩
    · simp [Value.cells] at hcs
      obtain ⟨rfl, rfl, rfl⟩ := hcs
      exact ⟨zs, .inr ⟨_, rfl, hl, hm, by simpa using hz, hcell, hwz⟩⟩
  clear hA0 hval0
  refine (walk a0 len0 cap0 z0 W w0).mono fun e W' ⟨he, bel⟩ => ?_
  subst he
  exact ⟨_, rfl, _, _, _, [], _, [], hW', trodAll_mk1 (shut_bool Try.underlying4 _), (trodAll_cons_mk (Below.trod laidOut (by kernel_rfl) (of_decide_eq_true (by kernel_rfl)) k0 bel lt0) trodAll_mk0), rfl, bel.frame _, fun h => by cases h⟩

theorem over : Rows.fnSeatMergedRow.holds Try.pinned (OpenSpec.ofChange Rows.fnSeatMergedSpec) :=
  OpenClaim.holds_of_wide 5 Try.f5 rfl rfl rfl rfl rfl rfl rfl ⟨rfl, rfl, rfl, rfl, rfl⟩ rfl rfl rfl rfl rfl (by kernel_rfl) Try.func5 (by kernel_rfl)
    (of_decide_eq_true (by kernel_rfl)) (by unfold Func.isWrapper; first | (rw [if_pos (by decide +kernel)]; kernel_rfl) | (rw [if_neg (by decide +kernel)]; exact ⟨rfl, rfl⟩))
    (fun os started H enc _ => lifted os started H enc)

theorem proved : Rows.FnSeatMergedSaid := over
#print axioms proved
end Go.Proofs.Ytgkbhhlkaifnoaa.fnSeatMerged
