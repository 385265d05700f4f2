/- For every byte slice (no condition): laws.FnSent returns true, and its argument reads afterwards as it did: what waits is sent in turn, each within as many sends as wait; what is not in credit, or taken, is not. -/
import Derived.Test.YtgkbhhlkaifnoaaLawBase
import Derived.Test.YtgkbhhlkaifnoaaB3
import Derived.Test.YtgkbhhlkaifnoaaB4
import Derived.Test.YtgkbhhlkaifnoaaB5
import Derived.Test.YtgkbhhlkaifnoaaB2
import Derived.Test.YtgkbhhlkaifnoaaB1
import Derived.Test.YtgkbhhlkaifnoaaSkLaw
import Derived.Deep.DeepCutAuto
import Derived.Test.YtgkbhhlkaifnoaaRows
import Derived.WalkKit
import Derived.ProofKit
import Derived.OpenShut
import Derived.ShutString
import Derived.ChangeOld
import Derived.Below
namespace Go.Proofs.Ytgkbhhlkaifnoaa.fnSent
open Go.ChangeShapes Go.WideShapes Go.ChangeAt Go.RowKit
open Go.ChangeMaps (open_string shut_string)
set_option linter.unusedVariables false

theorem own : ownKnob Try.prog.godebug = none := by kernel_rfl
theorem laidOut : laidOutB Try.prog = true := by kernel_rfl

/-- WHAT THE WALK IS TOLD OF A SLICE OF INTEGERS THAT CAME IN: it is nil; or it leads to a row of 'cap' cells, the numbers 'zs' (the first 'len' are its elements, the rest its spare room), each fitting its kind. -/
def IsRow (k : IntKind) (w : World) (a : Option Addr) (len cap : Nat) (zs : List Int) : Prop :=
  (a = none ∧ len = 0 ∧ cap = 0 ∧ zs = []) ∨
  ∃ x, a = some x ∧ len ≤ cap ∧ cap ≤ maxLen ∧ zs.length = cap ∧ (∀ i, i < zs.length → w.cell? (x.add i) = some (.int k (zs.getD i 0))) ∧ ∀ n ∈ zs, (Lit.int k n).wf = true

theorem waits_len (x : Ag) : x.waits.length ≤ 60 := by
  unfold Ag.waits
  split
  · rename_i h
    have q := Ag.ok_granted h.1
    have q2 := waitTo_len x.taken x.upTo
    unfold Ag.upTo at q2 ⊢
    omega
  · simp
/-- An agent in a variable. -/
structure VarA (g : Nat) (x : Ag) (b1 : Option Addr) (n1 c1 : Nat) (b2 : Option Addr) (n2 c2 : Nat) (F G : List Nat) (W : World) : Prop where
  blk : Blk W g #[.int .i64 x.id, .int .i64 x.epoch, .bool x.live, .int .i64 x.granted, .slice b1 n1 c1, .slice b2 n2 c2, .int .i64 x.next] 27
  rl : RdL itK W b1 n1 x.sealed F
  rp : RdP W b2 n2 x.taken G
  k1 : Capd b1 n1 c1
  k2 : Capd b2 n2 c2
section
variable {g : Nat} {x : Ag} {b1 : Option Addr} {n1 c1 : Nat} {b2 : Option Addr} {n2 c2 : Nat} {F G : List Nat} {W W' : World}
theorem VarA.below (h : VarA g x b1 n1 c1 b2 n2 c2 F G W) (k : Below W.heap.size W W') : VarA g x b1 n1 c1 b2 n2 c2 F G W' := ⟨h.blk.below k, h.rl.agree (.below k h.rl.lt), h.rp.below k, h.k1, h.k2⟩
theorem VarA.rd (h : VarA g x b1 n1 c1 b2 n2 c2 F G W) : RdAg W (.agg #[.int .i64 x.id, .int .i64 x.epoch, .bool x.live, .int .i64 x.granted, .slice b1 n1 c1, .slice b2 n2 c2, .int .i64 x.next]) x F G := ⟨b1, n1, c1, b2, n2, c2, rfl, h.rl, h.rp, h.k1, h.k2⟩
end
theorem infoNumL : (Try.prog.info? 3).map (fun i => (i.zero, i.size, i.bytes)) = some (some (.int .i64 0), 1, 8) := by kernel_rfl
theorem infoAgL : (Try.prog.info? 27).map (·.size) = some 7 := by kernel_rfl
theorem infoFrL : (Try.prog.info? 38).map (·.size) = some 16 := by kernel_rfl
theorem own_keep {W W' : World} {lo e n k : Nat} {v : Value} {xs : List Value} (h : W.ownsRow lo e n v k xs) (hk : ∀ b, v.ownBlock = some b → W'.heap[b]? = W.heap[b]?) : W'.ownsRow lo e n v k xs := by
  refine ⟨h.1, ?_⟩
  rcases h.2 with q | ⟨g', cap, cur, h1, h2, h3, h4⟩
  · exact .inl q
  · exact .inr ⟨g', cap, cur, h1, h2, by rw [hk g' (by rw [h1]; rfl)]; exact h3, h4⟩

set_option maxHeartbeats 16000000 in
set_option maxRecDepth 200000 in
theorem walk (a0 : Option Addr) (len0 cap0 : Nat) (z0 : List Int) (w : World) (w0 : IsRow .u8 w a0 len0 cap0 z0) :
    Calls Try.prog 3 #[.slice a0 len0 cap0] w fun e w' => e = .returned (.bool true) ∧ Below w.heap.size w w' := by
  obtain ⟨i0, hi0, hz00, hz01, hz02⟩ := info_parts infoNumL
  have hR0 := rdOf w0
  have hR := hR0.1
  generalize z0.take len0 = zs at hR
  clear w0 hR0
  have HR : Hid (RdB w a0 len0 zs) := hR
  clear hR
  go_enter Try.func3, Try.ntmps3
  go_wp2_with fail
  refine (big_any a0 len0 cap0 _).mono ?_
  rintro e w1 ⟨rfl, hw1⟩
  have hw1' := hw1.symm
  subst hw1'
  clear hw1
  by_cases hbig : 1048576 < len0
  · have hd : decide ((1048576 : Int) < (len0 : Int)) = true := dec_true (by omega)
    rw [hd]
    clear hd
    go_wp2
    go_ret
    exact ⟨rfl, Below.refl _ _⟩
  have hd : decide ((1048576 : Int) < (len0 : Int)) = false := dec_false (by omega)
  have hlen : len0 ≤ 1048576 := by omega
  rw [hd]
  clear hd hbig
  have BEL : Hid (Below w.heap.size w w) := Below.refl _ _
  go_wp2_with fail
  refine (drawAgentSend_any a0 len0 cap0 zs _ HR.out hlen).mono ?_
  rintro e w1 ⟨va, a, F, G, rfl, ⟨a1, n1, c1, a2, n2, c2, rfl, rla, rpa, kaa, kba⟩, hsa, b1⟩
  have HSA : Hid ((∀ y ∈ a.sealed, y.sk.fits) ∧ a.sealed.length ≤ 7 ∧ a.taken.length ≤ 8) := ⟨fun y hy => full_fitsG (hsa.1 y hy), hsa.2.1, hsa.2.2.1⟩
  have HSW : Hid (∀ y ∈ a.sealed, y.sk.wide) := fun y hy => (HSA.out.1 y hy).wide
  have BEL : Hid (Below w.heap.size w w1) := Below.next BEL.out b1
  clear hsa b1
  have Ra : Hid (RdL itK w1 a1 n1 a.sealed F ∧ RdP w1 a2 n2 a.taken G ∧ Capd a1 n1 c1 ∧ Capd a2 n2 c2) := ⟨rla, rpa, kaa, kba⟩
  clear rla rpa kaa kba
  go_wp2_with (first | go_skip | (with_reducible refine stopLoad 27 rfl ?_) | (with_reducible refine stopStore 27 rfl ?_) | (with_reducible refine stopLoad 38 rfl ?_) | (with_reducible refine stopStore 38 rfl ?_))
  refine store_fresh 27 w1.heap.size rfl #[.int .i64 0, .int .i64 0, .bool false, .int .i64 0, .slice none 0 0, .slice none 0 0, .int .i64 0] #[.int .i64 a.id, .int .i64 a.epoch, .bool a.live, .int .i64 a.granted, .slice a1 n1 c1, .slice a2 n2 c2, .int .i64 a.next] 27 rfl rfl rfl rfl infoAgL rfl (by simp [Value.oneCell']) ?_
  intro w2 hg hb
  have BEL : Hid (Below w.heap.size w w2) := Below.next BEL.out hb
  obtain ⟨ga, hgv⟩ : ∃ g, g = w1.heap.size := ⟨_, rfl⟩
  rw [← hgv] at hg ⊢
  have Va : Hid (VarA ga a a1 n1 c1 a2 n2 c2 F G w2) := ⟨hg, Ra.out.1.agree (.below hb Ra.out.1.lt), Ra.out.2.1.below hb, Ra.out.2.2.1, Ra.out.2.2.2⟩
  clear hg hb hgv Ra
  go_wp2_with (first | go_skip | (with_reducible refine stopLoad 27 rfl ?_) | (with_reducible refine stopStore 27 rfl ?_) | (with_reducible refine stopLoad 38 rfl ?_) | (with_reducible refine stopStore 38 rfl ?_))
  refine load_known 27 ga #[.int .i64 a.id, .int .i64 a.epoch, .bool a.live, .int .i64 a.granted, .slice a1 n1 c1, .slice a2 n2 c2, .int .i64 a.next] 27 _ Va.out.blk rfl rfl rfl Try.underlying27 rfl infoAgL ?_
  go_wp2_with fail
  refine (waitingImpl_any _ a F G _ Va.out.rd HSW.out (by have := HSA.out.2.1; omega) (by have := HSA.out.2.2; omega)).mono ?_
  rintro e w3 ⟨⟨ul, rfl, hown⟩, bb⟩
  obtain ⟨pl, ql, Fl, rfl, rll, _⟩ := rdI_own_cap hown
  have BEL : Hid (Below w.heap.size w w3) := Below.next BEL.out bb
  have Va : Hid (VarA ga a a1 n1 c1 a2 n2 c2 F G w3) := Va.out.below bb
  have Rl : Hid (RdI w3 pl a.waits.length a.waits Fl) := rll
  clear bb hown rll
  go_wp2_with (first | go_skip | (with_reducible refine stopLoad 27 rfl ?_) | (with_reducible refine stopStore 27 rfl ?_) | (with_reducible refine stopLoad 38 rfl ?_) | (with_reducible refine stopStore 38 rfl ?_))
  refine load_known 27 ga #[.int .i64 a.id, .int .i64 a.epoch, .bool a.live, .int .i64 a.granted, .slice a1 n1 c1, .slice a2 n2 c2, .int .i64 a.next] 27 _ Va.out.blk rfl rfl rfl Try.underlying27 rfl infoAgL ?_
  go_wp2_with fail
  refine (waiting_any _ a F G _ Va.out.rd HSW.out (by have := HSA.out.2.1; omega) (by have := HSA.out.2.2; omega)).mono ?_
  rintro e w4 ⟨⟨um, rfl, hown⟩, bb⟩
  obtain ⟨pm, qm, Fm, rfl, rlm, _⟩ := rdI_own_cap hown
  have BEL : Hid (Below w.heap.size w w4) := Below.next BEL.out bb
  have Va : Hid (VarA ga a a1 n1 c1 a2 n2 c2 F G w4) := Va.out.below bb
  have Rl : Hid (RdI w4 pl a.waits.length a.waits Fl) := Rl.out.below bb
  have Rm : Hid (RdI w4 pm a.waits.length a.waits Fm) := rlm
  clear bb hown rlm
  go_wp2_with fail
  refine (sameInts_same pl pm a.waits.length ql qm a.waits Fl Fm _ Rl.out Rm.out (by have := waits_len a; omega)).mono ?_
  rintro e w5 ⟨rfl, bb⟩
  have BEL : Hid (Below w.heap.size w w5) := Below.next BEL.out bb
  have Va : Hid (VarA ga a a1 n1 c1 a2 n2 c2 F G w5) := Va.out.below bb
  have Rl : Hid (RdI w5 pl a.waits.length a.waits Fl) := Rl.out.below bb
  have Rm : Hid (RdI w5 pm a.waits.length a.waits Fm) := Rm.out.below bb
  clear bb Rm
  obtain ⟨z, hz⟩ : ∃ z, z = a.send := ⟨_, rfl⟩
  have HZ : Hid (a.send = z) := hz.symm
  have HFW : Hid (z.2.item.sk.wide ∧ z.2.taken.length ≤ 20) := by show _ ∧ _; rw [hz]; exact Ag.send_small a HSW.out
  clear hz
  obtain ⟨x, f⟩ := z
  have HFW : Hid (f.item.sk.wide ∧ f.taken.length ≤ 20) := HFW
  skip
  go_wp2_with (first | go_skip | (with_reducible refine stopLoad 27 rfl ?_) | (with_reducible refine stopStore 27 rfl ?_) | (with_reducible refine stopLoad 38 rfl ?_) | (with_reducible refine stopStore 38 rfl ?_))
  refine load_known 27 ga #[.int .i64 a.id, .int .i64 a.epoch, .bool a.live, .int .i64 a.granted, .slice a1 n1 c1, .slice a2 n2 c2, .int .i64 a.next] 27 _ Va.out.blk rfl rfl rfl Try.underlying27 rfl infoAgL ?_
  go_wp2_with fail
  refine (sendImpl_any _ a F G _ Va.out.rd HSA.out.1 (by have := HSA.out.2.1; omega) (by have := HSA.out.2.2; omega)).mono ?_
  intro e w6 hh
  rw [HZ.out] at hh
  obtain ⟨va, vf, Fx, Gx, F1, G1, rfl, ⟨x1, n3, c3, x2, n4, c4, rfl, rlx, rpx, kax, kbx⟩, ⟨ra, rb, rc, rd, re, rf, rg, rh, ri, rj, rk, rl, rfl, kP, kI, kc⟩, ox1, ox2, of1, of2, _, _, _, bb⟩ := hh
  have BEL : Hid (Below w.heap.size w w6) := Below.next BEL.out bb
  have Va : Hid (VarA ga a a1 n1 c1 a2 n2 c2 F G w6) := Va.out.below bb
  have Rl : Hid (RdI w6 pl a.waits.length a.waits Fl) := Rl.out.below bb
  have HRA : Hid (RdL itK w6 x1 n3 x.sealed Fx ∧ RdP w6 x2 n4 x.taken Gx ∧ Capd x1 n3 c3 ∧ Capd x2 n4 c4) := ⟨rlx, rpx, kax, kbx⟩
  have HRF : Hid (RdFr w6 (.agg #[.int .i64 f.kind, .int .i64 f.agent, .int .i64 f.epoch, .int .i64 f.granted, .slice ra rb rc, .int .i64 f.item.seq, .int .i64 f.item.cls, .int .i64 f.item.key, .int .i64 f.item.window, .int .i64 f.item.sk.count, .int .i64 f.item.sk.sum, .int .i64 f.item.sk.min, .int .i64 f.item.sk.max, .slice rd re rf, .slice rg rh ri, .slice rj rk rl]) f F1 G1) := ⟨ra, rb, rc, rd, re, rf, rg, rh, ri, rj, rk, rl, rfl, kP, kI, kc⟩
  have HQ : Hid (ga < w6.heap.size ∧ (∀ b ∈ F, b < w6.heap.size) ∧ (∀ b ∈ G, b < w6.heap.size) ∧ (∀ b ∈ Fl, b < w6.heap.size) ∧ (∀ b ∈ F1, b < w6.heap.size) ∧ (∀ b ∈ G1, b < w6.heap.size) ∧ w.heap.size ≤ w6.heap.size) := ⟨Va.out.blk.lt, Va.out.rl.lt, Va.out.rp.lt, Rl.out.lt, HRF.out.lt1, HRF.out.lt2, BEL.out.size⟩
  clear rlx rpx kax kbx kP kI kc ox1 ox2 of1 of2 bb
  have HB : Hid (Blk ((w6.alloc (.cells #[.int .i64 0, .int .i64 0, .bool false, .int .i64 0, .slice none 0 0, .slice none 0 0, .int .i64 0] 27)).alloc (.cells #[.int .i64 0, .int .i64 0, .int .i64 0, .int .i64 0, .slice none 0 0, .int .i64 0, .int .i64 0, .int .i64 0, .int .i64 0, .int .i64 0, .int .i64 0, .int .i64 0, .int .i64 0, .slice none 0 0, .slice none 0 0, .slice none 0 0] 38)) w6.heap.size #[.int .i64 0, .int .i64 0, .bool false, .int .i64 0, .slice none 0 0, .slice none 0 0, .int .i64 0] 27 ∧ Blk ((w6.alloc (.cells #[.int .i64 0, .int .i64 0, .bool false, .int .i64 0, .slice none 0 0, .slice none 0 0, .int .i64 0] 27)).alloc (.cells #[.int .i64 0, .int .i64 0, .int .i64 0, .int .i64 0, .slice none 0 0, .int .i64 0, .int .i64 0, .int .i64 0, .int .i64 0, .int .i64 0, .int .i64 0, .int .i64 0, .int .i64 0, .slice none 0 0, .slice none 0 0, .slice none 0 0] 38)) (w6.heap.size + 1) #[.int .i64 0, .int .i64 0, .int .i64 0, .int .i64 0, .slice none 0 0, .int .i64 0, .int .i64 0, .int .i64 0, .int .i64 0, .int .i64 0, .int .i64 0, .int .i64 0, .int .i64 0, .slice none 0 0, .slice none 0 0, .slice none 0 0] 38 ∧ Below w6.heap.size w6 ((w6.alloc (.cells #[.int .i64 0, .int .i64 0, .bool false, .int .i64 0, .slice none 0 0, .slice none 0 0, .int .i64 0] 27)).alloc (.cells #[.int .i64 0, .int .i64 0, .int .i64 0, .int .i64 0, .slice none 0 0, .int .i64 0, .int .i64 0, .int .i64 0, .int .i64 0, .int .i64 0, .int .i64 0, .int .i64 0, .int .i64 0, .slice none 0 0, .slice none 0 0, .slice none 0 0] 38))) := ⟨(Blk.made _ _ _).alloc _, Blk.made_eq (by simp), Below.allocW _ (Below.allocW _ (Below.refl _ _) (Nat.le_refl _)) (Nat.le_refl _)⟩
  go_wp2_with (first | go_skip | (with_reducible refine stopLoad 27 rfl ?_) | (with_reducible refine stopStore 27 rfl ?_) | (with_reducible refine stopLoad 38 rfl ?_) | (with_reducible refine stopStore 38 rfl ?_))
  refine store_known 27 w6.heap.size _ #[.int .i64 x.id, .int .i64 x.epoch, .bool x.live, .int .i64 x.granted, .slice x1 n3 c3, .slice x2 n4 c4, .int .i64 x.next] 27 HB.out.1 rfl rfl rfl rfl infoAgL rfl (by simp [Value.oneCell']) ?_
  go_wp2_with (first | go_skip | (with_reducible refine stopLoad 27 rfl ?_) | (with_reducible refine stopStore 27 rfl ?_) | (with_reducible refine stopLoad 38 rfl ?_) | (with_reducible refine stopStore 38 rfl ?_))
  refine store_known 38 (w6.heap.size + 1) _ #[.int .i64 f.kind, .int .i64 f.agent, .int .i64 f.epoch, .int .i64 f.granted, .slice ra rb rc, .int .i64 f.item.seq, .int .i64 f.item.cls, .int .i64 f.item.key, .int .i64 f.item.window, .int .i64 f.item.sk.count, .int .i64 f.item.sk.sum, .int .i64 f.item.sk.min, .int .i64 f.item.sk.max, .slice rd re rf, .slice rg rh ri, .slice rj rk rl] 38 (HB.out.2.1.setRowOther (by omega)) rfl rfl rfl rfl infoFrL rfl (by simp [Value.oneCell']) ?_
  have hb : Below w6.heap.size w6 ((((w6.alloc (.cells #[.int .i64 0, .int .i64 0, .bool false, .int .i64 0, .slice none 0 0, .slice none 0 0, .int .i64 0] 27)).alloc (.cells #[.int .i64 0, .int .i64 0, .int .i64 0, .int .i64 0, .slice none 0 0, .int .i64 0, .int .i64 0, .int .i64 0, .int .i64 0, .int .i64 0, .int .i64 0, .int .i64 0, .int .i64 0, .slice none 0 0, .slice none 0 0, .slice none 0 0] 38)).setRow w6.heap.size #[.int .i64 x.id, .int .i64 x.epoch, .bool x.live, .int .i64 x.granted, .slice x1 n3 c3, .slice x2 n4 c4, .int .i64 x.next]).setRow (w6.heap.size + 1) #[.int .i64 f.kind, .int .i64 f.agent, .int .i64 f.epoch, .int .i64 f.granted, .slice ra rb rc, .int .i64 f.item.seq, .int .i64 f.item.cls, .int .i64 f.item.key, .int .i64 f.item.window, .int .i64 f.item.sk.count, .int .i64 f.item.sk.sum, .int .i64 f.item.sk.min, .int .i64 f.item.sk.max, .slice rd re rf, .slice rg rh ri, .slice rj rk rl]) := below_setRow (below_setRow HB.out.2.2 (Nat.le_refl _) _) (by omega) _
  have v1 : Blk ((((w6.alloc (.cells #[.int .i64 0, .int .i64 0, .bool false, .int .i64 0, .slice none 0 0, .slice none 0 0, .int .i64 0] 27)).alloc (.cells #[.int .i64 0, .int .i64 0, .int .i64 0, .int .i64 0, .slice none 0 0, .int .i64 0, .int .i64 0, .int .i64 0, .int .i64 0, .int .i64 0, .int .i64 0, .int .i64 0, .int .i64 0, .slice none 0 0, .slice none 0 0, .slice none 0 0] 38)).setRow w6.heap.size #[.int .i64 x.id, .int .i64 x.epoch, .bool x.live, .int .i64 x.granted, .slice x1 n3 c3, .slice x2 n4 c4, .int .i64 x.next]).setRow (w6.heap.size + 1) #[.int .i64 f.kind, .int .i64 f.agent, .int .i64 f.epoch, .int .i64 f.granted, .slice ra rb rc, .int .i64 f.item.seq, .int .i64 f.item.cls, .int .i64 f.item.key, .int .i64 f.item.window, .int .i64 f.item.sk.count, .int .i64 f.item.sk.sum, .int .i64 f.item.sk.min, .int .i64 f.item.sk.max, .slice rd re rf, .slice rg rh ri, .slice rj rk rl]) w6.heap.size #[.int .i64 x.id, .int .i64 x.epoch, .bool x.live, .int .i64 x.granted, .slice x1 n3 c3, .slice x2 n4 c4, .int .i64 x.next] 27 := HB.out.1.setRow.setRowOther (by omega)
  have v2 : Blk ((((w6.alloc (.cells #[.int .i64 0, .int .i64 0, .bool false, .int .i64 0, .slice none 0 0, .slice none 0 0, .int .i64 0] 27)).alloc (.cells #[.int .i64 0, .int .i64 0, .int .i64 0, .int .i64 0, .slice none 0 0, .int .i64 0, .int .i64 0, .int .i64 0, .int .i64 0, .int .i64 0, .int .i64 0, .int .i64 0, .int .i64 0, .slice none 0 0, .slice none 0 0, .slice none 0 0] 38)).setRow w6.heap.size #[.int .i64 x.id, .int .i64 x.epoch, .bool x.live, .int .i64 x.granted, .slice x1 n3 c3, .slice x2 n4 c4, .int .i64 x.next]).setRow (w6.heap.size + 1) #[.int .i64 f.kind, .int .i64 f.agent, .int .i64 f.epoch, .int .i64 f.granted, .slice ra rb rc, .int .i64 f.item.seq, .int .i64 f.item.cls, .int .i64 f.item.key, .int .i64 f.item.window, .int .i64 f.item.sk.count, .int .i64 f.item.sk.sum, .int .i64 f.item.sk.min, .int .i64 f.item.sk.max, .slice rd re rf, .slice rg rh ri, .slice rj rk rl]) (w6.heap.size + 1) #[.int .i64 f.kind, .int .i64 f.agent, .int .i64 f.epoch, .int .i64 f.granted, .slice ra rb rc, .int .i64 f.item.seq, .int .i64 f.item.cls, .int .i64 f.item.key, .int .i64 f.item.window, .int .i64 f.item.sk.count, .int .i64 f.item.sk.sum, .int .i64 f.item.sk.min, .int .i64 f.item.sk.max, .slice rd re rf, .slice rg rh ri, .slice rj rk rl] 38 := (HB.out.2.1.setRowOther (by omega)).setRow
  obtain ⟨w7, hW2⟩ : ∃ Z, Z = ((((w6.alloc (.cells #[.int .i64 0, .int .i64 0, .bool false, .int .i64 0, .slice none 0 0, .slice none 0 0, .int .i64 0] 27)).alloc (.cells #[.int .i64 0, .int .i64 0, .int .i64 0, .int .i64 0, .slice none 0 0, .int .i64 0, .int .i64 0, .int .i64 0, .int .i64 0, .int .i64 0, .int .i64 0, .int .i64 0, .int .i64 0, .slice none 0 0, .slice none 0 0, .slice none 0 0] 38)).setRow w6.heap.size #[.int .i64 x.id, .int .i64 x.epoch, .bool x.live, .int .i64 x.granted, .slice x1 n3 c3, .slice x2 n4 c4, .int .i64 x.next]).setRow (w6.heap.size + 1) #[.int .i64 f.kind, .int .i64 f.agent, .int .i64 f.epoch, .int .i64 f.granted, .slice ra rb rc, .int .i64 f.item.seq, .int .i64 f.item.cls, .int .i64 f.item.key, .int .i64 f.item.window, .int .i64 f.item.sk.count, .int .i64 f.item.sk.sum, .int .i64 f.item.sk.min, .int .i64 f.item.sk.max, .slice rd re rf, .slice rg rh ri, .slice rj rk rl]) := ⟨_, rfl⟩
  rw [← hW2] at hb v1 v2 ⊢
  obtain ⟨gx, hga⟩ : ∃ g, g = w6.heap.size := ⟨_, rfl⟩
  obtain ⟨gf, hgf⟩ : ∃ g, g = w6.heap.size + 1 := ⟨_, rfl⟩
  rw [← hgf] at v2 ⊢
  rw [← hga] at v1 ⊢
  have BEL : Hid (Below w.heap.size w w7) := Below.next BEL.out hb
  have Va : Hid (VarA ga a a1 n1 c1 a2 n2 c2 F G w7) := Va.out.below hb
  have Rl : Hid (RdI w7 pl a.waits.length a.waits Fl) := Rl.out.below hb
  have HP : Hid (ga < gx ∧ (∀ b ∈ F, b < gx) ∧ (∀ b ∈ G, b < gx) ∧ (∀ b ∈ Fl, b < gx) ∧ gf = gx + 1 ∧ (∀ b ∈ F1, b < gx) ∧ (∀ b ∈ G1, b < gx) ∧ w.heap.size ≤ gx) := by
    rw [hga, hgf]
    exact ⟨HQ.out.1, HQ.out.2.1, HQ.out.2.2.1, HQ.out.2.2.2.1, rfl, HQ.out.2.2.2.2.1, HQ.out.2.2.2.2.2.1, HQ.out.2.2.2.2.2.2⟩
  have Vx : Hid (VarA gx x x1 n3 c3 x2 n4 c4 Fx Gx w7) := ⟨v1, HRA.out.1.agree (.below hb HRA.out.1.lt), HRA.out.2.1.below hb, HRA.out.2.2.1, HRA.out.2.2.2⟩
  have Vf : Hid (Blk w7 gf #[.int .i64 f.kind, .int .i64 f.agent, .int .i64 f.epoch, .int .i64 f.granted, .slice ra rb rc, .int .i64 f.item.seq, .int .i64 f.item.cls, .int .i64 f.item.key, .int .i64 f.item.window, .int .i64 f.item.sk.count, .int .i64 f.item.sk.sum, .int .i64 f.item.sk.min, .int .i64 f.item.sk.max, .slice rd re rf, .slice rg rh ri, .slice rj rk rl] 38 ∧ RdFr w7 (.agg #[.int .i64 f.kind, .int .i64 f.agent, .int .i64 f.epoch, .int .i64 f.granted, .slice ra rb rc, .int .i64 f.item.seq, .int .i64 f.item.cls, .int .i64 f.item.key, .int .i64 f.item.window, .int .i64 f.item.sk.count, .int .i64 f.item.sk.sum, .int .i64 f.item.sk.min, .int .i64 f.item.sk.max, .slice rd re rf, .slice rg rh ri, .slice rj rk rl]) f F1 G1) := ⟨v2, HRF.out.below hb⟩
  clear hb v1 v2 hW2 hga hgf HB HRA HRF HQ
  go_wp2_with (first | go_skip | (with_reducible refine stopLoad 27 rfl ?_) | (with_reducible refine stopStore 27 rfl ?_) | (with_reducible refine stopLoad 38 rfl ?_) | (with_reducible refine stopStore 38 rfl ?_))
  refine load_known 27 ga #[.int .i64 a.id, .int .i64 a.epoch, .bool a.live, .int .i64 a.granted, .slice a1 n1 c1, .slice a2 n2 c2, .int .i64 a.next] 27 _ Va.out.blk rfl rfl rfl Try.underlying27 rfl infoAgL ?_
  go_wp2_with fail
  refine (sendSpec_any _ a F G _ Va.out.rd HSA.out.1 (by have := HSA.out.2.1; omega) (by have := HSA.out.2.2; omega)).mono ?_
  intro e w8 hh
  rw [HZ.out] at hh
  obtain ⟨va, vf, Fy, Gy, F2, G2, rfl, ⟨y1, n5, c5, y2, n6, c6, rfl, rlx, rpx, kax, kbx⟩, ⟨ta, tb, tc, td, te, tf, tg, th, ti, tj, tk, tl, rfl, kP, kI, kc⟩, ox1, ox2, of1, of2, _, _, _, bb⟩ := hh
  have BEL : Hid (Below w.heap.size w w8) := Below.next BEL.out bb
  have Va : Hid (VarA ga a a1 n1 c1 a2 n2 c2 F G w8) := Va.out.below bb
  have Rl : Hid (RdI w8 pl a.waits.length a.waits Fl) := Rl.out.below bb
  have Vx : Hid (VarA gx x x1 n3 c3 x2 n4 c4 Fx Gx w8) := Vx.out.below bb
  have Vf : Hid (Blk w8 gf #[.int .i64 f.kind, .int .i64 f.agent, .int .i64 f.epoch, .int .i64 f.granted, .slice ra rb rc, .int .i64 f.item.seq, .int .i64 f.item.cls, .int .i64 f.item.key, .int .i64 f.item.window, .int .i64 f.item.sk.count, .int .i64 f.item.sk.sum, .int .i64 f.item.sk.min, .int .i64 f.item.sk.max, .slice rd re rf, .slice rg rh ri, .slice rj rk rl] 38 ∧ RdFr w8 (.agg #[.int .i64 f.kind, .int .i64 f.agent, .int .i64 f.epoch, .int .i64 f.granted, .slice ra rb rc, .int .i64 f.item.seq, .int .i64 f.item.cls, .int .i64 f.item.key, .int .i64 f.item.window, .int .i64 f.item.sk.count, .int .i64 f.item.sk.sum, .int .i64 f.item.sk.min, .int .i64 f.item.sk.max, .slice rd re rf, .slice rg rh ri, .slice rj rk rl]) f F1 G1) := ⟨Vf.out.1.below bb, Vf.out.2.below bb⟩
  have HRA : Hid (RdL itK w8 y1 n5 x.sealed Fy ∧ RdP w8 y2 n6 x.taken Gy ∧ Capd y1 n5 c5 ∧ Capd y2 n6 c6) := ⟨rlx, rpx, kax, kbx⟩
  have HRF : Hid (RdFr w8 (.agg #[.int .i64 f.kind, .int .i64 f.agent, .int .i64 f.epoch, .int .i64 f.granted, .slice ta tb tc, .int .i64 f.item.seq, .int .i64 f.item.cls, .int .i64 f.item.key, .int .i64 f.item.window, .int .i64 f.item.sk.count, .int .i64 f.item.sk.sum, .int .i64 f.item.sk.min, .int .i64 f.item.sk.max, .slice td te tf, .slice tg th ti, .slice tj tk tl]) f F2 G2) := ⟨ta, tb, tc, td, te, tf, tg, th, ti, tj, tk, tl, rfl, kP, kI, kc⟩
  have HOW : Hid ((∀ b ∈ Fy, w7.heap.size ≤ b) ∧ (∀ b ∈ Gy, w7.heap.size ≤ b) ∧ w7.heap.size ≤ w8.heap.size) := ⟨ox1.ge, ox2.ge, bb.size⟩
  clear rlx rpx kax kbx kP kI kc ox1 ox2 of1 of2 bb
  have HB : Hid (Blk ((w8.alloc (.cells #[.int .i64 0, .int .i64 0, .bool false, .int .i64 0, .slice none 0 0, .slice none 0 0, .int .i64 0] 27)).alloc (.cells #[.int .i64 0, .int .i64 0, .int .i64 0, .int .i64 0, .slice none 0 0, .int .i64 0, .int .i64 0, .int .i64 0, .int .i64 0, .int .i64 0, .int .i64 0, .int .i64 0, .int .i64 0, .slice none 0 0, .slice none 0 0, .slice none 0 0] 38)) w8.heap.size #[.int .i64 0, .int .i64 0, .bool false, .int .i64 0, .slice none 0 0, .slice none 0 0, .int .i64 0] 27 ∧ Blk ((w8.alloc (.cells #[.int .i64 0, .int .i64 0, .bool false, .int .i64 0, .slice none 0 0, .slice none 0 0, .int .i64 0] 27)).alloc (.cells #[.int .i64 0, .int .i64 0, .int .i64 0, .int .i64 0, .slice none 0 0, .int .i64 0, .int .i64 0, .int .i64 0, .int .i64 0, .int .i64 0, .int .i64 0, .int .i64 0, .int .i64 0, .slice none 0 0, .slice none 0 0, .slice none 0 0] 38)) (w8.heap.size + 1) #[.int .i64 0, .int .i64 0, .int .i64 0, .int .i64 0, .slice none 0 0, .int .i64 0, .int .i64 0, .int .i64 0, .int .i64 0, .int .i64 0, .int .i64 0, .int .i64 0, .int .i64 0, .slice none 0 0, .slice none 0 0, .slice none 0 0] 38 ∧ Below w8.heap.size w8 ((w8.alloc (.cells #[.int .i64 0, .int .i64 0, .bool false, .int .i64 0, .slice none 0 0, .slice none 0 0, .int .i64 0] 27)).alloc (.cells #[.int .i64 0, .int .i64 0, .int .i64 0, .int .i64 0, .slice none 0 0, .int .i64 0, .int .i64 0, .int .i64 0, .int .i64 0, .int .i64 0, .int .i64 0, .int .i64 0, .int .i64 0, .slice none 0 0, .slice none 0 0, .slice none 0 0] 38))) := ⟨(Blk.made _ _ _).alloc _, Blk.made_eq (by simp), Below.allocW _ (Below.allocW _ (Below.refl _ _) (Nat.le_refl _)) (Nat.le_refl _)⟩
  go_wp2_with (first | go_skip | (with_reducible refine stopLoad 27 rfl ?_) | (with_reducible refine stopStore 27 rfl ?_) | (with_reducible refine stopLoad 38 rfl ?_) | (with_reducible refine stopStore 38 rfl ?_))
  refine store_known 27 w8.heap.size _ #[.int .i64 x.id, .int .i64 x.epoch, .bool x.live, .int .i64 x.granted, .slice y1 n5 c5, .slice y2 n6 c6, .int .i64 x.next] 27 HB.out.1 rfl rfl rfl rfl infoAgL rfl (by simp [Value.oneCell']) ?_
  go_wp2_with (first | go_skip | (with_reducible refine stopLoad 27 rfl ?_) | (with_reducible refine stopStore 27 rfl ?_) | (with_reducible refine stopLoad 38 rfl ?_) | (with_reducible refine stopStore 38 rfl ?_))
  refine store_known 38 (w8.heap.size + 1) _ #[.int .i64 f.kind, .int .i64 f.agent, .int .i64 f.epoch, .int .i64 f.granted, .slice ta tb tc, .int .i64 f.item.seq, .int .i64 f.item.cls, .int .i64 f.item.key, .int .i64 f.item.window, .int .i64 f.item.sk.count, .int .i64 f.item.sk.sum, .int .i64 f.item.sk.min, .int .i64 f.item.sk.max, .slice td te tf, .slice tg th ti, .slice tj tk tl] 38 (HB.out.2.1.setRowOther (by omega)) rfl rfl rfl rfl infoFrL rfl (by simp [Value.oneCell']) ?_
  have hb : Below w8.heap.size w8 ((((w8.alloc (.cells #[.int .i64 0, .int .i64 0, .bool false, .int .i64 0, .slice none 0 0, .slice none 0 0, .int .i64 0] 27)).alloc (.cells #[.int .i64 0, .int .i64 0, .int .i64 0, .int .i64 0, .slice none 0 0, .int .i64 0, .int .i64 0, .int .i64 0, .int .i64 0, .int .i64 0, .int .i64 0, .int .i64 0, .int .i64 0, .slice none 0 0, .slice none 0 0, .slice none 0 0] 38)).setRow w8.heap.size #[.int .i64 x.id, .int .i64 x.epoch, .bool x.live, .int .i64 x.granted, .slice y1 n5 c5, .slice y2 n6 c6, .int .i64 x.next]).setRow (w8.heap.size + 1) #[.int .i64 f.kind, .int .i64 f.agent, .int .i64 f.epoch, .int .i64 f.granted, .slice ta tb tc, .int .i64 f.item.seq, .int .i64 f.item.cls, .int .i64 f.item.key, .int .i64 f.item.window, .int .i64 f.item.sk.count, .int .i64 f.item.sk.sum, .int .i64 f.item.sk.min, .int .i64 f.item.sk.max, .slice td te tf, .slice tg th ti, .slice tj tk tl]) := below_setRow (below_setRow HB.out.2.2 (Nat.le_refl _) _) (by omega) _
  have v1 : Blk ((((w8.alloc (.cells #[.int .i64 0, .int .i64 0, .bool false, .int .i64 0, .slice none 0 0, .slice none 0 0, .int .i64 0] 27)).alloc (.cells #[.int .i64 0, .int .i64 0, .int .i64 0, .int .i64 0, .slice none 0 0, .int .i64 0, .int .i64 0, .int .i64 0, .int .i64 0, .int .i64 0, .int .i64 0, .int .i64 0, .int .i64 0, .slice none 0 0, .slice none 0 0, .slice none 0 0] 38)).setRow w8.heap.size #[.int .i64 x.id, .int .i64 x.epoch, .bool x.live, .int .i64 x.granted, .slice y1 n5 c5, .slice y2 n6 c6, .int .i64 x.next]).setRow (w8.heap.size + 1) #[.int .i64 f.kind, .int .i64 f.agent, .int .i64 f.epoch, .int .i64 f.granted, .slice ta tb tc, .int .i64 f.item.seq, .int .i64 f.item.cls, .int .i64 f.item.key, .int .i64 f.item.window, .int .i64 f.item.sk.count, .int .i64 f.item.sk.sum, .int .i64 f.item.sk.min, .int .i64 f.item.sk.max, .slice td te tf, .slice tg th ti, .slice tj tk tl]) w8.heap.size #[.int .i64 x.id, .int .i64 x.epoch, .bool x.live, .int .i64 x.granted, .slice y1 n5 c5, .slice y2 n6 c6, .int .i64 x.next] 27 := HB.out.1.setRow.setRowOther (by omega)
  have v2 : Blk ((((w8.alloc (.cells #[.int .i64 0, .int .i64 0, .bool false, .int .i64 0, .slice none 0 0, .slice none 0 0, .int .i64 0] 27)).alloc (.cells #[.int .i64 0, .int .i64 0, .int .i64 0, .int .i64 0, .slice none 0 0, .int .i64 0, .int .i64 0, .int .i64 0, .int .i64 0, .int .i64 0, .int .i64 0, .int .i64 0, .int .i64 0, .slice none 0 0, .slice none 0 0, .slice none 0 0] 38)).setRow w8.heap.size #[.int .i64 x.id, .int .i64 x.epoch, .bool x.live, .int .i64 x.granted, .slice y1 n5 c5, .slice y2 n6 c6, .int .i64 x.next]).setRow (w8.heap.size + 1) #[.int .i64 f.kind, .int .i64 f.agent, .int .i64 f.epoch, .int .i64 f.granted, .slice ta tb tc, .int .i64 f.item.seq, .int .i64 f.item.cls, .int .i64 f.item.key, .int .i64 f.item.window, .int .i64 f.item.sk.count, .int .i64 f.item.sk.sum, .int .i64 f.item.sk.min, .int .i64 f.item.sk.max, .slice td te tf, .slice tg th ti, .slice tj tk tl]) (w8.heap.size + 1) #[.int .i64 f.kind, .int .i64 f.agent, .int .i64 f.epoch, .int .i64 f.granted, .slice ta tb tc, .int .i64 f.item.seq, .int .i64 f.item.cls, .int .i64 f.item.key, .int .i64 f.item.window, .int .i64 f.item.sk.count, .int .i64 f.item.sk.sum, .int .i64 f.item.sk.min, .int .i64 f.item.sk.max, .slice td te tf, .slice tg th ti, .slice tj tk tl] 38 := (HB.out.2.1.setRowOther (by omega)).setRow
  obtain ⟨w9, hW2⟩ : ∃ Z, Z = ((((w8.alloc (.cells #[.int .i64 0, .int .i64 0, .bool false, .int .i64 0, .slice none 0 0, .slice none 0 0, .int .i64 0] 27)).alloc (.cells #[.int .i64 0, .int .i64 0, .int .i64 0, .int .i64 0, .slice none 0 0, .int .i64 0, .int .i64 0, .int .i64 0, .int .i64 0, .int .i64 0, .int .i64 0, .int .i64 0, .int .i64 0, .slice none 0 0, .slice none 0 0, .slice none 0 0] 38)).setRow w8.heap.size #[.int .i64 x.id, .int .i64 x.epoch, .bool x.live, .int .i64 x.granted, .slice y1 n5 c5, .slice y2 n6 c6, .int .i64 x.next]).setRow (w8.heap.size + 1) #[.int .i64 f.kind, .int .i64 f.agent, .int .i64 f.epoch, .int .i64 f.granted, .slice ta tb tc, .int .i64 f.item.seq, .int .i64 f.item.cls, .int .i64 f.item.key, .int .i64 f.item.window, .int .i64 f.item.sk.count, .int .i64 f.item.sk.sum, .int .i64 f.item.sk.min, .int .i64 f.item.sk.max, .slice td te tf, .slice tg th ti, .slice tj tk tl]) := ⟨_, rfl⟩
  rw [← hW2] at hb v1 v2 ⊢
  obtain ⟨gy, hga⟩ : ∃ g, g = w8.heap.size := ⟨_, rfl⟩
  obtain ⟨gh, hgf⟩ : ∃ g, g = w8.heap.size + 1 := ⟨_, rfl⟩
  rw [← hgf] at v2 ⊢
  rw [← hga] at v1 ⊢
  have BEL : Hid (Below w.heap.size w w9) := Below.next BEL.out hb
  have Va : Hid (VarA ga a a1 n1 c1 a2 n2 c2 F G w9) := Va.out.below hb
  have Rl : Hid (RdI w9 pl a.waits.length a.waits Fl) := Rl.out.below hb
  have Vx : Hid (VarA gx x x1 n3 c3 x2 n4 c4 Fx Gx w9) := Vx.out.below hb
  have Vf : Hid (Blk w9 gf #[.int .i64 f.kind, .int .i64 f.agent, .int .i64 f.epoch, .int .i64 f.granted, .slice ra rb rc, .int .i64 f.item.seq, .int .i64 f.item.cls, .int .i64 f.item.key, .int .i64 f.item.window, .int .i64 f.item.sk.count, .int .i64 f.item.sk.sum, .int .i64 f.item.sk.min, .int .i64 f.item.sk.max, .slice rd re rf, .slice rg rh ri, .slice rj rk rl] 38 ∧ RdFr w9 (.agg #[.int .i64 f.kind, .int .i64 f.agent, .int .i64 f.epoch, .int .i64 f.granted, .slice ra rb rc, .int .i64 f.item.seq, .int .i64 f.item.cls, .int .i64 f.item.key, .int .i64 f.item.window, .int .i64 f.item.sk.count, .int .i64 f.item.sk.sum, .int .i64 f.item.sk.min, .int .i64 f.item.sk.max, .slice rd re rf, .slice rg rh ri, .slice rj rk rl]) f F1 G1) := ⟨Vf.out.1.below hb, Vf.out.2.below hb⟩
  have Vy : Hid (VarA gy x y1 n5 c5 y2 n6 c6 Fy Gy w9) := ⟨v1, HRA.out.1.agree (.below hb HRA.out.1.lt), HRA.out.2.1.below hb, HRA.out.2.2.1, HRA.out.2.2.2⟩
  have Vh : Hid (Blk w9 gh #[.int .i64 f.kind, .int .i64 f.agent, .int .i64 f.epoch, .int .i64 f.granted, .slice ta tb tc, .int .i64 f.item.seq, .int .i64 f.item.cls, .int .i64 f.item.key, .int .i64 f.item.window, .int .i64 f.item.sk.count, .int .i64 f.item.sk.sum, .int .i64 f.item.sk.min, .int .i64 f.item.sk.max, .slice td te tf, .slice tg th ti, .slice tj tk tl] 38 ∧ RdFr w9 (.agg #[.int .i64 f.kind, .int .i64 f.agent, .int .i64 f.epoch, .int .i64 f.granted, .slice ta tb tc, .int .i64 f.item.seq, .int .i64 f.item.cls, .int .i64 f.item.key, .int .i64 f.item.window, .int .i64 f.item.sk.count, .int .i64 f.item.sk.sum, .int .i64 f.item.sk.min, .int .i64 f.item.sk.max, .slice td te tf, .slice tg th ti, .slice tj tk tl]) f F2 G2) := ⟨v2, HRF.out.below hb⟩
  clear hb v1 v2 hW2 hga hgf HB HRA HRF HOW
  go_wp2_with (first | go_skip | (with_reducible refine stopLoad 27 rfl ?_) | (with_reducible refine stopStore 27 rfl ?_) | (with_reducible refine stopLoad 38 rfl ?_) | (with_reducible refine stopStore 38 rfl ?_))
  refine load_known 38 gf #[.int .i64 f.kind, .int .i64 f.agent, .int .i64 f.epoch, .int .i64 f.granted, .slice ra rb rc, .int .i64 f.item.seq, .int .i64 f.item.cls, .int .i64 f.item.key, .int .i64 f.item.window, .int .i64 f.item.sk.count, .int .i64 f.item.sk.sum, .int .i64 f.item.sk.min, .int .i64 f.item.sk.max, .slice rd re rf, .slice rg rh ri, .slice rj rk rl] 38 _ Vf.out.1 rfl rfl rfl Try.underlying38 rfl infoFrL ?_
  go_wp2_with (first | go_skip | (with_reducible refine stopLoad 27 rfl ?_) | (with_reducible refine stopStore 27 rfl ?_) | (with_reducible refine stopLoad 38 rfl ?_) | (with_reducible refine stopStore 38 rfl ?_))
  refine load_known 38 gh #[.int .i64 f.kind, .int .i64 f.agent, .int .i64 f.epoch, .int .i64 f.granted, .slice ta tb tc, .int .i64 f.item.seq, .int .i64 f.item.cls, .int .i64 f.item.key, .int .i64 f.item.window, .int .i64 f.item.sk.count, .int .i64 f.item.sk.sum, .int .i64 f.item.sk.min, .int .i64 f.item.sk.max, .slice td te tf, .slice tg th ti, .slice tj tk tl] 38 _ Vh.out.1 rfl rfl rfl Try.underlying38 rfl infoFrL ?_
  go_wp2_with fail
  refine (frameSameSpec_any _ _ f f F1 G1 F2 G2 _ Vf.out.2 Vh.out.2 HFW.out.1 HFW.out.1 (by have := HFW.out.2; omega) (by have := HFW.out.2; omega)).mono ?_
  rintro e w10 ⟨rfl, bb⟩
  rw [decide_eq_true rfl]
  have BEL : Hid (Below w.heap.size w w10) := Below.next BEL.out bb
  have Va : Hid (VarA ga a a1 n1 c1 a2 n2 c2 F G w10) := Va.out.below bb
  have Rl : Hid (RdI w10 pl a.waits.length a.waits Fl) := Rl.out.below bb
  have Vx : Hid (VarA gx x x1 n3 c3 x2 n4 c4 Fx Gx w10) := Vx.out.below bb
  have Vf : Hid (Blk w10 gf #[.int .i64 f.kind, .int .i64 f.agent, .int .i64 f.epoch, .int .i64 f.granted, .slice ra rb rc, .int .i64 f.item.seq, .int .i64 f.item.cls, .int .i64 f.item.key, .int .i64 f.item.window, .int .i64 f.item.sk.count, .int .i64 f.item.sk.sum, .int .i64 f.item.sk.min, .int .i64 f.item.sk.max, .slice rd re rf, .slice rg rh ri, .slice rj rk rl] 38 ∧ RdFr w10 (.agg #[.int .i64 f.kind, .int .i64 f.agent, .int .i64 f.epoch, .int .i64 f.granted, .slice ra rb rc, .int .i64 f.item.seq, .int .i64 f.item.cls, .int .i64 f.item.key, .int .i64 f.item.window, .int .i64 f.item.sk.count, .int .i64 f.item.sk.sum, .int .i64 f.item.sk.min, .int .i64 f.item.sk.max, .slice rd re rf, .slice rg rh ri, .slice rj rk rl]) f F1 G1) := ⟨Vf.out.1.below bb, Vf.out.2.below bb⟩
  have Vy : Hid (VarA gy x y1 n5 c5 y2 n6 c6 Fy Gy w10) := Vy.out.below bb
  have Vh : Hid (Blk w10 gh #[.int .i64 f.kind, .int .i64 f.agent, .int .i64 f.epoch, .int .i64 f.granted, .slice ta tb tc, .int .i64 f.item.seq, .int .i64 f.item.cls, .int .i64 f.item.key, .int .i64 f.item.window, .int .i64 f.item.sk.count, .int .i64 f.item.sk.sum, .int .i64 f.item.sk.min, .int .i64 f.item.sk.max, .slice td te tf, .slice tg th ti, .slice tj tk tl] 38 ∧ RdFr w10 (.agg #[.int .i64 f.kind, .int .i64 f.agent, .int .i64 f.epoch, .int .i64 f.granted, .slice ta tb tc, .int .i64 f.item.seq, .int .i64 f.item.cls, .int .i64 f.item.key, .int .i64 f.item.window, .int .i64 f.item.sk.count, .int .i64 f.item.sk.sum, .int .i64 f.item.sk.min, .int .i64 f.item.sk.max, .slice td te tf, .slice tg th ti, .slice tj tk tl]) f F2 G2) := ⟨Vh.out.1.below bb, Vh.out.2.below bb⟩
  clear bb Vh Vy
  go_wp2_with (first | go_skip | (with_reducible refine stopLoad 27 rfl ?_) | (with_reducible refine stopStore 27 rfl ?_) | (with_reducible refine stopLoad 38 rfl ?_) | (with_reducible refine stopStore 38 rfl ?_))
  refine load_known 27 ga #[.int .i64 a.id, .int .i64 a.epoch, .bool a.live, .int .i64 a.granted, .slice a1 n1 c1, .slice a2 n2 c2, .int .i64 a.next] 27 _ Va.out.blk rfl rfl rfl Try.underlying27 rfl infoAgL ?_
  go_wp2_with fail
  refine (agentOkSpec_any _ a F G _ Va.out.rd HSW.out (by have := HSA.out.2.1; omega) (by have := HSA.out.2.2; omega)).mono ?_
  rintro e w11 ⟨rfl, bb⟩
  have BEL : Hid (Below w.heap.size w w11) := Below.next BEL.out bb
  have Va : Hid (VarA ga a a1 n1 c1 a2 n2 c2 F G w11) := Va.out.below bb
  have Rl : Hid (RdI w11 pl a.waits.length a.waits Fl) := Rl.out.below bb
  have Vx : Hid (VarA gx x x1 n3 c3 x2 n4 c4 Fx Gx w11) := Vx.out.below bb
  have Vf : Hid (Blk w11 gf #[.int .i64 f.kind, .int .i64 f.agent, .int .i64 f.epoch, .int .i64 f.granted, .slice ra rb rc, .int .i64 f.item.seq, .int .i64 f.item.cls, .int .i64 f.item.key, .int .i64 f.item.window, .int .i64 f.item.sk.count, .int .i64 f.item.sk.sum, .int .i64 f.item.sk.min, .int .i64 f.item.sk.max, .slice rd re rf, .slice rg rh ri, .slice rj rk rl] 38 ∧ RdFr w11 (.agg #[.int .i64 f.kind, .int .i64 f.agent, .int .i64 f.epoch, .int .i64 f.granted, .slice ra rb rc, .int .i64 f.item.seq, .int .i64 f.item.cls, .int .i64 f.item.key, .int .i64 f.item.window, .int .i64 f.item.sk.count, .int .i64 f.item.sk.sum, .int .i64 f.item.sk.min, .int .i64 f.item.sk.max, .slice rd re rf, .slice rg rh ri, .slice rj rk rl]) f F1 G1) := ⟨Vf.out.1.below bb, Vf.out.2.below bb⟩
  clear bb
  obtain ⟨d, hd⟩ : ∃ d, d = a.ok := ⟨_, rfl⟩
  rw [← hd]
  have HOK : Hid (d = a.ok) := hd
  clear hd
  obtain ⟨nl, hnl⟩ : ∃ n, n = a.waits.length := ⟨_, rfl⟩
  rw [← hnl] at Rl ⊢
  have HNL : Hid (nl = a.waits.length) := hnl
  clear hnl
  cases d
  · have hk : a.ok = false := HOK.out.symm
    have h0 : nl = 0 := by rw [HNL.out]; unfold Ag.waits; rw [if_neg (by rw [hk]; simp)]; rfl
    have hf : f.agent = 0 := by have q := HZ.out; unfold Ag.send at q; rw [if_pos hk] at q; rw [← (Prod.mk.inj q).2]; rfl
    subst h0
    have cf1 := Vf.out.1.cell 1
    simp only [aT, aS, aZ] at cf1
    rw [hf] at cf1
    clear hf hk
    go_wp2
    go_ret
    exact ⟨rfl, BEL.out⟩
  have HOT : Hid (a.ok = true) := HOK.out.symm
  clear HOK
  by_cases h0 : nl = 0
  · subst h0
    have hw : a.waits = [] := List.eq_nil_of_length_eq_zero HNL.out.symm
    have HF : Hid (f = ⟨0, a.id, a.epoch, 0, [], It.zero⟩) := by have q := HZ.out; unfold Ag.send at q; rw [if_neg (by rw [HOT.out]; simp), if_pos hw] at q; exact (Prod.mk.inj q).2.symm
    have hf0 : f.kind = 0 := by rw [HF.out]
    have hf1 : f.agent = a.id := by rw [HF.out]
    have hf2 : f.epoch = a.epoch := by rw [HF.out]
    have cf0 := Vf.out.1.cell 0
    simp only [aT, aZ] at cf0
    have cf1 := Vf.out.1.cell 1
    simp only [aT, aS, aZ] at cf1
    have cf2 := Vf.out.1.cell 2
    simp only [aT, aS, aZ] at cf2
    have ca0 := Va.out.blk.cell 0
    simp only [aT, aZ] at ca0
    have ca1 := Va.out.blk.cell 1
    simp only [aT, aS, aZ] at ca1
    rw [hf0] at cf0
    rw [hf1] at cf1
    rw [hf2] at cf2
    clear hf0 hf1 hf2 hw
    clear Rl
    go_wp2_with (first | go_skip | (with_reducible refine stopLoad 27 rfl ?_) | (with_reducible refine stopStore 27 rfl ?_) | (with_reducible refine stopLoad 38 rfl ?_) | (with_reducible refine stopStore 38 rfl ?_))
    refine load_knownw8 38 gf #[.int .i64 f.kind, .int .i64 f.agent, .int .i64 f.epoch, .int .i64 f.granted, .slice ra rb rc, .int .i64 f.item.seq, .int .i64 f.item.cls, .int .i64 f.item.key, .int .i64 f.item.window, .int .i64 f.item.sk.count, .int .i64 f.item.sk.sum, .int .i64 f.item.sk.min, .int .i64 f.item.sk.max, .slice rd re rf, .slice rg rh ri, .slice rj rk rl] 38 _ Vf.out.1 rfl rfl rfl Try.underlying38 rfl infoFrL ?_
    go_wp2_with fail
    refine (frameOkImpl_any _ f F1 G1 _ Vf.out.2 HFW.out.1 (by have := HFW.out.2; omega)).mono ?_
    rintro e w12 ⟨rfl, bb⟩
    rw [show f.ok = true by rw [HF.out]; exact Ag.frame_ok HOT.out (.inr ⟨rfl, rfl⟩)]
    have BEL : Hid (Below w.heap.size w w12) := Below.next BEL.out bb
    have Va : Hid (VarA ga a a1 n1 c1 a2 n2 c2 F G w12) := Va.out.below bb
    have Vx : Hid (VarA gx x x1 n3 c3 x2 n4 c4 Fx Gx w12) := Vx.out.below bb
    have Vf : Hid (Blk w12 gf #[.int .i64 f.kind, .int .i64 f.agent, .int .i64 f.epoch, .int .i64 f.granted, .slice ra rb rc, .int .i64 f.item.seq, .int .i64 f.item.cls, .int .i64 f.item.key, .int .i64 f.item.window, .int .i64 f.item.sk.count, .int .i64 f.item.sk.sum, .int .i64 f.item.sk.min, .int .i64 f.item.sk.max, .slice rd re rf, .slice rg rh ri, .slice rj rk rl] 38 ∧ RdFr w12 (.agg #[.int .i64 f.kind, .int .i64 f.agent, .int .i64 f.epoch, .int .i64 f.granted, .slice ra rb rc, .int .i64 f.item.seq, .int .i64 f.item.cls, .int .i64 f.item.key, .int .i64 f.item.window, .int .i64 f.item.sk.count, .int .i64 f.item.sk.sum, .int .i64 f.item.sk.min, .int .i64 f.item.sk.max, .slice rd re rf, .slice rg rh ri, .slice rj rk rl]) f F1 G1) := ⟨Vf.out.1.below bb, Vf.out.2.below bb⟩
    go_wp2
    go_ret
    exact ⟨rfl, BEL.out⟩
  have hne : a.waits ≠ [] := fun e => h0 (by rw [HNL.out, e]; rfl)
  have HS0 := (Ag.send_some hne).symm.trans HZ.out
  obtain ⟨st, hst, hts⟩ := turn_start a.next hne
  obtain ⟨R, hR'⟩ : ∃ R, R = rot a.waits st := ⟨_, rfl⟩
  have HRR : Hid (R = rot a.waits st ∧ st < a.waits.length ∧ R.length = nl) := ⟨hR', hst, by rw [hR', rot_len, HNL.out]⟩
  rw [← hR'] at hts
  have HW0 : Hid (∀ j, j < nl → R.getD j 0 ∈ a.waits) := fun j hj => by rw [hR']; exact rot_mem (by have := HNL.out; omega)
  rw [hts] at HS0
  have HM0 : Hid (R.getD 0 0 ∈ a.waits) := HW0.out 0 (by omega)
  have HXF : Hid (x = a.at (R.getD 0 0) ∧ f = ⟨1, a.id, a.epoch, 0, [], a.sealed.getD (R.getD 0 0 - 1).toNat It.zero⟩) := ⟨(Prod.mk.inj HS0).1.symm, (Prod.mk.inj HS0).2.symm⟩
  have HFS : Hid (f.kind = 1 ∧ f.item.seq = R.getD 0 0 ∧ f.ok = true) := by
    have e := HXF.out.2
    have i := Ag.item_of HM0.out
    rw [e]
    exact ⟨rfl, i.1, Ag.frame_ok HOT.out (.inl ⟨rfl, i.2.1⟩)⟩
  have hn0 : (nl == 0) = false := by simpa using h0
  have hq0 : ¬ (nl : Int) = 0 := by omega
  have hn0' : ((nl : Int) == 0) = false := by simpa using hq0
  have HN60 : Hid (nl ≤ 60) := by show _ ≤ _; rw [HNL.out]; exact waits_len a
  clear hts hst hR' HS0 hne hq0
  obtain ⟨sq, hsq⟩ : ∃ q, q = f.item.seq := ⟨_, rfl⟩
  have HSQ : Hid (sq = R.getD 0 0) := hsq.trans HFS.out.2.1
  have cf5 := Vf.out.1.cell 5
  simp only [aT, aS, aZ] at cf5
  rw [← hsq] at cf5
  clear hsq
  have bl : Below w11.heap.size w11 (w11.alloc (.cells #[.int .i64 sq] 3)) := (Below.refl _ _).alloc (Nat.le_refl _) _
  have bk : Blk (w11.alloc (.cells #[.int .i64 sq] 3)) w11.heap.size #[.int .i64 sq] 3 := Blk.made _ _ _
  go_wp2
  obtain ⟨w13, hY⟩ : ∃ Y, Y = (w11.alloc (.cells #[.int .i64 sq] 3)) := ⟨_, rfl⟩
  obtain ⟨lo, hlo⟩ : ∃ n, n = w11.heap.size := ⟨_, rfl⟩
  have HLO : Hid (gx + 1 < lo) := by have h1 := Vf.out.1.lt; have h2 := HP.out.2.2.2.2.1; rw [hlo]; show _ < _; omega
  rw [← hlo, ← hY] at bk
  rw [← hY] at bl
  try rw [← hY]
  try rw [← hlo]
  have BEL : Hid (Below w.heap.size w w13) := Below.next BEL.out bl
  have Va : Hid (VarA ga a a1 n1 c1 a2 n2 c2 F G w13) := Va.out.below bl
  have Rl : Hid (RdI w13 pl nl a.waits Fl) := Rl.out.below bl
  have Vx : Hid (VarA gx x x1 n3 c3 x2 n4 c4 Fx Gx w13) := Vx.out.below bl
  have Vf : Hid (Blk w13 gf #[.int .i64 f.kind, .int .i64 f.agent, .int .i64 f.epoch, .int .i64 f.granted, .slice ra rb rc, .int .i64 f.item.seq, .int .i64 f.item.cls, .int .i64 f.item.key, .int .i64 f.item.window, .int .i64 f.item.sk.count, .int .i64 f.item.sk.sum, .int .i64 f.item.sk.min, .int .i64 f.item.sk.max, .slice rd re rf, .slice rg rh ri, .slice rj rk rl] 38 ∧ RdFr w13 (.agg #[.int .i64 f.kind, .int .i64 f.agent, .int .i64 f.epoch, .int .i64 f.granted, .slice ra rb rc, .int .i64 f.item.seq, .int .i64 f.item.cls, .int .i64 f.item.key, .int .i64 f.item.window, .int .i64 f.item.sk.count, .int .i64 f.item.sk.sum, .int .i64 f.item.sk.min, .int .i64 f.item.sk.max, .slice rd re rf, .slice rg rh ri, .slice rj rk rl]) f F1 G1) := ⟨Vf.out.1.below bl, Vf.out.2.below bl⟩
  have HSN : Hid (w13.ownsRow lo 3 1 (.slice (some ⟨lo, 0, none⟩) 1 1) 1 ((R.take 1).map (Value.int .i64)) ∧ lo ≤ w13.heap.size) := by
    have h1 : (R.take 1).map (Value.int .i64) = [.int .i64 sq] := by
      rw [take_snoc_at (xs := R) (k := 0) (x := sq) (by rw [HSQ.out, List.getD_eq_getElem?_getD, List.getElem?_eq_getElem (by have := HRR.out.2.2; omega)]; rfl)]
      rfl
    rw [h1]
    exact ⟨⟨rfl, .inr ⟨lo, 1, #[.int .i64 sq], rfl, Nat.le_refl _, bk, Nat.le_refl _, by decide, rfl, rfl⟩⟩, Nat.le_of_lt bk.lt⟩
  clear bl bk hY hlo hn0 hn0' cf5
  go_loopw [9, 10] (fun v i wr => ∃ (k : Nat) (xk : Ag) (d1 : Option Addr) (m1 e1 : Nat) (d2 : Option Addr) (m2 e2 : Nat) (Fk Gk : List Nat), 1 ≤ k ∧ k ≤ nl ∧ i = .int .i64 (k : Int) ∧ Hid ((Below w.heap.size w wr) ∧ (VarA ga a a1 n1 c1 a2 n2 c2 F G wr) ∧ (RdI wr pl nl a.waits Fl) ∧ (Blk wr gf #[.int .i64 f.kind, .int .i64 f.agent, .int .i64 f.epoch, .int .i64 f.granted, .slice ra rb rc, .int .i64 f.item.seq, .int .i64 f.item.cls, .int .i64 f.item.key, .int .i64 f.item.window, .int .i64 f.item.sk.count, .int .i64 f.item.sk.sum, .int .i64 f.item.sk.min, .int .i64 f.item.sk.max, .slice rd re rf, .slice rg rh ri, .slice rj rk rl] 38 ∧ RdFr wr (.agg #[.int .i64 f.kind, .int .i64 f.agent, .int .i64 f.epoch, .int .i64 f.granted, .slice ra rb rc, .int .i64 f.item.seq, .int .i64 f.item.cls, .int .i64 f.item.key, .int .i64 f.item.window, .int .i64 f.item.sk.count, .int .i64 f.item.sk.sum, .int .i64 f.item.sk.min, .int .i64 f.item.sk.max, .slice rd re rf, .slice rg rh ri, .slice rj rk rl]) f F1 G1)) ∧ Hid (xk = a.at (R.getD (k - 1) 0) ∧ VarA gx xk d1 m1 e1 d2 m2 e2 Fk Gk wr ∧ wr.ownsRow lo 3 1 v k ((R.take k).map (Value.int .i64)) ∧ lo ≤ wr.heap.size)) (fun _ i _ => nl - (intOf i).toNat)
  case atStart => exact ⟨1, x, x1, n3, c3, x2, n4, c4, Fx, Gx, by omega, by omega, rfl, ⟨BEL.out, Va.out, Rl.out, Vf.out⟩, ⟨HXF.out.1, Vx.out, HSN.out.1, HSN.out.2⟩⟩
  case round =>
    clear BEL Va Rl Vf Vx HSN HXF
    obtain ⟨k, x, x1, n3, c3, x2, n4, c4, Fx, Gx, hk1, hkn, rfl, HALL, HIN⟩ := hrel
    have BEL : Hid (Below w.heap.size w wr) := HALL.out.1
    have Va : Hid (VarA ga a a1 n1 c1 a2 n2 c2 F G wr) := HALL.out.2.1
    have Rl : Hid (RdI wr pl nl a.waits Fl) := HALL.out.2.2.1
    have Vf : Hid (Blk wr gf #[.int .i64 f.kind, .int .i64 f.agent, .int .i64 f.epoch, .int .i64 f.granted, .slice ra rb rc, .int .i64 f.item.seq, .int .i64 f.item.cls, .int .i64 f.item.key, .int .i64 f.item.window, .int .i64 f.item.sk.count, .int .i64 f.item.sk.sum, .int .i64 f.item.sk.min, .int .i64 f.item.sk.max, .slice rd re rf, .slice rg rh ri, .slice rj rk rl] 38 ∧ RdFr wr (.agg #[.int .i64 f.kind, .int .i64 f.agent, .int .i64 f.epoch, .int .i64 f.granted, .slice ra rb rc, .int .i64 f.item.seq, .int .i64 f.item.cls, .int .i64 f.item.key, .int .i64 f.item.window, .int .i64 f.item.sk.count, .int .i64 f.item.sk.sum, .int .i64 f.item.sk.min, .int .i64 f.item.sk.max, .slice rd re rf, .slice rg rh ri, .slice rj rk rl]) f F1 G1) := HALL.out.2.2.2
    skip
    have HXX : Hid (x = a.at (R.getD (k - 1) 0)) := HIN.out.1
    have Vx : Hid (VarA gx x x1 n3 c3 x2 n4 c4 Fx Gx wr) := HIN.out.2.1
    obtain ⟨vS, hvS⟩ : ∃ u, u = u9 := ⟨_, rfl⟩
    have HSN : Hid (wr.ownsRow lo 3 1 vS k ((R.take k).map (Value.int .i64)) ∧ lo ≤ wr.heap.size) := by rw [hvS]; exact HIN.out.2.2
    rw [← hvS]
    clear HALL HIN hvS
    by_cases hlt : k < nl
    · have HALLSZ : Hid (gx < wr.heap.size) := Vx.out.blk.lt
      have HMM : Hid (R.getD (k - 1) 0 ∈ a.waits) := HW0.out (k - 1) (by omega)
      have HTT : Hid (turnOf a.waits (R.getD (k - 1) 0) = R.getD k 0) := by
        have q := rot_turn (waits_asc a) HRR.out.2.1 (j := k - 1) (by have := HNL.out; omega)
        rw [← HRR.out.1, show k - 1 + 1 = k by omega] at q
        exact q
      have HZK : Hid (x.send = (a.at (R.getD k 0), ⟨1, a.id, a.epoch, 0, [], a.sealed.getD (R.getD k 0 - 1).toNat It.zero⟩)) := by show _ = _; rw [HXX.out, Ag.at_send HMM.out, HTT.out]
      have HIK : Hid ((a.sealed.getD (R.getD k 0 - 1).toNat It.zero).seq = R.getD k 0) := (Ag.item_of (HW0.out k hlt)).1
      have HSX : Hid ((∀ y ∈ x.sealed, y.sk.fits) ∧ x.sealed.length ≤ 7 ∧ x.taken.length ≤ 8) := by rw [HXX.out]; exact HSA.out
      obtain ⟨y, hy⟩ : ∃ y, y = a.at (R.getD k 0) := ⟨_, rfl⟩
      obtain ⟨g, hg⟩ : ∃ g : Fr, g = ⟨1, a.id, a.epoch, 0, [], a.sealed.getD (R.getD k 0 - 1).toNat It.zero⟩ := ⟨_, rfl⟩
      have HGG : Hid (g.kind = 1 ∧ g.item.seq = R.getD k 0) := by rw [hg]; exact ⟨rfl, HIK.out⟩
      have HYY : Hid (y = a.at (R.getD k 0)) := hy
      have HZY : Hid (x.send = (y, g)) := by rw [hy, hg]; exact HZK.out
      clear hy hg HZK HIK HMM HTT
      have hcd : decide ((k : Int) < (nl : Int)) = true := decT (by omega)
      have HOB : Hid (∀ b, vS.ownBlock = some b → lo ≤ b ∧ b < wr.heap.size) := fun b hb => HSN.out.1.lt b hb
      skip
      go_wp2_with (first | go_skip | (with_reducible refine stopLoad 27 rfl ?_) | (with_reducible refine stopStore 27 rfl ?_) | (with_reducible refine stopLoad 38 rfl ?_) | (with_reducible refine stopStore 38 rfl ?_))
      refine load_known 27 gx #[.int .i64 x.id, .int .i64 x.epoch, .bool x.live, .int .i64 x.granted, .slice x1 n3 c3, .slice x2 n4 c4, .int .i64 x.next] 27 _ Vx.out.blk rfl rfl rfl Try.underlying27 rfl infoAgL ?_
      go_wp2_with fail
      refine (sendImpl_any _ x Fx Gx _ Vx.out.rd HSX.out.1 (by have := HSX.out.2.1; omega) (by have := HSX.out.2.2; omega)).mono ?_
      intro e w14 hh
      rw [HZY.out] at hh
      obtain ⟨va, vf, Fy, Gy, F2, G2, rfl, ⟨y1, n5, c5, y2, n6, c6, rfl, rlx, rpx, kax, kbx⟩, ⟨ta, tb, tc, td, te, tf, tg, th, ti, tj, tk, tl, rfl, kP, kI, kc⟩, ox1, ox2, of1, of2, _, _, _, bb⟩ := hh
      have BEL : Hid (Below w.heap.size w w14) := Below.next BEL.out bb
      have Va : Hid (VarA ga a a1 n1 c1 a2 n2 c2 F G w14) := Va.out.below bb
      have Rl : Hid (RdI w14 pl nl a.waits Fl) := Rl.out.below bb
      have Vf : Hid (Blk w14 gf #[.int .i64 f.kind, .int .i64 f.agent, .int .i64 f.epoch, .int .i64 f.granted, .slice ra rb rc, .int .i64 f.item.seq, .int .i64 f.item.cls, .int .i64 f.item.key, .int .i64 f.item.window, .int .i64 f.item.sk.count, .int .i64 f.item.sk.sum, .int .i64 f.item.sk.min, .int .i64 f.item.sk.max, .slice rd re rf, .slice rg rh ri, .slice rj rk rl] 38 ∧ RdFr w14 (.agg #[.int .i64 f.kind, .int .i64 f.agent, .int .i64 f.epoch, .int .i64 f.granted, .slice ra rb rc, .int .i64 f.item.seq, .int .i64 f.item.cls, .int .i64 f.item.key, .int .i64 f.item.window, .int .i64 f.item.sk.count, .int .i64 f.item.sk.sum, .int .i64 f.item.sk.min, .int .i64 f.item.sk.max, .slice rd re rf, .slice rg rh ri, .slice rj rk rl]) f F1 G1) := ⟨Vf.out.1.below bb, Vf.out.2.below bb⟩
      have Vx : Hid (VarA gx x x1 n3 c3 x2 n4 c4 Fx Gx w14) := Vx.out.below bb
      have HSN : Hid (w14.ownsRow lo 3 1 vS k ((R.take k).map (Value.int .i64)) ∧ lo ≤ w14.heap.size) := ⟨ownsRow_below HSN.out.1 bb, Nat.le_trans HSN.out.2 bb.size⟩
      have HRA : Hid (RdL itK w14 y1 n5 y.sealed Fy ∧ RdP w14 y2 n6 y.taken Gy ∧ Capd y1 n5 c5 ∧ Capd y2 n6 c6) := ⟨rlx, rpx, kax, kbx⟩
      have HRF : Hid (RdFr w14 (.agg #[.int .i64 g.kind, .int .i64 g.agent, .int .i64 g.epoch, .int .i64 g.granted, .slice ta tb tc, .int .i64 g.item.seq, .int .i64 g.item.cls, .int .i64 g.item.key, .int .i64 g.item.window, .int .i64 g.item.sk.count, .int .i64 g.item.sk.sum, .int .i64 g.item.sk.min, .int .i64 g.item.sk.max, .slice td te tf, .slice tg th ti, .slice tj tk tl]) g F2 G2) := ⟨ta, tb, tc, td, te, tf, tg, th, ti, tj, tk, tl, rfl, kP, kI, kc⟩
      have HOW : Hid ((∀ b ∈ Fy, wr.heap.size ≤ b) ∧ (∀ b ∈ Gy, wr.heap.size ≤ b) ∧ wr.heap.size ≤ w14.heap.size) := ⟨ox1.ge, ox2.ge, bb.size⟩
      clear rlx rpx kax kbx kP kI kc ox1 ox2 of1 of2 bb
      have HB : Hid (Blk ((w14.alloc (.cells #[.int .i64 0, .int .i64 0, .bool false, .int .i64 0, .slice none 0 0, .slice none 0 0, .int .i64 0] 27)).alloc (.cells #[.int .i64 0, .int .i64 0, .int .i64 0, .int .i64 0, .slice none 0 0, .int .i64 0, .int .i64 0, .int .i64 0, .int .i64 0, .int .i64 0, .int .i64 0, .int .i64 0, .int .i64 0, .slice none 0 0, .slice none 0 0, .slice none 0 0] 38)) w14.heap.size #[.int .i64 0, .int .i64 0, .bool false, .int .i64 0, .slice none 0 0, .slice none 0 0, .int .i64 0] 27 ∧ Blk ((w14.alloc (.cells #[.int .i64 0, .int .i64 0, .bool false, .int .i64 0, .slice none 0 0, .slice none 0 0, .int .i64 0] 27)).alloc (.cells #[.int .i64 0, .int .i64 0, .int .i64 0, .int .i64 0, .slice none 0 0, .int .i64 0, .int .i64 0, .int .i64 0, .int .i64 0, .int .i64 0, .int .i64 0, .int .i64 0, .int .i64 0, .slice none 0 0, .slice none 0 0, .slice none 0 0] 38)) (w14.heap.size + 1) #[.int .i64 0, .int .i64 0, .int .i64 0, .int .i64 0, .slice none 0 0, .int .i64 0, .int .i64 0, .int .i64 0, .int .i64 0, .int .i64 0, .int .i64 0, .int .i64 0, .int .i64 0, .slice none 0 0, .slice none 0 0, .slice none 0 0] 38 ∧ Below w14.heap.size w14 ((w14.alloc (.cells #[.int .i64 0, .int .i64 0, .bool false, .int .i64 0, .slice none 0 0, .slice none 0 0, .int .i64 0] 27)).alloc (.cells #[.int .i64 0, .int .i64 0, .int .i64 0, .int .i64 0, .slice none 0 0, .int .i64 0, .int .i64 0, .int .i64 0, .int .i64 0, .int .i64 0, .int .i64 0, .int .i64 0, .int .i64 0, .slice none 0 0, .slice none 0 0, .slice none 0 0] 38))) := ⟨(Blk.made _ _ _).alloc _, Blk.made_eq (by simp), Below.allocW _ (Below.allocW _ (Below.refl _ _) (Nat.le_refl _)) (Nat.le_refl _)⟩
      go_wp2_with (first | go_skip | (with_reducible refine stopLoad 27 rfl ?_) | (with_reducible refine stopStore 27 rfl ?_) | (with_reducible refine stopLoad 38 rfl ?_) | (with_reducible refine stopStore 38 rfl ?_))
      refine store_known 27 w14.heap.size _ #[.int .i64 y.id, .int .i64 y.epoch, .bool y.live, .int .i64 y.granted, .slice y1 n5 c5, .slice y2 n6 c6, .int .i64 y.next] 27 HB.out.1 rfl rfl rfl rfl infoAgL rfl (by simp [Value.oneCell']) ?_
      go_wp2_with (first | go_skip | (with_reducible refine stopLoad 27 rfl ?_) | (with_reducible refine stopStore 27 rfl ?_) | (with_reducible refine stopLoad 38 rfl ?_) | (with_reducible refine stopStore 38 rfl ?_))
      refine store_known 38 (w14.heap.size + 1) _ #[.int .i64 g.kind, .int .i64 g.agent, .int .i64 g.epoch, .int .i64 g.granted, .slice ta tb tc, .int .i64 g.item.seq, .int .i64 g.item.cls, .int .i64 g.item.key, .int .i64 g.item.window, .int .i64 g.item.sk.count, .int .i64 g.item.sk.sum, .int .i64 g.item.sk.min, .int .i64 g.item.sk.max, .slice td te tf, .slice tg th ti, .slice tj tk tl] 38 (HB.out.2.1.setRowOther (by omega)) rfl rfl rfl rfl infoFrL rfl (by simp [Value.oneCell']) ?_
      have hb : Below w14.heap.size w14 ((((w14.alloc (.cells #[.int .i64 0, .int .i64 0, .bool false, .int .i64 0, .slice none 0 0, .slice none 0 0, .int .i64 0] 27)).alloc (.cells #[.int .i64 0, .int .i64 0, .int .i64 0, .int .i64 0, .slice none 0 0, .int .i64 0, .int .i64 0, .int .i64 0, .int .i64 0, .int .i64 0, .int .i64 0, .int .i64 0, .int .i64 0, .slice none 0 0, .slice none 0 0, .slice none 0 0] 38)).setRow w14.heap.size #[.int .i64 y.id, .int .i64 y.epoch, .bool y.live, .int .i64 y.granted, .slice y1 n5 c5, .slice y2 n6 c6, .int .i64 y.next]).setRow (w14.heap.size + 1) #[.int .i64 g.kind, .int .i64 g.agent, .int .i64 g.epoch, .int .i64 g.granted, .slice ta tb tc, .int .i64 g.item.seq, .int .i64 g.item.cls, .int .i64 g.item.key, .int .i64 g.item.window, .int .i64 g.item.sk.count, .int .i64 g.item.sk.sum, .int .i64 g.item.sk.min, .int .i64 g.item.sk.max, .slice td te tf, .slice tg th ti, .slice tj tk tl]) := below_setRow (below_setRow HB.out.2.2 (Nat.le_refl _) _) (by omega) _
      have v1 : Blk ((((w14.alloc (.cells #[.int .i64 0, .int .i64 0, .bool false, .int .i64 0, .slice none 0 0, .slice none 0 0, .int .i64 0] 27)).alloc (.cells #[.int .i64 0, .int .i64 0, .int .i64 0, .int .i64 0, .slice none 0 0, .int .i64 0, .int .i64 0, .int .i64 0, .int .i64 0, .int .i64 0, .int .i64 0, .int .i64 0, .int .i64 0, .slice none 0 0, .slice none 0 0, .slice none 0 0] 38)).setRow w14.heap.size #[.int .i64 y.id, .int .i64 y.epoch, .bool y.live, .int .i64 y.granted, .slice y1 n5 c5, .slice y2 n6 c6, .int .i64 y.next]).setRow (w14.heap.size + 1) #[.int .i64 g.kind, .int .i64 g.agent, .int .i64 g.epoch, .int .i64 g.granted, .slice ta tb tc, .int .i64 g.item.seq, .int .i64 g.item.cls, .int .i64 g.item.key, .int .i64 g.item.window, .int .i64 g.item.sk.count, .int .i64 g.item.sk.sum, .int .i64 g.item.sk.min, .int .i64 g.item.sk.max, .slice td te tf, .slice tg th ti, .slice tj tk tl]) w14.heap.size #[.int .i64 y.id, .int .i64 y.epoch, .bool y.live, .int .i64 y.granted, .slice y1 n5 c5, .slice y2 n6 c6, .int .i64 y.next] 27 := HB.out.1.setRow.setRowOther (by omega)
      have v2 : Blk ((((w14.alloc (.cells #[.int .i64 0, .int .i64 0, .bool false, .int .i64 0, .slice none 0 0, .slice none 0 0, .int .i64 0] 27)).alloc (.cells #[.int .i64 0, .int .i64 0, .int .i64 0, .int .i64 0, .slice none 0 0, .int .i64 0, .int .i64 0, .int .i64 0, .int .i64 0, .int .i64 0, .int .i64 0, .int .i64 0, .int .i64 0, .slice none 0 0, .slice none 0 0, .slice none 0 0] 38)).setRow w14.heap.size #[.int .i64 y.id, .int .i64 y.epoch, .bool y.live, .int .i64 y.granted, .slice y1 n5 c5, .slice y2 n6 c6, .int .i64 y.next]).setRow (w14.heap.size + 1) #[.int .i64 g.kind, .int .i64 g.agent, .int .i64 g.epoch, .int .i64 g.granted, .slice ta tb tc, .int .i64 g.item.seq, .int .i64 g.item.cls, .int .i64 g.item.key, .int .i64 g.item.window, .int .i64 g.item.sk.count, .int .i64 g.item.sk.sum, .int .i64 g.item.sk.min, .int .i64 g.item.sk.max, .slice td te tf, .slice tg th ti, .slice tj tk tl]) (w14.heap.size + 1) #[.int .i64 g.kind, .int .i64 g.agent, .int .i64 g.epoch, .int .i64 g.granted, .slice ta tb tc, .int .i64 g.item.seq, .int .i64 g.item.cls, .int .i64 g.item.key, .int .i64 g.item.window, .int .i64 g.item.sk.count, .int .i64 g.item.sk.sum, .int .i64 g.item.sk.min, .int .i64 g.item.sk.max, .slice td te tf, .slice tg th ti, .slice tj tk tl] 38 := (HB.out.2.1.setRowOther (by omega)).setRow
      obtain ⟨w15, hW2⟩ : ∃ Z, Z = ((((w14.alloc (.cells #[.int .i64 0, .int .i64 0, .bool false, .int .i64 0, .slice none 0 0, .slice none 0 0, .int .i64 0] 27)).alloc (.cells #[.int .i64 0, .int .i64 0, .int .i64 0, .int .i64 0, .slice none 0 0, .int .i64 0, .int .i64 0, .int .i64 0, .int .i64 0, .int .i64 0, .int .i64 0, .int .i64 0, .int .i64 0, .slice none 0 0, .slice none 0 0, .slice none 0 0] 38)).setRow w14.heap.size #[.int .i64 y.id, .int .i64 y.epoch, .bool y.live, .int .i64 y.granted, .slice y1 n5 c5, .slice y2 n6 c6, .int .i64 y.next]).setRow (w14.heap.size + 1) #[.int .i64 g.kind, .int .i64 g.agent, .int .i64 g.epoch, .int .i64 g.granted, .slice ta tb tc, .int .i64 g.item.seq, .int .i64 g.item.cls, .int .i64 g.item.key, .int .i64 g.item.window, .int .i64 g.item.sk.count, .int .i64 g.item.sk.sum, .int .i64 g.item.sk.min, .int .i64 g.item.sk.max, .slice td te tf, .slice tg th ti, .slice tj tk tl]) := ⟨_, rfl⟩
      rw [← hW2] at hb v1 v2 ⊢
      obtain ⟨gn, hga⟩ : ∃ g, g = w14.heap.size := ⟨_, rfl⟩
      obtain ⟨gg, hgf⟩ : ∃ g, g = w14.heap.size + 1 := ⟨_, rfl⟩
      rw [← hgf] at v2 ⊢
      rw [← hga] at v1 ⊢
      have BEL : Hid (Below w.heap.size w w15) := Below.next BEL.out hb
      have Va : Hid (VarA ga a a1 n1 c1 a2 n2 c2 F G w15) := Va.out.below hb
      have Rl : Hid (RdI w15 pl nl a.waits Fl) := Rl.out.below hb
      have Vf : Hid (Blk w15 gf #[.int .i64 f.kind, .int .i64 f.agent, .int .i64 f.epoch, .int .i64 f.granted, .slice ra rb rc, .int .i64 f.item.seq, .int .i64 f.item.cls, .int .i64 f.item.key, .int .i64 f.item.window, .int .i64 f.item.sk.count, .int .i64 f.item.sk.sum, .int .i64 f.item.sk.min, .int .i64 f.item.sk.max, .slice rd re rf, .slice rg rh ri, .slice rj rk rl] 38 ∧ RdFr w15 (.agg #[.int .i64 f.kind, .int .i64 f.agent, .int .i64 f.epoch, .int .i64 f.granted, .slice ra rb rc, .int .i64 f.item.seq, .int .i64 f.item.cls, .int .i64 f.item.key, .int .i64 f.item.window, .int .i64 f.item.sk.count, .int .i64 f.item.sk.sum, .int .i64 f.item.sk.min, .int .i64 f.item.sk.max, .slice rd re rf, .slice rg rh ri, .slice rj rk rl]) f F1 G1) := ⟨Vf.out.1.below hb, Vf.out.2.below hb⟩
      have Vx : Hid (VarA gx x x1 n3 c3 x2 n4 c4 Fx Gx w15) := Vx.out.below hb
      have HSN : Hid (w15.ownsRow lo 3 1 vS k ((R.take k).map (Value.int .i64)) ∧ lo ≤ w15.heap.size) := ⟨ownsRow_below HSN.out.1 hb, Nat.le_trans HSN.out.2 hb.size⟩
      have Vy : Hid (VarA gn y y1 n5 c5 y2 n6 c6 Fy Gy w15) := ⟨v1, HRA.out.1.agree (.below hb HRA.out.1.lt), HRA.out.2.1.below hb, HRA.out.2.2.1, HRA.out.2.2.2⟩
      have Vg : Hid (Blk w15 gg #[.int .i64 g.kind, .int .i64 g.agent, .int .i64 g.epoch, .int .i64 g.granted, .slice ta tb tc, .int .i64 g.item.seq, .int .i64 g.item.cls, .int .i64 g.item.key, .int .i64 g.item.window, .int .i64 g.item.sk.count, .int .i64 g.item.sk.sum, .int .i64 g.item.sk.min, .int .i64 g.item.sk.max, .slice td te tf, .slice tg th ti, .slice tj tk tl] 38 ∧ RdFr w15 (.agg #[.int .i64 g.kind, .int .i64 g.agent, .int .i64 g.epoch, .int .i64 g.granted, .slice ta tb tc, .int .i64 g.item.seq, .int .i64 g.item.cls, .int .i64 g.item.key, .int .i64 g.item.window, .int .i64 g.item.sk.count, .int .i64 g.item.sk.sum, .int .i64 g.item.sk.min, .int .i64 g.item.sk.max, .slice td te tf, .slice tg th ti, .slice tj tk tl]) g F2 G2) := ⟨v2, HRF.out.below hb⟩
      have HPY : Hid ((∀ b ∈ Fy, wr.heap.size ≤ b) ∧ (∀ b ∈ Gy, wr.heap.size ≤ b) ∧ wr.heap.size ≤ gn ∧ gg = gn + 1) := by
        rw [hga, hgf]
        exact ⟨HOW.out.1, HOW.out.2.1, HOW.out.2.2, rfl⟩
      clear hb v1 v2 hW2 hga hgf HB HRA HRF HOW
      go_wp2_with (first | go_skip | (with_reducible refine stopLoad 27 rfl ?_) | (with_reducible refine stopStore 27 rfl ?_) | (with_reducible refine stopLoad 38 rfl ?_) | (with_reducible refine stopStore 38 rfl ?_))
      refine load_known 27 gn #[.int .i64 y.id, .int .i64 y.epoch, .bool y.live, .int .i64 y.granted, .slice y1 n5 c5, .slice y2 n6 c6, .int .i64 y.next] 27 _ Vy.out.blk rfl rfl rfl Try.underlying27 rfl infoAgL ?_
      go_wp2_with (first | go_skip | (with_reducible refine stopLoad 27 rfl ?_) | (with_reducible refine stopStore 27 rfl ?_) | (with_reducible refine stopLoad 38 rfl ?_) | (with_reducible refine stopStore 38 rfl ?_))
      refine store_known 27 gx _ #[.int .i64 y.id, .int .i64 y.epoch, .bool y.live, .int .i64 y.granted, .slice y1 n5 c5, .slice y2 n6 c6, .int .i64 y.next] 27 Vx.out.blk rfl rfl rfl rfl infoAgL rfl (by simp [Value.oneCell']) ?_
      have lgx : gx < lo := by have := HLO.out; omega
      have kp : ∀ b, b ≠ gx → (w15.setRow gx #[.int .i64 y.id, .int .i64 y.epoch, .bool y.live, .int .i64 y.granted, .slice y1 n5 c5, .slice y2 n6 c6, .int .i64 y.next]).heap[b]? = w15.heap[b]? := fun b hb => setRow_other w15 gx b _ hb
      have hsz : w15.heap.size ≤ (w15.setRow gx #[.int .i64 y.id, .int .i64 y.epoch, .bool y.live, .int .i64 y.granted, .slice y1 n5 c5, .slice y2 n6 c6, .int .i64 y.next]).heap.size := (below_setRow (Below.refl 0 w15) (Nat.zero_le gx) _).size
      have e1 := below_setRow BEL.out HP.out.2.2.2.2.2.2.2 #[.int .i64 y.id, .int .i64 y.epoch, .bool y.live, .int .i64 y.granted, .slice y1 n5 c5, .slice y2 n6 c6, .int .i64 y.next]
      have e2 : VarA ga a a1 n1 c1 a2 n2 c2 F G (w15.setRow gx #[.int .i64 y.id, .int .i64 y.epoch, .bool y.live, .int .i64 y.granted, .slice y1 n5 c5, .slice y2 n6 c6, .int .i64 y.next]) := ⟨Va.out.blk.agree (kp _ (by have := HP.out.1; omega)), Va.out.rl.agree (fun b hb => kp b (by have := HP.out.2.1 b hb; omega)), Va.out.rp.agree (fun b hb => kp b (by have := HP.out.2.2.1 b hb; omega)), Va.out.k1, Va.out.k2⟩
      have e3 : RdI (w15.setRow gx #[.int .i64 y.id, .int .i64 y.epoch, .bool y.live, .int .i64 y.granted, .slice y1 n5 c5, .slice y2 n6 c6, .int .i64 y.next]) pl nl a.waits Fl := Rl.out.agree (fun b hb => kp b (by have := HP.out.2.2.2.1 b hb; omega))
      have e4 : Blk (w15.setRow gx #[.int .i64 y.id, .int .i64 y.epoch, .bool y.live, .int .i64 y.granted, .slice y1 n5 c5, .slice y2 n6 c6, .int .i64 y.next]) gf #[.int .i64 f.kind, .int .i64 f.agent, .int .i64 f.epoch, .int .i64 f.granted, .slice ra rb rc, .int .i64 f.item.seq, .int .i64 f.item.cls, .int .i64 f.item.key, .int .i64 f.item.window, .int .i64 f.item.sk.count, .int .i64 f.item.sk.sum, .int .i64 f.item.sk.min, .int .i64 f.item.sk.max, .slice rd re rf, .slice rg rh ri, .slice rj rk rl] 38 ∧ RdFr (w15.setRow gx #[.int .i64 y.id, .int .i64 y.epoch, .bool y.live, .int .i64 y.granted, .slice y1 n5 c5, .slice y2 n6 c6, .int .i64 y.next]) (.agg #[.int .i64 f.kind, .int .i64 f.agent, .int .i64 f.epoch, .int .i64 f.granted, .slice ra rb rc, .int .i64 f.item.seq, .int .i64 f.item.cls, .int .i64 f.item.key, .int .i64 f.item.window, .int .i64 f.item.sk.count, .int .i64 f.item.sk.sum, .int .i64 f.item.sk.min, .int .i64 f.item.sk.max, .slice rd re rf, .slice rg rh ri, .slice rj rk rl]) f F1 G1 := ⟨Vf.out.1.agree (kp _ (by have := HP.out.2.2.2.2.1; omega)), Vf.out.2.agree (fun b hb => kp b (by have := HP.out.2.2.2.2.2.1 b hb; omega)) (fun b hb => kp b (by have := HP.out.2.2.2.2.2.2.1 b hb; omega))⟩
      have lwr : gx < wr.heap.size := by have h := HALLSZ.out; omega
      have e5 : VarA gx y y1 n5 c5 y2 n6 c6 Fy Gy (w15.setRow gx #[.int .i64 y.id, .int .i64 y.epoch, .bool y.live, .int .i64 y.granted, .slice y1 n5 c5, .slice y2 n6 c6, .int .i64 y.next]) := ⟨Vx.out.blk.setRow, Vy.out.rl.agree (fun b hb => kp b (by have := HPY.out.1 b hb; omega)), Vy.out.rp.agree (fun b hb => kp b (by have := HPY.out.2.1 b hb; omega)), Vy.out.k1, Vy.out.k2⟩
      have e6 : Blk (w15.setRow gx #[.int .i64 y.id, .int .i64 y.epoch, .bool y.live, .int .i64 y.granted, .slice y1 n5 c5, .slice y2 n6 c6, .int .i64 y.next]) gg #[.int .i64 g.kind, .int .i64 g.agent, .int .i64 g.epoch, .int .i64 g.granted, .slice ta tb tc, .int .i64 g.item.seq, .int .i64 g.item.cls, .int .i64 g.item.key, .int .i64 g.item.window, .int .i64 g.item.sk.count, .int .i64 g.item.sk.sum, .int .i64 g.item.sk.min, .int .i64 g.item.sk.max, .slice td te tf, .slice tg th ti, .slice tj tk tl] 38 := Vg.out.1.agree (kp _ (by have := HPY.out.2.2; omega))
      have e7 : (w15.setRow gx #[.int .i64 y.id, .int .i64 y.epoch, .bool y.live, .int .i64 y.granted, .slice y1 n5 c5, .slice y2 n6 c6, .int .i64 y.next]).ownsRow lo 3 1 vS k ((R.take k).map (Value.int .i64)) := own_keep HSN.out.1 (fun b hb => kp b (by have := HOB.out b hb; omega))
      obtain ⟨w16, hW⟩ : ∃ Z, Z = w15.setRow gx #[.int .i64 y.id, .int .i64 y.epoch, .bool y.live, .int .i64 y.granted, .slice y1 n5 c5, .slice y2 n6 c6, .int .i64 y.next] := ⟨_, rfl⟩
      rw [← hW] at e1 e2 e3 e4 e5 e6 e7 hsz ⊢
      have BEL : Hid (Below w.heap.size w w16) := e1
      have Va : Hid (VarA ga a a1 n1 c1 a2 n2 c2 F G w16) := e2
      have Rl : Hid (RdI w16 pl nl a.waits Fl) := e3
      have Vf : Hid (Blk w16 gf #[.int .i64 f.kind, .int .i64 f.agent, .int .i64 f.epoch, .int .i64 f.granted, .slice ra rb rc, .int .i64 f.item.seq, .int .i64 f.item.cls, .int .i64 f.item.key, .int .i64 f.item.window, .int .i64 f.item.sk.count, .int .i64 f.item.sk.sum, .int .i64 f.item.sk.min, .int .i64 f.item.sk.max, .slice rd re rf, .slice rg rh ri, .slice rj rk rl] 38 ∧ RdFr w16 (.agg #[.int .i64 f.kind, .int .i64 f.agent, .int .i64 f.epoch, .int .i64 f.granted, .slice ra rb rc, .int .i64 f.item.seq, .int .i64 f.item.cls, .int .i64 f.item.key, .int .i64 f.item.window, .int .i64 f.item.sk.count, .int .i64 f.item.sk.sum, .int .i64 f.item.sk.min, .int .i64 f.item.sk.max, .slice rd re rf, .slice rg rh ri, .slice rj rk rl]) f F1 G1) := e4
      have Vx : Hid (VarA gx y y1 n5 c5 y2 n6 c6 Fy Gy w16) := e5
      have Vg : Hid (Blk w16 gg #[.int .i64 g.kind, .int .i64 g.agent, .int .i64 g.epoch, .int .i64 g.granted, .slice ta tb tc, .int .i64 g.item.seq, .int .i64 g.item.cls, .int .i64 g.item.key, .int .i64 g.item.window, .int .i64 g.item.sk.count, .int .i64 g.item.sk.sum, .int .i64 g.item.sk.min, .int .i64 g.item.sk.max, .slice td te tf, .slice tg th ti, .slice tj tk tl] 38) := e6
      have HSN : Hid (w16.ownsRow lo 3 1 vS k ((R.take k).map (Value.int .i64)) ∧ lo ≤ w16.heap.size) := ⟨e7, Nat.le_trans HSN.out.2 hsz⟩
      clear kp hsz e1 e2 e3 e4 e5 e6 e7 hW lgx lwr Vy
      have cg5 := Vg.out.cell 5
      simp only [aT, aS, aZ] at cg5
      obtain ⟨sk, hsk⟩ : ∃ q, q = g.item.seq := ⟨_, rfl⟩
      have HSK : Hid (sk = R.getD k 0) := hsk.trans HGG.out.2
      rw [← hsk] at cg5
      clear hsk
      go_wp2_with (first | go_skip | (with_reducible refine stopAppend rfl ?_))
      have bl : Below w16.heap.size w16 (w16.alloc (.cells #[.int .i64 sk] 3)) := (Below.refl _ _).alloc (Nat.le_refl _) _
      clear cg5
      have BEL : Hid (Below w.heap.size w (w16.alloc (.cells #[.int .i64 sk] 3))) := Below.next BEL.out bl
      have Va : Hid (VarA ga a a1 n1 c1 a2 n2 c2 F G (w16.alloc (.cells #[.int .i64 sk] 3))) := Va.out.below bl
      have Rl : Hid (RdI (w16.alloc (.cells #[.int .i64 sk] 3)) pl nl a.waits Fl) := Rl.out.below bl
      have Vf : Hid (Blk (w16.alloc (.cells #[.int .i64 sk] 3)) gf #[.int .i64 f.kind, .int .i64 f.agent, .int .i64 f.epoch, .int .i64 f.granted, .slice ra rb rc, .int .i64 f.item.seq, .int .i64 f.item.cls, .int .i64 f.item.key, .int .i64 f.item.window, .int .i64 f.item.sk.count, .int .i64 f.item.sk.sum, .int .i64 f.item.sk.min, .int .i64 f.item.sk.max, .slice rd re rf, .slice rg rh ri, .slice rj rk rl] 38 ∧ RdFr (w16.alloc (.cells #[.int .i64 sk] 3)) (.agg #[.int .i64 f.kind, .int .i64 f.agent, .int .i64 f.epoch, .int .i64 f.granted, .slice ra rb rc, .int .i64 f.item.seq, .int .i64 f.item.cls, .int .i64 f.item.key, .int .i64 f.item.window, .int .i64 f.item.sk.count, .int .i64 f.item.sk.sum, .int .i64 f.item.sk.min, .int .i64 f.item.sk.max, .slice rd re rf, .slice rg rh ri, .slice rj rk rl]) f F1 G1) := ⟨Vf.out.1.below bl, Vf.out.2.below bl⟩
      have Vx : Hid (VarA gx y y1 n5 c5 y2 n6 c6 Fy Gy (w16.alloc (.cells #[.int .i64 sk] 3))) := Vx.out.below bl
      have HSN : Hid ((w16.alloc (.cells #[.int .i64 sk] 3)).ownsRow lo 3 1 vS k ((R.take k).map (Value.int .i64)) ∧ lo ≤ (w16.alloc (.cells #[.int .i64 sk] 3)).heap.size) := ⟨ownsRow_below HSN.out.1 bl, Nat.le_trans HSN.out.2 bl.size⟩
      have Vg : Hid (Blk (w16.alloc (.cells #[.int .i64 sk] 3)) gg #[.int .i64 g.kind, .int .i64 g.agent, .int .i64 g.epoch, .int .i64 g.granted, .slice ta tb tc, .int .i64 g.item.seq, .int .i64 g.item.cls, .int .i64 g.item.key, .int .i64 g.item.window, .int .i64 g.item.sk.count, .int .i64 g.item.sk.sum, .int .i64 g.item.sk.min, .int .i64 g.item.sk.max, .slice td te tf, .slice tg th ti, .slice tj tk tl] 38) := Vg.out.below bl
      have hn6 := HN60.out
      refine Stop.intro (wpList_append_own _ rfl _ _ 29 rfl lo 3 i0 (.int .i64 0) 1 8 Try.underlying29 hi0 hz00 hz01 hz02 rfl (by decide) _ _ _ rfl HSN.out.1 ⟨w16.heap.size, 0, none⟩ 1 1 [.int .i64 sk] rfl rfl (cell_one7 _ _ _) (by intro u hu; simp at hu; rw [hu]; rfl) (by unfold maxLen; omega) (by omega) HSN.out.2 ?_)
      intro v4 w18 hown hgrow _
      have lgx : gx + 1 < lo := HLO.out
      have kp : ∀ b, b < (w16.alloc (.cells #[.int .i64 sk] 3)).heap.size → (b < lo ∨ wr.heap.size ≤ b) → w18.heap[b]? = (w16.alloc (.cells #[.int .i64 sk] 3)).heap[b]? := fun b hb hc => hgrow.block b hb (fun e => by have := HOB.out b e.symm; omega)
      have e1 := BEL.out.grown hgrow BEL.out.size (fun b hb => by have := HOB.out b hb; have := HP.out.2.2.2.2.2.2.2; omega)
      have e2 : VarA ga a a1 n1 c1 a2 n2 c2 F G w18 := ⟨Va.out.blk.agree (kp _ Va.out.blk.lt (.inl (by have := HP.out.1; omega))), Va.out.rl.agree (fun b hb => kp b (Va.out.rl.lt b hb) (.inl (by have := HP.out.2.1 b hb; omega))), Va.out.rp.agree (fun b hb => kp b (Va.out.rp.lt b hb) (.inl (by have := HP.out.2.2.1 b hb; omega))), Va.out.k1, Va.out.k2⟩
      have e3 : RdI w18 pl nl a.waits Fl := Rl.out.agree (fun b hb => kp b (Rl.out.lt b hb) (.inl (by have := HP.out.2.2.2.1 b hb; omega)))
      have e4 : Blk w18 gf #[.int .i64 f.kind, .int .i64 f.agent, .int .i64 f.epoch, .int .i64 f.granted, .slice ra rb rc, .int .i64 f.item.seq, .int .i64 f.item.cls, .int .i64 f.item.key, .int .i64 f.item.window, .int .i64 f.item.sk.count, .int .i64 f.item.sk.sum, .int .i64 f.item.sk.min, .int .i64 f.item.sk.max, .slice rd re rf, .slice rg rh ri, .slice rj rk rl] 38 ∧ RdFr w18 (.agg #[.int .i64 f.kind, .int .i64 f.agent, .int .i64 f.epoch, .int .i64 f.granted, .slice ra rb rc, .int .i64 f.item.seq, .int .i64 f.item.cls, .int .i64 f.item.key, .int .i64 f.item.window, .int .i64 f.item.sk.count, .int .i64 f.item.sk.sum, .int .i64 f.item.sk.min, .int .i64 f.item.sk.max, .slice rd re rf, .slice rg rh ri, .slice rj rk rl]) f F1 G1 := ⟨Vf.out.1.agree (kp _ Vf.out.1.lt (.inl (by have := HP.out.2.2.2.2.1; omega))), Vf.out.2.agree (fun b hb => kp b (Vf.out.2.lt1 b hb) (.inl (by have := HP.out.2.2.2.2.2.1 b hb; omega))) (fun b hb => kp b (Vf.out.2.lt2 b hb) (.inl (by have := HP.out.2.2.2.2.2.2.1 b hb; omega)))⟩
      have e5 : VarA gx y y1 n5 c5 y2 n6 c6 Fy Gy w18 := ⟨Vx.out.blk.agree (kp _ Vx.out.blk.lt (.inl (by omega))), Vx.out.rl.agree (fun b hb => kp b (Vx.out.rl.lt b hb) (.inr (HPY.out.1 b hb))), Vx.out.rp.agree (fun b hb => kp b (Vx.out.rp.lt b hb) (.inr (HPY.out.2.1 b hb))), Vx.out.k1, Vx.out.k2⟩
      have e6 : Blk w18 gg #[.int .i64 g.kind, .int .i64 g.agent, .int .i64 g.epoch, .int .i64 g.granted, .slice ta tb tc, .int .i64 g.item.seq, .int .i64 g.item.cls, .int .i64 g.item.key, .int .i64 g.item.window, .int .i64 g.item.sk.count, .int .i64 g.item.sk.sum, .int .i64 g.item.sk.min, .int .i64 g.item.sk.max, .slice td te tf, .slice tg th ti, .slice tj tk tl] 38 := Vg.out.agree (kp _ Vg.out.lt (.inr (by have := HPY.out.2.2; omega)))
      have BEL : Hid (Below w.heap.size w w18) := e1
      have Va : Hid (VarA ga a a1 n1 c1 a2 n2 c2 F G w18) := e2
      have Rl : Hid (RdI w18 pl nl a.waits Fl) := e3
      have Vf : Hid (Blk w18 gf #[.int .i64 f.kind, .int .i64 f.agent, .int .i64 f.epoch, .int .i64 f.granted, .slice ra rb rc, .int .i64 f.item.seq, .int .i64 f.item.cls, .int .i64 f.item.key, .int .i64 f.item.window, .int .i64 f.item.sk.count, .int .i64 f.item.sk.sum, .int .i64 f.item.sk.min, .int .i64 f.item.sk.max, .slice rd re rf, .slice rg rh ri, .slice rj rk rl] 38 ∧ RdFr w18 (.agg #[.int .i64 f.kind, .int .i64 f.agent, .int .i64 f.epoch, .int .i64 f.granted, .slice ra rb rc, .int .i64 f.item.seq, .int .i64 f.item.cls, .int .i64 f.item.key, .int .i64 f.item.window, .int .i64 f.item.sk.count, .int .i64 f.item.sk.sum, .int .i64 f.item.sk.min, .int .i64 f.item.sk.max, .slice rd re rf, .slice rg rh ri, .slice rj rk rl]) f F1 G1) := e4
      have Vx : Hid (VarA gx y y1 n5 c5 y2 n6 c6 Fy Gy w18) := e5
      have HTK : Hid (R.take (k + 1) = R.take k ++ [sk]) := take_snoc_at (by rw [HSK.out, List.getD_eq_getElem?_getD, List.getElem?_eq_getElem (by have := HRR.out.2.2; omega)]; rfl)
      have HSN : Hid (w18.ownsRow lo 3 1 v4 (k + 1) ((R.take (k + 1)).map (Value.int .i64)) ∧ lo ≤ w18.heap.size) := ⟨by rw [HTK.out, List.map_append]; exact hown, Nat.le_trans HSN.out.2 hgrow.size⟩
      have cg0 := e6.cell 0
      simp only [aT, aZ] at cg0
      rw [HGG.out.1] at cg0
      have hwk : IntKind.i64.wrap ((k : Int) + 1) = ((k + 1 : Nat) : Int) := by rw [wrapD (by omega) (by omega)]; omega
      clear bl kp e1 e2 e3 e4 e5 e6 hown hgrow lgx hn6
      go_wp2
      go_roundw
      case rel => exact ⟨k + 1, y, y1, n5, c5, y2, n6, c6, Fy, Gy, by omega, by omega, by first | go_num | (simp [hwk]), ⟨BEL.out, Va.out, Rl.out, Vf.out⟩, ⟨HYY.out, Vx.out, HSN.out.1, HSN.out.2⟩⟩
      case measure => simp [intOf]; omega
    obtain rfl : k = nl := by omega
    have hcd : decide ((k : Int) < (k : Int)) = false := dec_false (by omega)
    obtain ⟨pS, qS, FS, rfl, rS, _⟩ := rdI_own_cap HSN.out.1
    have RS : Hid (RdI wr pS k R FS) := by rw [List.take_of_length_le (Nat.le_of_eq HRR.out.2.2)] at rS; exact rS
    have HOKX : Hid (x.ok = true ∧ (∀ y ∈ x.sealed, y.sk.wide) ∧ x.sealed.length ≤ 7 ∧ x.taken.length ≤ 8) := by rw [HXX.out]; exact ⟨Ag.at_ok HOT.out (waits_60 (HW0.out _ (by omega))), HSW.out, HSA.out.2.1, HSA.out.2.2⟩
    clear rS HSN HXX
    go_wp2
    clear hcd hlt
    go_loopw [13] (fun i ws => ∃ (j : Nat), j ≤ k ∧ i = .int .i64 (j : Int) ∧ Hid ((Below w.heap.size w ws) ∧ (VarA ga a a1 n1 c1 a2 n2 c2 F G ws) ∧ (RdI ws pl k a.waits Fl) ∧ (Blk ws gf #[.int .i64 f.kind, .int .i64 f.agent, .int .i64 f.epoch, .int .i64 f.granted, .slice ra rb rc, .int .i64 f.item.seq, .int .i64 f.item.cls, .int .i64 f.item.key, .int .i64 f.item.window, .int .i64 f.item.sk.count, .int .i64 f.item.sk.sum, .int .i64 f.item.sk.min, .int .i64 f.item.sk.max, .slice rd re rf, .slice rg rh ri, .slice rj rk rl] 38 ∧ RdFr ws (.agg #[.int .i64 f.kind, .int .i64 f.agent, .int .i64 f.epoch, .int .i64 f.granted, .slice ra rb rc, .int .i64 f.item.seq, .int .i64 f.item.cls, .int .i64 f.item.key, .int .i64 f.item.window, .int .i64 f.item.sk.count, .int .i64 f.item.sk.sum, .int .i64 f.item.sk.min, .int .i64 f.item.sk.max, .slice rd re rf, .slice rg rh ri, .slice rj rk rl]) f F1 G1) ∧ (VarA gx x x1 n3 c3 x2 n4 c4 Fx Gx ws) ∧ (RdI ws pS k R FS))) (fun i _ => k - (intOf i).toNat)
    case atStart => exact ⟨0, by omega, rfl, ⟨BEL.out, Va.out, Rl.out, Vf.out, Vx.out, RS.out⟩⟩
    case round =>
      clear BEL Va Rl Vf Vx RS
      obtain ⟨j, hjk, rfl, HALL⟩ := hrel
      have BEL : Hid (Below w.heap.size w wr) := HALL.out.1
      have Va : Hid (VarA ga a a1 n1 c1 a2 n2 c2 F G wr) := HALL.out.2.1
      have Rl : Hid (RdI wr pl k a.waits Fl) := HALL.out.2.2.1
      have Vf : Hid (Blk wr gf #[.int .i64 f.kind, .int .i64 f.agent, .int .i64 f.epoch, .int .i64 f.granted, .slice ra rb rc, .int .i64 f.item.seq, .int .i64 f.item.cls, .int .i64 f.item.key, .int .i64 f.item.window, .int .i64 f.item.sk.count, .int .i64 f.item.sk.sum, .int .i64 f.item.sk.min, .int .i64 f.item.sk.max, .slice rd re rf, .slice rg rh ri, .slice rj rk rl] 38 ∧ RdFr wr (.agg #[.int .i64 f.kind, .int .i64 f.agent, .int .i64 f.epoch, .int .i64 f.granted, .slice ra rb rc, .int .i64 f.item.seq, .int .i64 f.item.cls, .int .i64 f.item.key, .int .i64 f.item.window, .int .i64 f.item.sk.count, .int .i64 f.item.sk.sum, .int .i64 f.item.sk.min, .int .i64 f.item.sk.max, .slice rd re rf, .slice rg rh ri, .slice rj rk rl]) f F1 G1) := HALL.out.2.2.2.1
      have Vx : Hid (VarA gx x x1 n3 c3 x2 n4 c4 Fx Gx wr) := HALL.out.2.2.2.2.1
      have RS : Hid (RdI wr pS k R FS) := HALL.out.2.2.2.2.2
      clear HALL
      by_cases hlj : j < k
      · have hcd : decide ((j : Int) < (k : Int)) = true := decT (by omega)
        obtain ⟨p, o, rfl⟩ := Rl.out.addr (by omega)
        have e := Rl.out.at j hlj
        obtain ⟨z, hz⟩ : ∃ z, z = a.waits.getD j 0 := ⟨_, rfl⟩
        rw [← hz] at e
        have HZM : Hid (z ∈ a.waits) := by rw [hz, List.getD_eq_getElem?_getD, List.getElem?_eq_getElem (by have := HNL.out; omega)]; exact List.getElem_mem _
        have HZC : Hid (R.count z = 1 ∧ z ≤ a.granted ∧ a.taken.has z = false) := ⟨by rw [HRR.out.1]; exact rot_count (waits_asc a) st HZM.out, (waits_mem HZM.out).2.1, (waits_mem HZM.out).2.2.2.1⟩
        clear hz
        go_wp2_with fail
        clear hcd
        obtain ⟨w19, hY⟩ : ∃ Y, Y = wr.drew := ⟨_, rfl⟩
        have bd := (Below.refl wr.heap.size wr).drew
        rw [← hY] at bd
        have e' : w19.cell? ⟨p, o + j, none⟩ = some (.int .i64 z) := (bd.cell (by exact World.block_lt_of_cell? _ _ e)).trans e
        have BEL : Hid (Below w.heap.size w w19) := Below.next BEL.out bd
        have Va : Hid (VarA ga a a1 n1 c1 a2 n2 c2 F G w19) := Va.out.below bd
        have Rl : Hid (RdI w19 (some ⟨p, o, none⟩) k a.waits Fl) := Rl.out.below bd
        have Vf : Hid (Blk w19 gf #[.int .i64 f.kind, .int .i64 f.agent, .int .i64 f.epoch, .int .i64 f.granted, .slice ra rb rc, .int .i64 f.item.seq, .int .i64 f.item.cls, .int .i64 f.item.key, .int .i64 f.item.window, .int .i64 f.item.sk.count, .int .i64 f.item.sk.sum, .int .i64 f.item.sk.min, .int .i64 f.item.sk.max, .slice rd re rf, .slice rg rh ri, .slice rj rk rl] 38 ∧ RdFr w19 (.agg #[.int .i64 f.kind, .int .i64 f.agent, .int .i64 f.epoch, .int .i64 f.granted, .slice ra rb rc, .int .i64 f.item.seq, .int .i64 f.item.cls, .int .i64 f.item.key, .int .i64 f.item.window, .int .i64 f.item.sk.count, .int .i64 f.item.sk.sum, .int .i64 f.item.sk.min, .int .i64 f.item.sk.max, .slice rd re rf, .slice rg rh ri, .slice rj rk rl]) f F1 G1) := ⟨Vf.out.1.below bd, Vf.out.2.below bd⟩
        have Vx : Hid (VarA gx x x1 n3 c3 x2 n4 c4 Fx Gx w19) := Vx.out.below bd
        have RS : Hid (RdI w19 pS k R FS) := RS.out.below bd
        have HC : Hid (∀ W, Below w19.heap.size w19 W → W.cell? ⟨p, o + j, none⟩ = some (.int .i64 z) ∧ Blk W ga #[.int .i64 a.id, .int .i64 a.epoch, .bool a.live, .int .i64 a.granted, .slice a1 n1 c1, .slice a2 n2 c2, .int .i64 a.next] 27) := fun W hW => ⟨(hW.cell (by exact World.block_lt_of_cell? _ _ e')).trans e', Va.out.blk.below hW⟩
        clear e e' bd
        refine wp_region_held (S := fun W => Below w19.heap.size w19 W) (by kernel_rfl) ?_
        change wpAnyH _ _ _ _ _ _ _ _ (World.drew _)
        rw [← hY]
        clear hY
        refine takeH (o := ?o212) 0 (.slice pS k qS) ?h212 ?r212
        case h212 => simp only [aT, aZ]; rfl
        refine ⟨_, by simp [Act.put]; rfl, by kernel_rfl, by kernel_rfl, by kernel_rfl, fun _ _ _ h => h, (.inl ⟨rfl, fun W _ => by kernel_rfl⟩), (Below.refl _ _), ?_⟩
        refine takeH (o := ?o213) 1 (.slice (some ⟨p, o, none⟩) k ql) ?h213 ?r213
        case h213 => simp only [aT, aS, aZ]; rfl
        refine ⟨_, by simp [Act.put]; rfl, by kernel_rfl, by kernel_rfl, by kernel_rfl, fun _ _ _ h => h, (.inl ⟨rfl, fun W _ => by kernel_rfl⟩), (Below.refl _ _), ?_⟩
        refine takeH (o := ?o214) 2 (.int .i64 j) ?h214 ?r214
        case h214 => simp only [aT, aS, aZ]; rfl
        refine ⟨_, by simp [Act.put]; rfl, by kernel_rfl, by kernel_rfl, by kernel_rfl, fun _ _ _ h => h, (.inl ⟨rfl, fun W _ => by kernel_rfl⟩), (Below.refl _ _), ?_⟩
        refine takeH (o := ?o215) 3 (.pointer (some ⟨p, o + j, none⟩)) ?h215 ?r215
        case h215 => simp only [aT, aS, aZ]; rfl
        refine ⟨_, by simp [Act.put]; rfl, by kernel_rfl, by kernel_rfl, by kernel_rfl, fun _ _ _ h => h, (.inl ⟨rfl, fun W _ => by go_simp; first | done | (intro h; omega) | (rw [if_pos (by omega)]; rfl)⟩), (Below.refl _ _), ?_⟩
        refine takeH (o := ?o216) 4 (.int .i64 z) ?h216 ?r216
        case h216 => simp only [aT, aS, aZ]; rfl
        refine ⟨_, by simp [Act.put]; rfl, by kernel_rfl, by kernel_rfl, by kernel_rfl, fun _ _ _ h => h, (.inl ⟨rfl, fun W hW => by have c := (HC.out W hW).1; go_simp⟩), (Below.refl _ _), ?_⟩
        refine onlyH (o := ?o217) 5 (by kernel_rfl) ?h217 ?r217
        case h217 => simp only [aT, aS, aZ]; rfl
        intro K hK
        refine op_call2v 17 _ _ _ Try.f17 (fun v w' => v = .int .i64 1 ∧ Below w19.heap.size w19 w') rfl rfl Try.func17 (by kernel_rfl) (by kernel_rfl) ((times_any pS k qS R z FS w19 RS.out (by have := HN60.out; omega)).mono (by rintro e w' ⟨rfl, hb⟩; exact ⟨_, rfl, by rw [HZC.out.1]; rfl, hb⟩)) ?_
        rintro v w20 ⟨rfl, hb⟩
        have BEL : Hid (Below w.heap.size w w20) := Below.next BEL.out hb
        have Va : Hid (VarA ga a a1 n1 c1 a2 n2 c2 F G w20) := Va.out.below hb
        have Rl : Hid (RdI w20 (some ⟨p, o, none⟩) k a.waits Fl) := Rl.out.below hb
        have Vf : Hid (Blk w20 gf #[.int .i64 f.kind, .int .i64 f.agent, .int .i64 f.epoch, .int .i64 f.granted, .slice ra rb rc, .int .i64 f.item.seq, .int .i64 f.item.cls, .int .i64 f.item.key, .int .i64 f.item.window, .int .i64 f.item.sk.count, .int .i64 f.item.sk.sum, .int .i64 f.item.sk.min, .int .i64 f.item.sk.max, .slice rd re rf, .slice rg rh ri, .slice rj rk rl] 38 ∧ RdFr w20 (.agg #[.int .i64 f.kind, .int .i64 f.agent, .int .i64 f.epoch, .int .i64 f.granted, .slice ra rb rc, .int .i64 f.item.seq, .int .i64 f.item.cls, .int .i64 f.item.key, .int .i64 f.item.window, .int .i64 f.item.sk.count, .int .i64 f.item.sk.sum, .int .i64 f.item.sk.min, .int .i64 f.item.sk.max, .slice rd re rf, .slice rg rh ri, .slice rj rk rl]) f F1 G1) := ⟨Vf.out.1.below hb, Vf.out.2.below hb⟩
        have Vx : Hid (VarA gx x x1 n3 c3 x2 n4 c4 Fx Gx w20) := Vx.out.below hb
        have RS : Hid (RdI w20 pS k R FS) := RS.out.below hb
        have HBL : Hid (Below w19.heap.size w19 w20) := hb
        clear hb
        refine ⟨_, by simp [Act.put]; rfl, hK _ _ ⟨HBL.out, ?_⟩⟩
        clear hK
        refine takeH (o := ?o218) 6 (.bool false) ?h218 ?r218
        case h218 => simp only [aT, aS, aZ]; rfl
        refine ⟨_, by simp [Act.put]; rfl, by kernel_rfl, by kernel_rfl, by kernel_rfl, fun _ _ _ h => h, (.inl ⟨rfl, fun W _ => by go_simp⟩), HBL.out, ?_⟩
        refine takeH (o := ?o219) 7 (.bool false) ?h219 ?r219
        case h219 => simp only [aT, aS, aZ]; rfl
        refine ⟨_, by simp [Act.put]; rfl, by kernel_rfl, by kernel_rfl, by kernel_rfl, fun _ _ _ h => h, (.inl ⟨rfl, fun W _ => by kernel_rfl⟩), HBL.out, ?_⟩
        refine takeH (o := ?o220) 8 (.slice (some ⟨p, o, none⟩) k ql) ?h220 ?r220
        case h220 => simp only [aT, aS, aZ]; rfl
        refine ⟨_, by simp [Act.put]; rfl, by kernel_rfl, by kernel_rfl, by kernel_rfl, fun _ _ _ h => h, (.inl ⟨rfl, fun W _ => by kernel_rfl⟩), HBL.out, ?_⟩
        refine takeH (o := ?o221) 9 (.int .i64 j) ?h221 ?r221
        case h221 => simp only [aT, aS, aZ]; rfl
        refine ⟨_, by simp [Act.put]; rfl, by kernel_rfl, by kernel_rfl, by kernel_rfl, fun _ _ _ h => h, (.inl ⟨rfl, fun W _ => by kernel_rfl⟩), HBL.out, ?_⟩
        refine takeH (o := ?o222) 10 (.pointer (some ⟨p, o + j, none⟩)) ?h222 ?r222
        case h222 => simp only [aT, aS, aZ]; rfl
        refine ⟨_, by simp [Act.put]; rfl, by kernel_rfl, by kernel_rfl, by kernel_rfl, fun _ _ _ h => h, (.inl ⟨rfl, fun W _ => by go_simp; first | done | (intro h; omega) | (rw [if_pos (by omega)]; rfl)⟩), HBL.out, ?_⟩
        refine takeH (o := ?o223) 11 (.int .i64 z) ?h223 ?r223
        case h223 => simp only [aT, aS, aZ]; rfl
        refine ⟨_, by simp [Act.put]; rfl, by kernel_rfl, by kernel_rfl, by kernel_rfl, fun _ _ _ h => h, (.inl ⟨rfl, fun W hW => by have c := (HC.out W hW).1; go_simp⟩), HBL.out, ?_⟩
        refine takeH (o := ?o224) 12 (.pointer (some ⟨ga, 3, none⟩)) ?h224 ?r224
        case h224 => simp only [aT, aS, aZ]; rfl
        refine ⟨_, by simp [Act.put]; rfl, by kernel_rfl, by kernel_rfl, by kernel_rfl, fun _ _ _ h => h, (.inl ⟨rfl, fun W _ => by kernel_rfl⟩), HBL.out, ?_⟩
        refine takeH (o := ?o225) 13 (.int .i64 a.granted) ?h225 ?r225
        case h225 => simp only [aT, aS, aZ]; rfl
        refine ⟨_, by simp [Act.put]; rfl, by kernel_rfl, by kernel_rfl, by kernel_rfl, fun _ _ _ h => h, (.inl ⟨rfl, fun W hW => by have c := (HC.out W hW).2.cell 3; simp only [aT, aS, aZ] at c; go_simp⟩), HBL.out, ?_⟩
        obtain ⟨d14, hd14⟩ : ∃ d, d = decide (z > a.granted) := ⟨_, rfl⟩
        refine takeH (o := ?o226) 14 (.bool d14) ?h226 ?r226
        case h226 => simp only [aT, aS, aZ]; rfl
        refine ⟨_, by simp [Act.put]; rfl, by kernel_rfl, by kernel_rfl, by kernel_rfl, fun _ _ _ h => h, (.inl ⟨rfl, fun W _ => by rw [hd14]; go_simp⟩), HBL.out, ?_⟩
        obtain rfl : d14 = false := by rw [hd14]; exact decide_eq_false (by have := HZC.out.2.1; omega)
        clear hd14
        refine takeH (o := ?o227) 15 (.bool false) ?h227 ?r227
        case h227 => simp only [aT, aS, aZ]; rfl
        refine ⟨_, by simp [Act.put]; rfl, by kernel_rfl, by kernel_rfl, by kernel_rfl, fun _ _ _ h => h, (.inl ⟨rfl, fun W _ => by kernel_rfl⟩), HBL.out, ?_⟩
        refine takeH (o := ?o228) 16 (.bool false) ?h228 ?r228
        case h228 => simp only [aT, aS, aZ]; rfl
        refine ⟨_, by simp [Act.put]; rfl, by kernel_rfl, by kernel_rfl, by kernel_rfl, fun _ _ _ h => h, (.inl ⟨rfl, fun W _ => by kernel_rfl⟩), HBL.out, ?_⟩
        refine takeH (o := ?o229) 17 (.pointer (some ⟨ga, 5, none⟩)) ?h229 ?r229
        case h229 => simp only [aT, aS, aZ]; rfl
        refine ⟨_, by simp [Act.put]; rfl, by kernel_rfl, by kernel_rfl, by kernel_rfl, fun _ _ _ h => h, (.inl ⟨rfl, fun W _ => by kernel_rfl⟩), HBL.out, ?_⟩
        refine takeH (o := ?o230) 18 (.slice a2 n2 c2) ?h230 ?r230
        case h230 => simp only [aT, aS, aZ]; rfl
        refine ⟨_, by simp [Act.put]; rfl, by kernel_rfl, by kernel_rfl, by kernel_rfl, fun _ _ _ h => h, (.inl ⟨rfl, fun W hW => by have c := (HC.out W hW).2.cell 5; simp only [aT, aS, aZ] at c; go_simp⟩), HBL.out, ?_⟩
        refine takeH (o := ?o231) 19 (.slice (some ⟨p, o, none⟩) k ql) ?h231 ?r231
        case h231 => simp only [aT, aS, aZ]; rfl
        refine ⟨_, by simp [Act.put]; rfl, by kernel_rfl, by kernel_rfl, by kernel_rfl, fun _ _ _ h => h, (.inl ⟨rfl, fun W _ => by kernel_rfl⟩), HBL.out, ?_⟩
        refine takeH (o := ?o232) 20 (.int .i64 j) ?h232 ?r232
        case h232 => simp only [aT, aS, aZ]; rfl
        refine ⟨_, by simp [Act.put]; rfl, by kernel_rfl, by kernel_rfl, by kernel_rfl, fun _ _ _ h => h, (.inl ⟨rfl, fun W _ => by kernel_rfl⟩), HBL.out, ?_⟩
        refine takeH (o := ?o233) 21 (.pointer (some ⟨p, o + j, none⟩)) ?h233 ?r233
        case h233 => simp only [aT, aS, aZ]; rfl
        refine ⟨_, by simp [Act.put]; rfl, by kernel_rfl, by kernel_rfl, by kernel_rfl, fun _ _ _ h => h, (.inl ⟨rfl, fun W _ => by go_simp; first | done | (intro h; omega) | (rw [if_pos (by omega)]; rfl)⟩), HBL.out, ?_⟩
        refine takeH (o := ?o234) 22 (.int .i64 z) ?h234 ?r234
        case h234 => simp only [aT, aS, aZ]; rfl
        refine ⟨_, by simp [Act.put]; rfl, by kernel_rfl, by kernel_rfl, by kernel_rfl, fun _ _ _ h => h, (.inl ⟨rfl, fun W hW => by have c := (HC.out W hW).1; go_simp⟩), HBL.out, ?_⟩
        refine onlyH (o := ?o235) 23 (by kernel_rfl) ?h235 ?r235
        case h235 => simp only [aT, aS, aZ]; rfl
        intro K hK
        refine op_call2v 18 _ _ _ Try.f18 (fun v w' => v = .bool false ∧ Below w20.heap.size w20 w') rfl rfl Try.func18 (by kernel_rfl) (by kernel_rfl) ((hasImpl_any a2 n2 c2 a.taken z G w20 Va.out.rp (by have h1 := Va.out.rp.length; have h2 := HSA.out.2.2; omega)).mono (by rintro e w' ⟨rfl, hb⟩; exact ⟨_, rfl, by rw [HZC.out.2.2], hb⟩)) ?_
        rintro v w21 ⟨rfl, hb⟩
        have BEL : Hid (Below w.heap.size w w21) := Below.next BEL.out hb
        have Va : Hid (VarA ga a a1 n1 c1 a2 n2 c2 F G w21) := Va.out.below hb
        have Rl : Hid (RdI w21 (some ⟨p, o, none⟩) k a.waits Fl) := Rl.out.below hb
        have Vf : Hid (Blk w21 gf #[.int .i64 f.kind, .int .i64 f.agent, .int .i64 f.epoch, .int .i64 f.granted, .slice ra rb rc, .int .i64 f.item.seq, .int .i64 f.item.cls, .int .i64 f.item.key, .int .i64 f.item.window, .int .i64 f.item.sk.count, .int .i64 f.item.sk.sum, .int .i64 f.item.sk.min, .int .i64 f.item.sk.max, .slice rd re rf, .slice rg rh ri, .slice rj rk rl] 38 ∧ RdFr w21 (.agg #[.int .i64 f.kind, .int .i64 f.agent, .int .i64 f.epoch, .int .i64 f.granted, .slice ra rb rc, .int .i64 f.item.seq, .int .i64 f.item.cls, .int .i64 f.item.key, .int .i64 f.item.window, .int .i64 f.item.sk.count, .int .i64 f.item.sk.sum, .int .i64 f.item.sk.min, .int .i64 f.item.sk.max, .slice rd re rf, .slice rg rh ri, .slice rj rk rl]) f F1 G1) := ⟨Vf.out.1.below hb, Vf.out.2.below hb⟩
        have Vx : Hid (VarA gx x x1 n3 c3 x2 n4 c4 Fx Gx w21) := Vx.out.below hb
        have RS : Hid (RdI w21 pS k R FS) := RS.out.below hb
        have HBL : Hid (Below w19.heap.size w19 w21) := Below.next HBL.out hb
        clear hb
        refine ⟨_, by simp [Act.put]; rfl, hK _ _ ⟨HBL.out, ?_⟩⟩
        clear hK
        refine takeH (o := ?o236) 24 (.bool false) ?h236 ?r236
        case h236 => simp only [aT, aS, aZ]; rfl
        refine ⟨_, by simp [Act.put]; rfl, by kernel_rfl, by kernel_rfl, by kernel_rfl, fun _ _ _ h => h, (.inl ⟨rfl, fun W _ => by kernel_rfl⟩), HBL.out, ?_⟩
        refine wpAnyH_done (by kernel_rfl) ?_ _
        clear HC HBL
        have hn6 := HN60.out
        have hwj : IntKind.i64.wrap ((j : Int) + 1) = ((j + 1 : Nat) : Int) := by rw [wrapD (by omega) (by omega)]; omega
        go_wp2
        go_roundw
        case rel => exact ⟨j + 1, by omega, by first | go_num | (simp [hwj]), ⟨BEL.out, Va.out, Rl.out, Vf.out, Vx.out, RS.out⟩⟩
        case measure => simp [intOf]; omega
      have hcd : decide ((j : Int) < (k : Int)) = false := dec_false (by omega)
      have cf0 := Vf.out.1.cell 0
      simp only [aT, aZ] at cf0
      rw [HFS.out.1] at cf0
      go_wp2_with (first | go_skip | (with_reducible refine stopLoad 27 rfl ?_) | (with_reducible refine stopStore 27 rfl ?_) | (with_reducible refine stopLoad 38 rfl ?_) | (with_reducible refine stopStore 38 rfl ?_))
      refine load_knownw8 38 gf #[.int .i64 f.kind, .int .i64 f.agent, .int .i64 f.epoch, .int .i64 f.granted, .slice ra rb rc, .int .i64 f.item.seq, .int .i64 f.item.cls, .int .i64 f.item.key, .int .i64 f.item.window, .int .i64 f.item.sk.count, .int .i64 f.item.sk.sum, .int .i64 f.item.sk.min, .int .i64 f.item.sk.max, .slice rd re rf, .slice rg rh ri, .slice rj rk rl] 38 _ Vf.out.1 rfl rfl rfl Try.underlying38 rfl infoFrL ?_
      go_wp2_with fail
      refine (frameOkImpl_any _ f F1 G1 _ Vf.out.2 HFW.out.1 (by have := HFW.out.2; omega)).mono ?_
      rintro e w22 ⟨rfl, bb⟩
      rw [HFS.out.2.2]
      have BEL : Hid (Below w.heap.size w w22) := Below.next BEL.out bb
      have Va : Hid (VarA ga a a1 n1 c1 a2 n2 c2 F G w22) := Va.out.below bb
      have Rl : Hid (RdI w22 pl k a.waits Fl) := Rl.out.below bb
      have Vf : Hid (Blk w22 gf #[.int .i64 f.kind, .int .i64 f.agent, .int .i64 f.epoch, .int .i64 f.granted, .slice ra rb rc, .int .i64 f.item.seq, .int .i64 f.item.cls, .int .i64 f.item.key, .int .i64 f.item.window, .int .i64 f.item.sk.count, .int .i64 f.item.sk.sum, .int .i64 f.item.sk.min, .int .i64 f.item.sk.max, .slice rd re rf, .slice rg rh ri, .slice rj rk rl] 38 ∧ RdFr w22 (.agg #[.int .i64 f.kind, .int .i64 f.agent, .int .i64 f.epoch, .int .i64 f.granted, .slice ra rb rc, .int .i64 f.item.seq, .int .i64 f.item.cls, .int .i64 f.item.key, .int .i64 f.item.window, .int .i64 f.item.sk.count, .int .i64 f.item.sk.sum, .int .i64 f.item.sk.min, .int .i64 f.item.sk.max, .slice rd re rf, .slice rg rh ri, .slice rj rk rl]) f F1 G1) := ⟨Vf.out.1.below bb, Vf.out.2.below bb⟩
      have Vx : Hid (VarA gx x x1 n3 c3 x2 n4 c4 Fx Gx w22) := Vx.out.below bb
      have RS : Hid (RdI w22 pS k R FS) := RS.out.below bb
      clear bb cf0 hcd
      go_wp2_with (first | go_skip | (with_reducible refine stopLoad 27 rfl ?_) | (with_reducible refine stopStore 27 rfl ?_) | (with_reducible refine stopLoad 38 rfl ?_) | (with_reducible refine stopStore 38 rfl ?_))
      refine load_knownw8 27 gx #[.int .i64 x.id, .int .i64 x.epoch, .bool x.live, .int .i64 x.granted, .slice x1 n3 c3, .slice x2 n4 c4, .int .i64 x.next] 27 _ Vx.out.blk rfl rfl rfl Try.underlying27 rfl infoAgL ?_
      go_wp2_with fail
      refine (agentOkImpl_any _ x Fx Gx _ Vx.out.rd HOKX.out.2.1 (by have := HOKX.out.2.2.1; omega) (by have := HOKX.out.2.2.2; omega)).mono ?_
      rintro e w23 ⟨rfl, bb⟩
      rw [HOKX.out.1]
      have BEL : Hid (Below w.heap.size w w23) := Below.next BEL.out bb
      have Va : Hid (VarA ga a a1 n1 c1 a2 n2 c2 F G w23) := Va.out.below bb
      have Rl : Hid (RdI w23 pl k a.waits Fl) := Rl.out.below bb
      have Vf : Hid (Blk w23 gf #[.int .i64 f.kind, .int .i64 f.agent, .int .i64 f.epoch, .int .i64 f.granted, .slice ra rb rc, .int .i64 f.item.seq, .int .i64 f.item.cls, .int .i64 f.item.key, .int .i64 f.item.window, .int .i64 f.item.sk.count, .int .i64 f.item.sk.sum, .int .i64 f.item.sk.min, .int .i64 f.item.sk.max, .slice rd re rf, .slice rg rh ri, .slice rj rk rl] 38 ∧ RdFr w23 (.agg #[.int .i64 f.kind, .int .i64 f.agent, .int .i64 f.epoch, .int .i64 f.granted, .slice ra rb rc, .int .i64 f.item.seq, .int .i64 f.item.cls, .int .i64 f.item.key, .int .i64 f.item.window, .int .i64 f.item.sk.count, .int .i64 f.item.sk.sum, .int .i64 f.item.sk.min, .int .i64 f.item.sk.max, .slice rd re rf, .slice rg rh ri, .slice rj rk rl]) f F1 G1) := ⟨Vf.out.1.below bb, Vf.out.2.below bb⟩
      have Vx : Hid (VarA gx x x1 n3 c3 x2 n4 c4 Fx Gx w23) := Vx.out.below bb
      have RS : Hid (RdI w23 pS k R FS) := RS.out.below bb
      go_wp2
      go_ret
      exact ⟨rfl, BEL.out⟩

set_option maxRecDepth 100000 in
theorem lifted (os : Os) (started : os.Started) (H : Type) (enc : TypeId × Value → H) :
    ReturnsInHanded {} Try.checked os 3 .any (Rows.fnSentSpec.pre6 enc Try.prog Try.f3 Rows.fnSentRow.domain false) (Rows.fnSentSpec.post enc Try.prog Try.f3 false true false false) := by
  refine returnsInHanded_of_change (C := Try.checked) own started (by kernel_rfl) Try.func3
    (ChangeSpec.witness6 (enc := enc) (C := Try.checked) false ⟨#[], #[.slice none 0 0], []⟩ 8 (by kernel_rfl) (by kernel_rfl) (by kernel_rfl) (by kernel_rfl)) ?_
  intro W base args ds gs before hval0 hW hcnd _
  have hval : ∀ (j : Nat) t v, Try.f3.params[j]? = some t → args[j]? = some v → Value.okWide Try.prog W .any base t v := hval0
  have hW' := hW
  obtain ⟨p, q, hA0, hV, rfl, hfz, hnd⟩ := hW
  have hA : DataW.TrodAll enc Try.prog W 0 (fun _ => true) true Try.f3.params.toList args.toList ds p := hA0
  rw [Try.params3] at hA hval
  obtain ⟨v0, vs0, d0, ds0, p0, q0, hargs, rfl, rfl, h0, r0⟩ := trodAll_cons hA
  obtain ⟨rfl, rfl, rfl⟩ := trodAll_nil r0
  obtain rfl : args = #[v0] := by cases args; simp_all
  obtain ⟨rfl, rfl⟩ := trodVars_none hV
  obtain ⟨a0, len0, cap0, rfl⟩ := okWide_slice Try.underlying22 (hval 0 22 v0 rfl rfl)
  have k0 := h0
  have lt0 : ∀ x ∈ p0, x.block < W.heap.size := by obtain ⟨m, hm⟩ := k0; exact DataW.trod_lt m _ _ _ hm
  obtain ⟨z0, w0⟩ : ∃ zs, IsRow .u8 W a0 len0 cap0 zs := by
    obtain ⟨fuel, hf⟩ := h0
    rcases open_ints Try.underlying22 Try.underlying5 (by kernel_rfl) hf with ⟨hcs, _⟩ | ⟨x, l, c, zs, hcs, _, hl, hm, hz, _, hcell, hwz⟩
    · simp [Value.cells] at hcs
      obtain ⟨rfl, rfl, rfl⟩ := hcs
      exact ⟨[], .inl ⟨rfl, rfl, rfl, rfl⟩⟩
    · simp [Value.cells] at hcs
      obtain ⟨rfl, rfl, rfl⟩ := hcs
      exact ⟨zs, .inr ⟨_, rfl, hl, hm, by simpa using hz, hcell, hwz⟩⟩
  clear hA0 hval0
  refine (walk a0 len0 cap0 z0 W w0).mono fun e W' ⟨he, bel⟩ => ?_
  subst he
  exact ⟨_, rfl, _, _, _, [], _, [], hW', trodAll_mk1 (shut_bool Try.underlying4 _), (trodAll_cons_mk (Below.trod laidOut (by kernel_rfl) (of_decide_eq_true (by kernel_rfl)) k0 bel lt0) trodAll_mk0), rfl, bel.frame _, fun h => by cases h⟩

theorem over : Rows.fnSentRow.holds Try.pinned (OpenSpec.ofChange Rows.fnSentSpec) :=
  OpenClaim.holds_of_wide 3 Try.f3 rfl rfl rfl rfl rfl rfl rfl ⟨rfl, rfl, rfl, rfl, rfl⟩ rfl rfl rfl rfl rfl (by kernel_rfl) Try.func3 (by kernel_rfl)
    (of_decide_eq_true (by kernel_rfl)) (by unfold Func.isWrapper; first | (rw [if_pos (by decide +kernel)]; kernel_rfl) | (rw [if_neg (by decide +kernel)]; exact ⟨rfl, rfl⟩))
    (fun os started H enc _ => lifted os started H enc)

theorem proved : Rows.FnSentSaid := over
#print axioms proved
end Go.Proofs.Ytgkbhhlkaifnoaa.fnSent
