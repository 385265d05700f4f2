/- Several texts of mine, laid together. No statement of the seat is proved here. -/
import Derived.Test.YtgkbhhlkaifnoaaGreatDoorB2
import Derived.Test.YtgkbhhlkaifnoaaGreatDoorB1
import Derived.Test.YtgkbhhlkaifnoaaGreatDoorStop
import Derived.Test.YtgkbhhlkaifnoaaGreatDoorTallyB
import Derived.Test.YtgkbhhlkaifnoaaGreatDoorTallyC
import Derived.Test.YtgkbhhlkaifnoaaGreatDoorTallyMath
import Derived.Test.YtgkbhhlkaifnoaaGreatDoorTallyS
import Derived.Test.YtgkbhhlkaifnoaaGreatDoorSkLaw
import Derived.Test.YtgkbhhlkaifnoaaGreatDoorBase
import Derived.Test.YtgkbhhlkaifnoaaGreatDoorItModel
import Derived.Test.YtgkbhhlkaifnoaaGreatDoorSkSum
import Derived.Test.YtgkbhhlkaifnoaaGreatDoorSkCopy
import Derived.Test.YtgkbhhlkaifnoaaGreatDoorSkRoom
import Derived.Deep.AppendLies
import Derived.Maps.AppendAt
import Derived.BigRegion
import Derived.Deep.RegionHeld3
import Derived.Laws.StructEq
/- The walk through the model's AgentHear. No statement of the seat is proved here. -/
namespace Go.Proofs.YtgkbhhlkaifnoaaGreatDoor
open Go.RowKit
def Ag.hears (x : Ag) (f : Fr) : Bool := x.ok && f.ok && decide (2 ≤ f.kind) && decide (f.agent = x.id) && (f.taken.ok && f.taken.under x.sealed.length)
/-- What an agent is behind a frame, and what it tells. -/
def Ag.hear (x : Ag) (f : Fr) : Ag × Int :=
  if x.hears f = false then (x, 1)
  else if f.epoch < x.epoch then (x, 2)
  else if f.kind = 2 ∧ f.epoch = x.epoch then (⟨x.id, x.epoch, true, max x.granted f.granted, x.sealed, joinTo x.taken f.taken f.taken.length, x.next⟩, 0)
  else (⟨x.id, f.epoch, decide (f.kind = 2), if f.kind = 2 then f.granted else 0, x.sealed, joinTo x.taken f.taken f.taken.length, x.next⟩, 0)
def NewAg2 (w : World) (z : Ag × Int) (e : Ending) (w' : World) : Prop := ∃ v F G c, e = .returned (.tuple #[v, .int .i64 c]) ∧ RdAg w' v z.1 F G ∧ c = z.2 ∧ Own w.heap.size w' F ∧ Own w.heap.size w' G ∧ (∀ b ∈ F, b ∉ G) ∧ Below w.heap.size w w'
section
variable {P : Program} {ops : Array Oper} {Q : Exit → Act → World → Prop} {a : Act} {w : World} {o : Oper} {rest : List Oper} {x y : Operand}
theorem load_knownw8 (ty : TypeId) (g : Nat) (cells : Array Value) (t : TypeId) (d : TypeDesc) (hg : Blk w g cells t) (hw : Region.wanted o (yielded ops a.tmps) = true) (ho : o.op = .load ty x) (hx : a.eval x = .pointer (some ⟨g, 0, none⟩))
    (hu : P.underlying ty = some d) (hd : (match d with | .struct _ | .array _ _ => true | _ => false) = true) (hi : (P.info? ty).map (·.size) = some cells.size)
    (h : wpList P ops Q rest (a.put o.dst (.agg cells)) w) : Stop (wpList P ops Q (o :: rest) a w) := by
  refine wpList_step fun K hK => ?_
  rw [if_pos hw]
  unfold Oper.wp execOp
  simp only [ho, hx, Instr.loadAt, Instr.sureAddr, Sem.run_bind, Sem.run_pure, Result.andThen_ok, run_loadVar_row w g t ty cells (0, 0) d hg hu hd hi]
  exact hK _ _ h
end
theorem infoAgH : (Tryz.prog.info? 27).map (·.size) = some 7 := by kernel_rfl
theorem infoFrH : (Tryz.prog.info? 35).map (·.size) = some 16 := by kernel_rfl
structure HearW (w : World) (A B : Array Value) (L : Nat) (C : Array Value) (W : World) : Prop where
  box : Blk W w.heap.size A 27
  fr : Blk W (w.heap.size + 1) B 35
  res : Blk W (w.heap.size + 1 + 1) #[.int .i64 0, .int .i64 0, .bool false, .int .i64 0, .slice none 0 0, .slice none 0 0, .int .i64 0] 27
  loc : Blk W L C 27
  bel : Below w.heap.size w W
  ord : w.heap.size + 1 + 1 < L
theorem HearW.below {w W W' : World} {A B C : Array Value} {L : Nat} (h : HearW w A B L C W) (b : Below W.heap.size W W') : HearW w A B L C W' := ⟨h.box.below b, h.fr.below b, h.res.below b, h.loc.below b, Below.next h.bel b, h.ord⟩
theorem HearW.set {w W : World} {A B C : Array Value} {L : Nat} (h : HearW w A B L C W) (j : Nat) (v : Value) : HearW w A B L (C.setIfInBounds j v) (W.setCell ⟨L, j, none⟩ v) := by
  have o := h.ord
  have b : Below w.heap.size w (W.setCell ⟨L, j, none⟩ v) := h.bel.setCell (by show w.heap.size ≤ L; omega) v
  exact ⟨h.box.setOther (by omega) j v, h.fr.setOther (by omega) j v, h.res.setOther (by omega) j v, h.loc.set j v, b, o⟩
set_option maxRecDepth 200000 in
set_option maxHeartbeats 8000000 in
theorem agentHear_any (v u : Value) (x : Ag) (f : Fr) (F G F' G' : List Nat) (w : World) (h : RdAg w v x F G) (k : RdFr w u f F' G') (hf : ∀ y ∈ x.sealed, y.sk.fits) (hs : x.sealed.length ≤ 1048576) (hl : x.taken.length ≤ 1048576) (kw : f.item.sk.wide) (kl : f.taken.length ≤ 1048576) :
    Calls Tryz.prog 8 #[v, u] w fun e w' => NewAg2 w (x.hear f) e w' := by
  obtain ⟨a1, n1, c1, a2, n2, c2, rfl, hL, hP, hc1, hc2⟩ := h
  obtain ⟨bt, lt, ct, b1, m1, e1, b2, m2, e2, b3, m3, e3, rfl, kP, kI, kc⟩ := k
  have HX : Hid (RdAg w (.agg #[.int .i64 x.id, .int .i64 x.epoch, .bool x.live, .int .i64 x.granted, .slice a1 n1 c1, .slice a2 n2 c2, .int .i64 x.next]) x F G ∧ (∀ y ∈ x.sealed, y.sk.fits) ∧ x.sealed.length ≤ 1048576 ∧ x.taken.length ≤ 1048576 ∧ x.sealed.length = n1 ∧ RdP w a2 n2 x.taken G ∧ (a2 = none → c2 = 0)) := ⟨⟨a1, n1, c1, a2, n2, c2, rfl, hL, hP, hc1, hc2⟩, hf, hs, hl, hL.length, hP, hc2.1⟩
  have HF : Hid (RdFr w (.agg #[.int .i64 f.kind, .int .i64 f.agent, .int .i64 f.epoch, .int .i64 f.granted, .slice bt lt ct, .int .i64 f.item.seq, .int .i64 f.item.cls, .int .i64 f.item.key, .int .i64 f.item.window, .int .i64 f.item.sk.count, .int .i64 f.item.sk.sum, .int .i64 f.item.sk.min, .int .i64 f.item.sk.max, .slice b1 m1 e1, .slice b2 m2 e2, .slice b3 m3 e3]) f F' G' ∧ f.item.sk.wide ∧ f.taken.length ≤ 1048576 ∧ RdP w bt lt f.taken F') := ⟨⟨bt, lt, ct, b1, m1, e1, b2, m2, e2, b3, m3, e3, rfl, kP, kI, kc⟩, kw, kl, kP⟩
  have hn1 : n1 ≤ 1048576 := by rw [← hL.length]; exact hs
  have hn2 : n2 ≤ 1048576 := by rw [← hP.length]; exact hl
  have hlt : lt ≤ 1048576 := by rw [← kP.length]; exact kl
  clear hL hP hc1 hc2 kP kI kc hf hs hl kw kl
  have HB0 : Hid (Blk (((w.alloc (.cells #[.int .i64 x.id, .int .i64 x.epoch, .bool x.live, .int .i64 x.granted, .slice a1 n1 c1, .slice a2 n2 c2, .int .i64 x.next] 27)).alloc (.cells #[.int .i64 f.kind, .int .i64 f.agent, .int .i64 f.epoch, .int .i64 f.granted, .slice bt lt ct, .int .i64 f.item.seq, .int .i64 f.item.cls, .int .i64 f.item.key, .int .i64 f.item.window, .int .i64 f.item.sk.count, .int .i64 f.item.sk.sum, .int .i64 f.item.sk.min, .int .i64 f.item.sk.max, .slice b1 m1 e1, .slice b2 m2 e2, .slice b3 m3 e3] 35)).alloc (.cells #[.int .i64 0, .int .i64 0, .bool false, .int .i64 0, .slice none 0 0, .slice none 0 0, .int .i64 0] 27)) w.heap.size #[.int .i64 x.id, .int .i64 x.epoch, .bool x.live, .int .i64 x.granted, .slice a1 n1 c1, .slice a2 n2 c2, .int .i64 x.next] 27 ∧ Blk (((w.alloc (.cells #[.int .i64 x.id, .int .i64 x.epoch, .bool x.live, .int .i64 x.granted, .slice a1 n1 c1, .slice a2 n2 c2, .int .i64 x.next] 27)).alloc (.cells #[.int .i64 f.kind, .int .i64 f.agent, .int .i64 f.epoch, .int .i64 f.granted, .slice bt lt ct, .int .i64 f.item.seq, .int .i64 f.item.cls, .int .i64 f.item.key, .int .i64 f.item.window, .int .i64 f.item.sk.count, .int .i64 f.item.sk.sum, .int .i64 f.item.sk.min, .int .i64 f.item.sk.max, .slice b1 m1 e1, .slice b2 m2 e2, .slice b3 m3 e3] 35)).alloc (.cells #[.int .i64 0, .int .i64 0, .bool false, .int .i64 0, .slice none 0 0, .slice none 0 0, .int .i64 0] 27)) (w.heap.size + 1) #[.int .i64 f.kind, .int .i64 f.agent, .int .i64 f.epoch, .int .i64 f.granted, .slice bt lt ct, .int .i64 f.item.seq, .int .i64 f.item.cls, .int .i64 f.item.key, .int .i64 f.item.window, .int .i64 f.item.sk.count, .int .i64 f.item.sk.sum, .int .i64 f.item.sk.min, .int .i64 f.item.sk.max, .slice b1 m1 e1, .slice b2 m2 e2, .slice b3 m3 e3] 35 ∧ Blk (((w.alloc (.cells #[.int .i64 x.id, .int .i64 x.epoch, .bool x.live, .int .i64 x.granted, .slice a1 n1 c1, .slice a2 n2 c2, .int .i64 x.next] 27)).alloc (.cells #[.int .i64 f.kind, .int .i64 f.agent, .int .i64 f.epoch, .int .i64 f.granted, .slice bt lt ct, .int .i64 f.item.seq, .int .i64 f.item.cls, .int .i64 f.item.key, .int .i64 f.item.window, .int .i64 f.item.sk.count, .int .i64 f.item.sk.sum, .int .i64 f.item.sk.min, .int .i64 f.item.sk.max, .slice b1 m1 e1, .slice b2 m2 e2, .slice b3 m3 e3] 35)).alloc (.cells #[.int .i64 0, .int .i64 0, .bool false, .int .i64 0, .slice none 0 0, .slice none 0 0, .int .i64 0] 27)) (w.heap.size + 1 + 1) #[.int .i64 0, .int .i64 0, .bool false, .int .i64 0, .slice none 0 0, .slice none 0 0, .int .i64 0] 27 ∧ Below w.heap.size w (((w.alloc (.cells #[.int .i64 x.id, .int .i64 x.epoch, .bool x.live, .int .i64 x.granted, .slice a1 n1 c1, .slice a2 n2 c2, .int .i64 x.next] 27)).alloc (.cells #[.int .i64 f.kind, .int .i64 f.agent, .int .i64 f.epoch, .int .i64 f.granted, .slice bt lt ct, .int .i64 f.item.seq, .int .i64 f.item.cls, .int .i64 f.item.key, .int .i64 f.item.window, .int .i64 f.item.sk.count, .int .i64 f.item.sk.sum, .int .i64 f.item.sk.min, .int .i64 f.item.sk.max, .slice b1 m1 e1, .slice b2 m2 e2, .slice b3 m3 e3] 35)).alloc (.cells #[.int .i64 0, .int .i64 0, .bool false, .int .i64 0, .slice none 0 0, .slice none 0 0, .int .i64 0] 27))) := by
    refine ⟨((Blk.made _ _ _).alloc _).alloc _, (Blk.made_eq (by simp)).alloc _, Blk.made_eq (by simp), Below.allocW _ (Below.allocW _ (Below.allocW _ (Below.refl _ _) (Nat.le_refl _)) (Nat.le_refl _)) (Nat.le_refl _)⟩
  go_enter Tryz.func8, Tryz.ntmps8
  go_wp2_with (first | go_skip | (with_reducible refine stopLoad 27 rfl ?_))
  obtain ⟨W0, hW0⟩ : ∃ W, W = ((w.alloc (.cells #[.int .i64 x.id, .int .i64 x.epoch, .bool x.live, .int .i64 x.granted, .slice a1 n1 c1, .slice a2 n2 c2, .int .i64 x.next] 27)).alloc (.cells #[.int .i64 f.kind, .int .i64 f.agent, .int .i64 f.epoch, .int .i64 f.granted, .slice bt lt ct, .int .i64 f.item.seq, .int .i64 f.item.cls, .int .i64 f.item.key, .int .i64 f.item.window, .int .i64 f.item.sk.count, .int .i64 f.item.sk.sum, .int .i64 f.item.sk.min, .int .i64 f.item.sk.max, .slice b1 m1 e1, .slice b2 m2 e2, .slice b3 m3 e3] 35)).alloc (.cells #[.int .i64 0, .int .i64 0, .bool false, .int .i64 0, .slice none 0 0, .slice none 0 0, .int .i64 0] 27) := ⟨_, rfl⟩
  rw [← hW0] at HB0 ⊢
  clear hW0
  refine load_known 27 w.heap.size _ 27 _ HB0.out.1 rfl rfl rfl Tryz.underlying27 rfl infoAgH ?_
  go_wp2_with fail
  refine (l8Copy_any _ x F G _ (HX.out.1.below HB0.out.2.2.2) HX.out.2.1 HX.out.2.2.1 HX.out.2.2.2.1).mono ?_
  rintro e w1 ⟨v1, F1, G1, rfl, r1, oF, oG, ap, hb1⟩
  obtain ⟨q1, l1, k1, q2, l2, k2, rfl, rL, rP, hk1, hk2⟩ := r1
  have l0 : w.heap.size + 1 + 1 < W0.heap.size := HB0.out.2.2.1.lt
  have H1 : Hid (Blk w1 w.heap.size #[.int .i64 x.id, .int .i64 x.epoch, .bool x.live, .int .i64 x.granted, .slice a1 n1 c1, .slice a2 n2 c2, .int .i64 x.next] 27 ∧ Blk w1 (w.heap.size + 1) #[.int .i64 f.kind, .int .i64 f.agent, .int .i64 f.epoch, .int .i64 f.granted, .slice bt lt ct, .int .i64 f.item.seq, .int .i64 f.item.cls, .int .i64 f.item.key, .int .i64 f.item.window, .int .i64 f.item.sk.count, .int .i64 f.item.sk.sum, .int .i64 f.item.sk.min, .int .i64 f.item.sk.max, .slice b1 m1 e1, .slice b2 m2 e2, .slice b3 m3 e3] 35 ∧ Blk w1 (w.heap.size + 1 + 1) #[.int .i64 0, .int .i64 0, .bool false, .int .i64 0, .slice none 0 0, .slice none 0 0, .int .i64 0] 27 ∧ Below w.heap.size w w1 ∧ RdL itK w1 q1 l1 x.sealed F1 ∧ Own (w.heap.size + 3) w1 F1 ∧ RdP w1 q2 l2 x.taken G1 ∧ Own (w.heap.size + 3) w1 G1 ∧ (∀ b ∈ F1, b ∉ G1)) := ⟨HB0.out.1.below hb1, HB0.out.2.1.below hb1, HB0.out.2.2.1.below hb1, Below.next HB0.out.2.2.2 hb1, rL, oF.mono (by omega), rP, oG.mono (by omega), ap⟩
  have HCP : Hid (Capd q1 l1 k1 ∧ Capd q2 l2 k2) := ⟨hk1, hk2⟩
  clear rL rP hk1 hk2 oF oG ap hb1 HB0
  go_wp2_with (first | go_skip | (with_reducible refine stopStore 27 rfl ?_))
  refine store_fresh 27 w1.heap.size rfl #[.int .i64 0, .int .i64 0, .bool false, .int .i64 0, .slice none 0 0, .slice none 0 0, .int .i64 0] #[.int .i64 x.id, .int .i64 x.epoch, .bool x.live, .int .i64 x.granted, .slice q1 l1 k1, .slice q2 l2 k2, .int .i64 x.next] 27 rfl rfl rfl rfl infoAgH rfl (by simp [Value.oneCell']) ?_
  intro w2 hg2 hb2
  obtain ⟨L, hL⟩ : ∃ L, L = w1.heap.size := ⟨_, rfl⟩
  have H2 : Hid (HearW w #[.int .i64 x.id, .int .i64 x.epoch, .bool x.live, .int .i64 x.granted, .slice a1 n1 c1, .slice a2 n2 c2, .int .i64 x.next] #[.int .i64 f.kind, .int .i64 f.agent, .int .i64 f.epoch, .int .i64 f.granted, .slice bt lt ct, .int .i64 f.item.seq, .int .i64 f.item.cls, .int .i64 f.item.key, .int .i64 f.item.window, .int .i64 f.item.sk.count, .int .i64 f.item.sk.sum, .int .i64 f.item.sk.min, .int .i64 f.item.sk.max, .slice b1 m1 e1, .slice b2 m2 e2, .slice b3 m3 e3] L #[.int .i64 x.id, .int .i64 x.epoch, .bool x.live, .int .i64 x.granted, .slice q1 l1 k1, .slice q2 l2 k2, .int .i64 x.next] w2 ∧ RdL itK w2 q1 l1 x.sealed F1 ∧ Own (w.heap.size + 3) w2 F1 ∧ RdP w2 q2 l2 x.taken G1 ∧ Own (w.heap.size + 3) w2 G1 ∧ (∀ b ∈ F1, b ∉ G1) ∧ (∀ b ∈ F1, b < L) ∧ (∀ b ∈ G1, b < L)) := ⟨⟨H1.out.1.below hb2, H1.out.2.1.below hb2, H1.out.2.2.1.below hb2, by rw [hL]; exact hg2, Below.next H1.out.2.2.2.1 hb2, by rw [hL]; exact H1.out.2.2.1.lt⟩, H1.out.2.2.2.2.1.below hb2, H1.out.2.2.2.2.2.1.below H1.out.2.2.2.2.1.lt hb2, H1.out.2.2.2.2.2.2.1.below hb2, H1.out.2.2.2.2.2.2.2.1.below H1.out.2.2.2.2.2.2.1.lt hb2, H1.out.2.2.2.2.2.2.2.2, fun b hb => by rw [hL]; exact H1.out.2.2.2.2.1.lt b hb, fun b hb => by rw [hL]; exact H1.out.2.2.2.2.2.2.1.lt b hb⟩
  rw [← hL]
  clear hg2 hb2 H1 hL
  go_wp2_with (first | go_skip | (with_reducible refine stopLoad 27 rfl ?_))
  refine load_known 27 w.heap.size _ 27 _ H2.out.1.box rfl rfl rfl Tryz.underlying27 rfl infoAgH ?_
  go_wp2_with fail
  refine (agentOkSpec_any _ x F G _ (HX.out.1.below H2.out.1.bel) (fun y hy => (HX.out.2.1 y hy).wide) (by have := HX.out.2.2.1; omega) (by have := HX.out.2.2.2.1; omega)).mono ?_
  rintro e w3 ⟨rfl, hb3⟩
  have H3 : Hid (HearW w #[.int .i64 x.id, .int .i64 x.epoch, .bool x.live, .int .i64 x.granted, .slice a1 n1 c1, .slice a2 n2 c2, .int .i64 x.next] #[.int .i64 f.kind, .int .i64 f.agent, .int .i64 f.epoch, .int .i64 f.granted, .slice bt lt ct, .int .i64 f.item.seq, .int .i64 f.item.cls, .int .i64 f.item.key, .int .i64 f.item.window, .int .i64 f.item.sk.count, .int .i64 f.item.sk.sum, .int .i64 f.item.sk.min, .int .i64 f.item.sk.max, .slice b1 m1 e1, .slice b2 m2 e2, .slice b3 m3 e3] L #[.int .i64 x.id, .int .i64 x.epoch, .bool x.live, .int .i64 x.granted, .slice q1 l1 k1, .slice q2 l2 k2, .int .i64 x.next] w3 ∧ RdL itK w3 q1 l1 x.sealed F1 ∧ Own (w.heap.size + 3) w3 F1 ∧ RdP w3 q2 l2 x.taken G1 ∧ Own (w.heap.size + 3) w3 G1 ∧ (∀ b ∈ F1, b ∉ G1) ∧ (∀ b ∈ F1, b < L) ∧ (∀ b ∈ G1, b < L)) := ⟨H2.out.1.below hb3, H2.out.2.1.below hb3, H2.out.2.2.1.below H2.out.2.1.lt hb3, H2.out.2.2.2.1.below hb3, H2.out.2.2.2.2.1.below H2.out.2.2.2.1.lt hb3, H2.out.2.2.2.2.2.1, H2.out.2.2.2.2.2.2⟩
  obtain ⟨d1, hd1⟩ : ∃ d, d = x.ok := ⟨_, rfl⟩
  rw [← hd1]
  have HD1 : Hid (d1 = x.ok) := hd1
  clear hb3 hd1 H2
  cases d1
  · have HV : Hid (x.hear f = (x, 1)) := by show _ = _; unfold Ag.hear; rw [if_pos (by unfold Ag.hears; rw [← HD1.out]; rfl)]
    have HE : Hid (HearW w #[.int .i64 x.id, .int .i64 x.epoch, .bool x.live, .int .i64 x.granted, .slice a1 n1 c1, .slice a2 n2 c2, .int .i64 x.next] #[.int .i64 f.kind, .int .i64 f.agent, .int .i64 f.epoch, .int .i64 f.granted, .slice bt lt ct, .int .i64 f.item.seq, .int .i64 f.item.cls, .int .i64 f.item.key, .int .i64 f.item.window, .int .i64 f.item.sk.count, .int .i64 f.item.sk.sum, .int .i64 f.item.sk.min, .int .i64 f.item.sk.max, .slice b1 m1 e1, .slice b2 m2 e2, .slice b3 m3 e3] L #[.int .i64 x.id, .int .i64 x.epoch, .bool x.live, .int .i64 x.granted, .slice q1 l1 k1, .slice q2 l2 k2, .int .i64 x.next] w3 ∧ RdL itK w3 q1 l1 x.sealed F1 ∧ Own (w.heap.size + 3) w3 F1 ∧ RdP w3 q2 l2 x.taken G1 ∧ Own (w.heap.size + 3) w3 G1 ∧ (∀ b ∈ F1, b ∉ G1) ∧ Capd q1 l1 k1 ∧ Capd q2 l2 k2) := ⟨H3.out.1, H3.out.2.1, H3.out.2.2.1, H3.out.2.2.2.1, H3.out.2.2.2.2.1, H3.out.2.2.2.2.2.1, HCP.out.1, HCP.out.2⟩
    go_wp2_with (first | go_skip | (with_reducible refine stopLoad 27 rfl ?_))
    refine load_known 27 L _ 27 _ HE.out.1.loc rfl rfl rfl Tryz.underlying27 rfl infoAgH ?_
    go_wp2_with (first | go_skip | (with_reducible refine stopStore 27 rfl ?_))
    refine store_known 27 (w.heap.size + 1 + 1) _ #[.int .i64 x.id, .int .i64 x.epoch, .bool x.live, .int .i64 x.granted, .slice q1 l1 k1, .slice q2 l2 k2, .int .i64 x.next] 27 HE.out.1.res rfl rfl rfl rfl infoAgH rfl (by simp [Value.oneCell']) ?_
    go_wp2
    refine bodyPost_ret (results_row_tmp Tryz.results8 _ _ (w.heap.size + 1 + 1) _ _ _ _ rfl HE.out.1.res.setRow Tryz.underlying27 rfl infoAgH) rfl ?_
    have nr : w.heap.size + 1 + 1 ∉ F1 := fun hx => by have := HE.out.2.2.1.ge _ hx; omega
    have mr : w.heap.size + 1 + 1 ∉ G1 := fun hx => by have := HE.out.2.2.2.2.1.ge _ hx; omega
    exact ⟨_, F1, G1, 1, rfl, by rw [HV.out]; exact ⟨q1, l1, k1, q2, l2, k2, rfl, HE.out.2.1.agree (Agree.row nr _), HE.out.2.2.2.1.agree (Agree.row mr _), HE.out.2.2.2.2.2.2.1, HE.out.2.2.2.2.2.2.2⟩, by rw [HV.out], (HE.out.2.2.1.agree (Agree.row nr _)).mono (by omega), (HE.out.2.2.2.2.1.agree (Agree.row mr _)).mono (by omega), HE.out.2.2.2.2.2.1, below_setRow HE.out.1.bel (by omega) _⟩
  go_wp2_with (first | go_skip | (with_reducible refine stopLoad 35 rfl ?_))
  refine load_knownw8 35 (w.heap.size + 1) _ 35 _ H3.out.1.fr rfl rfl rfl Tryz.underlying35 rfl infoFrH ?_
  go_wp2_with fail
  refine (frameOkSpec_any _ f F' G' _ (HF.out.1.below H3.out.1.bel) HF.out.2.1 (by have := HF.out.2.2.1; omega)).mono ?_
  rintro e w4 ⟨rfl, hb4⟩
  have H4 : Hid (HearW w #[.int .i64 x.id, .int .i64 x.epoch, .bool x.live, .int .i64 x.granted, .slice a1 n1 c1, .slice a2 n2 c2, .int .i64 x.next] #[.int .i64 f.kind, .int .i64 f.agent, .int .i64 f.epoch, .int .i64 f.granted, .slice bt lt ct, .int .i64 f.item.seq, .int .i64 f.item.cls, .int .i64 f.item.key, .int .i64 f.item.window, .int .i64 f.item.sk.count, .int .i64 f.item.sk.sum, .int .i64 f.item.sk.min, .int .i64 f.item.sk.max, .slice b1 m1 e1, .slice b2 m2 e2, .slice b3 m3 e3] L #[.int .i64 x.id, .int .i64 x.epoch, .bool x.live, .int .i64 x.granted, .slice q1 l1 k1, .slice q2 l2 k2, .int .i64 x.next] w4 ∧ RdL itK w4 q1 l1 x.sealed F1 ∧ Own (w.heap.size + 3) w4 F1 ∧ RdP w4 q2 l2 x.taken G1 ∧ Own (w.heap.size + 3) w4 G1 ∧ (∀ b ∈ F1, b ∉ G1) ∧ (∀ b ∈ F1, b < L) ∧ (∀ b ∈ G1, b < L)) := ⟨H3.out.1.below hb4, H3.out.2.1.below hb4, H3.out.2.2.1.below H3.out.2.1.lt hb4, H3.out.2.2.2.1.below hb4, H3.out.2.2.2.2.1.below H3.out.2.2.2.1.lt hb4, H3.out.2.2.2.2.2.1, H3.out.2.2.2.2.2.2⟩
  obtain ⟨d2, hd2⟩ : ∃ d, d = f.ok := ⟨_, rfl⟩
  rw [← hd2]
  have HD2 : Hid (d2 = f.ok) := hd2
  clear hb4 hd2 H3
  cases d2
  · have HV : Hid (x.hear f = (x, 1)) := by show _ = _; unfold Ag.hear; rw [if_pos (by unfold Ag.hears; rw [← HD1.out, ← HD2.out]; rfl)]
    have HE : Hid (HearW w #[.int .i64 x.id, .int .i64 x.epoch, .bool x.live, .int .i64 x.granted, .slice a1 n1 c1, .slice a2 n2 c2, .int .i64 x.next] #[.int .i64 f.kind, .int .i64 f.agent, .int .i64 f.epoch, .int .i64 f.granted, .slice bt lt ct, .int .i64 f.item.seq, .int .i64 f.item.cls, .int .i64 f.item.key, .int .i64 f.item.window, .int .i64 f.item.sk.count, .int .i64 f.item.sk.sum, .int .i64 f.item.sk.min, .int .i64 f.item.sk.max, .slice b1 m1 e1, .slice b2 m2 e2, .slice b3 m3 e3] L #[.int .i64 x.id, .int .i64 x.epoch, .bool x.live, .int .i64 x.granted, .slice q1 l1 k1, .slice q2 l2 k2, .int .i64 x.next] w4 ∧ RdL itK w4 q1 l1 x.sealed F1 ∧ Own (w.heap.size + 3) w4 F1 ∧ RdP w4 q2 l2 x.taken G1 ∧ Own (w.heap.size + 3) w4 G1 ∧ (∀ b ∈ F1, b ∉ G1) ∧ Capd q1 l1 k1 ∧ Capd q2 l2 k2) := ⟨H4.out.1, H4.out.2.1, H4.out.2.2.1, H4.out.2.2.2.1, H4.out.2.2.2.2.1, H4.out.2.2.2.2.2.1, HCP.out.1, HCP.out.2⟩
    go_wp2_with (first | go_skip | (with_reducible refine stopLoad 27 rfl ?_))
    refine load_known 27 L _ 27 _ HE.out.1.loc rfl rfl rfl Tryz.underlying27 rfl infoAgH ?_
    go_wp2_with (first | go_skip | (with_reducible refine stopStore 27 rfl ?_))
    refine store_known 27 (w.heap.size + 1 + 1) _ #[.int .i64 x.id, .int .i64 x.epoch, .bool x.live, .int .i64 x.granted, .slice q1 l1 k1, .slice q2 l2 k2, .int .i64 x.next] 27 HE.out.1.res rfl rfl rfl rfl infoAgH rfl (by simp [Value.oneCell']) ?_
    go_wp2
    refine bodyPost_ret (results_row_tmp Tryz.results8 _ _ (w.heap.size + 1 + 1) _ _ _ _ rfl HE.out.1.res.setRow Tryz.underlying27 rfl infoAgH) rfl ?_
    have nr : w.heap.size + 1 + 1 ∉ F1 := fun hx => by have := HE.out.2.2.1.ge _ hx; omega
    have mr : w.heap.size + 1 + 1 ∉ G1 := fun hx => by have := HE.out.2.2.2.2.1.ge _ hx; omega
    exact ⟨_, F1, G1, 1, rfl, by rw [HV.out]; exact ⟨q1, l1, k1, q2, l2, k2, rfl, HE.out.2.1.agree (Agree.row nr _), HE.out.2.2.2.1.agree (Agree.row mr _), HE.out.2.2.2.2.2.2.1, HE.out.2.2.2.2.2.2.2⟩, by rw [HV.out], (HE.out.2.2.1.agree (Agree.row nr _)).mono (by omega), (HE.out.2.2.2.2.1.agree (Agree.row mr _)).mono (by omega), HE.out.2.2.2.2.2.1, below_setRow HE.out.1.bel (by omega) _⟩
  have g0 := H4.out.1.fr.cell 0
  have g1 := H4.out.1.fr.cell 1
  have g4 := H4.out.1.fr.cell 4
  have h0 := H4.out.1.box.cell 0
  have h4 := H4.out.1.box.cell 4
  simp only [aT, aS, aZ] at g0 g1 g4 h0 h4
  by_cases hk : f.kind < 2
  · have hkd : decide (f.kind < 2) = true := dec_true hk
    have HV : Hid (x.hear f = (x, 1)) := by show _ = _; unfold Ag.hear; rw [if_pos (by unfold Ag.hears; rw [decide_eq_false (by omega : ¬ 2 ≤ f.kind)]; simp)]
    have HE : Hid (HearW w #[.int .i64 x.id, .int .i64 x.epoch, .bool x.live, .int .i64 x.granted, .slice a1 n1 c1, .slice a2 n2 c2, .int .i64 x.next] #[.int .i64 f.kind, .int .i64 f.agent, .int .i64 f.epoch, .int .i64 f.granted, .slice bt lt ct, .int .i64 f.item.seq, .int .i64 f.item.cls, .int .i64 f.item.key, .int .i64 f.item.window, .int .i64 f.item.sk.count, .int .i64 f.item.sk.sum, .int .i64 f.item.sk.min, .int .i64 f.item.sk.max, .slice b1 m1 e1, .slice b2 m2 e2, .slice b3 m3 e3] L #[.int .i64 x.id, .int .i64 x.epoch, .bool x.live, .int .i64 x.granted, .slice q1 l1 k1, .slice q2 l2 k2, .int .i64 x.next] w4 ∧ RdL itK w4 q1 l1 x.sealed F1 ∧ Own (w.heap.size + 3) w4 F1 ∧ RdP w4 q2 l2 x.taken G1 ∧ Own (w.heap.size + 3) w4 G1 ∧ (∀ b ∈ F1, b ∉ G1) ∧ Capd q1 l1 k1 ∧ Capd q2 l2 k2) := ⟨H4.out.1, H4.out.2.1, H4.out.2.2.1, H4.out.2.2.2.1, H4.out.2.2.2.2.1, H4.out.2.2.2.2.2.1, HCP.out.1, HCP.out.2⟩
    go_wp2_with (first | go_skip | (with_reducible refine stopLoad 27 rfl ?_))
    refine load_known 27 L _ 27 _ HE.out.1.loc rfl rfl rfl Tryz.underlying27 rfl infoAgH ?_
    go_wp2_with (first | go_skip | (with_reducible refine stopStore 27 rfl ?_))
    refine store_known 27 (w.heap.size + 1 + 1) _ #[.int .i64 x.id, .int .i64 x.epoch, .bool x.live, .int .i64 x.granted, .slice q1 l1 k1, .slice q2 l2 k2, .int .i64 x.next] 27 HE.out.1.res rfl rfl rfl rfl infoAgH rfl (by simp [Value.oneCell']) ?_
    go_wp2
    refine bodyPost_ret (results_row_tmp Tryz.results8 _ _ (w.heap.size + 1 + 1) _ _ _ _ rfl HE.out.1.res.setRow Tryz.underlying27 rfl infoAgH) rfl ?_
    have nr : w.heap.size + 1 + 1 ∉ F1 := fun hx => by have := HE.out.2.2.1.ge _ hx; omega
    have mr : w.heap.size + 1 + 1 ∉ G1 := fun hx => by have := HE.out.2.2.2.2.1.ge _ hx; omega
    exact ⟨_, F1, G1, 1, rfl, by rw [HV.out]; exact ⟨q1, l1, k1, q2, l2, k2, rfl, HE.out.2.1.agree (Agree.row nr _), HE.out.2.2.2.1.agree (Agree.row mr _), HE.out.2.2.2.2.2.2.1, HE.out.2.2.2.2.2.2.2⟩, by rw [HV.out], (HE.out.2.2.1.agree (Agree.row nr _)).mono (by omega), (HE.out.2.2.2.2.1.agree (Agree.row mr _)).mono (by omega), HE.out.2.2.2.2.2.1, below_setRow HE.out.1.bel (by omega) _⟩
  have hkd : decide (f.kind < 2) = false := dec_false hk
  by_cases ha : f.agent = x.id
  rotate_left
  · have hab : (f.agent != x.id) = true := by simpa using ha
    have HV : Hid (x.hear f = (x, 1)) := by show _ = _; unfold Ag.hear; rw [if_pos (by unfold Ag.hears; rw [decide_eq_false ha]; simp)]
    have HE : Hid (HearW w #[.int .i64 x.id, .int .i64 x.epoch, .bool x.live, .int .i64 x.granted, .slice a1 n1 c1, .slice a2 n2 c2, .int .i64 x.next] #[.int .i64 f.kind, .int .i64 f.agent, .int .i64 f.epoch, .int .i64 f.granted, .slice bt lt ct, .int .i64 f.item.seq, .int .i64 f.item.cls, .int .i64 f.item.key, .int .i64 f.item.window, .int .i64 f.item.sk.count, .int .i64 f.item.sk.sum, .int .i64 f.item.sk.min, .int .i64 f.item.sk.max, .slice b1 m1 e1, .slice b2 m2 e2, .slice b3 m3 e3] L #[.int .i64 x.id, .int .i64 x.epoch, .bool x.live, .int .i64 x.granted, .slice q1 l1 k1, .slice q2 l2 k2, .int .i64 x.next] w4 ∧ RdL itK w4 q1 l1 x.sealed F1 ∧ Own (w.heap.size + 3) w4 F1 ∧ RdP w4 q2 l2 x.taken G1 ∧ Own (w.heap.size + 3) w4 G1 ∧ (∀ b ∈ F1, b ∉ G1) ∧ Capd q1 l1 k1 ∧ Capd q2 l2 k2) := ⟨H4.out.1, H4.out.2.1, H4.out.2.2.1, H4.out.2.2.2.1, H4.out.2.2.2.2.1, H4.out.2.2.2.2.2.1, HCP.out.1, HCP.out.2⟩
    go_wp2_with (first | go_skip | (with_reducible refine stopLoad 27 rfl ?_))
    refine load_known 27 L _ 27 _ HE.out.1.loc rfl rfl rfl Tryz.underlying27 rfl infoAgH ?_
    go_wp2_with (first | go_skip | (with_reducible refine stopStore 27 rfl ?_))
    refine store_known 27 (w.heap.size + 1 + 1) _ #[.int .i64 x.id, .int .i64 x.epoch, .bool x.live, .int .i64 x.granted, .slice q1 l1 k1, .slice q2 l2 k2, .int .i64 x.next] 27 HE.out.1.res rfl rfl rfl rfl infoAgH rfl (by simp [Value.oneCell']) ?_
    go_wp2
    refine bodyPost_ret (results_row_tmp Tryz.results8 _ _ (w.heap.size + 1 + 1) _ _ _ _ rfl HE.out.1.res.setRow Tryz.underlying27 rfl infoAgH) rfl ?_
    have nr : w.heap.size + 1 + 1 ∉ F1 := fun hx => by have := HE.out.2.2.1.ge _ hx; omega
    have mr : w.heap.size + 1 + 1 ∉ G1 := fun hx => by have := HE.out.2.2.2.2.1.ge _ hx; omega
    exact ⟨_, F1, G1, 1, rfl, by rw [HV.out]; exact ⟨q1, l1, k1, q2, l2, k2, rfl, HE.out.2.1.agree (Agree.row nr _), HE.out.2.2.2.1.agree (Agree.row mr _), HE.out.2.2.2.2.2.2.1, HE.out.2.2.2.2.2.2.2⟩, by rw [HV.out], (HE.out.2.2.1.agree (Agree.row nr _)).mono (by omega), (HE.out.2.2.2.2.1.agree (Agree.row mr _)).mono (by omega), HE.out.2.2.2.2.2.1, below_setRow HE.out.1.bel (by omega) _⟩
  have hab : (f.agent != x.id) = false := by simpa using ha
  go_wp2_with fail
  refine (l8Below_any bt lt ct n1 f.taken F' _ (HF.out.2.2.2.below H4.out.1.bel) (by omega)).mono ?_
  rintro e w5 ⟨rfl, hb5⟩
  have H5 : Hid (HearW w #[.int .i64 x.id, .int .i64 x.epoch, .bool x.live, .int .i64 x.granted, .slice a1 n1 c1, .slice a2 n2 c2, .int .i64 x.next] #[.int .i64 f.kind, .int .i64 f.agent, .int .i64 f.epoch, .int .i64 f.granted, .slice bt lt ct, .int .i64 f.item.seq, .int .i64 f.item.cls, .int .i64 f.item.key, .int .i64 f.item.window, .int .i64 f.item.sk.count, .int .i64 f.item.sk.sum, .int .i64 f.item.sk.min, .int .i64 f.item.sk.max, .slice b1 m1 e1, .slice b2 m2 e2, .slice b3 m3 e3] L #[.int .i64 x.id, .int .i64 x.epoch, .bool x.live, .int .i64 x.granted, .slice q1 l1 k1, .slice q2 l2 k2, .int .i64 x.next] w5 ∧ RdL itK w5 q1 l1 x.sealed F1 ∧ Own (w.heap.size + 3) w5 F1 ∧ RdP w5 q2 l2 x.taken G1 ∧ Own (w.heap.size + 3) w5 G1 ∧ (∀ b ∈ F1, b ∉ G1) ∧ (∀ b ∈ F1, b < L) ∧ (∀ b ∈ G1, b < L)) := ⟨H4.out.1.below hb5, H4.out.2.1.below hb5, H4.out.2.2.1.below H4.out.2.1.lt hb5, H4.out.2.2.2.1.below hb5, H4.out.2.2.2.2.1.below H4.out.2.2.2.1.lt hb5, H4.out.2.2.2.2.2.1, H4.out.2.2.2.2.2.2⟩
  obtain ⟨d3, hd3⟩ : ∃ d, d = (f.taken.ok && f.taken.under n1) := ⟨_, rfl⟩
  rw [← hd3]
  have HD3 : Hid (d3 = (f.taken.ok && f.taken.under n1)) := hd3
  clear hb5 hd3 H4 g0 g1 g4 h0 h4
  cases d3
  · have HV : Hid (x.hear f = (x, 1)) := by show _ = _; unfold Ag.hear; rw [if_pos (by unfold Ag.hears; rw [HX.out.2.2.2.2.1, ← HD3.out]; simp)]
    have HE : Hid (HearW w #[.int .i64 x.id, .int .i64 x.epoch, .bool x.live, .int .i64 x.granted, .slice a1 n1 c1, .slice a2 n2 c2, .int .i64 x.next] #[.int .i64 f.kind, .int .i64 f.agent, .int .i64 f.epoch, .int .i64 f.granted, .slice bt lt ct, .int .i64 f.item.seq, .int .i64 f.item.cls, .int .i64 f.item.key, .int .i64 f.item.window, .int .i64 f.item.sk.count, .int .i64 f.item.sk.sum, .int .i64 f.item.sk.min, .int .i64 f.item.sk.max, .slice b1 m1 e1, .slice b2 m2 e2, .slice b3 m3 e3] L #[.int .i64 x.id, .int .i64 x.epoch, .bool x.live, .int .i64 x.granted, .slice q1 l1 k1, .slice q2 l2 k2, .int .i64 x.next] w5 ∧ RdL itK w5 q1 l1 x.sealed F1 ∧ Own (w.heap.size + 3) w5 F1 ∧ RdP w5 q2 l2 x.taken G1 ∧ Own (w.heap.size + 3) w5 G1 ∧ (∀ b ∈ F1, b ∉ G1) ∧ Capd q1 l1 k1 ∧ Capd q2 l2 k2) := ⟨H5.out.1, H5.out.2.1, H5.out.2.2.1, H5.out.2.2.2.1, H5.out.2.2.2.2.1, H5.out.2.2.2.2.2.1, HCP.out.1, HCP.out.2⟩
    go_wp2_with (first | go_skip | (with_reducible refine stopLoad 27 rfl ?_))
    refine load_known 27 L _ 27 _ HE.out.1.loc rfl rfl rfl Tryz.underlying27 rfl infoAgH ?_
    go_wp2_with (first | go_skip | (with_reducible refine stopStore 27 rfl ?_))
    refine store_known 27 (w.heap.size + 1 + 1) _ #[.int .i64 x.id, .int .i64 x.epoch, .bool x.live, .int .i64 x.granted, .slice q1 l1 k1, .slice q2 l2 k2, .int .i64 x.next] 27 HE.out.1.res rfl rfl rfl rfl infoAgH rfl (by simp [Value.oneCell']) ?_
    go_wp2
    refine bodyPost_ret (results_row_tmp Tryz.results8 _ _ (w.heap.size + 1 + 1) _ _ _ _ rfl HE.out.1.res.setRow Tryz.underlying27 rfl infoAgH) rfl ?_
    have nr : w.heap.size + 1 + 1 ∉ F1 := fun hx => by have := HE.out.2.2.1.ge _ hx; omega
    have mr : w.heap.size + 1 + 1 ∉ G1 := fun hx => by have := HE.out.2.2.2.2.1.ge _ hx; omega
    exact ⟨_, F1, G1, 1, rfl, by rw [HV.out]; exact ⟨q1, l1, k1, q2, l2, k2, rfl, HE.out.2.1.agree (Agree.row nr _), HE.out.2.2.2.1.agree (Agree.row mr _), HE.out.2.2.2.2.2.2.1, HE.out.2.2.2.2.2.2.2⟩, by rw [HV.out], (HE.out.2.2.1.agree (Agree.row nr _)).mono (by omega), (HE.out.2.2.2.2.1.agree (Agree.row mr _)).mono (by omega), HE.out.2.2.2.2.2.1, below_setRow HE.out.1.bel (by omega) _⟩
  have HH : Hid (x.hears f = true) := by
    show _ = _
    unfold Ag.hears
    rw [HX.out.2.2.2.2.1, ← HD3.out, ← HD1.out, ← HD2.out, decide_eq_true (by omega : 2 ≤ f.kind), decide_eq_true ha]
    rfl
  clear hk ha hkd hab
  have g0 := H5.out.1.fr.cell 0
  have g2 := H5.out.1.fr.cell 2
  have g3 := H5.out.1.fr.cell 3
  have g4 := H5.out.1.fr.cell 4
  have h1 := H5.out.1.box.cell 1
  have h3 := H5.out.1.box.cell 3
  have h5 := H5.out.1.box.cell 5
  simp only [aT, aS, aZ] at g0 g2 g3 g4 h1 h3 h5
  by_cases he : f.epoch < x.epoch
  · have hed : decide (f.epoch < x.epoch) = true := dec_true he
    have HV : Hid (x.hear f = (x, 2)) := by show _ = _; unfold Ag.hear; rw [if_neg (by rw [HH.out]; simp), if_pos he]
    have HE : Hid (HearW w #[.int .i64 x.id, .int .i64 x.epoch, .bool x.live, .int .i64 x.granted, .slice a1 n1 c1, .slice a2 n2 c2, .int .i64 x.next] #[.int .i64 f.kind, .int .i64 f.agent, .int .i64 f.epoch, .int .i64 f.granted, .slice bt lt ct, .int .i64 f.item.seq, .int .i64 f.item.cls, .int .i64 f.item.key, .int .i64 f.item.window, .int .i64 f.item.sk.count, .int .i64 f.item.sk.sum, .int .i64 f.item.sk.min, .int .i64 f.item.sk.max, .slice b1 m1 e1, .slice b2 m2 e2, .slice b3 m3 e3] L #[.int .i64 x.id, .int .i64 x.epoch, .bool x.live, .int .i64 x.granted, .slice q1 l1 k1, .slice q2 l2 k2, .int .i64 x.next] w5 ∧ RdL itK w5 q1 l1 x.sealed F1 ∧ Own (w.heap.size + 3) w5 F1 ∧ RdP w5 q2 l2 x.taken G1 ∧ Own (w.heap.size + 3) w5 G1 ∧ (∀ b ∈ F1, b ∉ G1) ∧ Capd q1 l1 k1 ∧ Capd q2 l2 k2) := ⟨H5.out.1, H5.out.2.1, H5.out.2.2.1, H5.out.2.2.2.1, H5.out.2.2.2.2.1, H5.out.2.2.2.2.2.1, HCP.out.1, HCP.out.2⟩
    go_wp2_with (first | go_skip | (with_reducible refine stopLoad 27 rfl ?_))
    refine load_known 27 L _ 27 _ HE.out.1.loc rfl rfl rfl Tryz.underlying27 rfl infoAgH ?_
    go_wp2_with (first | go_skip | (with_reducible refine stopStore 27 rfl ?_))
    refine store_known 27 (w.heap.size + 1 + 1) _ #[.int .i64 x.id, .int .i64 x.epoch, .bool x.live, .int .i64 x.granted, .slice q1 l1 k1, .slice q2 l2 k2, .int .i64 x.next] 27 HE.out.1.res rfl rfl rfl rfl infoAgH rfl (by simp [Value.oneCell']) ?_
    go_wp2
    refine bodyPost_ret (results_row_tmp Tryz.results8 _ _ (w.heap.size + 1 + 1) _ _ _ _ rfl HE.out.1.res.setRow Tryz.underlying27 rfl infoAgH) rfl ?_
    have nr : w.heap.size + 1 + 1 ∉ F1 := fun hx => by have := HE.out.2.2.1.ge _ hx; omega
    have mr : w.heap.size + 1 + 1 ∉ G1 := fun hx => by have := HE.out.2.2.2.2.1.ge _ hx; omega
    exact ⟨_, F1, G1, 2, rfl, by rw [HV.out]; exact ⟨q1, l1, k1, q2, l2, k2, rfl, HE.out.2.1.agree (Agree.row nr _), HE.out.2.2.2.1.agree (Agree.row mr _), HE.out.2.2.2.2.2.2.1, HE.out.2.2.2.2.2.2.2⟩, by rw [HV.out], (HE.out.2.2.1.agree (Agree.row nr _)).mono (by omega), (HE.out.2.2.2.2.1.agree (Agree.row mr _)).mono (by omega), HE.out.2.2.2.2.2.1, below_setRow HE.out.1.bel (by omega) _⟩
  have hed : decide (f.epoch < x.epoch) = false := dec_false he
  have HJ : Hid ((∀ p ∈ x.taken, InB p) ∧ ∀ p ∈ f.taken, InB p) := by
    have k1 : x.taken.ok = true := by
      have := HD1.out.symm
      unfold Ag.ok at this
      simp only [Bool.and_eq_true] at this
      exact this.1.1.2.1
    have k2 : f.taken.ok = true := by
      have := HD3.out.symm
      rw [Bool.and_eq_true] at this
      exact this.1
    have al : ∀ ps : Sp, ps.ok = true → ∀ p ∈ ps, InB p := fun ps hk p hp => by
      obtain ⟨i, hi, rfl⟩ := List.getElem_of_mem hp
      have := ok_inb hk i hi
      rw [show ps.at i = ps[i] from by unfold Sp.at; rw [List.getElem?_eq_getElem hi]; rfl] at this
      exact this
    exact ⟨al _ k1, al _ k2⟩
  go_wp2_with fail
  refine (l5Join_any a2 bt n2 lt c2 ct x.taken f.taken G F' _ (HX.out.2.2.2.2.2.1.below H5.out.1.bel) (HF.out.2.2.2.below H5.out.1.bel) (by omega) HX.out.2.2.2.2.2.2 HJ.out.1 HJ.out.2).mono ?_
  rintro e w6 ⟨q3, l3, k3, G3, rfl, rJ, oJ, hb6, hcJ⟩
  obtain ⟨js, hjs⟩ : ∃ js, js = joinTo x.taken f.taken f.taken.length := ⟨_, rfl⟩
  rw [← hjs] at rJ
  have HJS : Hid (js = joinTo x.taken f.taken f.taken.length) := hjs
  have H6 : Hid (HearW w #[.int .i64 x.id, .int .i64 x.epoch, .bool x.live, .int .i64 x.granted, .slice a1 n1 c1, .slice a2 n2 c2, .int .i64 x.next] #[.int .i64 f.kind, .int .i64 f.agent, .int .i64 f.epoch, .int .i64 f.granted, .slice bt lt ct, .int .i64 f.item.seq, .int .i64 f.item.cls, .int .i64 f.item.key, .int .i64 f.item.window, .int .i64 f.item.sk.count, .int .i64 f.item.sk.sum, .int .i64 f.item.sk.min, .int .i64 f.item.sk.max, .slice b1 m1 e1, .slice b2 m2 e2, .slice b3 m3 e3] L #[.int .i64 x.id, .int .i64 x.epoch, .bool x.live, .int .i64 x.granted, .slice q1 l1 k1, .slice q2 l2 k2, .int .i64 x.next] w6 ∧ RdL itK w6 q1 l1 x.sealed F1 ∧ Own (w.heap.size + 3) w6 F1 ∧ RdP w6 q3 l3 js G3 ∧ Own (w.heap.size + 3) w6 G3 ∧ (∀ b ∈ F1, b ∉ G3) ∧ L ∉ F1 ∧ L ∉ G3) := by
    have o := H5.out.1.ord
    have lL := H5.out.1.loc.lt
    exact ⟨H5.out.1.below hb6, H5.out.2.1.below hb6, H5.out.2.2.1.below H5.out.2.1.lt hb6, rJ, oJ.mono (by omega), fun b hb hx => by have h1 := H5.out.2.2.2.2.2.2.1 b hb; have h2 := oJ.ge b hx; omega, fun hx => by have := H5.out.2.2.2.2.2.2.1 _ hx; omega, fun hx => by have := oJ.ge _ hx; omega⟩
  have HCJ : Hid (Capd q1 l1 k1 ∧ Capd q3 l3 k3) := ⟨HCP.out.1, hcJ⟩
  clear rJ oJ hb6 hjs hcJ H5 g0 g2 g3 g4 h1 h3 h5 HCP
  have p1 := H6.out.1.loc.cell 1
  have p2 := H6.out.1.loc.cell 2
  have p3 := H6.out.1.loc.cell 3
  have p5 := H6.out.1.loc.cell 5
  have r1 := H6.out.1.loc.frozen 1
  have r2 := H6.out.1.loc.frozen 2
  have r3 := H6.out.1.loc.frozen 3
  have r5 := H6.out.1.loc.frozen 5
  have g0 := H6.out.1.fr.cell 0
  have g2 := H6.out.1.fr.cell 2
  have g3 := H6.out.1.fr.cell 3
  have h1 := H6.out.1.box.cell 1
  have h3 := H6.out.1.box.cell 3
  have oL := H6.out.1.ord
  have nL0 : ¬ w.heap.size = L := by omega
  have nL0' : ¬ L = w.heap.size := by omega
  have nL1 : ¬ w.heap.size + 1 = L := by omega
  have nL1' : ¬ L = w.heap.size + 1 := by omega
  simp only [aT, aS, aZ] at p1 p2 p3 p5 g0 g2 g3 h1 h3
  by_cases hk2 : f.kind = 2
  · have hkb : (f.kind == 2) = true := by simpa using hk2
    by_cases hep : f.epoch = x.epoch
    · have heb : (f.epoch == x.epoch) = true := by simpa using hep
      have HV : Hid (x.hear f = (⟨x.id, x.epoch, true, max x.granted f.granted, x.sealed, js, x.next⟩, 0)) := by show _ = _; unfold Ag.hear; rw [if_neg (by rw [HH.out]; simp), if_neg (by omega : ¬ f.epoch < x.epoch), if_pos ⟨hk2, hep⟩, HJS.out]
      go_wp2_with fail
      refine (l1Max_any _ _ _).mono ?_
      rintro e w7 ⟨rfl, hw7⟩
      have hw7' := hw7.symm
      subst hw7'
      clear hw7
      have HE : Hid (HearW w #[.int .i64 x.id, .int .i64 x.epoch, .bool x.live, .int .i64 x.granted, .slice a1 n1 c1, .slice a2 n2 c2, .int .i64 x.next] #[.int .i64 f.kind, .int .i64 f.agent, .int .i64 f.epoch, .int .i64 f.granted, .slice bt lt ct, .int .i64 f.item.seq, .int .i64 f.item.cls, .int .i64 f.item.key, .int .i64 f.item.window, .int .i64 f.item.sk.count, .int .i64 f.item.sk.sum, .int .i64 f.item.sk.min, .int .i64 f.item.sk.max, .slice b1 m1 e1, .slice b2 m2 e2, .slice b3 m3 e3] L #[.int .i64 x.id, .int .i64 x.epoch, .bool true, .int .i64 (max x.granted f.granted), .slice q1 l1 k1, .slice q3 l3 k3, .int .i64 x.next] (((w6.setCell ⟨L, 5, none⟩ (.slice q3 l3 k3)).setCell ⟨L, 2, none⟩ (.bool true)).setCell ⟨L, 3, none⟩ (.int .i64 (max x.granted f.granted))) ∧ RdL itK (((w6.setCell ⟨L, 5, none⟩ (.slice q3 l3 k3)).setCell ⟨L, 2, none⟩ (.bool true)).setCell ⟨L, 3, none⟩ (.int .i64 (max x.granted f.granted))) q1 l1 x.sealed F1 ∧ Own (w.heap.size + 3) (((w6.setCell ⟨L, 5, none⟩ (.slice q3 l3 k3)).setCell ⟨L, 2, none⟩ (.bool true)).setCell ⟨L, 3, none⟩ (.int .i64 (max x.granted f.granted))) F1 ∧ RdP (((w6.setCell ⟨L, 5, none⟩ (.slice q3 l3 k3)).setCell ⟨L, 2, none⟩ (.bool true)).setCell ⟨L, 3, none⟩ (.int .i64 (max x.granted f.granted))) q3 l3 js G3 ∧ Own (w.heap.size + 3) (((w6.setCell ⟨L, 5, none⟩ (.slice q3 l3 k3)).setCell ⟨L, 2, none⟩ (.bool true)).setCell ⟨L, 3, none⟩ (.int .i64 (max x.granted f.granted))) G3 ∧ (∀ b ∈ F1, b ∉ G3) ∧ Capd q1 l1 k1 ∧ Capd q3 l3 k3) := ⟨(((H6.out.1.set 5 (.slice q3 l3 k3)).set 2 (.bool true)).set 3 (.int .i64 (max x.granted f.granted))), H6.out.2.1.agree ((((Agree.refl w6 F1).thenSet H6.out.2.2.2.2.2.2.1 5 (.slice q3 l3 k3)).thenSet H6.out.2.2.2.2.2.2.1 2 (.bool true)).thenSet H6.out.2.2.2.2.2.2.1 3 (.int .i64 (max x.granted f.granted))), H6.out.2.2.1.agree ((((Agree.refl w6 F1).thenSet H6.out.2.2.2.2.2.2.1 5 (.slice q3 l3 k3)).thenSet H6.out.2.2.2.2.2.2.1 2 (.bool true)).thenSet H6.out.2.2.2.2.2.2.1 3 (.int .i64 (max x.granted f.granted))), H6.out.2.2.2.1.agree ((((Agree.refl w6 G3).thenSet H6.out.2.2.2.2.2.2.2 5 (.slice q3 l3 k3)).thenSet H6.out.2.2.2.2.2.2.2 2 (.bool true)).thenSet H6.out.2.2.2.2.2.2.2 3 (.int .i64 (max x.granted f.granted))), H6.out.2.2.2.2.1.agree ((((Agree.refl w6 G3).thenSet H6.out.2.2.2.2.2.2.2 5 (.slice q3 l3 k3)).thenSet H6.out.2.2.2.2.2.2.2 2 (.bool true)).thenSet H6.out.2.2.2.2.2.2.2 3 (.int .i64 (max x.granted f.granted))), H6.out.2.2.2.2.2.1, HCJ.out.1, HCJ.out.2⟩
      obtain ⟨W9, hW9⟩ : ∃ W, W = (((w6.setCell ⟨L, 5, none⟩ (.slice q3 l3 k3)).setCell ⟨L, 2, none⟩ (.bool true)).setCell ⟨L, 3, none⟩ (.int .i64 (max x.granted f.granted))) := ⟨_, rfl⟩
      go_wp2_with (first | go_skip | (with_reducible refine stopLoad 27 rfl ?_))
      rw [← hW9] at HE ⊢
      clear hW9 p1 p2 p3 p5 r1 r2 r3 r5 g0 g2 g3 h1 h3 nL0 nL0' nL1 nL1'
      refine load_known 27 L _ 27 _ HE.out.1.loc rfl rfl rfl Tryz.underlying27 rfl infoAgH ?_
      go_wp2_with (first | go_skip | (with_reducible refine stopStore 27 rfl ?_))
      refine store_known 27 (w.heap.size + 1 + 1) _ #[.int .i64 x.id, .int .i64 x.epoch, .bool true, .int .i64 (max x.granted f.granted), .slice q1 l1 k1, .slice q3 l3 k3, .int .i64 x.next] 27 HE.out.1.res rfl rfl rfl rfl infoAgH rfl (by simp [Value.oneCell']) ?_
      go_wp2
      refine bodyPost_ret (results_row_tmp Tryz.results8 _ _ (w.heap.size + 1 + 1) _ _ _ _ rfl HE.out.1.res.setRow Tryz.underlying27 rfl infoAgH) rfl ?_
      have nr : w.heap.size + 1 + 1 ∉ F1 := fun hx => by have := HE.out.2.2.1.ge _ hx; omega
      have mr : w.heap.size + 1 + 1 ∉ G3 := fun hx => by have := HE.out.2.2.2.2.1.ge _ hx; omega
      exact ⟨_, F1, G3, 0, rfl, by rw [HV.out]; exact ⟨q1, l1, k1, q3, l3, k3, rfl, HE.out.2.1.agree (Agree.row nr _), HE.out.2.2.2.1.agree (Agree.row mr _), HE.out.2.2.2.2.2.2.1, HE.out.2.2.2.2.2.2.2⟩, by rw [HV.out], (HE.out.2.2.1.agree (Agree.row nr _)).mono (by omega), (HE.out.2.2.2.2.1.agree (Agree.row mr _)).mono (by omega), HE.out.2.2.2.2.2.1, below_setRow HE.out.1.bel (by omega) _⟩
    · have heb : (f.epoch == x.epoch) = false := by simpa using hep
      have HV : Hid (x.hear f = (⟨x.id, f.epoch, true, f.granted, x.sealed, js, x.next⟩, 0)) := by show _ = _; unfold Ag.hear; rw [if_neg (by rw [HH.out]; simp), if_neg (by omega : ¬ f.epoch < x.epoch), if_neg (fun e => hep e.2), decide_eq_true hk2, if_pos hk2, HJS.out]
      have HE : Hid (HearW w #[.int .i64 x.id, .int .i64 x.epoch, .bool x.live, .int .i64 x.granted, .slice a1 n1 c1, .slice a2 n2 c2, .int .i64 x.next] #[.int .i64 f.kind, .int .i64 f.agent, .int .i64 f.epoch, .int .i64 f.granted, .slice bt lt ct, .int .i64 f.item.seq, .int .i64 f.item.cls, .int .i64 f.item.key, .int .i64 f.item.window, .int .i64 f.item.sk.count, .int .i64 f.item.sk.sum, .int .i64 f.item.sk.min, .int .i64 f.item.sk.max, .slice b1 m1 e1, .slice b2 m2 e2, .slice b3 m3 e3] L #[.int .i64 x.id, .int .i64 f.epoch, .bool true, .int .i64 f.granted, .slice q1 l1 k1, .slice q3 l3 k3, .int .i64 x.next] (((((w6.setCell ⟨L, 5, none⟩ (.slice q3 l3 k3)).setCell ⟨L, 1, none⟩ (.int .i64 f.epoch)).setCell ⟨L, 2, none⟩ (.bool true)).setCell ⟨L, 3, none⟩ (.int .i64 0)).setCell ⟨L, 3, none⟩ (.int .i64 f.granted)) ∧ RdL itK (((((w6.setCell ⟨L, 5, none⟩ (.slice q3 l3 k3)).setCell ⟨L, 1, none⟩ (.int .i64 f.epoch)).setCell ⟨L, 2, none⟩ (.bool true)).setCell ⟨L, 3, none⟩ (.int .i64 0)).setCell ⟨L, 3, none⟩ (.int .i64 f.granted)) q1 l1 x.sealed F1 ∧ Own (w.heap.size + 3) (((((w6.setCell ⟨L, 5, none⟩ (.slice q3 l3 k3)).setCell ⟨L, 1, none⟩ (.int .i64 f.epoch)).setCell ⟨L, 2, none⟩ (.bool true)).setCell ⟨L, 3, none⟩ (.int .i64 0)).setCell ⟨L, 3, none⟩ (.int .i64 f.granted)) F1 ∧ RdP (((((w6.setCell ⟨L, 5, none⟩ (.slice q3 l3 k3)).setCell ⟨L, 1, none⟩ (.int .i64 f.epoch)).setCell ⟨L, 2, none⟩ (.bool true)).setCell ⟨L, 3, none⟩ (.int .i64 0)).setCell ⟨L, 3, none⟩ (.int .i64 f.granted)) q3 l3 js G3 ∧ Own (w.heap.size + 3) (((((w6.setCell ⟨L, 5, none⟩ (.slice q3 l3 k3)).setCell ⟨L, 1, none⟩ (.int .i64 f.epoch)).setCell ⟨L, 2, none⟩ (.bool true)).setCell ⟨L, 3, none⟩ (.int .i64 0)).setCell ⟨L, 3, none⟩ (.int .i64 f.granted)) G3 ∧ (∀ b ∈ F1, b ∉ G3) ∧ Capd q1 l1 k1 ∧ Capd q3 l3 k3) := ⟨(((((H6.out.1.set 5 (.slice q3 l3 k3)).set 1 (.int .i64 f.epoch)).set 2 (.bool true)).set 3 (.int .i64 0)).set 3 (.int .i64 f.granted)), H6.out.2.1.agree ((((((Agree.refl w6 F1).thenSet H6.out.2.2.2.2.2.2.1 5 (.slice q3 l3 k3)).thenSet H6.out.2.2.2.2.2.2.1 1 (.int .i64 f.epoch)).thenSet H6.out.2.2.2.2.2.2.1 2 (.bool true)).thenSet H6.out.2.2.2.2.2.2.1 3 (.int .i64 0)).thenSet H6.out.2.2.2.2.2.2.1 3 (.int .i64 f.granted)), H6.out.2.2.1.agree ((((((Agree.refl w6 F1).thenSet H6.out.2.2.2.2.2.2.1 5 (.slice q3 l3 k3)).thenSet H6.out.2.2.2.2.2.2.1 1 (.int .i64 f.epoch)).thenSet H6.out.2.2.2.2.2.2.1 2 (.bool true)).thenSet H6.out.2.2.2.2.2.2.1 3 (.int .i64 0)).thenSet H6.out.2.2.2.2.2.2.1 3 (.int .i64 f.granted)), H6.out.2.2.2.1.agree ((((((Agree.refl w6 G3).thenSet H6.out.2.2.2.2.2.2.2 5 (.slice q3 l3 k3)).thenSet H6.out.2.2.2.2.2.2.2 1 (.int .i64 f.epoch)).thenSet H6.out.2.2.2.2.2.2.2 2 (.bool true)).thenSet H6.out.2.2.2.2.2.2.2 3 (.int .i64 0)).thenSet H6.out.2.2.2.2.2.2.2 3 (.int .i64 f.granted)), H6.out.2.2.2.2.1.agree ((((((Agree.refl w6 G3).thenSet H6.out.2.2.2.2.2.2.2 5 (.slice q3 l3 k3)).thenSet H6.out.2.2.2.2.2.2.2 1 (.int .i64 f.epoch)).thenSet H6.out.2.2.2.2.2.2.2 2 (.bool true)).thenSet H6.out.2.2.2.2.2.2.2 3 (.int .i64 0)).thenSet H6.out.2.2.2.2.2.2.2 3 (.int .i64 f.granted)), H6.out.2.2.2.2.2.1, HCJ.out.1, HCJ.out.2⟩
      obtain ⟨W9, hW9⟩ : ∃ W, W = (((((w6.setCell ⟨L, 5, none⟩ (.slice q3 l3 k3)).setCell ⟨L, 1, none⟩ (.int .i64 f.epoch)).setCell ⟨L, 2, none⟩ (.bool true)).setCell ⟨L, 3, none⟩ (.int .i64 0)).setCell ⟨L, 3, none⟩ (.int .i64 f.granted)) := ⟨_, rfl⟩
      go_wp2_with (first | go_skip | (with_reducible refine stopLoad 27 rfl ?_))
      rw [← hW9] at HE ⊢
      clear hW9 p1 p2 p3 p5 r1 r2 r3 r5 g0 g2 g3 h1 h3 nL0 nL0' nL1 nL1'
      refine load_known 27 L _ 27 _ HE.out.1.loc rfl rfl rfl Tryz.underlying27 rfl infoAgH ?_
      go_wp2_with (first | go_skip | (with_reducible refine stopStore 27 rfl ?_))
      refine store_known 27 (w.heap.size + 1 + 1) _ #[.int .i64 x.id, .int .i64 f.epoch, .bool true, .int .i64 f.granted, .slice q1 l1 k1, .slice q3 l3 k3, .int .i64 x.next] 27 HE.out.1.res rfl rfl rfl rfl infoAgH rfl (by simp [Value.oneCell']) ?_
      go_wp2
      refine bodyPost_ret (results_row_tmp Tryz.results8 _ _ (w.heap.size + 1 + 1) _ _ _ _ rfl HE.out.1.res.setRow Tryz.underlying27 rfl infoAgH) rfl ?_
      have nr : w.heap.size + 1 + 1 ∉ F1 := fun hx => by have := HE.out.2.2.1.ge _ hx; omega
      have mr : w.heap.size + 1 + 1 ∉ G3 := fun hx => by have := HE.out.2.2.2.2.1.ge _ hx; omega
      exact ⟨_, F1, G3, 0, rfl, by rw [HV.out]; exact ⟨q1, l1, k1, q3, l3, k3, rfl, HE.out.2.1.agree (Agree.row nr _), HE.out.2.2.2.1.agree (Agree.row mr _), HE.out.2.2.2.2.2.2.1, HE.out.2.2.2.2.2.2.2⟩, by rw [HV.out], (HE.out.2.2.1.agree (Agree.row nr _)).mono (by omega), (HE.out.2.2.2.2.1.agree (Agree.row mr _)).mono (by omega), HE.out.2.2.2.2.2.1, below_setRow HE.out.1.bel (by omega) _⟩
  · have hkb : (f.kind == 2) = false := by simpa using hk2
    have HV : Hid (x.hear f = (⟨x.id, f.epoch, false, 0, x.sealed, js, x.next⟩, 0)) := by show _ = _; unfold Ag.hear; rw [if_neg (by rw [HH.out]; simp), if_neg (by omega : ¬ f.epoch < x.epoch), if_neg (fun e => hk2 e.1), decide_eq_false hk2, if_neg hk2, HJS.out]
    have HE : Hid (HearW w #[.int .i64 x.id, .int .i64 x.epoch, .bool x.live, .int .i64 x.granted, .slice a1 n1 c1, .slice a2 n2 c2, .int .i64 x.next] #[.int .i64 f.kind, .int .i64 f.agent, .int .i64 f.epoch, .int .i64 f.granted, .slice bt lt ct, .int .i64 f.item.seq, .int .i64 f.item.cls, .int .i64 f.item.key, .int .i64 f.item.window, .int .i64 f.item.sk.count, .int .i64 f.item.sk.sum, .int .i64 f.item.sk.min, .int .i64 f.item.sk.max, .slice b1 m1 e1, .slice b2 m2 e2, .slice b3 m3 e3] L #[.int .i64 x.id, .int .i64 f.epoch, .bool false, .int .i64 0, .slice q1 l1 k1, .slice q3 l3 k3, .int .i64 x.next] ((((w6.setCell ⟨L, 5, none⟩ (.slice q3 l3 k3)).setCell ⟨L, 1, none⟩ (.int .i64 f.epoch)).setCell ⟨L, 2, none⟩ (.bool false)).setCell ⟨L, 3, none⟩ (.int .i64 0)) ∧ RdL itK ((((w6.setCell ⟨L, 5, none⟩ (.slice q3 l3 k3)).setCell ⟨L, 1, none⟩ (.int .i64 f.epoch)).setCell ⟨L, 2, none⟩ (.bool false)).setCell ⟨L, 3, none⟩ (.int .i64 0)) q1 l1 x.sealed F1 ∧ Own (w.heap.size + 3) ((((w6.setCell ⟨L, 5, none⟩ (.slice q3 l3 k3)).setCell ⟨L, 1, none⟩ (.int .i64 f.epoch)).setCell ⟨L, 2, none⟩ (.bool false)).setCell ⟨L, 3, none⟩ (.int .i64 0)) F1 ∧ RdP ((((w6.setCell ⟨L, 5, none⟩ (.slice q3 l3 k3)).setCell ⟨L, 1, none⟩ (.int .i64 f.epoch)).setCell ⟨L, 2, none⟩ (.bool false)).setCell ⟨L, 3, none⟩ (.int .i64 0)) q3 l3 js G3 ∧ Own (w.heap.size + 3) ((((w6.setCell ⟨L, 5, none⟩ (.slice q3 l3 k3)).setCell ⟨L, 1, none⟩ (.int .i64 f.epoch)).setCell ⟨L, 2, none⟩ (.bool false)).setCell ⟨L, 3, none⟩ (.int .i64 0)) G3 ∧ (∀ b ∈ F1, b ∉ G3) ∧ Capd q1 l1 k1 ∧ Capd q3 l3 k3) := ⟨((((H6.out.1.set 5 (.slice q3 l3 k3)).set 1 (.int .i64 f.epoch)).set 2 (.bool false)).set 3 (.int .i64 0)), H6.out.2.1.agree (((((Agree.refl w6 F1).thenSet H6.out.2.2.2.2.2.2.1 5 (.slice q3 l3 k3)).thenSet H6.out.2.2.2.2.2.2.1 1 (.int .i64 f.epoch)).thenSet H6.out.2.2.2.2.2.2.1 2 (.bool false)).thenSet H6.out.2.2.2.2.2.2.1 3 (.int .i64 0)), H6.out.2.2.1.agree (((((Agree.refl w6 F1).thenSet H6.out.2.2.2.2.2.2.1 5 (.slice q3 l3 k3)).thenSet H6.out.2.2.2.2.2.2.1 1 (.int .i64 f.epoch)).thenSet H6.out.2.2.2.2.2.2.1 2 (.bool false)).thenSet H6.out.2.2.2.2.2.2.1 3 (.int .i64 0)), H6.out.2.2.2.1.agree (((((Agree.refl w6 G3).thenSet H6.out.2.2.2.2.2.2.2 5 (.slice q3 l3 k3)).thenSet H6.out.2.2.2.2.2.2.2 1 (.int .i64 f.epoch)).thenSet H6.out.2.2.2.2.2.2.2 2 (.bool false)).thenSet H6.out.2.2.2.2.2.2.2 3 (.int .i64 0)), H6.out.2.2.2.2.1.agree (((((Agree.refl w6 G3).thenSet H6.out.2.2.2.2.2.2.2 5 (.slice q3 l3 k3)).thenSet H6.out.2.2.2.2.2.2.2 1 (.int .i64 f.epoch)).thenSet H6.out.2.2.2.2.2.2.2 2 (.bool false)).thenSet H6.out.2.2.2.2.2.2.2 3 (.int .i64 0)), H6.out.2.2.2.2.2.1, HCJ.out.1, HCJ.out.2⟩
    obtain ⟨W9, hW9⟩ : ∃ W, W = ((((w6.setCell ⟨L, 5, none⟩ (.slice q3 l3 k3)).setCell ⟨L, 1, none⟩ (.int .i64 f.epoch)).setCell ⟨L, 2, none⟩ (.bool false)).setCell ⟨L, 3, none⟩ (.int .i64 0)) := ⟨_, rfl⟩
    go_wp2_with (first | go_skip | (with_reducible refine stopLoad 27 rfl ?_))
    rw [← hW9] at HE ⊢
    clear hW9 p1 p2 p3 p5 r1 r2 r3 r5 g0 g2 g3 h1 h3 nL0 nL0' nL1 nL1'
    refine load_known 27 L _ 27 _ HE.out.1.loc rfl rfl rfl Tryz.underlying27 rfl infoAgH ?_
    go_wp2_with (first | go_skip | (with_reducible refine stopStore 27 rfl ?_))
    refine store_known 27 (w.heap.size + 1 + 1) _ #[.int .i64 x.id, .int .i64 f.epoch, .bool false, .int .i64 0, .slice q1 l1 k1, .slice q3 l3 k3, .int .i64 x.next] 27 HE.out.1.res rfl rfl rfl rfl infoAgH rfl (by simp [Value.oneCell']) ?_
    go_wp2
    refine bodyPost_ret (results_row_tmp Tryz.results8 _ _ (w.heap.size + 1 + 1) _ _ _ _ rfl HE.out.1.res.setRow Tryz.underlying27 rfl infoAgH) rfl ?_
    have nr : w.heap.size + 1 + 1 ∉ F1 := fun hx => by have := HE.out.2.2.1.ge _ hx; omega
    have mr : w.heap.size + 1 + 1 ∉ G3 := fun hx => by have := HE.out.2.2.2.2.1.ge _ hx; omega
    exact ⟨_, F1, G3, 0, rfl, by rw [HV.out]; exact ⟨q1, l1, k1, q3, l3, k3, rfl, HE.out.2.1.agree (Agree.row nr _), HE.out.2.2.2.1.agree (Agree.row mr _), HE.out.2.2.2.2.2.2.1, HE.out.2.2.2.2.2.2.2⟩, by rw [HV.out], (HE.out.2.2.1.agree (Agree.row nr _)).mono (by omega), (HE.out.2.2.2.2.1.agree (Agree.row mr _)).mono (by omega), HE.out.2.2.2.2.2.1, below_setRow HE.out.1.bel (by omega) _⟩
end Go.Proofs.YtgkbhhlkaifnoaaGreatDoor
/- Two lists, two summaries held against each other, by the model and by the library. No statement of the seat is proved here. -/
namespace Go.Proofs.YtgkbhhlkaifnoaaGreatDoor
open Go.RowKit
set_option maxRecDepth 200000 in
set_option maxHeartbeats 1000000 in
theorem slEqual_any (a b : Option Addr) (la lb ca cb : Nat) (xs ys : List Int) (F G : List Nat) (w : World) (ha : RdI w a la xs F) (hb : RdI w b lb ys G) (hla : la ≤ 140737488355328) (hlb : lb ≤ 140737488355328) :
    Calls Tryz.prog 138 #[.slice a la ca, .slice b lb cb] w fun e w' => e = .returned (.bool (decide (xs = ys))) ∧ Below w.heap.size w w' := by
  have Hx : Hid (xs.length = la) := ha.length
  have Hy : Hid (ys.length = lb) := hb.length
  by_cases hl : la = lb
  · subst hl
    have hbne : ((la : Int) != (la : Int)) = false := by simp
    by_cases h0 : la = 0
    · subst h0
      have ex : xs = [] := List.eq_nil_of_length_eq_zero ha.length
      have ey : ys = [] := List.eq_nil_of_length_eq_zero hb.length
      clear ha hb
      go_enter Tryz.func138, Tryz.ntmps138
      go_wp2
      refine wp_loop_rounds 1 ?_
      rw [rounds_succ]
      go_wp2
      go_ret
      exact ⟨ret_bool (by rw [ex, ey]; rfl), Below.refl _ _⟩
    · obtain ⟨b1, o1, rfl, hc1⟩ : ∃ b off, a = some ⟨b, off, none⟩ ∧ ∀ i, i < la → w.cell? ⟨b, off + i, none⟩ = some (.int .i64 (xs.getD i 0)) := by
        rcases ha.cells with h | ⟨b, off, _, h1, _, h2⟩
        · exact absurd h.1 h0
        · exact ⟨b, off, h1, h2⟩
      obtain ⟨b2, o2, rfl, hc2⟩ : ∃ b' off, b = some ⟨b', off, none⟩ ∧ ∀ i, i < la → w.cell? ⟨b', off + i, none⟩ = some (.int .i64 (ys.getD i 0)) := by
        rcases hb.cells with h | ⟨b, off, _, h1, _, h2⟩
        · exact absurd h.1 h0
        · exact ⟨b, off, h1, h2⟩
      have hb1 : b1 < w.heap.size := World.block_lt_of_cell? _ _ (hc1 0 (by omega))
      have hb2 : b2 < w.heap.size := World.block_lt_of_cell? _ _ (hc2 0 (by omega))
      clear ha hb
      go_enter Tryz.func138, Tryz.ntmps138
      go_wp2
      go_loopw [13] (fun i wr => ∃ k : Nat, k ≤ la ∧ i = .int .i64 k ∧ Hid (xs.take k = ys.take k) ∧ Below w.heap.size w wr) (fun i _ => la - (intOf i).toNat)
      case atStart => exact ⟨0, by omega, rfl, rfl, Below.refl _ _⟩
      case round =>
        obtain ⟨k, hk, rfl, HT, hbel⟩ := hrel
        by_cases hlt : k < la
        · have d1 : wr.cell? ⟨b1, o1 + k, none⟩ = some (.int .i64 (xs.getD k 0)) := (hbel.cell (by exact hb1)).trans (hc1 k hlt)
          have d2 : wr.cell? ⟨b2, o2 + k, none⟩ = some (.int .i64 (ys.getD k 0)) := (hbel.cell (by exact hb2)).trans (hc2 k hlt)
          by_cases he : xs[k]?.getD 0 = ys[k]?.getD 0
          · have hne : (xs[k]?.getD 0 != ys[k]?.getD 0) = false := by simp [he]
            have HE : Hid (xs[k]?.getD 0 = ys[k]?.getD 0) := he
            clear he hc1 hc2
            go_wp2
            go_region
            all_goals (try go_wp2)
            all_goals
              go_roundw
              case rel => exact ⟨k + 1, by omega, by go_num, eqI_step (by rw [Hx.out, Hy.out]) (by rw [Hx.out]; exact hlt) HT.out HE.out, by repeat (first | exact hbel | apply Below.drew)⟩
              case measure => simp [intOf]; omega
          · have hne : (xs[k]?.getD 0 != ys[k]?.getD 0) = true := by simp [he]
            have HE : Hid (¬ xs[k]?.getD 0 = ys[k]?.getD 0) := he
            clear he hc1 hc2
            go_wp2
            go_region
            all_goals (try go_wp2)
            all_goals
              go_ret
              exact ⟨ret_bool (neI_of_at HE.out).symm, by repeat (first | exact hbel | apply Below.drew)⟩
        · obtain rfl : k = la := by omega
          go_wp2
          go_ret
          exact ⟨ret_bool (eqI_end Hx.out Hy.out HT.out).symm, hbel⟩
  · have hbne : ((la : Int) != (lb : Int)) = true := by simp; omega
    have e : decide (xs = ys) = false := by
      rw [decide_eq_false_iff_not]; intro e; subst e; exact hl (Hx.out.symm.trans Hy.out)
    clear ha hb
    go_enter Tryz.func138, Tryz.ntmps138
    go_wp2
    go_ret
    exact ⟨ret_bool e.symm, Below.refl _ _⟩
/-- The two boxes lie there, and nothing elder has changed. -/
structure Boxes (w : World) (A B : Array Value) (t : TypeId) (W : World) : Prop where
  fst : Blk W w.heap.size A t
  snd : Blk W (w.heap.size + 1) B t
  bel : Below w.heap.size w W
theorem Boxes.below {w W W' : World} {A B : Array Value} {t : TypeId} (h : Boxes w A B t W) (b : Below W.heap.size W W') : Boxes w A B t W' := ⟨h.fst.below b, h.snd.below b, Below.next h.bel b⟩
theorem Boxes.drew {w W : World} {A B : Array Value} {t : TypeId} (h : Boxes w A B t W) : Boxes w A B t W.drew := ⟨h.fst, h.snd, h.bel.drew⟩
end Go.Proofs.YtgkbhhlkaifnoaaGreatDoor
/- The walks through the program's SketchSame. No statement of the seat is proved here. -/
namespace Go.Proofs.YtgkbhhlkaifnoaaGreatDoor
open Go.RowKit
def numsEq (s t : Sk) : Bool := decide (s.count = t.count ∧ s.sum = t.sum ∧ s.min = t.min ∧ s.max = t.max)
set_option maxRecDepth 200000 in
set_option maxHeartbeats 1000000 in
theorem sameNumbers_any (v u : Value) (s t : Sk) (F G : List Nat) (w : World) (h : RdSk w v s F) (k : RdSk w u t G) :
    Calls Tryz.prog 129 #[v, u] w fun e w' => e = .returned (.bool (numsEq s t)) ∧ Below w.heap.size w w' := by
  obtain ⟨a1, n1, c1, a2, n2, c2, a3, n3, c3, F1, F2, F3, rfl, _⟩ := h
  obtain ⟨b1, m1, d1, b2, m2, d2, b3, m3, d3, G1, G2, G3, rfl, _⟩ := k
  have HT : Hid (_ ∧ _ ∧ _) := two_made w #[.int .i64 s.count, .int .i64 s.sum, .int .i64 s.min, .int .i64 s.max, .slice a1 n1 c1, .slice a2 n2 c2, .slice a3 n3 c3] #[.int .i64 t.count, .int .i64 t.sum, .int .i64 t.min, .int .i64 t.max, .slice b1 m1 d1, .slice b2 m2 d2, .slice b3 m3 d3] 31 31
  obtain ⟨d, hd⟩ : ∃ d, d = numsEq s t := ⟨_, rfl⟩
  rw [← hd]
  have HD : Hid (d = decide (s.count = t.count ∧ s.sum = t.sum ∧ s.min = t.min ∧ s.max = t.max)) := hd
  clear hd
  go_enter Tryz.func129, Tryz.ntmps129
  by_cases q1 : s.count = t.count
  rotate_left
  · have q' : (s.count == t.count) = false := by simpa using q1
    have HN : Hid (d = false) := by show d = _; rw [HD.out]; exact dec_false (fun e => q1 e.1)
    clear q1
    go_wp2
    go_ret
    exact ⟨ret_bool HN.out.symm, HT.out.2.2⟩
  have Q1 : Hid (s.count = t.count) := q1
  have q1' : (s.count == t.count) = true := by simpa using q1
  clear q1
  by_cases q2 : s.sum = t.sum
  rotate_left
  · have q' : (s.sum == t.sum) = false := by simpa using q2
    have HN : Hid (d = false) := by show d = _; rw [HD.out]; exact dec_false (fun e => q2 e.2.1)
    clear q2
    go_wp2
    go_ret
    exact ⟨ret_bool HN.out.symm, HT.out.2.2⟩
  have Q2 : Hid (s.sum = t.sum) := q2
  have q2' : (s.sum == t.sum) = true := by simpa using q2
  clear q2
  by_cases q3 : s.min = t.min
  rotate_left
  · have q' : (s.min == t.min) = false := by simpa using q3
    have HN : Hid (d = false) := by show d = _; rw [HD.out]; exact dec_false (fun e => q3 e.2.2.1)
    clear q3
    go_wp2
    go_ret
    exact ⟨ret_bool HN.out.symm, HT.out.2.2⟩
  have Q3 : Hid (s.min = t.min) := q3
  have q3' : (s.min == t.min) = true := by simpa using q3
  clear q3
  by_cases q4 : s.max = t.max
  rotate_left
  · have q' : (s.max == t.max) = false := by simpa using q4
    have HN : Hid (d = false) := by show d = _; rw [HD.out]; exact dec_false (fun e => q4 e.2.2.2)
    clear q4
    go_wp2
    go_ret
    exact ⟨ret_bool HN.out.symm, HT.out.2.2⟩
  have Q4 : Hid (s.max = t.max) := q4
  have q4' : (s.max == t.max) = true := by simpa using q4
  clear q4
  have HN : Hid (d = true) := by show d = _; rw [HD.out]; exact dec_true ⟨Q1.out, Q2.out, Q3.out, Q4.out⟩
  go_wp2
  go_ret
  exact ⟨ret_bool HN.out.symm, HT.out.2.2⟩
set_option maxRecDepth 200000 in
set_option maxHeartbeats 2000000 in
theorem eqFunc_any (a b : Option Addr) (la lb ca cb : Nat) (xs ys : List (List Int)) (F G : List Nat) (w : World) (ha : RdII w a la xs F) (hb : RdII w b lb ys G) (hla : la ≤ 140737488355328) (hlb : lb ≤ 140737488355328)
    (hxr : ∀ z ∈ xs, z.length ≤ 140737488355328) (hyr : ∀ z ∈ ys, z.length ≤ 140737488355328) :
    Calls Tryz.prog 139 #[.slice a la ca, .slice b lb cb, .func (.func 138) #[] #[]] w fun e w' => e = .returned (.bool (decide (xs = ys))) ∧ Below w.heap.size w w' := by
  have Hx : Hid (xs.length = la) := ha.length
  have Hy : Hid (ys.length = lb) := hb.length
  have Hxr : Hid (∀ z ∈ xs, z.length ≤ 140737488355328) := hxr
  have Hyr : Hid (∀ z ∈ ys, z.length ≤ 140737488355328) := hyr
  clear hxr hyr
  by_cases hl : la = lb
  · subst hl
    have hbne : ((la : Int) != (la : Int)) = false := by simp
    by_cases h0 : la = 0
    · subst h0
      have ex : xs = [] := List.eq_nil_of_length_eq_zero ha.length
      have ey : ys = [] := List.eq_nil_of_length_eq_zero hb.length
      clear ha hb
      go_enter Tryz.func139, Tryz.ntmps139
      go_wp2
      refine wp_loop_rounds 1 ?_
      rw [rounds_succ]
      go_wp2
      go_ret
      exact ⟨ret_bool (by rw [ex, ey]; rfl), Below.refl _ _⟩
    · obtain ⟨b1, o1, F1, rfl, hm1⟩ : ∃ b off F', a = some ⟨b, off, none⟩ ∧ RdM w (xs.map ints) b off F' := by
        rcases ha.cells with h | ⟨b, off, F', _, h1, _, h2⟩
        · exact absurd h.1 h0
        · exact ⟨b, off, F', h1, h2⟩
      obtain ⟨b2, o2, F2, rfl, hm2⟩ : ∃ b' off F', b = some ⟨b', off, none⟩ ∧ RdM w (ys.map ints) b' off F' := by
        rcases hb.cells with h | ⟨b, off, F', _, h1, _, h2⟩
        · exact absurd h.1 h0
        · exact ⟨b, off, F', h1, h2⟩
      have HM1 : Hid (RdM w (xs.map ints) b1 o1 F1) := hm1
      have HM2 : Hid (RdM w (ys.map ints) b2 o2 F2) := hm2
      clear ha hb hm1 hm2
      go_enter Tryz.func139, Tryz.ntmps139
      go_wp2
      go_loopw [17] (fun i wr => ∃ k : Nat, k ≤ la ∧ i = .int .i64 k ∧ Hid (xs.take k = ys.take k) ∧ Hid (Below w.heap.size w wr)) (fun i _ => la - (intOf i).toNat)
      case atStart => exact ⟨0, by omega, rfl, rfl, Below.refl _ _⟩
      case round =>
        obtain ⟨k, hk, rfl, HT, HB⟩ := hrel
        by_cases hlt : k < la
        · obtain ⟨a1, n1, c1, G1, hc1, hr1, _⟩ := RdII.row HM1.out Hx.out k hlt
          obtain ⟨a2, n2, c2, G2, hc2, hr2, _⟩ := RdII.row HM2.out Hy.out k hlt
          have hb1 : b1 < w.heap.size := World.block_lt_of_cell? _ _ hc1
          have hb2 : b2 < w.heap.size := World.block_lt_of_cell? _ _ hc2
          have d1 : wr.cell? ⟨b1, o1 + k, none⟩ = some (.slice a1 n1 c1) := (HB.out.cell (by exact hb1)).trans hc1
          have d2 : wr.cell? ⟨b2, o2 + k, none⟩ = some (.slice a2 n2 c2) := (HB.out.cell (by exact hb2)).trans hc2
          have HQ : Hid (RdI w a1 n1 (xs.getD k []) G1 ∧ RdI w a2 n2 (ys.getD k []) G2 ∧ n1 ≤ 140737488355328 ∧ n2 ≤ 140737488355328) := ⟨hr1, hr2, by rw [← hr1.length]; exact Hxr.out _ (mem_getD (by rw [Hx.out]; exact hlt)), by rw [← hr2.length]; exact Hyr.out _ (mem_getD (by rw [Hy.out]; exact hlt))⟩
          clear hr1 hr2 hc1 hc2
          go_wp2_with fail
          refine (slEqual_any a1 a2 n1 n2 c1 c2 _ _ G1 G2 _ (HQ.out.1.below HB.out) (HQ.out.2.1.below HB.out) HQ.out.2.2.1 HQ.out.2.2.2).mono ?_
          rintro e w1 ⟨rfl, hbz⟩
          have HB1 : Hid (Below w.heap.size w w1) := Below.next HB.out hbz
          clear hbz
          cases ee : decide (xs.getD k [] = ys.getD k [])
          · have HE : Hid (¬ xs.getD k [] = ys.getD k []) := (show ¬ xs.getD k [] = ys.getD k [] from of_decide_eq_false ee)
            clear ee
            go_wp2
            go_ret
            exact ⟨ret_bool (neII_of_at HE.out).symm, HB1.out⟩
          · have HE : Hid (xs.take (k + 1) = ys.take (k + 1)) := eqII_step (by rw [Hx.out, Hy.out]) (by rw [Hx.out]; exact hlt) HT.out (of_decide_eq_true ee)
            clear ee
            go_wp2
            go_roundw
            case rel => exact ⟨k + 1, by omega, by go_num, HE, HB1⟩
            case measure => simp [intOf]; omega
        · obtain rfl : k = la := by omega
          go_wp2
          go_ret
          exact ⟨ret_bool (eqII_end Hx.out Hy.out HT.out).symm, HB.out⟩
  · have hbne : ((la : Int) != (lb : Int)) = true := by simp; omega
    have e : decide (xs = ys) = false := by
      rw [decide_eq_false_iff_not]; intro e; subst e; exact hl (Hx.out.symm.trans Hy.out)
    clear ha hb
    go_enter Tryz.func139, Tryz.ntmps139
    go_wp2
    go_ret
    exact ⟨ret_bool e.symm, Below.refl _ _⟩
def listsEq (s t : Sk) : Bool := decide (s.hist = t.hist ∧ s.regs = t.regs ∧ s.rows = t.rows)
set_option maxRecDepth 200000 in
set_option maxHeartbeats 2000000 in
theorem sameLists_any (v u : Value) (s t : Sk) (F G : List Nat) (w : World) (h : RdSk w v s F) (k : RdSk w u t G) (hw : s.wide) (kw : t.wide) :
    Calls Tryz.prog 130 #[v, u] w fun e w' => e = .returned (.bool (listsEq s t)) ∧ Below w.heap.size w w' := by
  obtain ⟨a1, n1, c1, a2, n2, c2, a3, n3, c3, F1, F2, F3, rfl, h1, h2, h3, _⟩ := h
  obtain ⟨b1, m1, d1, b2, m2, d2, b3, m3, d3, G1, G2, G3, rfl, k1, k2, k3, _⟩ := k
  have H1 : Hid (RdI w a1 n1 s.hist F1 ∧ RdI w b1 m1 t.hist G1 ∧ n1 ≤ 140737488355328 ∧ m1 ≤ 140737488355328) := ⟨h1, k1, by rw [← h1.length]; exact hw.hist, by rw [← k1.length]; exact kw.hist⟩
  have H2 : Hid (RdI w a2 n2 s.regs F2 ∧ RdI w b2 m2 t.regs G2 ∧ n2 ≤ 140737488355328 ∧ m2 ≤ 140737488355328) := ⟨h2, k2, by rw [← h2.length]; exact hw.regs, by rw [← k2.length]; exact kw.regs⟩
  have H3 : Hid (RdII w a3 n3 s.rows F3 ∧ RdII w b3 m3 t.rows G3 ∧ n3 ≤ 140737488355328 ∧ m3 ≤ 140737488355328) := ⟨h3, k3, by rw [← h3.length]; exact hw.rows, by rw [← k3.length]; exact kw.rows⟩
  have hn3 : n3 ≤ 140737488355328 := H3.out.2.2.1
  have hm3 : m3 ≤ 140737488355328 := H3.out.2.2.2
  have HW : Hid (s.wide ∧ t.wide) := ⟨hw, kw⟩
  clear h1 h2 h3 k1 k2 k3 hw kw
  have HT : Hid (_ ∧ _ ∧ _) := two_made w #[.int .i64 s.count, .int .i64 s.sum, .int .i64 s.min, .int .i64 s.max, .slice a1 n1 c1, .slice a2 n2 c2, .slice a3 n3 c3] #[.int .i64 t.count, .int .i64 t.sum, .int .i64 t.min, .int .i64 t.max, .slice b1 m1 d1, .slice b2 m2 d2, .slice b3 m3 d3] 31 31
  obtain ⟨d, hd⟩ : ∃ d, d = listsEq s t := ⟨_, rfl⟩
  rw [← hd]
  have HD : Hid (d = decide (s.hist = t.hist ∧ s.regs = t.regs ∧ s.rows = t.rows)) := hd
  clear hd
  go_enter Tryz.func130, Tryz.ntmps130
  go_wp2_with fail
  refine (slEqual_any a1 b1 n1 m1 c1 d1 s.hist t.hist F1 G1 _ (H1.out.1.below HT.out.2.2) (H1.out.2.1.below HT.out.2.2) H1.out.2.2.1 H1.out.2.2.2).mono ?_
  rintro e w1 ⟨rfl, hb1⟩
  have HB1 : Hid (Boxes w #[.int .i64 s.count, .int .i64 s.sum, .int .i64 s.min, .int .i64 s.max, .slice a1 n1 c1, .slice a2 n2 c2, .slice a3 n3 c3] #[.int .i64 t.count, .int .i64 t.sum, .int .i64 t.min, .int .i64 t.max, .slice b1 m1 d1, .slice b2 m2 d2, .slice b3 m3 d3] 31 w1) := ⟨HT.out.1.below hb1, HT.out.2.1.below hb1, Below.next HT.out.2.2 hb1⟩
  clear hb1 HT
  cases e5 : decide (s.hist = t.hist)
  · have HN : Hid (d = false) := by show d = _; rw [HD.out]; exact dec_false (fun e => by rw [e.1] at e5; simp at e5)
    clear e5
    go_wp2
    go_ret
    exact ⟨ret_bool HN.out.symm, HB1.out.bel⟩
  have Q5 : Hid (s.hist = t.hist) := (show s.hist = t.hist from of_decide_eq_true e5)
  clear e5
  have x5 := HB1.out.fst.cell 5
  have y5 := HB1.out.snd.cell 5
  simp only [aT, aS, aZ] at x5 y5
  go_wp2_with fail
  refine (slEqual_any a2 b2 n2 m2 c2 d2 s.regs t.regs F2 G2 _ (H2.out.1.below HB1.out.bel) (H2.out.2.1.below HB1.out.bel) H2.out.2.2.1 H2.out.2.2.2).mono ?_
  rintro e w2 ⟨rfl, hb2⟩
  have HB2 : Hid (Boxes w #[.int .i64 s.count, .int .i64 s.sum, .int .i64 s.min, .int .i64 s.max, .slice a1 n1 c1, .slice a2 n2 c2, .slice a3 n3 c3] #[.int .i64 t.count, .int .i64 t.sum, .int .i64 t.min, .int .i64 t.max, .slice b1 m1 d1, .slice b2 m2 d2, .slice b3 m3 d3] 31 w2) := HB1.out.below hb2
  clear hb2 x5 y5 HB1
  cases e6 : decide (s.regs = t.regs)
  · have HN : Hid (d = false) := by show d = _; rw [HD.out]; exact dec_false (fun e => by rw [e.2.1] at e6; simp at e6)
    clear e6
    go_wp2
    go_ret
    exact ⟨ret_bool HN.out.symm, HB2.out.bel⟩
  have Q6 : Hid (s.regs = t.regs) := (show s.regs = t.regs from of_decide_eq_true e6)
  clear e6
  have x6 := HB2.out.fst.cell 6
  have y6 := HB2.out.snd.cell 6
  simp only [aT, aS, aZ] at x6 y6
  go_wp2_with fail
  refine (eqFunc_any a3 b3 n3 m3 c3 d3 s.rows t.rows F3 G3 _ (H3.out.1.below HB2.out.bel) (H3.out.2.1.below HB2.out.bel) hn3 hm3 HW.out.1.row HW.out.2.row).mono ?_
  rintro e w3 ⟨rfl, hb3⟩
  have HB3 : Hid (Below w.heap.size w w3) := Below.next HB2.out.bel hb3
  clear hb3 x6 y6
  obtain ⟨d3', hd3⟩ : ∃ d, d = decide (s.rows = t.rows) := ⟨_, rfl⟩
  rw [← hd3]
  have HN : Hid (d = d3') := by
    show d = _
    rw [HD.out, hd3]
    by_cases e : s.rows = t.rows
    · rw [dec_true e, dec_true ⟨Q5.out, Q6.out, e⟩]
    · rw [dec_false e, dec_false (fun x => e x.2.2)]
  clear hd3
  go_wp2
  go_ret
  exact ⟨ret_bool HN.out.symm, HB3.out⟩
theorem sk_tl {s : Sk} (h : s.shaped = true) : skOf s.tl = s := by
  obtain ⟨h0, h1, h2, h3, h4, h5, h6, h7, r0, r1, r2, r3, r4, r5, r6, r7, p0, p1, p2, p3, q0, q1, q2, q3, e⟩ := Sk.written h
  clear h
  generalize s.count = c at e
  generalize s.sum = sm at e
  generalize s.min = mn at e
  generalize s.max = mx at e
  subst e
  rfl
theorem tl_inj {s t : Sk} (hs : s.shaped = true) (ht : t.shaped = true) : decide (s.tl = t.tl) = decide (s = t) := by
  by_cases e : s = t
  · subst e; simp
  · rw [dec_false e]
    exact dec_false (fun x => e (by rw [← sk_tl hs, ← sk_tl ht, x]))
set_option maxRecDepth 200000 in
set_option maxHeartbeats 4000000 in
theorem sameImpl_any (v u : Value) (s t : Sk) (F G : List Nat) (w : World) (h : RdSk w v s F) (k : RdSk w u t G) (hw : s.wide) (kw : t.wide) :
    Calls Tryz.prog 120 #[v, u] w fun e w' => e = .returned (.bool (decide (s = t))) ∧ Below w.heap.size w w' := by
  have HH : Hid (RdSk w v s F ∧ RdSk w u t G ∧ s.wide ∧ t.wide) := ⟨h, k, hw, kw⟩
  obtain ⟨cs, rfl, hc7, hc1⟩ := h.cells
  obtain ⟨ds, rfl, hd7, hd1⟩ := k.cells
  have HC : Hid (cs.size = 7 ∧ ds.size = 7) := ⟨hc7, hd7⟩
  have HT : Hid (_ ∧ _ ∧ _) := two_made w cs ds 31 31
  obtain ⟨d, hd⟩ : ∃ d, d = decide (s = t) := ⟨_, rfl⟩
  rw [← hd]
  have HD : Hid (d = decide (s = t)) := hd
  clear h k hw kw hc7 hc1 hd7 hd1 hd
  go_enter Tryz.func120, Tryz.ntmps120
  go_wp2_with (first | go_skip | (with_reducible refine stopLoad 31 rfl ?_) | (with_reducible refine stopLoad 171 rfl ?_) | (with_reducible refine stopStore 171 rfl ?_))
  refine load_any 31 w.heap.size cs 31 _ HT.out.1 rfl rfl rfl Tryz.underlying31 rfl (skSize HC.out.1) ?_
  go_wp2_with fail
  refine (tallyOf_any _ s F _ (HH.out.1.below HT.out.2.2) HH.out.2.2.1).mono ?_
  rintro e w1 ⟨xs, rfl, xl, xe, b1⟩
  have HX : Hid (xs.length = 28 ∧ (s.shaped = true → xs = s.tl)) := ⟨xl, xe⟩
  have HW1 : Hid (Boxes w cs ds 31 w1) := ⟨HT.out.1.below b1, HT.out.2.1.below b1, Below.next HT.out.2.2 b1⟩
  clear xl xe b1 HT
  go_wp2_with (first | go_skip | (with_reducible refine stopLoad 31 rfl ?_) | (with_reducible refine stopLoad 171 rfl ?_) | (with_reducible refine stopStore 171 rfl ?_))
  refine store_fresh 171 w1.heap.size rfl (tc (List.replicate 28 0)) (tc xs) 171 rfl rfl rfl rfl (tallySize HX.out.1) (by rw [tc_size, tc_size, HX.out.1]; rfl) (tc_one _) ?_
  intro W2 hg2 b2
  have HW2 : Hid (Boxes w cs ds 31 W2 ∧ Blk W2 w1.heap.size (tc xs) 171) := ⟨HW1.out.below b2, hg2⟩
  clear hg2 b2 HW1
  go_wp2_with (first | go_skip | (with_reducible refine stopLoad 31 rfl ?_) | (with_reducible refine stopLoad 171 rfl ?_) | (with_reducible refine stopStore 171 rfl ?_))
  refine load_any 31 (w.heap.size + 1) ds 31 _ HW2.out.1.snd rfl rfl rfl Tryz.underlying31 rfl (skSize HC.out.2) ?_
  go_wp2_with fail
  refine (tallyOf_any _ t G _ (HH.out.2.1.below HW2.out.1.bel) HH.out.2.2.2).mono ?_
  rintro e w3 ⟨ys, rfl, xl, xe, b3⟩
  have HY : Hid (ys.length = 28 ∧ (t.shaped = true → ys = t.tl)) := ⟨xl, xe⟩
  have HW3 : Hid (Boxes w cs ds 31 w3 ∧ Blk w3 w1.heap.size (tc xs) 171) := ⟨HW2.out.1.below b3, HW2.out.2.below b3⟩
  clear xl xe b3 HW2
  go_wp2_with (first | go_skip | (with_reducible refine stopLoad 31 rfl ?_) | (with_reducible refine stopLoad 171 rfl ?_) | (with_reducible refine stopStore 171 rfl ?_))
  refine store_fresh 171 w3.heap.size rfl (tc (List.replicate 28 0)) (tc ys) 171 rfl rfl rfl rfl (tallySize HY.out.1) (by rw [tc_size, tc_size, HY.out.1]; rfl) (tc_one _) ?_
  intro W4 hg4 b4
  have HW4 : Hid (Boxes w cs ds 31 W4 ∧ Blk W4 w1.heap.size (tc xs) 171 ∧ Blk W4 w3.heap.size (tc ys) 171) := ⟨HW3.out.1.below b4, HW3.out.2.below b4, hg4⟩
  clear hg4 b4 HW3
  by_cases both : s.shaped = true ∧ t.shaped = true
  · have HE : Hid (d = decide (xs = ys)) := by show d = _; rw [HD.out, HX.out.2 both.1, HY.out.2 both.2]; exact (tl_inj both.1 both.2).symm
    obtain ⟨sa, sb⟩ := both
    rw [sa, sb]
    clear sa sb
    go_wp2_with (first | go_skip | (with_reducible refine stopLoad 31 rfl ?_) | (with_reducible refine stopLoad 171 rfl ?_) | (with_reducible refine stopStore 171 rfl ?_))
    refine load_any 171 w1.heap.size (tc xs) 171 _ HW4.out.2.1 rfl rfl rfl Tryz.underlying171 rfl (tallySize HX.out.1) ?_
    go_wp2_with (first | go_skip | (with_reducible refine stopLoad 31 rfl ?_) | (with_reducible refine stopLoad 171 rfl ?_) | (with_reducible refine stopStore 171 rfl ?_))
    refine load_any 171 w3.heap.size (tc ys) 171 _ HW4.out.2.2 rfl rfl rfl Tryz.underlying171 rfl (tallySize HY.out.1) ?_
    go_wp2_with fail
    refine (same_any xs ys _ HX.out.1 HY.out.1).mono ?_
    rintro e w5 ⟨rfl, b5⟩
    have HB5 : Hid (Below w.heap.size w w5) := Below.next HW4.out.1.bel b5
    rw [← HE.out]
    clear b5
    go_wp2
    go_ret
    exact ⟨rfl, HB5.out⟩
  · have hb : (s.shaped && t.shaped) = false := by
      cases e1 : s.shaped
      · rfl
      · cases e2 : t.shaped
        · rfl
        · exact absurd ⟨e1, e2⟩ both
    have rest : ∀ W (_ : W = W4), True := fun _ _ => trivial
    clear both rest
    cases sa : s.shaped
    · clear hb
      go_wp2_with (first | go_skip | (with_reducible refine stopLoad 31 rfl ?_) | (with_reducible refine stopLoad 171 rfl ?_) | (with_reducible refine stopStore 171 rfl ?_))
      refine load_any 31 w.heap.size cs 31 _ HW4.out.1.fst rfl rfl rfl Tryz.underlying31 rfl (skSize HC.out.1) ?_
      go_wp2_with (first | go_skip | (with_reducible refine stopLoad 31 rfl ?_) | (with_reducible refine stopLoad 171 rfl ?_) | (with_reducible refine stopStore 171 rfl ?_))
      refine load_any 31 (w.heap.size + 1) ds 31 _ HW4.out.1.snd rfl rfl rfl Tryz.underlying31 rfl (skSize HC.out.2) ?_
      go_wp2_with fail
      refine (sameNumbers_any _ _ s t F G _ (HH.out.1.below HW4.out.1.bel) (HH.out.2.1.below HW4.out.1.bel)).mono ?_
      rintro e w5 ⟨rfl, b5⟩
      have HB5 : Hid (Boxes w cs ds 31 w5) := HW4.out.1.below b5
      clear b5
      cases en : numsEq s t
      · have HN : Hid (d = false) := by show d = _; rw [HD.out]; exact dec_false (fun e => by rw [e] at en; simp [numsEq] at en)
        clear en
        go_wp2
        go_ret
        exact ⟨ret_bool HN.out.symm, HB5.out.bel⟩
      have HN1 : Hid (s.count = t.count ∧ s.sum = t.sum ∧ s.min = t.min ∧ s.max = t.max) := (show s.count = t.count ∧ s.sum = t.sum ∧ s.min = t.min ∧ s.max = t.max from of_decide_eq_true en)
      clear en
      go_wp2_with (first | go_skip | (with_reducible refine stopLoad 31 rfl ?_) | (with_reducible refine stopLoad 171 rfl ?_) | (with_reducible refine stopStore 171 rfl ?_))
      refine load_any 31 w.heap.size cs 31 _ HB5.out.fst rfl rfl rfl Tryz.underlying31 rfl (skSize HC.out.1) ?_
      go_wp2_with (first | go_skip | (with_reducible refine stopLoad 31 rfl ?_) | (with_reducible refine stopLoad 171 rfl ?_) | (with_reducible refine stopStore 171 rfl ?_))
      refine load_any 31 (w.heap.size + 1) ds 31 _ HB5.out.snd rfl rfl rfl Tryz.underlying31 rfl (skSize HC.out.2) ?_
      go_wp2_with fail
      refine (sameLists_any _ _ s t F G _ (HH.out.1.below HB5.out.bel) (HH.out.2.1.below HB5.out.bel) HH.out.2.2.1 HH.out.2.2.2).mono ?_
      rintro e w6 ⟨rfl, b6⟩
      have HB6 : Hid (Below w.heap.size w w6) := Below.next HB5.out.bel b6
      clear b6
      obtain ⟨dl, hdl⟩ : ∃ d, d = listsEq s t := ⟨_, rfl⟩
      rw [← hdl]
      have HN : Hid (d = dl) := by
        show d = _
        rw [HD.out, hdl]
        unfold listsEq
        by_cases e : s.hist = t.hist ∧ s.regs = t.regs ∧ s.rows = t.rows
        · rw [dec_true e, dec_true (Sk.eq_of HN1.out.1 HN1.out.2.1 HN1.out.2.2.1 HN1.out.2.2.2 e.1 e.2.1 e.2.2)]
        · rw [dec_false e]; exact dec_false (fun x => e (by rw [x]; exact ⟨rfl, rfl, rfl⟩))
      clear hdl
      go_wp2
      go_ret
      exact ⟨ret_bool HN.out.symm, HB6.out⟩
    · rw [sa] at hb
      have sb : t.shaped = false := by simpa using hb
      rw [sb]
      clear hb sa sb
      go_wp2_with (first | go_skip | (with_reducible refine stopLoad 31 rfl ?_) | (with_reducible refine stopLoad 171 rfl ?_) | (with_reducible refine stopStore 171 rfl ?_))
      refine load_any 31 w.heap.size cs 31 _ HW4.out.1.fst rfl rfl rfl Tryz.underlying31 rfl (skSize HC.out.1) ?_
      go_wp2_with (first | go_skip | (with_reducible refine stopLoad 31 rfl ?_) | (with_reducible refine stopLoad 171 rfl ?_) | (with_reducible refine stopStore 171 rfl ?_))
      refine load_any 31 (w.heap.size + 1) ds 31 _ HW4.out.1.snd rfl rfl rfl Tryz.underlying31 rfl (skSize HC.out.2) ?_
      go_wp2_with fail
      refine (sameNumbers_any _ _ s t F G _ (HH.out.1.below HW4.out.1.bel) (HH.out.2.1.below HW4.out.1.bel)).mono ?_
      rintro e w5 ⟨rfl, b5⟩
      have HB5 : Hid (Boxes w cs ds 31 w5) := HW4.out.1.below b5
      clear b5
      cases en : numsEq s t
      · have HN : Hid (d = false) := by show d = _; rw [HD.out]; exact dec_false (fun e => by rw [e] at en; simp [numsEq] at en)
        clear en
        go_wp2
        go_ret
        exact ⟨ret_bool HN.out.symm, HB5.out.bel⟩
      have HN1 : Hid (s.count = t.count ∧ s.sum = t.sum ∧ s.min = t.min ∧ s.max = t.max) := (show s.count = t.count ∧ s.sum = t.sum ∧ s.min = t.min ∧ s.max = t.max from of_decide_eq_true en)
      clear en
      go_wp2_with (first | go_skip | (with_reducible refine stopLoad 31 rfl ?_) | (with_reducible refine stopLoad 171 rfl ?_) | (with_reducible refine stopStore 171 rfl ?_))
      refine load_any 31 w.heap.size cs 31 _ HB5.out.fst rfl rfl rfl Tryz.underlying31 rfl (skSize HC.out.1) ?_
      go_wp2_with (first | go_skip | (with_reducible refine stopLoad 31 rfl ?_) | (with_reducible refine stopLoad 171 rfl ?_) | (with_reducible refine stopStore 171 rfl ?_))
      refine load_any 31 (w.heap.size + 1) ds 31 _ HB5.out.snd rfl rfl rfl Tryz.underlying31 rfl (skSize HC.out.2) ?_
      go_wp2_with fail
      refine (sameLists_any _ _ s t F G _ (HH.out.1.below HB5.out.bel) (HH.out.2.1.below HB5.out.bel) HH.out.2.2.1 HH.out.2.2.2).mono ?_
      rintro e w6 ⟨rfl, b6⟩
      have HB6 : Hid (Below w.heap.size w w6) := Below.next HB5.out.bel b6
      clear b6
      obtain ⟨dl, hdl⟩ : ∃ d, d = listsEq s t := ⟨_, rfl⟩
      rw [← hdl]
      have HN : Hid (d = dl) := by
        show d = _
        rw [HD.out, hdl]
        unfold listsEq
        by_cases e : s.hist = t.hist ∧ s.regs = t.regs ∧ s.rows = t.rows
        · rw [dec_true e, dec_true (Sk.eq_of HN1.out.1 HN1.out.2.1 HN1.out.2.2.1 HN1.out.2.2.2 e.1 e.2.1 e.2.2)]
        · rw [dec_false e]; exact dec_false (fun x => e (by rw [x]; exact ⟨rfl, rfl, rfl⟩))
      clear hdl
      go_wp2
      go_ret
      exact ⟨ret_bool HN.out.symm, HB6.out⟩
end Go.Proofs.YtgkbhhlkaifnoaaGreatDoor
/- The walks through the program's SketchOk. No statement of the seat is proved here. -/
namespace Go.Proofs.YtgkbhhlkaifnoaaGreatDoor
open Go.RowKit
set_option maxRecDepth 200000 in
set_option maxHeartbeats 1000000 in
theorem okImpl_any (v : Value) (s : Sk) (F : List Nat) (w : World) (h : RdSk w v s F) (hw : s.wide) :
    Calls Tryz.prog 103 #[v] w fun e w' => e = .returned (.bool s.ok) ∧ Below w.heap.size w w' := by
  have HH : Hid (RdSk w v s F ∧ s.wide) := ⟨h, hw⟩
  obtain ⟨a1, n1, c1, a2, n2, c2, a3, n3, c3, F1, F2, F3, rfl, h1, h2, h3, _⟩ := h
  clear h1 h2 h3 hw
  have HT : Hid (Below w.heap.size w (w.alloc (.cells #[.int .i64 s.count, .int .i64 s.sum, .int .i64 s.min, .int .i64 s.max, .slice a1 n1 c1, .slice a2 n2 c2, .slice a3 n3 c3] 31))) := (Below.refl _ _).alloc (Nat.le_refl _) _
  go_enter Tryz.func103, Tryz.ntmps103
  go_wp2_with fail
  refine (okTally_any _ s F _ (HH.out.1.below HT.out) HH.out.2).mono ?_
  rintro e w1 ⟨xs, ys, rfl, _, hy, hx, _, hb1⟩
  have HB : Hid (ys.length = 28 ∧ okT s xs = s.ok ∧ Below w.heap.size w w1) := ⟨hy, okT_ok hx, Below.next HT.out hb1⟩
  clear hb1 hy hx
  go_wp2_with (with_reducible refine stopStore 171 rfl ?_)
  refine store_fresh 171 w1.heap.size rfl (tc (List.replicate 28 0)) (tc ys) 171 rfl rfl rfl rfl (tallySize HB.out.1) (by rw [tc_size, tc_size, HB.out.1]; rfl) (tc_one _) ?_
  intro W2 _ hb2
  have HB2 : Hid (Below w.heap.size w W2) := Below.next HB.out.2.2 hb2
  clear hb2
  go_wp2
  go_ret
  exact ⟨ret_bool HB.out.2.1, HB2.out⟩
end Go.Proofs.YtgkbhhlkaifnoaaGreatDoor
/- Sets of numbers: what makes two of them the same, and what is made of both. No statement of the seat is proved here. -/
namespace Go.Proofs.YtgkbhhlkaifnoaaGreatDoor
open Go.RowKit
/-- Right from l on: the spans rise, with a gap between any two. -/
def okFrom : Int → Sp → Prop
  | _, [] => True
  | l, p :: ps => (l ≤ p.1 ∧ p.1 ≤ p.2 ∧ p.2 ≤ 9999) ∧ okFrom (p.2 + 2) ps
def endOf : Int → Sp → Int
  | l, [] => l
  | _, p :: ps => endOf (p.2 + 2) ps
theorem okFrom_append : ∀ (o r : Sp) (l : Int), okFrom l (o ++ r) ↔ okFrom l o ∧ okFrom (endOf l o) r
  | [], r, l => by simp [okFrom, endOf]
  | p :: o, r, l => by simp only [List.cons_append, okFrom, endOf, okFrom_append o r, and_assoc]
theorem endOf_snoc : ∀ (o : Sp) (t : Int × Int) (l : Int), endOf l (o ++ [t]) = t.2 + 2
  | [], t, l => rfl
  | p :: o, t, l => by simp only [List.cons_append, endOf, endOf_snoc o t]
theorem okFrom_mono : ∀ {ps : Sp} {l m : Int}, okFrom l ps → m ≤ l → okFrom m ps
  | [], _, _, _, _ => trivial
  | p :: ps, l, m, h, hm => ⟨⟨by have := h.1; omega, h.1.2⟩, h.2⟩
theorem has_cons (p : Int × Int) (ps : Sp) (n : Int) : Sp.has (p :: ps) n = (decide (p.1 ≤ n ∧ n ≤ p.2) || Sp.has ps n) := rfl
theorem has_nil (n : Int) : Sp.has [] n = false := rfl
theorem has_append (ps qs : Sp) (n : Int) : Sp.has (ps ++ qs) n = (Sp.has ps n || Sp.has qs n) := by simp [Sp.has]
/-- n is in ps. -/
def InS (ps : Sp) (n : Int) : Prop := ps.has n = true
theorem inS_cons {p : Int × Int} {ps : Sp} {n : Int} : InS (p :: ps) n ↔ (p.1 ≤ n ∧ n ≤ p.2) ∨ InS ps n := by unfold InS; rw [has_cons]; simp
theorem inS_nil {n : Int} : ¬ InS [] n := by unfold InS; rw [has_nil]; simp
theorem inS_append {ps qs : Sp} {n : Int} : InS (ps ++ qs) n ↔ InS ps n ∨ InS qs n := by unfold InS; rw [has_append]; simp
theorem inS_ge : ∀ {ps : Sp} {l n : Int}, okFrom l ps → InS ps n → l ≤ n
  | [], _, _, _, h => (inS_nil h).elim
  | p :: ps, l, n, h, hn => by
    rcases inS_cons.1 hn with e | e
    · have := h.1; omega
    · have := inS_ge h.2 e; have := h.1; omega
theorem sp_ext : ∀ {ps qs : Sp} {l m : Int}, okFrom l ps → okFrom m qs → (∀ n, InS ps n ↔ InS qs n) → ps = qs
  | [], [], _, _, _, _, _ => rfl
  | [], q :: qs, _, _, _, h2, h => by
    have := (h q.1).2 (inS_cons.2 (.inl ⟨Int.le_refl _, h2.1.2.1⟩))
    exact (inS_nil this).elim
  | p :: ps, [], _, _, h1, _, h => by
    have := (h p.1).1 (inS_cons.2 (.inl ⟨Int.le_refl _, h1.1.2.1⟩))
    exact (inS_nil this).elim
  | p :: ps, q :: qs, l, m, h1, h2, h => by
    obtain ⟨⟨a1, a2, a3⟩, a4⟩ := h1
    obtain ⟨⟨b1, b2, b3⟩, b4⟩ := h2
    have e1 : p.1 = q.1 := by
      have x1 := inS_ge (ps := q :: qs) (l := q.1) ⟨⟨Int.le_refl _, b2, b3⟩, b4⟩ ((h p.1).1 (inS_cons.2 (.inl ⟨Int.le_refl _, a2⟩)))
      have x2 := inS_ge (ps := p :: ps) (l := p.1) ⟨⟨Int.le_refl _, a2, a3⟩, a4⟩ ((h q.1).2 (inS_cons.2 (.inl ⟨Int.le_refl _, b2⟩)))
      omega
    have e2 : p.2 = q.2 := by
      rcases Int.lt_trichotomy p.2 q.2 with c | c | c
      · rcases inS_cons.1 ((h (p.2 + 1)).2 (inS_cons.2 (.inl ⟨by omega, by omega⟩))) with e | e
        · omega
        · have := inS_ge a4 e; omega
      · exact c
      · rcases inS_cons.1 ((h (q.2 + 1)).1 (inS_cons.2 (.inl ⟨by omega, by omega⟩))) with e | e
        · omega
        · have := inS_ge b4 e; omega
    have e3 : ps = qs := sp_ext a4 b4 (fun n => by
      constructor
      · intro hn
        have := inS_ge a4 hn
        rcases inS_cons.1 ((h n).1 (inS_cons.2 (.inr hn))) with e | e
        · omega
        · exact e
      · intro hn
        have := inS_ge b4 hn
        rcases inS_cons.1 ((h n).2 (inS_cons.2 (.inr hn))) with e | e
        · omega
        · exact e)
    rw [e3, Prod.ext e1 e2]
/-- What is right, seen from the k-th span on. -/
def floorAt (ps : Sp) (k : Nat) : Int := if k = 0 then 0 else (ps.at (k - 1)).2 + 2
theorem okAt_iff (ps : Sp) (k : Nat) : ps.okAt k = true ↔ (if k = 0 then 0 else (ps.at (k - 1)).2 + 2) ≤ (ps.at k).1 ∧ 0 ≤ (ps.at k).1 ∧ (ps.at k).1 ≤ (ps.at k).2 ∧ (ps.at k).2 ≤ 9999 := by
  unfold Sp.okAt
  simp only [Bool.and_eq_true, Bool.or_eq_true, decide_eq_true_eq]
  split <;> omega
theorem okFrom_drop (ps : Sp) : ∀ (d k : Nat), k + d = ps.length → 0 ≤ floorAt ps k → ((∀ j, k ≤ j → j < ps.length → ps.okAt j = true) ↔ okFrom (floorAt ps k) (ps.drop k))
  | 0, k, hk, _ => by
    rw [List.drop_eq_nil_of_le (by omega)]
    exact ⟨fun _ => trivial, fun _ j h1 h2 => by omega⟩
  | d + 1, k, hk, h0 => by
    rw [drop_at (by omega), okFrom]
    have e : floorAt ps (k + 1) = (ps.at k).2 + 2 := by unfold floorAt; rw [if_neg (by omega), show k + 1 - 1 = k by omega]
    constructor
    · intro h
      have hk1 := (okAt_iff ps k).1 (h k (Nat.le_refl _) (by omega))
      refine ⟨⟨hk1.1, hk1.2.2⟩, ?_⟩
      rw [← e]
      exact (okFrom_drop ps d (k + 1) (by omega) (by rw [e]; omega)).1 (fun j h1 h2 => h j (by omega) h2)
    · rintro ⟨h1, h2⟩ j hj1 hj2
      by_cases c : j = k
      · subst c
        exact (okAt_iff ps j).2 ⟨h1.1, by omega, h1.2⟩
      · rw [← e] at h2
        exact (okFrom_drop ps d (k + 1) (by omega) (by rw [e]; omega)).2 h2 j (by omega) hj2
theorem ok_iff {ps : Sp} : ps.ok = true ↔ okFrom 0 ps := by
  have e := okFrom_drop ps ps.length 0 (by omega) (by simp [floorAt])
  simp only [floorAt, if_true, List.drop_zero] at e
  rw [← e]
  exact ⟨fun h j _ hj => Sp.ok_at h j hj, fun h => Sp.ok_all (fun j hj => h j (Nat.zero_le _) hj)⟩
theorem put_true_same : ∀ {ps : Sp} {x : Int × Int} {l : Int}, okFrom l ps → x.2 + 2 ≤ l → x.1 ≤ x.2 → put ps x true = ps
  | [], _, _, _, _, _ => rfl
  | p :: ps, x, l, h, hl, hx => by
    obtain ⟨⟨a1, a2, a3⟩, a4⟩ := h
    rw [put, if_neg (by omega), if_pos (by omega), put_true_same a4 (by omega) hx]
    rfl
theorem put_ok : ∀ {ps : Sp} {x : Int × Int} {l : Int}, okFrom l ps → l ≤ x.1 → x.1 ≤ x.2 → x.2 ≤ 9999 → okFrom l (put ps x false) ∧ ∀ n, InS (put ps x false) n ↔ InS ps n ∨ (x.1 ≤ n ∧ n ≤ x.2)
  | [], x, l, _, h1, h2, h3 => ⟨⟨⟨h1, h2, h3⟩, trivial⟩, fun n => by
      show InS [x] n ↔ _
      rw [inS_cons]
      exact ⟨fun h => h.symm.imp (fun e => e) (fun e => e), fun h => h.symm.imp (fun e => e) (fun e => e)⟩⟩
  | p :: ps, x, l, h, h1, h2, h3 => by
    obtain ⟨⟨a1, a2, a3⟩, a4⟩ := h
    rw [put]
    split
    · obtain ⟨i1, i2⟩ := put_ok a4 (by omega) h2 h3
      refine ⟨⟨⟨a1, a2, a3⟩, i1⟩, fun n => ?_⟩
      rw [inS_cons, inS_cons, i2, or_assoc]
    · split
      · rw [put_true_same (l := p.2 + 2) a4 (by omega) h2]
        refine ⟨⟨⟨h1, h2, h3⟩, ⟨⟨by omega, a2, a3⟩, a4⟩⟩, fun n => ?_⟩
        show InS (x :: p :: ps) n ↔ _
        rw [inS_cons (p := x)]
        exact or_comm
      · obtain ⟨i1, i2⟩ := put_ok (x := (min x.1 p.1, max x.2 p.2)) (l := l) (okFrom_mono a4 (by omega)) (by simp only; omega) (by simp only; omega) (by simp only; omega)
        refine ⟨i1, fun n => ?_⟩
        rw [i2, inS_cons]
        have : (min x.1 p.1 ≤ n ∧ n ≤ max x.2 p.2) ↔ (p.1 ≤ n ∧ n ≤ p.2) ∨ (x.1 ≤ n ∧ n ≤ x.2) := by omega
        rw [show ((min x.1 p.1, max x.2 p.2).1 ≤ n ∧ n ≤ (min x.1 p.1, max x.2 p.2).2) ↔ (p.1 ≤ n ∧ n ≤ p.2) ∨ (x.1 ≤ n ∧ n ≤ x.2) from this, or_comm, or_right_comm]
theorem okFrom_at {ps : Sp} (h : okFrom 0 ps) {k : Nat} (hk : k < ps.length) : 0 ≤ (ps.at k).1 ∧ (ps.at k).1 ≤ (ps.at k).2 ∧ (ps.at k).2 ≤ 9999 := (Sp.okAt_parts (Sp.ok_at (ok_iff.2 h) k hk)).1
theorem take_inS {qs : Sp} {k : Nat} (hk : k < qs.length) (n : Int) : InS (qs.take (k + 1)) n ↔ InS (qs.take k) n ∨ ((qs.at k).1 ≤ n ∧ n ≤ (qs.at k).2) := by
  rw [takeP_succ qs k hk, inS_append, inS_cons]
  show _ ∨ (_ ∨ InS [] n) ↔ _
  exact ⟨fun h => h.imp id (fun h => h.resolve_right inS_nil), fun h => h.imp id .inl⟩
theorem joinTo_ok {ps qs : Sp} (h1 : okFrom 0 ps) (h2 : okFrom 0 qs) : ∀ k, k ≤ qs.length → okFrom 0 (joinTo ps qs k) ∧ ∀ n, InS (joinTo ps qs k) n ↔ InS ps n ∨ InS (qs.take k) n
  | 0, _ => by
    rw [joinTo_zero]
    exact ⟨h1, fun n => ⟨.inl, fun h => h.resolve_right inS_nil⟩⟩
  | k + 1, hk => by
    have hq := okFrom_at h2 (k := k) (by omega)
    obtain ⟨i1, i2⟩ := joinTo_ok h1 h2 k (by omega)
    obtain ⟨j1, j2⟩ := put_ok (x := qs.at k) i1 (by omega) (by omega) (by omega)
    rw [joinTo_succ (by omega)]
    refine ⟨j1, fun n => ?_⟩
    rw [j2, i2, take_inS (by omega), or_assoc]
theorem join_ok {ps qs : Sp} (h1 : okFrom 0 ps) (h2 : okFrom 0 qs) : okFrom 0 (joinTo ps qs qs.length) ∧ ∀ n, InS (joinTo ps qs qs.length) n ↔ InS ps n ∨ InS qs n := by
  have := joinTo_ok h1 h2 qs.length (Nat.le_refl _)
  rw [List.take_length] at this
  exact this
/-- A span is laid behind o: apart, or into its last one. -/
def lay1 (o : Sp) (x : Int × Int) : Sp := if o = [] ∨ (o.at (o.length - 1)).2 + 1 < x.1 then o ++ [x] else o.take (o.length - 1) ++ [((o.at (o.length - 1)).1, max (o.at (o.length - 1)).2 x.2)]
def lay (o xs : Sp) : Sp := xs.foldl lay1 o
/-- How many spans begin no later than n. -/
def cutN : Sp → Int → Nat
  | [], _ => 0
  | p :: ps, n => if p.1 ≤ n then cutN ps n + 1 else 0
/-- Both sets, gone through once; o: what has come. -/
def both : Sp → Sp → Sp → Sp
  | a, [], o => lay o a
  | a, x :: b, o => both (a.drop (cutN a x.1)) b (lay1 (lay o (a.take (cutN a x.1))) x)
theorem snoc_cases (o : Sp) : o = [] ∨ ∃ o' t, o = o' ++ [t] := by
  rcases List.eq_nil_or_concat o with h | ⟨o', t, h⟩
  · exact .inl h
  · exact .inr ⟨o', t, by simpa using h⟩
theorem lay1_nil (x : Int × Int) : lay1 [] x = [x] := by simp [lay1]
theorem lay1_snoc (o : Sp) (t x : Int × Int) : lay1 (o ++ [t]) x = if t.2 + 1 < x.1 then o ++ [t] ++ [x] else o ++ [(t.1, max t.2 x.2)] := by
  have e : (o ++ [t]).at ((o ++ [t]).length - 1) = t := by simp [Sp.at]
  have e2 : (o ++ [t]).take ((o ++ [t]).length - 1) = o := by simp
  unfold lay1
  rw [e, e2]
  simp
/-- Right so far; the last span begins at m or ahead of it. -/
structure LayOk (o : Sp) (m : Int) : Prop where
  ok : okFrom 0 o
  le : ∀ o' t, o = o' ++ [t] → t.1 ≤ m
theorem LayOk.nil (m : Int) : LayOk [] m := ⟨trivial, fun o' t h => by simp at h⟩
theorem LayOk.up {o : Sp} {m m' : Int} (h : LayOk o m) (hm : m ≤ m') : LayOk o m' := ⟨h.ok, fun o' t e => Int.le_trans (h.le o' t e) hm⟩
theorem lay1_ok {o : Sp} {x : Int × Int} {m : Int} (h : LayOk o m) (hm : m ≤ x.1) (h0 : 0 ≤ x.1) (h1 : x.1 ≤ x.2) (h2 : x.2 ≤ 9999) : LayOk (lay1 o x) x.1 ∧ ∀ n, InS (lay1 o x) n ↔ InS o n ∨ (x.1 ≤ n ∧ n ≤ x.2) := by
  rcases snoc_cases o with rfl | ⟨o', t, rfl⟩
  · rw [lay1_nil]
    refine ⟨⟨⟨⟨h0, h1, h2⟩, trivial⟩, fun o' t e => ?_⟩, fun n => ?_⟩
    · obtain ⟨rfl, rfl⟩ : o' = [] ∧ x = t := by
        cases o' with
        | nil => simpa using e
        | cons y ys => simp at e
      exact Int.le_refl _
    · rw [inS_cons]
      exact ⟨fun h => .inr (h.resolve_right inS_nil), fun h => .inl (h.resolve_left inS_nil)⟩
  · have ht := h.le o' t rfl
    have hok := h.ok
    rw [okFrom_append] at hok
    obtain ⟨k1, ⟨k2, k3, k4⟩, _⟩ := hok
    rw [lay1_snoc]
    split
    · refine ⟨⟨?_, fun o2 t2 e => ?_⟩, fun n => ?_⟩
      · rw [okFrom_append, endOf_snoc]
        exact ⟨h.ok, ⟨by omega, h1, h2⟩, trivial⟩
      · have e3 := List.append_inj_right' e rfl
        obtain rfl : x = t2 := by simpa using e3
        exact Int.le_refl _
      · rw [inS_append (ps := o' ++ [t]), inS_cons (p := x)]
        exact ⟨fun h => h.imp id (fun h => h.resolve_right inS_nil), fun h => h.imp id .inl⟩
    · refine ⟨⟨?_, fun o2 t2 e => ?_⟩, fun n => ?_⟩
      · rw [okFrom_append]
        exact ⟨k1, ⟨k2, by simp only; omega, by simp only; omega⟩, trivial⟩
      · have e3 := List.append_inj_right' e rfl
        have e4 : (t.1, max t.2 x.2) = t2 := by simpa using e3
        rw [← e4]; simp only; omega
      · rw [inS_append, inS_append, inS_cons, inS_cons]
        have : (t.1 ≤ n ∧ n ≤ max t.2 x.2) ↔ (t.1 ≤ n ∧ n ≤ t.2) ∨ (x.1 ≤ n ∧ n ≤ x.2) := by omega
        rw [show ((t.1, max t.2 x.2).1 ≤ n ∧ n ≤ (t.1, max t.2 x.2).2) ↔ (t.1 ≤ n ∧ n ≤ t.2) ∨ (x.1 ≤ n ∧ n ≤ x.2) from this]
        have e := inS_nil (n := n)
        simp only [e, or_false, or_assoc]
theorem lay_ok : ∀ {xs o : Sp} {m l M : Int}, LayOk o m → okFrom l xs → m ≤ l → 0 ≤ l → m ≤ M → (∀ p ∈ xs, p.1 ≤ M) → LayOk (lay o xs) M ∧ ∀ n, InS (lay o xs) n ↔ InS o n ∨ InS xs n
  | [], o, m, l, M, h, _, _, _, hM, _ => ⟨h.up hM, fun n => ⟨.inl, fun h => h.resolve_right inS_nil⟩⟩
  | x :: xs, o, m, l, M, h, hx, hm, h0, hM, hall => by
    obtain ⟨⟨a1, a2, a3⟩, a4⟩ := hx
    obtain ⟨i1, i2⟩ := lay1_ok h (x := x) (by omega) (by omega) a2 a3
    obtain ⟨j1, j2⟩ := lay_ok (xs := xs) (M := M) i1 a4 (by omega) (by omega) (hall x (by simp)) (fun p hp => hall p (by simp [hp]))
    refine ⟨j1, fun n => ?_⟩
    rw [show lay o (x :: xs) = lay (lay1 o x) xs from rfl, j2, i2, inS_cons, or_assoc]
theorem cut_take : ∀ (a : Sp) (n : Int), ∀ p ∈ a.take (cutN a n), p.1 ≤ n
  | [], _, p, hp => by simp [cutN] at hp
  | q :: a, n, p, hp => by
    rw [cutN] at hp
    split at hp
    · rw [List.take_succ_cons] at hp
      rcases List.mem_cons.1 hp with rfl | hp
      · assumption
      · exact cut_take a n p hp
    · simp at hp
theorem okFrom_take {l : Int} {a : Sp} (k : Nat) (h : okFrom l a) : okFrom l (a.take k) := by
  have := h
  rw [← List.take_append_drop k a, okFrom_append] at this
  exact this.1
theorem cut_drop : ∀ {a : Sp} {n l : Int}, okFrom l a → okFrom n (a.drop (cutN a n))
  | [], _, _, _ => by simp [cutN, okFrom]
  | q :: a, n, l, h => by
    rw [cutN]
    split
    · rw [List.drop_succ_cons]; exact cut_drop h.2
    · exact ⟨⟨by omega, h.1.2⟩, h.2⟩
theorem both_ok : ∀ {b a o : Sp} {m la lb : Int}, LayOk o m → okFrom la a → okFrom lb b → m ≤ la → m ≤ lb → 0 ≤ la → 0 ≤ lb → okFrom 0 (both a b o) ∧ ∀ n, InS (both a b o) n ↔ InS o n ∨ InS a n ∨ InS b n
  | [], a, o, m, la, lb, h, ha, _, h1, _, h0, _ => by
    obtain ⟨M, hM⟩ : ∃ M : Int, m ≤ M ∧ ∀ p ∈ a, p.1 ≤ M := ⟨max m 9999, by omega, fun p hp => by
      obtain ⟨k, hk, rfl⟩ := List.getElem_of_mem hp
      have := okFrom_at (okFrom_mono ha h0) hk
      unfold Sp.at at this
      rw [List.getElem?_eq_getElem hk] at this
      simp only [Option.getD_some] at this
      omega⟩
    obtain ⟨i1, i2⟩ := lay_ok h ha h1 h0 hM.1 hM.2
    refine ⟨i1.ok, fun n => ?_⟩
    rw [both, i2]
    exact ⟨fun h => h.imp id .inl, fun h => h.imp id (fun h => h.resolve_right inS_nil)⟩
  | x :: b, a, o, m, la, lb, h, ha, hb, h1, h2, h0, h00 => by
    obtain ⟨⟨b1, b2, b3⟩, b4⟩ := hb
    obtain ⟨i1, i2⟩ := lay_ok (M := x.1) h (okFrom_take (cutN a x.1) ha) h1 h0 (by omega) (cut_take a x.1)
    obtain ⟨j1, j2⟩ := lay1_ok (x := x) i1 (Int.le_refl _) (by omega) b2 b3
    obtain ⟨k1, k2⟩ := both_ok (a := a.drop (cutN a x.1)) (b := b) j1 (cut_drop ha) b4 (Int.le_refl _) (by omega) (by omega) (by omega)
    refine ⟨k1, fun n => ?_⟩
    have e : InS a n ↔ InS (a.take (cutN a x.1)) n ∨ InS (a.drop (cutN a x.1)) n := by rw [← inS_append, List.take_append_drop]
    rw [both, k2, j2, i2, inS_cons, e]
    simp only [or_assoc]
    constructor
    · rintro (h | h | h | h | h) <;> simp [h]
    · rintro (h | h | h | h | h) <;> simp [h]
theorem both_nil_ok {a b : Sp} (ha : okFrom 0 a) (hb : okFrom 0 b) : okFrom 0 (both a b []) ∧ ∀ n, InS (both a b []) n ↔ InS a n ∨ InS b n := by
  obtain ⟨i1, i2⟩ := both_ok (LayOk.nil 0) ha hb (Int.le_refl _) (Int.le_refl _) (Int.le_refl _) (Int.le_refl _)
  exact ⟨i1, fun n => by rw [i2]; exact ⟨fun h => h.resolve_left inS_nil, .inr⟩⟩
theorem both_join {a b : Sp} (ha : a.ok = true) (hb : b.ok = true) : both a b [] = a.join b := by
  rw [Sp.join_yes ha hb]
  obtain ⟨i1, i2⟩ := both_nil_ok (ok_iff.1 ha) (ok_iff.1 hb)
  obtain ⟨j1, j2⟩ := join_ok (ok_iff.1 ha) (ok_iff.1 hb)
  exact sp_ext i1 j1 (fun n => by rw [i2, j2])
end Go.Proofs.YtgkbhhlkaifnoaaGreatDoor
/- The walks through the program's SetOk, SetHas and SetSize. No statement of the seat is proved here. -/
namespace Go.Proofs.YtgkbhhlkaifnoaaGreatDoor
open Go.RowKit
theorem cells_of {w : World} {a : Option Addr} {len : Nat} {ps : Sp} {F : List Nat} (h : RdP w a len ps F) : len = 0 ∨ ∃ b off, a = some ⟨b, off, none⟩ ∧ b < w.heap.size ∧ SpCells w b off len ps := by
  rcases h.cells with ⟨h0, _⟩ | ⟨b, off, hp, e, _, hc⟩
  · exact .inl h0
  · exact .inr ⟨b, off, e, World.block_lt_of_cell? _ _ (hc 0 hp).1, hc⟩
theorem floorAt_succ (ps : Sp) (k : Nat) : floorAt ps (k + 1) = (ps.at k).2 + 2 := by unfold floorAt; rw [if_neg (by omega), show k + 1 - 1 = k by omega]
set_option maxRecDepth 200000 in
set_option maxHeartbeats 2000000 in
theorem setOkImpl_any (a : Option Addr) (len cap : Nat) (ps : Sp) (F : List Nat) (w : World) (h : RdP w a len ps F) (hlen : len ≤ 2097152) :
    Calls Tryz.prog 41 #[.slice a len cap] w fun e w' => e = .returned (.bool ps.ok) ∧ Below w.heap.size w w' := by
  have HL : Hid (ps.length = len) := h.length
  have HC : Hid (len = 0 ∨ ∃ b off, a = some ⟨b, off, none⟩ ∧ b < w.heap.size ∧ SpCells w b off len ps) := cells_of h
  clear h
  go_enter Tryz.func41, Tryz.ntmps41
  go_wp2
  go_loopw [3, 8] (fun q i wr => ∃ (k : Nat) (l : Int), k ≤ len ∧ i = .int .i64 k ∧ q = .int .i64 l ∧ 0 ≤ l ∧ l ≤ 10001 ∧ Hid (Below w.heap.size w wr) ∧ Hid (l = floorAt ps k ∧ ∀ j, j < k → ps.okAt j = true)) (fun _ i _ => len - (intOf i).toNat)
  case atStart => exact ⟨0, 0, by omega, rfl, rfl, by omega, by omega, Below.refl _ _, rfl, fun j hj => by omega⟩
  case round =>
    obtain ⟨k, l, hk, rfl, rfl, l0, l1, HB, HN⟩ := hrel
    by_cases hlt : k < len
    · have hca := HC.out
      rcases hca with h0 | ⟨b, off, rfl, hbw, hc⟩
      · omega
      obtain ⟨x, hx⟩ : ∃ x, x = (ps.at k).1 := ⟨_, rfl⟩
      obtain ⟨y, hy⟩ : ∃ x, x = (ps.at k).2 := ⟨_, rfl⟩
      have e := hc k hlt
      rw [← hx, ← hy] at e
      have d1 : wr.cell? ⟨b, off + k * 2, none⟩ = some (.int .i64 x) := (HB.out.cell (by exact hbw)).trans e.1
      have d2 : wr.cell? ⟨b, off + k * 2 + 1, none⟩ = some (.int .i64 y) := (HB.out.cell (by exact hbw)).trans e.2
      have HX : Hid (x = (ps.at k).1 ∧ y = (ps.at k).2) := ⟨hx, hy⟩
      have HB2 : Hid (Below w.heap.size w (wr.alloc (.cells #[.int .i64 x, .int .i64 y] 62))) := Below.allocW _ HB.out (Nat.le_refl _)
      have HOK : Hid (ps.okAt k = true ↔ l ≤ x ∧ 0 ≤ x ∧ x ≤ y ∧ y ≤ 9999) := by
        have := okAt_iff ps k
        rw [← hx, ← hy] at this
        rw [HN.out.1]
        exact this
      have hI : (k : Int) < (len : Int) := by omega
      have hkl : k < ps.length := by rw [HL.out]; exact hlt
      clear e hx hy hc HB
      by_cases c1 : x < l
      · have c1d : decide (x < l) = true := decT c1
        have HV : Hid (ps.ok = false) := Sp.ok_not hkl (by rw [Bool.eq_false_iff]; exact fun e => by have := HOK.out.1 e; omega)
        go_wp2
        go_ret
        rw [HV.out]
        exact ⟨rfl, HB2.out⟩
      have c1d : decide (x < l) = false := decF c1
      by_cases c2 : y < x
      · have c2d : decide (y < x) = true := decT c2
        have HV : Hid (ps.ok = false) := Sp.ok_not hkl (by rw [Bool.eq_false_iff]; exact fun e => by have := HOK.out.1 e; omega)
        go_wp2
        go_ret
        rw [HV.out]
        exact ⟨rfl, HB2.out⟩
      have c2d : decide (y < x) = false := decF c2
      by_cases c3 : 9999 < y
      · have c3d : decide (9999 < y) = true := decT c3
        have HV : Hid (ps.ok = false) := Sp.ok_not hkl (by rw [Bool.eq_false_iff]; exact fun e => by have := HOK.out.1 e; omega)
        go_wp2
        go_ret
        rw [HV.out]
        exact ⟨rfl, HB2.out⟩
      have c3d : decide (9999 < y) = false := decF c3
      have HN2 : Hid (y + 2 = floorAt ps (k + 1) ∧ ∀ j, j < k + 1 → ps.okAt j = true) := ⟨by rw [floorAt_succ, HX.out.2], all_up HN.out.2 (HOK.out.2 ⟨by omega, by omega, by omega, by omega⟩)⟩
      go_wp2
      go_roundw
      case rel => exact ⟨k + 1, y + 2, by omega, by go_num, by go_num, by omega, by omega, HB2, HN2⟩
      case measure => simp [intOf]; omega
    · obtain rfl : k = len := by omega
      have HV : Hid (ps.ok = true) := Sp.ok_all (fun j hj => HN.out.2 j (by rw [← HL.out]; exact hj))
      go_wp2
      go_ret
      rw [HV.out]
      exact ⟨rfl, HB.out⟩
end Go.Proofs.YtgkbhhlkaifnoaaGreatDoor
/- The walk through the program's isSeq. No statement of the seat is proved here. -/
namespace Go.Proofs.YtgkbhhlkaifnoaaGreatDoor
open Go.RowKit
set_option maxRecDepth 200000 in
theorem isSeq_any (n : Int) (w : World) : Calls Tryz.prog 86 #[.int .i64 n] w fun e w' => e = .returned (.bool (decide (1 ≤ n ∧ n ≤ 60))) ∧ w' = w := by
  have hd : ∀ d : Bool, d = decide (1 ≤ n ∧ n ≤ 60) → (d = true ↔ 1 ≤ n ∧ n ≤ 60) := by rintro d rfl; simp
  generalize decide (1 ≤ n ∧ n ≤ 60) = d at *
  have hd := hd d rfl
  by_cases h : 1 ≤ n
  · by_cases h2 : n ≤ 60
    · have e : Hid (d = true) := hd.2 ⟨h, h2⟩
      clear hd
      go_enter Tryz.func86, Tryz.ntmps86
      go_wp2
      go_ret
      rw [e.out]; exact ⟨rfl, rfl⟩
    · have e : Hid (d = false) := show d = false by cases d; rfl; exact absurd (hd.1 rfl).2 h2
      clear hd
      go_enter Tryz.func86, Tryz.ntmps86
      go_wp2
      go_ret
      rw [e.out]; exact ⟨rfl, rfl⟩
  · have e : Hid (d = false) := show d = false by cases d; rfl; exact absurd (hd.1 rfl).1 h
    clear hd
    go_enter Tryz.func86, Tryz.ntmps86
    go_wp2
    go_ret
    rw [e.out]; exact ⟨rfl, rfl⟩
end Go.Proofs.YtgkbhhlkaifnoaaGreatDoor
/- The walks through the program's IdOf, ItemOk and the reading of an entry. No statement of the seat is proved here. -/
namespace Go.Proofs.YtgkbhhlkaifnoaaGreatDoor
open Go.RowKit
set_option maxRecDepth 200000 in
theorem isPlace_any (k p : Int) (w : World) : Calls Tryz.prog 102 #[.agg #[.int .i64 k, .int .i64 p]] w fun e w' => e = .returned (.bool (placeOk k p)) ∧ Below w.heap.size w w' := by
  have HB : Hid (Below w.heap.size w (w.alloc (.cells #[.int .i64 k, .int .i64 p] 143))) := (Below.refl _ _).alloc (Nat.le_refl _) _
  go_enter Tryz.func102, Tryz.ntmps102
  go_wp2_with fail
  refine (inRange_any _ _ _).mono ?_
  rintro e w2 ⟨rfl, hw2⟩
  have hw2' := hw2.symm
  subst hw2'
  clear hw2
  obtain ⟨d1, hd1⟩ : ∃ d, d = decide (0 ≤ k ∧ k ≤ 4) := ⟨_, rfl⟩
  rw [← hd1]
  have HD1 : Hid (d1 = decide (0 ≤ k ∧ k ≤ 4)) := hd1
  clear hd1
  cases d1
  · have HV : Hid (placeOk k p = false) := by show _ = _; unfold placeOk; rw [← HD1.out]; rfl
    go_wp2
    go_ret
    exact ⟨ret_bool HV.out.symm, HB.out⟩
  go_wp2_with fail
  refine (inRange_any _ _ _).mono ?_
  rintro e w2 ⟨rfl, hw2⟩
  have hw2' := hw2.symm
  subst hw2'
  clear hw2
  obtain ⟨d2, hd2⟩ : ∃ d, d = decide (0 ≤ p ∧ p ≤ 20) := ⟨_, rfl⟩
  rw [← hd2]
  have HV : Hid (d2 = placeOk k p) := by show _ = _; unfold placeOk; rw [← HD1.out, ← hd2]; rfl
  clear hd2
  go_wp2
  go_ret
  exact ⟨ret_bool HV.out, HB.out⟩
set_option maxRecDepth 200000 in
set_option maxHeartbeats 2000000 in
theorem itemOkImpl_any (v : Value) (x : It) (F : List Nat) (w : World) (h : RdIt w v x F) (hw : x.sk.wide) :
    Calls Tryz.prog 80 #[v] w fun e w' => e = .returned (.bool x.ok) ∧ Below w.heap.size w w' := by
  obtain ⟨a1, n1, c1, a2, n2, c2, a3, n3, c3, rfl, hr⟩ := h
  have HR : Hid (RdSk w (.agg #[.int .i64 x.sk.count, .int .i64 x.sk.sum, .int .i64 x.sk.min, .int .i64 x.sk.max, .slice a1 n1 c1, .slice a2 n2 c2, .slice a3 n3 c3]) x.sk F ∧ x.sk.wide) := ⟨hr, hw⟩
  have HB : Hid (Below w.heap.size w (w.alloc (.cells #[.int .i64 x.seq, .int .i64 x.cls, .int .i64 x.key, .int .i64 x.window, .int .i64 x.sk.count, .int .i64 x.sk.sum, .int .i64 x.sk.min, .int .i64 x.sk.max, .slice a1 n1 c1, .slice a2 n2 c2, .slice a3 n3 c3] 33)) ∧ Blk (w.alloc (.cells #[.int .i64 x.seq, .int .i64 x.cls, .int .i64 x.key, .int .i64 x.window, .int .i64 x.sk.count, .int .i64 x.sk.sum, .int .i64 x.sk.min, .int .i64 x.sk.max, .slice a1 n1 c1, .slice a2 n2 c2, .slice a3 n3 c3] 33)) w.heap.size #[.int .i64 x.seq, .int .i64 x.cls, .int .i64 x.key, .int .i64 x.window, .int .i64 x.sk.count, .int .i64 x.sk.sum, .int .i64 x.sk.min, .int .i64 x.sk.max, .slice a1 n1 c1, .slice a2 n2 c2, .slice a3 n3 c3] 33) := ⟨Below.allocW _ (Below.refl _ _) (Nat.le_refl _), Blk.made _ _ _⟩
  clear hr hw
  go_enter Tryz.func80, Tryz.ntmps80
  go_wp2_with fail
  refine (isSeq_any _ _).mono ?_
  rintro e w2 ⟨rfl, hw2⟩
  have hw2' := hw2.symm
  subst hw2'
  clear hw2
  obtain ⟨d1, hd1⟩ : ∃ d, d = decide (1 ≤ x.seq ∧ x.seq ≤ 60) := ⟨_, rfl⟩
  rw [← hd1]
  have HD1 : Hid (d1 = decide (1 ≤ x.seq ∧ x.seq ≤ 60)) := hd1
  clear hd1
  cases d1
  · have HV : Hid (x.ok = false) := by show _ = _; unfold It.ok; rw [← HD1.out]; rfl
    go_wp2
    go_ret
    exact ⟨ret_bool HV.out.symm, HB.out.1⟩
  go_wp2_with fail
  refine (inRange_any _ _ _).mono ?_
  rintro e w2 ⟨rfl, hw2⟩
  have hw2' := hw2.symm
  subst hw2'
  clear hw2
  obtain ⟨d2, hd2⟩ : ∃ d, d = decide (0 ≤ x.cls ∧ x.cls ≤ 1) := ⟨_, rfl⟩
  rw [← hd2]
  have HD2 : Hid (d2 = decide (0 ≤ x.cls ∧ x.cls ≤ 1)) := hd2
  clear hd2
  cases d2
  · have HV : Hid (x.ok = false) := by show _ = _; unfold It.ok; rw [← HD1.out, ← HD2.out]; rfl
    go_wp2
    go_ret
    exact ⟨ret_bool HV.out.symm, HB.out.1⟩
  go_wp2_with fail
  refine (isPlace_any _ _ _).mono ?_
  rintro e w2 ⟨rfl, hb2⟩
  have HB2 : Hid (Below w.heap.size w w2 ∧ Blk w2 w.heap.size #[.int .i64 x.seq, .int .i64 x.cls, .int .i64 x.key, .int .i64 x.window, .int .i64 x.sk.count, .int .i64 x.sk.sum, .int .i64 x.sk.min, .int .i64 x.sk.max, .slice a1 n1 c1, .slice a2 n2 c2, .slice a3 n3 c3] 33) := ⟨Below.next HB.out.1 hb2, HB.out.2.below hb2⟩
  clear hb2
  obtain ⟨d3, hd3⟩ : ∃ d, d = placeOk x.key x.window := ⟨_, rfl⟩
  rw [← hd3]
  have HD3 : Hid (d3 = placeOk x.key x.window) := hd3
  clear hd3
  cases d3
  · have HV : Hid (x.ok = false) := by show _ = _; unfold It.ok; rw [← HD1.out, ← HD2.out, ← HD3.out]; rfl
    go_wp2
    go_ret
    exact ⟨ret_bool HV.out.symm, HB2.out.1⟩
  go_wp2_with (first | go_skip | (with_reducible refine stopLoad 31 rfl ?_))
  refine load_cutw 31 w.heap.size 4 7 _ #[.int .i64 x.sk.count, .int .i64 x.sk.sum, .int .i64 x.sk.min, .int .i64 x.sk.max, .slice a1 n1 c1, .slice a2 n2 c2, .slice a3 n3 c3] 33 _ HB2.out.2 rfl rfl rfl Tryz.underlying31 rfl infoSkI (by simp) rfl ?_
  go_wp2_with fail
  refine (okImpl_any _ x.sk F _ (HR.out.1.below HB2.out.1) HR.out.2).mono ?_
  rintro e w3 ⟨rfl, hb3⟩
  have HB3 : Hid (Below w.heap.size w w3) := Below.next HB2.out.1 hb3
  have HV : Hid (x.ok = x.sk.ok) := by show _ = _; unfold It.ok; rw [← HD1.out, ← HD2.out, ← HD3.out]; rfl
  clear hb3
  obtain ⟨d4, hd4⟩ : ∃ d, d = x.sk.ok := ⟨_, rfl⟩
  rw [← hd4] at HV ⊢
  clear hd4
  go_wp2
  go_ret
  exact ⟨ret_bool HV.out.symm, HB3.out⟩
/-- The cells of an entry as the program holds it. -/
def hc (k p : Int) (a : Option Addr) (l c : Nat) (ys : List Int) : Array Value := (.int .i64 k :: .int .i64 p :: .slice a l c :: ys.map (Value.int .i64)).toArray
section
variable {P : Program} {ops : Array Oper} {Q : Exit → Act → World → Prop} {rest : List Oper} {a : Act} {w : World} {o : Oper}
end
end Go.Proofs.YtgkbhhlkaifnoaaGreatDoor
/- The walk through the program's areSeqs. No statement of the seat is proved here. -/
namespace Go.Proofs.YtgkbhhlkaifnoaaGreatDoor
open Go.RowKit
set_option maxRecDepth 200000 in
set_option maxHeartbeats 2000000 in
theorem areSeqs_any (a : Option Addr) (len cap : Nat) (m : Int) (ps : Sp) (F : List Nat) (w : World) (h : RdP w a len ps F) (hlen : len ≤ 2097152) :
    Calls Tryz.prog 45 #[.slice a len cap, .int .i64 m] w fun e w' => e = .returned (.bool (ps.ok && ps.under m)) ∧ Below w.heap.size w w' := by
  have HL : Hid (ps.length = len ∧ RdP w a len ps F) := ⟨h.length, h⟩
  have HC : Hid (len = 0 ∨ ∃ b off, a = some ⟨b, off, none⟩ ∧ b < w.heap.size ∧ SpCells w b off len ps) := cells_of h
  clear h
  go_enter Tryz.func45, Tryz.ntmps45
  go_wp2
  go_loopw [9] (fun i wr => ∃ (k : Nat), k ≤ len ∧ i = .int .i64 k ∧ Hid (Below w.heap.size w wr) ∧ Hid (∀ j, j < k → 1 ≤ (ps.at j).1 ∧ (ps.at j).2 ≤ m)) (fun i _ => len - (intOf i).toNat)
  case atStart => exact ⟨0, by omega, rfl, Below.refl _ _, fun j hj => by omega⟩
  case round =>
    obtain ⟨k, hk, rfl, HB, HN⟩ := hrel
    by_cases hlt : k < len
    · have hca := HC.out
      rcases hca with h0 | ⟨b, off, rfl, hbw, hc⟩
      · omega
      obtain ⟨x, hx⟩ : ∃ x, x = (ps.at k).1 := ⟨_, rfl⟩
      obtain ⟨y, hy⟩ : ∃ x, x = (ps.at k).2 := ⟨_, rfl⟩
      have e := hc k hlt
      rw [← hx, ← hy] at e
      have d1 : wr.cell? ⟨b, off + k * 2, none⟩ = some (.int .i64 x) := (HB.out.cell (by exact hbw)).trans e.1
      have d2 : wr.cell? ⟨b, off + k * 2 + 1, none⟩ = some (.int .i64 y) := (HB.out.cell (by exact hbw)).trans e.2
      have HX : Hid (x = (ps.at k).1 ∧ y = (ps.at k).2 ∧ k < ps.length) := ⟨hx, hy, by rw [HL.out.1]; exact hlt⟩
      have HB2 : Hid (Below w.heap.size w (wr.alloc (.cells #[.int .i64 x, .int .i64 y] 62))) := Below.allocW _ HB.out (Nat.le_refl _)
      have hI : (k : Int) < (len : Int) := by omega
      clear e hx hy hc HB
      by_cases h1 : x < 1
      · have HV : Hid ((ps.ok && ps.under m) = false) := by
          show _ = _
          rw [Sp.under_not HX.out.2.2 (fun e => absurd e.1 (by rw [← HX.out.1]; omega)), Bool.and_false]
        go_wp2
        go_ret
        exact ⟨ret_bool HV.out.symm, HB2.out⟩
      by_cases h2 : m < y
      · have HV : Hid ((ps.ok && ps.under m) = false) := by
          show _ = _
          rw [Sp.under_not HX.out.2.2 (fun e => absurd e.2 (by rw [← HX.out.2.1]; omega)), Bool.and_false]
        go_wp2
        go_ret
        exact ⟨ret_bool HV.out.symm, HB2.out⟩
      have HN2 : Hid (∀ j, j < k + 1 → 1 ≤ (ps.at j).1 ∧ (ps.at j).2 ≤ m) := all_up HN.out ⟨by rw [← HX.out.1]; omega, by rw [← HX.out.2.1]; omega⟩
      go_wp2
      go_roundw
      case rel => exact ⟨k + 1, by omega, by go_num, HB2, HN2⟩
      case measure => simp [intOf]; omega
    · obtain rfl : k = len := by omega
      have HV : Hid (ps.under m = true) := Sp.under_all (fun j hj => HN.out j (by have := HL.out.1; omega))
      go_wp2_with fail
      refine (setOkImpl_any a k cap ps F _ (HL.out.2.below HB.out) hlen).mono ?_
      rintro e w2 ⟨rfl, hb2⟩
      have HB2 : Hid (Below w.heap.size w w2) := Below.next HB.out hb2
      clear hb2
      obtain ⟨d, hd⟩ : ∃ d, d = ps.ok := ⟨_, rfl⟩
      rw [← hd]
      have HD : Hid (d = ps.ok) := hd
      clear hd
      go_wp2
      go_ret
      rw [HV.out, Bool.and_true]
      exact ⟨ret_bool HD.out, HB2.out⟩
end Go.Proofs.YtgkbhhlkaifnoaaGreatDoor
/- The walks through the program's itemSame, FrameSame, areSeqs, itemFits and FrameOk. No statement of the seat is proved here. -/
namespace Go.Proofs.YtgkbhhlkaifnoaaGreatDoor
open Go.RowKit
set_option maxRecDepth 200000 in
set_option maxHeartbeats 4000000 in
theorem itemSame_any (v u : Value) (x y : It) (F G : List Nat) (w : World) (h : RdIt w v x F) (k : RdIt w u y G) (hx : x.sk.wide) (hy : y.sk.wide) :
    Calls Tryz.prog 112 #[v, u] w fun e w' => e = .returned (.bool (decide (x = y))) ∧ Below w.heap.size w w' := by
  obtain ⟨a1, n1, nc1, a2, n2, nc2, a3, n3, nc3, rfl, sx⟩ := h
  obtain ⟨b1, m1, mc1, b2, m2, mc2, b3, m3, mc3, rfl, sy⟩ := k
  have HX : Hid (RdSk w (.agg #[.int .i64 x.sk.count, .int .i64 x.sk.sum, .int .i64 x.sk.min, .int .i64 x.sk.max, .slice a1 n1 nc1, .slice a2 n2 nc2, .slice a3 n3 nc3]) x.sk F ∧ RdSk w (.agg #[.int .i64 y.sk.count, .int .i64 y.sk.sum, .int .i64 y.sk.min, .int .i64 y.sk.max, .slice b1 m1 mc1, .slice b2 m2 mc2, .slice b3 m3 mc3]) y.sk G ∧ x.sk.wide ∧ y.sk.wide) := ⟨sx, sy, hx, hy⟩
  have HT : Hid (_ ∧ _ ∧ _) := two_made w #[.int .i64 x.seq, .int .i64 x.cls, .int .i64 x.key, .int .i64 x.window, .int .i64 x.sk.count, .int .i64 x.sk.sum, .int .i64 x.sk.min, .int .i64 x.sk.max, .slice a1 n1 nc1, .slice a2 n2 nc2, .slice a3 n3 nc3] #[.int .i64 y.seq, .int .i64 y.cls, .int .i64 y.key, .int .i64 y.window, .int .i64 y.sk.count, .int .i64 y.sk.sum, .int .i64 y.sk.min, .int .i64 y.sk.max, .slice b1 m1 mc1, .slice b2 m2 mc2, .slice b3 m3 mc3] 33 33
  obtain ⟨d, hd⟩ : ∃ d, d = decide (x = y) := ⟨_, rfl⟩
  rw [← hd]
  have HD : Hid (d = decide (x = y)) := hd
  clear sx sy hx hy hd
  have k0 := HT.out.1.cell 0
  have j0 := HT.out.2.1.cell 0
  have k1 := HT.out.1.cell 1
  have j1 := HT.out.2.1.cell 1
  have k2 := HT.out.1.cell 2
  have j2 := HT.out.2.1.cell 2
  have k3 := HT.out.1.cell 3
  have j3 := HT.out.2.1.cell 3
  simp only [aT, aS, aZ] at k0 j0 k1 j1 k2 j2 k3 j3
  by_cases c1 : x.seq = y.seq
  rotate_left
  · have HV : Hid (d = false) := by show d = _; rw [HD.out]; exact dec_false (fun e => c1 (by rw [e]))
    have z1 : (x.seq == y.seq) = false := by simpa using c1
    clear c1
    go_enter Tryz.func112, Tryz.ntmps112
    go_wp2
    go_ret
    exact ⟨ret_bool HV.out.symm, HT.out.2.2⟩
  have z1 : (x.seq == y.seq) = true := by simpa using c1
  by_cases c2 : x.cls = y.cls
  rotate_left
  · have HV : Hid (d = false) := by show d = _; rw [HD.out]; exact dec_false (fun e => c2 (by rw [e]))
    have z2 : (x.cls == y.cls) = false := by simpa using c2
    clear c1 c2
    go_enter Tryz.func112, Tryz.ntmps112
    go_wp2
    go_ret
    exact ⟨ret_bool HV.out.symm, HT.out.2.2⟩
  have z2 : (x.cls == y.cls) = true := by simpa using c2
  by_cases c3 : x.key = y.key
  rotate_left
  · have HV : Hid (d = false) := by show d = _; rw [HD.out]; exact dec_false (fun e => c3 (by rw [e]))
    have z3 : (x.key == y.key) = false := by simpa using c3
    clear c1 c2 c3
    go_enter Tryz.func112, Tryz.ntmps112
    go_wp2
    go_ret
    exact ⟨ret_bool HV.out.symm, HT.out.2.2⟩
  have z3 : (x.key == y.key) = true := by simpa using c3
  by_cases c4 : x.window = y.window
  rotate_left
  · have HV : Hid (d = false) := by show d = _; rw [HD.out]; exact dec_false (fun e => c4 (by rw [e]))
    have z4 : (x.window == y.window) = false := by simpa using c4
    clear c1 c2 c3 c4
    go_enter Tryz.func112, Tryz.ntmps112
    go_wp2
    go_ret
    exact ⟨ret_bool HV.out.symm, HT.out.2.2⟩
  have z4 : (x.window == y.window) = true := by simpa using c4
  have HC : Hid (x.seq = y.seq ∧ x.cls = y.cls ∧ x.key = y.key ∧ x.window = y.window) := ⟨c1, c2, c3, c4⟩
  clear c1 c2 c3 c4
  go_enter Tryz.func112, Tryz.ntmps112
  go_wp2_with (first | go_skip | (with_reducible refine stopLoad 31 rfl ?_))
  refine load_cutw 31 w.heap.size 4 7 _ #[.int .i64 x.sk.count, .int .i64 x.sk.sum, .int .i64 x.sk.min, .int .i64 x.sk.max, .slice a1 n1 nc1, .slice a2 n2 nc2, .slice a3 n3 nc3] 33 _ HT.out.1 rfl rfl rfl Tryz.underlying31 rfl infoSkI (by simp) rfl ?_
  go_wp2_with (first | go_skip | (with_reducible refine stopLoad 31 rfl ?_))
  refine load_cutw 31 (w.heap.size + 1) 4 7 _ #[.int .i64 y.sk.count, .int .i64 y.sk.sum, .int .i64 y.sk.min, .int .i64 y.sk.max, .slice b1 m1 mc1, .slice b2 m2 mc2, .slice b3 m3 mc3] 33 _ HT.out.2.1 rfl rfl rfl Tryz.underlying31 rfl infoSkI (by simp) rfl ?_
  go_wp2_with fail
  refine (sameImpl_any _ _ x.sk y.sk F G _ (HX.out.1.below HT.out.2.2) (HX.out.2.1.below HT.out.2.2) HX.out.2.2.1 HX.out.2.2.2).mono ?_
  rintro e w2 ⟨rfl, b2⟩
  have HB2 : Hid (Below w.heap.size w w2) := Below.next HT.out.2.2 b2
  clear b2
  obtain ⟨d2, hd2⟩ : ∃ d, d = decide (x.sk = y.sk) := ⟨_, rfl⟩
  rw [← hd2]
  have HV : Hid (d2 = d) := by
    show _ = _
    rw [hd2, HD.out]
    by_cases e : x.sk = y.sk
    · rw [dec_true e, dec_true (It.eq_of HC.out.1 HC.out.2.1 HC.out.2.2.1 HC.out.2.2.2 e)]
    · rw [dec_false e, dec_false (fun q => e (by rw [q]))]
  clear hd2
  go_wp2
  go_ret
  exact ⟨ret_bool HV.out, HB2.out⟩
theorem infoFrF7 : (Tryz.prog.info? 35).map (·.size) = some 16 := by kernel_rfl
theorem rdIt_zero (w : World) : RdIt w (.agg #[.int .i64 0, .int .i64 0, .int .i64 0, .int .i64 0, .int .i64 0, .int .i64 0, .int .i64 0, .int .i64 0, .slice none 0 0, .slice none 0 0, .slice none 0 0]) It.zero [] := by
  refine ⟨none, 0, 0, none, 0, 0, none, 0, 0, rfl, ?_⟩
  exact ⟨none, 0, 0, none, 0, 0, none, 0, 0, [], [], [], rfl, ⟨rfl, .inl ⟨rfl, rfl⟩⟩, ⟨rfl, .inl ⟨rfl, rfl⟩⟩, ⟨rfl, .inl ⟨rfl, rfl⟩⟩, rfl⟩
theorem It.zero_wide : It.zero.sk.wide := ⟨by simp [It.zero, Sk.zero], by simp [It.zero, Sk.zero], by simp [It.zero, Sk.zero], by simp [It.zero, Sk.zero]⟩
set_option maxRecDepth 200000 in
set_option maxHeartbeats 2000000 in
theorem itemFits_any (v : Value) (x : Fr) (F G : List Nat) (w : World) (h : RdFr w v x F G) (hw : x.item.sk.wide) :
    Calls Tryz.prog 95 #[v] w fun e w' => e = .returned (.bool (if x.kind = 1 then x.item.ok else decide (x.item = It.zero))) ∧ Below w.heap.size w w' := by
  obtain ⟨b, l, c, a1, n1, c1, a2, n2, c2, a3, n3, c3, rfl, _, hr, _⟩ := h
  have HR : Hid (RdIt w (.agg #[.int .i64 x.item.seq, .int .i64 x.item.cls, .int .i64 x.item.key, .int .i64 x.item.window, .int .i64 x.item.sk.count, .int .i64 x.item.sk.sum, .int .i64 x.item.sk.min, .int .i64 x.item.sk.max, .slice a1 n1 c1, .slice a2 n2 c2, .slice a3 n3 c3]) x.item G ∧ x.item.sk.wide) := ⟨hr, hw⟩
  have HB : Hid (Below w.heap.size w (w.alloc (.cells #[.int .i64 x.kind, .int .i64 x.agent, .int .i64 x.epoch, .int .i64 x.granted, .slice b l c, .int .i64 x.item.seq, .int .i64 x.item.cls, .int .i64 x.item.key, .int .i64 x.item.window, .int .i64 x.item.sk.count, .int .i64 x.item.sk.sum, .int .i64 x.item.sk.min, .int .i64 x.item.sk.max, .slice a1 n1 c1, .slice a2 n2 c2, .slice a3 n3 c3] 35)) ∧ Blk (w.alloc (.cells #[.int .i64 x.kind, .int .i64 x.agent, .int .i64 x.epoch, .int .i64 x.granted, .slice b l c, .int .i64 x.item.seq, .int .i64 x.item.cls, .int .i64 x.item.key, .int .i64 x.item.window, .int .i64 x.item.sk.count, .int .i64 x.item.sk.sum, .int .i64 x.item.sk.min, .int .i64 x.item.sk.max, .slice a1 n1 c1, .slice a2 n2 c2, .slice a3 n3 c3] 35)) w.heap.size #[.int .i64 x.kind, .int .i64 x.agent, .int .i64 x.epoch, .int .i64 x.granted, .slice b l c, .int .i64 x.item.seq, .int .i64 x.item.cls, .int .i64 x.item.key, .int .i64 x.item.window, .int .i64 x.item.sk.count, .int .i64 x.item.sk.sum, .int .i64 x.item.sk.min, .int .i64 x.item.sk.max, .slice a1 n1 c1, .slice a2 n2 c2, .slice a3 n3 c3] 35) := ⟨Below.allocW _ (Below.refl _ _) (Nat.le_refl _), Blk.made _ _ _⟩
  have k0 := HB.out.2.cell 0
  simp only [aT, aZ] at k0
  clear hr hw
  obtain ⟨z, hz⟩ : ∃ z, z = (if x.kind = 1 then x.item.ok else decide (x.item = It.zero)) := ⟨_, rfl⟩
  rw [← hz]
  by_cases h1 : x.kind = 1
  · have e1 : (x.kind == 1) = true := by simpa using h1
    have HV : Hid (z = x.item.ok) := hz.trans (if_pos h1)
    clear hz
    clear h1
    go_enter Tryz.func95, Tryz.ntmps95
    go_wp2_with (first | go_skip | (with_reducible refine stopLoad 33 rfl ?_))
    refine load_cut 33 w.heap.size 5 11 _ #[.int .i64 x.item.seq, .int .i64 x.item.cls, .int .i64 x.item.key, .int .i64 x.item.window, .int .i64 x.item.sk.count, .int .i64 x.item.sk.sum, .int .i64 x.item.sk.min, .int .i64 x.item.sk.max, .slice a1 n1 c1, .slice a2 n2 c2, .slice a3 n3 c3] 35 _ HB.out.2 rfl rfl rfl Tryz.underlying33 rfl infoItA7 (by simp) rfl ?_
    go_wp2_with fail
    refine (itemOkImpl_any _ x.item G _ (HR.out.1.below HB.out.1) HR.out.2).mono ?_
    rintro e w3 ⟨rfl, hb3⟩
    have HB3 : Hid (Below w.heap.size w w3) := Below.next HB.out.1 hb3
    clear hb3
    obtain ⟨d, hd⟩ : ∃ d, d = x.item.ok := ⟨_, rfl⟩
    rw [← hd] at HV ⊢
    clear hd
    go_wp2
    go_ret
    exact ⟨ret_bool HV.out.symm, HB3.out⟩
  · have e1 : (x.kind == 1) = false := by simpa using h1
    have HV : Hid (z = decide (x.item = It.zero)) := hz.trans (if_neg h1)
    clear hz
    clear h1
    go_enter Tryz.func95, Tryz.ntmps95
    go_wp2_with (first | go_skip | (with_reducible refine stopLoad 33 rfl ?_))
    refine load_cut 33 w.heap.size 5 11 _ #[.int .i64 x.item.seq, .int .i64 x.item.cls, .int .i64 x.item.key, .int .i64 x.item.window, .int .i64 x.item.sk.count, .int .i64 x.item.sk.sum, .int .i64 x.item.sk.min, .int .i64 x.item.sk.max, .slice a1 n1 c1, .slice a2 n2 c2, .slice a3 n3 c3] 35 _ HB.out.2 rfl rfl rfl Tryz.underlying33 rfl infoItA7 (by simp) rfl ?_
    go_wp2_with fail
    refine (itemSame_any _ _ x.item It.zero G [] _ (HR.out.1.below HB.out.1) (rdIt_zero _) HR.out.2 It.zero_wide).mono ?_
    rintro e w3 ⟨rfl, hb3⟩
    have HB3 : Hid (Below w.heap.size w w3) := Below.next HB.out.1 hb3
    clear hb3
    obtain ⟨d, hd⟩ : ∃ d, d = decide (x.item = It.zero) := ⟨_, rfl⟩
    rw [← hd] at HV ⊢
    clear hd
    go_wp2
    go_ret
    exact ⟨ret_bool HV.out.symm, HB3.out⟩
set_option maxRecDepth 200000 in
set_option maxHeartbeats 4000000 in
theorem frameOkImpl_any (v : Value) (x : Fr) (F G : List Nat) (w : World) (h : RdFr w v x F G) (hw : x.item.sk.wide) (hl : x.taken.length ≤ 2097152) :
    Calls Tryz.prog 66 #[v] w fun e w' => e = .returned (.bool x.ok) ∧ Below w.heap.size w w' := by
  have HH : Hid (RdFr w v x F G ∧ x.item.sk.wide) := ⟨h, hw⟩
  obtain ⟨b, l, c, a1, n1, c1, a2, n2, c2, a3, n3, c3, rfl, hp, hr, _⟩ := h
  have HP : Hid (RdP w b l x.taken F ∧ l ≤ 2097152 ∧ x.taken.length = l) := ⟨hp, by rw [← hp.length]; exact hl, hp.length⟩
  have HB : Hid (Below w.heap.size w (w.alloc (.cells #[.int .i64 x.kind, .int .i64 x.agent, .int .i64 x.epoch, .int .i64 x.granted, .slice b l c, .int .i64 x.item.seq, .int .i64 x.item.cls, .int .i64 x.item.key, .int .i64 x.item.window, .int .i64 x.item.sk.count, .int .i64 x.item.sk.sum, .int .i64 x.item.sk.min, .int .i64 x.item.sk.max, .slice a1 n1 c1, .slice a2 n2 c2, .slice a3 n3 c3] 35)) ∧ Blk (w.alloc (.cells #[.int .i64 x.kind, .int .i64 x.agent, .int .i64 x.epoch, .int .i64 x.granted, .slice b l c, .int .i64 x.item.seq, .int .i64 x.item.cls, .int .i64 x.item.key, .int .i64 x.item.window, .int .i64 x.item.sk.count, .int .i64 x.item.sk.sum, .int .i64 x.item.sk.min, .int .i64 x.item.sk.max, .slice a1 n1 c1, .slice a2 n2 c2, .slice a3 n3 c3] 35)) w.heap.size #[.int .i64 x.kind, .int .i64 x.agent, .int .i64 x.epoch, .int .i64 x.granted, .slice b l c, .int .i64 x.item.seq, .int .i64 x.item.cls, .int .i64 x.item.key, .int .i64 x.item.window, .int .i64 x.item.sk.count, .int .i64 x.item.sk.sum, .int .i64 x.item.sk.min, .int .i64 x.item.sk.max, .slice a1 n1 c1, .slice a2 n2 c2, .slice a3 n3 c3] 35) := ⟨Below.allocW _ (Below.refl _ _) (Nat.le_refl _), Blk.made _ _ _⟩
  clear hr hw hp hl
  go_enter Tryz.func66, Tryz.ntmps66
  go_wp2_with fail
  refine (inRange_any _ _ _).mono ?_
  rintro e w2 ⟨rfl, hw2⟩
  have hw2' := hw2.symm
  subst hw2'
  clear hw2
  obtain ⟨d1, hd1⟩ : ∃ d, d = decide (0 ≤ x.kind ∧ x.kind ≤ 3) := ⟨_, rfl⟩
  rw [← hd1]
  have HD1 : Hid (d1 = decide (0 ≤ x.kind ∧ x.kind ≤ 3)) := hd1
  clear hd1
  cases d1
  · have HV : Hid (x.ok = false) := by show _ = _; unfold Fr.ok; rw [← HD1.out]; rfl
    go_wp2
    go_ret
    exact ⟨ret_bool HV.out.symm, HB.out.1⟩
  go_wp2_with fail
  refine (inRange_any _ _ _).mono ?_
  rintro e w2 ⟨rfl, hw2⟩
  have hw2' := hw2.symm
  subst hw2'
  clear hw2
  obtain ⟨d2, hd2⟩ : ∃ d, d = decide (0 ≤ x.agent ∧ x.agent ≤ 2) := ⟨_, rfl⟩
  rw [← hd2]
  have HD2 : Hid (d2 = decide (0 ≤ x.agent ∧ x.agent ≤ 2)) := hd2
  clear hd2
  cases d2
  · have HV : Hid (x.ok = false) := by show _ = _; unfold Fr.ok; rw [← HD1.out, ← HD2.out]; rfl
    go_wp2
    go_ret
    exact ⟨ret_bool HV.out.symm, HB.out.1⟩
  go_wp2_with fail
  refine (inRange_any _ _ _).mono ?_
  rintro e w2 ⟨rfl, hw2⟩
  have hw2' := hw2.symm
  subst hw2'
  clear hw2
  obtain ⟨d3, hd3⟩ : ∃ d, d = decide (0 ≤ x.epoch ∧ x.epoch ≤ 1000) := ⟨_, rfl⟩
  rw [← hd3]
  have HD3 : Hid (d3 = decide (0 ≤ x.epoch ∧ x.epoch ≤ 1000)) := hd3
  clear hd3
  cases d3
  · have HV : Hid (x.ok = false) := by show _ = _; unfold Fr.ok; rw [← HD1.out, ← HD2.out, ← HD3.out]; rfl
    go_wp2
    go_ret
    exact ⟨ret_bool HV.out.symm, HB.out.1⟩
  go_wp2_with fail
  refine (inRange_any _ _ _).mono ?_
  rintro e w2 ⟨rfl, hw2⟩
  have hw2' := hw2.symm
  subst hw2'
  clear hw2
  obtain ⟨d4, hd4⟩ : ∃ d, d = decide (0 ≤ x.granted ∧ x.granted ≤ 60) := ⟨_, rfl⟩
  rw [← hd4]
  have HD4 : Hid (d4 = decide (0 ≤ x.granted ∧ x.granted ≤ 60)) := hd4
  clear hd4
  cases d4
  · have HV : Hid (x.ok = false) := by show _ = _; unfold Fr.ok; rw [← HD1.out, ← HD2.out, ← HD3.out, ← HD4.out]; rfl
    go_wp2
    go_ret
    exact ⟨ret_bool HV.out.symm, HB.out.1⟩
  go_wp2_with fail
  refine (areSeqs_any b l c 60 x.taken F _ (HP.out.1.below HB.out.1) HP.out.2.1).mono ?_
  rintro e w2 ⟨rfl, hb2⟩
  have HB2 : Hid (Below w.heap.size w w2 ∧ Blk w2 w.heap.size #[.int .i64 x.kind, .int .i64 x.agent, .int .i64 x.epoch, .int .i64 x.granted, .slice b l c, .int .i64 x.item.seq, .int .i64 x.item.cls, .int .i64 x.item.key, .int .i64 x.item.window, .int .i64 x.item.sk.count, .int .i64 x.item.sk.sum, .int .i64 x.item.sk.min, .int .i64 x.item.sk.max, .slice a1 n1 c1, .slice a2 n2 c2, .slice a3 n3 c3] 35) := ⟨Below.next HB.out.1 hb2, HB.out.2.below hb2⟩
  clear hb2
  obtain ⟨d5, hd5⟩ : ∃ d, d = (x.taken.ok && x.taken.under 60) := ⟨_, rfl⟩
  rw [← hd5]
  have HD5 : Hid (d5 = (x.taken.ok && x.taken.taken)) := hd5
  clear hd5
  cases d5
  · have HV : Hid (x.ok = false) := by
      show _ = _
      unfold Fr.ok
      rw [Bool.and_assoc _ x.taken.ok x.taken.taken, ← HD1.out, ← HD2.out, ← HD3.out, ← HD4.out, ← HD5.out]; rfl
    go_wp2
    go_ret
    exact ⟨ret_bool HV.out.symm, HB2.out.1⟩
  have HV : Hid (x.ok = (if x.kind = 1 then x.item.ok else decide (x.item = It.zero))) := by
    show _ = _
    unfold Fr.ok
    rw [Bool.and_assoc _ x.taken.ok x.taken.taken, ← HD1.out, ← HD2.out, ← HD3.out, ← HD4.out, ← HD5.out]; rfl
  go_wp2_with (first | go_skip | (with_reducible refine stopLoad 35 rfl ?_))
  refine load_cutw 35 w.heap.size 0 16 _ #[.int .i64 x.kind, .int .i64 x.agent, .int .i64 x.epoch, .int .i64 x.granted, .slice b l c, .int .i64 x.item.seq, .int .i64 x.item.cls, .int .i64 x.item.key, .int .i64 x.item.window, .int .i64 x.item.sk.count, .int .i64 x.item.sk.sum, .int .i64 x.item.sk.min, .int .i64 x.item.sk.max, .slice a1 n1 c1, .slice a2 n2 c2, .slice a3 n3 c3] 35 _ HB2.out.2 rfl rfl rfl Tryz.underlying35 rfl infoFrF7 (by simp) rfl ?_
  go_wp2_with fail
  refine (itemFits_any _ x F G _ (HH.out.1.below HB2.out.1) HH.out.2).mono ?_
  rintro e w3 ⟨rfl, hb3⟩
  have HB3 : Hid (Below w.heap.size w w3) := Below.next HB2.out.1 hb3
  clear hb3
  obtain ⟨d, hd⟩ : ∃ d, d = (if x.kind = 1 then x.item.ok else decide (x.item = It.zero)) := ⟨_, rfl⟩
  rw [← hd] at HV ⊢
  clear hd
  go_wp2
  go_ret
  exact ⟨ret_bool HV.out.symm, HB3.out⟩
end Go.Proofs.YtgkbhhlkaifnoaaGreatDoor
/- The walk through the model's AgentNew. No statement of the seat is proved here. -/
namespace Go.Proofs.YtgkbhhlkaifnoaaGreatDoor
open Go.RowKit
def Ag.zero : Ag := ⟨0, 0, false, 0, [], [], 0⟩
def Ag.fresh (n : Int) : Ag := ⟨n, 0, false, 0, [], [], 0⟩
/-- A new agent, or none. -/
def Ag.made (n : Int) : Ag := if (Ag.fresh n).ok = true then Ag.fresh n else Ag.zero
theorem rdAg_fresh (w : World) (n : Int) : RdAg w (.agg #[.int .i64 n, .int .i64 0, .bool false, .int .i64 0, .slice none 0 0, .slice none 0 0, .int .i64 0]) (Ag.fresh n) [] [] := ⟨none, 0, 0, none, 0, 0, rfl, RdL.nil, RdP.nil, ⟨fun _ => rfl, Nat.le_refl _⟩, ⟨fun _ => rfl, Nat.le_refl _⟩⟩
end Go.Proofs.YtgkbhhlkaifnoaaGreatDoor
/- The walks through the model's Waiting and AgentNew. No statement of the seat is proved here. -/
namespace Go.Proofs.YtgkbhhlkaifnoaaGreatDoor
open Go.RowKit
end Go.Proofs.YtgkbhhlkaifnoaaGreatDoor
/- The walks through the program's areInPlace, AgentOk, AgentNew, seqInTurn and Waiting. No statement of the seat is proved here. -/
namespace Go.Proofs.YtgkbhhlkaifnoaaGreatDoor
open Go.RowKit
theorem infoItB8 : (Tryz.prog.info? 33).map (·.size) = some 11 := by kernel_rfl
set_option maxRecDepth 200000 in
set_option maxHeartbeats 2000000 in
theorem areInPlace_any (a : Option Addr) (len cap : Nat) (xs : List It) (F : List Nat) (w : World) (h : RdL itK w a len xs F) (hw : ∀ y ∈ xs, y.sk.wide) (hlen : len ≤ 2097152) :
    Calls Tryz.prog 44 #[.slice a len cap] w fun e w' => e = .returned (.bool (itsOk xs)) ∧ Below w.heap.size w w' := by
  have HL : Hid (RdL itK w a len xs F ∧ (∀ y ∈ xs, y.sk.wide) ∧ xs.length = len) := ⟨h, hw, h.length⟩
  clear h hw
  go_enter Tryz.func44, Tryz.ntmps44
  go_wp2
  go_loopw [7] (fun i wr => ∃ (k : Nat), k ≤ len ∧ i = .int .i64 k ∧ Hid (Below w.heap.size w wr ∧ ∀ j y, j < k → xs[j]? = some y → y.ok = true ∧ y.seq = (j : Int) + 1)) (fun i _ => len - (intOf i).toNat)
  case atStart => exact ⟨0, by omega, rfl, Below.refl _ _, fun j y hj => by omega⟩
  case round =>
    obtain ⟨k, hk, rfl, HR⟩ := hrel
    by_cases hlt : k < len
    · have hI : (k : Int) < (len : Int) := by omega
      obtain ⟨b, off, ha, hbF, cs, Fi, hcs, hcc, hr, _⟩ := HL.out.1.get k hlt
      have ha' := ha.symm
      subst ha'
      have hbw : b < w.heap.size := HL.out.1.lt b hbF
      obtain ⟨y, hy⟩ : ∃ y, xs[k]? = some y := ⟨_, List.getElem?_eq_getElem (by rw [HL.out.2.2]; exact hlt)⟩
      have HY : Hid (xs[k]? = some y ∧ y.sk.wide ∧ cs.size = 11 ∧ RdIt w (.agg cs) y Fi ∧ cs.all (·.oneCell') = true) := ⟨hy, HL.out.2.1 y (List.mem_of_getElem? hy), hcs, hr y hy, by
        obtain ⟨a1, n1, c1, a2, n2, c2, a3, n3, c3, e⟩ := (hr y hy).cells11
        injection e with e
        rw [e]
        simp [Value.oneCell']⟩
      have HC : Hid (∀ j, j < 11 → wr.cell? ⟨b, off + k * 11 + j, none⟩ = cs[j]?) := fun j hj => by
        have q : wr.cell? ⟨b, off + k * 11 + j, none⟩ = w.cell? ⟨b, off + k * 11 + j, none⟩ := HR.out.1.cell (p := ⟨b, off + k * 11 + j, none⟩) hbw
        exact q.trans (hcc j hj)
      clear ha hbF hcs hcc hr hy
      go_wp2_with (first | go_skip | (with_reducible refine stopLoad 33 rfl ?_))
      refine load_at 33 b (off + k * 11) 11 cs _ HC.out HY.out.2.2.1 rfl rfl rfl Tryz.underlying33 rfl infoItB8 ?_
      go_wp2_with (first | go_skip | (with_reducible refine stopStore 33 rfl ?_))
      refine store_fresh 33 wr.heap.size rfl #[.int .i64 0, .int .i64 0, .int .i64 0, .int .i64 0, .int .i64 0, .int .i64 0, .int .i64 0, .int .i64 0, .slice none 0 0, .slice none 0 0, .slice none 0 0] cs 33 rfl rfl rfl rfl (by rw [HY.out.2.2.1]; exact infoItB8) (by rw [HY.out.2.2.1]; rfl) HY.out.2.2.2.2 ?_
      intro w2 hg2 hb2
      have HR2 : Hid (Below w.heap.size w w2 ∧ Blk w2 wr.heap.size cs 33) := ⟨Below.next HR.out.1 hb2, hg2⟩
      obtain ⟨X, hX⟩ : ∃ X, X = wr.heap.size := ⟨_, rfl⟩
      rw [← hX] at HR2 ⊢
      have HN : Hid (∀ j y, j < k → xs[j]? = some y → y.ok = true ∧ y.seq = (j : Int) + 1) := HR.out.2
      clear hg2 hb2 HR HC hX
      have cq : w2.cell? ⟨X, 0, none⟩ = some (.int .i64 y.seq) := by
        rw [HR2.out.2.cell 0]
        exact RdIt.first HY.out.2.2.2.1
      by_cases hq : y.seq = (k : Int) + 1
      · have hqb : (y.seq != (k : Int) + 1) = false := by simpa using hq
        have HQ : Hid (y.seq = (k : Int) + 1) := hq
        clear hq
        go_wp2_with (first | go_skip | (with_reducible refine stopLoad 33 rfl ?_))
        refine load_knownw8 33 X cs 33 _ HR2.out.2 rfl rfl rfl Tryz.underlying33 rfl (by rw [HY.out.2.2.1]; exact infoItB8) ?_
        go_wp2_with fail
        refine (itemOkImpl_any _ y Fi _ (HY.out.2.2.2.1.below HR2.out.1) HY.out.2.1).mono ?_
        rintro e w4 ⟨rfl, hb4⟩
        have HR4 : Hid (Below w.heap.size w w4) := Below.next HR2.out.1 hb4
        obtain ⟨d, hd⟩ : ∃ d, d = y.ok := ⟨_, rfl⟩
        rw [← hd]
        have HD : Hid (d = y.ok) := hd
        clear hd hb4 cq
        cases d
        · have HV : Hid (itsOk xs = false) := itsOk_not HY.out.1 (.inl HD.out.symm)
          go_wp2
          go_ret
          exact ⟨ret_bool HV.out.symm, HR4.out⟩
        have HN2 : Hid (∀ j z, j < k + 1 → xs[j]? = some z → z.ok = true ∧ z.seq = (j : Int) + 1) := fun j z hj hz => by
          by_cases e : j = k
          · subst e
            rw [HY.out.1] at hz
            cases hz
            exact ⟨HD.out.symm, HQ.out⟩
          · exact HN.out j z (by omega) hz
        clear HN
        go_wp2
        go_roundw
        case rel => exact ⟨k + 1, by omega, by go_num, HR4.out, HN2.out⟩
        case measure => simp [intOf]; omega
      · have hqb : (y.seq != (k : Int) + 1) = true := by simpa using hq
        have HV : Hid (itsOk xs = false) := itsOk_not HY.out.1 (.inr hq)
        clear hq
        go_wp2
        go_ret
        exact ⟨ret_bool HV.out.symm, HR2.out.1⟩
    · obtain rfl : k = len := by omega
      have HV : Hid (itsOk xs = true) := itsOk_all (fun j y hy => HR.out.2 j y (by have := (List.getElem?_eq_some_iff.1 hy).1; have := HL.out.2.2; omega) hy)
      have hI : ¬ (k : Int) < (k : Int) := by omega
      go_wp2
      go_ret
      exact ⟨ret_bool HV.out.symm, HR.out.1⟩
theorem itsOk_len {xs : List It} (h : itsOk xs = true) : xs.length ≤ 60 := by
  by_cases h0 : xs.length = 0
  · omega
  · have hk : xs.length - 1 < xs.length := by omega
    have q := itsOk_at h (List.getElem?_eq_getElem hk)
    have e := q.1
    unfold It.ok at e
    simp only [Bool.and_eq_true, decide_eq_true_eq] at e
    have := q.2
    omega
theorem Ag.ok_prog (x : Ag) : x.ok = (decide (0 ≤ x.id ∧ x.id ≤ 2) && decide (0 ≤ x.epoch ∧ x.epoch ≤ 1000) && decide (0 ≤ x.granted ∧ x.granted ≤ 60) && decide (0 ≤ x.next ∧ x.next ≤ 60) && (x.live || decide (x.granted ≤ 0)) && (itsOk x.sealed && (x.taken.ok && x.taken.under x.sealed.length))) := by
  unfold Ag.ok
  cases h : itsOk x.sealed
  · simp
  · rw [decide_eq_true (itsOk_len h)]
    generalize decide (0 ≤ x.id ∧ x.id ≤ 2) = p1
    generalize decide (0 ≤ x.epoch ∧ x.epoch ≤ 1000) = p2
    generalize decide (0 ≤ x.granted ∧ x.granted ≤ 60) = p3
    generalize decide (0 ≤ x.next ∧ x.next ≤ 60) = p4
    generalize (x.live || decide (x.granted ≤ 0)) = p5
    generalize (x.taken.ok && x.taken.under x.sealed.length) = p6
    revert p1 p2 p3 p4 p5 p6
    decide
set_option maxRecDepth 200000 in
set_option maxHeartbeats 4000000 in
theorem agentOkImpl_any (v : Value) (x : Ag) (F G : List Nat) (w : World) (h : RdAg w v x F G) (hw : ∀ y ∈ x.sealed, y.sk.wide) (hs : x.sealed.length ≤ 2097152) (hl : x.taken.length ≤ 2097152) :
    Calls Tryz.prog 11 #[v] w fun e w' => e = .returned (.bool x.ok) ∧ Below w.heap.size w w' := by
  obtain ⟨a1, n1, c1, a2, n2, c2, rfl, hL, hP, _, _⟩ := h
  have HL : Hid (RdL itK w a1 n1 x.sealed F ∧ (∀ y ∈ x.sealed, y.sk.wide) ∧ x.sealed.length = n1) := ⟨hL, hw, hL.length⟩
  have HP : Hid (RdP w a2 n2 x.taken G ∧ n2 ≤ 2097152) := ⟨hP, by rw [← hP.length]; exact hl⟩
  have hn1 : n1 ≤ 2097152 := by rw [← hL.length]; exact hs
  have HOK : Hid (x.ok = (decide (0 ≤ x.id ∧ x.id ≤ 2) && decide (0 ≤ x.epoch ∧ x.epoch ≤ 1000) && decide (0 ≤ x.granted ∧ x.granted ≤ 60) && decide (0 ≤ x.next ∧ x.next ≤ 60) && (x.live || decide (x.granted ≤ 0)) && (itsOk x.sealed && (x.taken.ok && x.taken.under n1)))) := by
    show _ = _
    rw [← hL.length]
    exact x.ok_prog
  obtain ⟨lx, hlx⟩ : ∃ b, b = x.live := ⟨_, rfl⟩
  rw [← hlx] at HOK ⊢
  have HB : Hid (Below w.heap.size w (w.alloc (.cells #[.int .i64 x.id, .int .i64 x.epoch, .bool lx, .int .i64 x.granted, .slice a1 n1 c1, .slice a2 n2 c2, .int .i64 x.next] 27)) ∧ Blk (w.alloc (.cells #[.int .i64 x.id, .int .i64 x.epoch, .bool lx, .int .i64 x.granted, .slice a1 n1 c1, .slice a2 n2 c2, .int .i64 x.next] 27)) w.heap.size #[.int .i64 x.id, .int .i64 x.epoch, .bool lx, .int .i64 x.granted, .slice a1 n1 c1, .slice a2 n2 c2, .int .i64 x.next] 27) := ⟨Below.allocW _ (Below.refl _ _) (Nat.le_refl _), Blk.made _ _ _⟩
  clear hL hP hw hs hl hlx
  go_enter Tryz.func11, Tryz.ntmps11
  go_wp2_with fail
  refine (inRange_any _ _ _).mono ?_
  rintro e w2 ⟨rfl, hw2⟩
  have hw2' := hw2.symm
  subst hw2'
  clear hw2
  obtain ⟨d1, hd1⟩ : ∃ d, d = decide (0 ≤ x.id ∧ x.id ≤ 2) := ⟨_, rfl⟩
  rw [← hd1]
  rw [← hd1] at HOK
  clear hd1
  cases d1
  · have HV : Hid (x.ok = false) := by show _ = _; rw [HOK.out]; rfl
    go_wp2
    go_ret
    exact ⟨ret_bool HV.out.symm, HB.out.1⟩
  go_wp2_with fail
  refine (inRange_any _ _ _).mono ?_
  rintro e w2 ⟨rfl, hw2⟩
  have hw2' := hw2.symm
  subst hw2'
  clear hw2
  obtain ⟨d2, hd2⟩ : ∃ d, d = decide (0 ≤ x.epoch ∧ x.epoch ≤ 1000) := ⟨_, rfl⟩
  rw [← hd2]
  rw [← hd2] at HOK
  clear hd2
  cases d2
  · have HV : Hid (x.ok = false) := by show _ = _; rw [HOK.out]; rfl
    go_wp2
    go_ret
    exact ⟨ret_bool HV.out.symm, HB.out.1⟩
  go_wp2_with fail
  refine (inRange_any _ _ _).mono ?_
  rintro e w2 ⟨rfl, hw2⟩
  have hw2' := hw2.symm
  subst hw2'
  clear hw2
  obtain ⟨d3, hd3⟩ : ∃ d, d = decide (0 ≤ x.granted ∧ x.granted ≤ 60) := ⟨_, rfl⟩
  rw [← hd3]
  rw [← hd3] at HOK
  clear hd3
  cases d3
  · have HV : Hid (x.ok = false) := by show _ = _; rw [HOK.out]; rfl
    go_wp2
    go_ret
    exact ⟨ret_bool HV.out.symm, HB.out.1⟩
  go_wp2_with fail
  refine (inRange_any _ _ _).mono ?_
  rintro e w2 ⟨rfl, hw2⟩
  have hw2' := hw2.symm
  subst hw2'
  clear hw2
  obtain ⟨d4, hd4⟩ : ∃ d, d = decide (0 ≤ x.next ∧ x.next ≤ 60) := ⟨_, rfl⟩
  rw [← hd4]
  rw [← hd4] at HOK
  clear hd4
  cases d4
  · have HV : Hid (x.ok = false) := by show _ = _; rw [HOK.out]; rfl
    go_wp2
    go_ret
    exact ⟨ret_bool HV.out.symm, HB.out.1⟩
  have HLIVE : Hid ((lx || decide (x.granted ≤ 0)) = true → x.ok = (itsOk x.sealed && (x.taken.ok && x.taken.under n1))) := fun e => by rw [HOK.out, e]; rfl
  have HDEAD : Hid ((lx || decide (x.granted ≤ 0)) = false → x.ok = false) := fun e => by rw [HOK.out, e]; rfl
  clear HOK
  cases lx
  · by_cases hg : 0 < x.granted
    · have hgd : decide (0 < x.granted) = true := dec_true hg
      have HV : Hid (x.ok = false) := HDEAD.out (by rw [decide_eq_false (by omega : ¬ x.granted ≤ 0)]; rfl)
      go_wp2
      go_ret
      exact ⟨ret_bool HV.out.symm, HB.out.1⟩
    have hgd : decide (0 < x.granted) = false := dec_false hg
    have HOKF : Hid (x.ok = (itsOk x.sealed && (x.taken.ok && x.taken.under n1))) := HLIVE.out (by rw [decide_eq_true (by omega : x.granted ≤ 0)]; rfl)
    clear HLIVE HDEAD
    go_wp2_with fail
    refine (areInPlace_any a1 n1 c1 x.sealed F _ (HL.out.1.below HB.out.1) HL.out.2.1 hn1).mono ?_
    rintro e w3 ⟨rfl, hb3⟩
    have HB3 : Hid (Below w.heap.size w w3 ∧ Blk w3 w.heap.size #[.int .i64 x.id, .int .i64 x.epoch, .bool false, .int .i64 x.granted, .slice a1 n1 c1, .slice a2 n2 c2, .int .i64 x.next] 27) := ⟨Below.next HB.out.1 hb3, HB.out.2.below hb3⟩
    have c4' := HB3.out.2.cell 4
    have c5' := HB3.out.2.cell 5
    simp only [aT, aS, aZ] at c4' c5'
    obtain ⟨d5, hd5⟩ : ∃ d, d = itsOk x.sealed := ⟨_, rfl⟩
    rw [← hd5]
    rw [← hd5] at HOKF
    clear hd5 hb3 HB
    cases d5
    · have HV : Hid (x.ok = false) := by show _ = _; rw [HOKF.out]; rfl
      go_wp2
      go_ret
      exact ⟨ret_bool HV.out.symm, HB3.out.1⟩
    go_wp2_with fail
    refine (areSeqs_any a2 n2 c2 n1 x.taken G _ (HP.out.1.below HB3.out.1) HP.out.2).mono ?_
    rintro e w4 ⟨rfl, hb4⟩
    have HB4 : Hid (Below w.heap.size w w4) := Below.next HB3.out.1 hb4
    obtain ⟨d6, hd6⟩ : ∃ d, d = (x.taken.ok && x.taken.under n1) := ⟨_, rfl⟩
    rw [← hd6]
    rw [← hd6] at HOKF
    have HV : Hid (x.ok = d6) := by show _ = _; rw [HOKF.out]; rfl
    clear hd6 hb4 c4' c5'
    go_wp2
    go_ret
    exact ⟨ret_bool HV.out.symm, HB4.out⟩
  · have HOKF : Hid (x.ok = (itsOk x.sealed && (x.taken.ok && x.taken.under n1))) := HLIVE.out rfl
    clear HLIVE HDEAD
    go_wp2_with fail
    refine (areInPlace_any a1 n1 c1 x.sealed F _ (HL.out.1.below HB.out.1) HL.out.2.1 hn1).mono ?_
    rintro e w3 ⟨rfl, hb3⟩
    have HB3 : Hid (Below w.heap.size w w3 ∧ Blk w3 w.heap.size #[.int .i64 x.id, .int .i64 x.epoch, .bool true, .int .i64 x.granted, .slice a1 n1 c1, .slice a2 n2 c2, .int .i64 x.next] 27) := ⟨Below.next HB.out.1 hb3, HB.out.2.below hb3⟩
    have c4' := HB3.out.2.cell 4
    have c5' := HB3.out.2.cell 5
    simp only [aT, aS, aZ] at c4' c5'
    obtain ⟨d5, hd5⟩ : ∃ d, d = itsOk x.sealed := ⟨_, rfl⟩
    rw [← hd5]
    rw [← hd5] at HOKF
    clear hd5 hb3 HB
    cases d5
    · have HV : Hid (x.ok = false) := by show _ = _; rw [HOKF.out]; rfl
      go_wp2
      go_ret
      exact ⟨ret_bool HV.out.symm, HB3.out.1⟩
    go_wp2_with fail
    refine (areSeqs_any a2 n2 c2 n1 x.taken G _ (HP.out.1.below HB3.out.1) HP.out.2).mono ?_
    rintro e w4 ⟨rfl, hb4⟩
    have HB4 : Hid (Below w.heap.size w w4) := Below.next HB3.out.1 hb4
    obtain ⟨d6, hd6⟩ : ∃ d, d = (x.taken.ok && x.taken.under n1) := ⟨_, rfl⟩
    rw [← hd6]
    rw [← hd6] at HOKF
    have HV : Hid (x.ok = d6) := by show _ = _; rw [HOKF.out]; rfl
    clear hd6 hb4 c4' c5'
    go_wp2
    go_ret
    exact ⟨ret_bool HV.out.symm, HB4.out⟩
end Go.Proofs.YtgkbhhlkaifnoaaGreatDoor
/- The walk through the program's copying of a summary. No statement of the seat is proved here. -/
namespace Go.Proofs.YtgkbhhlkaifnoaaGreatDoor
open Go.RowKit
/-- In the midst of a copying: k rows are done. -/
structure CpSt (w : World) (A B : Array Value) (s : Sk) (a1 a2 : Option Addr) (n1 n2 : Nat) (F1 F2 : List Nat) (lo k : Nat) (v : Value) (vs : List Value) (G : List Nat) (W : World) : Prop where
  box : Blk W w.heap.size A 31
  res : Blk W (w.heap.size + 1) B 31
  bel : Below w.heap.size w W
  r1 : RdI W a1 n1 s.hist F1
  r2 : RdI W a2 n2 s.regs F2
  own : Own (w.heap.size + 2) W (F1 ++ F2)
  lt : ∀ b ∈ F1 ++ F2, b < lo
  row : W.ownsRow lo 28 1 v k vs
  rd : RdS W ((s.rows.take k).map ints) vs G
  og : Own lo W G
  ap : ∀ b, v.ownBlock = some b → b ∉ G
  big : w.heap.size + 2 ≤ lo
  lw : lo ≤ W.heap.size
section
variable {w W W' : World} {A B : Array Value} {s : Sk} {a1 a2 : Option Addr} {n1 n2 : Nat} {F1 F2 : List Nat} {lo k : Nat} {v : Value} {vs : List Value} {G : List Nat}
theorem CpSt.below (h : CpSt w A B s a1 a2 n1 n2 F1 F2 lo k v vs G W) (b : Below W.heap.size W W') : CpSt w A B s a1 a2 n1 n2 F1 F2 lo k v vs G W' :=
  ⟨h.box.below b, h.res.below b, Below.next h.bel b, h.r1.below b, h.r2.below b, h.own.below (fun x hx => (List.mem_append.1 hx).elim (h.r1.lt x) (h.r2.lt x)) b, h.lt, ownsRow_below h.row b, h.rd.below b, h.og.below h.rd.lt b, h.ap, h.big, Nat.le_trans h.lw b.size⟩
theorem CpSt.step (h : CpSt w A B s a1 a2 n1 n2 F1 F2 lo k v vs G W) {nk cp3 g4 cp4 L : Nat} {a' : Option Addr} {Fk : List Nat} (rk : RdI W a' nk (s.rows.getD k []) Fk) (ok : Own L W Fk) (ltG : ∀ b ∈ G, b < L) (ltv : ∀ b, v.ownBlock = some b → b < L) (hL : lo ≤ L)
    (hown : W'.ownsRow lo 28 1 (.slice (some ⟨g4, 0, none⟩) (k + 1) cp4) (k + 1) (vs ++ [.slice a' nk cp3])) (hgrow : W.grownBy W' v.ownBlock) (hat : v.ownBlock = some g4 ∨ g4 = W.heap.size) (hk : k < s.rows.length) :
    CpSt w A B s a1 a2 n1 n2 F1 F2 lo (k + 1) (.slice (some ⟨g4, 0, none⟩) (k + 1) cp4) (vs ++ [.slice a' nk cp3]) (G ++ Fk) W' := by
  have big := h.big
  have blk : ∀ b, b < W.heap.size → ¬ v.ownBlock = some b → W'.heap[b]? = W.heap[b]? := fun b hb hn => hgrow.block b hb (fun e => hn e.symm)
  have vge : ∀ b, v.ownBlock = some b → lo ≤ b := fun b hb => (h.row.lt b hb).1
  have bx := h.box.agree (blk _ h.box.lt (fun e => by have := vge _ e; omega))
  have rs := h.res.agree (blk _ h.res.lt (fun e => by have := vge _ e; omega))
  have bel : Below w.heap.size w W' := h.bel.grown hgrow h.bel.size (fun b hb => by have := vge b hb; omega)
  have agF : Agree W W' (F1 ++ F2) := fun b hb => blk b ((List.mem_append.1 hb).elim (h.r1.lt b) (h.r2.lt b)) (fun e => by have := vge _ e; have := h.lt b hb; omega)
  have agG : Agree W W' (G ++ Fk) := fun b hb => blk b ((List.mem_append.1 hb).elim (h.rd.lt b) (rk.lt b)) (fun e => (List.mem_append.1 hb).elim (h.ap b e) (fun hf => by have := ok.ge b hf; have := ltv b e; omega))
  refine ⟨bx, rs, bel, h.r1.agree agF.left, h.r2.agree agF.right, h.own.agree agF, h.lt, hown, ?_, ?_, ?_, h.big, ?_⟩
  · rw [take_snoc s.rows [] k hk, List.map_append]
    exact (h.rd.agree agG.left).snoc (rd_ints.2 ⟨_, _, _, rfl, rk.agree agG.right⟩)
  · exact (h.og.agree agG.left).join (ok.agree agG.right) ltG hL
  · intro b hb hx
    have hb' : b = g4 := by simpa [Value.ownBlock] using hb.symm
    subst hb'
    rcases hat with e | e
    · rcases List.mem_append.1 hx with hx | hx
      · exact h.ap _ e hx
      · have := ok.ge _ hx; have := ltv _ e; omega
    · rcases List.mem_append.1 hx with hx | hx
      · have := h.rd.lt _ hx; omega
      · have := rk.lt _ hx; omega
  · have := hgrow.size; have := h.lw; omega
theorem CpSt.rows (h : CpSt w A B s a1 a2 n1 n2 F1 F2 lo k v vs G W) : ∃ a c F, v = .slice a k c ∧ RdII W a k (s.rows.take k) F ∧ Own (w.heap.size + 2) W (F1 ++ (F2 ++ F)) := by
  have big := h.big
  rcases h.row.2 with ⟨e, e'⟩ | ⟨g, cap, cur, e, e2, e3, e4⟩
  · subst e'
    exact ⟨none, 0, [], e, ⟨by simp, .inl ⟨rfl, rfl⟩⟩, by simpa using h.own⟩
  · subst e
    have hl : vs.length = k := by simpa using h.row.1
    have hlen := h.rd.length
    by_cases h0 : k = 0
    · subst h0
      exact ⟨_, cap, [], rfl, ⟨by simp, .inl ⟨rfl, rfl⟩⟩, by simpa using h.own⟩
    · have hm : RdM W ((s.rows.take k).map ints) g 0 G := rdM_of_own 0 h.rd (fun i hi => by rw [Nat.zero_add]; exact h.row.cellAt i (by omega))
      have hg : lo ≤ g := (h.row.lt g rfl).1
      have hgG : g ∉ G := h.ap g rfl
      have og : Own lo W (g :: G) := ⟨List.nodup_cons.2 ⟨hgG, h.og.nodup⟩, fun b hb o => (List.mem_cons.1 hb).elim (fun e => by subst e; exact h.row.frozenAt o) (fun hb => h.og.free b hb o), fun b hb => (List.mem_cons.1 hb).elim (fun e => by omega) (h.og.ge b)⟩
      refine ⟨_, cap, g :: G, rfl, ⟨by rw [List.length_map] at hlen; omega, .inr ⟨g, 0, G, by omega, rfl, rfl, hm⟩⟩, ?_⟩
      rw [← List.append_assoc]
      exact h.own.join og h.lt h.big
end
set_option maxRecDepth 200000 in
set_option maxHeartbeats 400000 in
theorem copiedList_all (a : Option Addr) (len cap : Nat) (zs : List Int) (F : List Nat) (w : World) (h : RdI w a len zs F) (hlen : len ≤ 1048576) :
    Calls Tryz.prog 111 #[.slice a len cap] w fun e w' => NewI w zs e w' := by
  obtain ⟨i0, hi, hz0, hz1, hz2⟩ := info_parts infoInt
  have HR : Hid (RdI w a len zs F) := h
  clear h
  go_enter Tryz.func111, Tryz.ntmps111
  go_wp2_with (with_reducible refine stopAppend rfl ?_)
  refine Stop.intro (wpList_step fun K hK => op_growsI _ _ 28 rfl rfl 3 i0 Tryz.underlying28 hi hz0 hz1 hz2 none rfl a len cap zs F rfl HR.out hlen ?_)
  intro a' c' F' w' r o b _
  have HN : Hid (RdI w' a' len zs F' ∧ Own w.heap.size w' F' ∧ Below w.heap.size w w') := ⟨r, o, b⟩
  refine ⟨_, by simp [Act.put]; rfl, hK _ _ ?_⟩
  clear hK r o b
  go_wp2
  go_ret
  exact ⟨a', len, c', F', rfl, HN.out.1, HN.out.2.1, HN.out.2.2⟩
set_option maxRecDepth 200000 in
set_option maxHeartbeats 8000000 in
theorem copiedSketch_all (v : Value) (s : Sk) (F : List Nat) (w : World) (h : RdSk w v s F) (hf : s.fits) :
    Calls Tryz.prog 94 #[v] w fun e w' => NewSk w s e w' := by
  obtain ⟨j0, hj, hy0, hy1, hy2⟩ := info_parts infoInts
  obtain ⟨a1, n1, c1, a2, n2, c2, a3, n3, c3, F1, F2, F3, rfl, h1, h2, h3, _⟩ := h
  have hn1 : n1 ≤ 1048576 := by rw [← h1.length]; exact hf.hist
  have hn2 : n2 ≤ 1048576 := by rw [← h2.length]; exact hf.regs
  have hn3 : n3 ≤ 1048576 := by rw [← h3.length]; exact hf.rows
  have HL : Hid (s.rows.length = n3 ∧ ∀ z ∈ s.rows, z.length ≤ 1048576) := ⟨h3.length, fun z hz => hf.row z hz⟩
  have HR : Hid (RdI w a1 n1 s.hist F1 ∧ RdI w a2 n2 s.regs F2 ∧ RdII w a3 n3 s.rows F3) := ⟨h1, h2, h3⟩
  have HT : Hid (_ ∧ _ ∧ _) := two_made w #[.int .i64 s.count, .int .i64 s.sum, .int .i64 s.min, .int .i64 s.max, .slice a1 n1 c1, .slice a2 n2 c2, .slice a3 n3 c3] #[.int .i64 0, .int .i64 0, .int .i64 0, .int .i64 0, .slice none 0 0, .slice none 0 0, .slice none 0 0] 31 31
  clear h1 h2 h3 hf
  go_enter Tryz.func94, Tryz.ntmps94
  go_wp2_with fail
  refine (copiedList_all a1 n1 c1 s.hist F1 _ (HR.out.1.below HT.out.2.2) hn1).mono ?_
  rintro e w1 ⟨b1, m1, d1, G1, rfl, r1, o1, B1⟩
  obtain rfl : n1 = m1 := by rw [← r1.length]; exact HR.out.1.length.symm
  have HS1 : Hid (Blk w1 w.heap.size #[.int .i64 s.count, .int .i64 s.sum, .int .i64 s.min, .int .i64 s.max, .slice a1 n1 c1, .slice a2 n2 c2, .slice a3 n3 c3] 31 ∧ Blk w1 (w.heap.size + 1) #[.int .i64 0, .int .i64 0, .int .i64 0, .int .i64 0, .slice none 0 0, .slice none 0 0, .slice none 0 0] 31 ∧ Below w.heap.size w w1) := ⟨HT.out.1.below B1, HT.out.2.1.below B1, Below.next HT.out.2.2 B1⟩
  have ge1 := HT.out.2.1.lt
  have HQ1 : Hid (RdI w1 b1 n1 s.hist G1 ∧ Own (w.heap.size + 2) w1 G1) := ⟨r1, o1.mono ge1⟩
  have c14 := HS1.out.1.cell 4
  have f14 := HS1.out.1.frozen 4
  have c15 := HS1.out.1.cell 5
  simp only [aT, aS, aZ] at c14 c15
  clear r1 o1 B1 HT ge1
  go_wp2_with fail
  obtain ⟨W2, hW2⟩ : ∃ W2, W2 = w1.setCell ⟨w.heap.size, 4, none⟩ (.slice b1 n1 d1) := ⟨_, rfl⟩
  have nn1 : w.heap.size ∉ G1 := fun hx => by have := HQ1.out.2.ge _ hx; omega
  have HS2 : Hid (Blk W2 w.heap.size #[.int .i64 s.count, .int .i64 s.sum, .int .i64 s.min, .int .i64 s.max, .slice b1 n1 d1, .slice a2 n2 c2, .slice a3 n3 c3] 31 ∧ Blk W2 (w.heap.size + 1) #[.int .i64 0, .int .i64 0, .int .i64 0, .int .i64 0, .slice none 0 0, .slice none 0 0, .slice none 0 0] 31 ∧ Below w.heap.size w W2) := by
    rw [hW2]
    exact ⟨HS1.out.1.set 4 _, HS1.out.2.1.setOther (by omega) 4 _, HS1.out.2.2.setCell (by show w.heap.size ≤ w.heap.size; omega) _⟩
  have HQ2 : Hid (RdI W2 b1 n1 s.hist G1 ∧ Own (w.heap.size + 2) W2 G1) := by
    rw [hW2]
    exact ⟨HQ1.out.1.agree (.set nn1 4 _), HQ1.out.2.agree (.set nn1 4 _)⟩
  rw [← hW2]
  clear hW2 nn1 c14 f14 c15 HS1 HQ1
  refine (copiedList_all a2 n2 c2 s.regs F2 _ (HR.out.2.1.below HS2.out.2.2) hn2).mono ?_
  rintro e w3 ⟨b2, m2, d2, G2, rfl, r2, o2, B3⟩
  obtain rfl : n2 = m2 := by rw [← r2.length]; exact HR.out.2.1.length.symm
  have HS3 : Hid (Blk w3 w.heap.size #[.int .i64 s.count, .int .i64 s.sum, .int .i64 s.min, .int .i64 s.max, .slice b1 n1 d1, .slice a2 n2 c2, .slice a3 n3 c3] 31 ∧ Blk w3 (w.heap.size + 1) #[.int .i64 0, .int .i64 0, .int .i64 0, .int .i64 0, .slice none 0 0, .slice none 0 0, .slice none 0 0] 31 ∧ Below w.heap.size w w3) := ⟨HS2.out.1.below B3, HS2.out.2.1.below B3, Below.next HS2.out.2.2 B3⟩
  have HQ3 : Hid (RdI w3 b1 n1 s.hist G1 ∧ RdI w3 b2 n2 s.regs G2 ∧ Own (w.heap.size + 2) w3 (G1 ++ G2)) := ⟨HQ2.out.1.below B3, r2, (HQ2.out.2.below HQ2.out.1.lt B3).join o2 HQ2.out.1.lt (by have := HS2.out.2.1.lt; omega)⟩
  have c15 := HS3.out.1.cell 5
  have f15 := HS3.out.1.frozen 5
  have c16 := HS3.out.1.cell 6
  simp only [aT, aS, aZ] at c15 c16
  clear r2 o2 B3 HS2 HQ2
  go_wp2
  obtain ⟨W4, hW4⟩ : ∃ W4, W4 = w3.setCell ⟨w.heap.size, 5, none⟩ (.slice b2 n2 d2) := ⟨_, rfl⟩
  have nn2 : w.heap.size ∉ G1 ++ G2 := fun hx => by have := HQ3.out.2.2.ge _ hx; omega
  have HC0 : Hid (CpSt w #[.int .i64 s.count, .int .i64 s.sum, .int .i64 s.min, .int .i64 s.max, .slice b1 n1 d1, .slice b2 n2 d2, .slice a3 n3 c3] #[.int .i64 0, .int .i64 0, .int .i64 0, .int .i64 0, .slice none 0 0, .slice none 0 0, .slice none 0 0] s b1 b2 n1 n2 G1 G2 W4.heap.size 0 (.slice none 0 0) [] [] W4) := by
    rw [hW4]
    have ag : Agree w3 (w3.setCell ⟨w.heap.size, 5, none⟩ (.slice b2 n2 d2)) (G1 ++ G2) := .set nn2 5 _
    exact ⟨HS3.out.1.set 5 _, HS3.out.2.1.setOther (by omega) 5 _, HS3.out.2.2.setCell (by show w.heap.size ≤ w.heap.size; omega) _, HQ3.out.1.agree ag.left, HQ3.out.2.1.agree ag.right, HQ3.out.2.2.agree ag, fun b hb => by have := (List.mem_append.1 hb).elim (HQ3.out.1.lt b) (HQ3.out.2.1.lt b); simpa using this, ⟨rfl, .inl ⟨rfl, rfl⟩⟩, by simp [RdS], Own.nil, fun b hb => (by cases hb), by have := HS3.out.2.1.lt; have e : (w3.setCell ⟨w.heap.size, 5, none⟩ (.slice b2 n2 d2)).heap.size = w3.heap.size := (by simp); omega, Nat.le_refl _⟩
  rw [← hW4]
  have HM : Hid (∀ W k, Below w.heap.size w W → k < n3 → ∃ pp qq ak nk ck Yk, a3 = some ⟨pp, qq, none⟩ ∧ W.cell? ⟨pp, qq + k, none⟩ = some (.slice ak nk ck) ∧ RdI W ak nk (s.rows.getD k []) Yk ∧ nk ≤ 1048576) := fun W k hb hk => by
    rcases HR.out.2.2.cells with ⟨h0, _⟩ | ⟨pp, qq, F', _, e, _, hm⟩
    · omega
    obtain ⟨ak, nk, ck, Yk, hck, hrk, _⟩ := RdII.row hm HL.out.1 k hk
    have h4 : nk ≤ 1048576 := by rw [← hrk.length]; exact HL.out.2 _ (mem_getD (d := []) (by rw [HL.out.1]; exact hk))
    exact ⟨pp, qq, ak, nk, ck, Yk, e, (hb.cell (World.block_lt_of_cell? _ _ hck)).trans hck, hrk.below hb, h4⟩
  clear hW4 nn2 c15 f15 c16 HS3 HQ3 HR
  go_loopw [3, 17] (fun q i wr => ∃ (k : Nat) (v : Value) (vs : List Value) (GG : List Nat), k ≤ n3 ∧ i = .int .i64 k ∧ v = q ∧ Hid (CpSt w #[.int .i64 s.count, .int .i64 s.sum, .int .i64 s.min, .int .i64 s.max, .slice b1 n1 d1, .slice b2 n2 d2, .slice a3 n3 c3] #[.int .i64 0, .int .i64 0, .int .i64 0, .int .i64 0, .slice none 0 0, .slice none 0 0, .slice none 0 0] s b1 b2 n1 n2 G1 G2 W4.heap.size k v vs GG wr)) (fun _ i _ => n3 - (intOf i).toNat)
  case atStart => exact ⟨0, _, [], [], by omega, rfl, rfl, HC0⟩
  case round =>
    clear HC0
    obtain ⟨k, v, vs, GG, hk, rfl, rfl, CSS⟩ := hrel
    by_cases hlt : k < n3
    · have hI : (k : Int) < (n3 : Int) := by omega
      obtain ⟨pp, qq, ak0, nk0, ck, Yk, rfl, hck, hrk, hnk⟩ := HM.out wr k CSS.out.bel hlt
      have HQ : Hid (RdI wr ak0 nk0 (s.rows.getD k []) Yk) := hrk
      clear hrk
      go_wp2_with fail
      refine (copiedList_all ak0 nk0 ck (s.rows.getD k []) Yk _ HQ.out hnk).mono ?_
      rintro e w5 ⟨ak, nk, dk, Fk, rfl, rk, ok, Bk⟩
      have CS5 : Hid (CpSt w #[.int .i64 s.count, .int .i64 s.sum, .int .i64 s.min, .int .i64 s.max, .slice b1 n1 d1, .slice b2 n2 d2, .slice (some ⟨pp, qq, none⟩) n3 c3] #[.int .i64 0, .int .i64 0, .int .i64 0, .int .i64 0, .slice none 0 0, .slice none 0 0, .slice none 0 0] s b1 b2 n1 n2 G1 G2 W4.heap.size k v vs GG w5) := CSS.out.below Bk
      have HK : Hid (RdI w5 ak nk (s.rows.getD k []) Fk ∧ Own wr.heap.size w5 Fk ∧ (∀ b ∈ GG, b < wr.heap.size) ∧ (∀ b, v.ownBlock = some b → b < wr.heap.size) ∧ W4.heap.size ≤ wr.heap.size) := ⟨rk, ok, CSS.out.rd.lt, fun b hb => (CSS.out.row.lt b hb).2, CSS.out.lw⟩
      clear rk ok Bk hck CSS HQ
      go_wp2_with (with_reducible refine stopAppend rfl ?_)
      obtain ⟨W6, hW6⟩ : ∃ W, W = w5.alloc (.cells #[.slice ak nk dk] 28) := ⟨_, rfl⟩
      have hbn : Below w5.heap.size w5 W6 := by rw [hW6]; exact (Below.refl _ _).alloc (Nat.le_refl _) _
      have HCN : Hid (∀ (j : Nat) (x : Value), [Value.slice ak nk dk][j]? = some x → W6.cell? ((⟨w5.heap.size, 0, none⟩ : Addr).add j) = some x) := by rw [hW6]; exact cell_new1 _ _ _
      have CS6 : Hid (CpSt w #[.int .i64 s.count, .int .i64 s.sum, .int .i64 s.min, .int .i64 s.max, .slice b1 n1 d1, .slice b2 n2 d2, .slice (some ⟨pp, qq, none⟩) n3 c3] #[.int .i64 0, .int .i64 0, .int .i64 0, .int .i64 0, .slice none 0 0, .slice none 0 0, .slice none 0 0] s b1 b2 n1 n2 G1 G2 W4.heap.size k v vs GG W6) := CS5.out.below hbn
      have HK6 : Hid (RdI W6 ak nk (s.rows.getD k []) Fk ∧ Own wr.heap.size W6 Fk) := ⟨HK.out.1.below hbn, HK.out.2.1.below HK.out.1.lt hbn⟩
      rw [← hW6]
      clear hW6 hbn CS5
      refine Stop.intro (wpList_append_lies _ rfl _ _ 29 rfl W4.heap.size 28 j0 (.slice none 0 0) 1 24 Tryz.underlying29 hj hy0 hy1 hy2 rfl (by decide) v k vs rfl CS6.out.row ⟨w5.heap.size, 0, none⟩ 1 1 [.slice ak nk dk] rfl rfl HCN.out (by simp [Value.oneCell']) (by omega) (by unfold maxLen; omega) (by omega) CS6.out.lw _ rfl ?_)
      intro g4 cp4 W7 hown hgrow hat hlt7
      have CS7 : Hid (CpSt w #[.int .i64 s.count, .int .i64 s.sum, .int .i64 s.min, .int .i64 s.max, .slice b1 n1 d1, .slice b2 n2 d2, .slice (some ⟨pp, qq, none⟩) n3 c3] #[.int .i64 0, .int .i64 0, .int .i64 0, .int .i64 0, .slice none 0 0, .slice none 0 0, .slice none 0 0] s b1 b2 n1 n2 G1 G2 W4.heap.size (k + 1) (.slice (some ⟨g4, 0, none⟩) (k + 1) cp4) (vs ++ [.slice ak nk dk]) (GG ++ Fk) W7) := CS6.out.step HK6.out.1 HK6.out.2 HK.out.2.2.1 HK.out.2.2.2.1 HK.out.2.2.2.2 hown hgrow hat (by rw [HL.out.1]; exact hlt)
      clear hown hgrow hat hlt7 CS6 HK6 HK HCN
      go_wp2
      go_roundw
      case rel => exact ⟨k + 1, _, _, _, by omega, by go_num, rfl, CS7⟩
      case measure => simp [intOf]; omega
    · obtain rfl : k = n3 := by omega
      obtain ⟨ar, cr, FR, rfl, rr, own⟩ := CSS.out.rows
      rw [List.take_of_length_le (by rw [HL.out.1]; omega)] at rr
      have HO : Hid (RdII wr ar k s.rows FR ∧ Own (w.heap.size + 2) wr (G1 ++ (G2 ++ FR))) := ⟨rr, own⟩
      have c16 := CSS.out.box.cell 6
      have f16 := CSS.out.box.frozen 6
      simp only [aT, aS, aZ] at c16
      clear rr own hlt HM
      go_wp2_with (first | go_skip | (with_reducible refine stopLoad 31 rfl ?_))
      obtain ⟨W8, hW8⟩ : ∃ W, W = wr.setCell ⟨w.heap.size, 6, none⟩ (.slice ar k cr) := ⟨_, rfl⟩
      have nG : w.heap.size ∉ G1 ++ (G2 ++ FR) := fun hx => by have := HO.out.2.ge _ hx; omega
      have H8 : Hid (Blk W8 w.heap.size #[.int .i64 s.count, .int .i64 s.sum, .int .i64 s.min, .int .i64 s.max, .slice b1 n1 d1, .slice b2 n2 d2, .slice ar k cr] 31 ∧ Blk W8 (w.heap.size + 1) #[.int .i64 0, .int .i64 0, .int .i64 0, .int .i64 0, .slice none 0 0, .slice none 0 0, .slice none 0 0] 31 ∧ Below w.heap.size w W8) := by
        rw [hW8]
        exact ⟨CSS.out.box.set 6 _, CSS.out.res.setOther (by omega) 6 _, CSS.out.bel.setCell (by show w.heap.size ≤ w.heap.size; omega) _⟩
      have R8 : Hid (RdI W8 b1 n1 s.hist G1 ∧ RdI W8 b2 n2 s.regs G2 ∧ RdII W8 ar k s.rows FR ∧ Own (w.heap.size + 2) W8 (G1 ++ (G2 ++ FR))) := by
        rw [hW8]
        have ag : Agree wr (wr.setCell ⟨w.heap.size, 6, none⟩ (.slice ar k cr)) (G1 ++ (G2 ++ FR)) := .set nG 6 _
        exact ⟨CSS.out.r1.agree ag.left, CSS.out.r2.agree ag.right.left, HO.out.1.agree ag.right.right, HO.out.2.agree ag⟩
      rw [← hW8]
      clear hW8 nG c16 f16 CSS HO
      refine load_known 31 w.heap.size #[.int .i64 s.count, .int .i64 s.sum, .int .i64 s.min, .int .i64 s.max, .slice b1 n1 d1, .slice b2 n2 d2, .slice ar k cr] 31 _ H8.out.1 rfl rfl rfl Tryz.underlying31 rfl (by kernel_rfl) ?_
      go_wp2_with (first | go_skip | (with_reducible refine stopStore 31 rfl ?_))
      refine store_known 31 (w.heap.size + 1) _ #[.int .i64 s.count, .int .i64 s.sum, .int .i64 s.min, .int .i64 s.max, .slice b1 n1 d1, .slice b2 n2 d2, .slice ar k cr] 31 H8.out.2.1 rfl rfl rfl rfl (by kernel_rfl) rfl (by kernel_rfl) ?_
      go_wp2
      refine bodyPost_ret (results_cell_row Tryz.results94 _ _ (w.heap.size + 1) _ _ _ _ rfl H8.out.2.1.setRow Tryz.underlying31 rfl (by kernel_rfl)) rfl ?_
      have nr : w.heap.size + 1 ∉ G1 ++ (G2 ++ FR) := fun hx => by have := R8.out.2.2.2.ge _ hx; omega
      have ag : Agree W8 (W8.setRow (w.heap.size + 1) #[.int .i64 s.count, .int .i64 s.sum, .int .i64 s.min, .int .i64 s.max, .slice b1 n1 d1, .slice b2 n2 d2, .slice ar k cr]) (G1 ++ (G2 ++ FR)) := fun b hb => setRow_other W8 _ b _ (fun e => nr (e ▸ hb))
      exact ⟨_, G1 ++ (G2 ++ FR), rfl, ⟨b1, n1, d1, b2, n2, d2, ar, k, cr, G1, G2, FR, rfl, R8.out.1.agree ag.left, R8.out.2.1.agree ag.right.left, R8.out.2.2.1.agree ag.right.right, rfl⟩, (R8.out.2.2.2.agree ag).mono (by omega), below_setRow H8.out.2.2 (by omega) _⟩
end Go.Proofs.YtgkbhhlkaifnoaaGreatDoor
/- The walk through the program's laying of spans behind a set that it makes. No statement of the seat is proved here. -/
namespace Go.Proofs.YtgkbhhlkaifnoaaGreatDoor
open Go.RowKit
theorem lay1_apart {o : Sp} {x : Int × Int} (h : o = [] ∨ (o.at (o.length - 1)).2 + 1 < x.1) : lay1 o x = o ++ [x] := by unfold lay1; rw [if_pos h]
theorem lay1_widen {o : Sp} {x : Int × Int} (h : ¬ (o = [] ∨ (o.at (o.length - 1)).2 + 1 < x.1)) : lay1 o x = o.take (o.length - 1) ++ [((o.at (o.length - 1)).1, max (o.at (o.length - 1)).2 x.2)] := by unfold lay1; rw [if_neg h]
theorem lay_drop {o xs : Sp} {k : Nat} (hk : k < xs.length) : lay o (xs.drop k) = lay (lay1 o (xs.at k)) (xs.drop (k + 1)) := by rw [drop_at hk]; rfl
theorem lay1_inb {o : Sp} {x : Int × Int} (h : ∀ p ∈ o, InB p) (hx : InB x) : ∀ p ∈ lay1 o x, InB p := by
  intro p hp
  unfold lay1 at hp
  split at hp
  · rcases List.mem_append.1 hp with hp | hp
    · exact h p hp
    · obtain rfl : p = x := by simpa using hp
      exact hx
  · rename_i hc
    rcases List.mem_append.1 hp with hp | hp
    · exact h p (List.mem_of_mem_take hp)
    · have e : p = ((o.at (o.length - 1)).1, max (o.at (o.length - 1)).2 x.2) := by simpa using hp
      have hne : 0 < o.length := List.length_pos_iff.2 (fun e => hc (.inl e))
      have := h _ (Sp.at_mem (ps := o) (k := o.length - 1) (by omega))
      subst e
      unfold InB at this hx ⊢
      simp only
      omega
theorem lay1_length (o : Sp) (x : Int × Int) : (lay1 o x).length ≤ o.length + 1 := by
  unfold lay1
  split
  · simp
  · simp
theorem lay_length : ∀ (xs o : Sp), (lay o xs).length ≤ o.length + xs.length
  | [], o => by simp [lay]
  | x :: xs, o => by
    have h1 := lay_length xs (lay1 o x)
    have h2 := lay1_length o x
    rw [show lay o (x :: xs) = lay (lay1 o x) xs from rfl]
    simp
    omega
theorem lay_inb : ∀ {xs o : Sp}, (∀ p ∈ o, InB p) → (∀ p ∈ xs, InB p) → ∀ p ∈ lay o xs, InB p
  | [], _, h, _ => h
  | x :: xs, o, h, hx => lay_inb (xs := xs) (lay1_inb h (hx x (by simp))) (fun p hp => hx p (by simp [hp]))
theorem flat_widen {o : Sp} {m : Nat} (hm : o.length = m + 1) (z : Int) : flat (o.take m ++ [((o.at m).1, z)]) = (flat o).set (m * 2 + 1) z := by
  have e : o = o.take m ++ [o.at m] := by
    have := takeP_succ o m (by omega)
    rw [List.take_of_length_le (by omega)] at this
    exact this
  have hl : (flat (o.take m)).length = m * 2 := by rw [flat_length]; simp; omega
  conv => rhs; rw [e]
  rw [flat_append, flat_append, List.set_append_right (m * 2 + 1) _ (by omega), hl, show m * 2 + 1 - m * 2 = 1 by omega]
  simp [flat]
/-- The set that is made: what it holds, and that nothing else was written since w. -/
structure LayAt (w : World) (B : Nat) (v0 v : Value) (o : Sp) (W : World) : Prop where
  own : W.ownsRow B 62 2 v o.length ((flat o).map (Value.int .i64))
  grown : w.grownBy W v0.ownBlock
  fresh : v.ownBlock = v0.ownBlock ∨ ∀ g, v.ownBlock = some g → w.heap.size ≤ g
theorem LayAt.alloc {w W : World} {B : Nat} {v0 v : Value} {o : Sp} (h : LayAt w B v0 v o W) (ob : Obj) : LayAt w B v0 v o (W.alloc ob) :=
  ⟨h.own.alloc _, ⟨h.grown.os, h.grown.tape, h.grown.output, by have := h.grown.size; simp; omega, fun k hk hne => (Below.heap_alloc W ob k (by have := h.grown.size; omega)).trans (h.grown.block k hk hne)⟩, h.fresh⟩
theorem LayAt.drewN {w W : World} {B : Nat} {v0 v : Value} {o : Sp} (h : LayAt w B v0 v o W) (m : Nat) : LayAt w B v0 v o (W.drewN m) :=
  ⟨⟨h.own.1, h.own.2⟩, ⟨h.grown.os, h.grown.tape, h.grown.output, h.grown.size, h.grown.block⟩, h.fresh⟩
theorem LayAt.app {w W W6 : World} {B : Nat} {v0 v v' : Value} {o : Sp} {p q : Int} {ob : Obj} (h : LayAt w B v0 v o W) (hown : W6.ownsRow B 62 2 v' (o.length + 1) ((flat o).map (Value.int .i64) ++ [.int .i64 p, .int .i64 q])) (hgrow : (W.alloc ob).grownBy W6 v.ownBlock) (hob : v'.ownBlock = v.ownBlock ∨ v'.ownBlock = some (W.alloc ob).heap.size) : LayAt w B v0 v' (o ++ [(p, q)]) W6 := by
  have ha := h.alloc ob
  refine ⟨?_, ⟨hgrow.os.trans ha.grown.os, hgrow.tape.trans ha.grown.tape, hgrow.output.trans ha.grown.output, Nat.le_trans ha.grown.size hgrow.size, fun k hk hne => ?_⟩, ?_⟩
  · rw [flat_append, List.map_append, List.length_append]
    exact hown
  · refine (hgrow.block k (Nat.lt_of_lt_of_le hk ha.grown.size) (fun e => ?_)).trans (ha.grown.block k hk hne)
    rcases h.fresh with f | f
    · exact hne (e.trans f)
    · have := f k e.symm; omega
  · rcases hob with e | e
    · rw [e]; exact h.fresh
    · right
      intro g hg
      rw [e] at hg
      cases hg
      exact ha.grown.size
theorem LayAt.widen {w W : World} {B g n cap m : Nat} {v0 : Value} {o : Sp} (h : LayAt w B v0 (.slice (some ⟨g, 0, none⟩) n cap) o W) (hm : o.length = m + 1) (z : Int) : LayAt w B v0 (.slice (some ⟨g, 0, none⟩) n cap) (o.take m ++ [((o.at m).1, z)]) (W.setCell ⟨g, m * 2 + 1, none⟩ (.int .i64 z)) := by
  refine ⟨?_, ⟨h.grown.os, h.grown.tape, h.grown.output, by have := h.grown.size; simp; omega, fun k hk hne => ?_⟩, h.fresh⟩
  · have hl : (o.take m ++ [((o.at m).1, z)]).length = o.length := by simp; omega
    rw [hl, flat_widen hm]
    refine ⟨by have := h.own.1; simpa using this, ?_⟩
    rcases h.own.2 with ⟨e, _⟩ | ⟨g', cap', cur, e, h2, h3, h4, h5, h6, h7⟩
    · cases e
    · cases e
      refine .inr ⟨g, cap, cur.setIfInBounds (m * 2 + 1) (.int .i64 z), rfl, h2, ?_, h4, h5, by simpa using h6, ?_⟩
      · exact Blk.set (w := W) (g := g) (cs := cur) h3 (m * 2 + 1) _
      · rw [Array.toList_setIfInBounds, List.take_set, h7]
        simp
  · have hg : k ≠ g := by
      rintro rfl
      rcases h.fresh with f | f
      · exact hne f
      · have := f k rfl; omega
    exact (Below.heap_setCell W ⟨g, m * 2 + 1, none⟩ _ k hg).trans (h.grown.block k hk hne)
theorem LayAt.cells {w W : World} {B g n cap : Nat} {v0 : Value} {o : Sp} (h : LayAt w B v0 (.slice (some ⟨g, 0, none⟩) n cap) o W) {m : Nat} (hm : m < o.length) : W.cell? ⟨g, m * 2, none⟩ = some (.int .i64 (o.at m).1) ∧ W.cell? ⟨g, m * 2 + 1, none⟩ = some (.int .i64 (o.at m).2) ∧ ∀ j, W.frozen? ⟨g, j, none⟩ = false := by
  have hn : o.length = n := by
    rcases h.own.2 with ⟨e, _⟩ | ⟨g', cap', cur, e, _⟩
    · cases e
    · cases e; rfl
  have own := h.own
  rw [hn] at own
  have hl := flat_length o
  have e1 := own.cellAt (m * 2) (by omega)
  have e2 := own.cellAt (m * 2 + 1) (by omega)
  refine ⟨?_, ?_, fun j => own.frozenAt j⟩
  · rw [e1]
    have := flat_lo o m
    rw [show 2 * m = m * 2 by omega, List.getElem?_eq_getElem (by omega)] at this
    simp only [List.getElem?_map, List.getElem?_eq_getElem (show m * 2 < (flat o).length by omega), Option.map_some]
    unfold Sp.at
    rw [← this]; rfl
  · rw [e2]
    have := flat_hi o m
    rw [show 2 * m = m * 2 by omega, List.getElem?_eq_getElem (by omega)] at this
    simp only [List.getElem?_map, List.getElem?_eq_getElem (show m * 2 + 1 < (flat o).length by omega), Option.map_some]
    unfold Sp.at
    rw [← this]; rfl
end Go.Proofs.YtgkbhhlkaifnoaaGreatDoor
/- The walk through the program's laying of spans behind a set that it makes. No statement of the seat is proved here. -/
namespace Go.Proofs.YtgkbhhlkaifnoaaGreatDoor
open Go.RowKit
/-- A set of the maker's own: not nil. -/
theorem own_cases {W : World} {B e n : Nat} {v : Value} {xs : List Value} (h : W.ownsRow B e 2 v n xs) : (v = .slice none 0 0 ∧ n = 0) ∨ ∃ g cap n', v = .slice (some ⟨g, 0, none⟩) n' cap ∧ n' = n ∧ n ≤ cap := by
  rcases h.2 with e | ⟨g, cap, cur, e, _, _, h4, _⟩
  · exact .inl e
  · exact .inr ⟨g, cap, n, e, rfl, h4⟩
set_option maxRecDepth 100000 in
set_option maxHeartbeats 8000000 in
theorem laid_any (B : Nat) (v0 : Value) (o0 : Sp) (a : Option Addr) (len cap : Nat) (xs : Sp) (F : List Nat) (w : World) (hown : w.ownsRow B 62 2 v0 o0.length ((flat o0).map (Value.int .i64))) (hB : B ≤ w.heap.size) (h : RdP w a len xs F) (hF : ∀ b ∈ F, some b ≠ v0.ownBlock) (hlen : o0.length + len ≤ 4194304) (ho : ∀ p ∈ o0, InB p) (hx : ∀ p ∈ xs, InB p) :
    Calls Tryz.prog 79 #[v0, .slice a len cap] w fun e w' => ∃ v, e = .returned v ∧ LayAt w B v0 v (lay o0 xs) w' := by
  obtain ⟨t0, hi, hz0, hz1, hz2⟩ := info_parts infoSpan
  have HL : Hid (xs.length = len) := h.length
  have HIN : Hid (∀ p ∈ xs, InB p) := hx
  have HP0 : Hid (LayAt w B v0 v0 o0 w) := ⟨hown, ⟨rfl, rfl, rfl, Nat.le_refl _, fun _ _ _ => rfl⟩, .inl rfl⟩
  have HI0 : Hid (∀ p ∈ o0, InB p) := ho
  have HC : Hid (len = 0 ∨ ∃ b off, a = some ⟨b, off, none⟩ ∧ (b < w.heap.size ∧ some b ≠ v0.ownBlock) ∧ SpCells w b off len xs) := by
    rcases h.cells with ⟨h0, _⟩ | ⟨b, off, hp, e, hFb, hc⟩
    · exact .inl h0
    · exact .inr ⟨b, off, e, ⟨World.block_lt_of_cell? _ _ (hc 0 hp).1, hF b (by rw [hFb]; simp)⟩, hc⟩
  clear h hown hF ho hx
  go_enter Tryz.func79, Tryz.ntmps79
  go_wp2
  go_loopw [0, 10] (fun v i wr => ∃ (k : Nat) (o : Sp), k ≤ len ∧ i = .int .i64 k ∧ o.length ≤ o0.length + k ∧ Hid (LayAt w B v0 v o wr) ∧ Hid (∀ p ∈ o, InB p) ∧ Hid (lay o (xs.drop k) = lay o0 xs)) (fun _ i _ => len - (intOf i).toNat)
  case atStart => exact ⟨0, o0, by omega, rfl, by omega, HP0, HI0, rfl⟩
  case round =>
    clear HP0 HI0
    obtain ⟨k, o, hk, rfl, hol, HP, HI, HN⟩ := hrel
    by_cases hlt : k < len
    · have hca := HC.out
      rcases hca with h0 | ⟨b, off, rfl, hbw, hc⟩
      · omega
      obtain ⟨x, hx⟩ : ∃ x, x = (xs.at k).1 := ⟨_, rfl⟩
      obtain ⟨y, hy⟩ : ∃ x, x = (xs.at k).2 := ⟨_, rfl⟩
      have e := hc k hlt
      have hkl : k < xs.length := by rw [HL.out]; exact hlt
      have hb := HIN.out _ (Sp.at_mem hkl)
      have HXY : Hid (xs.at k = (x, y)) := by rw [hx, hy]; rfl
      rw [HXY.out] at hb e
      have HINX : Hid (InB (x, y)) := hb
      obtain ⟨⟨x0, x1⟩, y0, y1⟩ := hb
      have hblk := HP.out.grown.block b hbw.1 hbw.2
      have d1 : wr.cell? ⟨b, off + k * 2, none⟩ = some (.int .i64 x) := (World.cell?_of_block (w := w) (a := ⟨b, off + k * 2, none⟩) hblk).trans e.1
      have d2 : wr.cell? ⟨b, off + k * 2 + 1, none⟩ = some (.int .i64 y) := (World.cell?_of_block (w := w) (a := ⟨b, off + k * 2 + 1, none⟩) hblk).trans e.2
      have hI : (k : Int) < (len : Int) := by omega
      have HBW : Hid (B ≤ wr.heap.size) := Nat.le_trans hB HP.out.grown.size
      clear e hx hy hc hblk
      have hos := own_cases HP.out.own
      rcases hos with ⟨rfl, h0⟩ | ⟨g, cp, nn, rfl, hnn, hcp⟩
      · have HLA : Hid (lay1 o (x, y) = o ++ [(x, y)]) := lay1_apart (.inl (List.eq_nil_of_length_eq_zero h0))
        have HN2 : Hid (lay (o ++ [(x, y)]) (xs.drop (k + 1)) = lay o0 xs) := by
          rw [lay_drop hkl, HXY.out, HLA.out] at HN
          exact HN
        have HI2 : Hid (∀ p ∈ o ++ [(x, y)], InB p) := by rw [← HLA.out]; exact lay1_inb HI.out HINX.out
        go_wp2
        go_quiet (fail)
        obtain ⟨wq, hwq⟩ : ∃ W, W = (wr.alloc (.cells #[.int .i64 x, .int .i64 y] 62)).drewN nq := ⟨_, rfl⟩
        have HPq : Hid (LayAt w B v0 (.slice none 0 0) o wq) := by rw [hwq]; exact (HP.out.alloc _).drewN nq
        have b1 : wq.cell? ⟨wr.heap.size, 0, none⟩ = some (.int .i64 x) := by rw [hwq]; exact (Blk.made wr _ _).cell 0
        have b2 : wq.cell? ⟨wr.heap.size, 1, none⟩ = some (.int .i64 y) := by rw [hwq]; exact (Blk.made wr _ _).cell 1
        have HBq : Hid (B ≤ wq.heap.size) := by have := HBW.out; rw [hwq]; simp [World.drewN]; show _ ≤ _; omega
        rw [← hwq]
        clear hwq HP
        go_wp2_with (first | go_skip | (with_reducible refine stopAppend2 rfl ?_))
        refine Stop.intro (wpList_append_own_at _ rfl _ _ 25 rfl B 62 t0 (.agg #[.int .i64 0, .int .i64 0]) 2 16 Tryz.underlying25 hi hz0 hz1 hz2 rfl (by decide) _ (o).length ((flat (o)).map (Value.int .i64)) rfl (HPq.out.own.alloc _) ⟨wq.heap.size, 0, none⟩ 1 1 [.int .i64 x, .int .i64 y] rfl rfl (cell_new2 _ _ _ _) (by intro u hu; simp at hu; rcases hu with rfl | rfl <;> rfl) (by unfold maxLen; omega) (by omega) (by have := HBq.out; simp; omega) ?_)
        intro v2 w2 hown hgrow _ hob
        have HP2 : Hid (LayAt w B v0 v2 (o ++ [(x, y)]) w2) := HPq.out.app hown hgrow hob
        clear hown hgrow HPq hob
        go_wp2
        go_roundw
        case rel => exact ⟨k + 1, o ++ [(x, y)], by omega, by go_num, by simp; omega, HP2, HI2, HN2⟩
        case measure => simp [intOf]; omega
      have HNN : Hid (nn = o.length) := hnn
      clear hnn hcp
      rcases nn with _ | m
      · have HLA : Hid (lay1 o (x, y) = o ++ [(x, y)]) := lay1_apart (.inl (List.eq_nil_of_length_eq_zero HNN.out.symm))
        have HN2 : Hid (lay (o ++ [(x, y)]) (xs.drop (k + 1)) = lay o0 xs) := by
          rw [lay_drop hkl, HXY.out, HLA.out] at HN
          exact HN
        have HI2 : Hid (∀ p ∈ o ++ [(x, y)], InB p) := by rw [← HLA.out]; exact lay1_inb HI.out HINX.out
        go_wp2
        go_quiet (fail)
        obtain ⟨wq, hwq⟩ : ∃ W, W = (wr.alloc (.cells #[.int .i64 x, .int .i64 y] 62)).drewN nq := ⟨_, rfl⟩
        have HPq : Hid (LayAt w B v0 (.slice (some ⟨g, 0, none⟩) 0 cp) o wq) := by rw [hwq]; exact (HP.out.alloc _).drewN nq
        have b1 : wq.cell? ⟨wr.heap.size, 0, none⟩ = some (.int .i64 x) := by rw [hwq]; exact (Blk.made wr _ _).cell 0
        have b2 : wq.cell? ⟨wr.heap.size, 1, none⟩ = some (.int .i64 y) := by rw [hwq]; exact (Blk.made wr _ _).cell 1
        have HBq : Hid (B ≤ wq.heap.size) := by have := HBW.out; rw [hwq]; simp [World.drewN]; show _ ≤ _; omega
        rw [← hwq]
        clear hwq HP
        go_wp2_with (first | go_skip | (with_reducible refine stopAppend2 rfl ?_))
        refine Stop.intro (wpList_append_own_at _ rfl _ _ 25 rfl B 62 t0 (.agg #[.int .i64 0, .int .i64 0]) 2 16 Tryz.underlying25 hi hz0 hz1 hz2 rfl (by decide) _ (o).length ((flat (o)).map (Value.int .i64)) rfl (HPq.out.own.alloc _) ⟨wq.heap.size, 0, none⟩ 1 1 [.int .i64 x, .int .i64 y] rfl rfl (cell_new2 _ _ _ _) (by intro u hu; simp at hu; rcases hu with rfl | rfl <;> rfl) (by unfold maxLen; omega) (by omega) (by have := HBq.out; simp; omega) ?_)
        intro v2 w2 hown hgrow _ hob
        have HP2 : Hid (LayAt w B v0 v2 (o ++ [(x, y)]) w2) := HPq.out.app hown hgrow hob
        clear hown hgrow HPq hob
        go_wp2
        go_roundw
        case rel => exact ⟨k + 1, o ++ [(x, y)], by omega, by go_num, by simp; omega, HP2, HI2, HN2⟩
        case measure => simp [intOf]; omega
      have hm : o.length = m + 1 := HNN.out.symm
      obtain ⟨s, hs⟩ : ∃ x, x = (o.at m).1 := ⟨_, rfl⟩
      obtain ⟨t, ht⟩ : ∃ x, x = (o.at m).2 := ⟨_, rfl⟩
      have hcm := HP.out.cells (m := m) (by omega)
      have him := HI.out _ (Sp.at_mem (ps := o) (k := m) (by omega))
      unfold InB at him
      rw [← hs, ← ht] at hcm him
      have HST : Hid (o.at (o.length - 1) = (s, t)) := by rw [hm, show m + 1 - 1 = m by omega, hs, ht]; rfl
      obtain ⟨f1, f2, f3⟩ := hcm
      obtain ⟨⟨s0, s1⟩, t1, t2⟩ := him
      have HFZ : Hid (∀ j, wr.frozen? ⟨g, j, none⟩ = false) := f3
      have gd : decide ((m : Int) < 0) = false := decF (by omega)
      have hI3 : (m : Int) < (m : Int) + 1 := by omega
      have hM : m ≤ 4194304 := by omega
      have HNE : Hid (¬ o = []) := fun e => by rw [e] at hm; simp at hm
      have HM : Hid (o.length = m + 1) := hm
      clear hs ht f3 hm
      by_cases c : t + 1 < x
      · have cd : decide (t + 1 < x) = true := decT c
        have HLA : Hid (lay1 o (x, y) = o ++ [(x, y)]) := lay1_apart (.inr (by rw [HST.out]; exact c))
        have HN2 : Hid (lay (o ++ [(x, y)]) (xs.drop (k + 1)) = lay o0 xs) := by
          rw [lay_drop hkl, HXY.out, HLA.out] at HN
          exact HN
        have HI2 : Hid (∀ p ∈ o ++ [(x, y)], InB p) := by rw [← HLA.out]; exact lay1_inb HI.out HINX.out
        go_wp2
        obtain ⟨wa, hwa⟩ : ∃ W, W = wr.alloc (.cells #[.int .i64 x, .int .i64 y] 62) := ⟨_, rfl⟩
        have HPa : Hid (LayAt w B v0 (.slice (some ⟨g, 0, none⟩) (m + 1) cp) o wa) := by rw [hwa]; exact HP.out.alloc _
        have a1 : wa.cell? ⟨wr.heap.size, 0, none⟩ = some (.int .i64 x) := by rw [hwa]; exact (Blk.made wr _ _).cell 0
        have a2 : wa.cell? ⟨wr.heap.size, 1, none⟩ = some (.int .i64 y) := by rw [hwa]; exact (Blk.made wr _ _).cell 1
        have a3 : wa.cell? ⟨g, m * 2 + 1, none⟩ = some (.int .i64 t) := by
          have e4 := (HPa.out.cells (m := m) (by have := HM.out; omega)).2.1
          have e5 := HST.out
          rw [HM.out, show m + 1 - 1 = m by omega] at e5
          rw [e5] at e4
          exact e4
        have HBa : Hid (B ≤ wa.heap.size) := by have := HBW.out; rw [hwa]; simp; show _ ≤ _; omega
        rw [← hwa]
        clear hwa HP f1 f2
        go_quiet (fail)
        obtain ⟨wq, hwq⟩ : ∃ W, W = wa.drewN nq := ⟨_, rfl⟩
        have HPq : Hid (LayAt w B v0 (.slice (some ⟨g, 0, none⟩) (m + 1) cp) o wq) := by rw [hwq]; exact HPa.out.drewN nq
        have b1 : wq.cell? ⟨wr.heap.size, 0, none⟩ = some (.int .i64 x) := by rw [hwq]; exact a1
        have b2 : wq.cell? ⟨wr.heap.size, 1, none⟩ = some (.int .i64 y) := by rw [hwq]; exact a2
        have HBq : Hid (B ≤ wq.heap.size) := by rw [hwq]; exact HBa.out
        rw [← hwq]
        clear hwq HPa a1 a2 a3
        go_wp2_with (first | go_skip | (with_reducible refine stopAppend2 rfl ?_))
        refine Stop.intro (wpList_append_own_at _ rfl _ _ 25 rfl B 62 t0 (.agg #[.int .i64 0, .int .i64 0]) 2 16 Tryz.underlying25 hi hz0 hz1 hz2 rfl (by decide) _ (o).length ((flat (o)).map (Value.int .i64)) rfl (HPq.out.own.alloc _) ⟨wq.heap.size, 0, none⟩ 1 1 [.int .i64 x, .int .i64 y] rfl rfl (cell_new2 _ _ _ _) (by intro u hu; simp at hu; rcases hu with rfl | rfl <;> rfl) (by unfold maxLen; omega) (by omega) (by have := HBq.out; simp; omega) ?_)
        intro v2 w2 hown hgrow _ hob
        have HP2 : Hid (LayAt w B v0 v2 (o ++ [(x, y)]) w2) := HPq.out.app hown hgrow hob
        clear hown hgrow HPq hob
        go_wp2
        go_roundw
        case rel => exact ⟨k + 1, o ++ [(x, y)], by omega, by go_num, by simp; omega, HP2, HI2, HN2⟩
        case measure => simp [intOf]; omega
      have cd : decide (t + 1 < x) = false := decF c
      have HLA : Hid (lay1 o (x, y) = o.take m ++ [((o.at m).1, max t y)]) := by
        have := lay1_widen (o := o) (x := (x, y)) (fun e => by rw [HST.out] at e; exact e.elim HNE.out c)
        show _ = _
        rw [this, HST.out, HM.out, show m + 1 - 1 = m by omega]
        have e2 := HST.out
        rw [HM.out, show m + 1 - 1 = m by omega] at e2
        rw [e2]
      have HN2 : Hid (lay (o.take m ++ [((o.at m).1, max t y)]) (xs.drop (k + 1)) = lay o0 xs) := by
        rw [lay_drop hkl, HXY.out, HLA.out] at HN
        exact HN
      have HI2 : Hid (∀ p ∈ o.take m ++ [((o.at m).1, max t y)], InB p) := by rw [← HLA.out]; exact lay1_inb HI.out HINX.out
      go_wp2
      obtain ⟨wa, hwa⟩ : ∃ W, W = wr.alloc (.cells #[.int .i64 x, .int .i64 y] 62) := ⟨_, rfl⟩
      have HPa : Hid (LayAt w B v0 (.slice (some ⟨g, 0, none⟩) (m + 1) cp) o wa) := by rw [hwa]; exact HP.out.alloc _
      have a1 : wa.cell? ⟨wr.heap.size, 0, none⟩ = some (.int .i64 x) := by rw [hwa]; exact (Blk.made wr _ _).cell 0
      have a2 : wa.cell? ⟨wr.heap.size, 1, none⟩ = some (.int .i64 y) := by rw [hwa]; exact (Blk.made wr _ _).cell 1
      have a3 : wa.cell? ⟨g, m * 2 + 1, none⟩ = some (.int .i64 t) := by
        have e4 := (HPa.out.cells (m := m) (by have := HM.out; omega)).2.1
        have e5 := HST.out
        rw [HM.out, show m + 1 - 1 = m by omega] at e5
        rw [e5] at e4
        exact e4
      have HBa : Hid (B ≤ wa.heap.size) := by have := HBW.out; rw [hwa]; simp; show _ ≤ _; omega
      rw [← hwa]
      clear hwa HP f1 f2
      go_quiet (fail)
      obtain ⟨wq, hwq⟩ : ∃ W, W = wa.drewN nq := ⟨_, rfl⟩
      have HPq : Hid (LayAt w B v0 (.slice (some ⟨g, 0, none⟩) (m + 1) cp) o wq) := by rw [hwq]; exact HPa.out.drewN nq
      have b1 : wq.cell? ⟨wr.heap.size, 0, none⟩ = some (.int .i64 x) := by rw [hwq]; exact a1
      have b2 : wq.cell? ⟨wr.heap.size, 1, none⟩ = some (.int .i64 y) := by rw [hwq]; exact a2
      have hcq := HPq.out.cells (m := m) (by have := HM.out; omega)
      have e3 := HST.out
      rw [HM.out, show m + 1 - 1 = m by omega] at e3
      rw [e3] at hcq
      obtain ⟨f1, f2, f3⟩ := hcq
      have f4 := f3 (m * 2 + 1)
      rw [← hwq]
      have HPw : Hid (LayAt w B v0 (.slice (some ⟨g, 0, none⟩) (m + 1) cp) (o.take m ++ [((o.at m).1, max t y)]) (wq.setCell ⟨g, m * 2 + 1, none⟩ (.int .i64 (max t y)))) := HPq.out.widen HM.out _
      clear hwq HPa a1 a2 a3 f3 e3 HPq
      go_wp2
      go_region
      go_wp2
      go_roundw
      case rel => exact ⟨k + 1, o.take m ++ [((o.at m).1, max t y)], by omega, by go_num, by have := HM.out; simp; omega, (by rw [show (if t < y then y else t) = max t y by split <;> omega]; exact HPw.out.drewN 1), HI2, HN2⟩
      case measure => simp [intOf]; omega
    · obtain rfl : k = len := by omega
      have HV : Hid (o = lay o0 xs) := by
        have := HN.out
        rw [List.drop_eq_nil_of_le (by rw [HL.out]; omega)] at this
        exact this
      go_wp2
      go_ret
      rw [← HV.out]
      exact ⟨_, rfl, HP.out⟩
end Go.Proofs.YtgkbhhlkaifnoaaGreatDoor
/- The walks through the program's cutting of a set, and its going through two sets. No statement of the seat is proved here. -/
namespace Go.Proofs.YtgkbhhlkaifnoaaGreatDoor
open Go.RowKit
theorem flat_take : ∀ (ps : Sp) (k : Nat), flat (ps.take k) = (flat ps).take (2 * k)
  | [], k => by simp [flat]
  | p :: ps, 0 => by simp [flat]
  | p :: ps, k + 1 => by rw [List.take_succ_cons, flat, flat, flat_take ps k, show 2 * (k + 1) = 2 * k + 1 + 1 by omega, List.take_succ_cons, List.take_succ_cons]
theorem flat_drop : ∀ (ps : Sp) (k : Nat), flat (ps.drop k) = (flat ps).drop (2 * k)
  | [], k => by simp [flat]
  | p :: ps, 0 => by simp [flat]
  | p :: ps, k + 1 => by rw [List.drop_succ_cons, flat, flat_drop ps k, show 2 * (k + 1) = 2 * k + 1 + 1 by omega, List.drop_succ_cons, List.drop_succ_cons]
theorem RdP.take {w : World} {a : Option Addr} {len : Nat} {ps : Sp} {F : List Nat} (h : RdP w a len ps F) {k : Nat} (hk : k ≤ len) : ∃ G, RdP w a k (ps.take k) G ∧ ∀ b ∈ G, b ∈ F := by
  have hl := h.length
  by_cases h0 : k = 0
  · subst h0
    exact ⟨[], by simpa using (RdP.nil (w := w) (a := a)), by simp⟩
  · rcases h.rd.cells with ⟨e, _⟩ | ⟨b, off, hp, e, eF, hc⟩
    · omega
    · refine ⟨F, ⟨by simp; omega, ?_, .inr ⟨b, off, by omega, e, eF, fun i hi => ?_⟩⟩, fun b hb => hb⟩
      · rw [flat_length]; simp; omega
      · rw [hc i (by omega), flat_take]
        simp [List.getD_eq_getElem?_getD, hi]
theorem RdP.drop {w : World} {b off len : Nat} {ps : Sp} {F : List Nat} (h : RdP w (some ⟨b, off, none⟩) len ps F) {k : Nat} (hk : k < len) : RdP w (some ⟨b, off + k * 2, none⟩) (len - k) (ps.drop k) F := by
  have hl := h.length
  rcases h.rd.cells with ⟨e, _⟩ | ⟨b', off', hp, e, eF, hc⟩
  · omega
  · obtain ⟨rfl, rfl⟩ : b = b' ∧ off = off' := by simpa using e
    refine ⟨by simp; omega, ?_, .inr ⟨b, off + k * 2, by omega, rfl, eF, fun i hi => ?_⟩⟩
    · rw [flat_length]; simp; omega
    · rw [show off + k * 2 + i = off + (2 * k + i) by omega, hc (2 * k + i) (by omega), flat_drop]
      simp [List.getD_eq_getElem?_getD]
theorem cutN_at {ps : Sp} {k : Nat} {n : Int} (hk : k < ps.length) (h : (ps.at k).1 ≤ n) : cutN (ps.drop k) n = cutN (ps.drop (k + 1)) n + 1 := by rw [drop_at hk, cutN, if_pos h]
theorem cutN_stop {ps : Sp} {k : Nat} {n : Int} (hk : k < ps.length) (h : ¬ (ps.at k).1 ≤ n) : cutN (ps.drop k) n = 0 := by rw [drop_at hk, cutN, if_neg h]
/-- What a cut tells: the part ahead, the part behind, both out of what was there. -/
def CutTo (w : World) (ps : Sp) (F : List Nat) (k : Nat) (e : Ending) (w' : World) : Prop :=
  ∃ a1 l1 c1 a2 l2 c2 F1 F2, e = .returned (.tuple #[.slice a1 l1 c1, .slice a2 l2 c2]) ∧ RdP w a1 l1 (ps.take k) F1 ∧ RdP w a2 l2 (ps.drop k) F2 ∧ (∀ b ∈ F1, b ∈ F) ∧ (∀ b ∈ F2, b ∈ F) ∧ l2 ≤ c2 ∧ QuietTo w w'
set_option maxRecDepth 200000 in
set_option maxHeartbeats 4000000 in
theorem cutAt_any (a : Option Addr) (len cap : Nat) (ps : Sp) (n : Int) (F : List Nat) (w : World) (h : RdP w a len ps F) (hlen : len ≤ 4194304) (hcap : len ≤ cap) :
    Calls Tryz.prog 78 #[.slice a len cap, .int .i64 n] w fun e w' => CutTo w ps F (cutN ps n) e w' := by
  have HL : Hid (ps.length = len) := h.length
  have HR : Hid (RdP w a len ps F) := h
  have HC : Hid (len = 0 ∨ ∃ b off, a = some ⟨b, off, none⟩ ∧ b < w.heap.size ∧ SpCells w b off len ps) := cells_of h
  have HS : Hid (∀ k, k ≤ len → ∀ w', QuietTo w w' → CutTo w ps F k (.returned (.tuple #[.slice a k k, .slice (if len = k then a else a.map (·.add (k * 2))) (len - k) (len - k)])) w') := by
    intro k hk w' hq
    obtain ⟨F1, r1, g1⟩ := h.take hk
    by_cases e : len = k
    · refine ⟨_, _, _, _, _, _, F1, [], rfl, r1, ?_, g1, by simp, Nat.le_refl _, hq⟩
      rw [List.drop_eq_nil_of_le (by rw [h.length]; omega), show len - k = 0 by omega]
      exact RdP.nil
    · rcases cells_of h with h0 | ⟨b, off, rfl, _, _⟩
      · omega
      · refine ⟨_, _, _, _, _, _, F1, F, rfl, r1, ?_, g1, fun b hb => hb, Nat.le_refl _, hq⟩
        rw [if_neg e]
        simp only [Option.map_some, Addr.add_lit]
        exact h.drop (k := k) (by omega)
  clear h
  go_enter Tryz.func78, Tryz.ntmps78
  go_wp2
  go_loopw [6] (fun i wr => ∃ (k : Nat), k ≤ len ∧ i = .int .i64 k ∧ Hid (QuietTo w wr) ∧ Hid (cutN ps n = k + cutN (ps.drop k) n)) (fun i _ => len - (intOf i).toNat)
  case atStart => exact ⟨0, by omega, rfl, QuietTo.refl _, by show _ = _; simp⟩
  case round =>
    obtain ⟨k, hk, rfl, HW, HN⟩ := hrel
    by_cases hlt : k < len
    · have hca := HC.out
      rcases hca with h0 | ⟨b, off, rfl, hbw, hc⟩
      · omega
      obtain ⟨x, hx⟩ : ∃ x, x = (ps.at k).1 := ⟨_, rfl⟩
      have e := (hc k hlt).1
      rw [← hx] at e
      have d1 : wr.cell? ⟨b, off + k * 2, none⟩ = some (.int .i64 x) := (HW.out.cell _).trans e
      have HX : Hid (x = (ps.at k).1) := hx
      have hI : (k : Int) < (len : Int) := by omega
      have hkl : k < ps.length := by rw [HL.out]; exact hlt
      clear hx hc e
      by_cases c : x ≤ n
      · have cd : decide (x ≤ n) = true := decT c
        have HN2 : Hid (cutN ps n = k + 1 + cutN (ps.drop (k + 1)) n) := by
          have := HN.out
          rw [cutN_at hkl (by rw [← HX.out]; exact c)] at this
          show _ = _
          omega
        go_wp2
        go_roundw
        case rel => exact ⟨k + 1, by omega, by go_num, HW, HN2⟩
        case measure => simp [intOf]; omega
      · have cd : decide (x ≤ n) = false := decF c
        have HK : Hid (cutN ps n = k) := by
          have := HN.out
          rw [cutN_stop hkl (by rw [← HX.out]; exact c)] at this
          show _ = _
          omega
        have hne : ¬ len = k := by omega
        have i1 : (k : Int) ≤ (len : Int) := by omega
        have i2 : (len : Int) ≤ (cap : Int) := by omega
        have i3 : (k : Int) ≤ (cap : Int) := by omega
        have HT : Hid (∀ w', QuietTo w w' → CutTo w ps F (cutN ps n) (.returned (.tuple #[.slice (some ⟨b, off, none⟩) k k, .slice (some ⟨b, off + k * 2, none⟩) (len - k) (len - k)])) w') := by
          intro w' hq
          have := HS.out k (by omega) w' hq
          rw [if_neg hne] at this
          simp only [Option.map_some, Addr.add_lit] at this
          rw [HK.out]
          exact this
        go_wp2
        go_quiet (fail)
        go_wp2
        go_ret2
        exact HT.out _ (HW.out.drewN _)
    · obtain rfl : k = len := by omega
      have HK : Hid (cutN ps n = k) := by
        have := HN.out
        rw [List.drop_eq_nil_of_le (by rw [HL.out]; omega)] at this
        exact this
      have hg : decide ((k : Int) < (k : Int)) = false := decF (by omega)
      have i2 : (k : Int) ≤ (cap : Int) := by omega
      have HT : Hid (∀ w', QuietTo w w' → CutTo w ps F (cutN ps n) (.returned (.tuple #[.slice a k k, .slice a 0 0])) w') := by
        intro w' hq
        have := HS.out k (by omega) w' hq
        rw [if_pos rfl, Nat.sub_self] at this
        rw [HK.out]
        exact this
      go_wp2
      go_quiet (fail)
      go_wp2
      go_ret2
      exact HT.out _ (HW.out.drewN _)
end Go.Proofs.YtgkbhhlkaifnoaaGreatDoor
/- The walk through the program's going through two sets. No statement of the seat is proved here. -/
namespace Go.Proofs.YtgkbhhlkaifnoaaGreatDoor
open Go.RowKit
theorem RdP.move {w W : World} {B : Nat} {a : Option Addr} {len : Nat} {ps : Sp} {F : List Nat} (h : RdP w a len ps F) (hF : ∀ b ∈ F, b < B) (h1 : Below B w W) : RdP W a len ps F := h.agree (fun b hb => h1.block b (hF b hb))
theorem RdP.back {w W : World} {B : Nat} {a : Option Addr} {len : Nat} {ps : Sp} {F : List Nat} (h : RdP W a len ps F) (hF : ∀ b ∈ F, b < B) (h1 : Below B w W) : RdP w a len ps F := h.agree (fun b hb => (h1.block b (hF b hb)).symm)
theorem LayAt.below {w W : World} {B n : Nat} {v0 v : Value} {o : Sp} {xs : List Value} (h : LayAt w B v0 v o W) (h0 : w.ownsRow B 62 2 v0 n xs) (hB : B ≤ w.heap.size) : Below B w W :=
  ⟨h.grown.os, h.grown.tape, h.grown.output, h.grown.size, fun k hk => h.grown.block k (by omega) (fun e => by have := (h0.lt k e.symm).1; omega)⟩
/-- Midway in a round: the set that is made, the span's box. -/
structure MidB (w : World) (nb : Nat) (x y : Int) (v : Value) (o : Sp) (W : World) : Prop where
  own : W.ownsRow w.heap.size 62 2 v o.length ((flat o).map (Value.int .i64))
  bel : Below w.heap.size w W
  box : Blk W nb #[.int .i64 x, .int .i64 y] 62
  ne : some nb ≠ v.ownBlock
theorem MidB.alloc {w : World} {nb : Nat} {x y : Int} {v : Value} {o : Sp} {W : World} (h : MidB w nb x y v o W) (ob : Obj) : MidB w nb x y v o (W.alloc ob) := ⟨h.own.alloc _, Below.allocW _ h.bel (Nat.le_refl _), h.box.alloc _, h.ne⟩
theorem MidB.drew {w : World} {nb : Nat} {x y : Int} {v : Value} {o : Sp} {W : World} (h : MidB w nb x y v o W) : MidB w nb x y v o W.drew := ⟨⟨h.own.1, h.own.2⟩, h.bel.drew, h.box, h.ne⟩
/-- Behind the first laying: what lay beside lies there still. -/
structure AftB (w : World) (nb : Nat) (x y : Int) (v v' : Value) (o' : Sp) (W W' : World) : Prop where
  mid : MidB w nb x y v' o' W'
  old : ∀ g cs t, Blk W g cs t → some g ≠ v.ownBlock → Blk W' g cs t ∧ some g ≠ v'.ownBlock
theorem AftB.of {w : World} {nb : Nat} {x y : Int} {v v' : Value} {o o' : Sp} {W W' : World} (h : MidB w nb x y v o W) (k : LayAt W w.heap.size v v' o' W') : AftB w nb x y v v' o' W W' := by
  have hold : ∀ g cs t, Blk W g cs t → some g ≠ v.ownBlock → Blk W' g cs t ∧ some g ≠ v'.ownBlock := fun g cs t hb hne => by
    refine ⟨hb.agree (k.grown.block g hb.lt hne), ?_⟩
    rcases k.fresh with e | e
    · rw [e]; exact hne
    · intro e2; have := e g e2.symm; have := hb.lt; omega
  obtain ⟨h1, h2⟩ := hold _ _ _ h.box h.ne
  exact ⟨⟨k.own, h.bel.trans (k.below h.own h.bel.size), h1, h2⟩, hold⟩
/-- Ahead of the second laying: the one span's slice. -/
structure TwoB (w : World) (nb : Nat) (x y : Int) (v' : Value) (o' : Sp) (g : Nat) (W : World) : Prop where
  mid : MidB w nb x y v' o' W
  one : Blk W g #[.int .i64 x, .int .i64 y] 62
  ne : some g ≠ v'.ownBlock
theorem AftB.two {w : World} {nb : Nat} {x y : Int} {v v' : Value} {o o' : Sp} {W W' : World} (h : AftB w nb x y v v' o' (W.alloc (.cells #[.int .i64 x, .int .i64 y] 62)).drew W') (k : MidB w nb x y v o W) : TwoB w nb x y v' o' W.heap.size W' := by
  obtain ⟨h1, h2⟩ := h.old _ _ _ (Blk.made W _ _) (fun e => by have := (k.own.lt _ e.symm).2; omega)
  exact ⟨h.mid, h1, h2⟩
theorem AftB.new {w : World} {nb : Nat} {x y : Int} {v v' : Value} {o' : Sp} {W W' : World} (h : AftB w nb x y v v' o' W W') : TwoB w nb x y v' o' W'.heap.size (W'.alloc (.cells #[.int .i64 x, .int .i64 y] 62)) :=
  ⟨h.mid.alloc _, Blk.made _ _ _, fun e => by have := (h.mid.own.lt _ e.symm).2; omega⟩
theorem rdP_one {W : World} {g : Nat} {x y : Int} {t : TypeId} (h : Blk W g #[.int .i64 x, .int .i64 y] t) : RdP W (some ⟨g, 0, none⟩) 1 [(x, y)] [g] :=
  ⟨rfl, rdI_tcv (xs := flat [(x, y)]) (by simpa [tcv, flat] using h) (by simp [flat]) (by omega)⟩
/-- Ahead of a round. -/
structure BInv (w : World) (ps qs : Sp) (k : Nat) (o rs : Sp) (aa : Option Addr) (la ca : Nat) (F : List Nat) (v : Value) (wr : World) : Prop where
  own : wr.ownsRow w.heap.size 62 2 v o.length ((flat o).map (Value.int .i64))
  bel : Below w.heap.size w wr
  rd : RdP w aa la rs F
  lt : ∀ b ∈ F, b < w.heap.size
  cap : la ≤ ca
  len : o.length + rs.length ≤ ps.length + k
  ino : ∀ p ∈ o, InB p
  ina : ∀ p ∈ rs, InB p
  eq : both rs (qs.drop k) o = both ps qs []
set_option maxRecDepth 100000 in
set_option maxHeartbeats 8000000 in
theorem spansOfBoth_any (a b : Option Addr) (la lb ca cb : Nat) (ps qs : Sp) (F G : List Nat) (w : World) (h : RdP w a la ps F) (k : RdP w b lb qs G) (hlen : la + lb ≤ 2097153) (hca : la ≤ ca) (h1 : ∀ p ∈ ps, InB p) (h2 : ∀ p ∈ qs, InB p) :
    Calls Tryz.prog 42 #[.slice a la ca, .slice b lb cb] w fun e w' => NewP w (both ps qs []) e w' := by
  have HL : Hid (ps.length = la ∧ qs.length = lb) := ⟨h.length, k.length⟩
  have HI : Hid (∀ p ∈ qs, InB p) := h2
  have HP0 : Hid (BInv w ps qs 0 [] ps a la ca F (.slice none 0 0) w) := ⟨⟨by simp [flat], .inl ⟨rfl, rfl⟩⟩, Below.refl _ _, h, h.lt, hca, by simp, by simp, h1, rfl⟩
  have HCB : Hid (lb = 0 ∨ ∃ b1 o1, b = some ⟨b1, o1, none⟩ ∧ b1 < w.heap.size ∧ SpCells w b1 o1 lb qs) := cells_of k
  clear h k h1 h2
  go_enter Tryz.func42, Tryz.ntmps42
  go_wp2
  go_loopw [0, 5, 12] (fun av v i wr => ∃ (k : Nat) (o rs : Sp) (aa : Option Addr) (la ca : Nat) (F : List Nat), k ≤ lb ∧ i = .int .i64 k ∧ av = .slice aa la ca ∧ Hid (BInv w ps qs k o rs aa la ca F v wr)) (fun _ _ i _ => lb - (intOf i).toNat)
  case atStart => exact ⟨0, [], ps, a, la, ca, F, by omega, rfl, rfl, HP0⟩
  case round =>
    clear HP0
    obtain ⟨k, o, rs, aa, l0, c0, F0, hk, rfl, rfl, HP⟩ := hrel
    by_cases hlt : k < lb
    · have hcb := HCB.out
      rcases hcb with h0 | ⟨b1, o1, rfl, hbw, hc⟩
      · omega
      obtain ⟨x, hx⟩ : ∃ x, x = (qs.at k).1 := ⟨_, rfl⟩
      obtain ⟨y, hy⟩ : ∃ x, x = (qs.at k).2 := ⟨_, rfl⟩
      have e := hc k hlt
      have hql : k < qs.length := by rw [HL.out.2]; exact hlt
      have HXY : Hid (qs.at k = (x, y)) := by rw [hx, hy]; rfl
      have HINX : Hid (InB (x, y)) := by rw [← HXY.out]; exact HI.out _ (Sp.at_mem hql)
      rw [HXY.out] at e
      have d1 : wr.cell? ⟨b1, o1 + k * 2, none⟩ = some (.int .i64 x) := (HP.out.bel.cell (by exact hbw)).trans e.1
      have d2 : wr.cell? ⟨b1, o1 + k * 2 + 1, none⟩ = some (.int .i64 y) := (HP.out.bel.cell (by exact hbw)).trans e.2
      have hI : (k : Int) < (lb : Int) := by omega
      have HLN : Hid (o.length + rs.length ≤ 2097153) := by have := HP.out.len; have := HL.out; show _ ≤ _; omega
      have HLA : Hid (rs.length = l0) := HP.out.rd.length
      clear e hx hy hc
      go_wp2_with fail
      have HWA : Hid (Below w.heap.size w (wr.alloc (.cells #[.int .i64 x, .int .i64 y] 62))) := Below.allocW _ HP.out.bel (Nat.le_refl _)
      refine (cutAt_any aa l0 c0 rs x F0 _ (HP.out.rd.move HP.out.lt HWA.out) (by have := HLN.out; have := HLA.out; omega) HP.out.cap).mono ?_
      rintro e w2 ⟨a1, l1, c1, a2, l2, c2, F1, F2, rfl, r1, r2, s1, s2, hcp2, hq⟩
      obtain ⟨cn, hcn⟩ : ∃ c, c = cutN rs x := ⟨_, rfl⟩
      rw [← hcn] at r1 r2
      have HQ1 : Hid (RdP w a1 l1 (rs.take cn) F1 ∧ (∀ b ∈ F1, b < w.heap.size) ∧ l1 ≤ rs.length) := ⟨r1.back (fun b hb => HP.out.lt b (s1 b hb)) HWA.out, fun b hb => HP.out.lt b (s1 b hb), by have e := r1.length; rw [List.length_take] at e; omega⟩
      have HQ2 : Hid (RdP w a2 l2 (rs.drop cn) F2 ∧ (∀ b ∈ F2, b < w.heap.size) ∧ l2 ≤ c2) := ⟨r2.back (fun b hb => HP.out.lt b (s2 b hb)) HWA.out, fun b hb => HP.out.lt b (s2 b hb), hcp2⟩
      have HM : Hid (MidB w wr.heap.size x y u5 o w2) := by
        obtain ⟨m, rfl⟩ := hq
        have hal := HP.out.own.alloc (.cells #[.int .i64 x, .int .i64 y] 62)
        exact ⟨⟨hal.1, hal.2⟩, ⟨HWA.out.os, HWA.out.tape, HWA.out.output, HWA.out.size, HWA.out.block⟩, Blk.made wr _ _, fun e => by have := (HP.out.own.lt _ e.symm).2; omega⟩
      have HCN : Hid (cn = cutN rs x) := hcn
      have q1 : w2.cell? ⟨wr.heap.size, 0, none⟩ = some (.int .i64 x) := HM.out.box.cell 0
      have q2 : w2.cell? ⟨wr.heap.size, 1, none⟩ = some (.int .i64 y) := HM.out.box.cell 1
      clear r1 r2 s1 s2 hcp2 hq hcn HWA d1 d2
      have HC1 : Hid (∀ W, MidB w wr.heap.size x y u5 o W → Calls Tryz.prog 79 #[u5, .slice a1 l1 c1] W (fun e w' => ∃ v', e = .returned v' ∧ AftB w wr.heap.size x y u5 v' (lay o (rs.take cn)) W w')) := by
        intro W hW
        refine (laid_any w.heap.size u5 o a1 l1 c1 (rs.take cn) F1 W hW.own hW.bel.size (HQ1.out.1.move HQ1.out.2.1 hW.bel) (fun b hb e => by have := HQ1.out.2.1 b hb; have := (hW.own.lt _ e.symm).1; omega) (by have := HLN.out; have := HQ1.out.2.2; omega) HP.out.ino (fun p hp => HP.out.ina p (List.mem_of_mem_take hp))).mono ?_
        rintro e w' ⟨v, rfl, hl⟩
        exact ⟨v, rfl, AftB.of hW hl⟩
      have HC2 : Hid (∀ v' W g, TwoB w wr.heap.size x y v' (lay o (rs.take cn)) g W → Calls Tryz.prog 79 #[v', .slice (some ⟨g, 0, none⟩) 1 1] W (fun e w' => ∃ v'', e = .returned v'' ∧ MidB w wr.heap.size x y v'' (lay1 (lay o (rs.take cn)) (x, y)) w')) := by
        intro v' W g hW
        refine (laid_any w.heap.size v' (lay o (rs.take cn)) (some ⟨g, 0, none⟩) 1 1 [(x, y)] [g] W hW.mid.own hW.mid.bel.size (rdP_one hW.one) (fun b hb => by rw [List.mem_singleton.1 hb]; exact hW.ne) (by have e := lay_length (rs.take cn) o; have := HLN.out; rw [List.length_take] at e; omega) (lay_inb HP.out.ino (fun p hp => HP.out.ina p (List.mem_of_mem_take hp))) (fun p hp => by rw [List.mem_singleton.1 hp]; exact HINX.out)).mono ?_
        rintro e w' ⟨v, rfl, hl⟩
        exact ⟨v, rfl, (AftB.of hW.mid hl).mid⟩
      have HFIN : Hid (∀ v' W, MidB w wr.heap.size x y v' (lay1 (lay o (rs.take cn)) (x, y)) W → BInv w ps qs (k + 1) (lay1 (lay o (rs.take cn)) (x, y)) (rs.drop cn) a2 l2 c2 F2 v' W) := by
        intro v' W hW
        refine ⟨hW.own, hW.bel, HQ2.out.1, HQ2.out.2.1, HQ2.out.2.2, ?_, lay1_inb (lay_inb HP.out.ino (fun p hp => HP.out.ina p (List.mem_of_mem_take hp))) HINX.out, fun p hp => HP.out.ina p (List.mem_of_mem_drop hp), ?_⟩
        · have e1 := lay1_length (lay o (rs.take cn)) (x, y)
          have e2 := lay_length (rs.take cn) o
          have e3 := HP.out.len
          rw [List.length_take] at e2
          rw [List.length_drop]
          omega
        · have e := HP.out.eq
          rw [drop_at hql, HXY.out, both] at e
          rw [HCN.out]
          exact e
      have HKE : Hid (∀ W, Blk W wr.heap.size #[.int .i64 x, .int .i64 y] 62 → W.cell? ⟨wr.heap.size, 0, none⟩ = some (.int .i64 x) ∧ W.cell? ⟨wr.heap.size, 1, none⟩ = some (.int .i64 y)) := fun W hW => ⟨hW.cell 0, hW.cell 1⟩
      have HMD : Hid (MidB w wr.heap.size x y u5 o w2.drew) := HM.out.drew
      have HMA : Hid (MidB w wr.heap.size x y u5 o (w2.alloc (.cells #[.int .i64 x, .int .i64 y] 62)).drew) := (HM.out.alloc _).drew
      go_wp2
      go_region_held3 (fun W => W.cell? ⟨wr.heap.size, 0, none⟩ = some (.int .i64 x) ∧ W.cell? ⟨wr.heap.size, 1, none⟩ = some (.int .i64 y))
        ((refine HKE.out _ ?_; first | (with_reducible exact k2.box) | (with_reducible exact k1.mid.box) | (with_reducible exact k1.mid.box.alloc _) | (with_reducible exact HMD.out.box) | (with_reducible exact HMA.out.box)))
        (first
          | (have zz := k1; clear zz; go_at_call 79; refine (HC2.out _ _ _ (by first | (with_reducible exact k1.two HM.out) | (with_reducible exact k1.new))).mono ?_; rintro e w4 ⟨v4, rfl, k2⟩)
          | (go_at_call 79; refine (HC1.out _ (by first | (with_reducible exact HMD.out) | (with_reducible exact HMA.out))).mono ?_; rintro e w3 ⟨v3, rfl, k1⟩))
      all_goals
        have HB2 := HFIN.out _ _ k2
        have HB3 : Hid (BInv w ps qs (k + 1) (lay1 (lay o (rs.take cn)) (x, y)) (rs.drop cn) a2 l2 c2 F2 v4 w4) := HB2
        clear HB2 k2 k1 HC1 HC2 HKE HFIN q1 q2 HMD HMA HM
        go_wp2
        go_roundw
      all_goals first | exact ⟨k + 1, _, _, a2, l2, c2, F2, by omega, by go_num, rfl, HB3⟩ | (simp [intOf]; omega)
    · obtain rfl : k = lb := by omega
      have HE : Hid (lay o rs = both ps qs []) := by
        have := HP.out.eq
        rw [List.drop_eq_nil_of_le (by rw [HL.out.2]; omega)] at this
        exact this
      go_wp2_with fail
      refine (laid_any w.heap.size u5 o aa l0 c0 rs F0 _ HP.out.own HP.out.bel.size (HP.out.rd.move HP.out.lt HP.out.bel) (fun b hb e => by have := HP.out.lt b hb; have := (HP.out.own.lt _ e.symm).1; omega) (by have := HP.out.len; have := HL.out; have := HP.out.rd.length; omega) HP.out.ino HP.out.ina).mono ?_
      rintro e w2 ⟨v, rfl, hl⟩
      have HV : Hid (LayAt wr w.heap.size u5 v (lay o rs) w2 ∧ Below w.heap.size w w2) := ⟨hl, HP.out.bel.trans (hl.below HP.out.own HP.out.bel.size)⟩
      clear hl
      go_wp2
      go_ret
      obtain ⟨a', c', F', rfl, hr, ho, hnn⟩ := rdP_of_own HV.out.1.own
      rw [← HE.out]
      exact ⟨_, _, _, F', rfl, hr, ho, HV.out.2, hnn⟩
end Go.Proofs.YtgkbhhlkaifnoaaGreatDoor
/- The walks through the program's copying of a set, and the library's comparing of two. No statement of the seat is proved here. -/
namespace Go.Proofs.YtgkbhhlkaifnoaaGreatDoor
open Go.RowKit
theorem run_copy_row2 {P : Program} (w : World) (dT sT ty elem : TypeId) (g len dCap : Nat) (a : Addr) (sCap : Nat) (cur : Array Value) (t : TypeId) (cs : List Value)
    (hu : P.underlying dT = some (.slice elem)) (hs : (P.info? elem).map (·.size) = some 2)
    (hg : w.heap[g]? = some (.cells cur t (0, 0))) (hn : cs.length = len * 2)
    (hsrc : ∀ j v, cs[j]? = some v → w.cell? (a.add j) = some v) (hfit : cs.length ≤ cur.size) (h1 : ∀ v ∈ cs, v.oneCell' = true) :
    (Builtin.copy_ #[dT, sT] ty #[.slice (some ⟨g, 0, none⟩) len dCap, .slice (some a) len sCap]).run P w =
      .ok (goInt len) (w.setRow g (cs ++ cur.toList.drop cs.length).toArray) := by
  have hl := run_loadCells_list (P := P) w a cs hsrc
  have hst := run_storeCells_at P g 0 t cs 0 cur w hg (by simpa using hfit) h1
  rw [hn] at hl
  cases hq : P.info? elem with
  | none => simp [hq] at hs
  | some i =>
    have hi : i.size = 2 := by simpa [hq] using hs
    simp [Builtin.copy_, run_underlying hu, Builtin.lenOf, Builtin.firstCells, sizeOf, typeInfo, hq, hi, hl, hst]
theorem run_copy_none2 {P : Program} (w : World) (dT sT ty elem : TypeId) (d a : Option Addr) (dCap sCap : Nat) (hu : P.underlying dT = some (.slice elem)) (hs : (P.info? elem).map (·.size) = some 2) :
    (Builtin.copy_ #[dT, sT] ty #[.slice d 0 dCap, .slice a 0 sCap]).run P w = .ok (goInt 0) w := by
  cases hq : P.info? elem with
  | none => simp [hq] at hs
  | some i =>
    have hl : ∀ (x : Addr), (loadCells x 0).run P w = .ok #[] w := fun x => by simpa using run_loadCells_list (P := P) w x [] (by simp)
    cases d <;> cases a <;> simp [Builtin.copy_, run_underlying hu, Builtin.lenOf, Builtin.firstCells, sizeOf, typeInfo, hq, storeCells, hl]
theorem infoSpan2 : (Tryz.prog.info? 62).map (·.size) = some 2 := by kernel_rfl
theorem flat_one {ps : Sp} : ∀ v ∈ (flat ps).map (Value.int .i64), v.oneCell' = true := by
  intro v hv
  obtain ⟨x, _, rfl⟩ := List.mem_map.1 hv
  rfl
set_option maxRecDepth 200000 in
set_option maxHeartbeats 2000000 in
theorem copiedSpans_any (a : Option Addr) (len cap : Nat) (ps : Sp) (F : List Nat) (w : World) (h : RdP w a len ps F) (hlen : len ≤ 2097152) :
    Calls Tryz.prog 65 #[.slice a len cap] w fun e w' => NewP w ps e w' := by
  obtain ⟨i0, hi, hz0, hz1, hz2⟩ := info_parts infoSpan
  have HL : Hid (ps.length = len) := h.length
  have HR : Hid (RdP w a len ps F) := h
  rcases h.cells with ⟨rfl, _, rfl⟩ | ⟨b, off, hp, rfl, _, _⟩
  · clear h
    go_enter Tryz.func65, Tryz.ntmps65
    go_wp2_with (at_make; refine wpList_make_full _ rfl _ _ 25 rfl w.heap.size 62 i0 (.agg #[.int .i64 0, .int .i64 0]) 2 Tryz.underlying25 hi hz0 hz1 .i64 .i64 _ _ 0 rfl rfl (by simp) (by simp) (by omega) (by unfold maxLen; omega) (Nat.le_refl _) ?_; intro w1 hown hgrow)
    have hcp := run_copy_none2 (P := Tryz.prog) w1 25 25 3 62 (some ⟨w.heap.size, 0, none⟩) a 0 cap Tryz.underlying25 infoSpan2
    rw [hcp]
    go_wp2
    go_ret
    exact ⟨_, 0, 0, [], rfl, RdP.nil, Own.nil, (Below.refl _ _).grown hgrow (Nat.le_refl _) (fun k hk => by cases hk), (fun e => by cases e), Nat.le_refl _⟩
  · clear h
    go_enter Tryz.func65, Tryz.ntmps65
    go_wp2_with (at_make; refine wpList_make_full _ rfl _ _ 25 rfl w.heap.size 62 i0 (.agg #[.int .i64 0, .int .i64 0]) 2 Tryz.underlying25 hi hz0 hz1 .i64 .i64 _ _ len rfl rfl rfl rfl (by rw [hz2]; omega) (by unfold maxLen; omega) (Nat.le_refl _) ?_; intro w1 hown hgrow)
    have HM : Hid (Blk w1 w.heap.size (tcv (List.replicate (2 * len) 0)) 62 ∧ Below w.heap.size w w1) := by
      refine ⟨?_, (Below.refl _ _).grown hgrow (Nat.le_refl _) (fun k hk => by cases hk)⟩
      have e := own_blk hown hp
      have e2 : (madeCells (Value.agg #[Value.int IntKind.i64 0, Value.int IntKind.i64 0]).cells (len * 2)).toList.toArray = tcv (List.replicate (2 * len) 0) := made_flat len
      rw [← e2]
      exact e
    clear hown hgrow
    have HLF : Hid ((flat ps).length = 2 * len) := by rw [flat_length, HL.out]; rfl
    have hcp := run_copy_row2 (P := Tryz.prog) w1 25 25 3 62 w.heap.size len len ⟨b, off, none⟩ cap _ 62 ((flat ps).map (Value.int .i64)) Tryz.underlying25 infoSpan2 HM.out.1 (by have := HLF.out; simp; omega) (cells_flat (HR.out.below HM.out.2) hp) (by have := HLF.out; simp [tcv]; omega) flat_one
    have hrow : ((flat ps).map (Value.int .i64) ++ (tcv (List.replicate (2 * len) 0)).toList.drop ((flat ps).map (Value.int .i64)).length).toArray = tcv (flat ps) := by
      have := HLF.out
      rw [List.drop_eq_nil_of_le (by simp [tcv]; omega), List.append_nil]
      rfl
    rw [hrow] at hcp
    have HW : Hid (Blk (w1.setRow w.heap.size (tcv (flat ps))) w.heap.size (tcv (flat ps)) 62 ∧ Below w.heap.size w (w1.setRow w.heap.size (tcv (flat ps)))) := ⟨HM.out.1.setRow, below_setRow HM.out.2 (Nat.le_refl _) _⟩
    clear hrow
    rw [hcp]
    go_wp2
    go_ret
    exact ⟨_, len, len, [w.heap.size], rfl, ⟨HL.out, rdI_tcv HW.out.1 HLF.out (by omega)⟩, ⟨by simp, fun b hb o => by simp at hb; subst hb; exact HW.out.1.frozen o, by simp⟩, HW.out.2, (fun e => by cases e), Nat.le_refl _⟩
end Go.Proofs.YtgkbhhlkaifnoaaGreatDoor
