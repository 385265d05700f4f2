/- Several texts of mine, laid together. No statement of the seat is proved here. -/
import Derived.Test.YtgkbhhlkaifnoaaGreatDoorB2
import Derived.Test.YtgkbhhlkaifnoaaGreatDoorB1
import Derived.Test.YtgkbhhlkaifnoaaGreatDoorWhole
import Derived.WalkKit
import Derived.LaidEql
import Derived.Stop.Asserts
import Derived.RowKitTokens
import Derived.Test.YtgkbhhlkaifnoaaGreatDoorBase
import Derived.Shelf.Strings.Builder1
import Derived.Shelf.Strings.Builder2
import Derived.Shelf.Strings.OnBuilder
import Derived.Shelf.Strconv.Itoa0
import Derived.Shelf.Strconv.Itoa1
import Derived.Shelf.LaysM
import Derived.Shelf.Strconv.Itoa2
import Derived.Shelf.Strconv.Itoa3
import Derived.Test.YtgkbhhlkaifnoaaGreatDoorProg
import Derived.Laws.BytesArg
import Derived.Lib.LaidTab
import Derived.Laws.StructEq
/- The walks through SeatGrant and Owed, of the model and of the program. No statement of the seat is proved here. -/
namespace Go.Proofs.YtgkbhhlkaifnoaaGreatDoor
open Go.RowKit
theorem SeW.start {w W W1 W2 : World} {A : Array Value} {ep gr me la : Int} {ts : Sp} {b : Option Addr} {l c : Nat} {F : List Nat} (T : Two w A #[.int .i64 0, .int .i64 0, .slice none 0 0, .int .i64 0, .int .i64 0] 45 W) (hp : RdP W1 b l ts F) (hc : Capd b l c) (o : Own W.heap.size W1 F) (k : Below W.heap.size W W1) (g : Blk W2 W1.heap.size #[.int .i64 ep, .int .i64 gr, .slice b l c, .int .i64 me, .int .i64 la] 45) (k2 : Below W1.heap.size W1 W2) : SeW w A W1.heap.size ep gr me la ts b l c F W2 := by
  have hs := T.snd.lt
  have hk := k.size
  exact ⟨(T.fst.below k).below k2, (T.snd.below k).below k2, g, hp.below k2, hc, (o.below hp.lt k2).mono (by omega), Below.next (Below.next T.bel k) k2, by omega, fun hx => by have := hp.lt _ hx; omega⟩
/-- A seat behind a SeatGrant. -/
def Se.grant (x : Se) (per : Int) : Se := if x.ok per = true then ⟨x.epoch, min 60 (x.merged + per), x.taken, x.merged, x.last⟩ else x
theorem Se.grant_wide {x : Se} (h : x.wide) (per : Int) : (x.grant per).wide := by
  unfold Se.grant
  split <;> exact h
/-- What is granted and not added up. -/
def Se.owed (x : Se) : Int := if (0 ≤ x.granted ∧ x.granted ≤ 60) ∧ 0 ≤ x.merged ∧ x.merged ≤ 60 then max (x.granted - x.merged) 0 else 0
set_option maxRecDepth 200000 in
set_option maxHeartbeats 4000000 in
theorem seGrantSpec_any (v : Value) (x : Se) (per : Int) (F : List Nat) (w : World) (h : RdSe w v x F) (hl : x.taken.length ≤ 2097152) :
    Calls Tryz.prog 18 #[v, .int .i64 per] w fun e w' => NewSe w (x.grant per) e w' := by
  obtain ⟨b, l, c, rfl, hP, hcp⟩ := h
  have HX : Hid (RdSe w (.agg #[.int .i64 x.epoch, .int .i64 x.granted, .slice b l c, .int .i64 x.merged, .int .i64 x.last]) x F ∧ x.taken.length ≤ 2097152) := ⟨⟨b, l, c, rfl, hP, hcp⟩, hl⟩
  have HP : Hid (RdP w b l x.taken F ∧ l ≤ 2097152 ∧ x.taken.length = l ∧ Capd b l c) := ⟨hP, by rw [← hP.length]; exact hl, hP.length, hcp⟩
  have HSZ : Hid (0 ≤ x.taken.size ∧ x.taken.size ≤ 20971520000) := by have := Sp.size_range x.taken; exact ⟨this.1, by omega⟩
  clear hP hl hcp
  have HT : Hid (Two w #[.int .i64 x.epoch, .int .i64 x.granted, .slice b l c, .int .i64 x.merged, .int .i64 x.last] #[.int .i64 0, .int .i64 0, .slice none 0 0, .int .i64 0, .int .i64 0] 45 ((w.alloc (.cells #[.int .i64 x.epoch, .int .i64 x.granted, .slice b l c, .int .i64 x.merged, .int .i64 x.last] 45)).alloc (.cells #[.int .i64 0, .int .i64 0, .slice none 0 0, .int .i64 0, .int .i64 0] 45))) := Two.made w _ _ _
  go_enter Tryz.func18, Tryz.ntmps18
  go_wp2_with (first | go_skip | (with_reducible refine stopLoad 45 rfl ?_) | (with_reducible refine stopStore 45 rfl ?_))
  obtain ⟨W0, hW0⟩ : ∃ W, W = (w.alloc (.cells #[.int .i64 x.epoch, .int .i64 x.granted, .slice b l c, .int .i64 x.merged, .int .i64 x.last] 45)).alloc (.cells #[.int .i64 0, .int .i64 0, .slice none 0 0, .int .i64 0, .int .i64 0] 45) := ⟨_, rfl⟩
  rw [← hW0] at HT ⊢
  clear hW0
  refine load_known 45 w.heap.size #[.int .i64 x.epoch, .int .i64 x.granted, .slice b l c, .int .i64 x.merged, .int .i64 x.last] 45 _ HT.out.fst rfl rfl rfl Tryz.underlying45 rfl infoSeI ?_
  go_wp2_with fail
  refine (l9Copy_any _ x F _ (HX.out.1.below HT.out.bel) HX.out.2).mono ?_
  rintro e w1 ⟨zv, G, rfl, ⟨p, n, k, rfl, rp, kp⟩, oz, bz⟩
  have HC1 : Hid (Two w #[.int .i64 x.epoch, .int .i64 x.granted, .slice b l c, .int .i64 x.merged, .int .i64 x.last] #[.int .i64 0, .int .i64 0, .slice none 0 0, .int .i64 0, .int .i64 0] 45 W0 ∧ RdP w1 p n x.taken G ∧ Capd p n k ∧ Own W0.heap.size w1 G ∧ Below W0.heap.size W0 w1) := ⟨HT.out, rp, kp, oz, bz⟩
  clear rp kp oz bz HT
  go_wp2_with (first | go_skip | (with_reducible refine stopLoad 45 rfl ?_) | (with_reducible refine stopStore 45 rfl ?_))
  refine store_fresh 45 w1.heap.size rfl #[.int .i64 0, .int .i64 0, .slice none 0 0, .int .i64 0, .int .i64 0] #[.int .i64 x.epoch, .int .i64 x.granted, .slice p n k, .int .i64 x.merged, .int .i64 x.last] 45 rfl rfl rfl rfl infoSeI rfl (by simp [Value.oneCell']) ?_
  intro w2 hg hb
  have H2 : Hid (SeW w #[.int .i64 x.epoch, .int .i64 x.granted, .slice b l c, .int .i64 x.merged, .int .i64 x.last] w1.heap.size x.epoch x.granted x.merged x.last x.taken p n k G w2) := SeW.start HC1.out.1 HC1.out.2.1 HC1.out.2.2.1 HC1.out.2.2.2.1 HC1.out.2.2.2.2 hg hb
  obtain ⟨L, hL⟩ : ∃ L, L = w1.heap.size := ⟨_, rfl⟩
  rw [← hL] at H2 ⊢
  clear hg hb hL HC1
  go_wp2_with (first | go_skip | (with_reducible refine stopLoad 45 rfl ?_) | (with_reducible refine stopStore 45 rfl ?_))
  refine load_known 45 w.heap.size #[.int .i64 x.epoch, .int .i64 x.granted, .slice b l c, .int .i64 x.merged, .int .i64 x.last] 45 _ H2.out.box rfl rfl rfl Tryz.underlying45 rfl infoSeI ?_
  go_wp2_with fail
  refine (seOkSpec_any _ x per F _ (HX.out.1.below H2.out.bel) HX.out.2).mono ?_
  rintro e w3 ⟨rfl, hb⟩
  have H3 : Hid (SeW w #[.int .i64 x.epoch, .int .i64 x.granted, .slice b l c, .int .i64 x.merged, .int .i64 x.last] L x.epoch x.granted x.merged x.last x.taken p n k G w3) := H2.out.below hb
  obtain ⟨d, hd⟩ : ∃ d, d = x.ok per := ⟨_, rfl⟩
  rw [← hd]
  have HD : Hid (d = x.ok per) := hd
  clear hd hb H2
  cases d
  · have HV : Hid (x.grant per = x) := by show _ = _; unfold Se.grant; rw [← HD.out]; rfl
    go_wp2_with (first | go_skip | (with_reducible refine stopLoad 45 rfl ?_) | (with_reducible refine stopStore 45 rfl ?_))
    refine load_known 45 L #[.int .i64 x.epoch, .int .i64 x.granted, .slice p n k, .int .i64 x.merged, .int .i64 x.last] 45 _ H3.out.loc rfl rfl rfl Tryz.underlying45 rfl infoSeI ?_
    go_wp2_with (first | go_skip | (with_reducible refine stopLoad 45 rfl ?_) | (with_reducible refine stopStore 45 rfl ?_))
    refine store_known 45 (w.heap.size + 1) _ #[.int .i64 x.epoch, .int .i64 x.granted, .slice p n k, .int .i64 x.merged, .int .i64 x.last] 45 H3.out.res rfl rfl rfl rfl infoSeI rfl (by simp [Value.oneCell']) ?_
    go_wp2
    refine bodyPost_ret (results_cell_row Tryz.results18 _ _ (w.heap.size + 1) _ _ (0, 0) _ rfl H3.out.res.setRow Tryz.underlying45 rfl infoSeI) rfl ?_
    rw [HV.out]
    exact ⟨_, G, rfl, H3.out.done.1, H3.out.done.2.1, H3.out.done.2.2⟩
  have HR : Hid (x.Right per) := Se.right HD.out.symm
  have HV : Hid (x.grant per = ⟨x.epoch, min 60 (x.merged + per), x.taken, x.merged, x.last⟩) := by show _ = _; unfold Se.grant; rw [if_pos HD.out.symm]
  have hwz : IntKind.i64.wrap (x.merged + per) = x.merged + per := wrapSe (by have := HR.out.merged; have := HR.out.per; have := HSZ.out; omega)
  have hm0 : -10 ≤ x.merged + per := by have := HR.out.merged; have := HR.out.per; omega
  have hm1 : x.merged + per ≤ 20971520008 := by have := HR.out.merged; have := HR.out.per; have := HSZ.out; omega
  have c3' := H3.out.box.cell 3
  have c1' := H3.out.loc.cell 1
  have f1' := H3.out.loc.frozen 1
  simp only [aT, aS, aZ] at c3' c1'
  go_wp2_with fail
  refine (l1Min_any 60 (x.merged + per) _).mono ?_
  rintro e w4 ⟨rfl, hq⟩
  have hq' := hq.symm
  subst hq'
  obtain ⟨g, hg⟩ : ∃ g, g = min 60 (x.merged + per) := ⟨_, rfl⟩
  rw [← hg]
  have HG : Hid (min 60 (x.merged + per) = g) := hg.symm
  clear hq hg
  go_wp2_with (first | go_skip | (with_reducible refine stopLoad 45 rfl ?_) | (with_reducible refine stopStore 45 rfl ?_))
  have H5 : Hid (SeW w #[.int .i64 x.epoch, .int .i64 x.granted, .slice b l c, .int .i64 x.merged, .int .i64 x.last] L x.epoch g x.merged x.last x.taken p n k G (w3.setCell ⟨L, 1, none⟩ (.int .i64 g))) := H3.out.set 1 (.int .i64 g) rfl
  obtain ⟨w5, hw5⟩ : ∃ W, W = w3.setCell ⟨L, 1, none⟩ (.int .i64 g) := ⟨_, rfl⟩
  rw [← hw5] at H5 ⊢
  clear hw5 c3' c1' f1' H3 hwz hm0 hm1
  refine load_known 45 L #[.int .i64 x.epoch, .int .i64 g, .slice p n k, .int .i64 x.merged, .int .i64 x.last] 45 _ H5.out.loc rfl rfl rfl Tryz.underlying45 rfl infoSeI ?_
  go_wp2_with (first | go_skip | (with_reducible refine stopLoad 45 rfl ?_) | (with_reducible refine stopStore 45 rfl ?_))
  refine store_known 45 (w.heap.size + 1) _ #[.int .i64 x.epoch, .int .i64 g, .slice p n k, .int .i64 x.merged, .int .i64 x.last] 45 H5.out.res rfl rfl rfl rfl infoSeI rfl (by simp [Value.oneCell']) ?_
  go_wp2
  refine bodyPost_ret (results_cell_row Tryz.results18 _ _ (w.heap.size + 1) _ _ (0, 0) _ rfl H5.out.res.setRow Tryz.underlying45 rfl infoSeI) rfl ?_
  rw [HV.out, HG.out]
  exact ⟨_, G, rfl, H5.out.done.1, H5.out.done.2.1, H5.out.done.2.2⟩
set_option maxRecDepth 200000 in
set_option maxHeartbeats 4000000 in
theorem seGrantImpl_any (v : Value) (x : Se) (per : Int) (F : List Nat) (w : World) (h : RdSe w v x F) (hl : x.taken.length ≤ 2097152) :
    Calls Tryz.prog 16 #[v, .int .i64 per] w fun e w' => NewSe w (x.grant per) e w' := by
  obtain ⟨b, l, c, rfl, hP, hcp⟩ := h
  have HX : Hid (RdSe w (.agg #[.int .i64 x.epoch, .int .i64 x.granted, .slice b l c, .int .i64 x.merged, .int .i64 x.last]) x F ∧ x.taken.length ≤ 2097152) := ⟨⟨b, l, c, rfl, hP, hcp⟩, hl⟩
  have HP : Hid (RdP w b l x.taken F ∧ l ≤ 2097152 ∧ x.taken.length = l ∧ Capd b l c) := ⟨hP, by rw [← hP.length]; exact hl, hP.length, hcp⟩
  have HSZ : Hid (0 ≤ x.taken.size ∧ x.taken.size ≤ 20971520000) := by have := Sp.size_range x.taken; exact ⟨this.1, by omega⟩
  clear hP hl hcp
  have HT : Hid (Two w #[.int .i64 x.epoch, .int .i64 x.granted, .slice b l c, .int .i64 x.merged, .int .i64 x.last] #[.int .i64 0, .int .i64 0, .slice none 0 0, .int .i64 0, .int .i64 0] 45 ((w.alloc (.cells #[.int .i64 x.epoch, .int .i64 x.granted, .slice b l c, .int .i64 x.merged, .int .i64 x.last] 45)).alloc (.cells #[.int .i64 0, .int .i64 0, .slice none 0 0, .int .i64 0, .int .i64 0] 45))) := Two.made w _ _ _
  go_enter Tryz.func16, Tryz.ntmps16
  go_wp2_with (first | go_skip | (with_reducible refine stopLoad 45 rfl ?_) | (with_reducible refine stopStore 45 rfl ?_))
  obtain ⟨W0, hW0⟩ : ∃ W, W = (w.alloc (.cells #[.int .i64 x.epoch, .int .i64 x.granted, .slice b l c, .int .i64 x.merged, .int .i64 x.last] 45)).alloc (.cells #[.int .i64 0, .int .i64 0, .slice none 0 0, .int .i64 0, .int .i64 0] 45) := ⟨_, rfl⟩
  rw [← hW0] at HT ⊢
  clear hW0
  refine load_known 45 w.heap.size #[.int .i64 x.epoch, .int .i64 x.granted, .slice b l c, .int .i64 x.merged, .int .i64 x.last] 45 _ HT.out.fst rfl rfl rfl Tryz.underlying45 rfl infoSeI ?_
  go_wp2_with fail
  refine (copiedSeat_any _ x F _ (HX.out.1.below HT.out.bel) HX.out.2).mono ?_
  rintro e w1 ⟨zv, G, rfl, ⟨p, n, k, rfl, rp, kp⟩, oz, bz⟩
  have HC1 : Hid (Two w #[.int .i64 x.epoch, .int .i64 x.granted, .slice b l c, .int .i64 x.merged, .int .i64 x.last] #[.int .i64 0, .int .i64 0, .slice none 0 0, .int .i64 0, .int .i64 0] 45 W0 ∧ RdP w1 p n x.taken G ∧ Capd p n k ∧ Own W0.heap.size w1 G ∧ Below W0.heap.size W0 w1) := ⟨HT.out, rp, kp, oz, bz⟩
  clear rp kp oz bz HT
  go_wp2_with (first | go_skip | (with_reducible refine stopLoad 45 rfl ?_) | (with_reducible refine stopStore 45 rfl ?_))
  refine store_fresh 45 w1.heap.size rfl #[.int .i64 0, .int .i64 0, .slice none 0 0, .int .i64 0, .int .i64 0] #[.int .i64 x.epoch, .int .i64 x.granted, .slice p n k, .int .i64 x.merged, .int .i64 x.last] 45 rfl rfl rfl rfl infoSeI rfl (by simp [Value.oneCell']) ?_
  intro w2 hg hb
  have H2 : Hid (SeW w #[.int .i64 x.epoch, .int .i64 x.granted, .slice b l c, .int .i64 x.merged, .int .i64 x.last] w1.heap.size x.epoch x.granted x.merged x.last x.taken p n k G w2) := SeW.start HC1.out.1 HC1.out.2.1 HC1.out.2.2.1 HC1.out.2.2.2.1 HC1.out.2.2.2.2 hg hb
  obtain ⟨L, hL⟩ : ∃ L, L = w1.heap.size := ⟨_, rfl⟩
  rw [← hL] at H2 ⊢
  clear hg hb hL HC1
  go_wp2_with (first | go_skip | (with_reducible refine stopLoad 45 rfl ?_) | (with_reducible refine stopStore 45 rfl ?_))
  refine load_known 45 w.heap.size #[.int .i64 x.epoch, .int .i64 x.granted, .slice b l c, .int .i64 x.merged, .int .i64 x.last] 45 _ H2.out.box rfl rfl rfl Tryz.underlying45 rfl infoSeI ?_
  go_wp2_with fail
  refine (seOkImpl_any _ x per F _ (HX.out.1.below H2.out.bel) HX.out.2).mono ?_
  rintro e w3 ⟨rfl, hb⟩
  have H3 : Hid (SeW w #[.int .i64 x.epoch, .int .i64 x.granted, .slice b l c, .int .i64 x.merged, .int .i64 x.last] L x.epoch x.granted x.merged x.last x.taken p n k G w3) := H2.out.below hb
  obtain ⟨d, hd⟩ : ∃ d, d = x.ok per := ⟨_, rfl⟩
  rw [← hd]
  have HD : Hid (d = x.ok per) := hd
  clear hd hb H2
  cases d
  · have HV : Hid (x.grant per = x) := by show _ = _; unfold Se.grant; rw [← HD.out]; rfl
    go_wp2_with (first | go_skip | (with_reducible refine stopLoad 45 rfl ?_) | (with_reducible refine stopStore 45 rfl ?_))
    refine load_known 45 L #[.int .i64 x.epoch, .int .i64 x.granted, .slice p n k, .int .i64 x.merged, .int .i64 x.last] 45 _ H3.out.loc rfl rfl rfl Tryz.underlying45 rfl infoSeI ?_
    go_wp2_with (first | go_skip | (with_reducible refine stopLoad 45 rfl ?_) | (with_reducible refine stopStore 45 rfl ?_))
    refine store_known 45 (w.heap.size + 1) _ #[.int .i64 x.epoch, .int .i64 x.granted, .slice p n k, .int .i64 x.merged, .int .i64 x.last] 45 H3.out.res rfl rfl rfl rfl infoSeI rfl (by simp [Value.oneCell']) ?_
    go_wp2
    refine bodyPost_ret (results_cell_row Tryz.results16 _ _ (w.heap.size + 1) _ _ (0, 0) _ rfl H3.out.res.setRow Tryz.underlying45 rfl infoSeI) rfl ?_
    rw [HV.out]
    exact ⟨_, G, rfl, H3.out.done.1, H3.out.done.2.1, H3.out.done.2.2⟩
  have HR : Hid (x.Right per) := Se.right HD.out.symm
  have HV : Hid (x.grant per = ⟨x.epoch, min 60 (x.merged + per), x.taken, x.merged, x.last⟩) := by show _ = _; unfold Se.grant; rw [if_pos HD.out.symm]
  have hwz : IntKind.i64.wrap (x.merged + per) = x.merged + per := wrapSe (by have := HR.out.merged; have := HR.out.per; have := HSZ.out; omega)
  have hm0 : -10 ≤ x.merged + per := by have := HR.out.merged; have := HR.out.per; omega
  have hm1 : x.merged + per ≤ 20971520008 := by have := HR.out.merged; have := HR.out.per; have := HSZ.out; omega
  have c3' := H3.out.box.cell 3
  have c1' := H3.out.loc.cell 1
  have f1' := H3.out.loc.frozen 1
  simp only [aT, aS, aZ] at c3' c1'
  by_cases hlt : x.merged + per < 60
  · have HG : Hid (min 60 (x.merged + per) = x.merged + per) := by show _ = _; omega
    have hd1 : decide (x.merged + per < 60) = true := decide_eq_true hlt
    have hd2 : decide (60 < x.merged + per) = false := decide_eq_false (by omega)
    go_wp2_with (first | go_skip | (with_reducible refine stopLoad 45 rfl ?_) | (with_reducible refine stopStore 45 rfl ?_))
    try simp only [HG.out]
    clear hlt hd1 hd2
    have H5 : Hid (SeW w #[.int .i64 x.epoch, .int .i64 x.granted, .slice b l c, .int .i64 x.merged, .int .i64 x.last] L x.epoch (x.merged + per) x.merged x.last x.taken p n k G (w3.setCell ⟨L, 1, none⟩ (.int .i64 (x.merged + per)))) := H3.out.set 1 (.int .i64 (x.merged + per)) rfl
    obtain ⟨w5, hw5⟩ : ∃ W, W = w3.setCell ⟨L, 1, none⟩ (.int .i64 (x.merged + per)) := ⟨_, rfl⟩
    rw [← hw5] at H5 ⊢
    clear hw5 c3' c1' f1' H3 hwz hm0 hm1
    refine load_known 45 L #[.int .i64 x.epoch, .int .i64 (x.merged + per), .slice p n k, .int .i64 x.merged, .int .i64 x.last] 45 _ H5.out.loc rfl rfl rfl Tryz.underlying45 rfl infoSeI ?_
    go_wp2_with (first | go_skip | (with_reducible refine stopLoad 45 rfl ?_) | (with_reducible refine stopStore 45 rfl ?_))
    refine store_known 45 (w.heap.size + 1) _ #[.int .i64 x.epoch, .int .i64 (x.merged + per), .slice p n k, .int .i64 x.merged, .int .i64 x.last] 45 H5.out.res rfl rfl rfl rfl infoSeI rfl (by simp [Value.oneCell']) ?_
    go_wp2
    refine bodyPost_ret (results_cell_row Tryz.results16 _ _ (w.heap.size + 1) _ _ (0, 0) _ rfl H5.out.res.setRow Tryz.underlying45 rfl infoSeI) rfl ?_
    rw [HV.out, HG.out]
    exact ⟨_, G, rfl, H5.out.done.1, H5.out.done.2.1, H5.out.done.2.2⟩
  · have HG : Hid (min 60 (x.merged + per) = 60) := by show _ = _; omega
    have hd1 : decide (x.merged + per < 60) = false := decide_eq_false hlt
    go_wp2_with (first | go_skip | (with_reducible refine stopLoad 45 rfl ?_) | (with_reducible refine stopStore 45 rfl ?_))
    try simp only [HG.out]
    clear hlt hd1
    have H5 : Hid (SeW w #[.int .i64 x.epoch, .int .i64 x.granted, .slice b l c, .int .i64 x.merged, .int .i64 x.last] L x.epoch 60 x.merged x.last x.taken p n k G (w3.setCell ⟨L, 1, none⟩ (.int .i64 60))) := H3.out.set 1 (.int .i64 60) rfl
    obtain ⟨w5, hw5⟩ : ∃ W, W = w3.setCell ⟨L, 1, none⟩ (.int .i64 60) := ⟨_, rfl⟩
    rw [← hw5] at H5 ⊢
    clear hw5 c3' c1' f1' H3 hwz hm0 hm1
    refine load_known 45 L #[.int .i64 x.epoch, .int .i64 60, .slice p n k, .int .i64 x.merged, .int .i64 x.last] 45 _ H5.out.loc rfl rfl rfl Tryz.underlying45 rfl infoSeI ?_
    go_wp2_with (first | go_skip | (with_reducible refine stopLoad 45 rfl ?_) | (with_reducible refine stopStore 45 rfl ?_))
    refine store_known 45 (w.heap.size + 1) _ #[.int .i64 x.epoch, .int .i64 60, .slice p n k, .int .i64 x.merged, .int .i64 x.last] 45 H5.out.res rfl rfl rfl rfl infoSeI rfl (by simp [Value.oneCell']) ?_
    go_wp2
    refine bodyPost_ret (results_cell_row Tryz.results16 _ _ (w.heap.size + 1) _ _ (0, 0) _ rfl H5.out.res.setRow Tryz.underlying45 rfl infoSeI) rfl ?_
    rw [HV.out, HG.out]
    exact ⟨_, G, rfl, H5.out.done.1, H5.out.done.2.1, H5.out.done.2.2⟩
set_option maxRecDepth 200000 in
set_option maxHeartbeats 4000000 in
theorem owedImpl_any (v : Value) (x : Se) (F : List Nat) (w : World) (h : RdSe w v x F) (hl : x.taken.length ≤ 2097152) :
    Calls Tryz.prog 22 #[v] w fun e w' => e = .returned (.int .i64 x.owed) ∧ Below w.heap.size w w' := by
  obtain ⟨b, l, c, rfl, hP, hcp⟩ := h
  have HX : Hid (RdSe w (.agg #[.int .i64 x.epoch, .int .i64 x.granted, .slice b l c, .int .i64 x.merged, .int .i64 x.last]) x F ∧ x.taken.length ≤ 2097152) := ⟨⟨b, l, c, rfl, hP, hcp⟩, hl⟩
  have HP : Hid (RdP w b l x.taken F ∧ l ≤ 2097152 ∧ x.taken.length = l ∧ Capd b l c) := ⟨hP, by rw [← hP.length]; exact hl, hP.length, hcp⟩
  have HSZ0 : Hid (0 ≤ x.taken.size ∧ x.taken.size ≤ 20971520000) := by have := Sp.size_range x.taken; exact ⟨this.1, by omega⟩
  clear hP hl hcp
  have HB : Hid (Blk (w.alloc (.cells #[.int .i64 x.epoch, .int .i64 x.granted, .slice b l c, .int .i64 x.merged, .int .i64 x.last] 45)) w.heap.size #[.int .i64 x.epoch, .int .i64 x.granted, .slice b l c, .int .i64 x.merged, .int .i64 x.last] 45 ∧ Below w.heap.size w (w.alloc (.cells #[.int .i64 x.epoch, .int .i64 x.granted, .slice b l c, .int .i64 x.merged, .int .i64 x.last] 45))) := ⟨Blk.made _ _ _, (Below.refl _ _).alloc (Nat.le_refl _) _⟩
  go_enter Tryz.func22, Tryz.ntmps22
  go_wp2_with fail
  refine (inRange_any x.granted 60 _).mono ?_
  rintro e w2 ⟨rfl, hw2⟩
  have hw2' := hw2.symm
  subst hw2'
  clear hw2
  obtain ⟨d1, hd1⟩ : ∃ d, d = decide (0 ≤ x.granted ∧ x.granted ≤ 60) := ⟨_, rfl⟩
  rw [← hd1]
  have HD1 : Hid (d1 = decide (0 ≤ x.granted ∧ x.granted ≤ 60)) := hd1
  clear hd1
  cases d1
  · have HV : Hid (x.owed = 0) := by show _ = _; have := of_decide_eq_false HD1.out.symm; unfold Se.owed; rw [if_neg (by omega)]
    go_wp2
    go_ret
    exact ⟨ret_int HV.out.symm, HB.out.2⟩
  go_wp2_with fail
  refine (inRange_any x.merged 60 _).mono ?_
  rintro e w2 ⟨rfl, hw2⟩
  have hw2' := hw2.symm
  subst hw2'
  clear hw2
  obtain ⟨d2, hd2⟩ : ∃ d, d = decide (0 ≤ x.merged ∧ x.merged ≤ 60) := ⟨_, rfl⟩
  rw [← hd2]
  have HD2 : Hid (d2 = decide (0 ≤ x.merged ∧ x.merged ≤ 60)) := hd2
  clear hd2
  cases d2
  · have HV : Hid (x.owed = 0) := by show _ = _; have := of_decide_eq_false HD2.out.symm; unfold Se.owed; rw [if_neg (by omega)]
    go_wp2
    go_ret
    exact ⟨ret_int HV.out.symm, HB.out.2⟩
  have h1 : 0 ≤ x.granted ∧ x.granted ≤ 60 := of_decide_eq_true HD1.out.symm
  have h2 : 0 ≤ x.merged ∧ x.merged ≤ 60 := of_decide_eq_true HD2.out.symm
  have HV : Hid (x.owed = max (x.granted - x.merged) 0) := by show _ = _; unfold Se.owed; rw [if_pos ⟨h1, h2⟩]
  have hwz : IntKind.i64.wrap (x.granted - x.merged) = x.granted - x.merged := wrapSe (by omega)
  by_cases hlt : x.granted - x.merged < 0
  · have HG : Hid (0 = x.owed) := by show _ = _; rw [HV.out]; omega
    have hd1 : decide (x.granted - x.merged < 0) = true := decide_eq_true hlt
    go_wp2
    go_ret
    exact ⟨ret_int (by have := HG.out; first | exact HG.out | omega), HB.out.2⟩
  · have HG : Hid (x.granted - x.merged = x.owed) := by show _ = _; rw [HV.out]; omega
    have hd1 : decide (x.granted - x.merged < 0) = false := decide_eq_false hlt
    go_wp2
    go_ret
    exact ⟨ret_int (by have := HG.out; first | exact HG.out | omega), HB.out.2⟩
end Go.Proofs.YtgkbhhlkaifnoaaGreatDoor
/- The walks through SeatReclaim, of the model and of the program. No statement of the seat is proved here. -/
namespace Go.Proofs.YtgkbhhlkaifnoaaGreatDoor
open Go.RowKit
/-- The greatest number of a set that rises. -/
def Sp.top (ps : Sp) : Int := if ps.length = 0 then 0 else (ps.at (ps.length - 1)).2
/-- A seat behind a SeatReclaim. -/
def Se.reclaim (x : Se) (per : Int) : Se := if x.ok per = true ∧ ¬ x.epoch = 1000 then ⟨x.epoch + 1, x.taken.top, x.taken, x.merged, x.last⟩ else x
theorem Se.reclaim_wide {x : Se} (h : x.wide) (per : Int) : (x.reclaim per).wide := by
  unfold Se.reclaim
  split <;> exact h
/-- The last span's cells. -/
theorem RdP.last {w : World} {b : Option Addr} {l : Nat} {ps : Sp} {F : List Nat} (h : RdP w b l ps F) (hl : 0 < l) : ∃ g off, b = some ⟨g, off, none⟩ ∧ g ∈ F ∧ w.cell? ⟨g, off + (l - 1) * 2 + 1, none⟩ = some (.int .i64 ps.top) := by
  have hn := h.length
  rcases h.cells with ⟨rfl, _, _⟩ | ⟨g, off, hp, rfl, hF, hc⟩
  · omega
  · refine ⟨g, off, rfl, by rw [hF]; exact List.mem_cons_self, ?_⟩
    have q := (hc (l - 1) (by omega)).2
    rw [show off + (l - 1) * 2 + 1 = off + (l - 1) * 2 + 1 from rfl] at q
    rw [q]
    unfold Sp.top
    rw [if_neg (by omega), hn]
    rfl
set_option maxRecDepth 200000 in
set_option maxHeartbeats 4000000 in
theorem greatestTaken_any (v : Value) (x : Se) (F : List Nat) (w : World) (h : RdSe w v x F) (hl : x.taken.length ≤ 2097152) :
    Calls Tryz.prog 56 #[v] w fun e w' => e = .returned (.int .i64 x.taken.top) ∧ Below w.heap.size w w' := by
  obtain ⟨b, l, c, rfl, hP, hcp⟩ := h
  have hl' : l ≤ 2097152 := by rw [← hP.length]; exact hl
  have HB : Hid (Blk (w.alloc (.cells #[.int .i64 x.epoch, .int .i64 x.granted, .slice b l c, .int .i64 x.merged, .int .i64 x.last] 45)) w.heap.size #[.int .i64 x.epoch, .int .i64 x.granted, .slice b l c, .int .i64 x.merged, .int .i64 x.last] 45 ∧ Below w.heap.size w (w.alloc (.cells #[.int .i64 x.epoch, .int .i64 x.granted, .slice b l c, .int .i64 x.merged, .int .i64 x.last] 45))) := ⟨Blk.made _ _ _, (Below.refl _ _).alloc (Nat.le_refl _) _⟩
  by_cases h0 : l = 0
  · subst h0
    have HV : Hid (0 = x.taken.top) := by show _ = _; unfold Sp.top; rw [if_pos hP.length]
    clear hP hl hcp
    go_enter Tryz.func56, Tryz.ntmps56
    go_wp2
    go_ret
    exact ⟨ret_int HV.out, HB.out.2⟩
  · obtain ⟨g, off, hb, hF, hc⟩ := hP.last (by omega)
    have hb' := hb.symm
    subst hb'
    obtain ⟨t, ht⟩ : ∃ t, t = x.taken.top := ⟨_, rfl⟩
    rw [← ht] at hc ⊢
    obtain ⟨m, hm⟩ : ∃ m : Nat, l = m + 1 := ⟨l - 1, by omega⟩
    subst hm
    have hgw : g < w.heap.size := hP.lt g hF
    have d1 : (w.alloc (.cells #[.int .i64 x.epoch, .int .i64 x.granted, .slice (some ⟨g, off, none⟩) (m + 1) c, .int .i64 x.merged, .int .i64 x.last] 45)).cell? ⟨g, off + m * 2 + 1, none⟩ = some (.int .i64 t) := by
      rw [show m + 1 - 1 = m by omega] at hc
      exact (HB.out.2.cell (by exact hgw)).trans hc
    have d0 : decide (((m + 1 : Nat) : Int) = 0) = false := decide_eq_false (by omega)
    have d2 : (((m + 1 : Nat) : Int) == 0) = false := by simpa using (by omega : ¬ ((m + 1 : Nat) : Int) = 0)
    clear hP hl hcp hb hF hc ht h0
    go_enter Tryz.func56, Tryz.ntmps56
    go_wp2
    go_ret
    exact ⟨rfl, HB.out.2⟩
set_option maxRecDepth 200000 in
set_option maxHeartbeats 4000000 in
theorem seReclaimSpec_any (v : Value) (x : Se) (per : Int) (F : List Nat) (w : World) (h : RdSe w v x F) (hl : x.taken.length ≤ 2097152) :
    Calls Tryz.prog 19 #[v, .int .i64 per] w fun e w' => NewSe w (x.reclaim per) e w' := by
  obtain ⟨b, l, c, rfl, hP, hcp⟩ := h
  have HX : Hid (RdSe w (.agg #[.int .i64 x.epoch, .int .i64 x.granted, .slice b l c, .int .i64 x.merged, .int .i64 x.last]) x F ∧ x.taken.length ≤ 2097152) := ⟨⟨b, l, c, rfl, hP, hcp⟩, hl⟩
  have HP : Hid (RdP w b l x.taken F ∧ l ≤ 2097152 ∧ x.taken.length = l ∧ Capd b l c) := ⟨hP, by rw [← hP.length]; exact hl, hP.length, hcp⟩
  have HSZ : Hid (0 ≤ x.taken.size ∧ x.taken.size ≤ 20971520000) := by have := Sp.size_range x.taken; exact ⟨this.1, by omega⟩
  clear hP hl hcp
  have HT : Hid (Two w #[.int .i64 x.epoch, .int .i64 x.granted, .slice b l c, .int .i64 x.merged, .int .i64 x.last] #[.int .i64 0, .int .i64 0, .slice none 0 0, .int .i64 0, .int .i64 0] 45 ((w.alloc (.cells #[.int .i64 x.epoch, .int .i64 x.granted, .slice b l c, .int .i64 x.merged, .int .i64 x.last] 45)).alloc (.cells #[.int .i64 0, .int .i64 0, .slice none 0 0, .int .i64 0, .int .i64 0] 45))) := Two.made w _ _ _
  go_enter Tryz.func19, Tryz.ntmps19
  go_wp2_with (first | go_skip | (with_reducible refine stopLoad 45 rfl ?_) | (with_reducible refine stopStore 45 rfl ?_))
  obtain ⟨W0, hW0⟩ : ∃ W, W = (w.alloc (.cells #[.int .i64 x.epoch, .int .i64 x.granted, .slice b l c, .int .i64 x.merged, .int .i64 x.last] 45)).alloc (.cells #[.int .i64 0, .int .i64 0, .slice none 0 0, .int .i64 0, .int .i64 0] 45) := ⟨_, rfl⟩
  rw [← hW0] at HT ⊢
  clear hW0
  refine load_known 45 w.heap.size #[.int .i64 x.epoch, .int .i64 x.granted, .slice b l c, .int .i64 x.merged, .int .i64 x.last] 45 _ HT.out.fst rfl rfl rfl Tryz.underlying45 rfl infoSeI ?_
  go_wp2_with fail
  refine (l9Copy_any _ x F _ (HX.out.1.below HT.out.bel) HX.out.2).mono ?_
  rintro e w1 ⟨zv, G, rfl, ⟨p, n, k, rfl, rp, kp⟩, oz, bz⟩
  have HC1 : Hid (Two w #[.int .i64 x.epoch, .int .i64 x.granted, .slice b l c, .int .i64 x.merged, .int .i64 x.last] #[.int .i64 0, .int .i64 0, .slice none 0 0, .int .i64 0, .int .i64 0] 45 W0 ∧ RdP w1 p n x.taken G ∧ Capd p n k ∧ Own W0.heap.size w1 G ∧ Below W0.heap.size W0 w1) := ⟨HT.out, rp, kp, oz, bz⟩
  clear rp kp oz bz HT
  go_wp2_with (first | go_skip | (with_reducible refine stopLoad 45 rfl ?_) | (with_reducible refine stopStore 45 rfl ?_))
  refine store_fresh 45 w1.heap.size rfl #[.int .i64 0, .int .i64 0, .slice none 0 0, .int .i64 0, .int .i64 0] #[.int .i64 x.epoch, .int .i64 x.granted, .slice p n k, .int .i64 x.merged, .int .i64 x.last] 45 rfl rfl rfl rfl infoSeI rfl (by simp [Value.oneCell']) ?_
  intro w2 hg hb
  have H2 : Hid (SeW w #[.int .i64 x.epoch, .int .i64 x.granted, .slice b l c, .int .i64 x.merged, .int .i64 x.last] w1.heap.size x.epoch x.granted x.merged x.last x.taken p n k G w2) := SeW.start HC1.out.1 HC1.out.2.1 HC1.out.2.2.1 HC1.out.2.2.2.1 HC1.out.2.2.2.2 hg hb
  obtain ⟨L, hL⟩ : ∃ L, L = w1.heap.size := ⟨_, rfl⟩
  rw [← hL] at H2 ⊢
  clear hg hb hL HC1
  go_wp2_with (first | go_skip | (with_reducible refine stopLoad 45 rfl ?_) | (with_reducible refine stopStore 45 rfl ?_))
  refine load_known 45 w.heap.size #[.int .i64 x.epoch, .int .i64 x.granted, .slice b l c, .int .i64 x.merged, .int .i64 x.last] 45 _ H2.out.box rfl rfl rfl Tryz.underlying45 rfl infoSeI ?_
  go_wp2_with fail
  refine (seOkSpec_any _ x per F _ (HX.out.1.below H2.out.bel) HX.out.2).mono ?_
  rintro e w3 ⟨rfl, hb⟩
  have H3 : Hid (SeW w #[.int .i64 x.epoch, .int .i64 x.granted, .slice b l c, .int .i64 x.merged, .int .i64 x.last] L x.epoch x.granted x.merged x.last x.taken p n k G w3) := H2.out.below hb
  obtain ⟨d, hd⟩ : ∃ d, d = x.ok per := ⟨_, rfl⟩
  rw [← hd]
  have HD : Hid (d = x.ok per) := hd
  clear hd hb H2
  cases d
  · have HV : Hid (x.reclaim per = x) := by show _ = _; unfold Se.reclaim; rw [← HD.out]; simp
    go_wp2_with (first | go_skip | (with_reducible refine stopLoad 45 rfl ?_) | (with_reducible refine stopStore 45 rfl ?_))
    refine load_known 45 L #[.int .i64 x.epoch, .int .i64 x.granted, .slice p n k, .int .i64 x.merged, .int .i64 x.last] 45 _ H3.out.loc rfl rfl rfl Tryz.underlying45 rfl infoSeI ?_
    go_wp2_with (first | go_skip | (with_reducible refine stopLoad 45 rfl ?_) | (with_reducible refine stopStore 45 rfl ?_))
    refine store_known 45 (w.heap.size + 1) _ #[.int .i64 x.epoch, .int .i64 x.granted, .slice p n k, .int .i64 x.merged, .int .i64 x.last] 45 H3.out.res rfl rfl rfl rfl infoSeI rfl (by simp [Value.oneCell']) ?_
    go_wp2
    refine bodyPost_ret (results_cell_row Tryz.results19 _ _ (w.heap.size + 1) _ _ (0, 0) _ rfl H3.out.res.setRow Tryz.underlying45 rfl infoSeI) rfl ?_
    rw [HV.out]
    exact ⟨_, G, rfl, H3.out.done.1, H3.out.done.2.1, H3.out.done.2.2⟩
  have HR : Hid (x.Right per) := Se.right HD.out.symm
  have b0 := HR.out.epoch.1
  have b1 := HR.out.epoch.2
  have c0 := H3.out.box.cell 0
  have e0 := H3.out.loc.cell 0
  have f0 := H3.out.loc.frozen 0
  have e1 := H3.out.loc.cell 1
  have f1 := H3.out.loc.frozen 1
  have c2 := H3.out.box.cell 2
  simp only [aT, aS, aZ] at c0 e0 e1 c2
  by_cases hE : x.epoch = 1000
  · have H3E : Hid (SeW w #[.int .i64 1000, .int .i64 x.granted, .slice b l c, .int .i64 x.merged, .int .i64 x.last] L 1000 x.granted x.merged x.last x.taken p n k G w3) := by have q := H3.out; rw [hE] at q; exact q
    have HV : Hid (x.reclaim per = ⟨1000, x.granted, x.taken, x.merged, x.last⟩) := by show _ = _; unfold Se.reclaim; rw [if_neg (fun q => q.2 hE)]; exact Se.eq_of hE rfl rfl rfl rfl
    have hd1 : (x.epoch == 1000) = true := by simpa using hE
    clear e0 f0 e1 f1 c2 hE H3
    go_wp2_with (first | go_skip | (with_reducible refine stopLoad 45 rfl ?_) | (with_reducible refine stopStore 45 rfl ?_))
    refine load_known 45 L #[.int .i64 1000, .int .i64 x.granted, .slice p n k, .int .i64 x.merged, .int .i64 x.last] 45 _ H3E.out.loc rfl rfl rfl Tryz.underlying45 rfl infoSeI ?_
    go_wp2_with (first | go_skip | (with_reducible refine stopLoad 45 rfl ?_) | (with_reducible refine stopStore 45 rfl ?_))
    refine store_known 45 (w.heap.size + 1) _ #[.int .i64 1000, .int .i64 x.granted, .slice p n k, .int .i64 x.merged, .int .i64 x.last] 45 H3E.out.res rfl rfl rfl rfl infoSeI rfl (by simp [Value.oneCell']) ?_
    go_wp2
    refine bodyPost_ret (results_cell_row Tryz.results19 _ _ (w.heap.size + 1) _ _ (0, 0) _ rfl H3E.out.res.setRow Tryz.underlying45 rfl infoSeI) rfl ?_
    rw [HV.out]
    exact ⟨_, G, rfl, H3E.out.done.1, H3E.out.done.2.1, H3E.out.done.2.2⟩
  have HV : Hid (x.reclaim per = ⟨x.epoch + 1, x.taken.top, x.taken, x.merged, x.last⟩) := by show _ = _; unfold Se.reclaim; rw [if_pos ⟨HD.out.symm, hE⟩]
  have hd1 : (x.epoch == 1000) = false := by simpa using hE
  have hd2 : decide (x.epoch = 1000) = false := decide_eq_false hE
  clear hE
  by_cases h0 : l = 0
  · subst h0
    have HT : Hid (x.taken.top = 0) := by show _ = _; unfold Sp.top; rw [if_pos HP.out.2.2.1]
    go_wp2_with (first | go_skip | (with_reducible refine stopLoad 45 rfl ?_) | (with_reducible refine stopStore 45 rfl ?_))
    have H5 : Hid (SeW w #[.int .i64 x.epoch, .int .i64 x.granted, .slice b 0 c, .int .i64 x.merged, .int .i64 x.last] L (x.epoch + 1) 0 x.merged x.last x.taken p n k G ((w3.setCell ⟨L, 0, none⟩ (.int .i64 (x.epoch + 1))).setCell ⟨L, 1, none⟩ (.int .i64 0))) := (H3.out.set 0 (.int .i64 (x.epoch + 1)) rfl).set 1 (.int .i64 0) rfl
    obtain ⟨w5, hw5⟩ : ∃ W, W = ((w3.setCell ⟨L, 0, none⟩ (.int .i64 (x.epoch + 1))).setCell ⟨L, 1, none⟩ (.int .i64 0)) := ⟨_, rfl⟩
    rw [← hw5] at H5 ⊢
    clear hw5 c0 e0 f0 e1 f1 c2 H3
    refine load_known 45 L #[.int .i64 (x.epoch + 1), .int .i64 0, .slice p n k, .int .i64 x.merged, .int .i64 x.last] 45 _ H5.out.loc rfl rfl rfl Tryz.underlying45 rfl infoSeI ?_
    go_wp2_with (first | go_skip | (with_reducible refine stopLoad 45 rfl ?_) | (with_reducible refine stopStore 45 rfl ?_))
    refine store_known 45 (w.heap.size + 1) _ #[.int .i64 (x.epoch + 1), .int .i64 0, .slice p n k, .int .i64 x.merged, .int .i64 x.last] 45 H5.out.res rfl rfl rfl rfl infoSeI rfl (by simp [Value.oneCell']) ?_
    go_wp2
    refine bodyPost_ret (results_cell_row Tryz.results19 _ _ (w.heap.size + 1) _ _ (0, 0) _ rfl H5.out.res.setRow Tryz.underlying45 rfl infoSeI) rfl ?_
    rw [HV.out, HT.out]
    exact ⟨_, G, rfl, H5.out.done.1, H5.out.done.2.1, H5.out.done.2.2⟩
  obtain ⟨g, off, hb, hF, hc⟩ := HP.out.1.last (by omega)
  have hb' := hb.symm
  subst hb'
  obtain ⟨t, ht⟩ : ∃ t, t = x.taken.top := ⟨_, rfl⟩
  rw [← ht] at hc
  have HT : Hid (x.taken.top = t) := ht.symm
  obtain ⟨m, hm⟩ : ∃ m : Nat, l = m + 1 := ⟨l - 1, by omega⟩
  subst hm
  have hgw : g < w.heap.size := HP.out.1.lt g hF
  have hgl : ¬ g = L := by have := H3.out.gt; omega
  have hml := HP.out.2.1
  have d1 : w3.cell? ⟨g, off + m * 2 + 1, none⟩ = some (.int .i64 t) := by
    rw [show m + 1 - 1 = m by omega] at hc
    exact (H3.out.bel.cell (by exact hgw)).trans hc
  have d0 : decide (0 < ((m + 1 : Nat) : Int)) = true := decide_eq_true (by omega)
  clear hb hF hc ht h0
  go_wp2_with (first | go_skip | (with_reducible refine stopLoad 45 rfl ?_) | (with_reducible refine stopStore 45 rfl ?_))
  have H5 : Hid (SeW w #[.int .i64 x.epoch, .int .i64 x.granted, .slice (some ⟨g, off, none⟩) (m + 1) c, .int .i64 x.merged, .int .i64 x.last] L (x.epoch + 1) t x.merged x.last x.taken p n k G (((w3.setCell ⟨L, 0, none⟩ (.int .i64 (x.epoch + 1))).setCell ⟨L, 1, none⟩ (.int .i64 0)).setCell ⟨L, 1, none⟩ (.int .i64 t))) := ((H3.out.set 0 (.int .i64 (x.epoch + 1)) rfl).set 1 (.int .i64 0) rfl).set 1 (.int .i64 t) rfl
  obtain ⟨w5, hw5⟩ : ∃ W, W = (((w3.setCell ⟨L, 0, none⟩ (.int .i64 (x.epoch + 1))).setCell ⟨L, 1, none⟩ (.int .i64 0)).setCell ⟨L, 1, none⟩ (.int .i64 t)) := ⟨_, rfl⟩
  rw [← hw5] at H5 ⊢
  clear hw5 c0 e0 f0 e1 f1 c2 H3 d0 d1
  refine load_known 45 L #[.int .i64 (x.epoch + 1), .int .i64 t, .slice p n k, .int .i64 x.merged, .int .i64 x.last] 45 _ H5.out.loc rfl rfl rfl Tryz.underlying45 rfl infoSeI ?_
  go_wp2_with (first | go_skip | (with_reducible refine stopLoad 45 rfl ?_) | (with_reducible refine stopStore 45 rfl ?_))
  refine store_known 45 (w.heap.size + 1) _ #[.int .i64 (x.epoch + 1), .int .i64 t, .slice p n k, .int .i64 x.merged, .int .i64 x.last] 45 H5.out.res rfl rfl rfl rfl infoSeI rfl (by simp [Value.oneCell']) ?_
  go_wp2
  refine bodyPost_ret (results_cell_row Tryz.results19 _ _ (w.heap.size + 1) _ _ (0, 0) _ rfl H5.out.res.setRow Tryz.underlying45 rfl infoSeI) rfl ?_
  rw [HV.out, HT.out]
  exact ⟨_, G, rfl, H5.out.done.1, H5.out.done.2.1, H5.out.done.2.2⟩
set_option maxRecDepth 200000 in
set_option maxHeartbeats 4000000 in
theorem seReclaimImpl_any (v : Value) (x : Se) (per : Int) (F : List Nat) (w : World) (h : RdSe w v x F) (hl : x.taken.length ≤ 2097152) :
    Calls Tryz.prog 17 #[v, .int .i64 per] w fun e w' => NewSe w (x.reclaim per) e w' := by
  obtain ⟨b, l, c, rfl, hP, hcp⟩ := h
  have HX : Hid (RdSe w (.agg #[.int .i64 x.epoch, .int .i64 x.granted, .slice b l c, .int .i64 x.merged, .int .i64 x.last]) x F ∧ x.taken.length ≤ 2097152) := ⟨⟨b, l, c, rfl, hP, hcp⟩, hl⟩
  have HP : Hid (RdP w b l x.taken F ∧ l ≤ 2097152 ∧ x.taken.length = l ∧ Capd b l c) := ⟨hP, by rw [← hP.length]; exact hl, hP.length, hcp⟩
  have HSZ : Hid (0 ≤ x.taken.size ∧ x.taken.size ≤ 20971520000) := by have := Sp.size_range x.taken; exact ⟨this.1, by omega⟩
  clear hP hl hcp
  have HT : Hid (Two w #[.int .i64 x.epoch, .int .i64 x.granted, .slice b l c, .int .i64 x.merged, .int .i64 x.last] #[.int .i64 0, .int .i64 0, .slice none 0 0, .int .i64 0, .int .i64 0] 45 ((w.alloc (.cells #[.int .i64 x.epoch, .int .i64 x.granted, .slice b l c, .int .i64 x.merged, .int .i64 x.last] 45)).alloc (.cells #[.int .i64 0, .int .i64 0, .slice none 0 0, .int .i64 0, .int .i64 0] 45))) := Two.made w _ _ _
  go_enter Tryz.func17, Tryz.ntmps17
  go_wp2_with (first | go_skip | (with_reducible refine stopLoad 45 rfl ?_) | (with_reducible refine stopStore 45 rfl ?_))
  obtain ⟨W0, hW0⟩ : ∃ W, W = (w.alloc (.cells #[.int .i64 x.epoch, .int .i64 x.granted, .slice b l c, .int .i64 x.merged, .int .i64 x.last] 45)).alloc (.cells #[.int .i64 0, .int .i64 0, .slice none 0 0, .int .i64 0, .int .i64 0] 45) := ⟨_, rfl⟩
  rw [← hW0] at HT ⊢
  clear hW0
  refine load_known 45 w.heap.size #[.int .i64 x.epoch, .int .i64 x.granted, .slice b l c, .int .i64 x.merged, .int .i64 x.last] 45 _ HT.out.fst rfl rfl rfl Tryz.underlying45 rfl infoSeI ?_
  go_wp2_with fail
  refine (copiedSeat_any _ x F _ (HX.out.1.below HT.out.bel) HX.out.2).mono ?_
  rintro e w1 ⟨zv, G, rfl, ⟨p, n, k, rfl, rp, kp⟩, oz, bz⟩
  have HC1 : Hid (Two w #[.int .i64 x.epoch, .int .i64 x.granted, .slice b l c, .int .i64 x.merged, .int .i64 x.last] #[.int .i64 0, .int .i64 0, .slice none 0 0, .int .i64 0, .int .i64 0] 45 W0 ∧ RdP w1 p n x.taken G ∧ Capd p n k ∧ Own W0.heap.size w1 G ∧ Below W0.heap.size W0 w1) := ⟨HT.out, rp, kp, oz, bz⟩
  clear rp kp oz bz HT
  go_wp2_with (first | go_skip | (with_reducible refine stopLoad 45 rfl ?_) | (with_reducible refine stopStore 45 rfl ?_))
  refine store_fresh 45 w1.heap.size rfl #[.int .i64 0, .int .i64 0, .slice none 0 0, .int .i64 0, .int .i64 0] #[.int .i64 x.epoch, .int .i64 x.granted, .slice p n k, .int .i64 x.merged, .int .i64 x.last] 45 rfl rfl rfl rfl infoSeI rfl (by simp [Value.oneCell']) ?_
  intro w2 hg hb
  have H2 : Hid (SeW w #[.int .i64 x.epoch, .int .i64 x.granted, .slice b l c, .int .i64 x.merged, .int .i64 x.last] w1.heap.size x.epoch x.granted x.merged x.last x.taken p n k G w2) := SeW.start HC1.out.1 HC1.out.2.1 HC1.out.2.2.1 HC1.out.2.2.2.1 HC1.out.2.2.2.2 hg hb
  obtain ⟨L, hL⟩ : ∃ L, L = w1.heap.size := ⟨_, rfl⟩
  rw [← hL] at H2 ⊢
  clear hg hb hL HC1
  go_wp2_with (first | go_skip | (with_reducible refine stopLoad 45 rfl ?_) | (with_reducible refine stopStore 45 rfl ?_))
  refine load_known 45 w.heap.size #[.int .i64 x.epoch, .int .i64 x.granted, .slice b l c, .int .i64 x.merged, .int .i64 x.last] 45 _ H2.out.box rfl rfl rfl Tryz.underlying45 rfl infoSeI ?_
  go_wp2_with fail
  refine (seOkImpl_any _ x per F _ (HX.out.1.below H2.out.bel) HX.out.2).mono ?_
  rintro e w3 ⟨rfl, hb⟩
  have H3 : Hid (SeW w #[.int .i64 x.epoch, .int .i64 x.granted, .slice b l c, .int .i64 x.merged, .int .i64 x.last] L x.epoch x.granted x.merged x.last x.taken p n k G w3) := H2.out.below hb
  obtain ⟨d, hd⟩ : ∃ d, d = x.ok per := ⟨_, rfl⟩
  rw [← hd]
  have HD : Hid (d = x.ok per) := hd
  clear hd hb H2
  cases d
  · have HV : Hid (x.reclaim per = x) := by show _ = _; unfold Se.reclaim; rw [← HD.out]; simp
    go_wp2_with (first | go_skip | (with_reducible refine stopLoad 45 rfl ?_) | (with_reducible refine stopStore 45 rfl ?_))
    refine load_known 45 L #[.int .i64 x.epoch, .int .i64 x.granted, .slice p n k, .int .i64 x.merged, .int .i64 x.last] 45 _ H3.out.loc rfl rfl rfl Tryz.underlying45 rfl infoSeI ?_
    go_wp2_with (first | go_skip | (with_reducible refine stopLoad 45 rfl ?_) | (with_reducible refine stopStore 45 rfl ?_))
    refine store_known 45 (w.heap.size + 1) _ #[.int .i64 x.epoch, .int .i64 x.granted, .slice p n k, .int .i64 x.merged, .int .i64 x.last] 45 H3.out.res rfl rfl rfl rfl infoSeI rfl (by simp [Value.oneCell']) ?_
    go_wp2
    refine bodyPost_ret (results_cell_row Tryz.results17 _ _ (w.heap.size + 1) _ _ (0, 0) _ rfl H3.out.res.setRow Tryz.underlying45 rfl infoSeI) rfl ?_
    rw [HV.out]
    exact ⟨_, G, rfl, H3.out.done.1, H3.out.done.2.1, H3.out.done.2.2⟩
  have HR : Hid (x.Right per) := Se.right HD.out.symm
  have b0 := HR.out.epoch.1
  have b1 := HR.out.epoch.2
  have c0 := H3.out.box.cell 0
  have e0 := H3.out.loc.cell 0
  have f0 := H3.out.loc.frozen 0
  have e1 := H3.out.loc.cell 1
  have f1 := H3.out.loc.frozen 1
  have c2 := H3.out.box.cell 2
  simp only [aT, aS, aZ] at c0 e0 e1 c2
  by_cases hE : x.epoch < 1000
  rotate_left
  · have HV : Hid (x.reclaim per = x) := by show _ = _; unfold Se.reclaim; rw [if_neg (fun q => q.2 (by have := HR.out.epoch; omega))]
    have hd2 : decide (x.epoch < 1000) = false := decide_eq_false hE
    clear e0 f0 e1 f1 c2
    go_wp2_with (first | go_skip | (with_reducible refine stopLoad 45 rfl ?_) | (with_reducible refine stopStore 45 rfl ?_))
    refine load_known 45 L #[.int .i64 x.epoch, .int .i64 x.granted, .slice p n k, .int .i64 x.merged, .int .i64 x.last] 45 _ H3.out.loc rfl rfl rfl Tryz.underlying45 rfl infoSeI ?_
    go_wp2_with (first | go_skip | (with_reducible refine stopLoad 45 rfl ?_) | (with_reducible refine stopStore 45 rfl ?_))
    refine store_known 45 (w.heap.size + 1) _ #[.int .i64 x.epoch, .int .i64 x.granted, .slice p n k, .int .i64 x.merged, .int .i64 x.last] 45 H3.out.res rfl rfl rfl rfl infoSeI rfl (by simp [Value.oneCell']) ?_
    go_wp2
    refine bodyPost_ret (results_cell_row Tryz.results17 _ _ (w.heap.size + 1) _ _ (0, 0) _ rfl H3.out.res.setRow Tryz.underlying45 rfl infoSeI) rfl ?_
    rw [HV.out]
    exact ⟨_, G, rfl, H3.out.done.1, H3.out.done.2.1, H3.out.done.2.2⟩
  have HV : Hid (x.reclaim per = ⟨x.epoch + 1, x.taken.top, x.taken, x.merged, x.last⟩) := by show _ = _; unfold Se.reclaim; rw [if_pos ⟨HD.out.symm, by omega⟩]
  have hd2 : decide (x.epoch < 1000) = true := decide_eq_true hE
  clear hE
  go_wp2_with (first | go_skip | (with_reducible refine stopLoad 45 rfl ?_) | (with_reducible refine stopStore 45 rfl ?_))
  have H4 : Hid (SeW w #[.int .i64 x.epoch, .int .i64 x.granted, .slice b l c, .int .i64 x.merged, .int .i64 x.last] L (x.epoch + 1) x.granted x.merged x.last x.taken p n k G (w3.setCell ⟨L, 0, none⟩ (.int .i64 (x.epoch + 1)))) := H3.out.set 0 (.int .i64 (x.epoch + 1)) rfl
  obtain ⟨w4, hw4⟩ : ∃ W, W = w3.setCell ⟨L, 0, none⟩ (.int .i64 (x.epoch + 1)) := ⟨_, rfl⟩
  rw [← hw4] at H4 ⊢
  clear hw4 c0 e0 f0 e1 f1 c2 H3
  refine load_known 45 w.heap.size #[.int .i64 x.epoch, .int .i64 x.granted, .slice b l c, .int .i64 x.merged, .int .i64 x.last] 45 _ H4.out.box rfl rfl rfl Tryz.underlying45 rfl infoSeI ?_
  go_wp2_with fail
  refine (greatestTaken_any _ x F _ (HX.out.1.below H4.out.bel) HX.out.2).mono ?_
  rintro e w5 ⟨rfl, hb⟩
  have H5 : Hid (SeW w #[.int .i64 x.epoch, .int .i64 x.granted, .slice b l c, .int .i64 x.merged, .int .i64 x.last] L (x.epoch + 1) x.granted x.merged x.last x.taken p n k G w5) := H4.out.below hb
  obtain ⟨t, ht⟩ : ∃ t, t = x.taken.top := ⟨_, rfl⟩
  rw [← ht]
  have HT : Hid (x.taken.top = t) := ht.symm
  clear ht hb H4
  have e1 := H5.out.loc.cell 1
  have f1 := H5.out.loc.frozen 1
  simp only [aT, aS, aZ] at e1
  go_wp2_with (first | go_skip | (with_reducible refine stopLoad 45 rfl ?_) | (with_reducible refine stopStore 45 rfl ?_))
  have H6 : Hid (SeW w #[.int .i64 x.epoch, .int .i64 x.granted, .slice b l c, .int .i64 x.merged, .int .i64 x.last] L (x.epoch + 1) t x.merged x.last x.taken p n k G (w5.setCell ⟨L, 1, none⟩ (.int .i64 t))) := H5.out.set 1 (.int .i64 t) rfl
  obtain ⟨w6, hw6⟩ : ∃ W, W = w5.setCell ⟨L, 1, none⟩ (.int .i64 t) := ⟨_, rfl⟩
  rw [← hw6] at H6 ⊢
  clear hw6 e1 f1 H5
  refine load_known 45 L #[.int .i64 (x.epoch + 1), .int .i64 t, .slice p n k, .int .i64 x.merged, .int .i64 x.last] 45 _ H6.out.loc rfl rfl rfl Tryz.underlying45 rfl infoSeI ?_
  go_wp2_with (first | go_skip | (with_reducible refine stopLoad 45 rfl ?_) | (with_reducible refine stopStore 45 rfl ?_))
  refine store_known 45 (w.heap.size + 1) _ #[.int .i64 (x.epoch + 1), .int .i64 t, .slice p n k, .int .i64 x.merged, .int .i64 x.last] 45 H6.out.res rfl rfl rfl rfl infoSeI rfl (by simp [Value.oneCell']) ?_
  go_wp2
  refine bodyPost_ret (results_cell_row Tryz.results17 _ _ (w.heap.size + 1) _ _ (0, 0) _ rfl H6.out.res.setRow Tryz.underlying45 rfl infoSeI) rfl ?_
  rw [HV.out, HT.out]
  exact ⟨_, G, rfl, H6.out.done.1, H6.out.done.2.1, H6.out.done.2.2⟩
end Go.Proofs.YtgkbhhlkaifnoaaGreatDoor
/- The walks through SeatMerge, of the model and of the program. No statement of the seat is proved here. -/
namespace Go.Proofs.YtgkbhhlkaifnoaaGreatDoor
open Go.RowKit
def Se.plus (x : Se) (n : Int) : Se := ⟨x.epoch, x.granted, x.taken, x.merged + n, x.last⟩
/-- A seat behind a SeatMerge, and whether it was done. -/
def Se.merge (x : Se) (per n : Int) : Se × Bool := if x.ok per = true ∧ 0 ≤ n ∧ n ≤ x.taken.size - x.merged then (x.plus n, true) else (x, false)
def NewSe2 (w : World) (z : Se × Bool) (e : Ending) (w' : World) : Prop := ∃ v F, e = .returned (.tuple #[v, .bool z.2]) ∧ RdSe w' v z.1 F ∧ Own w.heap.size w' F ∧ Below w.heap.size w w'
theorem Se.merge_wide {x : Se} (h : x.wide) (per n : Int) : (x.merge per n).1.wide := by
  unfold Se.merge
  split <;> exact h
theorem Sp.under_at {ps : Sp} {m : Int} (h : ps.under m = true) {k : Nat} (hk : k < ps.length) : 1 ≤ (ps.at k).1 ∧ (ps.at k).2 ≤ m := by
  unfold Sp.under at h
  rw [List.all_eq_true] at h
  exact of_decide_eq_true (h k (List.mem_range.2 hk))
theorem Sp.sum_top {ps : Sp} {m : Int} (h : ps.ok = true) (u : ps.under m = true) : ∀ k, k < ps.length → Sp.sum (ps.take (k + 1)) ≤ (ps.at k).2
  | 0, hk => by
    have e := Sp.sum_step (ps := ps) (k := 0) hk
    have p := Sp.under_at u hk
    rw [List.take_zero] at e
    rw [e]
    have : Sp.sum [] = 0 := rfl
    omega
  | k + 1, hk => by
    have ih := Sp.sum_top h u k (by omega)
    have e := Sp.sum_step (ps := ps) (k := k + 1) hk
    have p := (Sp.okAt_parts (Sp.ok_at h (k + 1) hk)).2 (by omega)
    rw [Nat.add_sub_cancel] at p
    omega
/-- What is in 1 .. m is no more than m. -/
theorem Sp.size_under {ps : Sp} {m : Int} (h : ps.ok = true) (u : ps.under m = true) (hm : 0 ≤ m) : ps.size ≤ m := by
  unfold Sp.size
  rw [if_pos h]
  by_cases h0 : ps.length = 0
  · have e : ps = [] := List.eq_nil_of_length_eq_zero h0
    rw [e]
    have : Sp.sum [] = 0 := rfl
    omega
  · have q := Sp.sum_top h u (ps.length - 1) (by omega)
    rw [show ps.length - 1 + 1 = ps.length by omega, List.take_length] at q
    have := (Sp.under_at u (k := ps.length - 1) (by omega)).2
    omega
theorem Se.Right.size {x : Se} {p : Int} (h : x.Right p) : x.taken.size ≤ 60 := by
  have := Sp.size_under h.taken h.under h.granted.1
  have := h.granted.2
  omega
theorem Se.plus_ok {x : Se} {per n : Int} (h : x.Right per) (hn : 0 ≤ n) : (x.plus n).ok per = decide (n ≤ x.taken.size - x.merged) := by
  by_cases q : n ≤ x.taken.size - x.merged
  · rw [decide_eq_true q]
    exact Se.Right.ok ⟨h.per, h.epoch, h.granted, h.taken, h.under, ⟨by have := h.merged; show 0 ≤ x.merged + n; omega, by show x.merged + n ≤ x.taken.size; omega⟩, by have := h.share; show x.granted ≤ x.merged + n + per; omega, h.last⟩
  · rw [decide_eq_false q]
    cases e : (x.plus n).ok per
    · rfl
    · have := (Se.right e).merged
      have hp : (x.plus n).merged = x.merged + n := rfl
      have ht : (x.plus n).taken = x.taken := rfl
      rw [hp, ht] at this
      omega
set_option maxRecDepth 200000 in
set_option maxHeartbeats 8000000 in
theorem seMergeSpec_any (v : Value) (x : Se) (per : Int) (n : Int) (F : List Nat) (w : World) (h : RdSe w v x F) (hl : x.taken.length ≤ 2097152) :
    Calls Tryz.prog 104 #[v, .int .i64 per, .int .i64 n] w fun e w' => NewSe2 w (x.merge per n) e w' := by
  obtain ⟨b, l, c, rfl, hP, hcp⟩ := h
  have HX : Hid (RdSe w (.agg #[.int .i64 x.epoch, .int .i64 x.granted, .slice b l c, .int .i64 x.merged, .int .i64 x.last]) x F ∧ x.taken.length ≤ 2097152) := ⟨⟨b, l, c, rfl, hP, hcp⟩, hl⟩
  have HP : Hid (RdP w b l x.taken F ∧ l ≤ 2097152 ∧ x.taken.length = l ∧ Capd b l c) := ⟨hP, by rw [← hP.length]; exact hl, hP.length, hcp⟩
  have HSZ : Hid (0 ≤ x.taken.size ∧ x.taken.size ≤ 20971520000) := by have := Sp.size_range x.taken; exact ⟨this.1, by omega⟩
  clear hP hl hcp
  have HT : Hid (Two w #[.int .i64 x.epoch, .int .i64 x.granted, .slice b l c, .int .i64 x.merged, .int .i64 x.last] #[.int .i64 0, .int .i64 0, .slice none 0 0, .int .i64 0, .int .i64 0] 45 ((w.alloc (.cells #[.int .i64 x.epoch, .int .i64 x.granted, .slice b l c, .int .i64 x.merged, .int .i64 x.last] 45)).alloc (.cells #[.int .i64 0, .int .i64 0, .slice none 0 0, .int .i64 0, .int .i64 0] 45))) := Two.made w _ _ _
  go_enter Tryz.func104, Tryz.ntmps104
  go_wp2_with (first | go_skip | (with_reducible refine stopLoad 45 rfl ?_) | (with_reducible refine stopStore 45 rfl ?_))
  obtain ⟨W0, hW0⟩ : ∃ W, W = (w.alloc (.cells #[.int .i64 x.epoch, .int .i64 x.granted, .slice b l c, .int .i64 x.merged, .int .i64 x.last] 45)).alloc (.cells #[.int .i64 0, .int .i64 0, .slice none 0 0, .int .i64 0, .int .i64 0] 45) := ⟨_, rfl⟩
  rw [← hW0] at HT ⊢
  clear hW0
  refine load_known 45 w.heap.size #[.int .i64 x.epoch, .int .i64 x.granted, .slice b l c, .int .i64 x.merged, .int .i64 x.last] 45 _ HT.out.fst rfl rfl rfl Tryz.underlying45 rfl infoSeI ?_
  go_wp2_with fail
  refine (l9Copy_any _ x F _ (HX.out.1.below HT.out.bel) HX.out.2).mono ?_
  rintro e w1 ⟨zv, G, rfl, ⟨p, nn, k, rfl, rp, kp⟩, oz, bz⟩
  have HC1 : Hid (Two w #[.int .i64 x.epoch, .int .i64 x.granted, .slice b l c, .int .i64 x.merged, .int .i64 x.last] #[.int .i64 0, .int .i64 0, .slice none 0 0, .int .i64 0, .int .i64 0] 45 W0 ∧ RdP w1 p nn x.taken G ∧ Capd p nn k ∧ Own W0.heap.size w1 G ∧ Below W0.heap.size W0 w1) := ⟨HT.out, rp, kp, oz, bz⟩
  clear rp kp oz bz HT
  go_wp2_with (first | go_skip | (with_reducible refine stopLoad 45 rfl ?_) | (with_reducible refine stopStore 45 rfl ?_))
  refine store_fresh 45 w1.heap.size rfl #[.int .i64 0, .int .i64 0, .slice none 0 0, .int .i64 0, .int .i64 0] #[.int .i64 x.epoch, .int .i64 x.granted, .slice p nn k, .int .i64 x.merged, .int .i64 x.last] 45 rfl rfl rfl rfl infoSeI rfl (by simp [Value.oneCell']) ?_
  intro w2 hg hb
  have H2 : Hid (SeW w #[.int .i64 x.epoch, .int .i64 x.granted, .slice b l c, .int .i64 x.merged, .int .i64 x.last] w1.heap.size x.epoch x.granted x.merged x.last x.taken p nn k G w2) := SeW.start HC1.out.1 HC1.out.2.1 HC1.out.2.2.1 HC1.out.2.2.2.1 HC1.out.2.2.2.2 hg hb
  obtain ⟨L, hL⟩ : ∃ L, L = w1.heap.size := ⟨_, rfl⟩
  rw [← hL] at H2 ⊢
  clear hg hb hL HC1
  go_wp2_with (first | go_skip | (with_reducible refine stopLoad 45 rfl ?_) | (with_reducible refine stopStore 45 rfl ?_))
  refine load_known 45 w.heap.size #[.int .i64 x.epoch, .int .i64 x.granted, .slice b l c, .int .i64 x.merged, .int .i64 x.last] 45 _ H2.out.box rfl rfl rfl Tryz.underlying45 rfl infoSeI ?_
  go_wp2_with fail
  refine (seOkSpec_any _ x per F _ (HX.out.1.below H2.out.bel) HX.out.2).mono ?_
  rintro e w3 ⟨rfl, hb⟩
  have H3 : Hid (SeW w #[.int .i64 x.epoch, .int .i64 x.granted, .slice b l c, .int .i64 x.merged, .int .i64 x.last] L x.epoch x.granted x.merged x.last x.taken p nn k G w3) := H2.out.below hb
  obtain ⟨d, hd⟩ : ∃ d, d = x.ok per := ⟨_, rfl⟩
  rw [← hd]
  have HD : Hid (d = x.ok per) := hd
  clear hd hb H2
  cases d
  · have HV : Hid (x.merge per n = (x, false)) := by show _ = _; unfold Se.merge; rw [if_neg (fun q => by have := HD.out; rw [q.1] at this; cases this)]
    go_wp2_with (first | go_skip | (with_reducible refine stopLoad 45 rfl ?_) | (with_reducible refine stopStore 45 rfl ?_))
    refine load_known 45 L #[.int .i64 x.epoch, .int .i64 x.granted, .slice p nn k, .int .i64 x.merged, .int .i64 x.last] 45 _ H3.out.loc rfl rfl rfl Tryz.underlying45 rfl infoSeI ?_
    go_wp2_with (first | go_skip | (with_reducible refine stopLoad 45 rfl ?_) | (with_reducible refine stopStore 45 rfl ?_))
    refine store_known 45 (w.heap.size + 1) _ #[.int .i64 x.epoch, .int .i64 x.granted, .slice p nn k, .int .i64 x.merged, .int .i64 x.last] 45 H3.out.res rfl rfl rfl rfl infoSeI rfl (by simp [Value.oneCell']) ?_
    go_wp2
    refine bodyPost_ret (results_row_tmp Tryz.results104 _ _ (w.heap.size + 1) _ _ _ _ rfl H3.out.res.setRow Tryz.underlying45 rfl infoSeI) rfl ?_
    rw [HV.out]
    exact ⟨_, G, rfl, H3.out.done.1, H3.out.done.2.1, H3.out.done.2.2⟩
  have HR : Hid (x.Right per) := Se.right HD.out.symm
  go_wp2_with fail
  refine (l1In_any n 0 60 _).mono ?_
  rintro e w4 ⟨rfl, hq⟩
  have hq' := hq.symm
  subst hq'
  clear hq
  obtain ⟨d2, hd2⟩ : ∃ d, d = decide (0 ≤ n ∧ n ≤ 60) := ⟨_, rfl⟩
  rw [← hd2]
  have HD2 : Hid (d2 = decide (0 ≤ n ∧ n ≤ 60)) := hd2
  clear hd2
  cases d2
  · have HV : Hid (x.merge per n = (x, false)) := by show _ = _; have := of_decide_eq_false HD2.out.symm; have := HR.out.size; have := HR.out.merged; unfold Se.merge; rw [if_neg (by omega)]
    go_wp2_with (first | go_skip | (with_reducible refine stopLoad 45 rfl ?_) | (with_reducible refine stopStore 45 rfl ?_))
    refine load_known 45 L #[.int .i64 x.epoch, .int .i64 x.granted, .slice p nn k, .int .i64 x.merged, .int .i64 x.last] 45 _ H3.out.loc rfl rfl rfl Tryz.underlying45 rfl infoSeI ?_
    go_wp2_with (first | go_skip | (with_reducible refine stopLoad 45 rfl ?_) | (with_reducible refine stopStore 45 rfl ?_))
    refine store_known 45 (w.heap.size + 1) _ #[.int .i64 x.epoch, .int .i64 x.granted, .slice p nn k, .int .i64 x.merged, .int .i64 x.last] 45 H3.out.res rfl rfl rfl rfl infoSeI rfl (by simp [Value.oneCell']) ?_
    go_wp2
    refine bodyPost_ret (results_row_tmp Tryz.results104 _ _ (w.heap.size + 1) _ _ _ _ rfl H3.out.res.setRow Tryz.underlying45 rfl infoSeI) rfl ?_
    rw [HV.out]
    exact ⟨_, G, rfl, H3.out.done.1, H3.out.done.2.1, H3.out.done.2.2⟩
  have HN : Hid (0 ≤ n ∧ n ≤ 60) := by show _ ∧ _; exact of_decide_eq_true HD2.out.symm
  have hwz : IntKind.i64.wrap (x.merged + n) = x.merged + n := wrapSe (by have := HR.out.merged; have := HN.out; have := HSZ.out; omega)
  have hm0 : 0 ≤ x.merged + n := by have := HR.out.merged; have := HN.out; omega
  have hm1 : x.merged + n ≤ 20971520008 := by have := HR.out.merged; have := HN.out; have := HSZ.out; have := HR.out.size; omega
  have c3 := H3.out.box.cell 3
  have e3 := H3.out.loc.cell 3
  have f3 := H3.out.loc.frozen 3
  simp only [aT, aS, aZ] at c3 e3
  go_wp2_with (first | go_skip | (with_reducible refine stopLoad 45 rfl ?_) | (with_reducible refine stopStore 45 rfl ?_))
  have H4 : Hid (SeW w #[.int .i64 x.epoch, .int .i64 x.granted, .slice b l c, .int .i64 x.merged, .int .i64 x.last] L x.epoch x.granted (x.merged + n) x.last x.taken p nn k G (w3.setCell ⟨L, 3, none⟩ (.int .i64 (x.merged + n)))) := H3.out.set 3 (.int .i64 (x.merged + n)) rfl
  obtain ⟨w4, hw4⟩ : ∃ W, W = w3.setCell ⟨L, 3, none⟩ (.int .i64 (x.merged + n)) := ⟨_, rfl⟩
  rw [← hw4] at H4 ⊢
  clear hw4 c3 e3 f3 H3 hwz hm0 hm1
  refine load_known 45 L #[.int .i64 x.epoch, .int .i64 x.granted, .slice p nn k, .int .i64 (x.merged + n), .int .i64 x.last] 45 _ H4.out.loc rfl rfl rfl Tryz.underlying45 rfl infoSeI ?_
  go_wp2_with fail
  refine (seOkSpec_any _ (x.plus n) per G _ H4.out.rd HX.out.2).mono ?_
  rintro e w5 ⟨rfl, hb⟩
  have H5 : Hid (SeW w #[.int .i64 x.epoch, .int .i64 x.granted, .slice b l c, .int .i64 x.merged, .int .i64 x.last] L x.epoch x.granted (x.merged + n) x.last x.taken p nn k G w5) := H4.out.below hb
  obtain ⟨d3, hd3⟩ : ∃ d, d = (x.plus n).ok per := ⟨_, rfl⟩
  rw [← hd3]
  have HD3 : Hid (d3 = decide (n ≤ x.taken.size - x.merged)) := hd3.trans (Se.plus_ok HR.out HN.out.1)
  clear hd3 hb H4
  cases d3
  · have HV : Hid (x.merge per n = (x, false)) := by show _ = _; have := of_decide_eq_false HD3.out.symm; unfold Se.merge; rw [if_neg (by omega)]
    go_wp2_with (first | go_skip | (with_reducible refine stopLoad 45 rfl ?_) | (with_reducible refine stopStore 45 rfl ?_))
    refine load_known 45 w.heap.size #[.int .i64 x.epoch, .int .i64 x.granted, .slice b l c, .int .i64 x.merged, .int .i64 x.last] 45 _ H5.out.box rfl rfl rfl Tryz.underlying45 rfl infoSeI ?_
    go_wp2_with fail
    refine (l9Copy_any _ x F _ (HX.out.1.below H5.out.bel) HX.out.2).mono ?_
    rintro e w6 ⟨zv, G6, rfl, ⟨p6, n6, k6, rfl, rp, kp⟩, oz, bz⟩
    have hlt := H5.out.res.lt
    have H6 : Hid (Blk w6 (w.heap.size + 1) #[.int .i64 0, .int .i64 0, .slice none 0 0, .int .i64 0, .int .i64 0] 45 ∧ RdP w6 p6 n6 x.taken G6 ∧ Capd p6 n6 k6 ∧ Own (w.heap.size + 2) w6 G6 ∧ Below w.heap.size w w6) := ⟨H5.out.res.below bz, rp, kp, oz.mono (by omega), Below.next H5.out.bel bz⟩
    clear rp kp oz bz hlt H5
    go_wp2_with (first | go_skip | (with_reducible refine stopLoad 45 rfl ?_) | (with_reducible refine stopStore 45 rfl ?_))
    refine store_known 45 (w.heap.size + 1) _ #[.int .i64 x.epoch, .int .i64 x.granted, .slice p6 n6 k6, .int .i64 x.merged, .int .i64 x.last] 45 H6.out.1 rfl rfl rfl rfl infoSeI rfl (by simp [Value.oneCell']) ?_
    go_wp2
    refine bodyPost_ret (results_row_tmp Tryz.results104 _ _ (w.heap.size + 1) _ _ _ _ rfl H6.out.1.setRow Tryz.underlying45 rfl infoSeI) rfl ?_
    have nr : w.heap.size + 1 ∉ G6 := fun hx => by have := H6.out.2.2.2.1.ge _ hx; omega
    rw [HV.out]
    exact ⟨_, G6, rfl, ⟨p6, n6, k6, rfl, H6.out.2.1.agree (Agree.row nr _), H6.out.2.2.1⟩, (H6.out.2.2.2.1.agree (Agree.row nr _)).mono (by omega), below_setRow H6.out.2.2.2.2 (by omega) _⟩
  have HV : Hid (x.merge per n = (x.plus n, true)) := by show _ = _; unfold Se.merge; rw [if_pos ⟨HD.out.symm, HN.out.1, of_decide_eq_true HD3.out.symm⟩]
  go_wp2_with (first | go_skip | (with_reducible refine stopLoad 45 rfl ?_) | (with_reducible refine stopStore 45 rfl ?_))
  refine load_known 45 L #[.int .i64 x.epoch, .int .i64 x.granted, .slice p nn k, .int .i64 (x.merged + n), .int .i64 x.last] 45 _ H5.out.loc rfl rfl rfl Tryz.underlying45 rfl infoSeI ?_
  go_wp2_with (first | go_skip | (with_reducible refine stopLoad 45 rfl ?_) | (with_reducible refine stopStore 45 rfl ?_))
  refine store_known 45 (w.heap.size + 1) _ #[.int .i64 x.epoch, .int .i64 x.granted, .slice p nn k, .int .i64 (x.merged + n), .int .i64 x.last] 45 H5.out.res rfl rfl rfl rfl infoSeI rfl (by simp [Value.oneCell']) ?_
  go_wp2
  refine bodyPost_ret (results_row_tmp Tryz.results104 _ _ (w.heap.size + 1) _ _ _ _ rfl H5.out.res.setRow Tryz.underlying45 rfl infoSeI) rfl ?_
  rw [HV.out]
  exact ⟨_, G, rfl, H5.out.done.1, H5.out.done.2.1, H5.out.done.2.2⟩
end Go.Proofs.YtgkbhhlkaifnoaaGreatDoor
/- The walks through SeatData, of the model. No statement of the seat is proved here. -/
namespace Go.Proofs.YtgkbhhlkaifnoaaGreatDoor
open Go.RowKit
def Se.took (x : Se) (sq : Int) : Se := ⟨x.epoch, x.granted, put x.taken (sq, sq) false, x.merged, x.last⟩
/-- A seat behind a SeatData, and the code. -/
def Se.data (x : Se) (per ep sq : Int) : Se × Int :=
  if ¬ (x.ok per = true ∧ 1 ≤ sq ∧ sq ≤ 60) then (x, 4) else if ¬ ep = x.epoch then (x, 2) else if x.taken.has sq = true then (x, 1) else if x.granted < sq then (x, 3) else (x.took sq, 0)
def NewSeI (w : World) (z : Se × Int) (e : Ending) (w' : World) : Prop := ∃ v F, e = .returned (.tuple #[v, .int .i64 z.2]) ∧ RdSe w' v z.1 F ∧ Own w.heap.size w' F ∧ Below w.heap.size w w'
theorem Se.data_wide {x : Se} (h : x.fits) (per ep sq : Int) : (x.data per ep sq).1.wide := by
  have hw := h.wide
  unfold Se.data
  split
  · exact hw
  split
  · exact hw
  split
  · exact hw
  split
  · exact hw
  · have := put_length x.taken (sq, sq) false
    unfold Se.fits at h
    show (put x.taken (sq, sq) false).length ≤ 2097152
    omega
section
variable {x : Se} {per ep sq : Int}
theorem Se.data_bad (h : ¬ (x.ok per = true ∧ 1 ≤ sq ∧ sq ≤ 60)) : x.data per ep sq = (x, 4) := by unfold Se.data; rw [if_pos h]
theorem Se.data_epoch (h : x.ok per = true ∧ 1 ≤ sq ∧ sq ≤ 60) (h2 : ¬ ep = x.epoch) : x.data per ep sq = (x, 2) := by unfold Se.data; rw [if_neg (fun q => q h), if_pos h2]
theorem Se.data_twice (h : x.ok per = true ∧ 1 ≤ sq ∧ sq ≤ 60) (h2 : ep = x.epoch) (h3 : x.taken.has sq = true) : x.data per ep sq = (x, 1) := by unfold Se.data; rw [if_neg (fun q => q h), if_neg (fun q => q h2), if_pos h3]
theorem Se.data_credit (h : x.ok per = true ∧ 1 ≤ sq ∧ sq ≤ 60) (h2 : ep = x.epoch) (h3 : x.taken.has sq = false) (h4 : x.granted < sq) : x.data per ep sq = (x, 3) := by unfold Se.data; rw [if_neg (fun q => q h), if_neg (fun q => q h2), if_neg (by rw [h3]; simp), if_pos h4]
theorem Se.data_new (h : x.ok per = true ∧ 1 ≤ sq ∧ sq ≤ 60) (h2 : ep = x.epoch) (h3 : x.taken.has sq = false) (h4 : ¬ x.granted < sq) : x.data per ep sq = (x.took sq, 0) := by unfold Se.data; rw [if_neg (fun q => q h), if_neg (fun q => q h2), if_neg (by rw [h3]; simp), if_neg h4]
end
theorem Se.took_eq {x : Se} {per sq : Int} (h : x.Right per) (hs : 1 ≤ sq ∧ sq ≤ 60) (hn : x.taken.has sq = false) : (x.taken.add sq).1 = put x.taken (sq, sq) false := by
  rw [Sp.add_yes h.taken (by omega) hn]
section
variable {w W W' : World} {A : Array Value} {L : Nat} {ep gr me la : Int} {ts : Sp} {b : Option Addr} {l c : Nat} {F : List Nat}
theorem SeW.row (h : SeW w A L ep gr me la ts b l c F W) {M : Nat} (hM : w.heap.size + 2 ≤ M) (hL : M ≠ L) (hF : M ∉ F) (ds : Array Value) : SeW w A L ep gr me la ts b l c F (W.setRow M ds) := by
  have ag := Agree.row (w := W) hF ds
  exact ⟨h.box.setRowOther (by omega), h.res.setRowOther (by omega), h.loc.setRowOther (fun e => hL e.symm), h.rp.agree ag, h.cp, h.own.agree ag, below_setRow h.bel (by omega) _, h.gt, h.ap⟩
end
set_option maxRecDepth 200000 in
theorem infoSpSe : (Tryz.prog.info? 62).map (·.size) = some 2 := by kernel_rfl
set_option maxRecDepth 200000 in
theorem l8OneSe_any (n : Int) (w : World) : Calls Tryz.prog 29 #[.int .i64 n] w fun e w' => e = .returned (.agg #[.int .i64 n, .int .i64 n]) ∧ Below w.heap.size w w' := by
  have H0 : Hid (Blk (w.alloc (.cells #[.int .i64 0, .int .i64 0] 62)) w.heap.size #[.int .i64 0, .int .i64 0] 62 ∧ Below w.heap.size w (w.alloc (.cells #[.int .i64 0, .int .i64 0] 62))) := ⟨Blk.made _ _ _, (Below.refl _ _).alloc (Nat.le_refl _) _⟩
  go_enter Tryz.func29, Tryz.ntmps29
  go_wp2_with (first | go_skip | (with_reducible refine stopStore 62 rfl ?_))
  refine store_known 62 w.heap.size _ #[.int .i64 n, .int .i64 n] 62 H0.out.1 rfl rfl rfl rfl infoSpSe rfl (by simp [Value.oneCell']) ?_
  go_wp2
  refine bodyPost_ret (results_cell_row Tryz.results29 _ _ w.heap.size _ _ (0, 0) _ rfl H0.out.1.setRow Tryz.underlying62 rfl infoSpSe) rfl ?_
  exact ⟨rfl, below_setRow H0.out.2 (Nat.le_refl _) _⟩
set_option maxRecDepth 200000 in
set_option maxHeartbeats 8000000 in
theorem seDataSpec_any (v : Value) (x : Se) (per : Int) (ep : Int) (sq : Int) (F : List Nat) (w : World) (h : RdSe w v x F) (hl : x.taken.length ≤ 2097152) :
    Calls Tryz.prog 14 #[v, .int .i64 per, .int .i64 ep, .int .i64 sq] w fun e w' => NewSeI w (x.data per ep sq) e w' := by
  obtain ⟨b, l, c, rfl, hP, hcp⟩ := h
  have HX : Hid (RdSe w (.agg #[.int .i64 x.epoch, .int .i64 x.granted, .slice b l c, .int .i64 x.merged, .int .i64 x.last]) x F ∧ x.taken.length ≤ 2097152) := ⟨⟨b, l, c, rfl, hP, hcp⟩, hl⟩
  have HP : Hid (RdP w b l x.taken F ∧ l ≤ 2097152 ∧ x.taken.length = l ∧ Capd b l c) := ⟨hP, by rw [← hP.length]; exact hl, hP.length, hcp⟩
  have HSZ : Hid (0 ≤ x.taken.size ∧ x.taken.size ≤ 20971520000) := by have := Sp.size_range x.taken; exact ⟨this.1, by omega⟩
  clear hP hl hcp
  have HT : Hid (Two w #[.int .i64 x.epoch, .int .i64 x.granted, .slice b l c, .int .i64 x.merged, .int .i64 x.last] #[.int .i64 0, .int .i64 0, .slice none 0 0, .int .i64 0, .int .i64 0] 45 ((w.alloc (.cells #[.int .i64 x.epoch, .int .i64 x.granted, .slice b l c, .int .i64 x.merged, .int .i64 x.last] 45)).alloc (.cells #[.int .i64 0, .int .i64 0, .slice none 0 0, .int .i64 0, .int .i64 0] 45))) := Two.made w _ _ _
  go_enter Tryz.func14, Tryz.ntmps14
  go_wp2_with (first | go_skip | (with_reducible refine stopLoad 45 rfl ?_) | (with_reducible refine stopStore 45 rfl ?_))
  obtain ⟨W0, hW0⟩ : ∃ W, W = (w.alloc (.cells #[.int .i64 x.epoch, .int .i64 x.granted, .slice b l c, .int .i64 x.merged, .int .i64 x.last] 45)).alloc (.cells #[.int .i64 0, .int .i64 0, .slice none 0 0, .int .i64 0, .int .i64 0] 45) := ⟨_, rfl⟩
  rw [← hW0] at HT ⊢
  clear hW0
  refine load_known 45 w.heap.size #[.int .i64 x.epoch, .int .i64 x.granted, .slice b l c, .int .i64 x.merged, .int .i64 x.last] 45 _ HT.out.fst rfl rfl rfl Tryz.underlying45 rfl infoSeI ?_
  go_wp2_with fail
  refine (l9Copy_any _ x F _ (HX.out.1.below HT.out.bel) HX.out.2).mono ?_
  rintro e w1 ⟨zv, G, rfl, ⟨p, n, k, rfl, rp, kp⟩, oz, bz⟩
  have HC1 : Hid (Two w #[.int .i64 x.epoch, .int .i64 x.granted, .slice b l c, .int .i64 x.merged, .int .i64 x.last] #[.int .i64 0, .int .i64 0, .slice none 0 0, .int .i64 0, .int .i64 0] 45 W0 ∧ RdP w1 p n x.taken G ∧ Capd p n k ∧ Own W0.heap.size w1 G ∧ Below W0.heap.size W0 w1) := ⟨HT.out, rp, kp, oz, bz⟩
  clear rp kp oz bz HT
  go_wp2_with (first | go_skip | (with_reducible refine stopLoad 45 rfl ?_) | (with_reducible refine stopStore 45 rfl ?_))
  refine store_fresh 45 w1.heap.size rfl #[.int .i64 0, .int .i64 0, .slice none 0 0, .int .i64 0, .int .i64 0] #[.int .i64 x.epoch, .int .i64 x.granted, .slice p n k, .int .i64 x.merged, .int .i64 x.last] 45 rfl rfl rfl rfl infoSeI rfl (by simp [Value.oneCell']) ?_
  intro w2 hg hb
  have H2 : Hid (SeW w #[.int .i64 x.epoch, .int .i64 x.granted, .slice b l c, .int .i64 x.merged, .int .i64 x.last] w1.heap.size x.epoch x.granted x.merged x.last x.taken p n k G w2) := SeW.start HC1.out.1 HC1.out.2.1 HC1.out.2.2.1 HC1.out.2.2.2.1 HC1.out.2.2.2.2 hg hb
  obtain ⟨L, hL⟩ : ∃ L, L = w1.heap.size := ⟨_, rfl⟩
  rw [← hL] at H2 ⊢
  clear hg hb hL HC1
  go_wp2_with (first | go_skip | (with_reducible refine stopLoad 45 rfl ?_) | (with_reducible refine stopStore 45 rfl ?_))
  refine load_known 45 w.heap.size #[.int .i64 x.epoch, .int .i64 x.granted, .slice b l c, .int .i64 x.merged, .int .i64 x.last] 45 _ H2.out.box rfl rfl rfl Tryz.underlying45 rfl infoSeI ?_
  go_wp2_with fail
  refine (seOkSpec_any _ x per F _ (HX.out.1.below H2.out.bel) HX.out.2).mono ?_
  rintro e w3 ⟨rfl, hb⟩
  have H3 : Hid (SeW w #[.int .i64 x.epoch, .int .i64 x.granted, .slice b l c, .int .i64 x.merged, .int .i64 x.last] L x.epoch x.granted x.merged x.last x.taken p n k G w3) := H2.out.below hb
  obtain ⟨d, hd⟩ : ∃ d, d = x.ok per := ⟨_, rfl⟩
  rw [← hd]
  have HD : Hid (d = x.ok per) := hd
  clear hd hb H2
  cases d
  · have HV : Hid (x.data per ep sq = (x, 4)) := Se.data_bad (fun q => by have := HD.out; rw [q.1] at this; cases this)
    go_wp2_with (first | go_skip | (with_reducible refine stopLoad 45 rfl ?_) | (with_reducible refine stopStore 45 rfl ?_))
    refine load_known 45 L #[.int .i64 x.epoch, .int .i64 x.granted, .slice p n k, .int .i64 x.merged, .int .i64 x.last] 45 _ H3.out.loc rfl rfl rfl Tryz.underlying45 rfl infoSeI ?_
    go_wp2_with (first | go_skip | (with_reducible refine stopLoad 45 rfl ?_) | (with_reducible refine stopStore 45 rfl ?_))
    refine store_known 45 (w.heap.size + 1) _ #[.int .i64 x.epoch, .int .i64 x.granted, .slice p n k, .int .i64 x.merged, .int .i64 x.last] 45 H3.out.res rfl rfl rfl rfl infoSeI rfl (by simp [Value.oneCell']) ?_
    go_wp2
    refine bodyPost_ret (results_row_tmp Tryz.results14 _ _ (w.heap.size + 1) _ _ _ _ rfl H3.out.res.setRow Tryz.underlying45 rfl infoSeI) rfl ?_
    rw [HV.out]
    exact ⟨_, G, rfl, H3.out.done.1, H3.out.done.2.1, H3.out.done.2.2⟩
  go_wp2_with fail
  refine (l1In_any sq 1 60 _).mono ?_
  rintro e w4 ⟨rfl, hq⟩
  have hq' := hq.symm
  subst hq'
  clear hq
  obtain ⟨d2, hd2⟩ : ∃ d, d = decide (1 ≤ sq ∧ sq ≤ 60) := ⟨_, rfl⟩
  rw [← hd2]
  have HD2 : Hid (d2 = decide (1 ≤ sq ∧ sq ≤ 60)) := hd2
  clear hd2
  cases d2
  · have HV : Hid (x.data per ep sq = (x, 4)) := Se.data_bad (fun q => of_decide_eq_false HD2.out.symm q.2)
    go_wp2_with (first | go_skip | (with_reducible refine stopLoad 45 rfl ?_) | (with_reducible refine stopStore 45 rfl ?_))
    refine load_known 45 L #[.int .i64 x.epoch, .int .i64 x.granted, .slice p n k, .int .i64 x.merged, .int .i64 x.last] 45 _ H3.out.loc rfl rfl rfl Tryz.underlying45 rfl infoSeI ?_
    go_wp2_with (first | go_skip | (with_reducible refine stopLoad 45 rfl ?_) | (with_reducible refine stopStore 45 rfl ?_))
    refine store_known 45 (w.heap.size + 1) _ #[.int .i64 x.epoch, .int .i64 x.granted, .slice p n k, .int .i64 x.merged, .int .i64 x.last] 45 H3.out.res rfl rfl rfl rfl infoSeI rfl (by simp [Value.oneCell']) ?_
    go_wp2
    refine bodyPost_ret (results_row_tmp Tryz.results14 _ _ (w.heap.size + 1) _ _ _ _ rfl H3.out.res.setRow Tryz.underlying45 rfl infoSeI) rfl ?_
    rw [HV.out]
    exact ⟨_, G, rfl, H3.out.done.1, H3.out.done.2.1, H3.out.done.2.2⟩
  have HH : Hid (x.ok per = true ∧ 1 ≤ sq ∧ sq ≤ 60) := ⟨HD.out.symm, of_decide_eq_true HD2.out.symm⟩
  have c0 := H3.out.box.cell 0
  simp only [aT, aZ] at c0
  by_cases hE : ep = x.epoch
  rotate_left
  · have HV : Hid (x.data per ep sq = (x, 2)) := Se.data_epoch HH.out hE
    have e0 : (ep != x.epoch) = true := by simpa using hE
    clear hE
    go_wp2_with (first | go_skip | (with_reducible refine stopLoad 45 rfl ?_) | (with_reducible refine stopStore 45 rfl ?_))
    refine load_known 45 L #[.int .i64 x.epoch, .int .i64 x.granted, .slice p n k, .int .i64 x.merged, .int .i64 x.last] 45 _ H3.out.loc rfl rfl rfl Tryz.underlying45 rfl infoSeI ?_
    go_wp2_with (first | go_skip | (with_reducible refine stopLoad 45 rfl ?_) | (with_reducible refine stopStore 45 rfl ?_))
    refine store_known 45 (w.heap.size + 1) _ #[.int .i64 x.epoch, .int .i64 x.granted, .slice p n k, .int .i64 x.merged, .int .i64 x.last] 45 H3.out.res rfl rfl rfl rfl infoSeI rfl (by simp [Value.oneCell']) ?_
    go_wp2
    refine bodyPost_ret (results_row_tmp Tryz.results14 _ _ (w.heap.size + 1) _ _ _ _ rfl H3.out.res.setRow Tryz.underlying45 rfl infoSeI) rfl ?_
    rw [HV.out]
    exact ⟨_, G, rfl, H3.out.done.1, H3.out.done.2.1, H3.out.done.2.2⟩
  have HE : Hid (ep = x.epoch) := hE
  have e0 : (ep != x.epoch) = false := by simpa using hE
  have c2 := H3.out.box.cell 2
  simp only [aT, aS, aZ] at c2
  clear hE
  go_wp2_with fail
  refine (hasSpec_any b l c x.taken sq F _ (HP.out.1.below H3.out.bel) (by have := HP.out.2.1; omega)).mono ?_
  rintro e w4 ⟨rfl, hb⟩
  have H4 : Hid (SeW w #[.int .i64 x.epoch, .int .i64 x.granted, .slice b l c, .int .i64 x.merged, .int .i64 x.last] L x.epoch x.granted x.merged x.last x.taken p n k G w4) := H3.out.below (quiet_below hb)
  obtain ⟨d3, hd3⟩ : ∃ d, d = x.taken.has sq := ⟨_, rfl⟩
  rw [← hd3]
  have HD3 : Hid (d3 = x.taken.has sq) := hd3
  clear hd3 hb c0 c2 e0 H3
  cases d3
  rotate_left
  · have HV : Hid (x.data per ep sq = (x, 1)) := Se.data_twice HH.out HE.out HD3.out.symm
    go_wp2_with (first | go_skip | (with_reducible refine stopLoad 45 rfl ?_) | (with_reducible refine stopStore 45 rfl ?_))
    refine load_known 45 L #[.int .i64 x.epoch, .int .i64 x.granted, .slice p n k, .int .i64 x.merged, .int .i64 x.last] 45 _ H4.out.loc rfl rfl rfl Tryz.underlying45 rfl infoSeI ?_
    go_wp2_with (first | go_skip | (with_reducible refine stopLoad 45 rfl ?_) | (with_reducible refine stopStore 45 rfl ?_))
    refine store_known 45 (w.heap.size + 1) _ #[.int .i64 x.epoch, .int .i64 x.granted, .slice p n k, .int .i64 x.merged, .int .i64 x.last] 45 H4.out.res rfl rfl rfl rfl infoSeI rfl (by simp [Value.oneCell']) ?_
    go_wp2
    refine bodyPost_ret (results_row_tmp Tryz.results14 _ _ (w.heap.size + 1) _ _ _ _ rfl H4.out.res.setRow Tryz.underlying45 rfl infoSeI) rfl ?_
    rw [HV.out]
    exact ⟨_, G, rfl, H4.out.done.1, H4.out.done.2.1, H4.out.done.2.2⟩
  have c1 := H4.out.box.cell 1
  simp only [aT, aS, aZ] at c1
  by_cases hG : x.granted < sq
  · have HV : Hid (x.data per ep sq = (x, 3)) := Se.data_credit HH.out HE.out HD3.out.symm hG
    have e1 : decide (x.granted < sq) = true := decide_eq_true hG
    clear hG
    go_wp2_with (first | go_skip | (with_reducible refine stopLoad 45 rfl ?_) | (with_reducible refine stopStore 45 rfl ?_))
    refine load_known 45 L #[.int .i64 x.epoch, .int .i64 x.granted, .slice p n k, .int .i64 x.merged, .int .i64 x.last] 45 _ H4.out.loc rfl rfl rfl Tryz.underlying45 rfl infoSeI ?_
    go_wp2_with (first | go_skip | (with_reducible refine stopLoad 45 rfl ?_) | (with_reducible refine stopStore 45 rfl ?_))
    refine store_known 45 (w.heap.size + 1) _ #[.int .i64 x.epoch, .int .i64 x.granted, .slice p n k, .int .i64 x.merged, .int .i64 x.last] 45 H4.out.res rfl rfl rfl rfl infoSeI rfl (by simp [Value.oneCell']) ?_
    go_wp2
    refine bodyPost_ret (results_row_tmp Tryz.results14 _ _ (w.heap.size + 1) _ _ _ _ rfl H4.out.res.setRow Tryz.underlying45 rfl infoSeI) rfl ?_
    rw [HV.out]
    exact ⟨_, G, rfl, H4.out.done.1, H4.out.done.2.1, H4.out.done.2.2⟩
  have HV : Hid (x.data per ep sq = (x.took sq, 0)) := Se.data_new HH.out HE.out HD3.out.symm hG
  have HIN : Hid ((∀ k, k < l → InB (x.taken.at k)) ∧ InB (sq, sq)) := by
    have hR := Se.right HH.out.1
    have h1 := HH.out.2
    exact ⟨fun k hk => ok_inb hR.taken k (by rw [HP.out.2.2.1]; exact hk), ⟨⟨by show 0 ≤ sq; omega, by show sq ≤ 9999; omega⟩, by show 0 ≤ sq; omega, by show sq ≤ 9999; omega⟩⟩
  have e1 : decide (x.granted < sq) = false := decide_eq_false hG
  clear hG
  go_wp2_with fail
  obtain ⟨Y0, hY0⟩ : ∃ W, W = w4.drew := ⟨_, rfl⟩
  have HS : Hid (SeW w #[.int .i64 x.epoch, .int .i64 x.granted, .slice b l c, .int .i64 x.merged, .int .i64 x.last] L x.epoch x.granted x.merged x.last x.taken p n k G Y0) := by rw [hY0]; exact H4.out.drew
  clear H4 c1 e1
  refine wp_region_held (S := fun W => Blk W w.heap.size #[.int .i64 x.epoch, .int .i64 x.granted, .slice b l c, .int .i64 x.merged, .int .i64 x.last] 45) (by kernel_rfl) ?_
  change wpAnyH _ _ _ _ _ _ _ _ (World.drew _)
  rw [← hY0]
  clear hY0
  refine takeH (o := ?o30) 0 (.pointer (some ⟨w.heap.size, 2, none⟩)) ?h30 ?r30
  case h30 => simp only [aT, aZ]; rfl
  refine ⟨_, by simp [Act.put]; rfl, by kernel_rfl, by kernel_rfl, by kernel_rfl, fun _ _ _ h => h, (.inl ⟨rfl, fun W _ => by kernel_rfl⟩), HS.out.box, ?_⟩
  refine takeH (o := ?o31) 1 (.slice b l c) ?h31 ?r31
  case h31 => simp only [aT, aS, aZ]; rfl
  refine ⟨_, by simp [Act.put]; rfl, by kernel_rfl, by kernel_rfl, by kernel_rfl, fun _ _ _ h => h, (.inl ⟨rfl, fun W hW => by have c := hW.cell 2; simp only [aT, aS, aZ] at c; go_simp⟩), HS.out.box, ?_⟩
  refine takeH (o := ?o32) 2 (.int .i64 sq) ?h32 ?r32
  case h32 => simp only [aT, aS, aZ]; rfl
  refine ⟨_, by simp [Act.put]; rfl, by kernel_rfl, by kernel_rfl, by kernel_rfl, fun _ _ _ h => h, (.inl ⟨rfl, fun W _ => by kernel_rfl⟩), HS.out.box, ?_⟩
  refine onlyH (o := ?o33) 3 (by kernel_rfl) ?h33 ?r33
  case h33 => simp only [aT, aS, aZ]; rfl
  intro K hK
  refine op_call1 29 _ _ Tryz.f29 (fun v w' => v = .agg #[.int .i64 sq, .int .i64 sq] ∧ Below Y0.heap.size Y0 w') rfl rfl Tryz.func29 (by kernel_rfl) (by kernel_rfl) ((l8OneSe_any sq Y0).mono (by rintro e w' ⟨rfl, r⟩; exact ⟨_, rfl, rfl, r⟩)) ?_
  rintro v Y1 ⟨rfl, hb⟩
  have HS : Hid (SeW w #[.int .i64 x.epoch, .int .i64 x.granted, .slice b l c, .int .i64 x.merged, .int .i64 x.last] L x.epoch x.granted x.merged x.last x.taken p n k G Y1) := HS.out.below hb
  clear hb
  refine ⟨_, by simp [Act.put]; rfl, hK _ _ ⟨HS.out.box, ?_⟩⟩
  clear hK
  refine onlyH (o := ?o34) 4 (by kernel_rfl) ?h34 ?r34
  case h34 => simp only [aT, aS, aZ]; rfl
  intro K hK
  refine op_callS2 55 _ _ _ Tryz.f55 (fun v w' => ∃ b' l' c' F', v = .slice b' l' c' ∧ RdP w' b' l' (put x.taken (sq, sq) false) F' ∧ Own Y1.heap.size w' F' ∧ Below Y1.heap.size Y1 w' ∧ Capd b' l' c') rfl rfl Tryz.func55 (by kernel_rfl) (by kernel_rfl) ((l5Put_any b l c x.taken (sq, sq) F Y1 (HP.out.1.below HS.out.bel) HP.out.2.1 HIN.out.1 HIN.out.2).mono (by intro e w' hh; obtain ⟨b', l', c', F', rfl, r1, r2, r3, r4⟩ := hh; exact ⟨_, rfl, b', l', c', F', rfl, r1, r2, r3, r4⟩)) ?_
  rintro v Y2 ⟨bq, nq, cq, Gq, rfl, r1, r2, r3, r4⟩
  have lL : L < Y1.heap.size := HS.out.loc.lt
  have lg := HS.out.gt
  have HQ : Hid (RdP Y2 bq nq (put x.taken (sq, sq) false) Gq ∧ Capd bq nq cq ∧ Own (w.heap.size + 2) Y2 Gq ∧ L ∉ Gq) := ⟨r1, r4, r2.mono (by omega), fun hx => by have := r2.ge _ hx; omega⟩
  have HS : Hid (SeW w #[.int .i64 x.epoch, .int .i64 x.granted, .slice b l c, .int .i64 x.merged, .int .i64 x.last] L x.epoch x.granted x.merged x.last x.taken p n k G Y2) := HS.out.below r3
  clear r1 r2 r3 r4 lL
  refine ⟨_, by simp [Act.put]; rfl, hK _ _ ⟨HS.out.box, ?_⟩⟩
  clear hK
  refine takeH (o := ?o35) 5 (.pointer (some ⟨L, 2, none⟩)) ?h35 ?r35
  case h35 => simp only [aT, aS, aZ]; rfl
  refine ⟨_, by simp [Act.put]; rfl, by kernel_rfl, by kernel_rfl, by kernel_rfl, fun _ _ _ h => h, (.inl ⟨rfl, fun W _ => by kernel_rfl⟩), HS.out.box, ?_⟩
  refine onlyH (o := ?o36) 6 (by kernel_rfl) ?h36 ?r36
  case h36 => simp only [aT, aS, aZ]; rfl
  intro K hK
  have c2 := HS.out.loc.cell 2
  have f2 := HS.out.loc.frozen 2
  simp only [aT, aS, aZ] at c2
  have HZ : Hid (SeW w #[.int .i64 x.epoch, .int .i64 x.granted, .slice b l c, .int .i64 x.merged, .int .i64 x.last] L x.epoch x.granted x.merged x.last (put x.taken (sq, sq) false) bq nq cq Gq (Y2.setCell ⟨L, 2, none⟩ (.slice bq nq cq))) := HS.out.put HQ.out.1 HQ.out.2.1 HQ.out.2.2.1 HQ.out.2.2.2
  refine op_skip (Y2.setCell ⟨L, 2, none⟩ (.slice bq nq cq)) rfl (by go_simp) ⟨_, by simp [Act.put]; rfl, hK _ _ ⟨HZ.out.box, ?_⟩⟩
  clear hK c2 f2 HS HQ lg
  refine wpAnyH_done (by kernel_rfl) ?_ _
  obtain ⟨w6, hw6⟩ : ∃ W, W = Y2.setCell ⟨L, 2, none⟩ (.slice bq nq cq) := ⟨_, rfl⟩
  rw [← hw6] at HZ ⊢
  clear hw6
  go_wp2_with (first | go_skip | (with_reducible refine stopLoad 45 rfl ?_) | (with_reducible refine stopStore 45 rfl ?_))
  refine load_known 45 L #[.int .i64 x.epoch, .int .i64 x.granted, .slice bq nq cq, .int .i64 x.merged, .int .i64 x.last] 45 _ HZ.out.loc rfl rfl rfl Tryz.underlying45 rfl infoSeI ?_
  go_wp2_with (first | go_skip | (with_reducible refine stopLoad 45 rfl ?_) | (with_reducible refine stopStore 45 rfl ?_))
  refine store_known 45 (w.heap.size + 1) _ #[.int .i64 x.epoch, .int .i64 x.granted, .slice bq nq cq, .int .i64 x.merged, .int .i64 x.last] 45 HZ.out.res rfl rfl rfl rfl infoSeI rfl (by simp [Value.oneCell']) ?_
  go_wp2
  refine bodyPost_ret (results_row_tmp Tryz.results14 _ _ (w.heap.size + 1) _ _ _ _ rfl HZ.out.res.setRow Tryz.underlying45 rfl infoSeI) rfl ?_
  rw [HV.out]
  exact ⟨_, Gq, rfl, HZ.out.done.1, HZ.out.done.2.1, HZ.out.done.2.2⟩
end Go.Proofs.YtgkbhhlkaifnoaaGreatDoor
/- The walks through the model's drawing of seats. No statement of the seat is proved here. -/
namespace Go.Proofs.YtgkbhhlkaifnoaaGreatDoor
open Go.RowKit
/-- A seat that is being drawn: the result's place, the cursor, the seat's cells in block L. -/
structure LocQ (w : World) (q : Nat) (a : Option Addr) (len cap : Nat) (zs : List Int) (i h : Int) (L : Nat) (ep gr me la : Int) (ts : Sp) (b : Option Addr) (l c : Nat) (F : List Nat) (W : World) : Prop where
  held : HeldR w q a len cap zs i h #[.int .i64 0, .int .i64 0, .slice none 0 0, .int .i64 0, .int .i64 0] 45 W
  loc : Blk W L #[.int .i64 ep, .int .i64 gr, .slice b l c, .int .i64 me, .int .i64 la] 45
  rp : RdP W b l ts F
  cp : Capd b l c
  own : Own (w.heap.size + 1) W F
  ap : L ∉ F
  gt : w.heap.size < L
/-- What a drawing of a seat tells. -/
def DrewSe (w : World) (q : Nat) (a : Option Addr) (len cap : Nat) (zs : List Int) (m : Nat) (e : Ending) (w' : World) : Prop :=
  ∃ v x F i' h', e = .returned v ∧ RdSe w' v x F ∧ (x.taken.length ≤ m ∧ x.taken.fit) ∧ Own w.heap.size w' F ∧ Cur w' q a len cap zs i' h' ∧ w.grownBy w' (some q)
def DrewSeI (w : World) (q : Nat) (a : Option Addr) (len cap : Nat) (zs : List Int) (m : Nat) (e : Ending) (w' : World) : Prop :=
  ∃ v x per F i' h', e = .returned (.tuple #[v, .int .i64 per]) ∧ RdSe w' v x F ∧ (x.taken.length ≤ m ∧ x.taken.fit) ∧ Own w.heap.size w' F ∧ Cur w' q a len cap zs i' h' ∧ w.grownBy w' (some q)
section
variable {w W W' : World} {q : Nat} {a : Option Addr} {len cap : Nat} {zs : List Int} {i h i' h' : Int} {L : Nat} {ep gr me la : Int} {ts : Sp} {b : Option Addr} {l c : Nat} {F : List Nat}
theorem LocQ.next (H : LocQ w q a len cap zs i h L ep gr me la ts b l c F W) (hq : q < w.heap.size) (C : Cur W' q a len cap zs i' h') (g : W.grownBy W' (some q)) : LocQ w q a len cap zs i' h' L ep gr me la ts b l c F W' := by
  have ag : Agree W W' F := fun x hx => g.block x (H.rp.lt x hx) (fun e => by have := H.own.ge x hx; simp at e; omega)
  have gt := H.gt
  exact ⟨H.held.next hq C g, H.loc.grown g (by omega), H.rp.agree ag, H.cp, H.own.agree ag, H.ap, H.gt⟩
theorem LocQ.below (H : LocQ w q a len cap zs i h L ep gr me la ts b l c F W) (k : Below W.heap.size W W') : LocQ w q a len cap zs i h L ep gr me la ts b l c F W' :=
  ⟨H.held.below k, H.loc.below k, H.rp.below k, H.cp, H.own.below H.rp.lt k, H.ap, H.gt⟩
theorem LocQ.drew (H : LocQ w q a len cap zs i h L ep gr me la ts b l c F W) : LocQ w q a len cap zs i h L ep gr me la ts b l c F W.drew := H.below (Below.refl _ _).drew
theorem LocQ.set (H : LocQ w q a len cap zs i h L ep gr me la ts b l c F W) (hq : q < w.heap.size) (ha : ∀ b, (∃ off, a = some ⟨b, off, none⟩ ∧ 0 < len) → b < w.heap.size) (j : Nat) (v : Value) {ep' gr' me' la' : Int} (hc : (#[.int .i64 ep, .int .i64 gr, .slice b l c, .int .i64 me, .int .i64 la] : Array Value).setIfInBounds j v = #[.int .i64 ep', .int .i64 gr', .slice b l c, .int .i64 me', .int .i64 la']) : LocQ w q a len cap zs i h L ep' gr' me' la' ts b l c F (W.setCell ⟨L, j, none⟩ v) := by
  have hgt := H.gt
  have hl := H.loc.set j v
  rw [hc] at hl
  have ag : Agree W (W.setCell ⟨L, j, none⟩ v) F := .set H.ap j v
  exact ⟨⟨H.held.res.setOther (by omega) j v, cur_cell H.held.cur (by omega) (fun b hb => by have := ha b hb; omega), grown_cell H.held.grown (by omega)⟩, hl, H.rp.agree ag, H.cp, H.own.agree ag, H.ap, H.gt⟩
theorem LocQ.put (H : LocQ w q a len cap zs i h L ep gr me la ts b l c F W) (hq : q < w.heap.size) (ha : ∀ b, (∃ off, a = some ⟨b, off, none⟩ ∧ 0 < len) → b < w.heap.size) {b' : Option Addr} {l' c' : Nat} {us : Sp} {G : List Nat} (r : RdP W b' l' us G) (hk : Capd b' l' c') (ho : Own (w.heap.size + 1) W G) (hL : L ∉ G) : LocQ w q a len cap zs i h L ep gr me la us b' l' c' G (W.setCell ⟨L, 2, none⟩ (.slice b' l' c')) := by
  have hgt := H.gt
  have ag : Agree W (W.setCell ⟨L, 2, none⟩ (.slice b' l' c')) G := .set hL 2 _
  exact ⟨⟨H.held.res.setOther (by omega) _ _, cur_cell H.held.cur (by omega) (fun b hb => by have := ha b hb; omega), grown_cell H.held.grown (by omega)⟩, H.loc.set 2 _, r.agree ag, hk, ho.agree ag, hL, H.gt⟩
theorem LocQ.whole (H : LocQ w q a len cap zs i h L ep gr me la ts b l c F W) (hq : q < w.heap.size) (ha : ∀ b, (∃ off, a = some ⟨b, off, none⟩ ∧ 0 < len) → b < w.heap.size) {ep' gr' me' la' : Int} {b' : Option Addr} {l' c' : Nat} {us : Sp} {G : List Nat} (r : RdP W b' l' us G) (hk : Capd b' l' c') (ho : Own (w.heap.size + 1) W G) (hL : L ∉ G) : LocQ w q a len cap zs i h L ep' gr' me' la' us b' l' c' G (W.setRow L #[.int .i64 ep', .int .i64 gr', .slice b' l' c', .int .i64 me', .int .i64 la']) := by
  have hgt := H.gt
  exact ⟨⟨H.held.res.setRowOther (by omega), cur_row H.held.cur (by omega) (fun b hb => by have := ha b hb; omega), grown_row H.held.grown (by omega)⟩, H.loc.setRow, r.agree (Agree.row hL _), hk, ho.agree (Agree.row hL _), hL, H.gt⟩
theorem LocQ.rd (H : LocQ w q a len cap zs i h L ep gr me la ts b l c F W) : RdSe W (.agg #[.int .i64 ep, .int .i64 gr, .slice b l c, .int .i64 me, .int .i64 la]) ⟨ep, gr, ts, me, la⟩ F := ⟨b, l, c, rfl, H.rp, H.cp⟩
theorem LocQ.done (H : LocQ w q a len cap zs i h L ep gr me la ts b l c F W) (hq : q < w.heap.size) (ha : ∀ b, (∃ off, a = some ⟨b, off, none⟩ ∧ 0 < len) → b < w.heap.size) : RdSe (W.setRow w.heap.size #[.int .i64 ep, .int .i64 gr, .slice b l c, .int .i64 me, .int .i64 la]) (.agg #[.int .i64 ep, .int .i64 gr, .slice b l c, .int .i64 me, .int .i64 la]) ⟨ep, gr, ts, me, la⟩ F ∧ Own w.heap.size (W.setRow w.heap.size #[.int .i64 ep, .int .i64 gr, .slice b l c, .int .i64 me, .int .i64 la]) F ∧ Cur (W.setRow w.heap.size #[.int .i64 ep, .int .i64 gr, .slice b l c, .int .i64 me, .int .i64 la]) q a len cap zs i h ∧ w.grownBy (W.setRow w.heap.size #[.int .i64 ep, .int .i64 gr, .slice b l c, .int .i64 me, .int .i64 la]) (some q) := by
  have nF : w.heap.size ∉ F := fun hx => by have := H.own.ge _ hx; omega
  exact ⟨H.rd.agree (Agree.row nF _), (H.own.agree (Agree.row nF _)).mono (by omega), cur_row H.held.cur (by omega) (fun b hb => by have := ha b hb; omega), grown_row H.held.grown (Nat.le_refl _)⟩
end
theorem results_row_tmp2 {P : Program} {fn : Func} {p u v : Tmp} {ty : TypeId} (h : fn.results = #[.cell p ty, .tmp u, .tmp v]) (tmps : Array Value) (w : World) (g : Nat) (t : TypeId) (cs : Array Value) (fr : Nat × Nat) (d : TypeDesc)
    (hp : tmps.getD p undef = .pointer (some ⟨g, 0, none⟩)) (hg : w.heap[g]? = some (.cells cs t fr))
    (hu : P.underlying ty = some d) (hd : (match d with | .struct _ | .array _ _ => true | _ => false) = true) (hi : (P.info? ty).map (·.size) = some cs.size) :
    (results fn tmps).run P w = .ok (.tuple #[.agg cs, tmps.getD u undef, tmps.getD v undef]) w := by
  have hp' : tmps[p]?.getD undef = .pointer (some ⟨g, 0, none⟩) := by simpa using hp
  simp only [results, h]
  simp [Result.andThen, hp', asAddr, run_loadVar_row w g t ty cs fr d hg hu hd hi]
theorem results_row_tmp3 {P : Program} {fn : Func} {p u v y : Tmp} {ty : TypeId} (h : fn.results = #[.cell p ty, .tmp u, .tmp v, .tmp y]) (tmps : Array Value) (w : World) (g : Nat) (t : TypeId) (cs : Array Value) (fr : Nat × Nat) (d : TypeDesc)
    (hp : tmps.getD p undef = .pointer (some ⟨g, 0, none⟩)) (hg : w.heap[g]? = some (.cells cs t fr))
    (hu : P.underlying ty = some d) (hd : (match d with | .struct _ | .array _ _ => true | _ => false) = true) (hi : (P.info? ty).map (·.size) = some cs.size) :
    (results fn tmps).run P w = .ok (.tuple #[.agg cs, tmps.getD u undef, tmps.getD v undef, tmps.getD y undef]) w := by
  have hp' : tmps[p]?.getD undef = .pointer (some ⟨g, 0, none⟩) := by simpa using hp
  simp only [results, h]
  simp [Result.andThen, hp', asAddr, run_loadVar_row w g t ty cs fr d hg hu hd hi]
theorem Se.grant_taken (x : Se) (per : Int) : (x.grant per).taken = x.taken := by unfold Se.grant; split <;> rfl
theorem Se.merge_taken (x : Se) (per n : Int) : (x.merge per n).1.taken = x.taken := by unfold Se.merge; split <;> rfl
theorem Se.data_taken (x : Se) (per ep sq : Int) : (x.data per ep sq).1.taken = x.taken ∨ ((x.data per ep sq).1.taken = put x.taken (sq, sq) false ∧ InB (sq, sq)) := by
  unfold Se.data
  split
  · exact .inl rfl
  split
  · exact .inl rfl
  split
  · exact .inl rfl
  split
  · exact .inl rfl
  · rename_i h1 _ _ _
    have h := Decidable.not_not.1 h1
    exact .inr ⟨rfl, ⟨by show 0 ≤ sq; omega, by show sq ≤ 9999; omega⟩, by show 0 ≤ sq; omega, by show sq ≤ 9999; omega⟩
theorem Se.data_small {x : Se} {per ep sq : Int} {k : Nat} (h : x.taken.length ≤ k ∧ ∀ p ∈ x.taken, InB p) : (x.data per ep sq).1.taken.length ≤ k + 1 ∧ ∀ p ∈ (x.data per ep sq).1.taken, InB p := by
  rcases x.data_taken per ep sq with e | ⟨e, hi⟩
  · rw [e]; exact ⟨by omega, h.2⟩
  · rw [e]; have := put_length x.taken (sq, sq) false; exact ⟨by omega, put_inb h.2 hi⟩
theorem rdSe_last (w : World) (n : Int) : RdSe w (.agg #[.int .i64 0, .int .i64 0, .slice none 0 0, .int .i64 0, .int .i64 n]) ⟨0, 0, [], 0, n⟩ [] := ⟨none, 0, 0, rfl, RdP.nil, ⟨fun _ => rfl, Nat.le_refl _⟩⟩
section
variable {P : Program} {ops : Array Oper} {Q : Exit → Act → World → Prop} {a : Act} {w : World} {o : Oper} {K : Act → World → Prop}
theorem op_callS4 (f : FuncId) (x y z u : Operand) (ts : Array TypeId) (fn : Func) (R : Value → World → Prop) (hw : Region.wanted o (yielded ops a.tmps) = true) (ho : o.op = Op.call { callee := Callee.value (Operand.func f), args := #[x, y, z, u], argTypes := ts })
    (hfn : P.funcs[f]? = some fn) (hnm : (fn.name == "runtime.NumGoroutine") = false) (hbd : fn.body.isNone = false) (hc : Calls P f #[a.eval x, a.eval y, a.eval z, a.eval u] w fun e w' => ∃ v, e = .returned v ∧ R v w') (h : ∀ v w', R v w' → ∃ a', a.put o.dst v = a' ∧ K a' w') : if Region.wanted o (yielded ops a.tmps) = true then Oper.wp P o a w K Q else K (a.put o.dst undef) w := by
  rw [if_pos hw]
  have hnm' : ¬ fn.name = "runtime.NumGoroutine" := by simpa using hnm
  have hbd' : ¬ fn.body = none := by intro e; rw [e] at hbd; cases hbd
  unfold Oper.wp
  simp only [execOp, ho, resolve, invoke, Oper.upon, go_sem]
  simp [callFunc, hfn, hnm', hbd', go_sem]
  simp [Act.eval, go_sem] at hc
  refine Calls.mono hc ?_
  rintro e w' ⟨v, rfl, hr⟩
  obtain ⟨a', ha', hk⟩ := h v w' hr
  rw [← ha'] at hk
  exact hk
theorem op_loadS (ty : TypeId) (g : Nat) (cells : Array Value) (t : TypeId) (d : TypeDesc) {x : Operand} (hg : Blk w g cells t) (hw : Region.wanted o (yielded ops a.tmps) = true) (ho : o.op = .load ty x) (hx : a.eval x = .pointer (some ⟨g, 0, none⟩))
    (hu : P.underlying ty = some d) (hd : (match d with | .struct _ | .array _ _ => true | _ => false) = true) (hi : (P.info? ty).map (·.size) = some cells.size)
    (h : ∃ a', a.put o.dst (.agg cells) = a' ∧ K a' w) : if Region.wanted o (yielded ops a.tmps) = true then Oper.wp P o a w K Q else K (a.put o.dst undef) w := by
  obtain ⟨_, rfl, h⟩ := h
  rw [if_pos hw]
  exact wp_load_row ty x ho g hx t cells (0, 0) d hg hu hd hi h
end
set_option maxRecDepth 200000 in
set_option maxHeartbeats 8000000 in
theorem l9Right_any (q : Nat) (a : Option Addr) (len cap : Nat) (zs : List Int) (i h : Int) (per : Int) (w : World) (C : Cur w q a len cap zs i h) (hlen : len ≤ 1048576) :
    Calls Tryz.prog 81 #[.pointer (some ⟨q, 0, none⟩), .int .i64 per] w fun e w' => DrewSe w q a len cap zs 6 e w' := by
  have hq : q < w.heap.size := World.block_lt_of_cell? _ _ C.c0
  have HA : Hid (∀ b, (∃ off, a = some ⟨b, off, none⟩ ∧ 0 < len) → b < w.heap.size) := cur_lt C
  have H0 : Hid (HeldR w q a len cap zs i h #[.int .i64 0, .int .i64 0, .slice none 0 0, .int .i64 0, .int .i64 0] 45 (w.alloc (.cells #[.int .i64 0, .int .i64 0, .slice none 0 0, .int .i64 0, .int .i64 0] 45))) := HeldR.made C _ _
  clear C
  go_enter Tryz.func81, Tryz.ntmps81
  go_wp2_with fail
  refine (l1Below_any q a len cap zs i h 5 _ H0.out.cur hlen (by omega) (by omega)).mono ?_
  rintro e w1 ⟨x1, i1, h1, rfl, p1, r1, C1, g1⟩
  have H1 : Hid (HeldR w q a len cap zs i1 h1 #[.int .i64 0, .int .i64 0, .slice none 0 0, .int .i64 0, .int .i64 0] 45 w1) := H0.out.next hq C1 g1
  clear C1 g1 H0
  go_wp2_with fail
  refine (seGrantSpec_any _ ⟨0, 0, [], 0, x1⟩ per [] _ (rdSe_last _ x1) (by simp)).mono ?_
  rintro e w2 ⟨v2, F2, rfl, r2, o2, b2⟩
  have HS0 : Hid (((Se.mk 0 0 [] 0 x1).grant per).taken.length ≤ 0 ∧ ∀ p ∈ ((Se.mk 0 0 [] 0 x1).grant per).taken, InB p) := by show _ ∧ _; rw [Se.grant_taken]; exact ⟨Nat.le_refl _, fun p hp => nomatch (show p ∈ ([] : Sp) from hp)⟩
  generalize (Se.mk 0 0 [] 0 x1).grant per = X at r2 HS0
  obtain ⟨ep, gr, ts, me, la⟩ := X
  obtain ⟨b, l, c, rfl, rp2, k2⟩ := r2
  have H2 : Hid (HeldR w q a len cap zs i1 h1 #[.int .i64 0, .int .i64 0, .slice none 0 0, .int .i64 0, .int .i64 0] 45 w2 ∧ RdP w2 b l ts F2 ∧ Capd b l c ∧ Own w1.heap.size w2 F2 ∧ w.heap.size < w1.heap.size) := ⟨H1.out.below b2, rp2, k2, o2, H1.out.res.lt⟩
  clear rp2 k2 o2 b2 H1
  go_wp2_with (first | go_skip | (with_reducible refine stopLoad 45 rfl ?_) | (with_reducible refine stopStore 45 rfl ?_))
  refine store_fresh 45 w2.heap.size rfl #[.int .i64 0, .int .i64 0, .slice none 0 0, .int .i64 0, .int .i64 0] #[.int .i64 ep, .int .i64 gr, .slice b l c, .int .i64 me, .int .i64 la] 45 rfl rfl rfl rfl infoSeI rfl (by simp [Value.oneCell']) ?_
  intro w3 hg3 hb3
  have H3 : Hid (LocQ w q a len cap zs i1 h1 w2.heap.size ep gr me la ts b l c F2 w3) := ⟨H2.out.1.below hb3, hg3, H2.out.2.1.below hb3, H2.out.2.2.1, (H2.out.2.2.2.1.below H2.out.2.1.lt hb3).mono (by have := H2.out.2.2.2.2; omega), fun hx => by have := H2.out.2.1.lt _ hx; omega, H2.out.1.res.lt⟩
  clear hg3 hb3 H2
  go_wp2_with fail
  refine (l1Below_any q a len cap zs i1 h1 7 _ H3.out.held.cur hlen (by omega) (by omega)).mono ?_
  rintro e w6 ⟨m, i6, h6, rfl, m0, m1, C6, g6⟩
  have H6 : Hid (LocQ w q a len cap zs i6 h6 w2.heap.size ep gr me la ts b l c F2 w6) := H3.out.next hq C6 g6
  obtain ⟨L, hL⟩ : ∃ L, L = w2.heap.size := ⟨_, rfl⟩
  rw [← hL] at H6 ⊢
  clear C6 g6 H3 hL
  go_wp2
  go_loopw [7] (fun i wr => ∃ (k : Nat) (ep gr me la : Int) (ts : Sp) (b : Option Addr) (l c : Nat) (F : List Nat) (i' h' : Int), (k : Int) ≤ m ∧ i = .int .i64 k ∧ Hid (LocQ w q a len cap zs i' h' L ep gr me la ts b l c F wr) ∧ Hid (ts.length ≤ k ∧ ∀ p ∈ ts, InB p)) (fun i _ => (m - intOf i).toNat)
  case atStart => exact ⟨0, ep, gr, me, la, ts, b, l, c, F2, i6, h6, by omega, rfl, H6, HS0⟩
  case round =>
    clear H6 HS0
    obtain ⟨k, ep, gr, me, la, ts, b, l, c, F, i7, h7, hk, rfl, HD, HS⟩ := hrel
    by_cases hlt : (k : Int) < m
    · have hcd : decide ((k : Int) < m) = true := decT hlt
      go_wp2
      obtain ⟨WD, hWD⟩ : ∃ W, W = wr.drew := ⟨_, rfl⟩
      have HDd0 := HD.out.drew
      rw [← hWD] at HDd0
      have HDd : Hid (LocQ w q a len cap zs i7 h7 L ep gr me la ts b l c F WD) := HDd0
      clear HDd0 HD
      refine wp_region_held (S := fun _ => True) (by kernel_rfl) ?_
      change wpAnyH _ _ _ _ _ _ _ _ (World.drew _)
      rw [← hWD]
      clear hWD
      refine takeH (o := ?o1) 1 (.int .i64 per) ?h1 ?r1
      case h1 => simp only [aT, aS, aZ]; rfl
      refine ⟨_, by simp [Act.put]; rfl, by kernel_rfl, by kernel_rfl, by kernel_rfl, fun _ _ _ h => h, (.inl ⟨rfl, fun W _ => by kernel_rfl⟩), trivial, ?_⟩
      refine takeH (o := ?o2) 2 (.pointer (some ⟨q, 0, none⟩)) ?h2 ?r2
      case h2 => simp only [aT, aS, aZ]; rfl
      refine ⟨_, by simp [Act.put]; rfl, by kernel_rfl, by kernel_rfl, by kernel_rfl, fun _ _ _ h => h, (.inl ⟨rfl, fun W _ => by kernel_rfl⟩), trivial, ?_⟩
      refine twoH (o := ?o3) (o' := ?p3) 0 3 (by kernel_rfl) ?h3 ?g3 ?r3 ?s3
      case h3 => simp only [aT, aZ]; rfl
      case g3 => simp only [aT, aS, aZ]; rfl
      case r3 =>
        intro K hK
        refine op_loadS 45 L #[.int .i64 ep, .int .i64 gr, .slice b l c, .int .i64 me, .int .i64 la] 45 _ HDd.out.loc rfl rfl rfl Tryz.underlying45 rfl infoSeI ⟨_, by simp [Act.put]; rfl, hK _ _ ⟨trivial, ?_⟩⟩
        clear hK
        refine onlyH (o := ?o4) 3 (by kernel_rfl) ?h4 ?r4
        case h4 => simp only [aT, aS, aZ]; rfl
        intro K hK
        refine op_callS2 28 _ _ _ Tryz.f28 (fun v w' => ∃ x i' h', v = .int .i64 x ∧ 0 ≤ x ∧ x < 12 ∧ Cur w' q a len cap zs i' h' ∧ WD.grownBy w' (some q)) rfl rfl Tryz.func28 (by kernel_rfl) (by kernel_rfl) ((l1Below_any q a len cap zs i7 h7 12 WD HDd.out.held.cur hlen (by omega) (by omega)).mono (by rintro e w' ⟨x, i', h', rfl, r⟩; exact ⟨_, rfl, x, i', h', rfl, r⟩)) ?_
        rintro v wb1 ⟨z, ib1, hb1, rfl, z0, z1, C9, g9⟩
        have HB1 : Hid (LocQ w q a len cap zs ib1 hb1 L ep gr me la ts b l c F wb1) := HDd.out.next hq C9 g9
        obtain ⟨zo, hzo⟩ : ∃ n, n = 1 + z := ⟨_, rfl⟩
        have hwz : IntKind.i64.wrap (1 + z) = zo := by rw [hzo]; exact wrapSe (by omega)
        clear C9 g9 HDd
        refine ⟨_, by simp [Act.put]; rfl, hK _ _ ⟨trivial, ?_⟩⟩
        clear hK
        refine takeH (o := ?o5) 4 (.int .i64 zo) ?h5 ?r5
        case h5 => simp only [aT, aS, aZ]; rfl
        refine ⟨_, by simp [Act.put]; rfl, by kernel_rfl, by kernel_rfl, by kernel_rfl, fun _ _ _ h => h, (.inl ⟨rfl, fun W _ => by first | (go_simp; done) | (go_simp; exact hwz)⟩), trivial, ?_⟩
        refine onlyH (o := ?o6) 5 (by kernel_rfl) ?h6 ?r6
        case h6 => simp only [aT, aS, aZ]; rfl
        intro K hK
        have hsl := HS.out.1
        refine op_callS4 14 _ _ _ _ _ Tryz.f14 (fun v w' => NewSeI wb1 ((Se.mk ep gr ts me la).data per 0 zo) (.returned v) w') rfl rfl Tryz.func14 (by kernel_rfl) (by kernel_rfl) ((seDataSpec_any _ ⟨ep, gr, ts, me, la⟩ per 0 zo F wb1 HB1.out.rd (by show ts.length ≤ _; omega)).mono (by intro e w' hh; have hh' := hh; obtain ⟨v, F', rfl, _⟩ := hh'; exact ⟨_, rfl, hh⟩)) ?_
        rintro v WE ⟨v9, F9, e9, r9, o9, b9⟩
        injection e9 with e9
        subst e9
        have HS9 : Hid (((Se.mk ep gr ts me la).data per 0 zo).1.taken.length ≤ (k + 1) ∧ ∀ p ∈ ((Se.mk ep gr ts me la).data per 0 zo).1.taken, InB p) := Se.data_small HS.out
        generalize ((Se.mk ep gr ts me la).data per 0 zo) = X at r9 HS9 ⊢
        obtain ⟨⟨ep', gr', us, me', la'⟩, cd⟩ := X
        obtain ⟨b', l', c', rfl, rp9, k9⟩ := r9
        have lL : L < wb1.heap.size := HB1.out.loc.lt
        have lw : w.heap.size < wb1.heap.size := HB1.out.held.res.lt
        have HN : Hid (RdP WE b' l' us F9 ∧ Capd b' l' c' ∧ Own (w.heap.size + 1) WE F9 ∧ L ∉ F9) := ⟨rp9, k9, o9.mono (by omega), fun hx => by have := o9.ge _ hx; omega⟩
        have HE : Hid (LocQ w q a len cap zs ib1 hb1 L ep gr me la ts b l c F WE) := HB1.out.below b9
        clear rp9 k9 o9 b9 lL lw HB1 hsl HS
        refine ⟨_, by simp [Act.put]; rfl, hK _ _ ⟨trivial, ?_⟩⟩
        clear hK
        refine takeH (o := ?o7) 6 (.tuple #[.agg #[.int .i64 ep', .int .i64 gr', .slice b' l' c', .int .i64 me', .int .i64 la'], .int .i64 cd]) ?h7 ?r7
        case h7 => simp only [aT, aS, aZ]; rfl
        refine ⟨_, by simp [Act.put]; rfl, by kernel_rfl, by kernel_rfl, by kernel_rfl, fun _ _ _ h => h, (.inl ⟨rfl, fun W _ => by kernel_rfl⟩), trivial, ?_⟩
        refine takeH (o := ?o8) 7 (.agg #[.int .i64 ep', .int .i64 gr', .slice b' l' c', .int .i64 me', .int .i64 la']) ?h8 ?r8
        case h8 => simp only [aT, aS, aZ]; rfl
        refine ⟨_, by simp [Act.put]; rfl, by kernel_rfl, by kernel_rfl, by kernel_rfl, fun _ _ _ h => h, (.inl ⟨rfl, fun W _ => by kernel_rfl⟩), trivial, ?_⟩
        refine takeH (o := ?o9) 8 (.int .i64 cd) ?h9 ?r9
        case h9 => simp only [aT, aS, aZ]; rfl
        refine ⟨_, by simp [Act.put]; rfl, by kernel_rfl, by kernel_rfl, by kernel_rfl, fun _ _ _ h => h, (.inl ⟨rfl, fun W _ => by kernel_rfl⟩), trivial, ?_⟩
        refine onlyH (o := ?o10) 9 (by kernel_rfl) ?h10 ?r10
        case h10 => simp only [aT, aS, aZ]; rfl
        intro K hK
        have HW : Hid (LocQ w q a len cap zs ib1 hb1 L ep' gr' me' la' us b' l' c' F9 (WE.setRow L #[.int .i64 ep', .int .i64 gr', .slice b' l' c', .int .i64 me', .int .i64 la'])) := HE.out.whole hq HA.out HN.out.1 HN.out.2.1 HN.out.2.2.1 HN.out.2.2.2
        refine op_store 45 L #[.int .i64 ep, .int .i64 gr, .slice b l c, .int .i64 me, .int .i64 la] #[.int .i64 ep', .int .i64 gr', .slice b' l' c', .int .i64 me', .int .i64 la'] 45 rfl rfl rfl rfl HE.out.loc infoSeI rfl (by simp [Value.oneCell']) ⟨_, by simp [Act.put]; rfl, hK _ _ ⟨trivial, ?_⟩⟩
        clear hK HE HN
        refine wpAnyH_done (by kernel_rfl) ?_ _
        obtain ⟨WA, hWA⟩ : ∃ W, W = (WE.setRow L #[.int .i64 ep', .int .i64 gr', .slice b' l' c', .int .i64 me', .int .i64 la']) := ⟨_, rfl⟩
        rw [← hWA] at HW ⊢
        clear hWA
        go_wp2_with fail
        refine (l1Once_any q a len cap zs ib1 hb1 3 _ HW.out.held.cur hlen (by omega) (by omega)).mono ?_
        rintro e wo ⟨d, io, ho, rfl, C9, g9⟩
        have HO : Hid (LocQ w q a len cap zs io ho L ep' gr' me' la' us b' l' c' F9 wo) := HW.out.next hq C9 g9
        clear C9 g9 HW
        cases d
        · go_wp2
          go_roundw
          case rel => exact ⟨k + 1, ep', gr', me', la', us, b', l', c', F9, io, ho, by omega, by go_num, HO, HS9⟩
          case measure => simp [intOf]; omega
        go_wp2_with (first | go_skip | (with_reducible refine stopLoad 45 rfl ?_) | (with_reducible refine stopStore 45 rfl ?_))
        refine load_known 45 L _ 45 _ HO.out.loc rfl rfl rfl Tryz.underlying45 rfl infoSeI ?_
        go_wp2_with fail
        have hsl := HS9.out.1
        refine (seMergeSpec_any _ ⟨ep', gr', us, me', la'⟩ per 1 F9 _ HO.out.rd (by show us.length ≤ _; have e : us.length ≤ k + 1 := hsl; omega)).mono ?_
        rintro e wm ⟨vm, Fm, rfl, rm, om, bm⟩
        have HSM : Hid (((Se.mk ep' gr' us me' la').merge per 1).1.taken.length ≤ (k + 1) ∧ ∀ p ∈ ((Se.mk ep' gr' us me' la').merge per 1).1.taken, InB p) := by show _ ∧ _; rw [Se.merge_taken]; exact HS9.out
        generalize ((Se.mk ep' gr' us me' la').merge per 1) = X at rm HSM ⊢
        obtain ⟨⟨em, gm, tm, mm, lm⟩, dm⟩ := X
        obtain ⟨pm, nm, km, rfl, rpm, cpm⟩ := rm
        have lL : L < wo.heap.size := HO.out.loc.lt
        have lw : w.heap.size < wo.heap.size := HO.out.held.res.lt
        have HN : Hid (RdP wm pm nm tm Fm ∧ Capd pm nm km ∧ Own (w.heap.size + 1) wm Fm ∧ L ∉ Fm) := ⟨rpm, cpm, om.mono (by omega), fun hx => by have := om.ge _ hx; omega⟩
        have HE : Hid (LocQ w q a len cap zs io ho L ep' gr' me' la' us b' l' c' F9 wm) := HO.out.below bm
        clear rpm cpm om bm lL lw HO hsl HS9
        go_wp2_with (first | go_skip | (with_reducible refine stopLoad 45 rfl ?_) | (with_reducible refine stopStore 45 rfl ?_))
        refine store_known 45 L _ #[.int .i64 em, .int .i64 gm, .slice pm nm km, .int .i64 mm, .int .i64 lm] 45 HE.out.loc rfl rfl rfl rfl infoSeI rfl (by simp [Value.oneCell']) ?_
        have HW : Hid (LocQ w q a len cap zs io ho L em gm mm lm tm pm nm km Fm (wm.setRow L #[.int .i64 em, .int .i64 gm, .slice pm nm km, .int .i64 mm, .int .i64 lm])) := HE.out.whole hq HA.out HN.out.1 HN.out.2.1 HN.out.2.2.1 HN.out.2.2.2
        obtain ⟨WM, hWM⟩ : ∃ W, W = (wm.setRow L #[.int .i64 em, .int .i64 gm, .slice pm nm km, .int .i64 mm, .int .i64 lm]) := ⟨_, rfl⟩
        rw [← hWM] at HW ⊢
        clear hWM HE HN
        go_wp2_with (first | go_skip | (with_reducible refine stopLoad 45 rfl ?_) | (with_reducible refine stopStore 45 rfl ?_))
        refine load_known 45 L _ 45 _ HW.out.loc rfl rfl rfl Tryz.underlying45 rfl infoSeI ?_
        go_wp2_with fail
        have hsl := HSM.out.1
        refine (seGrantSpec_any _ ⟨em, gm, tm, mm, lm⟩ per Fm _ HW.out.rd (by show tm.length ≤ _; have e : tm.length ≤ k + 1 := hsl; omega)).mono ?_
        rintro e wg ⟨vg, Fg, rfl, rg, og, bg⟩
        have HSG : Hid (((Se.mk em gm tm mm lm).grant per).taken.length ≤ (k + 1) ∧ ∀ p ∈ ((Se.mk em gm tm mm lm).grant per).taken, InB p) := by show _ ∧ _; rw [Se.grant_taken]; exact HSM.out
        generalize ((Se.mk em gm tm mm lm).grant per) = X at rg HSG ⊢
        obtain ⟨eg, gg, tg, mg, lg⟩ := X
        obtain ⟨pg, ng, kg, rfl, rpg, cpg⟩ := rg
        have lL : L < WM.heap.size := HW.out.loc.lt
        have lw : w.heap.size < WM.heap.size := HW.out.held.res.lt
        have HN : Hid (RdP wg pg ng tg Fg ∧ Capd pg ng kg ∧ Own (w.heap.size + 1) wg Fg ∧ L ∉ Fg) := ⟨rpg, cpg, og.mono (by omega), fun hx => by have := og.ge _ hx; omega⟩
        have HE : Hid (LocQ w q a len cap zs io ho L em gm mm lm tm pm nm km Fm wg) := HW.out.below bg
        clear rpg cpg og bg lL lw HW hsl HSM
        go_wp2_with (first | go_skip | (with_reducible refine stopLoad 45 rfl ?_) | (with_reducible refine stopStore 45 rfl ?_))
        refine store_known 45 L _ #[.int .i64 eg, .int .i64 gg, .slice pg ng kg, .int .i64 mg, .int .i64 lg] 45 HE.out.loc rfl rfl rfl rfl infoSeI rfl (by simp [Value.oneCell']) ?_
        have HZ : Hid (LocQ w q a len cap zs io ho L eg gg mg lg tg pg ng kg Fg (wg.setRow L #[.int .i64 eg, .int .i64 gg, .slice pg ng kg, .int .i64 mg, .int .i64 lg])) := HE.out.whole hq HA.out HN.out.1 HN.out.2.1 HN.out.2.2.1 HN.out.2.2.2
        obtain ⟨WG, hWG⟩ : ∃ W, W = (wg.setRow L #[.int .i64 eg, .int .i64 gg, .slice pg ng kg, .int .i64 mg, .int .i64 lg]) := ⟨_, rfl⟩
        rw [← hWG] at HZ ⊢
        clear hWG HE HN
        go_wp2
        go_roundw
        case rel => exact ⟨k + 1, eg, gg, mg, lg, tg, pg, ng, kg, Fg, io, ho, by omega, by go_num, HZ, HSG⟩
        case measure => simp [intOf]; omega
      case s3 =>
        intro K hK
        refine op_callS2 28 _ _ _ Tryz.f28 (fun v w' => ∃ x i' h', v = .int .i64 x ∧ 0 ≤ x ∧ x < 12 ∧ Cur w' q a len cap zs i' h' ∧ WD.grownBy w' (some q)) rfl rfl Tryz.func28 (by kernel_rfl) (by kernel_rfl) ((l1Below_any q a len cap zs i7 h7 12 WD HDd.out.held.cur hlen (by omega) (by omega)).mono (by rintro e w' ⟨x, i', h', rfl, r⟩; exact ⟨_, rfl, x, i', h', rfl, r⟩)) ?_
        rintro v wb2 ⟨z, ib2, hb2, rfl, z0, z1, C9, g9⟩
        have HB2 : Hid (LocQ w q a len cap zs ib2 hb2 L ep gr me la ts b l c F wb2) := HDd.out.next hq C9 g9
        obtain ⟨zo, hzo⟩ : ∃ n, n = 1 + z := ⟨_, rfl⟩
        have hwz : IntKind.i64.wrap (1 + z) = zo := by rw [hzo]; exact wrapSe (by omega)
        clear C9 g9 HDd
        refine ⟨_, by simp [Act.put]; rfl, hK _ _ ⟨trivial, ?_⟩⟩
        clear hK
        refine takeH (o := ?o11) 4 (.int .i64 zo) ?h11 ?r11
        case h11 => simp only [aT, aS, aZ]; rfl
        refine ⟨_, by simp [Act.put]; rfl, by kernel_rfl, by kernel_rfl, by kernel_rfl, fun _ _ _ h => h, (.inl ⟨rfl, fun W _ => by first | (go_simp; done) | (go_simp; exact hwz)⟩), trivial, ?_⟩
        refine onlyH (o := ?o12) 0 (by kernel_rfl) ?h12 ?r12
        case h12 => simp only [aT, aZ]; rfl
        intro K hK
        refine op_loadS 45 L #[.int .i64 ep, .int .i64 gr, .slice b l c, .int .i64 me, .int .i64 la] 45 _ HB2.out.loc rfl rfl rfl Tryz.underlying45 rfl infoSeI ⟨_, by simp [Act.put]; rfl, hK _ _ ⟨trivial, ?_⟩⟩
        clear hK
        refine onlyH (o := ?o13) 5 (by kernel_rfl) ?h13 ?r13
        case h13 => simp only [aT, aS, aZ]; rfl
        intro K hK
        have hsl := HS.out.1
        refine op_callS4 14 _ _ _ _ _ Tryz.f14 (fun v w' => NewSeI wb2 ((Se.mk ep gr ts me la).data per 0 zo) (.returned v) w') rfl rfl Tryz.func14 (by kernel_rfl) (by kernel_rfl) ((seDataSpec_any _ ⟨ep, gr, ts, me, la⟩ per 0 zo F wb2 HB2.out.rd (by show ts.length ≤ _; omega)).mono (by intro e w' hh; have hh' := hh; obtain ⟨v, F', rfl, _⟩ := hh'; exact ⟨_, rfl, hh⟩)) ?_
        rintro v WE ⟨v9, F9, e9, r9, o9, b9⟩
        injection e9 with e9
        subst e9
        have HS9 : Hid (((Se.mk ep gr ts me la).data per 0 zo).1.taken.length ≤ (k + 1) ∧ ∀ p ∈ ((Se.mk ep gr ts me la).data per 0 zo).1.taken, InB p) := Se.data_small HS.out
        generalize ((Se.mk ep gr ts me la).data per 0 zo) = X at r9 HS9 ⊢
        obtain ⟨⟨ep', gr', us, me', la'⟩, cd⟩ := X
        obtain ⟨b', l', c', rfl, rp9, k9⟩ := r9
        have lL : L < wb2.heap.size := HB2.out.loc.lt
        have lw : w.heap.size < wb2.heap.size := HB2.out.held.res.lt
        have HN : Hid (RdP WE b' l' us F9 ∧ Capd b' l' c' ∧ Own (w.heap.size + 1) WE F9 ∧ L ∉ F9) := ⟨rp9, k9, o9.mono (by omega), fun hx => by have := o9.ge _ hx; omega⟩
        have HE : Hid (LocQ w q a len cap zs ib2 hb2 L ep gr me la ts b l c F WE) := HB2.out.below b9
        clear rp9 k9 o9 b9 lL lw HB2 hsl HS
        refine ⟨_, by simp [Act.put]; rfl, hK _ _ ⟨trivial, ?_⟩⟩
        clear hK
        refine takeH (o := ?o14) 6 (.tuple #[.agg #[.int .i64 ep', .int .i64 gr', .slice b' l' c', .int .i64 me', .int .i64 la'], .int .i64 cd]) ?h14 ?r14
        case h14 => simp only [aT, aS, aZ]; rfl
        refine ⟨_, by simp [Act.put]; rfl, by kernel_rfl, by kernel_rfl, by kernel_rfl, fun _ _ _ h => h, (.inl ⟨rfl, fun W _ => by kernel_rfl⟩), trivial, ?_⟩
        refine takeH (o := ?o15) 7 (.agg #[.int .i64 ep', .int .i64 gr', .slice b' l' c', .int .i64 me', .int .i64 la']) ?h15 ?r15
        case h15 => simp only [aT, aS, aZ]; rfl
        refine ⟨_, by simp [Act.put]; rfl, by kernel_rfl, by kernel_rfl, by kernel_rfl, fun _ _ _ h => h, (.inl ⟨rfl, fun W _ => by kernel_rfl⟩), trivial, ?_⟩
        refine takeH (o := ?o16) 8 (.int .i64 cd) ?h16 ?r16
        case h16 => simp only [aT, aS, aZ]; rfl
        refine ⟨_, by simp [Act.put]; rfl, by kernel_rfl, by kernel_rfl, by kernel_rfl, fun _ _ _ h => h, (.inl ⟨rfl, fun W _ => by kernel_rfl⟩), trivial, ?_⟩
        refine onlyH (o := ?o17) 9 (by kernel_rfl) ?h17 ?r17
        case h17 => simp only [aT, aS, aZ]; rfl
        intro K hK
        have HW : Hid (LocQ w q a len cap zs ib2 hb2 L ep' gr' me' la' us b' l' c' F9 (WE.setRow L #[.int .i64 ep', .int .i64 gr', .slice b' l' c', .int .i64 me', .int .i64 la'])) := HE.out.whole hq HA.out HN.out.1 HN.out.2.1 HN.out.2.2.1 HN.out.2.2.2
        refine op_store 45 L #[.int .i64 ep, .int .i64 gr, .slice b l c, .int .i64 me, .int .i64 la] #[.int .i64 ep', .int .i64 gr', .slice b' l' c', .int .i64 me', .int .i64 la'] 45 rfl rfl rfl rfl HE.out.loc infoSeI rfl (by simp [Value.oneCell']) ⟨_, by simp [Act.put]; rfl, hK _ _ ⟨trivial, ?_⟩⟩
        clear hK HE HN
        refine wpAnyH_done (by kernel_rfl) ?_ _
        obtain ⟨WA, hWA⟩ : ∃ W, W = (WE.setRow L #[.int .i64 ep', .int .i64 gr', .slice b' l' c', .int .i64 me', .int .i64 la']) := ⟨_, rfl⟩
        rw [← hWA] at HW ⊢
        clear hWA
        go_wp2_with fail
        refine (l1Once_any q a len cap zs ib2 hb2 3 _ HW.out.held.cur hlen (by omega) (by omega)).mono ?_
        rintro e wo ⟨d, io, ho, rfl, C9, g9⟩
        have HO : Hid (LocQ w q a len cap zs io ho L ep' gr' me' la' us b' l' c' F9 wo) := HW.out.next hq C9 g9
        clear C9 g9 HW
        cases d
        · go_wp2
          go_roundw
          case rel => exact ⟨k + 1, ep', gr', me', la', us, b', l', c', F9, io, ho, by omega, by go_num, HO, HS9⟩
          case measure => simp [intOf]; omega
        go_wp2_with (first | go_skip | (with_reducible refine stopLoad 45 rfl ?_) | (with_reducible refine stopStore 45 rfl ?_))
        refine load_known 45 L _ 45 _ HO.out.loc rfl rfl rfl Tryz.underlying45 rfl infoSeI ?_
        go_wp2_with fail
        have hsl := HS9.out.1
        refine (seMergeSpec_any _ ⟨ep', gr', us, me', la'⟩ per 1 F9 _ HO.out.rd (by show us.length ≤ _; have e : us.length ≤ k + 1 := hsl; omega)).mono ?_
        rintro e wm ⟨vm, Fm, rfl, rm, om, bm⟩
        have HSM : Hid (((Se.mk ep' gr' us me' la').merge per 1).1.taken.length ≤ (k + 1) ∧ ∀ p ∈ ((Se.mk ep' gr' us me' la').merge per 1).1.taken, InB p) := by show _ ∧ _; rw [Se.merge_taken]; exact HS9.out
        generalize ((Se.mk ep' gr' us me' la').merge per 1) = X at rm HSM ⊢
        obtain ⟨⟨em, gm, tm, mm, lm⟩, dm⟩ := X
        obtain ⟨pm, nm, km, rfl, rpm, cpm⟩ := rm
        have lL : L < wo.heap.size := HO.out.loc.lt
        have lw : w.heap.size < wo.heap.size := HO.out.held.res.lt
        have HN : Hid (RdP wm pm nm tm Fm ∧ Capd pm nm km ∧ Own (w.heap.size + 1) wm Fm ∧ L ∉ Fm) := ⟨rpm, cpm, om.mono (by omega), fun hx => by have := om.ge _ hx; omega⟩
        have HE : Hid (LocQ w q a len cap zs io ho L ep' gr' me' la' us b' l' c' F9 wm) := HO.out.below bm
        clear rpm cpm om bm lL lw HO hsl HS9
        go_wp2_with (first | go_skip | (with_reducible refine stopLoad 45 rfl ?_) | (with_reducible refine stopStore 45 rfl ?_))
        refine store_known 45 L _ #[.int .i64 em, .int .i64 gm, .slice pm nm km, .int .i64 mm, .int .i64 lm] 45 HE.out.loc rfl rfl rfl rfl infoSeI rfl (by simp [Value.oneCell']) ?_
        have HW : Hid (LocQ w q a len cap zs io ho L em gm mm lm tm pm nm km Fm (wm.setRow L #[.int .i64 em, .int .i64 gm, .slice pm nm km, .int .i64 mm, .int .i64 lm])) := HE.out.whole hq HA.out HN.out.1 HN.out.2.1 HN.out.2.2.1 HN.out.2.2.2
        obtain ⟨WM, hWM⟩ : ∃ W, W = (wm.setRow L #[.int .i64 em, .int .i64 gm, .slice pm nm km, .int .i64 mm, .int .i64 lm]) := ⟨_, rfl⟩
        rw [← hWM] at HW ⊢
        clear hWM HE HN
        go_wp2_with (first | go_skip | (with_reducible refine stopLoad 45 rfl ?_) | (with_reducible refine stopStore 45 rfl ?_))
        refine load_known 45 L _ 45 _ HW.out.loc rfl rfl rfl Tryz.underlying45 rfl infoSeI ?_
        go_wp2_with fail
        have hsl := HSM.out.1
        refine (seGrantSpec_any _ ⟨em, gm, tm, mm, lm⟩ per Fm _ HW.out.rd (by show tm.length ≤ _; have e : tm.length ≤ k + 1 := hsl; omega)).mono ?_
        rintro e wg ⟨vg, Fg, rfl, rg, og, bg⟩
        have HSG : Hid (((Se.mk em gm tm mm lm).grant per).taken.length ≤ (k + 1) ∧ ∀ p ∈ ((Se.mk em gm tm mm lm).grant per).taken, InB p) := by show _ ∧ _; rw [Se.grant_taken]; exact HSM.out
        generalize ((Se.mk em gm tm mm lm).grant per) = X at rg HSG ⊢
        obtain ⟨eg, gg, tg, mg, lg⟩ := X
        obtain ⟨pg, ng, kg, rfl, rpg, cpg⟩ := rg
        have lL : L < WM.heap.size := HW.out.loc.lt
        have lw : w.heap.size < WM.heap.size := HW.out.held.res.lt
        have HN : Hid (RdP wg pg ng tg Fg ∧ Capd pg ng kg ∧ Own (w.heap.size + 1) wg Fg ∧ L ∉ Fg) := ⟨rpg, cpg, og.mono (by omega), fun hx => by have := og.ge _ hx; omega⟩
        have HE : Hid (LocQ w q a len cap zs io ho L em gm mm lm tm pm nm km Fm wg) := HW.out.below bg
        clear rpg cpg og bg lL lw HW hsl HSM
        go_wp2_with (first | go_skip | (with_reducible refine stopLoad 45 rfl ?_) | (with_reducible refine stopStore 45 rfl ?_))
        refine store_known 45 L _ #[.int .i64 eg, .int .i64 gg, .slice pg ng kg, .int .i64 mg, .int .i64 lg] 45 HE.out.loc rfl rfl rfl rfl infoSeI rfl (by simp [Value.oneCell']) ?_
        have HZ : Hid (LocQ w q a len cap zs io ho L eg gg mg lg tg pg ng kg Fg (wg.setRow L #[.int .i64 eg, .int .i64 gg, .slice pg ng kg, .int .i64 mg, .int .i64 lg])) := HE.out.whole hq HA.out HN.out.1 HN.out.2.1 HN.out.2.2.1 HN.out.2.2.2
        obtain ⟨WG, hWG⟩ : ∃ W, W = (wg.setRow L #[.int .i64 eg, .int .i64 gg, .slice pg ng kg, .int .i64 mg, .int .i64 lg]) := ⟨_, rfl⟩
        rw [← hWG] at HZ ⊢
        clear hWG HE HN
        go_wp2
        go_roundw
        case rel => exact ⟨k + 1, eg, gg, mg, lg, tg, pg, ng, kg, Fg, io, ho, by omega, by go_num, HZ, HSG⟩
        case measure => simp [intOf]; omega
    · have hkm : (k : Int) = m := by omega
      have hcd : decide ((k : Int) < m) = false := decF hlt
      go_wp2_with fail
      refine (l1Below_any q a len cap zs i7 h7 3 _ HD.out.held.cur hlen (by omega) (by omega)).mono ?_
      rintro e w10 ⟨x10, i10, h10, rfl, _, _, C10, g10⟩
      have HD10 : Hid (LocQ w q a len cap zs i10 h10 L ep gr me la ts b l c F w10) := HD.out.next hq C10 g10
      clear C10 g10 HD
      have c1' := HD10.out.loc.cell 0
      have fz1 := HD10.out.loc.frozen 0
      simp only [aT, aZ] at c1'
      go_wp2_with (first | go_skip | (with_reducible refine stopLoad 45 rfl ?_) | (with_reducible refine stopStore 45 rfl ?_))
      have HE : Hid (LocQ w q a len cap zs i10 h10 L x10 gr me la ts b l c F (w10.setCell ⟨L, 0, none⟩ (.int .i64 x10))) := HD10.out.set hq HA.out 0 (.int .i64 x10) rfl
      obtain ⟨WE, hWE⟩ : ∃ W, W = w10.setCell ⟨L, 0, none⟩ (.int .i64 x10) := ⟨_, rfl⟩
      rw [← hWE] at HE ⊢
      clear hWE HD10 c1' fz1
      refine load_known 45 L _ 45 _ HE.out.loc rfl rfl rfl Tryz.underlying45 rfl infoSeI ?_
      go_wp2_with (first | go_skip | (with_reducible refine stopLoad 45 rfl ?_) | (with_reducible refine stopStore 45 rfl ?_))
      refine store_known 45 w.heap.size _ #[.int .i64 x10, .int .i64 gr, .slice b l c, .int .i64 me, .int .i64 la] 45 HE.out.held.res rfl rfl rfl rfl infoSeI rfl (by simp [Value.oneCell']) ?_
      go_wp2
      refine bodyPost_ret (results_cell_row Tryz.results81 _ _ w.heap.size _ _ (0, 0) _ rfl HE.out.held.res.setRow Tryz.underlying45 rfl infoSeI) rfl ?_
      have hz := HE.out.done hq HA.out
      exact ⟨_, ⟨x10, gr, ts, me, la⟩, F, i10, h10, rfl, hz.1, ⟨by show ts.length ≤ 6; have e : ts.length ≤ k := HS.out.1; omega, fit_of_inb HS.out.2⟩, hz.2.1, hz.2.2.1, hz.2.2.2⟩
set_option maxRecDepth 200000 in
set_option maxHeartbeats 8000000 in
theorem l9Draw_any (q : Nat) (a : Option Addr) (len cap : Nat) (zs : List Int) (i h : Int) (w : World) (C : Cur w q a len cap zs i h) (hlen : len ≤ 1048576) :
    Calls Tryz.prog 46 #[.pointer (some ⟨q, 0, none⟩)] w fun e w' => DrewSeI w q a len cap zs 8 e w' := by
  have hq : q < w.heap.size := World.block_lt_of_cell? _ _ C.c0
  have HA : Hid (∀ b, (∃ off, a = some ⟨b, off, none⟩ ∧ 0 < len) → b < w.heap.size) := cur_lt C
  have H0 : Hid (HeldR w q a len cap zs i h #[.int .i64 0, .int .i64 0, .slice none 0 0, .int .i64 0, .int .i64 0] 45 (w.alloc (.cells #[.int .i64 0, .int .i64 0, .slice none 0 0, .int .i64 0, .int .i64 0] 45))) := HeldR.made C _ _
  clear C
  go_enter Tryz.func46, Tryz.ntmps46
  go_wp2_with fail
  refine (l1Below_any q a len cap zs i h 8 _ H0.out.cur hlen (by omega) (by omega)).mono ?_
  rintro e w1 ⟨x1, i1, h1, rfl, p1, r1, C1, g1⟩
  have H1 : Hid (HeldR w q a len cap zs i1 h1 #[.int .i64 0, .int .i64 0, .slice none 0 0, .int .i64 0, .int .i64 0] 45 w1) := H0.out.next hq C1 g1
  clear C1 g1 H0
  go_wp2_with fail
  obtain ⟨per, hper⟩ : ∃ n, n = 1 + x1 := ⟨_, rfl⟩
  rw [← hper]
  clear hper
  refine (l9Right_any q a len cap zs i1 h1 per _ H1.out.cur hlen).mono ?_
  rintro e w2 ⟨v2, X, F, i2, h2, rfl, r2, s2, o2, C2, g2⟩
  obtain ⟨ep, gr, ts, me, la⟩ := X
  obtain ⟨b, l, c, rfl, rp2, k2⟩ := r2
  have H2 : Hid (HeldR w q a len cap zs i2 h2 #[.int .i64 0, .int .i64 0, .slice none 0 0, .int .i64 0, .int .i64 0] 45 w2 ∧ RdP w2 b l ts F ∧ Capd b l c ∧ Own w1.heap.size w2 F ∧ w.heap.size < w1.heap.size) := ⟨H1.out.next hq C2 g2, rp2, k2, o2, H1.out.res.lt⟩
  have HSM : Hid (ts.length ≤ 8 ∧ ts.fit) := ⟨by have e : ts.length ≤ 6 := s2.1; omega, s2.2⟩
  clear rp2 k2 o2 C2 g2 s2 H1
  go_wp2_with (first | go_skip | (with_reducible refine stopLoad 45 rfl ?_) | (with_reducible refine stopStore 45 rfl ?_))
  refine store_fresh 45 w2.heap.size rfl #[.int .i64 0, .int .i64 0, .slice none 0 0, .int .i64 0, .int .i64 0] #[.int .i64 ep, .int .i64 gr, .slice b l c, .int .i64 me, .int .i64 la] 45 rfl rfl rfl rfl infoSeI rfl (by simp [Value.oneCell']) ?_
  intro w3 hg3 hb3
  have H3 : Hid (LocQ w q a len cap zs i2 h2 w2.heap.size ep gr me la ts b l c F w3) := ⟨H2.out.1.below hb3, hg3, H2.out.2.1.below hb3, H2.out.2.2.1, (H2.out.2.2.2.1.below H2.out.2.1.lt hb3).mono (by have := H2.out.2.2.2.2; omega), fun hx => by have := H2.out.2.1.lt _ hx; omega, H2.out.1.res.lt⟩
  clear hg3 hb3 H2
  go_wp2_with fail
  refine (l1Below_any q a len cap zs i2 h2 14 _ H3.out.held.cur hlen (by omega) (by omega)).mono ?_
  rintro e w6 ⟨m, i6, h6, rfl, m0, m1, C6, g6⟩
  have H6 : Hid (LocQ w q a len cap zs i6 h6 w2.heap.size ep gr me la ts b l c F w6) := H3.out.next hq C6 g6
  obtain ⟨L, hL⟩ : ∃ L, L = w2.heap.size := ⟨_, rfl⟩
  rw [← hL] at H6 ⊢
  clear C6 g6 H3 hL
  by_cases hm0 : m = 0
  · subst hm0
    go_wp2_with fail
    have hqw : q < w6.heap.size := World.block_lt_of_cell? _ _ H6.out.held.cur.c0
    refine (pickInt_cur q w6.heap.size 4 a len cap zs i6 h6 [-1, 60, 61, 0] _ (H6.out.held.cur.alloc _) hlen (fun j hj => lit_ints w6 [-1, 60, 61, 0] _ j hj) (by omega) 4 rfl (by omega) (by omega)).mono ?_
    rintro e w7 ⟨y, i7, h7, hy, rfl, C7, g7⟩
    have H7 : Hid (LocQ w q a len cap zs i7 h7 L ep gr me la ts b l c F w7) := (H6.out.below ((Below.refl _ _).alloc (Nat.le_refl _) _)).next hq C7 g7
    clear C7 g7 H6 hqw hy
    have c1' := H7.out.loc.cell 1
    have fz1 := H7.out.loc.frozen 1
    simp only [aT, aS, aZ] at c1'
    go_wp2_with (first | go_skip | (with_reducible refine stopLoad 45 rfl ?_) | (with_reducible refine stopStore 45 rfl ?_))
    have HE : Hid (LocQ w q a len cap zs i7 h7 L ep y me la ts b l c F (w7.setCell ⟨L, 1, none⟩ (.int .i64 y))) := H7.out.set hq HA.out 1 (.int .i64 y) rfl
    obtain ⟨WE, hWE⟩ : ∃ W, W = w7.setCell ⟨L, 1, none⟩ (.int .i64 y) := ⟨_, rfl⟩
    rw [← hWE] at HE ⊢
    clear hWE H7 c1' fz1
    refine load_known 45 L _ 45 _ HE.out.loc rfl rfl rfl Tryz.underlying45 rfl infoSeI ?_
    go_wp2_with (first | go_skip | (with_reducible refine stopLoad 45 rfl ?_) | (with_reducible refine stopStore 45 rfl ?_))
    refine store_known 45 w.heap.size _ #[.int .i64 ep, .int .i64 y, .slice b l c, .int .i64 me, .int .i64 la] 45 HE.out.held.res rfl rfl rfl rfl infoSeI rfl (by simp [Value.oneCell']) ?_
    go_wp2
    refine bodyPost_ret (results_row_tmp Tryz.results46 _ _ w.heap.size _ _ _ _ rfl HE.out.held.res.setRow Tryz.underlying45 rfl infoSeI) rfl ?_
    have hz := HE.out.done hq HA.out
    exact ⟨_, ⟨ep, y, ts, me, la⟩, per, F, i7, h7, rfl, hz.1, HSM.out, hz.2.1, hz.2.2.1, hz.2.2.2⟩
  have em0 : (m == 0) = false := by simpa using hm0
  by_cases hm1 : m = 1
  · subst hm1
    go_wp2_with fail
    refine (l5Draw_any q a len cap zs i6 h6 _ H6.out.held.cur hlen).mono ?_
    rintro e w7 ⟨v7, us, rfl, D7, hl7, hne7, hf7⟩
    obtain ⟨i7, h7, C7⟩ := D7.cur
    have H7 : Hid (LocQ w q a len cap zs i7 h7 L ep gr me la ts b l c F w7) := H6.out.next hq C7 D7.grown
    obtain ⟨e7, k7, X7, rfl, r7, o7, cp7⟩ := rdP_of_own D7.own
    have HR7 : Hid (RdP w7 e7 us.length us X7 ∧ Capd e7 us.length k7 ∧ Own (w.heap.size + 1) w7 X7 ∧ L ∉ X7) := ⟨r7, cp7, o7.mono (by have := H6.out.held.res.lt; omega), fun hx => by have h1 := o7.ge _ hx; have h2 := H6.out.loc.lt; omega⟩
    have HSM : Hid (us.length ≤ 8 ∧ us.fit) := ⟨hl7, hf7⟩
    clear C7 r7 o7 cp7 D7 H6 hne7 hf7
    have c1' := H7.out.loc.cell 2
    have fz1 := H7.out.loc.frozen 2
    simp only [aT, aS, aZ] at c1'
    go_wp2_with (first | go_skip | (with_reducible refine stopLoad 45 rfl ?_) | (with_reducible refine stopStore 45 rfl ?_))
    have HE : Hid (LocQ w q a len cap zs i7 h7 L ep gr me la us e7 us.length k7 X7 (w7.setCell ⟨L, 2, none⟩ (.slice e7 us.length k7))) := H7.out.put hq HA.out HR7.out.1 HR7.out.2.1 HR7.out.2.2.1 HR7.out.2.2.2
    obtain ⟨WE, hWE⟩ : ∃ W, W = w7.setCell ⟨L, 2, none⟩ (.slice e7 us.length k7) := ⟨_, rfl⟩
    rw [← hWE] at HE ⊢
    clear hWE H7 c1' fz1 HR7
    refine load_known 45 L _ 45 _ HE.out.loc rfl rfl rfl Tryz.underlying45 rfl infoSeI ?_
    go_wp2_with (first | go_skip | (with_reducible refine stopLoad 45 rfl ?_) | (with_reducible refine stopStore 45 rfl ?_))
    refine store_known 45 w.heap.size _ #[.int .i64 ep, .int .i64 gr, .slice e7 us.length k7, .int .i64 me, .int .i64 la] 45 HE.out.held.res rfl rfl rfl rfl infoSeI rfl (by simp [Value.oneCell']) ?_
    go_wp2
    refine bodyPost_ret (results_row_tmp Tryz.results46 _ _ w.heap.size _ _ _ _ rfl HE.out.held.res.setRow Tryz.underlying45 rfl infoSeI) rfl ?_
    have hz := HE.out.done hq HA.out
    exact ⟨_, ⟨ep, gr, us, me, la⟩, per, X7, i7, h7, rfl, hz.1, HSM.out, hz.2.1, hz.2.2.1, hz.2.2.2⟩
  have em1 : (m == 1) = false := by simpa using hm1
  by_cases hm2 : m = 2
  · subst hm2
    go_wp2_with fail
    have hqw : q < w6.heap.size := World.block_lt_of_cell? _ _ H6.out.held.cur.c0
    refine (pickInt_cur q w6.heap.size 4 a len cap zs i6 h6 [-1, 1, 9, 9223372036854775807] _ (H6.out.held.cur.alloc _) hlen (fun j hj => lit_ints w6 [-1, 1, 9, 9223372036854775807] _ j hj) (by omega) 4 rfl (by omega) (by omega)).mono ?_
    rintro e w7 ⟨y, i7, h7, hy, rfl, C7, g7⟩
    have H7 : Hid (LocQ w q a len cap zs i7 h7 L ep gr me la ts b l c F w7) := (H6.out.below ((Below.refl _ _).alloc (Nat.le_refl _) _)).next hq C7 g7
    clear C7 g7 H6 hqw hy
    have c1' := H7.out.loc.cell 3
    have fz1 := H7.out.loc.frozen 3
    simp only [aT, aS, aZ] at c1'
    go_wp2_with (first | go_skip | (with_reducible refine stopLoad 45 rfl ?_) | (with_reducible refine stopStore 45 rfl ?_))
    have HE : Hid (LocQ w q a len cap zs i7 h7 L ep gr y la ts b l c F (w7.setCell ⟨L, 3, none⟩ (.int .i64 y))) := H7.out.set hq HA.out 3 (.int .i64 y) rfl
    obtain ⟨WE, hWE⟩ : ∃ W, W = w7.setCell ⟨L, 3, none⟩ (.int .i64 y) := ⟨_, rfl⟩
    rw [← hWE] at HE ⊢
    clear hWE H7 c1' fz1
    refine load_known 45 L _ 45 _ HE.out.loc rfl rfl rfl Tryz.underlying45 rfl infoSeI ?_
    go_wp2_with (first | go_skip | (with_reducible refine stopLoad 45 rfl ?_) | (with_reducible refine stopStore 45 rfl ?_))
    refine store_known 45 w.heap.size _ #[.int .i64 ep, .int .i64 gr, .slice b l c, .int .i64 y, .int .i64 la] 45 HE.out.held.res rfl rfl rfl rfl infoSeI rfl (by simp [Value.oneCell']) ?_
    go_wp2
    refine bodyPost_ret (results_row_tmp Tryz.results46 _ _ w.heap.size _ _ _ _ rfl HE.out.held.res.setRow Tryz.underlying45 rfl infoSeI) rfl ?_
    have hz := HE.out.done hq HA.out
    exact ⟨_, ⟨ep, gr, ts, y, la⟩, per, F, i7, h7, rfl, hz.1, HSM.out, hz.2.1, hz.2.2.1, hz.2.2.2⟩
  have em2 : (m == 2) = false := by simpa using hm2
  by_cases hm3 : m = 3
  · subst hm3
    go_wp2_with fail
    have hqw : q < w6.heap.size := World.block_lt_of_cell? _ _ H6.out.held.cur.c0
    refine (pickInt_cur q w6.heap.size 3 a len cap zs i6 h6 [-1, 1000, 1001] _ (H6.out.held.cur.alloc _) hlen (fun j hj => lit_ints w6 [-1, 1000, 1001] _ j hj) (by omega) 3 rfl (by omega) (by omega)).mono ?_
    rintro e w7 ⟨y, i7, h7, hy, rfl, C7, g7⟩
    have H7 : Hid (LocQ w q a len cap zs i7 h7 L ep gr me la ts b l c F w7) := (H6.out.below ((Below.refl _ _).alloc (Nat.le_refl _) _)).next hq C7 g7
    clear C7 g7 H6 hqw hy
    have c1' := H7.out.loc.cell 0
    have fz1 := H7.out.loc.frozen 0
    simp only [aT, aZ] at c1'
    go_wp2_with (first | go_skip | (with_reducible refine stopLoad 45 rfl ?_) | (with_reducible refine stopStore 45 rfl ?_))
    have HE : Hid (LocQ w q a len cap zs i7 h7 L y gr me la ts b l c F (w7.setCell ⟨L, 0, none⟩ (.int .i64 y))) := H7.out.set hq HA.out 0 (.int .i64 y) rfl
    obtain ⟨WE, hWE⟩ : ∃ W, W = w7.setCell ⟨L, 0, none⟩ (.int .i64 y) := ⟨_, rfl⟩
    rw [← hWE] at HE ⊢
    clear hWE H7 c1' fz1
    refine load_known 45 L _ 45 _ HE.out.loc rfl rfl rfl Tryz.underlying45 rfl infoSeI ?_
    go_wp2_with (first | go_skip | (with_reducible refine stopLoad 45 rfl ?_) | (with_reducible refine stopStore 45 rfl ?_))
    refine store_known 45 w.heap.size _ #[.int .i64 y, .int .i64 gr, .slice b l c, .int .i64 me, .int .i64 la] 45 HE.out.held.res rfl rfl rfl rfl infoSeI rfl (by simp [Value.oneCell']) ?_
    go_wp2
    refine bodyPost_ret (results_row_tmp Tryz.results46 _ _ w.heap.size _ _ _ _ rfl HE.out.held.res.setRow Tryz.underlying45 rfl infoSeI) rfl ?_
    have hz := HE.out.done hq HA.out
    exact ⟨_, ⟨y, gr, ts, me, la⟩, per, F, i7, h7, rfl, hz.1, HSM.out, hz.2.1, hz.2.2.1, hz.2.2.2⟩
  have em3 : (m == 3) = false := by simpa using hm3
  by_cases hm4 : m = 4
  · subst hm4
    go_wp2_with fail
    have hqw : q < w6.heap.size := World.block_lt_of_cell? _ _ H6.out.held.cur.c0
    refine (pickInt_cur q w6.heap.size 3 a len cap zs i6 h6 [0, 9, 1] _ (H6.out.held.cur.alloc _) hlen (fun j hj => lit_ints w6 [0, 9, 1] _ j hj) (by omega) 3 rfl (by omega) (by omega)).mono ?_
    rintro e w7 ⟨y, i7, h7, hy, rfl, C7, g7⟩
    have H7 : Hid (LocQ w q a len cap zs i7 h7 L ep gr me la ts b l c F w7) := (H6.out.below ((Below.refl _ _).alloc (Nat.le_refl _) _)).next hq C7 g7
    clear C7 g7 H6 hqw hy
    go_wp2_with (first | go_skip | (with_reducible refine stopLoad 45 rfl ?_) | (with_reducible refine stopStore 45 rfl ?_))
    refine load_known 45 L _ 45 _ H7.out.loc rfl rfl rfl Tryz.underlying45 rfl infoSeI ?_
    go_wp2_with (first | go_skip | (with_reducible refine stopLoad 45 rfl ?_) | (with_reducible refine stopStore 45 rfl ?_))
    refine store_known 45 w.heap.size _ #[.int .i64 ep, .int .i64 gr, .slice b l c, .int .i64 me, .int .i64 la] 45 H7.out.held.res rfl rfl rfl rfl infoSeI rfl (by simp [Value.oneCell']) ?_
    go_wp2
    refine bodyPost_ret (results_row_tmp Tryz.results46 _ _ w.heap.size _ _ _ _ rfl H7.out.held.res.setRow Tryz.underlying45 rfl infoSeI) rfl ?_
    have hz := H7.out.done hq HA.out
    exact ⟨_, ⟨ep, gr, ts, me, la⟩, y, F, i7, h7, rfl, hz.1, HSM.out, hz.2.1, hz.2.2.1, hz.2.2.2⟩
  have em4 : (m == 4) = false := by simpa using hm4
  clear hm0 hm1 hm2 hm3 hm4
  go_wp2_with (first | go_skip | (with_reducible refine stopLoad 45 rfl ?_) | (with_reducible refine stopStore 45 rfl ?_))
  refine load_known 45 L _ 45 _ H6.out.loc rfl rfl rfl Tryz.underlying45 rfl infoSeI ?_
  go_wp2_with (first | go_skip | (with_reducible refine stopLoad 45 rfl ?_) | (with_reducible refine stopStore 45 rfl ?_))
  refine store_known 45 w.heap.size _ #[.int .i64 ep, .int .i64 gr, .slice b l c, .int .i64 me, .int .i64 la] 45 H6.out.held.res rfl rfl rfl rfl infoSeI rfl (by simp [Value.oneCell']) ?_
  go_wp2
  refine bodyPost_ret (results_row_tmp Tryz.results46 _ _ w.heap.size _ _ _ _ rfl H6.out.held.res.setRow Tryz.underlying45 rfl infoSeI) rfl ?_
  have hz := H6.out.done hq HA.out
  exact ⟨_, ⟨ep, gr, ts, me, la⟩, per, F, i6, h6, rfl, hz.1, HSM.out, hz.2.1, hz.2.2.1, hz.2.2.2⟩
/-- A drawn seat in a variable at L of a drawing with a cursor of its own. -/
structure DrS (w : World) (q : Nat) (a : Option Addr) (len cap : Nat) (zs : List Int) (i h : Int) (L : Nat) (ep gr me la : Int) (ts : Sp) (b : Option Addr) (l c : Nat) (F : List Nat) (W : World) : Prop where
  res : Blk W w.heap.size #[.int .i64 0, .int .i64 0, .slice none 0 0, .int .i64 0, .int .i64 0] 45
  bel : Below w.heap.size w W
  loc : Blk W L #[.int .i64 ep, .int .i64 gr, .slice b l c, .int .i64 me, .int .i64 la] 45
  rp : RdP W b l ts F
  own : Own (w.heap.size + 1) W F
  cur : Cur W q a len cap zs i h
  ap : L ∉ F
  gq : w.heap.size < q
  ql : q < L
  fq : ∀ b ∈ F, ¬ b = q
theorem DrS.below {w W W' : World} {q : Nat} {a : Option Addr} {len cap : Nat} {zs : List Int} {i h : Int} {L : Nat} {ep gr me la : Int} {ts : Sp} {b : Option Addr} {l c : Nat} {F : List Nat} (H : DrS w q a len cap zs i h L ep gr me la ts b l c F W) (k : Below W.heap.size W W') : DrS w q a len cap zs i h L ep gr me la ts b l c F W' :=
  ⟨H.res.below k, Below.next H.bel k, H.loc.below k, H.rp.below k, H.own.below H.rp.lt k, H.cur.keep k, H.ap, H.gq, H.ql, H.fq⟩
theorem DrS.next {w W W' : World} {q : Nat} {a : Option Addr} {len cap : Nat} {zs : List Int} {i h i' h' : Int} {L : Nat} {ep gr me la : Int} {ts : Sp} {b : Option Addr} {l c : Nat} {F : List Nat} (H : DrS w q a len cap zs i h L ep gr me la ts b l c F W) (C : Cur W' q a len cap zs i' h') (g : W.grownBy W' (some q)) : DrS w q a len cap zs i' h' L ep gr me la ts b l c F W' := by
  have ag : Agree W W' F := fun x hx => g.block x (H.rp.lt x hx) (fun e => H.fq x hx (by simp at e; omega))
  have gq := H.gq; have ql := H.ql
  exact ⟨H.res.grown g (by omega), H.bel.grown g H.bel.size (fun k hk => by simp at hk; omega), H.loc.grown g (by omega), H.rp.agree ag, H.own.agree ag, C, H.ap, H.gq, H.ql, H.fq⟩
set_option maxRecDepth 200000 in
set_option maxHeartbeats 8000000 in
theorem drawSeatGrant_any (a : Option Addr) (len cap : Nat) (zs : List Int) (w : World) (hR : RdB w a len zs) (hlen : len ≤ 1048576) :
    Calls Tryz.prog 15 #[.slice a len cap] w fun e w' => ∃ v x per F, e = .returned (.tuple #[v, .int .i64 per]) ∧ RdSe w' v x F ∧ (x.taken.length ≤ 8 ∧ x.taken.fit) ∧ Own w.heap.size w' F ∧ Below w.heap.size w w' := by
  have HZ : Hid (Blk (w.alloc (.cells #[.int .i64 0, .int .i64 0, .slice none 0 0, .int .i64 0, .int .i64 0] 45)) w.heap.size #[.int .i64 0, .int .i64 0, .slice none 0 0, .int .i64 0, .int .i64 0] 45 ∧ Below w.heap.size w (w.alloc (.cells #[.int .i64 0, .int .i64 0, .slice none 0 0, .int .i64 0, .int .i64 0] 45))) := ⟨Blk.made _ _ _, (Below.refl _ _).alloc (Nat.le_refl _) _⟩
  have HR : Hid (RdB (w.alloc (.cells #[.int .i64 0, .int .i64 0, .slice none 0 0, .int .i64 0, .int .i64 0] 45)) a len zs) := hR.below HZ.out.2
  clear hR
  go_enter Tryz.func15, Tryz.ntmps15
  go_wp2_with fail
  obtain ⟨W0, hW0⟩ : ∃ W, W = w.alloc (.cells #[.int .i64 0, .int .i64 0, .slice none 0 0, .int .i64 0, .int .i64 0] 45) := ⟨_, rfl⟩
  rw [← hW0] at HZ HR ⊢
  clear hW0
  refine (l1New_any a len cap zs _ HR.out hlen).mono ?_
  rintro e w1 ⟨rfl, ⟨h, C1⟩, b1⟩
  have HZ1 : Hid (Blk w1 w.heap.size #[.int .i64 0, .int .i64 0, .slice none 0 0, .int .i64 0, .int .i64 0] 45 ∧ Below w.heap.size w w1 ∧ W0.heap.size < w1.heap.size ∧ w.heap.size < W0.heap.size) := ⟨HZ.out.1.below b1, Below.next HZ.out.2 b1, World.block_lt_of_cell? _ _ C1.c0, HZ.out.1.lt⟩
  obtain ⟨q, hqe⟩ : ∃ q, q = W0.heap.size := ⟨_, rfl⟩
  rw [← hqe] at C1 HZ1 ⊢
  have HC1 : Hid (Cur w1 q a len cap zs 0 h) := C1
  clear C1 b1 HZ HR hqe
  go_wp2_with fail
  refine (l9Draw_any q a len cap zs 0 h _ HC1.out hlen).mono ?_
  rintro e w2 ⟨v, X, per, F, i2, h2, rfl, r2, s2, o2, C2, g2⟩
  obtain ⟨ep, gr, ts, me, la⟩ := X
  obtain ⟨b, l, c, rfl, rp2, k2⟩ := r2
  have HZ2 : Hid (Blk w2 w.heap.size #[.int .i64 0, .int .i64 0, .slice none 0 0, .int .i64 0, .int .i64 0] 45 ∧ Below w.heap.size w w2 ∧ w.heap.size < q) := ⟨HZ1.out.1.grown g2 (by have := HZ1.out.2.2; omega), HZ1.out.2.1.grown g2 HZ1.out.2.1.size (fun k hk => by simp at hk; have := HZ1.out.2.2; omega), HZ1.out.2.2.2⟩
  have HX : Hid (RdP w2 b l ts F ∧ Capd b l c ∧ Own (w.heap.size + 1) w2 F ∧ (ts.length ≤ 8 ∧ ts.fit) ∧ ∀ b ∈ F, q < b) := ⟨rp2, k2, o2.mono (by have := HZ1.out.2.2; omega), s2, fun b hb => by have h1 := o2.ge b hb; have h2 := HZ1.out.2.2.1; omega⟩
  have HC2 : Hid (Cur w2 q a len cap zs i2 h2) := C2
  clear rp2 k2 o2 C2 g2 s2 HZ1 HC1
  go_wp2_with (first | go_skip | (with_reducible refine stopLoad 45 rfl ?_) | (with_reducible refine stopStore 45 rfl ?_))
  refine store_known 45 w.heap.size _ #[.int .i64 ep, .int .i64 gr, .slice b l c, .int .i64 me, .int .i64 la] 45 HZ2.out.1 rfl rfl rfl rfl infoSeI rfl (by simp [Value.oneCell']) ?_
  go_wp2
  refine bodyPost_ret (results_row_tmp Tryz.results15 _ _ w.heap.size _ _ _ _ rfl HZ2.out.1.setRow Tryz.underlying45 rfl infoSeI) rfl ?_
  have nF : w.heap.size ∉ F := fun hx => by have := HX.out.2.2.1.ge _ hx; omega
  exact ⟨_, ⟨ep, gr, ts, me, la⟩, per, F, rfl, ⟨b, l, c, rfl, HX.out.1.agree (Agree.row nF _), HX.out.2.1⟩, HX.out.2.2.2.1, (HX.out.2.2.1.agree (Agree.row nF _)).mono (by omega), below_setRow HZ2.out.2.1 (Nat.le_refl _) _⟩
set_option maxRecDepth 200000 in
set_option maxHeartbeats 8000000 in
theorem drawSeatData_any (a : Option Addr) (len cap : Nat) (zs : List Int) (w : World) (hR : RdB w a len zs) (hlen : len ≤ 1048576) :
    Calls Tryz.prog 12 #[.slice a len cap] w fun e w' => ∃ v x per ep sq F, e = .returned (.tuple #[v, .int .i64 per, .int .i64 ep, .int .i64 sq]) ∧ RdSe w' v x F ∧ (x.taken.length ≤ 8 ∧ x.taken.fit) ∧ Own w.heap.size w' F ∧ Below w.heap.size w w' := by
  have HZ : Hid (Blk (w.alloc (.cells #[.int .i64 0, .int .i64 0, .slice none 0 0, .int .i64 0, .int .i64 0] 45)) w.heap.size #[.int .i64 0, .int .i64 0, .slice none 0 0, .int .i64 0, .int .i64 0] 45 ∧ Below w.heap.size w (w.alloc (.cells #[.int .i64 0, .int .i64 0, .slice none 0 0, .int .i64 0, .int .i64 0] 45))) := ⟨Blk.made _ _ _, (Below.refl _ _).alloc (Nat.le_refl _) _⟩
  have HR : Hid (RdB (w.alloc (.cells #[.int .i64 0, .int .i64 0, .slice none 0 0, .int .i64 0, .int .i64 0] 45)) a len zs) := hR.below HZ.out.2
  clear hR
  go_enter Tryz.func12, Tryz.ntmps12
  go_wp2_with fail
  obtain ⟨W0, hW0⟩ : ∃ W, W = w.alloc (.cells #[.int .i64 0, .int .i64 0, .slice none 0 0, .int .i64 0, .int .i64 0] 45) := ⟨_, rfl⟩
  rw [← hW0] at HZ HR ⊢
  clear hW0
  refine (l1New_any a len cap zs _ HR.out hlen).mono ?_
  rintro e w1 ⟨rfl, ⟨h, C1⟩, b1⟩
  have HZ1 : Hid (Blk w1 w.heap.size #[.int .i64 0, .int .i64 0, .slice none 0 0, .int .i64 0, .int .i64 0] 45 ∧ Below w.heap.size w w1 ∧ W0.heap.size < w1.heap.size ∧ w.heap.size < W0.heap.size) := ⟨HZ.out.1.below b1, Below.next HZ.out.2 b1, World.block_lt_of_cell? _ _ C1.c0, HZ.out.1.lt⟩
  obtain ⟨q, hqe⟩ : ∃ q, q = W0.heap.size := ⟨_, rfl⟩
  rw [← hqe] at C1 HZ1 ⊢
  have HC1 : Hid (Cur w1 q a len cap zs 0 h) := C1
  clear C1 b1 HZ HR hqe
  go_wp2_with fail
  refine (l9Draw_any q a len cap zs 0 h _ HC1.out hlen).mono ?_
  rintro e w2 ⟨v, X, per, F, i2, h2, rfl, r2, s2, o2, C2, g2⟩
  obtain ⟨ep, gr, ts, me, la⟩ := X
  obtain ⟨b, l, c, rfl, rp2, k2⟩ := r2
  have HZ2 : Hid (Blk w2 w.heap.size #[.int .i64 0, .int .i64 0, .slice none 0 0, .int .i64 0, .int .i64 0] 45 ∧ Below w.heap.size w w2 ∧ w.heap.size < q) := ⟨HZ1.out.1.grown g2 (by have := HZ1.out.2.2; omega), HZ1.out.2.1.grown g2 HZ1.out.2.1.size (fun k hk => by simp at hk; have := HZ1.out.2.2; omega), HZ1.out.2.2.2⟩
  have HX : Hid (RdP w2 b l ts F ∧ Capd b l c ∧ Own (w.heap.size + 1) w2 F ∧ (ts.length ≤ 8 ∧ ts.fit) ∧ ∀ b ∈ F, q < b) := ⟨rp2, k2, o2.mono (by have := HZ1.out.2.2; omega), s2, fun b hb => by have h1 := o2.ge b hb; have h2 := HZ1.out.2.2.1; omega⟩
  have HC2 : Hid (Cur w2 q a len cap zs i2 h2) := C2
  clear rp2 k2 o2 C2 g2 s2 HZ1 HC1
  go_wp2_with (first | go_skip | (with_reducible refine stopLoad 45 rfl ?_) | (with_reducible refine stopStore 45 rfl ?_))
  refine store_fresh 45 w2.heap.size rfl #[.int .i64 0, .int .i64 0, .slice none 0 0, .int .i64 0, .int .i64 0] #[.int .i64 ep, .int .i64 gr, .slice b l c, .int .i64 me, .int .i64 la] 45 rfl rfl rfl rfl infoSeI rfl (by simp [Value.oneCell']) ?_
  intro w3 hg3 hb3
  have H3 : Hid (DrS w q a len cap zs i2 h2 w2.heap.size ep gr me la ts b l c F w3) := ⟨HZ2.out.1.below hb3, Below.next HZ2.out.2.1 hb3, hg3, HX.out.1.below hb3, HX.out.2.2.1.below HX.out.1.lt hb3, HC2.out.keep hb3, fun hx => by have := HX.out.1.lt _ hx; omega, HZ2.out.2.2, World.block_lt_of_cell? _ _ HC2.out.c0, fun b hb e => by have := HX.out.2.2.2.2 b hb; omega⟩
  obtain ⟨L, hL⟩ : ∃ L, L = w2.heap.size := ⟨_, rfl⟩
  rw [← hL] at H3 ⊢
  clear hg3 hb3 HC2 hL
  have c0 := H3.out.loc.cell 0
  simp only [aT, aZ] at c0
  go_wp2_with fail
  refine (l1Once_any q a len cap zs i2 h2 5 _ H3.out.cur hlen (by omega) (by omega)).mono ?_
  rintro e w4 ⟨d, i4, h4, rfl, C4, g4⟩
  have H4 : Hid (DrS w q a len cap zs i4 h4 L ep gr me la ts b l c F w4) := H3.out.next C4 g4
  clear C4 g4 H3 c0
  cases d
  · go_wp2_with fail
    obtain ⟨WD, hWD⟩ : ∃ W, W = w4.drew := ⟨_, rfl⟩
    have HD : Hid (DrS w q a len cap zs i4 h4 L ep gr me la ts b l c F WD) := by rw [hWD]; exact H4.out.below (Below.refl _ _).drew
    clear H4
    refine wp_region_held (S := fun W => Blk W L #[.int .i64 ep, .int .i64 gr, .slice b l c, .int .i64 me, .int .i64 la] 45) (by kernel_rfl) ?_
    change wpAnyH _ _ _ _ _ _ _ _ (World.drew _)
    rw [← hWD]
    clear hWD
    refine takeH (o := ?o26) 0 (.agg #[.int .i64 ep, .int .i64 gr, .slice b l c, .int .i64 me, .int .i64 la]) ?h26 ?r26
    case h26 => simp only [aT, aZ]; rfl
    refine ⟨_, by simp [Act.put]; rfl, by kernel_rfl, by kernel_rfl, by kernel_rfl, fun _ _ _ h => h, (yields_whole 45 _ #[.int .i64 ep, .int .i64 gr, .slice b l c, .int .i64 me, .int .i64 la] 45 _ rfl rfl rfl Tryz.underlying45 rfl infoSeI (fun W hW => hW)), HD.out.loc, ?_⟩
    refine takeH (o := ?o27) 1 (.int .i64 per) ?h27 ?r27
    case h27 => simp only [aT, aS, aZ]; rfl
    refine ⟨_, by simp [Act.put]; rfl, by kernel_rfl, by kernel_rfl, by kernel_rfl, fun _ _ _ h => h, (.inl ⟨rfl, fun W _ => by kernel_rfl⟩), HD.out.loc, ?_⟩
    refine takeH (o := ?o28) 2 (.int .i64 ep) ?h28 ?r28
    case h28 => simp only [aT, aS, aZ]; rfl
    refine ⟨_, by simp [Act.put]; rfl, by kernel_rfl, by kernel_rfl, by kernel_rfl, fun _ _ _ h => h, (.inl ⟨rfl, fun W _ => by kernel_rfl⟩), HD.out.loc, ?_⟩
    refine takeH (o := ?o29) 3 (.pointer (some ⟨q, 0, none⟩)) ?h29 ?r29
    case h29 => simp only [aT, aS, aZ]; rfl
    refine ⟨_, by simp [Act.put]; rfl, by kernel_rfl, by kernel_rfl, by kernel_rfl, fun _ _ _ h => h, (.inl ⟨rfl, fun W _ => by kernel_rfl⟩), HD.out.loc, ?_⟩
    refine takeH (o := ?o30) 4 (.pointer (some ⟨q, 0, none⟩)) ?h30 ?r30
    case h30 => simp only [aT, aS, aZ]; rfl
    refine ⟨_, by simp [Act.put]; rfl, by kernel_rfl, by kernel_rfl, by kernel_rfl, fun _ _ _ h => h, (.inl ⟨rfl, fun W _ => by kernel_rfl⟩), HD.out.loc, ?_⟩
    refine takeH (o := ?o31) 7 (.pointer (some ⟨q, 0, none⟩)) ?h31 ?r31
    case h31 => simp only [aT, aS, aZ]; rfl
    refine ⟨_, by simp [Act.put]; rfl, by kernel_rfl, by kernel_rfl, by kernel_rfl, fun _ _ _ h => h, (.inl ⟨rfl, fun W _ => by kernel_rfl⟩), HD.out.loc, ?_⟩
    refine onlyH (o := ?o32) 5 (by kernel_rfl) ?h32 ?r32
    case h32 => simp only [aT, aS, aZ]; rfl
    intro K hK
    refine op_callS2 28 _ _ _ Tryz.f28 (fun v w' => ∃ x i' h', v = .int .i64 x ∧ 0 ≤ x ∧ x < 9 ∧ Cur w' q a len cap zs i' h' ∧ WD.grownBy w' (some q)) rfl rfl Tryz.func28 (by kernel_rfl) (by kernel_rfl) ((l1Below_any q a len cap zs i4 h4 9 WD HD.out.cur hlen (by omega) (by omega)).mono (by rintro e w' ⟨x, i', h', rfl, r⟩; exact ⟨_, rfl, x, i', h', rfl, r⟩)) ?_
    rintro v WE ⟨y0, iy, hy, rfl, q0, q1, C9, g9⟩
    have HD : Hid (DrS w q a len cap zs iy hy L ep gr me la ts b l c F WE) := HD.out.next C9 g9
    obtain ⟨y, hyo⟩ : ∃ n, n = 1 + y0 := ⟨_, rfl⟩
    have hwy : IntKind.i64.wrap (1 + y0) = y := by rw [hyo]; exact wrapSe (by omega)
    clear C9 g9 q0 q1
    refine ⟨_, by simp [Act.put]; rfl, hK _ _ ⟨HD.out.loc, ?_⟩⟩
    clear hK
    refine takeH (o := ?o33) 6 (.int .i64 y) ?h33 ?r33
    case h33 => simp only [aT, aS, aZ]; rfl
    refine ⟨_, by simp [Act.put]; rfl, by kernel_rfl, by kernel_rfl, by kernel_rfl, fun _ _ _ h => h, (.inl ⟨rfl, fun W _ => by first | (go_simp; done) | (go_simp; exact hwy)⟩), HD.out.loc, ?_⟩
    clear hwy hyo
    refine onlyH (o := ?o34) 8 (by kernel_rfl) ?h34 ?r34
    case h34 => simp only [aT, aS, aZ]; rfl
    intro K hK
    refine op_callS2 28 _ _ _ Tryz.f28 (fun v w' => ∃ x i' h', v = .int .i64 x ∧ 0 ≤ x ∧ x < 9 ∧ Cur w' q a len cap zs i' h' ∧ WE.grownBy w' (some q)) rfl rfl Tryz.func28 (by kernel_rfl) (by kernel_rfl) ((l1Below_any q a len cap zs iy hy 9 WE HD.out.cur hlen (by omega) (by omega)).mono (by rintro e w' ⟨x, i', h', rfl, r⟩; exact ⟨_, rfl, x, i', h', rfl, r⟩)) ?_
    rintro v WF ⟨z0, iz, hz, rfl, q0, q1, C9, g9⟩
    have HD : Hid (DrS w q a len cap zs iz hz L ep gr me la ts b l c F WF) := HD.out.next C9 g9
    obtain ⟨z, hzo⟩ : ∃ n, n = 1 + z0 := ⟨_, rfl⟩
    have hwz : IntKind.i64.wrap (1 + z0) = z := by rw [hzo]; exact wrapSe (by omega)
    clear C9 g9 q0 q1
    refine ⟨_, by simp [Act.put]; rfl, hK _ _ ⟨HD.out.loc, ?_⟩⟩
    clear hK
    refine takeH (o := ?o35) 9 (.int .i64 z) ?h35 ?r35
    case h35 => simp only [aT, aS, aZ]; rfl
    refine ⟨_, by simp [Act.put]; rfl, by kernel_rfl, by kernel_rfl, by kernel_rfl, fun _ _ _ h => h, (.inl ⟨rfl, fun W _ => by first | (go_simp; done) | (go_simp; exact hwz)⟩), HD.out.loc, ?_⟩
    clear hwz hzo
    refine onlyH (o := ?o36) 10 (by kernel_rfl) ?h36 ?r36
    case h36 => simp only [aT, aS, aZ]; rfl
    intro K hK
    refine op_turn (.slice (some ⟨WF.heap.size, 0, none⟩) 5 5) (WF.alloc (.cells #[.int .i64 y, .int .i64 z, .int .i64 0, .int .i64 60, .int .i64 61] 3)) rfl (by kernel_rfl) ⟨_, by simp [Act.put]; rfl, hK _ _ ⟨HD.out.loc.alloc _, ?_⟩⟩
    clear hK
    refine onlyH (o := ?o37) 11 (by kernel_rfl) ?h37 ?r37
    case h37 => simp only [aT, aS, aZ]; rfl
    intro K hK
    have hqw : q < WF.heap.size := World.block_lt_of_cell? _ _ HD.out.cur.c0
    refine op_callS2 47 _ _ _ Tryz.f47 (fun v w' => ∃ yy i' h', v = .int .i64 yy ∧ Cur w' q a len cap zs i' h' ∧ (WF.alloc (.cells #[.int .i64 y, .int .i64 z, .int .i64 0, .int .i64 60, .int .i64 61] 3)).grownBy w' (some q)) rfl rfl Tryz.func47 (by kernel_rfl) (by kernel_rfl) ((pickInt_cur q WF.heap.size 5 a len cap zs iz hz [y, z, 0, 60, 61] _ (HD.out.cur.alloc _) hlen (fun j hj => lit_ints WF [y, z, 0, 60, 61] _ j hj) (by omega) 5 rfl (by omega) (by omega)).mono (by rintro e w' ⟨y2, i', h', _, rfl, C9, g9⟩; exact ⟨_, rfl, y2, i', h', rfl, C9, g9⟩)) ?_
    rintro v WG ⟨sq, i9, h9, rfl, C9, g9⟩
    have HD : Hid (DrS w q a len cap zs i9 h9 L ep gr me la ts b l c F WG) := (HD.out.below ((Below.refl _ _).alloc (Nat.le_refl _) _)).next C9 g9
    clear C9 g9 hqw
    refine ⟨_, by simp [Act.put]; rfl, hK _ _ ⟨HD.out.loc, ?_⟩⟩
    clear hK
    refine onlyH (o := ?o38) 12 (by kernel_rfl) ?h38 ?r38
    case h38 => simp only [aT, aS, aZ]; rfl
    intro K hK
    have hlt := HD.out.gq
    have hlq := HD.out.ql
    refine op_store 45 w.heap.size #[.int .i64 0, .int .i64 0, .slice none 0 0, .int .i64 0, .int .i64 0] #[.int .i64 ep, .int .i64 gr, .slice b l c, .int .i64 me, .int .i64 la] 45 rfl rfl rfl rfl HD.out.res infoSeI rfl (by simp [Value.oneCell']) ⟨_, by simp [Act.put]; rfl, hK _ _ ⟨HD.out.loc.setRowOther (by omega), ?_⟩⟩
    clear hK
    refine takeH (o := ?o39) 13 (.int .i64 per) ?h39 ?r39
    case h39 => simp only [aT, aS, aZ]; rfl
    refine ⟨_, by simp [Act.put]; rfl, by kernel_rfl, by kernel_rfl, by kernel_rfl, fun _ _ _ h => h, (.inl ⟨rfl, fun W _ => by kernel_rfl⟩), (HD.out.loc.setRowOther (by omega)), ?_⟩
    refine takeH (o := ?o40) 14 (.int .i64 ep) ?h40 ?r40
    case h40 => simp only [aT, aS, aZ]; rfl
    refine ⟨_, by simp [Act.put]; rfl, by kernel_rfl, by kernel_rfl, by kernel_rfl, fun _ _ _ h => h, (.inl ⟨rfl, fun W _ => by kernel_rfl⟩), (HD.out.loc.setRowOther (by omega)), ?_⟩
    refine takeH (o := ?o41) 15 (.int .i64 sq) ?h41 ?r41
    case h41 => simp only [aT, aS, aZ]; rfl
    refine ⟨_, by simp [Act.put]; rfl, by kernel_rfl, by kernel_rfl, by kernel_rfl, fun _ _ _ h => h, (.inl ⟨rfl, fun W _ => by kernel_rfl⟩), (HD.out.loc.setRowOther (by omega)), ?_⟩
    refine wpAnyH_done (by kernel_rfl) ?_ _
    clear hlt hlq
    go_wp2
    refine bodyPost_ret (results_row_tmp3 Tryz.results12 _ _ w.heap.size _ _ _ _ rfl HD.out.res.setRow Tryz.underlying45 rfl infoSeI) rfl ?_
    have nF : w.heap.size ∉ F := fun hx => by have := HD.out.own.ge _ hx; omega
    exact ⟨_, ⟨ep, gr, ts, me, la⟩, per, ep, sq, F, rfl, ⟨b, l, c, rfl, HD.out.rp.agree (Agree.row nF _), HX.out.2.1⟩, HX.out.2.2.2.1, (HD.out.own.agree (Agree.row nF _)).mono (by omega), below_setRow HD.out.bel (Nat.le_refl _) _⟩
  · go_wp2_with fail
    refine (l1Below_any q a len cap zs i4 h4 4 _ H4.out.cur hlen (by omega) (by omega)).mono ?_
    rintro e w5 ⟨e5, i5, h5, rfl, _, _, C5, g5⟩
    have H5 : Hid (DrS w q a len cap zs i5 h5 L ep gr me la ts b l c F w5) := H4.out.next C5 g5
    clear C5 g5 H4
    go_wp2_with fail
    obtain ⟨WD, hWD⟩ : ∃ W, W = w5.drew := ⟨_, rfl⟩
    have HD : Hid (DrS w q a len cap zs i5 h5 L ep gr me la ts b l c F WD) := by rw [hWD]; exact H5.out.below (Below.refl _ _).drew
    clear H5
    refine wp_region_held (S := fun W => Blk W L #[.int .i64 ep, .int .i64 gr, .slice b l c, .int .i64 me, .int .i64 la] 45) (by kernel_rfl) ?_
    change wpAnyH _ _ _ _ _ _ _ _ (World.drew _)
    rw [← hWD]
    clear hWD
    refine takeH (o := ?o42) 0 (.agg #[.int .i64 ep, .int .i64 gr, .slice b l c, .int .i64 me, .int .i64 la]) ?h42 ?r42
    case h42 => simp only [aT, aZ]; rfl
    refine ⟨_, by simp [Act.put]; rfl, by kernel_rfl, by kernel_rfl, by kernel_rfl, fun _ _ _ h => h, (yields_whole 45 _ #[.int .i64 ep, .int .i64 gr, .slice b l c, .int .i64 me, .int .i64 la] 45 _ rfl rfl rfl Tryz.underlying45 rfl infoSeI (fun W hW => hW)), HD.out.loc, ?_⟩
    refine takeH (o := ?o43) 1 (.int .i64 per) ?h43 ?r43
    case h43 => simp only [aT, aS, aZ]; rfl
    refine ⟨_, by simp [Act.put]; rfl, by kernel_rfl, by kernel_rfl, by kernel_rfl, fun _ _ _ h => h, (.inl ⟨rfl, fun W _ => by kernel_rfl⟩), HD.out.loc, ?_⟩
    refine takeH (o := ?o44) 2 (.int .i64 e5) ?h44 ?r44
    case h44 => simp only [aT, aS, aZ]; rfl
    refine ⟨_, by simp [Act.put]; rfl, by kernel_rfl, by kernel_rfl, by kernel_rfl, fun _ _ _ h => h, (.inl ⟨rfl, fun W _ => by kernel_rfl⟩), HD.out.loc, ?_⟩
    refine takeH (o := ?o45) 3 (.pointer (some ⟨q, 0, none⟩)) ?h45 ?r45
    case h45 => simp only [aT, aS, aZ]; rfl
    refine ⟨_, by simp [Act.put]; rfl, by kernel_rfl, by kernel_rfl, by kernel_rfl, fun _ _ _ h => h, (.inl ⟨rfl, fun W _ => by kernel_rfl⟩), HD.out.loc, ?_⟩
    refine takeH (o := ?o46) 4 (.pointer (some ⟨q, 0, none⟩)) ?h46 ?r46
    case h46 => simp only [aT, aS, aZ]; rfl
    refine ⟨_, by simp [Act.put]; rfl, by kernel_rfl, by kernel_rfl, by kernel_rfl, fun _ _ _ h => h, (.inl ⟨rfl, fun W _ => by kernel_rfl⟩), HD.out.loc, ?_⟩
    refine takeH (o := ?o47) 7 (.pointer (some ⟨q, 0, none⟩)) ?h47 ?r47
    case h47 => simp only [aT, aS, aZ]; rfl
    refine ⟨_, by simp [Act.put]; rfl, by kernel_rfl, by kernel_rfl, by kernel_rfl, fun _ _ _ h => h, (.inl ⟨rfl, fun W _ => by kernel_rfl⟩), HD.out.loc, ?_⟩
    refine onlyH (o := ?o48) 5 (by kernel_rfl) ?h48 ?r48
    case h48 => simp only [aT, aS, aZ]; rfl
    intro K hK
    refine op_callS2 28 _ _ _ Tryz.f28 (fun v w' => ∃ x i' h', v = .int .i64 x ∧ 0 ≤ x ∧ x < 9 ∧ Cur w' q a len cap zs i' h' ∧ WD.grownBy w' (some q)) rfl rfl Tryz.func28 (by kernel_rfl) (by kernel_rfl) ((l1Below_any q a len cap zs i5 h5 9 WD HD.out.cur hlen (by omega) (by omega)).mono (by rintro e w' ⟨x, i', h', rfl, r⟩; exact ⟨_, rfl, x, i', h', rfl, r⟩)) ?_
    rintro v WE ⟨y0, iy, hy, rfl, q0, q1, C9, g9⟩
    have HD : Hid (DrS w q a len cap zs iy hy L ep gr me la ts b l c F WE) := HD.out.next C9 g9
    obtain ⟨y, hyo⟩ : ∃ n, n = 1 + y0 := ⟨_, rfl⟩
    have hwy : IntKind.i64.wrap (1 + y0) = y := by rw [hyo]; exact wrapSe (by omega)
    clear C9 g9 q0 q1
    refine ⟨_, by simp [Act.put]; rfl, hK _ _ ⟨HD.out.loc, ?_⟩⟩
    clear hK
    refine takeH (o := ?o49) 6 (.int .i64 y) ?h49 ?r49
    case h49 => simp only [aT, aS, aZ]; rfl
    refine ⟨_, by simp [Act.put]; rfl, by kernel_rfl, by kernel_rfl, by kernel_rfl, fun _ _ _ h => h, (.inl ⟨rfl, fun W _ => by first | (go_simp; done) | (go_simp; exact hwy)⟩), HD.out.loc, ?_⟩
    clear hwy hyo
    refine onlyH (o := ?o50) 8 (by kernel_rfl) ?h50 ?r50
    case h50 => simp only [aT, aS, aZ]; rfl
    intro K hK
    refine op_callS2 28 _ _ _ Tryz.f28 (fun v w' => ∃ x i' h', v = .int .i64 x ∧ 0 ≤ x ∧ x < 9 ∧ Cur w' q a len cap zs i' h' ∧ WE.grownBy w' (some q)) rfl rfl Tryz.func28 (by kernel_rfl) (by kernel_rfl) ((l1Below_any q a len cap zs iy hy 9 WE HD.out.cur hlen (by omega) (by omega)).mono (by rintro e w' ⟨x, i', h', rfl, r⟩; exact ⟨_, rfl, x, i', h', rfl, r⟩)) ?_
    rintro v WF ⟨z0, iz, hz, rfl, q0, q1, C9, g9⟩
    have HD : Hid (DrS w q a len cap zs iz hz L ep gr me la ts b l c F WF) := HD.out.next C9 g9
    obtain ⟨z, hzo⟩ : ∃ n, n = 1 + z0 := ⟨_, rfl⟩
    have hwz : IntKind.i64.wrap (1 + z0) = z := by rw [hzo]; exact wrapSe (by omega)
    clear C9 g9 q0 q1
    refine ⟨_, by simp [Act.put]; rfl, hK _ _ ⟨HD.out.loc, ?_⟩⟩
    clear hK
    refine takeH (o := ?o51) 9 (.int .i64 z) ?h51 ?r51
    case h51 => simp only [aT, aS, aZ]; rfl
    refine ⟨_, by simp [Act.put]; rfl, by kernel_rfl, by kernel_rfl, by kernel_rfl, fun _ _ _ h => h, (.inl ⟨rfl, fun W _ => by first | (go_simp; done) | (go_simp; exact hwz)⟩), HD.out.loc, ?_⟩
    clear hwz hzo
    refine onlyH (o := ?o52) 10 (by kernel_rfl) ?h52 ?r52
    case h52 => simp only [aT, aS, aZ]; rfl
    intro K hK
    refine op_turn (.slice (some ⟨WF.heap.size, 0, none⟩) 5 5) (WF.alloc (.cells #[.int .i64 y, .int .i64 z, .int .i64 0, .int .i64 60, .int .i64 61] 3)) rfl (by kernel_rfl) ⟨_, by simp [Act.put]; rfl, hK _ _ ⟨HD.out.loc.alloc _, ?_⟩⟩
    clear hK
    refine onlyH (o := ?o53) 11 (by kernel_rfl) ?h53 ?r53
    case h53 => simp only [aT, aS, aZ]; rfl
    intro K hK
    have hqw : q < WF.heap.size := World.block_lt_of_cell? _ _ HD.out.cur.c0
    refine op_callS2 47 _ _ _ Tryz.f47 (fun v w' => ∃ yy i' h', v = .int .i64 yy ∧ Cur w' q a len cap zs i' h' ∧ (WF.alloc (.cells #[.int .i64 y, .int .i64 z, .int .i64 0, .int .i64 60, .int .i64 61] 3)).grownBy w' (some q)) rfl rfl Tryz.func47 (by kernel_rfl) (by kernel_rfl) ((pickInt_cur q WF.heap.size 5 a len cap zs iz hz [y, z, 0, 60, 61] _ (HD.out.cur.alloc _) hlen (fun j hj => lit_ints WF [y, z, 0, 60, 61] _ j hj) (by omega) 5 rfl (by omega) (by omega)).mono (by rintro e w' ⟨y2, i', h', _, rfl, C9, g9⟩; exact ⟨_, rfl, y2, i', h', rfl, C9, g9⟩)) ?_
    rintro v WG ⟨sq, i9, h9, rfl, C9, g9⟩
    have HD : Hid (DrS w q a len cap zs i9 h9 L ep gr me la ts b l c F WG) := (HD.out.below ((Below.refl _ _).alloc (Nat.le_refl _) _)).next C9 g9
    clear C9 g9 hqw
    refine ⟨_, by simp [Act.put]; rfl, hK _ _ ⟨HD.out.loc, ?_⟩⟩
    clear hK
    refine onlyH (o := ?o54) 12 (by kernel_rfl) ?h54 ?r54
    case h54 => simp only [aT, aS, aZ]; rfl
    intro K hK
    have hlt := HD.out.gq
    have hlq := HD.out.ql
    refine op_store 45 w.heap.size #[.int .i64 0, .int .i64 0, .slice none 0 0, .int .i64 0, .int .i64 0] #[.int .i64 ep, .int .i64 gr, .slice b l c, .int .i64 me, .int .i64 la] 45 rfl rfl rfl rfl HD.out.res infoSeI rfl (by simp [Value.oneCell']) ⟨_, by simp [Act.put]; rfl, hK _ _ ⟨HD.out.loc.setRowOther (by omega), ?_⟩⟩
    clear hK
    refine takeH (o := ?o55) 13 (.int .i64 per) ?h55 ?r55
    case h55 => simp only [aT, aS, aZ]; rfl
    refine ⟨_, by simp [Act.put]; rfl, by kernel_rfl, by kernel_rfl, by kernel_rfl, fun _ _ _ h => h, (.inl ⟨rfl, fun W _ => by kernel_rfl⟩), (HD.out.loc.setRowOther (by omega)), ?_⟩
    refine takeH (o := ?o56) 14 (.int .i64 e5) ?h56 ?r56
    case h56 => simp only [aT, aS, aZ]; rfl
    refine ⟨_, by simp [Act.put]; rfl, by kernel_rfl, by kernel_rfl, by kernel_rfl, fun _ _ _ h => h, (.inl ⟨rfl, fun W _ => by kernel_rfl⟩), (HD.out.loc.setRowOther (by omega)), ?_⟩
    refine takeH (o := ?o57) 15 (.int .i64 sq) ?h57 ?r57
    case h57 => simp only [aT, aS, aZ]; rfl
    refine ⟨_, by simp [Act.put]; rfl, by kernel_rfl, by kernel_rfl, by kernel_rfl, fun _ _ _ h => h, (.inl ⟨rfl, fun W _ => by kernel_rfl⟩), (HD.out.loc.setRowOther (by omega)), ?_⟩
    refine wpAnyH_done (by kernel_rfl) ?_ _
    clear hlt hlq
    go_wp2
    refine bodyPost_ret (results_row_tmp3 Tryz.results12 _ _ w.heap.size _ _ _ _ rfl HD.out.res.setRow Tryz.underlying45 rfl infoSeI) rfl ?_
    have nF : w.heap.size ∉ F := fun hx => by have := HD.out.own.ge _ hx; omega
    exact ⟨_, ⟨ep, gr, ts, me, la⟩, per, e5, sq, F, rfl, ⟨b, l, c, rfl, HD.out.rp.agree (Agree.row nF _), HX.out.2.1⟩, HX.out.2.2.2.1, (HD.out.own.agree (Agree.row nF _)).mono (by omega), below_setRow HD.out.bel (Nat.le_refl _) _⟩
end Go.Proofs.YtgkbhhlkaifnoaaGreatDoor
/- errors.As at the one kind of target that the program hands it (a refusal), by contracts: Go's own text of errors.As is walked; after the guide's worked toy. No statement of the seat is proved here. -/
namespace Go.Proofs.YtgkbhhlkaifnoaaGreatDoor
open Go.RowKit Go.Extern.Stop Go.Stop Go.Extern
/-- The library's one variable that errors.As reads. -/
def ErrAt (w : World) : Prop := w.cell? ⟨0, 0, none⟩ = some (.iface 147 (.agg #[.pointer (some ⟨5, 88, none⟩)]))
set_option maxRecDepth 200000 in
theorem ErrAt.lt {w : World} (h : ErrAt w) : 0 < w.heap.size := World.block_lt_of_cell? _ _ h
set_option maxRecDepth 200000 in
theorem ErrAt.below {w w' : World} (h : ErrAt w) (b : Below w.heap.size w w') : ErrAt w' := (b.cell (p := ⟨0, 0, none⟩) h.lt).trans h
set_option maxRecDepth 200000 in
theorem asNil_any (t : Value) (w : World) : Calls Tryz.prog 49 #[.nilIface, t] w fun e w' => e = .returned (.bool false) ∧ w' = w := by
  go_enter Tryz.func49, Tryz.ntmps49
  go_wp2
  go_ret
  exact ⟨rfl, rfl⟩
theorem valueOfP (t : Addr) (w : World) : (ReflectliteValue.unpack (.iface 90 (.pointer (some t)))).run Tryz.prog w
    = .ok (.agg #[.pointer (some ⟨5, 90, none⟩), .pointer (some ⟨w.heap.size, 0, none⟩), .int .u64 150]) (w.alloc (.cells #[.pointer (some t)] 90)) := by kernel_rfl
theorem typeP (a : Addr) (w : World) : (ReflectliteValue.methodAny (ReflectliteValue.valueError "reflectlite.Value.Type" 0) (fun t _ _ _ => ReflectliteType.toType t) #[.agg #[.pointer (some ⟨5, 90, none⟩), .pointer (some a), .int .u64 150]]).run Tryz.prog w
    = .ok (.iface 147 (.agg #[.pointer (some ⟨5, 90, none⟩)])) w := by kernel_rfl
theorem methodKind (h : Value) (w : World) : (Go.method 324 147 (.agg #[h]) "Kind").run Tryz.prog w = .ok (161, h) w := by kernel_rfl
theorem kindP (w : World) : ((ReflectliteType.abiMethod fun t => (fun a : Nat => Value.int IntKind.u8 (a : Int)) <$> Rtype.kind t) #[.pointer (some ⟨5, 90, none⟩)]).run Tryz.prog w = .ok (.int .u8 22) w := by kernel_rfl
theorem kindR (w : World) : ((ReflectliteType.abiMethod fun t => (fun a : Nat => Value.int IntKind.u8 (a : Int)) <$> Rtype.kind t) #[.pointer (some ⟨5, 85, none⟩)]).run Tryz.prog w = .ok (.int .u8 25) w := by kernel_rfl
theorem rlm (z : Sem Value) (f : TypeId → Addr → Nat → Nat → Sem Value) (v : Value) :
    ReflectliteValue.method z f #[v] = (do match ← ReflectliteValue.parts v with | none => z | some (t, a, fl) => f t a fl (fl % 32)) := rfl
theorem partsP (a : Addr) (w : World) : (ReflectliteValue.parts (.agg #[.pointer (some ⟨5, 90, none⟩), .pointer (some a), .int .u64 150])).run Tryz.prog w = .ok (some (90, a, 150)) w := by kernel_rfl
theorem isNilP (a p : Addr) (W : World) (ha : W.cell? a = some (.pointer (some p))) :
    (ReflectliteValue.method (ReflectliteValue.valueError "reflectlite.Value.IsNil" 0) ReflectliteValue.isNil #[.agg #[.pointer (some ⟨5, 90, none⟩), .pointer (some a), .int .u64 150]]).run Tryz.prog W = .ok (.bool false) W := by
  rw [rlm]
  simp only [Sem.run_bind, partsP, Result.andThen]
  simp [ReflectliteValue.isNil, loadVar, isAgg, underlying, Tryz.underlying90, ha, Result.andThen]
theorem methodElem (h : Value) (w : World) : (Go.method 324 147 (.agg #[h]) "Elem").run Tryz.prog w = .ok (174, .agg #[h]) w := by kernel_rfl
theorem methodImplements (h : Value) (w : World) : (Go.method 324 147 (.agg #[h]) "Implements").run Tryz.prog w = .ok (175, .agg #[h]) w := by kernel_rfl
theorem methodAssignableTo (h : Value) (w : World) : (Go.method 324 147 (.agg #[h]) "AssignableTo").run Tryz.prog w = .ok (172, .agg #[h]) w := by kernel_rfl
theorem elemP (w : World) : (ReflectliteType.method ReflectliteType.elem #[.agg #[.pointer (some ⟨5, 90, none⟩)]]).run Tryz.prog w = .ok (.iface 147 (.agg #[.pointer (some ⟨5, 85, none⟩)])) w := by kernel_rfl
theorem implementsR (w : World) : (ReflectliteType.relation "Implements" ReflectliteType.implements_ #[.agg #[.pointer (some ⟨5, 85, none⟩)], .iface 147 (.agg #[.pointer (some ⟨5, 88, none⟩)])]).run Tryz.prog w = .ok (.bool true) w := by kernel_rfl
theorem typeOfR (v : Value) (w : World) : (ReflectliteType.typeOf #[.iface 85 v]).run Tryz.prog w = .ok (.iface 147 (.agg #[.pointer (some ⟨5, 85, none⟩)])) w := by kernel_rfl
theorem assignableR (w : World) : (ReflectliteType.relation "AssignableTo" ReflectliteType.assignableTo #[.agg #[.pointer (some ⟨5, 85, none⟩)], .iface 147 (.agg #[.pointer (some ⟨5, 85, none⟩)])]).run Tryz.prog w = .ok (.bool true) w := by kernel_rfl
theorem valueOfR (c : Int) (w : World) : (ReflectliteValue.unpack (.iface 85 (.agg #[.int .i64 c]))).run Tryz.prog w
    = .ok (.agg #[.pointer (some ⟨5, 85, none⟩), .pointer (some ⟨w.heap.size, 0, none⟩), .int .u64 153]) (w.alloc (.cells #[.int .i64 c] 85)) := by kernel_rfl
theorem elemOfP (w : World) : (Rtype.elem? 90).run Tryz.prog w = .ok (some 85) w := by kernel_rfl
theorem mkR (p : Addr) (w : World) : (ReflectliteValue.mk 85 p ReflectliteValue.flagAddr).run Tryz.prog w = .ok (.agg #[.pointer (some ⟨5, 85, none⟩), .pointer (some p), .int .u64 409]) w := by kernel_rfl
theorem elemVP (a p : Addr) (W : World) (ha : W.cell? a = some (.pointer (some p))) :
    (ReflectliteValue.method (ReflectliteValue.valueError "reflectlite.Value.Elem" 0) ReflectliteValue.elem #[.agg #[.pointer (some ⟨5, 90, none⟩), .pointer (some a), .int .u64 150]]).run Tryz.prog W
      = .ok (.agg #[.pointer (some ⟨5, 85, none⟩), .pointer (some p), .int .u64 409]) W := by
  rw [rlm]
  simp only [Sem.run_bind, partsP, Result.andThen]
  simp [ReflectliteValue.elem, loadVar, isAgg, underlying, Tryz.underlying90, ha, Result.andThen, elemOfP, mkR]
theorem rls (v x : Value) : ReflectliteValue.set #[v, x] = (do
    let (some (dst, a, fl), some (src, b, _)) := (← ReflectliteValue.parts v, ← ReflectliteValue.parts x)
      | unsupported (.noEntry "extern/(internal/reflectlite.Value).Set.zeroValue")
    if fl / ReflectliteValue.flagAddr % 2 == 0 then unsupported (.noEntry "extern/(internal/reflectlite.Value).Set.unaddressable")
    let val ← loadVar src b
    if ← Rtype.directlyAssignable dst src then storeVar dst a val
    else if ← Rtype.implements dst src then
      if (← Rtype.kind src) == 20 then
        match val with
        | .nilIface => unsupported (.noEntry "extern/reflectlite: a nil value of one interface type handed on as a value of another")
        | _ => storeVar dst a val
      else storeVar dst a (.iface src val)
    else panicString ("reflectlite.Set: value of type " ++ (← Rtype.spelt src) ++ " is not assignable to type " ++ (← Rtype.spelt dst))
    pure (.tuple #[])) := rfl
theorem partsRa (a : Addr) (w : World) : (ReflectliteValue.parts (.agg #[.pointer (some ⟨5, 85, none⟩), .pointer (some a), .int .u64 409])).run Tryz.prog w = .ok (some (85, a, 409)) w := by kernel_rfl
theorem partsR (a : Addr) (w : World) : (ReflectliteValue.parts (.agg #[.pointer (some ⟨5, 85, none⟩), .pointer (some a), .int .u64 153])).run Tryz.prog w = .ok (some (85, a, 153)) w := by kernel_rfl
theorem directR (w : World) : (Rtype.directlyAssignable 85 85).run Tryz.prog w = .ok true w := by kernel_rfl
theorem infoRef : (Tryz.prog.info? 85).map (·.size) = some 1 := by kernel_rfl
theorem setR (T b : Nat) (c o : Int) (W : World) (hb : Blk W b #[.int .i64 c] 85) (ht : Blk W T #[.int .i64 o] 85) :
    (ReflectliteValue.set #[.agg #[.pointer (some ⟨5, 85, none⟩), .pointer (some ⟨T, 0, none⟩), .int .u64 409], .agg #[.pointer (some ⟨5, 85, none⟩), .pointer (some ⟨b, 0, none⟩), .int .u64 153]]).run Tryz.prog W
      = .ok (.tuple #[]) (W.setRow T #[.int .i64 c]) := by
  rw [rls]
  have h1 := run_loadVar_row W b 85 85 #[.int .i64 c] (0, 0) _ hb Tryz.underlying85 rfl infoRef
  have h2 := run_storeVar_row W T 85 85 #[.int .i64 o] #[.int .i64 c] ht infoRef rfl (by simp [Value.oneCell'])
  simp only [Sem.run_bind, partsRa, partsR, Result.andThen]
  simp [ReflectliteValue.flagAddr, h1, h2, directR, Result.andThen]
set_option maxRecDepth 200000 in
set_option maxHeartbeats 4000000 in
theorem asIn_any (c o : Int) (T V : Nat) (w : World) (hT : Blk w T #[.int .i64 o] 85) (hV : Blk w V #[.pointer (some ⟨T, 0, none⟩)] 90) :
    Calls Tryz.prog 85 #[.iface 85 (.agg #[.int .i64 c]), .iface 90 (.pointer (some ⟨T, 0, none⟩)), .agg #[.pointer (some ⟨5, 90, none⟩), .pointer (some ⟨V, 0, none⟩), .int .u64 150], .iface 147 (.agg #[.pointer (some ⟨5, 85, none⟩)])] w
      fun e w' => e = .returned (.bool true) ∧ w' = ((w.alloc (.cells #[.pointer (some ⟨5, 90, none⟩), .pointer (some ⟨V, 0, none⟩), .int .u64 150] 122)).alloc (.cells #[.int .i64 c] 85)).setRow T #[.int .i64 c] := by
  have h10 := @run_callFunc_extern Tryz.prog 105 _ ReflectliteType.typeOf Tryz.func105 (by kernel_rfl) (by kernel_rfl) (by kernel_rfl) (by kernel_rfl)
  have h35 := @run_callFunc_extern Tryz.prog 172 _ (ReflectliteType.relation "AssignableTo" ReflectliteType.assignableTo) Tryz.func172 (by kernel_rfl) (by kernel_rfl) (by kernel_rfl) (by kernel_rfl)
  have h6 := @run_callFunc_extern Tryz.prog 82 _ (fun args => ReflectliteValue.unpack (args.getD 0 (.tuple #[]))) Tryz.func82 (by kernel_rfl) (by kernel_rfl) (by kernel_rfl) (by kernel_rfl)
  have h11 := @run_callFunc_extern Tryz.prog 106 _ (ReflectliteValue.method (ReflectliteValue.valueError "reflectlite.Value.Elem" 0) ReflectliteValue.elem) Tryz.func106 (by kernel_rfl) (by kernel_rfl) (by kernel_rfl) (by kernel_rfl)
  have h12 := @run_callFunc_extern Tryz.prog 107 _ ReflectliteValue.set Tryz.func107 (by kernel_rfl) (by kernel_rfl) (by kernel_rfl) (by kernel_rfl)
  have tO := typeOfR
  have mA := methodAssignableTo
  have a25 := assignableR
  have v25 := valueOfR
  have hVl := hV.lt
  have hTl := hT.lt
  have el := elemVP ⟨V, 0, none⟩ ⟨T, 0, none⟩ (w.alloc (.cells #[.pointer (some ⟨5, 90, none⟩), .pointer (some ⟨V, 0, none⟩), .int .u64 150] 122)) (by have := (hV.alloc (.cells #[.pointer (some ⟨5, 90, none⟩), .pointer (some ⟨V, 0, none⟩), .int .u64 150] 122)).cell 0; simpa using this)
  have st := setR T (w.heap.size + 1) c o ((w.alloc (.cells #[.pointer (some ⟨5, 90, none⟩), .pointer (some ⟨V, 0, none⟩), .int .u64 150] 122)).alloc (.cells #[.int .i64 c] 85)) (by have := Blk.made (w.alloc (.cells #[.pointer (some ⟨5, 90, none⟩), .pointer (some ⟨V, 0, none⟩), .int .u64 150] 122)) #[.int .i64 c] 85; simpa using this) ((hT.alloc _).alloc _)
  clear hT hV
  go_enter Tryz.func85, Tryz.ntmps85
  go_wp2
  refine wp_loop_rounds 1 ?_
  rw [rounds_succ]
  go_wp2
  go_ret
  exact ⟨rfl, rfl⟩
set_option maxRecDepth 200000 in
set_option maxHeartbeats 4000000 in
theorem asHit_any (c o : Int) (T : Nat) (w : World) (hT : Blk w T #[.int .i64 o] 85) (hE : ErrAt w) :
    Calls Tryz.prog 49 #[.iface 85 (.agg #[.int .i64 c]), .iface 90 (.pointer (some ⟨T, 0, none⟩))] w
      fun e w' => e = .returned (.bool true) ∧ ∃ W, Below w.heap.size w W ∧ w' = W.setRow T #[.int .i64 c] := by
  have h6 := @run_callFunc_extern Tryz.prog 82 _ (fun args => ReflectliteValue.unpack (args.getD 0 (.tuple #[]))) Tryz.func82 (by kernel_rfl) (by kernel_rfl) (by kernel_rfl) (by kernel_rfl)
  have h7 := @run_callFunc_extern Tryz.prog 83 _ (ReflectliteValue.methodAny (ReflectliteValue.valueError "reflectlite.Value.Type" 0) (fun t _ _ _ => ReflectliteType.toType t)) Tryz.func83 (by kernel_rfl) (by kernel_rfl) (by kernel_rfl) (by kernel_rfl)
  have h8 := @run_callFunc_extern Tryz.prog 84 _ (ReflectliteValue.method (ReflectliteValue.valueError "reflectlite.Value.IsNil" 0) ReflectliteValue.isNil) Tryz.func84 (by kernel_rfl) (by kernel_rfl) (by kernel_rfl) (by kernel_rfl)
  have h27 := @run_callFunc_extern Tryz.prog 161 _ (ReflectliteType.abiMethod fun t => do pure (.int .u8 (← Rtype.kind t))) Tryz.func161 (by kernel_rfl) (by kernel_rfl) (by kernel_rfl) (by kernel_rfl)
  have h37 := @run_callFunc_extern Tryz.prog 174 _ (ReflectliteType.method ReflectliteType.elem) Tryz.func174 (by kernel_rfl) (by kernel_rfl) (by kernel_rfl) (by kernel_rfl)
  have h38 := @run_callFunc_extern Tryz.prog 175 _ (ReflectliteType.relation "Implements" ReflectliteType.implements_) Tryz.func175 (by kernel_rfl) (by kernel_rfl) (by kernel_rfl) (by kernel_rfl)
  have f6 := valueOfP
  have f7 := typeP
  have mK := methodKind
  have mE := methodElem
  have mI := methodImplements
  have k27 := kindP
  have k25 := kindR
  have e27 := elemP
  have i25 := implementsR
  have b1 : Below w.heap.size w (w.alloc (.cells #[.pointer (some ⟨T, 0, none⟩)] 90)) := (Below.refl _ _).alloc (Nat.le_refl _) _
  have b2 : Below w.heap.size w ((w.alloc (.cells #[.pointer (some ⟨T, 0, none⟩)] 90)).alloc (.cells #[.pointer (some ⟨5, 90, none⟩), .pointer (some ⟨w.heap.size, 0, none⟩), .int .u64 150] 122)) := b1.alloc (by simp) _
  have n8 := isNilP ⟨w.heap.size, 0, none⟩ ⟨T, 0, none⟩ ((w.alloc (.cells #[.pointer (some ⟨T, 0, none⟩)] 90)).alloc (.cells #[.pointer (some ⟨5, 90, none⟩), .pointer (some ⟨w.heap.size, 0, none⟩), .int .u64 150] 122)) (by simp)
  have hg : ((w.alloc (.cells #[.pointer (some ⟨T, 0, none⟩)] 90)).alloc (.cells #[.pointer (some ⟨5, 90, none⟩), .pointer (some ⟨w.heap.size, 0, none⟩), .int .u64 150] 122)).cell? ⟨0, 0, none⟩ = some (.iface 147 (.agg #[.pointer (some ⟨5, 88, none⟩)])) := hE.below b2
  have HX : Hid (Below w.heap.size w ((w.alloc (.cells #[.pointer (some ⟨T, 0, none⟩)] 90)).alloc (.cells #[.pointer (some ⟨5, 90, none⟩), .pointer (some ⟨w.heap.size, 0, none⟩), .int .u64 150] 122)) ∧ Blk ((w.alloc (.cells #[.pointer (some ⟨T, 0, none⟩)] 90)).alloc (.cells #[.pointer (some ⟨5, 90, none⟩), .pointer (some ⟨w.heap.size, 0, none⟩), .int .u64 150] 122)) T #[.int .i64 o] 85 ∧ Blk ((w.alloc (.cells #[.pointer (some ⟨T, 0, none⟩)] 90)).alloc (.cells #[.pointer (some ⟨5, 90, none⟩), .pointer (some ⟨w.heap.size, 0, none⟩), .int .u64 150] 122)) w.heap.size #[.pointer (some ⟨T, 0, none⟩)] 90) := ⟨b2, hT.below b2, (Blk.made w _ _).alloc _⟩
  have hlt := hE.lt
  clear hT hE b1 b2
  go_enter Tryz.func49, Tryz.ntmps49
  go_wp2_with (go_at_call 85; refine (asIn_any c o T w.heap.size _ HX.out.2.1 HX.out.2.2).mono ?_; rintro e w' ⟨rfl, rfl⟩)
  go_ret
  exact ⟨rfl, _, (HX.out.1.alloc (by first | (simp; done) | (simp; omega)) _).alloc (by first | (simp; done) | (simp; omega)) _, rfl⟩
end Go.Proofs.YtgkbhhlkaifnoaaGreatDoor
/- The walks through the program's SetAdd and SetJoin. No statement of the seat is proved here. -/
namespace Go.Proofs.YtgkbhhlkaifnoaaGreatDoor
open Go.RowKit
set_option maxRecDepth 200000 in
theorem inRangeP_any (n m : Int) (w : World) : Calls Tryz.prog 43 #[.int .i64 n, .int .i64 m] w fun e w' => e = .returned (.bool (decide (0 ≤ n ∧ n ≤ m))) ∧ w' = w := by
  by_cases h1 : 0 ≤ n
  · have e1 : decide (0 ≤ n) = true := decT h1
    by_cases h2 : n ≤ m
    · have e2 : decide (n ≤ m) = true := decT h2
      have HV : Hid (decide (0 ≤ n ∧ n ≤ m) = true) := decT ⟨h1, h2⟩
      clear h1 h2
      go_enter Tryz.func43, Tryz.ntmps43
      go_wp2
      go_ret
      exact ⟨ret_bool HV.out.symm, rfl⟩
    · have e2 : decide (n ≤ m) = false := decF h2
      have HV : Hid (decide (0 ≤ n ∧ n ≤ m) = false) := decF (fun e => h2 e.2)
      clear h1 h2
      go_enter Tryz.func43, Tryz.ntmps43
      go_wp2
      go_ret
      exact ⟨ret_bool HV.out.symm, rfl⟩
  · have e1 : decide (0 ≤ n) = false := decF h1
    have HV : Hid (decide (0 ≤ n ∧ n ≤ m) = false) := decF (fun e => h1 e.1)
    clear h1
    go_enter Tryz.func43, Tryz.ntmps43
    go_wp2
    go_ret
    exact ⟨ret_bool HV.out.symm, rfl⟩
set_option maxRecDepth 200000 in
theorem single_any (n : Int) (w : World) : Calls Tryz.prog 73 #[.int .i64 n] w fun e w' => e = .returned (.agg #[.int .i64 n, .int .i64 n]) ∧ Below w.heap.size w w' := by
  have HB : Hid (Below w.heap.size w (w.alloc (.cells #[.int .i64 n, .int .i64 n] 62))) := Below.allocW _ (Below.refl _ _) (Nat.le_refl _)
  have HK : Hid (Blk (w.alloc (.cells #[.int .i64 n, .int .i64 n] 62)) w.heap.size #[.int .i64 n, .int .i64 n] 62) := Blk.made _ _ _
  go_enter Tryz.func73, Tryz.ntmps73
  go_wp2
  refine bodyPost_ret (results_cell_row Tryz.results73 _ _ w.heap.size _ _ (0, 0) _ rfl HK.out Tryz.underlying62 rfl (by kernel_rfl)) rfl ?_
  exact ⟨rfl, HB.out⟩
theorem inb_ok {ps : Sp} (h : ps.ok = true) : ∀ p ∈ ps, InB p := inb_iff.1 (ok_inb h)
set_option maxRecDepth 200000 in
set_option maxHeartbeats 4000000 in
theorem setAddImpl_any (a : Option Addr) (len cap : Nat) (ps : Sp) (n : Int) (F : List Nat) (w : World) (h : RdP w a len ps F) (hlen : len ≤ 2097152) (hcap : len ≤ cap) :
    Calls Tryz.prog 51 #[.slice a len cap, .int .i64 n] w fun e w' => NewP2 w (ps.add n).1 (ps.add n).2 e w' := by
  have HR : Hid (RdP w a len ps F) := h
  clear h
  go_enter Tryz.func51, Tryz.ntmps51
  go_wp2_with fail
  refine (setOkImpl_any a len cap ps F _ HR.out hlen).mono ?_
  rintro e w1 ⟨rfl, hb⟩
  have HB0 : Hid (Below w.heap.size w w1) := hb
  clear hb
  obtain ⟨d, hd⟩ : ∃ d, d = ps.ok := ⟨_, rfl⟩
  rw [← hd]
  have HD : Hid (d = ps.ok) := hd
  clear hd
  cases d
  · have HV : Hid (ps.add n = (ps, false)) := Sp.add_not (fun e => by rw [← HD.out] at e; cases e.1)
    go_wp2_with fail
    refine (copiedSpans_any a len cap ps F _ (HR.out.below HB0.out) hlen).mono ?_
    rintro e w2 ⟨a', l', c', F', rfl, h1, h2, h3, h4⟩
    have HE : Hid (RdP w2 a' l' ps F' ∧ Own w.heap.size w2 F' ∧ Below w.heap.size w w2 ∧ Capd a' l' c') := ⟨h1, h2.mono HB0.out.size, Below.next HB0.out h3, h4⟩
    clear h1 h2 h3 h4
    go_wp2
    go_ret2
    rw [HV.out]
    exact ⟨a', l', c', F', rfl, HE.out⟩
  go_wp2_with fail
  refine (inRangeP_any _ _ _).mono ?_
  rintro e w2 ⟨rfl, hw2⟩
  have hw2' := hw2.symm
  subst hw2'
  clear hw2
  by_cases hb : 0 ≤ n ∧ n ≤ 9999
  rotate_left
  · rw [decF hb]
    have HV : Hid (ps.add n = (ps, false)) := Sp.add_not (fun e => hb e.2.1)
    clear hb
    go_wp2_with fail
    refine (copiedSpans_any a len cap ps F _ (HR.out.below HB0.out) hlen).mono ?_
    rintro e w2 ⟨a', l', c', F', rfl, h1, h2, h3, h4⟩
    have HE : Hid (RdP w2 a' l' ps F' ∧ Own w.heap.size w2 F' ∧ Below w.heap.size w w2 ∧ Capd a' l' c') := ⟨h1, h2.mono HB0.out.size, Below.next HB0.out h3, h4⟩
    clear h1 h2 h3 h4
    go_wp2
    go_ret2
    rw [HV.out]
    exact ⟨a', l', c', F', rfl, HE.out⟩
  rw [decT hb]
  have HBB : Hid (0 ≤ n ∧ n ≤ 9999) := hb
  clear hb
  go_wp2_with fail
  refine (single_any n _).mono ?_
  rintro e w2 ⟨rfl, hb⟩
  have HB1 : Hid (Below w.heap.size w w2) := Below.next HB0.out hb
  clear hb HB0
  go_wp2_with fail
  have HB2 : Hid (Below w.heap.size w (w2.alloc (.cells #[.int .i64 n, .int .i64 n] 62))) := Below.allocW _ HB1.out (Nat.le_refl _)
  refine (spansOfBoth_any a (some ⟨w2.heap.size, 0, none⟩) len 1 cap 1 ps [(n, n)] F [w2.heap.size] _ (HR.out.below HB2.out) (rdP_one (Blk.made _ _ _)) (by omega) hcap (inb_ok HD.out.symm) (fun p hp => by rw [List.mem_singleton.1 hp]; exact ⟨HBB.out, HBB.out⟩)).mono ?_
  rintro e w3 ⟨a', l', c', F', rfl, h1, h2, h3, h4⟩
  have hadd := both_add (a := ps) (n := n) HD.out.symm HBB.out
  have HA : Hid ((ps.add n).2 = decide (¬ (ps.add n).1 = ps)) := by show _ = _; rw [← hadd.1]; exact hadd.2
  have HE : Hid (RdP w3 a' l' (ps.add n).1 F' ∧ Own w.heap.size w3 F' ∧ Below w.heap.size w w3 ∧ Capd a' l' c') := ⟨by rw [← hadd.1]; exact h1, h2.mono HB2.out.size, Below.next HB2.out h3, h4⟩
  have hl' : l' ≤ 4194304 := by
    have e1 := h1.length
    have e2 := HE.out.1.length
    have e3 : (ps.add n).1.length ≤ ps.length + 1 := by
      unfold Sp.add
      split
      · exact put_length _ _ _
      · simp
    have e4 := HR.out.length
    omega
  clear h1 h2 h3 h4 hadd
  go_wp2_with fail
  refine (slEqualP_any a' a l' len c' cap (ps.add n).1 ps F' F _ HE.out.1 (HR.out.below HE.out.2.2.1) (by omega) (by omega)).mono ?_
  rintro e w4 ⟨rfl, hq⟩
  have HF : Hid (RdP w4 a' l' (ps.add n).1 F' ∧ Own w.heap.size w4 F' ∧ Below w.heap.size w w4 ∧ Capd a' l' c') := ⟨HE.out.1.quiet hq, HE.out.2.1.below HE.out.1.lt (quiet_below hq), Below.next HE.out.2.2.1 (quiet_below hq), HE.out.2.2.2⟩
  obtain ⟨f, hf⟩ : ∃ f, f = decide ((ps.add n).1 = ps) := ⟨_, rfl⟩
  rw [← hf]
  have HG : Hid ((ps.add n).2 = !f) := by
    show _ = _
    rw [HA.out, hf]
    by_cases c : (ps.add n).1 = ps <;> simp [c]
  clear hq HE hf
  go_wp2
  go_ret2
  rw [HG.out]
  exact ⟨a', l', c', F', rfl, HF.out⟩
set_option maxRecDepth 200000 in
set_option maxHeartbeats 4000000 in
theorem joinImpl_any (a b : Option Addr) (la lb ca cb : Nat) (ps qs : Sp) (F G : List Nat) (w : World) (h : RdP w a la ps F) (k : RdP w b lb qs G) (hlen : la + lb ≤ 2097152) (hca : la ≤ ca) :
    Calls Tryz.prog 10 #[.slice a la ca, .slice b lb cb] w fun e w' => NewP2 w (ps.join qs) (ps.ok && qs.ok) e w' := by
  have HR : Hid (RdP w a la ps F ∧ RdP w b lb qs G) := ⟨h, k⟩
  clear h k
  go_enter Tryz.func10, Tryz.ntmps10
  go_wp2_with fail
  refine (setOkImpl_any a la ca ps F _ HR.out.1 (by omega)).mono ?_
  rintro e w1 ⟨rfl, hb⟩
  have HB0 : Hid (Below w.heap.size w w1) := hb
  clear hb
  obtain ⟨d, hd⟩ : ∃ d, d = ps.ok := ⟨_, rfl⟩
  rw [← hd]
  have HD : Hid (d = ps.ok) := hd
  clear hd
  cases d
  · have HV : Hid (ps.join qs = [] ∧ (ps.ok && qs.ok) = false) := ⟨Sp.join_not (by rw [← HD.out]; rfl), by rw [← HD.out]; rfl⟩
    go_wp2
    go_ret2
    rw [HV.out.1, HV.out.2]
    exact ⟨_, 0, 0, [], rfl, RdP.nil, Own.nil, HB0.out, fun _ => rfl, Nat.le_refl _⟩
  go_wp2_with fail
  refine (setOkImpl_any b lb cb qs G _ (HR.out.2.below HB0.out) (by omega)).mono ?_
  rintro e w2 ⟨rfl, hb⟩
  have HB1 : Hid (Below w.heap.size w w2) := Below.next HB0.out hb
  clear hb HB0
  obtain ⟨d, hd⟩ : ∃ d, d = qs.ok := ⟨_, rfl⟩
  rw [← hd]
  have HE : Hid (d = qs.ok) := hd
  clear hd
  cases d
  · have HV : Hid (ps.join qs = [] ∧ (ps.ok && qs.ok) = false) := ⟨Sp.join_not (by rw [← HD.out, ← HE.out]; rfl), by rw [← HD.out, ← HE.out]; rfl⟩
    go_wp2
    go_ret2
    rw [HV.out.1, HV.out.2]
    exact ⟨_, 0, 0, [], rfl, RdP.nil, Own.nil, HB1.out, fun _ => rfl, Nat.le_refl _⟩
  have HV : Hid (both ps qs [] = ps.join qs ∧ (ps.ok && qs.ok) = true) := ⟨both_join HD.out.symm HE.out.symm, by rw [← HD.out, ← HE.out]; rfl⟩
  go_wp2_with fail
  refine (spansOfBoth_any a b la lb ca cb ps qs F G _ (HR.out.1.below HB1.out) (HR.out.2.below HB1.out) (by omega) hca (inb_ok HD.out.symm) (inb_ok HE.out.symm)).mono ?_
  rintro e w3 ⟨a', l', c', F', rfl, g1, g2, g3, g4⟩
  have HN : Hid (RdP w3 a' l' (ps.join qs) F' ∧ Own w.heap.size w3 F' ∧ Below w.heap.size w w3 ∧ Capd a' l' c') := ⟨by rw [← HV.out.1]; exact g1, g2.mono HB1.out.size, Below.next HB1.out g3, g4⟩
  clear g1 g2 g3 g4
  go_wp2
  go_ret2
  rw [HV.out.2]
  exact ⟨a', l', c', F', rfl, HN.out⟩
end Go.Proofs.YtgkbhhlkaifnoaaGreatDoor
/- The walk through the program's isSeq. No statement of the seat is proved here. -/
namespace Go.Proofs.YtgkbhhlkaifnoaaGreatDoor
open Go.RowKit
set_option maxRecDepth 200000 in
theorem isSeq_any (n : Int) (w : World) : Calls Tryz.prog 86 #[.int .i64 n] w fun e w' => e = .returned (.bool (decide (1 ≤ n ∧ n ≤ 60))) ∧ w' = w := by
  have hd : ∀ d : Bool, d = decide (1 ≤ n ∧ n ≤ 60) → (d = true ↔ 1 ≤ n ∧ n ≤ 60) := by rintro d rfl; simp
  generalize decide (1 ≤ n ∧ n ≤ 60) = d at *
  have hd := hd d rfl
  by_cases h : 1 ≤ n
  · by_cases h2 : n ≤ 60
    · have e : Hid (d = true) := hd.2 ⟨h, h2⟩
      clear hd
      go_enter Tryz.func86, Tryz.ntmps86
      go_wp2
      go_ret
      rw [e.out]; exact ⟨rfl, rfl⟩
    · have e : Hid (d = false) := show d = false by cases d; rfl; exact absurd (hd.1 rfl).2 h2
      clear hd
      go_enter Tryz.func86, Tryz.ntmps86
      go_wp2
      go_ret
      rw [e.out]; exact ⟨rfl, rfl⟩
  · have e : Hid (d = false) := show d = false by cases d; rfl; exact absurd (hd.1 rfl).1 h
    clear hd
    go_enter Tryz.func86, Tryz.ntmps86
    go_wp2
    go_ret
    rw [e.out]; exact ⟨rfl, rfl⟩
end Go.Proofs.YtgkbhhlkaifnoaaGreatDoor
/- The walks through SeatData, of the program (by errors.As). No statement of the seat is proved here. -/
namespace Go.Proofs.YtgkbhhlkaifnoaaGreatDoor
open Go.RowKit
/-- What mayTake answers, by the code. -/
def errOf (c : Int) : Value := if c = 0 then .nilIface else .iface 85 (.agg #[.int .i64 c])
set_option maxRecDepth 200000 in
set_option maxHeartbeats 8000000 in
theorem mayTake_any (v : Value) (x : Se) (per ep sq : Int) (F : List Nat) (w : World) (h : RdSe w v x F) (hl : x.taken.length ≤ 2097152) :
    Calls Tryz.prog 50 #[v, .int .i64 per, .int .i64 ep, .int .i64 sq] w fun e w' => e = .returned (errOf (x.data per ep sq).2) ∧ Below w.heap.size w w' := by
  obtain ⟨b, l, c, rfl, hP, hcp⟩ := h
  have HX : Hid (RdSe w (.agg #[.int .i64 x.epoch, .int .i64 x.granted, .slice b l c, .int .i64 x.merged, .int .i64 x.last]) x F ∧ x.taken.length ≤ 2097152) := ⟨⟨b, l, c, rfl, hP, hcp⟩, hl⟩
  have HP : Hid (RdP w b l x.taken F ∧ l ≤ 2097152) := ⟨hP, by rw [← hP.length]; exact hl⟩
  clear hP hl hcp
  have HB : Hid (Blk (w.alloc (.cells #[.int .i64 x.epoch, .int .i64 x.granted, .slice b l c, .int .i64 x.merged, .int .i64 x.last] 45)) w.heap.size #[.int .i64 x.epoch, .int .i64 x.granted, .slice b l c, .int .i64 x.merged, .int .i64 x.last] 45 ∧ Below w.heap.size w (w.alloc (.cells #[.int .i64 x.epoch, .int .i64 x.granted, .slice b l c, .int .i64 x.merged, .int .i64 x.last] 45))) := ⟨Blk.made _ _ _, (Below.refl _ _).alloc (Nat.le_refl _) _⟩
  go_enter Tryz.func50, Tryz.ntmps50
  go_wp2_with (first | go_skip | (with_reducible refine stopLoad 45 rfl ?_) | (with_reducible refine stopStore 45 rfl ?_))
  refine load_known 45 w.heap.size #[.int .i64 x.epoch, .int .i64 x.granted, .slice b l c, .int .i64 x.merged, .int .i64 x.last] 45 _ HB.out.1 rfl rfl rfl Tryz.underlying45 rfl infoSeI ?_
  go_wp2_with fail
  refine (seOkImpl_any _ x per F _ (HX.out.1.below HB.out.2) HX.out.2).mono ?_
  rintro e w2 ⟨rfl, hb⟩
  have HS : Hid (Blk w2 w.heap.size #[.int .i64 x.epoch, .int .i64 x.granted, .slice b l c, .int .i64 x.merged, .int .i64 x.last] 45 ∧ Below w.heap.size w w2) := ⟨HB.out.1.below hb, Below.next HB.out.2 hb⟩
  obtain ⟨d, hd⟩ : ∃ d, d = x.ok per := ⟨_, rfl⟩
  rw [← hd]
  have HD : Hid (d = x.ok per) := hd
  clear hd hb HB
  cases d
  · have HV : Hid (errOf (x.data per ep sq).2 = .iface 85 (.agg #[.int .i64 4])) := by show _ = _; rw [Se.data_bad (fun q => by have := HD.out; rw [q.1] at this; cases this)]; rfl
    go_wp2
    go_ret
    rw [HV.out]
    exact ⟨rfl, HS.out.2⟩
  go_wp2_with fail
  refine (isSeq_any sq _).mono ?_
  rintro e w3 ⟨rfl, hq⟩
  have hq' := hq.symm
  subst hq'
  clear hq
  obtain ⟨d2, hd2⟩ : ∃ d, d = decide (1 ≤ sq ∧ sq ≤ 60) := ⟨_, rfl⟩
  rw [← hd2]
  have HD2 : Hid (d2 = decide (1 ≤ sq ∧ sq ≤ 60)) := hd2
  clear hd2
  cases d2
  · have HV : Hid (errOf (x.data per ep sq).2 = .iface 85 (.agg #[.int .i64 4])) := by show _ = _; rw [Se.data_bad (fun q => of_decide_eq_false HD2.out.symm q.2)]; rfl
    go_wp2
    go_ret
    rw [HV.out]
    exact ⟨rfl, HS.out.2⟩
  have HH : Hid (x.ok per = true ∧ 1 ≤ sq ∧ sq ≤ 60) := ⟨HD.out.symm, of_decide_eq_true HD2.out.symm⟩
  have c0 := HS.out.1.cell 0
  simp only [aT, aZ] at c0
  by_cases hE : ep = x.epoch
  rotate_left
  · have HV : Hid (errOf (x.data per ep sq).2 = .iface 85 (.agg #[.int .i64 2])) := by show _ = _; rw [Se.data_epoch HH.out hE]; rfl
    have e0 : (ep != x.epoch) = true := by simpa using hE
    clear hE
    go_wp2
    go_ret
    rw [HV.out]
    exact ⟨rfl, HS.out.2⟩
  have HE : Hid (ep = x.epoch) := hE
  have e0 : (ep != x.epoch) = false := by simpa using hE
  have c2 := HS.out.1.cell 2
  simp only [aT, aS, aZ] at c2
  clear hE
  go_wp2_with fail
  refine (hasImpl_any b l c x.taken sq F _ (HP.out.1.below HS.out.2) HP.out.2).mono ?_
  rintro e w4 ⟨rfl, hb⟩
  have HS : Hid (Blk w4 w.heap.size #[.int .i64 x.epoch, .int .i64 x.granted, .slice b l c, .int .i64 x.merged, .int .i64 x.last] 45 ∧ Below w.heap.size w w4) := ⟨HS.out.1.below hb, Below.next HS.out.2 hb⟩
  obtain ⟨d3, hd3⟩ : ∃ d, d = x.taken.has sq := ⟨_, rfl⟩
  rw [← hd3]
  have HD3 : Hid (d3 = x.taken.has sq) := hd3
  clear hd3 hb c0 c2 e0
  cases d3
  rotate_left
  · have HV : Hid (errOf (x.data per ep sq).2 = .iface 85 (.agg #[.int .i64 1])) := by show _ = _; rw [Se.data_twice HH.out HE.out HD3.out.symm]; rfl
    go_wp2
    go_ret
    rw [HV.out]
    exact ⟨rfl, HS.out.2⟩
  have c1 := HS.out.1.cell 1
  simp only [aT, aS, aZ] at c1
  by_cases hG : x.granted < sq
  · have HV : Hid (errOf (x.data per ep sq).2 = .iface 85 (.agg #[.int .i64 3])) := by show _ = _; rw [Se.data_credit HH.out HE.out HD3.out.symm hG]; rfl
    have e1 : decide (x.granted < sq) = true := decide_eq_true hG
    go_wp2
    go_ret
    rw [HV.out]
    exact ⟨rfl, HS.out.2⟩
  · have HV : Hid (errOf (x.data per ep sq).2 = .nilIface) := by show _ = _; rw [Se.data_new HH.out HE.out HD3.out.symm hG]; rfl
    have e1 : decide (x.granted < sq) = false := decide_eq_false hG
    go_wp2
    go_ret
    rw [HV.out]
    exact ⟨rfl, HS.out.2⟩
set_option maxRecDepth 200000 in
set_option maxHeartbeats 8000000 in
theorem seDataImpl_any (v : Value) (x : Se) (per : Int) (ep : Int) (sq : Int) (F : List Nat) (w : World) (h : RdSe w v x F) (hl : x.taken.length ≤ 1048576) (hE : ErrAt w) :
    Calls Tryz.prog 13 #[v, .int .i64 per, .int .i64 ep, .int .i64 sq] w fun e w' => NewSeI w (x.data per ep sq) e w' := by
  obtain ⟨b, l, c, rfl, hP, hcp⟩ := h
  have HX : Hid (RdSe w (.agg #[.int .i64 x.epoch, .int .i64 x.granted, .slice b l c, .int .i64 x.merged, .int .i64 x.last]) x F ∧ x.taken.length ≤ 2097152) := ⟨⟨b, l, c, rfl, hP, hcp⟩, by omega⟩
  have HP : Hid (RdP w b l x.taken F ∧ l ≤ 2097152 ∧ x.taken.length = l ∧ Capd b l c) := ⟨hP, by rw [← hP.length]; omega, hP.length, hcp⟩
  have HSZ : Hid (0 ≤ x.taken.size ∧ x.taken.size ≤ 20971520000) := by have := Sp.size_range x.taken; exact ⟨this.1, by omega⟩
  have HER : Hid (ErrAt w) := hE
  clear hP hl hcp hE
  have HT : Hid (Two w #[.int .i64 x.epoch, .int .i64 x.granted, .slice b l c, .int .i64 x.merged, .int .i64 x.last] #[.int .i64 0, .int .i64 0, .slice none 0 0, .int .i64 0, .int .i64 0] 45 ((w.alloc (.cells #[.int .i64 x.epoch, .int .i64 x.granted, .slice b l c, .int .i64 x.merged, .int .i64 x.last] 45)).alloc (.cells #[.int .i64 0, .int .i64 0, .slice none 0 0, .int .i64 0, .int .i64 0] 45))) := Two.made w _ _ _
  go_enter Tryz.func13, Tryz.ntmps13
  go_wp2_with (first | go_skip | (with_reducible refine stopLoad 45 rfl ?_) | (with_reducible refine stopStore 45 rfl ?_))
  obtain ⟨W0, hW0⟩ : ∃ W, W = (w.alloc (.cells #[.int .i64 x.epoch, .int .i64 x.granted, .slice b l c, .int .i64 x.merged, .int .i64 x.last] 45)).alloc (.cells #[.int .i64 0, .int .i64 0, .slice none 0 0, .int .i64 0, .int .i64 0] 45) := ⟨_, rfl⟩
  rw [← hW0] at HT ⊢
  clear hW0
  refine load_known 45 w.heap.size #[.int .i64 x.epoch, .int .i64 x.granted, .slice b l c, .int .i64 x.merged, .int .i64 x.last] 45 _ HT.out.fst rfl rfl rfl Tryz.underlying45 rfl infoSeI ?_
  go_wp2_with fail
  refine (copiedSeat_any _ x F _ (HX.out.1.below HT.out.bel) HX.out.2).mono ?_
  rintro e w1 ⟨zv, G, rfl, ⟨p, n, k, rfl, rp, kp⟩, oz, bz⟩
  have HC1 : Hid (Two w #[.int .i64 x.epoch, .int .i64 x.granted, .slice b l c, .int .i64 x.merged, .int .i64 x.last] #[.int .i64 0, .int .i64 0, .slice none 0 0, .int .i64 0, .int .i64 0] 45 W0 ∧ RdP w1 p n x.taken G ∧ Capd p n k ∧ Own W0.heap.size w1 G ∧ Below W0.heap.size W0 w1) := ⟨HT.out, rp, kp, oz, bz⟩
  clear rp kp oz bz HT
  go_wp2_with (first | go_skip | (with_reducible refine stopLoad 45 rfl ?_) | (with_reducible refine stopStore 45 rfl ?_))
  refine store_fresh 45 w1.heap.size rfl #[.int .i64 0, .int .i64 0, .slice none 0 0, .int .i64 0, .int .i64 0] #[.int .i64 x.epoch, .int .i64 x.granted, .slice p n k, .int .i64 x.merged, .int .i64 x.last] 45 rfl rfl rfl rfl infoSeI rfl (by simp [Value.oneCell']) ?_
  intro w2 hg hb
  have H2 : Hid (SeW w #[.int .i64 x.epoch, .int .i64 x.granted, .slice b l c, .int .i64 x.merged, .int .i64 x.last] w1.heap.size x.epoch x.granted x.merged x.last x.taken p n k G w2) := SeW.start HC1.out.1 HC1.out.2.1 HC1.out.2.2.1 HC1.out.2.2.2.1 HC1.out.2.2.2.2 hg hb
  obtain ⟨L, hL⟩ : ∃ L, L = w1.heap.size := ⟨_, rfl⟩
  rw [← hL] at H2 ⊢
  clear hg hb hL HC1
  have HM : Hid (SeW w #[.int .i64 x.epoch, .int .i64 x.granted, .slice b l c, .int .i64 x.merged, .int .i64 x.last] L x.epoch x.granted x.merged x.last x.taken p n k G (w2.alloc (.cells #[.int .i64 0] 85)) ∧ Blk (w2.alloc (.cells #[.int .i64 0] 85)) w2.heap.size #[.int .i64 0] 85 ∧ ∀ b ∈ G, b < w2.heap.size) := ⟨H2.out.below ((Below.refl _ _).alloc (Nat.le_refl _) _), Blk.made _ _ _, H2.out.rp.lt⟩
  have HLM : Hid (L < w2.heap.size ∧ w.heap.size + 2 ≤ L) := ⟨H2.out.loc.lt, H2.out.gt⟩
  obtain ⟨M, hM⟩ : ∃ M, M = w2.heap.size := ⟨_, rfl⟩
  go_wp2_with (first | go_skip | (with_reducible refine stopLoad 45 rfl ?_) | (with_reducible refine stopStore 45 rfl ?_))
  obtain ⟨w3, hw3⟩ : ∃ W, W = w2.alloc (.cells #[.int .i64 0] 85) := ⟨_, rfl⟩
  rw [← hw3, ← hM] at HM
  rw [← hM] at HLM
  rw [← hw3]
  rw [← hM]
  clear hw3 hM H2
  refine load_known 45 w.heap.size #[.int .i64 x.epoch, .int .i64 x.granted, .slice b l c, .int .i64 x.merged, .int .i64 x.last] 45 _ HM.out.1.box rfl rfl rfl Tryz.underlying45 rfl infoSeI ?_
  go_wp2_with fail
  refine (mayTake_any _ x per ep sq F _ (HX.out.1.below HM.out.1.bel) HX.out.2).mono ?_
  rintro e w4 ⟨rfl, hb⟩
  have HM : Hid (SeW w #[.int .i64 x.epoch, .int .i64 x.granted, .slice b l c, .int .i64 x.merged, .int .i64 x.last] L x.epoch x.granted x.merged x.last x.taken p n k G w4 ∧ Blk w4 M #[.int .i64 0] 85 ∧ ∀ b ∈ G, b < M) := ⟨HM.out.1.below hb, HM.out.2.1.below hb, HM.out.2.2⟩
  obtain ⟨z, hz⟩ : ∃ z, z = x.data per ep sq := ⟨_, rfl⟩
  rw [← hz]
  have HZ : Hid (x.data per ep sq = z) := hz.symm
  clear hz hb
  obtain ⟨y, cd⟩ := z
  by_cases h0 : cd = 0
  rotate_left
  · have HY : Hid (y = x) := by
      have q := HZ.out
      show y = x
      unfold Se.data at q
      split at q
      · exact (Prod.mk.inj q).1.symm
      split at q
      · exact (Prod.mk.inj q).1.symm
      split at q
      · exact (Prod.mk.inj q).1.symm
      split at q
      · exact (Prod.mk.inj q).1.symm
      · exact absurd (Prod.mk.inj q).2.symm h0
    have he : errOf ((y, cd) : Se × Int).2 = .iface 85 (.agg #[.int .i64 cd]) := by unfold errOf; rw [if_neg h0]
    rw [he]
    clear he h0
    go_wp2_with fail
    refine (asHit_any cd 0 M _ HM.out.2.1 (HER.out.below HM.out.1.bel)).mono ?_
    rintro e w5 ⟨rfl, w6, hb, rfl⟩
    have hlm := HLM.out
    have HN : Hid (SeW w #[.int .i64 x.epoch, .int .i64 x.granted, .slice b l c, .int .i64 x.merged, .int .i64 x.last] L x.epoch x.granted x.merged x.last x.taken p n k G (w6.setRow M #[.int .i64 cd]) ∧ Blk (w6.setRow M #[.int .i64 cd]) M #[.int .i64 cd] 85) := ⟨(HM.out.1.below hb).row (by omega) (by omega) (fun hx => by have := HM.out.2.2 _ hx; omega) _, (HM.out.2.1.below hb).setRow⟩
    obtain ⟨w7, hw7⟩ : ∃ W, W = w6.setRow M #[.int .i64 cd] := ⟨_, rfl⟩
    rw [← hw7] at HN ⊢
    clear hw7 hb HM hlm
    go_wp2_with fail
    obtain ⟨Y0, hY0⟩ : ∃ W, W = w7.drew := ⟨_, rfl⟩
    have HN : Hid (SeW w #[.int .i64 x.epoch, .int .i64 x.granted, .slice b l c, .int .i64 x.merged, .int .i64 x.last] L x.epoch x.granted x.merged x.last x.taken p n k G Y0 ∧ Blk Y0 M #[.int .i64 cd] 85) := by rw [hY0]; exact ⟨HN.out.1.drew, HN.out.2.below (Below.refl _ _).drew⟩
    refine wp_region_held (S := fun W => Blk W L #[.int .i64 x.epoch, .int .i64 x.granted, .slice p n k, .int .i64 x.merged, .int .i64 x.last] 45 ∧ Blk W M #[.int .i64 cd] 85) (by kernel_rfl) ?_
    change wpAnyH _ _ _ _ _ _ _ _ (World.drew _)
    rw [← hY0]
    clear hY0
    refine takeH (o := ?o37) 0 (.agg #[.int .i64 x.epoch, .int .i64 x.granted, .slice p n k, .int .i64 x.merged, .int .i64 x.last]) ?h37 ?r37
    case h37 => simp only [aT, aZ]; rfl
    refine ⟨_, by simp [Act.put]; rfl, by kernel_rfl, by kernel_rfl, by kernel_rfl, fun _ _ _ h => h, (yields_whole 45 _ #[.int .i64 x.epoch, .int .i64 x.granted, .slice p n k, .int .i64 x.merged, .int .i64 x.last] 45 _ rfl rfl rfl Tryz.underlying45 rfl infoSeI (fun W hW => hW.1)), ⟨HN.out.1.loc, HN.out.2⟩, ?_⟩
    refine takeH (o := ?o38) 1 (.pointer (some ⟨M, 0, none⟩)) ?h38 ?r38
    case h38 => simp only [aT, aS, aZ]; rfl
    refine ⟨_, by simp [Act.put]; rfl, by kernel_rfl, by kernel_rfl, by kernel_rfl, fun _ _ _ h => h, (.inl ⟨rfl, fun W _ => by kernel_rfl⟩), ⟨HN.out.1.loc, HN.out.2⟩, ?_⟩
    refine takeH (o := ?o39) 2 (.int .i64 cd) ?h39 ?r39
    case h39 => simp only [aT, aS, aZ]; rfl
    refine ⟨_, by simp [Act.put]; rfl, by kernel_rfl, by kernel_rfl, by kernel_rfl, fun _ _ _ h => h, (.inl ⟨rfl, fun W hW => by have c := hW.2.cell 0; simp only [aT, aZ] at c; go_simp⟩), ⟨HN.out.1.loc, HN.out.2⟩, ?_⟩
    refine onlyH (o := ?o40) 3 (by kernel_rfl) ?h40 ?r40
    case h40 => simp only [aT, aS, aZ]; rfl
    intro K hK
    have hlm := HLM.out
    refine op_store 45 (w.heap.size + 1) #[.int .i64 0, .int .i64 0, .slice none 0 0, .int .i64 0, .int .i64 0] #[.int .i64 x.epoch, .int .i64 x.granted, .slice p n k, .int .i64 x.merged, .int .i64 x.last] 45 rfl rfl rfl rfl HN.out.1.res infoSeI rfl (by simp [Value.oneCell']) ⟨_, by simp [Act.put]; rfl, hK _ _ ⟨⟨HN.out.1.loc.setRowOther (by omega), HN.out.2.setRowOther (by omega)⟩, ?_⟩⟩
    clear hK
    refine takeH (o := ?o41) 4 (.int .i64 cd) ?h41 ?r41
    case h41 => simp only [aT, aS, aZ]; rfl
    refine ⟨_, by simp [Act.put]; rfl, by kernel_rfl, by kernel_rfl, by kernel_rfl, fun _ _ _ h => h, (.inl ⟨rfl, fun W _ => by kernel_rfl⟩), ⟨HN.out.1.loc.setRowOther (by omega), HN.out.2.setRowOther (by omega)⟩, ?_⟩
    refine wpAnyH_done (by kernel_rfl) ?_ _
    clear hlm
    go_wp2
    refine bodyPost_ret (results_row_tmp Tryz.results13 _ _ (w.heap.size + 1) _ _ _ _ rfl HN.out.1.res.setRow Tryz.underlying45 rfl infoSeI) rfl ?_
    rw [HZ.out, HY.out]
    exact ⟨_, G, rfl, HN.out.1.done.1, HN.out.1.done.2.1, HN.out.1.done.2.2⟩
  subst h0
  have HT : Hid ((x.ok per = true ∧ 1 ≤ sq ∧ sq ≤ 60) ∧ x.taken.has sq = false ∧ y = x.took sq) := by
    have q := HZ.out
    show _ ∧ _
    unfold Se.data at q
    split at q
    · exact absurd (Prod.mk.inj q).2 (by omega)
    split at q
    · exact absurd (Prod.mk.inj q).2 (by omega)
    split at q
    · exact absurd (Prod.mk.inj q).2 (by omega)
    split at q
    · exact absurd (Prod.mk.inj q).2 (by omega)
    · rename_i h1 h2 h3 h4
      exact ⟨Decidable.not_not.1 h1, by simpa using h3, (Prod.mk.inj q).1.symm⟩
  have he : errOf ((y, (0 : Int)) : Se × Int).2 = .nilIface := rfl
  rw [he]
  clear he
  go_wp2_with fail
  refine (asNil_any _ _).mono ?_
  rintro e w5 ⟨rfl, hq⟩
  have hq' := hq.symm
  subst hq'
  clear hq
  have c2 := HM.out.1.box.cell 2
  simp only [aT, aS, aZ] at c2
  go_wp2_with fail
  refine (setAddImpl_any b l c x.taken sq F _ (HP.out.1.below HM.out.1.bel) HP.out.2.1 HP.out.2.2.2.2).mono ?_
  rintro e w6 ⟨bq, nq, cq, Gq, rfl, r1, r2, r3, r4⟩
  have hlt := HM.out.1.loc.lt
  have hlg := HM.out.1.gt
  have HQ : Hid (RdP w6 bq nq (put x.taken (sq, sq) false) Gq ∧ Capd bq nq cq ∧ Own (w.heap.size + 2) w6 Gq ∧ L ∉ Gq) := ⟨by rw [← Se.took_eq (Se.right HT.out.1.1) HT.out.1.2 HT.out.2.1]; exact r1, r4, r2.mono (by omega), fun hx => by have := r2.ge _ hx; omega⟩
  have H6 : Hid (SeW w #[.int .i64 x.epoch, .int .i64 x.granted, .slice b l c, .int .i64 x.merged, .int .i64 x.last] L x.epoch x.granted x.merged x.last x.taken p n k G w6) := HM.out.1.below r3
  clear r1 r2 r3 r4 hlt hlg HM c2
  have c2 := H6.out.loc.cell 2
  have f2 := H6.out.loc.frozen 2
  simp only [aT, aS, aZ] at c2
  go_wp2_with (first | go_skip | (with_reducible refine stopLoad 45 rfl ?_) | (with_reducible refine stopStore 45 rfl ?_))
  have H7 : Hid (SeW w #[.int .i64 x.epoch, .int .i64 x.granted, .slice b l c, .int .i64 x.merged, .int .i64 x.last] L x.epoch x.granted x.merged x.last (put x.taken (sq, sq) false) bq nq cq Gq (w6.setCell ⟨L, 2, none⟩ (.slice bq nq cq))) := H6.out.put HQ.out.1 HQ.out.2.1 HQ.out.2.2.1 HQ.out.2.2.2
  obtain ⟨w7, hw7⟩ : ∃ W, W = w6.setCell ⟨L, 2, none⟩ (.slice bq nq cq) := ⟨_, rfl⟩
  rw [← hw7] at H7 ⊢
  clear hw7 c2 f2 H6 HQ
  refine load_known 45 L #[.int .i64 x.epoch, .int .i64 x.granted, .slice bq nq cq, .int .i64 x.merged, .int .i64 x.last] 45 _ H7.out.loc rfl rfl rfl Tryz.underlying45 rfl infoSeI ?_
  go_wp2_with (first | go_skip | (with_reducible refine stopLoad 45 rfl ?_) | (with_reducible refine stopStore 45 rfl ?_))
  refine store_known 45 (w.heap.size + 1) _ #[.int .i64 x.epoch, .int .i64 x.granted, .slice bq nq cq, .int .i64 x.merged, .int .i64 x.last] 45 H7.out.res rfl rfl rfl rfl infoSeI rfl (by simp [Value.oneCell']) ?_
  go_wp2
  refine bodyPost_ret (results_row_tmp Tryz.results13 _ _ (w.heap.size + 1) _ _ _ _ rfl H7.out.res.setRow Tryz.underlying45 rfl infoSeI) rfl ?_
  rw [HZ.out, HT.out.2.2]
  exact ⟨_, Gq, rfl, H7.out.done.1, H7.out.done.2.1, H7.out.done.2.2⟩
end Go.Proofs.YtgkbhhlkaifnoaaGreatDoor
/- How many numbers a set has. No statement of the seat is proved here. -/
namespace Go.Proofs.YtgkbhhlkaifnoaaGreatDoor
open Go.RowKit
/-- How many of the first N numbers f picks. -/
def cnt (f : Int → Bool) : Nat → Int
  | 0 => 0
  | k + 1 => cnt f k + if f k then 1 else 0
theorem cnt_nonneg (f : Int → Bool) : ∀ N, 0 ≤ cnt f N
  | 0 => Int.le_refl _
  | k + 1 => by have := cnt_nonneg f k; rw [cnt]; split <;> omega
theorem cnt_or (f g : Int → Bool) : ∀ N, cnt (fun n => f n || g n) N + cnt (fun n => f n && g n) N = cnt f N + cnt g N
  | 0 => rfl
  | k + 1 => by
    have := cnt_or f g k
    simp only [cnt]
    by_cases hf : f k = true <;> by_cases hg : g k = true <;> simp [hf, hg] <;> omega
theorem cnt_zero {f : Int → Bool} : ∀ {N : Nat}, cnt f N = 0 ↔ ∀ k : Nat, k < N → f k = false
  | 0 => ⟨fun _ k hk => by omega, fun _ => rfl⟩
  | N + 1 => by
    have h0 := cnt_nonneg f N
    have ih := cnt_zero (f := f) (N := N)
    rw [cnt]
    constructor
    · intro h k hk
      cases hf : f N with
      | true => rw [hf] at h; simp at h; omega
      | false =>
        rw [hf] at h
        by_cases c : k = N
        · subst c; exact hf
        · exact ih.1 (by simpa using h) k (by omega)
    · intro h
      rw [ih.2 (fun k hk => h k (by omega)), h N (by omega)]
      rfl
theorem cnt_congr {f g : Int → Bool} : ∀ {N : Nat}, (∀ k : Nat, k < N → f k = g k) → cnt f N = cnt g N
  | 0, _ => rfl
  | N + 1, h => by rw [cnt, cnt, cnt_congr (fun k hk => h k (by omega)), h N (by omega)]
theorem cnt_span (lo hi : Int) (h0 : 0 ≤ lo) (h1 : lo ≤ hi + 1) : ∀ N : Nat, hi < N ∨ (N : Int) ≤ hi + 1 → cnt (fun n => decide (lo ≤ n ∧ n ≤ hi)) N = max 0 (min (N : Int) (hi + 1) - lo)
  | 0, _ => by simp only [cnt]; omega
  | N + 1, h => by
    have ih := cnt_span lo hi h0 h1 N (by omega)
    rw [cnt, ih]
    by_cases c : lo ≤ (N : Int) ∧ (N : Int) ≤ hi
    · rw [decT c, if_pos rfl]; omega
    · rw [decF c, if_neg (by simp)]; omega
theorem sum_cnt : ∀ {ps : Sp} {l : Int}, okFrom l ps → 0 ≤ l → ∀ N : Nat, 9999 < N → Sp.sum ps = cnt (Sp.has ps) N
  | [], _, _, _, N, _ => by
    rw [cnt_zero.2 (fun k _ => has_nil k)]; rfl
  | p :: ps, l, h, h0, N, hN => by
    obtain ⟨⟨a1, a2, a3⟩, a4⟩ := h
    have ih := sum_cnt a4 (by omega) N hN
    have e := cnt_or (fun n => decide (p.1 ≤ n ∧ n ≤ p.2)) (Sp.has ps) N
    have z : cnt (fun n => decide (p.1 ≤ n ∧ n ≤ p.2) && Sp.has ps n) N = 0 := cnt_zero.2 (fun k _ => by
      cases hb : Sp.has ps k with
      | false => simp
      | true =>
        have := inS_ge a4 hb
        rw [decF (by omega)]
        rfl)
    have c := cnt_span p.1 p.2 (by omega) (by omega) N (by omega)
    have s : Sp.sum (p :: ps) = (p.2 - p.1 + 1) + Sp.sum ps := by simp [Sp.sum]
    have e2 : cnt (Sp.has (p :: ps)) N = cnt (fun n => decide (p.1 ≤ n ∧ n ≤ p.2) || Sp.has ps n) N := rfl
    rw [s, e2, ih]
    omega
theorem size_cnt {ps : Sp} (h : ps.ok = true) : ps.size = cnt ps.has 10000 := by
  rw [Sp.size_ok h]
  exact sum_cnt (ok_iff.1 h) (Int.le_refl _) 10000 (by omega)
theorem join_right {a b : Sp} (ha : a.ok = true) (hb : b.ok = true) : (a.join b).ok = true ∧ ∀ n, (a.join b).has n = (a.has n || b.has n) := by
  rw [Sp.join_yes ha hb]
  obtain ⟨j1, j2⟩ := join_ok (ok_iff.1 ha) (ok_iff.1 hb)
  refine ⟨ok_iff.2 j1, fun n => ?_⟩
  have := j2 n
  unfold InS at this
  rw [Bool.eq_iff_iff, this, Bool.or_eq_true]
theorem join_comm {a b : Sp} (ha : a.ok = true) (hb : b.ok = true) : a.join b = b.join a := by
  obtain ⟨i1, i2⟩ := join_right ha hb
  obtain ⟨j1, j2⟩ := join_right hb ha
  exact sp_ext (ok_iff.1 i1) (ok_iff.1 j1) (fun n => by unfold InS; rw [i2, j2, Bool.or_comm])
theorem noMeet_iff {a b : Sp} (ha : okFrom 0 a) (hb : okFrom 0 b) : noMeet a b = true ↔ ∀ n, (a.has n && b.has n) = false := by
  unfold noMeet
  simp only [List.all_eq_true]
  constructor
  · intro h n
    rw [Bool.and_eq_false_iff]
    cases h1 : a.has n with
    | false => exact .inl rfl
    | true =>
      right
      cases h2 : b.has n with
      | false => rfl
      | true =>
        exfalso
        unfold Sp.has at h1 h2
        rw [List.any_eq_true] at h1 h2
        obtain ⟨p, hp, e1⟩ := h1
        obtain ⟨q, hq, e2⟩ := h2
        have e1 := of_decide_eq_true e1
        have e2 := of_decide_eq_true e2
        have := h p hp q hq
        unfold meet at this
        rw [decT (by omega)] at this
        cases this
  · intro h p hp q hq
    have h1 := okFrom_mem ha p hp
    have h2 := okFrom_mem hb q hq
    cases hm : meet p q with
    | false => rfl
    | true =>
      unfold meet at hm
      have hm := of_decide_eq_true hm
      have e1 : a.has (max p.1 q.1) = true := by unfold Sp.has; rw [List.any_eq_true]; exact ⟨p, hp, decT (by omega)⟩
      have e2 : b.has (max p.1 q.1) = true := by unfold Sp.has; rw [List.any_eq_true]; exact ⟨q, hq, decT (by omega)⟩
      have := h (max p.1 q.1)
      rw [e1, e2] at this
      cases this
theorem join_size {a b : Sp} (ha : a.ok = true) (hb : b.ok = true) : (a.join b).size ≤ a.size + b.size ∧ (a.apart b = true ↔ (a.join b).size = a.size + b.size) := by
  obtain ⟨j1, j2⟩ := join_right ha hb
  rw [size_cnt j1, size_cnt ha, size_cnt hb, cnt_congr (g := fun n => a.has n || b.has n) (fun k _ => j2 k)]
  have e := cnt_or a.has b.has 10000
  have z := cnt_nonneg (fun n => a.has n && b.has n) 10000
  refine ⟨by omega, ?_⟩
  rw [apart_eq, ha, hb]
  simp only [Bool.and_self, Bool.true_and]
  rw [noMeet_iff (ok_iff.1 ha) (ok_iff.1 hb)]
  constructor
  · intro h
    have : cnt (fun n => a.has n && b.has n) 10000 = 0 := cnt_zero.2 (fun k _ => h k)
    omega
  · intro h n
    have hz : cnt (fun n => a.has n && b.has n) 10000 = 0 := by omega
    by_cases c : 0 ≤ n ∧ n ≤ 9999
    · have := cnt_zero.1 hz n.toNat (by omega)
      rw [show ((n.toNat : Nat) : Int) = n by omega] at this
      exact this
    · rw [Bool.and_eq_false_iff]
      left
      cases h1 : a.has n with
      | false => rfl
      | true =>
        exfalso
        have x1 := inS_ge (ok_iff.1 ha) h1
        have x2 := inS_le (ok_iff.1 ha) h1
        exact c ⟨x1, x2⟩
theorem add_right {a : Sp} {n : Int} (h : (a.add n).2 = true) : (a.add n).1.has n = true ∧ (a.add n).1.size = a.size + 1 ∧ a.has n = false := by
  by_cases c : a.ok = true ∧ (0 ≤ n ∧ n ≤ 9999) ∧ a.has n = false
  · obtain ⟨c1, c2, c3⟩ := c
    rw [Sp.add_yes c1 c2 c3]
    obtain ⟨j1, j2⟩ := put_ok (x := (n, n)) (ok_iff.1 c1) c2.1 (Int.le_refl _) c2.2
    refine ⟨(j2 n).2 (.inr ⟨Int.le_refl _, Int.le_refl _⟩), ?_, c3⟩
    rw [size_cnt (ok_iff.2 j1), size_cnt c1]
    have e := cnt_or a.has (fun m => decide (n ≤ m ∧ m ≤ n)) 10000
    have z : cnt (fun m => a.has m && decide (n ≤ m ∧ m ≤ n)) 10000 = 0 := cnt_zero.2 (fun k _ => by
      by_cases e : (k : Int) = n
      · rw [e, c3]; rfl
      · rw [decF (by omega), Bool.and_false])
    have s := cnt_span n n c2.1 (by omega) 10000 (by omega)
    have g : cnt (put a (n, n) false).has 10000 = cnt (fun m => a.has m || decide (n ≤ m ∧ m ≤ n)) 10000 := cnt_congr (fun k _ => by
      have := j2 (k : Int)
      unfold InS at this
      rw [Bool.eq_iff_iff, this, Bool.or_eq_true, decide_eq_true_eq])
    rw [g]
    omega
  · rw [Sp.add_not c] at h
    cases h
end Go.Proofs.YtgkbhhlkaifnoaaGreatDoor
/- The library's proved contracts, laid at this program by the kit's own command; no statement of the seat is proved here. -/
namespace Go.Proofs
open Go.Shelf
def Tryz.lays156_ren : Go.Shelf.Ren := ⟨fun | 156 => 40 | 165 => 75 | 166 => 76 | 169 => 77 | 240 => 100 | 241 => 101 | 276 => 115 | 277 => 116 | n => n, fun | 31 => 75 | 9 => 9 | 3 => 3 | 4 => 4 | 0 => 0 | 20 => 20 | 72 => 110 | 76 => 112 | 70 => 108 | 37 => 22 | 75 => 88 | 127 => 140 | 164 => 119 | 5 => 5 | 80 => 114 | n => n, fun | n => n⟩
theorem Tryz.lays156 : Go.Proofs.Lays.n156 Tryz.prog Tryz.lays156_ren := {
  mixed := by kernel_rfl
  f156 := Tryz.func40.trans (congrArg some (by kernel_rfl))
  f165 := Tryz.func75.trans (congrArg some (by kernel_rfl))
  f166 := Tryz.func76.trans (congrArg some (by kernel_rfl))
  f169 := Tryz.func77.trans (congrArg some (by kernel_rfl))
  f240 := Tryz.func100.trans (congrArg some (by kernel_rfl))
  f241 := Tryz.func101.trans (congrArg some (by kernel_rfl))
  f276 := Tryz.func115.trans (congrArg some (by kernel_rfl))
  f277 := Tryz.func116.trans (congrArg some (by kernel_rfl))
  t0 := Tryz.underlying0
  a0 := Tryz.isAgg0
  z0 := Tryz.sizeOf0
  v0 := Tryz.zeroValue0
  t3 := Tryz.underlying3
  a3 := Tryz.isAgg3
  z3 := Tryz.sizeOf3
  v3 := Tryz.zeroValue3
  t4 := Tryz.underlying4
  a4 := Tryz.isAgg4
  z4 := Tryz.sizeOf4
  v4 := Tryz.zeroValue4
  t9 := Tryz.underlying9
  a9 := Tryz.isAgg9
  z9 := Tryz.sizeOf9
  v9 := Tryz.zeroValue9
  t20 := Tryz.underlying20
  a20 := Tryz.isAgg20
  z20 := Tryz.sizeOf20
  v20 := Tryz.zeroValue20
  t31 := Tryz.underlying75
  a31 := Tryz.isAgg75
  z31 := Tryz.sizeOf75
  v31 := Tryz.zeroValue75
  t37 := Tryz.underlying22
  a37 := Tryz.isAgg22
  z37 := Tryz.sizeOf22
  v37 := Tryz.zeroValue22
  t70 := Tryz.underlying108
  a70 := Tryz.isAgg108
  z70 := Tryz.sizeOf108
  v70 := Tryz.zeroValue108
  t72 := Tryz.underlying110
  a72 := Tryz.isAgg110
  z72 := Tryz.sizeOf110
  v72 := Tryz.zeroValue110
  t75 := Tryz.underlying88
  a75 := Tryz.isAgg88
  z75 := Tryz.sizeOf88
  v75 := Tryz.zeroValue88
  t76 := Tryz.underlying112
  a76 := Tryz.isAgg112
  z76 := Tryz.sizeOf112
  v76 := Tryz.zeroValue112
  t127 := Tryz.underlying140
  a127 := Tryz.isAgg140
  z127 := Tryz.sizeOf140
  v127 := Tryz.zeroValue140
  t164 := Tryz.underlying119
  a164 := Tryz.isAgg119
  z164 := Tryz.sizeOf119
  v164 := Tryz.zeroValue119 }
theorem Tryz.Builder_Extra_156 : Builder.Extra Tryz.prog Tryz.lays156_ren := {
  sizeBuilder := by kernel_rfl
  liesBuilder := by kernel_rfl
  t5 := Tryz.underlying5
  a5 := Tryz.isAgg5
  z5 := Tryz.sizeOf5
  v5 := Tryz.zeroValue5
  infoByte := by kernel_rfl
  cellsByte := by kernel_rfl
  sizeByte := by kernel_rfl
  neB5 := by decide }
open Go.RowKit in
theorem Tryz.strings_Join_none (a : Option Addr) (c : Nat) (sep : ByteArray) (w : World) :
    Calls Tryz.prog 40 #[.slice a 0 c, .string sep] w fun e w' => e = .returned (.string ⟨#[]⟩) ∧ w' = w := Any.strings_Join_none Tryz.lays156 Tryz.Builder_Extra_156 a c sep w
open Go.RowKit in
theorem Tryz.strings_Join (bk o c : Nat) (xs : List ByteArray) (sep : ByteArray) (w : World) (hcells : ∀ (j : Nat) x, xs[j]? = some x → w.cell? ⟨bk, o + j, none⟩ = some (.string x)) (hbk : bk < w.heap.size) (hN : xs.length ≤ 140737488355328) (hcap : xs.length ≤ c) (hlen : (Lib.join (xs.map (·.data.toList)) sep.data.toList).length ≤ 140737488355328) :
    Calls Tryz.prog 40 #[.slice (some ⟨bk, o, none⟩) xs.length c, .string sep] w fun e w' => e = .returned (.string ⟨(Lib.join (xs.map (·.data.toList)) sep.data.toList).toArray⟩) ∧ Below w.heap.size w w' := Any.strings_Join Tryz.lays156 Tryz.Builder_Extra_156 bk o c xs sep w hcells hbk hN hcap hlen
def Tryz.laysM171_ren : Go.Shelf.Ren := ⟨fun | 171 => 99 | 243 => 114 | 246 => 121 | 283 => 131 | 284 => 132 | 285 => 133 | 286 => 134 | 129 => 141 | 317 => 140 | 318 => 142 | 319 => 143 | 320 => 144 | 337 => 145 | 338 => 146 | n => n, fun | 3 => 3 | 9 => 9 | 2 => 2 | 4 => 4 | 171 => 181 | 0 => 0 | 53 => 182 | 37 => 22 | 5 => 5 | 173 => 185 | 212 => 191 | 51 => 192 | 20 => 20 | 213 => 193 | 46 => 137 | 232 => 196 | 233 => 197 | n => n, fun | 17 => 2 | 18 => 3 | 19 => 4 | n => n⟩
theorem Tryz.laysM171 : Go.Proofs.LaysM.n171 Tryz.prog Tryz.laysM171_ren := {
  mixed := by kernel_rfl
  f129 := Tryz.func141.trans (congrArg some (by kernel_rfl))
  f171 := Tryz.func99.trans (congrArg some (by kernel_rfl))
  f243 := Tryz.func114.trans (congrArg some (by kernel_rfl))
  f246 := Tryz.func121.trans (congrArg some (by kernel_rfl))
  f283 := Tryz.func131.trans (congrArg some (by kernel_rfl))
  f284 := Tryz.func132.trans (congrArg some (by kernel_rfl))
  f285 := Tryz.func133.trans (congrArg some (by kernel_rfl))
  f286 := Tryz.func134.trans (congrArg some (by kernel_rfl))
  f317 := Tryz.func140.trans (congrArg some (by kernel_rfl))
  f318 := Tryz.func142.trans (congrArg some (by kernel_rfl))
  f319 := Tryz.func143.trans (congrArg some (by kernel_rfl))
  f320 := Tryz.func144.trans (congrArg some (by kernel_rfl))
  f337 := Tryz.func145.trans (congrArg some (by kernel_rfl))
  f338 := Tryz.func146.trans (congrArg some (by kernel_rfl))
  t0 := Tryz.underlying0
  a0 := Tryz.isAgg0
  z0 := Tryz.sizeOf0
  v0 := Tryz.zeroValue0
  t2 := Tryz.underlying2
  a2 := Tryz.isAgg2
  z2 := Tryz.sizeOf2
  v2 := Tryz.zeroValue2
  t3 := Tryz.underlying3
  a3 := Tryz.isAgg3
  z3 := Tryz.sizeOf3
  v3 := Tryz.zeroValue3
  t4 := Tryz.underlying4
  a4 := Tryz.isAgg4
  z4 := Tryz.sizeOf4
  v4 := Tryz.zeroValue4
  t5 := Tryz.underlying5
  a5 := Tryz.isAgg5
  z5 := Tryz.sizeOf5
  v5 := Tryz.zeroValue5
  t9 := Tryz.underlying9
  a9 := Tryz.isAgg9
  z9 := Tryz.sizeOf9
  v9 := Tryz.zeroValue9
  t20 := Tryz.underlying20
  a20 := Tryz.isAgg20
  z20 := Tryz.sizeOf20
  v20 := Tryz.zeroValue20
  t37 := Tryz.underlying22
  a37 := Tryz.isAgg22
  z37 := Tryz.sizeOf22
  v37 := Tryz.zeroValue22
  t46 := Tryz.underlying137
  a46 := Tryz.isAgg137
  z46 := Tryz.sizeOf137
  v46 := Tryz.zeroValue137
  t51 := Tryz.underlying192
  a51 := Tryz.isAgg192
  z51 := Tryz.sizeOf192
  v51 := Tryz.zeroValue192
  t53 := Tryz.underlying182
  a53 := Tryz.isAgg182
  z53 := Tryz.sizeOf182
  v53 := Tryz.zeroValue182
  t171 := Tryz.underlying181
  a171 := Tryz.isAgg181
  z171 := Tryz.sizeOf181
  v171 := Tryz.zeroValue181
  t173 := Tryz.underlying185
  a173 := Tryz.isAgg185
  z173 := Tryz.sizeOf185
  v173 := Tryz.zeroValue185
  t212 := Tryz.underlying191
  a212 := Tryz.isAgg191
  z212 := Tryz.sizeOf191
  v212 := Tryz.zeroValue191
  t213 := Tryz.underlying193
  a213 := Tryz.isAgg193
  z213 := Tryz.sizeOf193
  t232 := Tryz.underlying196
  a232 := Tryz.isAgg196
  z232 := Tryz.sizeOf196
  v232 := Tryz.zeroValue196
  t233 := Tryz.underlying197
  a233 := Tryz.isAgg197
  z233 := Tryz.sizeOf197
  v233 := Tryz.zeroValue197
  g17 := by kernel_rfl
  g18 := by kernel_rfl
  g19 := by kernel_rfl
  i0 := by kernel_rfl
  i2 := by kernel_rfl
  i3 := by kernel_rfl
  i4 := by kernel_rfl
  i5 := by kernel_rfl
  i9 := by kernel_rfl
  i20 := by kernel_rfl
  i37 := by kernel_rfl
  i46 := by kernel_rfl
  i51 := by kernel_rfl
  i53 := by kernel_rfl
  i171 := by kernel_rfl
  i173 := by kernel_rfl
  i212 := by kernel_rfl
  i232 := by kernel_rfl
  i233 := by kernel_rfl
  m17 := by kernel_rfl
  m18 := by kernel_rfl
  m19 := by kernel_rfl }
open Go.RowKit Go.Sort Go.Lib in
theorem Tryz.strconv_Itoa (n : Int) (h0 : -9223372036854775808 ≤ n) (h1 : n ≤ 9223372036854775807) (w : World) (htab : Lib.TabIs Tryz.prog w "internal/strconv.uint64pow10" .u64 Lib.pow10Tab) :
    Calls Tryz.prog 99 #[.int .i64 n] w fun e w' => e = .returned (.string ⟨(Lib.itoa n).toArray⟩) ∧ ∃ k os, w' = grow (w.drewN k) os := Any.strconv_Itoa Tryz.laysM171 n h0 h1 w htab
end Go.Proofs
/- The walks through Digits, the program's and the model's. No statement of the seat is proved here. -/
namespace Go.Proofs.YtgkbhhlkaifnoaaGreatDoor
open Go.RowKit Go.Sort

/-- The decimal digits of m ahead of acc. -/
def dig (m : Nat) (acc : List UInt8) : List UInt8 := if m = 0 then acc else dig (m / 10) (UInt8.ofNat (48 + m % 10) :: acc)
  termination_by m
  decreasing_by omega
theorem dig_zero (acc : List UInt8) : dig 0 acc = acc := by rw [dig, if_pos rfl]
theorem dig_dec (m : Nat) : ∀ acc, 0 < m → dig m acc = Lib.decDigits m ++ acc := by
  induction m using Nat.strongRecOn with
  | _ m ih =>
    intro acc hm
    rw [dig, if_neg (by omega), Lib.decDigits]
    by_cases h : m < 10
    · rw [dif_pos h, show m / 10 = 0 by omega, dig_zero, show m % 10 = m by omega]; rfl
    · rw [dif_neg h, ih (m / 10) (by omega) _ (by omega)]; simp
theorem dig_step (q : Int) (h : 0 < q) (acc : List UInt8) : dig q.toNat acc = dig (q / 10).toNat (UInt8.ofNat (48 + q % 10).toNat :: acc) := by
  obtain ⟨n, rfl⟩ := Int.eq_ofNat_of_zero_le (Int.le_of_lt h)
  rw [dig, if_neg (by omega)]
  rw [show (((n : Int)) / 10).toNat = n / 10 by omega, show (48 + (n : Int) % 10).toNat = 48 + n % 10 by omega]
  rfl
theorem cat1 (x : Int) (acc : List UInt8) : strOfNums [x] ++ (⟨acc.toArray⟩ : ByteArray) = ⟨(UInt8.ofNat x.toNat :: acc).toArray⟩ := by
  apply ByteArray.ext
  simp [strOfNums, ByteArray.data_append]
theorem cat2 (c : UInt8) (acc : List UInt8) : (⟨#[c]⟩ : ByteArray) ++ (⟨acc.toArray⟩ : ByteArray) = ⟨(c :: acc).toArray⟩ := by
  apply ByteArray.ext
  simp [ByteArray.data_append]
theorem ret_text {a b : List UInt8} (h : a = b) : Ending.returned (.string ⟨a.toArray⟩) = .returned (.string ⟨b.toArray⟩) := by rw [h]
theorem size_list (acc : List UInt8) : (⟨acc.toArray⟩ : ByteArray).size = acc.length := by simp [ByteArray.size]
theorem cell_only (w : World) (x : Int) (t : TypeId) : ∀ i, i < 1 → (w.alloc (.cells #[.int .u8 x] t)).cell? ⟨w.heap.size, 0 + i, none⟩ = some (.int .u8 ([x].getD i 0)) := by
  intro i hi
  obtain rfl : i = 0 := by omega
  simp [go_sem]
theorem dig_len (m : Nat) : ∀ acc, acc.length ≤ (dig m acc).length := by
  induction m using Nat.strongRecOn with
  | _ m ih =>
    intro acc
    rw [dig]
    split
    · exact Nat.le_refl _
    · have := ih (m / 10) (by omega) (UInt8.ofNat (48 + m % 10) :: acc)
      simp only [List.length_cons] at this
      omega
theorem dig_small (k : Nat) : ∀ m acc, m < 10 ^ k → (dig m acc).length ≤ acc.length + k := by
  induction k with
  | zero => intro m acc h; rw [show m = 0 by simpa using h, dig_zero]; exact Nat.le_refl _
  | succ k ih =>
    intro m acc h
    rw [dig]
    split
    · omega
    · have := ih (m / 10) (UInt8.ofNat (48 + m % 10) :: acc) (by rw [Nat.pow_succ] at h; omega)
      simp only [List.length_cons] at this
      omega
theorem acc_small {m M : Nat} {acc : List UInt8} (h : dig m acc = dig M []) (hM : M ≤ 9223372036854775808) : acc.length ≤ 20 := by
  have h1 := dig_len m acc
  have h2 := dig_small 20 M [] (by have : (10 : Nat) ^ 20 = 100000000000000000000 := by decide
                                   omega)
  rw [h] at h1
  simp at h2
  omega
theorem itoa_pos (n : Int) (h : 0 < n) : dig n.toNat [] = Lib.itoa n := by
  rw [dig_dec _ _ (by omega), Lib.itoa, if_neg (by omega)]; simp
theorem itoa_neg (n : Int) (h : n < 0) : (45 : UInt8) :: dig (-n).toNat [] = Lib.itoa n := by
  rw [dig_dec _ _ (by omega), Lib.itoa, if_pos h, show n.natAbs = (-n).toNat by omega]; simp

theorem below_grow (w : World) (k : Nat) (os : Array Obj) : Below w.heap.size w (grow (w.drewN k) os) := by
  refine ⟨rfl, rfl, rfl, ?_, fun j hj => ?_⟩
  · show w.heap.size ≤ (w.heap ++ os).size
    simp
  · show (w.heap ++ os)[j]? = w.heap[j]?
    exact Array.getElem?_append_left hj
set_option maxRecDepth 200000 in
/-- The program's Digits, where the library's table holds what its initialiser lays. -/
theorem digImpl_any (n : Int) (w : World) (h0 : -9223372036854775808 ≤ n) (h1 : n ≤ 9223372036854775807) (htab : Lib.TabIs Tryz.prog w "internal/strconv.uint64pow10" .u64 Lib.pow10Tab) :
    Calls Tryz.prog 74 #[.int .i64 n] w fun e w' => e = .returned (.string ⟨(Lib.itoa n).toArray⟩) ∧ Below w.heap.size w w' := by
  have Ht : Hid (Lib.TabIs Tryz.prog w "internal/strconv.uint64pow10" .u64 Lib.pow10Tab) := htab
  clear htab
  go_enter Tryz.func74, Tryz.ntmps74
  go_wp2_with fail
  refine (Tryz.strconv_Itoa n h0 h1 _ Ht.out).mono ?_
  rintro e w1 ⟨rfl, k, os, rfl⟩
  go_wp2
  go_ret
  exact ⟨rfl, below_grow _ _ _⟩
/-- The table stays as it was. -/
theorem tab_below {w w' : World} {name : String} {k : IntKind} {zs : List Int} {g : Nat} (hg : Tryz.prog.globalNamed name = some g) (h : Lib.TabIs Tryz.prog w name k zs) (hb : Below w.heap.size w w') : Lib.TabIs Tryz.prog w' name k zs := by
  have hl : g < w.heap.size := by
    have h' := h
    unfold Lib.TabIs World.var? at h'
    rw [hg] at h'
    rcases Nat.lt_or_ge g w.heap.size with hlt | hge
    · exact hlt
    · rw [Option.bind_some, Array.getElem?_eq_none hge] at h'
      cases h'
  exact var?_below hb hg hl h
end Go.Proofs.YtgkbhhlkaifnoaaGreatDoor
/- Sets as texts: the mathematics. No statement of the seat is proved here. -/
namespace Go.Proofs.YtgkbhhlkaifnoaaGreatDoor
open Go.RowKit Go.Sort
def itB (n : Int) : ByteArray := ⟨(Lib.itoa n).toArray⟩
theorem dig_21 (m : Nat) (h : m ≤ 9223372036854775808) : (dig m []).length ≤ 20 := by
  have := dig_small 20 m [] (by have : (10 : Nat) ^ 20 = 100000000000000000000 := by decide
                                omega)
  simpa using this
theorem itoa_len (n : Int) (h0 : -9223372036854775808 ≤ n) (h1 : n ≤ 9223372036854775807) : (Lib.itoa n).length ≤ 21 := by
  by_cases h : 0 < n
  · rw [← itoa_pos n h]
    have := dig_21 n.toNat (by omega)
    omega
  · by_cases h2 : n < 0
    · rw [← itoa_neg n h2]
      have := dig_21 (-n).toNat (by omega)
      simp only [List.length_cons]
      omega
    · obtain rfl : n = 0 := by omega
      rw [Lib.itoa, if_neg (by omega), show (0 : Int).toNat = 0 from rfl, Lib.decDigits_one (i := 0) (by omega)]
      simp
def In64 (n : Int) : Prop := -9223372036854775808 ≤ n ∧ n ≤ 9223372036854775807
theorem itB_size {n : Int} (h : In64 n) : (itB n).size ≤ 21 := by
  unfold itB
  rw [size_list]
  exact itoa_len n h.1 h.2
/-- A span as a text. -/
def spB (p : Int × Int) : ByteArray := if p.1 = p.2 then itB p.1 else itB p.1 ++ ⟨#[45]⟩ ++ itB p.2
theorem size1 (c : UInt8) : (⟨#[c]⟩ : ByteArray).size = 1 := rfl
theorem spB_size {p : Int × Int} (h1 : In64 p.1) (h2 : In64 p.2) : (spB p).size ≤ 43 := by
  have e1 := itB_size h1
  have e2 := itB_size h2
  unfold spB
  split
  · omega
  · rw [ByteArray.size_append, ByteArray.size_append, size1]
    omega
def joinB (bs : List ByteArray) : ByteArray := ⟨(Lib.join (bs.map (·.data.toList)) [44]).toArray⟩
theorem joinB_nil : joinB [] = ⟨#[]⟩ := rfl
theorem joinB_one (b : ByteArray) : joinB [b] = b := by
  unfold joinB
  rw [List.map_cons, List.map_nil, Lib.join_one]
theorem joinB_snoc {bs : List ByteArray} (b : ByteArray) (h : bs ≠ []) : joinB (bs ++ [b]) = joinB bs ++ ⟨#[44]⟩ ++ b := by
  obtain ⟨x, r, rfl⟩ := List.exists_cons_of_ne_nil h
  unfold joinB
  apply ByteArray.ext
  apply Array.ext'
  rw [List.cons_append, List.map_cons, List.map_cons, Lib.join_cons, Lib.join_cons]
  simp [Lib.joinTail, ByteArray.data_append]
theorem tail_len : ∀ (r : List (List UInt8)), (∀ y ∈ r, y.length ≤ 43) → (Lib.joinTail [44] r).length ≤ 44 * r.length
  | [], _ => by simp [Lib.joinTail]
  | y :: r, h => by
    have e := tail_len r (fun z hz => h z (by simp [hz]))
    have e2 := h y (by simp)
    simp only [Lib.joinTail, List.map_cons, List.flatten_cons, List.length_append, List.length_cons, List.length_nil] at e ⊢
    omega
theorem join_len (xs : List (List UInt8)) (h : ∀ y ∈ xs, y.length ≤ 43) : (Lib.join xs [44]).length ≤ 44 * xs.length := by
  cases xs with
  | nil => simp [Lib.join_nil]
  | cons x r =>
    rw [Lib.join_cons, List.length_append]
    have e := tail_len r (fun z hz => h z (by simp [hz]))
    have e2 := h x (by simp)
    simp only [List.length_cons]
    omega
/-- A set as a text. -/
def Sp.texts (ps : Sp) : List ByteArray := ps.map spB
def Sp.text (ps : Sp) : ByteArray := joinB ps.texts
def Sp.in64 (ps : Sp) : Prop := ∀ p ∈ ps, In64 p.1 ∧ In64 p.2
theorem texts_len {ps : Sp} (h : ps.in64) : ∀ y ∈ ps.texts.map (·.data.toList), y.length ≤ 43 := by
  intro y hy
  obtain ⟨b, hb, rfl⟩ := List.mem_map.1 hy
  obtain ⟨p, hp, rfl⟩ := List.mem_map.1 hb
  have e : (spB p).data.size ≤ 43 := spB_size (h p hp).1 (h p hp).2
  rw [Array.length_toList]
  exact e
theorem text_size {ps : Sp} (h : ps.in64) : ps.text.size ≤ 44 * ps.length := by
  have := join_len _ (texts_len h)
  unfold Sp.text joinB
  rw [size_list]
  simpa [Sp.texts] using this
theorem in64_take {ps : Sp} (h : ps.in64) (k : Nat) : Sp.in64 (ps.take k) := fun p hp => h p (List.mem_of_mem_take hp)
theorem text_first {ps : Sp} (h : 0 < ps.length) : Sp.text (ps.take 1) = spB (ps.at 0) := by
  have := takeP_succ ps 0 h
  rw [this]
  exact joinB_one _
theorem text_step {ps : Sp} {k : Nat} (hk : k < ps.length) (h0 : 0 < k) : Sp.text (ps.take (k + 1)) = Sp.text (ps.take k) ++ ⟨#[44]⟩ ++ spB (ps.at k) := by
  have := takeP_succ ps k hk
  rw [this]
  unfold Sp.text Sp.texts
  rw [List.map_append]
  refine joinB_snoc _ (fun e => ?_)
  have := congrArg List.length e
  simp at this
  rcases this with e | e
  · omega
  · rw [e] at hk; simp at hk
end Go.Proofs.YtgkbhhlkaifnoaaGreatDoor
/- The walks through SetText, of the model and of the program. No statement of the seat is proved here. -/
namespace Go.Proofs.YtgkbhhlkaifnoaaGreatDoor
open Go.RowKit Go.Sort
abbrev TabAt (w : World) : Prop := Lib.TabIs Tryz.prog w "internal/strconv.uint64pow10" .u64 Lib.pow10Tab
set_option maxRecDepth 200000 in
theorem digImplB (n : Int) (s : ByteArray) (hs : s = itB n) (w : World) (h : In64 n) (ht : TabAt w) : Calls Tryz.prog 74 #[.int .i64 n] w fun e w' => e = .returned (.string s) ∧ Below w.heap.size w w' := by
  subst hs
  exact digImpl_any n w h.1 h.2 ht
theorem addB (a b c : ByteArray) (hc : c = a ++ b) (h : a.size + b.size ≤ 1000000000) : ∀ wx : World, (Op.stringOp .add a b).run Tryz.prog wx = .ok (.string c) wx := fun wx => by
  subst hc
  exact run_string_add_sum (P := Tryz.prog) wx a b (by omega)
theorem empty_app (b : ByteArray) : (⟨#[]⟩ : ByteArray) ++ b = b := by
  apply ByteArray.ext
  rw [ByteArray.data_append]
  simp
end Go.Proofs.YtgkbhhlkaifnoaaGreatDoor
