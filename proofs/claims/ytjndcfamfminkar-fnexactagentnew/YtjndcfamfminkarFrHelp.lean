/- The walks through the helpers of the laws over frames. No statement of the seat is proved here. -/
import Derived.Test.YtjndcfamfminkarFrData
namespace Go.Proofs.Ytjndcfamfminkar
open Go.RowKit
theorem infoFrI : (Try.prog.info? 56).map (·.size) = some 16 := by kernel_rfl
set_option maxRecDepth 200000 in
set_option maxHeartbeats 2000000 in
theorem toFrame_any (v : Value) (x : Fr) (F0 G0 : List Nat) (w : World) (h : RdFr w v x F0 G0) (hf : x.item.sk.fits) (hp : x.taken.length ≤ 1048576) :
    Calls Try.prog 33 #[v] w fun e w' => NewFr w x e w' := by
  obtain ⟨b, l, c, a1, n1, c1, a2, n2, c2, a3, n3, c3, rfl, hpd, hr, _⟩ := h
  have HR : Hid (RdIt w (.agg #[.int .i64 x.item.seq, .int .i64 x.item.cls, .int .i64 x.item.key, .int .i64 x.item.window, .int .i64 x.item.sk.count, .int .i64 x.item.sk.sum, .int .i64 x.item.sk.min, .int .i64 x.item.sk.max, .slice a1 n1 c1, .slice a2 n2 c2, .slice a3 n3 c3]) x.item G0 ∧ x.item.sk.fits) := ⟨hr, hf⟩
  have HP : Hid (RdP w b l x.taken F0 ∧ l ≤ 1048576) := ⟨hpd, by rw [← hpd.length]; exact hp⟩
  clear hr hf hpd hp
  go_enter Try.func33, Try.ntmps33
  go_wp2_with fail
  have T0 := Three.made w #[.int .i64 x.kind, .int .i64 x.agent, .int .i64 x.epoch, .int .i64 x.granted, .slice b l c, .int .i64 x.item.seq, .int .i64 x.item.cls, .int .i64 x.item.key, .int .i64 x.item.window, .int .i64 x.item.sk.count, .int .i64 x.item.sk.sum, .int .i64 x.item.sk.min, .int .i64 x.item.sk.max, .slice a1 n1 c1, .slice a2 n2 c2, .slice a3 n3 c3] 64 #[.int .i64 0, .int .i64 0, .int .i64 0, .int .i64 0, .slice none 0 0, .int .i64 0, .int .i64 0, .int .i64 0, .int .i64 0, .int .i64 0, .int .i64 0, .int .i64 0, .int .i64 0, .slice none 0 0, .slice none 0 0, .slice none 0 0] #[.int .i64 x.kind, .int .i64 x.agent, .int .i64 x.epoch, .int .i64 x.granted, .slice none 0 0, .int .i64 0, .int .i64 0, .int .i64 0, .int .i64 0, .int .i64 0, .int .i64 0, .int .i64 0, .int .i64 0, .slice none 0 0, .slice none 0 0, .slice none 0 0] 56
  refine (toSpanS_any b l c x.taken F0 _ (HP.out.1.below T0.bel) HP.out.2).mono ?_
  rintro e w1 ⟨b', l', c', F, rfl, p1, q1, hb1, hcap⟩
  have HCAP : Hid (Capd b' l' c') := hcap
  clear hcap
  have HT1 : Hid (Three w _ _ _ _ _ w1) := T0.below hb1
  have HF1 : Hid (RdP w1 b' l' x.taken F ∧ Own (w.heap.size + 3) w1 F) := ⟨p1, q1.mono T0.size⟩
  have c12 := HT1.out.loc.cell 4
  have f12 := HT1.out.loc.frozen 4
  simp only [aT, aS, aZ] at c12
  clear T0 hb1 p1 q1 HP
  go_wp2_with (first | go_skip | (with_reducible refine stopLoad 62 rfl ?_))
  have nl1 : w.heap.size + 1 + 1 ∉ F := fun hx => by have := HF1.out.2.ge _ hx; omega
  have HT2 : Hid (Three w _ _ _ _ _ (w1.setCell ⟨w.heap.size + 1 + 1, 4, none⟩ (.slice b' l' c'))) := HT1.out.set 4 (.slice b' l' c')
  have HF2 : Hid (RdP (w1.setCell ⟨w.heap.size + 1 + 1, 4, none⟩ (.slice b' l' c')) b' l' x.taken F ∧ Own (w.heap.size + 3) (w1.setCell ⟨w.heap.size + 1 + 1, 4, none⟩ (.slice b' l' c')) F) := ⟨HF1.out.1.agree (.set nl1 4 (.slice b' l' c')), HF1.out.2.agree (.set nl1 4 (.slice b' l' c'))⟩
  obtain ⟨w2, hw2⟩ : ∃ W, W = w1.setCell ⟨w.heap.size + 1 + 1, 4, none⟩ (.slice b' l' c') := ⟨_, rfl⟩
  rw [← hw2] at HT2 HF2 ⊢
  clear hw2 nl1 c12 f12 HT1 HF1
  refine load_cut 62 w.heap.size 5 11 _ #[.int .i64 x.item.seq, .int .i64 x.item.cls, .int .i64 x.item.key, .int .i64 x.item.window, .int .i64 x.item.sk.count, .int .i64 x.item.sk.sum, .int .i64 x.item.sk.min, .int .i64 x.item.sk.max, .slice a1 n1 c1, .slice a2 n2 c2, .slice a3 n3 c3] 64 _ HT2.out.box rfl rfl rfl Try.underlying62 rfl infoItL7 (by simp) rfl ?_
  go_wp2_with fail
  refine (toItem_any _ x.item G0 _ (HR.out.1.below HT2.out.bel) HR.out.2).mono ?_
  rintro e w3 ⟨v1, G, rfl, r1, o1, hb3⟩
  obtain ⟨b1, m1, d1, b2, m2, d2, b3, m3, d3, rfl⟩ := r1.cells11
  have HT3 : Hid (Three w _ _ _ _ _ w3) := HT2.out.below hb3
  have HG : Hid (RdIt w3 (.agg #[.int .i64 x.item.seq, .int .i64 x.item.cls, .int .i64 x.item.key, .int .i64 x.item.window, .int .i64 x.item.sk.count, .int .i64 x.item.sk.sum, .int .i64 x.item.sk.min, .int .i64 x.item.sk.max, .slice b1 m1 d1, .slice b2 m2 d2, .slice b3 m3 d3]) x.item G ∧ Own (w.heap.size + 3) w3 G ∧ RdP w3 b' l' x.taken F ∧ Own (w.heap.size + 3) w3 F ∧ ∀ b ∈ F, b ∉ G) := ⟨r1, o1.mono HT2.out.size, HF2.out.1.below hb3, HF2.out.2.below HF2.out.1.lt hb3, fun b hb hg => by have := HF2.out.1.lt b hb; have := o1.ge b hg; omega⟩
  clear hb3 r1 o1 HR HT2 HF2
  go_wp2_with (first | go_skip | (with_reducible refine stopStore 54 rfl ?_))
  refine store_cut 54 (w.heap.size + 1 + 1) 5 _ #[.int .i64 x.item.seq, .int .i64 x.item.cls, .int .i64 x.item.key, .int .i64 x.item.window, .int .i64 x.item.sk.count, .int .i64 x.item.sk.sum, .int .i64 x.item.sk.min, .int .i64 x.item.sk.max, .slice b1 m1 d1, .slice b2 m2 d2, .slice b3 m3 d3] #[.int .i64 x.kind, .int .i64 x.agent, .int .i64 x.epoch, .int .i64 x.granted, .slice b' l' c', .int .i64 x.item.seq, .int .i64 x.item.cls, .int .i64 x.item.key, .int .i64 x.item.window, .int .i64 x.item.sk.count, .int .i64 x.item.sk.sum, .int .i64 x.item.sk.min, .int .i64 x.item.sk.max, .slice b1 m1 d1, .slice b2 m2 d2, .slice b3 m3 d3] 56 HT3.out.loc rfl rfl rfl rfl infoItA7 (by simp) (one11 ..) (by simp [cutIn]) ?_
  obtain ⟨E, hE⟩ : ∃ E : Array Value, E = #[.int .i64 x.kind, .int .i64 x.agent, .int .i64 x.epoch, .int .i64 x.granted, .slice b' l' c', .int .i64 x.item.seq, .int .i64 x.item.cls, .int .i64 x.item.key, .int .i64 x.item.window, .int .i64 x.item.sk.count, .int .i64 x.item.sk.sum, .int .i64 x.item.sk.min, .int .i64 x.item.sk.max, .slice b1 m1 d1, .slice b2 m2 d2, .slice b3 m3 d3] := ⟨_, rfl⟩
  rw [← hE]
  have HE : Hid (E = #[.int .i64 x.kind, .int .i64 x.agent, .int .i64 x.epoch, .int .i64 x.granted, .slice b' l' c', .int .i64 x.item.seq, .int .i64 x.item.cls, .int .i64 x.item.key, .int .i64 x.item.window, .int .i64 x.item.sk.count, .int .i64 x.item.sk.sum, .int .i64 x.item.sk.min, .int .i64 x.item.sk.max, .slice b1 m1 d1, .slice b2 m2 d2, .slice b3 m3 d3]) := hE
  have hE10 : E.size = 16 := by rw [hE]; rfl
  have hEone : E.all (·.oneCell') = true := by rw [hE]; simp [Value.oneCell']
  have HB2 : Hid (Blk (w3.setRow (w.heap.size + 1 + 1) E) (w.heap.size + 1 + 1) E 56) := HT3.out.loc.setRow
  have HB3 : Hid (Blk (w3.setRow (w.heap.size + 1 + 1) E) (w.heap.size + 1) _ 56) := HT3.out.res.setRowOther (by omega)
  clear hE
  go_wp2_with (first | go_skip | (with_reducible refine stopLoad 56 rfl ?_))
  refine load_known 56 (w.heap.size + 1 + 1) E 56 _ HB2.out rfl rfl rfl Try.underlying56 rfl (by rw [hE10]; exact infoFrI) ?_
  go_wp2_with (first | go_skip | (with_reducible refine stopStore 56 rfl ?_))
  refine store_known 56 (w.heap.size + 1) _ E 56 HB3.out rfl rfl rfl rfl (by rw [hE10]; exact infoFrI) (by rw [hE10]; rfl) hEone ?_
  have HB4 : Hid (Blk ((w3.setRow (w.heap.size + 1 + 1) E).setRow (w.heap.size + 1) E) (w.heap.size + 1) E 56) := HB3.out.setRow
  have nr : w.heap.size + 1 ∉ G := fun hx => by have := HG.out.2.1.ge _ hx; omega
  have nl : w.heap.size + 1 + 1 ∉ G := fun hx => by have := HG.out.2.1.ge _ hx; omega
  have mr : w.heap.size + 1 ∉ F := fun hx => by have := HG.out.2.2.2.1.ge _ hx; omega
  have ml : w.heap.size + 1 + 1 ∉ F := fun hx => by have := HG.out.2.2.2.1.ge _ hx; omega
  obtain ⟨w4, hw4⟩ : ∃ W, W = (w3.setRow (w.heap.size + 1 + 1) E).setRow (w.heap.size + 1) E := ⟨_, rfl⟩
  have HF : Hid (RdIt w4 (.agg #[.int .i64 x.item.seq, .int .i64 x.item.cls, .int .i64 x.item.key, .int .i64 x.item.window, .int .i64 x.item.sk.count, .int .i64 x.item.sk.sum, .int .i64 x.item.sk.min, .int .i64 x.item.sk.max, .slice b1 m1 d1, .slice b2 m2 d2, .slice b3 m3 d3]) x.item G ∧ RdP w4 b' l' x.taken F ∧ Own w.heap.size w4 F ∧ Own w.heap.size w4 G ∧ (∀ b ∈ F, b ∉ G) ∧ Below w.heap.size w w4) := by
    rw [hw4]
    exact ⟨(HG.out.1.agree (Agree.row nl E)).agree (Agree.row nr E), (HG.out.2.2.1.agree (Agree.row ml E)).agree (Agree.row mr E), ((HG.out.2.2.2.1.agree (Agree.row ml E)).agree (Agree.row mr E)).mono (by omega), ((HG.out.2.1.agree (Agree.row nl E)).agree (Agree.row nr E)).mono (by omega), HG.out.2.2.2.2, below_setRow (below_setRow HT3.out.bel (by omega) _) (by omega) _⟩
  rw [← hw4] at HB4 ⊢
  clear HB2 HB3 HG HT3 nr nl mr ml hw4
  go_wp2
  refine bodyPost_ret (results_cell_row Try.results33 _ _ (w.heap.size + 1) _ _ (0, 0) _ rfl HB4.out Try.underlying56 rfl (by rw [hE10]; exact infoFrI)) rfl ?_
  exact ⟨_, F, G, rfl, ⟨b', l', c', b1, m1, d1, b2, m2, d2, b3, m3, d3, by rw [HE.out], HF.out.2.1, HF.out.1, HCAP.out⟩, HF.out.2.2.1, HF.out.2.2.2.1, HF.out.2.2.2.2.1, HF.out.2.2.2.2.2⟩
set_option maxRecDepth 200000 in
set_option maxHeartbeats 2000000 in
theorem szFrame_vast (v : Value) (x : Fr) (F G : List Nat) (left : Int) (w : World) (h : RdFr w v x F G) (hw : x.item.sk.vast) (hids : x.taken.length ≤ 9223372036854775807) (hl0 : 0 ≤ left) (hl1 : left ≤ 1048576) :
    Calls Try.prog 31 #[v, .int .i64 left] w fun e w' => (∃ r, e = .returned (.int .i64 r) ∧ r ≤ left ∧ (0 ≤ r → r = left - x.taken.length - x.item.sk.size ∧ (x.taken.length : Int) ≤ left ∧ x.item.sk.size ≤ left) ∧ (r < 0 → left < x.taken.length + x.item.sk.size)) ∧ Below w.heap.size w w' := by
  obtain ⟨b, l, c, a1, n1, c1, a2, n2, c2, a3, n3, c3, rfl, hpd, hr, _⟩ := h
  have HR : Hid (RdIt w (.agg #[.int .i64 x.item.seq, .int .i64 x.item.cls, .int .i64 x.item.key, .int .i64 x.item.window, .int .i64 x.item.sk.count, .int .i64 x.item.sk.sum, .int .i64 x.item.sk.min, .int .i64 x.item.sk.max, .slice a1 n1 c1, .slice a2 n2 c2, .slice a3 n3 c3]) x.item G ∧ x.item.sk.vast) := ⟨hr, hw⟩
  have HL : Hid (x.taken.length = l) := hpd.length
  have HB : Hid (Below w.heap.size w (w.alloc (.cells #[.int .i64 x.kind, .int .i64 x.agent, .int .i64 x.epoch, .int .i64 x.granted, .slice b l c, .int .i64 x.item.seq, .int .i64 x.item.cls, .int .i64 x.item.key, .int .i64 x.item.window, .int .i64 x.item.sk.count, .int .i64 x.item.sk.sum, .int .i64 x.item.sk.min, .int .i64 x.item.sk.max, .slice a1 n1 c1, .slice a2 n2 c2, .slice a3 n3 c3] 64)) ∧ Blk (w.alloc (.cells #[.int .i64 x.kind, .int .i64 x.agent, .int .i64 x.epoch, .int .i64 x.granted, .slice b l c, .int .i64 x.item.seq, .int .i64 x.item.cls, .int .i64 x.item.key, .int .i64 x.item.window, .int .i64 x.item.sk.count, .int .i64 x.item.sk.sum, .int .i64 x.item.sk.min, .int .i64 x.item.sk.max, .slice a1 n1 c1, .slice a2 n2 c2, .slice a3 n3 c3] 64)) w.heap.size #[.int .i64 x.kind, .int .i64 x.agent, .int .i64 x.epoch, .int .i64 x.granted, .slice b l c, .int .i64 x.item.seq, .int .i64 x.item.cls, .int .i64 x.item.key, .int .i64 x.item.window, .int .i64 x.item.sk.count, .int .i64 x.item.sk.sum, .int .i64 x.item.sk.min, .int .i64 x.item.sk.max, .slice a1 n1 c1, .slice a2 n2 c2, .slice a3 n3 c3] 64) := ⟨Below.allocW _ (Below.refl _ _) (Nat.le_refl _), Blk.made _ _ _⟩
  have HN : Hid (0 ≤ x.item.sk.size) := by unfold Sk.size; have := sumLen_nonneg x.item.sk.rows; show _ ≤ _; omega
  have hln : l ≤ 9223372036854775807 := by rw [← hpd.length]; exact hids
  clear hr hw hpd hids
  go_enter Try.func31, Try.ntmps31
  go_wp2_with fail
  refine (szSpanS_vast b l c left _ hln hl0 hl1).mono ?_
  rintro e w1 ⟨⟨r, rfl, ra, rb, rc⟩, hw1⟩
  have hw1' := hw1.symm
  subst hw1'
  clear hw1
  by_cases q : r < 0
  · have HV : Hid (left < (x.taken.length : Int) + x.item.sk.size) := by have := rc q; have := HL.out; have := HN.out; show _ < _; omega
    clear ra rb rc
    go_wp2
    go_ret
    exact ⟨⟨-1, rfl, by omega, by omega, fun _ => HV.out⟩, HB.out.1⟩
  have hr0 : 0 ≤ r := by omega
  have HV : Hid (r = left - l ∧ r ≤ left) := ⟨rb hr0, ra⟩
  have hr1 : r ≤ 1048576 := by omega
  clear ra rb rc q
  go_wp2_with (first | go_skip | (with_reducible refine stopLoad 62 rfl ?_))
  refine load_cut 62 w.heap.size 5 11 _ #[.int .i64 x.item.seq, .int .i64 x.item.cls, .int .i64 x.item.key, .int .i64 x.item.window, .int .i64 x.item.sk.count, .int .i64 x.item.sk.sum, .int .i64 x.item.sk.min, .int .i64 x.item.sk.max, .slice a1 n1 c1, .slice a2 n2 c2, .slice a3 n3 c3] 64 _ HB.out.2 rfl rfl rfl Try.underlying62 rfl infoItL7 (by simp) rfl ?_
  go_wp2_with fail
  refine (szItem_vast _ x.item G r _ (HR.out.1.below HB.out.1) HR.out.2 hr0 hr1).mono ?_
  rintro e w2 ⟨⟨s, rfl, sa, sb, sc⟩, hb1⟩
  have HB1 : Hid (Below w.heap.size w w2) := Below.next HB.out.1 hb1
  have HS : Hid (s ≤ r ∧ (0 ≤ s → s = r - x.item.sk.size) ∧ (s < 0 → r < x.item.sk.size)) := ⟨sa, sb, sc⟩
  clear hb1 sa sb sc
  by_cases q : s < 0
  · go_wp2
    go_ret
    exact ⟨⟨-1, rfl, by omega, by omega, fun _ => by have := HS.out.2.2 q; have := HV.out; have := HL.out; omega⟩, HB1.out⟩
  · go_wp2
    go_ret
    exact ⟨⟨s, rfl, by have := HS.out; have := HV.out; omega, fun hs => by have := HS.out.2.1 hs; have := HV.out; have := HL.out; have := HN.out; omega, fun hs => by omega⟩, HB1.out⟩
set_option maxRecDepth 200000 in
set_option maxHeartbeats 4000000 in
theorem eqFrame_any (v u : Value) (x y : Fr) (F F' G G' : List Nat) (w : World) (h : RdFr w v x F F') (k : RdFr w u y G G') (hw : x.item.sk.wide) (kw : y.item.sk.wide) (hl : x.taken.length ≤ 140737488355328) (kl : y.taken.length ≤ 140737488355328) :
    Calls Try.prog 28 #[v, u] w fun e w' => e = .returned (.bool (decide (x = y))) ∧ Below w.heap.size w w' := by
  obtain ⟨p, l, g, a1, n1, c1, a2, n2, c2, a3, n3, c3, rfl, px, hx, _⟩ := h
  obtain ⟨q, k, j, b1, m1, d1, b2, m2, d2, b3, m3, d3, rfl, py, hy, _⟩ := k
  have HPX : Hid (RdP w p l x.taken F ∧ RdP w q k y.taken G ∧ l ≤ 140737488355328 ∧ k ≤ 140737488355328) := ⟨px, py, by rw [← px.length]; exact hl, by rw [← py.length]; exact kl⟩
  clear px py hl kl
  have HR : Hid (RdIt w (.agg #[.int .i64 x.item.seq, .int .i64 x.item.cls, .int .i64 x.item.key, .int .i64 x.item.window, .int .i64 x.item.sk.count, .int .i64 x.item.sk.sum, .int .i64 x.item.sk.min, .int .i64 x.item.sk.max, .slice a1 n1 c1, .slice a2 n2 c2, .slice a3 n3 c3]) x.item F' ∧ x.item.sk.wide) := ⟨hx, hw⟩
  have HY : Hid (RdIt w (.agg #[.int .i64 y.item.seq, .int .i64 y.item.cls, .int .i64 y.item.key, .int .i64 y.item.window, .int .i64 y.item.sk.count, .int .i64 y.item.sk.sum, .int .i64 y.item.sk.min, .int .i64 y.item.sk.max, .slice b1 m1 d1, .slice b2 m2 d2, .slice b3 m3 d3]) y.item G' ∧ y.item.sk.wide) := ⟨hy, kw⟩
  have HT : Hid (Two w #[.int .i64 x.kind, .int .i64 x.agent, .int .i64 x.epoch, .int .i64 x.granted, .slice p l g, .int .i64 x.item.seq, .int .i64 x.item.cls, .int .i64 x.item.key, .int .i64 x.item.window, .int .i64 x.item.sk.count, .int .i64 x.item.sk.sum, .int .i64 x.item.sk.min, .int .i64 x.item.sk.max, .slice a1 n1 c1, .slice a2 n2 c2, .slice a3 n3 c3] #[.int .i64 y.kind, .int .i64 y.agent, .int .i64 y.epoch, .int .i64 y.granted, .slice q k j, .int .i64 y.item.seq, .int .i64 y.item.cls, .int .i64 y.item.key, .int .i64 y.item.window, .int .i64 y.item.sk.count, .int .i64 y.item.sk.sum, .int .i64 y.item.sk.min, .int .i64 y.item.sk.max, .slice b1 m1 d1, .slice b2 m2 d2, .slice b3 m3 d3] 56 ((w.alloc (.cells #[.int .i64 x.kind, .int .i64 x.agent, .int .i64 x.epoch, .int .i64 x.granted, .slice p l g, .int .i64 x.item.seq, .int .i64 x.item.cls, .int .i64 x.item.key, .int .i64 x.item.window, .int .i64 x.item.sk.count, .int .i64 x.item.sk.sum, .int .i64 x.item.sk.min, .int .i64 x.item.sk.max, .slice a1 n1 c1, .slice a2 n2 c2, .slice a3 n3 c3] 56)).alloc (.cells #[.int .i64 y.kind, .int .i64 y.agent, .int .i64 y.epoch, .int .i64 y.granted, .slice q k j, .int .i64 y.item.seq, .int .i64 y.item.cls, .int .i64 y.item.key, .int .i64 y.item.window, .int .i64 y.item.sk.count, .int .i64 y.item.sk.sum, .int .i64 y.item.sk.min, .int .i64 y.item.sk.max, .slice b1 m1 d1, .slice b2 m2 d2, .slice b3 m3 d3] 56))) := Two.made ..
  clear hx hy hw kw
  go_enter Try.func28, Try.ntmps28
  by_cases h0 : x.kind = y.kind
  rotate_left
  · have e0 : (x.kind != y.kind) = true := by simpa using h0
    have HV : Hid (decide (x = y) = false) := dec_false (fun e => h0 (by rw [e]))
    clear h0
    go_wp2
    go_ret
    exact ⟨ret_bool HV.out.symm, HT.out.bel⟩
  have e0 : (x.kind != y.kind) = false := by simpa using h0
  have H0 : Hid (x.kind = y.kind) := h0
  clear h0
  by_cases h1 : x.agent = y.agent
  rotate_left
  · have e1 : (x.agent != y.agent) = true := by simpa using h1
    have HV : Hid (decide (x = y) = false) := dec_false (fun e => h1 (by rw [e]))
    clear h1
    go_wp2
    go_ret
    exact ⟨ret_bool HV.out.symm, HT.out.bel⟩
  have e1 : (x.agent != y.agent) = false := by simpa using h1
  have H1 : Hid (x.agent = y.agent) := h1
  clear h1
  by_cases h2 : x.epoch = y.epoch
  rotate_left
  · have e2 : (x.epoch != y.epoch) = true := by simpa using h2
    have HV : Hid (decide (x = y) = false) := dec_false (fun e => h2 (by rw [e]))
    clear h2
    go_wp2
    go_ret
    exact ⟨ret_bool HV.out.symm, HT.out.bel⟩
  have e2 : (x.epoch != y.epoch) = false := by simpa using h2
  have H2 : Hid (x.epoch = y.epoch) := h2
  clear h2
  by_cases h3 : x.granted = y.granted
  rotate_left
  · have e3 : (x.granted != y.granted) = true := by simpa using h3
    have HV : Hid (decide (x = y) = false) := dec_false (fun e => h3 (by rw [e]))
    clear h3
    go_wp2
    go_ret
    exact ⟨ret_bool HV.out.symm, HT.out.bel⟩
  have e3 : (x.granted != y.granted) = false := by simpa using h3
  have H3 : Hid (x.granted = y.granted) := h3
  clear h3
  go_wp2_with fail
  refine (eqSpanS_any p q l k g j x.taken y.taken F G _ (HPX.out.1.below HT.out.bel) (HPX.out.2.1.below HT.out.bel) HPX.out.2.2.1 HPX.out.2.2.2).mono ?_
  rintro e w1 ⟨rfl, hb1⟩
  have HT1 : Hid (Two w #[.int .i64 x.kind, .int .i64 x.agent, .int .i64 x.epoch, .int .i64 x.granted, .slice p l g, .int .i64 x.item.seq, .int .i64 x.item.cls, .int .i64 x.item.key, .int .i64 x.item.window, .int .i64 x.item.sk.count, .int .i64 x.item.sk.sum, .int .i64 x.item.sk.min, .int .i64 x.item.sk.max, .slice a1 n1 c1, .slice a2 n2 c2, .slice a3 n3 c3] #[.int .i64 y.kind, .int .i64 y.agent, .int .i64 y.epoch, .int .i64 y.granted, .slice q k j, .int .i64 y.item.seq, .int .i64 y.item.cls, .int .i64 y.item.key, .int .i64 y.item.window, .int .i64 y.item.sk.count, .int .i64 y.item.sk.sum, .int .i64 y.item.sk.min, .int .i64 y.item.sk.max, .slice b1 m1 d1, .slice b2 m2 d2, .slice b3 m3 d3] 56 w1) := HT.out.below hb1
  obtain ⟨d, hd⟩ : ∃ d, d = decide (x.taken = y.taken) := ⟨_, rfl⟩
  rw [← hd]
  have HD : Hid (d = decide (x.taken = y.taken)) := hd
  clear hb1 HT hd
  cases d
  · have HV : Hid (decide (x = y) = false) := dec_false (fun e => by have := HD.out.symm; rw [decide_eq_false_iff_not] at this; exact this (by rw [e]))
    go_wp2
    go_ret
    exact ⟨ret_bool HV.out.symm, HT1.out.bel⟩
  have HI : Hid (x.taken = y.taken) := by show x.taken = y.taken; exact of_decide_eq_true HD.out.symm
  go_wp2_with (first | go_skip | (with_reducible refine stopLoad 54 rfl ?_))
  refine load_cut 54 w.heap.size 5 11 _ #[.int .i64 x.item.seq, .int .i64 x.item.cls, .int .i64 x.item.key, .int .i64 x.item.window, .int .i64 x.item.sk.count, .int .i64 x.item.sk.sum, .int .i64 x.item.sk.min, .int .i64 x.item.sk.max, .slice a1 n1 c1, .slice a2 n2 c2, .slice a3 n3 c3] 56 _ HT1.out.fst rfl rfl rfl Try.underlying54 rfl infoItA7 (by simp) rfl ?_
  go_wp2_with (first | go_skip | (with_reducible refine stopLoad 54 rfl ?_))
  refine load_cut 54 (w.heap.size + 1) 5 11 _ #[.int .i64 y.item.seq, .int .i64 y.item.cls, .int .i64 y.item.key, .int .i64 y.item.window, .int .i64 y.item.sk.count, .int .i64 y.item.sk.sum, .int .i64 y.item.sk.min, .int .i64 y.item.sk.max, .slice b1 m1 d1, .slice b2 m2 d2, .slice b3 m3 d3] 56 _ HT1.out.snd rfl rfl rfl Try.underlying54 rfl infoItA7 (by simp) rfl ?_
  go_wp2_with fail
  refine (eqItem_any _ _ x.item y.item F' G' _ (HR.out.1.below HT1.out.bel) (HY.out.1.below HT1.out.bel) HR.out.2 HY.out.2).mono ?_
  rintro e w2 ⟨rfl, hb2⟩
  have HB2 : Hid (Below w.heap.size w w2) := Below.next HT1.out.bel hb2
  obtain ⟨f, hf⟩ : ∃ d, d = decide (x.item = y.item) := ⟨_, rfl⟩
  rw [← hf]
  have HF : Hid (f = decide (x.item = y.item)) := hf
  clear hb2 hf
  cases f
  · have HV : Hid (decide (x = y) = false) := dec_false (fun e => by have := HF.out.symm; rw [decide_eq_false_iff_not] at this; exact this (by rw [e]))
    go_wp2
    go_ret
    exact ⟨ret_bool HV.out.symm, HB2.out⟩
  have HV : Hid (decide (x = y) = true) := dec_true (Fr.eq_of H0.out H1.out H2.out H3.out HI.out (of_decide_eq_true HF.out.symm))
  go_wp2
  go_ret
  exact ⟨ret_bool HV.out.symm, HB2.out⟩
end Go.Proofs.Ytjndcfamfminkar
