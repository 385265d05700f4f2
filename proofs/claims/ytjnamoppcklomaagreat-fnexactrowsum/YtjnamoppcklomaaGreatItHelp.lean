/- The walks through the helpers of the laws over items: making, weighing, comparing. No statement of the seat is proved here. -/
import Derived.Test.YtjnamoppcklomaaGreatItData
namespace Go.Proofs.YtjnamoppcklomaaGreat
open Go.RowKit
theorem Agree.row {w : World} {F : List Nat} {g : Nat} (hg : g ∉ F) (ds : Array Value) : Agree w (w.setRow g ds) F := fun b hb => setRow_other w g b ds (fun e => hg (e ▸ hb))
theorem RdSk.cells7 {w : World} {v : Value} {s : Sk} {F : List Nat} (h : RdSk w v s F) : ∃ a1 n1 c1 a2 n2 c2 a3 n3 c3, v = .agg #[.int .i64 s.count, .int .i64 s.sum, .int .i64 s.min, .int .i64 s.max, .slice a1 n1 c1, .slice a2 n2 c2, .slice a3 n3 c3] := by
  obtain ⟨a1, n1, c1, a2, n2, c2, a3, n3, c3, F1, F2, F3, rfl, _⟩ := h
  exact ⟨a1, n1, c1, a2, n2, c2, a3, n3, c3, rfl⟩
theorem one7 (p q r s : Int) (a1 : Option Addr) (n1 c1 : Nat) (a2 : Option Addr) (n2 c2 : Nat) (a3 : Option Addr) (n3 c3 : Nat) : (#[Value.int .i64 p, .int .i64 q, .int .i64 r, .int .i64 s, .slice a1 n1 c1, .slice a2 n2 c2, .slice a3 n3 c3] : Array Value).all (·.oneCell') = true := by
  simp [Value.oneCell']
theorem infoSkI : (Tryz.prog.info? 31).map (·.size) = some 7 := by kernel_rfl
theorem infoSkL : (Tryz.prog.info? 125).map (·.size) = some 7 := by kernel_rfl
theorem infoEnI : (Tryz.prog.info? 33).map (·.size) = some 10 := by kernel_rfl
set_option maxRecDepth 200000 in
set_option maxHeartbeats 2000000 in
theorem toEntry_any (v : Value) (x : En) (F0 G0 : List Nat) (w : World) (h : RdEn w v x F0 G0) (hf : x.sk.fits) (hp : x.ids.length ≤ 1048576) :
    Calls Tryz.prog 92 #[v] w fun e w' => NewEn w x e w' := by
  obtain ⟨b, l, c, a1, n1, c1, a2, n2, c2, a3, n3, c3, rfl, hpd, hr, _⟩ := h
  have HR : Hid (RdSk w (.agg #[.int .i64 x.sk.count, .int .i64 x.sk.sum, .int .i64 x.sk.min, .int .i64 x.sk.max, .slice a1 n1 c1, .slice a2 n2 c2, .slice a3 n3 c3]) x.sk G0 ∧ x.sk.fits) := ⟨hr, hf⟩
  have HP : Hid (RdP w b l x.ids F0 ∧ l ≤ 1048576) := ⟨hpd, by rw [← hpd.length]; exact hp⟩
  clear hr hf hpd hp
  go_enter Tryz.func92, Tryz.ntmps92
  go_wp2_with fail
  have T0 := Three.made w #[.int .i64 x.key, .int .i64 x.window, .slice b l c, .int .i64 x.sk.count, .int .i64 x.sk.sum, .int .i64 x.sk.min, .int .i64 x.sk.max, .slice a1 n1 c1, .slice a2 n2 c2, .slice a3 n3 c3] 127 #[.int .i64 0, .int .i64 0, .slice none 0 0, .int .i64 0, .int .i64 0, .int .i64 0, .int .i64 0, .slice none 0 0, .slice none 0 0, .slice none 0 0] #[.int .i64 x.key, .int .i64 x.window, .slice none 0 0, .int .i64 0, .int .i64 0, .int .i64 0, .int .i64 0, .slice none 0 0, .slice none 0 0, .slice none 0 0] 33
  refine (toSpanS_any b l c x.ids F0 _ (HP.out.1.below T0.bel) HP.out.2).mono ?_
  rintro e w1 ⟨b', l', c', F, rfl, p1, q1, hb1, hcap⟩
  have HCAP : Hid (Capd b' l' c') := hcap
  clear hcap
  have HT1 : Hid (Three w _ _ _ _ _ w1) := T0.below hb1
  have HF1 : Hid (RdP w1 b' l' x.ids F ∧ Own (w.heap.size + 3) w1 F) := ⟨p1, q1.mono T0.size⟩
  have c12 := HT1.out.loc.cell 2
  have f12 := HT1.out.loc.frozen 2
  simp only [aT, aS, aZ] at c12
  clear T0 hb1 p1 q1 HP
  go_wp2_with (first | go_skip | (with_reducible refine stopLoad 125 rfl ?_))
  have nl1 : w.heap.size + 1 + 1 ∉ F := fun hx => by have := HF1.out.2.ge _ hx; omega
  have HT2 : Hid (Three w _ _ _ _ _ (w1.setCell ⟨w.heap.size + 1 + 1, 2, none⟩ (.slice b' l' c'))) := HT1.out.set 2 (.slice b' l' c')
  have HF2 : Hid (RdP (w1.setCell ⟨w.heap.size + 1 + 1, 2, none⟩ (.slice b' l' c')) b' l' x.ids F ∧ Own (w.heap.size + 3) (w1.setCell ⟨w.heap.size + 1 + 1, 2, none⟩ (.slice b' l' c')) F) := ⟨HF1.out.1.agree (.set nl1 2 (.slice b' l' c')), HF1.out.2.agree (.set nl1 2 (.slice b' l' c'))⟩
  obtain ⟨w2, hw2⟩ : ∃ W, W = w1.setCell ⟨w.heap.size + 1 + 1, 2, none⟩ (.slice b' l' c') := ⟨_, rfl⟩
  rw [← hw2] at HT2 HF2 ⊢
  clear hw2 nl1 c12 f12 HT1 HF1
  refine load_cut 125 w.heap.size 3 7 _ #[.int .i64 x.sk.count, .int .i64 x.sk.sum, .int .i64 x.sk.min, .int .i64 x.sk.max, .slice a1 n1 c1, .slice a2 n2 c2, .slice a3 n3 c3] 127 _ HT2.out.box rfl rfl rfl Tryz.underlying125 rfl infoSkL (by simp) rfl ?_
  go_wp2_with fail
  refine (toSketch_any _ x.sk G0 _ (HR.out.1.below HT2.out.bel) HR.out.2).mono ?_
  rintro e w3 ⟨v1, G, rfl, r1, o1, hb3⟩
  obtain ⟨b1, m1, d1, b2, m2, d2, b3, m3, d3, rfl⟩ := r1.cells7
  have HT3 : Hid (Three w _ _ _ _ _ w3) := HT2.out.below hb3
  have HG : Hid (RdSk w3 (.agg #[.int .i64 x.sk.count, .int .i64 x.sk.sum, .int .i64 x.sk.min, .int .i64 x.sk.max, .slice b1 m1 d1, .slice b2 m2 d2, .slice b3 m3 d3]) x.sk G ∧ Own (w.heap.size + 3) w3 G ∧ RdP w3 b' l' x.ids F ∧ Own (w.heap.size + 3) w3 F ∧ ∀ b ∈ F, b ∉ G) := ⟨r1, o1.mono HT2.out.size, HF2.out.1.below hb3, HF2.out.2.below HF2.out.1.lt hb3, fun b hb hg => by have := HF2.out.1.lt b hb; have := o1.ge b hg; omega⟩
  clear hb3 r1 o1 HR HT2 HF2
  go_wp2_with (first | go_skip | (with_reducible refine stopStore 31 rfl ?_))
  refine store_cut 31 (w.heap.size + 1 + 1) 3 _ #[.int .i64 x.sk.count, .int .i64 x.sk.sum, .int .i64 x.sk.min, .int .i64 x.sk.max, .slice b1 m1 d1, .slice b2 m2 d2, .slice b3 m3 d3] #[.int .i64 x.key, .int .i64 x.window, .slice b' l' c', .int .i64 x.sk.count, .int .i64 x.sk.sum, .int .i64 x.sk.min, .int .i64 x.sk.max, .slice b1 m1 d1, .slice b2 m2 d2, .slice b3 m3 d3] 33 HT3.out.loc rfl rfl rfl rfl infoSkI (by simp) (one7 ..) (by simp [cutIn]) ?_
  obtain ⟨E, hE⟩ : ∃ E : Array Value, E = #[.int .i64 x.key, .int .i64 x.window, .slice b' l' c', .int .i64 x.sk.count, .int .i64 x.sk.sum, .int .i64 x.sk.min, .int .i64 x.sk.max, .slice b1 m1 d1, .slice b2 m2 d2, .slice b3 m3 d3] := ⟨_, rfl⟩
  rw [← hE]
  have HE : Hid (E = #[.int .i64 x.key, .int .i64 x.window, .slice b' l' c', .int .i64 x.sk.count, .int .i64 x.sk.sum, .int .i64 x.sk.min, .int .i64 x.sk.max, .slice b1 m1 d1, .slice b2 m2 d2, .slice b3 m3 d3]) := hE
  have hE10 : E.size = 10 := by rw [hE]; rfl
  have hEone : E.all (·.oneCell') = true := by rw [hE]; simp [Value.oneCell']
  have HB2 : Hid (Blk (w3.setRow (w.heap.size + 1 + 1) E) (w.heap.size + 1 + 1) E 33) := HT3.out.loc.setRow
  have HB3 : Hid (Blk (w3.setRow (w.heap.size + 1 + 1) E) (w.heap.size + 1) _ 33) := HT3.out.res.setRowOther (by omega)
  clear hE
  go_wp2_with (first | go_skip | (with_reducible refine stopLoad 33 rfl ?_))
  refine load_known 33 (w.heap.size + 1 + 1) E 33 _ HB2.out rfl rfl rfl Tryz.underlying33 rfl (by rw [hE10]; exact infoEnI) ?_
  go_wp2_with (first | go_skip | (with_reducible refine stopStore 33 rfl ?_))
  refine store_known 33 (w.heap.size + 1) _ E 33 HB3.out rfl rfl rfl rfl (by rw [hE10]; exact infoEnI) (by rw [hE10]; rfl) hEone ?_
  have HB4 : Hid (Blk ((w3.setRow (w.heap.size + 1 + 1) E).setRow (w.heap.size + 1) E) (w.heap.size + 1) E 33) := HB3.out.setRow
  have nr : w.heap.size + 1 ∉ G := fun hx => by have := HG.out.2.1.ge _ hx; omega
  have nl : w.heap.size + 1 + 1 ∉ G := fun hx => by have := HG.out.2.1.ge _ hx; omega
  have mr : w.heap.size + 1 ∉ F := fun hx => by have := HG.out.2.2.2.1.ge _ hx; omega
  have ml : w.heap.size + 1 + 1 ∉ F := fun hx => by have := HG.out.2.2.2.1.ge _ hx; omega
  obtain ⟨w4, hw4⟩ : ∃ W, W = (w3.setRow (w.heap.size + 1 + 1) E).setRow (w.heap.size + 1) E := ⟨_, rfl⟩
  have HF : Hid (RdSk w4 (.agg #[.int .i64 x.sk.count, .int .i64 x.sk.sum, .int .i64 x.sk.min, .int .i64 x.sk.max, .slice b1 m1 d1, .slice b2 m2 d2, .slice b3 m3 d3]) x.sk G ∧ RdP w4 b' l' x.ids F ∧ Own w.heap.size w4 F ∧ Own w.heap.size w4 G ∧ (∀ b ∈ F, b ∉ G) ∧ Below w.heap.size w w4) := by
    rw [hw4]
    exact ⟨(HG.out.1.agree (Agree.row nl E)).agree (Agree.row nr E), (HG.out.2.2.1.agree (Agree.row ml E)).agree (Agree.row mr E), ((HG.out.2.2.2.1.agree (Agree.row ml E)).agree (Agree.row mr E)).mono (by omega), ((HG.out.2.1.agree (Agree.row nl E)).agree (Agree.row nr E)).mono (by omega), HG.out.2.2.2.2, below_setRow (below_setRow HT3.out.bel (by omega) _) (by omega) _⟩
  rw [← hw4] at HB4 ⊢
  clear HB2 HB3 HG HT3 nr nl mr ml hw4
  go_wp2
  refine bodyPost_ret (results_cell_row Tryz.results92 _ _ (w.heap.size + 1) _ _ (0, 0) _ rfl HB4.out Tryz.underlying33 rfl (by rw [hE10]; exact infoEnI)) rfl ?_
  exact ⟨_, F, G, rfl, ⟨b', l', c', b1, m1, d1, b2, m2, d2, b3, m3, d3, by rw [HE.out], HF.out.2.1, HF.out.1, HCAP.out⟩, HF.out.2.2.1, HF.out.2.2.2.1, HF.out.2.2.2.2.1, HF.out.2.2.2.2.2⟩
end Go.Proofs.YtjnamoppcklomaaGreat
