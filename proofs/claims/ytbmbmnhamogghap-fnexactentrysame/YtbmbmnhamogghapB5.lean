/- Several texts of mine, laid together. No statement of the seat is proved here. -/
import Derived.Test.YtbmbmnhamogghapB4
import Derived.WalkKit
import Derived.Laws.BitsAllLaws
import Derived.Test.YtbmbmnhamogghapB1
import Derived.Deep.QuietTactic
import Derived.BigQuiet
/- The walks through the helpers of the laws over items: making, weighing, comparing. No statement of the seat is proved here. -/
namespace Go.Proofs.Ytbmbmnhamogghap
open Go.RowKit
theorem Agree.row {w : World} {F : List Nat} {g : Nat} (hg : g ∉ F) (ds : Array Value) : Agree w (w.setRow g ds) F := fun b hb => setRow_other w g b ds (fun e => hg (e ▸ hb))
theorem RdSk.cells7 {w : World} {v : Value} {s : Sk} {F : List Nat} (h : RdSk w v s F) : ∃ a1 n1 c1 a2 n2 c2 a3 n3 c3, v = .agg #[.int .i64 s.count, .int .i64 s.sum, .int .i64 s.min, .int .i64 s.max, .slice a1 n1 c1, .slice a2 n2 c2, .slice a3 n3 c3] := by
  obtain ⟨a1, n1, c1, a2, n2, c2, a3, n3, c3, F1, F2, F3, rfl, _⟩ := h
  exact ⟨a1, n1, c1, a2, n2, c2, a3, n3, c3, rfl⟩
theorem one7 (p q r s : Int) (a1 : Option Addr) (n1 c1 : Nat) (a2 : Option Addr) (n2 c2 : Nat) (a3 : Option Addr) (n3 c3 : Nat) : (#[Value.int .i64 p, .int .i64 q, .int .i64 r, .int .i64 s, .slice a1 n1 c1, .slice a2 n2 c2, .slice a3 n3 c3] : Array Value).all (·.oneCell') = true := by
  simp [Value.oneCell']
theorem infoSkI : (Try.prog.info? 32).map (·.size) = some 7 := by kernel_rfl
theorem infoSkL : (Try.prog.info? 26).map (·.size) = some 7 := by kernel_rfl
theorem infoItI : (Try.prog.info? 44).map (·.size) = some 11 := by kernel_rfl
set_option maxRecDepth 200000 in
set_option maxHeartbeats 2000000 in
theorem toItem_any (v : Value) (x : It) (F : List Nat) (w : World) (h : RdIt w v x F) (hf : x.sk.fits) :
    Calls Try.prog 16 #[v] w fun e w' => NewIt w x e w' := by
  obtain ⟨a1, n1, c1, a2, n2, c2, a3, n3, c3, rfl, hr⟩ := h
  have HR : Hid (RdSk w (.agg #[.int .i64 x.sk.count, .int .i64 x.sk.sum, .int .i64 x.sk.min, .int .i64 x.sk.max, .slice a1 n1 c1, .slice a2 n2 c2, .slice a3 n3 c3]) x.sk F ∧ x.sk.fits) := ⟨hr, hf⟩
  clear hr hf
  go_enter Try.func16, Try.ntmps16
  go_wp2_with (first | go_skip | (with_reducible refine stopLoad 26 rfl ?_))
  have T0 := Three.made w #[.int .i64 x.seq, .int .i64 x.cls, .int .i64 x.key, .int .i64 x.window, .int .i64 x.sk.count, .int .i64 x.sk.sum, .int .i64 x.sk.min, .int .i64 x.sk.max, .slice a1 n1 c1, .slice a2 n2 c2, .slice a3 n3 c3] 39 #[.int .i64 0, .int .i64 0, .int .i64 0, .int .i64 0, .int .i64 0, .int .i64 0, .int .i64 0, .int .i64 0, .slice none 0 0, .slice none 0 0, .slice none 0 0] #[.int .i64 x.seq, .int .i64 x.cls, .int .i64 x.key, .int .i64 x.window, .int .i64 0, .int .i64 0, .int .i64 0, .int .i64 0, .slice none 0 0, .slice none 0 0, .slice none 0 0] 44
  refine load_cut 26 w.heap.size 4 7 _ #[.int .i64 x.sk.count, .int .i64 x.sk.sum, .int .i64 x.sk.min, .int .i64 x.sk.max, .slice a1 n1 c1, .slice a2 n2 c2, .slice a3 n3 c3] 39 _ T0.box rfl rfl rfl Try.underlying26 rfl infoSkL (by simp) rfl ?_
  go_wp2_with fail
  refine (toSketch_any _ x.sk F _ (HR.out.1.below T0.bel) HR.out.2).mono ?_
  rintro e w1 ⟨v1, G, rfl, r1, o1, hb1⟩
  obtain ⟨b1, m1, d1, b2, m2, d2, b3, m3, d3, rfl⟩ := r1.cells7
  have HT1 : Hid (Three w _ _ _ _ _ w1) := T0.below hb1
  have HG : Hid (RdSk w1 (.agg #[.int .i64 x.sk.count, .int .i64 x.sk.sum, .int .i64 x.sk.min, .int .i64 x.sk.max, .slice b1 m1 d1, .slice b2 m2 d2, .slice b3 m3 d3]) x.sk G ∧ Own (w.heap.size + 3) w1 G) := ⟨r1, o1.mono T0.size⟩
  clear T0 hb1 r1 o1 HR
  go_wp2_with (first | go_skip | (with_reducible refine stopStore 32 rfl ?_))
  refine store_cut 32 (w.heap.size + 1 + 1) 4 _ #[.int .i64 x.sk.count, .int .i64 x.sk.sum, .int .i64 x.sk.min, .int .i64 x.sk.max, .slice b1 m1 d1, .slice b2 m2 d2, .slice b3 m3 d3] #[.int .i64 x.seq, .int .i64 x.cls, .int .i64 x.key, .int .i64 x.window, .int .i64 x.sk.count, .int .i64 x.sk.sum, .int .i64 x.sk.min, .int .i64 x.sk.max, .slice b1 m1 d1, .slice b2 m2 d2, .slice b3 m3 d3] 44 HT1.out.loc rfl rfl rfl rfl infoSkI (by simp) (one7 ..) rfl ?_
  obtain ⟨E, hE⟩ : ∃ E : Array Value, E = #[.int .i64 x.seq, .int .i64 x.cls, .int .i64 x.key, .int .i64 x.window, .int .i64 x.sk.count, .int .i64 x.sk.sum, .int .i64 x.sk.min, .int .i64 x.sk.max, .slice b1 m1 d1, .slice b2 m2 d2, .slice b3 m3 d3] := ⟨_, rfl⟩
  rw [← hE]
  have HE : Hid (E = #[.int .i64 x.seq, .int .i64 x.cls, .int .i64 x.key, .int .i64 x.window, .int .i64 x.sk.count, .int .i64 x.sk.sum, .int .i64 x.sk.min, .int .i64 x.sk.max, .slice b1 m1 d1, .slice b2 m2 d2, .slice b3 m3 d3]) := hE
  have hE11 : E.size = 11 := by rw [hE]; rfl
  have hEone : E.all (·.oneCell') = true := by rw [hE]; simp [Value.oneCell']
  have HB2 : Hid (Blk (w1.setRow (w.heap.size + 1 + 1) E) (w.heap.size + 1 + 1) E 44) := HT1.out.loc.setRow
  have HB3 : Hid (Blk (w1.setRow (w.heap.size + 1 + 1) E) (w.heap.size + 1) _ 44) := HT1.out.res.setRowOther (by omega)
  clear hE
  go_wp2_with (first | go_skip | (with_reducible refine stopLoad 44 rfl ?_))
  refine load_known 44 (w.heap.size + 1 + 1) E 44 _ HB2.out rfl rfl rfl Try.underlying44 rfl (by rw [hE11]; exact infoItI) ?_
  go_wp2_with (first | go_skip | (with_reducible refine stopStore 44 rfl ?_))
  refine store_known 44 (w.heap.size + 1) _ E 44 HB3.out rfl rfl rfl rfl (by rw [hE11]; exact infoItI) (by rw [hE11]; rfl) hEone ?_
  have HB4 : Hid (Blk ((w1.setRow (w.heap.size + 1 + 1) E).setRow (w.heap.size + 1) E) (w.heap.size + 1) E 44) := HB3.out.setRow
  have nr : w.heap.size + 1 ∉ G := fun hx => by have := HG.out.2.ge _ hx; omega
  have nl : w.heap.size + 1 + 1 ∉ G := fun hx => by have := HG.out.2.ge _ hx; omega
  have HF : Hid (RdSk ((w1.setRow (w.heap.size + 1 + 1) E).setRow (w.heap.size + 1) E) (.agg #[.int .i64 x.sk.count, .int .i64 x.sk.sum, .int .i64 x.sk.min, .int .i64 x.sk.max, .slice b1 m1 d1, .slice b2 m2 d2, .slice b3 m3 d3]) x.sk G ∧ Own w.heap.size ((w1.setRow (w.heap.size + 1 + 1) E).setRow (w.heap.size + 1) E) G ∧ Below w.heap.size w ((w1.setRow (w.heap.size + 1 + 1) E).setRow (w.heap.size + 1) E)) :=
    ⟨(HG.out.1.agree (Agree.row nl E)).agree (Agree.row nr E), ((HG.out.2.agree (Agree.row nl E)).agree (Agree.row nr E)).mono (by omega), below_setRow (below_setRow HT1.out.bel (by omega) _) (by omega) _⟩
  clear HB2 HB3 HG HT1 nr nl
  go_wp2
  refine bodyPost_ret (results_cell_row Try.results16 _ _ (w.heap.size + 1) _ _ (0, 0) _ rfl HB4.out Try.underlying44 rfl (by rw [hE11]; exact infoItI)) rfl ?_
  exact ⟨_, G, rfl, ⟨b1, m1, d1, b2, m2, d2, b3, m3, d3, by rw [HE.out], HF.out.1⟩, HF.out.2.1, HF.out.2.2⟩
theorem infoEnI : (Try.prog.info? 34).map (·.size) = some 10 := by kernel_rfl
set_option maxRecDepth 200000 in
set_option maxHeartbeats 2000000 in
theorem toEntry_any (v : Value) (x : En) (F0 G0 : List Nat) (w : World) (h : RdEn w v x F0 G0) (hf : x.sk.fits) (hp : x.ids.length ≤ 1048576) :
    Calls Try.prog 11 #[v] w fun e w' => NewEn w x e w' := by
  obtain ⟨b, l, c, a1, n1, c1, a2, n2, c2, a3, n3, c3, rfl, hpd, hr, _⟩ := h
  have HR : Hid (RdSk w (.agg #[.int .i64 x.sk.count, .int .i64 x.sk.sum, .int .i64 x.sk.min, .int .i64 x.sk.max, .slice a1 n1 c1, .slice a2 n2 c2, .slice a3 n3 c3]) x.sk G0 ∧ x.sk.fits) := ⟨hr, hf⟩
  have HP : Hid (RdP w b l x.ids F0 ∧ l ≤ 1048576) := ⟨hpd, by rw [← hpd.length]; exact hp⟩
  clear hr hf hpd hp
  go_enter Try.func11, Try.ntmps11
  go_wp2_with fail
  have T0 := Three.made w #[.int .i64 x.key, .int .i64 x.window, .slice b l c, .int .i64 x.sk.count, .int .i64 x.sk.sum, .int .i64 x.sk.min, .int .i64 x.sk.max, .slice a1 n1 c1, .slice a2 n2 c2, .slice a3 n3 c3] 28 #[.int .i64 0, .int .i64 0, .slice none 0 0, .int .i64 0, .int .i64 0, .int .i64 0, .int .i64 0, .slice none 0 0, .slice none 0 0, .slice none 0 0] #[.int .i64 x.key, .int .i64 x.window, .slice none 0 0, .int .i64 0, .int .i64 0, .int .i64 0, .int .i64 0, .slice none 0 0, .slice none 0 0, .slice none 0 0] 34
  refine (toSpanS_any b l c x.ids F0 _ (HP.out.1.below T0.bel) HP.out.2).mono ?_
  rintro e w1 ⟨b', l', c', F, rfl, p1, q1, hb1, hcap⟩
  have HCAP : Hid (Capd b' l' c') := hcap
  clear hcap
  have HT1 : Hid (Three w _ _ _ _ _ w1) := T0.below hb1
  have HF1 : Hid (RdP w1 b' l' x.ids F ∧ Own (w.heap.size + 3) w1 F) := ⟨p1, q1.mono T0.size⟩
  have c12 := HT1.out.loc.cell 2
  have f12 := HT1.out.loc.frozen 2
  simp only [List.getElem?_toArray, List.getElem?_cons_succ, List.getElem?_cons_zero] at c12
  clear T0 hb1 p1 q1 HP
  go_wp2_with (first | go_skip | (with_reducible refine stopLoad 26 rfl ?_))
  have nl1 : w.heap.size + 1 + 1 ∉ F := fun hx => by have := HF1.out.2.ge _ hx; omega
  have HT2 : Hid (Three w _ _ _ _ _ (w1.setCell ⟨w.heap.size + 1 + 1, 2, none⟩ (.slice b' l' c'))) := HT1.out.set 2 (.slice b' l' c')
  have HF2 : Hid (RdP (w1.setCell ⟨w.heap.size + 1 + 1, 2, none⟩ (.slice b' l' c')) b' l' x.ids F ∧ Own (w.heap.size + 3) (w1.setCell ⟨w.heap.size + 1 + 1, 2, none⟩ (.slice b' l' c')) F) := ⟨HF1.out.1.agree (.set nl1 2 (.slice b' l' c')), HF1.out.2.agree (.set nl1 2 (.slice b' l' c'))⟩
  obtain ⟨w2, hw2⟩ : ∃ W, W = w1.setCell ⟨w.heap.size + 1 + 1, 2, none⟩ (.slice b' l' c') := ⟨_, rfl⟩
  rw [← hw2] at HT2 HF2 ⊢
  clear hw2 nl1 c12 f12 HT1 HF1
  refine load_cut 26 w.heap.size 3 7 _ #[.int .i64 x.sk.count, .int .i64 x.sk.sum, .int .i64 x.sk.min, .int .i64 x.sk.max, .slice a1 n1 c1, .slice a2 n2 c2, .slice a3 n3 c3] 28 _ HT2.out.box rfl rfl rfl Try.underlying26 rfl infoSkL (by simp) rfl ?_
  go_wp2_with fail
  refine (toSketch_any _ x.sk G0 _ (HR.out.1.below HT2.out.bel) HR.out.2).mono ?_
  rintro e w3 ⟨v1, G, rfl, r1, o1, hb3⟩
  obtain ⟨b1, m1, d1, b2, m2, d2, b3, m3, d3, rfl⟩ := r1.cells7
  have HT3 : Hid (Three w _ _ _ _ _ w3) := HT2.out.below hb3
  have HG : Hid (RdSk w3 (.agg #[.int .i64 x.sk.count, .int .i64 x.sk.sum, .int .i64 x.sk.min, .int .i64 x.sk.max, .slice b1 m1 d1, .slice b2 m2 d2, .slice b3 m3 d3]) x.sk G ∧ Own (w.heap.size + 3) w3 G ∧ RdP w3 b' l' x.ids F ∧ Own (w.heap.size + 3) w3 F ∧ ∀ b ∈ F, b ∉ G) := ⟨r1, o1.mono HT2.out.size, HF2.out.1.below hb3, HF2.out.2.below HF2.out.1.lt hb3, fun b hb hg => by have := HF2.out.1.lt b hb; have := o1.ge b hg; omega⟩
  clear hb3 r1 o1 HR HT2 HF2
  go_wp2_with (first | go_skip | (with_reducible refine stopStore 32 rfl ?_))
  refine store_cut 32 (w.heap.size + 1 + 1) 3 _ #[.int .i64 x.sk.count, .int .i64 x.sk.sum, .int .i64 x.sk.min, .int .i64 x.sk.max, .slice b1 m1 d1, .slice b2 m2 d2, .slice b3 m3 d3] #[.int .i64 x.key, .int .i64 x.window, .slice b' l' c', .int .i64 x.sk.count, .int .i64 x.sk.sum, .int .i64 x.sk.min, .int .i64 x.sk.max, .slice b1 m1 d1, .slice b2 m2 d2, .slice b3 m3 d3] 34 HT3.out.loc rfl rfl rfl rfl infoSkI (by simp) (one7 ..) (by simp [cutIn]) ?_
  obtain ⟨E, hE⟩ : ∃ E : Array Value, E = #[.int .i64 x.key, .int .i64 x.window, .slice b' l' c', .int .i64 x.sk.count, .int .i64 x.sk.sum, .int .i64 x.sk.min, .int .i64 x.sk.max, .slice b1 m1 d1, .slice b2 m2 d2, .slice b3 m3 d3] := ⟨_, rfl⟩
  rw [← hE]
  have HE : Hid (E = #[.int .i64 x.key, .int .i64 x.window, .slice b' l' c', .int .i64 x.sk.count, .int .i64 x.sk.sum, .int .i64 x.sk.min, .int .i64 x.sk.max, .slice b1 m1 d1, .slice b2 m2 d2, .slice b3 m3 d3]) := hE
  have hE10 : E.size = 10 := by rw [hE]; rfl
  have hEone : E.all (·.oneCell') = true := by rw [hE]; simp [Value.oneCell']
  have HB2 : Hid (Blk (w3.setRow (w.heap.size + 1 + 1) E) (w.heap.size + 1 + 1) E 34) := HT3.out.loc.setRow
  have HB3 : Hid (Blk (w3.setRow (w.heap.size + 1 + 1) E) (w.heap.size + 1) _ 34) := HT3.out.res.setRowOther (by omega)
  clear hE
  go_wp2_with (first | go_skip | (with_reducible refine stopLoad 34 rfl ?_))
  refine load_known 34 (w.heap.size + 1 + 1) E 34 _ HB2.out rfl rfl rfl Try.underlying34 rfl (by rw [hE10]; exact infoEnI) ?_
  go_wp2_with (first | go_skip | (with_reducible refine stopStore 34 rfl ?_))
  refine store_known 34 (w.heap.size + 1) _ E 34 HB3.out rfl rfl rfl rfl (by rw [hE10]; exact infoEnI) (by rw [hE10]; rfl) hEone ?_
  have HB4 : Hid (Blk ((w3.setRow (w.heap.size + 1 + 1) E).setRow (w.heap.size + 1) E) (w.heap.size + 1) E 34) := HB3.out.setRow
  have nr : w.heap.size + 1 ∉ G := fun hx => by have := HG.out.2.1.ge _ hx; omega
  have nl : w.heap.size + 1 + 1 ∉ G := fun hx => by have := HG.out.2.1.ge _ hx; omega
  have mr : w.heap.size + 1 ∉ F := fun hx => by have := HG.out.2.2.2.1.ge _ hx; omega
  have ml : w.heap.size + 1 + 1 ∉ F := fun hx => by have := HG.out.2.2.2.1.ge _ hx; omega
  obtain ⟨w4, hw4⟩ : ∃ W, W = (w3.setRow (w.heap.size + 1 + 1) E).setRow (w.heap.size + 1) E := ⟨_, rfl⟩
  have HF : Hid (RdSk w4 (.agg #[.int .i64 x.sk.count, .int .i64 x.sk.sum, .int .i64 x.sk.min, .int .i64 x.sk.max, .slice b1 m1 d1, .slice b2 m2 d2, .slice b3 m3 d3]) x.sk G ∧ RdP w4 b' l' x.ids F ∧ Own w.heap.size w4 F ∧ Own w.heap.size w4 G ∧ (∀ b ∈ F, b ∉ G) ∧ Below w.heap.size w w4) := by
    rw [hw4]
    exact ⟨(HG.out.1.agree (Agree.row nl E)).agree (Agree.row nr E), (HG.out.2.2.1.agree (Agree.row ml E)).agree (Agree.row mr E), ((HG.out.2.2.2.1.agree (Agree.row ml E)).agree (Agree.row mr E)).mono (by omega), ((HG.out.2.1.agree (Agree.row nl E)).agree (Agree.row nr E)).mono (by omega), HG.out.2.2.2.2, below_setRow (below_setRow HT3.out.bel (by omega) _) (by omega) _⟩
  rw [← hw4] at HB4 ⊢
  clear HB2 HB3 HG HT3 nr nl mr ml hw4
  go_wp2
  refine bodyPost_ret (results_cell_row Try.results11 _ _ (w.heap.size + 1) _ _ (0, 0) _ rfl HB4.out Try.underlying34 rfl (by rw [hE10]; exact infoEnI)) rfl ?_
  exact ⟨_, F, G, rfl, ⟨b', l', c', b1, m1, d1, b2, m2, d2, b3, m3, d3, by rw [HE.out], HF.out.2.1, HF.out.1, HCAP.out⟩, HF.out.2.2.1, HF.out.2.2.2.1, HF.out.2.2.2.2.1, HF.out.2.2.2.2.2⟩
set_option maxRecDepth 200000 in
set_option maxHeartbeats 1000000 in
theorem szItem_vast (v : Value) (x : It) (F : List Nat) (left : Int) (w : World) (h : RdIt w v x F) (hw : x.sk.vast) (hl0 : 0 ≤ left) (hl1 : left ≤ 1048576) :
    Calls Try.prog 14 #[v, .int .i64 left] w fun e w' => (∃ r, e = .returned (.int .i64 r) ∧ r ≤ left ∧ (0 ≤ r → r = left - x.sk.size) ∧ (r < 0 → left < x.sk.size)) ∧ Below w.heap.size w w' := by
  obtain ⟨a1, n1, c1, a2, n2, c2, a3, n3, c3, rfl, hr⟩ := h
  have HR : Hid (RdSk w (.agg #[.int .i64 x.sk.count, .int .i64 x.sk.sum, .int .i64 x.sk.min, .int .i64 x.sk.max, .slice a1 n1 c1, .slice a2 n2 c2, .slice a3 n3 c3]) x.sk F ∧ x.sk.vast) := ⟨hr, hw⟩
  clear hr hw
  go_enter Try.func14, Try.ntmps14
  go_wp2_with (first | go_skip | (with_reducible refine stopLoad 26 rfl ?_))
  have HB : Hid (Below w.heap.size w (w.alloc (.cells #[.int .i64 x.seq, .int .i64 x.cls, .int .i64 x.key, .int .i64 x.window, .int .i64 x.sk.count, .int .i64 x.sk.sum, .int .i64 x.sk.min, .int .i64 x.sk.max, .slice a1 n1 c1, .slice a2 n2 c2, .slice a3 n3 c3] 39))) := Below.allocW _ (Below.refl _ _) (Nat.le_refl _)
  refine load_cut 26 w.heap.size 4 7 _ #[.int .i64 x.sk.count, .int .i64 x.sk.sum, .int .i64 x.sk.min, .int .i64 x.sk.max, .slice a1 n1 c1, .slice a2 n2 c2, .slice a3 n3 c3] 39 _ (Blk.made _ _ _) rfl rfl rfl Try.underlying26 rfl infoSkL (by simp) rfl ?_
  go_wp2_with fail
  refine (szSketch_vast _ x.sk F left _ (HR.out.1.below HB.out) HR.out.2 hl0 hl1).mono ?_
  rintro e w1 ⟨⟨r, rfl, ra, rb, rc⟩, hb1⟩
  have HB1 : Hid (Below w.heap.size w w1) := Below.next HB.out hb1
  have HV : Hid (r ≤ left ∧ (0 ≤ r → r = left - x.sk.size) ∧ (r < 0 → left < x.sk.size)) := ⟨ra, rb, rc⟩
  clear hb1 rb rc HB
  by_cases q : r < 0
  · clear ra
    go_wp2
    go_ret
    exact ⟨⟨-1, rfl, by omega, by omega, fun _ => HV.out.2.2 q⟩, HB1.out⟩
  · go_wp2
    go_ret
    exact ⟨⟨r, rfl, HV.out⟩, HB1.out⟩
end Go.Proofs.Ytbmbmnhamogghap
/- The walks through more helpers of the laws over items and entries. No statement of the seat is proved here. -/
namespace Go.Proofs.Ytbmbmnhamogghap
open Go.RowKit
set_option maxRecDepth 200000 in
set_option maxHeartbeats 2000000 in
theorem szEntry_vast (v : Value) (x : En) (F G : List Nat) (left : Int) (w : World) (h : RdEn w v x F G) (hw : x.sk.vast) (hids : x.ids.length ≤ 9223372036854775807) (hl0 : 0 ≤ left) (hl1 : left ≤ 1048576) :
    Calls Try.prog 9 #[v, .int .i64 left] w fun e w' => (∃ r, e = .returned (.int .i64 r) ∧ r ≤ left ∧ (0 ≤ r → r = left - x.ids.length - x.sk.size ∧ (x.ids.length : Int) ≤ left ∧ x.sk.size ≤ left) ∧ (r < 0 → left < x.ids.length + x.sk.size)) ∧ Below w.heap.size w w' := by
  obtain ⟨b, l, c, a1, n1, c1, a2, n2, c2, a3, n3, c3, rfl, hpd, hr, _⟩ := h
  have HR : Hid (RdSk w (.agg #[.int .i64 x.sk.count, .int .i64 x.sk.sum, .int .i64 x.sk.min, .int .i64 x.sk.max, .slice a1 n1 c1, .slice a2 n2 c2, .slice a3 n3 c3]) x.sk G ∧ x.sk.vast) := ⟨hr, hw⟩
  have HL : Hid (x.ids.length = l) := hpd.length
  have HB : Hid (Below w.heap.size w (w.alloc (.cells #[.int .i64 x.key, .int .i64 x.window, .slice b l c, .int .i64 x.sk.count, .int .i64 x.sk.sum, .int .i64 x.sk.min, .int .i64 x.sk.max, .slice a1 n1 c1, .slice a2 n2 c2, .slice a3 n3 c3] 28)) ∧ Blk (w.alloc (.cells #[.int .i64 x.key, .int .i64 x.window, .slice b l c, .int .i64 x.sk.count, .int .i64 x.sk.sum, .int .i64 x.sk.min, .int .i64 x.sk.max, .slice a1 n1 c1, .slice a2 n2 c2, .slice a3 n3 c3] 28)) w.heap.size #[.int .i64 x.key, .int .i64 x.window, .slice b l c, .int .i64 x.sk.count, .int .i64 x.sk.sum, .int .i64 x.sk.min, .int .i64 x.sk.max, .slice a1 n1 c1, .slice a2 n2 c2, .slice a3 n3 c3] 28) := ⟨Below.allocW _ (Below.refl _ _) (Nat.le_refl _), Blk.made _ _ _⟩
  have HN : Hid (0 ≤ x.sk.size) := by unfold Sk.size; have := sumLen_nonneg x.sk.rows; show _ ≤ _; omega
  have hln : l ≤ 9223372036854775807 := by rw [← hpd.length]; exact hids
  clear hr hw hpd hids
  go_enter Try.func9, Try.ntmps9
  go_wp2_with fail
  refine (szSpanS_vast b l c left _ hln hl0 hl1).mono ?_
  rintro e w1 ⟨⟨r, rfl, ra, rb, rc⟩, hw1⟩
  have hw1' := hw1.symm
  subst hw1'
  clear hw1
  by_cases q : r < 0
  · have HV : Hid (left < (x.ids.length : Int) + x.sk.size) := by have := rc q; have := HL.out; have := HN.out; show _ < _; omega
    clear ra rb rc
    go_wp2
    go_ret
    exact ⟨⟨-1, rfl, by omega, by omega, fun _ => HV.out⟩, HB.out.1⟩
  have hr0 : 0 ≤ r := by omega
  have HV : Hid (r = left - l ∧ r ≤ left) := ⟨rb hr0, ra⟩
  have hr1 : r ≤ 1048576 := by omega
  clear ra rb rc q
  go_wp2_with (first | go_skip | (with_reducible refine stopLoad 26 rfl ?_))
  refine load_cut 26 w.heap.size 3 7 _ #[.int .i64 x.sk.count, .int .i64 x.sk.sum, .int .i64 x.sk.min, .int .i64 x.sk.max, .slice a1 n1 c1, .slice a2 n2 c2, .slice a3 n3 c3] 28 _ HB.out.2 rfl rfl rfl Try.underlying26 rfl infoSkL (by simp) rfl ?_
  go_wp2_with fail
  refine (szSketch_vast _ x.sk G r _ (HR.out.1.below HB.out.1) HR.out.2 hr0 hr1).mono ?_
  rintro e w2 ⟨⟨s, rfl, sa, sb, sc⟩, hb1⟩
  have HB1 : Hid (Below w.heap.size w w2) := Below.next HB.out.1 hb1
  have HS : Hid (s ≤ r ∧ (0 ≤ s → s = r - x.sk.size) ∧ (s < 0 → r < x.sk.size)) := ⟨sa, sb, sc⟩
  clear hb1 sa sb sc
  by_cases q : s < 0
  · go_wp2
    go_ret
    exact ⟨⟨-1, rfl, by omega, by omega, fun _ => by have := HS.out.2.2 q; have := HV.out; have := HL.out; omega⟩, HB1.out⟩
  · go_wp2
    go_ret
    exact ⟨⟨s, rfl, by have := HS.out; have := HV.out; omega, fun hs => by have := HS.out.2.1 hs; have := HV.out; have := HL.out; have := HN.out; omega, fun hs => by omega⟩, HB1.out⟩
set_option maxRecDepth 200000 in
set_option maxHeartbeats 4000000 in
theorem eqItem_any (v u : Value) (x y : It) (F G : List Nat) (w : World) (h : RdIt w v x F) (k : RdIt w u y G) (hw : x.sk.wide) (kw : y.sk.wide) :
    Calls Try.prog 18 #[v, u] w fun e w' => e = .returned (.bool (decide (x = y))) ∧ Below w.heap.size w w' := by
  obtain ⟨a1, n1, c1, a2, n2, c2, a3, n3, c3, rfl, hx⟩ := h
  obtain ⟨b1, m1, d1, b2, m2, d2, b3, m3, d3, rfl, hy⟩ := k
  have HR : Hid (RdSk w (.agg #[.int .i64 x.sk.count, .int .i64 x.sk.sum, .int .i64 x.sk.min, .int .i64 x.sk.max, .slice a1 n1 c1, .slice a2 n2 c2, .slice a3 n3 c3]) x.sk F ∧ x.sk.wide) := ⟨hx, hw⟩
  have HY : Hid (RdSk w (.agg #[.int .i64 y.sk.count, .int .i64 y.sk.sum, .int .i64 y.sk.min, .int .i64 y.sk.max, .slice b1 m1 d1, .slice b2 m2 d2, .slice b3 m3 d3]) y.sk G ∧ y.sk.wide) := ⟨hy, kw⟩
  have HT : Hid (Two w #[.int .i64 x.seq, .int .i64 x.cls, .int .i64 x.key, .int .i64 x.window, .int .i64 x.sk.count, .int .i64 x.sk.sum, .int .i64 x.sk.min, .int .i64 x.sk.max, .slice a1 n1 c1, .slice a2 n2 c2, .slice a3 n3 c3] #[.int .i64 y.seq, .int .i64 y.cls, .int .i64 y.key, .int .i64 y.window, .int .i64 y.sk.count, .int .i64 y.sk.sum, .int .i64 y.sk.min, .int .i64 y.sk.max, .slice b1 m1 d1, .slice b2 m2 d2, .slice b3 m3 d3] 44 ((w.alloc (.cells #[.int .i64 x.seq, .int .i64 x.cls, .int .i64 x.key, .int .i64 x.window, .int .i64 x.sk.count, .int .i64 x.sk.sum, .int .i64 x.sk.min, .int .i64 x.sk.max, .slice a1 n1 c1, .slice a2 n2 c2, .slice a3 n3 c3] 44)).alloc (.cells #[.int .i64 y.seq, .int .i64 y.cls, .int .i64 y.key, .int .i64 y.window, .int .i64 y.sk.count, .int .i64 y.sk.sum, .int .i64 y.sk.min, .int .i64 y.sk.max, .slice b1 m1 d1, .slice b2 m2 d2, .slice b3 m3 d3] 44))) := Two.made ..
  clear hx hy hw kw
  go_enter Try.func18, Try.ntmps18
  by_cases h0 : x.seq = y.seq
  rotate_left
  · have e0 : (x.seq != y.seq) = true := by simpa using h0
    have HV : Hid (decide (x = y) = false) := dec_false (fun e => h0 (by rw [e]))
    clear h0
    go_wp2
    go_ret
    exact ⟨ret_bool HV.out.symm, HT.out.bel⟩
  have e0 : (x.seq != y.seq) = false := by simpa using h0
  have H0 : Hid (x.seq = y.seq) := h0
  clear h0
  by_cases h1 : x.cls = y.cls
  rotate_left
  · have e1 : (x.cls != y.cls) = true := by simpa using h1
    have HV : Hid (decide (x = y) = false) := dec_false (fun e => h1 (by rw [e]))
    clear h1
    go_wp2
    go_ret
    exact ⟨ret_bool HV.out.symm, HT.out.bel⟩
  have e1 : (x.cls != y.cls) = false := by simpa using h1
  have H1 : Hid (x.cls = y.cls) := h1
  clear h1
  by_cases h2 : x.key = y.key
  rotate_left
  · have e2 : (x.key != y.key) = true := by simpa using h2
    have HV : Hid (decide (x = y) = false) := dec_false (fun e => h2 (by rw [e]))
    clear h2
    go_wp2
    go_ret
    exact ⟨ret_bool HV.out.symm, HT.out.bel⟩
  have e2 : (x.key != y.key) = false := by simpa using h2
  have H2 : Hid (x.key = y.key) := h2
  clear h2
  by_cases h3 : x.window = y.window
  rotate_left
  · have e3 : (x.window != y.window) = true := by simpa using h3
    have HV : Hid (decide (x = y) = false) := dec_false (fun e => h3 (by rw [e]))
    clear h3
    go_wp2
    go_ret
    exact ⟨ret_bool HV.out.symm, HT.out.bel⟩
  have e3 : (x.window != y.window) = false := by simpa using h3
  have H3 : Hid (x.window = y.window) := h3
  clear h3
  go_wp2_with (first | go_skip | (with_reducible refine stopLoad 32 rfl ?_))
  refine load_cut 32 w.heap.size 4 7 _ #[.int .i64 x.sk.count, .int .i64 x.sk.sum, .int .i64 x.sk.min, .int .i64 x.sk.max, .slice a1 n1 c1, .slice a2 n2 c2, .slice a3 n3 c3] 44 _ HT.out.fst rfl rfl rfl Try.underlying32 rfl infoSkI (by simp) rfl ?_
  go_wp2_with (first | go_skip | (with_reducible refine stopLoad 32 rfl ?_))
  refine load_cut 32 (w.heap.size + 1) 4 7 _ #[.int .i64 y.sk.count, .int .i64 y.sk.sum, .int .i64 y.sk.min, .int .i64 y.sk.max, .slice b1 m1 d1, .slice b2 m2 d2, .slice b3 m3 d3] 44 _ HT.out.snd rfl rfl rfl Try.underlying32 rfl infoSkI (by simp) rfl ?_
  go_wp2_with fail
  refine (eqSketch_any _ _ x.sk y.sk F G _ (HR.out.1.below HT.out.bel) (HY.out.1.below HT.out.bel) HR.out.2 HY.out.2).mono ?_
  rintro e w2 ⟨rfl, hb2⟩
  have HB2 : Hid (Below w.heap.size w w2) := Below.next HT.out.bel hb2
  obtain ⟨f, hf⟩ : ∃ d, d = decide (x.sk = y.sk) := ⟨_, rfl⟩
  rw [← hf]
  have HF : Hid (f = decide (x.sk = y.sk)) := hf
  clear hb2 hf
  cases f
  · have HV : Hid (decide (x = y) = false) := dec_false (fun e => by have := HF.out.symm; rw [decide_eq_false_iff_not] at this; exact this (by rw [e]))
    go_wp2
    go_ret
    exact ⟨ret_bool HV.out.symm, HB2.out⟩
  have HV : Hid (decide (x = y) = true) := dec_true (It.eq_of H0.out H1.out H2.out H3.out (of_decide_eq_true HF.out.symm))
  go_wp2
  go_ret
  exact ⟨ret_bool HV.out.symm, HB2.out⟩
set_option maxRecDepth 200000 in
set_option maxHeartbeats 4000000 in
theorem eqEntry_any (v u : Value) (x y : En) (F F' G G' : List Nat) (w : World) (h : RdEn w v x F F') (k : RdEn w u y G G') (hw : x.sk.wide) (kw : y.sk.wide) (hl : x.ids.length ≤ 140737488355328) (kl : y.ids.length ≤ 140737488355328) :
    Calls Try.prog 13 #[v, u] w fun e w' => e = .returned (.bool (decide (x = y))) ∧ Below w.heap.size w w' := by
  obtain ⟨p, l, g, a1, n1, c1, a2, n2, c2, a3, n3, c3, rfl, px, hx, _⟩ := h
  obtain ⟨q, k, j, b1, m1, d1, b2, m2, d2, b3, m3, d3, rfl, py, hy, _⟩ := k
  have HPX : Hid (RdP w p l x.ids F ∧ RdP w q k y.ids G ∧ l ≤ 140737488355328 ∧ k ≤ 140737488355328) := ⟨px, py, by rw [← px.length]; exact hl, by rw [← py.length]; exact kl⟩
  clear px py hl kl
  have HR : Hid (RdSk w (.agg #[.int .i64 x.sk.count, .int .i64 x.sk.sum, .int .i64 x.sk.min, .int .i64 x.sk.max, .slice a1 n1 c1, .slice a2 n2 c2, .slice a3 n3 c3]) x.sk F' ∧ x.sk.wide) := ⟨hx, hw⟩
  have HY : Hid (RdSk w (.agg #[.int .i64 y.sk.count, .int .i64 y.sk.sum, .int .i64 y.sk.min, .int .i64 y.sk.max, .slice b1 m1 d1, .slice b2 m2 d2, .slice b3 m3 d3]) y.sk G' ∧ y.sk.wide) := ⟨hy, kw⟩
  have HT : Hid (Two w #[.int .i64 x.key, .int .i64 x.window, .slice p l g, .int .i64 x.sk.count, .int .i64 x.sk.sum, .int .i64 x.sk.min, .int .i64 x.sk.max, .slice a1 n1 c1, .slice a2 n2 c2, .slice a3 n3 c3] #[.int .i64 y.key, .int .i64 y.window, .slice q k j, .int .i64 y.sk.count, .int .i64 y.sk.sum, .int .i64 y.sk.min, .int .i64 y.sk.max, .slice b1 m1 d1, .slice b2 m2 d2, .slice b3 m3 d3] 34 ((w.alloc (.cells #[.int .i64 x.key, .int .i64 x.window, .slice p l g, .int .i64 x.sk.count, .int .i64 x.sk.sum, .int .i64 x.sk.min, .int .i64 x.sk.max, .slice a1 n1 c1, .slice a2 n2 c2, .slice a3 n3 c3] 34)).alloc (.cells #[.int .i64 y.key, .int .i64 y.window, .slice q k j, .int .i64 y.sk.count, .int .i64 y.sk.sum, .int .i64 y.sk.min, .int .i64 y.sk.max, .slice b1 m1 d1, .slice b2 m2 d2, .slice b3 m3 d3] 34))) := Two.made ..
  clear hx hy hw kw
  go_enter Try.func13, Try.ntmps13
  by_cases h0 : x.key = y.key
  rotate_left
  · have e0 : (x.key != y.key) = true := by simpa using h0
    have HV : Hid (decide (x = y) = false) := dec_false (fun e => h0 (by rw [e]))
    clear h0
    go_wp2
    go_ret
    exact ⟨ret_bool HV.out.symm, HT.out.bel⟩
  have e0 : (x.key != y.key) = false := by simpa using h0
  have H0 : Hid (x.key = y.key) := h0
  clear h0
  by_cases h1 : x.window = y.window
  rotate_left
  · have e1 : (x.window != y.window) = true := by simpa using h1
    have HV : Hid (decide (x = y) = false) := dec_false (fun e => h1 (by rw [e]))
    clear h1
    go_wp2
    go_ret
    exact ⟨ret_bool HV.out.symm, HT.out.bel⟩
  have e1 : (x.window != y.window) = false := by simpa using h1
  have H1 : Hid (x.window = y.window) := h1
  clear h1
  go_wp2_with fail
  refine (eqSpanS_any p q l k g j x.ids y.ids F G _ (HPX.out.1.below HT.out.bel) (HPX.out.2.1.below HT.out.bel) HPX.out.2.2.1 HPX.out.2.2.2).mono ?_
  rintro e w1 ⟨rfl, hb1⟩
  have HT1 : Hid (Two w #[.int .i64 x.key, .int .i64 x.window, .slice p l g, .int .i64 x.sk.count, .int .i64 x.sk.sum, .int .i64 x.sk.min, .int .i64 x.sk.max, .slice a1 n1 c1, .slice a2 n2 c2, .slice a3 n3 c3] #[.int .i64 y.key, .int .i64 y.window, .slice q k j, .int .i64 y.sk.count, .int .i64 y.sk.sum, .int .i64 y.sk.min, .int .i64 y.sk.max, .slice b1 m1 d1, .slice b2 m2 d2, .slice b3 m3 d3] 34 w1) := HT.out.below hb1
  obtain ⟨d, hd⟩ : ∃ d, d = decide (x.ids = y.ids) := ⟨_, rfl⟩
  rw [← hd]
  have HD : Hid (d = decide (x.ids = y.ids)) := hd
  clear hb1 HT hd
  cases d
  · have HV : Hid (decide (x = y) = false) := dec_false (fun e => by have := HD.out.symm; rw [decide_eq_false_iff_not] at this; exact this (by rw [e]))
    go_wp2
    go_ret
    exact ⟨ret_bool HV.out.symm, HT1.out.bel⟩
  have HI : Hid (x.ids = y.ids) := by show x.ids = y.ids; exact of_decide_eq_true HD.out.symm
  go_wp2_with (first | go_skip | (with_reducible refine stopLoad 32 rfl ?_))
  refine load_cut 32 w.heap.size 3 7 _ #[.int .i64 x.sk.count, .int .i64 x.sk.sum, .int .i64 x.sk.min, .int .i64 x.sk.max, .slice a1 n1 c1, .slice a2 n2 c2, .slice a3 n3 c3] 34 _ HT1.out.fst rfl rfl rfl Try.underlying32 rfl infoSkI (by simp) rfl ?_
  go_wp2_with (first | go_skip | (with_reducible refine stopLoad 32 rfl ?_))
  refine load_cut 32 (w.heap.size + 1) 3 7 _ #[.int .i64 y.sk.count, .int .i64 y.sk.sum, .int .i64 y.sk.min, .int .i64 y.sk.max, .slice b1 m1 d1, .slice b2 m2 d2, .slice b3 m3 d3] 34 _ HT1.out.snd rfl rfl rfl Try.underlying32 rfl infoSkI (by simp) rfl ?_
  go_wp2_with fail
  refine (eqSketch_any _ _ x.sk y.sk F' G' _ (HR.out.1.below HT1.out.bel) (HY.out.1.below HT1.out.bel) HR.out.2 HY.out.2).mono ?_
  rintro e w2 ⟨rfl, hb2⟩
  have HB2 : Hid (Below w.heap.size w w2) := Below.next HT1.out.bel hb2
  obtain ⟨f, hf⟩ : ∃ d, d = decide (x.sk = y.sk) := ⟨_, rfl⟩
  rw [← hf]
  have HF : Hid (f = decide (x.sk = y.sk)) := hf
  clear hb2 hf
  cases f
  · have HV : Hid (decide (x = y) = false) := dec_false (fun e => by have := HF.out.symm; rw [decide_eq_false_iff_not] at this; exact this (by rw [e]))
    go_wp2
    go_ret
    exact ⟨ret_bool HV.out.symm, HB2.out⟩
  have HV : Hid (decide (x = y) = true) := dec_true (En.eq_of H0.out H1.out HI.out (of_decide_eq_true HF.out.symm))
  go_wp2
  go_ret
  exact ⟨ret_bool HV.out.symm, HB2.out⟩
end Go.Proofs.Ytbmbmnhamogghap
/- Items and entries that came in. No statement of the seat is proved here. -/
namespace Go.Proofs.Ytbmbmnhamogghap
open Go.RowKit Go.WideShapes Go.ChangeShapes Go.ChangeAt Go.Deep
set_option maxRecDepth 100000 in
set_option maxHeartbeats 1000000 in
theorem open_item {H : Type} {enc : TypeId × Value → H} {W : World} {base : Nat} {v : Value} {d : DataW H} {p : List MemPlace} (hv : Value.okWide Try.prog W .any base 39 v) (h : DataW.Trod enc Try.prog W 0 (fun _ => true) true 39 v d p) :
    ∃ x F, RdIt W v x F ∧ x.sk.vast := by
  obtain ⟨cs, rfl, hsz⟩ := okWide_struct Try.underlying39 hv
  have hC : Try.prog.cellsOf 39 = 11 := by kernel_rfl
  have c3 : Try.prog.cellsOf 3 = 1 := by kernel_rfl
  have c7 : Try.prog.cellsOf 26 = 7 := by kernel_rfl
  rw [hC] at hsz
  obtain ⟨l⟩ := cs
  match l, hsz with
  | [e0, e1, e2, e3, e4, e5, e6, e7, e8, e9, e10], _ =>
    obtain ⟨fuel, hf⟩ := h
    obtain ⟨xs, n, _, _, _, hlen, hx⟩ := DataW.trod_struct Try.underlying39 hf
    match xs, hlen with
    | [y0, y1, y2, y3, y4], _ =>
      have g0 := hx 0 _ rfl
      have g1 := hx 1 _ rfl
      have g2 := hx 2 _ rfl
      have g3 := hx 3 _ rfl
      have g4 := hx 4 _ rfl
      simp [Value.cells, c3, c7] at g0 g1 g2 g3 g4
      obtain ⟨i0, q0, _, _⟩ := DataW.trod_int Try.underlying3 g0
      obtain ⟨i1, q1, _, _⟩ := DataW.trod_int Try.underlying3 g1
      obtain ⟨i2, q2, _, _⟩ := DataW.trod_int Try.underlying3 g2
      obtain ⟨i3, q3, _, _⟩ := DataW.trod_int Try.underlying3 g3
      simp at q0 q1 q2 q3
      subst q0 q1 q2 q3
      obtain ⟨s, F, hr, hv7⟩ := open_sk7 (e0 := e4) (e1 := e5) (e2 := e6) (e3 := e7) (e4 := e8) (e5 := e9) (e6 := e10) ⟨_, g4⟩
      obtain ⟨a1, n1, c1, a2, n2, c2, a3, n3, c3', ev⟩ := hr.cells7
      simp only [Value.agg.injEq] at ev
      cases ev
      exact ⟨⟨i0, i1, i2, i3, s⟩, F, ⟨a1, n1, c1, a2, n2, c2, a3, n3, c3', rfl, hr⟩, hv7⟩
set_option maxRecDepth 100000 in
set_option maxHeartbeats 1000000 in
theorem open_entry {H : Type} {enc : TypeId × Value → H} {W : World} {base : Nat} {v : Value} {d : DataW H} {p : List MemPlace} (hv : Value.okWide Try.prog W .any base 28 v) (h : DataW.Trod enc Try.prog W 0 (fun _ => true) true 28 v d p) :
    ∃ x F G, RdEn W v x F G ∧ x.sk.vast ∧ x.ids.length ≤ 9223372036854775807 := by
  obtain ⟨cs, rfl, hsz⟩ := okWide_struct Try.underlying28 hv
  have hC : Try.prog.cellsOf 28 = 10 := by kernel_rfl
  have c3 : Try.prog.cellsOf 3 = 1 := by kernel_rfl
  have c4 : Try.prog.cellsOf 22 = 1 := by kernel_rfl
  have c7 : Try.prog.cellsOf 26 = 7 := by kernel_rfl
  rw [hC] at hsz
  obtain ⟨l⟩ := cs
  match l, hsz with
  | [e0, e1, e2, e3, e4, e5, e6, e7, e8, e9], _ =>
    obtain ⟨fuel, hf⟩ := h
    obtain ⟨xs, n, _, _, _, hlen, hx⟩ := DataW.trod_struct Try.underlying28 hf
    match xs, hlen with
    | [y0, y1, y2, y3], _ =>
      have g0 := hx 0 _ rfl
      have g1 := hx 1 _ rfl
      have g2 := hx 2 _ rfl
      have g3 := hx 3 _ rfl
      simp [Value.cells, c3, c4, c7] at g0 g1 g2 g3
      clear hx
      obtain ⟨i0, q0, _, _⟩ := DataW.trod_int Try.underlying3 g0
      obtain ⟨i1, q1, _, _⟩ := DataW.trod_int Try.underlying3 g1
      simp at q0 q1
      subst q0 q1
      obtain ⟨s, G, hr, hv7⟩ := open_sk7 (e0 := e3) (e1 := e4) (e2 := e5) (e3 := e6) (e4 := e7) (e5 := e8) (e6 := e9) ⟨_, g3⟩
      obtain ⟨a1, n1, c1, a2, n2, c2', a3, n3, c3', ev⟩ := hr.cells7
      simp only [Value.agg.injEq] at ev
      cases ev
      have c2 : Try.prog.cellsOf 103 = 2 := by kernel_rfl
      obtain ⟨b, l, c, ps, F, rfl, hp, hb, hcp⟩ : ∃ a len cap ps F, e2 = .slice a len cap ∧ RdP W a len ps F ∧ len ≤ 9223372036854775807 ∧ Capd a len cap := by
        rcases open_slice_pairs Try.underlying22 Try.underlying103 c2 rfl rfl c3 c3 g2 with ⟨q, _⟩ | ⟨x, len, cap, m, n, V0, V1, D0, D1, P0, P1, q, _, hl, hm, hmm, _, hx⟩
        · simp at q
          subst q
          exact ⟨none, 0, 0, [], [], rfl, RdP.nil, by omega, fun _ => rfl, Nat.le_refl _⟩
        · simp at q
          subst q
          have hm2 : m = cap := by rw [hmm]; simp
          subst hm2
          have hb : len ≤ 9223372036854775807 := by unfold maxLen at hm; omega
          have ints : ∀ i, i < m → ∃ y z : Int, V0 i = .int .i64 y ∧ V1 i = .int .i64 z ∧ (Lit.int .i64 y).wf = true ∧ (Lit.int .i64 z).wf = true := fun i hi => by
            obtain ⟨_, _, h3, h4⟩ := hx i hi
            obtain ⟨y, q0, _, w0⟩ := DataW.trod_int Try.underlying3 h3
            obtain ⟨z, q1, _, w1⟩ := DataW.trod_int Try.underlying3 h4
            simp at q0 q1
            exact ⟨y, z, q0, q1, w0, w1⟩
          have hN : ∀ i, i < m → V0 i = .int .i64 (intOf (V0 i)) ∧ V1 i = .int .i64 (intOf (V1 i)) ∧ Fit64 (intOf (V0 i)) ∧ Fit64 (intOf (V1 i)) := fun i hi => by
            obtain ⟨y, z, e0, e1, w0, w1⟩ := ints i hi
            rw [e0, e1]
            exact ⟨rfl, rfl, int_wf w0, int_wf w1⟩
          by_cases h0 : len = 0
          · subst h0
            exact ⟨_, 0, _, [], [], rfl, RdP.nil, by omega, fun e => (by cases e), hl⟩
          · obtain ⟨b, off, rfl⟩ := sp_addr (hx 0 (by omega)).1
            refine ⟨_, len, m, (List.range len).map fun i => (intOf (V0 i), intOf (V1 i)), [b], rfl, rdP_mk _ (by simp) (by omega) (fun i hi => ?_), hb, fun e => (by cases e), hl⟩
            · rw [flat_range len _ _ i hi]
              have h1 := (hx i (by omega)).1
              have h2 := (hx i (by omega)).2.1
              rw [sp_add] at h1 h2
              rw [(hN i (by omega)).1] at h1
              rw [(hN i (by omega)).2.1] at h2
              exact ⟨h1, by rw [show off + i * 2 + 1 = off + (i * 2 + 1) by omega]; exact h2⟩
      exact ⟨⟨i0, i1, ps, s⟩, F, G, ⟨b, l, c, a1, n1, c1, a2, n2, c2', a3, n3, c3', rfl, hp, hr, hcp⟩, hv7, by rw [hp.length]; exact hb⟩
end Go.Proofs.Ytbmbmnhamogghap
/- Chapter 2 over whole numbers: sums that stop, binary digits, buckets, noughts at the end. No statement of the seat is proved here. -/
namespace Go.Proofs.Ytbmbmnhamogghap
open Go.RowKit

def clip (n m : Int) : Int := if n < 0 then 0 else if m < n then m else n
def addN (a b : Int) : Int := if 1000000000 < clip a 1000000000 + clip b 1000000000 then 1000000000 else clip a 1000000000 + clip b 1000000000
theorem clip_range (n m : Int) (h : 0 ≤ m) : 0 ≤ clip n m ∧ clip n m ≤ m := by
  unfold clip
  by_cases h1 : n < 0 <;> by_cases h2 : m < n <;> simp only [h1, h2, if_true, if_false] <;> omega
theorem clip_mono (a b m : Int) (hm : 0 ≤ m) (h : a ≤ b) : clip a m ≤ clip b m := by
  unfold clip
  by_cases h1 : a < 0 <;> by_cases h2 : b < 0 <;> by_cases h3 : m < a <;> by_cases h4 : m < b <;> simp only [h1, h2, h3, h4, if_true, if_false] <;> omega
theorem clip_id (n m : Int) (h0 : 0 ≤ n) (h1 : n ≤ m) : clip n m = n := by unfold clip; rw [if_neg (by omega), if_neg (by omega)]
theorem addN_range (a b : Int) : 0 ≤ addN a b ∧ addN a b ≤ 1000000000 := by
  have h1 := clip_range a 1000000000 (by omega)
  have h2 := clip_range b 1000000000 (by omega)
  unfold addN; split <;> omega
theorem addN_comm (a b : Int) : addN a b = addN b a := by
  unfold addN; rw [Int.add_comm]
theorem addN_assoc (a b d : Int) : addN (addN a b) d = addN a (addN b d) := by
  have e1 := clip_id (addN a b) 1000000000 (addN_range a b).1 (addN_range a b).2
  have e2 := clip_id (addN b d) 1000000000 (addN_range b d).1 (addN_range b d).2
  have h1 := clip_range a 1000000000 (by omega)
  have h2 := clip_range b 1000000000 (by omega)
  have h3 := clip_range d 1000000000 (by omega)
  unfold addN at e1 e2 ⊢
  rw [e1, e2]
  generalize clip a 1000000000 = x at *
  generalize clip b 1000000000 = y at *
  generalize clip d 1000000000 = z at *
  clear e1 e2
  by_cases c1 : 1000000000 < x + y
  · rw [if_pos c1]
    by_cases c2 : 1000000000 < y + z
    · rw [if_pos c2]; split <;> split <;> omega
    · rw [if_neg c2]; split <;> split <;> omega
  · rw [if_neg c1]
    by_cases c2 : 1000000000 < y + z
    · rw [if_pos c2]; split <;> split <;> omega
    · rw [if_neg c2]; split <;> split <;> omega

/-! ### the mixed number -/
def pre (n : Int) : Int := (clip n 1000000 * 40503 + 12345) % 65536
def mixN (n : Int) : Int := bits .xor .i64 (pre n) (pre n / 256)
theorem pre_range (n : Int) : 0 ≤ pre n ∧ pre n < 65536 := by unfold pre; omega
theorem xor64s (a b : Nat) (ha : a < 65536) (hb : b < 65536) : bits .xor .i64 (a : Int) (b : Int) = ((a ^^^ b : Nat) : Int) ∧ a ^^^ b < 65536 := by
  have hx : a ^^^ b < 65536 := Nat.xor_lt_two_pow (n := 16) ha hb
  refine ⟨?_, hx⟩
  have ea : (BitVec.ofInt 64 (a : Int)).toNat = a := by rw [BitVec.toNat_ofInt]; omega
  have eb : (BitVec.ofInt 64 (b : Int)).toNat = b := by rw [BitVec.toNat_ofInt]; omega
  have e : ((BitVec.ofInt 64 (a : Int)) ^^^ (BitVec.ofInt 64 (b : Int))).toNat = a ^^^ b := by
    rw [BitVec.toNat_xor, ea, eb]
  show IntKind.i64.wrap (((BitVec.ofInt 64 (a : Int)) ^^^ (BitVec.ofInt 64 (b : Int))).toNat : Int) = _
  rw [e]
  generalize a ^^^ b = c at *
  simp [IntKind.wrap, IntKind.bits, IntKind.signed]
  omega
theorem mixN_range (n : Int) : 0 ≤ mixN n ∧ mixN n < 65536 := by
  obtain ⟨h0, h1⟩ := pre_range n
  unfold mixN
  generalize pre n = x at *
  obtain ⟨a, rfl⟩ := Int.eq_ofNat_of_zero_le h0
  have e : (a : Int) / 256 = ((a / 256 : Nat) : Int) := by omega
  rw [e]
  have := xor64s a (a / 256) (by omega) (by omega)
  rw [this.1]; omega

/-! ### binary digits -/
def digs (n : Nat) : Nat := if n = 0 then 0 else digs (n / 2) + 1
  termination_by n
  decreasing_by omega
theorem digs_zero : digs 0 = 0 := by rw [digs]; simp
theorem digs_pos (n : Nat) (h : 0 < n) : digs n = digs (n / 2) + 1 := by rw [digs, if_neg (by omega)]
theorem digs_lt (n : Nat) : ∀ k, k < digs n ↔ 0 < n / 2 ^ k := by
  induction n using digs.induct with
  | case1 => intro k; rw [digs_zero]; simp
  | case2 n h ih =>
    intro k
    rw [digs_pos n (by omega)]
    cases k with
    | zero => simp; omega
    | succ k =>
      have e : n / 2 ^ (k + 1) = n / 2 / 2 ^ k := by rw [Nat.pow_succ, Nat.mul_comm, Nat.div_div_eq_div_mul]
      rw [e, ← ih k]; omega
theorem digs_le (n k : Nat) : k < digs n ↔ 2 ^ k ≤ n := by
  rw [digs_lt, Nat.div_pos_iff]
  have : 0 < 2 ^ k := Nat.two_pow_pos k
  exact ⟨fun h => h.2, fun h => ⟨this, h⟩⟩
theorem digs_mono (a b : Nat) (h : a ≤ b) : digs a ≤ digs b := by
  rcases Nat.lt_or_ge (digs b) (digs a) with h' | h'
  · have h1 := (digs_le a (digs b)).1 h'
    have h2 := (digs_le b (digs b)).2 (by omega)
    omega
  · exact h'
theorem digs_top (n : Nat) (h : n ≤ 1000000) : digs n ≤ 20 := by
  rcases Nat.lt_or_ge 20 (digs n) with h' | h'
  · have := (digs_le n 20).1 h'; omega
  · exact h'
def bucketN (v : Int) : Int := ((digs (clip v 1000000).toNat + 2) / 3 : Nat)
theorem bucketN_range (v : Int) : 0 ≤ bucketN v ∧ bucketN v < 8 := by
  have h := clip_range v 1000000 (by omega)
  have := digs_top (clip v 1000000).toNat (by omega)
  unfold bucketN; omega
theorem bucketN_mono (a b : Int) (h : a ≤ b) : bucketN a ≤ bucketN b := by
  have h1 := clip_mono a b 1000000 (by omega) h
  have := digs_mono (clip a 1000000).toNat (clip b 1000000).toNat (by omega)
  unfold bucketN; omega
def lowN (k : Int) : Int := if k = 0 then 0 else if k = 1 then 1 else if k = 2 then 8 else if k = 3 then 64 else if k = 4 then 512 else if k = 5 then 4096 else if k = 6 then 32768 else if k = 7 then 262144 else -1
theorem digs_eq (n k : Nat) (h0 : 2 ^ k ≤ n) (h1 : n < 2 ^ (k + 1)) : digs n = k + 1 := by
  have a := (digs_le n k).2 h0
  have b : ¬ k + 1 < digs n := fun h => by have := (digs_le n (k + 1)).1 h; omega
  omega
theorem bucketN_nat (n : Nat) (h : n ≤ 1000000) : bucketN (n : Int) = ((digs n + 2) / 3 : Nat) := by
  unfold bucketN; rw [clip_id _ _ (by omega) (by omega)]; rfl
theorem low_parts (a : Int) (h0 : 0 ≤ a) (h1 : a ≤ 1000000) : lowN (bucketN a) ≤ a ∧ bucketN (lowN (bucketN a)) = bucketN a ∧ (bucketN a + 1 < 8 → a < lowN (bucketN a + 1)) := by
  obtain ⟨n, rfl⟩ := Int.eq_ofNat_of_zero_le h0
  have hr := bucketN_range (n : Int)
  have hb := bucketN_nat n (by omega)
  have hlt : ∀ k, bucketN (n : Int) ≤ (k : Nat) → n < 2 ^ (3 * k) := by
    intro k hk
    rcases Nat.lt_or_ge n (2 ^ (3 * k)) with h | h
    · exact h
    · have := (digs_le n (3 * k)).2 h; omega
  have hge : ∀ k, (k : Nat) + 1 ≤ bucketN (n : Int) → 2 ^ (3 * k) ≤ n := by
    intro k hk
    exact (digs_le n (3 * k)).1 (by omega)
  have hp : ∀ k : Nat, 2 ^ (3 * k) ≤ 1000000 → bucketN ((2 ^ (3 * k) : Nat) : Int) = k + 1 := by
    intro k hk
    rw [bucketN_nat _ hk, digs_eq (2 ^ (3 * k)) (3 * k) (Nat.le_refl _) (by rw [Nat.pow_succ]; have := Nat.two_pow_pos (3 * k); omega)]
    omega
  generalize bucketN (n : Int) = q at *
  clear hb
  have hq : q = 0 ∨ q = 1 ∨ q = 2 ∨ q = 3 ∨ q = 4 ∨ q = 5 ∨ q = 6 ∨ q = 7 := by omega
  rcases hq with rfl | rfl | rfl | rfl | rfl | rfl | rfl | rfl
  · have a := hlt 0 (by omega); have z : bucketN 0 = 0 := by rw [show (0 : Int) = ((0 : Nat) : Int) from rfl, bucketN_nat 0 (by omega), digs_zero]
    refine ⟨by simp [lowN], by simpa [lowN] using z, fun _ => by simp [lowN]; simp at a; omega⟩
  · have a := hlt 1 (by omega); have b := hge 0 (by omega); have z := hp 0 (by omega)
    refine ⟨by simp [lowN]; simp at b; omega, by simpa [lowN] using z, fun _ => by simp [lowN]; simp at a; omega⟩
  · have a := hlt 2 (by omega); have b := hge 1 (by omega); have z := hp 1 (by omega)
    refine ⟨by simp [lowN]; simp at b; omega, by simpa [lowN] using z, fun _ => by simp [lowN]; simp at a; omega⟩
  · have a := hlt 3 (by omega); have b := hge 2 (by omega); have z := hp 2 (by omega)
    refine ⟨by simp [lowN]; simp at b; omega, by simpa [lowN] using z, fun _ => by simp [lowN]; simp at a; omega⟩
  · have a := hlt 4 (by omega); have b := hge 3 (by omega); have z := hp 3 (by omega)
    refine ⟨by simp [lowN]; simp at b; omega, by simpa [lowN] using z, fun _ => by simp [lowN]; simp at a; omega⟩
  · have a := hlt 5 (by omega); have b := hge 4 (by omega); have z := hp 4 (by omega)
    refine ⟨by simp [lowN]; simp at b; omega, by simpa [lowN] using z, fun _ => by simp [lowN]; simp at a; omega⟩
  · have a := hlt 6 (by omega); have b := hge 5 (by omega); have z := hp 5 (by omega)
    refine ⟨by simp [lowN]; simp at b; omega, by simpa [lowN] using z, fun _ => by simp [lowN]; simp at a; omega⟩
  · have b := hge 6 (by omega); have z := hp 6 (by omega)
    refine ⟨by simp [lowN]; simp at b; omega, by simpa [lowN] using z, fun h => by omega⟩

/-! ### noughts at the end -/
def rk (x : Nat) : Nat := if x = 0 then 17 else if x % 2 = 1 then 1 else rk (x / 2) + 1
  termination_by x
  decreasing_by omega
theorem rk_zero : rk 0 = 17 := by rw [rk]; simp
theorem rk_odd (x : Nat) (h : x % 2 = 1) : rk x = 1 := by rw [rk, if_neg (by omega), if_pos h]
theorem rk_even (x : Nat) (h0 : 0 < x) (h : ¬ x % 2 = 1) : rk x = rk (x / 2) + 1 := by rw [rk, if_neg (by omega), if_neg h]
theorem rk_top (x : Nat) : ∀ k, 0 < x → x < 2 ^ k → 1 ≤ rk x ∧ rk x ≤ k := by
  induction x using rk.induct with
  | case1 => intro k h; omega
  | case2 x h0 h =>
    intro k _ hk
    rw [rk_odd x h]
    cases k with
    | zero => simp at hk; omega
    | succ k => omega
  | case3 x h0 h ih =>
    intro k _ hk
    cases k with
    | zero => simp at hk; omega
    | succ k =>
      rw [Nat.pow_succ] at hk
      have := ih k (by omega) (by omega)
      rw [rk_even x (by omega) h]
      omega
def rankN (n : Int) : Int := (rk (mixN n).toNat : Nat)
theorem rankN_range (n : Int) : 1 ≤ rankN n ∧ rankN n ≤ 17 := by
  have h := mixN_range n
  unfold rankN
  generalize mixN n = x at *
  by_cases h0 : x = 0
  · subst h0; rw [show (0 : Int).toNat = 0 from rfl, rk_zero]; omega
  · have := rk_top x.toNat 16 (by omega) (by omega)
    omega
end Go.Proofs.Ytbmbmnhamogghap
/- The walks through chapter 2: the program's functions and the model's. No statement of the seat is proved here. -/
namespace Go.Proofs.Ytbmbmnhamogghap
open Go.RowKit

set_option maxRecDepth 200000 in
theorem within_any (n m : Int) (w : World) (hm : 0 ≤ m) : Calls Try.prog 113 #[.int .i64 n, .int .i64 m] w fun e w' => e = .returned (.int .i64 (clip n m)) ∧ w' = w := by
  go_enter Try.func113, Try.ntmps113
  go_wp2
  all_goals
    go_ret
    refine ⟨ret_int ?_, rfl⟩
    unfold clip
    by_cases h1 : n < 0 <;> by_cases h2 : m < n <;> simp only [h1, h2, if_true, if_false] <;> omega
set_option maxRecDepth 200000 in
theorem l1Max_any (a b : Int) (w : World) : Calls Try.prog 109 #[.int .i64 a, .int .i64 b] w fun e w' => e = .returned (.int .i64 (max a b)) ∧ w' = w := by
  by_cases h : a > b
  · go_enter Try.func109, Try.ntmps109
    go_wp2
    go_ret
    exact ⟨ret_int (by omega), rfl⟩
  · go_enter Try.func109, Try.ntmps109
    go_wp2
    go_ret
    exact ⟨ret_int (by omega), rfl⟩
set_option maxRecDepth 200000 in
theorem l1Min_any (a b : Int) (w : World) : Calls Try.prog 108 #[.int .i64 a, .int .i64 b] w fun e w' => e = .returned (.int .i64 (min a b)) ∧ w' = w := by
  by_cases h : a < b
  · go_enter Try.func108, Try.ntmps108
    go_wp2
    go_ret
    exact ⟨ret_int (by omega), rfl⟩
  · go_enter Try.func108, Try.ntmps108
    go_wp2
    go_ret
    exact ⟨ret_int (by omega), rfl⟩
set_option maxRecDepth 200000 in
theorem l2Clip_any (n m : Int) (w : World) (hm : 0 ≤ m) : Calls Try.prog 118 #[.int .i64 n, .int .i64 m] w fun e w' => e = .returned (.int .i64 (clip n m)) ∧ w' = w := by
  go_enter Try.func118, Try.ntmps118
  go_wp2_with fail
  refine (l1Min_any _ _ _).mono ?_
  rintro e w1 ⟨rfl, rfl⟩
  go_wp2_with fail
  refine (l1Max_any _ _ _).mono ?_
  rintro e w1 ⟨rfl, rfl⟩
  go_wp2
  go_ret
  refine ⟨ret_int ?_, rfl⟩
  unfold clip
  by_cases h1 : n < 0 <;> by_cases h2 : m < n <;> simp only [h1, h2, if_true, if_false] <;> omega
set_option maxRecDepth 200000 in
theorem addImpl_any (a b : Int) (w : World) : Calls Try.prog 93 #[.int .i64 a, .int .i64 b] w fun e w' => e = .returned (.int .i64 (addN a b)) ∧ w' = w := by
  have h1 := clip_range a 1000000000 (by omega)
  have h2 := clip_range b 1000000000 (by omega)
  go_enter Try.func93, Try.ntmps93
  go_wp2_with fail
  refine (within_any _ _ _ (by omega)).mono ?_
  rintro e w1 ⟨rfl, rfl⟩
  go_wp2_with fail
  refine (within_any _ _ _ (by omega)).mono ?_
  rintro e w1 ⟨rfl, rfl⟩
  have e : ∀ x, (x = if 1000000000 < clip a 1000000000 + clip b 1000000000 then 1000000000 else clip a 1000000000 + clip b 1000000000) → x = addN a b := fun x h => h
  generalize clip a 1000000000 = x at *
  generalize clip b 1000000000 = y at *
  have E : Hid (∀ z, (z = if 1000000000 < x + y then 1000000000 else x + y) → z = addN a b) := e
  clear e
  go_wp2
  all_goals
    go_ret
    refine ⟨ret_int (E.out _ ?_), rfl⟩
    split <;> omega
set_option maxRecDepth 200000 in
theorem addSpec_any (a b : Int) (w : World) : Calls Try.prog 107 #[.int .i64 a, .int .i64 b] w fun e w' => e = .returned (.int .i64 (addN a b)) ∧ w' = w := by
  have h1 := clip_range a 1000000000 (by omega)
  have h2 := clip_range b 1000000000 (by omega)
  go_enter Try.func107, Try.ntmps107
  go_wp2_with fail
  refine (l2Clip_any _ _ _ (by omega)).mono ?_
  rintro e w1 ⟨rfl, rfl⟩
  go_wp2_with fail
  refine (l2Clip_any _ _ _ (by omega)).mono ?_
  rintro e w1 ⟨rfl, rfl⟩
  have e : ∀ x, (x = if 1000000000 < clip a 1000000000 + clip b 1000000000 then 1000000000 else clip a 1000000000 + clip b 1000000000) → x = addN a b := fun x h => h
  generalize clip a 1000000000 = x at *
  generalize clip b 1000000000 = y at *
  have E : Hid (∀ z, (z = if 1000000000 < x + y then 1000000000 else x + y) → z = addN a b) := e
  clear e
  go_wp2_with fail
  refine (l1Min_any _ _ _).mono ?_
  rintro e w1 ⟨rfl, rfl⟩
  go_wp2
  go_ret
  refine ⟨ret_int (E.out _ ?_), rfl⟩
  split <;> omega
theorem shr_nat (v m : Nat) : (v : Int) / 2 ^ m = ((v / 2 ^ m : Nat) : Int) := by
  rw [Int.natCast_ediv, Int.natCast_pow]; rfl
theorem up_digs {v : Nat} {k x : Int} (hx : x = v) (hk : 0 ≤ k) (hs : 0 < x / 2 ^ k.toNat) : k + 1 = min (k + 1) (digs v) := by
  subst hx
  rw [shr_nat] at hs
  have := (digs_lt v k.toNat).2 (by omega)
  omega
theorem stay_digs {v : Nat} {k x y : Int} (hx : x = v) (hk : 0 ≤ k) (hy : y = min k (digs v)) (hs : ¬ 0 < x / 2 ^ k.toNat) : y = min (k + 1) (digs v) := by
  subst hx
  rw [shr_nat] at hs
  have : ¬ k.toNat < digs v := fun h => hs (by have := (digs_lt v k.toNat).1 h; omega)
  omega
theorem end_digs {v : Nat} {y : Int} (hv : v ≤ 1000000) (hy : y = min (20 : Int) (digs v : Int)) : y = (digs v : Int) := by
  have := digs_top v hv
  omega
theorem go_digs {v : Nat} {x y : Int} (hx : 0 < x) (hy : y + (digs x.toNat : Int) = (digs v : Int)) : y + 1 + (digs (x / 2).toNat : Int) = (digs v : Int) := by
  have e := digs_pos x.toNat (by omega)
  have e2 : (x / 2).toNat = x.toNat / 2 := by omega
  rw [e2]; omega
theorem next_rk {x : Nat} {y k : Int} (hy : y = x) (hk : 0 ≤ k) (h : x = 0 ∨ (0 < x / 2 ^ k.toNat ∧ rk x = k.toNat + rk (x / 2 ^ k.toNat))) (ho : ¬ y / 2 ^ k.toNat % 2 = 1) : x = 0 ∨ (0 < x / 2 ^ (k + 1).toNat ∧ rk x = (k + 1).toNat + rk (x / 2 ^ (k + 1).toNat)) := by
  subst hy
  rw [shr_nat] at ho
  rcases h with h | ⟨h1, h2⟩
  · exact .inl h
  · have e1 : (k + 1).toNat = k.toNat + 1 := by omega
    have e2 : x / 2 ^ (k.toNat + 1) = x / 2 ^ k.toNat / 2 := by rw [Nat.pow_succ, Nat.div_div_eq_div_mul]
    rw [e1, e2]
    generalize x / 2 ^ k.toNat = z at *
    have := rk_even z h1 (by omega)
    exact .inr ⟨by omega, by omega⟩
theorem stop_rk {x : Nat} {y k : Int} (hy : y = x) (hk : 0 ≤ k) (h : x = 0 ∨ (0 < x / 2 ^ k.toNat ∧ rk x = k.toNat + rk (x / 2 ^ k.toNat))) (ho : y / 2 ^ k.toNat % 2 = 1) : k + 1 = (rk x : Int) := by
  subst hy
  rw [shr_nat] at ho
  rcases h with h | ⟨h1, h2⟩
  · subst h; simp at ho
  · generalize x / 2 ^ k.toNat = z at *
    have := rk_odd z (by omega)
    omega
theorem end_rk {x : Nat} (hx : x < 65536) (h : x = 0 ∨ (0 < x / 2 ^ (16 : Int).toNat ∧ rk x = (16 : Int).toNat + rk (x / 2 ^ (16 : Int).toNat))) : (17 : Int) = (rk x : Int) := by
  rcases h with h | ⟨h1, h2⟩
  · subst h; rw [rk_zero]; rfl
  · have : x / 2 ^ (16 : Int).toNat = 0 := by rw [show (16 : Int).toNat = 16 from rfl]; omega
    omega
theorem half_rk {v : Nat} {x y : Int} (hx : 0 < x) (h : (rk v : Int) + 1 = y + (rk x.toNat : Int)) (he : x % 2 = 0) : (rk v : Int) + 1 = y + 1 + (rk (x / 2).toNat : Int) := by
  have e := rk_even x.toNat (by omega) (by omega)
  have e2 : (x / 2).toNat = x.toNat / 2 := by omega
  rw [e2]; omega
theorem last_rk {v : Nat} {x y : Int} (hx : 0 < x) (h : (rk v : Int) + 1 = y + (rk x.toNat : Int)) (he : ¬ x % 2 = 0) : y = (rk v : Int) := by
  have e := rk_odd x.toNat (by omega)
  omega
theorem top_rk {v : Nat} {x y : Int} (hx : 0 < x) (hx1 : x < 65536) (hv0 : 0 < v) (hv : v < 65536) (h : (rk v : Int) + 1 = y + (rk x.toNat : Int)) : y ≤ 16 := by
  have := rk_top v 16 (by omega) (by omega)
  have := rk_top x.toNat 16 (by omega) (by omega)
  omega
theorem lowN_out (k : Int) (h : k < 0 ∨ 8 ≤ k) : lowN k = -1 := by
  unfold lowN
  rw [if_neg (by omega), if_neg (by omega), if_neg (by omega), if_neg (by omega), if_neg (by omega), if_neg (by omega), if_neg (by omega), if_neg (by omega)]
set_option maxRecDepth 200000 in
theorem l1In_any (x lo hi : Int) (w : World) : Calls Try.prog 66 #[.int .i64 x, .int .i64 lo, .int .i64 hi] w fun e w' => e = .returned (.bool (decide (lo ≤ x ∧ x ≤ hi))) ∧ w' = w := by
  have hd : ∀ d : Bool, d = decide (lo ≤ x ∧ x ≤ hi) → (d = true ↔ lo ≤ x ∧ x ≤ hi) := by rintro d rfl; simp
  generalize decide (lo ≤ x ∧ x ≤ hi) = d at *
  have hd := hd d rfl
  by_cases h : lo ≤ x
  · by_cases h2 : x ≤ hi
    · have e : Hid (d = true) := hd.2 ⟨h, h2⟩
      clear hd
      go_enter Try.func66, Try.ntmps66
      go_wp2
      go_ret
      rw [e.out]; exact ⟨rfl, rfl⟩
    · have e : Hid (d = false) := show d = false by cases d; rfl; exact absurd (hd.1 rfl).2 h2
      clear hd
      go_enter Try.func66, Try.ntmps66
      go_wp2
      go_ret
      rw [e.out]; exact ⟨rfl, rfl⟩
  · have e : Hid (d = false) := show d = false by cases d; rfl; exact absurd (hd.1 rfl).1 h
    clear hd
    go_enter Try.func66, Try.ntmps66
    go_wp2
    go_ret
    rw [e.out]; exact ⟨rfl, rfl⟩
end Go.Proofs.Ytbmbmnhamogghap
/- Sets of numbers, as plain data. No statement of the seat is proved here. -/
namespace Go.Proofs.Ytbmbmnhamogghap
open Go.RowKit
theorem decT {p : Prop} [Decidable p] (h : p) : decide p = true := by simpa using h
theorem decF {p : Prop} [Decidable p] (h : ¬ p) : decide p = false := by simpa using h
/-- The k-th span. -/
def Sp.at (ps : Sp) (k : Nat) : Int × Int := ps[k]?.getD (0, 0)
def Sp.okAt (ps : Sp) (k : Nat) : Bool := decide (0 ≤ (ps.at k).1 ∧ (ps.at k).1 ≤ 9999) && decide ((ps.at k).1 ≤ (ps.at k).2 ∧ (ps.at k).2 ≤ 9999) && (decide (k = 0) || decide ((ps.at (k - 1)).2 + 1 < (ps.at k).1))
def Sp.ok (ps : Sp) : Bool := (List.range ps.length).all ps.okAt
theorem Sp.ok_all {ps : Sp} (h : ∀ k, k < ps.length → ps.okAt k = true) : ps.ok = true := by
  unfold Sp.ok
  rw [List.all_eq_true]
  intro k hk
  exact h k (List.mem_range.1 hk)
theorem Sp.ok_not {ps : Sp} {k : Nat} (hk : k < ps.length) (h : ps.okAt k = false) : ps.ok = false := by
  unfold Sp.ok
  rw [List.all_eq_false]
  exact ⟨k, List.mem_range.2 hk, by rw [h]; decide⟩
theorem Sp.ok_at {ps : Sp} (h : ps.ok = true) (k : Nat) (hk : k < ps.length) : ps.okAt k = true := by
  unfold Sp.ok at h
  rw [List.all_eq_true] at h
  exact h k (List.mem_range.2 hk)
theorem Sp.okAt_parts {ps : Sp} {k : Nat} (h : ps.okAt k = true) : (0 ≤ (ps.at k).1 ∧ (ps.at k).1 ≤ (ps.at k).2 ∧ (ps.at k).2 ≤ 9999) ∧ (0 < k → (ps.at (k - 1)).2 + 1 < (ps.at k).1) := by
  unfold Sp.okAt at h
  simp only [Bool.and_eq_true, Bool.or_eq_true, decide_eq_true_eq] at h
  omega
def Sp.has (ps : Sp) (n : Int) : Bool := ps.any fun p => decide (p.1 ≤ n ∧ n ≤ p.2)
theorem Sp.has_at {ps : Sp} {n : Int} {k : Nat} (hk : k < ps.length) (h : (ps.at k).1 ≤ n ∧ n ≤ (ps.at k).2) : ps.has n = true := by
  unfold Sp.has
  rw [List.any_eq_true]
  refine ⟨ps[k], List.getElem_mem hk, ?_⟩
  unfold Sp.at at h
  rw [List.getElem?_eq_getElem hk] at h
  exact decT h
theorem Sp.has_not {ps : Sp} {n : Int} (h : ∀ k, k < ps.length → ¬ ((ps.at k).1 ≤ n ∧ n ≤ (ps.at k).2)) : ps.has n = false := by
  unfold Sp.has
  rw [List.any_eq_false]
  intro p hp
  obtain ⟨k, hk, rfl⟩ := List.getElem_of_mem hp
  have := h k hk
  unfold Sp.at at this
  rw [List.getElem?_eq_getElem hk] at this
  simpa using this
set_option maxRecDepth 200000 in
theorem l1In_yes (x lo hi : Int) (w : World) (h : lo ≤ x ∧ x ≤ hi) : Calls Try.prog 66 #[.int .i64 x, .int .i64 lo, .int .i64 hi] w fun e w' => e = .returned (.bool true) ∧ w' = w := by
  have := l1In_any x lo hi w
  rw [decT h] at this
  exact this
set_option maxRecDepth 200000 in
theorem l1In_no (x lo hi : Int) (w : World) (h : ¬ (lo ≤ x ∧ x ≤ hi)) : Calls Try.prog 66 #[.int .i64 x, .int .i64 lo, .int .i64 hi] w fun e w' => e = .returned (.bool false) ∧ w' = w := by
  have := l1In_any x lo hi w
  rw [decF h] at this
  exact this
/-- The slice's cells, at any world that only draws. -/
def SpCells (w : World) (b off len : Nat) (ps : Sp) : Prop := ∀ i, i < len → w.cell? ⟨b, off + i * 2, none⟩ = some (.int .i64 (ps.at i).1) ∧ w.cell? ⟨b, off + i * 2 + 1, none⟩ = some (.int .i64 (ps.at i).2)
theorem drewN_cell (w : World) (m : Nat) (a : Addr) : (w.drewN m).cell? a = w.cell? a := rfl
/-- Only draws lie between. -/
def QuietTo (w w' : World) : Prop := ∃ m, w' = w.drewN m
theorem QuietTo.refl (w : World) : QuietTo w w := ⟨0, rfl⟩
theorem QuietTo.drewN {w w' : World} (h : QuietTo w w') (n : Nat) : QuietTo w (w'.drewN n) := by
  obtain ⟨m, rfl⟩ := h
  exact ⟨m + n, (World.drewN_drewN ..)⟩
theorem QuietTo.cell {w w' : World} (h : QuietTo w w') (a : Addr) : w'.cell? a = w.cell? a := by
  obtain ⟨m, rfl⟩ := h
  rfl
theorem quiet_below {w w' : World} (h : ∃ m, w' = w.drewN m) : Below w.heap.size w w' := by
  obtain ⟨m, rfl⟩ := h
  exact ⟨rfl, rfl, rfl, Nat.le_refl _, fun _ _ => rfl⟩
end Go.Proofs.Ytbmbmnhamogghap
