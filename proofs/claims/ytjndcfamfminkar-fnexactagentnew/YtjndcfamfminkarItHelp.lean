/- The walks through the helpers of the laws over items: making, weighing, comparing. No statement of the seat is proved here. -/
import Derived.Test.YtjndcfamfminkarItData
namespace Go.Proofs.Ytjndcfamfminkar
open Go.RowKit
theorem Agree.row {w : World} {F : List Nat} {g : Nat} (hg : g ∉ F) (ds : Array Value) : Agree w (w.setRow g ds) F := fun b hb => setRow_other w g b ds (fun e => hg (e ▸ hb))
theorem RdSk.cells7 {w : World} {v : Value} {s : Sk} {F : List Nat} (h : RdSk w v s F) : ∃ a1 n1 c1 a2 n2 c2 a3 n3 c3, v = .agg #[.int .i64 s.count, .int .i64 s.sum, .int .i64 s.min, .int .i64 s.max, .slice a1 n1 c1, .slice a2 n2 c2, .slice a3 n3 c3] := by
  obtain ⟨a1, n1, c1, a2, n2, c2, a3, n3, c3, F1, F2, F3, rfl, _⟩ := h
  exact ⟨a1, n1, c1, a2, n2, c2, a3, n3, c3, rfl⟩
theorem one7 (p q r s : Int) (a1 : Option Addr) (n1 c1 : Nat) (a2 : Option Addr) (n2 c2 : Nat) (a3 : Option Addr) (n3 c3 : Nat) : (#[Value.int .i64 p, .int .i64 q, .int .i64 r, .int .i64 s, .slice a1 n1 c1, .slice a2 n2 c2, .slice a3 n3 c3] : Array Value).all (·.oneCell') = true := by
  simp [Value.oneCell']
theorem infoSkI : (Try.prog.info? 44).map (·.size) = some 7 := by kernel_rfl
theorem infoSkL : (Try.prog.info? 38).map (·.size) = some 7 := by kernel_rfl
theorem infoItI : (Try.prog.info? 54).map (·.size) = some 11 := by kernel_rfl
set_option maxRecDepth 200000 in
set_option maxHeartbeats 2000000 in
theorem toItem_any (v : Value) (x : It) (F : List Nat) (w : World) (h : RdIt w v x F) (hf : x.sk.fits) :
    Calls Try.prog 71 #[v] w fun e w' => NewIt w x e w' := by
  obtain ⟨a1, n1, c1, a2, n2, c2, a3, n3, c3, rfl, hr⟩ := h
  have HR : Hid (RdSk w (.agg #[.int .i64 x.sk.count, .int .i64 x.sk.sum, .int .i64 x.sk.min, .int .i64 x.sk.max, .slice a1 n1 c1, .slice a2 n2 c2, .slice a3 n3 c3]) x.sk F ∧ x.sk.fits) := ⟨hr, hf⟩
  clear hr hf
  go_enter Try.func71, Try.ntmps71
  go_wp2_with (first | go_skip | (with_reducible refine stopLoad 38 rfl ?_))
  have T0 := Three.made w #[.int .i64 x.seq, .int .i64 x.cls, .int .i64 x.key, .int .i64 x.window, .int .i64 x.sk.count, .int .i64 x.sk.sum, .int .i64 x.sk.min, .int .i64 x.sk.max, .slice a1 n1 c1, .slice a2 n2 c2, .slice a3 n3 c3] 62 #[.int .i64 0, .int .i64 0, .int .i64 0, .int .i64 0, .int .i64 0, .int .i64 0, .int .i64 0, .int .i64 0, .slice none 0 0, .slice none 0 0, .slice none 0 0] #[.int .i64 x.seq, .int .i64 x.cls, .int .i64 x.key, .int .i64 x.window, .int .i64 0, .int .i64 0, .int .i64 0, .int .i64 0, .slice none 0 0, .slice none 0 0, .slice none 0 0] 54
  refine load_cut 38 w.heap.size 4 7 _ #[.int .i64 x.sk.count, .int .i64 x.sk.sum, .int .i64 x.sk.min, .int .i64 x.sk.max, .slice a1 n1 c1, .slice a2 n2 c2, .slice a3 n3 c3] 62 _ T0.box rfl rfl rfl Try.underlying38 rfl infoSkL (by simp) rfl ?_
  go_wp2_with fail
  refine (toSketch_any _ x.sk F _ (HR.out.1.below T0.bel) HR.out.2).mono ?_
  rintro e w1 ⟨v1, G, rfl, r1, o1, hb1⟩
  obtain ⟨b1, m1, d1, b2, m2, d2, b3, m3, d3, rfl⟩ := r1.cells7
  have HT1 : Hid (Three w _ _ _ _ _ w1) := T0.below hb1
  have HG : Hid (RdSk w1 (.agg #[.int .i64 x.sk.count, .int .i64 x.sk.sum, .int .i64 x.sk.min, .int .i64 x.sk.max, .slice b1 m1 d1, .slice b2 m2 d2, .slice b3 m3 d3]) x.sk G ∧ Own (w.heap.size + 3) w1 G) := ⟨r1, o1.mono T0.size⟩
  clear T0 hb1 r1 o1 HR
  go_wp2_with (first | go_skip | (with_reducible refine stopStore 44 rfl ?_))
  refine store_cut 44 (w.heap.size + 1 + 1) 4 _ #[.int .i64 x.sk.count, .int .i64 x.sk.sum, .int .i64 x.sk.min, .int .i64 x.sk.max, .slice b1 m1 d1, .slice b2 m2 d2, .slice b3 m3 d3] #[.int .i64 x.seq, .int .i64 x.cls, .int .i64 x.key, .int .i64 x.window, .int .i64 x.sk.count, .int .i64 x.sk.sum, .int .i64 x.sk.min, .int .i64 x.sk.max, .slice b1 m1 d1, .slice b2 m2 d2, .slice b3 m3 d3] 54 HT1.out.loc rfl rfl rfl rfl infoSkI (by simp) (one7 ..) rfl ?_
  obtain ⟨E, hE⟩ : ∃ E : Array Value, E = #[.int .i64 x.seq, .int .i64 x.cls, .int .i64 x.key, .int .i64 x.window, .int .i64 x.sk.count, .int .i64 x.sk.sum, .int .i64 x.sk.min, .int .i64 x.sk.max, .slice b1 m1 d1, .slice b2 m2 d2, .slice b3 m3 d3] := ⟨_, rfl⟩
  rw [← hE]
  have HE : Hid (E = #[.int .i64 x.seq, .int .i64 x.cls, .int .i64 x.key, .int .i64 x.window, .int .i64 x.sk.count, .int .i64 x.sk.sum, .int .i64 x.sk.min, .int .i64 x.sk.max, .slice b1 m1 d1, .slice b2 m2 d2, .slice b3 m3 d3]) := hE
  have hE11 : E.size = 11 := by rw [hE]; rfl
  have hEone : E.all (·.oneCell') = true := by rw [hE]; simp [Value.oneCell']
  have HB2 : Hid (Blk (w1.setRow (w.heap.size + 1 + 1) E) (w.heap.size + 1 + 1) E 54) := HT1.out.loc.setRow
  have HB3 : Hid (Blk (w1.setRow (w.heap.size + 1 + 1) E) (w.heap.size + 1) _ 54) := HT1.out.res.setRowOther (by omega)
  clear hE
  go_wp2_with (first | go_skip | (with_reducible refine stopLoad 54 rfl ?_))
  refine load_known 54 (w.heap.size + 1 + 1) E 54 _ HB2.out rfl rfl rfl Try.underlying54 rfl (by rw [hE11]; exact infoItI) ?_
  go_wp2_with (first | go_skip | (with_reducible refine stopStore 54 rfl ?_))
  refine store_known 54 (w.heap.size + 1) _ E 54 HB3.out rfl rfl rfl rfl (by rw [hE11]; exact infoItI) (by rw [hE11]; rfl) hEone ?_
  have HB4 : Hid (Blk ((w1.setRow (w.heap.size + 1 + 1) E).setRow (w.heap.size + 1) E) (w.heap.size + 1) E 54) := HB3.out.setRow
  have nr : w.heap.size + 1 ∉ G := fun hx => by have := HG.out.2.ge _ hx; omega
  have nl : w.heap.size + 1 + 1 ∉ G := fun hx => by have := HG.out.2.ge _ hx; omega
  have HF : Hid (RdSk ((w1.setRow (w.heap.size + 1 + 1) E).setRow (w.heap.size + 1) E) (.agg #[.int .i64 x.sk.count, .int .i64 x.sk.sum, .int .i64 x.sk.min, .int .i64 x.sk.max, .slice b1 m1 d1, .slice b2 m2 d2, .slice b3 m3 d3]) x.sk G ∧ Own w.heap.size ((w1.setRow (w.heap.size + 1 + 1) E).setRow (w.heap.size + 1) E) G ∧ Below w.heap.size w ((w1.setRow (w.heap.size + 1 + 1) E).setRow (w.heap.size + 1) E)) :=
    ⟨(HG.out.1.agree (Agree.row nl E)).agree (Agree.row nr E), ((HG.out.2.agree (Agree.row nl E)).agree (Agree.row nr E)).mono (by omega), below_setRow (below_setRow HT1.out.bel (by omega) _) (by omega) _⟩
  clear HB2 HB3 HG HT1 nr nl
  go_wp2
  refine bodyPost_ret (results_cell_row Try.results71 _ _ (w.heap.size + 1) _ _ (0, 0) _ rfl HB4.out Try.underlying54 rfl (by rw [hE11]; exact infoItI)) rfl ?_
  exact ⟨_, G, rfl, ⟨b1, m1, d1, b2, m2, d2, b3, m3, d3, by rw [HE.out], HF.out.1⟩, HF.out.2.1, HF.out.2.2⟩
set_option maxRecDepth 200000 in
set_option maxHeartbeats 1000000 in
theorem szItem_vast (v : Value) (x : It) (F : List Nat) (left : Int) (w : World) (h : RdIt w v x F) (hw : x.sk.vast) (hl0 : 0 ≤ left) (hl1 : left ≤ 1048576) :
    Calls Try.prog 66 #[v, .int .i64 left] w fun e w' => (∃ r, e = .returned (.int .i64 r) ∧ r ≤ left ∧ (0 ≤ r → r = left - x.sk.size) ∧ (r < 0 → left < x.sk.size)) ∧ Below w.heap.size w w' := by
  obtain ⟨a1, n1, c1, a2, n2, c2, a3, n3, c3, rfl, hr⟩ := h
  have HR : Hid (RdSk w (.agg #[.int .i64 x.sk.count, .int .i64 x.sk.sum, .int .i64 x.sk.min, .int .i64 x.sk.max, .slice a1 n1 c1, .slice a2 n2 c2, .slice a3 n3 c3]) x.sk F ∧ x.sk.vast) := ⟨hr, hw⟩
  clear hr hw
  go_enter Try.func66, Try.ntmps66
  go_wp2_with (first | go_skip | (with_reducible refine stopLoad 38 rfl ?_))
  have HB : Hid (Below w.heap.size w (w.alloc (.cells #[.int .i64 x.seq, .int .i64 x.cls, .int .i64 x.key, .int .i64 x.window, .int .i64 x.sk.count, .int .i64 x.sk.sum, .int .i64 x.sk.min, .int .i64 x.sk.max, .slice a1 n1 c1, .slice a2 n2 c2, .slice a3 n3 c3] 62))) := Below.allocW _ (Below.refl _ _) (Nat.le_refl _)
  refine load_cut 38 w.heap.size 4 7 _ #[.int .i64 x.sk.count, .int .i64 x.sk.sum, .int .i64 x.sk.min, .int .i64 x.sk.max, .slice a1 n1 c1, .slice a2 n2 c2, .slice a3 n3 c3] 62 _ (Blk.made _ _ _) rfl rfl rfl Try.underlying38 rfl infoSkL (by simp) rfl ?_
  go_wp2_with fail
  refine (szSketch_vast _ x.sk F left _ (HR.out.1.below HB.out) HR.out.2 hl0 hl1).mono ?_
  rintro e w1 ⟨⟨r, rfl, ra, rb, rc⟩, hb1⟩
  have HB1 : Hid (Below w.heap.size w w1) := Below.next HB.out hb1
  have HV : Hid (r ≤ left ∧ (0 ≤ r → r = left - x.sk.size) ∧ (r < 0 → left < x.sk.size)) := ⟨ra, rb, rc⟩
  clear hb1 rb rc HB
  by_cases q : r < 0
  · clear ra
    go_wp2
    go_ret
    exact ⟨⟨-1, rfl, by omega, by omega, fun _ => HV.out.2.2 q⟩, HB1.out⟩
  · go_wp2
    go_ret
    exact ⟨⟨r, rfl, HV.out⟩, HB1.out⟩
end Go.Proofs.Ytjndcfamfminkar
