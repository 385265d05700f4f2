/- The walks through the helpers of the laws over rows. No statement of the seat is proved here. -/
import Derived.Test.YtillnoeailnnfabRwData
import Derived.Test.YtillnoeailnnfabEnsHelp
namespace Go.Proofs.Ytillnoeailnnfab
open Go.RowKit
theorem infoRwI : (Try.prog.info? 29).map (·.size) = some 1 := by kernel_rfl
theorem rwSize {cs : Array Value} (h : cs.size = 1) : (Try.prog.info? 29).map (·.size) = some cs.size := by rw [h]; kernel_rfl
theorem lrwSize {cs : Array Value} (h : cs.size = 1) : (Try.prog.info? 24).map (·.size) = some cs.size := by rw [h]; kernel_rfl
set_option maxRecDepth 200000 in
set_option maxHeartbeats 2000000 in
theorem toRw_any (v : Value) (x : Rw) (F0 : List Nat) (w : World) (h : RdRw w v x F0) (hf : x.fits) :
    Calls Try.prog 6 #[v] w fun e w' => NewRw w x e w' := by
  obtain ⟨a, n, c, rfl, hL, _⟩ := h
  have HL : Hid (RdL enK w a n x.list F0 ∧ n ≤ 1048576 ∧ ∀ y ∈ x.list, y.fits) := ⟨hL, by rw [← hL.length]; exact hf.len, hf.each⟩
  clear hL hf
  go_enter Try.func6, Try.ntmps6
  go_wp2_with fail
  have T0 := Three.made w #[.slice a n c] 24 #[.slice none 0 0] #[.slice none 0 0] 29
  refine (toEntryS_any a n c x.list F0 _ (HL.out.1.below T0.bel) HL.out.2.1 HL.out.2.2).mono ?_
  rintro e w1 ⟨p1, l1, k1, F, rfl, r1, o1, hb1, hc1⟩
  have HT1 : Hid (Three w _ _ _ _ _ w1) := T0.below hb1
  have HF1 : Hid (RdL enK w1 p1 l1 x.list F ∧ Own (w.heap.size + 3) w1 F ∧ Capd p1 l1 k1) := ⟨r1, o1.mono T0.size, hc1⟩
  have c0' := HT1.out.loc.cell 0
  have f0' := HT1.out.loc.frozen 0
  simp only [aT, aZ] at c0'
  clear T0 hb1 r1 o1 hc1 HL
  go_wp2_with (first | go_skip | (with_reducible refine stopLoad 29 rfl ?_))
  obtain ⟨E, hE⟩ : ∃ E : Array Value, E = #[.slice p1 l1 k1] := ⟨_, rfl⟩
  have HT5 : Hid (Three w #[.slice a n c] 24 #[.slice none 0 0] E 29 (w1.setCell ⟨w.heap.size + 1 + 1, 0, none⟩ (.slice p1 l1 k1))) := by
    have := HT1.out.set 0 (.slice p1 l1 k1)
    rw [hE]
    exact this
  have HE : Hid (E = #[.slice p1 l1 k1]) := hE
  have hE1 : E.size = 1 := by rw [hE]; rfl
  have hEone : E.all (·.oneCell') = true := by rw [hE]; simp [Value.oneCell']
  have nl : w.heap.size + 1 + 1 ∉ F := fun hx => by have := HF1.out.2.1.ge _ hx; omega
  have HG5 : Hid (RdL enK (w1.setCell ⟨w.heap.size + 1 + 1, 0, none⟩ (.slice p1 l1 k1)) p1 l1 x.list F ∧ Own (w.heap.size + 3) (w1.setCell ⟨w.heap.size + 1 + 1, 0, none⟩ (.slice p1 l1 k1)) F ∧ Capd p1 l1 k1) := by
    have ag := (Agree.refl w1 F).thenSet nl 0 (.slice p1 l1 k1)
    exact ⟨HF1.out.1.agree ag, HF1.out.2.1.agree ag, HF1.out.2.2⟩
  obtain ⟨w5, hw5⟩ : ∃ W, W = (w1.setCell ⟨w.heap.size + 1 + 1, 0, none⟩ (.slice p1 l1 k1)) := ⟨_, rfl⟩
  rw [← hw5] at HT5 HG5 ⊢
  clear hw5 c0' f0' HT1 HF1 nl hE
  refine load_known 29 (w.heap.size + 1 + 1) E 29 _ HT5.out.loc rfl rfl rfl Try.underlying29 rfl (by rw [hE1]; exact infoRwI) ?_
  go_wp2_with (first | go_skip | (with_reducible refine stopStore 29 rfl ?_))
  refine store_known 29 (w.heap.size + 1) _ E 29 HT5.out.res rfl rfl rfl rfl (by rw [hE1]; exact infoRwI) (by rw [hE1]; rfl) hEone ?_
  have nr : w.heap.size + 1 ∉ F := fun hx => by have := HG5.out.2.1.ge _ hx; omega
  have HB4 : Hid (Blk (w5.setRow (w.heap.size + 1) E) (w.heap.size + 1) E 29) := HT5.out.res.setRow
  have HF : Hid (RdL enK (w5.setRow (w.heap.size + 1) E) p1 l1 x.list F ∧ Own w.heap.size (w5.setRow (w.heap.size + 1) E) F ∧ Below w.heap.size w (w5.setRow (w.heap.size + 1) E)) := ⟨HG5.out.1.agree (Agree.row nr E), (HG5.out.2.1.agree (Agree.row nr E)).mono (by omega), below_setRow HT5.out.bel (by omega) _⟩
  obtain ⟨w6, hw6⟩ : ∃ W, W = w5.setRow (w.heap.size + 1) E := ⟨_, rfl⟩
  rw [← hw6] at HB4 HF ⊢
  clear hw6 HT5 nr
  go_wp2
  refine bodyPost_ret (results_cell_row Try.results6 _ _ (w.heap.size + 1) _ _ (0, 0) _ rfl HB4.out Try.underlying29 rfl (by rw [hE1]; exact infoRwI)) rfl ?_
  exact ⟨_, F, rfl, ⟨p1, l1, k1, by rw [HE.out], HF.out.1, HG5.out.2.2⟩, HF.out.2.1, HF.out.2.2⟩
set_option maxRecDepth 200000 in
set_option maxHeartbeats 2000000 in
theorem szRw_vast (v : Value) (x : Rw) (F : List Nat) (left : Int) (w : World) (h : RdRw w v x F) (hv : x.vast) (hl0 : 0 ≤ left) (hl1 : left ≤ 1048576) :
    Calls Try.prog 4 #[v, .int .i64 left] w fun e w' => (∃ r, e = .returned (.int .i64 r) ∧ r ≤ left ∧ (0 ≤ r → r = left - x.size ∧ x.size ≤ left) ∧ (r < 0 → left < x.size)) ∧ Below w.heap.size w w' := by
  obtain ⟨a, n, c, rfl, hL, _⟩ := h
  have HL : Hid (RdL enK w a n x.list F ∧ n ≤ 9223372036854775807 ∧ (∀ y ∈ x.list, y.vast) ∧ x.list.length = n) := ⟨hL, by rw [← hL.length]; exact hv.2, hv.1, hL.length⟩
  have HN : Hid (0 ≤ ensSize x.list ∧ x.size = (n : Int) + ensSize x.list) := ⟨ensSize_nonneg _, by unfold Rw.size; rw [hL.length]⟩
  have HB : Hid (Below w.heap.size w (w.alloc (.cells #[.slice a n c] 24)) ∧ Blk (w.alloc (.cells #[.slice a n c] 24)) w.heap.size #[.slice a n c] 24) := ⟨Below.allocW _ (Below.refl _ _) (Nat.le_refl _), Blk.made _ _ _⟩
  clear hL hv
  go_enter Try.func4, Try.ntmps4
  go_wp2_with fail
  refine (szEntryS_vast a n c x.list F left _ (HL.out.1.below HB.out.1) HL.out.2.1 HL.out.2.2.1 hl0 hl1).mono ?_
  rintro e w1 ⟨⟨r, rfl, ra, rb, rc⟩, hb1⟩
  have HB1 : Hid (Below w.heap.size w w1) := Below.next HB.out.1 hb1
  have HRR : Hid (r ≤ left ∧ (0 ≤ r → r = left - (n + ensSize x.list)) ∧ (r < 0 → left < n + ensSize x.list)) := ⟨ra, rb, rc⟩
  clear hb1 ra rb rc HB
  by_cases q : r < 0
  · go_wp2
    go_ret
    have t1 := HRR.out.2.2 q
    have t2 := HN.out
    exact ⟨⟨-1, rfl, by omega, by omega, fun _ => by omega⟩, HB1.out⟩
  · go_wp2
    go_ret
    have t0 := HRR.out.1
    have t1 := HRR.out.2.1 (by omega)
    have t2 := HN.out
    exact ⟨⟨r, rfl, by omega, fun _ => by omega, fun hs => by omega⟩, HB1.out⟩
set_option maxRecDepth 200000 in
set_option maxHeartbeats 4000000 in
theorem eqRw_any (v u : Value) (x y : Rw) (F G : List Nat) (w : World) (h : RdRw w v x F) (k : RdRw w u y G) (hw : x.wide) (kw : y.wide) :
    Calls Try.prog 8 #[v, u] w fun e w' => e = .returned (.bool (decide (x = y))) ∧ Below w.heap.size w w' := by
  obtain ⟨a, n, c, rfl, hL, _⟩ := h
  obtain ⟨b, m, d, rfl, kL, _⟩ := k
  have HX : Hid (RdL enK w a n x.list F ∧ RdL enK w b m y.list G ∧ n ≤ 140737488355328 ∧ m ≤ 140737488355328 ∧ (∀ z ∈ x.list, z.wide) ∧ ∀ z ∈ y.list, z.wide) := ⟨hL, kL, by rw [← hL.length]; exact Nat.le_trans hw.2 (by omega), by rw [← kL.length]; exact Nat.le_trans kw.2 (by omega), hw.1, kw.1⟩
  have HT : Hid (Two w #[.slice a n c] #[.slice b m d] 29 ((w.alloc (.cells #[.slice a n c] 29)).alloc (.cells #[.slice b m d] 29))) := Two.made w _ _ _
  clear hL kL hw kw
  go_enter Try.func8, Try.ntmps8
  go_wp2_with fail
  refine (eqEntryS_any a b n m c d x.list y.list F G _ (HX.out.1.below HT.out.bel) (HX.out.2.1.below HT.out.bel) HX.out.2.2.1 HX.out.2.2.2.1 HX.out.2.2.2.2.1 HX.out.2.2.2.2.2).mono ?_
  rintro e w2 ⟨rfl, hb2⟩
  have HT2 : Hid (Below w.heap.size w w2) := Below.next HT.out.bel hb2
  obtain ⟨g, hg⟩ : ∃ d, d = decide (x.list = y.list) := ⟨_, rfl⟩
  rw [← hg]
  have HD2 : Hid (g = decide (x = y)) := by
    rw [show (g = decide (x = y)) = (g = decide (x.list = y.list)) by congr 2; exact propext ⟨fun e => by rw [e], Rw.eq_of⟩]
    exact hg
  clear hb2 HT hg
  cases g
  · go_wp2
    go_ret
    exact ⟨ret_bool HD2.out, HT2.out⟩
  · go_wp2
    go_ret
    exact ⟨ret_bool HD2.out, HT2.out⟩
end Go.Proofs.Ytillnoeailnnfab
