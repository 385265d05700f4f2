/- The walks through the helpers of the laws over seats. No statement of the seat is proved here. -/
import Derived.Test.YtgkbhhlkaifnoabDoorSeData
import Derived.Test.YtgkbhhlkaifnoabDoorSpHelp
import Derived.Test.YtgkbhhlkaifnoabDoorSpVar
import Derived.Test.YtgkbhhlkaifnoabDoorIntMarks
import Derived.Test.YtgkbhhlkaifnoabDoorItHelp
import Derived.Test.YtgkbhhlkaifnoabDoorSkLaw
namespace Go.Proofs.YtgkbhhlkaifnoabDoor
open Go.RowKit
theorem infoSeI : (Tryd.prog.info? 28).map (·.size) = some 5 := by kernel_rfl
theorem seSize {cs : Array Value} (h : cs.size = 5) : (Tryd.prog.info? 28).map (·.size) = some cs.size := by rw [h]; kernel_rfl
theorem lseSize {cs : Array Value} (h : cs.size = 5) : (Tryd.prog.info? 24).map (·.size) = some cs.size := by rw [h]; kernel_rfl
set_option maxRecDepth 200000 in
set_option maxHeartbeats 2000000 in
theorem toSe_any (v : Value) (x : Se) (F0 : List Nat) (w : World) (h : RdSe w v x F0) (hf : x.fits) :
    Calls Tryd.prog 6 #[v] w fun e w' => NewSe w x e w' := by
  obtain ⟨b, l, c, rfl, hP, _⟩ := h
  have HP : Hid (RdP w b l x.taken F0 ∧ l ≤ 1048576) := ⟨hP, by rw [← hP.length]; exact hf⟩
  clear hP hf
  go_enter Tryd.func6, Tryd.ntmps6
  go_wp2_with fail
  have T0 := Three.made w #[.int .i64 x.epoch, .int .i64 x.granted, .slice b l c, .int .i64 x.merged, .int .i64 x.last] 24 #[.int .i64 0, .int .i64 0, .slice none 0 0, .int .i64 0, .int .i64 0] #[.int .i64 x.epoch, .int .i64 x.granted, .slice none 0 0, .int .i64 0, .int .i64 0] 28
  refine (toSpanS_any b l c x.taken F0 _ (HP.out.1.below T0.bel) HP.out.2).mono ?_
  rintro e w1 ⟨p1, l1, k1, F, rfl, r1, o1, hb1, hc1⟩
  have HT1 : Hid (Three w _ _ _ _ _ w1) := T0.below hb1
  have HF1 : Hid (RdP w1 p1 l1 x.taken F ∧ Own (w.heap.size + 3) w1 F ∧ Capd p1 l1 k1) := ⟨r1, o1.mono T0.size, hc1⟩
  have c2' := HT1.out.loc.cell 2
  have f2' := HT1.out.loc.frozen 2
  have c3' := HT1.out.loc.cell 3
  have f3' := HT1.out.loc.frozen 3
  have c4' := HT1.out.loc.cell 4
  have f4' := HT1.out.loc.frozen 4
  have d3' := HT1.out.box.cell 3
  have d4' := HT1.out.box.cell 4
  simp only [aT, aS, aZ] at c2' c3' c4' d3' d4'
  clear T0 hb1 r1 o1 hc1 HP
  go_wp2_with (first | go_skip | (with_reducible refine stopLoad 28 rfl ?_))
  obtain ⟨E, hE⟩ : ∃ E : Array Value, E = #[.int .i64 x.epoch, .int .i64 x.granted, .slice p1 l1 k1, .int .i64 x.merged, .int .i64 x.last] := ⟨_, rfl⟩
  have HT5 : Hid (Three w #[.int .i64 x.epoch, .int .i64 x.granted, .slice b l c, .int .i64 x.merged, .int .i64 x.last] 24 #[.int .i64 0, .int .i64 0, .slice none 0 0, .int .i64 0, .int .i64 0] E 28 (((w1.setCell ⟨w.heap.size + 1 + 1, 2, none⟩ (.slice p1 l1 k1)).setCell ⟨w.heap.size + 1 + 1, 3, none⟩ (.int .i64 x.merged)).setCell ⟨w.heap.size + 1 + 1, 4, none⟩ (.int .i64 x.last))) := by
    have := ((HT1.out.set 2 (.slice p1 l1 k1)).set 3 (.int .i64 x.merged)).set 4 (.int .i64 x.last)
    rw [hE]
    exact this
  have HE : Hid (E = #[.int .i64 x.epoch, .int .i64 x.granted, .slice p1 l1 k1, .int .i64 x.merged, .int .i64 x.last]) := hE
  have hE5 : E.size = 5 := by rw [hE]; rfl
  have hEone : E.all (·.oneCell') = true := by rw [hE]; simp [Value.oneCell']
  have nl : w.heap.size + 1 + 1 ∉ F := fun hx => by have := HF1.out.2.1.ge _ hx; omega
  have HG5 : Hid (RdP (((w1.setCell ⟨w.heap.size + 1 + 1, 2, none⟩ (.slice p1 l1 k1)).setCell ⟨w.heap.size + 1 + 1, 3, none⟩ (.int .i64 x.merged)).setCell ⟨w.heap.size + 1 + 1, 4, none⟩ (.int .i64 x.last)) p1 l1 x.taken F ∧ Own (w.heap.size + 3) (((w1.setCell ⟨w.heap.size + 1 + 1, 2, none⟩ (.slice p1 l1 k1)).setCell ⟨w.heap.size + 1 + 1, 3, none⟩ (.int .i64 x.merged)).setCell ⟨w.heap.size + 1 + 1, 4, none⟩ (.int .i64 x.last)) F ∧ Capd p1 l1 k1) := by
    have ag := (((Agree.refl w1 F).thenSet nl 2 (.slice p1 l1 k1)).thenSet nl 3 (.int .i64 x.merged)).thenSet nl 4 (.int .i64 x.last)
    exact ⟨HF1.out.1.agree ag, HF1.out.2.1.agree ag, HF1.out.2.2⟩
  obtain ⟨w5, hw5⟩ : ∃ W, W = (((w1.setCell ⟨w.heap.size + 1 + 1, 2, none⟩ (.slice p1 l1 k1)).setCell ⟨w.heap.size + 1 + 1, 3, none⟩ (.int .i64 x.merged)).setCell ⟨w.heap.size + 1 + 1, 4, none⟩ (.int .i64 x.last)) := ⟨_, rfl⟩
  rw [← hw5] at HT5 HG5 ⊢
  clear hw5 c2' f2' c3' f3' c4' f4' d3' d4' HT1 HF1 nl hE
  refine load_known 28 (w.heap.size + 1 + 1) E 28 _ HT5.out.loc rfl rfl rfl Tryd.underlying28 rfl (by rw [hE5]; exact infoSeI) ?_
  go_wp2_with (first | go_skip | (with_reducible refine stopStore 28 rfl ?_))
  refine store_known 28 (w.heap.size + 1) _ E 28 HT5.out.res rfl rfl rfl rfl (by rw [hE5]; exact infoSeI) (by rw [hE5]; rfl) hEone ?_
  have nr : w.heap.size + 1 ∉ F := fun hx => by have := HG5.out.2.1.ge _ hx; omega
  have HB4 : Hid (Blk (w5.setRow (w.heap.size + 1) E) (w.heap.size + 1) E 28) := HT5.out.res.setRow
  have HF : Hid (RdP (w5.setRow (w.heap.size + 1) E) p1 l1 x.taken F ∧ Own w.heap.size (w5.setRow (w.heap.size + 1) E) F ∧ Below w.heap.size w (w5.setRow (w.heap.size + 1) E)) := ⟨HG5.out.1.agree (Agree.row nr E), (HG5.out.2.1.agree (Agree.row nr E)).mono (by omega), below_setRow HT5.out.bel (by omega) _⟩
  obtain ⟨w6, hw6⟩ : ∃ W, W = w5.setRow (w.heap.size + 1) E := ⟨_, rfl⟩
  rw [← hw6] at HB4 HF ⊢
  clear hw6 HT5 nr
  go_wp2
  refine bodyPost_ret (results_cell_row Tryd.results6 _ _ (w.heap.size + 1) _ _ (0, 0) _ rfl HB4.out Tryd.underlying28 rfl (by rw [hE5]; exact infoSeI)) rfl ?_
  exact ⟨_, F, rfl, ⟨p1, l1, k1, by rw [HE.out], HF.out.1, HG5.out.2.2⟩, HF.out.2.1, HF.out.2.2⟩
set_option maxRecDepth 200000 in
set_option maxHeartbeats 2000000 in
theorem szSe_vast (v : Value) (x : Se) (F : List Nat) (left : Int) (w : World) (h : RdSe w v x F) (hv : x.vast) (hl0 : 0 ≤ left) (hl1 : left ≤ 1048576) :
    Calls Tryd.prog 4 #[v, .int .i64 left] w fun e w' => (∃ r, e = .returned (.int .i64 r) ∧ r ≤ left ∧ (0 ≤ r → (x.taken.length : Int) ≤ left) ∧ (r < 0 → left < x.taken.length)) ∧ Below w.heap.size w w' := by
  obtain ⟨b, l, c, rfl, hP, _⟩ := h
  have HT : Hid (x.taken.length = l) := hP.length
  have hln : l ≤ 9223372036854775807 := by rw [← hP.length]; exact hv
  have HB : Hid (Below w.heap.size w (w.alloc (.cells #[.int .i64 x.epoch, .int .i64 x.granted, .slice b l c, .int .i64 x.merged, .int .i64 x.last] 24)) ∧ Blk (w.alloc (.cells #[.int .i64 x.epoch, .int .i64 x.granted, .slice b l c, .int .i64 x.merged, .int .i64 x.last] 24)) w.heap.size #[.int .i64 x.epoch, .int .i64 x.granted, .slice b l c, .int .i64 x.merged, .int .i64 x.last] 24) := ⟨Below.allocW _ (Below.refl _ _) (Nat.le_refl _), Blk.made _ _ _⟩
  clear hP hv
  go_enter Tryd.func4, Tryd.ntmps4
  go_wp2_with fail
  refine (szSpanS_vast b l c left _ hln hl0 hl1).mono ?_
  rintro e w2 ⟨⟨s, rfl, sa, sb, sc⟩, hw2⟩
  have hw2' := hw2.symm
  subst hw2'
  have HSS : Hid (s ≤ left ∧ (0 ≤ s → s = left - l) ∧ (s < 0 → left < l)) := ⟨sa, sb, sc⟩
  clear hw2 sa sb sc
  by_cases q2 : s < 0
  · go_wp2
    go_ret
    have t2 := HT.out
    have t3 := HSS.out.2.2 q2
    exact ⟨⟨-1, rfl, by omega, by omega, fun _ => by omega⟩, HB.out.1⟩
  · go_wp2
    go_ret
    have t2 := HT.out
    have t3 := HSS.out.2.1 (by omega)
    exact ⟨⟨s, rfl, HSS.out.1, fun _ => by omega, fun hs => by omega⟩, HB.out.1⟩
set_option maxRecDepth 200000 in
set_option maxHeartbeats 4000000 in
theorem eqSe_any (v u : Value) (x y : Se) (F G : List Nat) (w : World) (h : RdSe w v x F) (k : RdSe w u y G) (hw : x.wide) (kw : y.wide) :
    Calls Tryd.prog 8 #[v, u] w fun e w' => e = .returned (.bool (decide (x = y))) ∧ Below w.heap.size w w' := by
  obtain ⟨b, l, c, rfl, hP, _⟩ := h
  obtain ⟨d, m, j, rfl, kP, _⟩ := k
  have HX : Hid (RdP w b l x.taken F ∧ RdP w d m y.taken G ∧ l ≤ 140737488355328 ∧ m ≤ 140737488355328) := ⟨hP, kP, by rw [← hP.length]; exact Nat.le_trans hw (by omega), by rw [← kP.length]; exact Nat.le_trans kw (by omega)⟩
  have HT : Hid (Two w #[.int .i64 x.epoch, .int .i64 x.granted, .slice b l c, .int .i64 x.merged, .int .i64 x.last] #[.int .i64 y.epoch, .int .i64 y.granted, .slice d m j, .int .i64 y.merged, .int .i64 y.last] 28 ((w.alloc (.cells #[.int .i64 x.epoch, .int .i64 x.granted, .slice b l c, .int .i64 x.merged, .int .i64 x.last] 28)).alloc (.cells #[.int .i64 y.epoch, .int .i64 y.granted, .slice d m j, .int .i64 y.merged, .int .i64 y.last] 28))) := Two.made w _ _ _
  clear hP kP hw kw
  go_enter Tryd.func8, Tryd.ntmps8
  by_cases h0 : x.epoch = y.epoch
  rotate_left
  · have e0 : (x.epoch != y.epoch) = true := by simpa using h0
    have HV : Hid (decide (x = y) = false) := dec_false (fun e => h0 (by rw [e]))
    clear h0
    go_wp2
    go_ret
    exact ⟨ret_bool HV.out.symm, HT.out.bel⟩
  have e0 : (x.epoch != y.epoch) = false := by simpa using h0
  have H0 : Hid (x.epoch = y.epoch) := h0
  clear h0
  by_cases h1 : x.granted = y.granted
  rotate_left
  · have e1 : (x.granted != y.granted) = true := by simpa using h1
    have HV : Hid (decide (x = y) = false) := dec_false (fun e => h1 (by rw [e]))
    clear h1
    go_wp2
    go_ret
    exact ⟨ret_bool HV.out.symm, HT.out.bel⟩
  have e1 : (x.granted != y.granted) = false := by simpa using h1
  have H1 : Hid (x.granted = y.granted) := h1
  clear h1
  go_wp2_with fail
  refine (eqSpanS_any b d l m c j x.taken y.taken F G _ (HX.out.1.below HT.out.bel) (HX.out.2.1.below HT.out.bel) HX.out.2.2.1 HX.out.2.2.2).mono ?_
  rintro e w2 ⟨rfl, hb2⟩
  have HT2 : Hid (Two w #[.int .i64 x.epoch, .int .i64 x.granted, .slice b l c, .int .i64 x.merged, .int .i64 x.last] #[.int .i64 y.epoch, .int .i64 y.granted, .slice d m j, .int .i64 y.merged, .int .i64 y.last] 28 w2) := HT.out.below hb2
  obtain ⟨g, hg⟩ : ∃ d, d = decide (x.taken = y.taken) := ⟨_, rfl⟩
  rw [← hg]
  have HD2 : Hid (g = decide (x.taken = y.taken)) := hg
  clear hb2 HT hg
  cases g
  · have HV : Hid (decide (x = y) = false) := dec_false (fun e => by have := HD2.out.symm; rw [decide_eq_false_iff_not] at this; exact this (by rw [e]))
    go_wp2
    go_ret
    exact ⟨ret_bool HV.out.symm, HT2.out.bel⟩
  have H5 : Hid (x.taken = y.taken) := by show x.taken = y.taken; exact of_decide_eq_true HD2.out.symm
  have p3 := HT2.out.fst.cell 3
  have q3 := HT2.out.snd.cell 3
  have p4 := HT2.out.fst.cell 4
  have q4 := HT2.out.snd.cell 4
  simp only [aT, aS, aZ] at p3 q3 p4 q4
  by_cases h2 : x.merged = y.merged
  rotate_left
  · have e2 : (x.merged != y.merged) = true := by simpa using h2
    have HV : Hid (decide (x = y) = false) := dec_false (fun e => h2 (by rw [e]))
    clear h2
    go_wp2
    go_ret
    exact ⟨ret_bool HV.out.symm, HT2.out.bel⟩
  have e2 : (x.merged != y.merged) = false := by simpa using h2
  have H2 : Hid (x.merged = y.merged) := h2
  clear h2
  by_cases h3 : x.last = y.last
  rotate_left
  · have e3 : (x.last != y.last) = true := by simpa using h3
    have HV : Hid (decide (x = y) = false) := dec_false (fun e => h3 (by rw [e]))
    clear h3
    go_wp2
    go_ret
    exact ⟨ret_bool HV.out.symm, HT2.out.bel⟩
  have e3 : (x.last != y.last) = false := by simpa using h3
  have H3 : Hid (x.last = y.last) := h3
  clear h3
  have HV : Hid (decide (x = y) = true) := dec_true (Se.eq_of H0.out H1.out H5.out H2.out H3.out)
  go_wp2
  go_ret
  exact ⟨ret_bool HV.out.symm, HT2.out.bel⟩
end Go.Proofs.YtgkbhhlkaifnoabDoor
