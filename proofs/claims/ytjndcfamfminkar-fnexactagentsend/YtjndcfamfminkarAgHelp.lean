/- The walks through the helpers of the laws over agents. No statement of the seat is proved here. -/
import Derived.Test.YtjndcfamfminkarItsHelp
namespace Go.Proofs.Ytjndcfamfminkar
open Go.RowKit
theorem infoAgI : (Try.prog.info? 25).map (·.size) = some 7 := by kernel_rfl
set_option maxRecDepth 200000 in
set_option maxHeartbeats 2000000 in
theorem toAgent_any (v : Value) (x : Ag) (F0 G0 : List Nat) (w : World) (h : RdAg w v x F0 G0) (hl : x.sealed.length ≤ 1048576) (hf : ∀ y ∈ x.sealed, y.sk.fits) (hp : x.taken.length ≤ 1048576) :
    Calls Try.prog 16 #[v] w fun e w' => NewAg w x e w' := by
  obtain ⟨a1, n1, c1, a2, n2, c2, rfl, hL, hP, _, _⟩ := h
  have HL : Hid (RdL itK w a1 n1 x.sealed F0 ∧ n1 ≤ 1048576 ∧ ∀ y ∈ x.sealed, y.sk.fits) := ⟨hL, by rw [← hL.length]; exact hl, hf⟩
  have HP : Hid (RdP w a2 n2 x.taken G0 ∧ n2 ≤ 1048576) := ⟨hP, by rw [← hP.length]; exact hp⟩
  clear hL hP hl hf hp
  go_enter Try.func16, Try.ntmps16
  go_wp2_with fail
  have T0 := Three.made w #[.int .i64 x.id, .int .i64 x.epoch, .bool x.live, .int .i64 x.granted, .slice a1 n1 c1, .slice a2 n2 c2, .int .i64 x.next] 34 #[.int .i64 0, .int .i64 0, .bool false, .int .i64 0, .slice none 0 0, .slice none 0 0, .int .i64 0] #[.int .i64 x.id, .int .i64 x.epoch, .bool x.live, .int .i64 x.granted, .slice none 0 0, .slice none 0 0, .int .i64 0] 25
  refine (toItemS_any a1 n1 c1 x.sealed F0 _ (HL.out.1.below T0.bel) HL.out.2.1 HL.out.2.2).mono ?_
  rintro e w1 ⟨p1, l1, k1, F, rfl, r1, o1, hb1, hc1⟩
  have HT1 : Hid (Three w _ _ _ _ _ w1) := T0.below hb1
  have HF1 : Hid (RdL itK w1 p1 l1 x.sealed F ∧ Own (w.heap.size + 3) w1 F ∧ Capd p1 l1 k1) := ⟨r1, o1.mono T0.size, hc1⟩
  have c4 := HT1.out.loc.cell 4
  have f4 := HT1.out.loc.frozen 4
  have d5 := HT1.out.box.cell 5
  simp only [aT, aS, aZ] at c4 d5
  clear T0 hb1 r1 o1 hc1 HL
  go_wp2_with fail
  have nl1 : w.heap.size + 1 + 1 ∉ F := fun hx => by have := HF1.out.2.1.ge _ hx; omega
  have HT2 : Hid (Three w _ _ _ _ _ (w1.setCell ⟨w.heap.size + 1 + 1, 4, none⟩ (.slice p1 l1 k1))) := HT1.out.set 4 (.slice p1 l1 k1)
  have HF2 : Hid (RdL itK (w1.setCell ⟨w.heap.size + 1 + 1, 4, none⟩ (.slice p1 l1 k1)) p1 l1 x.sealed F ∧ Own (w.heap.size + 3) (w1.setCell ⟨w.heap.size + 1 + 1, 4, none⟩ (.slice p1 l1 k1)) F ∧ Capd p1 l1 k1) := ⟨HF1.out.1.agree (.set nl1 4 _), HF1.out.2.1.agree (.set nl1 4 _), HF1.out.2.2⟩
  obtain ⟨w2, hw2⟩ : ∃ W, W = w1.setCell ⟨w.heap.size + 1 + 1, 4, none⟩ (.slice p1 l1 k1) := ⟨_, rfl⟩
  rw [← hw2] at HT2 HF2 ⊢
  clear hw2 nl1 c4 f4 d5 HT1 HF1
  refine (toSpanS_any a2 n2 c2 x.taken G0 _ (HP.out.1.below HT2.out.bel) HP.out.2).mono ?_
  rintro e w3 ⟨p2, l2, k2, G, rfl, r2, o2, hb3, hc2⟩
  have HT3 : Hid (Three w _ _ _ _ _ w3) := HT2.out.below hb3
  have HG : Hid (RdL itK w3 p1 l1 x.sealed F ∧ Own (w.heap.size + 3) w3 F ∧ Capd p1 l1 k1 ∧ RdP w3 p2 l2 x.taken G ∧ Own (w.heap.size + 3) w3 G ∧ Capd p2 l2 k2 ∧ ∀ b ∈ F, b ∉ G) := ⟨HF2.out.1.below hb3, HF2.out.2.1.below HF2.out.1.lt hb3, HF2.out.2.2, r2, o2.mono HT2.out.size, hc2, fun b hb hx => by have h1 := HF2.out.1.lt b hb; have h2 := o2.ge b hx; omega⟩
  have c5 := HT3.out.loc.cell 5
  have f5 := HT3.out.loc.frozen 5
  have c6 := HT3.out.loc.cell 6
  have f6 := HT3.out.loc.frozen 6
  have d6 := HT3.out.box.cell 6
  simp only [List.setIfInBounds_toArray, List.set_cons_succ, List.set_cons_zero, aT, aS, aZ] at c5 c6 d6
  clear hb3 r2 o2 hc2 HP HT2 HF2
  go_wp2_with (first | go_skip | (with_reducible refine stopLoad 25 rfl ?_))
  obtain ⟨E, hE⟩ : ∃ E : Array Value, E = #[.int .i64 x.id, .int .i64 x.epoch, .bool x.live, .int .i64 x.granted, .slice p1 l1 k1, .slice p2 l2 k2, .int .i64 x.next] := ⟨_, rfl⟩
  have HT5 : Hid (Three w #[.int .i64 x.id, .int .i64 x.epoch, .bool x.live, .int .i64 x.granted, .slice a1 n1 c1, .slice a2 n2 c2, .int .i64 x.next] 34 #[.int .i64 0, .int .i64 0, .bool false, .int .i64 0, .slice none 0 0, .slice none 0 0, .int .i64 0] E 25 ((w3.setCell ⟨w.heap.size + 1 + 1, 5, none⟩ (.slice p2 l2 k2)).setCell ⟨w.heap.size + 1 + 1, 6, none⟩ (.int .i64 x.next))) := by
    have := (HT3.out.set 5 (.slice p2 l2 k2)).set 6 (.int .i64 x.next)
    rw [hE]
    exact this
  have HE : Hid (E = #[.int .i64 x.id, .int .i64 x.epoch, .bool x.live, .int .i64 x.granted, .slice p1 l1 k1, .slice p2 l2 k2, .int .i64 x.next]) := hE
  have hE7 : E.size = 7 := by rw [hE]; rfl
  have hEone : E.all (·.oneCell') = true := by rw [hE]; simp [Value.oneCell']
  have nl : w.heap.size + 1 + 1 ∉ F := fun hx => by have := HG.out.2.1.ge _ hx; omega
  have ml : w.heap.size + 1 + 1 ∉ G := fun hx => by have := HG.out.2.2.2.2.1.ge _ hx; omega
  have HG5 : Hid (RdL itK ((w3.setCell ⟨w.heap.size + 1 + 1, 5, none⟩ (.slice p2 l2 k2)).setCell ⟨w.heap.size + 1 + 1, 6, none⟩ (.int .i64 x.next)) p1 l1 x.sealed F ∧ Own (w.heap.size + 3) ((w3.setCell ⟨w.heap.size + 1 + 1, 5, none⟩ (.slice p2 l2 k2)).setCell ⟨w.heap.size + 1 + 1, 6, none⟩ (.int .i64 x.next)) F ∧ RdP ((w3.setCell ⟨w.heap.size + 1 + 1, 5, none⟩ (.slice p2 l2 k2)).setCell ⟨w.heap.size + 1 + 1, 6, none⟩ (.int .i64 x.next)) p2 l2 x.taken G ∧ Own (w.heap.size + 3) ((w3.setCell ⟨w.heap.size + 1 + 1, 5, none⟩ (.slice p2 l2 k2)).setCell ⟨w.heap.size + 1 + 1, 6, none⟩ (.int .i64 x.next)) G ∧ (∀ b ∈ F, b ∉ G) ∧ Capd p1 l1 k1 ∧ Capd p2 l2 k2) := by
    have agF := ((Agree.refl w3 F).thenSet nl 5 (.slice p2 l2 k2)).thenSet nl 6 (.int .i64 x.next)
    have agG := ((Agree.refl w3 G).thenSet ml 5 (.slice p2 l2 k2)).thenSet ml 6 (.int .i64 x.next)
    exact ⟨HG.out.1.agree agF, HG.out.2.1.agree agF, HG.out.2.2.2.1.agree agG, HG.out.2.2.2.2.1.agree agG, HG.out.2.2.2.2.2.2, HG.out.2.2.1, HG.out.2.2.2.2.2.1⟩
  obtain ⟨w5, hw5⟩ : ∃ W, W = (w3.setCell ⟨w.heap.size + 1 + 1, 5, none⟩ (.slice p2 l2 k2)).setCell ⟨w.heap.size + 1 + 1, 6, none⟩ (.int .i64 x.next) := ⟨_, rfl⟩
  rw [← hw5] at HT5 HG5 ⊢
  clear hw5 c5 f5 c6 f6 d6 HT3 HG nl ml hE
  refine load_known 25 (w.heap.size + 1 + 1) E 25 _ HT5.out.loc rfl rfl rfl Try.underlying25 rfl (by rw [hE7]; exact infoAgI) ?_
  go_wp2_with (first | go_skip | (with_reducible refine stopStore 25 rfl ?_))
  refine store_known 25 (w.heap.size + 1) _ E 25 HT5.out.res rfl rfl rfl rfl (by rw [hE7]; exact infoAgI) (by rw [hE7]; rfl) hEone ?_
  have nr : w.heap.size + 1 ∉ F := fun hx => by have := HG5.out.2.1.ge _ hx; omega
  have mr : w.heap.size + 1 ∉ G := fun hx => by have := HG5.out.2.2.2.1.ge _ hx; omega
  have HB4 : Hid (Blk (w5.setRow (w.heap.size + 1) E) (w.heap.size + 1) E 25) := HT5.out.res.setRow
  have HF : Hid (RdL itK (w5.setRow (w.heap.size + 1) E) p1 l1 x.sealed F ∧ RdP (w5.setRow (w.heap.size + 1) E) p2 l2 x.taken G ∧ Own w.heap.size (w5.setRow (w.heap.size + 1) E) F ∧ Own w.heap.size (w5.setRow (w.heap.size + 1) E) G ∧ Below w.heap.size w (w5.setRow (w.heap.size + 1) E)) := ⟨HG5.out.1.agree (Agree.row nr E), HG5.out.2.2.1.agree (Agree.row mr E), (HG5.out.2.1.agree (Agree.row nr E)).mono (by omega), (HG5.out.2.2.2.1.agree (Agree.row mr E)).mono (by omega), below_setRow HT5.out.bel (by omega) _⟩
  obtain ⟨w6, hw6⟩ : ∃ W, W = w5.setRow (w.heap.size + 1) E := ⟨_, rfl⟩
  rw [← hw6] at HB4 HF ⊢
  clear hw6 HT5 nr mr
  go_wp2
  refine bodyPost_ret (results_cell_row Try.results16 _ _ (w.heap.size + 1) _ _ (0, 0) _ rfl HB4.out Try.underlying25 rfl (by rw [hE7]; exact infoAgI)) rfl ?_
  exact ⟨_, F, G, rfl, ⟨p1, l1, k1, p2, l2, k2, by rw [HE.out], HF.out.1, HF.out.2.1, HG5.out.2.2.2.2.2.1, HG5.out.2.2.2.2.2.2⟩, HF.out.2.2.1, HF.out.2.2.2.1, HG5.out.2.2.2.2.1, HF.out.2.2.2.2⟩
/-- What an agent weighs. -/
def Ag.size (x : Ag) : Int := (x.sealed.length : Int) + itsSize x.sealed + x.taken.length
set_option maxRecDepth 200000 in
set_option maxHeartbeats 2000000 in
theorem szAgent_vast (v : Value) (x : Ag) (F G : List Nat) (left : Int) (w : World) (h : RdAg w v x F G) (hv : ∀ y ∈ x.sealed, y.sk.vast) (hs : x.sealed.length ≤ 9223372036854775807) (ht : x.taken.length ≤ 9223372036854775807) (hl0 : 0 ≤ left) (hl1 : left ≤ 1048576) :
    Calls Try.prog 13 #[v, .int .i64 left] w fun e w' => (∃ r, e = .returned (.int .i64 r) ∧ r ≤ left ∧ (0 ≤ r → r = left - x.size ∧ x.size ≤ left) ∧ (r < 0 → left < x.size)) ∧ Below w.heap.size w w' := by
  obtain ⟨a1, n1, c1, a2, n2, c2, rfl, hL, hP, _, _⟩ := h
  have HL : Hid (RdL itK w a1 n1 x.sealed F ∧ n1 ≤ 9223372036854775807 ∧ (∀ y ∈ x.sealed, y.sk.vast) ∧ x.sealed.length = n1) := ⟨hL, by rw [← hL.length]; exact hs, hv, hL.length⟩
  have HT : Hid (x.taken.length = n2) := hP.length
  have HN : Hid (0 ≤ itsSize x.sealed ∧ x.size = (n1 : Int) + itsSize x.sealed + n2) := ⟨itsSize_nonneg _, by unfold Ag.size; rw [hL.length, hP.length]⟩
  have hln : n2 ≤ 9223372036854775807 := by rw [← hP.length]; exact ht
  have HB : Hid (Below w.heap.size w (w.alloc (.cells #[.int .i64 x.id, .int .i64 x.epoch, .bool x.live, .int .i64 x.granted, .slice a1 n1 c1, .slice a2 n2 c2, .int .i64 x.next] 34)) ∧ Blk (w.alloc (.cells #[.int .i64 x.id, .int .i64 x.epoch, .bool x.live, .int .i64 x.granted, .slice a1 n1 c1, .slice a2 n2 c2, .int .i64 x.next] 34)) w.heap.size #[.int .i64 x.id, .int .i64 x.epoch, .bool x.live, .int .i64 x.granted, .slice a1 n1 c1, .slice a2 n2 c2, .int .i64 x.next] 34) := ⟨Below.allocW _ (Below.refl _ _) (Nat.le_refl _), Blk.made _ _ _⟩
  clear hL hP hs ht hv
  go_enter Try.func13, Try.ntmps13
  go_wp2_with fail
  refine (szItemS_vast a1 n1 c1 x.sealed F left _ (HL.out.1.below HB.out.1) HL.out.2.1 HL.out.2.2.1 hl0 hl1).mono ?_
  rintro e w1 ⟨⟨r, rfl, ra, rb, rc⟩, hb1⟩
  have HB1 : Hid (Below w.heap.size w w1 ∧ Blk w1 w.heap.size #[.int .i64 x.id, .int .i64 x.epoch, .bool x.live, .int .i64 x.granted, .slice a1 n1 c1, .slice a2 n2 c2, .int .i64 x.next] 34) := ⟨Below.next HB.out.1 hb1, HB.out.2.below hb1⟩
  have HRR : Hid (r ≤ left ∧ (0 ≤ r → r = left - (n1 + itsSize x.sealed)) ∧ (r < 0 → left < n1 + itsSize x.sealed)) := ⟨ra, rb, rc⟩
  clear hb1 ra rb rc HB
  by_cases q : r < 0
  · go_wp2
    go_ret
    have t1 := HRR.out.2.2 q
    have t2 := HN.out
    exact ⟨⟨-1, rfl, by omega, by omega, fun _ => by omega⟩, HB1.out.1⟩
  have hr0 : 0 ≤ r := by omega
  have hr1 : r ≤ 1048576 := by have := HRR.out.1; omega
  have d5 := HB1.out.2.cell 5
  simp only [aT, aS, aZ] at d5
  go_wp2_with fail
  refine (szSpanS_vast a2 n2 c2 r _ hln hr0 hr1).mono ?_
  rintro e w2 ⟨⟨s, rfl, sa, sb, sc⟩, hw2⟩
  have hw2' := hw2.symm
  subst hw2'
  have HSS : Hid (s ≤ r ∧ (0 ≤ s → s = r - n2) ∧ (s < 0 → r < n2)) := ⟨sa, sb, sc⟩
  clear hw2 sa sb sc d5
  by_cases q2 : s < 0
  · go_wp2
    go_ret
    have t1 := HRR.out.2.1 hr0
    have t2 := HN.out
    have t3 := HSS.out.2.2 q2
    exact ⟨⟨-1, rfl, by omega, by omega, fun _ => by omega⟩, HB1.out.1⟩
  · go_wp2
    go_ret
    have t0 := HRR.out.1
    have t1 := HRR.out.2.1 hr0
    have t2 := HN.out
    have t3 := HSS.out.2.1 (by omega)
    exact ⟨⟨s, rfl, by omega, fun _ => by omega, fun hs => by omega⟩, HB1.out.1⟩
set_option maxRecDepth 200000 in
set_option maxHeartbeats 4000000 in
theorem eqAgent_any (v u : Value) (x y : Ag) (F F' G G' : List Nat) (w : World) (h : RdAg w v x F F') (k : RdAg w u y G G') (hw : ∀ z ∈ x.sealed, z.sk.wide) (kw : ∀ z ∈ y.sealed, z.sk.wide) (hs : x.sealed.length ≤ 140737488355328) (ks : y.sealed.length ≤ 140737488355328) (hl : x.taken.length ≤ 140737488355328) (kl : y.taken.length ≤ 140737488355328) :
    Calls Try.prog 10 #[v, u] w fun e w' => e = .returned (.bool (decide (x = y))) ∧ Below w.heap.size w w' := by
  obtain ⟨a1, n1, c1, a2, n2, c2, rfl, hL, hP, _, _⟩ := h
  obtain ⟨b1, m1, d1, b2, m2, d2, rfl, kL, kP, _, _⟩ := k
  obtain ⟨lx, hlx⟩ : ∃ b, b = x.live := ⟨_, rfl⟩
  obtain ⟨ly, hly⟩ : ∃ b, b = y.live := ⟨_, rfl⟩
  have HLL : Hid (lx = x.live ∧ ly = y.live) := ⟨hlx, hly⟩
  rw [← hlx, ← hly]
  clear hlx hly
  have HX : Hid (RdL itK w a1 n1 x.sealed F ∧ RdP w a2 n2 x.taken F' ∧ n1 ≤ 140737488355328 ∧ n2 ≤ 140737488355328 ∧ ∀ z ∈ x.sealed, z.sk.wide) := ⟨hL, hP, by rw [← hL.length]; exact hs, by rw [← hP.length]; exact hl, hw⟩
  have HY : Hid (RdL itK w b1 m1 y.sealed G ∧ RdP w b2 m2 y.taken G' ∧ m1 ≤ 140737488355328 ∧ m2 ≤ 140737488355328 ∧ ∀ z ∈ y.sealed, z.sk.wide) := ⟨kL, kP, by rw [← kL.length]; exact ks, by rw [← kP.length]; exact kl, kw⟩
  have HT : Hid (Two w #[.int .i64 x.id, .int .i64 x.epoch, .bool lx, .int .i64 x.granted, .slice a1 n1 c1, .slice a2 n2 c2, .int .i64 x.next] #[.int .i64 y.id, .int .i64 y.epoch, .bool ly, .int .i64 y.granted, .slice b1 m1 d1, .slice b2 m2 d2, .int .i64 y.next] 25 ((w.alloc (.cells #[.int .i64 x.id, .int .i64 x.epoch, .bool lx, .int .i64 x.granted, .slice a1 n1 c1, .slice a2 n2 c2, .int .i64 x.next] 25)).alloc (.cells #[.int .i64 y.id, .int .i64 y.epoch, .bool ly, .int .i64 y.granted, .slice b1 m1 d1, .slice b2 m2 d2, .int .i64 y.next] 25))) := Two.made w _ _ _
  clear hL hP kL kP hs hl ks kl hw kw
  go_enter Try.func10, Try.ntmps10
  by_cases h0 : x.id = y.id
  rotate_left
  · have e0 : (x.id != y.id) = true := by simpa using h0
    have HV : Hid (decide (x = y) = false) := dec_false (fun e => h0 (by rw [e]))
    clear h0
    go_wp2
    go_ret
    exact ⟨ret_bool HV.out.symm, HT.out.bel⟩
  have e0 : (x.id != y.id) = false := by simpa using h0
  have H0 : Hid (x.id = y.id) := h0
  clear h0
  by_cases h1 : x.epoch = y.epoch
  rotate_left
  · have e1 : (x.epoch != y.epoch) = true := by simpa using h1
    have HV : Hid (decide (x = y) = false) := dec_false (fun e => h1 (by rw [e]))
    clear h1
    go_wp2
    go_ret
    exact ⟨ret_bool HV.out.symm, HT.out.bel⟩
  have e1 : (x.epoch != y.epoch) = false := by simpa using h1
  have H1 : Hid (x.epoch = y.epoch) := h1
  clear h1
  by_cases h2 : lx = ly
  rotate_left
  · have HV : Hid (decide (x = y) = false) := dec_false (fun e => h2 (by rw [HLL.out.1, HLL.out.2, e]))
    cases lx <;> cases ly
    · exact absurd rfl h2
    · clear h2
      go_wp2
      go_ret
      exact ⟨ret_bool HV.out.symm, HT.out.bel⟩
    · clear h2
      go_wp2
      go_ret
      exact ⟨ret_bool HV.out.symm, HT.out.bel⟩
    · exact absurd rfl h2
  have H2 : Hid (x.live = y.live) := by show _ = _; rw [← HLL.out.1, ← HLL.out.2, h2]
  subst h2
  by_cases h3 : x.granted = y.granted
  rotate_left
  · have e3 : (x.granted != y.granted) = true := by simpa using h3
    have HV : Hid (decide (x = y) = false) := dec_false (fun e => h3 (by rw [e]))
    clear h3
    go_wp2
    go_ret
    exact ⟨ret_bool HV.out.symm, HT.out.bel⟩
  have e3 : (x.granted != y.granted) = false := by simpa using h3
  have H3 : Hid (x.granted = y.granted) := h3
  clear h3
  go_wp2_with fail
  refine (eqItemS_any a1 b1 n1 m1 c1 d1 x.sealed y.sealed F G _ (HX.out.1.below HT.out.bel) (HY.out.1.below HT.out.bel) HX.out.2.2.1 HY.out.2.2.1 HX.out.2.2.2.2 HY.out.2.2.2.2).mono ?_
  rintro e w1 ⟨rfl, hb1⟩
  have HT1 : Hid (Two w #[.int .i64 x.id, .int .i64 x.epoch, .bool lx, .int .i64 x.granted, .slice a1 n1 c1, .slice a2 n2 c2, .int .i64 x.next] #[.int .i64 y.id, .int .i64 y.epoch, .bool lx, .int .i64 y.granted, .slice b1 m1 d1, .slice b2 m2 d2, .int .i64 y.next] 25 w1) := HT.out.below hb1
  obtain ⟨d, hd⟩ : ∃ d, d = decide (x.sealed = y.sealed) := ⟨_, rfl⟩
  rw [← hd]
  have HD : Hid (d = decide (x.sealed = y.sealed)) := hd
  clear hb1 HT hd
  cases d
  · have HV : Hid (decide (x = y) = false) := dec_false (fun e => by have := HD.out.symm; rw [decide_eq_false_iff_not] at this; exact this (by rw [e]))
    go_wp2
    go_ret
    exact ⟨ret_bool HV.out.symm, HT1.out.bel⟩
  have H4 : Hid (x.sealed = y.sealed) := by show x.sealed = y.sealed; exact of_decide_eq_true HD.out.symm
  have p5 := HT1.out.fst.cell 5
  have q5 := HT1.out.snd.cell 5
  simp only [aT, aS, aZ] at p5 q5
  go_wp2_with fail
  clear p5 q5
  refine (eqSpanS_any a2 b2 n2 m2 c2 d2 x.taken y.taken F' G' _ (HX.out.2.1.below HT1.out.bel) (HY.out.2.1.below HT1.out.bel) HX.out.2.2.2.1 HY.out.2.2.2.1).mono ?_
  rintro e w2 ⟨rfl, hb2⟩
  have HT2 : Hid (Two w #[.int .i64 x.id, .int .i64 x.epoch, .bool lx, .int .i64 x.granted, .slice a1 n1 c1, .slice a2 n2 c2, .int .i64 x.next] #[.int .i64 y.id, .int .i64 y.epoch, .bool lx, .int .i64 y.granted, .slice b1 m1 d1, .slice b2 m2 d2, .int .i64 y.next] 25 w2) := HT1.out.below hb2
  obtain ⟨d, hd⟩ : ∃ d, d = decide (x.taken = y.taken) := ⟨_, rfl⟩
  rw [← hd]
  have HD2 : Hid (d = decide (x.taken = y.taken)) := hd
  clear hb2 HT1 hd HD
  cases d
  · have HV : Hid (decide (x = y) = false) := dec_false (fun e => by have := HD2.out.symm; rw [decide_eq_false_iff_not] at this; exact this (by rw [e]))
    go_wp2
    go_ret
    exact ⟨ret_bool HV.out.symm, HT2.out.bel⟩
  have H5 : Hid (x.taken = y.taken) := by show x.taken = y.taken; exact of_decide_eq_true HD2.out.symm
  have p6 := HT2.out.fst.cell 6
  have q6 := HT2.out.snd.cell 6
  simp only [aT, aS, aZ] at p6 q6
  by_cases h6 : x.next = y.next
  rotate_left
  · have e6 : (x.next != y.next) = true := by simpa using h6
    have HV : Hid (decide (x = y) = false) := dec_false (fun e => h6 (by rw [e]))
    clear h6
    go_wp2
    go_ret
    exact ⟨ret_bool HV.out.symm, HT2.out.bel⟩
  have e6 : (x.next != y.next) = false := by simpa using h6
  have HV : Hid (decide (x = y) = true) := dec_true (Ag.eq_of H0.out H1.out H2.out H3.out H4.out H5.out h6)
  clear h6
  go_wp2
  go_ret
  exact ⟨ret_bool HV.out.symm, HT2.out.bel⟩
end Go.Proofs.Ytjndcfamfminkar
