/- The walks through the program's SketchSame. No statement of the seat is proved here. -/
import Derived.Test.YtbmbmnhamogghapSkSame
import Derived.Test.YtbmbmnhamogghapTallyC
import Derived.Test.YtbmbmnhamogghapTallyMath
import Derived.Test.YtbmbmnhamogghapTallyS
import Derived.Test.YtbmbmnhamogghapSkLaw
namespace Go.Proofs.Ytbmbmnhamogghap
open Go.RowKit
def numsEq (s t : Sk) : Bool := decide (s.count = t.count ∧ s.sum = t.sum ∧ s.min = t.min ∧ s.max = t.max)
set_option maxRecDepth 200000 in
set_option maxHeartbeats 1000000 in
theorem sameNumbers_any (v u : Value) (s t : Sk) (F G : List Nat) (w : World) (h : RdSk w v s F) (k : RdSk w u t G) :
    Calls Try.prog 102 #[v, u] w fun e w' => e = .returned (.bool (numsEq s t)) ∧ Below w.heap.size w w' := by
  obtain ⟨a1, n1, c1, a2, n2, c2, a3, n3, c3, F1, F2, F3, rfl, _⟩ := h
  obtain ⟨b1, m1, d1, b2, m2, d2, b3, m3, d3, G1, G2, G3, rfl, _⟩ := k
  have HT : Hid (_ ∧ _ ∧ _) := two_made w #[.int .i64 s.count, .int .i64 s.sum, .int .i64 s.min, .int .i64 s.max, .slice a1 n1 c1, .slice a2 n2 c2, .slice a3 n3 c3] #[.int .i64 t.count, .int .i64 t.sum, .int .i64 t.min, .int .i64 t.max, .slice b1 m1 d1, .slice b2 m2 d2, .slice b3 m3 d3] 32 32
  obtain ⟨d, hd⟩ : ∃ d, d = numsEq s t := ⟨_, rfl⟩
  rw [← hd]
  have HD : Hid (d = decide (s.count = t.count ∧ s.sum = t.sum ∧ s.min = t.min ∧ s.max = t.max)) := hd
  clear hd
  go_enter Try.func102, Try.ntmps102
  by_cases q1 : s.count = t.count
  rotate_left
  · have q' : (s.count == t.count) = false := by simpa using q1
    have HN : Hid (d = false) := by show d = _; rw [HD.out]; exact dec_false (fun e => q1 e.1)
    clear q1
    go_wp2
    go_ret
    exact ⟨ret_bool HN.out.symm, HT.out.2.2⟩
  have Q1 : Hid (s.count = t.count) := q1
  have q1' : (s.count == t.count) = true := by simpa using q1
  clear q1
  by_cases q2 : s.sum = t.sum
  rotate_left
  · have q' : (s.sum == t.sum) = false := by simpa using q2
    have HN : Hid (d = false) := by show d = _; rw [HD.out]; exact dec_false (fun e => q2 e.2.1)
    clear q2
    go_wp2
    go_ret
    exact ⟨ret_bool HN.out.symm, HT.out.2.2⟩
  have Q2 : Hid (s.sum = t.sum) := q2
  have q2' : (s.sum == t.sum) = true := by simpa using q2
  clear q2
  by_cases q3 : s.min = t.min
  rotate_left
  · have q' : (s.min == t.min) = false := by simpa using q3
    have HN : Hid (d = false) := by show d = _; rw [HD.out]; exact dec_false (fun e => q3 e.2.2.1)
    clear q3
    go_wp2
    go_ret
    exact ⟨ret_bool HN.out.symm, HT.out.2.2⟩
  have Q3 : Hid (s.min = t.min) := q3
  have q3' : (s.min == t.min) = true := by simpa using q3
  clear q3
  by_cases q4 : s.max = t.max
  rotate_left
  · have q' : (s.max == t.max) = false := by simpa using q4
    have HN : Hid (d = false) := by show d = _; rw [HD.out]; exact dec_false (fun e => q4 e.2.2.2)
    clear q4
    go_wp2
    go_ret
    exact ⟨ret_bool HN.out.symm, HT.out.2.2⟩
  have Q4 : Hid (s.max = t.max) := q4
  have q4' : (s.max == t.max) = true := by simpa using q4
  clear q4
  have HN : Hid (d = true) := by show d = _; rw [HD.out]; exact dec_true ⟨Q1.out, Q2.out, Q3.out, Q4.out⟩
  go_wp2
  go_ret
  exact ⟨ret_bool HN.out.symm, HT.out.2.2⟩
set_option maxRecDepth 200000 in
set_option maxHeartbeats 2000000 in
theorem eqFunc_any (a b : Option Addr) (la lb ca cb : Nat) (xs ys : List (List Int)) (F G : List Nat) (w : World) (ha : RdII w a la xs F) (hb : RdII w b lb ys G) (hla : la ≤ 140737488355328) (hlb : lb ≤ 140737488355328)
    (hxr : ∀ z ∈ xs, z.length ≤ 140737488355328) (hyr : ∀ z ∈ ys, z.length ≤ 140737488355328) :
    Calls Try.prog 116 #[.slice a la ca, .slice b lb cb, .func (.func 115) #[] #[]] w fun e w' => e = .returned (.bool (decide (xs = ys))) ∧ Below w.heap.size w w' := by
  have Hx : Hid (xs.length = la) := ha.length
  have Hy : Hid (ys.length = lb) := hb.length
  have Hxr : Hid (∀ z ∈ xs, z.length ≤ 140737488355328) := hxr
  have Hyr : Hid (∀ z ∈ ys, z.length ≤ 140737488355328) := hyr
  clear hxr hyr
  by_cases hl : la = lb
  · subst hl
    have hbne : ((la : Int) != (la : Int)) = false := by simp
    by_cases h0 : la = 0
    · subst h0
      have ex : xs = [] := List.eq_nil_of_length_eq_zero ha.length
      have ey : ys = [] := List.eq_nil_of_length_eq_zero hb.length
      clear ha hb
      go_enter Try.func116, Try.ntmps116
      go_wp2
      refine wp_loop_rounds 1 ?_
      rw [rounds_succ]
      go_wp2
      go_ret
      exact ⟨ret_bool (by rw [ex, ey]; rfl), Below.refl _ _⟩
    · obtain ⟨b1, o1, F1, rfl, hm1⟩ : ∃ b off F', a = some ⟨b, off, none⟩ ∧ RdM w (xs.map ints) b off F' := by
        rcases ha.cells with h | ⟨b, off, F', _, h1, _, h2⟩
        · exact absurd h.1 h0
        · exact ⟨b, off, F', h1, h2⟩
      obtain ⟨b2, o2, F2, rfl, hm2⟩ : ∃ b' off F', b = some ⟨b', off, none⟩ ∧ RdM w (ys.map ints) b' off F' := by
        rcases hb.cells with h | ⟨b, off, F', _, h1, _, h2⟩
        · exact absurd h.1 h0
        · exact ⟨b, off, F', h1, h2⟩
      have HM1 : Hid (RdM w (xs.map ints) b1 o1 F1) := hm1
      have HM2 : Hid (RdM w (ys.map ints) b2 o2 F2) := hm2
      clear ha hb hm1 hm2
      go_enter Try.func116, Try.ntmps116
      go_wp2
      go_loopw [17] (fun i wr => ∃ k : Nat, k ≤ la ∧ i = .int .i64 k ∧ Hid (xs.take k = ys.take k) ∧ Hid (Below w.heap.size w wr)) (fun i _ => la - (intOf i).toNat)
      case atStart => exact ⟨0, by omega, rfl, rfl, Below.refl _ _⟩
      case round =>
        obtain ⟨k, hk, rfl, HT, HB⟩ := hrel
        by_cases hlt : k < la
        · obtain ⟨a1, n1, c1, G1, hc1, hr1, _⟩ := RdII.row HM1.out Hx.out k hlt
          obtain ⟨a2, n2, c2, G2, hc2, hr2, _⟩ := RdII.row HM2.out Hy.out k hlt
          have hb1 : b1 < w.heap.size := World.block_lt_of_cell? _ _ hc1
          have hb2 : b2 < w.heap.size := World.block_lt_of_cell? _ _ hc2
          have d1 : wr.cell? ⟨b1, o1 + k, none⟩ = some (.slice a1 n1 c1) := (HB.out.cell (by exact hb1)).trans hc1
          have d2 : wr.cell? ⟨b2, o2 + k, none⟩ = some (.slice a2 n2 c2) := (HB.out.cell (by exact hb2)).trans hc2
          have HQ : Hid (RdI w a1 n1 (xs.getD k []) G1 ∧ RdI w a2 n2 (ys.getD k []) G2 ∧ n1 ≤ 140737488355328 ∧ n2 ≤ 140737488355328) := ⟨hr1, hr2, by rw [← hr1.length]; exact Hxr.out _ (mem_getD (by rw [Hx.out]; exact hlt)), by rw [← hr2.length]; exact Hyr.out _ (mem_getD (by rw [Hy.out]; exact hlt))⟩
          clear hr1 hr2 hc1 hc2
          go_wp2_with fail
          refine (slEqual_any a1 a2 n1 n2 c1 c2 _ _ G1 G2 _ (HQ.out.1.below HB.out) (HQ.out.2.1.below HB.out) HQ.out.2.2.1 HQ.out.2.2.2).mono ?_
          rintro e w1 ⟨rfl, hbz⟩
          have HB1 : Hid (Below w.heap.size w w1) := Below.next HB.out hbz
          clear hbz
          cases ee : decide (xs.getD k [] = ys.getD k [])
          · have HE : Hid (¬ xs.getD k [] = ys.getD k []) := (show ¬ xs.getD k [] = ys.getD k [] from of_decide_eq_false ee)
            clear ee
            go_wp2
            go_ret
            exact ⟨ret_bool (neII_of_at HE.out).symm, HB1.out⟩
          · have HE : Hid (xs.take (k + 1) = ys.take (k + 1)) := eqII_step (by rw [Hx.out, Hy.out]) (by rw [Hx.out]; exact hlt) HT.out (of_decide_eq_true ee)
            clear ee
            go_wp2
            go_roundw
            case rel => exact ⟨k + 1, by omega, by go_num, HE, HB1⟩
            case measure => simp [intOf]; omega
        · obtain rfl : k = la := by omega
          go_wp2
          go_ret
          exact ⟨ret_bool (eqII_end Hx.out Hy.out HT.out).symm, HB.out⟩
  · have hbne : ((la : Int) != (lb : Int)) = true := by simp; omega
    have e : decide (xs = ys) = false := by
      rw [decide_eq_false_iff_not]; intro e; subst e; exact hl (Hx.out.symm.trans Hy.out)
    clear ha hb
    go_enter Try.func116, Try.ntmps116
    go_wp2
    go_ret
    exact ⟨ret_bool e.symm, Below.refl _ _⟩
def listsEq (s t : Sk) : Bool := decide (s.hist = t.hist ∧ s.regs = t.regs ∧ s.rows = t.rows)
set_option maxRecDepth 200000 in
set_option maxHeartbeats 2000000 in
theorem sameLists_any (v u : Value) (s t : Sk) (F G : List Nat) (w : World) (h : RdSk w v s F) (k : RdSk w u t G) (hw : s.wide) (kw : t.wide) :
    Calls Try.prog 103 #[v, u] w fun e w' => e = .returned (.bool (listsEq s t)) ∧ Below w.heap.size w w' := by
  obtain ⟨a1, n1, c1, a2, n2, c2, a3, n3, c3, F1, F2, F3, rfl, h1, h2, h3, _⟩ := h
  obtain ⟨b1, m1, d1, b2, m2, d2, b3, m3, d3, G1, G2, G3, rfl, k1, k2, k3, _⟩ := k
  have H1 : Hid (RdI w a1 n1 s.hist F1 ∧ RdI w b1 m1 t.hist G1 ∧ n1 ≤ 140737488355328 ∧ m1 ≤ 140737488355328) := ⟨h1, k1, by rw [← h1.length]; exact hw.hist, by rw [← k1.length]; exact kw.hist⟩
  have H2 : Hid (RdI w a2 n2 s.regs F2 ∧ RdI w b2 m2 t.regs G2 ∧ n2 ≤ 140737488355328 ∧ m2 ≤ 140737488355328) := ⟨h2, k2, by rw [← h2.length]; exact hw.regs, by rw [← k2.length]; exact kw.regs⟩
  have H3 : Hid (RdII w a3 n3 s.rows F3 ∧ RdII w b3 m3 t.rows G3 ∧ n3 ≤ 140737488355328 ∧ m3 ≤ 140737488355328) := ⟨h3, k3, by rw [← h3.length]; exact hw.rows, by rw [← k3.length]; exact kw.rows⟩
  have hn3 : n3 ≤ 140737488355328 := H3.out.2.2.1
  have hm3 : m3 ≤ 140737488355328 := H3.out.2.2.2
  have HW : Hid (s.wide ∧ t.wide) := ⟨hw, kw⟩
  clear h1 h2 h3 k1 k2 k3 hw kw
  have HT : Hid (_ ∧ _ ∧ _) := two_made w #[.int .i64 s.count, .int .i64 s.sum, .int .i64 s.min, .int .i64 s.max, .slice a1 n1 c1, .slice a2 n2 c2, .slice a3 n3 c3] #[.int .i64 t.count, .int .i64 t.sum, .int .i64 t.min, .int .i64 t.max, .slice b1 m1 d1, .slice b2 m2 d2, .slice b3 m3 d3] 32 32
  obtain ⟨d, hd⟩ : ∃ d, d = listsEq s t := ⟨_, rfl⟩
  rw [← hd]
  have HD : Hid (d = decide (s.hist = t.hist ∧ s.regs = t.regs ∧ s.rows = t.rows)) := hd
  clear hd
  go_enter Try.func103, Try.ntmps103
  go_wp2_with fail
  refine (slEqual_any a1 b1 n1 m1 c1 d1 s.hist t.hist F1 G1 _ (H1.out.1.below HT.out.2.2) (H1.out.2.1.below HT.out.2.2) H1.out.2.2.1 H1.out.2.2.2).mono ?_
  rintro e w1 ⟨rfl, hb1⟩
  have HB1 : Hid (Boxes w #[.int .i64 s.count, .int .i64 s.sum, .int .i64 s.min, .int .i64 s.max, .slice a1 n1 c1, .slice a2 n2 c2, .slice a3 n3 c3] #[.int .i64 t.count, .int .i64 t.sum, .int .i64 t.min, .int .i64 t.max, .slice b1 m1 d1, .slice b2 m2 d2, .slice b3 m3 d3] 32 w1) := ⟨HT.out.1.below hb1, HT.out.2.1.below hb1, Below.next HT.out.2.2 hb1⟩
  clear hb1 HT
  cases e5 : decide (s.hist = t.hist)
  · have HN : Hid (d = false) := by show d = _; rw [HD.out]; exact dec_false (fun e => by rw [e.1] at e5; simp at e5)
    clear e5
    go_wp2
    go_ret
    exact ⟨ret_bool HN.out.symm, HB1.out.bel⟩
  have Q5 : Hid (s.hist = t.hist) := (show s.hist = t.hist from of_decide_eq_true e5)
  clear e5
  have x5 := HB1.out.fst.cell 5
  have y5 := HB1.out.snd.cell 5
  simp only [List.getElem?_toArray, List.getElem?_cons_succ, List.getElem?_cons_zero] at x5 y5
  go_wp2_with fail
  refine (slEqual_any a2 b2 n2 m2 c2 d2 s.regs t.regs F2 G2 _ (H2.out.1.below HB1.out.bel) (H2.out.2.1.below HB1.out.bel) H2.out.2.2.1 H2.out.2.2.2).mono ?_
  rintro e w2 ⟨rfl, hb2⟩
  have HB2 : Hid (Boxes w #[.int .i64 s.count, .int .i64 s.sum, .int .i64 s.min, .int .i64 s.max, .slice a1 n1 c1, .slice a2 n2 c2, .slice a3 n3 c3] #[.int .i64 t.count, .int .i64 t.sum, .int .i64 t.min, .int .i64 t.max, .slice b1 m1 d1, .slice b2 m2 d2, .slice b3 m3 d3] 32 w2) := HB1.out.below hb2
  clear hb2 x5 y5 HB1
  cases e6 : decide (s.regs = t.regs)
  · have HN : Hid (d = false) := by show d = _; rw [HD.out]; exact dec_false (fun e => by rw [e.2.1] at e6; simp at e6)
    clear e6
    go_wp2
    go_ret
    exact ⟨ret_bool HN.out.symm, HB2.out.bel⟩
  have Q6 : Hid (s.regs = t.regs) := (show s.regs = t.regs from of_decide_eq_true e6)
  clear e6
  have x6 := HB2.out.fst.cell 6
  have y6 := HB2.out.snd.cell 6
  simp only [List.getElem?_toArray, List.getElem?_cons_succ, List.getElem?_cons_zero] at x6 y6
  go_wp2_with fail
  refine (eqFunc_any a3 b3 n3 m3 c3 d3 s.rows t.rows F3 G3 _ (H3.out.1.below HB2.out.bel) (H3.out.2.1.below HB2.out.bel) hn3 hm3 HW.out.1.row HW.out.2.row).mono ?_
  rintro e w3 ⟨rfl, hb3⟩
  have HB3 : Hid (Below w.heap.size w w3) := Below.next HB2.out.bel hb3
  clear hb3 x6 y6
  obtain ⟨d3', hd3⟩ : ∃ d, d = decide (s.rows = t.rows) := ⟨_, rfl⟩
  rw [← hd3]
  have HN : Hid (d = d3') := by
    show d = _
    rw [HD.out, hd3]
    by_cases e : s.rows = t.rows
    · rw [dec_true e, dec_true ⟨Q5.out, Q6.out, e⟩]
    · rw [dec_false e, dec_false (fun x => e x.2.2)]
  clear hd3
  go_wp2
  go_ret
  exact ⟨ret_bool HN.out.symm, HB3.out⟩
theorem sk_tl {s : Sk} (h : s.shaped = true) : skOf s.tl = s := by
  obtain ⟨h0, h1, h2, h3, h4, h5, h6, h7, r0, r1, r2, r3, r4, r5, r6, r7, p0, p1, p2, p3, q0, q1, q2, q3, e⟩ := Sk.written h
  clear h
  generalize s.count = c at e
  generalize s.sum = sm at e
  generalize s.min = mn at e
  generalize s.max = mx at e
  subst e
  rfl
theorem tl_inj {s t : Sk} (hs : s.shaped = true) (ht : t.shaped = true) : decide (s.tl = t.tl) = decide (s = t) := by
  by_cases e : s = t
  · subst e; simp
  · rw [dec_false e]
    exact dec_false (fun x => e (by rw [← sk_tl hs, ← sk_tl ht, x]))
set_option maxRecDepth 200000 in
set_option maxHeartbeats 4000000 in
theorem sameImpl_any (v u : Value) (s t : Sk) (F G : List Nat) (w : World) (h : RdSk w v s F) (k : RdSk w u t G) (hw : s.wide) (kw : t.wide) :
    Calls Try.prog 65 #[v, u] w fun e w' => e = .returned (.bool (decide (s = t))) ∧ Below w.heap.size w w' := by
  have HH : Hid (RdSk w v s F ∧ RdSk w u t G ∧ s.wide ∧ t.wide) := ⟨h, k, hw, kw⟩
  obtain ⟨cs, rfl, hc7, hc1⟩ := h.cells
  obtain ⟨ds, rfl, hd7, hd1⟩ := k.cells
  have HC : Hid (cs.size = 7 ∧ ds.size = 7) := ⟨hc7, hd7⟩
  have HT : Hid (_ ∧ _ ∧ _) := two_made w cs ds 32 32
  obtain ⟨d, hd⟩ : ∃ d, d = decide (s = t) := ⟨_, rfl⟩
  rw [← hd]
  have HD : Hid (d = decide (s = t)) := hd
  clear h k hw kw hc7 hc1 hd7 hd1 hd
  go_enter Try.func65, Try.ntmps65
  go_wp2_with (first | go_skip | (with_reducible refine stopLoad 32 rfl ?_) | (with_reducible refine stopLoad 75 rfl ?_) | (with_reducible refine stopStore 75 rfl ?_))
  refine load_any 32 w.heap.size cs 32 _ HT.out.1 rfl rfl rfl Try.underlying32 rfl (skSize HC.out.1) ?_
  go_wp2_with fail
  refine (tallyOf_any _ s F _ (HH.out.1.below HT.out.2.2) HH.out.2.2.1).mono ?_
  rintro e w1 ⟨xs, rfl, xl, xe, b1⟩
  have HX : Hid (xs.length = 28 ∧ (s.shaped = true → xs = s.tl)) := ⟨xl, xe⟩
  have HW1 : Hid (Boxes w cs ds 32 w1) := ⟨HT.out.1.below b1, HT.out.2.1.below b1, Below.next HT.out.2.2 b1⟩
  clear xl xe b1 HT
  go_wp2_with (first | go_skip | (with_reducible refine stopLoad 32 rfl ?_) | (with_reducible refine stopLoad 75 rfl ?_) | (with_reducible refine stopStore 75 rfl ?_))
  refine store_fresh 75 w1.heap.size rfl (tc (List.replicate 28 0)) (tc xs) 75 rfl rfl rfl rfl (tallySize HX.out.1) (by rw [tc_size, tc_size, HX.out.1]; rfl) (tc_one _) ?_
  intro W2 hg2 b2
  have HW2 : Hid (Boxes w cs ds 32 W2 ∧ Blk W2 w1.heap.size (tc xs) 75) := ⟨HW1.out.below b2, hg2⟩
  clear hg2 b2 HW1
  go_wp2_with (first | go_skip | (with_reducible refine stopLoad 32 rfl ?_) | (with_reducible refine stopLoad 75 rfl ?_) | (with_reducible refine stopStore 75 rfl ?_))
  refine load_any 32 (w.heap.size + 1) ds 32 _ HW2.out.1.snd rfl rfl rfl Try.underlying32 rfl (skSize HC.out.2) ?_
  go_wp2_with fail
  refine (tallyOf_any _ t G _ (HH.out.2.1.below HW2.out.1.bel) HH.out.2.2.2).mono ?_
  rintro e w3 ⟨ys, rfl, xl, xe, b3⟩
  have HY : Hid (ys.length = 28 ∧ (t.shaped = true → ys = t.tl)) := ⟨xl, xe⟩
  have HW3 : Hid (Boxes w cs ds 32 w3 ∧ Blk w3 w1.heap.size (tc xs) 75) := ⟨HW2.out.1.below b3, HW2.out.2.below b3⟩
  clear xl xe b3 HW2
  go_wp2_with (first | go_skip | (with_reducible refine stopLoad 32 rfl ?_) | (with_reducible refine stopLoad 75 rfl ?_) | (with_reducible refine stopStore 75 rfl ?_))
  refine store_fresh 75 w3.heap.size rfl (tc (List.replicate 28 0)) (tc ys) 75 rfl rfl rfl rfl (tallySize HY.out.1) (by rw [tc_size, tc_size, HY.out.1]; rfl) (tc_one _) ?_
  intro W4 hg4 b4
  have HW4 : Hid (Boxes w cs ds 32 W4 ∧ Blk W4 w1.heap.size (tc xs) 75 ∧ Blk W4 w3.heap.size (tc ys) 75) := ⟨HW3.out.1.below b4, HW3.out.2.below b4, hg4⟩
  clear hg4 b4 HW3
  by_cases both : s.shaped = true ∧ t.shaped = true
  · have HE : Hid (d = decide (xs = ys)) := by show d = _; rw [HD.out, HX.out.2 both.1, HY.out.2 both.2]; exact (tl_inj both.1 both.2).symm
    obtain ⟨sa, sb⟩ := both
    rw [sa, sb]
    clear sa sb
    go_wp2_with (first | go_skip | (with_reducible refine stopLoad 32 rfl ?_) | (with_reducible refine stopLoad 75 rfl ?_) | (with_reducible refine stopStore 75 rfl ?_))
    refine load_any 75 w1.heap.size (tc xs) 75 _ HW4.out.2.1 rfl rfl rfl Try.underlying75 rfl (tallySize HX.out.1) ?_
    go_wp2_with (first | go_skip | (with_reducible refine stopLoad 32 rfl ?_) | (with_reducible refine stopLoad 75 rfl ?_) | (with_reducible refine stopStore 75 rfl ?_))
    refine load_any 75 w3.heap.size (tc ys) 75 _ HW4.out.2.2 rfl rfl rfl Try.underlying75 rfl (tallySize HY.out.1) ?_
    go_wp2_with fail
    refine (same_any xs ys _ HX.out.1 HY.out.1).mono ?_
    rintro e w5 ⟨rfl, b5⟩
    have HB5 : Hid (Below w.heap.size w w5) := Below.next HW4.out.1.bel b5
    rw [← HE.out]
    clear b5
    go_wp2
    go_ret
    exact ⟨rfl, HB5.out⟩
  · have hb : (s.shaped && t.shaped) = false := by
      cases e1 : s.shaped
      · rfl
      · cases e2 : t.shaped
        · rfl
        · exact absurd ⟨e1, e2⟩ both
    have rest : ∀ W (_ : W = W4), True := fun _ _ => trivial
    clear both rest
    cases sa : s.shaped
    · clear hb
      go_wp2_with (first | go_skip | (with_reducible refine stopLoad 32 rfl ?_) | (with_reducible refine stopLoad 75 rfl ?_) | (with_reducible refine stopStore 75 rfl ?_))
      refine load_any 32 w.heap.size cs 32 _ HW4.out.1.fst rfl rfl rfl Try.underlying32 rfl (skSize HC.out.1) ?_
      go_wp2_with (first | go_skip | (with_reducible refine stopLoad 32 rfl ?_) | (with_reducible refine stopLoad 75 rfl ?_) | (with_reducible refine stopStore 75 rfl ?_))
      refine load_any 32 (w.heap.size + 1) ds 32 _ HW4.out.1.snd rfl rfl rfl Try.underlying32 rfl (skSize HC.out.2) ?_
      go_wp2_with fail
      refine (sameNumbers_any _ _ s t F G _ (HH.out.1.below HW4.out.1.bel) (HH.out.2.1.below HW4.out.1.bel)).mono ?_
      rintro e w5 ⟨rfl, b5⟩
      have HB5 : Hid (Boxes w cs ds 32 w5) := HW4.out.1.below b5
      clear b5
      cases en : numsEq s t
      · have HN : Hid (d = false) := by show d = _; rw [HD.out]; exact dec_false (fun e => by rw [e] at en; simp [numsEq] at en)
        clear en
        go_wp2
        go_ret
        exact ⟨ret_bool HN.out.symm, HB5.out.bel⟩
      have HN1 : Hid (s.count = t.count ∧ s.sum = t.sum ∧ s.min = t.min ∧ s.max = t.max) := (show s.count = t.count ∧ s.sum = t.sum ∧ s.min = t.min ∧ s.max = t.max from of_decide_eq_true en)
      clear en
      go_wp2_with (first | go_skip | (with_reducible refine stopLoad 32 rfl ?_) | (with_reducible refine stopLoad 75 rfl ?_) | (with_reducible refine stopStore 75 rfl ?_))
      refine load_any 32 w.heap.size cs 32 _ HB5.out.fst rfl rfl rfl Try.underlying32 rfl (skSize HC.out.1) ?_
      go_wp2_with (first | go_skip | (with_reducible refine stopLoad 32 rfl ?_) | (with_reducible refine stopLoad 75 rfl ?_) | (with_reducible refine stopStore 75 rfl ?_))
      refine load_any 32 (w.heap.size + 1) ds 32 _ HB5.out.snd rfl rfl rfl Try.underlying32 rfl (skSize HC.out.2) ?_
      go_wp2_with fail
      refine (sameLists_any _ _ s t F G _ (HH.out.1.below HB5.out.bel) (HH.out.2.1.below HB5.out.bel) HH.out.2.2.1 HH.out.2.2.2).mono ?_
      rintro e w6 ⟨rfl, b6⟩
      have HB6 : Hid (Below w.heap.size w w6) := Below.next HB5.out.bel b6
      clear b6
      obtain ⟨dl, hdl⟩ : ∃ d, d = listsEq s t := ⟨_, rfl⟩
      rw [← hdl]
      have HN : Hid (d = dl) := by
        show d = _
        rw [HD.out, hdl]
        unfold listsEq
        by_cases e : s.hist = t.hist ∧ s.regs = t.regs ∧ s.rows = t.rows
        · rw [dec_true e, dec_true (Sk.eq_of HN1.out.1 HN1.out.2.1 HN1.out.2.2.1 HN1.out.2.2.2 e.1 e.2.1 e.2.2)]
        · rw [dec_false e]; exact dec_false (fun x => e (by rw [x]; exact ⟨rfl, rfl, rfl⟩))
      clear hdl
      go_wp2
      go_ret
      exact ⟨ret_bool HN.out.symm, HB6.out⟩
    · rw [sa] at hb
      have sb : t.shaped = false := by simpa using hb
      rw [sb]
      clear hb sa sb
      go_wp2_with (first | go_skip | (with_reducible refine stopLoad 32 rfl ?_) | (with_reducible refine stopLoad 75 rfl ?_) | (with_reducible refine stopStore 75 rfl ?_))
      refine load_any 32 w.heap.size cs 32 _ HW4.out.1.fst rfl rfl rfl Try.underlying32 rfl (skSize HC.out.1) ?_
      go_wp2_with (first | go_skip | (with_reducible refine stopLoad 32 rfl ?_) | (with_reducible refine stopLoad 75 rfl ?_) | (with_reducible refine stopStore 75 rfl ?_))
      refine load_any 32 (w.heap.size + 1) ds 32 _ HW4.out.1.snd rfl rfl rfl Try.underlying32 rfl (skSize HC.out.2) ?_
      go_wp2_with fail
      refine (sameNumbers_any _ _ s t F G _ (HH.out.1.below HW4.out.1.bel) (HH.out.2.1.below HW4.out.1.bel)).mono ?_
      rintro e w5 ⟨rfl, b5⟩
      have HB5 : Hid (Boxes w cs ds 32 w5) := HW4.out.1.below b5
      clear b5
      cases en : numsEq s t
      · have HN : Hid (d = false) := by show d = _; rw [HD.out]; exact dec_false (fun e => by rw [e] at en; simp [numsEq] at en)
        clear en
        go_wp2
        go_ret
        exact ⟨ret_bool HN.out.symm, HB5.out.bel⟩
      have HN1 : Hid (s.count = t.count ∧ s.sum = t.sum ∧ s.min = t.min ∧ s.max = t.max) := (show s.count = t.count ∧ s.sum = t.sum ∧ s.min = t.min ∧ s.max = t.max from of_decide_eq_true en)
      clear en
      go_wp2_with (first | go_skip | (with_reducible refine stopLoad 32 rfl ?_) | (with_reducible refine stopLoad 75 rfl ?_) | (with_reducible refine stopStore 75 rfl ?_))
      refine load_any 32 w.heap.size cs 32 _ HB5.out.fst rfl rfl rfl Try.underlying32 rfl (skSize HC.out.1) ?_
      go_wp2_with (first | go_skip | (with_reducible refine stopLoad 32 rfl ?_) | (with_reducible refine stopLoad 75 rfl ?_) | (with_reducible refine stopStore 75 rfl ?_))
      refine load_any 32 (w.heap.size + 1) ds 32 _ HB5.out.snd rfl rfl rfl Try.underlying32 rfl (skSize HC.out.2) ?_
      go_wp2_with fail
      refine (sameLists_any _ _ s t F G _ (HH.out.1.below HB5.out.bel) (HH.out.2.1.below HB5.out.bel) HH.out.2.2.1 HH.out.2.2.2).mono ?_
      rintro e w6 ⟨rfl, b6⟩
      have HB6 : Hid (Below w.heap.size w w6) := Below.next HB5.out.bel b6
      clear b6
      obtain ⟨dl, hdl⟩ : ∃ d, d = listsEq s t := ⟨_, rfl⟩
      rw [← hdl]
      have HN : Hid (d = dl) := by
        show d = _
        rw [HD.out, hdl]
        unfold listsEq
        by_cases e : s.hist = t.hist ∧ s.regs = t.regs ∧ s.rows = t.rows
        · rw [dec_true e, dec_true (Sk.eq_of HN1.out.1 HN1.out.2.1 HN1.out.2.2.1 HN1.out.2.2.2 e.1 e.2.1 e.2.2)]
        · rw [dec_false e]; exact dec_false (fun x => e (by rw [x]; exact ⟨rfl, rfl, rfl⟩))
      clear hdl
      go_wp2
      go_ret
      exact ⟨ret_bool HN.out.symm, HB6.out⟩
end Go.Proofs.Ytbmbmnhamogghap
