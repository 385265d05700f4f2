/- Several texts of mine, laid together. No statement of the seat is proved here. -/
import Derived.Test.YtjndcfamfminkabB2
import Derived.Test.YtjndcfamfminkabTallyC
import Derived.Test.YtjndcfamfminkabB1
import Derived.Test.YtjndcfamfminkabTallyS
import Derived.Test.YtjndcfamfminkabSkLaw
import Derived.Test.YtjndcfamfminkabItModel
import Derived.Test.YtjndcfamfminkabFrModel
import Derived.Lib.SlBytesConst
import Derived.ArgAppend
import Derived.Deep.RegionLawGrows
import Derived.WalkMore
import Derived.ScopeJumps
/- The walks through the program's SketchSame. No statement of the seat is proved here. -/
namespace Go.Proofs.Ytjndcfamfminkab
open Go.RowKit
def numsEq (s t : Sk) : Bool := decide (s.count = t.count ∧ s.sum = t.sum ∧ s.min = t.min ∧ s.max = t.max)
set_option maxRecDepth 200000 in
set_option maxHeartbeats 1000000 in
theorem sameNumbers_any (v u : Value) (s t : Sk) (F G : List Nat) (w : World) (h : RdSk w v s F) (k : RdSk w u t G) :
    Calls Try.prog 68 #[v, u] w fun e w' => e = .returned (.bool (numsEq s t)) ∧ Below w.heap.size w w' := by
  obtain ⟨a1, n1, c1, a2, n2, c2, a3, n3, c3, F1, F2, F3, rfl, _⟩ := h
  obtain ⟨b1, m1, d1, b2, m2, d2, b3, m3, d3, G1, G2, G3, rfl, _⟩ := k
  have HT : Hid (_ ∧ _ ∧ _) := two_made w #[.int .i64 s.count, .int .i64 s.sum, .int .i64 s.min, .int .i64 s.max, .slice a1 n1 c1, .slice a2 n2 c2, .slice a3 n3 c3] #[.int .i64 t.count, .int .i64 t.sum, .int .i64 t.min, .int .i64 t.max, .slice b1 m1 d1, .slice b2 m2 d2, .slice b3 m3 d3] 28 28
  obtain ⟨d, hd⟩ : ∃ d, d = numsEq s t := ⟨_, rfl⟩
  rw [← hd]
  have HD : Hid (d = decide (s.count = t.count ∧ s.sum = t.sum ∧ s.min = t.min ∧ s.max = t.max)) := hd
  clear hd
  go_enter Try.func68, Try.ntmps68
  by_cases q1 : s.count = t.count
  rotate_left
  · have q' : (s.count == t.count) = false := by simpa using q1
    have HN : Hid (d = false) := by show d = _; rw [HD.out]; exact dec_false (fun e => q1 e.1)
    clear q1
    go_wp2
    go_ret
    exact ⟨ret_bool HN.out.symm, HT.out.2.2⟩
  have Q1 : Hid (s.count = t.count) := q1
  have q1' : (s.count == t.count) = true := by simpa using q1
  clear q1
  by_cases q2 : s.sum = t.sum
  rotate_left
  · have q' : (s.sum == t.sum) = false := by simpa using q2
    have HN : Hid (d = false) := by show d = _; rw [HD.out]; exact dec_false (fun e => q2 e.2.1)
    clear q2
    go_wp2
    go_ret
    exact ⟨ret_bool HN.out.symm, HT.out.2.2⟩
  have Q2 : Hid (s.sum = t.sum) := q2
  have q2' : (s.sum == t.sum) = true := by simpa using q2
  clear q2
  by_cases q3 : s.min = t.min
  rotate_left
  · have q' : (s.min == t.min) = false := by simpa using q3
    have HN : Hid (d = false) := by show d = _; rw [HD.out]; exact dec_false (fun e => q3 e.2.2.1)
    clear q3
    go_wp2
    go_ret
    exact ⟨ret_bool HN.out.symm, HT.out.2.2⟩
  have Q3 : Hid (s.min = t.min) := q3
  have q3' : (s.min == t.min) = true := by simpa using q3
  clear q3
  by_cases q4 : s.max = t.max
  rotate_left
  · have q' : (s.max == t.max) = false := by simpa using q4
    have HN : Hid (d = false) := by show d = _; rw [HD.out]; exact dec_false (fun e => q4 e.2.2.2)
    clear q4
    go_wp2
    go_ret
    exact ⟨ret_bool HN.out.symm, HT.out.2.2⟩
  have Q4 : Hid (s.max = t.max) := q4
  have q4' : (s.max == t.max) = true := by simpa using q4
  clear q4
  have HN : Hid (d = true) := by show d = _; rw [HD.out]; exact dec_true ⟨Q1.out, Q2.out, Q3.out, Q4.out⟩
  go_wp2
  go_ret
  exact ⟨ret_bool HN.out.symm, HT.out.2.2⟩
set_option maxRecDepth 200000 in
set_option maxHeartbeats 2000000 in
theorem eqFunc_any (a b : Option Addr) (la lb ca cb : Nat) (xs ys : List (List Int)) (F G : List Nat) (w : World) (ha : RdII w a la xs F) (hb : RdII w b lb ys G) (hla : la ≤ 140737488355328) (hlb : lb ≤ 140737488355328)
    (hxr : ∀ z ∈ xs, z.length ≤ 140737488355328) (hyr : ∀ z ∈ ys, z.length ≤ 140737488355328) :
    Calls Try.prog 114 #[.slice a la ca, .slice b lb cb, .func (.func 113) #[] #[]] w fun e w' => e = .returned (.bool (decide (xs = ys))) ∧ Below w.heap.size w w' := by
  have Hx : Hid (xs.length = la) := ha.length
  have Hy : Hid (ys.length = lb) := hb.length
  have Hxr : Hid (∀ z ∈ xs, z.length ≤ 140737488355328) := hxr
  have Hyr : Hid (∀ z ∈ ys, z.length ≤ 140737488355328) := hyr
  clear hxr hyr
  by_cases hl : la = lb
  · subst hl
    have hbne : ((la : Int) != (la : Int)) = false := by simp
    by_cases h0 : la = 0
    · subst h0
      have ex : xs = [] := List.eq_nil_of_length_eq_zero ha.length
      have ey : ys = [] := List.eq_nil_of_length_eq_zero hb.length
      clear ha hb
      go_enter Try.func114, Try.ntmps114
      go_wp2
      refine wp_loop_rounds 1 ?_
      rw [rounds_succ]
      go_wp2
      go_ret
      exact ⟨ret_bool (by rw [ex, ey]; rfl), Below.refl _ _⟩
    · obtain ⟨b1, o1, F1, rfl, hm1⟩ : ∃ b off F', a = some ⟨b, off, none⟩ ∧ RdM w (xs.map ints) b off F' := by
        rcases ha.cells with h | ⟨b, off, F', _, h1, _, h2⟩
        · exact absurd h.1 h0
        · exact ⟨b, off, F', h1, h2⟩
      obtain ⟨b2, o2, F2, rfl, hm2⟩ : ∃ b' off F', b = some ⟨b', off, none⟩ ∧ RdM w (ys.map ints) b' off F' := by
        rcases hb.cells with h | ⟨b, off, F', _, h1, _, h2⟩
        · exact absurd h.1 h0
        · exact ⟨b, off, F', h1, h2⟩
      have HM1 : Hid (RdM w (xs.map ints) b1 o1 F1) := hm1
      have HM2 : Hid (RdM w (ys.map ints) b2 o2 F2) := hm2
      clear ha hb hm1 hm2
      go_enter Try.func114, Try.ntmps114
      go_wp2
      go_loopw [17] (fun i wr => ∃ k : Nat, k ≤ la ∧ i = .int .i64 k ∧ Hid (xs.take k = ys.take k) ∧ Hid (Below w.heap.size w wr)) (fun i _ => la - (intOf i).toNat)
      case atStart => exact ⟨0, by omega, rfl, rfl, Below.refl _ _⟩
      case round =>
        obtain ⟨k, hk, rfl, HT, HB⟩ := hrel
        by_cases hlt : k < la
        · obtain ⟨a1, n1, c1, G1, hc1, hr1, _⟩ := RdII.row HM1.out Hx.out k hlt
          obtain ⟨a2, n2, c2, G2, hc2, hr2, _⟩ := RdII.row HM2.out Hy.out k hlt
          have hb1 : b1 < w.heap.size := World.block_lt_of_cell? _ _ hc1
          have hb2 : b2 < w.heap.size := World.block_lt_of_cell? _ _ hc2
          have d1 : wr.cell? ⟨b1, o1 + k, none⟩ = some (.slice a1 n1 c1) := (HB.out.cell (by exact hb1)).trans hc1
          have d2 : wr.cell? ⟨b2, o2 + k, none⟩ = some (.slice a2 n2 c2) := (HB.out.cell (by exact hb2)).trans hc2
          have HQ : Hid (RdI w a1 n1 (xs.getD k []) G1 ∧ RdI w a2 n2 (ys.getD k []) G2 ∧ n1 ≤ 140737488355328 ∧ n2 ≤ 140737488355328) := ⟨hr1, hr2, by rw [← hr1.length]; exact Hxr.out _ (mem_getD (by rw [Hx.out]; exact hlt)), by rw [← hr2.length]; exact Hyr.out _ (mem_getD (by rw [Hy.out]; exact hlt))⟩
          clear hr1 hr2 hc1 hc2
          go_wp2_with fail
          refine (slEqual_any a1 a2 n1 n2 c1 c2 _ _ G1 G2 _ (HQ.out.1.below HB.out) (HQ.out.2.1.below HB.out) HQ.out.2.2.1 HQ.out.2.2.2).mono ?_
          rintro e w1 ⟨rfl, hbz⟩
          have HB1 : Hid (Below w.heap.size w w1) := Below.next HB.out hbz
          clear hbz
          cases ee : decide (xs.getD k [] = ys.getD k [])
          · have HE : Hid (¬ xs.getD k [] = ys.getD k []) := (show ¬ xs.getD k [] = ys.getD k [] from of_decide_eq_false ee)
            clear ee
            go_wp2
            go_ret
            exact ⟨ret_bool (neII_of_at HE.out).symm, HB1.out⟩
          · have HE : Hid (xs.take (k + 1) = ys.take (k + 1)) := eqII_step (by rw [Hx.out, Hy.out]) (by rw [Hx.out]; exact hlt) HT.out (of_decide_eq_true ee)
            clear ee
            go_wp2
            go_roundw
            case rel => exact ⟨k + 1, by omega, by go_num, HE, HB1⟩
            case measure => simp [intOf]; omega
        · obtain rfl : k = la := by omega
          go_wp2
          go_ret
          exact ⟨ret_bool (eqII_end Hx.out Hy.out HT.out).symm, HB.out⟩
  · have hbne : ((la : Int) != (lb : Int)) = true := by simp; omega
    have e : decide (xs = ys) = false := by
      rw [decide_eq_false_iff_not]; intro e; subst e; exact hl (Hx.out.symm.trans Hy.out)
    clear ha hb
    go_enter Try.func114, Try.ntmps114
    go_wp2
    go_ret
    exact ⟨ret_bool e.symm, Below.refl _ _⟩
def listsEq (s t : Sk) : Bool := decide (s.hist = t.hist ∧ s.regs = t.regs ∧ s.rows = t.rows)
set_option maxRecDepth 200000 in
set_option maxHeartbeats 2000000 in
theorem sameLists_any (v u : Value) (s t : Sk) (F G : List Nat) (w : World) (h : RdSk w v s F) (k : RdSk w u t G) (hw : s.wide) (kw : t.wide) :
    Calls Try.prog 69 #[v, u] w fun e w' => e = .returned (.bool (listsEq s t)) ∧ Below w.heap.size w w' := by
  obtain ⟨a1, n1, c1, a2, n2, c2, a3, n3, c3, F1, F2, F3, rfl, h1, h2, h3, _⟩ := h
  obtain ⟨b1, m1, d1, b2, m2, d2, b3, m3, d3, G1, G2, G3, rfl, k1, k2, k3, _⟩ := k
  have H1 : Hid (RdI w a1 n1 s.hist F1 ∧ RdI w b1 m1 t.hist G1 ∧ n1 ≤ 140737488355328 ∧ m1 ≤ 140737488355328) := ⟨h1, k1, by rw [← h1.length]; exact hw.hist, by rw [← k1.length]; exact kw.hist⟩
  have H2 : Hid (RdI w a2 n2 s.regs F2 ∧ RdI w b2 m2 t.regs G2 ∧ n2 ≤ 140737488355328 ∧ m2 ≤ 140737488355328) := ⟨h2, k2, by rw [← h2.length]; exact hw.regs, by rw [← k2.length]; exact kw.regs⟩
  have H3 : Hid (RdII w a3 n3 s.rows F3 ∧ RdII w b3 m3 t.rows G3 ∧ n3 ≤ 140737488355328 ∧ m3 ≤ 140737488355328) := ⟨h3, k3, by rw [← h3.length]; exact hw.rows, by rw [← k3.length]; exact kw.rows⟩
  have hn3 : n3 ≤ 140737488355328 := H3.out.2.2.1
  have hm3 : m3 ≤ 140737488355328 := H3.out.2.2.2
  have HW : Hid (s.wide ∧ t.wide) := ⟨hw, kw⟩
  clear h1 h2 h3 k1 k2 k3 hw kw
  have HT : Hid (_ ∧ _ ∧ _) := two_made w #[.int .i64 s.count, .int .i64 s.sum, .int .i64 s.min, .int .i64 s.max, .slice a1 n1 c1, .slice a2 n2 c2, .slice a3 n3 c3] #[.int .i64 t.count, .int .i64 t.sum, .int .i64 t.min, .int .i64 t.max, .slice b1 m1 d1, .slice b2 m2 d2, .slice b3 m3 d3] 28 28
  obtain ⟨d, hd⟩ : ∃ d, d = listsEq s t := ⟨_, rfl⟩
  rw [← hd]
  have HD : Hid (d = decide (s.hist = t.hist ∧ s.regs = t.regs ∧ s.rows = t.rows)) := hd
  clear hd
  go_enter Try.func69, Try.ntmps69
  go_wp2_with fail
  refine (slEqual_any a1 b1 n1 m1 c1 d1 s.hist t.hist F1 G1 _ (H1.out.1.below HT.out.2.2) (H1.out.2.1.below HT.out.2.2) H1.out.2.2.1 H1.out.2.2.2).mono ?_
  rintro e w1 ⟨rfl, hb1⟩
  have HB1 : Hid (Boxes w #[.int .i64 s.count, .int .i64 s.sum, .int .i64 s.min, .int .i64 s.max, .slice a1 n1 c1, .slice a2 n2 c2, .slice a3 n3 c3] #[.int .i64 t.count, .int .i64 t.sum, .int .i64 t.min, .int .i64 t.max, .slice b1 m1 d1, .slice b2 m2 d2, .slice b3 m3 d3] 28 w1) := ⟨HT.out.1.below hb1, HT.out.2.1.below hb1, Below.next HT.out.2.2 hb1⟩
  clear hb1 HT
  cases e5 : decide (s.hist = t.hist)
  · have HN : Hid (d = false) := by show d = _; rw [HD.out]; exact dec_false (fun e => by rw [e.1] at e5; simp at e5)
    clear e5
    go_wp2
    go_ret
    exact ⟨ret_bool HN.out.symm, HB1.out.bel⟩
  have Q5 : Hid (s.hist = t.hist) := (show s.hist = t.hist from of_decide_eq_true e5)
  clear e5
  have x5 := HB1.out.fst.cell 5
  have y5 := HB1.out.snd.cell 5
  simp only [aT, aS, aZ] at x5 y5
  go_wp2_with fail
  refine (slEqual_any a2 b2 n2 m2 c2 d2 s.regs t.regs F2 G2 _ (H2.out.1.below HB1.out.bel) (H2.out.2.1.below HB1.out.bel) H2.out.2.2.1 H2.out.2.2.2).mono ?_
  rintro e w2 ⟨rfl, hb2⟩
  have HB2 : Hid (Boxes w #[.int .i64 s.count, .int .i64 s.sum, .int .i64 s.min, .int .i64 s.max, .slice a1 n1 c1, .slice a2 n2 c2, .slice a3 n3 c3] #[.int .i64 t.count, .int .i64 t.sum, .int .i64 t.min, .int .i64 t.max, .slice b1 m1 d1, .slice b2 m2 d2, .slice b3 m3 d3] 28 w2) := HB1.out.below hb2
  clear hb2 x5 y5 HB1
  cases e6 : decide (s.regs = t.regs)
  · have HN : Hid (d = false) := by show d = _; rw [HD.out]; exact dec_false (fun e => by rw [e.2.1] at e6; simp at e6)
    clear e6
    go_wp2
    go_ret
    exact ⟨ret_bool HN.out.symm, HB2.out.bel⟩
  have Q6 : Hid (s.regs = t.regs) := (show s.regs = t.regs from of_decide_eq_true e6)
  clear e6
  have x6 := HB2.out.fst.cell 6
  have y6 := HB2.out.snd.cell 6
  simp only [aT, aS, aZ] at x6 y6
  go_wp2_with fail
  refine (eqFunc_any a3 b3 n3 m3 c3 d3 s.rows t.rows F3 G3 _ (H3.out.1.below HB2.out.bel) (H3.out.2.1.below HB2.out.bel) hn3 hm3 HW.out.1.row HW.out.2.row).mono ?_
  rintro e w3 ⟨rfl, hb3⟩
  have HB3 : Hid (Below w.heap.size w w3) := Below.next HB2.out.bel hb3
  clear hb3 x6 y6
  obtain ⟨d3', hd3⟩ : ∃ d, d = decide (s.rows = t.rows) := ⟨_, rfl⟩
  rw [← hd3]
  have HN : Hid (d = d3') := by
    show d = _
    rw [HD.out, hd3]
    by_cases e : s.rows = t.rows
    · rw [dec_true e, dec_true ⟨Q5.out, Q6.out, e⟩]
    · rw [dec_false e, dec_false (fun x => e x.2.2)]
  clear hd3
  go_wp2
  go_ret
  exact ⟨ret_bool HN.out.symm, HB3.out⟩
theorem sk_tl {s : Sk} (h : s.shaped = true) : skOf s.tl = s := by
  obtain ⟨h0, h1, h2, h3, h4, h5, h6, h7, r0, r1, r2, r3, r4, r5, r6, r7, p0, p1, p2, p3, q0, q1, q2, q3, e⟩ := Sk.written h
  clear h
  generalize s.count = c at e
  generalize s.sum = sm at e
  generalize s.min = mn at e
  generalize s.max = mx at e
  subst e
  rfl
theorem tl_inj {s t : Sk} (hs : s.shaped = true) (ht : t.shaped = true) : decide (s.tl = t.tl) = decide (s = t) := by
  by_cases e : s = t
  · subst e; simp
  · rw [dec_false e]
    exact dec_false (fun x => e (by rw [← sk_tl hs, ← sk_tl ht, x]))
set_option maxRecDepth 200000 in
set_option maxHeartbeats 4000000 in
theorem sameImpl_any (v u : Value) (s t : Sk) (F G : List Nat) (w : World) (h : RdSk w v s F) (k : RdSk w u t G) (hw : s.wide) (kw : t.wide) :
    Calls Try.prog 23 #[v, u] w fun e w' => e = .returned (.bool (decide (s = t))) ∧ Below w.heap.size w w' := by
  have HH : Hid (RdSk w v s F ∧ RdSk w u t G ∧ s.wide ∧ t.wide) := ⟨h, k, hw, kw⟩
  obtain ⟨cs, rfl, hc7, hc1⟩ := h.cells
  obtain ⟨ds, rfl, hd7, hd1⟩ := k.cells
  have HC : Hid (cs.size = 7 ∧ ds.size = 7) := ⟨hc7, hd7⟩
  have HT : Hid (_ ∧ _ ∧ _) := two_made w cs ds 28 28
  obtain ⟨d, hd⟩ : ∃ d, d = decide (s = t) := ⟨_, rfl⟩
  rw [← hd]
  have HD : Hid (d = decide (s = t)) := hd
  clear h k hw kw hc7 hc1 hd7 hd1 hd
  go_enter Try.func23, Try.ntmps23
  go_wp2_with (first | go_skip | (with_reducible refine stopLoad 28 rfl ?_) | (with_reducible refine stopLoad 75 rfl ?_) | (with_reducible refine stopStore 75 rfl ?_))
  refine load_any 28 w.heap.size cs 28 _ HT.out.1 rfl rfl rfl Try.underlying28 rfl (skSize HC.out.1) ?_
  go_wp2_with fail
  refine (tallyOf_any _ s F _ (HH.out.1.below HT.out.2.2) HH.out.2.2.1).mono ?_
  rintro e w1 ⟨xs, rfl, xl, xe, b1⟩
  have HX : Hid (xs.length = 28 ∧ (s.shaped = true → xs = s.tl)) := ⟨xl, xe⟩
  have HW1 : Hid (Boxes w cs ds 28 w1) := ⟨HT.out.1.below b1, HT.out.2.1.below b1, Below.next HT.out.2.2 b1⟩
  clear xl xe b1 HT
  go_wp2_with (first | go_skip | (with_reducible refine stopLoad 28 rfl ?_) | (with_reducible refine stopLoad 75 rfl ?_) | (with_reducible refine stopStore 75 rfl ?_))
  refine store_fresh 75 w1.heap.size rfl (tc (List.replicate 28 0)) (tc xs) 75 rfl rfl rfl rfl (tallySize HX.out.1) (by rw [tc_size, tc_size, HX.out.1]; rfl) (tc_one _) ?_
  intro W2 hg2 b2
  have HW2 : Hid (Boxes w cs ds 28 W2 ∧ Blk W2 w1.heap.size (tc xs) 75) := ⟨HW1.out.below b2, hg2⟩
  clear hg2 b2 HW1
  go_wp2_with (first | go_skip | (with_reducible refine stopLoad 28 rfl ?_) | (with_reducible refine stopLoad 75 rfl ?_) | (with_reducible refine stopStore 75 rfl ?_))
  refine load_any 28 (w.heap.size + 1) ds 28 _ HW2.out.1.snd rfl rfl rfl Try.underlying28 rfl (skSize HC.out.2) ?_
  go_wp2_with fail
  refine (tallyOf_any _ t G _ (HH.out.2.1.below HW2.out.1.bel) HH.out.2.2.2).mono ?_
  rintro e w3 ⟨ys, rfl, xl, xe, b3⟩
  have HY : Hid (ys.length = 28 ∧ (t.shaped = true → ys = t.tl)) := ⟨xl, xe⟩
  have HW3 : Hid (Boxes w cs ds 28 w3 ∧ Blk w3 w1.heap.size (tc xs) 75) := ⟨HW2.out.1.below b3, HW2.out.2.below b3⟩
  clear xl xe b3 HW2
  go_wp2_with (first | go_skip | (with_reducible refine stopLoad 28 rfl ?_) | (with_reducible refine stopLoad 75 rfl ?_) | (with_reducible refine stopStore 75 rfl ?_))
  refine store_fresh 75 w3.heap.size rfl (tc (List.replicate 28 0)) (tc ys) 75 rfl rfl rfl rfl (tallySize HY.out.1) (by rw [tc_size, tc_size, HY.out.1]; rfl) (tc_one _) ?_
  intro W4 hg4 b4
  have HW4 : Hid (Boxes w cs ds 28 W4 ∧ Blk W4 w1.heap.size (tc xs) 75 ∧ Blk W4 w3.heap.size (tc ys) 75) := ⟨HW3.out.1.below b4, HW3.out.2.below b4, hg4⟩
  clear hg4 b4 HW3
  by_cases both : s.shaped = true ∧ t.shaped = true
  · have HE : Hid (d = decide (xs = ys)) := by show d = _; rw [HD.out, HX.out.2 both.1, HY.out.2 both.2]; exact (tl_inj both.1 both.2).symm
    obtain ⟨sa, sb⟩ := both
    rw [sa, sb]
    clear sa sb
    go_wp2_with (first | go_skip | (with_reducible refine stopLoad 28 rfl ?_) | (with_reducible refine stopLoad 75 rfl ?_) | (with_reducible refine stopStore 75 rfl ?_))
    refine load_any 75 w1.heap.size (tc xs) 75 _ HW4.out.2.1 rfl rfl rfl Try.underlying75 rfl (tallySize HX.out.1) ?_
    go_wp2_with (first | go_skip | (with_reducible refine stopLoad 28 rfl ?_) | (with_reducible refine stopLoad 75 rfl ?_) | (with_reducible refine stopStore 75 rfl ?_))
    refine load_any 75 w3.heap.size (tc ys) 75 _ HW4.out.2.2 rfl rfl rfl Try.underlying75 rfl (tallySize HY.out.1) ?_
    go_wp2_with fail
    refine (same_any xs ys _ HX.out.1 HY.out.1).mono ?_
    rintro e w5 ⟨rfl, b5⟩
    have HB5 : Hid (Below w.heap.size w w5) := Below.next HW4.out.1.bel b5
    rw [← HE.out]
    clear b5
    go_wp2
    go_ret
    exact ⟨rfl, HB5.out⟩
  · have hb : (s.shaped && t.shaped) = false := by
      cases e1 : s.shaped
      · rfl
      · cases e2 : t.shaped
        · rfl
        · exact absurd ⟨e1, e2⟩ both
    have rest : ∀ W (_ : W = W4), True := fun _ _ => trivial
    clear both rest
    cases sa : s.shaped
    · clear hb
      go_wp2_with (first | go_skip | (with_reducible refine stopLoad 28 rfl ?_) | (with_reducible refine stopLoad 75 rfl ?_) | (with_reducible refine stopStore 75 rfl ?_))
      refine load_any 28 w.heap.size cs 28 _ HW4.out.1.fst rfl rfl rfl Try.underlying28 rfl (skSize HC.out.1) ?_
      go_wp2_with (first | go_skip | (with_reducible refine stopLoad 28 rfl ?_) | (with_reducible refine stopLoad 75 rfl ?_) | (with_reducible refine stopStore 75 rfl ?_))
      refine load_any 28 (w.heap.size + 1) ds 28 _ HW4.out.1.snd rfl rfl rfl Try.underlying28 rfl (skSize HC.out.2) ?_
      go_wp2_with fail
      refine (sameNumbers_any _ _ s t F G _ (HH.out.1.below HW4.out.1.bel) (HH.out.2.1.below HW4.out.1.bel)).mono ?_
      rintro e w5 ⟨rfl, b5⟩
      have HB5 : Hid (Boxes w cs ds 28 w5) := HW4.out.1.below b5
      clear b5
      cases en : numsEq s t
      · have HN : Hid (d = false) := by show d = _; rw [HD.out]; exact dec_false (fun e => by rw [e] at en; simp [numsEq] at en)
        clear en
        go_wp2
        go_ret
        exact ⟨ret_bool HN.out.symm, HB5.out.bel⟩
      have HN1 : Hid (s.count = t.count ∧ s.sum = t.sum ∧ s.min = t.min ∧ s.max = t.max) := (show s.count = t.count ∧ s.sum = t.sum ∧ s.min = t.min ∧ s.max = t.max from of_decide_eq_true en)
      clear en
      go_wp2_with (first | go_skip | (with_reducible refine stopLoad 28 rfl ?_) | (with_reducible refine stopLoad 75 rfl ?_) | (with_reducible refine stopStore 75 rfl ?_))
      refine load_any 28 w.heap.size cs 28 _ HB5.out.fst rfl rfl rfl Try.underlying28 rfl (skSize HC.out.1) ?_
      go_wp2_with (first | go_skip | (with_reducible refine stopLoad 28 rfl ?_) | (with_reducible refine stopLoad 75 rfl ?_) | (with_reducible refine stopStore 75 rfl ?_))
      refine load_any 28 (w.heap.size + 1) ds 28 _ HB5.out.snd rfl rfl rfl Try.underlying28 rfl (skSize HC.out.2) ?_
      go_wp2_with fail
      refine (sameLists_any _ _ s t F G _ (HH.out.1.below HB5.out.bel) (HH.out.2.1.below HB5.out.bel) HH.out.2.2.1 HH.out.2.2.2).mono ?_
      rintro e w6 ⟨rfl, b6⟩
      have HB6 : Hid (Below w.heap.size w w6) := Below.next HB5.out.bel b6
      clear b6
      obtain ⟨dl, hdl⟩ : ∃ d, d = listsEq s t := ⟨_, rfl⟩
      rw [← hdl]
      have HN : Hid (d = dl) := by
        show d = _
        rw [HD.out, hdl]
        unfold listsEq
        by_cases e : s.hist = t.hist ∧ s.regs = t.regs ∧ s.rows = t.rows
        · rw [dec_true e, dec_true (Sk.eq_of HN1.out.1 HN1.out.2.1 HN1.out.2.2.1 HN1.out.2.2.2 e.1 e.2.1 e.2.2)]
        · rw [dec_false e]; exact dec_false (fun x => e (by rw [x]; exact ⟨rfl, rfl, rfl⟩))
      clear hdl
      go_wp2
      go_ret
      exact ⟨ret_bool HN.out.symm, HB6.out⟩
    · rw [sa] at hb
      have sb : t.shaped = false := by simpa using hb
      rw [sb]
      clear hb sa sb
      go_wp2_with (first | go_skip | (with_reducible refine stopLoad 28 rfl ?_) | (with_reducible refine stopLoad 75 rfl ?_) | (with_reducible refine stopStore 75 rfl ?_))
      refine load_any 28 w.heap.size cs 28 _ HW4.out.1.fst rfl rfl rfl Try.underlying28 rfl (skSize HC.out.1) ?_
      go_wp2_with (first | go_skip | (with_reducible refine stopLoad 28 rfl ?_) | (with_reducible refine stopLoad 75 rfl ?_) | (with_reducible refine stopStore 75 rfl ?_))
      refine load_any 28 (w.heap.size + 1) ds 28 _ HW4.out.1.snd rfl rfl rfl Try.underlying28 rfl (skSize HC.out.2) ?_
      go_wp2_with fail
      refine (sameNumbers_any _ _ s t F G _ (HH.out.1.below HW4.out.1.bel) (HH.out.2.1.below HW4.out.1.bel)).mono ?_
      rintro e w5 ⟨rfl, b5⟩
      have HB5 : Hid (Boxes w cs ds 28 w5) := HW4.out.1.below b5
      clear b5
      cases en : numsEq s t
      · have HN : Hid (d = false) := by show d = _; rw [HD.out]; exact dec_false (fun e => by rw [e] at en; simp [numsEq] at en)
        clear en
        go_wp2
        go_ret
        exact ⟨ret_bool HN.out.symm, HB5.out.bel⟩
      have HN1 : Hid (s.count = t.count ∧ s.sum = t.sum ∧ s.min = t.min ∧ s.max = t.max) := (show s.count = t.count ∧ s.sum = t.sum ∧ s.min = t.min ∧ s.max = t.max from of_decide_eq_true en)
      clear en
      go_wp2_with (first | go_skip | (with_reducible refine stopLoad 28 rfl ?_) | (with_reducible refine stopLoad 75 rfl ?_) | (with_reducible refine stopStore 75 rfl ?_))
      refine load_any 28 w.heap.size cs 28 _ HB5.out.fst rfl rfl rfl Try.underlying28 rfl (skSize HC.out.1) ?_
      go_wp2_with (first | go_skip | (with_reducible refine stopLoad 28 rfl ?_) | (with_reducible refine stopLoad 75 rfl ?_) | (with_reducible refine stopStore 75 rfl ?_))
      refine load_any 28 (w.heap.size + 1) ds 28 _ HB5.out.snd rfl rfl rfl Try.underlying28 rfl (skSize HC.out.2) ?_
      go_wp2_with fail
      refine (sameLists_any _ _ s t F G _ (HH.out.1.below HB5.out.bel) (HH.out.2.1.below HB5.out.bel) HH.out.2.2.1 HH.out.2.2.2).mono ?_
      rintro e w6 ⟨rfl, b6⟩
      have HB6 : Hid (Below w.heap.size w w6) := Below.next HB5.out.bel b6
      clear b6
      obtain ⟨dl, hdl⟩ : ∃ d, d = listsEq s t := ⟨_, rfl⟩
      rw [← hdl]
      have HN : Hid (d = dl) := by
        show d = _
        rw [HD.out, hdl]
        unfold listsEq
        by_cases e : s.hist = t.hist ∧ s.regs = t.regs ∧ s.rows = t.rows
        · rw [dec_true e, dec_true (Sk.eq_of HN1.out.1 HN1.out.2.1 HN1.out.2.2.1 HN1.out.2.2.2 e.1 e.2.1 e.2.2)]
        · rw [dec_false e]; exact dec_false (fun x => e (by rw [x]; exact ⟨rfl, rfl, rfl⟩))
      clear hdl
      go_wp2
      go_ret
      exact ⟨ret_bool HN.out.symm, HB6.out⟩
end Go.Proofs.Ytjndcfamfminkab
/- Sets of numbers: what makes two of them the same, and what is made of both. No statement of the seat is proved here. -/
namespace Go.Proofs.Ytjndcfamfminkab
open Go.RowKit
/-- Right from l on: the spans rise, with a gap between any two. -/
def okFrom : Int → Sp → Prop
  | _, [] => True
  | l, p :: ps => (l ≤ p.1 ∧ p.1 ≤ p.2 ∧ p.2 ≤ 9999) ∧ okFrom (p.2 + 2) ps
def endOf : Int → Sp → Int
  | l, [] => l
  | _, p :: ps => endOf (p.2 + 2) ps
theorem okFrom_append : ∀ (o r : Sp) (l : Int), okFrom l (o ++ r) ↔ okFrom l o ∧ okFrom (endOf l o) r
  | [], r, l => by simp [okFrom, endOf]
  | p :: o, r, l => by simp only [List.cons_append, okFrom, endOf, okFrom_append o r, and_assoc]
theorem endOf_snoc : ∀ (o : Sp) (t : Int × Int) (l : Int), endOf l (o ++ [t]) = t.2 + 2
  | [], t, l => rfl
  | p :: o, t, l => by simp only [List.cons_append, endOf, endOf_snoc o t]
theorem okFrom_mono : ∀ {ps : Sp} {l m : Int}, okFrom l ps → m ≤ l → okFrom m ps
  | [], _, _, _, _ => trivial
  | p :: ps, l, m, h, hm => ⟨⟨by have := h.1; omega, h.1.2⟩, h.2⟩
theorem has_cons (p : Int × Int) (ps : Sp) (n : Int) : Sp.has (p :: ps) n = (decide (p.1 ≤ n ∧ n ≤ p.2) || Sp.has ps n) := rfl
theorem has_nil (n : Int) : Sp.has [] n = false := rfl
theorem has_append (ps qs : Sp) (n : Int) : Sp.has (ps ++ qs) n = (Sp.has ps n || Sp.has qs n) := by simp [Sp.has]
/-- n is in ps. -/
def InS (ps : Sp) (n : Int) : Prop := ps.has n = true
theorem inS_cons {p : Int × Int} {ps : Sp} {n : Int} : InS (p :: ps) n ↔ (p.1 ≤ n ∧ n ≤ p.2) ∨ InS ps n := by unfold InS; rw [has_cons]; simp
theorem inS_nil {n : Int} : ¬ InS [] n := by unfold InS; rw [has_nil]; simp
theorem inS_append {ps qs : Sp} {n : Int} : InS (ps ++ qs) n ↔ InS ps n ∨ InS qs n := by unfold InS; rw [has_append]; simp
theorem inS_ge : ∀ {ps : Sp} {l n : Int}, okFrom l ps → InS ps n → l ≤ n
  | [], _, _, _, h => (inS_nil h).elim
  | p :: ps, l, n, h, hn => by
    rcases inS_cons.1 hn with e | e
    · have := h.1; omega
    · have := inS_ge h.2 e; have := h.1; omega
theorem inS_le : ∀ {ps : Sp} {l n : Int}, okFrom l ps → InS ps n → n ≤ 9999
  | [], _, _, _, h => (inS_nil h).elim
  | p :: ps, l, n, h, hn => by
    rcases inS_cons.1 hn with e | e
    · have := h.1; omega
    · exact inS_le h.2 e
theorem sp_ext : ∀ {ps qs : Sp} {l m : Int}, okFrom l ps → okFrom m qs → (∀ n, InS ps n ↔ InS qs n) → ps = qs
  | [], [], _, _, _, _, _ => rfl
  | [], q :: qs, _, _, _, h2, h => by
    have := (h q.1).2 (inS_cons.2 (.inl ⟨Int.le_refl _, h2.1.2.1⟩))
    exact (inS_nil this).elim
  | p :: ps, [], _, _, h1, _, h => by
    have := (h p.1).1 (inS_cons.2 (.inl ⟨Int.le_refl _, h1.1.2.1⟩))
    exact (inS_nil this).elim
  | p :: ps, q :: qs, l, m, h1, h2, h => by
    obtain ⟨⟨a1, a2, a3⟩, a4⟩ := h1
    obtain ⟨⟨b1, b2, b3⟩, b4⟩ := h2
    have e1 : p.1 = q.1 := by
      have x1 := inS_ge (ps := q :: qs) (l := q.1) ⟨⟨Int.le_refl _, b2, b3⟩, b4⟩ ((h p.1).1 (inS_cons.2 (.inl ⟨Int.le_refl _, a2⟩)))
      have x2 := inS_ge (ps := p :: ps) (l := p.1) ⟨⟨Int.le_refl _, a2, a3⟩, a4⟩ ((h q.1).2 (inS_cons.2 (.inl ⟨Int.le_refl _, b2⟩)))
      omega
    have e2 : p.2 = q.2 := by
      rcases Int.lt_trichotomy p.2 q.2 with c | c | c
      · rcases inS_cons.1 ((h (p.2 + 1)).2 (inS_cons.2 (.inl ⟨by omega, by omega⟩))) with e | e
        · omega
        · have := inS_ge a4 e; omega
      · exact c
      · rcases inS_cons.1 ((h (q.2 + 1)).1 (inS_cons.2 (.inl ⟨by omega, by omega⟩))) with e | e
        · omega
        · have := inS_ge b4 e; omega
    have e3 : ps = qs := sp_ext a4 b4 (fun n => by
      constructor
      · intro hn
        have := inS_ge a4 hn
        rcases inS_cons.1 ((h n).1 (inS_cons.2 (.inr hn))) with e | e
        · omega
        · exact e
      · intro hn
        have := inS_ge b4 hn
        rcases inS_cons.1 ((h n).2 (inS_cons.2 (.inr hn))) with e | e
        · omega
        · exact e)
    rw [e3, Prod.ext e1 e2]
/-- What is right, seen from the k-th span on. -/
def floorAt (ps : Sp) (k : Nat) : Int := if k = 0 then 0 else (ps.at (k - 1)).2 + 2
theorem okAt_iff (ps : Sp) (k : Nat) : ps.okAt k = true ↔ (if k = 0 then 0 else (ps.at (k - 1)).2 + 2) ≤ (ps.at k).1 ∧ 0 ≤ (ps.at k).1 ∧ (ps.at k).1 ≤ (ps.at k).2 ∧ (ps.at k).2 ≤ 9999 := by
  unfold Sp.okAt
  simp only [Bool.and_eq_true, Bool.or_eq_true, decide_eq_true_eq]
  split <;> omega
theorem okFrom_drop (ps : Sp) : ∀ (d k : Nat), k + d = ps.length → 0 ≤ floorAt ps k → ((∀ j, k ≤ j → j < ps.length → ps.okAt j = true) ↔ okFrom (floorAt ps k) (ps.drop k))
  | 0, k, hk, _ => by
    rw [List.drop_eq_nil_of_le (by omega)]
    exact ⟨fun _ => trivial, fun _ j h1 h2 => by omega⟩
  | d + 1, k, hk, h0 => by
    rw [drop_at (by omega), okFrom]
    have e : floorAt ps (k + 1) = (ps.at k).2 + 2 := by unfold floorAt; rw [if_neg (by omega), show k + 1 - 1 = k by omega]
    constructor
    · intro h
      have hk1 := (okAt_iff ps k).1 (h k (Nat.le_refl _) (by omega))
      refine ⟨⟨hk1.1, hk1.2.2⟩, ?_⟩
      rw [← e]
      exact (okFrom_drop ps d (k + 1) (by omega) (by rw [e]; omega)).1 (fun j h1 h2 => h j (by omega) h2)
    · rintro ⟨h1, h2⟩ j hj1 hj2
      by_cases c : j = k
      · subst c
        exact (okAt_iff ps j).2 ⟨h1.1, by omega, h1.2⟩
      · rw [← e] at h2
        exact (okFrom_drop ps d (k + 1) (by omega) (by rw [e]; omega)).2 h2 j (by omega) hj2
theorem ok_iff {ps : Sp} : ps.ok = true ↔ okFrom 0 ps := by
  have e := okFrom_drop ps ps.length 0 (by omega) (by simp [floorAt])
  simp only [floorAt, if_true, List.drop_zero] at e
  rw [← e]
  exact ⟨fun h j _ hj => Sp.ok_at h j hj, fun h => Sp.ok_all (fun j hj => h j (Nat.zero_le _) hj)⟩
theorem put_true_same : ∀ {ps : Sp} {x : Int × Int} {l : Int}, okFrom l ps → x.2 + 2 ≤ l → x.1 ≤ x.2 → put ps x true = ps
  | [], _, _, _, _, _ => rfl
  | p :: ps, x, l, h, hl, hx => by
    obtain ⟨⟨a1, a2, a3⟩, a4⟩ := h
    rw [put, if_neg (by omega), if_pos (by omega), put_true_same a4 (by omega) hx]
    rfl
theorem put_ok : ∀ {ps : Sp} {x : Int × Int} {l : Int}, okFrom l ps → l ≤ x.1 → x.1 ≤ x.2 → x.2 ≤ 9999 → okFrom l (put ps x false) ∧ ∀ n, InS (put ps x false) n ↔ InS ps n ∨ (x.1 ≤ n ∧ n ≤ x.2)
  | [], x, l, _, h1, h2, h3 => ⟨⟨⟨h1, h2, h3⟩, trivial⟩, fun n => by
      show InS [x] n ↔ _
      rw [inS_cons]
      exact ⟨fun h => h.symm.imp (fun e => e) (fun e => e), fun h => h.symm.imp (fun e => e) (fun e => e)⟩⟩
  | p :: ps, x, l, h, h1, h2, h3 => by
    obtain ⟨⟨a1, a2, a3⟩, a4⟩ := h
    rw [put]
    split
    · obtain ⟨i1, i2⟩ := put_ok a4 (by omega) h2 h3
      refine ⟨⟨⟨a1, a2, a3⟩, i1⟩, fun n => ?_⟩
      rw [inS_cons, inS_cons, i2, or_assoc]
    · split
      · rw [put_true_same (l := p.2 + 2) a4 (by omega) h2]
        refine ⟨⟨⟨h1, h2, h3⟩, ⟨⟨by omega, a2, a3⟩, a4⟩⟩, fun n => ?_⟩
        show InS (x :: p :: ps) n ↔ _
        rw [inS_cons (p := x)]
        exact or_comm
      · obtain ⟨i1, i2⟩ := put_ok (x := (min x.1 p.1, max x.2 p.2)) (l := l) (okFrom_mono a4 (by omega)) (by simp only; omega) (by simp only; omega) (by simp only; omega)
        refine ⟨i1, fun n => ?_⟩
        rw [i2, inS_cons]
        have : (min x.1 p.1 ≤ n ∧ n ≤ max x.2 p.2) ↔ (p.1 ≤ n ∧ n ≤ p.2) ∨ (x.1 ≤ n ∧ n ≤ x.2) := by omega
        rw [show ((min x.1 p.1, max x.2 p.2).1 ≤ n ∧ n ≤ (min x.1 p.1, max x.2 p.2).2) ↔ (p.1 ≤ n ∧ n ≤ p.2) ∨ (x.1 ≤ n ∧ n ≤ x.2) from this, or_comm, or_right_comm]
theorem okFrom_at {ps : Sp} (h : okFrom 0 ps) {k : Nat} (hk : k < ps.length) : 0 ≤ (ps.at k).1 ∧ (ps.at k).1 ≤ (ps.at k).2 ∧ (ps.at k).2 ≤ 9999 := (Sp.okAt_parts (Sp.ok_at (ok_iff.2 h) k hk)).1
theorem take_inS {qs : Sp} {k : Nat} (hk : k < qs.length) (n : Int) : InS (qs.take (k + 1)) n ↔ InS (qs.take k) n ∨ ((qs.at k).1 ≤ n ∧ n ≤ (qs.at k).2) := by
  rw [takeP_succ qs k hk, inS_append, inS_cons]
  show _ ∨ (_ ∨ InS [] n) ↔ _
  exact ⟨fun h => h.imp id (fun h => h.resolve_right inS_nil), fun h => h.imp id .inl⟩
theorem joinTo_ok {ps qs : Sp} (h1 : okFrom 0 ps) (h2 : okFrom 0 qs) : ∀ k, k ≤ qs.length → okFrom 0 (joinTo ps qs k) ∧ ∀ n, InS (joinTo ps qs k) n ↔ InS ps n ∨ InS (qs.take k) n
  | 0, _ => by
    rw [joinTo_zero]
    exact ⟨h1, fun n => ⟨.inl, fun h => h.resolve_right inS_nil⟩⟩
  | k + 1, hk => by
    have hq := okFrom_at h2 (k := k) (by omega)
    obtain ⟨i1, i2⟩ := joinTo_ok h1 h2 k (by omega)
    obtain ⟨j1, j2⟩ := put_ok (x := qs.at k) i1 (by omega) (by omega) (by omega)
    rw [joinTo_succ (by omega)]
    refine ⟨j1, fun n => ?_⟩
    rw [j2, i2, take_inS (by omega), or_assoc]
theorem join_ok {ps qs : Sp} (h1 : okFrom 0 ps) (h2 : okFrom 0 qs) : okFrom 0 (joinTo ps qs qs.length) ∧ ∀ n, InS (joinTo ps qs qs.length) n ↔ InS ps n ∨ InS qs n := by
  have := joinTo_ok h1 h2 qs.length (Nat.le_refl _)
  rw [List.take_length] at this
  exact this
/-- A span is laid behind o: apart, or into its last one. -/
def lay1 (o : Sp) (x : Int × Int) : Sp := if o = [] ∨ (o.at (o.length - 1)).2 + 1 < x.1 then o ++ [x] else o.take (o.length - 1) ++ [((o.at (o.length - 1)).1, max (o.at (o.length - 1)).2 x.2)]
def lay (o xs : Sp) : Sp := xs.foldl lay1 o
/-- How many spans begin no later than n. -/
def cutN : Sp → Int → Nat
  | [], _ => 0
  | p :: ps, n => if p.1 ≤ n then cutN ps n + 1 else 0
/-- Both sets, gone through once; o: what has come. -/
def both : Sp → Sp → Sp → Sp
  | a, [], o => lay o a
  | a, x :: b, o => both (a.drop (cutN a x.1)) b (lay1 (lay o (a.take (cutN a x.1))) x)
theorem snoc_cases (o : Sp) : o = [] ∨ ∃ o' t, o = o' ++ [t] := by
  rcases List.eq_nil_or_concat o with h | ⟨o', t, h⟩
  · exact .inl h
  · exact .inr ⟨o', t, by simpa using h⟩
theorem lay1_nil (x : Int × Int) : lay1 [] x = [x] := by simp [lay1]
theorem lay1_snoc (o : Sp) (t x : Int × Int) : lay1 (o ++ [t]) x = if t.2 + 1 < x.1 then o ++ [t] ++ [x] else o ++ [(t.1, max t.2 x.2)] := by
  have e : (o ++ [t]).at ((o ++ [t]).length - 1) = t := by simp [Sp.at]
  have e2 : (o ++ [t]).take ((o ++ [t]).length - 1) = o := by simp
  unfold lay1
  rw [e, e2]
  simp
/-- Right so far; the last span begins at m or ahead of it. -/
structure LayOk (o : Sp) (m : Int) : Prop where
  ok : okFrom 0 o
  le : ∀ o' t, o = o' ++ [t] → t.1 ≤ m
theorem LayOk.nil (m : Int) : LayOk [] m := ⟨trivial, fun o' t h => by simp at h⟩
theorem LayOk.up {o : Sp} {m m' : Int} (h : LayOk o m) (hm : m ≤ m') : LayOk o m' := ⟨h.ok, fun o' t e => Int.le_trans (h.le o' t e) hm⟩
theorem lay1_ok {o : Sp} {x : Int × Int} {m : Int} (h : LayOk o m) (hm : m ≤ x.1) (h0 : 0 ≤ x.1) (h1 : x.1 ≤ x.2) (h2 : x.2 ≤ 9999) : LayOk (lay1 o x) x.1 ∧ ∀ n, InS (lay1 o x) n ↔ InS o n ∨ (x.1 ≤ n ∧ n ≤ x.2) := by
  rcases snoc_cases o with rfl | ⟨o', t, rfl⟩
  · rw [lay1_nil]
    refine ⟨⟨⟨⟨h0, h1, h2⟩, trivial⟩, fun o' t e => ?_⟩, fun n => ?_⟩
    · obtain ⟨rfl, rfl⟩ : o' = [] ∧ x = t := by
        cases o' with
        | nil => simpa using e
        | cons y ys => simp at e
      exact Int.le_refl _
    · rw [inS_cons]
      exact ⟨fun h => .inr (h.resolve_right inS_nil), fun h => .inl (h.resolve_left inS_nil)⟩
  · have ht := h.le o' t rfl
    have hok := h.ok
    rw [okFrom_append] at hok
    obtain ⟨k1, ⟨k2, k3, k4⟩, _⟩ := hok
    rw [lay1_snoc]
    split
    · refine ⟨⟨?_, fun o2 t2 e => ?_⟩, fun n => ?_⟩
      · rw [okFrom_append, endOf_snoc]
        exact ⟨h.ok, ⟨by omega, h1, h2⟩, trivial⟩
      · have e3 := List.append_inj_right' e rfl
        obtain rfl : x = t2 := by simpa using e3
        exact Int.le_refl _
      · rw [inS_append (ps := o' ++ [t]), inS_cons (p := x)]
        exact ⟨fun h => h.imp id (fun h => h.resolve_right inS_nil), fun h => h.imp id .inl⟩
    · refine ⟨⟨?_, fun o2 t2 e => ?_⟩, fun n => ?_⟩
      · rw [okFrom_append]
        exact ⟨k1, ⟨k2, by simp only; omega, by simp only; omega⟩, trivial⟩
      · have e3 := List.append_inj_right' e rfl
        have e4 : (t.1, max t.2 x.2) = t2 := by simpa using e3
        rw [← e4]; simp only; omega
      · rw [inS_append, inS_append, inS_cons, inS_cons]
        have : (t.1 ≤ n ∧ n ≤ max t.2 x.2) ↔ (t.1 ≤ n ∧ n ≤ t.2) ∨ (x.1 ≤ n ∧ n ≤ x.2) := by omega
        rw [show ((t.1, max t.2 x.2).1 ≤ n ∧ n ≤ (t.1, max t.2 x.2).2) ↔ (t.1 ≤ n ∧ n ≤ t.2) ∨ (x.1 ≤ n ∧ n ≤ x.2) from this]
        have e := inS_nil (n := n)
        simp only [e, or_false, or_assoc]
theorem lay_ok : ∀ {xs o : Sp} {m l M : Int}, LayOk o m → okFrom l xs → m ≤ l → 0 ≤ l → m ≤ M → (∀ p ∈ xs, p.1 ≤ M) → LayOk (lay o xs) M ∧ ∀ n, InS (lay o xs) n ↔ InS o n ∨ InS xs n
  | [], o, m, l, M, h, _, _, _, hM, _ => ⟨h.up hM, fun n => ⟨.inl, fun h => h.resolve_right inS_nil⟩⟩
  | x :: xs, o, m, l, M, h, hx, hm, h0, hM, hall => by
    obtain ⟨⟨a1, a2, a3⟩, a4⟩ := hx
    obtain ⟨i1, i2⟩ := lay1_ok h (x := x) (by omega) (by omega) a2 a3
    obtain ⟨j1, j2⟩ := lay_ok (xs := xs) (M := M) i1 a4 (by omega) (by omega) (hall x (by simp)) (fun p hp => hall p (by simp [hp]))
    refine ⟨j1, fun n => ?_⟩
    rw [show lay o (x :: xs) = lay (lay1 o x) xs from rfl, j2, i2, inS_cons, or_assoc]
theorem cutN_le : ∀ (a : Sp) (n : Int), cutN a n ≤ a.length
  | [], _ => by simp [cutN]
  | p :: a, n => by
    rw [cutN]
    split
    · have := cutN_le a n; simp; omega
    · simp
theorem cut_take : ∀ (a : Sp) (n : Int), ∀ p ∈ a.take (cutN a n), p.1 ≤ n
  | [], _, p, hp => by simp [cutN] at hp
  | q :: a, n, p, hp => by
    rw [cutN] at hp
    split at hp
    · rw [List.take_succ_cons] at hp
      rcases List.mem_cons.1 hp with rfl | hp
      · assumption
      · exact cut_take a n p hp
    · simp at hp
theorem okFrom_take {l : Int} {a : Sp} (k : Nat) (h : okFrom l a) : okFrom l (a.take k) := by
  have := h
  rw [← List.take_append_drop k a, okFrom_append] at this
  exact this.1
theorem cut_drop : ∀ {a : Sp} {n l : Int}, okFrom l a → okFrom n (a.drop (cutN a n))
  | [], _, _, _ => by simp [cutN, okFrom]
  | q :: a, n, l, h => by
    rw [cutN]
    split
    · rw [List.drop_succ_cons]; exact cut_drop h.2
    · exact ⟨⟨by omega, h.1.2⟩, h.2⟩
theorem both_ok : ∀ {b a o : Sp} {m la lb : Int}, LayOk o m → okFrom la a → okFrom lb b → m ≤ la → m ≤ lb → 0 ≤ la → 0 ≤ lb → okFrom 0 (both a b o) ∧ ∀ n, InS (both a b o) n ↔ InS o n ∨ InS a n ∨ InS b n
  | [], a, o, m, la, lb, h, ha, _, h1, _, h0, _ => by
    obtain ⟨M, hM⟩ : ∃ M : Int, m ≤ M ∧ ∀ p ∈ a, p.1 ≤ M := ⟨max m 9999, by omega, fun p hp => by
      obtain ⟨k, hk, rfl⟩ := List.getElem_of_mem hp
      have := okFrom_at (okFrom_mono ha h0) hk
      unfold Sp.at at this
      rw [List.getElem?_eq_getElem hk] at this
      simp only [Option.getD_some] at this
      omega⟩
    obtain ⟨i1, i2⟩ := lay_ok h ha h1 h0 hM.1 hM.2
    refine ⟨i1.ok, fun n => ?_⟩
    rw [both, i2]
    exact ⟨fun h => h.imp id .inl, fun h => h.imp id (fun h => h.resolve_right inS_nil)⟩
  | x :: b, a, o, m, la, lb, h, ha, hb, h1, h2, h0, h00 => by
    obtain ⟨⟨b1, b2, b3⟩, b4⟩ := hb
    obtain ⟨i1, i2⟩ := lay_ok (M := x.1) h (okFrom_take (cutN a x.1) ha) h1 h0 (by omega) (cut_take a x.1)
    obtain ⟨j1, j2⟩ := lay1_ok (x := x) i1 (Int.le_refl _) (by omega) b2 b3
    obtain ⟨k1, k2⟩ := both_ok (a := a.drop (cutN a x.1)) (b := b) j1 (cut_drop ha) b4 (Int.le_refl _) (by omega) (by omega) (by omega)
    refine ⟨k1, fun n => ?_⟩
    have e : InS a n ↔ InS (a.take (cutN a x.1)) n ∨ InS (a.drop (cutN a x.1)) n := by rw [← inS_append, List.take_append_drop]
    rw [both, k2, j2, i2, inS_cons, e]
    simp only [or_assoc]
    constructor
    · rintro (h | h | h | h | h) <;> simp [h]
    · rintro (h | h | h | h | h) <;> simp [h]
theorem both_nil_ok {a b : Sp} (ha : okFrom 0 a) (hb : okFrom 0 b) : okFrom 0 (both a b []) ∧ ∀ n, InS (both a b []) n ↔ InS a n ∨ InS b n := by
  obtain ⟨i1, i2⟩ := both_ok (LayOk.nil 0) ha hb (Int.le_refl _) (Int.le_refl _) (Int.le_refl _) (Int.le_refl _)
  exact ⟨i1, fun n => by rw [i2]; exact ⟨fun h => h.resolve_left inS_nil, .inr⟩⟩
theorem both_join {a b : Sp} (ha : a.ok = true) (hb : b.ok = true) : both a b [] = a.join b := by
  rw [Sp.join_yes ha hb]
  obtain ⟨i1, i2⟩ := both_nil_ok (ok_iff.1 ha) (ok_iff.1 hb)
  obtain ⟨j1, j2⟩ := join_ok (ok_iff.1 ha) (ok_iff.1 hb)
  exact sp_ext i1 j1 (fun n => by rw [i2, j2])
theorem single_ok {n : Int} (h : 0 ≤ n ∧ n ≤ 9999) : okFrom 0 [(n, n)] := ⟨⟨h.1, Int.le_refl _, h.2⟩, trivial⟩
theorem inS_single {n m : Int} : InS [(n, n)] m ↔ m = n := by
  rw [inS_cons]
  exact ⟨fun h => by have := h.resolve_right inS_nil; simp only at this; omega, fun h => .inl (by simp only; omega)⟩
theorem both_add {a : Sp} {n : Int} (ha : a.ok = true) (hn : 0 ≤ n ∧ n ≤ 9999) : both a [(n, n)] [] = (a.add n).1 ∧ (a.add n).2 = decide (¬ both a [(n, n)] [] = a) := by
  obtain ⟨i1, i2⟩ := both_nil_ok (ok_iff.1 ha) (single_ok hn)
  by_cases h : a.has n = true
  · have e : both a [(n, n)] [] = a := sp_ext i1 (ok_iff.1 ha) (fun m => by
      rw [i2, inS_single]
      exact ⟨fun e => e.elim id (fun e => by rw [e]; exact h), .inl⟩)
    rw [Sp.add_not (fun e => by rw [h] at e; cases e.2.2), e]
    simp
  · have h' : a.has n = false := by simpa using h
    rw [Sp.add_yes ha hn h']
    obtain ⟨j1, j2⟩ := put_ok (x := (n, n)) (ok_iff.1 ha) hn.1 (Int.le_refl _) hn.2
    have e : both a [(n, n)] [] = put a (n, n) false := sp_ext i1 j1 (fun m => by
      rw [i2, j2, inS_single]
      exact ⟨fun e => e.imp id (fun e => by simp only; omega), fun e => e.imp id (fun e => by simp only at e; omega)⟩)
    refine ⟨e, ?_⟩
    have ne : ¬ both a [(n, n)] [] = a := fun e => h (by
      have := (i2 n).2 (.inr (inS_single.2 rfl))
      rw [e] at this
      exact this)
    simp [ne]
/-- No span of the one meets one of the other. -/
def noMeet (a b : Sp) : Bool := a.all fun p => b.all fun q => !meet p q
theorem meet_comm (p q : Int × Int) : meet p q = meet q p := by unfold meet; rw [Bool.eq_iff_iff]; simp only [decide_eq_true_eq]; exact and_comm
theorem noMeet_nil (b : Sp) : noMeet [] b = true := rfl
theorem noMeet_comm (a b : Sp) : noMeet a b = noMeet b a := by
  unfold noMeet
  rw [Bool.eq_iff_iff]
  simp only [List.all_eq_true]
  exact ⟨fun h q hq p hp => by rw [meet_comm]; exact h p hp q hq, fun h q hq p hp => by rw [meet_comm]; exact h p hp q hq⟩
theorem okFrom_mem : ∀ {b : Sp} {l : Int}, okFrom l b → ∀ q ∈ b, l ≤ q.1 ∧ q.1 ≤ q.2 ∧ q.2 ≤ 9999
  | [], _, _, q, hq => by simp at hq
  | p :: b, l, h, q, hq => by
    rcases List.mem_cons.1 hq with rfl | hq
    · exact h.1
    · have := okFrom_mem h.2 q hq
      have := h.1
      omega
theorem noMeet_hit {p q : Int × Int} {a b : Sp} (h1 : p.1 ≤ q.1) (h2 : q.1 ≤ p.2) (h3 : q.1 ≤ q.2) : noMeet (p :: a) (q :: b) = false := by
  have : meet p q = true := by unfold meet; exact decT (by omega)
  simp [noMeet, this]
theorem noMeet_drop {p q : Int × Int} {a b : Sp} {l : Int} (h : okFrom l (q :: b)) (h2 : p.2 < q.1) : noMeet (p :: a) (q :: b) = noMeet a (q :: b) := by
  have e : (q :: b).all (fun q => !meet p q) = true := by
    rw [List.all_eq_true]
    intro r hr
    have := okFrom_mem (l := q.1) (b := q :: b) ⟨⟨Int.le_refl _, h.1.2⟩, h.2⟩ r hr
    unfold meet
    rw [decF (by omega)]
    rfl
  show ((q :: b).all _ && _) = _
  rw [e]
  rfl
theorem apart_eq (ps qs : Sp) : ps.apart qs = (ps.ok && qs.ok && noMeet ps qs) := rfl
end Go.Proofs.Ytjndcfamfminkab
/- The walks through the program's SetOk, SetHas and SetSize. No statement of the seat is proved here. -/
namespace Go.Proofs.Ytjndcfamfminkab
open Go.RowKit
theorem cells_of {w : World} {a : Option Addr} {len : Nat} {ps : Sp} {F : List Nat} (h : RdP w a len ps F) : len = 0 ∨ ∃ b off, a = some ⟨b, off, none⟩ ∧ b < w.heap.size ∧ SpCells w b off len ps := by
  rcases h.cells with ⟨h0, _⟩ | ⟨b, off, hp, e, _, hc⟩
  · exact .inl h0
  · exact .inr ⟨b, off, e, World.block_lt_of_cell? _ _ (hc 0 hp).1, hc⟩
theorem floorAt_succ (ps : Sp) (k : Nat) : floorAt ps (k + 1) = (ps.at k).2 + 2 := by unfold floorAt; rw [if_neg (by omega), show k + 1 - 1 = k by omega]
set_option maxRecDepth 200000 in
set_option maxHeartbeats 2000000 in
theorem setOkImpl_any (a : Option Addr) (len cap : Nat) (ps : Sp) (F : List Nat) (w : World) (h : RdP w a len ps F) (hlen : len ≤ 2097152) :
    Calls Try.prog 50 #[.slice a len cap] w fun e w' => e = .returned (.bool ps.ok) ∧ Below w.heap.size w w' := by
  have HL : Hid (ps.length = len) := h.length
  have HC : Hid (len = 0 ∨ ∃ b off, a = some ⟨b, off, none⟩ ∧ b < w.heap.size ∧ SpCells w b off len ps) := cells_of h
  clear h
  go_enter Try.func50, Try.ntmps50
  go_wp2
  go_loopw [3, 8] (fun q i wr => ∃ (k : Nat) (l : Int), k ≤ len ∧ i = .int .i64 k ∧ q = .int .i64 l ∧ 0 ≤ l ∧ l ≤ 10001 ∧ Hid (Below w.heap.size w wr) ∧ Hid (l = floorAt ps k ∧ ∀ j, j < k → ps.okAt j = true)) (fun _ i _ => len - (intOf i).toNat)
  case atStart => exact ⟨0, 0, by omega, rfl, rfl, by omega, by omega, Below.refl _ _, rfl, fun j hj => by omega⟩
  case round =>
    obtain ⟨k, l, hk, rfl, rfl, l0, l1, HB, HN⟩ := hrel
    by_cases hlt : k < len
    · have hca := HC.out
      rcases hca with h0 | ⟨b, off, rfl, hbw, hc⟩
      · omega
      obtain ⟨x, hx⟩ : ∃ x, x = (ps.at k).1 := ⟨_, rfl⟩
      obtain ⟨y, hy⟩ : ∃ x, x = (ps.at k).2 := ⟨_, rfl⟩
      have e := hc k hlt
      rw [← hx, ← hy] at e
      have d1 : wr.cell? ⟨b, off + k * 2, none⟩ = some (.int .i64 x) := (HB.out.cell (by exact hbw)).trans e.1
      have d2 : wr.cell? ⟨b, off + k * 2 + 1, none⟩ = some (.int .i64 y) := (HB.out.cell (by exact hbw)).trans e.2
      have HX : Hid (x = (ps.at k).1 ∧ y = (ps.at k).2) := ⟨hx, hy⟩
      have HB2 : Hid (Below w.heap.size w (wr.alloc (.cells #[.int .i64 x, .int .i64 y] 87))) := Below.allocW _ HB.out (Nat.le_refl _)
      have HOK : Hid (ps.okAt k = true ↔ l ≤ x ∧ 0 ≤ x ∧ x ≤ y ∧ y ≤ 9999) := by
        have := okAt_iff ps k
        rw [← hx, ← hy] at this
        rw [HN.out.1]
        exact this
      have hI : (k : Int) < (len : Int) := by omega
      have hkl : k < ps.length := by rw [HL.out]; exact hlt
      clear e hx hy hc HB
      by_cases c1 : x < l
      · have c1d : decide (x < l) = true := decT c1
        have HV : Hid (ps.ok = false) := Sp.ok_not hkl (by rw [Bool.eq_false_iff]; exact fun e => by have := HOK.out.1 e; omega)
        go_wp2
        go_ret
        rw [HV.out]
        exact ⟨rfl, HB2.out⟩
      have c1d : decide (x < l) = false := decF c1
      by_cases c2 : y < x
      · have c2d : decide (y < x) = true := decT c2
        have HV : Hid (ps.ok = false) := Sp.ok_not hkl (by rw [Bool.eq_false_iff]; exact fun e => by have := HOK.out.1 e; omega)
        go_wp2
        go_ret
        rw [HV.out]
        exact ⟨rfl, HB2.out⟩
      have c2d : decide (y < x) = false := decF c2
      by_cases c3 : 9999 < y
      · have c3d : decide (9999 < y) = true := decT c3
        have HV : Hid (ps.ok = false) := Sp.ok_not hkl (by rw [Bool.eq_false_iff]; exact fun e => by have := HOK.out.1 e; omega)
        go_wp2
        go_ret
        rw [HV.out]
        exact ⟨rfl, HB2.out⟩
      have c3d : decide (9999 < y) = false := decF c3
      have HN2 : Hid (y + 2 = floorAt ps (k + 1) ∧ ∀ j, j < k + 1 → ps.okAt j = true) := ⟨by rw [floorAt_succ, HX.out.2], all_up HN.out.2 (HOK.out.2 ⟨by omega, by omega, by omega, by omega⟩)⟩
      go_wp2
      go_roundw
      case rel => exact ⟨k + 1, y + 2, by omega, by go_num, by go_num, by omega, by omega, HB2, HN2⟩
      case measure => simp [intOf]; omega
    · obtain rfl : k = len := by omega
      have HV : Hid (ps.ok = true) := Sp.ok_all (fun j hj => HN.out.2 j (by rw [← HL.out]; exact hj))
      go_wp2
      go_ret
      rw [HV.out]
      exact ⟨rfl, HB.out⟩
set_option maxRecDepth 200000 in
set_option maxHeartbeats 2000000 in
theorem hasImpl_any (a : Option Addr) (len cap : Nat) (ps : Sp) (n : Int) (F : List Nat) (w : World) (h : RdP w a len ps F) (hlen : len ≤ 2097152) :
    Calls Try.prog 22 #[.slice a len cap, .int .i64 n] w fun e w' => e = .returned (.bool (ps.has n)) ∧ Below w.heap.size w w' := by
  have HL : Hid (ps.length = len) := h.length
  have HC : Hid (len = 0 ∨ ∃ b off, a = some ⟨b, off, none⟩ ∧ b < w.heap.size ∧ SpCells w b off len ps) := cells_of h
  clear h
  go_enter Try.func22, Try.ntmps22
  go_wp2
  go_loopw [9] (fun i wr => ∃ (k : Nat), k ≤ len ∧ i = .int .i64 k ∧ Hid (Below w.heap.size w wr) ∧ Hid (∀ j, j < k → ¬ ((ps.at j).1 ≤ n ∧ n ≤ (ps.at j).2))) (fun i _ => len - (intOf i).toNat)
  case atStart => exact ⟨0, by omega, rfl, Below.refl _ _, fun j hj => by omega⟩
  case round =>
    obtain ⟨k, hk, rfl, HB, HN⟩ := hrel
    by_cases hlt : k < len
    · have hca := HC.out
      rcases hca with h0 | ⟨b, off, rfl, hbw, hc⟩
      · omega
      obtain ⟨x, hx⟩ : ∃ x, x = (ps.at k).1 := ⟨_, rfl⟩
      obtain ⟨y, hy⟩ : ∃ x, x = (ps.at k).2 := ⟨_, rfl⟩
      have e := hc k hlt
      rw [← hx, ← hy] at e
      have d1 : wr.cell? ⟨b, off + k * 2, none⟩ = some (.int .i64 x) := (HB.out.cell (by exact hbw)).trans e.1
      have d2 : wr.cell? ⟨b, off + k * 2 + 1, none⟩ = some (.int .i64 y) := (HB.out.cell (by exact hbw)).trans e.2
      have HX : Hid (x = (ps.at k).1 ∧ y = (ps.at k).2) := ⟨hx, hy⟩
      have HB2 : Hid (Below w.heap.size w (wr.alloc (.cells #[.int .i64 x, .int .i64 y] 87))) := Below.allocW _ HB.out (Nat.le_refl _)
      have hI : (k : Int) < (len : Int) := by omega
      have hkl : k < ps.length := by rw [HL.out]; exact hlt
      clear e hx hy hc HB
      by_cases hin : x ≤ n ∧ n ≤ y
      · have HV : Hid (ps.has n = true) := Sp.has_at hkl (by rw [← HX.out.1, ← HX.out.2]; exact hin)
        have c1d : decide (x ≤ n) = true := decT hin.1
        have c2d : decide (n ≤ y) = true := decT hin.2
        go_wp2
        go_ret
        rw [HV.out]
        exact ⟨rfl, HB2.out⟩
      have HN2 : Hid (∀ j, j < k + 1 → ¬ ((ps.at j).1 ≤ n ∧ n ≤ (ps.at j).2)) := all_up HN.out (by rw [← HX.out.1, ← HX.out.2]; exact hin)
      by_cases c1 : x ≤ n
      · have c1d : decide (x ≤ n) = true := decT c1
        have c2d : decide (n ≤ y) = false := decF (fun e => hin ⟨c1, e⟩)
        clear hin c1
        go_wp2
        go_roundw
        case rel => exact ⟨k + 1, by omega, by go_num, HB2, HN2⟩
        case measure => simp [intOf]; omega
      · have c1d : decide (x ≤ n) = false := decF c1
        clear hin c1
        go_wp2
        go_roundw
        case rel => exact ⟨k + 1, by omega, by go_num, HB2, HN2⟩
        case measure => simp [intOf]; omega
    · obtain rfl : k = len := by omega
      have HV : Hid (ps.has n = false) := Sp.has_not (fun j hj => HN.out j (by rw [← HL.out]; exact hj))
      go_wp2
      go_ret
      rw [HV.out]
      exact ⟨rfl, HB.out⟩
set_option maxRecDepth 200000 in
set_option maxHeartbeats 2000000 in
theorem sizeImpl_any (a : Option Addr) (len cap : Nat) (ps : Sp) (F : List Nat) (w : World) (h : RdP w a len ps F) (hlen : len ≤ 2097152) :
    Calls Try.prog 13 #[.slice a len cap] w fun e w' => e = .returned (.int .i64 ps.size) ∧ Below w.heap.size w w' := by
  have HL : Hid (ps.length = len) := h.length
  have HR : Hid (RdP w a len ps F) := h
  have HC : Hid (len = 0 ∨ ∃ b off, a = some ⟨b, off, none⟩ ∧ b < w.heap.size ∧ SpCells w b off len ps) := cells_of h
  clear h
  go_enter Try.func13, Try.ntmps13
  go_wp2_with fail
  refine (setOkImpl_any a len cap ps F _ HR.out (by omega)).mono ?_
  rintro e w1 ⟨rfl, hb⟩
  have HB0 : Hid (Below w.heap.size w w1) := hb
  clear hb HR
  obtain ⟨d, hd⟩ : ∃ d, d = ps.ok := ⟨_, rfl⟩
  rw [← hd]
  have HD : Hid (d = ps.ok) := hd
  clear hd
  cases d
  · go_wp2
    go_ret
    rw [Sp.size_not HD.out.symm]
    exact ⟨rfl, HB0.out⟩
  go_wp2
  go_loopw [3, 11] (fun q i wr => ∃ (k : Nat) (u : Int), k ≤ len ∧ i = .int .i64 k ∧ q = .int .i64 u ∧ 0 ≤ u ∧ u ≤ 20971520000 ∧ Hid (Below w.heap.size w wr) ∧ Hid (u = Sp.sum (ps.take k))) (fun _ i _ => len - (intOf i).toNat)
  case atStart => exact ⟨0, 0, by omega, rfl, rfl, by omega, by omega, HB0, rfl⟩
  case round =>
    clear HB0
    obtain ⟨k, u, hk, rfl, rfl, u0, u1, HB, HN⟩ := hrel
    by_cases hlt : k < len
    · have hca := HC.out
      rcases hca with h0 | ⟨b, off, rfl, hbw, hc⟩
      · omega
      obtain ⟨x, hx⟩ : ∃ x, x = (ps.at k).1 := ⟨_, rfl⟩
      obtain ⟨y, hy⟩ : ∃ x, x = (ps.at k).2 := ⟨_, rfl⟩
      have e := hc k hlt
      have hok := (Sp.okAt_parts (Sp.ok_at HD.out.symm k (by rw [HL.out]; exact hlt))).1
      have hst := Sp.sum_step (ps := ps) (k := k) (by rw [HL.out]; exact hlt)
      have hrg := Sp.sum_range HD.out.symm (k + 1) (by rw [HL.out]; exact hlt)
      rw [← hx, ← hy] at e hok hst
      have d1 : wr.cell? ⟨b, off + k * 2, none⟩ = some (.int .i64 x) := (HB.out.cell (by exact hbw)).trans e.1
      have d2 : wr.cell? ⟨b, off + k * 2 + 1, none⟩ = some (.int .i64 y) := (HB.out.cell (by exact hbw)).trans e.2
      have HB2 : Hid (Below w.heap.size w (wr.alloc (.cells #[.int .i64 x, .int .i64 y] 87))) := Below.allocW _ HB.out (Nat.le_refl _)
      have hI : (k : Int) < (len : Int) := by omega
      have x0 : 0 ≤ x := by omega
      have x1 : x ≤ 9999 := by omega
      have y0 : 0 ≤ y := by omega
      have y1 : y ≤ 9999 := by omega
      have HN2 : Hid (u + (y - x + 1) = Sp.sum (ps.take (k + 1)) ∧ 0 ≤ u + (y - x + 1) ∧ u + (y - x + 1) ≤ 20971520000) := by
        have := HN.out
        rw [hst, ← this] at hrg
        exact ⟨by rw [hst, ← this], by omega, by omega⟩
      clear e hx hy hok hst hrg hc HB
      go_wp2
      go_roundw
      case rel => exact ⟨k + 1, u + (y - x + 1), by omega, by go_num, by go_num, HN2.out.2.1, HN2.out.2.2, HB2, HN2.out.1⟩
      case measure => simp [intOf]; omega
    · obtain rfl : k = len := by omega
      have HV : Hid (u = ps.size) := by
        show _ = _
        rw [Sp.size_ok HD.out.symm, HN.out, List.take_of_length_le (by rw [HL.out]; omega)]
      go_wp2
      go_ret
      rw [← HV.out]
      exact ⟨rfl, HB.out⟩
end Go.Proofs.Ytjndcfamfminkab
/- The walks through the program's IdOf, ItemOk and the reading of an entry. No statement of the seat is proved here. -/
namespace Go.Proofs.Ytjndcfamfminkab
open Go.RowKit
set_option maxRecDepth 200000 in
theorem isSeq_any (n : Int) (w : World) : Calls Try.prog 61 #[.int .i64 n] w fun e w' => e = .returned (.bool (decide (1 ≤ n ∧ n ≤ 60))) ∧ w' = w := by
  have hd : ∀ d : Bool, d = decide (1 ≤ n ∧ n ≤ 60) → (d = true ↔ 1 ≤ n ∧ n ≤ 60) := by rintro d rfl; simp
  generalize decide (1 ≤ n ∧ n ≤ 60) = d at *
  have hd := hd d rfl
  by_cases h : 1 ≤ n
  · by_cases h2 : n ≤ 60
    · have e : Hid (d = true) := hd.2 ⟨h, h2⟩
      clear hd
      go_enter Try.func61, Try.ntmps61
      go_wp2
      go_ret
      rw [e.out]; exact ⟨rfl, rfl⟩
    · have e : Hid (d = false) := show d = false by cases d; rfl; exact absurd (hd.1 rfl).2 h2
      clear hd
      go_enter Try.func61, Try.ntmps61
      go_wp2
      go_ret
      rw [e.out]; exact ⟨rfl, rfl⟩
  · have e : Hid (d = false) := show d = false by cases d; rfl; exact absurd (hd.1 rfl).1 h
    clear hd
    go_enter Try.func61, Try.ntmps61
    go_wp2
    go_ret
    rw [e.out]; exact ⟨rfl, rfl⟩
set_option maxRecDepth 200000 in
theorem idImpl_any (a s : Int) (w : World) : Calls Try.prog 19 #[.int .i64 a, .int .i64 s] w fun e w' => e = .returned (.int .i64 (idOf a s)) ∧ w' = w := by
  go_enter Try.func19, Try.ntmps19
  go_wp2_with fail
  refine (inRange_any _ _ _).mono ?_
  rintro e w2 ⟨rfl, hw2⟩
  have hw2' := hw2.symm
  subst hw2'
  clear hw2
  by_cases h1 : 0 ≤ a ∧ a ≤ 2
  rotate_left
  · rw [decF h1]
    have HV : Hid (idOf a s = -1) := by show _ = _; unfold idOf; rw [if_neg (fun e => h1 e.1)]
    clear h1
    go_wp2
    go_ret
    rw [HV.out]
    exact ⟨rfl, rfl⟩
  rw [decT h1]
  go_wp2_with fail
  refine (isSeq_any _ _).mono ?_
  rintro e w2 ⟨rfl, hw2⟩
  have hw2' := hw2.symm
  subst hw2'
  clear hw2
  by_cases h2 : 1 ≤ s ∧ s ≤ 60
  rotate_left
  · rw [decF h2]
    have HV : Hid (idOf a s = -1) := by show _ = _; unfold idOf; rw [if_neg (fun e => h2 e.2)]
    clear h1 h2
    go_wp2
    go_ret
    rw [HV.out]
    exact ⟨rfl, rfl⟩
  rw [decT h2]
  have HV : Hid (idOf a s = 100 * a + s) := by show _ = _; unfold idOf; rw [if_pos ⟨h1, h2⟩]
  obtain ⟨a0, a1⟩ := h1
  obtain ⟨s0, s1⟩ := h2
  go_wp2
  go_ret
  rw [HV.out]
  exact ⟨rfl, rfl⟩
set_option maxRecDepth 200000 in
theorem isPlace_any (k p : Int) (w : World) : Calls Try.prog 64 #[.agg #[.int .i64 k, .int .i64 p]] w fun e w' => e = .returned (.bool (placeOk k p)) ∧ Below w.heap.size w w' := by
  have HB : Hid (Below w.heap.size w (w.alloc (.cells #[.int .i64 k, .int .i64 p] 70))) := (Below.refl _ _).alloc (Nat.le_refl _) _
  go_enter Try.func64, Try.ntmps64
  go_wp2_with fail
  refine (inRange_any _ _ _).mono ?_
  rintro e w2 ⟨rfl, hw2⟩
  have hw2' := hw2.symm
  subst hw2'
  clear hw2
  obtain ⟨d1, hd1⟩ : ∃ d, d = decide (0 ≤ k ∧ k ≤ 4) := ⟨_, rfl⟩
  rw [← hd1]
  have HD1 : Hid (d1 = decide (0 ≤ k ∧ k ≤ 4)) := hd1
  clear hd1
  cases d1
  · have HV : Hid (placeOk k p = false) := by show _ = _; unfold placeOk; rw [← HD1.out]; rfl
    go_wp2
    go_ret
    exact ⟨ret_bool HV.out.symm, HB.out⟩
  go_wp2_with fail
  refine (inRange_any _ _ _).mono ?_
  rintro e w2 ⟨rfl, hw2⟩
  have hw2' := hw2.symm
  subst hw2'
  clear hw2
  obtain ⟨d2, hd2⟩ : ∃ d, d = decide (0 ≤ p ∧ p ≤ 20) := ⟨_, rfl⟩
  rw [← hd2]
  have HV : Hid (d2 = placeOk k p) := by show _ = _; unfold placeOk; rw [← HD1.out, ← hd2]; rfl
  clear hd2
  go_wp2
  go_ret
  exact ⟨ret_bool HV.out, HB.out⟩
set_option maxRecDepth 200000 in
set_option maxHeartbeats 2000000 in
theorem itemOkImpl_any (v : Value) (x : It) (F : List Nat) (w : World) (h : RdIt w v x F) (hw : x.sk.wide) :
    Calls Try.prog 21 #[v] w fun e w' => e = .returned (.bool x.ok) ∧ Below w.heap.size w w' := by
  obtain ⟨a1, n1, c1, a2, n2, c2, a3, n3, c3, rfl, hr⟩ := h
  have HR : Hid (RdSk w (.agg #[.int .i64 x.sk.count, .int .i64 x.sk.sum, .int .i64 x.sk.min, .int .i64 x.sk.max, .slice a1 n1 c1, .slice a2 n2 c2, .slice a3 n3 c3]) x.sk F ∧ x.sk.wide) := ⟨hr, hw⟩
  have HB : Hid (Below w.heap.size w (w.alloc (.cells #[.int .i64 x.seq, .int .i64 x.cls, .int .i64 x.key, .int .i64 x.window, .int .i64 x.sk.count, .int .i64 x.sk.sum, .int .i64 x.sk.min, .int .i64 x.sk.max, .slice a1 n1 c1, .slice a2 n2 c2, .slice a3 n3 c3] 40)) ∧ Blk (w.alloc (.cells #[.int .i64 x.seq, .int .i64 x.cls, .int .i64 x.key, .int .i64 x.window, .int .i64 x.sk.count, .int .i64 x.sk.sum, .int .i64 x.sk.min, .int .i64 x.sk.max, .slice a1 n1 c1, .slice a2 n2 c2, .slice a3 n3 c3] 40)) w.heap.size #[.int .i64 x.seq, .int .i64 x.cls, .int .i64 x.key, .int .i64 x.window, .int .i64 x.sk.count, .int .i64 x.sk.sum, .int .i64 x.sk.min, .int .i64 x.sk.max, .slice a1 n1 c1, .slice a2 n2 c2, .slice a3 n3 c3] 40) := ⟨Below.allocW _ (Below.refl _ _) (Nat.le_refl _), Blk.made _ _ _⟩
  clear hr hw
  go_enter Try.func21, Try.ntmps21
  go_wp2_with fail
  refine (isSeq_any _ _).mono ?_
  rintro e w2 ⟨rfl, hw2⟩
  have hw2' := hw2.symm
  subst hw2'
  clear hw2
  obtain ⟨d1, hd1⟩ : ∃ d, d = decide (1 ≤ x.seq ∧ x.seq ≤ 60) := ⟨_, rfl⟩
  rw [← hd1]
  have HD1 : Hid (d1 = decide (1 ≤ x.seq ∧ x.seq ≤ 60)) := hd1
  clear hd1
  cases d1
  · have HV : Hid (x.ok = false) := by show _ = _; unfold It.ok; rw [← HD1.out]; rfl
    go_wp2
    go_ret
    exact ⟨ret_bool HV.out.symm, HB.out.1⟩
  go_wp2_with fail
  refine (inRange_any _ _ _).mono ?_
  rintro e w2 ⟨rfl, hw2⟩
  have hw2' := hw2.symm
  subst hw2'
  clear hw2
  obtain ⟨d2, hd2⟩ : ∃ d, d = decide (0 ≤ x.cls ∧ x.cls ≤ 1) := ⟨_, rfl⟩
  rw [← hd2]
  have HD2 : Hid (d2 = decide (0 ≤ x.cls ∧ x.cls ≤ 1)) := hd2
  clear hd2
  cases d2
  · have HV : Hid (x.ok = false) := by show _ = _; unfold It.ok; rw [← HD1.out, ← HD2.out]; rfl
    go_wp2
    go_ret
    exact ⟨ret_bool HV.out.symm, HB.out.1⟩
  go_wp2_with fail
  refine (isPlace_any _ _ _).mono ?_
  rintro e w2 ⟨rfl, hb2⟩
  have HB2 : Hid (Below w.heap.size w w2 ∧ Blk w2 w.heap.size #[.int .i64 x.seq, .int .i64 x.cls, .int .i64 x.key, .int .i64 x.window, .int .i64 x.sk.count, .int .i64 x.sk.sum, .int .i64 x.sk.min, .int .i64 x.sk.max, .slice a1 n1 c1, .slice a2 n2 c2, .slice a3 n3 c3] 40) := ⟨Below.next HB.out.1 hb2, HB.out.2.below hb2⟩
  clear hb2
  obtain ⟨d3, hd3⟩ : ∃ d, d = placeOk x.key x.window := ⟨_, rfl⟩
  rw [← hd3]
  have HD3 : Hid (d3 = placeOk x.key x.window) := hd3
  clear hd3
  cases d3
  · have HV : Hid (x.ok = false) := by show _ = _; unfold It.ok; rw [← HD1.out, ← HD2.out, ← HD3.out]; rfl
    go_wp2
    go_ret
    exact ⟨ret_bool HV.out.symm, HB2.out.1⟩
  go_wp2_with (first | go_skip | (with_reducible refine stopLoad 28 rfl ?_))
  refine load_cutw 28 w.heap.size 4 7 _ #[.int .i64 x.sk.count, .int .i64 x.sk.sum, .int .i64 x.sk.min, .int .i64 x.sk.max, .slice a1 n1 c1, .slice a2 n2 c2, .slice a3 n3 c3] 40 _ HB2.out.2 rfl rfl rfl Try.underlying28 rfl infoSkI (by simp) rfl ?_
  go_wp2_with fail
  refine (okImpl_any _ x.sk F _ (HR.out.1.below HB2.out.1) HR.out.2).mono ?_
  rintro e w3 ⟨rfl, hb3⟩
  have HB3 : Hid (Below w.heap.size w w3) := Below.next HB2.out.1 hb3
  have HV : Hid (x.ok = x.sk.ok) := by show _ = _; unfold It.ok; rw [← HD1.out, ← HD2.out, ← HD3.out]; rfl
  clear hb3
  obtain ⟨d4, hd4⟩ : ∃ d, d = x.sk.ok := ⟨_, rfl⟩
  rw [← hd4] at HV ⊢
  clear hd4
  go_wp2
  go_ret
  exact ⟨ret_bool HV.out.symm, HB3.out⟩
/-- The cells of an entry as the program holds it. -/
def hc (k p : Int) (a : Option Addr) (l c : Nat) (ys : List Int) : Array Value := (.int .i64 k :: .int .i64 p :: .slice a l c :: ys.map (Value.int .i64)).toArray
theorem hc_size {k p : Int} {a : Option Addr} {l c : Nat} {ys : List Int} (h : ys.length = 28) : (hc k p a l c ys).size = 31 := by
  unfold hc; simp [h]
theorem hc_one (k p : Int) (a : Option Addr) (l c : Nat) (ys : List Int) : (hc k p a l c ys).all (·.oneCell') = true := by
  unfold hc
  simp [Value.oneCell']
section
variable {P : Program} {ops : Array Oper} {Q : Exit → Act → World → Prop} {rest : List Oper} {a : Act} {w : World} {o : Oper}
theorem stopBuild (ty : TypeId) {fs : Array (Nat × Operand)} (_ho : o.op = .build ty fs) (h : Stop (wpList P ops Q (o :: rest) a w)) : wpList P ops Q (o :: rest) a w := h
/-- A value that is put together, by a law of its own. -/
theorem built_any {ty : TypeId} {fs : Array (Nat × Operand)} (v : Value) (hw : Region.wanted o (yielded ops a.tmps) = true) (ho : o.op = .build ty fs) (hr : (Instr.build ty (fs.map fun p => (p.1, a.eval p.2))).run P w = .ok v w) (h : wpList P ops Q rest (a.put o.dst v) w) : Stop (wpList P ops Q (o :: rest) a w) :=
  wpList_step fun K hK => by
    rw [if_pos hw]
    unfold Oper.wp execOp
    simp only [ho]
    simp [hr]
    exact hK _ _ h
end
set_option maxRecDepth 200000 in
theorem build_hold (w : World) (k p : Int) (a : Option Addr) (l c : Nat) (ys : List Int) (h : ys.length = 28) : (Instr.build 77 #[(0, .agg #[.int .i64 k, .int .i64 p]), (1, .slice a l c), (2, .agg (tc ys))]).run Try.prog w = .ok (.agg (hc k p a l c ys)) w := by
  have key : ∀ y0 y1 y2 y3 y4 y5 y6 y7 y8 y9 y10 y11 y12 y13 y14 y15 y16 y17 y18 y19 y20 y21 y22 y23 y24 y25 y26 y27 : Int, (Instr.build 77 #[(0, .agg #[.int .i64 k, .int .i64 p]), (1, .slice a l c), (2, .agg (tc [y0, y1, y2, y3, y4, y5, y6, y7, y8, y9, y10, y11, y12, y13, y14, y15, y16, y17, y18, y19, y20, y21, y22, y23, y24, y25, y26, y27]))]).run Try.prog w = .ok (.agg (hc k p a l c [y0, y1, y2, y3, y4, y5, y6, y7, y8, y9, y10, y11, y12, y13, y14, y15, y16, y17, y18, y19, y20, y21, y22, y23, y24, y25, y26, y27])) w := by
    intro y0 y1 y2 y3 y4 y5 y6 y7 y8 y9 y10 y11 y12 y13 y14 y15 y16 y17 y18 y19 y20 y21 y22 y23 y24 y25 y26 y27
    kernel_rfl
  match ys, h with
  | [y0, y1, y2, y3, y4, y5, y6, y7, y8, y9, y10, y11, y12, y13, y14, y15, y16, y17, y18, y19, y20, y21, y22, y23, y24, y25, y26, y27], _ => exact key y0 y1 y2 y3 y4 y5 y6 y7 y8 y9 y10 y11 y12 y13 y14 y15 y16 y17 y18 y19 y20 y21 y22 y23 y24 y25 y26 y27
theorem holdSize {cs : Array Value} (h : cs.size = 31) : (Try.prog.info? 77).map (·.size) = some cs.size := by rw [h]; kernel_rfl
set_option maxRecDepth 200000 in
set_option maxHeartbeats 4000000 in
theorem okHolding_any (v : Value) (x : En) (F G : List Nat) (w : World) (h : RdEn w v x F G) (hw : x.sk.wide) (hl : x.ids.length ≤ 2097152) :
    Calls Try.prog 41 #[v] w fun e w' => ∃ k p a l c ys, e = .returned (.tuple #[.agg (hc k p a l c ys), .bool x.ok]) ∧ ys.length = 28 ∧ (x.ok = true → k = x.key ∧ p = x.window ∧ ys = x.sk.tl ∧ RdP w a l x.ids F ∧ Capd a l c) ∧ Below w.heap.size w w' := by
  obtain ⟨b, l, c, a1, n1, c1, a2, n2, c2, a3, n3, c3, rfl, hp, hr, hcp⟩ := h
  have HR : Hid (RdSk w (.agg #[.int .i64 x.sk.count, .int .i64 x.sk.sum, .int .i64 x.sk.min, .int .i64 x.sk.max, .slice a1 n1 c1, .slice a2 n2 c2, .slice a3 n3 c3]) x.sk G ∧ x.sk.wide) := ⟨hr, hw⟩
  have HP : Hid (RdP w b l x.ids F ∧ l ≤ 2097152 ∧ x.ids.length = l ∧ Capd b l c) := ⟨hp, by rw [← hp.length]; exact hl, hp.length, hcp⟩
  have hl2 : l ≤ 2097152 := HP.out.2.1
  have Z := two_made w #[.int .i64 x.key, .int .i64 x.window, .slice b l c, .int .i64 x.sk.count, .int .i64 x.sk.sum, .int .i64 x.sk.min, .int .i64 x.sk.max, .slice a1 n1 c1, .slice a2 n2 c2, .slice a3 n3 c3] (hc 0 0 none 0 0 (List.replicate 28 0)) 30 77
  have HZ : Hid (_ ∧ _ ∧ _) := Z
  clear hr hw hp hl Z hcp
  go_enter Try.func41, Try.ntmps41
  go_wp2_with (first | go_skip | (with_reducible refine stopLoad 28 rfl ?_))
  refine load_cutw 28 w.heap.size 3 7 _ #[.int .i64 x.sk.count, .int .i64 x.sk.sum, .int .i64 x.sk.min, .int .i64 x.sk.max, .slice a1 n1 c1, .slice a2 n2 c2, .slice a3 n3 c3] 30 _ HZ.out.1 rfl rfl rfl Try.underlying28 rfl infoSkI (by simp) rfl ?_
  go_wp2_with fail
  refine (okTally_any _ x.sk G _ (HR.out.1.below HZ.out.2.2) HR.out.2).mono ?_
  rintro e w1 ⟨xs, ys, rfl, _, hy, hx, hyx, hb1⟩
  have hok := okT_ok hx
  have HY : Hid (ys.length = 28 ∧ (x.sk.ok = true → ys = x.sk.tl)) := ⟨hy, fun e => by rw [hyx (hok.trans e)]; exact hx (Sk.ok_shaped e)⟩
  have HS1 : Hid (Blk w1 w.heap.size #[.int .i64 x.key, .int .i64 x.window, .slice b l c, .int .i64 x.sk.count, .int .i64 x.sk.sum, .int .i64 x.sk.min, .int .i64 x.sk.max, .slice a1 n1 c1, .slice a2 n2 c2, .slice a3 n3 c3] 30 ∧ Blk w1 (w.heap.size + 1) (hc 0 0 none 0 0 (List.replicate 28 0)) 77 ∧ Below w.heap.size w w1) := ⟨HZ.out.1.below hb1, HZ.out.2.1.below hb1, Below.next HZ.out.2.2 hb1⟩
  rw [hok]
  clear hb1 hy hx hyx hok HZ
  obtain ⟨d, hd⟩ : ∃ d, d = x.sk.ok := ⟨_, rfl⟩
  rw [← hd]
  have HD : Hid (d = x.sk.ok) := hd
  clear hd
  go_wp2_with (first | go_skip | (with_reducible refine stopStore 75 rfl ?_))
  refine store_fresh 75 w1.heap.size rfl (tc (List.replicate 28 0)) (tc ys) 75 rfl rfl rfl rfl (tallySize HY.out.1) (by rw [tc_size, tc_size, HY.out.1]; rfl) (tc_one _) ?_
  intro W2 hg2 hb2
  have HS2 : Hid (Blk W2 w.heap.size #[.int .i64 x.key, .int .i64 x.window, .slice b l c, .int .i64 x.sk.count, .int .i64 x.sk.sum, .int .i64 x.sk.min, .int .i64 x.sk.max, .slice a1 n1 c1, .slice a2 n2 c2, .slice a3 n3 c3] 30 ∧ Blk W2 (w.heap.size + 1) (hc 0 0 none 0 0 (List.replicate 28 0)) 77 ∧ Below w.heap.size w W2) := ⟨HS1.out.1.below hb2, HS1.out.2.1.below hb2, Below.next HS1.out.2.2 hb2⟩
  have HG2 : Hid (Blk W2 w1.heap.size (tc ys) 75) := hg2
  clear hb2 hg2 HS1
  have k0 : W2.cell? ⟨w.heap.size, 0, none⟩ = some (.int .i64 x.key) := by rw [HS2.out.1.cell]; rfl
  have k1 : W2.cell? ⟨w.heap.size, 1, none⟩ = some (.int .i64 x.window) := by rw [HS2.out.1.cell]; rfl
  go_wp2_with (first | go_skip | (with_reducible refine stopStore 70 rfl ?_))
  refine store_fresh 70 W2.heap.size rfl #[.int .i64 0, .int .i64 0] #[.int .i64 x.key, .int .i64 x.window] 70 rfl rfl rfl rfl (by kernel_rfl) rfl (by kernel_rfl) ?_
  intro W3 hg3 hb3
  have HS3 : Hid (Blk W3 w.heap.size #[.int .i64 x.key, .int .i64 x.window, .slice b l c, .int .i64 x.sk.count, .int .i64 x.sk.sum, .int .i64 x.sk.min, .int .i64 x.sk.max, .slice a1 n1 c1, .slice a2 n2 c2, .slice a3 n3 c3] 30 ∧ Blk W3 (w.heap.size + 1) (hc 0 0 none 0 0 (List.replicate 28 0)) 77 ∧ Below w.heap.size w W3) := ⟨HS2.out.1.below hb3, HS2.out.2.1.below hb3, Below.next HS2.out.2.2 hb3⟩
  have HG3 : Hid (Blk W3 w1.heap.size (tc ys) 75 ∧ Blk W3 W2.heap.size #[.int .i64 x.key, .int .i64 x.window] 70) := ⟨HG2.out.below hb3, hg3⟩
  clear hb3 hg3 HS2 HG2 k0 k1
  cases d
  · have HV : Hid (x.ok = false) := by show _ = _; unfold En.ok; rw [← HD.out]; simp
    have HS := HS3
    go_wp2_with (first | go_skip | (with_reducible refine stopStore 77 rfl ?_))
    refine store_known 77 (w.heap.size + 1) _ (hc 0 0 none 0 0 (List.replicate 28 0)) 77 HS.out.2.1 rfl rfl rfl rfl (by kernel_rfl) rfl (by kernel_rfl) ?_
    go_wp2
    refine bodyPost_ret (results_row_tmp Try.results41 _ _ (w.heap.size + 1) _ _ _ _ rfl HS.out.2.1.setRow Try.underlying77 rfl (by kernel_rfl)) rfl ?_
    exact ⟨0, 0, none, 0, 0, List.replicate 28 0, (by rw [HV.out]; rfl), rfl, fun e => (by rw [HV.out] at e; cases e), below_setRow HS.out.2.2 (by omega) _⟩

  go_wp2_with (first | go_skip | (with_reducible refine stopLoad 70 rfl ?_))
  refine load_any 70 W2.heap.size _ 70 _ HG3.out.2 rfl rfl rfl Try.underlying70 rfl (by kernel_rfl) ?_
  go_wp2_with fail
  refine (isPlace_any _ _ _).mono ?_
  rintro e w4 ⟨rfl, hb4⟩
  have HS4 : Hid (Blk w4 w.heap.size #[.int .i64 x.key, .int .i64 x.window, .slice b l c, .int .i64 x.sk.count, .int .i64 x.sk.sum, .int .i64 x.sk.min, .int .i64 x.sk.max, .slice a1 n1 c1, .slice a2 n2 c2, .slice a3 n3 c3] 30 ∧ Blk w4 (w.heap.size + 1) (hc 0 0 none 0 0 (List.replicate 28 0)) 77 ∧ Below w.heap.size w w4) := ⟨HS3.out.1.below hb4, HS3.out.2.1.below hb4, Below.next HS3.out.2.2 hb4⟩
  have HG4 : Hid (Blk w4 w1.heap.size (tc ys) 75 ∧ Blk w4 W2.heap.size #[.int .i64 x.key, .int .i64 x.window] 70) := ⟨HG3.out.1.below hb4, HG3.out.2.below hb4⟩
  clear hb4 HS3 HG3
  obtain ⟨d2, hd2⟩ : ∃ d, d = placeOk x.key x.window := ⟨_, rfl⟩
  rw [← hd2]
  have HD2 : Hid (d2 = placeOk x.key x.window) := hd2
  clear hd2
  cases d2
  · have HV : Hid (x.ok = false) := by show _ = _; unfold En.ok; rw [← HD2.out]; simp
    have HS := HS4
    go_wp2_with (first | go_skip | (with_reducible refine stopStore 77 rfl ?_))
    refine store_known 77 (w.heap.size + 1) _ (hc 0 0 none 0 0 (List.replicate 28 0)) 77 HS.out.2.1 rfl rfl rfl rfl (by kernel_rfl) rfl (by kernel_rfl) ?_
    go_wp2
    refine bodyPost_ret (results_row_tmp Try.results41 _ _ (w.heap.size + 1) _ _ _ _ rfl HS.out.2.1.setRow Try.underlying77 rfl (by kernel_rfl)) rfl ?_
    exact ⟨0, 0, none, 0, 0, List.replicate 28 0, (by rw [HV.out]; rfl), rfl, fun e => (by rw [HV.out] at e; cases e), below_setRow HS.out.2.2 (by omega) _⟩

  have k2 : w4.cell? ⟨w.heap.size, 2, none⟩ = some (.slice b l c) := by rw [HS4.out.1.cell]; rfl
  go_wp2_with fail
  refine (setOkImpl_any b l c x.ids F _ (HP.out.1.below HS4.out.2.2) HP.out.2.1).mono ?_
  rintro e w5 ⟨rfl, hb5⟩
  have HS5 : Hid (Blk w5 w.heap.size #[.int .i64 x.key, .int .i64 x.window, .slice b l c, .int .i64 x.sk.count, .int .i64 x.sk.sum, .int .i64 x.sk.min, .int .i64 x.sk.max, .slice a1 n1 c1, .slice a2 n2 c2, .slice a3 n3 c3] 30 ∧ Blk w5 (w.heap.size + 1) (hc 0 0 none 0 0 (List.replicate 28 0)) 77 ∧ Below w.heap.size w w5) := ⟨HS4.out.1.below hb5, HS4.out.2.1.below hb5, Below.next HS4.out.2.2 hb5⟩
  have HG5 : Hid (Blk w5 w1.heap.size (tc ys) 75 ∧ Blk w5 W2.heap.size #[.int .i64 x.key, .int .i64 x.window] 70) := ⟨HG4.out.1.below hb5, HG4.out.2.below hb5⟩
  have k5 : w5.cell? ⟨w.heap.size, 2, none⟩ = some (.slice b l c) := by rw [HS5.out.1.cell]; rfl
  clear hb5 HS4 HG4 k2
  obtain ⟨d3, hd3⟩ : ∃ d, d = x.ids.ok := ⟨_, rfl⟩
  rw [← hd3]
  have HD3 : Hid (d3 = x.ids.ok) := hd3
  clear hd3
  cases d3
  · have HV : Hid (x.ok = false) := by show _ = _; unfold En.ok; rw [← HD3.out]; simp
    have HS := HS5
    go_wp2_with (first | go_skip | (with_reducible refine stopStore 77 rfl ?_))
    refine store_known 77 (w.heap.size + 1) _ (hc 0 0 none 0 0 (List.replicate 28 0)) 77 HS.out.2.1 rfl rfl rfl rfl (by kernel_rfl) rfl (by kernel_rfl) ?_
    go_wp2
    refine bodyPost_ret (results_row_tmp Try.results41 _ _ (w.heap.size + 1) _ _ _ _ rfl HS.out.2.1.setRow Try.underlying77 rfl (by kernel_rfl)) rfl ?_
    exact ⟨0, 0, none, 0, 0, List.replicate 28 0, (by rw [HV.out]; rfl), rfl, fun e => (by rw [HV.out] at e; cases e), below_setRow HS.out.2.2 (by omega) _⟩

  by_cases h0 : l = 0
  · have HV : Hid (x.ok = false) := by show _ = _; unfold En.ok; rw [HP.out.2.2.1, h0]; simp
    subst h0
    have HS := HS5
    go_wp2_with (first | go_skip | (with_reducible refine stopStore 77 rfl ?_))
    refine store_known 77 (w.heap.size + 1) _ (hc 0 0 none 0 0 (List.replicate 28 0)) 77 HS.out.2.1 rfl rfl rfl rfl (by kernel_rfl) rfl (by kernel_rfl) ?_
    go_wp2
    refine bodyPost_ret (results_row_tmp Try.results41 _ _ (w.heap.size + 1) _ _ _ _ rfl HS.out.2.1.setRow Try.underlying77 rfl (by kernel_rfl)) rfl ?_
    exact ⟨0, 0, none, 0, 0, List.replicate 28 0, (by rw [HV.out]; rfl), rfl, fun e => (by rw [HV.out] at e; cases e), below_setRow HS.out.2.2 (by omega) _⟩

  have g1 : ((l : Int) == 0) = false := by simp; omega
  have HV : Hid (x.ok = true) := by show _ = _; unfold En.ok; rw [← HD.out, ← HD2.out, ← HD3.out, HP.out.2.2.1]; simp; omega
  clear h0
  go_wp2_with (first | go_skip | (with_reducible refine stopLoad 70 rfl ?_))
  refine load_any 70 W2.heap.size _ 70 _ HG5.out.2 rfl rfl rfl Try.underlying70 rfl (by kernel_rfl) ?_
  go_wp2_with (first | go_skip | (with_reducible refine stopLoad 75 rfl ?_))
  refine load_any 75 w1.heap.size (tc ys) 75 _ HG5.out.1 rfl rfl rfl Try.underlying75 rfl (tallySize HY.out.1) ?_
  go_wp2_with (first | go_skip | (with_reducible refine stopBuild 77 rfl ?_))
  refine built_any (.agg (hc x.key x.window b l c ys)) rfl rfl (by simp only [List.map_toArray, List.map_cons, List.map_nil]; exact build_hold _ _ _ _ _ _ _ HY.out.1) ?_
  go_wp2_with (first | go_skip | (with_reducible refine stopStore 77 rfl ?_))
  refine store_known 77 (w.heap.size + 1) _ (hc x.key x.window b l c ys) 77 HS5.out.2.1 rfl rfl rfl rfl (holdSize (hc_size HY.out.1)) (by rw [hc_size HY.out.1]; rfl) (hc_one ..) ?_
  go_wp2
  refine bodyPost_ret (results_row_tmp Try.results41 _ _ (w.heap.size + 1) _ _ _ _ rfl HS5.out.2.1.setRow Try.underlying77 rfl (holdSize (hc_size HY.out.1))) rfl ?_
  exact ⟨x.key, x.window, b, l, c, ys, (by rw [HV.out]; rfl), HY.out.1, fun _ => ⟨rfl, rfl, HY.out.2 HD.out.symm, HP.out.1, HP.out.2.2.2⟩, below_setRow HS5.out.2.2 (by omega) _⟩
set_option maxRecDepth 200000 in
set_option maxHeartbeats 1000000 in
theorem entryOkImpl_en (v : Value) (x : En) (F G : List Nat) (w : World) (h : RdEn w v x F G) (hw : x.sk.wide) (hl : x.ids.length ≤ 2097152) :
    Calls Try.prog 12 #[v] w fun e w' => e = .returned (.bool x.ok) ∧ Below w.heap.size w w' := by
  have HH : Hid (RdEn w v x F G ∧ x.sk.wide ∧ x.ids.length ≤ 2097152) := ⟨h, hw, hl⟩
  obtain ⟨b, l, c, a1, n1, c1, a2, n2, c2, a3, n3, c3, rfl, hp, hr, hcp⟩ := h
  have HT : Hid (Blk (w.alloc (.cells #[.int .i64 x.key, .int .i64 x.window, .slice b l c, .int .i64 x.sk.count, .int .i64 x.sk.sum, .int .i64 x.sk.min, .int .i64 x.sk.max, .slice a1 n1 c1, .slice a2 n2 c2, .slice a3 n3 c3] 30)) w.heap.size #[.int .i64 x.key, .int .i64 x.window, .slice b l c, .int .i64 x.sk.count, .int .i64 x.sk.sum, .int .i64 x.sk.min, .int .i64 x.sk.max, .slice a1 n1 c1, .slice a2 n2 c2, .slice a3 n3 c3] 30 ∧ Below w.heap.size w (w.alloc (.cells #[.int .i64 x.key, .int .i64 x.window, .slice b l c, .int .i64 x.sk.count, .int .i64 x.sk.sum, .int .i64 x.sk.min, .int .i64 x.sk.max, .slice a1 n1 c1, .slice a2 n2 c2, .slice a3 n3 c3] 30))) := ⟨Blk.made _ _ _, (Below.refl _ _).alloc (Nat.le_refl _) _⟩
  clear hp hr hcp hw hl
  go_enter Try.func12, Try.ntmps12
  go_wp2_with (first | go_skip | (with_reducible refine stopLoad 30 rfl ?_))
  refine load_any 30 w.heap.size _ 30 _ HT.out.1 rfl rfl rfl Try.underlying30 rfl (by kernel_rfl) ?_
  go_wp2_with fail
  refine (okHolding_any _ x F G _ (HH.out.1.below HT.out.2) HH.out.2.1 HH.out.2.2).mono ?_
  rintro e w1 ⟨k, p, a, l', c', ys, rfl, hy, _, hb1⟩
  have HB : Hid (ys.length = 28 ∧ Below w.heap.size w w1) := ⟨hy, Below.next HT.out.2 hb1⟩
  clear hb1 hy
  obtain ⟨d, hd⟩ : ∃ d, d = x.ok := ⟨_, rfl⟩
  rw [← hd]
  have HD : Hid (d = x.ok) := hd
  clear hd
  go_wp2_with (first | go_skip | (with_reducible refine stopStore 77 rfl ?_))
  refine store_fresh 77 w1.heap.size rfl (hc 0 0 none 0 0 (List.replicate 28 0)) (hc k p a l' c' ys) 77 rfl rfl rfl rfl (holdSize (hc_size HB.out.1)) (by rw [hc_size HB.out.1]; rfl) (hc_one ..) ?_
  intro W2 _ hb2
  have HB2 : Hid (Below w.heap.size w W2) := Below.next HB.out.2 hb2
  clear hb2
  go_wp2
  go_ret
  exact ⟨ret_bool HD.out, HB2.out⟩
end Go.Proofs.Ytjndcfamfminkab
/- The walks through the program's itemSame, FrameSame, areSeqs, itemFits and FrameOk. No statement of the seat is proved here. -/
namespace Go.Proofs.Ytjndcfamfminkab
open Go.RowKit
set_option maxRecDepth 200000 in
set_option maxHeartbeats 4000000 in
theorem itemSame_any (v u : Value) (x y : It) (F G : List Nat) (w : World) (h : RdIt w v x F) (k : RdIt w u y G) (hx : x.sk.wide) (hy : y.sk.wide) :
    Calls Try.prog 128 #[v, u] w fun e w' => e = .returned (.bool (decide (x = y))) ∧ Below w.heap.size w w' := by
  obtain ⟨a1, n1, nc1, a2, n2, nc2, a3, n3, nc3, rfl, sx⟩ := h
  obtain ⟨b1, m1, mc1, b2, m2, mc2, b3, m3, mc3, rfl, sy⟩ := k
  have HX : Hid (RdSk w (.agg #[.int .i64 x.sk.count, .int .i64 x.sk.sum, .int .i64 x.sk.min, .int .i64 x.sk.max, .slice a1 n1 nc1, .slice a2 n2 nc2, .slice a3 n3 nc3]) x.sk F ∧ RdSk w (.agg #[.int .i64 y.sk.count, .int .i64 y.sk.sum, .int .i64 y.sk.min, .int .i64 y.sk.max, .slice b1 m1 mc1, .slice b2 m2 mc2, .slice b3 m3 mc3]) y.sk G ∧ x.sk.wide ∧ y.sk.wide) := ⟨sx, sy, hx, hy⟩
  have HT : Hid (_ ∧ _ ∧ _) := two_made w #[.int .i64 x.seq, .int .i64 x.cls, .int .i64 x.key, .int .i64 x.window, .int .i64 x.sk.count, .int .i64 x.sk.sum, .int .i64 x.sk.min, .int .i64 x.sk.max, .slice a1 n1 nc1, .slice a2 n2 nc2, .slice a3 n3 nc3] #[.int .i64 y.seq, .int .i64 y.cls, .int .i64 y.key, .int .i64 y.window, .int .i64 y.sk.count, .int .i64 y.sk.sum, .int .i64 y.sk.min, .int .i64 y.sk.max, .slice b1 m1 mc1, .slice b2 m2 mc2, .slice b3 m3 mc3] 40 40
  obtain ⟨d, hd⟩ : ∃ d, d = decide (x = y) := ⟨_, rfl⟩
  rw [← hd]
  have HD : Hid (d = decide (x = y)) := hd
  clear sx sy hx hy hd
  have k0 := HT.out.1.cell 0
  have j0 := HT.out.2.1.cell 0
  have k1 := HT.out.1.cell 1
  have j1 := HT.out.2.1.cell 1
  have k2 := HT.out.1.cell 2
  have j2 := HT.out.2.1.cell 2
  have k3 := HT.out.1.cell 3
  have j3 := HT.out.2.1.cell 3
  simp only [aT, aS, aZ] at k0 j0 k1 j1 k2 j2 k3 j3
  by_cases c1 : x.seq = y.seq
  rotate_left
  · have HV : Hid (d = false) := by show d = _; rw [HD.out]; exact dec_false (fun e => c1 (by rw [e]))
    have z1 : (x.seq == y.seq) = false := by simpa using c1
    clear c1
    go_enter Try.func128, Try.ntmps128
    go_wp2
    go_ret
    exact ⟨ret_bool HV.out.symm, HT.out.2.2⟩
  have z1 : (x.seq == y.seq) = true := by simpa using c1
  by_cases c2 : x.cls = y.cls
  rotate_left
  · have HV : Hid (d = false) := by show d = _; rw [HD.out]; exact dec_false (fun e => c2 (by rw [e]))
    have z2 : (x.cls == y.cls) = false := by simpa using c2
    clear c1 c2
    go_enter Try.func128, Try.ntmps128
    go_wp2
    go_ret
    exact ⟨ret_bool HV.out.symm, HT.out.2.2⟩
  have z2 : (x.cls == y.cls) = true := by simpa using c2
  by_cases c3 : x.key = y.key
  rotate_left
  · have HV : Hid (d = false) := by show d = _; rw [HD.out]; exact dec_false (fun e => c3 (by rw [e]))
    have z3 : (x.key == y.key) = false := by simpa using c3
    clear c1 c2 c3
    go_enter Try.func128, Try.ntmps128
    go_wp2
    go_ret
    exact ⟨ret_bool HV.out.symm, HT.out.2.2⟩
  have z3 : (x.key == y.key) = true := by simpa using c3
  by_cases c4 : x.window = y.window
  rotate_left
  · have HV : Hid (d = false) := by show d = _; rw [HD.out]; exact dec_false (fun e => c4 (by rw [e]))
    have z4 : (x.window == y.window) = false := by simpa using c4
    clear c1 c2 c3 c4
    go_enter Try.func128, Try.ntmps128
    go_wp2
    go_ret
    exact ⟨ret_bool HV.out.symm, HT.out.2.2⟩
  have z4 : (x.window == y.window) = true := by simpa using c4
  have HC : Hid (x.seq = y.seq ∧ x.cls = y.cls ∧ x.key = y.key ∧ x.window = y.window) := ⟨c1, c2, c3, c4⟩
  clear c1 c2 c3 c4
  go_enter Try.func128, Try.ntmps128
  go_wp2_with (first | go_skip | (with_reducible refine stopLoad 28 rfl ?_))
  refine load_cutw 28 w.heap.size 4 7 _ #[.int .i64 x.sk.count, .int .i64 x.sk.sum, .int .i64 x.sk.min, .int .i64 x.sk.max, .slice a1 n1 nc1, .slice a2 n2 nc2, .slice a3 n3 nc3] 40 _ HT.out.1 rfl rfl rfl Try.underlying28 rfl infoSkI (by simp) rfl ?_
  go_wp2_with (first | go_skip | (with_reducible refine stopLoad 28 rfl ?_))
  refine load_cutw 28 (w.heap.size + 1) 4 7 _ #[.int .i64 y.sk.count, .int .i64 y.sk.sum, .int .i64 y.sk.min, .int .i64 y.sk.max, .slice b1 m1 mc1, .slice b2 m2 mc2, .slice b3 m3 mc3] 40 _ HT.out.2.1 rfl rfl rfl Try.underlying28 rfl infoSkI (by simp) rfl ?_
  go_wp2_with fail
  refine (sameImpl_any _ _ x.sk y.sk F G _ (HX.out.1.below HT.out.2.2) (HX.out.2.1.below HT.out.2.2) HX.out.2.2.1 HX.out.2.2.2).mono ?_
  rintro e w2 ⟨rfl, b2⟩
  have HB2 : Hid (Below w.heap.size w w2) := Below.next HT.out.2.2 b2
  clear b2
  obtain ⟨d2, hd2⟩ : ∃ d, d = decide (x.sk = y.sk) := ⟨_, rfl⟩
  rw [← hd2]
  have HV : Hid (d2 = d) := by
    show _ = _
    rw [hd2, HD.out]
    by_cases e : x.sk = y.sk
    · rw [dec_true e, dec_true (It.eq_of HC.out.1 HC.out.2.1 HC.out.2.2.1 HC.out.2.2.2 e)]
    · rw [dec_false e, dec_false (fun q => e (by rw [q]))]
  clear hd2
  go_wp2
  go_ret
  exact ⟨ret_bool HV.out, HB2.out⟩
set_option maxRecDepth 200000 in
set_option maxHeartbeats 2000000 in
theorem areSeqs_any (a : Option Addr) (len cap : Nat) (m : Int) (ps : Sp) (F : List Nat) (w : World) (h : RdP w a len ps F) (hlen : len ≤ 2097152) :
    Calls Try.prog 90 #[.slice a len cap, .int .i64 m] w fun e w' => e = .returned (.bool (ps.ok && ps.under m)) ∧ Below w.heap.size w w' := by
  have HL : Hid (ps.length = len ∧ RdP w a len ps F) := ⟨h.length, h⟩
  have HC : Hid (len = 0 ∨ ∃ b off, a = some ⟨b, off, none⟩ ∧ b < w.heap.size ∧ SpCells w b off len ps) := cells_of h
  clear h
  go_enter Try.func90, Try.ntmps90
  go_wp2
  go_loopw [9] (fun i wr => ∃ (k : Nat), k ≤ len ∧ i = .int .i64 k ∧ Hid (Below w.heap.size w wr) ∧ Hid (∀ j, j < k → 1 ≤ (ps.at j).1 ∧ (ps.at j).2 ≤ m)) (fun i _ => len - (intOf i).toNat)
  case atStart => exact ⟨0, by omega, rfl, Below.refl _ _, fun j hj => by omega⟩
  case round =>
    obtain ⟨k, hk, rfl, HB, HN⟩ := hrel
    by_cases hlt : k < len
    · have hca := HC.out
      rcases hca with h0 | ⟨b, off, rfl, hbw, hc⟩
      · omega
      obtain ⟨x, hx⟩ : ∃ x, x = (ps.at k).1 := ⟨_, rfl⟩
      obtain ⟨y, hy⟩ : ∃ x, x = (ps.at k).2 := ⟨_, rfl⟩
      have e := hc k hlt
      rw [← hx, ← hy] at e
      have d1 : wr.cell? ⟨b, off + k * 2, none⟩ = some (.int .i64 x) := (HB.out.cell (by exact hbw)).trans e.1
      have d2 : wr.cell? ⟨b, off + k * 2 + 1, none⟩ = some (.int .i64 y) := (HB.out.cell (by exact hbw)).trans e.2
      have HX : Hid (x = (ps.at k).1 ∧ y = (ps.at k).2 ∧ k < ps.length) := ⟨hx, hy, by rw [HL.out.1]; exact hlt⟩
      have HB2 : Hid (Below w.heap.size w (wr.alloc (.cells #[.int .i64 x, .int .i64 y] 87))) := Below.allocW _ HB.out (Nat.le_refl _)
      have hI : (k : Int) < (len : Int) := by omega
      clear e hx hy hc HB
      by_cases h1 : x < 1
      · have HV : Hid ((ps.ok && ps.under m) = false) := by
          show _ = _
          rw [Sp.under_not HX.out.2.2 (fun e => absurd e.1 (by rw [← HX.out.1]; omega)), Bool.and_false]
        go_wp2
        go_ret
        exact ⟨ret_bool HV.out.symm, HB2.out⟩
      by_cases h2 : m < y
      · have HV : Hid ((ps.ok && ps.under m) = false) := by
          show _ = _
          rw [Sp.under_not HX.out.2.2 (fun e => absurd e.2 (by rw [← HX.out.2.1]; omega)), Bool.and_false]
        go_wp2
        go_ret
        exact ⟨ret_bool HV.out.symm, HB2.out⟩
      have HN2 : Hid (∀ j, j < k + 1 → 1 ≤ (ps.at j).1 ∧ (ps.at j).2 ≤ m) := all_up HN.out ⟨by rw [← HX.out.1]; omega, by rw [← HX.out.2.1]; omega⟩
      go_wp2
      go_roundw
      case rel => exact ⟨k + 1, by omega, by go_num, HB2, HN2⟩
      case measure => simp [intOf]; omega
    · obtain rfl : k = len := by omega
      have HV : Hid (ps.under m = true) := Sp.under_all (fun j hj => HN.out j (by have := HL.out.1; omega))
      go_wp2_with fail
      refine (setOkImpl_any a k cap ps F _ (HL.out.2.below HB.out) hlen).mono ?_
      rintro e w2 ⟨rfl, hb2⟩
      have HB2 : Hid (Below w.heap.size w w2) := Below.next HB.out hb2
      clear hb2
      obtain ⟨d, hd⟩ : ∃ d, d = ps.ok := ⟨_, rfl⟩
      rw [← hd]
      have HD : Hid (d = ps.ok) := hd
      clear hd
      go_wp2
      go_ret
      rw [HV.out, Bool.and_true]
      exact ⟨ret_bool HD.out, HB2.out⟩
theorem infoFrF7 : (Try.prog.info? 51).map (·.size) = some 16 := by kernel_rfl
theorem rdIt_zero (w : World) : RdIt w (.agg #[.int .i64 0, .int .i64 0, .int .i64 0, .int .i64 0, .int .i64 0, .int .i64 0, .int .i64 0, .int .i64 0, .slice none 0 0, .slice none 0 0, .slice none 0 0]) It.zero [] := by
  refine ⟨none, 0, 0, none, 0, 0, none, 0, 0, rfl, ?_⟩
  exact ⟨none, 0, 0, none, 0, 0, none, 0, 0, [], [], [], rfl, ⟨rfl, .inl ⟨rfl, rfl⟩⟩, ⟨rfl, .inl ⟨rfl, rfl⟩⟩, ⟨rfl, .inl ⟨rfl, rfl⟩⟩, rfl⟩
theorem It.zero_wide : It.zero.sk.wide := ⟨by simp [It.zero, Sk.zero], by simp [It.zero, Sk.zero], by simp [It.zero, Sk.zero], by simp [It.zero, Sk.zero]⟩
set_option maxRecDepth 200000 in
set_option maxHeartbeats 2000000 in
theorem itemFits_any (v : Value) (x : Fr) (F G : List Nat) (w : World) (h : RdFr w v x F G) (hw : x.item.sk.wide) :
    Calls Try.prog 91 #[v] w fun e w' => e = .returned (.bool (if x.kind = 1 then x.item.ok else decide (x.item = It.zero))) ∧ Below w.heap.size w w' := by
  obtain ⟨b, l, c, a1, n1, c1, a2, n2, c2, a3, n3, c3, rfl, _, hr, _⟩ := h
  have HR : Hid (RdIt w (.agg #[.int .i64 x.item.seq, .int .i64 x.item.cls, .int .i64 x.item.key, .int .i64 x.item.window, .int .i64 x.item.sk.count, .int .i64 x.item.sk.sum, .int .i64 x.item.sk.min, .int .i64 x.item.sk.max, .slice a1 n1 c1, .slice a2 n2 c2, .slice a3 n3 c3]) x.item G ∧ x.item.sk.wide) := ⟨hr, hw⟩
  have HB : Hid (Below w.heap.size w (w.alloc (.cells #[.int .i64 x.kind, .int .i64 x.agent, .int .i64 x.epoch, .int .i64 x.granted, .slice b l c, .int .i64 x.item.seq, .int .i64 x.item.cls, .int .i64 x.item.key, .int .i64 x.item.window, .int .i64 x.item.sk.count, .int .i64 x.item.sk.sum, .int .i64 x.item.sk.min, .int .i64 x.item.sk.max, .slice a1 n1 c1, .slice a2 n2 c2, .slice a3 n3 c3] 51)) ∧ Blk (w.alloc (.cells #[.int .i64 x.kind, .int .i64 x.agent, .int .i64 x.epoch, .int .i64 x.granted, .slice b l c, .int .i64 x.item.seq, .int .i64 x.item.cls, .int .i64 x.item.key, .int .i64 x.item.window, .int .i64 x.item.sk.count, .int .i64 x.item.sk.sum, .int .i64 x.item.sk.min, .int .i64 x.item.sk.max, .slice a1 n1 c1, .slice a2 n2 c2, .slice a3 n3 c3] 51)) w.heap.size #[.int .i64 x.kind, .int .i64 x.agent, .int .i64 x.epoch, .int .i64 x.granted, .slice b l c, .int .i64 x.item.seq, .int .i64 x.item.cls, .int .i64 x.item.key, .int .i64 x.item.window, .int .i64 x.item.sk.count, .int .i64 x.item.sk.sum, .int .i64 x.item.sk.min, .int .i64 x.item.sk.max, .slice a1 n1 c1, .slice a2 n2 c2, .slice a3 n3 c3] 51) := ⟨Below.allocW _ (Below.refl _ _) (Nat.le_refl _), Blk.made _ _ _⟩
  have k0 := HB.out.2.cell 0
  simp only [aT, aZ] at k0
  clear hr hw
  obtain ⟨z, hz⟩ : ∃ z, z = (if x.kind = 1 then x.item.ok else decide (x.item = It.zero)) := ⟨_, rfl⟩
  rw [← hz]
  by_cases h1 : x.kind = 1
  · have e1 : (x.kind == 1) = true := by simpa using h1
    have HV : Hid (z = x.item.ok) := hz.trans (if_pos h1)
    clear hz
    clear h1
    go_enter Try.func91, Try.ntmps91
    go_wp2_with (first | go_skip | (with_reducible refine stopLoad 40 rfl ?_))
    refine load_cut 40 w.heap.size 5 11 _ #[.int .i64 x.item.seq, .int .i64 x.item.cls, .int .i64 x.item.key, .int .i64 x.item.window, .int .i64 x.item.sk.count, .int .i64 x.item.sk.sum, .int .i64 x.item.sk.min, .int .i64 x.item.sk.max, .slice a1 n1 c1, .slice a2 n2 c2, .slice a3 n3 c3] 51 _ HB.out.2 rfl rfl rfl Try.underlying40 rfl infoItA7 (by simp) rfl ?_
    go_wp2_with fail
    refine (itemOkImpl_any _ x.item G _ (HR.out.1.below HB.out.1) HR.out.2).mono ?_
    rintro e w3 ⟨rfl, hb3⟩
    have HB3 : Hid (Below w.heap.size w w3) := Below.next HB.out.1 hb3
    clear hb3
    obtain ⟨d, hd⟩ : ∃ d, d = x.item.ok := ⟨_, rfl⟩
    rw [← hd] at HV ⊢
    clear hd
    go_wp2
    go_ret
    exact ⟨ret_bool HV.out.symm, HB3.out⟩
  · have e1 : (x.kind == 1) = false := by simpa using h1
    have HV : Hid (z = decide (x.item = It.zero)) := hz.trans (if_neg h1)
    clear hz
    clear h1
    go_enter Try.func91, Try.ntmps91
    go_wp2_with (first | go_skip | (with_reducible refine stopLoad 40 rfl ?_))
    refine load_cut 40 w.heap.size 5 11 _ #[.int .i64 x.item.seq, .int .i64 x.item.cls, .int .i64 x.item.key, .int .i64 x.item.window, .int .i64 x.item.sk.count, .int .i64 x.item.sk.sum, .int .i64 x.item.sk.min, .int .i64 x.item.sk.max, .slice a1 n1 c1, .slice a2 n2 c2, .slice a3 n3 c3] 51 _ HB.out.2 rfl rfl rfl Try.underlying40 rfl infoItA7 (by simp) rfl ?_
    go_wp2_with fail
    refine (itemSame_any _ _ x.item It.zero G [] _ (HR.out.1.below HB.out.1) (rdIt_zero _) HR.out.2 It.zero_wide).mono ?_
    rintro e w3 ⟨rfl, hb3⟩
    have HB3 : Hid (Below w.heap.size w w3) := Below.next HB.out.1 hb3
    clear hb3
    obtain ⟨d, hd⟩ : ∃ d, d = decide (x.item = It.zero) := ⟨_, rfl⟩
    rw [← hd] at HV ⊢
    clear hd
    go_wp2
    go_ret
    exact ⟨ret_bool HV.out.symm, HB3.out⟩
set_option maxRecDepth 200000 in
set_option maxHeartbeats 4000000 in
theorem frameOkImpl_any (v : Value) (x : Fr) (F G : List Nat) (w : World) (h : RdFr w v x F G) (hw : x.item.sk.wide) (hl : x.taken.length ≤ 2097152) :
    Calls Try.prog 37 #[v] w fun e w' => e = .returned (.bool x.ok) ∧ Below w.heap.size w w' := by
  have HH : Hid (RdFr w v x F G ∧ x.item.sk.wide) := ⟨h, hw⟩
  obtain ⟨b, l, c, a1, n1, c1, a2, n2, c2, a3, n3, c3, rfl, hp, hr, _⟩ := h
  have HP : Hid (RdP w b l x.taken F ∧ l ≤ 2097152 ∧ x.taken.length = l) := ⟨hp, by rw [← hp.length]; exact hl, hp.length⟩
  have HB : Hid (Below w.heap.size w (w.alloc (.cells #[.int .i64 x.kind, .int .i64 x.agent, .int .i64 x.epoch, .int .i64 x.granted, .slice b l c, .int .i64 x.item.seq, .int .i64 x.item.cls, .int .i64 x.item.key, .int .i64 x.item.window, .int .i64 x.item.sk.count, .int .i64 x.item.sk.sum, .int .i64 x.item.sk.min, .int .i64 x.item.sk.max, .slice a1 n1 c1, .slice a2 n2 c2, .slice a3 n3 c3] 51)) ∧ Blk (w.alloc (.cells #[.int .i64 x.kind, .int .i64 x.agent, .int .i64 x.epoch, .int .i64 x.granted, .slice b l c, .int .i64 x.item.seq, .int .i64 x.item.cls, .int .i64 x.item.key, .int .i64 x.item.window, .int .i64 x.item.sk.count, .int .i64 x.item.sk.sum, .int .i64 x.item.sk.min, .int .i64 x.item.sk.max, .slice a1 n1 c1, .slice a2 n2 c2, .slice a3 n3 c3] 51)) w.heap.size #[.int .i64 x.kind, .int .i64 x.agent, .int .i64 x.epoch, .int .i64 x.granted, .slice b l c, .int .i64 x.item.seq, .int .i64 x.item.cls, .int .i64 x.item.key, .int .i64 x.item.window, .int .i64 x.item.sk.count, .int .i64 x.item.sk.sum, .int .i64 x.item.sk.min, .int .i64 x.item.sk.max, .slice a1 n1 c1, .slice a2 n2 c2, .slice a3 n3 c3] 51) := ⟨Below.allocW _ (Below.refl _ _) (Nat.le_refl _), Blk.made _ _ _⟩
  clear hr hw hp hl
  go_enter Try.func37, Try.ntmps37
  go_wp2_with fail
  refine (inRange_any _ _ _).mono ?_
  rintro e w2 ⟨rfl, hw2⟩
  have hw2' := hw2.symm
  subst hw2'
  clear hw2
  obtain ⟨d1, hd1⟩ : ∃ d, d = decide (0 ≤ x.kind ∧ x.kind ≤ 3) := ⟨_, rfl⟩
  rw [← hd1]
  have HD1 : Hid (d1 = decide (0 ≤ x.kind ∧ x.kind ≤ 3)) := hd1
  clear hd1
  cases d1
  · have HV : Hid (x.ok = false) := by show _ = _; unfold Fr.ok; rw [← HD1.out]; rfl
    go_wp2
    go_ret
    exact ⟨ret_bool HV.out.symm, HB.out.1⟩
  go_wp2_with fail
  refine (inRange_any _ _ _).mono ?_
  rintro e w2 ⟨rfl, hw2⟩
  have hw2' := hw2.symm
  subst hw2'
  clear hw2
  obtain ⟨d2, hd2⟩ : ∃ d, d = decide (0 ≤ x.agent ∧ x.agent ≤ 2) := ⟨_, rfl⟩
  rw [← hd2]
  have HD2 : Hid (d2 = decide (0 ≤ x.agent ∧ x.agent ≤ 2)) := hd2
  clear hd2
  cases d2
  · have HV : Hid (x.ok = false) := by show _ = _; unfold Fr.ok; rw [← HD1.out, ← HD2.out]; rfl
    go_wp2
    go_ret
    exact ⟨ret_bool HV.out.symm, HB.out.1⟩
  go_wp2_with fail
  refine (inRange_any _ _ _).mono ?_
  rintro e w2 ⟨rfl, hw2⟩
  have hw2' := hw2.symm
  subst hw2'
  clear hw2
  obtain ⟨d3, hd3⟩ : ∃ d, d = decide (0 ≤ x.epoch ∧ x.epoch ≤ 1000) := ⟨_, rfl⟩
  rw [← hd3]
  have HD3 : Hid (d3 = decide (0 ≤ x.epoch ∧ x.epoch ≤ 1000)) := hd3
  clear hd3
  cases d3
  · have HV : Hid (x.ok = false) := by show _ = _; unfold Fr.ok; rw [← HD1.out, ← HD2.out, ← HD3.out]; rfl
    go_wp2
    go_ret
    exact ⟨ret_bool HV.out.symm, HB.out.1⟩
  go_wp2_with fail
  refine (inRange_any _ _ _).mono ?_
  rintro e w2 ⟨rfl, hw2⟩
  have hw2' := hw2.symm
  subst hw2'
  clear hw2
  obtain ⟨d4, hd4⟩ : ∃ d, d = decide (0 ≤ x.granted ∧ x.granted ≤ 60) := ⟨_, rfl⟩
  rw [← hd4]
  have HD4 : Hid (d4 = decide (0 ≤ x.granted ∧ x.granted ≤ 60)) := hd4
  clear hd4
  cases d4
  · have HV : Hid (x.ok = false) := by show _ = _; unfold Fr.ok; rw [← HD1.out, ← HD2.out, ← HD3.out, ← HD4.out]; rfl
    go_wp2
    go_ret
    exact ⟨ret_bool HV.out.symm, HB.out.1⟩
  go_wp2_with fail
  refine (areSeqs_any b l c 60 x.taken F _ (HP.out.1.below HB.out.1) HP.out.2.1).mono ?_
  rintro e w2 ⟨rfl, hb2⟩
  have HB2 : Hid (Below w.heap.size w w2 ∧ Blk w2 w.heap.size #[.int .i64 x.kind, .int .i64 x.agent, .int .i64 x.epoch, .int .i64 x.granted, .slice b l c, .int .i64 x.item.seq, .int .i64 x.item.cls, .int .i64 x.item.key, .int .i64 x.item.window, .int .i64 x.item.sk.count, .int .i64 x.item.sk.sum, .int .i64 x.item.sk.min, .int .i64 x.item.sk.max, .slice a1 n1 c1, .slice a2 n2 c2, .slice a3 n3 c3] 51) := ⟨Below.next HB.out.1 hb2, HB.out.2.below hb2⟩
  clear hb2
  obtain ⟨d5, hd5⟩ : ∃ d, d = (x.taken.ok && x.taken.under 60) := ⟨_, rfl⟩
  rw [← hd5]
  have HD5 : Hid (d5 = (x.taken.ok && x.taken.taken)) := hd5
  clear hd5
  cases d5
  · have HV : Hid (x.ok = false) := by
      show _ = _
      unfold Fr.ok
      rw [Bool.and_assoc _ x.taken.ok x.taken.taken, ← HD1.out, ← HD2.out, ← HD3.out, ← HD4.out, ← HD5.out]; rfl
    go_wp2
    go_ret
    exact ⟨ret_bool HV.out.symm, HB2.out.1⟩
  have HV : Hid (x.ok = (if x.kind = 1 then x.item.ok else decide (x.item = It.zero))) := by
    show _ = _
    unfold Fr.ok
    rw [Bool.and_assoc _ x.taken.ok x.taken.taken, ← HD1.out, ← HD2.out, ← HD3.out, ← HD4.out, ← HD5.out]; rfl
  go_wp2_with (first | go_skip | (with_reducible refine stopLoad 51 rfl ?_))
  refine load_cutw 51 w.heap.size 0 16 _ #[.int .i64 x.kind, .int .i64 x.agent, .int .i64 x.epoch, .int .i64 x.granted, .slice b l c, .int .i64 x.item.seq, .int .i64 x.item.cls, .int .i64 x.item.key, .int .i64 x.item.window, .int .i64 x.item.sk.count, .int .i64 x.item.sk.sum, .int .i64 x.item.sk.min, .int .i64 x.item.sk.max, .slice a1 n1 c1, .slice a2 n2 c2, .slice a3 n3 c3] 51 _ HB2.out.2 rfl rfl rfl Try.underlying51 rfl infoFrF7 (by simp) rfl ?_
  go_wp2_with fail
  refine (itemFits_any _ x F G _ (HH.out.1.below HB2.out.1) HH.out.2).mono ?_
  rintro e w3 ⟨rfl, hb3⟩
  have HB3 : Hid (Below w.heap.size w w3) := Below.next HB2.out.1 hb3
  clear hb3
  obtain ⟨d, hd⟩ : ∃ d, d = (if x.kind = 1 then x.item.ok else decide (x.item = It.zero)) := ⟨_, rfl⟩
  rw [← hd] at HV ⊢
  clear hd
  go_wp2
  go_ret
  exact ⟨ret_bool HV.out.symm, HB3.out⟩
end Go.Proofs.Ytjndcfamfminkab
/- The walks through the program's SketchBytes, numbersOfItem, crcBytes. No statement of the seat is proved here. -/
namespace Go.Proofs.Ytjndcfamfminkab
open Go.RowKit
theorem tl_nums {s : Sk} (h : s.lens7) : s.tl = s.nums := by
  unfold Sk.tl Sk.nums
  conv => rhs; rw [two_rows7 h.rows]
  simp
theorem ok_shaped {s : Sk} (h : s.ok = true) : s.shaped = true := by
  have l := (Sk.ok_lens h).1
  cases q : s.shaped
  · have e : okT s s.tl = false := by unfold okT; rw [q]; rfl
    rw [okT_ok (fun _ => rfl), h] at e
    cases e
  · rfl
def ItHeld (g : Nat) (cs : Array Value) (k : Nat) (ys : List Int) (W : World) : Prop := Blk W g cs 40 ∧ Blk W k (tc ys) 75
set_option maxRecDepth 200000 in
set_option maxHeartbeats 4000000 in
theorem numbersOfItem_any (v : Value) (x : It) (F : List Nat) (w : World) (h : RdIt w v x F) (hok : x.sk.ok = true) (hw : x.sk.wide) :
    Calls Try.prog 118 #[v] w fun e w' => ∃ u, e = .returned u ∧ w'.ownsRow w.heap.size 3 1 u 32 (([x.seq, x.cls, x.key, x.window] ++ x.sk.nums).map (Value.int .i64)) ∧ Below w.heap.size w w' := by
  obtain ⟨i0, hi, hz0, hz1, hz2⟩ := info_parts infoInt
  obtain ⟨a1, n1, c1, a2, n2, c2, a3, n3, c3, rfl, hr⟩ := h
  have HR : Hid (RdSk w (.agg #[.int .i64 x.sk.count, .int .i64 x.sk.sum, .int .i64 x.sk.min, .int .i64 x.sk.max, .slice a1 n1 c1, .slice a2 n2 c2, .slice a3 n3 c3]) x.sk F ∧ x.sk.wide ∧ x.sk.ok = true) := ⟨hr, hw, hok⟩
  have HT : Hid (Blk (w.alloc (.cells #[.int .i64 x.seq, .int .i64 x.cls, .int .i64 x.key, .int .i64 x.window, .int .i64 x.sk.count, .int .i64 x.sk.sum, .int .i64 x.sk.min, .int .i64 x.sk.max, .slice a1 n1 c1, .slice a2 n2 c2, .slice a3 n3 c3] 40)) w.heap.size #[.int .i64 x.seq, .int .i64 x.cls, .int .i64 x.key, .int .i64 x.window, .int .i64 x.sk.count, .int .i64 x.sk.sum, .int .i64 x.sk.min, .int .i64 x.sk.max, .slice a1 n1 c1, .slice a2 n2 c2, .slice a3 n3 c3] 40 ∧ Below w.heap.size w (w.alloc (.cells #[.int .i64 x.seq, .int .i64 x.cls, .int .i64 x.key, .int .i64 x.window, .int .i64 x.sk.count, .int .i64 x.sk.sum, .int .i64 x.sk.min, .int .i64 x.sk.max, .slice a1 n1 c1, .slice a2 n2 c2, .slice a3 n3 c3] 40))) := ⟨Blk.made _ _ _, (Below.refl _ _).alloc (Nat.le_refl _) _⟩
  clear hr hw hok
  go_enter Try.func118, Try.ntmps118
  go_wp2_with (first | go_skip | (with_reducible refine stopLoad 28 rfl ?_))
  refine load_cut 28 w.heap.size 4 7 _ #[.int .i64 x.sk.count, .int .i64 x.sk.sum, .int .i64 x.sk.min, .int .i64 x.sk.max, .slice a1 n1 c1, .slice a2 n2 c2, .slice a3 n3 c3] 40 _ HT.out.1 rfl rfl rfl Try.underlying28 rfl infoSkI (by simp) rfl ?_
  go_wp2_with fail
  refine (okTally_any _ x.sk F _ (HR.out.1.below HT.out.2) HR.out.2.1).mono ?_
  rintro e w1 ⟨xs, ys, rfl, _, hy, hx, hxy, hb1⟩
  obtain ⟨d, hd⟩ : ∃ d, d = okT x.sk xs := ⟨_, rfl⟩
  have HB : Hid (ys.length = 28 ∧ ys = x.sk.nums ∧ Below w.heap.size w w1 ∧ Blk w1 w.heap.size #[.int .i64 x.seq, .int .i64 x.cls, .int .i64 x.key, .int .i64 x.window, .int .i64 x.sk.count, .int .i64 x.sk.sum, .int .i64 x.sk.min, .int .i64 x.sk.max, .slice a1 n1 c1, .slice a2 n2 c2, .slice a3 n3 c3] 40) := ⟨hy, by rw [hxy (by rw [okT_ok hx]; exact HR.out.2.2), hx (ok_shaped HR.out.2.2), tl_nums (Sk.ok_lens HR.out.2.2).1], Below.next HT.out.2 hb1, HT.out.1.below hb1⟩
  rw [← hd]
  clear hb1 hy hx hxy hd HT
  go_wp2_with (with_reducible refine stopStore 75 rfl ?_)
  refine store_fresh 75 w1.heap.size rfl (tc (List.replicate 28 0)) (tc ys) 75 rfl rfl rfl rfl (tallySize HB.out.1) (by rw [tc_size, tc_size, HB.out.1]; rfl) (tc_one _) ?_
  intro W2 hg2 hb2
  have HB2 : Hid (ItHeld w.heap.size #[.int .i64 x.seq, .int .i64 x.cls, .int .i64 x.key, .int .i64 x.window, .int .i64 x.sk.count, .int .i64 x.sk.sum, .int .i64 x.sk.min, .int .i64 x.sk.max, .slice a1 n1 c1, .slice a2 n2 c2, .slice a3 n3 c3] w1.heap.size ys W2.drew ∧ Below w.heap.size w W2.drew) := ⟨⟨(HB.out.2.2.2.below hb2).drew, hg2.drew⟩, (Below.next HB.out.2.2.1 hb2).drew⟩
  clear hb2 hg2
  go_wp2
  refine wp_region_held (S := ItHeld w.heap.size #[.int .i64 x.seq, .int .i64 x.cls, .int .i64 x.key, .int .i64 x.window, .int .i64 x.sk.count, .int .i64 x.sk.sum, .int .i64 x.sk.min, .int .i64 x.sk.max, .slice a1 n1 c1, .slice a2 n2 c2, .slice a3 n3 c3] w1.heap.size ys) (by kernel_rfl) ?_
  change wpAnyH _ _ _ _ _ _ _ _ (World.drew _)
  refine takeH (o := ?o1) 0 (.pointer (some ⟨w.heap.size, 0, none⟩)) ?h1 ?r1
  case h1 => simp only [aT, aZ]; rfl
  refine ⟨_, by simp [Act.put]; rfl, by kernel_rfl, by kernel_rfl, by kernel_rfl, fun _ _ _ h => h, (.inl ⟨rfl, fun W _ => by go_simp⟩), HB2.out.1, ?_⟩
  refine takeH (o := ?o2) 1 (.int .i64 x.seq) ?h2 ?r2
  case h2 => simp only [aT, aS, aZ]; rfl
  refine ⟨_, by simp [Act.put]; rfl, by kernel_rfl, by kernel_rfl, by kernel_rfl, fun _ _ _ h => h, (.inl ⟨rfl, fun W hW => by have c := hW.1.cell 0; simp only [aT, aZ] at c; go_simp⟩), HB2.out.1, ?_⟩
  refine takeH (o := ?o3) 2 (.pointer (some ⟨w.heap.size, 1, none⟩)) ?h3 ?r3
  case h3 => simp only [aT, aS, aZ]; rfl
  refine ⟨_, by simp [Act.put]; rfl, by kernel_rfl, by kernel_rfl, by kernel_rfl, fun _ _ _ h => h, (.inl ⟨rfl, fun W _ => by go_simp⟩), HB2.out.1, ?_⟩
  refine takeH (o := ?o4) 3 (.int .i64 x.cls) ?h4 ?r4
  case h4 => simp only [aT, aS, aZ]; rfl
  refine ⟨_, by simp [Act.put]; rfl, by kernel_rfl, by kernel_rfl, by kernel_rfl, fun _ _ _ h => h, (.inl ⟨rfl, fun W hW => by have c := hW.1.cell 1; simp only [aT, aS, aZ] at c; go_simp⟩), HB2.out.1, ?_⟩
  refine takeH (o := ?o5) 4 (.pointer (some ⟨w.heap.size, 2, none⟩)) ?h5 ?r5
  case h5 => simp only [aT, aS, aZ]; rfl
  refine ⟨_, by simp [Act.put]; rfl, by kernel_rfl, by kernel_rfl, by kernel_rfl, fun _ _ _ h => h, (.inl ⟨rfl, fun W _ => by go_simp⟩), HB2.out.1, ?_⟩
  refine takeH (o := ?o6) 5 (.int .i64 x.key) ?h6 ?r6
  case h6 => simp only [aT, aS, aZ]; rfl
  refine ⟨_, by simp [Act.put]; rfl, by kernel_rfl, by kernel_rfl, by kernel_rfl, fun _ _ _ h => h, (.inl ⟨rfl, fun W hW => by have c := hW.1.cell 2; simp only [aT, aS, aZ] at c; go_simp⟩), HB2.out.1, ?_⟩
  refine takeH (o := ?o7) 6 (.pointer (some ⟨w.heap.size, 3, none⟩)) ?h7 ?r7
  case h7 => simp only [aT, aS, aZ]; rfl
  refine ⟨_, by simp [Act.put]; rfl, by kernel_rfl, by kernel_rfl, by kernel_rfl, fun _ _ _ h => h, (.inl ⟨rfl, fun W _ => by go_simp⟩), HB2.out.1, ?_⟩
  refine takeH (o := ?o8) 7 (.int .i64 x.window) ?h8 ?r8
  case h8 => simp only [aT, aS, aZ]; rfl
  refine ⟨_, by simp [Act.put]; rfl, by kernel_rfl, by kernel_rfl, by kernel_rfl, fun _ _ _ h => h, (.inl ⟨rfl, fun W hW => by have c := hW.1.cell 3; simp only [aT, aS, aZ] at c; go_simp⟩), HB2.out.1, ?_⟩
  refine takeH (o := ?o9) 9 (.agg (tc ys)) ?h9 ?r9
  case h9 => simp only [aT, aS, aZ]; rfl
  refine ⟨_, by simp [Act.put]; rfl, by kernel_rfl, by kernel_rfl, by kernel_rfl, fun _ _ _ h => h, (yields_whole 75 w1.heap.size (tc ys) 75 _ rfl rfl rfl Try.underlying75 rfl (tallySize HB.out.1) (fun W hW => hW.2)), HB2.out.1, ?_⟩
  obtain ⟨Y, hY⟩ : ∃ Y, Y = W2.drew := ⟨_, rfl⟩
  rw [← hY] at HB2 ⊢
  clear hY
  refine twoH (o := ?o10) (o' := ?p10) 8 10 (by kernel_rfl) ?h10 ?g10 ?r10 ?s10
  case h10 => simp only [aT, aS, aZ]; rfl
  case g10 => simp only [aT, aS, aZ]; rfl
  case r10 =>
    intro K hK
    have hY1 : w.heap.size < Y.heap.size := HB2.out.1.1.lt
    have hY2 : w1.heap.size < Y.heap.size := HB2.out.1.2.lt
    have HL : Hid ((Y.alloc (.cells #[.int .i64 x.seq, .int .i64 x.cls, .int .i64 x.key, .int .i64 x.window] 3)).ownsRow w.heap.size 3 1 (.slice (some ⟨Y.heap.size, 0, none⟩) 4 4) 4 ([x.seq, x.cls, x.key, x.window].map (Value.int .i64))) := World.ownsRow_lit Y #[.int .i64 x.seq, .int .i64 x.cls, .int .i64 x.key, .int .i64 x.window] 4 HB2.out.2.size (by unfold maxLen; omega) rfl
    have bY : Below Y.heap.size Y (Y.alloc (.cells #[.int .i64 x.seq, .int .i64 x.cls, .int .i64 x.key, .int .i64 x.window] 3)) := (Below.refl _ _).alloc (Nat.le_refl _) _
    have HS3 : Hid (ItHeld w.heap.size #[.int .i64 x.seq, .int .i64 x.cls, .int .i64 x.key, .int .i64 x.window, .int .i64 x.sk.count, .int .i64 x.sk.sum, .int .i64 x.sk.min, .int .i64 x.sk.max, .slice a1 n1 c1, .slice a2 n2 c2, .slice a3 n3 c3] w1.heap.size ys (Y.alloc (.cells #[.int .i64 x.seq, .int .i64 x.cls, .int .i64 x.key, .int .i64 x.window] 3)) ∧ Below w.heap.size w (Y.alloc (.cells #[.int .i64 x.seq, .int .i64 x.cls, .int .i64 x.key, .int .i64 x.window] 3))) := ⟨⟨HB2.out.1.1.below bY, HB2.out.1.2.below bY⟩, Below.next HB2.out.2 bY⟩
    refine op_turn (.slice (some ⟨Y.heap.size, 0, none⟩) 4 4) (Y.alloc (.cells #[.int .i64 x.seq, .int .i64 x.cls, .int .i64 x.key, .int .i64 x.window] 3)) rfl (by go_simp) ⟨_, by simp [Act.put]; rfl, hK _ _ ⟨HS3.out.1, ?_⟩⟩
    clear hK bY
    obtain ⟨Z, hZ⟩ : ∃ Z, Z = Y.alloc (.cells #[.int .i64 x.seq, .int .i64 x.cls, .int .i64 x.key, .int .i64 x.window] 3) := ⟨_, rfl⟩
    rw [← hZ] at HL HS3 ⊢
    clear hZ
    refine onlyH (o := ?o11) 10 (by kernel_rfl) ?h11 ?r11
    case h11 => simp only [aT, aS, aZ]; rfl
    intro K hK
    refine op_call1 143 _ _ Try.f143 (fun v w' => w'.ownsRow Z.heap.size 3 1 v ys.length (ys.map (Value.int .i64)) ∧ Below Z.heap.size Z w') rfl rfl Try.func143 (by kernel_rfl) (by kernel_rfl) ((numbers_any ys Z HB.out.1).mono (by rintro e w' ⟨u, rfl, h1, h2⟩; exact ⟨_, rfl, h1, h2⟩)) ?_
    rintro u W4 ⟨hu, hb4⟩
    obtain ⟨gu, cu, rfl, _⟩ := own_shape7 hu (by rw [HB.out.1]; omega)
    rw [HB.out.1] at hu ⊢
    have HO : Hid (W4.ownsRow w.heap.size 3 1 (.slice (some ⟨Y.heap.size, 0, none⟩) 4 4) 4 ([x.seq, x.cls, x.key, x.window].map (Value.int .i64)) ∧ (∀ j u, (ys.map (Value.int .i64))[j]? = some u → W4.cell? ((⟨gu, 0, none⟩ : Addr).add j) = some u) ∧ Below w.heap.size w W4) := ⟨ownsRow_below HL.out hb4, own_news hu, Below.next HS3.out.2 hb4⟩
    refine ⟨_, by simp [Act.put]; rfl, hK _ _ ⟨⟨HS3.out.1.1.below hb4, HS3.out.1.2.below hb4⟩, ?_⟩⟩
    have HSS : Hid (ItHeld w.heap.size #[.int .i64 x.seq, .int .i64 x.cls, .int .i64 x.key, .int .i64 x.window, .int .i64 x.sk.count, .int .i64 x.sk.sum, .int .i64 x.sk.min, .int .i64 x.sk.max, .slice a1 n1 c1, .slice a2 n2 c2, .slice a3 n3 c3] w1.heap.size ys W4) := ⟨HS3.out.1.1.below hb4, HS3.out.1.2.below hb4⟩
    clear hK hu hb4 HL HS3 HB2
    refine onlyH (o := ?o12) 11 (by kernel_rfl) ?h12 ?r12
    case h12 => simp only [aT, aS, aZ]; rfl
    intro K hK
    refine op_append7 _ _ 25 rfl rfl w.heap.size 3 i0 (.int .i64 0) 1 8 Try.underlying25 hi hz0 hz1 hz2 rfl (by decide) _ _ _ rfl HO.out.1 ⟨gu, 0, none⟩ 28 cu (ys.map (Value.int .i64)) rfl (by simp [HB.out.1]) HO.out.2.1 (ints_one _) (by unfold maxLen; simp) (by simp) HO.out.2.2.size ?_
    intro v8 w8 hown hgrow
    have HF : Hid (w8.ownsRow w.heap.size 3 1 v8 32 (([x.seq, x.cls, x.key, x.window] ++ ys).map (Value.int .i64)) ∧ Below w.heap.size w w8) := ⟨by rw [List.map_append]; exact hown, HO.out.2.2.grown hgrow HO.out.2.2.size (fun g hg => (HO.out.1.lt g hg).1)⟩
    have bg : Below Y.heap.size W4 w8 := (Below.refl _ _).grown hgrow (by have := HO.out.1.lt Y.heap.size rfl; omega) (fun g hg => by cases hg; exact Nat.le_refl _)
    have HSX : Hid (ItHeld w.heap.size #[.int .i64 x.seq, .int .i64 x.cls, .int .i64 x.key, .int .i64 x.window, .int .i64 x.sk.count, .int .i64 x.sk.sum, .int .i64 x.sk.min, .int .i64 x.sk.max, .slice a1 n1 c1, .slice a2 n2 c2, .slice a3 n3 c3] w1.heap.size ys w8) := ⟨HSS.out.1.agree (bg.block _ hY1), HSS.out.2.agree (bg.block _ hY2)⟩
    clear hown hgrow HO bg
    refine ⟨_, by simp [Act.put]; rfl, hK _ _ ⟨HSX.out, ?_⟩⟩
    clear hK
    refine onlyH (o := ?o13) 12 (by kernel_rfl) ?h13 ?r13
    case h13 => simp only [aT, aS, aZ]; rfl
    intro K hK
    refine op_value v8 rfl (by go_simp) ⟨_, by simp [Act.put]; rfl, hK _ _ ⟨HSX.out, ?_⟩⟩
    clear hK
    refine wpAnyH_done (by kernel_rfl) ?_ _
    go_wp2
    go_ret
    rw [← HB.out.2.1]
    exact ⟨_, rfl, HF.out⟩
  case s10 =>
    intro K hK
    refine op_call1 143 _ _ Try.f143 (fun v w' => w'.ownsRow Y.heap.size 3 1 v ys.length (ys.map (Value.int .i64)) ∧ Below Y.heap.size Y w') rfl rfl Try.func143 (by kernel_rfl) (by kernel_rfl) ((numbers_any ys Y HB.out.1).mono (by rintro e w' ⟨u, rfl, h1, h2⟩; exact ⟨_, rfl, h1, h2⟩)) ?_
    rintro u W4 ⟨hu, hb4⟩
    obtain ⟨gu, cu, rfl, _⟩ := own_shape7 hu (by rw [HB.out.1]; omega)
    rw [HB.out.1] at hu ⊢
    have HS3 : Hid (ItHeld w.heap.size #[.int .i64 x.seq, .int .i64 x.cls, .int .i64 x.key, .int .i64 x.window, .int .i64 x.sk.count, .int .i64 x.sk.sum, .int .i64 x.sk.min, .int .i64 x.sk.max, .slice a1 n1 c1, .slice a2 n2 c2, .slice a3 n3 c3] w1.heap.size ys W4 ∧ Below w.heap.size w W4 ∧ W4.ownsRow Y.heap.size 3 1 (.slice (some ⟨gu, 0, none⟩) 28 cu) 28 (ys.map (Value.int .i64))) := ⟨⟨HB2.out.1.1.below hb4, HB2.out.1.2.below hb4⟩, Below.next HB2.out.2 hb4, hu⟩
    refine ⟨_, by simp [Act.put]; rfl, hK _ _ ⟨HS3.out.1, ?_⟩⟩
    clear hK hu hb4 HB2
    refine onlyH (o := ?o14) 8 (by kernel_rfl) ?h14 ?r14
    case h14 => simp only [aT, aS, aZ]; rfl
    intro K hK
    have hY1 : w.heap.size < W4.heap.size := HS3.out.1.1.lt
    have hY2 : w1.heap.size < W4.heap.size := HS3.out.1.2.lt
    have HL : Hid ((W4.alloc (.cells #[.int .i64 x.seq, .int .i64 x.cls, .int .i64 x.key, .int .i64 x.window] 3)).ownsRow w.heap.size 3 1 (.slice (some ⟨W4.heap.size, 0, none⟩) 4 4) 4 ([x.seq, x.cls, x.key, x.window].map (Value.int .i64))) := World.ownsRow_lit W4 #[.int .i64 x.seq, .int .i64 x.cls, .int .i64 x.key, .int .i64 x.window] 4 HS3.out.2.1.size (by unfold maxLen; omega) rfl
    have bY : Below W4.heap.size W4 (W4.alloc (.cells #[.int .i64 x.seq, .int .i64 x.cls, .int .i64 x.key, .int .i64 x.window] 3)) := (Below.refl _ _).alloc (Nat.le_refl _) _
    have HO : Hid ((W4.alloc (.cells #[.int .i64 x.seq, .int .i64 x.cls, .int .i64 x.key, .int .i64 x.window] 3)).ownsRow w.heap.size 3 1 (.slice (some ⟨W4.heap.size, 0, none⟩) 4 4) 4 ([x.seq, x.cls, x.key, x.window].map (Value.int .i64)) ∧ (∀ j u, (ys.map (Value.int .i64))[j]? = some u → (W4.alloc (.cells #[.int .i64 x.seq, .int .i64 x.cls, .int .i64 x.key, .int .i64 x.window] 3)).cell? ((⟨gu, 0, none⟩ : Addr).add j) = some u) ∧ Below w.heap.size w (W4.alloc (.cells #[.int .i64 x.seq, .int .i64 x.cls, .int .i64 x.key, .int .i64 x.window] 3))) := ⟨HL.out, own_news (ownsRow_below HS3.out.2.2 bY), Below.next HS3.out.2.1 bY⟩
    have HSS : Hid (ItHeld w.heap.size #[.int .i64 x.seq, .int .i64 x.cls, .int .i64 x.key, .int .i64 x.window, .int .i64 x.sk.count, .int .i64 x.sk.sum, .int .i64 x.sk.min, .int .i64 x.sk.max, .slice a1 n1 c1, .slice a2 n2 c2, .slice a3 n3 c3] w1.heap.size ys (W4.alloc (.cells #[.int .i64 x.seq, .int .i64 x.cls, .int .i64 x.key, .int .i64 x.window] 3))) := ⟨HS3.out.1.1.below bY, HS3.out.1.2.below bY⟩
    refine op_turn (.slice (some ⟨W4.heap.size, 0, none⟩) 4 4) (W4.alloc (.cells #[.int .i64 x.seq, .int .i64 x.cls, .int .i64 x.key, .int .i64 x.window] 3)) rfl (by go_simp) ⟨_, by simp [Act.put]; rfl, hK _ _ ⟨HSS.out, ?_⟩⟩
    clear hK bY HL HS3
    obtain ⟨Z, hZ⟩ : ∃ Z, Z = W4.alloc (.cells #[.int .i64 x.seq, .int .i64 x.cls, .int .i64 x.key, .int .i64 x.window] 3) := ⟨_, rfl⟩
    rw [← hZ] at HO HSS ⊢
    clear hZ
    refine onlyH (o := ?o15) 11 (by kernel_rfl) ?h15 ?r15
    case h15 => simp only [aT, aS, aZ]; rfl
    intro K hK
    refine op_append7 _ _ 25 rfl rfl w.heap.size 3 i0 (.int .i64 0) 1 8 Try.underlying25 hi hz0 hz1 hz2 rfl (by decide) _ _ _ rfl HO.out.1 ⟨gu, 0, none⟩ 28 cu (ys.map (Value.int .i64)) rfl (by simp [HB.out.1]) HO.out.2.1 (ints_one _) (by unfold maxLen; simp) (by simp) HO.out.2.2.size ?_
    intro v8 w8 hown hgrow
    have HF : Hid (w8.ownsRow w.heap.size 3 1 v8 32 (([x.seq, x.cls, x.key, x.window] ++ ys).map (Value.int .i64)) ∧ Below w.heap.size w w8) := ⟨by rw [List.map_append]; exact hown, HO.out.2.2.grown hgrow HO.out.2.2.size (fun g hg => (HO.out.1.lt g hg).1)⟩
    have bg : Below W4.heap.size Z w8 := (Below.refl _ _).grown hgrow (by have := HO.out.1.lt W4.heap.size rfl; omega) (fun g hg => by cases hg; exact Nat.le_refl _)
    have HSX : Hid (ItHeld w.heap.size #[.int .i64 x.seq, .int .i64 x.cls, .int .i64 x.key, .int .i64 x.window, .int .i64 x.sk.count, .int .i64 x.sk.sum, .int .i64 x.sk.min, .int .i64 x.sk.max, .slice a1 n1 c1, .slice a2 n2 c2, .slice a3 n3 c3] w1.heap.size ys w8) := ⟨HSS.out.1.agree (bg.block _ hY1), HSS.out.2.agree (bg.block _ hY2)⟩
    clear hown hgrow HO bg
    refine ⟨_, by simp [Act.put]; rfl, hK _ _ ⟨HSX.out, ?_⟩⟩
    clear hK
    refine onlyH (o := ?o16) 12 (by kernel_rfl) ?h16 ?r16
    case h16 => simp only [aT, aS, aZ]; rfl
    intro K hK
    refine op_value v8 rfl (by go_simp) ⟨_, by simp [Act.put]; rfl, hK _ _ ⟨HSX.out, ?_⟩⟩
    clear hK
    refine wpAnyH_done (by kernel_rfl) ?_ _
    go_wp2
    go_ret
    rw [← HB.out.2.1]
    exact ⟨_, rfl, HF.out⟩
set_option maxRecDepth 100000 in
set_option maxHeartbeats 4000000 in
theorem crcBytes_any (a : Option Addr) (len cap : Nat) (zs : List Int) (w : World) (h : RdB w a len zs) (hlen : len ≤ 1048576) :
    Calls Try.prog 73 #[.slice a len cap] w fun e w' => e = .returned (.slice (some ⟨w.heap.size, 0, none⟩) 4 4) ∧ w' = w.alloc (.cells ((sumOf zs).map (Value.int .u8)).toArray 5) := by
  have HR : Hid (RdB w a len zs) := h
  have hc := crcOf_range zs h.range
  clear h
  go_enter Try.func73, Try.ntmps73
  go_wp2_with fail
  refine (crcImpl_any a len cap zs _ HR.out hlen).mono ?_
  rintro e w1 ⟨rfl, hw1⟩
  have hw1' := hw1.symm
  subst hw1'
  clear hw1
  obtain ⟨c, hcc⟩ : ∃ c, c = crcOf zs := ⟨_, rfl⟩
  rw [show bits .xor .i64 (crc64 zs) 4294967295 = c from hcc.symm]
  rw [← hcc] at hc
  have HC : Hid (c = crcOf zs) := hcc
  clear hcc
  go_wp2
  go_ret
  refine ⟨rfl, ?_⟩
  unfold sumOf
  rw [← HC.out]
  simp
end Go.Proofs.Ytjndcfamfminkab
/- The walks through the program's numbersOfFrame and FrameBytes. No statement of the seat is proved here. -/
namespace Go.Proofs.Ytjndcfamfminkab
open Go.RowKit
theorem Fr.numbers_len {x : Fr} (h : x.Right) : x.numbers.length ≤ 1000 := by
  have m := h.many
  have i := h.item
  unfold Fr.numbers
  rw [List.length_append, List.length_append, flat_length]
  by_cases q : x.kind = 1
  · rw [if_pos q] at i ⊢
    rw [List.length_append, Sk.nums_len (Sk.ok_lens (It.ok_nums i).2.2.2.2).1]
    simp only [List.length_cons, List.length_nil]
    omega
  · rw [if_neg q]
    simp only [List.length_cons, List.length_nil]
    omega
def Fr.numsTo (x : Fr) (k : Nat) : List Int := [x.kind, x.agent, x.epoch, x.granted, (x.taken.length : Int)] ++ flat (x.taken.take k)
theorem frNums_succ {x : Fr} {k : Nat} (hk : k < x.taken.length) : x.numsTo (k + 1) = x.numsTo k ++ [(x.taken.at k).1, (x.taken.at k).2] := by
  unfold Fr.numsTo
  rw [show x.taken.take (k + 1) = x.taken.take k ++ [x.taken.at k] from by rw [List.take_add_one, List.getElem?_eq_getElem hk]; simp [Sp.at, List.getElem?_eq_getElem hk], flat_append]
  simp [flat]
theorem frNums_len (x : Fr) {k : Nat} (hk : k ≤ x.taken.length) : (x.numsTo k).length = 5 + 2 * k := by
  unfold Fr.numsTo
  rw [List.length_append, flat_length, List.length_take]
  simp only [List.length_cons, List.length_nil]
  omega
theorem NumSt.lit {w W : World} {cs : Array Value} {t : TypeId} {v : Value} {xs : List Int} (h : NumSt w cs t v xs W) (o : Obj) : NumSt w cs t v xs (W.alloc o) := h.below ((Below.refl _ _).alloc (Nat.le_refl _) _)
set_option maxRecDepth 200000 in
set_option maxHeartbeats 8000000 in
theorem numbersOfFrame_any (v : Value) (x : Fr) (F G : List Nat) (w : World) (h : RdFr w v x F G) (hx : x.Right) (hw : x.item.sk.wide) :
    Calls Try.prog 72 #[v] w fun e w' => ∃ u, e = .returned u ∧ w'.ownsRow w.heap.size 3 1 u x.numbers.length (x.numbers.map (Value.int .i64)) ∧ Below w.heap.size w w' := by
  obtain ⟨i0, hi, hz0, hz1, hz2⟩ := info_parts infoInt
  obtain ⟨b, l, c, a1, n1, c1, a2, n2, c2, a3, n3, c3, rfl, hp, hr, _⟩ := h
  have HX : Hid (x.Right ∧ x.item.sk.wide ∧ RdIt w (.agg #[.int .i64 x.item.seq, .int .i64 x.item.cls, .int .i64 x.item.key, .int .i64 x.item.window, .int .i64 x.item.sk.count, .int .i64 x.item.sk.sum, .int .i64 x.item.sk.min, .int .i64 x.item.sk.max, .slice a1 n1 c1, .slice a2 n2 c2, .slice a3 n3 c3]) x.item G) := ⟨hx, hw, hr⟩
  have HP : Hid (RdP w b l x.taken F ∧ x.taken.length = l) := ⟨hp, hp.length⟩
  have hl : l ≤ 30 := by rw [← hp.length]; exact hx.many
  have HS0 : Hid (NumSt w #[.int .i64 x.kind, .int .i64 x.agent, .int .i64 x.epoch, .int .i64 x.granted, .slice b l c, .int .i64 x.item.seq, .int .i64 x.item.cls, .int .i64 x.item.key, .int .i64 x.item.window, .int .i64 x.item.sk.count, .int .i64 x.item.sk.sum, .int .i64 x.item.sk.min, .int .i64 x.item.sk.max, .slice a1 n1 c1, .slice a2 n2 c2, .slice a3 n3 c3] 51 (.slice (some ⟨w.heap.size + 1, 0, none⟩) 5 5) [x.kind, x.agent, x.epoch, x.granted, (l : Int)] ((w.alloc (.cells #[.int .i64 x.kind, .int .i64 x.agent, .int .i64 x.epoch, .int .i64 x.granted, .slice b l c, .int .i64 x.item.seq, .int .i64 x.item.cls, .int .i64 x.item.key, .int .i64 x.item.window, .int .i64 x.item.sk.count, .int .i64 x.item.sk.sum, .int .i64 x.item.sk.min, .int .i64 x.item.sk.max, .slice a1 n1 c1, .slice a2 n2 c2, .slice a3 n3 c3] 51)).alloc (.cells #[.int .i64 x.kind, .int .i64 x.agent, .int .i64 x.epoch, .int .i64 x.granted, .int .i64 (l : Int)] 3))) := by
    have m := two_made w #[.int .i64 x.kind, .int .i64 x.agent, .int .i64 x.epoch, .int .i64 x.granted, .slice b l c, .int .i64 x.item.seq, .int .i64 x.item.cls, .int .i64 x.item.key, .int .i64 x.item.window, .int .i64 x.item.sk.count, .int .i64 x.item.sk.sum, .int .i64 x.item.sk.min, .int .i64 x.item.sk.max, .slice a1 n1 c1, .slice a2 n2 c2, .slice a3 n3 c3] #[.int .i64 x.kind, .int .i64 x.agent, .int .i64 x.epoch, .int .i64 x.granted, .int .i64 (l : Int)] 51 3
    have o := World.ownsRow_lit (base := w.heap.size + 1) (e := 3) (size := 1) (w.alloc (.cells #[.int .i64 x.kind, .int .i64 x.agent, .int .i64 x.epoch, .int .i64 x.granted, .slice b l c, .int .i64 x.item.seq, .int .i64 x.item.cls, .int .i64 x.item.key, .int .i64 x.item.window, .int .i64 x.item.sk.count, .int .i64 x.item.sk.sum, .int .i64 x.item.sk.min, .int .i64 x.item.sk.max, .slice a1 n1 c1, .slice a2 n2 c2, .slice a3 n3 c3] 51)) #[.int .i64 x.kind, .int .i64 x.agent, .int .i64 x.epoch, .int .i64 x.granted, .int .i64 (l : Int)] 5 (by simp) (by unfold maxLen; omega) rfl
    have e : (w.alloc (.cells #[.int .i64 x.kind, .int .i64 x.agent, .int .i64 x.epoch, .int .i64 x.granted, .slice b l c, .int .i64 x.item.seq, .int .i64 x.item.cls, .int .i64 x.item.key, .int .i64 x.item.window, .int .i64 x.item.sk.count, .int .i64 x.item.sk.sum, .int .i64 x.item.sk.min, .int .i64 x.item.sk.max, .slice a1 n1 c1, .slice a2 n2 c2, .slice a3 n3 c3] 51)).heap.size = w.heap.size + 1 := by simp
    rw [e] at o
    exact ⟨m.1, o, m.2.2⟩
  clear hp hr hx hw
  go_enter Try.func72, Try.ntmps72
  go_wp2
  go_loopw [3, 21] (fun v i wr => ∃ (k : Nat), k ≤ l ∧ i = .int .i64 k ∧ Hid (NumSt w #[.int .i64 x.kind, .int .i64 x.agent, .int .i64 x.epoch, .int .i64 x.granted, .slice b l c, .int .i64 x.item.seq, .int .i64 x.item.cls, .int .i64 x.item.key, .int .i64 x.item.window, .int .i64 x.item.sk.count, .int .i64 x.item.sk.sum, .int .i64 x.item.sk.min, .int .i64 x.item.sk.max, .slice a1 n1 c1, .slice a2 n2 c2, .slice a3 n3 c3] 51 v (x.numsTo k) wr)) (fun _ i _ => l - (intOf i).toNat)
  case atStart =>
    refine ⟨0, by omega, rfl, ?_⟩
    have e : x.numsTo 0 = [x.kind, x.agent, x.epoch, x.granted, (l : Int)] := by unfold Fr.numsTo; rw [HP.out.2]; simp [flat]
    rw [e]
    exact HS0
  case round =>
    clear HS0
    obtain ⟨k, hk, rfl, HQ⟩ := hrel
    have k0 := HQ.out.box.cell 0
    simp only [aT, aZ] at k0
    by_cases hlt : k < l
    · rcases cells_of (HP.out.1.below HQ.out.bel) with h0 | ⟨p, off, rfl, hbw, hc⟩
      · omega
      have d := hc k hlt
      have d1 := d.1
      have d2 := d.2
      obtain ⟨y, hy⟩ : ∃ y, y = (x.taken.at k).1 := ⟨_, rfl⟩
      obtain ⟨z, hz⟩ : ∃ y, y = (x.taken.at k).2 := ⟨_, rfl⟩
      rw [← hy] at d1
      rw [← hz] at d2
      have HY : Hid (x.numsTo (k + 1) = x.numsTo k ++ [y, z]) := by
        show _ = _
        rw [frNums_succ (by rw [HP.out.2]; exact hlt), hy, hz]
      have hln := frNums_len x (k := k) (by rw [HP.out.2]; omega)
      have hI : (k : Int) < (l : Int) := by omega
      have HQ2 : Hid (NumSt w #[.int .i64 x.kind, .int .i64 x.agent, .int .i64 x.epoch, .int .i64 x.granted, .slice (some ⟨p, off, none⟩) l c, .int .i64 x.item.seq, .int .i64 x.item.cls, .int .i64 x.item.key, .int .i64 x.item.window, .int .i64 x.item.sk.count, .int .i64 x.item.sk.sum, .int .i64 x.item.sk.min, .int .i64 x.item.sk.max, .slice a1 n1 c1, .slice a2 n2 c2, .slice a3 n3 c3] 51 u3 (x.numsTo k) ((wr.alloc (.cells #[.int .i64 y, .int .i64 z] 87)).alloc (.cells #[.int .i64 y, .int .i64 z] 3)) ∧ ∀ j u, ([y, z].map (Value.int .i64))[j]? = some u → ((wr.alloc (.cells #[.int .i64 y, .int .i64 z] 87)).alloc (.cells #[.int .i64 y, .int .i64 z] 3)).cell? ((⟨wr.heap.size + 1, 0, none⟩ : Addr).add j) = some u) := by
        refine ⟨(HQ.out.lit _).lit _, fun j u hj => ?_⟩
        have e : (wr.alloc (.cells #[.int .i64 y, .int .i64 z] 87)).heap.size = wr.heap.size + 1 := by simp
        have bl := Blk.made (wr.alloc (.cells #[.int .i64 y, .int .i64 z] 87)) #[.int .i64 y, .int .i64 z] 3
        rw [e] at bl
        rw [show (⟨wr.heap.size + 1, 0, none⟩ : Addr).add j = ⟨wr.heap.size + 1, j, none⟩ from by cases j <;> simp [Addr.add], bl.cell j]
        simpa using hj
      clear hc d hy hz HQ k0
      go_wp2_with (with_reducible refine stopAppend rfl ?_)
      refine Stop.intro (wpList_append_own _ rfl _ _ 25 rfl (w.heap.size + 1) 3 i0 (.int .i64 0) 1 8 Try.underlying25 hi hz0 hz1 hz2 rfl (by decide) _ _ _ rfl HQ2.out.1.own ⟨wr.heap.size + 1, 0, none⟩ 2 2 ([y, z].map (Value.int .i64)) rfl (by simp) HQ2.out.2 (ints_one _) (by unfold maxLen; omega) (by omega) HQ2.out.1.size ?_)
      intro v3 w3 hown hgrow _
      have HS3 : Hid (NumSt w #[.int .i64 x.kind, .int .i64 x.agent, .int .i64 x.epoch, .int .i64 x.granted, .slice (some ⟨p, off, none⟩) l c, .int .i64 x.item.seq, .int .i64 x.item.cls, .int .i64 x.item.key, .int .i64 x.item.window, .int .i64 x.item.sk.count, .int .i64 x.item.sk.sum, .int .i64 x.item.sk.min, .int .i64 x.item.sk.max, .slice a1 n1 c1, .slice a2 n2 c2, .slice a3 n3 c3] 51 v3 (x.numsTo (k + 1)) w3) := by
        show NumSt _ _ _ _ _ _
        rw [HY.out]
        exact HQ2.out.1.app rfl hown hgrow
      clear hown hgrow d1 d2 hln HQ2
      go_wp2
      go_roundw
      case rel => exact ⟨k + 1, by omega, by go_num, HS3⟩
      case measure => simp [intOf]; omega
    · obtain rfl : k = l := by omega
      have hln := frNums_len x (k := k) (by rw [HP.out.2]; omega)
      by_cases h1 : x.kind = 1
      · have e1 : (x.kind == 1) = true := by simpa using h1
        have HV : Hid (x.numbers = x.numsTo k ++ ([x.item.seq, x.item.cls, x.item.key, x.item.window] ++ x.item.sk.nums) ∧ x.item.sk.ok = true ∧ ([x.item.seq, x.item.cls, x.item.key, x.item.window] ++ x.item.sk.nums).length = 32) := by
          have i := HX.out.1.item
          rw [if_pos h1] at i
          have o := (It.ok_nums i).2.2.2.2
          refine ⟨?_, o, by rw [List.length_append, Sk.nums_len (Sk.ok_lens o).1]; rfl⟩
          unfold Fr.numbers Fr.numsTo
          rw [if_pos h1, List.take_of_length_le (by rw [HP.out.2]; omega)]
        clear h1
        go_wp2_with (first | go_skip | (with_reducible refine stopLoad 40 rfl ?_))
        refine load_cut 40 w.heap.size 5 11 _ #[.int .i64 x.item.seq, .int .i64 x.item.cls, .int .i64 x.item.key, .int .i64 x.item.window, .int .i64 x.item.sk.count, .int .i64 x.item.sk.sum, .int .i64 x.item.sk.min, .int .i64 x.item.sk.max, .slice a1 n1 c1, .slice a2 n2 c2, .slice a3 n3 c3] 51 _ HQ.out.box rfl rfl rfl Try.underlying40 rfl infoItA7 (by simp) rfl ?_
        go_wp2_with fail
        refine (numbersOfItem_any _ x.item G _ (HX.out.2.2.below HQ.out.bel) HV.out.2.1 HX.out.2.1).mono ?_
        rintro e w4 ⟨u4, rfl, hown4, hb4⟩
        obtain ⟨gu, cu, rfl, _⟩ := own_shape7 hown4 (by omega)
        have HE : Hid (∀ j u, (([x.item.seq, x.item.cls, x.item.key, x.item.window] ++ x.item.sk.nums).map (Value.int .i64))[j]? = some u → w4.cell? ((⟨gu, 0, none⟩ : Addr).add j) = some u) := own_news hown4
        have HQ4 : Hid (NumSt w #[.int .i64 x.kind, .int .i64 x.agent, .int .i64 x.epoch, .int .i64 x.granted, .slice b k c, .int .i64 x.item.seq, .int .i64 x.item.cls, .int .i64 x.item.key, .int .i64 x.item.window, .int .i64 x.item.sk.count, .int .i64 x.item.sk.sum, .int .i64 x.item.sk.min, .int .i64 x.item.sk.max, .slice a1 n1 c1, .slice a2 n2 c2, .slice a3 n3 c3] 51 u3 (x.numsTo k) w4) := HQ.out.below hb4
        clear hown4 hb4 HQ k0
        go_wp2_with (with_reducible refine stopAppend rfl ?_)
        refine Stop.intro (wpList_append_own _ rfl _ _ 25 rfl (w.heap.size + 1) 3 i0 (.int .i64 0) 1 8 Try.underlying25 hi hz0 hz1 hz2 rfl (by decide) _ _ _ rfl HQ4.out.own ⟨gu, 0, none⟩ 32 cu (([x.item.seq, x.item.cls, x.item.key, x.item.window] ++ x.item.sk.nums).map (Value.int .i64)) rfl (by rw [List.length_map, HV.out.2.2]) HE.out (ints_one _) (by unfold maxLen; omega) (by omega) HQ4.out.size ?_)
        intro v5 w5 hown hgrow _
        have HS5 : Hid (NumSt w #[.int .i64 x.kind, .int .i64 x.agent, .int .i64 x.epoch, .int .i64 x.granted, .slice b k c, .int .i64 x.item.seq, .int .i64 x.item.cls, .int .i64 x.item.key, .int .i64 x.item.window, .int .i64 x.item.sk.count, .int .i64 x.item.sk.sum, .int .i64 x.item.sk.min, .int .i64 x.item.sk.max, .slice a1 n1 c1, .slice a2 n2 c2, .slice a3 n3 c3] 51 v5 x.numbers w5) := by
          show NumSt _ _ _ _ _ _
          rw [HV.out.1]
          exact HQ4.out.app HV.out.2.2 hown hgrow
        clear hown hgrow HQ4 HE
        go_wp2
        go_ret
        exact ⟨_, rfl, own_mono7 HS5.out.own (by omega), HS5.out.bel⟩
      · have e1 : (x.kind == 1) = false := by simpa using h1
        have HV : Hid (x.numbers = x.numsTo k) := by
          show _ = _
          unfold Fr.numbers Fr.numsTo
          rw [if_neg h1, List.take_of_length_le (by rw [HP.out.2]; omega), List.append_nil]
        clear h1
        rw [← HV.out] at HQ
        go_wp2
        go_ret
        exact ⟨_, rfl, own_mono7 HQ.out.own (by omega), HQ.out.bel⟩
set_option maxRecDepth 200000 in
set_option maxHeartbeats 8000000 in
theorem frameBytesImpl_any (v : Value) (x : Fr) (F G : List Nat) (w : World) (h : RdFr w v x F G) (hw : x.item.sk.wide) (hl : x.taken.length ≤ 2097152) :
    Calls Try.prog 25 #[v] w fun e w' => ∃ u, e = .returned u ∧ w'.ownsRow w.heap.size 5 1 u x.bytes.length (x.bytes.map (Value.int .u8)) ∧ Below w.heap.size w w' := by
  obtain ⟨i0, hi, hz0, hz1, hz2⟩ := info_parts Try.info5
  obtain ⟨cs, rfl, hc⟩ : ∃ cs, v = .agg cs ∧ cs.size = 16 := by
    obtain ⟨b, l, c, a1, n1, c1, a2, n2, c2, a3, n3, c3, rfl, _⟩ := h
    exact ⟨_, rfl, rfl⟩
  have HH : Hid (RdFr w (.agg cs) x F G ∧ x.item.sk.wide ∧ x.taken.length ≤ 2097152) := ⟨h, hw, hl⟩
  have HT : Hid (Blk (w.alloc (.cells cs 51)) w.heap.size cs 51 ∧ Below w.heap.size w (w.alloc (.cells cs 51))) := ⟨Blk.made _ _ _, (Below.refl _ _).alloc (Nat.le_refl _) _⟩
  have hsz : (Try.prog.info? 51).map (·.size) = some cs.size := by rw [hc]; exact infoFrF7
  clear h hw hl
  go_enter Try.func25, Try.ntmps25
  go_wp2_with (first | go_skip | (with_reducible refine stopLoad 51 rfl ?_))
  refine load_known 51 w.heap.size cs 51 _ HT.out.1 rfl rfl rfl Try.underlying51 rfl hsz ?_
  go_wp2_with fail
  refine (frameOkImpl_any _ x F G _ (HH.out.1.below HT.out.2) HH.out.2.1 HH.out.2.2).mono ?_
  rintro e w1 ⟨rfl, hb1⟩
  have HT1 : Hid (Blk w1 w.heap.size cs 51 ∧ Below w.heap.size w w1) := ⟨HT.out.1.below hb1, Below.next HT.out.2 hb1⟩
  obtain ⟨d, hd⟩ : ∃ d, d = x.ok := ⟨_, rfl⟩
  rw [← hd]
  have HD : Hid (d = x.ok) := hd
  clear hb1 HT hd
  cases d
  · have HV : Hid (x.bytes = []) := by show _ = _; unfold Fr.bytes; rw [← HD.out]; rfl
    go_wp2
    go_ret
    rw [HV.out]
    exact ⟨_, rfl, World.ownsRow_nil _ _ _ _, HT1.out.2⟩
  have HRt : Hid (x.Right) := Fr.ok_right HD.out.symm
  have HV : Hid (x.bytes = x.body ++ sumOf x.body ∧ x.body = [87, 82] ++ putAll x.numbers ∧ (∀ y ∈ x.numbers, InN y)) := ⟨Fr.bytes_ok HD.out.symm, Fr.body_numbers HRt.out, Fr.right_numbers HRt.out⟩
  have hlen := Fr.body_len HRt.out
  have hnl : x.numbers.length ≤ 1000 := Fr.numbers_len HRt.out
  have hnp : 0 < (putAll x.numbers).length := by
    have e : x.numbers = x.kind :: x.numbers.tail := by unfold Fr.numbers; rfl
    have k := HRt.out.kind
    rw [e]
    exact putAll_pos ⟨by omega, by omega⟩
  have kc : (convert 22 22 (.slice (some ⟨w1.heap.size, 0, none⟩) 2 2)).run Try.prog (w1.alloc (.cells #[.int .u8 87, .int .u8 82] 5)) = .ok (.slice (some ⟨w1.heap.size, 0, none⟩) 2 2) (w1.alloc (.cells #[.int .u8 87, .int .u8 82] 5 (2, 3))) := Lib.run_convert_bytes_const (P := Try.prog) w1 22 5 #[.int .u8 87, .int .u8 82] 2 2 Try.underlying22 Try.underlying5
  have bW : Below w1.heap.size w1 (w1.alloc (.cells #[.int .u8 87, .int .u8 82] 5 (2, 3))) := (Below.refl _ _).alloc (Nat.le_refl _) _
  have HT2 : Hid (Blk (w1.alloc (.cells #[.int .u8 87, .int .u8 82] 5 (2, 3))) w.heap.size cs 51 ∧ Below w.heap.size w (w1.alloc (.cells #[.int .u8 87, .int .u8 82] 5 (2, 3))) ∧ ∀ j, (w1.alloc (.cells #[.int .u8 87, .int .u8 82] 5 (2, 3))).cell? ⟨w1.heap.size, j, none⟩ = #[Value.int .u8 87, .int .u8 82][j]?) := by
    refine ⟨HT1.out.1.below bW, Below.next HT1.out.2 bW, fun j => ?_⟩
    have hk : (w1.alloc (.cells #[.int .u8 87, .int .u8 82] 5 (2, 3))).heap[w1.heap.size]? = some (.cells #[.int .u8 87, .int .u8 82] 5 (2, 3)) := heap_alloc_new _ _
    simp only [World.cell?, hk]
    rfl
  clear bW
  go_wp2_with (first | go_skip | (with_reducible refine stopLoad 51 rfl ?_))
  obtain ⟨W2, hW2⟩ : ∃ W, W = w1.alloc (.cells #[.int .u8 87, .int .u8 82] 5 (2, 3)) := ⟨_, rfl⟩
  have hs2 : w1.heap.size < W2.heap.size := by rw [hW2]; simp
  rw [← hW2] at HT2 ⊢
  clear kc hW2
  refine load_known 51 w.heap.size cs 51 _ HT2.out.1 rfl rfl rfl Try.underlying51 rfl hsz ?_
  go_wp2_with fail
  refine (numbersOfFrame_any _ x F G _ (HH.out.1.below HT2.out.2.1) HRt.out HH.out.2.1).mono ?_
  rintro e w3 ⟨u, rfl, hown, hb3⟩
  obtain ⟨a, cap, X, rfl, hr, _⟩ := rdI_of_own hown
  have HR3 : Hid (RdI w3 a x.numbers.length x.numbers X ∧ Below w.heap.size w w3 ∧ ∀ j, w3.cell? ⟨w1.heap.size, j, none⟩ = #[Value.int .u8 87, .int .u8 82][j]?) := ⟨hr, Below.next HT2.out.2.1 hb3, fun j => by rw [hb3.cell (p := ⟨w1.heap.size, j, none⟩) hs2]; exact HT2.out.2.2 j⟩
  have hs3 : w1.heap.size < w3.heap.size := Nat.lt_of_lt_of_le hs2 hb3.size
  clear hown hb3 hr HT2 hs2
  generalize x.numbers = NN at HV hnl hnp HR3
  go_wp2_with fail
  refine (bytesOfNumbers_any a NN.length cap NN X _ HR3.out.1 HV.out.2.2 (by omega)).mono ?_
  rintro e w4 ⟨u4, rfl, hown4, hb4⟩
  obtain ⟨g4, c4, hv4, _⟩ := own_shape7 hown4 hnp
  have hv4' := hv4.symm
  subst hv4'
  have HE : Hid (∀ j u, ((putAll NN).map (Value.int .u8))[j]? = some u → w4.cell? ((⟨g4, 0, none⟩ : Addr).add j) = some u) := own_news hown4
  have HS4 : Hid (Below w.heap.size w w4 ∧ ∀ b, (some ⟨w1.heap.size, 0, none⟩ : Option Addr) = some b → ∀ j u, [Value.int .u8 87, .int .u8 82][j]? = some u → w4.cell? (b.add j) = some u) := by
    refine ⟨Below.next HR3.out.2.1 hb4, fun b hb j u hj => ?_⟩
    cases hb
    rw [show (⟨w1.heap.size, 0, none⟩ : Addr).add j = ⟨w1.heap.size, j, none⟩ from by cases j <;> simp [Addr.add], hb4.cell (p := ⟨w1.heap.size, j, none⟩) hs3, HR3.out.2.2 j]
    simpa using hj
  have hq : (putAll NN).length ≤ 5000 := by have := putAll_len NN; omega
  clear hown4 hb4 hv4 HR3
  go_wp2_with (with_reducible refine stopAppend rfl ?_)
  refine Stop.intro (wpList_append_grows _ rfl _ _ 22 rfl 5 i0 (.int .u8 0) 1 1 Try.underlying22 hi hz0 hz1 hz2 rfl (by decide) (some ⟨w1.heap.size, 0, none⟩) 2 2 [.int .u8 87, .int .u8 82] rfl (by intro h; cases h) rfl HS4.out.2 ⟨g4, 0, none⟩ (putAll NN).length c4 ((putAll NN).map (Value.int .u8)) rfl (by simp) HE.out (u8_one _) (by omega) (by unfold maxLen; omega) (by omega) ?_)
  intro v5 w5 hown5 hgrow5
  have hB5 : w5.ownsRow w.heap.size 5 1 v5 x.body.length (x.body.map (Value.int .u8)) := by
    rw [HV.out.2.1, List.length_append, List.map_append]
    exact own_mono7 hown5 HS4.out.1.size
  have hb5 : Below w.heap.size w w5 := Below.next HS4.out.1 ((Below.refl _ _).grown hgrow5 (Nat.le_refl _) (fun g e => by cases e))
  have HRG : Hid (∀ y ∈ x.body, 0 ≤ y ∧ y ≤ 255) := x.body_range
  have HVB : Hid (x.bytes = x.body ++ sumOf x.body) := HV.out.1
  clear hown5 hgrow5 HV HE HS4 hnp hnl hq
  generalize x.body = B at hB5 hlen HVB HRG
  obtain ⟨a5, cap5, rfl, hr5⟩ := rd_own hB5 HRG.out
  have HB5 : Hid (w5.ownsRow w.heap.size 5 1 (.slice a5 B.length cap5) B.length (B.map (Value.int .u8)) ∧ RdB w5 a5 B.length B ∧ Below w.heap.size w w5) := ⟨hB5, hr5, hb5⟩
  clear hB5 hr5 hb5
  go_wp2_with fail
  refine (crcBytes_any a5 B.length cap5 B _ HB5.out.2.1 (by omega)).mono ?_
  rintro e w6 ⟨rfl, hw6⟩
  have HC6 : Hid (∀ j u, ((sumOf B).map (Value.int .u8))[j]? = some u → w6.cell? ((⟨w5.heap.size, 0, none⟩ : Addr).add j) = some u) := by
    intro j u hj
    rw [show (⟨w5.heap.size, 0, none⟩ : Addr).add j = ⟨w5.heap.size, j, none⟩ from by cases j <;> simp [Addr.add], hw6, (Blk.made w5 _ _).cell j]
    simpa using hj
  have b6 : Below w5.heap.size w5 w6 := by rw [hw6]; exact (Below.refl _ _).alloc (Nat.le_refl _) _
  have HB6 : Hid (w6.ownsRow w.heap.size 5 1 (.slice a5 B.length cap5) B.length (B.map (Value.int .u8)) ∧ Below w.heap.size w w6) := ⟨ownsRow_below HB5.out.1 b6, Below.next HB5.out.2.2 b6⟩
  clear hw6 b6 HB5
  go_wp2_with (with_reducible refine stopAppend rfl ?_)
  refine Stop.intro (wpList_append_own _ rfl _ _ 22 rfl w.heap.size 5 i0 (.int .u8 0) 1 1 Try.underlying22 hi hz0 hz1 hz2 rfl (by decide) _ _ _ rfl HB6.out.1 ⟨w5.heap.size, 0, none⟩ 4 4 ((sumOf B).map (Value.int .u8)) rfl (by simp [sumOf_len]) HC6.out (u8_one _) (by unfold maxLen; omega) (by omega) HB6.out.2.size ?_)
  intro v7 w7 hown hgrow _
  have h7 : w7.ownsRow w.heap.size 5 1 v7 x.bytes.length (x.bytes.map (Value.int .u8)) := by
    rw [HVB.out, List.length_append, List.map_append, sumOf_len]
    exact hown
  have HB7 : Hid (w7.ownsRow w.heap.size 5 1 v7 x.bytes.length (x.bytes.map (Value.int .u8)) ∧ Below w.heap.size w w7) := ⟨h7, HB6.out.2.grown hgrow HB6.out.2.size (fun g hg => (HB6.out.1.lt g hg).1)⟩
  clear hown hgrow h7 HB6 HC6
  go_wp2
  go_ret
  exact ⟨_, rfl, HB7.out⟩
end Go.Proofs.Ytjndcfamfminkab
/- What is read out of bytes, as a result; appends that grow, within a region. No statement of the seat is proved here. -/
namespace Go.Proofs.Ytjndcfamfminkab
open Go.RowKit
def NewSk2 (w : World) (R : Sk → Bool → Prop) (e : Ending) (w' : World) : Prop := ∃ v s d F, e = .returned (.tuple #[v, .bool d]) ∧ RdSk w' v s F ∧ Own w.heap.size w' F ∧ Below w.heap.size w w' ∧ R s d
def NumHeld (b off : Nat) (x0 x1 x2 x3 : Int) (W : World) : Prop := W.cell? ⟨b, off, none⟩ = some (.int .i64 x0) ∧ W.cell? ⟨b, off + 1, none⟩ = some (.int .i64 x1) ∧ W.cell? ⟨b, off + 2, none⟩ = some (.int .i64 x2) ∧ W.cell? ⟨b, off + 3, none⟩ = some (.int .i64 x3)
theorem rdSk_zero7 (w : World) : RdSk w (.agg #[.int .i64 0, .int .i64 0, .int .i64 0, .int .i64 0, .slice none 0 0, .slice none 0 0, .slice none 0 0]) Sk.zero [] := ⟨none, 0, 0, none, 0, 0, none, 0, 0, [], [], [], rfl, ⟨rfl, .inl ⟨rfl, rfl⟩⟩, ⟨rfl, .inl ⟨rfl, rfl⟩⟩, ⟨rfl, .inl ⟨rfl, rfl⟩⟩, rfl⟩
theorem wide_skOf {l : List Int} (h : l.length = 28) : (skOf l).wide := by
  refine ⟨by simp [skOf]; omega, by simp [skOf]; omega, by simp [skOf], fun z hz => ?_⟩
  have := (skOf_lens h).row z hz
  omega
theorem RdI.numHeld {W : World} {b off n : Nat} {l : List Int} {F : List Nat} (h : RdI W (some ⟨b, off, none⟩) n l F) (hn : 4 ≤ n) : NumHeld b off (l.getD 0 0) (l.getD 1 0) (l.getD 2 0) (l.getD 3 0) W := by
  rcases h.cells with ⟨h0, _⟩ | ⟨b', off', _, e, _, hc⟩
  · omega
  · cases e
    exact ⟨hc 0 (by omega), hc 1 (by omega), hc 2 (by omega), hc 3 (by omega)⟩
/-- A part of a list that is read. -/
theorem RdI.part {W : World} {b off m : Nat} {l : List Int} {F : List Nat} (h : RdI W (some ⟨b, off, none⟩) m l F) {k n : Nat} (hkn : k + n ≤ m) (hn : 0 < n) : RdI W (some ⟨b, off + k, none⟩) n ((l.drop k).take n) F := by
  rcases h.cells with ⟨h0, _⟩ | ⟨b', off', _, e, hF, hc⟩
  · omega
  · cases e
    refine ⟨by have := h.length; simp; omega, .inr ⟨b, off + k, hn, rfl, hF, fun i hi => ?_⟩⟩
    rw [Nat.add_assoc, hc (k + i) (by omega)]
    simp [hi]
section
variable {P : Program} {ops : Array Oper} {Q : Exit → Act → World → Prop} {a : Act} {w : World} {o : Oper} {K : Act → World → Prop}
theorem op_grows (s x : Operand) (t : TypeId) (hg : o.guard = none) (hop : o.op = .call { callee := .builtin .append, args := #[s, x], argTypes := #[t, t] })
    (e : TypeId) (i : TypeInfo) (z : Value) (size bytes : Nat) (h1 : P.underlying t = some (.slice e)) (h2 : P.info? e = some i) (h3 : i.zero = some z) (h4 : i.size = size) (h5 : i.bytes = bytes) (h6 : z.cells.size = size) (h7 : 0 < size)
    (ao : Option Addr) (hs : a.eval s = .slice ao 0 0)
    (ad : Addr) (m c : Nat) (news : List Value) (hx : a.eval x = .slice (some ad) m c) (hn : news.length = m * size) (hc : ∀ j u, news[j]? = some u → w.cell? (ad.add j) = some u) (h1c : ∀ u ∈ news, u.oneCell' = true)
    (hm : 0 < m) (b1 : m ≤ maxLen) (b2 : m * bytes ≤ 140737488355328)
    (h : ∀ v' w', w'.ownsRow w.heap.size e size v' m news → Below w.heap.size w w' → ∃ a', a.put o.dst v' = a' ∧ K a' w') : if Region.wanted o (yielded ops a.tmps) = true then Oper.wp P o a w K Q else K (a.put o.dst undef) w := by
  refine step_append_grows hg s x t hop e i z size bytes h1 h2 h3 h4 h5 h6 h7 ao 0 0 [] hs (fun _ => ⟨rfl, rfl⟩) (by simp) (fun _ _ j u hj => by simp at hj) ad m c news hx hn hc h1c (by omega) (by omega) (by simpa using b2) ?_
  intro v' w' k1 k2
  obtain ⟨_, rfl, k3⟩ := h v' w' (by simpa using k1) ((Below.refl _ _).grown k2 (Nat.le_refl _) (fun g e => by cases e))
  exact k3
end
end Go.Proofs.Ytjndcfamfminkab
/- The walk through the program's GetNum: it defers, it calls readNum, it recovers. No statement of the seat is proved here. -/
namespace Go.Proofs.Ytjndcfamfminkab
open Go.RowKit

set_option maxRecDepth 200000 in
theorem read_no (a : Option Addr) (len cap : Nat) (p : Int) (zs : List Int) (w : World) (h : RdB w a len zs) (hlen : len ≤ 1048576) (hcap : len ≤ cap) (ha : a = none → cap = 0) (hres : res zs p = none) :
    Calls Try.prog 146 #[.slice a len cap, .int .i64 p] w fun e w' => e = .panicked [{ v := .iface 9 (.string ⟨#[110, 111, 32, 110, 117, 109, 98, 101, 114]⟩), recovered := false }] ∧ w' = w := by
  have := read_any a len cap p zs w h hlen hcap ha
  rw [hres] at this
  exact this
set_option maxRecDepth 200000 in
theorem read_yes (a : Option Addr) (len cap : Nat) (p n : Int) (u : Nat) (zs : List Int) (w : World) (h : RdB w a len zs) (hlen : len ≤ 1048576) (hcap : len ≤ cap) (ha : a = none → cap = 0) (hres : res zs p = some (n, u)) :
    Calls Try.prog 146 #[.slice a len cap, .int .i64 p] w fun e w' => e = .returned (.tuple #[.int .i64 n, .int .i64 (p + u)]) ∧ w' = w := by
  have := read_any a len cap p zs w h hlen hcap ha
  rw [hres] at this
  exact this

theorem below3 (w : World) (a b c : Obj) : Below w.heap.size w (((w.alloc a).alloc b).alloc c) :=
  (((Below.refl _ _).alloc (Nat.le_refl _) _).alloc (by simp) _).alloc (by simp; omega) _

set_option maxRecDepth 200000 in
set_option maxHeartbeats 800000 in
theorem getImpl_no (a : Option Addr) (len cap : Nat) (p : Int) (zs : List Int) (w : World) (h : RdB w a len zs) (hlen : len ≤ 1048576) (hcap : len ≤ cap) (ha : a = none → cap = 0) (hres : res zs p = none) :
    Calls Try.prog 122 #[.slice a len cap, .int .i64 p] w fun e w' => e = .returned (.tuple #[.int .i64 0, .int .i64 0, .bool false]) ∧ Below w.heap.size w w' := by
  have hmf : ∀ (fn : Fn) (first cap : Array Value) (w : World), (Instr.makeFunc fn first cap).run Try.prog w = .ok (.func fn first cap) w := fun _ _ _ _ => rfl
  have HR : Hid (RdB w a len zs) := h
  have Hres : Hid (res zs p = none) := hres
  clear h hres
  go_enter_defers Try.func122, Try.ntmps122
  go_wp2_with fail
  refine (read_no a len cap p zs _ (HR.out.below (below3 _ _ _ _)) hlen hcap ha Hres.out).mono ?_
  rintro e w1 ⟨rfl, rfl⟩
  go_wp2
  refine leaves_cons (f := 145) (args := #[.pointer (some ⟨w.heap.size, 0, none⟩), .pointer (some ⟨w.heap.size + 1, 0, none⟩), .pointer (some ⟨w.heap.size + 2, 0, none⟩)]) (by simp) (by simp [go_sem]) ?_
  refine (catch_panicking ⟨w.heap.size, 0, none⟩ ⟨w.heap.size + 1, 0, none⟩ ⟨w.heap.size + 2, 0, none⟩ (.int .i64 0) (.int .i64 0) (.bool false) _ _ [] _ (by simp) (by simp) (by simp) ?_ ?_ ?_ ?_ ?_ ?_).mono ?_
  · simp [go_sem]
  · simp [go_sem]
  · simp [go_sem]
  · simp [go_sem]
  · simp [go_sem]
  · simp [go_sem]
  rintro e u' w2 ⟨rfl, rfl, rfl⟩
  clear HR Hres hmf
  simp [Leaves, settle, results, Try.results122, go_sem]
  exact below3 _ _ _ _

set_option maxRecDepth 200000 in
set_option maxHeartbeats 800000 in
theorem getImpl_yes (a : Option Addr) (len cap : Nat) (p n : Int) (u : Nat) (zs : List Int) (w : World) (h : RdB w a len zs) (hlen : len ≤ 1048576) (hcap : len ≤ cap) (ha : a = none → cap = 0) (hres : res zs p = some (n, u)) :
    Calls Try.prog 122 #[.slice a len cap, .int .i64 p] w fun e w' => e = .returned (.tuple #[.int .i64 n, .int .i64 (p + u), .bool true]) ∧ Below w.heap.size w w' := by
  have hmf : ∀ (fn : Fn) (first cap : Array Value) (w : World), (Instr.makeFunc fn first cap).run Try.prog w = .ok (.func fn first cap) w := fun _ _ _ _ => rfl
  have HR : Hid (RdB w a len zs) := h
  have Hres : Hid (res zs p = some (n, u)) := hres
  clear h hres
  go_enter_defers Try.func122, Try.ntmps122
  go_wp2_with fail
  refine (read_yes a len cap p n u zs _ (HR.out.below (below3 _ _ _ _)) hlen hcap ha Hres.out).mono ?_
  rintro e w1 ⟨rfl, rfl⟩
  clear HR Hres
  go_wp2
  go_region
  all_goals (try go_wp2)
  all_goals
    refine leaves_cons (f := 145) (args := #[.pointer (some ⟨w.heap.size, 0, none⟩), .pointer (some ⟨w.heap.size + 1, 0, none⟩), .pointer (some ⟨w.heap.size + 2, 0, none⟩)]) (by simp) (by simp [go_sem]) ?_
    refine (catch_idle _ _ _ _).mono ?_
    rintro e u' w2 ⟨rfl, rfl, rfl⟩
    simp [Leaves, settle, results, Try.results122, go_sem]
    exact (below3 _ _ _ _).drew

set_option maxRecDepth 200000 in
theorem getImpl_any (a : Option Addr) (len cap : Nat) (p : Int) (zs : List Int) (w : World) (h : RdB w a len zs) (hlen : len ≤ 1048576) (hcap : len ≤ cap) (ha : a = none → cap = 0) :
    Calls Try.prog 122 #[.slice a len cap, .int .i64 p] w fun e w' => e = .returned (out3 (res zs p) p) ∧ Below w.heap.size w w' := by
  cases hr : res zs p with
  | none => exact getImpl_no a len cap p zs w h hlen hcap ha hr
  | some x => exact getImpl_yes a len cap p x.1 x.2 zs w h hlen hcap ha hr
end Go.Proofs.Ytjndcfamfminkab
/- The walk through the program's numbersOfBytes. No statement of the seat is proved here. -/
namespace Go.Proofs.Ytjndcfamfminkab
open Go.RowKit
theorem putAll_ge {l : List Int} (h : ∀ x ∈ l, InN x) : l.length ≤ (putAll l).length := by
  induction l with
  | nil => simp
  | cons a l ih =>
    have p := encOf_pos (h a (List.mem_cons_self ..))
    have e : putAll (a :: l) = encOf a ++ putAll l := by simp [putAll]
    have i := ih (fun x hx => h x (List.mem_cons_of_mem _ hx))
    rw [e, List.length_append, List.length_cons]
    omega
theorem allIs_len {zs l : List Int} {d : Bool} (h : AllIs zs l d) : l.length ≤ zs.length ∧ ∀ x ∈ l, InN x := by
  unfold AllIs at h
  cases d <;> simp only [if_true, Bool.false_eq_true, if_false] at h
  · rw [h.1]; exact ⟨by simp, by simp⟩
  · rw [h.1]; exact ⟨putAll_ge h.2, h.2⟩
/-- Where the bytes do not fit. -/
def Unfit (zs : List Int) (w : World) (a : Act) (W : World) : Prop := Below w.heap.size w W ∧ AllIs zs [] false ∧ ∃ u0 u1 u2 u3 u4 u5 u6 u7 u8 u9 u10 u11 u12 u13 u14 u15 u16 u17 u18 u19 u20 u21 u22 u23 u24 u25 u26 u27 u28 : Value, a = { tmps := #[u0, u1, u2, u3, u4, u5, u6, u7, u8, u9, u10, u11, u12, u13, u14, u15, u16, u17, u18, u19, u20, u21, u22, u23, u24, u25, u26, u27, u28], defers := [] }
set_option maxRecDepth 100000 in
set_option maxHeartbeats 4000000 in
theorem numbersOfBytes_any (a : Option Addr) (len cap : Nat) (zs : List Int) (w : World) (h : RdB w a len zs) (hlen : len ≤ 1048576) (hcap : len ≤ cap) (ha : a = none → cap = 0) :
    Calls Try.prog 78 #[.slice a len cap] w fun e w' => (∃ v l d, e = .returned (.tuple #[v, .bool d]) ∧ w'.ownsRow w.heap.size 3 1 v l.length (l.map (Value.int .i64)) ∧ AllIs zs l d) ∧ Below w.heap.size w w' := by
  obtain ⟨i0, hi, hz0, hz1, hz2⟩ := info_parts infoInt
  have HR : Hid (RdB w a len zs ∧ len ≤ cap ∧ (a = none → cap = 0)) := ⟨h, hcap, ha⟩
  have HL : Hid (zs.length = len ∧ ∀ x ∈ zs, 0 ≤ x ∧ x ≤ 255) := ⟨h.length, h.range⟩
  clear h hcap ha
  go_enter Try.func78, Try.ntmps78
  go_wp2
  refine wp_scope_jumps 1 (Unfit zs w) (fun _ _ => 0) rfl ?_ ?_
  rotate_left
  · rintro a' W ⟨hb, hz, u0, u1, u2, u3, u4, u5, u6, u7, u8, u9, u10, u11, u12, u13, u14, u15, u16, u17, u18, u19, u20, u21, u22, u23, u24, u25, u26, u27, u28, rfl⟩
    have HB : Hid (Below w.heap.size w W) := hb
    have HZ : Hid (AllIs zs [] false) := hz
    clear hb hz
    go_wp2
    simp only [Exit.jump]
    go_ret2
    exact ⟨⟨_, [], false, rfl, World.ownsRow_nil _ _ _ _, HZ.out⟩, HB.out⟩
  go_wp2
  go_step3
  go_wp2
  go_loopw [4, 5] (fun v at_ wr => ∃ (k : Nat) (l : List Int) (q : Int), at_ = .int .i64 q ∧ 0 ≤ q ∧ q ≤ len ∧ Hid (getTo zs 0 k = some (l, q)) ∧ Hid (wr.ownsRow w.heap.size 3 1 v l.length (l.map (Value.int .i64)) ∧ Below w.heap.size w wr)) (fun _ i _ => len - (intOf i).toNat)
  case atStart => exact ⟨0, [], 0, rfl, by omega, by omega, rfl, World.ownsRow_nil _ _ _ _, Below.refl _ _⟩
  case round =>
    obtain ⟨k, l, q, rfl, hq0, hq1, HG, HO⟩ := hrel
    go_wp2_with fail
    refine (getImpl_any a len cap q zs _ (HR.out.1.below HO.out.2) hlen HR.out.2.1 HR.out.2.2).mono ?_
    rintro e w1 ⟨rfl, hb1⟩
    have HO1 : Hid (w1.ownsRow w.heap.size 3 1 u4 l.length (l.map (Value.int .i64)) ∧ Below w.heap.size w w1) := ⟨ownsRow_below HO.out.1 hb1, Below.next HO.out.2 hb1⟩
    clear hb1 HO
    obtain ⟨r, hr⟩ : ∃ r, r = res zs q := ⟨_, rfl⟩
    rw [← hr]
    have HRes : Hid (r = res zs q) := hr
    clear hr
    rcases r with _ | ⟨n, u⟩
    · simp only [out3]
      by_cases hqe : q = len
      · have hqb : (q == (len : Int)) = true := by simpa using hqe
        have HV : Hid (AllIs zs l true) := all_here HL.out.2 (k := k) (by rw [HG.out, hqe, HL.out.1])
        clear hqe
        go_wp2
        simp only [Exit.jump]
        go_ret2
        exact ⟨⟨_, l, true, rfl, HO1.out.1, HV.out⟩, HO1.out.2⟩
      · have hqb : (q == (len : Int)) = false := by simpa using hqe
        have HV : Hid (AllIs zs [] false) := all_none HG.out HRes.out.symm (by rw [HL.out.1]; exact hqe)
        clear hqe
        go_wp2
        go_step3
        exact ⟨rfl, HO1.out.2, HV.out, _, _, _, _, _, _, _, _, _, _, _, _, _, _, _, _, _, _, _, _, _, _, _, _, _, _, _, _, _, rfl⟩
    · have HG2 : Hid (getTo zs 0 (k + 1) = some (l ++ [n], q + u)) := by show _ = _; rw [getTo, HG.out]; simp only; rw [← HRes.out]
      have hI := getTo_inv (p := 0) HL.out.2 (Nat.zero_le _) (by simpa using HG.out)
      have hr2 := res_inv HL.out.2 HRes.out.symm
      have hup : 0 < u := by rw [hr2.2.2.1]; exact encOf_pos hr2.2.1
      have hql : q + u ≤ len := by have := hr2.2.2.2.1; have := HL.out.1; omega
      have hll : l.length ≤ len := by have := putAll_ge hI.1; have := hI.2.2.1; have := HL.out.1; omega
      clear hI hr2
      simp only [out3]
      obtain ⟨q2, hq2⟩ : ∃ q2, q2 = q + (u : Int) := ⟨_, rfl⟩
      have hq2a : q < q2 := by omega
      have hq2b : q2 ≤ len := by omega
      rw [← hq2] at HG2 ⊢
      clear hq2 hql hup HG HRes
      go_wp2_with (with_reducible refine stopAppend rfl ?_)
      refine Stop.intro (wpList_append_own _ rfl _ _ 25 rfl w.heap.size 3 i0 (.int .i64 0) 1 8 Try.underlying25 hi hz0 hz1 hz2 rfl (by decide) _ _ _ rfl (HO1.out.1.alloc _) ⟨w1.heap.size, 0, none⟩ 1 1 [.int .i64 n] rfl rfl (cell_one7 _ _ _) (by intro u hu; simp at hu; subst hu; rfl) (by unfold maxLen; omega) (by omega) (by have := HO1.out.2.size; simp; omega) ?_)
      intro v2 w2 hown hgrow _
      have hal : Below w.heap.size w (w1.alloc (.cells #[.int .i64 n] 3)) := Below.allocW _ HO1.out.2 (Nat.le_refl _)
      have hb2 : Below w.heap.size w w2 := hal.grown hgrow hal.size (fun g hg => (HO1.out.1.lt g hg).1)
      have HO2 : Hid (w2.ownsRow w.heap.size 3 1 v2 (l ++ [n]).length ((l ++ [n]).map (Value.int .i64)) ∧ Below w.heap.size w w2) := by
        refine ⟨?_, hb2⟩
        rw [List.length_append, List.map_append]
        exact hown
      clear hown hgrow hal hb2 HO1 hll
      go_wp2
      go_roundw
      case rel => exact ⟨k + 1, l ++ [n], q2, rfl, by omega, by omega, HG2, HO2⟩
      case measure => simp [intOf]; omega
end Go.Proofs.Ytjndcfamfminkab
/- The walks through the program's sketchOfNumbers and SketchOf. No statement of the seat is proved here. -/
namespace Go.Proofs.Ytjndcfamfminkab
open Go.RowKit
/-- These numbers are that summary's; or no summary's. -/
def SkN (l : List Int) (s : Sk) (d : Bool) : Prop := if d = true then l.length = 28 ∧ s = skOf l ∧ s.ok = true else s = Sk.zero ∧ ¬ (l.length = 28 ∧ (skOf l).ok = true)
theorem rdI_own_cap {w : World} {B e n : Nat} {v : Value} {zs : List Int} (h : w.ownsRow B e 1 v n (zs.map (Value.int .i64))) : ∃ a cap F, v = .slice a n cap ∧ RdI w a n zs F ∧ n ≤ cap := by
  obtain ⟨a, cap, F, rfl, hr, _⟩ := rdI_of_own h
  refine ⟨a, cap, F, rfl, hr, ?_⟩
  rcases h.2 with ⟨_, h0⟩ | ⟨g, c, cur, h1, _, _, h2, _⟩
  · omega
  · cases h1; exact h2
theorem skN_bad {l : List Int} (h : ¬ (l.length = 28 ∧ (skOf l).ok = true)) : SkN l Sk.zero false := (if_neg (by simp)).mpr ⟨rfl, h⟩
theorem skN_yes {l : List Int} (h1 : l.length = 28) (h2 : (skOf l).ok = true) : SkN l (skOf l) true := (if_pos rfl).mpr ⟨h1, rfl, h2⟩
theorem num_splice {l : List Int} (h : l.length = 28) : splice (splice (splice (splice (([l.getD 0 0, l.getD 1 0, l.getD 2 0, l.getD 3 0] ++ List.replicate 24 0).map (Value.int .i64)) 4 (((l.drop 4).take 8).map (Value.int .i64))) 12 (((l.drop 12).take 8).map (Value.int .i64))) 20 (((l.drop 20).take 4).map (Value.int .i64))) 24 (((l.drop 24).take 4).map (Value.int .i64)) = l.map (Value.int .i64) := by
  have e := tl_map (skOf l) (by simp [skOf]; omega) (by simp [skOf]; omega) (by simp [skOf]; omega) (by simp [skOf]; omega)
  have t : (skOf l).tl = l := by rw [tl_nums (skOf_lens h), skOf_nums h]
  rw [t] at e
  exact e
set_option maxRecDepth 200000 in
set_option maxHeartbeats 8000000 in
theorem sketchOfNumbers_any (a : Option Addr) (len cap : Nat) (l : List Int) (F : List Nat) (w : World) (h : RdI w a len l F) (hlen : len ≤ 1048576) (hcap : len ≤ cap) :
    Calls Try.prog 147 #[.slice a len cap] w fun e w' => NewSk2 w (SkN l) e w' := by
  have HL : Hid (l.length = len) := h.length
  have bR : Below w.heap.size w (w.alloc (.cells #[.int .i64 0, .int .i64 0, .int .i64 0, .int .i64 0, .slice none 0 0, .slice none 0 0, .slice none 0 0] 28)) := (Below.refl _ _).alloc (Nat.le_refl _) _
  have HT : Hid (Blk (w.alloc (.cells #[.int .i64 0, .int .i64 0, .int .i64 0, .int .i64 0, .slice none 0 0, .slice none 0 0, .slice none 0 0] 28)) w.heap.size #[.int .i64 0, .int .i64 0, .int .i64 0, .int .i64 0, .slice none 0 0, .slice none 0 0, .slice none 0 0] 28 ∧ Below w.heap.size w (w.alloc (.cells #[.int .i64 0, .int .i64 0, .int .i64 0, .int .i64 0, .slice none 0 0, .slice none 0 0, .slice none 0 0] 28))) := ⟨Blk.made _ _ _, bR⟩
  clear bR
  by_cases hne : len = 28
  rotate_left
  · have hneb : ((len : Int) != 28) = true := by simpa using (by omega : ¬ (len : Int) = 28)
    have HV : Hid (SkN l Sk.zero false) := skN_bad (by rw [HL.out]; omega)
    clear h hne
    go_enter Try.func147, Try.ntmps147
    go_wp2_with (first | go_skip | (with_reducible refine stopStore 28 rfl ?_))
    refine store_known 28 w.heap.size _ #[.int .i64 0, .int .i64 0, .int .i64 0, .int .i64 0, .slice none 0 0, .slice none 0 0, .slice none 0 0] 28 HT.out.1 rfl rfl rfl rfl infoSkI rfl (by simp [Value.oneCell']) ?_
    go_wp2
    refine bodyPost_ret (results_row_tmp Try.results147 _ _ w.heap.size _ _ _ _ rfl HT.out.1.setRow Try.underlying28 rfl infoSkI) rfl ?_
    exact ⟨_, Sk.zero, false, [], rfl, rdSk_zero7 _, Own.nil, below_setRow HT.out.2 (Nat.le_refl _) _, HV.out⟩
  subst hne
  have hneb : (((28 : Nat) : Int) != 28) = false := by simp
  obtain ⟨b, off, rfl⟩ := h.addr (by omega)
  have HR : Hid (RdI w (some ⟨b, off, none⟩) 28 l F) := h
  obtain ⟨x0, hx0⟩ : ∃ x, x = l.getD 0 0 := ⟨_, rfl⟩
  obtain ⟨x1, hx1⟩ : ∃ x, x = l.getD 1 0 := ⟨_, rfl⟩
  obtain ⟨x2, hx2⟩ : ∃ x, x = l.getD 2 0 := ⟨_, rfl⟩
  obtain ⟨x3, hx3⟩ : ∃ x, x = l.getD 3 0 := ⟨_, rfl⟩
  have HX : Hid (x0 = l.getD 0 0 ∧ x1 = l.getD 1 0 ∧ x2 = l.getD 2 0 ∧ x3 = l.getD 3 0) := ⟨hx0, hx1, hx2, hx3⟩
  have HB0 : Hid (∀ W, Below w.heap.size w W → NumHeld b off x0 x1 x2 x3 W) := by
    intro W hb
    have r := HR.out.below hb
    rcases r.cells with ⟨h0, _⟩ | ⟨b', off', _, e, _, hc⟩
    · omega
    · cases e
      exact ⟨by rw [hx0]; exact hc 0 (by omega), by rw [hx1]; exact hc 1 (by omega), by rw [hx2]; exact hc 2 (by omega), by rw [hx3]; exact hc 3 (by omega)⟩
  have HK : Hid (∀ W, Below w.heap.size w W → ∀ k n, k + n ≤ 28 → 0 < n → ∃ ad, (some ⟨b, off + k, none⟩ : Option Addr) = some ad ∧ ∀ j v, (((l.drop k).take n).map (Value.int .i64))[j]? = some v → W.cell? (ad.add j) = some v) := by
    intro W hb k n hkn hn
    refine ⟨_, rfl, fun j v hj => ?_⟩
    have r := HR.out.below hb
    rcases r.cells with ⟨h0, _⟩ | ⟨b', off', _, e, _, hc⟩
    · omega
    · cases e
      rw [List.getElem?_map, Option.map_eq_some_iff] at hj
      obtain ⟨x, hj, rfl⟩ := hj
      have hjn : j < n := by
        have := (List.getElem?_eq_some_iff.1 hj).1
        rw [List.length_take] at this
        omega
      rw [List.getElem?_take, if_pos hjn, List.getElem?_drop] at hj
      rw [show (⟨b, off + k, none⟩ : Addr).add j = ⟨b, off + (k + j), none⟩ from by cases j <;> simp [Addr.add, Nat.add_assoc], hc (k + j) (by omega)]
      simp [hj]
  clear h hx0 hx1 hx2 hx3
  go_enter Try.func147, Try.ntmps147
  go_wp2
  obtain ⟨W0, hW0⟩ : ∃ W, W = w.alloc (.cells #[.int .i64 0, .int .i64 0, .int .i64 0, .int .i64 0, .slice none 0 0, .slice none 0 0, .slice none 0 0] 28) := ⟨_, rfl⟩
  rw [← hW0] at HT ⊢
  clear hW0
  have HS : Hid (NumHeld b off x0 x1 x2 x3 W0.drew ∧ Below w.heap.size w W0.drew ∧ Blk W0.drew w.heap.size #[.int .i64 0, .int .i64 0, .int .i64 0, .int .i64 0, .slice none 0 0, .slice none 0 0, .slice none 0 0] 28) := ⟨HB0.out _ HT.out.2.drew, HT.out.2.drew, HT.out.1.drew⟩
  refine wp_region_held (S := NumHeld b off x0 x1 x2 x3) (by kernel_rfl) ?_
  change wpAnyH _ _ _ _ _ _ _ _ (World.drew _)
  refine takeH (o := ?o1) 0 (.slice (some ⟨b, off, none⟩) 28 cap) ?h1 ?r1
  case h1 => simp only [aT, aZ]; rfl
  refine ⟨_, by simp [Act.put]; rfl, by kernel_rfl, by kernel_rfl, by kernel_rfl, fun _ _ _ h => h, (.inl ⟨rfl, fun W _ => by go_simp⟩), HS.out.1, ?_⟩
  refine takeH (o := ?o2) 1 (.pointer (some ⟨b, off, none⟩)) ?h2 ?r2
  case h2 => simp only [aT, aS, aZ]; rfl
  refine ⟨_, by simp [Act.put]; rfl, by kernel_rfl, by kernel_rfl, by kernel_rfl, fun _ _ _ h => h, (.inl ⟨rfl, fun W _ => by go_simp⟩), HS.out.1, ?_⟩
  refine takeH (o := ?o3) 2 (.int .i64 x0) ?h3 ?r3
  case h3 => simp only [aT, aS, aZ]; rfl
  refine ⟨_, by simp [Act.put]; rfl, by kernel_rfl, by kernel_rfl, by kernel_rfl, fun _ _ _ h => h, (.inl ⟨rfl, fun W hW => by have c := hW.1; go_simp⟩), HS.out.1, ?_⟩
  refine takeH (o := ?o4) 3 (.slice (some ⟨b, off, none⟩) 28 cap) ?h4 ?r4
  case h4 => simp only [aT, aS, aZ]; rfl
  refine ⟨_, by simp [Act.put]; rfl, by kernel_rfl, by kernel_rfl, by kernel_rfl, fun _ _ _ h => h, (.inl ⟨rfl, fun W _ => by go_simp⟩), HS.out.1, ?_⟩
  refine takeH (o := ?o5) 4 (.pointer (some ⟨b, off + 1, none⟩)) ?h5 ?r5
  case h5 => simp only [aT, aS, aZ]; rfl
  refine ⟨_, by simp [Act.put]; rfl, by kernel_rfl, by kernel_rfl, by kernel_rfl, fun _ _ _ h => h, (.inl ⟨rfl, fun W _ => by go_simp⟩), HS.out.1, ?_⟩
  refine takeH (o := ?o6) 5 (.int .i64 x1) ?h6 ?r6
  case h6 => simp only [aT, aS, aZ]; rfl
  refine ⟨_, by simp [Act.put]; rfl, by kernel_rfl, by kernel_rfl, by kernel_rfl, fun _ _ _ h => h, (.inl ⟨rfl, fun W hW => by have c := hW.2.1; go_simp⟩), HS.out.1, ?_⟩
  refine takeH (o := ?o7) 6 (.slice (some ⟨b, off, none⟩) 28 cap) ?h7 ?r7
  case h7 => simp only [aT, aS, aZ]; rfl
  refine ⟨_, by simp [Act.put]; rfl, by kernel_rfl, by kernel_rfl, by kernel_rfl, fun _ _ _ h => h, (.inl ⟨rfl, fun W _ => by go_simp⟩), HS.out.1, ?_⟩
  refine takeH (o := ?o8) 7 (.pointer (some ⟨b, off + 2, none⟩)) ?h8 ?r8
  case h8 => simp only [aT, aS, aZ]; rfl
  refine ⟨_, by simp [Act.put]; rfl, by kernel_rfl, by kernel_rfl, by kernel_rfl, fun _ _ _ h => h, (.inl ⟨rfl, fun W _ => by go_simp⟩), HS.out.1, ?_⟩
  refine takeH (o := ?o9) 8 (.int .i64 x2) ?h9 ?r9
  case h9 => simp only [aT, aS, aZ]; rfl
  refine ⟨_, by simp [Act.put]; rfl, by kernel_rfl, by kernel_rfl, by kernel_rfl, fun _ _ _ h => h, (.inl ⟨rfl, fun W hW => by have c := hW.2.2.1; go_simp⟩), HS.out.1, ?_⟩
  refine takeH (o := ?o10) 9 (.slice (some ⟨b, off, none⟩) 28 cap) ?h10 ?r10
  case h10 => simp only [aT, aS, aZ]; rfl
  refine ⟨_, by simp [Act.put]; rfl, by kernel_rfl, by kernel_rfl, by kernel_rfl, fun _ _ _ h => h, (.inl ⟨rfl, fun W _ => by go_simp⟩), HS.out.1, ?_⟩
  refine takeH (o := ?o11) 10 (.pointer (some ⟨b, off + 3, none⟩)) ?h11 ?r11
  case h11 => simp only [aT, aS, aZ]; rfl
  refine ⟨_, by simp [Act.put]; rfl, by kernel_rfl, by kernel_rfl, by kernel_rfl, fun _ _ _ h => h, (.inl ⟨rfl, fun W _ => by go_simp⟩), HS.out.1, ?_⟩
  refine takeH (o := ?o12) 11 (.int .i64 x3) ?h12 ?r12
  case h12 => simp only [aT, aS, aZ]; rfl
  refine ⟨_, by simp [Act.put]; rfl, by kernel_rfl, by kernel_rfl, by kernel_rfl, fun _ _ _ h => h, (.inl ⟨rfl, fun W hW => by have c := hW.2.2.2; go_simp⟩), HS.out.1, ?_⟩
  refine takeH (o := ?o13) 12 (.agg (tc ([x0, x1, x2, x3] ++ List.replicate 24 0))) ?h13 ?r13
  case h13 => simp only [aT, aS, aZ]; rfl
  refine ⟨_, by simp [Act.put]; rfl, by kernel_rfl, by kernel_rfl, by kernel_rfl, fun _ _ _ h => h, (.inl ⟨rfl, fun W _ => by go_simp; rfl⟩), HS.out.1, ?_⟩
  refine onlyH (o := ?o14) 13 (by kernel_rfl) ?h14 ?r14
  case h14 => simp only [aT, aS, aZ]; rfl
  intro K hK
  have bA : Below W0.drew.heap.size W0.drew (W0.drew.alloc (.cells (tc (List.replicate 28 0)) 75)) := (Below.refl _ _).alloc (Nat.le_refl _) _
  have HA : Hid (Below w.heap.size w (W0.drew.alloc (.cells (tc (List.replicate 28 0)) 75)) ∧ Blk (W0.drew.alloc (.cells (tc (List.replicate 28 0)) 75)) w.heap.size #[.int .i64 0, .int .i64 0, .int .i64 0, .int .i64 0, .slice none 0 0, .slice none 0 0, .slice none 0 0] 28 ∧ Blk (W0.drew.alloc (.cells (tc (List.replicate 28 0)) 75)) W0.heap.size (tc (List.replicate 28 0)) 75) := ⟨Below.next HS.out.2.1 bA, HS.out.2.2.below bA, Blk.made W0.drew _ _⟩
  refine op_turn (.pointer (some ⟨W0.heap.size, 0, none⟩)) (W0.drew.alloc (.cells (tc (List.replicate 28 0)) 75)) rfl (by go_simp; rfl) ⟨_, by simp [Act.put]; rfl, hK _ _ ⟨HB0.out _ HA.out.1, ?_⟩⟩
  clear hK bA
  refine onlyH (o := ?o15) 14 (by kernel_rfl) ?h15 ?r15
  case h15 => simp only [aT, aS, aZ]; rfl
  intro K hK
  have lt0 : w.heap.size < W0.heap.size := HT.out.1.lt
  have hbS : Below w.heap.size w ((W0.drew.alloc (.cells (tc (List.replicate 28 0)) 75)).setRow W0.heap.size (tc ([x0, x1, x2, x3] ++ List.replicate 24 0))) := below_setRow HA.out.1 (by omega) _
  refine op_store 75 W0.heap.size (tc (List.replicate 28 0)) (tc ([x0, x1, x2, x3] ++ List.replicate 24 0)) 75 rfl rfl rfl rfl HA.out.2.2 (tallySize rfl) rfl (tc_one _) ⟨_, by simp [Act.put]; rfl, hK _ _ ⟨HB0.out _ hbS, ?_⟩⟩
  clear hK
  refine wpAnyH_done (by kernel_rfl) ?_ _
  obtain ⟨W1, hW1⟩ : ∃ W, W = (W0.drew.alloc (.cells (tc (List.replicate 28 0)) 75)).setRow W0.heap.size (tc ([x0, x1, x2, x3] ++ List.replicate 24 0)) := ⟨_, rfl⟩
  obtain ⟨L0, hL0⟩ : ∃ L, L = ([x0, x1, x2, x3] ++ List.replicate 24 0).map (Value.int .i64) := ⟨_, rfl⟩
  have HL0 : Hid (L0 = ([x0, x1, x2, x3] ++ List.replicate 24 0).map (Value.int .i64)) := hL0
  have HG1 : Hid (W1.heap[W0.heap.size]? = some (.cells L0.toArray 75 (0, 0)) ∧ L0.length = 28) := ⟨by rw [hW1, hL0]; exact HA.out.2.2.setRow, by rw [hL0]; rfl⟩
  have HQ1 : Hid (Below w.heap.size w W1 ∧ Blk W1 w.heap.size #[.int .i64 0, .int .i64 0, .int .i64 0, .int .i64 0, .slice none 0 0, .slice none 0 0, .slice none 0 0] 28) := ⟨by rw [hW1]; exact hbS, by rw [hW1]; exact HA.out.2.1.setRowOther (by omega)⟩
  rw [← hW1]
  obtain ⟨T, hT⟩ : ∃ T, T = W0.heap.size := ⟨_, rfl⟩
  rw [← hT] at HG1 lt0 ⊢
  clear HA hbS hW1 hL0 HS HT hT
  have HM : Hid (∀ k n, k + n ≤ 28 → (((l.drop k).take n).map (Value.int .i64)).length = n) := by
    intro k n hkn
    have := HL.out
    simp
    omega
  go_wp2_with (first | go_skip | (with_reducible refine stopCopy rfl ?_))
  refine Stop.intro (wpList_copy_splice rfl _ _ 25 25 rfl 3 Try.underlying25 infoInt1 _ _ _ _ _ _ rfl rfl T 4 L0 75 HG1.out.1 (((l.drop 4).take 8).map (Value.int .i64)) (by rw [HM.out 4 8 (by omega)]; rfl) (fun _ => ⟨rfl, HK.out _ HQ1.out.1 4 8 (by omega) (by omega)⟩) (by rw [HM.out 4 8 (by omega), HG1.out.2]; omega) (ints_one _) T W1 (Below.refl _ _) (Nat.le_refl _) ?_)
  intro W2 hg hb
  obtain ⟨L1, hL1⟩ : ∃ L, L = splice L0 4 (((l.drop 4).take 8).map (Value.int .i64)) := ⟨_, rfl⟩
  have HG2 : Hid (W2.heap[T]? = some (.cells L1.toArray 75 (0, 0)) ∧ L1.length = 28) := ⟨by rw [hL1]; exact hg.out, by rw [hL1, length_splice _ _ _ (by rw [HM.out 4 8 (by omega), HG1.out.2]; omega)]; exact HG1.out.2⟩
  have HL1 : Hid (L1 = splice L0 4 (((l.drop 4).take 8).map (Value.int .i64))) := hL1
  have HQ2 : Hid (Below w.heap.size w W2 ∧ Blk W2 w.heap.size #[.int .i64 0, .int .i64 0, .int .i64 0, .int .i64 0, .slice none 0 0, .slice none 0 0, .slice none 0 0] 28) := ⟨HQ1.out.1.trans (hb.mono (by omega)), HQ1.out.2.agree (hb.block _ (by omega))⟩
  rw [HM.out 4 8 (by omega)]
  clear hg hb hL1 HG1 HQ1
  go_wp2_with (first | go_skip | (with_reducible refine stopCopy rfl ?_))
  refine Stop.intro (wpList_copy_splice rfl _ _ 25 25 rfl 3 Try.underlying25 infoInt1 _ _ _ _ _ _ rfl rfl T 12 L1 75 HG2.out.1 (((l.drop 12).take 8).map (Value.int .i64)) (by rw [HM.out 12 8 (by omega)]; rfl) (fun _ => ⟨rfl, HK.out _ HQ2.out.1 12 8 (by omega) (by omega)⟩) (by rw [HM.out 12 8 (by omega), HG2.out.2]; omega) (ints_one _) T W2 (Below.refl _ _) (Nat.le_refl _) ?_)
  intro W3 hg hb
  obtain ⟨L2, hL2⟩ : ∃ L, L = splice L1 12 (((l.drop 12).take 8).map (Value.int .i64)) := ⟨_, rfl⟩
  have HG3 : Hid (W3.heap[T]? = some (.cells L2.toArray 75 (0, 0)) ∧ L2.length = 28) := ⟨by rw [hL2]; exact hg.out, by rw [hL2, length_splice _ _ _ (by rw [HM.out 12 8 (by omega), HG2.out.2]; omega)]; exact HG2.out.2⟩
  have HL2 : Hid (L2 = splice L1 12 (((l.drop 12).take 8).map (Value.int .i64))) := hL2
  have HQ3 : Hid (Below w.heap.size w W3 ∧ Blk W3 w.heap.size #[.int .i64 0, .int .i64 0, .int .i64 0, .int .i64 0, .slice none 0 0, .slice none 0 0, .slice none 0 0] 28) := ⟨HQ2.out.1.trans (hb.mono (by omega)), HQ2.out.2.agree (hb.block _ (by omega))⟩
  rw [HM.out 12 8 (by omega)]
  clear hg hb hL2 HG2 HQ2
  go_wp2
  refine wp_loop_rounds 3 ?_
  rw [rounds_succ]
  go_wp2_with (first | go_skip | (with_reducible refine stopCopy rfl ?_))
  refine Stop.intro (wpList_copy_splice rfl _ _ 25 25 rfl 3 Try.underlying25 infoInt1 _ _ _ _ _ _ rfl rfl T 20 L2 75 HG3.out.1 (((l.drop 20).take 4).map (Value.int .i64)) (by rw [HM.out 20 4 (by omega)]; rfl) (fun _ => ⟨rfl, HK.out _ HQ3.out.1 20 4 (by omega) (by omega)⟩) (by rw [HM.out 20 4 (by omega), HG3.out.2]; omega) (ints_one _) T W3 (Below.refl _ _) (Nat.le_refl _) ?_)
  intro W4 hg hb
  obtain ⟨L3, hL3⟩ : ∃ L, L = splice L2 20 (((l.drop 20).take 4).map (Value.int .i64)) := ⟨_, rfl⟩
  have HG4 : Hid (W4.heap[T]? = some (.cells L3.toArray 75 (0, 0)) ∧ L3.length = 28) := ⟨by rw [hL3]; exact hg.out, by rw [hL3, length_splice _ _ _ (by rw [HM.out 20 4 (by omega), HG3.out.2]; omega)]; exact HG3.out.2⟩
  have HL3 : Hid (L3 = splice L2 20 (((l.drop 20).take 4).map (Value.int .i64))) := hL3
  have HQ4 : Hid (Below w.heap.size w W4 ∧ Blk W4 w.heap.size #[.int .i64 0, .int .i64 0, .int .i64 0, .int .i64 0, .slice none 0 0, .slice none 0 0, .slice none 0 0] 28) := ⟨HQ3.out.1.trans (hb.mono (by omega)), HQ3.out.2.agree (hb.block _ (by omega))⟩
  rw [HM.out 20 4 (by omega)]
  clear hg hb hL3 HG3 HQ3
  go_wp2_with fail
  rw [rounds_succ]
  go_wp2_with (first | go_skip | (with_reducible refine stopCopy rfl ?_))
  refine Stop.intro (wpList_copy_splice rfl _ _ 25 25 rfl 3 Try.underlying25 infoInt1 _ _ _ _ _ _ rfl rfl T 24 L3 75 HG4.out.1 (((l.drop 24).take 4).map (Value.int .i64)) (by rw [HM.out 24 4 (by omega)]; rfl) (fun _ => ⟨rfl, HK.out _ HQ4.out.1 24 4 (by omega) (by omega)⟩) (by rw [HM.out 24 4 (by omega), HG4.out.2]; omega) (ints_one _) T W4 (Below.refl _ _) (Nat.le_refl _) ?_)
  intro W5 hg hb
  obtain ⟨L4, hL4⟩ : ∃ L, L = splice L3 24 (((l.drop 24).take 4).map (Value.int .i64)) := ⟨_, rfl⟩
  have HG5 : Hid (W5.heap[T]? = some (.cells L4.toArray 75 (0, 0)) ∧ L4.length = 28) := ⟨by rw [hL4]; exact hg.out, by rw [hL4, length_splice _ _ _ (by rw [HM.out 24 4 (by omega), HG4.out.2]; omega)]; exact HG4.out.2⟩
  have HL4 : Hid (L4 = splice L3 24 (((l.drop 24).take 4).map (Value.int .i64))) := hL4
  have HQ5 : Hid (Below w.heap.size w W5 ∧ Blk W5 w.heap.size #[.int .i64 0, .int .i64 0, .int .i64 0, .int .i64 0, .slice none 0 0, .slice none 0 0, .slice none 0 0] 28) := ⟨HQ4.out.1.trans (hb.mono (by omega)), HQ4.out.2.agree (hb.block _ (by omega))⟩
  rw [HM.out 24 4 (by omega)]
  clear hg hb hL4 HG4 HQ4
  have HG6 : Hid (Blk W5 T (tc l) 75) := by
    have e : L4 = l.map (Value.int .i64) := by
      rw [HL4.out, HL3.out, HL2.out, HL1.out, HL0.out, HX.out.1, HX.out.2.1, HX.out.2.2.1, HX.out.2.2.2]
      exact num_splice HL.out
    have := HG5.out.1
    rw [e] at this
    exact this
  clear HG5
  go_wp2_with fail
  all_goals
    rw [rounds_succ]
    go_wp2_with (first | go_skip | (with_reducible refine stopLoad 75 rfl ?_))
    refine load_known 75 T (tc l) 75 _ HG6.out rfl rfl rfl Try.underlying75 rfl (tallySize HL.out) ?_
    go_wp2_with fail
    refine (sketch_any l _ HL.out).mono ?_
    rintro e W6 ⟨vs, X, rfl, rs, os, bs⟩
    obtain ⟨ds, rfl, hd7, hdone⟩ := rs.cells
    have HW6 : Hid (RdSk W6 (.agg ds) (skOf l) X ∧ Own W5.heap.size W6 X ∧ Below w.heap.size w W6 ∧ Blk W6 w.heap.size #[.int .i64 0, .int .i64 0, .int .i64 0, .int .i64 0, .slice none 0 0, .slice none 0 0, .slice none 0 0] 28 ∧ ds.size = 7 ∧ ds.all (·.oneCell') = true) := ⟨rs, os, Below.next HQ5.out.1 bs, HQ5.out.2.below bs, hd7, hdone⟩
    have lt5 : w.heap.size < W5.heap.size := HQ5.out.2.lt
    clear rs os bs hd7 hdone HG6 HQ5
    go_wp2_with (first | go_skip | (with_reducible refine stopStore 28 rfl ?_))
    refine store_fresh 28 W6.heap.size rfl #[.int .i64 0, .int .i64 0, .int .i64 0, .int .i64 0, .slice none 0 0, .slice none 0 0, .slice none 0 0] ds 28 rfl rfl rfl rfl (by rw [HW6.out.2.2.2.2.1]; exact infoSkI) (by rw [HW6.out.2.2.2.2.1]; rfl) HW6.out.2.2.2.2.2 ?_
    intro W7 hg7 hb7
    have HW7 : Hid (RdSk W7 (.agg ds) (skOf l) X ∧ Own W5.heap.size W7 X ∧ Below w.heap.size w W7 ∧ Blk W7 w.heap.size #[.int .i64 0, .int .i64 0, .int .i64 0, .int .i64 0, .slice none 0 0, .slice none 0 0, .slice none 0 0] 28 ∧ Blk W7 W6.heap.size ds 28 ∧ ds.size = 7 ∧ ds.all (·.oneCell') = true) := ⟨HW6.out.1.below hb7, HW6.out.2.1.below HW6.out.1.lt hb7, Below.next HW6.out.2.2.1 hb7, HW6.out.2.2.2.1.below hb7, hg7, HW6.out.2.2.2.2⟩
    clear hg7 hb7 HW6
    go_wp2_with (first | go_skip | (with_reducible refine stopLoad 28 rfl ?_))
    refine load_known 28 W6.heap.size ds 28 _ HW7.out.2.2.2.2.1 rfl rfl rfl Try.underlying28 rfl (by rw [HW7.out.2.2.2.2.2.1]; exact infoSkI) ?_
    go_wp2_with fail
    refine (okImpl_any _ (skOf l) X _ HW7.out.1 (wide_skOf HL.out)).mono ?_
    rintro e W8 ⟨rfl, hb8⟩
    have HW8 : Hid (RdSk W8 (.agg ds) (skOf l) X ∧ Own W5.heap.size W8 X ∧ Below w.heap.size w W8 ∧ Blk W8 w.heap.size #[.int .i64 0, .int .i64 0, .int .i64 0, .int .i64 0, .slice none 0 0, .slice none 0 0, .slice none 0 0] 28 ∧ Blk W8 W6.heap.size ds 28 ∧ ds.size = 7 ∧ ds.all (·.oneCell') = true) := ⟨HW7.out.1.below hb8, HW7.out.2.1.below HW7.out.1.lt hb8, Below.next HW7.out.2.2.1 hb8, HW7.out.2.2.2.1.below hb8, HW7.out.2.2.2.2.1.below hb8, HW7.out.2.2.2.2.2⟩
    clear hb8 HW7
    obtain ⟨d, hd⟩ : ∃ d, d = (skOf l).ok := ⟨_, rfl⟩
    rw [← hd]
    have HD : Hid (d = (skOf l).ok) := hd
    clear hd
    cases d
    · have HV : Hid (SkN l Sk.zero false) := skN_bad (fun q => by rw [← HD.out] at q; cases q.2)
      go_wp2_with (first | go_skip | (with_reducible refine stopStore 28 rfl ?_))
      refine store_known 28 w.heap.size _ #[.int .i64 0, .int .i64 0, .int .i64 0, .int .i64 0, .slice none 0 0, .slice none 0 0, .slice none 0 0] 28 HW8.out.2.2.2.1 rfl rfl rfl rfl infoSkI rfl (by simp [Value.oneCell']) ?_
      go_wp2
      refine bodyPost_ret (results_row_tmp Try.results147 _ _ w.heap.size _ _ _ _ rfl HW8.out.2.2.2.1.setRow Try.underlying28 rfl infoSkI) rfl ?_
      exact ⟨_, Sk.zero, false, [], rfl, rdSk_zero7 _, Own.nil, below_setRow HW8.out.2.2.1 (Nat.le_refl _) _, HV.out⟩
    have HV : Hid (SkN l (skOf l) true) := skN_yes HL.out HD.out.symm
    go_wp2_with (first | go_skip | (with_reducible refine stopLoad 28 rfl ?_))
    refine load_known 28 W6.heap.size ds 28 _ HW8.out.2.2.2.2.1 rfl rfl rfl Try.underlying28 rfl (by rw [HW8.out.2.2.2.2.2.1]; exact infoSkI) ?_
    go_wp2_with (first | go_skip | (with_reducible refine stopStore 28 rfl ?_))
    refine store_known 28 w.heap.size _ ds 28 HW8.out.2.2.2.1 rfl rfl rfl rfl (by rw [HW8.out.2.2.2.2.2.1]; exact infoSkI) (by rw [HW8.out.2.2.2.2.2.1]; rfl) HW8.out.2.2.2.2.2.2 ?_
    have nX : w.heap.size ∉ X := fun hx => by have := HW8.out.2.1.ge _ hx; omega
    have HF : Hid (RdSk (W8.setRow w.heap.size ds) (.agg ds) (skOf l) X ∧ Own w.heap.size (W8.setRow w.heap.size ds) X ∧ Below w.heap.size w (W8.setRow w.heap.size ds) ∧ Blk (W8.setRow w.heap.size ds) w.heap.size ds 28) := ⟨HW8.out.1.agree (Agree.row nX ds), (HW8.out.2.1.agree (Agree.row nX ds)).mono (by omega), below_setRow HW8.out.2.2.1 (Nat.le_refl _) _, HW8.out.2.2.2.1.setRow⟩
    have hds : (Try.prog.info? 28).map (·.size) = some ds.size := by rw [HW8.out.2.2.2.2.2.1]; exact infoSkI
    clear HW8 nX
    go_wp2
    refine bodyPost_ret (results_row_tmp Try.results147 _ _ w.heap.size _ _ _ _ rfl HF.out.2.2.2 Try.underlying28 rfl hds) rfl ?_
    exact ⟨_, skOf l, true, X, rfl, HF.out.1, HF.out.2.1, HF.out.2.2.1, HV.out⟩
end Go.Proofs.Ytjndcfamfminkab
/- The walk through the program's spansOfNumbers. No statement of the seat is proved here. -/
namespace Go.Proofs.Ytjndcfamfminkab
open Go.RowKit
/-- These numbers are how many spans, these, and what stands behind; or they are not. -/
def SpansIs (l : List Int) (ps : Sp) (rest : List Int) (d : Bool) : Prop := if d = true then l = (ps.length : Int) :: (flat ps ++ rest) else ps = [] ∧ rest = [] ∧ ∀ (qs : Sp) (r : List Int), l ≠ (qs.length : Int) :: (flat qs ++ r)
theorem spans_no {l : List Int} (h : l.length = 0 ∨ (l.length : Int) - 1 < 2 * l.getD 0 0) : SpansIs l [] [] false := (if_neg (by simp)).mpr ⟨rfl, rfl, fun qs r e => by
  have a := congrArg List.length e
  simp only [List.length_cons, List.length_append, flat_length] at a
  have c : l.getD 0 0 = (qs.length : Int) := by rw [e]; rfl
  rw [c] at h
  omega⟩
def psOf (l : List Int) : Nat → Sp
  | 0 => []
  | k + 1 => psOf l k ++ [(l.getD (1 + 2 * k) 0, l.getD (2 + 2 * k) 0)]
theorem psOf_len (l : List Int) : ∀ k, (psOf l k).length = k
  | 0 => rfl
  | k + 1 => by rw [psOf, List.length_append, psOf_len l k]; rfl
theorem psOf_flat {l : List Int} : ∀ {k : Nat}, 1 + 2 * k ≤ l.length → l = l.getD 0 0 :: (flat (psOf l k) ++ l.drop (1 + 2 * k))
  | 0, h => by
    cases l with
    | nil => simp at h
    | cons a l => rfl
  | k + 1, h => by
    have i := psOf_flat (l := l) (k := k) (by omega)
    have e : l.drop (1 + 2 * k) = l.getD (1 + 2 * k) 0 :: l.getD (2 + 2 * k) 0 :: l.drop (1 + 2 * (k + 1)) := by
      rw [List.drop_eq_getElem_cons (show 1 + 2 * k < l.length by omega), List.drop_eq_getElem_cons (show 1 + 2 * k + 1 < l.length by omega)]
      rw [List.getD_eq_getElem?_getD, List.getElem?_eq_getElem (show 1 + 2 * k < l.length by omega), List.getD_eq_getElem?_getD, List.getElem?_eq_getElem (show 2 + 2 * k < l.length by omega)]
      congr 2
      congr 1; omega
    conv => lhs; rw [i, e]
    rw [psOf, flat_append]
    simp [flat]
theorem spans_yes {l : List Int} {n : Nat} (h0 : l.getD 0 0 = (n : Int)) (h : 1 + 2 * n ≤ l.length) : SpansIs l (psOf l n) (l.drop (1 + 2 * n)) true := (if_pos rfl).mpr (by rw [psOf_len, ← h0]; exact psOf_flat h)
def NewSpans (w : World) (len : Nat) (l : List Int) (e : Ending) (w' : World) : Prop := ∃ b n c a' l' c' ps rest d F G, e = .returned (.tuple #[.slice b n c, .slice a' l' c', .bool d]) ∧ RdP w' b n ps F ∧ Capd b n c ∧ Own w.heap.size w' F ∧ RdI w' a' l' rest G ∧ l' ≤ len ∧ l' ≤ c' ∧ SpansIs l ps rest d ∧ Below w.heap.size w w'
def TwoHeld (p o : Nat) (x y : Int) (W : World) : Prop := W.cell? ⟨p, o, none⟩ = some (.int .i64 x) ∧ W.cell? ⟨p, o + 1, none⟩ = some (.int .i64 y)
theorem RdI.behind {W : World} {b off n : Nat} {l : List Int} {F : List Nat} (h : RdI W (some ⟨b, off, none⟩) n l F) {k : Nat} (hk : k ≤ n) : ∃ G, RdI W (some ⟨b, off + k, none⟩) (n - k) (l.drop k) G := by
  have hl := h.length
  by_cases q : n - k = 0
  · exact ⟨[], by rw [List.length_drop]; omega, .inl ⟨q, rfl⟩⟩
  · rcases h.cells with ⟨h0, _⟩ | ⟨b', off', _, e, hF, hc⟩
    · omega
    · cases e
      refine ⟨F, by rw [List.length_drop]; omega, .inr ⟨b, off + k, by omega, rfl, hF, fun i hi => ?_⟩⟩
      rw [Nat.add_assoc, hc (k + i) (by omega)]
      simp
theorem RdI.nothing {W : World} {a : Option Addr} {l : List Int} (h : l = []) : RdI W a 0 l [] := by subst h; exact ⟨rfl, .inl ⟨rfl, rfl⟩⟩
set_option maxRecDepth 200000 in
set_option maxHeartbeats 8000000 in
theorem spansOfNumbers_any (a : Option Addr) (len cap : Nat) (l : List Int) (F : List Nat) (w : World) (h : RdI w a len l F) (hlen : len ≤ 1048576) (hcap : len ≤ cap) (hn : ∀ x ∈ l, InN x) :
    Calls Try.prog 123 #[.slice a len cap] w fun e w' => NewSpans w len l e w' := by
  obtain ⟨t0, hi, hz0, hz1, hz2⟩ := info_parts infoSpan
  have HL : Hid (l.length = len) := h.length
  by_cases h0 : len = 0
  · subst h0
    have HV : Hid (SpansIs l [] [] false) := spans_no (.inl HL.out)
    have hz : (((0 : Nat) : Int) == 0) = true := by simp
    clear h
    go_enter Try.func123, Try.ntmps123
    go_wp2
    go_ret3
    exact ⟨none, 0, 0, none, 0, 0, [], [], false, [], [], rfl, RdP.nil, ⟨fun _ => rfl, Nat.le_refl _⟩, Own.nil, RdI.nothing rfl, by omega, by omega, HV.out, Below.refl _ _⟩
  obtain ⟨b, off, rfl⟩ := h.addr (by omega)
  have hz : ((len : Int) == 0) = false := by simpa using (by omega : ¬ (len : Int) = 0)
  have HR : Hid (RdI w (some ⟨b, off, none⟩) len l F) := h
  have hmem : l.getD 0 0 ∈ l := mem_getD (d := 0) (by rw [HL.out]; omega)
  obtain ⟨x0, hx0⟩ : ∃ x, x = l.getD 0 0 := ⟨_, rfl⟩
  have c0 : w.cell? ⟨b, off, none⟩ = some (.int .i64 x0) := by
    rcases h.cells with ⟨q, _⟩ | ⟨b', off', _, e, _, hc⟩
    · omega
    · cases e; rw [hx0]; exact hc 0 (by omega)
  have hb0 : b < w.heap.size := World.block_lt_of_cell? _ _ c0
  have hin := hn _ hmem
  rw [← hx0] at hin
  have hi0 : 0 ≤ x0 := hin.1
  have HX0 : Hid (x0 = l.getD 0 0) := hx0
  clear h hmem hin hn hx0
  have hdiv : ((len : Int) - 1).tdiv 2 = ((len : Int) - 1) / 2 := Int.tdiv_eq_ediv_of_nonneg (by omega)
  by_cases hbig : ((len : Int) - 1) / 2 < x0
  · have hbd : decide (((len : Int) - 1) / 2 < x0) = true := dec_true hbig
    have HV : Hid (SpansIs l [] [] false) := spans_no (.inr (by rw [HL.out, ← HX0.out]; omega))
    go_enter Try.func123, Try.ntmps123
    go_wp2
    go_ret3
    exact ⟨none, 0, 0, none, 0, 0, [], [], false, [], [], rfl, RdP.nil, ⟨fun _ => rfl, Nat.le_refl _⟩, Own.nil, RdI.nothing rfl, by omega, by omega, HV.out, Below.refl _ _⟩
  have hbd : decide (((len : Int) - 1) / 2 < x0) = false := dec_false hbig
  obtain ⟨n, rfl⟩ := Int.eq_ofNat_of_zero_le hi0
  have hnl : 1 + 2 * n ≤ len := by omega
  have HV : Hid (SpansIs l (psOf l n) (l.drop (1 + 2 * n)) true) := spans_yes HX0.out.symm (by rw [HL.out]; exact hnl)
  have h1l : (1 : Int) ≤ (len : Int) := by omega
  by_cases hc1 : cap = 1
  · subst hc1
    obtain rfl : n = 0 := by omega
    obtain rfl : len = 1 := by omega
    have HZ : Hid (l.drop (1 + 2 * 0) = []) := List.eq_nil_of_length_eq_zero (by rw [List.length_drop, HL.out])
    go_enter Try.func123, Try.ntmps123
    go_wp2
    refine wp_loop_rounds 1 ?_
    rw [rounds_succ]
    go_wp2
    go_ret3
    exact ⟨none, 0, 0, _, 0, _, [], _, true, [], [], rfl, RdP.nil, ⟨fun _ => rfl, Nat.le_refl _⟩, Own.nil, RdI.nothing HZ.out, by omega, by omega, HV.out, Below.refl _ _⟩
  · go_enter Try.func123, Try.ntmps123
    go_wp2
    clear hdiv hbd hbig hz
    go_loopw [5, 6, 25] (fun v r i wr => ∃ (k : Nat) (ar : Option Addr) (cr : Nat) (G : List Nat), k ≤ n ∧ i = .int .i64 k ∧ r = .slice ar (len - 1 - 2 * k) cr ∧ len - 1 - 2 * k ≤ cr ∧ Hid (RdI w ar (len - 1 - 2 * k) (l.drop (1 + 2 * k)) G) ∧ Hid (wr.ownsRow w.heap.size 87 2 v k ((flat (psOf l k)).map (Value.int .i64)) ∧ Below w.heap.size w wr)) (fun _ _ i _ => n - (intOf i).toNat)
    case atStart =>
      obtain ⟨G, hG⟩ := HR.out.behind (k := 1) (by omega)
      exact ⟨0, _, _, G, by omega, rfl, rfl, by omega, hG, World.ownsRow_nil _ _ _ _, Below.refl _ _⟩
    case round =>
      obtain ⟨k, ar, cr, G, hk, rfl, rfl, hcr, HG, HO⟩ := hrel
      by_cases hlt : k < n
      · obtain ⟨p, o, rfl⟩ := HG.out.addr (by omega)
        obtain ⟨x, hx⟩ : ∃ x, x = l.getD (1 + 2 * k) 0 := ⟨_, rfl⟩
        obtain ⟨y, hy⟩ : ∃ x, x = l.getD (2 + 2 * k) 0 := ⟨_, rfl⟩
        have HPS : Hid (psOf l (k + 1) = psOf l k ++ [(x, y)]) := by show _ = _; rw [psOf, hx, hy]
        have HTW : Hid (∀ W, Below w.heap.size w W → TwoHeld p o x y W) := by
          intro W hb
          rcases (HG.out.below hb).cells with ⟨q, _⟩ | ⟨b', off', _, e, _, hc⟩
          · omega
          · cases e
            refine ⟨?_, ?_⟩
            · have := hc 0 (by omega)
              rw [Nat.add_zero] at this
              rw [this, hx]
              simp
            · have := hc 1 (by omega)
              rw [this, hy]
              simp [show 1 + 2 * k + 1 = 2 + 2 * k by omega]
        have HNX : Hid (∃ G', RdI w (some ⟨p, o + 2, none⟩) (len - 1 - 2 * (k + 1)) (l.drop (1 + 2 * (k + 1))) G') := by
          obtain ⟨G', g⟩ := HG.out.behind (k := 2) (by omega)
          refine ⟨G', ?_⟩
          rw [List.drop_drop, show 1 + 2 * k + 2 = 1 + 2 * (k + 1) by omega, show len - 1 - 2 * k - 2 = len - 1 - 2 * (k + 1) by omega] at g
          exact g
        have hI : (k : Int) < (n : Int) := by omega
        have hl0 : (0 : Int) < ((len - 1 - 2 * k : Nat) : Int) := by omega
        have hl1 : (1 : Int) < ((len - 1 - 2 * k : Nat) : Int) := by omega
        have hl2 : (2 : Int) ≤ ((len - 1 - 2 * k : Nat) : Int) := by omega
        obtain ⟨lr, hlr⟩ : ∃ z, z = len - 1 - 2 * k := ⟨_, rfl⟩
        rw [← hlr] at hcr hl0 hl1 hl2 ⊢
        have HLR : Hid (lr = len - 1 - 2 * k) := hlr
        clear hx hy HG hlr
        go_wp2
        have HS : Hid (TwoHeld p o x y wr.drew) := HTW.out _ HO.out.2.drew
        refine wp_region_held (S := TwoHeld p o x y) (by kernel_rfl) ?_
        change wpAnyH _ _ _ _ _ _ _ _ (World.drew _)
        refine takeH (o := ?o1) 0 (u5) ?h1 ?r1
        case h1 => simp only [aT, aZ]; rfl
        refine ⟨_, by simp [Act.put]; rfl, by kernel_rfl, by kernel_rfl, by kernel_rfl, fun _ _ _ h => h, (.inl ⟨rfl, fun W _ => by go_simp⟩), HS.out, ?_⟩
        refine takeH (o := ?o2) 1 (.slice (some ⟨p, o, none⟩) lr cr) ?h2 ?r2
        case h2 => simp only [aT, aS, aZ]; rfl
        refine ⟨_, by simp [Act.put]; rfl, by kernel_rfl, by kernel_rfl, by kernel_rfl, fun _ _ _ h => h, (.inl ⟨rfl, fun W _ => by go_simp⟩), HS.out, ?_⟩
        refine takeH (o := ?o3) 2 (.pointer (some ⟨p, o, none⟩)) ?h3 ?r3
        case h3 => simp only [aT, aS, aZ]; rfl
        refine ⟨_, by simp [Act.put]; rfl, by kernel_rfl, by kernel_rfl, by kernel_rfl, fun _ _ _ h => h, (.inl ⟨rfl, fun W _ => by go_simp; intro h; omega⟩), HS.out, ?_⟩
        refine takeH (o := ?o4) 3 (.int .i64 x) ?h4 ?r4
        case h4 => simp only [aT, aS, aZ]; rfl
        refine ⟨_, by simp [Act.put]; rfl, by kernel_rfl, by kernel_rfl, by kernel_rfl, fun _ _ _ h => h, (.inl ⟨rfl, fun W hW => by have c := hW.1; go_simp⟩), HS.out, ?_⟩
        refine takeH (o := ?o5) 4 (.slice (some ⟨p, o, none⟩) lr cr) ?h5 ?r5
        case h5 => simp only [aT, aS, aZ]; rfl
        refine ⟨_, by simp [Act.put]; rfl, by kernel_rfl, by kernel_rfl, by kernel_rfl, fun _ _ _ h => h, (.inl ⟨rfl, fun W _ => by go_simp⟩), HS.out, ?_⟩
        refine takeH (o := ?o6) 5 (.pointer (some ⟨p, o + 1, none⟩)) ?h6 ?r6
        case h6 => simp only [aT, aS, aZ]; rfl
        refine ⟨_, by simp [Act.put]; rfl, by kernel_rfl, by kernel_rfl, by kernel_rfl, fun _ _ _ h => h, (.inl ⟨rfl, fun W _ => by go_simp⟩), HS.out, ?_⟩
        refine takeH (o := ?o7) 6 (.int .i64 y) ?h7 ?r7
        case h7 => simp only [aT, aS, aZ]; rfl
        refine ⟨_, by simp [Act.put]; rfl, by kernel_rfl, by kernel_rfl, by kernel_rfl, fun _ _ _ h => h, (.inl ⟨rfl, fun W hW => by have c := hW.2; go_simp⟩), HS.out, ?_⟩
        refine takeH (o := ?o8) 7 (.agg #[.int .i64 x, .int .i64 y]) ?h8 ?r8
        case h8 => simp only [aT, aS, aZ]; rfl
        refine ⟨_, by simp [Act.put]; rfl, by kernel_rfl, by kernel_rfl, by kernel_rfl, fun _ _ _ h => h, (.inl ⟨rfl, fun W _ => by go_simp⟩), HS.out, ?_⟩
        refine onlyH (o := ?o9) 8 (by kernel_rfl) ?h9 ?r9
        case h9 => simp only [aT, aS, aZ]; rfl
        intro K hK
        have bA : Below w.heap.size w (wr.drew.alloc (.cells #[.int .i64 x, .int .i64 y] 87)) := Below.allocW _ HO.out.2.drew (Nat.le_refl _)
        have HO1 : Hid ((wr.drew.alloc (.cells #[.int .i64 x, .int .i64 y] 87)).ownsRow w.heap.size 87 2 u5 k ((flat (psOf l k)).map (Value.int .i64)) ∧ Below w.heap.size w (wr.drew.alloc (.cells #[.int .i64 x, .int .i64 y] 87))) := ⟨World.ownsRow.alloc (w := wr.drew) HO.out.1 _, bA⟩
        refine op_turn (.slice (some ⟨wr.heap.size, 0, none⟩) 1 1) (wr.drew.alloc (.cells #[.int .i64 x, .int .i64 y] 87)) rfl (by go_simp) ⟨_, by simp [Act.put]; rfl, hK _ _ ⟨HTW.out _ bA, ?_⟩⟩
        clear hK bA
        refine onlyH (o := ?o10) 9 (by kernel_rfl) ?h10 ?r10
        case h10 => simp only [aT, aS, aZ]; rfl
        intro K hK
        refine op_append7 _ _ 24 rfl rfl w.heap.size 87 t0 (.agg #[.int .i64 0, .int .i64 0]) 2 16 Try.underlying24 hi hz0 hz1 hz2 rfl (by decide) _ _ _ rfl HO1.out.1 ⟨wr.heap.size, 0, none⟩ 1 1 [.int .i64 x, .int .i64 y] rfl rfl (cell_new2 wr.drew (.int .i64 x) (.int .i64 y) _) (by intro u hu; simp at hu; rcases hu with rfl | rfl <;> rfl) (by unfold maxLen; omega) (by omega) HO1.out.2.size ?_
        intro v2 w2 hown hgrow
        have HO2 : Hid (w2.ownsRow w.heap.size 87 2 v2 (k + 1) ((flat (psOf l (k + 1))).map (Value.int .i64)) ∧ Below w.heap.size w w2) := by
          refine ⟨?_, HO1.out.2.grown hgrow HO1.out.2.size (fun g hg => (HO1.out.1.lt g hg).1)⟩
          rw [HPS.out, flat_append, List.map_append]
          exact hown
        clear hown hgrow HO1 HO
        refine ⟨_, by simp [Act.put]; rfl, hK _ _ ⟨HTW.out _ HO2.out.2, ?_⟩⟩
        clear hK
        refine onlyH (o := ?o11) 10 (by kernel_rfl) ?h11 ?r11
        case h11 => simp only [aT, aS, aZ]; rfl
        intro K hK
        refine op_value v2 rfl (by go_simp) ⟨_, by simp [Act.put]; rfl, hK _ _ ⟨HTW.out _ HO2.out.2, ?_⟩⟩
        clear hK
        refine wpAnyH_done (by kernel_rfl) ?_ _
        go_wp2
        all_goals
          go_roundw
          case rel =>
            by_cases hc2 : cr = 2
            · have e : len - 1 - 2 * (k + 1) = 0 := by have := HLR.out; omega
              have e2 : lr - 2 = len - 1 - 2 * (k + 1) := by have := HLR.out; omega
              exact ⟨k + 1, some ⟨p, o, none⟩, cr - 2, [], by omega, by go_num, by rw [e2, if_pos hc2], by omega, by rw [e]; exact RdI.nothing (List.eq_nil_of_length_eq_zero (by rw [List.length_drop, HL.out]; omega)), HO2⟩
            · obtain ⟨G', g⟩ := HNX.out
              have e2 : lr - 2 = len - 1 - 2 * (k + 1) := by have := HLR.out; omega
              exact ⟨k + 1, some ⟨p, o + 2, none⟩, cr - 2, G', by omega, by go_num, by rw [e2, if_neg hc2], by omega, g, HO2⟩
          case measure => simp [intOf]; omega
      · obtain rfl : k = n := by omega
        obtain ⟨bb, cc, FF, rfl, hrp, hoo, hcd⟩ := rdP_of_own HO.out.1
        have HRP : Hid (RdP wr bb k (psOf l k) FF ∧ Own w.heap.size wr FF ∧ Capd bb k cc) := ⟨hrp, hoo, hcd⟩
        clear hrp hoo hcd
        go_wp2
        go_ret3
        exact ⟨bb, k, cc, ar, _, cr, psOf l k, _, true, FF, G, rfl, HRP.out.1, HRP.out.2.2, HRP.out.2.1, HG.out.below HO.out.2, by omega, hcr, HV.out, HO.out.2⟩
end Go.Proofs.Ytjndcfamfminkab
/- The walk through the program's itemOfNumbers. No statement of the seat is proved here. -/
namespace Go.Proofs.Ytjndcfamfminkab
open Go.RowKit
/-- These numbers are that item's, in a frame of that kind; or no item's. -/
def ItemIs (kind : Int) (l : List Int) (x : It) (d : Bool) : Prop := if d = true then (if kind = 1 then l = [x.seq, x.cls, x.key, x.window] ++ x.sk.nums ∧ x.sk.ok = true else l = [] ∧ x = It.zero) else (kind = 1 → ∀ y : It, y.sk.ok = true → l ≠ [y.seq, y.cls, y.key, y.window] ++ y.sk.nums) ∧ (kind ≠ 1 → l ≠ [])
def NewIt2 (w : World) (R : It → Bool → Prop) (e : Ending) (w' : World) : Prop := ∃ v x d F, e = .returned (.tuple #[v, .bool d]) ∧ RdIt w' v x F ∧ Own w.heap.size w' F ∧ Below w.heap.size w w' ∧ x.sk.wide ∧ R x d
theorem item_other {kind : Int} {l : List Int} {len : Nat} (hl : l.length = len) (hk : ¬ kind = 1) : ItemIs kind l It.zero ((len : Int) == 0) := by
  unfold ItemIs
  by_cases q : len = 0
  · have e : (((len : Nat) : Int) == 0) = true := by simpa using q
    rw [e, if_pos rfl, if_neg hk]
    exact ⟨List.eq_nil_of_length_eq_zero (by omega), rfl⟩
  · have e : (((len : Nat) : Int) == 0) = false := by simpa using q
    rw [e, if_neg (by simp)]
    exact ⟨fun h => absurd h hk, fun _ h => q (by rw [← hl, h]; rfl)⟩
theorem item_short {l : List Int} (hl : l.length < 4) : ItemIs 1 l It.zero false := by
  refine (if_neg (by simp)).mpr ⟨fun _ y _ e => ?_, fun h => absurd rfl h⟩
  have := congrArg List.length e
  simp only [List.length_append, List.length_cons, List.length_nil] at this
  omega
theorem split4 {l : List Int} (h : 4 ≤ l.length) : l = [l.getD 0 0, l.getD 1 0, l.getD 2 0, l.getD 3 0] ++ l.drop 4 := by
  match l, h with
  | a :: b :: c :: d :: r, _ => rfl
theorem item_of {l : List Int} {s : Sk} {d : Bool} (h : 4 ≤ l.length) (k : SkN (l.drop 4) s d) : ItemIs 1 l ⟨l.getD 0 0, l.getD 1 0, l.getD 2 0, l.getD 3 0, s⟩ d := by
  unfold SkN at k
  unfold ItemIs
  cases d <;> simp only [if_true, Bool.false_eq_true, if_false] at k ⊢
  · refine ⟨fun _ y hy e => ?_, fun h => absurd rfl h⟩
    have e2 : l.drop 4 = y.sk.nums := by rw [e]; rfl
    refine k.2 ?_
    rw [e2, nums_skOf (Sk.ok_lens hy).1]
    exact ⟨Sk.nums_len (Sk.ok_lens hy).1, hy⟩
  · refine ⟨?_, k.2.2⟩
    rw [k.2.1, skOf_nums k.1]
    exact split4 h
theorem skN_wide {l : List Int} {s : Sk} {d : Bool} (k : SkN l s d) : s.wide := by
  unfold SkN at k
  cases d <;> simp only [if_true, Bool.false_eq_true, if_false] at k
  · rw [k.1]; exact It.zero_wide
  · rw [k.2.1]; exact wide_skOf k.1
theorem RdI.rest {W : World} {b off n cap : Nat} {l : List Int} {F : List Nat} (h : RdI W (some ⟨b, off, none⟩) n l F) (k : Nat) (hk : k ≤ n) (hc : n ≤ cap) : ∃ G, RdI W (if cap = k then some ⟨b, off, none⟩ else some ⟨b, off + k, none⟩) (n - k) (l.drop k) G := by
  by_cases q : cap = k
  · have e : n - k = 0 := by omega
    rw [e]
    exact ⟨[], RdI.nothing (List.eq_nil_of_length_eq_zero (by rw [List.length_drop, h.length]; exact e))⟩
  · rw [if_neg q]
    exact h.behind hk
def NumSkHeld (b off : Nat) (x0 x1 x2 x3 : Int) (g : Nat) (ds : Array Value) (W : World) : Prop := NumHeld b off x0 x1 x2 x3 W ∧ Blk W g ds 28
set_option maxRecDepth 200000 in
set_option maxHeartbeats 4000000 in
theorem itemOfNumbers_any (a : Option Addr) (len cap : Nat) (kind : Int) (l : List Int) (F : List Nat) (w : World) (h : RdI w a len l F) (hlen : len ≤ 1048576) (hcap : len ≤ cap) :
    Calls Try.prog 124 #[.slice a len cap, .int .i64 kind] w fun e w' => NewIt2 w (ItemIs kind l) e w' := by
  have HL : Hid (l.length = len) := h.length
  have HT : Hid (Blk (w.alloc (.cells #[.int .i64 0, .int .i64 0, .int .i64 0, .int .i64 0, .int .i64 0, .int .i64 0, .int .i64 0, .int .i64 0, .slice none 0 0, .slice none 0 0, .slice none 0 0] 40)) w.heap.size #[.int .i64 0, .int .i64 0, .int .i64 0, .int .i64 0, .int .i64 0, .int .i64 0, .int .i64 0, .int .i64 0, .slice none 0 0, .slice none 0 0, .slice none 0 0] 40 ∧ Below w.heap.size w (w.alloc (.cells #[.int .i64 0, .int .i64 0, .int .i64 0, .int .i64 0, .int .i64 0, .int .i64 0, .int .i64 0, .int .i64 0, .slice none 0 0, .slice none 0 0, .slice none 0 0] 40))) := ⟨Blk.made _ _ _, (Below.refl _ _).alloc (Nat.le_refl _) _⟩
  by_cases hk : kind = 1
  rotate_left
  · have hkb : (kind != 1) = true := by simpa using hk
    have HV : Hid (ItemIs kind l It.zero ((len : Int) == 0)) := item_other HL.out hk
    obtain ⟨d, hd⟩ : ∃ d, d = ((len : Int) == 0) := ⟨_, rfl⟩
    rw [← hd] at HV
    clear h hk
    go_enter Try.func124, Try.ntmps124
    go_wp2_with (first | go_skip | (with_reducible refine stopStore 40 rfl ?_))
    refine store_known 40 w.heap.size _ #[.int .i64 0, .int .i64 0, .int .i64 0, .int .i64 0, .int .i64 0, .int .i64 0, .int .i64 0, .int .i64 0, .slice none 0 0, .slice none 0 0, .slice none 0 0] 40 HT.out.1 rfl rfl rfl rfl infoItA7 rfl (by simp [Value.oneCell']) ?_
    go_wp2
    refine bodyPost_ret (results_row_tmp Try.results124 _ _ w.heap.size _ _ _ _ rfl HT.out.1.setRow Try.underlying40 rfl infoItA7) rfl ?_
    exact ⟨_, It.zero, d, [], by rw [hd]; rfl, rdIt_zero _, Own.nil, below_setRow HT.out.2 (Nat.le_refl _) _, It.zero_wide, HV.out⟩
  subst hk
  have hkb : ((1 : Int) != 1) = false := by simp
  by_cases h4 : len < 4
  · have h4b : decide ((len : Int) < 4) = true := dec_true (by omega)
    have HV : Hid (ItemIs 1 l It.zero false) := item_short (by rw [HL.out]; exact h4)
    clear h
    go_enter Try.func124, Try.ntmps124
    go_wp2_with (first | go_skip | (with_reducible refine stopStore 40 rfl ?_))
    refine store_known 40 w.heap.size _ #[.int .i64 0, .int .i64 0, .int .i64 0, .int .i64 0, .int .i64 0, .int .i64 0, .int .i64 0, .int .i64 0, .slice none 0 0, .slice none 0 0, .slice none 0 0] 40 HT.out.1 rfl rfl rfl rfl infoItA7 rfl (by simp [Value.oneCell']) ?_
    go_wp2
    refine bodyPost_ret (results_row_tmp Try.results124 _ _ w.heap.size _ _ _ _ rfl HT.out.1.setRow Try.underlying40 rfl infoItA7) rfl ?_
    exact ⟨_, It.zero, false, [], rfl, rdIt_zero _, Own.nil, below_setRow HT.out.2 (Nat.le_refl _) _, It.zero_wide, HV.out⟩
  have h4b : decide ((len : Int) < 4) = false := dec_false (by omega)
  have h4i : (4 : Int) ≤ (len : Int) := by omega
  obtain ⟨b, off, rfl⟩ := h.addr (by omega)
  have HR : Hid (RdI w (some ⟨b, off, none⟩) len l F) := h
  obtain ⟨x0, hx0⟩ : ∃ x, x = l.getD 0 0 := ⟨_, rfl⟩
  obtain ⟨x1, hx1⟩ : ∃ x, x = l.getD 1 0 := ⟨_, rfl⟩
  obtain ⟨x2, hx2⟩ : ∃ x, x = l.getD 2 0 := ⟨_, rfl⟩
  obtain ⟨x3, hx3⟩ : ∃ x, x = l.getD 3 0 := ⟨_, rfl⟩
  have HX : Hid (x0 = l.getD 0 0 ∧ x1 = l.getD 1 0 ∧ x2 = l.getD 2 0 ∧ x3 = l.getD 3 0) := ⟨hx0, hx1, hx2, hx3⟩
  have HKN : Hid (∀ W, Below w.heap.size w W → NumHeld b off x0 x1 x2 x3 W) := fun W hb => by rw [hx0, hx1, hx2, hx3]; exact (HR.out.below hb).numHeld (by omega)
  by_cases hc4 : cap = 4
  · obtain ⟨G, hG⟩ := (h.below HT.out.2).rest (cap := cap) 4 (by omega) hcap
    rw [if_pos hc4] at hG
    have HG : Hid (RdI (w.alloc (.cells #[.int .i64 0, .int .i64 0, .int .i64 0, .int .i64 0, .int .i64 0, .int .i64 0, .int .i64 0, .int .i64 0, .slice none 0 0, .slice none 0 0, .slice none 0 0] 40)) (some ⟨b, off, none⟩) (len - 4) (l.drop 4) G) := hG
    clear h hx0 hx1 hx2 hx3 hG
    go_enter Try.func124, Try.ntmps124
    go_wp2_with fail
    refine (sketchOfNumbers_any _ (len - 4) _ (l.drop 4) G _ HG.out (by omega) (by omega)).mono ?_
    rintro e w1 ⟨v1, s, d, X, rfl, rs, os, bs, hN⟩
    obtain ⟨a1, n1, c1, a2, n2, c2, a3, n3, c3, F1, F2, F3, rfl, r1, r2, r3, hXF⟩ := rs
    have HRS : Hid (RdSk w1 (.agg #[.int .i64 s.count, .int .i64 s.sum, .int .i64 s.min, .int .i64 s.max, .slice a1 n1 c1, .slice a2 n2 c2, .slice a3 n3 c3]) s X ∧ Own (w.heap.size + 1) w1 X ∧ SkN (l.drop 4) s d) := ⟨⟨a1, n1, c1, a2, n2, c2, a3, n3, c3, F1, F2, F3, rfl, r1, r2, r3, hXF⟩, by simpa using os, hN⟩
    have HT1 : Hid (Blk w1 w.heap.size #[.int .i64 0, .int .i64 0, .int .i64 0, .int .i64 0, .int .i64 0, .int .i64 0, .int .i64 0, .int .i64 0, .slice none 0 0, .slice none 0 0, .slice none 0 0] 40 ∧ Below w.heap.size w w1) := ⟨HT.out.1.below bs, Below.next HT.out.2 bs⟩
    clear r1 r2 r3 hXF os bs hN HT HG
    go_wp2_with (first | go_skip | (with_reducible refine stopStore 28 rfl ?_))
    refine store_fresh 28 w1.heap.size rfl #[.int .i64 0, .int .i64 0, .int .i64 0, .int .i64 0, .slice none 0 0, .slice none 0 0, .slice none 0 0] #[.int .i64 s.count, .int .i64 s.sum, .int .i64 s.min, .int .i64 s.max, .slice a1 n1 c1, .slice a2 n2 c2, .slice a3 n3 c3] 28 rfl rfl rfl rfl infoSkI rfl (by simp [Value.oneCell']) ?_
    intro W2 hg2 hb2
    have HW2 : Hid (NumSkHeld b off x0 x1 x2 x3 w1.heap.size #[.int .i64 s.count, .int .i64 s.sum, .int .i64 s.min, .int .i64 s.max, .slice a1 n1 c1, .slice a2 n2 c2, .slice a3 n3 c3] W2.drew ∧ Below w.heap.size w W2.drew ∧ Blk W2.drew w.heap.size #[.int .i64 0, .int .i64 0, .int .i64 0, .int .i64 0, .int .i64 0, .int .i64 0, .int .i64 0, .int .i64 0, .slice none 0 0, .slice none 0 0, .slice none 0 0] 40 ∧ RdSk W2.drew (.agg #[.int .i64 s.count, .int .i64 s.sum, .int .i64 s.min, .int .i64 s.max, .slice a1 n1 c1, .slice a2 n2 c2, .slice a3 n3 c3]) s X ∧ Own (w.heap.size + 1) W2.drew X) := by
      have bb := (Below.next HT1.out.2 hb2).drew
      exact ⟨⟨HKN.out _ bb, hg2.drew⟩, bb, (HT1.out.1.below hb2).drew, (HRS.out.1.below hb2).below (Below.refl _ _).drew, (HRS.out.2.1.below HRS.out.1.lt hb2).agree (fun _ _ => rfl)⟩
    have lt1 : w.heap.size < w1.heap.size := HT1.out.1.lt
    clear hg2 hb2 HT1
    go_wp2
    refine wp_region_held (S := NumSkHeld b off x0 x1 x2 x3 w1.heap.size #[.int .i64 s.count, .int .i64 s.sum, .int .i64 s.min, .int .i64 s.max, .slice a1 n1 c1, .slice a2 n2 c2, .slice a3 n3 c3]) (by kernel_rfl) ?_
    change wpAnyH _ _ _ _ _ _ _ _ (World.drew _)
    refine takeH (o := ?oa1) 0 (.slice (some ⟨b, off, none⟩) len cap) ?ha1 ?ra1
    case ha1 => simp only [aT, aZ]; rfl
    refine ⟨_, by simp [Act.put]; rfl, by kernel_rfl, by kernel_rfl, by kernel_rfl, fun _ _ _ h => h, (.inl ⟨rfl, fun W _ => by go_simp⟩), HW2.out.1, ?_⟩
    refine takeH (o := ?oa2) 1 (.pointer (some ⟨b, off, none⟩)) ?ha2 ?ra2
    case ha2 => simp only [aT, aS, aZ]; rfl
    refine ⟨_, by simp [Act.put]; rfl, by kernel_rfl, by kernel_rfl, by kernel_rfl, fun _ _ _ h => h, (.inl ⟨rfl, fun W _ => by (have q0 : (0 : Int) < (len : Int) := by omega); first | (go_simp; done) | (go_simp; intro h; omega)⟩), HW2.out.1, ?_⟩
    refine takeH (o := ?oa3) 2 (.int .i64 x0) ?ha3 ?ra3
    case ha3 => simp only [aT, aS, aZ]; rfl
    refine ⟨_, by simp [Act.put]; rfl, by kernel_rfl, by kernel_rfl, by kernel_rfl, fun _ _ _ h => h, (.inl ⟨rfl, fun W hW => by have c := hW.1.1; go_simp⟩), HW2.out.1, ?_⟩
    refine takeH (o := ?oa4) 3 (.slice (some ⟨b, off, none⟩) len cap) ?ha4 ?ra4
    case ha4 => simp only [aT, aS, aZ]; rfl
    refine ⟨_, by simp [Act.put]; rfl, by kernel_rfl, by kernel_rfl, by kernel_rfl, fun _ _ _ h => h, (.inl ⟨rfl, fun W _ => by go_simp⟩), HW2.out.1, ?_⟩
    refine takeH (o := ?oa5) 4 (.pointer (some ⟨b, off + 1, none⟩)) ?ha5 ?ra5
    case ha5 => simp only [aT, aS, aZ]; rfl
    refine ⟨_, by simp [Act.put]; rfl, by kernel_rfl, by kernel_rfl, by kernel_rfl, fun _ _ _ h => h, (.inl ⟨rfl, fun W _ => by (have q1 : (1 : Int) < (len : Int) := by omega); first | (go_simp; done) | (go_simp; intro h; omega)⟩), HW2.out.1, ?_⟩
    refine takeH (o := ?oa6) 5 (.int .i64 x1) ?ha6 ?ra6
    case ha6 => simp only [aT, aS, aZ]; rfl
    refine ⟨_, by simp [Act.put]; rfl, by kernel_rfl, by kernel_rfl, by kernel_rfl, fun _ _ _ h => h, (.inl ⟨rfl, fun W hW => by have c := hW.1.2.1; go_simp⟩), HW2.out.1, ?_⟩
    refine takeH (o := ?oa7) 6 (.slice (some ⟨b, off, none⟩) len cap) ?ha7 ?ra7
    case ha7 => simp only [aT, aS, aZ]; rfl
    refine ⟨_, by simp [Act.put]; rfl, by kernel_rfl, by kernel_rfl, by kernel_rfl, fun _ _ _ h => h, (.inl ⟨rfl, fun W _ => by go_simp⟩), HW2.out.1, ?_⟩
    refine takeH (o := ?oa8) 7 (.pointer (some ⟨b, off + 2, none⟩)) ?ha8 ?ra8
    case ha8 => simp only [aT, aS, aZ]; rfl
    refine ⟨_, by simp [Act.put]; rfl, by kernel_rfl, by kernel_rfl, by kernel_rfl, fun _ _ _ h => h, (.inl ⟨rfl, fun W _ => by (have q2 : (2 : Int) < (len : Int) := by omega); first | (go_simp; done) | (go_simp; intro h; omega)⟩), HW2.out.1, ?_⟩
    refine takeH (o := ?oa9) 8 (.int .i64 x2) ?ha9 ?ra9
    case ha9 => simp only [aT, aS, aZ]; rfl
    refine ⟨_, by simp [Act.put]; rfl, by kernel_rfl, by kernel_rfl, by kernel_rfl, fun _ _ _ h => h, (.inl ⟨rfl, fun W hW => by have c := hW.1.2.2.1; go_simp⟩), HW2.out.1, ?_⟩
    refine takeH (o := ?oa10) 9 (.slice (some ⟨b, off, none⟩) len cap) ?ha10 ?ra10
    case ha10 => simp only [aT, aS, aZ]; rfl
    refine ⟨_, by simp [Act.put]; rfl, by kernel_rfl, by kernel_rfl, by kernel_rfl, fun _ _ _ h => h, (.inl ⟨rfl, fun W _ => by go_simp⟩), HW2.out.1, ?_⟩
    refine takeH (o := ?oa11) 10 (.pointer (some ⟨b, off + 3, none⟩)) ?ha11 ?ra11
    case ha11 => simp only [aT, aS, aZ]; rfl
    refine ⟨_, by simp [Act.put]; rfl, by kernel_rfl, by kernel_rfl, by kernel_rfl, fun _ _ _ h => h, (.inl ⟨rfl, fun W _ => by (have q3 : (3 : Int) < (len : Int) := by omega); first | (go_simp; done) | (go_simp; intro h; omega)⟩), HW2.out.1, ?_⟩
    refine takeH (o := ?oa12) 11 (.int .i64 x3) ?ha12 ?ra12
    case ha12 => simp only [aT, aS, aZ]; rfl
    refine ⟨_, by simp [Act.put]; rfl, by kernel_rfl, by kernel_rfl, by kernel_rfl, fun _ _ _ h => h, (.inl ⟨rfl, fun W hW => by have c := hW.1.2.2.2; go_simp⟩), HW2.out.1, ?_⟩
    refine takeH (o := ?oa13) 12 (.agg #[.int .i64 s.count, .int .i64 s.sum, .int .i64 s.min, .int .i64 s.max, .slice a1 n1 c1, .slice a2 n2 c2, .slice a3 n3 c3]) ?ha13 ?ra13
    case ha13 => simp only [aT, aS, aZ]; rfl
    refine ⟨_, by simp [Act.put]; rfl, by kernel_rfl, by kernel_rfl, by kernel_rfl, fun _ _ _ h => h, (yields_whole 28 w1.heap.size #[.int .i64 s.count, .int .i64 s.sum, .int .i64 s.min, .int .i64 s.max, .slice a1 n1 c1, .slice a2 n2 c2, .slice a3 n3 c3] 28 _ rfl rfl rfl Try.underlying28 rfl infoSkI (fun W hW => hW.2)), HW2.out.1, ?_⟩
    refine takeH (o := ?oa14) 13 (.agg #[.int .i64 x0, .int .i64 x1, .int .i64 x2, .int .i64 x3, .int .i64 s.count, .int .i64 s.sum, .int .i64 s.min, .int .i64 s.max, .slice a1 n1 c1, .slice a2 n2 c2, .slice a3 n3 c3]) ?ha14 ?ra14
    case ha14 => simp only [aT, aS, aZ]; rfl
    refine ⟨_, by simp [Act.put]; rfl, by kernel_rfl, by kernel_rfl, by kernel_rfl, fun _ _ _ h => h, (.inl ⟨rfl, fun W _ => by go_simp⟩), HW2.out.1, ?_⟩
    refine takeH (o := ?oa15) 14 (.bool d) ?ha15 ?ra15
    case ha15 => simp only [aT, aS, aZ]; rfl
    refine ⟨_, by simp [Act.put]; rfl, by kernel_rfl, by kernel_rfl, by kernel_rfl, fun _ _ _ h => h, (.inl ⟨rfl, fun W _ => by go_simp⟩), HW2.out.1, ?_⟩
    refine onlyH (o := ?oa16) 15 (by kernel_rfl) ?ha16 ?ra16
    case ha16 => simp only [aT, aS, aZ]; rfl
    intro K hK
    have bV : Below w.heap.size w (W2.drew.setRow w.heap.size #[.int .i64 x0, .int .i64 x1, .int .i64 x2, .int .i64 x3, .int .i64 s.count, .int .i64 s.sum, .int .i64 s.min, .int .i64 s.max, .slice a1 n1 c1, .slice a2 n2 c2, .slice a3 n3 c3]) := below_setRow HW2.out.2.1 (Nat.le_refl _) _
    have nX : w.heap.size ∉ X := fun hx => by have := HW2.out.2.2.2.2.ge _ hx; omega
    have HV2 : Hid (NumSkHeld b off x0 x1 x2 x3 w1.heap.size #[.int .i64 s.count, .int .i64 s.sum, .int .i64 s.min, .int .i64 s.max, .slice a1 n1 c1, .slice a2 n2 c2, .slice a3 n3 c3] (W2.drew.setRow w.heap.size #[.int .i64 x0, .int .i64 x1, .int .i64 x2, .int .i64 x3, .int .i64 s.count, .int .i64 s.sum, .int .i64 s.min, .int .i64 s.max, .slice a1 n1 c1, .slice a2 n2 c2, .slice a3 n3 c3]) ∧ Below w.heap.size w (W2.drew.setRow w.heap.size #[.int .i64 x0, .int .i64 x1, .int .i64 x2, .int .i64 x3, .int .i64 s.count, .int .i64 s.sum, .int .i64 s.min, .int .i64 s.max, .slice a1 n1 c1, .slice a2 n2 c2, .slice a3 n3 c3]) ∧ Blk (W2.drew.setRow w.heap.size #[.int .i64 x0, .int .i64 x1, .int .i64 x2, .int .i64 x3, .int .i64 s.count, .int .i64 s.sum, .int .i64 s.min, .int .i64 s.max, .slice a1 n1 c1, .slice a2 n2 c2, .slice a3 n3 c3]) w.heap.size #[.int .i64 x0, .int .i64 x1, .int .i64 x2, .int .i64 x3, .int .i64 s.count, .int .i64 s.sum, .int .i64 s.min, .int .i64 s.max, .slice a1 n1 c1, .slice a2 n2 c2, .slice a3 n3 c3] 40 ∧ RdSk (W2.drew.setRow w.heap.size #[.int .i64 x0, .int .i64 x1, .int .i64 x2, .int .i64 x3, .int .i64 s.count, .int .i64 s.sum, .int .i64 s.min, .int .i64 s.max, .slice a1 n1 c1, .slice a2 n2 c2, .slice a3 n3 c3]) (.agg #[.int .i64 s.count, .int .i64 s.sum, .int .i64 s.min, .int .i64 s.max, .slice a1 n1 c1, .slice a2 n2 c2, .slice a3 n3 c3]) s X ∧ Own w.heap.size (W2.drew.setRow w.heap.size #[.int .i64 x0, .int .i64 x1, .int .i64 x2, .int .i64 x3, .int .i64 s.count, .int .i64 s.sum, .int .i64 s.min, .int .i64 s.max, .slice a1 n1 c1, .slice a2 n2 c2, .slice a3 n3 c3]) X) := ⟨⟨HKN.out _ bV, HW2.out.1.2.setRowOther (by omega)⟩, bV, HW2.out.2.2.1.setRow, HW2.out.2.2.2.1.agree (Agree.row nX _), (HW2.out.2.2.2.2.agree (Agree.row nX _)).mono (by omega)⟩
    refine op_store 40 w.heap.size #[.int .i64 0, .int .i64 0, .int .i64 0, .int .i64 0, .int .i64 0, .int .i64 0, .int .i64 0, .int .i64 0, .slice none 0 0, .slice none 0 0, .slice none 0 0] #[.int .i64 x0, .int .i64 x1, .int .i64 x2, .int .i64 x3, .int .i64 s.count, .int .i64 s.sum, .int .i64 s.min, .int .i64 s.max, .slice a1 n1 c1, .slice a2 n2 c2, .slice a3 n3 c3] 40 rfl rfl rfl rfl HW2.out.2.2.1 infoItA7 rfl (by simp [Value.oneCell']) ⟨_, by simp [Act.put]; rfl, hK _ _ ⟨HV2.out.1, ?_⟩⟩
    clear hK bV nX HW2
    refine onlyH (o := ?oa17) 16 (by kernel_rfl) ?ha17 ?ra17
    case ha17 => simp only [aT, aS, aZ]; rfl
    intro K hK
    refine op_value (.bool d) rfl (by go_simp) ⟨_, by simp [Act.put]; rfl, hK _ _ ⟨HV2.out.1, ?_⟩⟩
    clear hK
    refine wpAnyH_done (by kernel_rfl) ?_ _
    go_wp2
    refine bodyPost_ret (results_row_tmp Try.results124 _ _ w.heap.size _ _ _ _ rfl HV2.out.2.2.1 Try.underlying40 rfl infoItA7) rfl ?_
    have hit := item_of (l := l) (by rw [HL.out]; omega) HRS.out.2.2
    rw [← HX.out.1, ← HX.out.2.1, ← HX.out.2.2.1, ← HX.out.2.2.2] at hit
    exact ⟨_, ⟨x0, x1, x2, x3, s⟩, d, X, rfl, ⟨a1, n1, c1, a2, n2, c2, a3, n3, c3, rfl, HV2.out.2.2.2.1⟩, HV2.out.2.2.2.2, HV2.out.2.1, skN_wide HRS.out.2.2, hit⟩
  · obtain ⟨G, hG⟩ := (h.below HT.out.2).rest (cap := cap) 4 (by omega) hcap
    rw [if_neg hc4] at hG
    have HG : Hid (RdI (w.alloc (.cells #[.int .i64 0, .int .i64 0, .int .i64 0, .int .i64 0, .int .i64 0, .int .i64 0, .int .i64 0, .int .i64 0, .slice none 0 0, .slice none 0 0, .slice none 0 0] 40)) (some ⟨b, off + 4, none⟩) (len - 4) (l.drop 4) G) := hG
    clear h hx0 hx1 hx2 hx3 hG
    go_enter Try.func124, Try.ntmps124
    go_wp2_with fail
    refine (sketchOfNumbers_any _ (len - 4) _ (l.drop 4) G _ HG.out (by omega) (by omega)).mono ?_
    rintro e w1 ⟨v1, s, d, X, rfl, rs, os, bs, hN⟩
    obtain ⟨a1, n1, c1, a2, n2, c2, a3, n3, c3, F1, F2, F3, rfl, r1, r2, r3, hXF⟩ := rs
    have HRS : Hid (RdSk w1 (.agg #[.int .i64 s.count, .int .i64 s.sum, .int .i64 s.min, .int .i64 s.max, .slice a1 n1 c1, .slice a2 n2 c2, .slice a3 n3 c3]) s X ∧ Own (w.heap.size + 1) w1 X ∧ SkN (l.drop 4) s d) := ⟨⟨a1, n1, c1, a2, n2, c2, a3, n3, c3, F1, F2, F3, rfl, r1, r2, r3, hXF⟩, by simpa using os, hN⟩
    have HT1 : Hid (Blk w1 w.heap.size #[.int .i64 0, .int .i64 0, .int .i64 0, .int .i64 0, .int .i64 0, .int .i64 0, .int .i64 0, .int .i64 0, .slice none 0 0, .slice none 0 0, .slice none 0 0] 40 ∧ Below w.heap.size w w1) := ⟨HT.out.1.below bs, Below.next HT.out.2 bs⟩
    clear r1 r2 r3 hXF os bs hN HT HG
    go_wp2_with (first | go_skip | (with_reducible refine stopStore 28 rfl ?_))
    refine store_fresh 28 w1.heap.size rfl #[.int .i64 0, .int .i64 0, .int .i64 0, .int .i64 0, .slice none 0 0, .slice none 0 0, .slice none 0 0] #[.int .i64 s.count, .int .i64 s.sum, .int .i64 s.min, .int .i64 s.max, .slice a1 n1 c1, .slice a2 n2 c2, .slice a3 n3 c3] 28 rfl rfl rfl rfl infoSkI rfl (by simp [Value.oneCell']) ?_
    intro W2 hg2 hb2
    have HW2 : Hid (NumSkHeld b off x0 x1 x2 x3 w1.heap.size #[.int .i64 s.count, .int .i64 s.sum, .int .i64 s.min, .int .i64 s.max, .slice a1 n1 c1, .slice a2 n2 c2, .slice a3 n3 c3] W2.drew ∧ Below w.heap.size w W2.drew ∧ Blk W2.drew w.heap.size #[.int .i64 0, .int .i64 0, .int .i64 0, .int .i64 0, .int .i64 0, .int .i64 0, .int .i64 0, .int .i64 0, .slice none 0 0, .slice none 0 0, .slice none 0 0] 40 ∧ RdSk W2.drew (.agg #[.int .i64 s.count, .int .i64 s.sum, .int .i64 s.min, .int .i64 s.max, .slice a1 n1 c1, .slice a2 n2 c2, .slice a3 n3 c3]) s X ∧ Own (w.heap.size + 1) W2.drew X) := by
      have bb := (Below.next HT1.out.2 hb2).drew
      exact ⟨⟨HKN.out _ bb, hg2.drew⟩, bb, (HT1.out.1.below hb2).drew, (HRS.out.1.below hb2).below (Below.refl _ _).drew, (HRS.out.2.1.below HRS.out.1.lt hb2).agree (fun _ _ => rfl)⟩
    have lt1 : w.heap.size < w1.heap.size := HT1.out.1.lt
    clear hg2 hb2 HT1
    go_wp2
    refine wp_region_held (S := NumSkHeld b off x0 x1 x2 x3 w1.heap.size #[.int .i64 s.count, .int .i64 s.sum, .int .i64 s.min, .int .i64 s.max, .slice a1 n1 c1, .slice a2 n2 c2, .slice a3 n3 c3]) (by kernel_rfl) ?_
    change wpAnyH _ _ _ _ _ _ _ _ (World.drew _)
    refine takeH (o := ?ob1) 0 (.slice (some ⟨b, off, none⟩) len cap) ?hb1 ?rb1
    case hb1 => simp only [aT, aZ]; rfl
    refine ⟨_, by simp [Act.put]; rfl, by kernel_rfl, by kernel_rfl, by kernel_rfl, fun _ _ _ h => h, (.inl ⟨rfl, fun W _ => by go_simp⟩), HW2.out.1, ?_⟩
    refine takeH (o := ?ob2) 1 (.pointer (some ⟨b, off, none⟩)) ?hb2 ?rb2
    case hb2 => simp only [aT, aS, aZ]; rfl
    refine ⟨_, by simp [Act.put]; rfl, by kernel_rfl, by kernel_rfl, by kernel_rfl, fun _ _ _ h => h, (.inl ⟨rfl, fun W _ => by (have q0 : (0 : Int) < (len : Int) := by omega); first | (go_simp; done) | (go_simp; intro h; omega)⟩), HW2.out.1, ?_⟩
    refine takeH (o := ?ob3) 2 (.int .i64 x0) ?hb3 ?rb3
    case hb3 => simp only [aT, aS, aZ]; rfl
    refine ⟨_, by simp [Act.put]; rfl, by kernel_rfl, by kernel_rfl, by kernel_rfl, fun _ _ _ h => h, (.inl ⟨rfl, fun W hW => by have c := hW.1.1; go_simp⟩), HW2.out.1, ?_⟩
    refine takeH (o := ?ob4) 3 (.slice (some ⟨b, off, none⟩) len cap) ?hb4 ?rb4
    case hb4 => simp only [aT, aS, aZ]; rfl
    refine ⟨_, by simp [Act.put]; rfl, by kernel_rfl, by kernel_rfl, by kernel_rfl, fun _ _ _ h => h, (.inl ⟨rfl, fun W _ => by go_simp⟩), HW2.out.1, ?_⟩
    refine takeH (o := ?ob5) 4 (.pointer (some ⟨b, off + 1, none⟩)) ?hb5 ?rb5
    case hb5 => simp only [aT, aS, aZ]; rfl
    refine ⟨_, by simp [Act.put]; rfl, by kernel_rfl, by kernel_rfl, by kernel_rfl, fun _ _ _ h => h, (.inl ⟨rfl, fun W _ => by (have q1 : (1 : Int) < (len : Int) := by omega); first | (go_simp; done) | (go_simp; intro h; omega)⟩), HW2.out.1, ?_⟩
    refine takeH (o := ?ob6) 5 (.int .i64 x1) ?hb6 ?rb6
    case hb6 => simp only [aT, aS, aZ]; rfl
    refine ⟨_, by simp [Act.put]; rfl, by kernel_rfl, by kernel_rfl, by kernel_rfl, fun _ _ _ h => h, (.inl ⟨rfl, fun W hW => by have c := hW.1.2.1; go_simp⟩), HW2.out.1, ?_⟩
    refine takeH (o := ?ob7) 6 (.slice (some ⟨b, off, none⟩) len cap) ?hb7 ?rb7
    case hb7 => simp only [aT, aS, aZ]; rfl
    refine ⟨_, by simp [Act.put]; rfl, by kernel_rfl, by kernel_rfl, by kernel_rfl, fun _ _ _ h => h, (.inl ⟨rfl, fun W _ => by go_simp⟩), HW2.out.1, ?_⟩
    refine takeH (o := ?ob8) 7 (.pointer (some ⟨b, off + 2, none⟩)) ?hb8 ?rb8
    case hb8 => simp only [aT, aS, aZ]; rfl
    refine ⟨_, by simp [Act.put]; rfl, by kernel_rfl, by kernel_rfl, by kernel_rfl, fun _ _ _ h => h, (.inl ⟨rfl, fun W _ => by (have q2 : (2 : Int) < (len : Int) := by omega); first | (go_simp; done) | (go_simp; intro h; omega)⟩), HW2.out.1, ?_⟩
    refine takeH (o := ?ob9) 8 (.int .i64 x2) ?hb9 ?rb9
    case hb9 => simp only [aT, aS, aZ]; rfl
    refine ⟨_, by simp [Act.put]; rfl, by kernel_rfl, by kernel_rfl, by kernel_rfl, fun _ _ _ h => h, (.inl ⟨rfl, fun W hW => by have c := hW.1.2.2.1; go_simp⟩), HW2.out.1, ?_⟩
    refine takeH (o := ?ob10) 9 (.slice (some ⟨b, off, none⟩) len cap) ?hb10 ?rb10
    case hb10 => simp only [aT, aS, aZ]; rfl
    refine ⟨_, by simp [Act.put]; rfl, by kernel_rfl, by kernel_rfl, by kernel_rfl, fun _ _ _ h => h, (.inl ⟨rfl, fun W _ => by go_simp⟩), HW2.out.1, ?_⟩
    refine takeH (o := ?ob11) 10 (.pointer (some ⟨b, off + 3, none⟩)) ?hb11 ?rb11
    case hb11 => simp only [aT, aS, aZ]; rfl
    refine ⟨_, by simp [Act.put]; rfl, by kernel_rfl, by kernel_rfl, by kernel_rfl, fun _ _ _ h => h, (.inl ⟨rfl, fun W _ => by (have q3 : (3 : Int) < (len : Int) := by omega); first | (go_simp; done) | (go_simp; intro h; omega)⟩), HW2.out.1, ?_⟩
    refine takeH (o := ?ob12) 11 (.int .i64 x3) ?hb12 ?rb12
    case hb12 => simp only [aT, aS, aZ]; rfl
    refine ⟨_, by simp [Act.put]; rfl, by kernel_rfl, by kernel_rfl, by kernel_rfl, fun _ _ _ h => h, (.inl ⟨rfl, fun W hW => by have c := hW.1.2.2.2; go_simp⟩), HW2.out.1, ?_⟩
    refine takeH (o := ?ob13) 12 (.agg #[.int .i64 s.count, .int .i64 s.sum, .int .i64 s.min, .int .i64 s.max, .slice a1 n1 c1, .slice a2 n2 c2, .slice a3 n3 c3]) ?hb13 ?rb13
    case hb13 => simp only [aT, aS, aZ]; rfl
    refine ⟨_, by simp [Act.put]; rfl, by kernel_rfl, by kernel_rfl, by kernel_rfl, fun _ _ _ h => h, (yields_whole 28 w1.heap.size #[.int .i64 s.count, .int .i64 s.sum, .int .i64 s.min, .int .i64 s.max, .slice a1 n1 c1, .slice a2 n2 c2, .slice a3 n3 c3] 28 _ rfl rfl rfl Try.underlying28 rfl infoSkI (fun W hW => hW.2)), HW2.out.1, ?_⟩
    refine takeH (o := ?ob14) 13 (.agg #[.int .i64 x0, .int .i64 x1, .int .i64 x2, .int .i64 x3, .int .i64 s.count, .int .i64 s.sum, .int .i64 s.min, .int .i64 s.max, .slice a1 n1 c1, .slice a2 n2 c2, .slice a3 n3 c3]) ?hb14 ?rb14
    case hb14 => simp only [aT, aS, aZ]; rfl
    refine ⟨_, by simp [Act.put]; rfl, by kernel_rfl, by kernel_rfl, by kernel_rfl, fun _ _ _ h => h, (.inl ⟨rfl, fun W _ => by go_simp⟩), HW2.out.1, ?_⟩
    refine takeH (o := ?ob15) 14 (.bool d) ?hb15 ?rb15
    case hb15 => simp only [aT, aS, aZ]; rfl
    refine ⟨_, by simp [Act.put]; rfl, by kernel_rfl, by kernel_rfl, by kernel_rfl, fun _ _ _ h => h, (.inl ⟨rfl, fun W _ => by go_simp⟩), HW2.out.1, ?_⟩
    refine onlyH (o := ?ob16) 15 (by kernel_rfl) ?hb16 ?rb16
    case hb16 => simp only [aT, aS, aZ]; rfl
    intro K hK
    have bV : Below w.heap.size w (W2.drew.setRow w.heap.size #[.int .i64 x0, .int .i64 x1, .int .i64 x2, .int .i64 x3, .int .i64 s.count, .int .i64 s.sum, .int .i64 s.min, .int .i64 s.max, .slice a1 n1 c1, .slice a2 n2 c2, .slice a3 n3 c3]) := below_setRow HW2.out.2.1 (Nat.le_refl _) _
    have nX : w.heap.size ∉ X := fun hx => by have := HW2.out.2.2.2.2.ge _ hx; omega
    have HV2 : Hid (NumSkHeld b off x0 x1 x2 x3 w1.heap.size #[.int .i64 s.count, .int .i64 s.sum, .int .i64 s.min, .int .i64 s.max, .slice a1 n1 c1, .slice a2 n2 c2, .slice a3 n3 c3] (W2.drew.setRow w.heap.size #[.int .i64 x0, .int .i64 x1, .int .i64 x2, .int .i64 x3, .int .i64 s.count, .int .i64 s.sum, .int .i64 s.min, .int .i64 s.max, .slice a1 n1 c1, .slice a2 n2 c2, .slice a3 n3 c3]) ∧ Below w.heap.size w (W2.drew.setRow w.heap.size #[.int .i64 x0, .int .i64 x1, .int .i64 x2, .int .i64 x3, .int .i64 s.count, .int .i64 s.sum, .int .i64 s.min, .int .i64 s.max, .slice a1 n1 c1, .slice a2 n2 c2, .slice a3 n3 c3]) ∧ Blk (W2.drew.setRow w.heap.size #[.int .i64 x0, .int .i64 x1, .int .i64 x2, .int .i64 x3, .int .i64 s.count, .int .i64 s.sum, .int .i64 s.min, .int .i64 s.max, .slice a1 n1 c1, .slice a2 n2 c2, .slice a3 n3 c3]) w.heap.size #[.int .i64 x0, .int .i64 x1, .int .i64 x2, .int .i64 x3, .int .i64 s.count, .int .i64 s.sum, .int .i64 s.min, .int .i64 s.max, .slice a1 n1 c1, .slice a2 n2 c2, .slice a3 n3 c3] 40 ∧ RdSk (W2.drew.setRow w.heap.size #[.int .i64 x0, .int .i64 x1, .int .i64 x2, .int .i64 x3, .int .i64 s.count, .int .i64 s.sum, .int .i64 s.min, .int .i64 s.max, .slice a1 n1 c1, .slice a2 n2 c2, .slice a3 n3 c3]) (.agg #[.int .i64 s.count, .int .i64 s.sum, .int .i64 s.min, .int .i64 s.max, .slice a1 n1 c1, .slice a2 n2 c2, .slice a3 n3 c3]) s X ∧ Own w.heap.size (W2.drew.setRow w.heap.size #[.int .i64 x0, .int .i64 x1, .int .i64 x2, .int .i64 x3, .int .i64 s.count, .int .i64 s.sum, .int .i64 s.min, .int .i64 s.max, .slice a1 n1 c1, .slice a2 n2 c2, .slice a3 n3 c3]) X) := ⟨⟨HKN.out _ bV, HW2.out.1.2.setRowOther (by omega)⟩, bV, HW2.out.2.2.1.setRow, HW2.out.2.2.2.1.agree (Agree.row nX _), (HW2.out.2.2.2.2.agree (Agree.row nX _)).mono (by omega)⟩
    refine op_store 40 w.heap.size #[.int .i64 0, .int .i64 0, .int .i64 0, .int .i64 0, .int .i64 0, .int .i64 0, .int .i64 0, .int .i64 0, .slice none 0 0, .slice none 0 0, .slice none 0 0] #[.int .i64 x0, .int .i64 x1, .int .i64 x2, .int .i64 x3, .int .i64 s.count, .int .i64 s.sum, .int .i64 s.min, .int .i64 s.max, .slice a1 n1 c1, .slice a2 n2 c2, .slice a3 n3 c3] 40 rfl rfl rfl rfl HW2.out.2.2.1 infoItA7 rfl (by simp [Value.oneCell']) ⟨_, by simp [Act.put]; rfl, hK _ _ ⟨HV2.out.1, ?_⟩⟩
    clear hK bV nX HW2
    refine onlyH (o := ?ob17) 16 (by kernel_rfl) ?hb17 ?rb17
    case hb17 => simp only [aT, aS, aZ]; rfl
    intro K hK
    refine op_value (.bool d) rfl (by go_simp) ⟨_, by simp [Act.put]; rfl, hK _ _ ⟨HV2.out.1, ?_⟩⟩
    clear hK
    refine wpAnyH_done (by kernel_rfl) ?_ _
    go_wp2
    refine bodyPost_ret (results_row_tmp Try.results124 _ _ w.heap.size _ _ _ _ rfl HV2.out.2.2.1 Try.underlying40 rfl infoItA7) rfl ?_
    have hit := item_of (l := l) (by rw [HL.out]; omega) HRS.out.2.2
    rw [← HX.out.1, ← HX.out.2.1, ← HX.out.2.2.1, ← HX.out.2.2.2] at hit
    exact ⟨_, ⟨x0, x1, x2, x3, s⟩, d, X, rfl, ⟨a1, n1, c1, a2, n2, c2, a3, n3, c3, rfl, HV2.out.2.2.2.1⟩, HV2.out.2.2.2.2, HV2.out.2.1, skN_wide HRS.out.2.2, hit⟩
end Go.Proofs.Ytjndcfamfminkab
