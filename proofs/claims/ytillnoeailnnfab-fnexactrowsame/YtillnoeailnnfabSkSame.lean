/- Two lists, two summaries held against each other, by the model and by the library. No statement of the seat is proved here. -/
import Derived.Test.YtillnoeailnnfabTallyB
namespace Go.Proofs.Ytillnoeailnnfab
open Go.RowKit
set_option maxRecDepth 200000 in
set_option maxHeartbeats 1000000 in
theorem l1Same_any (a b : Option Addr) (la lb ca cb : Nat) (xs ys : List Int) (F G : List Nat) (w : World) (ha : RdI w a la xs F) (hb : RdI w b lb ys G) (hla : la ≤ 140737488355328) (hlb : lb ≤ 140737488355328) :
    Calls Try.prog 35 #[.slice a la ca, .slice b lb cb] w fun e w' => e = .returned (.bool (decide (xs = ys))) ∧ Below w.heap.size w w' := by
  have Hx : Hid (xs.length = la) := ha.length
  have Hy : Hid (ys.length = lb) := hb.length
  by_cases hl : la = lb
  · subst hl
    have hbne : ((la : Int) != (la : Int)) = false := by simp
    by_cases h0 : la = 0
    · subst h0
      have ex : xs = [] := List.eq_nil_of_length_eq_zero ha.length
      have ey : ys = [] := List.eq_nil_of_length_eq_zero hb.length
      clear ha hb
      go_enter Try.func35, Try.ntmps35
      go_wp2
      refine wp_loop_rounds 1 ?_
      rw [rounds_succ]
      go_wp2
      go_ret
      exact ⟨ret_bool (by rw [ex, ey]; rfl), Below.refl _ _⟩
    · obtain ⟨b1, o1, rfl, hc1⟩ : ∃ b off, a = some ⟨b, off, none⟩ ∧ ∀ i, i < la → w.cell? ⟨b, off + i, none⟩ = some (.int .i64 (xs.getD i 0)) := by
        rcases ha.cells with h | ⟨b, off, _, h1, _, h2⟩
        · exact absurd h.1 h0
        · exact ⟨b, off, h1, h2⟩
      obtain ⟨b2, o2, rfl, hc2⟩ : ∃ b' off, b = some ⟨b', off, none⟩ ∧ ∀ i, i < la → w.cell? ⟨b', off + i, none⟩ = some (.int .i64 (ys.getD i 0)) := by
        rcases hb.cells with h | ⟨b, off, _, h1, _, h2⟩
        · exact absurd h.1 h0
        · exact ⟨b, off, h1, h2⟩
      have hb1 : b1 < w.heap.size := World.block_lt_of_cell? _ _ (hc1 0 (by omega))
      have hb2 : b2 < w.heap.size := World.block_lt_of_cell? _ _ (hc2 0 (by omega))
      clear ha hb
      go_enter Try.func35, Try.ntmps35
      go_wp2
      go_loopw [5] (fun i wr => ∃ k : Nat, k ≤ la ∧ i = .int .i64 k ∧ Hid (xs.take k = ys.take k) ∧ Below w.heap.size w wr) (fun i _ => la - (intOf i).toNat)
      case atStart => exact ⟨0, by omega, rfl, rfl, Below.refl _ _⟩
      case round =>
        obtain ⟨k, hk, rfl, HT, hbel⟩ := hrel
        by_cases hlt : k < la
        · have d1 : wr.cell? ⟨b1, o1 + k, none⟩ = some (.int .i64 (xs.getD k 0)) := (hbel.cell (by exact hb1)).trans (hc1 k hlt)
          have d2 : wr.cell? ⟨b2, o2 + k, none⟩ = some (.int .i64 (ys.getD k 0)) := (hbel.cell (by exact hb2)).trans (hc2 k hlt)
          by_cases he : xs[k]?.getD 0 = ys[k]?.getD 0
          · have hne : (xs[k]?.getD 0 != ys[k]?.getD 0) = false := by simp [he]
            have HE : Hid (xs[k]?.getD 0 = ys[k]?.getD 0) := he
            clear he hc1 hc2
            go_wp2
            go_region
            all_goals (try go_wp2)
            all_goals
              go_roundw
              case rel => exact ⟨k + 1, by omega, by go_num, eqI_step (by rw [Hx.out, Hy.out]) (by rw [Hx.out]; exact hlt) HT.out HE.out, by repeat (first | exact hbel | apply Below.drew)⟩
              case measure => simp [intOf]; omega
          · have hne : (xs[k]?.getD 0 != ys[k]?.getD 0) = true := by simp [he]
            have HE : Hid (¬ xs[k]?.getD 0 = ys[k]?.getD 0) := he
            clear he hc1 hc2
            go_wp2
            go_region
            all_goals (try go_wp2)
            all_goals
              go_ret
              exact ⟨ret_bool (neI_of_at HE.out).symm, by repeat (first | exact hbel | apply Below.drew)⟩
        · obtain rfl : k = la := by omega
          go_wp2
          go_ret
          exact ⟨ret_bool (eqI_end Hx.out Hy.out HT.out).symm, hbel⟩
  · have hbne : ((la : Int) != (lb : Int)) = true := by simp; omega
    have e : decide (xs = ys) = false := by
      rw [decide_eq_false_iff_not]; intro e; subst e; exact hl (Hx.out.symm.trans Hy.out)
    clear ha hb
    go_enter Try.func35, Try.ntmps35
    go_wp2
    go_ret
    exact ⟨ret_bool e.symm, Below.refl _ _⟩
set_option maxRecDepth 200000 in
set_option maxHeartbeats 1000000 in
theorem slEqual_any (a b : Option Addr) (la lb ca cb : Nat) (xs ys : List Int) (F G : List Nat) (w : World) (ha : RdI w a la xs F) (hb : RdI w b lb ys G) (hla : la ≤ 140737488355328) (hlb : lb ≤ 140737488355328) :
    Calls Try.prog 40 #[.slice a la ca, .slice b lb cb] w fun e w' => e = .returned (.bool (decide (xs = ys))) ∧ Below w.heap.size w w' := by
  have Hx : Hid (xs.length = la) := ha.length
  have Hy : Hid (ys.length = lb) := hb.length
  by_cases hl : la = lb
  · subst hl
    have hbne : ((la : Int) != (la : Int)) = false := by simp
    by_cases h0 : la = 0
    · subst h0
      have ex : xs = [] := List.eq_nil_of_length_eq_zero ha.length
      have ey : ys = [] := List.eq_nil_of_length_eq_zero hb.length
      clear ha hb
      go_enter Try.func40, Try.ntmps40
      go_wp2
      refine wp_loop_rounds 1 ?_
      rw [rounds_succ]
      go_wp2
      go_ret
      exact ⟨ret_bool (by rw [ex, ey]; rfl), Below.refl _ _⟩
    · obtain ⟨b1, o1, rfl, hc1⟩ : ∃ b off, a = some ⟨b, off, none⟩ ∧ ∀ i, i < la → w.cell? ⟨b, off + i, none⟩ = some (.int .i64 (xs.getD i 0)) := by
        rcases ha.cells with h | ⟨b, off, _, h1, _, h2⟩
        · exact absurd h.1 h0
        · exact ⟨b, off, h1, h2⟩
      obtain ⟨b2, o2, rfl, hc2⟩ : ∃ b' off, b = some ⟨b', off, none⟩ ∧ ∀ i, i < la → w.cell? ⟨b', off + i, none⟩ = some (.int .i64 (ys.getD i 0)) := by
        rcases hb.cells with h | ⟨b, off, _, h1, _, h2⟩
        · exact absurd h.1 h0
        · exact ⟨b, off, h1, h2⟩
      have hb1 : b1 < w.heap.size := World.block_lt_of_cell? _ _ (hc1 0 (by omega))
      have hb2 : b2 < w.heap.size := World.block_lt_of_cell? _ _ (hc2 0 (by omega))
      clear ha hb
      go_enter Try.func40, Try.ntmps40
      go_wp2
      go_loopw [13] (fun i wr => ∃ k : Nat, k ≤ la ∧ i = .int .i64 k ∧ Hid (xs.take k = ys.take k) ∧ Below w.heap.size w wr) (fun i _ => la - (intOf i).toNat)
      case atStart => exact ⟨0, by omega, rfl, rfl, Below.refl _ _⟩
      case round =>
        obtain ⟨k, hk, rfl, HT, hbel⟩ := hrel
        by_cases hlt : k < la
        · have d1 : wr.cell? ⟨b1, o1 + k, none⟩ = some (.int .i64 (xs.getD k 0)) := (hbel.cell (by exact hb1)).trans (hc1 k hlt)
          have d2 : wr.cell? ⟨b2, o2 + k, none⟩ = some (.int .i64 (ys.getD k 0)) := (hbel.cell (by exact hb2)).trans (hc2 k hlt)
          by_cases he : xs[k]?.getD 0 = ys[k]?.getD 0
          · have hne : (xs[k]?.getD 0 != ys[k]?.getD 0) = false := by simp [he]
            have HE : Hid (xs[k]?.getD 0 = ys[k]?.getD 0) := he
            clear he hc1 hc2
            go_wp2
            go_region
            all_goals (try go_wp2)
            all_goals
              go_roundw
              case rel => exact ⟨k + 1, by omega, by go_num, eqI_step (by rw [Hx.out, Hy.out]) (by rw [Hx.out]; exact hlt) HT.out HE.out, by repeat (first | exact hbel | apply Below.drew)⟩
              case measure => simp [intOf]; omega
          · have hne : (xs[k]?.getD 0 != ys[k]?.getD 0) = true := by simp [he]
            have HE : Hid (¬ xs[k]?.getD 0 = ys[k]?.getD 0) := he
            clear he hc1 hc2
            go_wp2
            go_region
            all_goals (try go_wp2)
            all_goals
              go_ret
              exact ⟨ret_bool (neI_of_at HE.out).symm, by repeat (first | exact hbel | apply Below.drew)⟩
        · obtain rfl : k = la := by omega
          go_wp2
          go_ret
          exact ⟨ret_bool (eqI_end Hx.out Hy.out HT.out).symm, hbel⟩
  · have hbne : ((la : Int) != (lb : Int)) = true := by simp; omega
    have e : decide (xs = ys) = false := by
      rw [decide_eq_false_iff_not]; intro e; subst e; exact hl (Hx.out.symm.trans Hy.out)
    clear ha hb
    go_enter Try.func40, Try.ntmps40
    go_wp2
    go_ret
    exact ⟨ret_bool e.symm, Below.refl _ _⟩
/-- The two boxes lie there, and nothing elder has changed. -/
structure Boxes (w : World) (A B : Array Value) (t : TypeId) (W : World) : Prop where
  fst : Blk W w.heap.size A t
  snd : Blk W (w.heap.size + 1) B t
  bel : Below w.heap.size w W
theorem Boxes.below {w W W' : World} {A B : Array Value} {t : TypeId} (h : Boxes w A B t W) (b : Below W.heap.size W W') : Boxes w A B t W' := ⟨h.fst.below b, h.snd.below b, Below.next h.bel b⟩
theorem Boxes.drew {w W : World} {A B : Array Value} {t : TypeId} (h : Boxes w A B t W) : Boxes w A B t W.drew := ⟨h.fst, h.snd, h.bel.drew⟩
set_option maxRecDepth 200000 in
set_option maxHeartbeats 4000000 in
theorem sameSpec_any (v u : Value) (s t : Sk) (F G : List Nat) (w : World) (h : RdSk w v s F) (k : RdSk w u t G) (hw : s.wide) (kw : t.wide) :
    Calls Try.prog 24 #[v, u] w fun e w' => e = .returned (.bool (decide (s = t))) ∧ Below w.heap.size w w' := by
  obtain ⟨a1, n1, c1, a2, n2, c2, a3, n3, c3, F1, F2, F3, rfl, h1, h2, h3, _⟩ := h
  obtain ⟨b1, m1, d1, b2, m2, d2, b3, m3, d3, G1, G2, G3, rfl, k1, k2, k3, _⟩ := k
  have H1 : Hid (RdI w a1 n1 s.hist F1 ∧ RdI w b1 m1 t.hist G1 ∧ n1 ≤ 140737488355328 ∧ m1 ≤ 140737488355328) := ⟨h1, k1, by rw [← h1.length]; exact hw.hist, by rw [← k1.length]; exact kw.hist⟩
  have H2 : Hid (RdI w a2 n2 s.regs F2 ∧ RdI w b2 m2 t.regs G2 ∧ n2 ≤ 140737488355328 ∧ m2 ≤ 140737488355328) := ⟨h2, k2, by rw [← h2.length]; exact hw.regs, by rw [← k2.length]; exact kw.regs⟩
  have H3 : Hid (RdII w a3 n3 s.rows F3 ∧ RdII w b3 m3 t.rows G3 ∧ n3 ≤ 140737488355328 ∧ m3 ≤ 140737488355328) := ⟨h3, k3, by rw [← h3.length]; exact hw.rows, by rw [← k3.length]; exact kw.rows⟩
  have hn3 : n3 ≤ 140737488355328 := H3.out.2.2.1
  have hm3 : m3 ≤ 140737488355328 := H3.out.2.2.2
  have HW : Hid (s.wide ∧ t.wide) := ⟨hw, kw⟩
  clear h1 h2 h3 k1 k2 k3 hw kw
  have HT : Hid (_ ∧ _ ∧ _) := two_made w #[.int .i64 s.count, .int .i64 s.sum, .int .i64 s.min, .int .i64 s.max, .slice a1 n1 c1, .slice a2 n2 c2, .slice a3 n3 c3] #[.int .i64 t.count, .int .i64 t.sum, .int .i64 t.min, .int .i64 t.max, .slice b1 m1 d1, .slice b2 m2 d2, .slice b3 m3 d3] 40 40
  obtain ⟨d, hd⟩ : ∃ d, d = decide (s = t) := ⟨_, rfl⟩
  rw [← hd]
  have HD : Hid (d = decide (s = t)) := hd
  clear hd
  go_enter Try.func24, Try.ntmps24
  by_cases q1 : s.count = t.count
  rotate_left
  · have q' : (s.count != t.count) = true := by simpa using q1
    have HN : Hid (d = false) := by show d = _; rw [HD.out]; exact dec_false (fun e => q1 (by rw [e]))
    clear q1
    go_wp2
    go_ret
    exact ⟨ret_bool HN.out.symm, HT.out.2.2⟩
  have Q1 : Hid (s.count = t.count) := q1
  have q1' : (s.count != t.count) = false := by simpa using q1
  clear q1
  by_cases q2 : s.sum = t.sum
  rotate_left
  · have q' : (s.sum != t.sum) = true := by simpa using q2
    have HN : Hid (d = false) := by show d = _; rw [HD.out]; exact dec_false (fun e => q2 (by rw [e]))
    clear q2
    go_wp2
    go_ret
    exact ⟨ret_bool HN.out.symm, HT.out.2.2⟩
  have Q2 : Hid (s.sum = t.sum) := q2
  have q2' : (s.sum != t.sum) = false := by simpa using q2
  clear q2
  by_cases q3 : s.min = t.min
  rotate_left
  · have q' : (s.min != t.min) = true := by simpa using q3
    have HN : Hid (d = false) := by show d = _; rw [HD.out]; exact dec_false (fun e => q3 (by rw [e]))
    clear q3
    go_wp2
    go_ret
    exact ⟨ret_bool HN.out.symm, HT.out.2.2⟩
  have Q3 : Hid (s.min = t.min) := q3
  have q3' : (s.min != t.min) = false := by simpa using q3
  clear q3
  by_cases q4 : s.max = t.max
  rotate_left
  · have q' : (s.max != t.max) = true := by simpa using q4
    have HN : Hid (d = false) := by show d = _; rw [HD.out]; exact dec_false (fun e => q4 (by rw [e]))
    clear q4
    go_wp2
    go_ret
    exact ⟨ret_bool HN.out.symm, HT.out.2.2⟩
  have Q4 : Hid (s.max = t.max) := q4
  have q4' : (s.max != t.max) = false := by simpa using q4
  clear q4
  go_wp2_with fail
  refine (l1Same_any a1 b1 n1 m1 c1 d1 s.hist t.hist F1 G1 _ (H1.out.1.below HT.out.2.2) (H1.out.2.1.below HT.out.2.2) H1.out.2.2.1 H1.out.2.2.2).mono ?_
  rintro e w1 ⟨rfl, hb1⟩
  have HB1 : Hid (Boxes w #[.int .i64 s.count, .int .i64 s.sum, .int .i64 s.min, .int .i64 s.max, .slice a1 n1 c1, .slice a2 n2 c2, .slice a3 n3 c3] #[.int .i64 t.count, .int .i64 t.sum, .int .i64 t.min, .int .i64 t.max, .slice b1 m1 d1, .slice b2 m2 d2, .slice b3 m3 d3] 40 w1) := ⟨HT.out.1.below hb1, HT.out.2.1.below hb1, Below.next HT.out.2.2 hb1⟩
  clear hb1 HT
  cases e5 : decide (s.hist = t.hist)
  · have HN : Hid (d = false) := by show d = _; rw [HD.out]; exact dec_false (fun e => by rw [e] at e5; simp at e5)
    clear e5
    go_wp2
    go_ret
    exact ⟨ret_bool HN.out.symm, HB1.out.bel⟩
  have Q5 : Hid (s.hist = t.hist) := (show s.hist = t.hist from of_decide_eq_true e5)
  clear e5
  have x5 := HB1.out.fst.cell 5
  have y5 := HB1.out.snd.cell 5
  simp only [aT, aS, aZ] at x5 y5
  go_wp2_with fail
  refine (l1Same_any a2 b2 n2 m2 c2 d2 s.regs t.regs F2 G2 _ (H2.out.1.below HB1.out.bel) (H2.out.2.1.below HB1.out.bel) H2.out.2.2.1 H2.out.2.2.2).mono ?_
  rintro e w2 ⟨rfl, hb2⟩
  have HB2 : Hid (Boxes w #[.int .i64 s.count, .int .i64 s.sum, .int .i64 s.min, .int .i64 s.max, .slice a1 n1 c1, .slice a2 n2 c2, .slice a3 n3 c3] #[.int .i64 t.count, .int .i64 t.sum, .int .i64 t.min, .int .i64 t.max, .slice b1 m1 d1, .slice b2 m2 d2, .slice b3 m3 d3] 40 w2) := HB1.out.below hb2
  clear hb2 x5 y5 HB1
  cases e6 : decide (s.regs = t.regs)
  · have HN : Hid (d = false) := by show d = _; rw [HD.out]; exact dec_false (fun e => by rw [e] at e6; simp at e6)
    clear e6
    go_wp2
    go_ret
    exact ⟨ret_bool HN.out.symm, HB2.out.bel⟩
  have Q6 : Hid (s.regs = t.regs) := (show s.regs = t.regs from of_decide_eq_true e6)
  clear e6
  have x6 := HB2.out.fst.cell 6
  have y6 := HB2.out.snd.cell 6
  simp only [aT, aS, aZ] at x6 y6
  by_cases q7 : n3 = m3
  rotate_left
  · have q7' : ((n3 : Int) != (m3 : Int)) = true := by simp; omega
    have HN : Hid (d = false) := by show d = _; rw [HD.out]; exact dec_false (fun e => q7 (by rw [← H3.out.1.length, ← H3.out.2.1.length, e]))
    clear q7
    go_wp2
    go_ret
    exact ⟨ret_bool HN.out.symm, HB2.out.bel⟩
  subst q7
  have q7' : ((n3 : Int) != (n3 : Int)) = false := by simp
  go_wp2
  clear x6 y6 q7'
  go_loopw [5] (fun i wr => ∃ k : Nat, k ≤ n3 ∧ i = .int .i64 k ∧ Hid (s.rows.take k = t.rows.take k) ∧ Hid (Boxes w #[.int .i64 s.count, .int .i64 s.sum, .int .i64 s.min, .int .i64 s.max, .slice a1 n1 c1, .slice a2 n2 c2, .slice a3 n3 c3] #[.int .i64 t.count, .int .i64 t.sum, .int .i64 t.min, .int .i64 t.max, .slice b1 m1 d1, .slice b2 m2 d2, .slice b3 n3 d3] 40 wr)) (fun i _ => n3 - (intOf i).toNat)
  case atStart => exact ⟨0, by omega, rfl, rfl, HB2.out⟩
  case round =>
    clear HB2
    obtain ⟨k, hk, rfl, HK, HB⟩ := hrel
    have x6 := HB.out.fst.cell 6
    simp only [aT, aS, aZ] at x6
    by_cases hlt : k < n3
    · obtain ⟨p1, f1, X1, rfl, hm1⟩ : ∃ b off F', a3 = some ⟨b, off, none⟩ ∧ RdM w (s.rows.map ints) b off F' := by
        rcases H3.out.1.cells with ⟨h0, _⟩ | ⟨b, off, F', _, e, _, hm⟩
        · omega
        · exact ⟨b, off, F', e, hm⟩
      obtain ⟨p2, f2, X2, rfl, hm2⟩ : ∃ b off F', b3 = some ⟨b, off, none⟩ ∧ RdM w (t.rows.map ints) b off F' := by
        rcases H3.out.2.1.cells with ⟨h0, _⟩ | ⟨b, off, F', _, e, _, hm⟩
        · omega
        · exact ⟨b, off, F', e, hm⟩
      obtain ⟨e1, l1, g1, Y1, hc1, hr1, _⟩ := RdII.row hm1 H3.out.1.length k hlt
      obtain ⟨e2, l2, g2, Y2, hc2, hr2, _⟩ := RdII.row hm2 H3.out.2.1.length k hlt
      have hp1 : p1 < w.heap.size := World.block_lt_of_cell? _ _ hc1
      have hp2 : p2 < w.heap.size := World.block_lt_of_cell? _ _ hc2
      have HC : Hid (∀ W, Boxes w #[.int .i64 s.count, .int .i64 s.sum, .int .i64 s.min, .int .i64 s.max, .slice a1 n1 c1, .slice a2 n2 c2, .slice (some ⟨p1, f1, none⟩) n3 c3] #[.int .i64 t.count, .int .i64 t.sum, .int .i64 t.min, .int .i64 t.max, .slice b1 m1 d1, .slice b2 m2 d2, .slice (some ⟨p2, f2, none⟩) n3 d3] 40 W → W.cell? ⟨w.heap.size, 6, none⟩ = some (.slice (some ⟨p1, f1, none⟩) n3 c3) ∧ W.cell? ⟨w.heap.size + 1, 6, none⟩ = some (.slice (some ⟨p2, f2, none⟩) n3 d3) ∧ W.cell? ⟨p1, f1 + k, none⟩ = some (.slice e1 l1 g1) ∧ W.cell? ⟨p2, f2 + k, none⟩ = some (.slice e2 l2 g2)) := fun W b =>
        ⟨by rw [b.fst.cell]; rfl, by rw [b.snd.cell]; rfl, (b.bel.cell (by exact hp1)).trans hc1, (b.bel.cell (by exact hp2)).trans hc2⟩
      have HQ : Hid (RdI w e1 l1 (s.rows.getD k []) Y1 ∧ RdI w e2 l2 (t.rows.getD k []) Y2 ∧ l1 ≤ 140737488355328 ∧ l2 ≤ 140737488355328) := ⟨hr1, hr2, by rw [← hr1.length]; exact HW.out.1.row _ (mem_getD (by rw [H3.out.1.length]; exact hlt)), by rw [← hr2.length]; exact HW.out.2.row _ (mem_getD (by rw [H3.out.2.1.length]; exact hlt))⟩
      have HS : Hid (Boxes w #[.int .i64 s.count, .int .i64 s.sum, .int .i64 s.min, .int .i64 s.max, .slice a1 n1 c1, .slice a2 n2 c2, .slice (some ⟨p1, f1, none⟩) n3 c3] #[.int .i64 t.count, .int .i64 t.sum, .int .i64 t.min, .int .i64 t.max, .slice b1 m1 d1, .slice b2 m2 d2, .slice (some ⟨p2, f2, none⟩) n3 d3] 40 wr.drew) := HB.out.drew
      clear hc1 hc2 hr1 hr2 hm1 hm2
      go_wp2
      clear x6
      refine wp_region_held (S := Boxes w #[.int .i64 s.count, .int .i64 s.sum, .int .i64 s.min, .int .i64 s.max, .slice a1 n1 c1, .slice a2 n2 c2, .slice (some ⟨p1, f1, none⟩) n3 c3] #[.int .i64 t.count, .int .i64 t.sum, .int .i64 t.min, .int .i64 t.max, .slice b1 m1 d1, .slice b2 m2 d2, .slice (some ⟨p2, f2, none⟩) n3 d3] 40) (by kernel_rfl) ?_
      change wpAnyH _ _ _ _ _ _ _ _ (World.drew _)
      refine takeH (o := ?o1) 0 (.pointer (some ⟨w.heap.size, 6, none⟩)) ?h1 ?r1
      case h1 => simp only [aT, aZ]; rfl
      refine ⟨_, by simp [Act.put]; rfl, by kernel_rfl, by kernel_rfl, by kernel_rfl, fun _ _ _ h => h, (.inl ⟨rfl, fun W _ => by go_simp⟩), HS.out, ?_⟩
      refine takeH (o := ?o2) 1 (.slice (some ⟨p1, f1, none⟩) n3 c3) ?h2 ?r2
      case h2 => simp only [aT, aS, aZ]; rfl
      refine ⟨_, by simp [Act.put]; rfl, by kernel_rfl, by kernel_rfl, by kernel_rfl, fun _ _ _ h => h, (.inl ⟨rfl, fun W hW => by have c := (HC.out W hW).1; go_simp⟩), HS.out, ?_⟩
      refine takeH (o := ?o3) 2 (.int .i64 k) ?h3 ?r3
      case h3 => simp only [aT, aS, aZ]; rfl
      refine ⟨_, by simp [Act.put]; rfl, by kernel_rfl, by kernel_rfl, by kernel_rfl, fun _ _ _ h => h, (.inl ⟨rfl, fun W _ => by go_simp⟩), HS.out, ?_⟩
      refine takeH (o := ?o4) 3 (.pointer (some ⟨p1, f1 + k, none⟩)) ?h4 ?r4
      case h4 => simp only [aT, aS, aZ]; rfl
      refine ⟨_, by simp [Act.put]; rfl, by kernel_rfl, by kernel_rfl, by kernel_rfl, fun _ _ _ h => h, (.inl ⟨rfl, fun W _ => by go_simp⟩), HS.out, ?_⟩
      refine takeH (o := ?o5) 4 (.slice e1 l1 g1) ?h5 ?r5
      case h5 => simp only [aT, aS, aZ]; rfl
      refine ⟨_, by simp [Act.put]; rfl, by kernel_rfl, by kernel_rfl, by kernel_rfl, fun _ _ _ h => h, (.inl ⟨rfl, fun W hW => by have c := (HC.out W hW).2.2.1; go_simp⟩), HS.out, ?_⟩
      refine takeH (o := ?o6) 5 (.pointer (some ⟨w.heap.size + 1, 6, none⟩)) ?h6 ?r6
      case h6 => simp only [aT, aS, aZ]; rfl
      refine ⟨_, by simp [Act.put]; rfl, by kernel_rfl, by kernel_rfl, by kernel_rfl, fun _ _ _ h => h, (.inl ⟨rfl, fun W _ => by go_simp⟩), HS.out, ?_⟩
      refine takeH (o := ?o7) 6 (.slice (some ⟨p2, f2, none⟩) n3 d3) ?h7 ?r7
      case h7 => simp only [aT, aS, aZ]; rfl
      refine ⟨_, by simp [Act.put]; rfl, by kernel_rfl, by kernel_rfl, by kernel_rfl, fun _ _ _ h => h, (.inl ⟨rfl, fun W hW => by have c := (HC.out W hW).2.1; go_simp⟩), HS.out, ?_⟩
      refine takeH (o := ?o8) 7 (.int .i64 k) ?h8 ?r8
      case h8 => simp only [aT, aS, aZ]; rfl
      refine ⟨_, by simp [Act.put]; rfl, by kernel_rfl, by kernel_rfl, by kernel_rfl, fun _ _ _ h => h, (.inl ⟨rfl, fun W _ => by go_simp⟩), HS.out, ?_⟩
      refine takeH (o := ?o9) 8 (.pointer (some ⟨p2, f2 + k, none⟩)) ?h9 ?r9
      case h9 => simp only [aT, aS, aZ]; rfl
      refine ⟨_, by simp [Act.put]; rfl, by kernel_rfl, by kernel_rfl, by kernel_rfl, fun _ _ _ h => h, (.inl ⟨rfl, fun W _ => by go_simp⟩), HS.out, ?_⟩
      refine takeH (o := ?o10) 9 (.slice e2 l2 g2) ?h10 ?r10
      case h10 => simp only [aT, aS, aZ]; rfl
      refine ⟨_, by simp [Act.put]; rfl, by kernel_rfl, by kernel_rfl, by kernel_rfl, fun _ _ _ h => h, (.inl ⟨rfl, fun W hW => by have c := (HC.out W hW).2.2.2; go_simp⟩), HS.out, ?_⟩
      refine onlyH (o := ?o11) 10 (by kernel_rfl) ?h11 ?r11
      case h11 => simp only [aT, aS, aZ]; rfl
      intro K hK
      cases ee : decide (s.rows.getD k [] = t.rows.getD k [])
      · have HN : Hid (d = false) := by show d = _; rw [HD.out]; exact dec_false (fun e => by rw [e] at ee; simp at ee)
        refine op_call2 35 _ _ _ Try.f35 (fun w' => Below wr.drew.heap.size wr.drew w') (.bool false) rfl rfl Try.func35 (by kernel_rfl) (by kernel_rfl) (by rw [← ee]; exact l1Same_any e1 e2 l1 l2 g1 g2 _ _ Y1 Y2 wr.drew (HQ.out.1.below HB.out.bel.drew) (HQ.out.2.1.below HB.out.bel.drew) HQ.out.2.2.1 HQ.out.2.2.2) ⟨_, by simp [Act.put]; rfl, ?_⟩
        intro W5 b5
        have HB5 : Hid (Boxes w #[.int .i64 s.count, .int .i64 s.sum, .int .i64 s.min, .int .i64 s.max, .slice a1 n1 c1, .slice a2 n2 c2, .slice (some ⟨p1, f1, none⟩) n3 c3] #[.int .i64 t.count, .int .i64 t.sum, .int .i64 t.min, .int .i64 t.max, .slice b1 m1 d1, .slice b2 m2 d2, .slice (some ⟨p2, f2, none⟩) n3 d3] 40 W5) := HS.out.below b5
        refine hK _ _ ⟨HB5.out, ?_⟩
        clear hK b5 ee
        refine takeH (o := ?o12) 11 (.bool true) ?h12 ?r12
        case h12 => simp only [aT, aS, aZ]; rfl
        refine ⟨_, by simp [Act.put]; rfl, by kernel_rfl, by kernel_rfl, by kernel_rfl, fun _ _ _ h => h, (.inl ⟨rfl, fun W _ => by go_simp⟩), HB5.out, ?_⟩
        refine wpAnyH_done (by kernel_rfl) ?_ _
        go_wp2
        go_ret
        exact ⟨ret_bool HN.out.symm, HB5.out.bel⟩
      · have HK2 : Hid (s.rows.take (k + 1) = t.rows.take (k + 1)) := eqII_step (by rw [H3.out.1.length, H3.out.2.1.length]) (by rw [H3.out.1.length]; exact hlt) HK.out (of_decide_eq_true ee)
        refine op_call2 35 _ _ _ Try.f35 (fun w' => Below wr.drew.heap.size wr.drew w') (.bool true) rfl rfl Try.func35 (by kernel_rfl) (by kernel_rfl) (by rw [← ee]; exact l1Same_any e1 e2 l1 l2 g1 g2 _ _ Y1 Y2 wr.drew (HQ.out.1.below HB.out.bel.drew) (HQ.out.2.1.below HB.out.bel.drew) HQ.out.2.2.1 HQ.out.2.2.2) ⟨_, by simp [Act.put]; rfl, ?_⟩
        intro W5 b5
        have HB5 : Hid (Boxes w #[.int .i64 s.count, .int .i64 s.sum, .int .i64 s.min, .int .i64 s.max, .slice a1 n1 c1, .slice a2 n2 c2, .slice (some ⟨p1, f1, none⟩) n3 c3] #[.int .i64 t.count, .int .i64 t.sum, .int .i64 t.min, .int .i64 t.max, .slice b1 m1 d1, .slice b2 m2 d2, .slice (some ⟨p2, f2, none⟩) n3 d3] 40 W5) := HS.out.below b5
        refine hK _ _ ⟨HB5.out, ?_⟩
        clear hK b5 ee
        refine takeH (o := ?o13) 11 (.bool false) ?h13 ?r13
        case h13 => simp only [aT, aS, aZ]; rfl
        refine ⟨_, by simp [Act.put]; rfl, by kernel_rfl, by kernel_rfl, by kernel_rfl, fun _ _ _ h => h, (.inl ⟨rfl, fun W _ => by go_simp⟩), HB5.out, ?_⟩
        refine wpAnyH_done (by kernel_rfl) ?_ _
        go_wp2
        go_roundw
        case rel => exact ⟨k + 1, by omega, by go_num, HK2, HB5⟩
        case measure => simp [intOf]; omega
    · obtain rfl : k = n3 := by omega
      have HE : Hid (s.rows = t.rows) := by
        have := HK.out
        rw [List.take_of_length_le (Nat.le_of_eq H3.out.1.length), List.take_of_length_le (Nat.le_of_eq H3.out.2.1.length)] at this
        exact this
      have HN : Hid (d = true) := by show d = _; rw [HD.out]; exact dec_true (Sk.eq_of Q1.out Q2.out Q3.out Q4.out Q5.out Q6.out HE.out)
      go_wp2
      go_ret
      exact ⟨ret_bool HN.out.symm, HB.out.bel⟩
end Go.Proofs.Ytillnoeailnnfab
