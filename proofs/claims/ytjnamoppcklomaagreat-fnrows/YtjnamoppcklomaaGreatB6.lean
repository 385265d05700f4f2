/- Several texts of mine, laid together. No statement of the seat is proved here. -/
import Derived.Test.YtjnamoppcklomaaGreatTallyB
import Derived.Test.YtjnamoppcklomaaGreatTallyC
import Derived.Test.YtjnamoppcklomaaGreatB1
import Derived.Test.YtjnamoppcklomaaGreatTallyS
import Derived.Test.YtjnamoppcklomaaGreatSkLaw
import Derived.Test.YtjnamoppcklomaaGreatItModel
import Derived.Test.YtjnamoppcklomaaGreatB4
import Derived.Test.YtjnamoppcklomaaGreatB5
import Derived.Shelf.SlGeneric
import Derived.Shelf.SlSortCmp.WholeK
import Derived.Shelf.SlSortCmp.NoneTotal
import Derived.Ground.SlsfProg
import Derived.Shelf.Small.Bits
import Derived.Shelf.Small.Wraps
import Derived.Shelf.Strconv.Itoa0
import Derived.Test.YtjnamoppcklomaaGreatProg
import Derived.Test.YtjnamoppcklomaaGreatWhole
import Derived.OrdersHeld
import Derived.Test.YtjnamoppcklomaaGreatB2
import Derived.Test.YtjnamoppcklomaaGreatB3
namespace Go.Proofs.YtjnamoppcklomaaGreat
section
set_option maxRecDepth 200000
set_option maxHeartbeats 16000000
open Go.RowKit
theorem l1Same_any (a b : Option Addr) (la lb ca cb : Nat) (xs ys : List Int) (F G : List Nat) (w : World) (ha : RdI w a la xs F) (hb : RdI w b lb ys G) (hla : la ≤ 140737488355328) (hlb : lb ≤ 140737488355328) :
 Calls Tryz.prog 150 #[.slice a la ca, .slice b lb cb] w fun e w' => e = .returned (.bool (decide (xs = ys))) ∧ Below w.heap.size w w' := by
 have Hx : Hid (xs.length = la) := ha.length
 have Hy : Hid (ys.length = lb) := hb.length
 by_cases hl : la = lb
 ·
  subst hl
  have hbne : ((la : Int) != (la : Int)) = false := by simp
  by_cases h0 : la = 0
  ·
   subst h0
   have ex : xs = [] := List.eq_nil_of_length_eq_zero ha.length
   have ey : ys = [] := List.eq_nil_of_length_eq_zero hb.length
   clear ha hb
   go_enter Tryz.func150, Tryz.ntmps150
   go_wp2
   refine wp_loop_rounds 1 ?_
   rw [rounds_succ]
   go_wp2
   go_ret
   exact ⟨ret_bool (by rw [ex, ey]; rfl), Below.refl _ _⟩
  ·
   obtain ⟨b1, o1, rfl, hc1⟩ : ∃ b off, a = some ⟨b, off, none⟩ ∧ ∀ i, i < la → w.cell? ⟨b, off + i, none⟩ = some (.int .i64 (xs.getD i 0)) := by
    rcases ha.cells with h | ⟨b, off, _, h1, _, h2⟩
    ·
     exact absurd h.1 h0
    ·
     exact ⟨b, off, h1, h2⟩
   obtain ⟨b2, o2, rfl, hc2⟩ : ∃ b' off, b = some ⟨b', off, none⟩ ∧ ∀ i, i < la → w.cell? ⟨b', off + i, none⟩ = some (.int .i64 (ys.getD i 0)) := by
    rcases hb.cells with h | ⟨b, off, _, h1, _, h2⟩
    ·
     exact absurd h.1 h0
    ·
     exact ⟨b, off, h1, h2⟩
   have hb1 : b1 < w.heap.size := World.block_lt_of_cell? _ _ (hc1 0 (by omega))
   have hb2 : b2 < w.heap.size := World.block_lt_of_cell? _ _ (hc2 0 (by omega))
   clear ha hb
   go_enter Tryz.func150, Tryz.ntmps150
   go_wp2
   go_loopw [5] (fun i wr => ∃ k : Nat, k ≤ la ∧ i = .int .i64 k ∧ Hid (xs.take k = ys.take k) ∧ Below w.heap.size w wr) (fun i _ => la - (intOf i).toNat)
   case atStart => exact ⟨0, by omega, rfl, rfl, Below.refl _ _⟩
   case round =>
    obtain ⟨k, hk, rfl, HT, hbel⟩ := hrel
    by_cases hlt : k < la
    ·
     have d1 : wr.cell? ⟨b1, o1 + k, none⟩ = some (.int .i64 (xs.getD k 0)) := (hbel.cell (by exact hb1)).trans (hc1 k hlt)
     have d2 : wr.cell? ⟨b2, o2 + k, none⟩ = some (.int .i64 (ys.getD k 0)) := (hbel.cell (by exact hb2)).trans (hc2 k hlt)
     by_cases he : xs[k]?.getD 0 = ys[k]?.getD 0
     ·
      have hne : (xs[k]?.getD 0 != ys[k]?.getD 0) = false := by simp [he]
      have HE : Hid (xs[k]?.getD 0 = ys[k]?.getD 0) := he
      clear he hc1 hc2
      go_wp2
      go_region
      all_goals (try go_wp2)
      all_goals
       go_roundw
       case rel => exact ⟨k + 1, by omega, by go_num, eqI_step (by rw [Hx.out, Hy.out]) (by rw [Hx.out]; exact hlt) HT.out HE.out, by repeat (first | exact hbel | apply Below.drew)⟩
       case measure => simp [intOf]; omega
     ·
      have hne : (xs[k]?.getD 0 != ys[k]?.getD 0) = true := by simp [he]
      have HE : Hid (¬ xs[k]?.getD 0 = ys[k]?.getD 0) := he
      clear he hc1 hc2
      go_wp2
      go_region
      all_goals (try go_wp2)
      all_goals
       go_ret
       exact ⟨ret_bool (neI_of_at HE.out).symm, by repeat (first | exact hbel | apply Below.drew)⟩
    ·
     obtain rfl : k = la := by omega
     go_wp2
     go_ret
     exact ⟨ret_bool (eqI_end Hx.out Hy.out HT.out).symm, hbel⟩
 ·
  have hbne : ((la : Int) != (lb : Int)) = true := by simp; omega
  have e : decide (xs = ys) = false := by
   rw [decide_eq_false_iff_not]; intro e; subst e; exact hl (Hx.out.symm.trans Hy.out)
  clear ha hb
  go_enter Tryz.func150, Tryz.ntmps150
  go_wp2
  go_ret
  exact ⟨ret_bool e.symm, Below.refl _ _⟩
theorem slEqual_any (a b : Option Addr) (la lb ca cb : Nat) (xs ys : List Int) (F G : List Nat) (w : World) (ha : RdI w a la xs F) (hb : RdI w b lb ys G) (hla : la ≤ 140737488355328) (hlb : lb ≤ 140737488355328) :
 Calls Tryz.prog 129 #[.slice a la ca, .slice b lb cb] w fun e w' => e = .returned (.bool (decide (xs = ys))) ∧ Below w.heap.size w w' := by
 have Hx : Hid (xs.length = la) := ha.length
 have Hy : Hid (ys.length = lb) := hb.length
 by_cases hl : la = lb
 ·
  subst hl
  have hbne : ((la : Int) != (la : Int)) = false := by simp
  by_cases h0 : la = 0
  ·
   subst h0
   have ex : xs = [] := List.eq_nil_of_length_eq_zero ha.length
   have ey : ys = [] := List.eq_nil_of_length_eq_zero hb.length
   clear ha hb
   go_enter Tryz.func129, Tryz.ntmps129
   go_wp2
   refine wp_loop_rounds 1 ?_
   rw [rounds_succ]
   go_wp2
   go_ret
   exact ⟨ret_bool (by rw [ex, ey]; rfl), Below.refl _ _⟩
  ·
   obtain ⟨b1, o1, rfl, hc1⟩ : ∃ b off, a = some ⟨b, off, none⟩ ∧ ∀ i, i < la → w.cell? ⟨b, off + i, none⟩ = some (.int .i64 (xs.getD i 0)) := by
    rcases ha.cells with h | ⟨b, off, _, h1, _, h2⟩
    ·
     exact absurd h.1 h0
    ·
     exact ⟨b, off, h1, h2⟩
   obtain ⟨b2, o2, rfl, hc2⟩ : ∃ b' off, b = some ⟨b', off, none⟩ ∧ ∀ i, i < la → w.cell? ⟨b', off + i, none⟩ = some (.int .i64 (ys.getD i 0)) := by
    rcases hb.cells with h | ⟨b, off, _, h1, _, h2⟩
    ·
     exact absurd h.1 h0
    ·
     exact ⟨b, off, h1, h2⟩
   have hb1 : b1 < w.heap.size := World.block_lt_of_cell? _ _ (hc1 0 (by omega))
   have hb2 : b2 < w.heap.size := World.block_lt_of_cell? _ _ (hc2 0 (by omega))
   clear ha hb
   go_enter Tryz.func129, Tryz.ntmps129
   go_wp2
   go_loopw [13] (fun i wr => ∃ k : Nat, k ≤ la ∧ i = .int .i64 k ∧ Hid (xs.take k = ys.take k) ∧ Below w.heap.size w wr) (fun i _ => la - (intOf i).toNat)
   case atStart => exact ⟨0, by omega, rfl, rfl, Below.refl _ _⟩
   case round =>
    obtain ⟨k, hk, rfl, HT, hbel⟩ := hrel
    by_cases hlt : k < la
    ·
     have d1 : wr.cell? ⟨b1, o1 + k, none⟩ = some (.int .i64 (xs.getD k 0)) := (hbel.cell (by exact hb1)).trans (hc1 k hlt)
     have d2 : wr.cell? ⟨b2, o2 + k, none⟩ = some (.int .i64 (ys.getD k 0)) := (hbel.cell (by exact hb2)).trans (hc2 k hlt)
     by_cases he : xs[k]?.getD 0 = ys[k]?.getD 0
     ·
      have hne : (xs[k]?.getD 0 != ys[k]?.getD 0) = false := by simp [he]
      have HE : Hid (xs[k]?.getD 0 = ys[k]?.getD 0) := he
      clear he hc1 hc2
      go_wp2
      go_region
      all_goals (try go_wp2)
      all_goals
       go_roundw
       case rel => exact ⟨k + 1, by omega, by go_num, eqI_step (by rw [Hx.out, Hy.out]) (by rw [Hx.out]; exact hlt) HT.out HE.out, by repeat (first | exact hbel | apply Below.drew)⟩
       case measure => simp [intOf]; omega
     ·
      have hne : (xs[k]?.getD 0 != ys[k]?.getD 0) = true := by simp [he]
      have HE : Hid (¬ xs[k]?.getD 0 = ys[k]?.getD 0) := he
      clear he hc1 hc2
      go_wp2
      go_region
      all_goals (try go_wp2)
      all_goals
       go_ret
       exact ⟨ret_bool (neI_of_at HE.out).symm, by repeat (first | exact hbel | apply Below.drew)⟩
    ·
     obtain rfl : k = la := by omega
     go_wp2
     go_ret
     exact ⟨ret_bool (eqI_end Hx.out Hy.out HT.out).symm, hbel⟩
 ·
  have hbne : ((la : Int) != (lb : Int)) = true := by simp; omega
  have e : decide (xs = ys) = false := by
   rw [decide_eq_false_iff_not]; intro e; subst e; exact hl (Hx.out.symm.trans Hy.out)
  clear ha hb
  go_enter Tryz.func129, Tryz.ntmps129
  go_wp2
  go_ret
  exact ⟨ret_bool e.symm, Below.refl _ _⟩
structure Boxes (w : World) (A B : Array Value) (t : TypeId) (W : World) : Prop where
 fst : Blk W w.heap.size A t
 snd : Blk W (w.heap.size + 1) B t
 bel : Below w.heap.size w W
theorem Boxes.below {w W W' : World} {A B : Array Value} {t : TypeId} (h : Boxes w A B t W) (b : Below W.heap.size W W') : Boxes w A B t W' := ⟨h.fst.below b, h.snd.below b, Below.next h.bel b⟩
theorem Boxes.drew {w W : World} {A B : Array Value} {t : TypeId} (h : Boxes w A B t W) : Boxes w A B t W.drew := ⟨h.fst, h.snd, h.bel.drew⟩
theorem sameSpec_any (v u : Value) (s t : Sk) (F G : List Nat) (w : World) (h : RdSk w v s F) (k : RdSk w u t G) (hw : s.wide) (kw : t.wide) :
 Calls Tryz.prog 115 #[v, u] w fun e w' => e = .returned (.bool (decide (s = t))) ∧ Below w.heap.size w w' := by
 obtain ⟨a1, n1, c1, a2, n2, c2, a3, n3, c3, F1, F2, F3, rfl, h1, h2, h3, _⟩ := h
 obtain ⟨b1, m1, d1, b2, m2, d2, b3, m3, d3, G1, G2, G3, rfl, k1, k2, k3, _⟩ := k
 have H1 : Hid (RdI w a1 n1 s.hist F1 ∧ RdI w b1 m1 t.hist G1 ∧ n1 ≤ 140737488355328 ∧ m1 ≤ 140737488355328) := ⟨h1, k1, by rw [← h1.length]; exact hw.hist, by rw [← k1.length]; exact kw.hist⟩
 have H2 : Hid (RdI w a2 n2 s.regs F2 ∧ RdI w b2 m2 t.regs G2 ∧ n2 ≤ 140737488355328 ∧ m2 ≤ 140737488355328) := ⟨h2, k2, by rw [← h2.length]; exact hw.regs, by rw [← k2.length]; exact kw.regs⟩
 have H3 : Hid (RdII w a3 n3 s.rows F3 ∧ RdII w b3 m3 t.rows G3 ∧ n3 ≤ 140737488355328 ∧ m3 ≤ 140737488355328) := ⟨h3, k3, by rw [← h3.length]; exact hw.rows, by rw [← k3.length]; exact kw.rows⟩
 have hn3 : n3 ≤ 140737488355328 := H3.out.2.2.1
 have hm3 : m3 ≤ 140737488355328 := H3.out.2.2.2
 have HW : Hid (s.wide ∧ t.wide) := ⟨hw, kw⟩
 clear h1 h2 h3 k1 k2 k3 hw kw
 have HT : Hid (_ ∧ _ ∧ _) := two_made w #[.int .i64 s.count, .int .i64 s.sum, .int .i64 s.min, .int .i64 s.max, .slice a1 n1 c1, .slice a2 n2 c2, .slice a3 n3 c3] #[.int .i64 t.count, .int .i64 t.sum, .int .i64 t.min, .int .i64 t.max, .slice b1 m1 d1, .slice b2 m2 d2, .slice b3 m3 d3] 31 31
 obtain ⟨d, hd⟩ : ∃ d, d = decide (s = t) := ⟨_, rfl⟩
 rw [← hd]
 have HD : Hid (d = decide (s = t)) := hd
 clear hd
 go_enter Tryz.func115, Tryz.ntmps115
 by_cases q1 : s.count = t.count
 rotate_left
 ·
  have q' : (s.count != t.count) = true := by simpa using q1
  have HN : Hid (d = false) := by show d = _; rw [HD.out]; exact dec_false (fun e => q1 (by rw [e]))
  clear q1
  go_wp2
  go_ret
  exact ⟨ret_bool HN.out.symm, HT.out.2.2⟩
 have Q1 : Hid (s.count = t.count) := q1
 have q1' : (s.count != t.count) = false := by simpa using q1
 clear q1
 by_cases q2 : s.sum = t.sum
 rotate_left
 ·
  have q' : (s.sum != t.sum) = true := by simpa using q2
  have HN : Hid (d = false) := by show d = _; rw [HD.out]; exact dec_false (fun e => q2 (by rw [e]))
  clear q2
  go_wp2
  go_ret
  exact ⟨ret_bool HN.out.symm, HT.out.2.2⟩
 have Q2 : Hid (s.sum = t.sum) := q2
 have q2' : (s.sum != t.sum) = false := by simpa using q2
 clear q2
 by_cases q3 : s.min = t.min
 rotate_left
 ·
  have q' : (s.min != t.min) = true := by simpa using q3
  have HN : Hid (d = false) := by show d = _; rw [HD.out]; exact dec_false (fun e => q3 (by rw [e]))
  clear q3
  go_wp2
  go_ret
  exact ⟨ret_bool HN.out.symm, HT.out.2.2⟩
 have Q3 : Hid (s.min = t.min) := q3
 have q3' : (s.min != t.min) = false := by simpa using q3
 clear q3
 by_cases q4 : s.max = t.max
 rotate_left
 ·
  have q' : (s.max != t.max) = true := by simpa using q4
  have HN : Hid (d = false) := by show d = _; rw [HD.out]; exact dec_false (fun e => q4 (by rw [e]))
  clear q4
  go_wp2
  go_ret
  exact ⟨ret_bool HN.out.symm, HT.out.2.2⟩
 have Q4 : Hid (s.max = t.max) := q4
 have q4' : (s.max != t.max) = false := by simpa using q4
 clear q4
 go_wp2_with fail
 refine (l1Same_any a1 b1 n1 m1 c1 d1 s.hist t.hist F1 G1 _ (H1.out.1.below HT.out.2.2) (H1.out.2.1.below HT.out.2.2) H1.out.2.2.1 H1.out.2.2.2).mono ?_
 rintro e w1 ⟨rfl, hb1⟩
 have HB1 : Hid (Boxes w #[.int .i64 s.count, .int .i64 s.sum, .int .i64 s.min, .int .i64 s.max, .slice a1 n1 c1, .slice a2 n2 c2, .slice a3 n3 c3] #[.int .i64 t.count, .int .i64 t.sum, .int .i64 t.min, .int .i64 t.max, .slice b1 m1 d1, .slice b2 m2 d2, .slice b3 m3 d3] 31 w1) := ⟨HT.out.1.below hb1, HT.out.2.1.below hb1, Below.next HT.out.2.2 hb1⟩
 clear hb1 HT
 cases e5 : decide (s.hist = t.hist)
 ·
  have HN : Hid (d = false) := by show d = _; rw [HD.out]; exact dec_false (fun e => by rw [e] at e5; simp at e5)
  clear e5
  go_wp2
  go_ret
  exact ⟨ret_bool HN.out.symm, HB1.out.bel⟩
 have Q5 : Hid (s.hist = t.hist) := (show s.hist = t.hist from of_decide_eq_true e5)
 clear e5
 have x5 := HB1.out.fst.cell 5
 have y5 := HB1.out.snd.cell 5
 simp only [aT, aS, aZ] at x5 y5
 go_wp2_with fail
 refine (l1Same_any a2 b2 n2 m2 c2 d2 s.regs t.regs F2 G2 _ (H2.out.1.below HB1.out.bel) (H2.out.2.1.below HB1.out.bel) H2.out.2.2.1 H2.out.2.2.2).mono ?_
 rintro e w2 ⟨rfl, hb2⟩
 have HB2 : Hid (Boxes w #[.int .i64 s.count, .int .i64 s.sum, .int .i64 s.min, .int .i64 s.max, .slice a1 n1 c1, .slice a2 n2 c2, .slice a3 n3 c3] #[.int .i64 t.count, .int .i64 t.sum, .int .i64 t.min, .int .i64 t.max, .slice b1 m1 d1, .slice b2 m2 d2, .slice b3 m3 d3] 31 w2) := HB1.out.below hb2
 clear hb2 x5 y5 HB1
 cases e6 : decide (s.regs = t.regs)
 ·
  have HN : Hid (d = false) := by show d = _; rw [HD.out]; exact dec_false (fun e => by rw [e] at e6; simp at e6)
  clear e6
  go_wp2
  go_ret
  exact ⟨ret_bool HN.out.symm, HB2.out.bel⟩
 have Q6 : Hid (s.regs = t.regs) := (show s.regs = t.regs from of_decide_eq_true e6)
 clear e6
 have x6 := HB2.out.fst.cell 6
 have y6 := HB2.out.snd.cell 6
 simp only [aT, aS, aZ] at x6 y6
 by_cases q7 : n3 = m3
 rotate_left
 ·
  have q7' : ((n3 : Int) != (m3 : Int)) = true := by simp; omega
  have HN : Hid (d = false) := by show d = _; rw [HD.out]; exact dec_false (fun e => q7 (by rw [← H3.out.1.length, ← H3.out.2.1.length, e]))
  clear q7
  go_wp2
  go_ret
  exact ⟨ret_bool HN.out.symm, HB2.out.bel⟩
 subst q7
 have q7' : ((n3 : Int) != (n3 : Int)) = false := by simp
 go_wp2
 clear x6 y6 q7'
 go_loopw [5] (fun i wr => ∃ k : Nat, k ≤ n3 ∧ i = .int .i64 k ∧ Hid (s.rows.take k = t.rows.take k) ∧ Hid (Boxes w #[.int .i64 s.count, .int .i64 s.sum, .int .i64 s.min, .int .i64 s.max, .slice a1 n1 c1, .slice a2 n2 c2, .slice a3 n3 c3] #[.int .i64 t.count, .int .i64 t.sum, .int .i64 t.min, .int .i64 t.max, .slice b1 m1 d1, .slice b2 m2 d2, .slice b3 n3 d3] 31 wr)) (fun i _ => n3 - (intOf i).toNat)
 case atStart => exact ⟨0, by omega, rfl, rfl, HB2.out⟩
 case round =>
  clear HB2
  obtain ⟨k, hk, rfl, HK, HB⟩ := hrel
  have x6 := HB.out.fst.cell 6
  simp only [aT, aS, aZ] at x6
  by_cases hlt : k < n3
  ·
   obtain ⟨p1, f1, X1, rfl, hm1⟩ : ∃ b off F', a3 = some ⟨b, off, none⟩ ∧ RdM w (s.rows.map ints) b off F' := by
    rcases H3.out.1.cells with ⟨h0, _⟩ | ⟨b, off, F', _, e, _, hm⟩
    ·
     omega
    ·
     exact ⟨b, off, F', e, hm⟩
   obtain ⟨p2, f2, X2, rfl, hm2⟩ : ∃ b off F', b3 = some ⟨b, off, none⟩ ∧ RdM w (t.rows.map ints) b off F' := by
    rcases H3.out.2.1.cells with ⟨h0, _⟩ | ⟨b, off, F', _, e, _, hm⟩
    ·
     omega
    ·
     exact ⟨b, off, F', e, hm⟩
   obtain ⟨e1, l1, g1, Y1, hc1, hr1, _⟩ := RdII.row hm1 H3.out.1.length k hlt
   obtain ⟨e2, l2, g2, Y2, hc2, hr2, _⟩ := RdII.row hm2 H3.out.2.1.length k hlt
   have hp1 : p1 < w.heap.size := World.block_lt_of_cell? _ _ hc1
   have hp2 : p2 < w.heap.size := World.block_lt_of_cell? _ _ hc2
   have HC : Hid (∀ W, Boxes w #[.int .i64 s.count, .int .i64 s.sum, .int .i64 s.min, .int .i64 s.max, .slice a1 n1 c1, .slice a2 n2 c2, .slice (some ⟨p1, f1, none⟩) n3 c3] #[.int .i64 t.count, .int .i64 t.sum, .int .i64 t.min, .int .i64 t.max, .slice b1 m1 d1, .slice b2 m2 d2, .slice (some ⟨p2, f2, none⟩) n3 d3] 31 W → W.cell? ⟨w.heap.size, 6, none⟩ = some (.slice (some ⟨p1, f1, none⟩) n3 c3) ∧ W.cell? ⟨w.heap.size + 1, 6, none⟩ = some (.slice (some ⟨p2, f2, none⟩) n3 d3) ∧ W.cell? ⟨p1, f1 + k, none⟩ = some (.slice e1 l1 g1) ∧ W.cell? ⟨p2, f2 + k, none⟩ = some (.slice e2 l2 g2)) := fun W b =>
    ⟨by rw [b.fst.cell]; rfl, by rw [b.snd.cell]; rfl, (b.bel.cell (by exact hp1)).trans hc1, (b.bel.cell (by exact hp2)).trans hc2⟩
   have HQ : Hid (RdI w e1 l1 (s.rows.getD k []) Y1 ∧ RdI w e2 l2 (t.rows.getD k []) Y2 ∧ l1 ≤ 140737488355328 ∧ l2 ≤ 140737488355328) := ⟨hr1, hr2, by rw [← hr1.length]; exact HW.out.1.row _ (mem_getD (by rw [H3.out.1.length]; exact hlt)), by rw [← hr2.length]; exact HW.out.2.row _ (mem_getD (by rw [H3.out.2.1.length]; exact hlt))⟩
   have HS : Hid (Boxes w #[.int .i64 s.count, .int .i64 s.sum, .int .i64 s.min, .int .i64 s.max, .slice a1 n1 c1, .slice a2 n2 c2, .slice (some ⟨p1, f1, none⟩) n3 c3] #[.int .i64 t.count, .int .i64 t.sum, .int .i64 t.min, .int .i64 t.max, .slice b1 m1 d1, .slice b2 m2 d2, .slice (some ⟨p2, f2, none⟩) n3 d3] 31 wr.drew) := HB.out.drew
   clear hc1 hc2 hr1 hr2 hm1 hm2
   go_wp2
   clear x6
   refine wp_region_held (S := Boxes w #[.int .i64 s.count, .int .i64 s.sum, .int .i64 s.min, .int .i64 s.max, .slice a1 n1 c1, .slice a2 n2 c2, .slice (some ⟨p1, f1, none⟩) n3 c3] #[.int .i64 t.count, .int .i64 t.sum, .int .i64 t.min, .int .i64 t.max, .slice b1 m1 d1, .slice b2 m2 d2, .slice (some ⟨p2, f2, none⟩) n3 d3] 31) (by kernel_rfl) ?_
   change wpAnyH _ _ _ _ _ _ _ _ (World.drew _)
   refine tg 0 (.pointer (some ⟨w.heap.size, 6, none⟩)) (H := ⟨HS.out, ?_⟩)
   refine tk 1 (.slice (some ⟨p1, f1, none⟩) n3 c3) (H := ⟨(.inl ⟨rfl, fun W hW => by have c := (HC.out W hW).1; go_simp⟩), HS.out, ?_⟩)
   refine tg 2 (.int .i64 k) (H := ⟨HS.out, ?_⟩)
   refine tg 3 (.pointer (some ⟨p1, f1 + k, none⟩)) (H := ⟨HS.out, ?_⟩)
   refine tk 4 (.slice e1 l1 g1) (H := ⟨(.inl ⟨rfl, fun W hW => by have c := (HC.out W hW).2.2.1; go_simp⟩), HS.out, ?_⟩)
   refine tg 5 (.pointer (some ⟨w.heap.size + 1, 6, none⟩)) (H := ⟨HS.out, ?_⟩)
   refine tk 6 (.slice (some ⟨p2, f2, none⟩) n3 d3) (H := ⟨(.inl ⟨rfl, fun W hW => by have c := (HC.out W hW).2.1; go_simp⟩), HS.out, ?_⟩)
   refine tg 7 (.int .i64 k) (H := ⟨HS.out, ?_⟩)
   refine tg 8 (.pointer (some ⟨p2, f2 + k, none⟩)) (H := ⟨HS.out, ?_⟩)
   refine tk 9 (.slice e2 l2 g2) (H := ⟨(.inl ⟨rfl, fun W hW => by have c := (HC.out W hW).2.2.2; go_simp⟩), HS.out, ?_⟩)
   refine oq 10 (H := fun K hK => ?_)
   cases ee : decide (s.rows.getD k [] = t.rows.getD k [])
   ·
    have HN : Hid (d = false) := by show d = _; rw [HD.out]; exact dec_false (fun e => by rw [e] at ee; simp at ee)
    refine op_call2 150 _ _ _ Tryz.f150 (fun w' => Below wr.drew.heap.size wr.drew w') (.bool false) rfl rfl Tryz.func150 (by kernel_rfl) (by kernel_rfl) (by rw [← ee]; exact l1Same_any e1 e2 l1 l2 g1 g2 _ _ Y1 Y2 wr.drew (HQ.out.1.below HB.out.bel.drew) (HQ.out.2.1.below HB.out.bel.drew) HQ.out.2.2.1 HQ.out.2.2.2) ⟨_, by simp [Act.put]; rfl, ?_⟩
    intro W5 b5
    have HB5 : Hid (Boxes w #[.int .i64 s.count, .int .i64 s.sum, .int .i64 s.min, .int .i64 s.max, .slice a1 n1 c1, .slice a2 n2 c2, .slice (some ⟨p1, f1, none⟩) n3 c3] #[.int .i64 t.count, .int .i64 t.sum, .int .i64 t.min, .int .i64 t.max, .slice b1 m1 d1, .slice b2 m2 d2, .slice (some ⟨p2, f2, none⟩) n3 d3] 31 W5) := HS.out.below b5
    refine hK _ _ ⟨HB5.out, ?_⟩
    clear hK b5 ee
    refine tg 11 (.bool true) (H := ⟨HB5.out, ?_⟩)
    refine wpAnyH_done (by kernel_rfl) ?_ _
    go_wp2
    go_ret
    exact ⟨ret_bool HN.out.symm, HB5.out.bel⟩
   ·
    have HK2 : Hid (s.rows.take (k + 1) = t.rows.take (k + 1)) := eqII_step (by rw [H3.out.1.length, H3.out.2.1.length]) (by rw [H3.out.1.length]; exact hlt) HK.out (of_decide_eq_true ee)
    refine op_call2 150 _ _ _ Tryz.f150 (fun w' => Below wr.drew.heap.size wr.drew w') (.bool true) rfl rfl Tryz.func150 (by kernel_rfl) (by kernel_rfl) (by rw [← ee]; exact l1Same_any e1 e2 l1 l2 g1 g2 _ _ Y1 Y2 wr.drew (HQ.out.1.below HB.out.bel.drew) (HQ.out.2.1.below HB.out.bel.drew) HQ.out.2.2.1 HQ.out.2.2.2) ⟨_, by simp [Act.put]; rfl, ?_⟩
    intro W5 b5
    have HB5 : Hid (Boxes w #[.int .i64 s.count, .int .i64 s.sum, .int .i64 s.min, .int .i64 s.max, .slice a1 n1 c1, .slice a2 n2 c2, .slice (some ⟨p1, f1, none⟩) n3 c3] #[.int .i64 t.count, .int .i64 t.sum, .int .i64 t.min, .int .i64 t.max, .slice b1 m1 d1, .slice b2 m2 d2, .slice (some ⟨p2, f2, none⟩) n3 d3] 31 W5) := HS.out.below b5
    refine hK _ _ ⟨HB5.out, ?_⟩
    clear hK b5 ee
    refine tg 11 (.bool false) (H := ⟨HB5.out, ?_⟩)
    refine wpAnyH_done (by kernel_rfl) ?_ _
    go_wp2
    go_roundw
    case rel => exact ⟨k + 1, by omega, by go_num, HK2, HB5⟩
    case measure => simp [intOf]; omega
  ·
   obtain rfl : k = n3 := by omega
   have HE : Hid (s.rows = t.rows) := by
    have := HK.out
    rw [List.take_of_length_le (Nat.le_of_eq H3.out.1.length), List.take_of_length_le (Nat.le_of_eq H3.out.2.1.length)] at this
    exact this
   have HN : Hid (d = true) := by show d = _; rw [HD.out]; exact dec_true (Sk.eq_of Q1.out Q2.out Q3.out Q4.out Q5.out Q6.out HE.out)
   go_wp2
   go_ret
   exact ⟨ret_bool HN.out.symm, HB.out.bel⟩
end
section
set_option maxRecDepth 200000
set_option maxHeartbeats 16000000
open Go.RowKit
def numsEq (s t : Sk) : Bool := decide (s.count = t.count ∧ s.sum = t.sum ∧ s.min = t.min ∧ s.max = t.max)
theorem sameNumbers_any (v u : Value) (s t : Sk) (F G : List Nat) (w : World) (h : RdSk w v s F) (k : RdSk w u t G) :
 Calls Tryz.prog 86 #[v, u] w fun e w' => e = .returned (.bool (numsEq s t)) ∧ Below w.heap.size w w' := by
 obtain ⟨a1, n1, c1, a2, n2, c2, a3, n3, c3, F1, F2, F3, rfl, _⟩ := h
 obtain ⟨b1, m1, d1, b2, m2, d2, b3, m3, d3, G1, G2, G3, rfl, _⟩ := k
 have HT : Hid (_ ∧ _ ∧ _) := two_made w #[.int .i64 s.count, .int .i64 s.sum, .int .i64 s.min, .int .i64 s.max, .slice a1 n1 c1, .slice a2 n2 c2, .slice a3 n3 c3] #[.int .i64 t.count, .int .i64 t.sum, .int .i64 t.min, .int .i64 t.max, .slice b1 m1 d1, .slice b2 m2 d2, .slice b3 m3 d3] 31 31
 obtain ⟨d, hd⟩ : ∃ d, d = numsEq s t := ⟨_, rfl⟩
 rw [← hd]
 have HD : Hid (d = decide (s.count = t.count ∧ s.sum = t.sum ∧ s.min = t.min ∧ s.max = t.max)) := hd
 clear hd
 go_enter Tryz.func86, Tryz.ntmps86
 by_cases q1 : s.count = t.count
 rotate_left
 ·
  have q' : (s.count == t.count) = false := by simpa using q1
  have HN : Hid (d = false) := by show d = _; rw [HD.out]; exact dec_false (fun e => q1 e.1)
  clear q1
  go_wp2
  go_ret
  exact ⟨ret_bool HN.out.symm, HT.out.2.2⟩
 have Q1 : Hid (s.count = t.count) := q1
 have q1' : (s.count == t.count) = true := by simpa using q1
 clear q1
 by_cases q2 : s.sum = t.sum
 rotate_left
 ·
  have q' : (s.sum == t.sum) = false := by simpa using q2
  have HN : Hid (d = false) := by show d = _; rw [HD.out]; exact dec_false (fun e => q2 e.2.1)
  clear q2
  go_wp2
  go_ret
  exact ⟨ret_bool HN.out.symm, HT.out.2.2⟩
 have Q2 : Hid (s.sum = t.sum) := q2
 have q2' : (s.sum == t.sum) = true := by simpa using q2
 clear q2
 by_cases q3 : s.min = t.min
 rotate_left
 ·
  have q' : (s.min == t.min) = false := by simpa using q3
  have HN : Hid (d = false) := by show d = _; rw [HD.out]; exact dec_false (fun e => q3 e.2.2.1)
  clear q3
  go_wp2
  go_ret
  exact ⟨ret_bool HN.out.symm, HT.out.2.2⟩
 have Q3 : Hid (s.min = t.min) := q3
 have q3' : (s.min == t.min) = true := by simpa using q3
 clear q3
 by_cases q4 : s.max = t.max
 rotate_left
 ·
  have q' : (s.max == t.max) = false := by simpa using q4
  have HN : Hid (d = false) := by show d = _; rw [HD.out]; exact dec_false (fun e => q4 e.2.2.2)
  clear q4
  go_wp2
  go_ret
  exact ⟨ret_bool HN.out.symm, HT.out.2.2⟩
 have Q4 : Hid (s.max = t.max) := q4
 have q4' : (s.max == t.max) = true := by simpa using q4
 clear q4
 have HN : Hid (d = true) := by show d = _; rw [HD.out]; exact dec_true ⟨Q1.out, Q2.out, Q3.out, Q4.out⟩
 go_wp2
 go_ret
 exact ⟨ret_bool HN.out.symm, HT.out.2.2⟩
theorem eqFunc_any (a b : Option Addr) (la lb ca cb : Nat) (xs ys : List (List Int)) (F G : List Nat) (w : World) (ha : RdII w a la xs F) (hb : RdII w b lb ys G) (hla : la ≤ 140737488355328) (hlb : lb ≤ 140737488355328)
 (hxr : ∀ z ∈ xs, z.length ≤ 140737488355328) (hyr : ∀ z ∈ ys, z.length ≤ 140737488355328) :
 Calls Tryz.prog 130 #[.slice a la ca, .slice b lb cb, .func (.func 129) #[] #[]] w fun e w' => e = .returned (.bool (decide (xs = ys))) ∧ Below w.heap.size w w' := by
 have Hx : Hid (xs.length = la) := ha.length
 have Hy : Hid (ys.length = lb) := hb.length
 have Hxr : Hid (∀ z ∈ xs, z.length ≤ 140737488355328) := hxr
 have Hyr : Hid (∀ z ∈ ys, z.length ≤ 140737488355328) := hyr
 clear hxr hyr
 by_cases hl : la = lb
 ·
  subst hl
  have hbne : ((la : Int) != (la : Int)) = false := by simp
  by_cases h0 : la = 0
  ·
   subst h0
   have ex : xs = [] := List.eq_nil_of_length_eq_zero ha.length
   have ey : ys = [] := List.eq_nil_of_length_eq_zero hb.length
   clear ha hb
   go_enter Tryz.func130, Tryz.ntmps130
   go_wp2
   refine wp_loop_rounds 1 ?_
   rw [rounds_succ]
   go_wp2
   go_ret
   exact ⟨ret_bool (by rw [ex, ey]; rfl), Below.refl _ _⟩
  ·
   obtain ⟨b1, o1, F1, rfl, hm1⟩ : ∃ b off F', a = some ⟨b, off, none⟩ ∧ RdM w (xs.map ints) b off F' := by
    rcases ha.cells with h | ⟨b, off, F', _, h1, _, h2⟩
    ·
     exact absurd h.1 h0
    ·
     exact ⟨b, off, F', h1, h2⟩
   obtain ⟨b2, o2, F2, rfl, hm2⟩ : ∃ b' off F', b = some ⟨b', off, none⟩ ∧ RdM w (ys.map ints) b' off F' := by
    rcases hb.cells with h | ⟨b, off, F', _, h1, _, h2⟩
    ·
     exact absurd h.1 h0
    ·
     exact ⟨b, off, F', h1, h2⟩
   have HM1 : Hid (RdM w (xs.map ints) b1 o1 F1) := hm1
   have HM2 : Hid (RdM w (ys.map ints) b2 o2 F2) := hm2
   clear ha hb hm1 hm2
   go_enter Tryz.func130, Tryz.ntmps130
   go_wp2
   go_loopw [17] (fun i wr => ∃ k : Nat, k ≤ la ∧ i = .int .i64 k ∧ Hid (xs.take k = ys.take k) ∧ Hid (Below w.heap.size w wr)) (fun i _ => la - (intOf i).toNat)
   case atStart => exact ⟨0, by omega, rfl, rfl, Below.refl _ _⟩
   case round =>
    obtain ⟨k, hk, rfl, HT, HB⟩ := hrel
    by_cases hlt : k < la
    ·
     obtain ⟨a1, n1, c1, G1, hc1, hr1, _⟩ := RdII.row HM1.out Hx.out k hlt
     obtain ⟨a2, n2, c2, G2, hc2, hr2, _⟩ := RdII.row HM2.out Hy.out k hlt
     have hb1 : b1 < w.heap.size := World.block_lt_of_cell? _ _ hc1
     have hb2 : b2 < w.heap.size := World.block_lt_of_cell? _ _ hc2
     have d1 : wr.cell? ⟨b1, o1 + k, none⟩ = some (.slice a1 n1 c1) := (HB.out.cell (by exact hb1)).trans hc1
     have d2 : wr.cell? ⟨b2, o2 + k, none⟩ = some (.slice a2 n2 c2) := (HB.out.cell (by exact hb2)).trans hc2
     have HQ : Hid (RdI w a1 n1 (xs.getD k []) G1 ∧ RdI w a2 n2 (ys.getD k []) G2 ∧ n1 ≤ 140737488355328 ∧ n2 ≤ 140737488355328) := ⟨hr1, hr2, by rw [← hr1.length]; exact Hxr.out _ (mem_getD (by rw [Hx.out]; exact hlt)), by rw [← hr2.length]; exact Hyr.out _ (mem_getD (by rw [Hy.out]; exact hlt))⟩
     clear hr1 hr2 hc1 hc2
     go_wp2_with fail
     refine (slEqual_any a1 a2 n1 n2 c1 c2 _ _ G1 G2 _ (HQ.out.1.below HB.out) (HQ.out.2.1.below HB.out) HQ.out.2.2.1 HQ.out.2.2.2).mono ?_
     rintro e w1 ⟨rfl, hbz⟩
     have HB1 : Hid (Below w.heap.size w w1) := Below.next HB.out hbz
     clear hbz
     cases ee : decide (xs.getD k [] = ys.getD k [])
     ·
      have HE : Hid (¬ xs.getD k [] = ys.getD k []) := (show ¬ xs.getD k [] = ys.getD k [] from of_decide_eq_false ee)
      clear ee
      go_wp2
      go_ret
      exact ⟨ret_bool (neII_of_at HE.out).symm, HB1.out⟩
     ·
      have HE : Hid (xs.take (k + 1) = ys.take (k + 1)) := eqII_step (by rw [Hx.out, Hy.out]) (by rw [Hx.out]; exact hlt) HT.out (of_decide_eq_true ee)
      clear ee
      go_wp2
      go_roundw
      case rel => exact ⟨k + 1, by omega, by go_num, HE, HB1⟩
      case measure => simp [intOf]; omega
    ·
     obtain rfl : k = la := by omega
     go_wp2
     go_ret
     exact ⟨ret_bool (eqII_end Hx.out Hy.out HT.out).symm, HB.out⟩
 ·
  have hbne : ((la : Int) != (lb : Int)) = true := by simp; omega
  have e : decide (xs = ys) = false := by
   rw [decide_eq_false_iff_not]; intro e; subst e; exact hl (Hx.out.symm.trans Hy.out)
  clear ha hb
  go_enter Tryz.func130, Tryz.ntmps130
  go_wp2
  go_ret
  exact ⟨ret_bool e.symm, Below.refl _ _⟩
def listsEq (s t : Sk) : Bool := decide (s.hist = t.hist ∧ s.regs = t.regs ∧ s.rows = t.rows)
theorem sameLists_any (v u : Value) (s t : Sk) (F G : List Nat) (w : World) (h : RdSk w v s F) (k : RdSk w u t G) (hw : s.wide) (kw : t.wide) :
 Calls Tryz.prog 87 #[v, u] w fun e w' => e = .returned (.bool (listsEq s t)) ∧ Below w.heap.size w w' := by
 obtain ⟨a1, n1, c1, a2, n2, c2, a3, n3, c3, F1, F2, F3, rfl, h1, h2, h3, _⟩ := h
 obtain ⟨b1, m1, d1, b2, m2, d2, b3, m3, d3, G1, G2, G3, rfl, k1, k2, k3, _⟩ := k
 have H1 : Hid (RdI w a1 n1 s.hist F1 ∧ RdI w b1 m1 t.hist G1 ∧ n1 ≤ 140737488355328 ∧ m1 ≤ 140737488355328) := ⟨h1, k1, by rw [← h1.length]; exact hw.hist, by rw [← k1.length]; exact kw.hist⟩
 have H2 : Hid (RdI w a2 n2 s.regs F2 ∧ RdI w b2 m2 t.regs G2 ∧ n2 ≤ 140737488355328 ∧ m2 ≤ 140737488355328) := ⟨h2, k2, by rw [← h2.length]; exact hw.regs, by rw [← k2.length]; exact kw.regs⟩
 have H3 : Hid (RdII w a3 n3 s.rows F3 ∧ RdII w b3 m3 t.rows G3 ∧ n3 ≤ 140737488355328 ∧ m3 ≤ 140737488355328) := ⟨h3, k3, by rw [← h3.length]; exact hw.rows, by rw [← k3.length]; exact kw.rows⟩
 have hn3 : n3 ≤ 140737488355328 := H3.out.2.2.1
 have hm3 : m3 ≤ 140737488355328 := H3.out.2.2.2
 have HW : Hid (s.wide ∧ t.wide) := ⟨hw, kw⟩
 clear h1 h2 h3 k1 k2 k3 hw kw
 have HT : Hid (_ ∧ _ ∧ _) := two_made w #[.int .i64 s.count, .int .i64 s.sum, .int .i64 s.min, .int .i64 s.max, .slice a1 n1 c1, .slice a2 n2 c2, .slice a3 n3 c3] #[.int .i64 t.count, .int .i64 t.sum, .int .i64 t.min, .int .i64 t.max, .slice b1 m1 d1, .slice b2 m2 d2, .slice b3 m3 d3] 31 31
 obtain ⟨d, hd⟩ : ∃ d, d = listsEq s t := ⟨_, rfl⟩
 rw [← hd]
 have HD : Hid (d = decide (s.hist = t.hist ∧ s.regs = t.regs ∧ s.rows = t.rows)) := hd
 clear hd
 go_enter Tryz.func87, Tryz.ntmps87
 go_wp2_with fail
 refine (slEqual_any a1 b1 n1 m1 c1 d1 s.hist t.hist F1 G1 _ (H1.out.1.below HT.out.2.2) (H1.out.2.1.below HT.out.2.2) H1.out.2.2.1 H1.out.2.2.2).mono ?_
 rintro e w1 ⟨rfl, hb1⟩
 have HB1 : Hid (Boxes w #[.int .i64 s.count, .int .i64 s.sum, .int .i64 s.min, .int .i64 s.max, .slice a1 n1 c1, .slice a2 n2 c2, .slice a3 n3 c3] #[.int .i64 t.count, .int .i64 t.sum, .int .i64 t.min, .int .i64 t.max, .slice b1 m1 d1, .slice b2 m2 d2, .slice b3 m3 d3] 31 w1) := ⟨HT.out.1.below hb1, HT.out.2.1.below hb1, Below.next HT.out.2.2 hb1⟩
 clear hb1 HT
 cases e5 : decide (s.hist = t.hist)
 ·
  have HN : Hid (d = false) := by show d = _; rw [HD.out]; exact dec_false (fun e => by rw [e.1] at e5; simp at e5)
  clear e5
  go_wp2
  go_ret
  exact ⟨ret_bool HN.out.symm, HB1.out.bel⟩
 have Q5 : Hid (s.hist = t.hist) := (show s.hist = t.hist from of_decide_eq_true e5)
 clear e5
 have x5 := HB1.out.fst.cell 5
 have y5 := HB1.out.snd.cell 5
 simp only [aT, aS, aZ] at x5 y5
 go_wp2_with fail
 refine (slEqual_any a2 b2 n2 m2 c2 d2 s.regs t.regs F2 G2 _ (H2.out.1.below HB1.out.bel) (H2.out.2.1.below HB1.out.bel) H2.out.2.2.1 H2.out.2.2.2).mono ?_
 rintro e w2 ⟨rfl, hb2⟩
 have HB2 : Hid (Boxes w #[.int .i64 s.count, .int .i64 s.sum, .int .i64 s.min, .int .i64 s.max, .slice a1 n1 c1, .slice a2 n2 c2, .slice a3 n3 c3] #[.int .i64 t.count, .int .i64 t.sum, .int .i64 t.min, .int .i64 t.max, .slice b1 m1 d1, .slice b2 m2 d2, .slice b3 m3 d3] 31 w2) := HB1.out.below hb2
 clear hb2 x5 y5 HB1
 cases e6 : decide (s.regs = t.regs)
 ·
  have HN : Hid (d = false) := by show d = _; rw [HD.out]; exact dec_false (fun e => by rw [e.2.1] at e6; simp at e6)
  clear e6
  go_wp2
  go_ret
  exact ⟨ret_bool HN.out.symm, HB2.out.bel⟩
 have Q6 : Hid (s.regs = t.regs) := (show s.regs = t.regs from of_decide_eq_true e6)
 clear e6
 have x6 := HB2.out.fst.cell 6
 have y6 := HB2.out.snd.cell 6
 simp only [aT, aS, aZ] at x6 y6
 go_wp2_with fail
 refine (eqFunc_any a3 b3 n3 m3 c3 d3 s.rows t.rows F3 G3 _ (H3.out.1.below HB2.out.bel) (H3.out.2.1.below HB2.out.bel) hn3 hm3 HW.out.1.row HW.out.2.row).mono ?_
 rintro e w3 ⟨rfl, hb3⟩
 have HB3 : Hid (Below w.heap.size w w3) := Below.next HB2.out.bel hb3
 clear hb3 x6 y6
 obtain ⟨d3', hd3⟩ : ∃ d, d = decide (s.rows = t.rows) := ⟨_, rfl⟩
 rw [← hd3]
 have HN : Hid (d = d3') := by
  show d = _
  rw [HD.out, hd3]
  by_cases e : s.rows = t.rows
  ·
   rw [dec_true e, dec_true ⟨Q5.out, Q6.out, e⟩]
  ·
   rw [dec_false e, dec_false (fun x => e x.2.2)]
 clear hd3
 go_wp2
 go_ret
 exact ⟨ret_bool HN.out.symm, HB3.out⟩
theorem sk_tl {s : Sk} (h : s.shaped = true) : skOf s.tl = s := by
 obtain ⟨h0, h1, h2, h3, h4, h5, h6, h7, r0, r1, r2, r3, r4, r5, r6, r7, p0, p1, p2, p3, q0, q1, q2, q3, e⟩ := Sk.written h
 clear h
 generalize s.count = c at e
 generalize s.sum = sm at e
 generalize s.min = mn at e
 generalize s.max = mx at e
 subst e
 rfl
theorem tl_inj {s t : Sk} (hs : s.shaped = true) (ht : t.shaped = true) : decide (s.tl = t.tl) = decide (s = t) := by
 by_cases e : s = t
 ·
  subst e; simp
 ·
  rw [dec_false e]
  exact dec_false (fun x => e (by rw [← sk_tl hs, ← sk_tl ht, x]))
theorem sameImpl_any (v u : Value) (s t : Sk) (F G : List Nat) (w : World) (h : RdSk w v s F) (k : RdSk w u t G) (hw : s.wide) (kw : t.wide) :
 Calls Tryz.prog 43 #[v, u] w fun e w' => e = .returned (.bool (decide (s = t))) ∧ Below w.heap.size w w' := by
 have HH : Hid (RdSk w v s F ∧ RdSk w u t G ∧ s.wide ∧ t.wide) := ⟨h, k, hw, kw⟩
 obtain ⟨cs, rfl, hc7, hc1⟩ := h.cells
 obtain ⟨ds, rfl, hd7, hd1⟩ := k.cells
 have HC : Hid (cs.size = 7 ∧ ds.size = 7) := ⟨hc7, hd7⟩
 have HT : Hid (_ ∧ _ ∧ _) := two_made w cs ds 31 31
 obtain ⟨d, hd⟩ : ∃ d, d = decide (s = t) := ⟨_, rfl⟩
 rw [← hd]
 have HD : Hid (d = decide (s = t)) := hd
 clear h k hw kw hc7 hc1 hd7 hd1 hd
 go_enter Tryz.func43, Tryz.ntmps43
 go_wp2_with (first | go_skip | (with_reducible refine stopLoad 31 rfl ?_) | (with_reducible refine stopLoad 118 rfl ?_) | (with_reducible refine stopStore 118 rfl ?_))
 refine load_any 31 w.heap.size cs 31 _ HT.out.1 rfl rfl rfl Tryz.underlying31 rfl (skSize HC.out.1) ?_
 go_wp2_with fail
 refine (tallyOf_any _ s F _ (HH.out.1.below HT.out.2.2) HH.out.2.2.1).mono ?_
 rintro e w1 ⟨xs, rfl, xl, xe, b1⟩
 have HX : Hid (xs.length = 28 ∧ (s.shaped = true → xs = s.tl)) := ⟨xl, xe⟩
 have HW1 : Hid (Boxes w cs ds 31 w1) := ⟨HT.out.1.below b1, HT.out.2.1.below b1, Below.next HT.out.2.2 b1⟩
 clear xl xe b1 HT
 go_wp2_with (first | go_skip | (with_reducible refine stopLoad 31 rfl ?_) | (with_reducible refine stopLoad 118 rfl ?_) | (with_reducible refine stopStore 118 rfl ?_))
 refine store_fresh 118 w1.heap.size rfl (tc (List.replicate 28 0)) (tc xs) 118 rfl rfl rfl rfl (tallySize HX.out.1) (by rw [tc_size, tc_size, HX.out.1]; rfl) (tc_one _) ?_
 intro W2 hg2 b2
 have HW2 : Hid (Boxes w cs ds 31 W2 ∧ Blk W2 w1.heap.size (tc xs) 118) := ⟨HW1.out.below b2, hg2⟩
 clear hg2 b2 HW1
 go_wp2_with (first | go_skip | (with_reducible refine stopLoad 31 rfl ?_) | (with_reducible refine stopLoad 118 rfl ?_) | (with_reducible refine stopStore 118 rfl ?_))
 refine load_any 31 (w.heap.size + 1) ds 31 _ HW2.out.1.snd rfl rfl rfl Tryz.underlying31 rfl (skSize HC.out.2) ?_
 go_wp2_with fail
 refine (tallyOf_any _ t G _ (HH.out.2.1.below HW2.out.1.bel) HH.out.2.2.2).mono ?_
 rintro e w3 ⟨ys, rfl, xl, xe, b3⟩
 have HY : Hid (ys.length = 28 ∧ (t.shaped = true → ys = t.tl)) := ⟨xl, xe⟩
 have HW3 : Hid (Boxes w cs ds 31 w3 ∧ Blk w3 w1.heap.size (tc xs) 118) := ⟨HW2.out.1.below b3, HW2.out.2.below b3⟩
 clear xl xe b3 HW2
 go_wp2_with (first | go_skip | (with_reducible refine stopLoad 31 rfl ?_) | (with_reducible refine stopLoad 118 rfl ?_) | (with_reducible refine stopStore 118 rfl ?_))
 refine store_fresh 118 w3.heap.size rfl (tc (List.replicate 28 0)) (tc ys) 118 rfl rfl rfl rfl (tallySize HY.out.1) (by rw [tc_size, tc_size, HY.out.1]; rfl) (tc_one _) ?_
 intro W4 hg4 b4
 have HW4 : Hid (Boxes w cs ds 31 W4 ∧ Blk W4 w1.heap.size (tc xs) 118 ∧ Blk W4 w3.heap.size (tc ys) 118) := ⟨HW3.out.1.below b4, HW3.out.2.below b4, hg4⟩
 clear hg4 b4 HW3
 by_cases both : s.shaped = true ∧ t.shaped = true
 ·
  have HE : Hid (d = decide (xs = ys)) := by show d = _; rw [HD.out, HX.out.2 both.1, HY.out.2 both.2]; exact (tl_inj both.1 both.2).symm
  obtain ⟨sa, sb⟩ := both
  rw [sa, sb]
  clear sa sb
  go_wp2_with (first | go_skip | (with_reducible refine stopLoad 31 rfl ?_) | (with_reducible refine stopLoad 118 rfl ?_) | (with_reducible refine stopStore 118 rfl ?_))
  refine load_any 118 w1.heap.size (tc xs) 118 _ HW4.out.2.1 rfl rfl rfl Tryz.underlying118 rfl (tallySize HX.out.1) ?_
  go_wp2_with (first | go_skip | (with_reducible refine stopLoad 31 rfl ?_) | (with_reducible refine stopLoad 118 rfl ?_) | (with_reducible refine stopStore 118 rfl ?_))
  refine load_any 118 w3.heap.size (tc ys) 118 _ HW4.out.2.2 rfl rfl rfl Tryz.underlying118 rfl (tallySize HY.out.1) ?_
  go_wp2_with fail
  refine (same_any xs ys _ HX.out.1 HY.out.1).mono ?_
  rintro e w5 ⟨rfl, b5⟩
  have HB5 : Hid (Below w.heap.size w w5) := Below.next HW4.out.1.bel b5
  rw [← HE.out]
  clear b5
  go_wp2
  go_ret
  exact ⟨rfl, HB5.out⟩
 ·
  have hb : (s.shaped && t.shaped) = false := by
   cases e1 : s.shaped
   ·
    rfl
   ·
    cases e2 : t.shaped
    ·
     rfl
    ·
     exact absurd ⟨e1, e2⟩ both
  have rest : ∀ W (_ : W = W4), True := fun _ _ => trivial
  clear both rest
  cases sa : s.shaped
  ·
   clear hb
   go_wp2_with (first | go_skip | (with_reducible refine stopLoad 31 rfl ?_) | (with_reducible refine stopLoad 118 rfl ?_) | (with_reducible refine stopStore 118 rfl ?_))
   refine load_any 31 w.heap.size cs 31 _ HW4.out.1.fst rfl rfl rfl Tryz.underlying31 rfl (skSize HC.out.1) ?_
   go_wp2_with (first | go_skip | (with_reducible refine stopLoad 31 rfl ?_) | (with_reducible refine stopLoad 118 rfl ?_) | (with_reducible refine stopStore 118 rfl ?_))
   refine load_any 31 (w.heap.size + 1) ds 31 _ HW4.out.1.snd rfl rfl rfl Tryz.underlying31 rfl (skSize HC.out.2) ?_
   go_wp2_with fail
   refine (sameNumbers_any _ _ s t F G _ (HH.out.1.below HW4.out.1.bel) (HH.out.2.1.below HW4.out.1.bel)).mono ?_
   rintro e w5 ⟨rfl, b5⟩
   have HB5 : Hid (Boxes w cs ds 31 w5) := HW4.out.1.below b5
   clear b5
   cases en : numsEq s t
   ·
    have HN : Hid (d = false) := by show d = _; rw [HD.out]; exact dec_false (fun e => by rw [e] at en; simp [numsEq] at en)
    clear en
    go_wp2
    go_ret
    exact ⟨ret_bool HN.out.symm, HB5.out.bel⟩
   have HN1 : Hid (s.count = t.count ∧ s.sum = t.sum ∧ s.min = t.min ∧ s.max = t.max) := (show s.count = t.count ∧ s.sum = t.sum ∧ s.min = t.min ∧ s.max = t.max from of_decide_eq_true en)
   clear en
   go_wp2_with (first | go_skip | (with_reducible refine stopLoad 31 rfl ?_) | (with_reducible refine stopLoad 118 rfl ?_) | (with_reducible refine stopStore 118 rfl ?_))
   refine load_any 31 w.heap.size cs 31 _ HB5.out.fst rfl rfl rfl Tryz.underlying31 rfl (skSize HC.out.1) ?_
   go_wp2_with (first | go_skip | (with_reducible refine stopLoad 31 rfl ?_) | (with_reducible refine stopLoad 118 rfl ?_) | (with_reducible refine stopStore 118 rfl ?_))
   refine load_any 31 (w.heap.size + 1) ds 31 _ HB5.out.snd rfl rfl rfl Tryz.underlying31 rfl (skSize HC.out.2) ?_
   go_wp2_with fail
   refine (sameLists_any _ _ s t F G _ (HH.out.1.below HB5.out.bel) (HH.out.2.1.below HB5.out.bel) HH.out.2.2.1 HH.out.2.2.2).mono ?_
   rintro e w6 ⟨rfl, b6⟩
   have HB6 : Hid (Below w.heap.size w w6) := Below.next HB5.out.bel b6
   clear b6
   obtain ⟨dl, hdl⟩ : ∃ d, d = listsEq s t := ⟨_, rfl⟩
   rw [← hdl]
   have HN : Hid (d = dl) := by
    show d = _
    rw [HD.out, hdl]
    unfold listsEq
    by_cases e : s.hist = t.hist ∧ s.regs = t.regs ∧ s.rows = t.rows
    ·
     rw [dec_true e, dec_true (Sk.eq_of HN1.out.1 HN1.out.2.1 HN1.out.2.2.1 HN1.out.2.2.2 e.1 e.2.1 e.2.2)]
    ·
     rw [dec_false e]; exact dec_false (fun x => e (by rw [x]; exact ⟨rfl, rfl, rfl⟩))
   clear hdl
   go_wp2
   go_ret
   exact ⟨ret_bool HN.out.symm, HB6.out⟩
  ·
   rw [sa] at hb
   have sb : t.shaped = false := by simpa using hb
   rw [sb]
   clear hb sa sb
   go_wp2_with (first | go_skip | (with_reducible refine stopLoad 31 rfl ?_) | (with_reducible refine stopLoad 118 rfl ?_) | (with_reducible refine stopStore 118 rfl ?_))
   refine load_any 31 w.heap.size cs 31 _ HW4.out.1.fst rfl rfl rfl Tryz.underlying31 rfl (skSize HC.out.1) ?_
   go_wp2_with (first | go_skip | (with_reducible refine stopLoad 31 rfl ?_) | (with_reducible refine stopLoad 118 rfl ?_) | (with_reducible refine stopStore 118 rfl ?_))
   refine load_any 31 (w.heap.size + 1) ds 31 _ HW4.out.1.snd rfl rfl rfl Tryz.underlying31 rfl (skSize HC.out.2) ?_
   go_wp2_with fail
   refine (sameNumbers_any _ _ s t F G _ (HH.out.1.below HW4.out.1.bel) (HH.out.2.1.below HW4.out.1.bel)).mono ?_
   rintro e w5 ⟨rfl, b5⟩
   have HB5 : Hid (Boxes w cs ds 31 w5) := HW4.out.1.below b5
   clear b5
   cases en : numsEq s t
   ·
    have HN : Hid (d = false) := by show d = _; rw [HD.out]; exact dec_false (fun e => by rw [e] at en; simp [numsEq] at en)
    clear en
    go_wp2
    go_ret
    exact ⟨ret_bool HN.out.symm, HB5.out.bel⟩
   have HN1 : Hid (s.count = t.count ∧ s.sum = t.sum ∧ s.min = t.min ∧ s.max = t.max) := (show s.count = t.count ∧ s.sum = t.sum ∧ s.min = t.min ∧ s.max = t.max from of_decide_eq_true en)
   clear en
   go_wp2_with (first | go_skip | (with_reducible refine stopLoad 31 rfl ?_) | (with_reducible refine stopLoad 118 rfl ?_) | (with_reducible refine stopStore 118 rfl ?_))
   refine load_any 31 w.heap.size cs 31 _ HB5.out.fst rfl rfl rfl Tryz.underlying31 rfl (skSize HC.out.1) ?_
   go_wp2_with (first | go_skip | (with_reducible refine stopLoad 31 rfl ?_) | (with_reducible refine stopLoad 118 rfl ?_) | (with_reducible refine stopStore 118 rfl ?_))
   refine load_any 31 (w.heap.size + 1) ds 31 _ HB5.out.snd rfl rfl rfl Tryz.underlying31 rfl (skSize HC.out.2) ?_
   go_wp2_with fail
   refine (sameLists_any _ _ s t F G _ (HH.out.1.below HB5.out.bel) (HH.out.2.1.below HB5.out.bel) HH.out.2.2.1 HH.out.2.2.2).mono ?_
   rintro e w6 ⟨rfl, b6⟩
   have HB6 : Hid (Below w.heap.size w w6) := Below.next HB5.out.bel b6
   clear b6
   obtain ⟨dl, hdl⟩ : ∃ d, d = listsEq s t := ⟨_, rfl⟩
   rw [← hdl]
   have HN : Hid (d = dl) := by
    show d = _
    rw [HD.out, hdl]
    unfold listsEq
    by_cases e : s.hist = t.hist ∧ s.regs = t.regs ∧ s.rows = t.rows
    ·
     rw [dec_true e, dec_true (Sk.eq_of HN1.out.1 HN1.out.2.1 HN1.out.2.2.1 HN1.out.2.2.2 e.1 e.2.1 e.2.2)]
    ·
     rw [dec_false e]; exact dec_false (fun x => e (by rw [x]; exact ⟨rfl, rfl, rfl⟩))
   clear hdl
   go_wp2
   go_ret
   exact ⟨ret_bool HN.out.symm, HB6.out⟩
end
section
set_option maxRecDepth 200000
set_option maxHeartbeats 16000000
open Go.RowKit
theorem entrySameImpl_any (v u : Value) (x y : En) (F F' G G' : List Nat) (w : World) (h : RdEn w v x F F') (k : RdEn w u y G G') (hx : x.sk.wide) (hy : y.sk.wide) (hlx : x.ids.length ≤ 2097152) (hly : y.ids.length ≤ 2097152) :
 Calls Tryz.prog 12 #[v, u] w fun e w' => e = .returned (.bool (decide (x = y))) ∧ Below w.heap.size w w' := by
 obtain ⟨p, l, g, a1, n1, nc1, a2, n2, nc2, a3, n3, nc3, rfl, px, sx, _⟩ := h
 obtain ⟨q, k, j, b1, m1, mc1, b2, m2, mc2, b3, m3, mc3, rfl, py, sy, _⟩ := k
 have HX : Hid (RdSk w (.agg #[.int .i64 x.sk.count, .int .i64 x.sk.sum, .int .i64 x.sk.min, .int .i64 x.sk.max, .slice a1 n1 nc1, .slice a2 n2 nc2, .slice a3 n3 nc3]) x.sk F' ∧ RdSk w (.agg #[.int .i64 y.sk.count, .int .i64 y.sk.sum, .int .i64 y.sk.min, .int .i64 y.sk.max, .slice b1 m1 mc1, .slice b2 m2 mc2, .slice b3 m3 mc3]) y.sk G' ∧ x.sk.wide ∧ y.sk.wide) := ⟨sx, sy, hx, hy⟩
 have HP : Hid (RdP w p l x.ids F ∧ RdP w q k y.ids G ∧ l ≤ 2097152 ∧ k ≤ 2097152) := ⟨px, py, by rw [← px.length]; exact hlx, by rw [← py.length]; exact hly⟩
 have HT : Hid (_ ∧ _ ∧ _) := two_made w #[.int .i64 x.key, .int .i64 x.window, .slice p l g, .int .i64 x.sk.count, .int .i64 x.sk.sum, .int .i64 x.sk.min, .int .i64 x.sk.max, .slice a1 n1 nc1, .slice a2 n2 nc2, .slice a3 n3 nc3] #[.int .i64 y.key, .int .i64 y.window, .slice q k j, .int .i64 y.sk.count, .int .i64 y.sk.sum, .int .i64 y.sk.min, .int .i64 y.sk.max, .slice b1 m1 mc1, .slice b2 m2 mc2, .slice b3 m3 mc3] 33 33
 obtain ⟨d, hd⟩ : ∃ d, d = decide (x = y) := ⟨_, rfl⟩
 rw [← hd]
 have HD : Hid (d = decide (x = y)) := hd
 clear px py sx sy hx hy hlx hly hd
 obtain ⟨W0, hW0⟩ : ∃ W0, W0 = (w.alloc (.cells #[.int .i64 x.key, .int .i64 x.window, .slice p l g, .int .i64 x.sk.count, .int .i64 x.sk.sum, .int .i64 x.sk.min, .int .i64 x.sk.max, .slice a1 n1 nc1, .slice a2 n2 nc2, .slice a3 n3 nc3] 33)).alloc (.cells #[.int .i64 y.key, .int .i64 y.window, .slice q k j, .int .i64 y.sk.count, .int .i64 y.sk.sum, .int .i64 y.sk.min, .int .i64 y.sk.max, .slice b1 m1 mc1, .slice b2 m2 mc2, .slice b3 m3 mc3] 33) := ⟨_, rfl⟩
 have k0 := HT.out.1.cell 0
 have k1 := HT.out.1.cell 1
 have k2 := HT.out.1.cell 2
 have j0 := HT.out.2.1.cell 0
 have j1 := HT.out.2.1.cell 1
 have j2 := HT.out.2.1.cell 2
 simp only [aT, aS, aZ] at k0 k1 k2 j0 j1 j2
 clear hW0 W0
 by_cases c1 : x.key = y.key
 rotate_left
 ·
  have HV : Hid (d = false) := by show d = _; rw [HD.out]; exact dec_false (fun e => c1 (by rw [e]))
  have z1 : (x.key == y.key) = false := by simpa using c1
  clear c1
  go_enter Tryz.func12, Tryz.ntmps12
  go_wp2
  go_ret
  exact ⟨ret_bool HV.out.symm, HT.out.2.2⟩
 have z1 : (x.key == y.key) = true := by simpa using c1
 by_cases c2 : x.window = y.window
 rotate_left
 ·
  have HV : Hid (d = false) := by show d = _; rw [HD.out]; exact dec_false (fun e => c2 (by rw [e]))
  have z2 : (x.window == y.window) = false := by simpa using c2
  clear c1 c2
  go_enter Tryz.func12, Tryz.ntmps12
  go_wp2
  go_ret
  exact ⟨ret_bool HV.out.symm, HT.out.2.2⟩
 have z2 : (x.window == y.window) = true := by simpa using c2
 have HC : Hid (x.key = y.key ∧ x.window = y.window) := ⟨c1, c2⟩
 clear c1 c2
 go_enter Tryz.func12, Tryz.ntmps12
 go_wp2_with fail
 refine (slEqualP_any p q l k g j x.ids y.ids F G _ (HP.out.1.below HT.out.2.2) (HP.out.2.1.below HT.out.2.2) (by have := HP.out.2.2; omega) (by have := HP.out.2.2; omega)).mono ?_
 rintro e w1 ⟨rfl, hq⟩
 have HB1 : Hid (Blk w1 w.heap.size #[.int .i64 x.key, .int .i64 x.window, .slice p l g, .int .i64 x.sk.count, .int .i64 x.sk.sum, .int .i64 x.sk.min, .int .i64 x.sk.max, .slice a1 n1 nc1, .slice a2 n2 nc2, .slice a3 n3 nc3] 33 ∧ Blk w1 (w.heap.size + 1) #[.int .i64 y.key, .int .i64 y.window, .slice q k j, .int .i64 y.sk.count, .int .i64 y.sk.sum, .int .i64 y.sk.min, .int .i64 y.sk.max, .slice b1 m1 mc1, .slice b2 m2 mc2, .slice b3 m3 mc3] 33 ∧ Below w.heap.size w w1) := ⟨HT.out.1.below (quiet_below hq), HT.out.2.1.below (quiet_below hq), Below.next HT.out.2.2 (quiet_below hq)⟩
 clear hq HT k0 k1 k2 j0 j1 j2 z1 z2
 by_cases c3 : x.ids = y.ids
 rotate_left
 ·
  rw [dec_false c3]
  have HV : Hid (d = false) := by show d = _; rw [HD.out]; exact dec_false (fun e => c3 (by rw [e]))
  clear c3
  go_wp2
  go_ret
  exact ⟨ret_bool HV.out.symm, HB1.out.2.2⟩
 rw [dec_true c3]
 have HC3 : Hid (x.ids = y.ids) := c3
 clear c3
 go_wp2_with (first | go_skip | (with_reducible refine stopLoad 31 rfl ?_))
 refine load_cutw 31 w.heap.size 3 7 _ #[.int .i64 x.sk.count, .int .i64 x.sk.sum, .int .i64 x.sk.min, .int .i64 x.sk.max, .slice a1 n1 nc1, .slice a2 n2 nc2, .slice a3 n3 nc3] 33 _ HB1.out.1 rfl rfl rfl Tryz.underlying31 rfl infoSkI (by simp) rfl ?_
 go_wp2_with (first | go_skip | (with_reducible refine stopLoad 31 rfl ?_))
 refine load_cutw 31 (w.heap.size + 1) 3 7 _ #[.int .i64 y.sk.count, .int .i64 y.sk.sum, .int .i64 y.sk.min, .int .i64 y.sk.max, .slice b1 m1 mc1, .slice b2 m2 mc2, .slice b3 m3 mc3] 33 _ HB1.out.2.1 rfl rfl rfl Tryz.underlying31 rfl infoSkI (by simp) rfl ?_
 go_wp2_with fail
 refine (sameImpl_any _ _ x.sk y.sk F' G' _ (HX.out.1.below HB1.out.2.2) (HX.out.2.1.below HB1.out.2.2) HX.out.2.2.1 HX.out.2.2.2).mono ?_
 rintro e w2 ⟨rfl, b2⟩
 have HB2 : Hid (Below w.heap.size w w2) := Below.next HB1.out.2.2 b2
 clear b2
 obtain ⟨d2, hd2⟩ : ∃ d, d = decide (x.sk = y.sk) := ⟨_, rfl⟩
 rw [← hd2]
 have HV : Hid (d2 = d) := by
  show _ = _
  rw [hd2, HD.out]
  by_cases e : x.sk = y.sk
  ·
   rw [dec_true e, dec_true (En.eq_of HC.out.1 HC.out.2 HC3.out e)]
  ·
   rw [dec_false e, dec_false (fun q => e (by rw [q]))]
 clear hd2
 go_wp2
 go_ret
 exact ⟨ret_bool HV.out, HB2.out⟩
end
section
set_option maxRecDepth 200000
set_option maxHeartbeats 16000000
open Go.RowKit
theorem push_no {x z : Rw} {e : En} {j : Bool} (h : x.push e j = (z, false)) : z = x := by
 unfold Rw.push at h
 split at h
 ·
  exact absurd (Prod.mk.inj h).2 (by simp)
 ·
  exact (Prod.mk.inj h).1.symm
theorem push_takes {x z : Rw} {e : En} {j : Bool} (h : x.push e j = (z, true)) : x.takes e = true := by
 unfold Rw.push at h
 split at h
 ·
  rename_i q; exact (push_ok.1 q).1
 ·
  exact absurd (Prod.mk.inj h).2 (by simp)
theorem push_small {x : Rw} {e : En} (j : Bool) (hl : x.list.length ≤ 6) (hs : ensSize x.list ≤ 2000) (hw : e.wt ≤ 1300) : (x.push e j).1.size ≤ 3307 := by
 obtain ⟨s1, s2, _⟩ := pushL_size x.list e j
 unfold Rw.push
 split
 ·
  show ((pushL x.list e j).length : Int) + ensSize (pushL x.list e j) ≤ _; omega
 ·
  show (x.list.length : Int) + ensSize x.list ≤ _; omega
structure RFacts (r : Rw) (t : En) (j : Bool) (x y : Rw) (M : List En) : Prop where
 hy : r.push t (!j) = (y, true)
 sx : x.sums = M
 sy : y.sums = M
 ok : x.ok = true
 le : x.list.length ≤ r.list.length + 1
 pos : 0 < x.list.length
 fx : x.fits
 fy : y.fits
 sz : x.size + t.wt ≤ 1048576
 tw : x.push t j = (x, false)
 pops : x.pops = true
 first : x.list[0]? = some x.first
 rest : x.rest.list.length + 1 = x.list.length
 ids : x.ids.size = r.ids.size + t.ids.size
 wide : ∀ z ∈ M, z.wide
 len : M.length ≤ 24
 each : ∀ z ∈ x.list, z.wide
theorem rfacts {r x : Rw} {t : En} {j : Bool} (h : r.push t j = (x, true)) (hl : r.list.length ≤ 6) (hs : ensSize r.list ≤ 2000) (hw : t.wt ≤ 1300) : ∃ y M, RFacts r t j x y M := by
 have ht := push_takes h
 have hx : (r.push t j).1 = x := by rw [h]
 obtain ⟨_, p2, p3, p4, p5⟩ := Rw.push_sums ht (by omega) j
 obtain ⟨q1, q2, q3, _, _⟩ := Rw.push_sums ht (by omega) (!j)
 have k1 := push_small j hl hs hw
 have k2 := push_small (!j) hl hs hw
 have k3 := Rw.push_ids ht (by omega) j
 have k4 := Rw.push_twice ht (by omega) j
 rw [hx] at p2 p3 p4 p5 k1 k3 k4
 have hf : x.fits := by show x.size ≤ _; omega
 have hpop : x.pops = true := by unfold Rw.pops; rw [p2]; simpa using p5
 have hwd := Rw.sums_fine hf
 rw [p3] at hwd
 refine ⟨(r.push t (!j)).1, _, Prod.ext rfl q1, p3, q3, p2, p4, p5, hf, by show Rw.size _ ≤ _; omega, by omega, Rw.push_not k4, hpop, ?_, ?_, k3, hwd.1, hwd.2.1, fun z hz => (hf.each z hz).wide⟩
 ·
  unfold Rw.first
  rw [if_pos hpop]
  cases hc : x.list with
  | nil => rw [hc] at p5; simp at p5
  | cons a l => simp
 ·
  unfold Rw.rest
  rw [if_pos hpop]
  show x.list.tail.length + 1 = _
  rw [List.length_tail]; omega
theorem wide_of_wt {t : En} (h : t.wt ≤ 1300) : t.ids.length ≤ 1300 := by
 unfold En.wt Sk.size at h
 have := sumLen_nonneg t.sk.rows
 omega
theorem sameE_any (v u : Value) (x y : En) (F G : List Nat) (w : World) (h : RdE w v x F) (k : RdE w u y G) (hw : x.wide) (kw : y.wide) :
 Calls Tryz.prog 12 #[v, u] w fun e w' => e = .returned (.bool (decide (x = y))) ∧ Below w.heap.size w w' := by
 obtain ⟨F1, F2, rfl, h⟩ := h
 obtain ⟨G1, G2, rfl, k⟩ := k
 exact entrySameImpl_any v u x y F1 F2 G1 G2 w h k hw.1 kw.1 (by have := hw.2; omega) (by have := kw.2; omega)
structure VRw (W : World) (g : Nat) (x : Rw) (a : Option Addr) (n c : Nat) (F : List Nat) : Prop where
 blk : Blk W g #[.slice a n c] 26
 rl : RdL enK W a n x.list F
 cp : Capd a n c
theorem VRw.below {W W' : World} {g : Nat} {x : Rw} {a : Option Addr} {n c : Nat} {F : List Nat} (h : VRw W g x a n c F) (b : Below W.heap.size W W') : VRw W' g x a n c F := ⟨h.blk.below b, h.rl.agree (.below b h.rl.lt), h.cp⟩
theorem VRw.rd {W : World} {g : Nat} {x : Rw} {a : Option Addr} {n c : Nat} {F : List Nat} (h : VRw W g x a n c F) : RdRw W (.agg #[.slice a n c]) x F := ⟨a, n, c, rfl, h.rl, h.cp⟩
structure VEn (W : World) (g : Nat) (ec : Array Value) (y : En) (G : List Nat) : Prop where
 blk : Blk W g ec 33
 rd : RdE W (.agg ec) y G
 sz : ec.size = 10
theorem VEn.below {W W' : World} {g : Nat} {ec : Array Value} {y : En} {G : List Nat} (h : VEn W g ec y G) (b : Below W.heap.size W W') : VEn W' g ec y G := ⟨h.blk.below b, h.rd.below b, h.sz⟩
structure AllR (w : World) (gr : Nat) (r : Rw) (ar : Option Addr) (nr kr : Nat) (F : List Nat) (gt : Nat) (ec : Array Value) (t : En) (G : List Nat) (pt : Option Addr) (lt : Nat) (Gi : List Nat) (gx : Nat) (x : Rw) (ax : Option Addr) (nx kx : Nat) (Fx : List Nat) (pa pb : Option Addr) (N : Nat) (M : List En) (Ya Yb : List Nat) (W : World) : Prop where
 bel : Below w.heap.size w W
 vr : VRw W gr r ar nr kr F
 vt : VEn W gt ec t G
 vi : RdP W pt lt t.ids Gi
 vx : VRw W gx x ax nx kx Fx
 va : RdL enK W pa N M Ya
 vb : RdL enK W pb N M Yb
theorem AllR.below {w : World} {gr : Nat} {r : Rw} {ar : Option Addr} {nr kr : Nat} {F : List Nat} {gt : Nat} {ec : Array Value} {t : En} {G : List Nat} {pt : Option Addr} {lt : Nat} {Gi : List Nat} {gx : Nat} {x : Rw} {ax : Option Addr} {nx kx : Nat} {Fx : List Nat} {pa pb : Option Addr} {N : Nat} {M : List En} {Ya Yb : List Nat} {W W' : World} (h : AllR w gr r ar nr kr F gt ec t G pt lt Gi gx x ax nx kx Fx pa pb N M Ya Yb W) (b : Below W.heap.size W W') : AllR w gr r ar nr kr F gt ec t G pt lt Gi gx x ax nx kx Fx pa pb N M Ya Yb W' := ⟨Below.next h.bel b, h.vr.below b, h.vt.below b, h.vi.below b, h.vx.below b, h.va.agree (.below b h.va.lt), h.vb.agree (.below b h.vb.lt)⟩
end
end Go.Proofs.YtjnamoppcklomaaGreat
namespace Go.Proofs
open Go.Shelf
def Tryz.lays122_ren : Go.Shelf.Ren := ⟨fun | 122 => 81 | 215 => 126 | n => n, fun | 3 => 3 | 4 => 4 | n => n, fun | n => n⟩
theorem Tryz.lays122 : Go.Proofs.Lays.n122 Tryz.prog Tryz.lays122_ren := {
  mixed := by kernel_rfl
  f122 := Tryz.func81.trans (congrArg some (by kernel_rfl))
  f215 := Tryz.func126.trans (congrArg some (by kernel_rfl))
  t3 := Tryz.underlying3
  a3 := Tryz.isAgg3
  z3 := Tryz.sizeOf3
  v3 := Tryz.zeroValue3
  t4 := Tryz.underlying4
  a4 := Tryz.isAgg4
  z4 := Tryz.sizeOf4
  v4 := Tryz.zeroValue4 }
open Go.RowKit in
theorem Tryz.cmp_Compare_int (x y : Int) (w : World) :
 Calls Tryz.prog 81 #[.int .i64 x, .int .i64 y] w fun e w' => e = .returned (.int .i64 (Lib.compareInt x y)) ∧ w' = w := Any.cmp_Compare_int Tryz.lays122 x y w
def Tryz.sortL_ren : Go.Shelf.Ren := ⟨fun | 6 => 37 | 15 => 79 | 14 => 78 | 28 => 124 | 29 => 125 | 20 => 116 | 21 => 117 | 22 => 118 | 23 => 119 | 24 => 120 | 25 => 121 | 26 => 122 | 27 => 123 | 46 => 151 | 47 => 152 | 48 => 153 | 49 => 154 | 50 => 155 | 57 => 169 | n => n, fun | 22 => 24 | 24 => 33 | 25 => 68 | 3 => 3 | 39 => 111 | 0 => 0 | 53 => 154 | 55 => 156 | 4 => 4 | 46 => 147 | 45 => 146 | 50 => 151 | 5 => 5 | 9 => 9 | 66 => 175 | 70 => 179 | 76 => 189 | 77 => 173 | n => n, fun | n => n⟩
theorem Tryz.sortL : Go.Proofs.SlLaysF0.n6 Tryz.prog Tryz.sortL_ren := {
  mixed := by kernel_rfl
  f6 := ⟨Tryz.f37.name, by decide, Tryz.func37.trans (congrArg some (by kernel_rfl))⟩
  f14 := ⟨Tryz.f78.name, by decide, Tryz.func78.trans (congrArg some (by kernel_rfl))⟩
  f15 := Tryz.func79.trans (congrArg some (by kernel_rfl))
  f20 := ⟨Tryz.f116.name, by decide, Tryz.func116.trans (congrArg some (by kernel_rfl))⟩
  f21 := ⟨Tryz.f117.name, by decide, Tryz.func117.trans (congrArg some (by kernel_rfl))⟩
  f22 := ⟨Tryz.f118.name, by decide, Tryz.func118.trans (congrArg some (by kernel_rfl))⟩
  f23 := ⟨Tryz.f119.name, by decide, Tryz.func119.trans (congrArg some (by kernel_rfl))⟩
  f24 := ⟨Tryz.f120.name, by decide, Tryz.func120.trans (congrArg some (by kernel_rfl))⟩
  f25 := ⟨Tryz.f121.name, by decide, Tryz.func121.trans (congrArg some (by kernel_rfl))⟩
  f26 := ⟨Tryz.f122.name, by decide, Tryz.func122.trans (congrArg some (by kernel_rfl))⟩
  f27 := ⟨Tryz.f123.name, by decide, Tryz.func123.trans (congrArg some (by kernel_rfl))⟩
  f28 := Tryz.func124.trans (congrArg some (by kernel_rfl))
  f29 := Tryz.func125.trans (congrArg some (by kernel_rfl))
  f46 := ⟨Tryz.f151.name, by decide, Tryz.func151.trans (congrArg some (by kernel_rfl))⟩
  f47 := Tryz.func152.trans (congrArg some (by kernel_rfl))
  f48 := Tryz.func153.trans (congrArg some (by kernel_rfl))
  f49 := ⟨Tryz.f154.name, by decide, Tryz.func154.trans (congrArg some (by kernel_rfl))⟩
  f50 := ⟨Tryz.f155.name, by decide, Tryz.func155.trans (congrArg some (by kernel_rfl))⟩
  f57 := ⟨Tryz.f169.name, by decide, Tryz.func169.trans (congrArg some (by kernel_rfl))⟩
  t0 := Tryz.underlying0
  a0 := Tryz.isAgg0
  z0 := Tryz.sizeOf0
  v0 := Tryz.zeroValue0
  t3 := Tryz.underlying3
  a3 := Tryz.isAgg3
  z3 := Tryz.sizeOf3
  v3 := Tryz.zeroValue3
  t4 := Tryz.underlying4
  a4 := Tryz.isAgg4
  z4 := Tryz.sizeOf4
  v4 := Tryz.zeroValue4
  t5 := Tryz.underlying5
  a5 := Tryz.isAgg5
  z5 := Tryz.sizeOf5
  v5 := Tryz.zeroValue5
  t9 := Tryz.underlying9
  a9 := Tryz.isAgg9
  z9 := Tryz.sizeOf9
  v9 := Tryz.zeroValue9
  t22 := Tryz.underlying24
  a22 := Tryz.isAgg24
  z22 := Tryz.sizeOf24
  v22 := Tryz.zeroValue24
  t25 := Tryz.underlying68
  a25 := Tryz.isAgg68
  z25 := Tryz.sizeOf68
  v25 := Tryz.zeroValue68
  t39 := Tryz.underlying111
  a39 := Tryz.isAgg111
  z39 := Tryz.sizeOf111
  v39 := Tryz.zeroValue111
  t45 := Tryz.underlying146
  a45 := Tryz.isAgg146
  z45 := Tryz.sizeOf146
  v45 := Tryz.zeroValue146
  t46 := Tryz.underlying147
  a46 := Tryz.isAgg147
  z46 := Tryz.sizeOf147
  v46 := Tryz.zeroValue147
  t50 := Tryz.underlying151
  a50 := Tryz.isAgg151
  z50 := Tryz.sizeOf151
  v50 := Tryz.zeroValue151
  t53 := Tryz.underlying154
  a53 := Tryz.isAgg154
  z53 := Tryz.sizeOf154
  v53 := Tryz.zeroValue154
  t55 := Tryz.underlying156
  a55 := Tryz.isAgg156
  z55 := Tryz.sizeOf156
  v55 := Tryz.zeroValue156
  t66 := Tryz.underlying175
  a66 := Tryz.isAgg175
  z66 := Tryz.sizeOf175
  v66 := Tryz.zeroValue175
  t70 := Tryz.underlying179
  a70 := Tryz.isAgg179
  z70 := Tryz.sizeOf179
  v70 := Tryz.zeroValue179
  t76 := Tryz.underlying189
  a76 := Tryz.isAgg189
  z76 := Tryz.sizeOf189
  v76 := Tryz.zeroValue189
  t77 := Tryz.underlying173
  a77 := Tryz.isAgg173
  z77 := Tryz.sizeOf173
  v77 := Tryz.zeroValue173 }
end Go.Proofs
namespace Go.Proofs.YtjnamoppcklomaaGreat
section
set_option maxRecDepth 200000
set_option maxHeartbeats 16000000
open Go.RowKit Go.Shelf Go.Sort
theorem grow3 (w : World) (a b c : Obj) : (((w.alloc a).alloc b).drew).alloc c = grow (w.drewN 1) #[a, b, c] := by
 rw [alloc_eq_grow, alloc_eq_grow, alloc_eq_grow]
 have e : ∀ (W : World) (os : Array Obj), (grow W os).drew = grow (W.drewN 1) os := fun _ _ => rfl
 rw [grow_grow, e, grow_grow]
 rfl
def orTwo (x y : Int) : Int := if x = 0 then y else x
theorem cmpOr_any (L : Nat) (x y : Int) (w : World) (h : Blk w L #[.int .i64 x, .int .i64 y] 3) :
 Calls Tryz.prog 80 #[.slice (some ⟨L, 0, none⟩) 2 2] w fun e w' => e = .returned (.int .i64 (orTwo x y)) ∧ w' = w := by
 have c0 := h.cell 0
 have c1 := h.cell 1
 simp only [aT, aS, aZ] at c0 c1
 clear h
 by_cases hx : x = 0
 ·
  by_cases hy : y = 0
  ·
   have hx' : (x != 0) = false := by simp [hx]
   have hy' : (y != 0) = false := by simp [hy]
   have HV : Hid (orTwo x y = 0) := by show _ = _; unfold orTwo; rw [if_pos hx, hy]
   clear hx hy
   go_enter Tryz.func80, Tryz.ntmps80
   go_wp2
   refine wp_loop_rounds 3 ?_
   rw [rounds_succ]
   go_wp2
   rw [rounds_succ]
   go_wp2
   rw [rounds_succ]
   go_wp2
   go_ret
   exact ⟨by rw [HV.out]; rfl, rfl⟩
  ·
   have hx' : (x != 0) = false := by simp [hx]
   have hy' : (y != 0) = true := by simpa using hy
   have HV : Hid (orTwo x y = y) := by show _ = _; unfold orTwo; rw [if_pos hx]
   clear hx hy
   go_enter Tryz.func80, Tryz.ntmps80
   go_wp2
   refine wp_loop_rounds 2 ?_
   rw [rounds_succ]
   go_wp2
   rw [rounds_succ]
   go_wp2
   go_ret
   exact ⟨by rw [HV.out]; rfl, rfl⟩
 ·
  have hx' : (x != 0) = true := by simpa using hx
  have HV : Hid (orTwo x y = x) := by show _ = _; unfold orTwo; rw [if_neg hx]
  clear hx
  go_enter Tryz.func80, Tryz.ntmps80
  go_wp2
  refine wp_loop_rounds 1 ?_
  rw [rounds_succ]
  go_wp2
  go_ret
  exact ⟨by rw [HV.out]; rfl, rfl⟩
def cmpP (k1 w1 k2 w2 : Int) : Int := orTwo (Lib.compareInt k1 k2) (Lib.compareInt w1 w2)
theorem cmpP_lt {k1 w1 k2 w2 : Int} : decide (cmpP k1 w1 k2 w2 < 0) = (decide (k1 < k2) || (decide (k1 = k2) && decide (w1 < w2))) := by
 unfold cmpP orTwo Lib.compareInt
 by_cases a : k1 < k2
 ·
  simp [a]
 ·
  by_cases b : k2 < k1
  ·
   have : ¬ k1 = k2 := by omega
   simp [a, b, this]
  ·
   have e : k1 = k2 := by omega
   by_cases c : w1 < w2
   ·
    simp [c, e]
   ·
    by_cases d : w2 < w1 <;> simp [c, d, e]
theorem cmp_any (x y : Int) (w : World) : Calls Tryz.prog 81 #[.int .i64 x, .int .i64 y] w fun e w' => e = .returned (.int .i64 (Lib.compareInt x y)) ∧ w' = w := Tryz.cmp_Compare_int x y w
theorem byPlace_any (xs ys : Array Value) (k1 w1 k2 w2 : Int) (w : World) (x0 : xs[0]? = some (.int .i64 k1)) (x1 : xs[1]? = some (.int .i64 w1)) (y0 : ys[0]? = some (.int .i64 k2)) (y1 : ys[1]? = some (.int .i64 w2)) :
 Calls Tryz.prog 38 #[.agg xs, .agg ys] w fun e w' => e = .returned (.int .i64 (cmpP k1 w1 k2 w2)) ∧ ∃ q os', w' = grow (w.drewN q) os' := by
 have HT : Hid (Blk ((w.alloc (.cells xs 33)).alloc (.cells ys 33)) w.heap.size xs 33 ∧ Blk ((w.alloc (.cells xs 33)).alloc (.cells ys 33)) (w.heap.size + 1) ys 33) := ⟨(Blk.made _ _ _).alloc _, Blk.made_eq (by simp)⟩
 have HC : Hid (xs[0]? = some (.int .i64 k1) ∧ xs[1]? = some (.int .i64 w1) ∧ ys[0]? = some (.int .i64 k2) ∧ ys[1]? = some (.int .i64 w2)) := ⟨x0, x1, y0, y1⟩
 clear x0 x1 y0 y1
 go_enter Tryz.func38, Tryz.ntmps38
 go_wp2_with fail
 obtain ⟨W0, hW0⟩ : ∃ W, W = ((w.alloc (.cells xs 33)).alloc (.cells ys 33)) := ⟨_, rfl⟩
 have HW0 : Hid (W0 = ((w.alloc (.cells xs 33)).alloc (.cells ys 33))) := hW0
 rw [← hW0] at HT ⊢
 clear hW0
 refine wp_region_held (S := fun W => W.cell? ⟨w.heap.size, 0, none⟩ = some (.int .i64 k1) ∧ W.cell? ⟨w.heap.size + 1, 0, none⟩ = some (.int .i64 k2) ∧ W.cell? ⟨w.heap.size, 1, none⟩ = some (.int .i64 w1) ∧ W.cell? ⟨w.heap.size + 1, 1, none⟩ = some (.int .i64 w2)) (by kernel_rfl) ?_
 change wpAnyH _ _ _ _ _ _ _ _ (World.drew _)
 have HS : Hid (W0.drew.cell? ⟨w.heap.size, 0, none⟩ = some (.int .i64 k1) ∧ W0.drew.cell? ⟨w.heap.size + 1, 0, none⟩ = some (.int .i64 k2) ∧ W0.drew.cell? ⟨w.heap.size, 1, none⟩ = some (.int .i64 w1) ∧ W0.drew.cell? ⟨w.heap.size + 1, 1, none⟩ = some (.int .i64 w2)) := ⟨(HT.out.1.drew.cell 0).trans HC.out.1, (HT.out.2.drew.cell 0).trans HC.out.2.2.1, (HT.out.1.drew.cell 1).trans HC.out.2.1, (HT.out.2.drew.cell 1).trans HC.out.2.2.2⟩
 obtain ⟨Y0, hY0⟩ : ∃ Y, Y = W0.drew := ⟨_, rfl⟩
 have HY0 : Hid (Y0 = W0.drew) := hY0
 rw [← hY0] at HS ⊢
 clear hY0
 refine tg 0 (.pointer (some ⟨w.heap.size, 0, none⟩)) (H := ⟨HS.out, ?_⟩)
 refine tk 1 (.int .i64 k1) (H := ⟨(.inl ⟨rfl, fun W hW => by have c := hW.1; go_simp⟩), HS.out, ?_⟩)
 refine tg 2 (.pointer (some ⟨w.heap.size + 1, 0, none⟩)) (H := ⟨HS.out, ?_⟩)
 refine tk 3 (.int .i64 k2) (H := ⟨(.inl ⟨rfl, fun W hW => by have c := hW.2.1; go_simp⟩), HS.out, ?_⟩)
 refine tg 5 (.pointer (some ⟨w.heap.size, 1, none⟩)) (H := ⟨HS.out, ?_⟩)
 refine tk 6 (.int .i64 w1) (H := ⟨(.inl ⟨rfl, fun W hW => by have c := hW.2.2.1; go_simp⟩), HS.out, ?_⟩)
 refine tg 7 (.pointer (some ⟨w.heap.size + 1, 1, none⟩)) (H := ⟨HS.out, ?_⟩)
 refine tk 8 (.int .i64 w2) (H := ⟨(.inl ⟨rfl, fun W hW => by have c := hW.2.2.2; go_simp⟩), HS.out, ?_⟩)
 refine oq 4 (H := fun K hK => ?_)
 refine op_call2 81 _ _ _ Tryz.f81 (fun w' => w' = Y0) (.int .i64 (Lib.compareInt k1 k2)) rfl rfl Tryz.func81 (by kernel_rfl) (by kernel_rfl) (cmp_any k1 k2 Y0) ⟨_, by simp [Act.put]; rfl, ?_⟩
 intro w' hw'
 have hw2' := hw'.symm
 subst hw2'
 clear hw'
 refine hK _ _ ⟨HS.out, ?_⟩
 clear hK
 obtain ⟨p, hp⟩ : ∃ p, p = Lib.compareInt k1 k2 := ⟨_, rfl⟩
 rw [← hp]
 have HP : Hid (p = Lib.compareInt k1 k2) := hp
 clear hp
 refine oq 9 (H := fun K hK => ?_)
 refine op_call2 81 _ _ _ Tryz.f81 (fun w' => w' = Y0) (.int .i64 (Lib.compareInt w1 w2)) rfl rfl Tryz.func81 (by kernel_rfl) (by kernel_rfl) (cmp_any w1 w2 Y0) ⟨_, by simp [Act.put]; rfl, ?_⟩
 intro w' hw'
 have hw2' := hw'.symm
 subst hw2'
 clear hw'
 refine hK _ _ ⟨HS.out, ?_⟩
 clear hK
 obtain ⟨u, hu⟩ : ∃ u, u = Lib.compareInt w1 w2 := ⟨_, rfl⟩
 rw [← hu]
 have HU : Hid (u = Lib.compareInt w1 w2) := hu
 clear hu
 refine oq 10 (H := fun K hK => ?_)
 have HSA : Hid ((Y0.alloc (.cells #[.int .i64 p, .int .i64 u] 3)).cell? ⟨w.heap.size, 0, none⟩ = some (.int .i64 k1) ∧ (Y0.alloc (.cells #[.int .i64 p, .int .i64 u] 3)).cell? ⟨w.heap.size + 1, 0, none⟩ = some (.int .i64 k2) ∧ (Y0.alloc (.cells #[.int .i64 p, .int .i64 u] 3)).cell? ⟨w.heap.size, 1, none⟩ = some (.int .i64 w1) ∧ (Y0.alloc (.cells #[.int .i64 p, .int .i64 u] 3)).cell? ⟨w.heap.size + 1, 1, none⟩ = some (.int .i64 w2)) := by
  have b : Below Y0.heap.size Y0 (Y0.alloc (.cells #[.int .i64 p, .int .i64 u] 3)) := (Below.refl _ _).alloc (Nat.le_refl _) _
  have l0 := World.block_lt_of_cell? _ _ HS.out.1
  have l1 := World.block_lt_of_cell? _ _ HS.out.2.1
  exact ⟨(b.cell (p := ⟨w.heap.size, 0, none⟩) l0).trans HS.out.1, (b.cell (p := ⟨w.heap.size + 1, 0, none⟩) l1).trans HS.out.2.1, (b.cell (p := ⟨w.heap.size, 1, none⟩) l0).trans HS.out.2.2.1, (b.cell (p := ⟨w.heap.size + 1, 1, none⟩) l1).trans HS.out.2.2.2⟩
 refine op_turn (.slice (some ⟨Y0.heap.size, 0, none⟩) 2 2) (Y0.alloc (.cells #[.int .i64 p, .int .i64 u] 3)) rfl (by go_simp) (pk (h := hK _ _ ⟨HSA.out, ?_⟩))
 clear hK
 refine oq 11 (H := fun K hK => ?_)
 refine op_call1 80 _ _ Tryz.f80 (fun v w' => v = .int .i64 (orTwo p u) ∧ w' = (Y0.alloc (.cells #[.int .i64 p, .int .i64 u] 3))) rfl rfl Tryz.func80 (by kernel_rfl) (by kernel_rfl) ((cmpOr_any Y0.heap.size p u _ (Blk.made _ _ _)).mono (by rintro e w' ⟨rfl, rfl⟩; exact ⟨_, rfl, rfl, rfl⟩)) ?_
 rintro _ _ ⟨rfl, rfl⟩
 refine pk (h := hK _ _ ⟨HSA.out, ?_⟩)
 clear hK
 refine tm 12 (.int .i64 (orTwo p u)) (H := ⟨HSA.out, ?_⟩)
 refine wpAnyH_done (by kernel_rfl) ?_ _
 go_wp2
 go_ret
 refine ⟨ret_int (by rw [HP.out, HU.out]; rfl), 1, #[.cells xs 33, .cells ys 33, .cells #[.int .i64 p, .int .i64 u] 3], ?_⟩
 rw [HY0.out, HW0.out]
 exact grow3 w _ _ _
structure EnC where
 cs : Array Value
 size : cs.size = 10
 one : cs.all (·.oneCell') = true
 k : Int
 w : Int
 k0 : cs[0]? = some (.int .i64 k)
 w1 : cs[1]? = some (.int .i64 w)
instance : Inhabited EnC := ⟨⟨#[.int .i64 0, .int .i64 0, .slice none 0 0, .int .i64 0, .int .i64 0, .int .i64 0, .int .i64 0, .slice none 0 0, .slice none 0 0, .slice none 0 0], rfl, by simp [Value.oneCell'], 0, 0, rfl, rfl⟩⟩
def EnC.enc (x : EnC) : List Value := x.cs.toList
def EnC.cf (x y : EnC) : Int := cmpP x.k x.w y.k y.w
theorem EnC.lt (x y : EnC) : ltOf EnC.cf x y = (decide (x.k < y.k) || (decide (x.k = y.k) && decide (x.w < y.w))) := cmpP_lt
theorem EnC.swo : SWO (ltOf EnC.cf) where
 irrefl x := by rw [EnC.lt]; simp
 trans x y z h1 h2 := by rw [EnC.lt] at *; simp at *; omega
 ntrans x y z h1 h2 := by rw [EnC.lt] at *; simp at *; omega
theorem byPlace_lays (blk off size : Nat) (w : World) : CmpLays Tryz.prog 38 #[] EnC.enc 10 EnC.cf blk off size w := fun _ _ _ _ x y => by
 have h := byPlace_any x.cs y.cs x.k x.w y.k y.w
 have e : (#[.agg x.enc.toArray, .agg y.enc.toArray] : Array Value) ++ #[] = #[.agg x.cs, .agg y.cs] := by simp [EnC.enc]
 rw [e]
 exact h _ x.k0 x.w1 y.k0 y.w1
theorem sort_any (blk off cap : Nat) (d : Array EnC) (w : World) (hH : HoldsK EnC.enc 10 w blk off d) (hblk : blk < w.heap.size) (hsz : d.size ≤ 1000) :
 Calls Tryz.prog 37 #[.slice (some ⟨blk, off, none⟩) d.size cap, .func (.func 38) #[] #[]] w fun e w' => e = .returned (.tuple #[]) ∧ ∃ d' n os, PermIn 0 d.size d d' ∧ SortedIn (ltOf EnC.cf) 0 d.size d' ∧ w' = sortWorldK EnC.enc 10 w blk off n d' os := by
 have eg : ∀ args w, (callFunc 38 args).run Tryz.prog w = .ok (.enter 38 args) w := enters_of Tryz.func38 (by kernel_rfl) rfl
 exact AnyQ.slices_SortFunc Tryz.sortL 10 Tryz.isAgg33 Tryz.sizeOf33 EnC.enc (fun x => by show x.cs.toList.length = 10; rw [Array.length_toList]; exact x.size) (fun x v hv => by have := x.one; rw [Array.all_eq_true'] at this; exact this v (by simpa [EnC.enc] using hv)) EnC.cf EnC.swo 38 #[] blk off cap d w eg (byPlace_lays blk off d.size w) hH hblk (by omega)
theorem sort_none (p : Option Addr) (cap : Nat) (fv : Value) (w : World) :
 Calls Tryz.prog 37 #[.slice p 0 cap, fv] w fun e w' => e = .returned (.tuple #[]) ∧ w' = w := AnyF.slices_SortFunc_none { Tryz.sortL with } p cap fv w
end
section
open Go.RowKit
theorem perm_lift {α β : Type} (f : α → β) : ∀ {bs cs : List β}, bs.Perm cs → ∀ (zs : List α), zs.map f = bs → ∃ zs2 : List α, zs2.map f = cs ∧ zs.Perm zs2 := by
 intro bs cs h
 induction h with
 | nil => intro zs e; exact ⟨zs, e, List.Perm.refl _⟩
 | cons x _ ih =>
  intro zs e
  cases zs with
  | nil => simp at e
  | cons a zs =>
   rw [List.map_cons] at e
   injection e with e1 e2
   obtain ⟨zs2, q1, q2⟩ := ih zs e2
   exact ⟨a :: zs2, by rw [List.map_cons, e1, q1], q2.cons a⟩
 | swap x y l =>
  intro zs e
  cases zs with
  | nil => simp at e
  | cons a zs =>
   cases zs with
   | nil => simp at e
   | cons b zs =>
    simp only [List.map_cons] at e
    injection e with e1 e2
    injection e2 with e2 e3
    exact ⟨b :: a :: zs, by simp only [List.map_cons, e1, e2, e3], List.Perm.swap b a zs⟩
 | trans _ _ ih1 ih2 =>
  intro zs e
  obtain ⟨zz1, q1, q2⟩ := ih1 zs e
  obtain ⟨zz2, r1, r2⟩ := ih2 zz1 q1
  exact ⟨zz2, r1, q2.trans r2⟩
section
variable {α : Type} {K : ElK α} {w : World}
end
end
section
set_option maxRecDepth 200000
set_option maxHeartbeats 16000000
open Go.RowKit Go.Shelf Go.Sort
structure EnT where
 x : En
 e : EnC
 G : List Nat
def EnTs (w : World) (T : List EnT) : Prop := ∀ t ∈ T, RdE w (.agg t.e.cs) t.x t.G ∧ t.e.k = t.x.key ∧ t.e.w = t.x.window
theorem enT_open {w : World} : ∀ {xs : List En} {vs : List Value} {F : List Nat}, RdC enK w xs vs F → (∀ u ∈ vs, u.oneCell' = true) → ∃ T : List EnT, EnTs w T ∧ T.map (·.x) = xs ∧ (T.map (fun t => t.e.enc)).flatten = vs ∧ (T.map (·.G)).flatten = F
 | [], vs, F, h, _ => by
  obtain ⟨rfl, rfl⟩ := h
  exact ⟨[], (fun t ht => by cases ht), rfl, rfl, rfl⟩
 | x :: xs, vs, F, h, h1 => by
  obtain ⟨cs, vs', F1, F2, rfl, h2, h3, h4, rfl⟩ := h
  obtain ⟨T, q1, q2, q3, q4⟩ := enT_open h4 (fun u hu => h1 u (List.mem_append_right _ hu))
  have h3' : RdE w (.agg cs) x F1 := h3
  have c01 : cs[0]? = some (.int .i64 x.key) ∧ cs[1]? = some (.int .i64 x.window) := by
   obtain ⟨G1, G2, rfl, b, l, c, a1, n1, c1, a2, n2, c2, a3, n3, c3, hv, _⟩ := h3'
   injection hv with hv
   subst hv
   exact ⟨rfl, rfl⟩
  refine ⟨⟨x, ⟨cs, h2, by rw [Array.all_eq_true']; exact fun u hu => h1 u (List.mem_append_left _ (by simpa using hu)), x.key, x.window, c01.1, c01.2⟩, F1⟩ :: T, fun t ht => ?_, by simp [q2], by rw [List.map_cons, List.flatten_cons, q3]; rfl, by simp [q4]⟩
  rcases List.mem_cons.1 ht with rfl | ht
  ·
   exact ⟨h3, rfl, rfl⟩
  ·
   exact q1 t ht
theorem enT_shut {w : World} : ∀ {T : List EnT}, EnTs w T → RdC enK w (T.map (·.x)) (T.map (fun t => t.e.enc)).flatten (T.map (·.G)).flatten
 | [], _ => ⟨rfl, rfl⟩
 | t :: _, h => ⟨t.e.cs, _, t.G, _, rfl, t.e.size, (h t List.mem_cons_self).1, enT_shut (fun s hs => h s (List.mem_cons_of_mem _ hs)), rfl⟩
theorem flat_get : ∀ (es : List EnC) (j : Nat), j < es.length * 10 → ((es.map EnC.enc).flatten)[j]? = some ((es[j / 10]!).enc[j % 10]!)
 | [], j, h => by simp at h
 | e :: es, j, h => by
  have he : e.enc.length = 10 := by unfold EnC.enc; rw [Array.length_toList]; exact e.size
  rw [List.map_cons, List.flatten_cons]
  by_cases h10 : j < 10
  ·
   rw [List.getElem?_append_left (by omega)]
   have a : j / 10 = 0 := by omega
   have b : j % 10 = j := by omega
   rw [a, b]
   show _ = some (e.enc[j]!)
   rw [List.getElem?_eq_getElem (by omega), List.getElem!_eq_getElem?_getD, List.getElem?_eq_getElem (by omega)]; rfl
  ·
   rw [List.getElem?_append_right (by omega), he]
   have := flat_get es (j - 10) (by simp at h; omega)
   rw [this]
   have a : j / 10 = (j - 10) / 10 + 1 := by omega
   have b : j % 10 = (j - 10) % 10 := by omega
   rw [a, b]
   rfl
theorem holds_of {w : World} {g : Nat} {es : List EnC} {vs : List Value} (hv : (es.map EnC.enc).flatten = vs) (hc : ∀ j, j < es.length * 10 → w.cell? ⟨g, j, none⟩ = vs[j]?) (hf : ∀ j, w.frozen? ⟨g, j, none⟩ = false) : HoldsK EnC.enc 10 w g 0 es.toArray := by
 intro j hj
 rw [size_flatK] at hj
 have hj' : j < es.length * 10 := by simpa using hj
 rw [get_flatK _ _ _ _ hj, Nat.zero_add]
 refine ⟨?_, hf j⟩
 rw [hc j hj', ← hv, flat_get es j hj']
 simp
theorem enCells_of {w : World} {g : Nat} {d : Array EnC} (h : HoldsK EnC.enc 10 w g 0 d) : ∀ j, j < d.size * 10 → w.cell? ⟨g, j, none⟩ = ((d.toList.map EnC.enc).flatten)[j]? := by
 intro j hj
 have := (h j (by rw [size_flatK]; exact hj)).1
 rw [get_flatK _ _ _ _ hj, Nat.zero_add] at this
 rw [this, flat_get d.toList j (by simpa using hj)]
 have e : d[j / 10]! = d.toList[j / 10]! := by
  rw [getElem!_def, List.getElem!_eq_getElem?_getD, Array.getElem?_toList]
  cases d[j / 10]? <;> rfl
 rw [e]; rfl
theorem sort_grown {w : World} {g n : Nat} {d : Array EnC} {os : Array Obj} : w.grownBy (sortWorldK EnC.enc 10 w g 0 n d os) (some g) := by
 unfold sortWorldK putRowK
 refine ⟨rfl, rfl, rfl, by simp, fun k hk hne => ?_⟩
 rw [heap_grow_old _ _ (by simpa using hk)]
 have : g ≠ k := fun e => hne (by rw [e])
 simp [putRow, mapBlock, Sort.ahead, Array.getElem?_modify, this]
theorem sorted_any (w w1 : World) (P M : List En) (v : Value) (H : List Nat) (h : Shal w P v H w1) (hp : 0 < P.length) (hl : P.length ≤ 1000) (hperm : P.Perm M) (ha : Asc M) (hH : ∀ g cap, v = .slice (some ⟨g, 0, none⟩) P.length cap → g ∉ H) :
 Calls Tryz.prog 37 #[v, .func (.func 38) #[] #[]] w1 fun e w2 => e = .returned (.tuple #[]) ∧ (∃ F, RdRw w2 (.agg #[v]) ⟨M⟩ F) ∧ Below w.heap.size w w2 ∧ ∀ Q, Q < w1.heap.size → (∀ g n c, v = .slice (some ⟨g, 0, none⟩) n c → Q ≠ g) → Agree w1 w2 [Q] := by
 obtain ⟨g, cap, rfl, hcap, _, hge, hgl, hfr⟩ := h.row hp
 have hgH := hH g cap rfl
 obtain ⟨vs, ho, hr, h1, hb⟩ := h
 obtain ⟨T, q1, q2, q3, q4⟩ := enT_open hr h1
 have hTl : T.length = P.length := by rw [← q2]; simp
 obtain ⟨es, hes⟩ : ∃ es, es = T.map (·.e) := ⟨_, rfl⟩
 have hel : es.length = P.length := by rw [hes]; simpa using hTl
 have hv : (es.map EnC.enc).flatten = vs := by rw [← q3, hes, List.map_map]; rfl
 have hh : HoldsK EnC.enc 10 w1 g 0 es.toArray := holds_of hv (fun j hj => ho.cellAt j (by omega)) (fun j => ho.frozenAt j)
 have hs := sort_any g 0 cap es.toArray w1 hh hgl (by simp; omega)
 have hsz : es.toArray.size = P.length := by simpa using hel
 rw [hsz] at hs
 refine hs.mono ?_
 rintro e w2 ⟨rfl, d', n, os, ⟨p1, p2, p3⟩, so, rfl⟩
 refine ⟨rfl, ?_⟩
 have hds : d'.size = P.length := by rw [p1, hsz]
 have pp : es.Perm d'.toList := by
  have e1 : (es.toArray.extract 0 P.length).toList = es := by rw [Array.extract_eq_self_of_le (by omega)] <;> simp
  have e2 : (d'.extract 0 P.length).toList = d'.toList := by rw [Array.extract_eq_self_of_le (by omega)]
  rw [e1, e2] at p3
  exact p3.symm
 obtain ⟨T', t1, t2⟩ := perm_lift (fun t : EnT => t.e) pp T hes.symm
 have hT' : EnTs w1 T' := fun t ht => q1 t (t2.mem_iff.2 ht)
 have hasc : Asc (T'.map (·.x)) := by
  have hd : Dist (T'.map (·.x)) := ha.dist.perm (hperm.symm.trans (by rw [← q2]; exact t2.map _))
  refine List.pairwise_iff_getElem.2 fun i j hi hj hij => ?_
  have hd2 := List.pairwise_iff_getElem.1 hd i j hi hj hij
  have hi' : i < T'.length := by simpa using hi
  have hj' : j < T'.length := by simpa using hj
  have hTd : T'.length = P.length := by rw [← t2.length_eq]; exact hTl
  have sj := so i j (Nat.zero_le _) hij (by omega)
  have gi : d'[i]! = T'[i].e := by
   have : d'.toList[i]? = some T'[i].e := by rw [← t1, List.getElem?_map, List.getElem?_eq_getElem hi']; rfl
   rw [getElem!_def, ← Array.getElem?_toList, this]
  have gj : d'[j]! = T'[j].e := by
   have : d'.toList[j]? = some T'[j].e := by rw [← t1, List.getElem?_map, List.getElem?_eq_getElem hj']; rfl
   rw [getElem!_def, ← Array.getElem?_toList, this]
  rw [gi, gj, EnC.lt] at sj
  obtain ⟨_, k1, k2⟩ := hT' T'[i] (List.getElem_mem _)
  obtain ⟨_, k3, k4⟩ := hT' T'[j] (List.getElem_mem _)
  simp only [List.getElem_map] at hd2 ⊢
  refine placeLt_total hd2 ?_
  unfold placeLt
  rw [← k1, ← k2, ← k3, ← k4]
  rw [← sj]
  by_cases q : T'[j].e.k = T'[i].e.k <;> simp [q]
 have hM : T'.map (·.x) = M := asc_unique hasc ha ((t2.map _).symm.trans (by rw [q2]; exact hperm))
 have gr : w1.grownBy (sortWorldK EnC.enc 10 w1 g 0 n d' os) (some g) := sort_grown
 have rdc := enT_shut hT'
 have hF' : ∀ b ∈ (T'.map (·.G)).flatten, b ∈ H := fun b hb => by
  rw [← q4]; exact ((t2.map _).flatten).mem_iff.2 hb
 have ag : Agree w1 (sortWorldK EnC.enc 10 w1 g 0 n d' os) (T'.map (·.G)).flatten := fun b hb => gr.block b (rdc.lt b hb) (fun e => by simp at e; subst e; exact hgH (hF' _ hb))
 have rd2 := rdc.agree ag
 rw [hM] at rd2
 have hml : M.length = P.length := hperm.length_eq.symm
 have hcells := enCells_of (SWK.holds (dk := d') ⟨n, os, rfl⟩ hgl hh (by rw [hds, hsz]))
 refine ⟨⟨g :: (T'.map (·.G)).flatten, ⟨some ⟨g, 0, none⟩, P.length, cap, rfl, ⟨hml, .inr ⟨g, 0, _, hp, rfl, rfl, rdEls_of 0 rd2 (fun i hi => ?_)⟩⟩, ⟨fun e => (by cases e), hcap⟩⟩⟩, ⟨gr.os.trans hb.os, gr.tape.trans hb.tape, gr.output.trans hb.output, Nat.le_trans hb.size gr.size, fun b hb' => (gr.block b (by have := hb.size; omega) (fun e => by simp at e; omega)).trans (hb.block b hb')⟩, fun Q hq hn b hb' => by
   rw [List.mem_singleton] at hb'
   subst hb'
   exact gr.block _ hq (fun e => by simp at e; exact hn g _ _ rfl e)⟩
 have hfl : (T'.map (fun t => t.e.enc)).flatten = (d'.toList.map EnC.enc).flatten := by rw [← t1, List.map_map]; rfl
 have hlen : ((d'.toList.map EnC.enc).flatten).length = d'.size * 10 := by
  have : ∀ L : List EnC, ((L.map EnC.enc).flatten).length = L.length * 10 := by
   intro L
   induction L with
   | nil => rfl
   | cons a L ih => rw [List.map_cons, List.flatten_cons, List.length_append, ih]; unfold EnC.enc; rw [Array.length_toList, a.size, List.length_cons]; omega
  rw [this]; simp
 rw [hfl] at hi ⊢
 rw [Nat.zero_add]
 exact hcells i (by rw [← hlen]; exact hi)
end
section
set_option maxRecDepth 200000
set_option maxHeartbeats 16000000
open Go.RowKit
theorem infoQI : (Tryz.prog.info? 60).map (·.size) = some 1 := by kernel_rfl
theorem each_grow (v : Value) (x : Rw) (F0 : List Nat) (w : World) (h : RdRw w v x F0) (hf : ∀ y ∈ x.list, y.fits) (hlen : x.list.length ≤ 2097152) :
 Calls Tryz.prog 39 #[v, .func (.func 40) #[] #[]] w fun e w' => NewRwG w x.list e w' := by
 obtain ⟨j0, hj, hy0, hy1, hy2⟩ := info_parts infoEnG
 obtain ⟨a, n, c, rfl, hL, hcp⟩ := h
 have hn1 : n ≤ 2097152 := by rw [← hL.length]; exact hlen
 have HL : Hid (RdL enK w a n x.list F0 ∧ (∀ y ∈ x.list, y.fits) ∧ x.list.length = n) := ⟨hL, hf, hL.length⟩
 clear hL hf hcp hlen
 have HT0 : Hid (_ ∧ _ ∧ _) := two_made w #[.slice a n c] #[.slice none 0 0] 60 60
 go_enter Tryz.func39, Tryz.ntmps39
 go_wp2
 go_loopw [5, 11] (fun q i wr => ∃ (k : Nat) (v : Value) (vs : List Value) (GG : List Nat), k ≤ n ∧ i = .int .i64 k ∧ v = q ∧ Hid (CpRw w #[.slice a n c] 60 x.list (w.heap.size + 2) k v vs GG wr)) (fun _ i _ => n - (intOf i).toNat)
 case atStart => exact ⟨0, .slice none 0 0, [], [], by omega, rfl, rfl, ⟨HT0.out.1, HT0.out.2.1, HT0.out.2.2, GrowL.start (by simp), Nat.le_refl _⟩⟩
 case round =>
  clear HT0
  obtain ⟨k, v, vs, GG, hk, rfl, rfl, CSS⟩ := hrel
  by_cases hlt : k < n
  ·
   have hI : (k : Int) < (n : Int) := by omega
   obtain ⟨b, off, y, cs, Fi, rfl, hbw, hy, hcs, hcc, hr⟩ := ens_at HL.out.1 hlt
   have HY : Hid (x.list[k]? = some y ∧ y.fits ∧ cs.size = 10 ∧ RdE w (.agg cs) y Fi ∧ cs.all (·.oneCell') = true) := ⟨hy, HL.out.2.1 y (List.mem_of_getElem? hy), hcs, hr, by
     obtain ⟨cs', e, _, h1⟩ := RdE.cells hr
     injection e with e
     rw [e]
     exact h1⟩
   have HC : Hid (∀ j, j < 10 → wr.cell? ⟨b, off + k * 10 + j, none⟩ = cs[j]?) := fun j hj => by
    have q : wr.cell? ⟨b, off + k * 10 + j, none⟩ = w.cell? ⟨b, off + k * 10 + j, none⟩ := CSS.out.bel.cell (p := ⟨b, off + k * 10 + j, none⟩) hbw
    exact q.trans (hcc j hj)
   clear hbw hcs hcc hr hy
   go_wp2_with (first | go_skip | (with_reducible refine stopLoad 33 rfl ?_))
   refine load_at 33 b (off + k * 10) 10 cs _ HC.out HY.out.2.2.1 rfl rfl rfl Tryz.underlying33 rfl infoEnG2 ?_
   go_wp2_with (first | go_skip | (with_reducible refine stopStore 33 rfl ?_))
   refine store_fresh 33 wr.heap.size rfl #[.int .i64 0, .int .i64 0, .slice none 0 0, .int .i64 0, .int .i64 0, .int .i64 0, .int .i64 0, .slice none 0 0, .slice none 0 0, .slice none 0 0] cs 33 rfl rfl rfl rfl (by rw [HY.out.2.2.1]; exact infoEnG2) (by rw [HY.out.2.2.1]; rfl) HY.out.2.2.2.2 ?_
   intro w2 hg2 hb2
   have CS2 : Hid (CpRw w #[.slice (some ⟨b, off, none⟩) n c] 60 x.list (w.heap.size + 2) k v vs GG w2 ∧ Blk w2 wr.heap.size cs 33) := ⟨CSS.out.below hb2, hg2⟩
   obtain ⟨X, hX⟩ : ∃ X, X = wr.heap.size := ⟨_, rfl⟩
   rw [← hX] at CS2 ⊢
   clear hg2 hb2 CSS HC hX
   go_wp2_with (first | go_skip | (with_reducible refine stopLoad 33 rfl ?_))
   refine load_known 33 X cs 33 _ CS2.out.2 rfl rfl rfl Tryz.underlying33 rfl (by rw [HY.out.2.2.1]; exact infoEnG2) ?_
   go_wp2_with fail
   refine (copiedEntry_any _ y Fi _ (HY.out.2.2.2.1.below CS2.out.1.bel) HY.out.2.1).mono ?_
   rintro e w3 ⟨v3, F3, rfl, r3, o3, hb3⟩
   have r3' := r3
   obtain ⟨H1, H2, _, b0, l0, c0, b1, m1, d1, b2, m2, d2, b3, m3, d3, rfl, _⟩ := r3
   have CS3 : Hid (CpRw w #[.slice (some ⟨b, off, none⟩) n c] 60 x.list (w.heap.size + 2) k v vs GG w3) := CS2.out.1.below hb3
   have HK : Hid (RdE w3 (.agg #[.int .i64 y.key, .int .i64 y.window, .slice b0 l0 c0, .int .i64 y.sk.count, .int .i64 y.sk.sum, .int .i64 y.sk.min, .int .i64 y.sk.max, .slice b1 m1 d1, .slice b2 m2 d2, .slice b3 m3 d3]) y F3 ∧ Own w2.heap.size w3 F3 ∧ (∀ b ∈ GG, b < w2.heap.size) ∧ (∀ b, v.ownBlock = some b → b < w2.heap.size) ∧ w.heap.size + 2 ≤ w2.heap.size) := ⟨r3', o3, CS2.out.1.grow.lts⟩
   clear r3' o3 hb3 CS2
   go_wp2_with (with_reducible refine stopAppend rfl ?_)
   obtain ⟨W6, hW6⟩ : ∃ W, W = w3.alloc (.cells #[.int .i64 y.key, .int .i64 y.window, .slice b0 l0 c0, .int .i64 y.sk.count, .int .i64 y.sk.sum, .int .i64 y.sk.min, .int .i64 y.sk.max, .slice b1 m1 d1, .slice b2 m2 d2, .slice b3 m3 d3] 33) := ⟨_, rfl⟩
   have hbn : Below w3.heap.size w3 W6 := by rw [hW6]; exact (Below.refl _ _).alloc (Nat.le_refl _) _
   have HCN : Hid (∀ (j : Nat) (u : Value), [.int .i64 y.key, .int .i64 y.window, .slice b0 l0 c0, .int .i64 y.sk.count, .int .i64 y.sk.sum, .int .i64 y.sk.min, .int .i64 y.sk.max, .slice b1 m1 d1, .slice b2 m2 d2, .slice b3 m3 d3][j]? = some u → W6.cell? ((⟨w3.heap.size, 0, none⟩ : Addr).add j) = some u) := by rw [hW6]; exact news_lit w3 #[.int .i64 y.key, .int .i64 y.window, .slice b0 l0 c0, .int .i64 y.sk.count, .int .i64 y.sk.sum, .int .i64 y.sk.min, .int .i64 y.sk.max, .slice b1 m1 d1, .slice b2 m2 d2, .slice b3 m3 d3] 33
   have CS6 : Hid (CpRw w #[.slice (some ⟨b, off, none⟩) n c] 60 x.list (w.heap.size + 2) k v vs GG W6) := CS3.out.below hbn
   have HK6 : Hid (RdE W6 (.agg #[.int .i64 y.key, .int .i64 y.window, .slice b0 l0 c0, .int .i64 y.sk.count, .int .i64 y.sk.sum, .int .i64 y.sk.min, .int .i64 y.sk.max, .slice b1 m1 d1, .slice b2 m2 d2, .slice b3 m3 d3]) y F3 ∧ Own w2.heap.size W6 F3) := ⟨HK.out.1.below hbn, HK.out.2.1.below HK.out.1.lt hbn⟩
   rw [← hW6]
   clear hW6 hbn CS3
   refine Stop.intro (wpList_append_lies _ rfl _ _ 24 rfl (w.heap.size + 2) 33 j0 (.agg #[.int .i64 0, .int .i64 0, .slice none 0 0, .int .i64 0, .int .i64 0, .int .i64 0, .int .i64 0, .slice none 0 0, .slice none 0 0, .slice none 0 0]) 10 144 Tryz.underlying24 hj hy0 hy1 hy2 rfl (by decide) v k vs rfl CS6.out.grow.row ⟨w3.heap.size, 0, none⟩ 1 1 [.int .i64 y.key, .int .i64 y.window, .slice b0 l0 c0, .int .i64 y.sk.count, .int .i64 y.sk.sum, .int .i64 y.sk.min, .int .i64 y.sk.max, .slice b1 m1 d1, .slice b2 m2 d2, .slice b3 m3 d3] rfl rfl HCN.out (by simp [Value.oneCell']) (by omega) (by unfold maxLen; omega) (by omega) CS6.out.grow.lw _ rfl ?_)
   intro g4 cp4 W7 hown hgrow hat hlt7
   have CS7 : Hid (CpRw w #[.slice (some ⟨b, off, none⟩) n c] 60 x.list (w.heap.size + 2) (k + 1) (.slice (some ⟨g4, 0, none⟩) (k + 1) cp4) (vs ++ [.int .i64 y.key, .int .i64 y.window, .slice b0 l0 c0, .int .i64 y.sk.count, .int .i64 y.sk.sum, .int .i64 y.sk.min, .int .i64 y.sk.max, .slice b1 m1 d1, .slice b2 m2 d2, .slice b3 m3 d3]) (GG ++ F3) W7) := CS6.out.step hgrow (CS6.out.grow.step HY.out.1 HK6.out.1 rfl HK6.out.2 HK.out.2.2.1 HK.out.2.2.2.1 HK.out.2.2.2.2 hown hgrow hat)
   clear hown hgrow hat hlt7 CS6 HK6 HK HCN
   go_wp2
   go_roundw
   case rel => exact ⟨k + 1, _, _, _, by omega, by go_num, rfl, CS7⟩
   case measure => simp [intOf]; omega
  ·
   obtain rfl : k = n := by omega
   obtain ⟨q1, d1, F1, rfl, rL, oL, hcp⟩ := CSS.out.grow.done HL.out.2.2
   have HE : Hid (Blk wr (w.heap.size + 1) #[.slice none 0 0] 60 ∧ RdL enK wr q1 k x.list F1 ∧ Own (w.heap.size + 2) wr F1 ∧ Capd q1 k d1 ∧ Below w.heap.size w wr ∧ GrowL enK 33 x.list (w.heap.size + 2) k (.slice q1 k d1) vs GG wr) := ⟨CSS.out.res, rL, oL, hcp, CSS.out.bel, CSS.out.grow⟩
   clear rL oL hcp CSS
   have hI : ¬ (k : Int) < (k : Int) := by omega
   go_wp2_with (first | go_skip | (with_reducible refine stopStore 60 rfl ?_))
   refine store_known 60 (w.heap.size + 1) _ #[.slice q1 k d1] 60 HE.out.1 rfl rfl rfl rfl infoQI rfl (by simp [Value.oneCell']) ?_
   go_wp2
   refine bodyPost_ret (results_cell_row Tryz.results39 _ _ (w.heap.size + 1) _ _ (0, 0) _ rfl HE.out.1.setRow Tryz.underlying60 rfl infoQI) rfl ?_
   have nr : w.heap.size + 1 ∉ F1 := fun hx => by have := HE.out.2.2.1.ge _ hx; omega
   have hk' := HL.out.2.2
   subst hk'
   exact ⟨q1, d1, F1, w.heap.size + 2, vs, GG, rfl, HE.out.2.1.agree (Agree.row nr _), HE.out.2.2.2.1, (HE.out.2.2.1.agree (Agree.row nr _)).mono (by omega), below_setRow HE.out.2.2.2.2.1 (by omega) _, HE.out.2.2.2.2.2.setRow (by omega), by omega⟩
theorem copiedRow_grow (v : Value) (x : Rw) (F0 : List Nat) (w : World) (h : RdRw w v x F0) (hf : ∀ y ∈ x.list, y.fits) (hlen : x.list.length ≤ 2097152) :
 Calls Tryz.prog 29 #[v] w fun e w' => NewRwG w x.list e w' := by
 have HH : Hid (RdRw w v x F0 ∧ (∀ y ∈ x.list, y.fits) ∧ x.list.length ≤ 2097152) := ⟨h, hf, hlen⟩
 obtain ⟨a, n, c, rfl, hL, hcp⟩ := h
 have HT0 : Hid (_ ∧ _ ∧ _) := two_made w #[.slice a n c] #[.slice none 0 0] 26 26
 clear hL hf hcp hlen
 go_enter Tryz.func29, Tryz.ntmps29
 go_wp2_with (first | go_skip | (with_reducible refine stopLoad 26 rfl ?_))
 refine load_any 26 w.heap.size #[.slice a n c] 26 _ HT0.out.1 rfl rfl rfl Tryz.underlying26 rfl (rwSize rfl) ?_
 go_wp2_with fail
 refine (each_grow _ x F0 _ (HH.out.1.below HT0.out.2.2) HH.out.2.1 HH.out.2.2).mono ?_
 rintro e w2 ⟨q1, d1, F1, lo, vs, GG, rfl, r1, cp1, o1, hb, g1, hlo⟩
 have HZ : Hid (w.heap.size + 2 ≤ lo) := by have := HT0.out.2.1.lt; show _ ≤ _; omega
 have HE : Hid (Blk w2 (w.heap.size + 1) #[.slice none 0 0] 26 ∧ RdL enK w2 q1 x.list.length x.list F1 ∧ Own (w.heap.size + 2) w2 F1 ∧ Capd q1 x.list.length d1 ∧ Below w.heap.size w w2 ∧ GrowL enK 33 x.list lo x.list.length (.slice q1 x.list.length d1) vs GG w2) := ⟨HT0.out.2.1.below hb, r1, o1.mono HT0.out.2.1.lt, cp1, Below.next HT0.out.2.2 hb, g1⟩
 clear r1 cp1 o1 hb g1 hlo HH HT0
 go_wp2_with (first | go_skip | (with_reducible refine stopStore 26 rfl ?_))
 refine store_known 26 (w.heap.size + 1) _ #[.slice q1 x.list.length d1] 26 HE.out.1 rfl rfl rfl rfl infoRwI rfl (by simp [Value.oneCell']) ?_
 go_wp2
 refine bodyPost_ret (results_cell_row Tryz.results29 _ _ (w.heap.size + 1) _ _ (0, 0) _ rfl HE.out.1.setRow Tryz.underlying26 rfl infoRwI) rfl ?_
 have nr : w.heap.size + 1 ∉ F1 := fun hx => by have := HE.out.2.2.1.ge _ hx; omega
 exact ⟨q1, d1, F1, lo, vs, GG, rfl, HE.out.2.1.agree (Agree.row nr _), HE.out.2.2.2.1, (HE.out.2.2.1.agree (Agree.row nr _)).mono (by omega), below_setRow HE.out.2.2.2.2.1 (by omega) _, HE.out.2.2.2.2.2.setRow (by have := HZ.out; omega), by have := HZ.out; omega⟩
end
section
set_option maxRecDepth 200000
set_option maxHeartbeats 16000000
open Go.RowKit
def slLen : Value → Nat
 | .slice _ n _ => n
 | _ => 0
structure ARd (w : World) (a : Option Addr) (l c : Nat) (xs : Sp) : Prop where
 rd : ∃ F, RdP w a l xs F
 cap : l ≤ c
 ok : okFrom 0 xs
theorem ARd.length {w : World} {a : Option Addr} {l c : Nat} {xs : Sp} (h : ARd w a l c xs) : xs.length = l := by
 obtain ⟨F, h⟩ := h.rd
 exact h.length
theorem okFrom_drop1 {xs : Sp} (h : okFrom 0 xs) (k : Nat) : okFrom 0 (xs.drop k) := by
 have h' := h
 rw [← List.take_append_drop k xs, okFrom_append] at h'
 have e : 0 ≤ endOf 0 (xs.take k) := by
  have : ∀ (ys : Sp) (l : Int), 0 ≤ l → okFrom l ys → 0 ≤ endOf l ys := by
   intro ys
   induction ys with
   | nil => intro l h _; exact h
   | cons p ys ih => intro l hl h; exact ih _ (by have := h.1; omega) h.2
  exact this _ _ (Int.le_refl _) h'.1
 exact okFrom_mono h'.2 e
theorem ARd.cells {w : World} {a : Option Addr} {l c : Nat} {xs : Sp} (h : ARd w a l c xs) (hl : 0 < l) : ∃ b off, a = some ⟨b, off, none⟩ ∧ w.cell? ⟨b, off, none⟩ = some (.int .i64 (xs.at 0).1) ∧ w.cell? ⟨b, off + 1, none⟩ = some (.int .i64 (xs.at 0).2) := by
 obtain ⟨F, h⟩ := h.rd
 rcases cells_of h with h0 | ⟨b, off, e, _, hc⟩
 ·
  omega
 ·
  have := hc 0 hl
  exact ⟨b, off, e, by simpa using this.1, by simpa using this.2⟩
theorem ARd.last {w : World} {a : Option Addr} {l : Nat} {xs : Sp} (h : ARd w a l 1 xs) (hl : 0 < l) : ARd w a (l - 1) 0 (xs.drop 1) := by
 have e := h.length
 have c := h.cap
 refine ⟨⟨[], ?_⟩, by omega, okFrom_drop1 h.ok 1⟩
 rw [List.drop_eq_nil_of_le (by omega), show l - 1 = 0 by omega]
 exact RdP.nil
theorem ARd.step {w : World} {b off : Nat} {l c : Nat} {xs : Sp} (h : ARd w (some ⟨b, off, none⟩) l c xs) (hl : 0 < l) : ARd w (some ⟨b, off + 2, none⟩) (l - 1) (c - 1) (xs.drop 1) := by
 have e := h.length
 have c := h.cap
 obtain ⟨F, hr⟩ := h.rd
 by_cases h1 : l = 1
 ·
  refine ⟨⟨[], ?_⟩, by omega, okFrom_drop1 h.ok 1⟩
  rw [List.drop_eq_nil_of_le (by omega), show l - 1 = 0 by omega]
  exact RdP.nil
 ·
  exact ⟨⟨F, by simpa using hr.drop (k := 1) (by omega)⟩, by omega, okFrom_drop1 h.ok 1⟩
theorem head_drop {xs : Sp} (h : 0 < xs.length) : xs = xs.at 0 :: xs.drop 1 := by simpa using drop_at (ps := xs) (k := 0) h
theorem meet_false {as' bs : Sp} (_ : okFrom 0 as') (hb : okFrom 0 bs) (la : 0 < as'.length) (lb : 0 < bs.length) (h1 : (as'.at 0).1 ≤ (bs.at 0).1) (h2 : (bs.at 0).1 ≤ (as'.at 0).2) : noMeet as' bs = false := by
 rw [head_drop la, head_drop lb]
 exact noMeet_hit h1 h2 (okFrom_at hb lb).2.1
theorem meet_step {as' bs : Sp} (hb : okFrom 0 bs) (la : 0 < as'.length) (lb : 0 < bs.length) (h2 : (as'.at 0).2 < (bs.at 0).1) : noMeet (as'.drop 1) bs = noMeet as' bs := by
 have e := head_drop lb
 have hb' := hb
 rw [e] at hb'
 conv => rhs; rw [head_drop la, e]
 rw [noMeet_drop hb' h2, ← e]
theorem noneInBoth_any (a b : Option Addr) (la lb ca cb : Nat) (ps qs : Sp) (w : World) (h : ARd w a la ca ps) (k : ARd w b lb cb qs) (hlen : la + lb ≤ 4194304) :
 Calls Tryz.prog 131 #[.slice a la ca, .slice b lb cb] w fun e w' => e = .returned (.bool (noMeet ps qs)) ∧ QuietTo w w' := by
 have HP0 : Hid (ARd w a la ca ps ∧ ARd w b lb cb qs) := ⟨h, k⟩
 clear h k
 go_enter Tryz.func131, Tryz.ntmps131
 go_wp2
 go_loopw [0, 1] (fun av bv wr => ∃ (as' bs : Sp) (aa bb : Option Addr) (l1 c1 l2 c2 : Nat), av = .slice aa l1 c1 ∧ bv = .slice bb l2 c2 ∧ l1 + l2 ≤ 4194304 ∧ Hid (ARd w aa l1 c1 as' ∧ ARd w bb l2 c2 bs) ∧ Hid (noMeet as' bs = noMeet ps qs) ∧ Hid (QuietTo w wr)) (fun av bv _ => slLen av + slLen bv)
 case atStart => exact ⟨ps, qs, a, b, la, ca, lb, cb, rfl, rfl, hlen, HP0, rfl, QuietTo.refl _⟩
 case round =>
  clear HP0
  obtain ⟨xs, ys, aa, bb, l1, c1, l2, c2, rfl, rfl, hl12, HP, HN, HQ⟩ := hrel
  by_cases h1 : l1 = 0
  ·
   subst h1
   have HV : Hid (noMeet ps qs = true) := by
    have := HN.out
    rw [List.eq_nil_of_length_eq_zero HP.out.1.length, noMeet_nil] at this
    exact this.symm
   go_wp2
   go_ret
   rw [HV.out]
   exact ⟨rfl, HQ.out⟩
  have g1 : decide ((0 : Int) < (l1 : Int)) = true := decT (by omega)
  by_cases h2 : l2 = 0
  ·
   subst h2
   have HV : Hid (noMeet ps qs = true) := by
    have := HN.out
    rw [List.eq_nil_of_length_eq_zero HP.out.2.length, noMeet_comm, noMeet_nil] at this
    exact this.symm
   go_wp2
   go_ret
   rw [HV.out]
   exact ⟨rfl, HQ.out⟩
  have g2 : decide ((0 : Int) < (l2 : Int)) = true := decT (by omega)
  have i1 : (0 : Int) < (l1 : Int) := by omega
  have i2 : (0 : Int) < (l2 : Int) := by omega
  have i3 : (1 : Int) ≤ (l1 : Int) := by omega
  have i4 : (1 : Int) ≤ (l2 : Int) := by omega
  obtain ⟨b1, o1, rfl, e1, e2⟩ := HP.out.1.cells (by omega)
  obtain ⟨b2, o2, rfl, e3, e4⟩ := HP.out.2.cells (by omega)
  obtain ⟨x, hx⟩ : ∃ x, x = (xs.at 0).1 := ⟨_, rfl⟩
  obtain ⟨y, hy⟩ : ∃ x, x = (xs.at 0).2 := ⟨_, rfl⟩
  obtain ⟨x', hx'⟩ : ∃ x, x = (ys.at 0).1 := ⟨_, rfl⟩
  obtain ⟨y', hy'⟩ : ∃ x, x = (ys.at 0).2 := ⟨_, rfl⟩
  rw [← hx] at e1
  rw [← hy] at e2
  rw [← hx'] at e3
  rw [← hy'] at e4
  have d1 : wr.cell? ⟨b1, o1, none⟩ = some (.int .i64 x) := (HQ.out.cell _).trans e1
  have d2 : wr.cell? ⟨b1, o1 + 1, none⟩ = some (.int .i64 y) := (HQ.out.cell _).trans e2
  have d3 : wr.cell? ⟨b2, o2, none⟩ = some (.int .i64 x') := (HQ.out.cell _).trans e3
  have d4 : wr.cell? ⟨b2, o2 + 1, none⟩ = some (.int .i64 y') := (HQ.out.cell _).trans e4
  have HX : Hid ((x = (xs.at 0).1 ∧ y = (xs.at 0).2) ∧ x' = (ys.at 0).1 ∧ y' = (ys.at 0).2) := ⟨⟨hx, hy⟩, hx', hy'⟩
  have HLN : Hid (0 < xs.length ∧ 0 < ys.length) := by rw [HP.out.1.length, HP.out.2.length]; exact ⟨by omega, by omega⟩
  clear hx hy hx' hy' e1 e2 e3 e4
  by_cases c : x' < x
  ·
   have cd : decide (x' < x) = true := decT c
   by_cases m : x ≤ y'
   ·
    have md : decide (x ≤ y') = true := decT m
    have HV : Hid (noMeet ps qs = false) := by
     show _ = _
     rw [← HN.out, noMeet_comm]
     exact meet_false HP.out.2.ok HP.out.1.ok HLN.out.2 HLN.out.1 (by rw [← HX.out.1.1, ← HX.out.2.1]; omega) (by rw [← HX.out.1.1, ← HX.out.2.2]; exact m)
    go_wp2
    go_quiet (fail)
    obtain ⟨wq, hwq⟩ : ∃ W, W = wr.drewN nq := ⟨_, rfl⟩
    have q1 : wq.cell? ⟨b1, o1, none⟩ = some (.int .i64 x) := by rw [hwq]; exact d1
    have q2 : wq.cell? ⟨b2, o2 + 1, none⟩ = some (.int .i64 y') := by rw [hwq]; exact d4
    have HQ2 : Hid (QuietTo w wq) := by rw [hwq]; exact HQ.out.drewN _
    rw [← hwq]
    clear hwq d1 d2 d3 d4
    go_wp2
    go_quiet (fail)
    go_wp2
    go_ret
    rw [HV.out]
    exact ⟨rfl, HQ2.out.drewN _⟩
   ·
    have md : decide (x ≤ y') = false := decF m
    have HN2 : Hid (noMeet (ys.drop 1) xs = noMeet ps qs) := by
     show _ = _
     rw [meet_step HP.out.1.ok HLN.out.2 HLN.out.1 (by rw [← HX.out.1.1, ← HX.out.2.2]; omega), noMeet_comm]
     exact HN.out
    by_cases hc1 : c2 = 1
    ·
     subst hc1
     have HA2 : Hid (ARd w (some ⟨b2, o2, none⟩) (l2 - 1) 0 (ys.drop 1) ∧ ARd w (some ⟨b1, o1, none⟩) l1 c1 xs) := ⟨HP.out.2.last (by omega), HP.out.1⟩
     go_wp2
     go_quiet (fail)
     obtain ⟨wq, hwq⟩ : ∃ W, W = wr.drewN nq := ⟨_, rfl⟩
     have q1 : wq.cell? ⟨b1, o1, none⟩ = some (.int .i64 x) := by rw [hwq]; exact d1
     have q2 : wq.cell? ⟨b2, o2 + 1, none⟩ = some (.int .i64 y') := by rw [hwq]; exact d4
     have HQ2 : Hid (QuietTo w wq) := by rw [hwq]; exact HQ.out.drewN _
     rw [← hwq]
     clear hwq d1 d2 d3 d4
     go_wp2
     go_quiet (fail)
     go_wp2
     go_roundw
     case rel => exact ⟨ys.drop 1, xs, _, _, _, _, _, _, rfl, rfl, by omega, HA2, HN2, HQ2.out.drewN _⟩
     case measure => simp [slLen]; omega
    ·
     have HA2 : Hid (ARd w (some ⟨b2, o2 + 2, none⟩) (l2 - 1) (c2 - 1) (ys.drop 1) ∧ ARd w (some ⟨b1, o1, none⟩) l1 c1 xs) := ⟨HP.out.2.step (by omega), HP.out.1⟩
     go_wp2
     go_quiet (fail)
     obtain ⟨wq, hwq⟩ : ∃ W, W = wr.drewN nq := ⟨_, rfl⟩
     have q1 : wq.cell? ⟨b1, o1, none⟩ = some (.int .i64 x) := by rw [hwq]; exact d1
     have q2 : wq.cell? ⟨b2, o2 + 1, none⟩ = some (.int .i64 y') := by rw [hwq]; exact d4
     have HQ2 : Hid (QuietTo w wq) := by rw [hwq]; exact HQ.out.drewN _
     rw [← hwq]
     clear hwq d1 d2 d3 d4
     go_wp2
     go_quiet (fail)
     go_wp2
     go_roundw
     case rel => exact ⟨ys.drop 1, xs, _, _, _, _, _, _, rfl, rfl, by omega, HA2, HN2, HQ2.out.drewN _⟩
     case measure => simp [slLen]; omega
  ·
   have cd : decide (x' < x) = false := decF c
   by_cases m : x' ≤ y
   ·
    have md : decide (x' ≤ y) = true := decT m
    have HV : Hid (noMeet ps qs = false) := by
     show _ = _
     rw [← HN.out]
     exact meet_false HP.out.1.ok HP.out.2.ok HLN.out.1 HLN.out.2 (by rw [← HX.out.1.1, ← HX.out.2.1]; omega) (by rw [← HX.out.1.2, ← HX.out.2.1]; exact m)
    go_wp2
    go_quiet (fail)
    obtain ⟨wq, hwq⟩ : ∃ W, W = wr.drewN nq := ⟨_, rfl⟩
    have q1 : wq.cell? ⟨b2, o2, none⟩ = some (.int .i64 x') := by rw [hwq]; exact d3
    have q2 : wq.cell? ⟨b1, o1 + 1, none⟩ = some (.int .i64 y) := by rw [hwq]; exact d2
    have HQ2 : Hid (QuietTo w wq) := by rw [hwq]; exact HQ.out.drewN _
    rw [← hwq]
    clear hwq d1 d2 d3 d4
    go_wp2
    go_quiet (fail)
    go_wp2
    go_ret
    rw [HV.out]
    exact ⟨rfl, HQ2.out.drewN _⟩
   ·
    have md : decide (x' ≤ y) = false := decF m
    have HN2 : Hid (noMeet (xs.drop 1) ys = noMeet ps qs) := by
     show _ = _
     rw [meet_step HP.out.2.ok HLN.out.1 HLN.out.2 (by rw [← HX.out.1.2, ← HX.out.2.1]; omega)]
     exact HN.out
    by_cases hc1 : c1 = 1
    ·
     subst hc1
     have HA2 : Hid (ARd w (some ⟨b1, o1, none⟩) (l1 - 1) 0 (xs.drop 1) ∧ ARd w (some ⟨b2, o2, none⟩) l2 c2 ys) := ⟨HP.out.1.last (by omega), HP.out.2⟩
     go_wp2
     go_quiet (fail)
     obtain ⟨wq, hwq⟩ : ∃ W, W = wr.drewN nq := ⟨_, rfl⟩
     have q1 : wq.cell? ⟨b2, o2, none⟩ = some (.int .i64 x') := by rw [hwq]; exact d3
     have q2 : wq.cell? ⟨b1, o1 + 1, none⟩ = some (.int .i64 y) := by rw [hwq]; exact d2
     have HQ2 : Hid (QuietTo w wq) := by rw [hwq]; exact HQ.out.drewN _
     rw [← hwq]
     clear hwq d1 d2 d3 d4
     go_wp2
     go_quiet (fail)
     go_wp2
     go_roundw
     case rel => exact ⟨xs.drop 1, ys, _, _, _, _, _, _, rfl, rfl, by omega, HA2, HN2, HQ2.out.drewN _⟩
     case measure => simp [slLen]; omega
    ·
     have HA2 : Hid (ARd w (some ⟨b1, o1 + 2, none⟩) (l1 - 1) (c1 - 1) (xs.drop 1) ∧ ARd w (some ⟨b2, o2, none⟩) l2 c2 ys) := ⟨HP.out.1.step (by omega), HP.out.2⟩
     go_wp2
     go_quiet (fail)
     obtain ⟨wq, hwq⟩ : ∃ W, W = wr.drewN nq := ⟨_, rfl⟩
     have q1 : wq.cell? ⟨b2, o2, none⟩ = some (.int .i64 x') := by rw [hwq]; exact d3
     have q2 : wq.cell? ⟨b1, o1 + 1, none⟩ = some (.int .i64 y) := by rw [hwq]; exact d2
     have HQ2 : Hid (QuietTo w wq) := by rw [hwq]; exact HQ.out.drewN _
     rw [← hwq]
     clear hwq d1 d2 d3 d4
     go_wp2
     go_quiet (fail)
     go_wp2
     go_roundw
     case rel => exact ⟨xs.drop 1, ys, _, _, _, _, _, _, rfl, rfl, by omega, HA2, HN2, HQ2.out.drewN _⟩
     case measure => simp [slLen]; omega
theorem apartImpl_any (a b : Option Addr) (la lb ca cb : Nat) (ps qs : Sp) (F G : List Nat) (w : World) (h : RdP w a la ps F) (k : RdP w b lb qs G) (hla : la ≤ 2097152) (hlb : lb ≤ 2097152) (hca : la ≤ ca) (hcb : lb ≤ cb) :
 Calls Tryz.prog 89 #[.slice a la ca, .slice b lb cb] w fun e w' => e = .returned (.bool (ps.apart qs)) ∧ Below w.heap.size w w' := by
 have HR : Hid (RdP w a la ps F ∧ RdP w b lb qs G) := ⟨h, k⟩
 clear h k
 go_enter Tryz.func89, Tryz.ntmps89
 go_wp2_with fail
 refine (setOkImpl_any a la ca ps F _ HR.out.1 hla).mono ?_
 rintro e w1 ⟨rfl, hb⟩
 have HB0 : Hid (Below w.heap.size w w1) := hb
 clear hb
 obtain ⟨d, hd⟩ : ∃ d, d = ps.ok := ⟨_, rfl⟩
 rw [← hd]
 have HD : Hid (d = ps.ok) := hd
 clear hd
 cases d
 ·
  go_wp2
  go_ret
  rw [Sp.apart_not (by rw [← HD.out]; rfl)]
  exact ⟨rfl, HB0.out⟩
 go_wp2_with fail
 refine (setOkImpl_any b lb cb qs G _ (HR.out.2.below HB0.out) hlb).mono ?_
 rintro e w2 ⟨rfl, hb⟩
 have HB1 : Hid (Below w.heap.size w w2) := Below.next HB0.out hb
 clear hb HB0
 obtain ⟨d, hd⟩ : ∃ d, d = qs.ok := ⟨_, rfl⟩
 rw [← hd]
 have HE : Hid (d = qs.ok) := hd
 clear hd
 cases d
 ·
  go_wp2
  go_ret
  rw [Sp.apart_not (by rw [← HD.out, ← HE.out]; rfl)]
  exact ⟨rfl, HB1.out⟩
 have HV : Hid (ps.apart qs = noMeet ps qs) := by
  show _ = _
  rw [apart_eq, ← HD.out, ← HE.out]
  rfl
 go_wp2_with fail
 refine (noneInBoth_any a b la lb ca cb ps qs _ ⟨⟨F, HR.out.1.below HB1.out⟩, hca, ok_iff.1 HD.out.symm⟩ ⟨⟨G, HR.out.2.below HB1.out⟩, hcb, ok_iff.1 HE.out.symm⟩ (by omega)).mono ?_
 rintro e w3 ⟨rfl, hq⟩
 have HB2 : Hid (Below w.heap.size w w3) := Below.next HB1.out (quiet_below hq)
 clear hq
 go_wp2
 go_ret
 rw [HV.out]
 exact ⟨rfl, HB2.out⟩
end
section
set_option maxRecDepth 200000
set_option maxHeartbeats 16000000
open Go.RowKit
theorem inb_ok {ps : Sp} (h : ps.ok = true) : ∀ p ∈ ps, InB p := inb_iff.1 (ok_inb h)
theorem joinImpl_any (a b : Option Addr) (la lb ca cb : Nat) (ps qs : Sp) (F G : List Nat) (w : World) (h : RdP w a la ps F) (k : RdP w b lb qs G) (hlen : la + lb ≤ 2097152) (hca : la ≤ ca) :
 Calls Tryz.prog 90 #[.slice a la ca, .slice b lb cb] w fun e w' => NewP2 w (ps.join qs) (ps.ok && qs.ok) e w' := by
 have HR : Hid (RdP w a la ps F ∧ RdP w b lb qs G) := ⟨h, k⟩
 clear h k
 go_enter Tryz.func90, Tryz.ntmps90
 go_wp2_with fail
 refine (setOkImpl_any a la ca ps F _ HR.out.1 (by omega)).mono ?_
 rintro e w1 ⟨rfl, hb⟩
 have HB0 : Hid (Below w.heap.size w w1) := hb
 clear hb
 obtain ⟨d, hd⟩ : ∃ d, d = ps.ok := ⟨_, rfl⟩
 rw [← hd]
 have HD : Hid (d = ps.ok) := hd
 clear hd
 cases d
 ·
  have HV : Hid (ps.join qs = [] ∧ (ps.ok && qs.ok) = false) := ⟨Sp.join_not (by rw [← HD.out]; rfl), by rw [← HD.out]; rfl⟩
  go_wp2
  go_ret2
  rw [HV.out.1, HV.out.2]
  exact ⟨_, 0, 0, [], rfl, RdP.nil, Own.nil, HB0.out, fun _ => rfl, Nat.le_refl _⟩
 go_wp2_with fail
 refine (setOkImpl_any b lb cb qs G _ (HR.out.2.below HB0.out) (by omega)).mono ?_
 rintro e w2 ⟨rfl, hb⟩
 have HB1 : Hid (Below w.heap.size w w2) := Below.next HB0.out hb
 clear hb HB0
 obtain ⟨d, hd⟩ : ∃ d, d = qs.ok := ⟨_, rfl⟩
 rw [← hd]
 have HE : Hid (d = qs.ok) := hd
 clear hd
 cases d
 ·
  have HV : Hid (ps.join qs = [] ∧ (ps.ok && qs.ok) = false) := ⟨Sp.join_not (by rw [← HD.out, ← HE.out]; rfl), by rw [← HD.out, ← HE.out]; rfl⟩
  go_wp2
  go_ret2
  rw [HV.out.1, HV.out.2]
  exact ⟨_, 0, 0, [], rfl, RdP.nil, Own.nil, HB1.out, fun _ => rfl, Nat.le_refl _⟩
 have HV : Hid (both ps qs [] = ps.join qs ∧ (ps.ok && qs.ok) = true) := ⟨both_join HD.out.symm HE.out.symm, by rw [← HD.out, ← HE.out]; rfl⟩
 go_wp2_with fail
 refine (spansOfBoth_any a b la lb ca cb ps qs F G _ (HR.out.1.below HB1.out) (HR.out.2.below HB1.out) (by omega) hca (inb_ok HD.out.symm) (inb_ok HE.out.symm)).mono ?_
 rintro e w3 ⟨a', l', c', F', rfl, g1, g2, g3, g4⟩
 have HN : Hid (RdP w3 a' l' (ps.join qs) F' ∧ Own w.heap.size w3 F' ∧ Below w.heap.size w w3 ∧ Capd a' l' c') := ⟨by rw [← HV.out.1]; exact g1, g2.mono HB1.out.size, Below.next HB1.out g3, g4⟩
 clear g1 g2 g3 g4
 go_wp2
 go_ret2
 rw [HV.out.2]
 exact ⟨a', l', c', F', rfl, HN.out⟩
end
section
set_option maxRecDepth 200000
set_option maxHeartbeats 16000000
open Go.RowKit
theorem entryOkImpl_any (v : Value) (x : En) (F : List Nat) (w : World) (h : RdE w v x F) (hw : x.wide) :
 Calls Tryz.prog 88 #[v] w fun e w' => e = .returned (.bool x.ok) ∧ Below w.heap.size w w' := by
 obtain ⟨F1, F2, rfl, h⟩ := h
 exact entryOkImpl_en v x F1 F2 w h hw.1 (by have := hw.2; omega)
end
section
set_option maxRecDepth 200000
set_option maxHeartbeats 16000000
open Go.RowKit
def NewPd (w : World) (ps : Sp) (d : Bool) (e : Ending) (w' : World) : Prop := ∃ a len cap F, e = .returned (.tuple #[.slice a len cap, .bool d]) ∧ RdP w' a len ps F ∧ Own w.heap.size w' F ∧ Below w.heap.size w w' ∧ Capd a len cap
theorem okIds_gen (v : Value) (x : Rw) (F : List Nat) (w : World) (h : RdRw w v x F) (hlen : x.list.length ≤ 2097152) (hw : ∀ y ∈ x.list, y.wide) (hsz : ensSize x.list ≤ 1048576) :
 Calls Tryz.prog 44 #[v] w fun e w' => NewPd w x.ids x.ok e w' := by
 obtain ⟨a, n, c, rfl, hL, hcp⟩ := h
 have HL : Hid (RdL enK w a n x.list F ∧ x.list.length = n ∧ (∀ y ∈ x.list, y.wide) ∧ ensSize x.list ≤ 1048576) := ⟨hL, hL.length, hw, hsz⟩
 have hn : n ≤ 2097152 := by rw [← hL.length]; exact hlen
 have HB : Hid (Below w.heap.size w (w.alloc (.cells #[.slice a n c] 26)) ∧ Blk (w.alloc (.cells #[.slice a n c] 26)) w.heap.size #[.slice a n c] 26) := ⟨Below.allocW _ (Below.refl _ _) (Nat.le_refl _), Blk.made _ _ _⟩
 clear hL hw hcp hlen hsz
 by_cases hbig : 24 < n
 ·
  have hI : (24 : Int) < (n : Int) := by omega
  have HV : Hid (x.ok = false) := Rw.ok_long (by rw [HL.out.2.1]; exact hbig)
  go_enter Tryz.func44, Tryz.ntmps44
  go_wp2
  go_ret2
  rw [HV.out]
  exact ⟨none, 0, 0, [], rfl, by unfold Rw.ids; rw [HV.out]; exact RdP.nil, Own.nil, HB.out.1, fun _ => rfl, Nat.le_refl _⟩
 have hI24 : ¬ (24 : Int) < (n : Int) := by omega
 go_enter Tryz.func44, Tryz.ntmps44
 go_wp2
 go_loopw [4, 14] (fun s i wr => ∃ (k : Nat) (p : Option Addr) (l g : Nat) (G : List Nat), k ≤ n ∧ i = .int .i64 k ∧ s = .slice p l g ∧ l ≤ 1048576 ∧ Hid (fineTo x.list k = true) ∧ Hid (Below w.heap.size w wr ∧ RdP wr p l (idsTo x.list k) G ∧ Own w.heap.size wr G ∧ Capd p l g)) (fun _ i _ => n - (intOf i).toNat)
 case atStart => exact ⟨0, none, 0, 0, [], by omega, rfl, rfl, by omega, rfl, HB.out.1, by rw [idsTo_zero]; exact RdP.nil, Own.nil, fun _ => rfl, Nat.le_refl _⟩
 case round =>
  clear HB
  obtain ⟨k, p, l, g, G, hk, rfl, rfl, hl, HT, HW⟩ := hrel
  by_cases hlt : k < n
  ·
   have hI : (k : Int) < (n : Int) := by omega
   obtain ⟨b, off, y, q, m, g', cs, Fi, G', rfl, hbw, hy, hs, hcc, hr, h0, h1, h2, hp, hcp⟩ := ens_in HL.out.1 hlt
   have HX : Hid (x.list[k]? = some y ∧ cs.size = 10 ∧ RdE w (.agg cs) y Fi ∧ y.wide) := ⟨hy, hs, hr, wide_at HL.out.2.2.1 hy⟩
   have HCC : Hid ((∀ W, Below w.heap.size w W → ∀ j, j < 10 → W.cell? ⟨b, off + k * 10 + j, none⟩ = cs[j]?) ∧ cs[2]? = some (.slice q m g') ∧ RdP w q m y.ids G' ∧ Capd q m g') := ⟨hcc, h2, hp, hcp⟩
   have hm : m ≤ 1048576 := by rw [← hp.length]; exact (wide_at HL.out.2.2.1 hy).2
   have hone := (RdE.cells hr)
   obtain ⟨cs', ecs, _, hone⟩ := hone
   injection ecs with ecs
   subst ecs
   have HONE : Hid (cs.all (·.oneCell') = true) := hone
   clear hy hs hcc hr h0 h1 h2 hp hcp hone
   go_wp2_with (first | go_skip | (with_reducible refine stopLoad 33 rfl ?_))
   refine load_at 33 b (off + k * 10) 10 cs _ (HCC.out.1 _ HW.out.1) HX.out.2.1 rfl rfl rfl Tryz.underlying33 rfl infoEnS2 ?_
   go_wp2_with (first | go_skip | (with_reducible refine stopStore 33 rfl ?_))
   refine store_fresh 33 wr.heap.size rfl #[.int .i64 0, .int .i64 0, .slice none 0 0, .int .i64 0, .int .i64 0, .int .i64 0, .int .i64 0, .slice none 0 0, .slice none 0 0, .slice none 0 0] cs 33 rfl rfl rfl rfl (enSize HX.out.2.1) HX.out.2.1.symm HONE.out ?_
   intro w1 hg hb1
   have HW1 : Hid (Below w.heap.size w w1 ∧ RdP w1 p l (idsTo x.list k) G ∧ Own w.heap.size w1 G ∧ Capd p l g ∧ Blk w1 wr.heap.size cs 33 ∧ w.heap.size ≤ wr.heap.size) := ⟨Below.next HW.out.1 hb1, HW.out.2.1.below hb1, HW.out.2.2.1.below HW.out.2.1.lt hb1, HW.out.2.2.2, hg, HW.out.1.size⟩
   clear hg hb1 HW
   go_wp2_with (first | go_skip | (with_reducible refine stopLoad 33 rfl ?_))
   refine load_any 33 wr.heap.size cs 33 _ HW1.out.2.2.2.2.1 rfl rfl rfl Tryz.underlying33 rfl (enSize HX.out.2.1) ?_
   go_wp2_with fail
   refine (entryOkImpl_any _ y Fi _ (HX.out.2.2.1.below HW1.out.1) HX.out.2.2.2).mono ?_
   rintro e w2 ⟨rfl, hb2⟩
   have HW2 : Hid (Below w.heap.size w w2 ∧ RdP w2 p l (idsTo x.list k) G ∧ Own w.heap.size w2 G ∧ Capd p l g ∧ Blk w2 wr.heap.size cs 33 ∧ w.heap.size ≤ wr.heap.size) := ⟨Below.next HW1.out.1 hb2, HW1.out.2.1.below hb2, HW1.out.2.2.1.below HW1.out.2.1.lt hb2, HW1.out.2.2.2.1, HW1.out.2.2.2.2.1.below hb2, HW1.out.2.2.2.2.2⟩
   obtain ⟨d, hd⟩ : ∃ d, d = y.ok := ⟨_, rfl⟩
   rw [← hd]
   have HD : Hid (d = y.ok) := hd
   clear hd hb2 HW1
   have c2 : w2.cell? ⟨wr.heap.size, 2, none⟩ = some (.slice q m g') := (HW2.out.2.2.2.2.1.cell 2).trans HCC.out.2.1
   cases d
   ·
    have HV : Hid (x.ok = false) := Rw.ok_not (i := k + 1) (by rw [HL.out.2.1]; omega) (by rw [fineTo_succ HX.out.1, ← HD.out]; simp)
    go_wp2
    go_ret2
    rw [HV.out]
    exact ⟨none, 0, 0, [], rfl, by unfold Rw.ids; rw [HV.out]; exact RdP.nil, Own.nil, HW2.out.1, fun _ => rfl, Nat.le_refl _⟩
   go_wp2_with fail
   refine (apartImpl_any p q l m g g' (idsTo x.list k) y.ids G G' _ HW2.out.2.1 (HCC.out.2.2.1.below HW2.out.1) (by omega) (by omega) HW2.out.2.2.2.1.2 HCC.out.2.2.2.2).mono ?_
   rintro e w3 ⟨rfl, hb3⟩
   have HW3 : Hid (Below w.heap.size w w3 ∧ RdP w3 p l (idsTo x.list k) G ∧ Own w.heap.size w3 G ∧ Capd p l g ∧ Blk w3 wr.heap.size cs 33 ∧ w.heap.size ≤ wr.heap.size) := ⟨Below.next HW2.out.1 hb3, HW2.out.2.1.below hb3, HW2.out.2.2.1.below HW2.out.2.1.lt hb3, HW2.out.2.2.2.1, HW2.out.2.2.2.2.1.below hb3, HW2.out.2.2.2.2.2⟩
   obtain ⟨d, hd⟩ : ∃ d, d = (idsTo x.list k).apart y.ids := ⟨_, rfl⟩
   rw [← hd]
   have HD2 : Hid (d = (x.list.take k).all fun z => y.ids.apart z.ids) := by
    show _ = _
    rw [hd]
    exact idsTo_apart (by rw [HL.out.2.1]; omega) HT.out HD.out.symm
   have c3 : w3.cell? ⟨wr.heap.size, 2, none⟩ = some (.slice q m g') := (HW3.out.2.2.2.2.1.cell 2).trans HCC.out.2.1
   clear hd hb3 HW2 c2
   cases d
   ·
    have HV : Hid (x.ok = false) := Rw.ok_not (i := k + 1) (by rw [HL.out.2.1]; omega) (by rw [fineTo_succ HX.out.1, ← HD2.out]; simp)
    go_wp2
    go_ret2
    rw [HV.out]
    exact ⟨none, 0, 0, [], rfl, by unfold Rw.ids; rw [HV.out]; exact RdP.nil, Own.nil, HW3.out.1, fun _ => rfl, Nat.le_refl _⟩
   go_wp2_with fail
   refine (joinImpl_any p q l m g g' (idsTo x.list k) y.ids G G' _ HW3.out.2.1 (HCC.out.2.2.1.below HW3.out.1) (by omega) HW3.out.2.2.2.1.2).mono ?_
   rintro e w4 ⟨p4, l4, g4, G4, rfl, r4, o4, hb4, hc4⟩
   have HT2 : Hid (fineTo x.list (k + 1) = true) := by show _ = _; rw [fineTo_succ HX.out.1, HT.out, ← HD.out, ← HD2.out]; rfl
   have HW4 : Hid (Below w.heap.size w w4 ∧ RdP w4 p4 l4 (idsTo x.list (k + 1)) G4 ∧ Own w.heap.size w4 G4 ∧ Capd p4 l4 g4) := ⟨Below.next HW3.out.1 hb4, by rw [idsTo_succ HX.out.1]; exact r4, o4.mono HW3.out.1.size, hc4⟩
   have hl4 : l4 ≤ 1048576 := by rw [← HW4.out.2.1.length]; exact idsTo_lenS HL.out.2.2.2 (by rw [HL.out.2.1]; omega) HT2.out
   clear r4 o4 hb4 hc4 c3
   go_wp2
   go_roundw
   case rel => exact ⟨k + 1, p4, l4, g4, G4, by omega, by go_num, rfl, hl4, HT2, HW4⟩
   case measure => simp [intOf]; omega
  ·
   obtain rfl : k = n := by omega
   have HV : Hid (x.ok = true) := Rw.ok_yes (by rw [HL.out.2.1]; omega) (by rw [HL.out.2.1]; exact HT.out)
   have hI : ¬ (k : Int) < (k : Int) := by omega
   go_wp2
   go_ret2
   rw [HV.out]
   exact ⟨p, l, g, G, rfl, by unfold Rw.ids; rw [if_pos HV.out, HL.out.2.1]; exact HW.out.2.1, HW.out.2.2.1, HW.out.1, HW.out.2.2.2⟩
theorem okIds_any (v : Value) (x : Rw) (F : List Nat) (w : World) (h : RdRw w v x F) (hw : x.fits) :
 Calls Tryz.prog 44 #[v] w fun e w' => NewPd w x.ids x.ok e w' := okIds_gen v x F w h (by have := hw.len; omega) hw.wide.1 (by have := hw; unfold Rw.fits Rw.size at this; omega)
theorem rowOkImpl_gen (v : Value) (x : Rw) (F : List Nat) (w : World) (h : RdRw w v x F) (hlen : x.list.length ≤ 2097152) (hw : ∀ y ∈ x.list, y.wide) (hsz : ensSize x.list ≤ 1048576) :
 Calls Tryz.prog 13 #[v] w fun e w' => e = .returned (.bool x.ok) ∧ Below w.heap.size w w' := by
 have HH : Hid (RdRw w v x F ∧ x.list.length ≤ 2097152 ∧ (∀ y ∈ x.list, y.wide) ∧ ensSize x.list ≤ 1048576) := ⟨h, hlen, hw, hsz⟩
 obtain ⟨a, n, c, rfl, _, _⟩ := h
 have HB : Hid (Below w.heap.size w (w.alloc (.cells #[.slice a n c] 26)) ∧ Blk (w.alloc (.cells #[.slice a n c] 26)) w.heap.size #[.slice a n c] 26) := ⟨Below.allocW _ (Below.refl _ _) (Nat.le_refl _), Blk.made _ _ _⟩
 clear hw hlen hsz
 go_enter Tryz.func13, Tryz.ntmps13
 go_wp2_with (first | go_skip | (with_reducible refine stopLoad 26 rfl ?_))
 refine load_any 26 w.heap.size #[.slice a n c] 26 _ HB.out.2 rfl rfl rfl Tryz.underlying26 rfl (rwSize rfl) ?_
 go_wp2_with fail
 refine (okIds_gen _ x F _ (HH.out.1.below HB.out.1) HH.out.2.1 HH.out.2.2.1 HH.out.2.2.2).mono ?_
 rintro e w2 ⟨p, l, g, G, rfl, hr, ho, hb, hc⟩
 have HR : Hid (RdP w2 p l x.ids G ∧ Own w.heap.size w2 G ∧ Below w.heap.size w w2 ∧ Capd p l g) := ⟨hr, ho.mono HB.out.1.size, Below.next HB.out.1 hb, hc⟩
 clear hr ho hb hc HB HH
 go_wp2
 go_ret
 exact ⟨rfl, HR.out.2.2.1⟩
theorem rowOkImpl_any (v : Value) (x : Rw) (F : List Nat) (w : World) (h : RdRw w v x F) (hw : x.fits) :
 Calls Tryz.prog 13 #[v] w fun e w' => e = .returned (.bool x.ok) ∧ Below w.heap.size w w' := by
 have HH : Hid (RdRw w v x F ∧ x.fits) := ⟨h, hw⟩
 obtain ⟨a, n, c, rfl, _, _⟩ := h
 have HB : Hid (Below w.heap.size w (w.alloc (.cells #[.slice a n c] 26)) ∧ Blk (w.alloc (.cells #[.slice a n c] 26)) w.heap.size #[.slice a n c] 26) := ⟨Below.allocW _ (Below.refl _ _) (Nat.le_refl _), Blk.made _ _ _⟩
 clear hw
 go_enter Tryz.func13, Tryz.ntmps13
 go_wp2_with (first | go_skip | (with_reducible refine stopLoad 26 rfl ?_))
 refine load_any 26 w.heap.size #[.slice a n c] 26 _ HB.out.2 rfl rfl rfl Tryz.underlying26 rfl (rwSize rfl) ?_
 go_wp2_with fail
 refine (okIds_any _ x F _ (HH.out.1.below HB.out.1) HH.out.2).mono ?_
 rintro e w2 ⟨p, l, g, G, rfl, hr, ho, hb, hc⟩
 have HR : Hid (RdP w2 p l x.ids G ∧ Own w.heap.size w2 G ∧ Below w.heap.size w w2 ∧ Capd p l g) := ⟨hr, ho.mono HB.out.1.size, Below.next HB.out.1 hb, hc⟩
 clear hr ho hb hc HB HH
 go_wp2
 go_ret
 exact ⟨rfl, HR.out.2.2.1⟩
theorem rowIdsImpl_any (v : Value) (x : Rw) (F : List Nat) (w : World) (h : RdRw w v x F) (hw : x.fits) :
 Calls Tryz.prog 15 #[v] w fun e w' => NewP w x.ids e w' := by
 have HH : Hid (RdRw w v x F ∧ x.fits) := ⟨h, hw⟩
 obtain ⟨a, n, c, rfl, _, _⟩ := h
 have HB : Hid (Below w.heap.size w (w.alloc (.cells #[.slice a n c] 26)) ∧ Blk (w.alloc (.cells #[.slice a n c] 26)) w.heap.size #[.slice a n c] 26) := ⟨Below.allocW _ (Below.refl _ _) (Nat.le_refl _), Blk.made _ _ _⟩
 clear hw
 go_enter Tryz.func15, Tryz.ntmps15
 go_wp2_with (first | go_skip | (with_reducible refine stopLoad 26 rfl ?_))
 refine load_any 26 w.heap.size #[.slice a n c] 26 _ HB.out.2 rfl rfl rfl Tryz.underlying26 rfl (rwSize rfl) ?_
 go_wp2_with fail
 refine (okIds_any _ x F _ (HH.out.1.below HB.out.1) HH.out.2).mono ?_
 rintro e w2 ⟨p, l, g, G, rfl, hr, ho, hb, hc⟩
 have HR : Hid (RdP w2 p l x.ids G ∧ Own w.heap.size w2 G ∧ Below w.heap.size w w2 ∧ Capd p l g) := ⟨hr, ho.mono HB.out.1.size, Below.next HB.out.1 hb, hc⟩
 clear hr ho hb hc HB HH
 go_wp2
 go_ret
 exact ⟨p, l, g, G, rfl, HR.out.1, HR.out.2.1, HR.out.2.2.1, HR.out.2.2.2⟩
end
section
set_option maxRecDepth 200000
set_option maxHeartbeats 16000000
open Go.RowKit
theorem holdEntry_any (k p : Int) (a : Option Addr) (l c : Nat) (ps : Sp) (ys : List Int) (F : List Nat) (w : World) (h : RdP w a l ps F) (hl : l ≤ 2097152) (hy : ys.length = 28) :
 Calls Tryz.prog 105 #[.agg (hc k p a l c ys)] w fun e w' => NewEn w ⟨k, p, ps, skOf ys⟩ e w' := by
 have HP : Hid (RdP w a l ps F ∧ ys.length = 28) := ⟨h, hy⟩
 have HT : Hid (_ ∧ _ ∧ _) := two_made w (hc k p a l c ys) #[.int .i64 0, .int .i64 0, .slice none 0 0, .int .i64 0, .int .i64 0, .int .i64 0, .int .i64 0, .slice none 0 0, .slice none 0 0, .slice none 0 0] 135 33
 clear h hy
 go_enter Tryz.func105, Tryz.ntmps105
 go_wp2
 obtain ⟨W0, hW0⟩ : ∃ W0, W0 = (w.alloc (.cells (hc k p a l c ys) 135)).alloc (.cells #[.int .i64 0, .int .i64 0, .slice none 0 0, .int .i64 0, .int .i64 0, .int .i64 0, .int .i64 0, .slice none 0 0, .slice none 0 0, .slice none 0 0] 33) := ⟨_, rfl⟩
 rw [← hW0] at HT ⊢
 clear hW0
 have HS : Hid (HoldS w.heap.size k p a l c ys W0.drew) := holdS HT.out.1.drew
 have sz0 : w.heap.size + 1 < W0.drew.heap.size := HT.out.2.1.drew.lt
 refine wp_region_held (S := HoldS w.heap.size k p a l c ys) (by kernel_rfl) ?_
 change wpAnyH _ _ _ _ _ _ _ _ (World.drew _)
 refine tg 0 (.pointer (some ⟨w.heap.size, 0, none⟩)) (H := ⟨HS.out, ?_⟩)
 refine tg 1 (.pointer (some ⟨w.heap.size, 0, none⟩)) (H := ⟨HS.out, ?_⟩)
 refine tk 2 (.int .i64 k) (H := ⟨(.inl ⟨rfl, fun W hW => by have c := hW.2.1; go_simp⟩), HS.out, ?_⟩)
 refine tg 3 (.pointer (some ⟨w.heap.size, 0, none⟩)) (H := ⟨HS.out, ?_⟩)
 refine tg 4 (.pointer (some ⟨w.heap.size, 1, none⟩)) (H := ⟨HS.out, ?_⟩)
 refine tk 5 (.int .i64 p) (H := ⟨(.inl ⟨rfl, fun W hW => by have c := hW.2.2.1; go_simp⟩), HS.out, ?_⟩)
 refine tg 6 (.pointer (some ⟨w.heap.size, 2, none⟩)) (H := ⟨HS.out, ?_⟩)
 refine tk 7 (.slice a l c) (H := ⟨(.inl ⟨rfl, fun W hW => by have c := hW.2.2.2; go_simp⟩), HS.out, ?_⟩)
 refine tg 9 (.pointer (some ⟨w.heap.size, 3, none⟩)) (H := ⟨HS.out, ?_⟩)
 refine tk 10 (.agg (tc ys)) (H := ⟨(yields_cut 118 w.heap.size 3 28 _ (tc ys) 135 _ rfl rfl rfl Tryz.underlying118 rfl infoTally (by rw [hc_size HP.out.2]; omega) (cutOf_hc HP.out.2) (fun W hW => hW.1)), HS.out, ?_⟩)
 refine oq 8 (H := fun K hK => ?_)
 refine op_call1 82 _ _ Tryz.f82 (fun v w' => ∃ a len cap F, v = .slice a len cap ∧ RdP w' a len ps F ∧ Own W0.drew.heap.size w' F ∧ Below W0.drew.heap.size W0.drew w' ∧ Capd a len cap) rfl rfl Tryz.func82 (by kernel_rfl) (by kernel_rfl) ((copiedSpans_any a l c ps F W0.drew (HP.out.1.below HT.out.2.2.drew) hl).mono (by rintro e w' ⟨a, len, cap, F, rfl, h1, h2, h3, h4⟩; exact ⟨_, rfl, a, len, cap, F, rfl, h1, h2, h3, h4⟩)) ?_
 rintro _ w1 ⟨aj, lj, cj, Fj, rfl, rj, oj, bz, hcj⟩
 refine pk (h := hK _ _ ⟨HS.out.below bz, ?_⟩)
 have HJ : Hid (RdP w1 aj lj ps Fj ∧ Own (w.heap.size + 2) w1 Fj ∧ Capd aj lj cj) := ⟨rj, oj.mono (by omega), hcj⟩
 have HS1 : Hid (HoldS w.heap.size k p a l c ys w1) := HS.out.below bz
 have HZ1 : Hid (Blk w1 (w.heap.size + 1) #[.int .i64 0, .int .i64 0, .slice none 0 0, .int .i64 0, .int .i64 0, .int .i64 0, .int .i64 0, .slice none 0 0, .slice none 0 0, .slice none 0 0] 33 ∧ Below w.heap.size w w1) := ⟨HT.out.2.1.drew.below bz, Below.next HT.out.2.2.drew bz⟩
 clear hK bz rj oj HS hcj
 refine oq 11 (H := fun K hK => ?_)
 refine op_call1 148 _ _ Tryz.f148 (fun v w' => ∃ X, RdSk w' v (skOf ys) X ∧ Own w1.heap.size w' X ∧ Below w1.heap.size w1 w') rfl rfl Tryz.func148 (by kernel_rfl) (by kernel_rfl) ((sketch_any ys w1 HP.out.2).mono (by rintro e w' ⟨v, X, rfl, h1, h2, h3⟩; exact ⟨_, rfl, X, h1, h2, h3⟩)) ?_
 rintro vm w2 ⟨X, rm, om, bz⟩
 obtain ⟨e1, r1, f1, e2, r2, f2, e3, r3, f3, rfl⟩ := rm.cells7
 refine pk (h := hK _ _ ⟨HS1.out.below bz, ?_⟩)
 obtain ⟨M, hM⟩ : ∃ M, M = skOf ys := ⟨_, rfl⟩
 rw [← hM] at rm ⊢
 have HM : Hid (M = skOf ys) := hM
 have HS2 : Hid (HoldS w.heap.size k p a l c ys w2) := HS1.out.below bz
 have HZ2 : Hid (Blk w2 (w.heap.size + 1) #[.int .i64 0, .int .i64 0, .slice none 0 0, .int .i64 0, .int .i64 0, .int .i64 0, .int .i64 0, .slice none 0 0, .slice none 0 0, .slice none 0 0] 33 ∧ Below w.heap.size w w2) := ⟨HZ1.out.1.below bz, Below.next HZ1.out.2 bz⟩
 have HJ2 : Hid (RdP w2 aj lj ps Fj ∧ Own (w.heap.size + 2) w2 Fj ∧ RdSk w2 (.agg #[.int .i64 M.count, .int .i64 M.sum, .int .i64 M.min, .int .i64 M.max, .slice e1 r1 f1, .slice e2 r2 f2, .slice e3 r3 f3]) M X ∧ Own (w.heap.size + 2) w2 X ∧ ∀ b ∈ Fj, b ∉ X) := ⟨HJ.out.1.below bz, HJ.out.2.1.below HJ.out.1.lt bz, rm, om.mono HZ1.out.1.lt, fun b hb hx => by have := HJ.out.1.lt b hb; have := om.ge b hx; omega⟩
 clear hK bz rm om HS1 HZ1 hM
 refine tg 12 (.agg #[.int .i64 k, .int .i64 p, .slice aj lj cj, .int .i64 M.count, .int .i64 M.sum, .int .i64 M.min, .int .i64 M.max, .slice e1 r1 f1, .slice e2 r2 f2, .slice e3 r3 f3]) (H := ⟨HS2.out, ?_⟩)
 refine oq 13 (H := fun K hK => ?_)
 refine op_store 33 (w.heap.size + 1) #[.int .i64 0, .int .i64 0, .slice none 0 0, .int .i64 0, .int .i64 0, .int .i64 0, .int .i64 0, .slice none 0 0, .slice none 0 0, .slice none 0 0] #[.int .i64 k, .int .i64 p, .slice aj lj cj, .int .i64 M.count, .int .i64 M.sum, .int .i64 M.min, .int .i64 M.max, .slice e1 r1 f1, .slice e2 r2 f2, .slice e3 r3 f3] 33 rfl rfl rfl rfl HZ2.out.1 (by kernel_rfl) rfl (by simp [Value.oneCell']) (pk (h := hK _ _ ⟨HS2.out.setRow (by omega), ?_⟩))
 clear hK
 refine wpAnyH_done (by kernel_rfl) ?_ _
 have nf : w.heap.size + 1 ∉ Fj := fun hx => by have := HJ2.out.2.1.ge _ hx; omega
 have nx : w.heap.size + 1 ∉ X := fun hx => by have := HJ2.out.2.2.2.1.ge _ hx; omega
 obtain ⟨E, hE⟩ : ∃ E : Array Value, E = #[.int .i64 k, .int .i64 p, .slice aj lj cj, .int .i64 M.count, .int .i64 M.sum, .int .i64 M.min, .int .i64 M.max, .slice e1 r1 f1, .slice e2 r2 f2, .slice e3 r3 f3] := ⟨_, rfl⟩
 rw [← hE]
 obtain ⟨w3, hw3⟩ : ∃ W, W = w2.setRow (w.heap.size + 1) E := ⟨_, rfl⟩
 have HF : Hid (Blk w3 (w.heap.size + 1) E 33 ∧ RdP w3 aj lj ps Fj ∧ Own w.heap.size w3 Fj ∧ RdSk w3 (.agg #[.int .i64 M.count, .int .i64 M.sum, .int .i64 M.min, .int .i64 M.max, .slice e1 r1 f1, .slice e2 r2 f2, .slice e3 r3 f3]) M X ∧ Own w.heap.size w3 X ∧ (∀ b ∈ Fj, b ∉ X) ∧ Below w.heap.size w w3) := by
  rw [hw3]
  exact ⟨HZ2.out.1.setRow, HJ2.out.1.agree (Agree.row nf E), (HJ2.out.2.1.agree (Agree.row nf E)).mono (by omega), HJ2.out.2.2.1.agree (Agree.row nx E), (HJ2.out.2.2.2.1.agree (Agree.row nx E)).mono (by omega), HJ2.out.2.2.2.2, below_setRow HZ2.out.2 (by omega) _⟩
 have HE : Hid (E = #[.int .i64 k, .int .i64 p, .slice aj lj cj, .int .i64 M.count, .int .i64 M.sum, .int .i64 M.min, .int .i64 M.max, .slice e1 r1 f1, .slice e2 r2 f2, .slice e3 r3 f3] ∧ E.size = 10) := ⟨hE, by rw [hE]; rfl⟩
 rw [← hw3]
 clear hE hw3 HJ2 HZ2 HS2 nf nx
 go_wp2
 refine bodyPost_ret (results_cell_row Tryz.results105 _ _ (w.heap.size + 1) _ _ (0, 0) _ rfl HF.out.1 Tryz.underlying33 rfl (by rw [HE.out.2]; exact infoEnA)) rfl ?_
 have hM := HM.out
 subst hM
 exact ⟨_, Fj, X, rfl, ⟨aj, lj, cj, e1, r1, f1, e2, r2, f2, e3, r3, f3, by rw [HE.out.1], HF.out.2.1, HF.out.2.2.2.1, HJ.out.2.2⟩, HF.out.2.2.1, HF.out.2.2.2.2.1, HF.out.2.2.2.2.2.1, HF.out.2.2.2.2.2.2⟩
theorem entryAddImpl_any (v u : Value) (x y : En) (F F' G G' : List Nat) (w : World) (h : RdEn w v x F F') (k : RdEn w u y G G') (hx : x.sk.wide) (hy : y.sk.wide) (hlen : x.ids.length + y.ids.length ≤ 2097152) :
 Calls Tryz.prog 67 #[v, u] w fun e w' => NewEn2 w (x.addR y) (x.addOk y) e w' := by
 have HX : Hid (RdEn w v x F F' ∧ RdEn w u y G G' ∧ x.sk.wide ∧ y.sk.wide ∧ x.ids.length + y.ids.length ≤ 2097152) := ⟨h, k, hx, hy, hlen⟩
 obtain ⟨p, l, g, a1, n1, nc1, a2, n2, nc2, a3, n3, nc3, rfl, px, _, cx⟩ := h
 obtain ⟨q, k, j, b1, m1, mc1, b2, m2, mc2, b3, m3, mc3, rfl, py, _, cy⟩ := k
 have HT := three_madeE w #[.int .i64 x.key, .int .i64 x.window, .slice p l g, .int .i64 x.sk.count, .int .i64 x.sk.sum, .int .i64 x.sk.min, .int .i64 x.sk.max, .slice a1 n1 nc1, .slice a2 n2 nc2, .slice a3 n3 nc3] #[.int .i64 y.key, .int .i64 y.window, .slice q k j, .int .i64 y.sk.count, .int .i64 y.sk.sum, .int .i64 y.sk.min, .int .i64 y.sk.max, .slice b1 m1 mc1, .slice b2 m2 mc2, .slice b3 m3 mc3] #[.int .i64 0, .int .i64 0, .slice none 0 0, .int .i64 0, .int .i64 0, .int .i64 0, .int .i64 0, .slice none 0 0, .slice none 0 0, .slice none 0 0] 33
 have HTT : Hid (_ ∧ _ ∧ _ ∧ _) := HT
 clear px py hx hy hlen HT cx cy
 go_enter Tryz.func67, Tryz.ntmps67
 go_wp2_with (first | go_skip | (with_reducible refine stopLoad 33 rfl ?_) | (with_reducible refine stopStore 135 rfl ?_) | (with_reducible refine stopLoad 98 rfl ?_) | (with_reducible refine stopStore 33 rfl ?_))
 refine load_any 33 w.heap.size _ 33 _ HTT.out.1 rfl rfl rfl Tryz.underlying33 rfl (by kernel_rfl) ?_
 go_wp2_with fail
 refine (okHolding_any _ x F F' _ (HX.out.1.below HTT.out.2.2.2) HX.out.2.2.1 (by have := HX.out.2.2.2.2; omega)).mono ?_
 rintro e w1 ⟨kx, wx, ax, lx, cx, ys, rfl, hy, hok, hb1⟩
 have HY : Hid (ys.length = 28 ∧ (x.ok = true → kx = x.key ∧ wx = x.window ∧ ys = x.sk.tl ∧ RdP w1 ax lx x.ids F ∧ Capd ax lx cx)) := ⟨hy, fun e => by obtain ⟨h1, h2, h3, h4, h5⟩ := hok e; exact ⟨h1, h2, h3, h4.below hb1, h5⟩⟩
 have HB1 : Hid (Blk w1 (w.heap.size + 1) #[.int .i64 y.key, .int .i64 y.window, .slice q k j, .int .i64 y.sk.count, .int .i64 y.sk.sum, .int .i64 y.sk.min, .int .i64 y.sk.max, .slice b1 m1 mc1, .slice b2 m2 mc2, .slice b3 m3 mc3] 33 ∧ Blk w1 (w.heap.size + 1 + 1) #[.int .i64 0, .int .i64 0, .slice none 0 0, .int .i64 0, .int .i64 0, .int .i64 0, .int .i64 0, .slice none 0 0, .slice none 0 0, .slice none 0 0] 33 ∧ Below w.heap.size w w1) := ⟨HTT.out.2.1.below hb1, HTT.out.2.2.1.below hb1, Below.next HTT.out.2.2.2 hb1⟩
 have LZ1 : Hid (w.heap.size + 1 + 1 < w1.heap.size) := HB1.out.2.1.lt
 clear hy hok hb1 HTT
 obtain ⟨d1, hd1⟩ : ∃ d, d = x.ok := ⟨_, rfl⟩
 rw [← hd1]
 have HD1 : Hid (d1 = x.ok) := hd1
 clear hd1
 go_wp2_with (first | go_skip | (with_reducible refine stopLoad 33 rfl ?_) | (with_reducible refine stopStore 135 rfl ?_) | (with_reducible refine stopLoad 98 rfl ?_) | (with_reducible refine stopStore 33 rfl ?_))
 refine store_fresh 135 w1.heap.size rfl (hc 0 0 none 0 0 (List.replicate 28 0)) (hc kx wx ax lx cx ys) 135 rfl rfl rfl rfl (holdSize (hc_size HY.out.1)) (by rw [hc_size HY.out.1]; rfl) (hc_one ..) ?_
 intro W2 hg2 hb2
 have HG2 : Hid (HoldS w1.heap.size kx wx ax lx cx ys W2 ∧ Below w1.heap.size w1 W2) := ⟨holdS hg2, hb2⟩
 have HB2 : Hid (Blk W2 (w.heap.size + 1) #[.int .i64 y.key, .int .i64 y.window, .slice q k j, .int .i64 y.sk.count, .int .i64 y.sk.sum, .int .i64 y.sk.min, .int .i64 y.sk.max, .slice b1 m1 mc1, .slice b2 m2 mc2, .slice b3 m3 mc3] 33 ∧ Blk W2 (w.heap.size + 1 + 1) #[.int .i64 0, .int .i64 0, .slice none 0 0, .int .i64 0, .int .i64 0, .int .i64 0, .int .i64 0, .slice none 0 0, .slice none 0 0, .slice none 0 0] 33 ∧ Below w.heap.size w W2) := ⟨HB1.out.1.below hb2, HB1.out.2.1.below hb2, Below.next HB1.out.2.2 hb2⟩
 clear hg2 hb2 HB1
 go_wp2_with (first | go_skip | (with_reducible refine stopLoad 33 rfl ?_) | (with_reducible refine stopStore 135 rfl ?_) | (with_reducible refine stopLoad 98 rfl ?_) | (with_reducible refine stopStore 33 rfl ?_))
 refine load_any 33 (w.heap.size + 1) _ 33 _ HB2.out.1 rfl rfl rfl Tryz.underlying33 rfl (by kernel_rfl) ?_
 go_wp2_with fail
 refine (okHolding_any _ y G G' _ (HX.out.2.1.below HB2.out.2.2) HX.out.2.2.2.1 (by have := HX.out.2.2.2.2; omega)).mono ?_
 rintro e w3 ⟨ky, wy, ay, ly, cy, zs, rfl, hy, hok, hb3⟩
 have HY' : Hid (zs.length = 28 ∧ (y.ok = true → ky = y.key ∧ wy = y.window ∧ zs = y.sk.tl ∧ RdP w3 ay ly y.ids G ∧ Capd ay ly cy)) := ⟨hy, fun e => by obtain ⟨h1, h2, h3, h4, h5⟩ := hok e; exact ⟨h1, h2, h3, h4.below hb3, h5⟩⟩
 have HB3 : Hid (Blk w3 (w.heap.size + 1 + 1) #[.int .i64 0, .int .i64 0, .slice none 0 0, .int .i64 0, .int .i64 0, .int .i64 0, .int .i64 0, .slice none 0 0, .slice none 0 0, .slice none 0 0] 33 ∧ Below w.heap.size w w3 ∧ HoldS w1.heap.size kx wx ax lx cx ys w3 ∧ Below w1.heap.size w1 w3) := ⟨HB2.out.2.1.below hb3, Below.next HB2.out.2.2 hb3, HG2.out.1.below hb3, Below.next HG2.out.2 hb3⟩
 clear hy hok hb3 HB2 HG2
 obtain ⟨d2, hd2⟩ : ∃ d, d = y.ok := ⟨_, rfl⟩
 rw [← hd2]
 have HD2 : Hid (d2 = y.ok) := hd2
 clear hd2
 go_wp2_with (first | go_skip | (with_reducible refine stopLoad 33 rfl ?_) | (with_reducible refine stopStore 135 rfl ?_) | (with_reducible refine stopLoad 98 rfl ?_) | (with_reducible refine stopStore 33 rfl ?_))
 refine store_fresh 135 w3.heap.size rfl (hc 0 0 none 0 0 (List.replicate 28 0)) (hc ky wy ay ly cy zs) 135 rfl rfl rfl rfl (holdSize (hc_size HY'.out.1)) (by rw [hc_size HY'.out.1]; rfl) (hc_one ..) ?_
 intro W4 hg4 hb4
 have HS4 : Hid (HoldS w1.heap.size kx wx ax lx cx ys W4 ∧ HoldS w3.heap.size ky wy ay ly cy zs W4) := ⟨HB3.out.2.2.1.below hb4, holdS hg4⟩
 have HZ : Hid (Blk W4 (w.heap.size + 1 + 1) #[.int .i64 0, .int .i64 0, .slice none 0 0, .int .i64 0, .int .i64 0, .int .i64 0, .int .i64 0, .slice none 0 0, .slice none 0 0, .slice none 0 0] 33 ∧ Below w.heap.size w W4) := ⟨HB3.out.1.below hb4, Below.next HB3.out.2.1 hb4⟩
 have HL4 : Hid (Below w1.heap.size w1 W4 ∧ Below w3.heap.size w3 W4) := ⟨Below.next HB3.out.2.2.2 hb4, hb4⟩
 have LZ : Hid (w.heap.size + 1 + 1 < w1.heap.size ∧ w1.heap.size < w3.heap.size) := ⟨LZ1.out, HB3.out.2.2.1.1.lt⟩
 clear hg4 hb4 HB3
 cases d1
 ·
  have HV : Hid (x.addOk y = false) := by show _ = _; unfold En.addOk; rw [← HD1.out]; rfl
  go_wp2_with (first | go_skip | (with_reducible refine stopLoad 33 rfl ?_) | (with_reducible refine stopStore 135 rfl ?_) | (with_reducible refine stopLoad 98 rfl ?_) | (with_reducible refine stopStore 33 rfl ?_))
  refine store_known 33 (w.heap.size + 1 + 1) _ #[.int .i64 0, .int .i64 0, .slice none 0 0, .int .i64 0, .int .i64 0, .int .i64 0, .int .i64 0, .slice none 0 0, .slice none 0 0, .slice none 0 0] 33 HZ.out.1 rfl rfl rfl rfl (by kernel_rfl) rfl (by kernel_rfl) ?_
  go_wp2
  refine bodyPost_ret (results_row_tmp Tryz.results67 _ _ (w.heap.size + 1 + 1) _ _ _ _ rfl HZ.out.1.setRow Tryz.underlying33 rfl (by kernel_rfl)) rfl ?_
  rw [HV.out, En.addR_not HV.out]
  exact ⟨_, [], [], rfl, rdEn_zero _, Own.nil, Own.nil, by simp, below_setRow HZ.out.2 (by omega) _⟩
 cases d2
 ·
  have HV : Hid (x.addOk y = false) := by show _ = _; unfold En.addOk; rw [← HD1.out, ← HD2.out]; rfl
  go_wp2_with (first | go_skip | (with_reducible refine stopLoad 33 rfl ?_) | (with_reducible refine stopStore 135 rfl ?_) | (with_reducible refine stopLoad 98 rfl ?_) | (with_reducible refine stopStore 33 rfl ?_))
  refine store_known 33 (w.heap.size + 1 + 1) _ #[.int .i64 0, .int .i64 0, .slice none 0 0, .int .i64 0, .int .i64 0, .int .i64 0, .int .i64 0, .slice none 0 0, .slice none 0 0, .slice none 0 0] 33 HZ.out.1 rfl rfl rfl rfl (by kernel_rfl) rfl (by kernel_rfl) ?_
  go_wp2
  refine bodyPost_ret (results_row_tmp Tryz.results67 _ _ (w.heap.size + 1 + 1) _ _ _ _ rfl HZ.out.1.setRow Tryz.underlying33 rfl (by kernel_rfl)) rfl ?_
  rw [HV.out, En.addR_not HV.out]
  exact ⟨_, [], [], rfl, rdEn_zero _, Own.nil, Own.nil, by simp, below_setRow HZ.out.2 (by omega) _⟩
 obtain ⟨ek, ew, ey, hpx, hcx⟩ := HY.out.2 HD1.out.symm
 obtain ⟨fk, fw, fz, hpy, hcy⟩ := HY'.out.2 HD2.out.symm
 subst ek ew fk fw
 have HP : Hid (RdP W4 ax lx x.ids F ∧ RdP W4 ay ly y.ids G ∧ Capd ax lx cx ∧ Capd ay ly cy ∧ lx + ly ≤ 2097152) := ⟨hpx.below HL4.out.1, hpy.below HL4.out.2, hcx, hcy, by rw [← hpx.length, ← hpy.length]; exact HX.out.2.2.2.2⟩
 have HE : Hid (ys = x.sk.tl ∧ zs = y.sk.tl) := ⟨ey, fz⟩
 clear ey fz hpx hpy hcx hcy
 have q1 : ∀ W, HoldS w1.heap.size x.key x.window ax lx cx ys W → W.cell? ⟨w1.heap.size, 2, none⟩ = some (.slice ax lx cx) := fun W h => h.2.2.2
 go_wp2_with (first | go_skip | (with_reducible refine stopLoad 33 rfl ?_) | (with_reducible refine stopStore 135 rfl ?_) | (with_reducible refine stopLoad 98 rfl ?_) | (with_reducible refine stopStore 33 rfl ?_))
 refine load_cutw 98 w1.heap.size 0 2 _ #[.int .i64 x.key, .int .i64 x.window] 135 _ HS4.out.1.1 rfl rfl rfl Tryz.underlying98 rfl infoPlace (by rw [hc_size HY.out.1]; omega) (cutOf_place ..) ?_
 go_wp2_with (first | go_skip | (with_reducible refine stopLoad 33 rfl ?_) | (with_reducible refine stopStore 135 rfl ?_) | (with_reducible refine stopLoad 98 rfl ?_) | (with_reducible refine stopStore 33 rfl ?_))
 refine load_cutw 98 w3.heap.size 0 2 _ #[.int .i64 y.key, .int .i64 y.window] 135 _ HS4.out.2.1 rfl rfl rfl Tryz.underlying98 rfl infoPlace (by rw [hc_size HY'.out.1]; omega) (cutOf_place ..) ?_
 clear q1
 by_cases c1 : x.key = y.key
 rotate_left
 ·
  have HV : Hid (x.addOk y = false) := by show _ = _; unfold En.addOk; rw [dec_false c1]; simp
  have z1 : (x.key == y.key) = false := by simpa using c1
  clear c1
  go_wp2_with (first | go_skip | (with_reducible refine stopLoad 33 rfl ?_) | (with_reducible refine stopStore 135 rfl ?_) | (with_reducible refine stopLoad 98 rfl ?_) | (with_reducible refine stopStore 33 rfl ?_))
  refine store_known 33 (w.heap.size + 1 + 1) _ #[.int .i64 0, .int .i64 0, .slice none 0 0, .int .i64 0, .int .i64 0, .int .i64 0, .int .i64 0, .slice none 0 0, .slice none 0 0, .slice none 0 0] 33 HZ.out.1 rfl rfl rfl rfl (by kernel_rfl) rfl (by kernel_rfl) ?_
  go_wp2
  refine bodyPost_ret (results_row_tmp Tryz.results67 _ _ (w.heap.size + 1 + 1) _ _ _ _ rfl HZ.out.1.setRow Tryz.underlying33 rfl (by kernel_rfl)) rfl ?_
  rw [HV.out, En.addR_not HV.out]
  exact ⟨_, [], [], rfl, rdEn_zero _, Own.nil, Own.nil, by simp, below_setRow HZ.out.2 (by omega) _⟩
 by_cases c2 : x.window = y.window
 rotate_left
 ·
  have HV : Hid (x.addOk y = false) := by show _ = _; unfold En.addOk; rw [dec_false c2]; simp
  have z1 : (x.key == y.key) = true := by simpa using c1
  have z2 : (x.window == y.window) = false := by simpa using c2
  clear c1 c2
  go_wp2_with (first | go_skip | (with_reducible refine stopLoad 33 rfl ?_) | (with_reducible refine stopStore 135 rfl ?_) | (with_reducible refine stopLoad 98 rfl ?_) | (with_reducible refine stopStore 33 rfl ?_))
  refine store_known 33 (w.heap.size + 1 + 1) _ #[.int .i64 0, .int .i64 0, .slice none 0 0, .int .i64 0, .int .i64 0, .int .i64 0, .int .i64 0, .slice none 0 0, .slice none 0 0, .slice none 0 0] 33 HZ.out.1 rfl rfl rfl rfl (by kernel_rfl) rfl (by kernel_rfl) ?_
  go_wp2
  refine bodyPost_ret (results_row_tmp Tryz.results67 _ _ (w.heap.size + 1 + 1) _ _ _ _ rfl HZ.out.1.setRow Tryz.underlying33 rfl (by kernel_rfl)) rfl ?_
  rw [HV.out, En.addR_not HV.out]
  exact ⟨_, [], [], rfl, rdEn_zero _, Own.nil, Own.nil, by simp, below_setRow HZ.out.2 (by omega) _⟩
 have z1 : (x.key == y.key) = true := by simpa using c1
 have z2 : (x.window == y.window) = true := by simpa using c2
 have HC : Hid (x.addOk y = x.ids.apart y.ids) := by show _ = _; unfold En.addOk; rw [← HD1.out, ← HD2.out, dec_true c1, dec_true c2]; rfl
 clear c1 c2
 have k1 := HS4.out.1.2.2.2
 have k2 := HS4.out.2.2.2.2
 go_wp2_with fail
 refine (apartImpl_any ax ay lx ly cx cy x.ids y.ids F G _ HP.out.1 HP.out.2.1 (by have := HP.out.2.2.2.2; omega) (by have := HP.out.2.2.2.2; omega) HP.out.2.2.1.2 HP.out.2.2.2.1.2).mono ?_
 rintro e w5 ⟨rfl, hb5⟩
 have HZ5 : Hid (Blk w5 (w.heap.size + 1 + 1) #[.int .i64 0, .int .i64 0, .slice none 0 0, .int .i64 0, .int .i64 0, .int .i64 0, .int .i64 0, .slice none 0 0, .slice none 0 0, .slice none 0 0] 33 ∧ Below w.heap.size w w5) := ⟨HZ.out.1.below hb5, Below.next HZ.out.2 hb5⟩
 have HS5 : Hid (HoldS w1.heap.size x.key x.window ax lx cx ys w5 ∧ HoldS w3.heap.size y.key y.window ay ly cy zs w5) := ⟨HS4.out.1.below hb5, HS4.out.2.below hb5⟩
 have HP5 : Hid (RdP w5 ax lx x.ids F ∧ RdP w5 ay ly y.ids G) := ⟨HP.out.1.below hb5, HP.out.2.1.below hb5⟩
 clear hb5 HS4 HZ HL4 k1 k2 z1 z2
 obtain ⟨d3, hd3⟩ : ∃ d, d = x.ids.apart y.ids := ⟨_, rfl⟩
 rw [← hd3] at HC ⊢
 clear hd3
 have HZ := HZ5
 cases d3
 ·
  have HV : Hid (x.addOk y = false) := HC
  go_wp2_with (first | go_skip | (with_reducible refine stopLoad 33 rfl ?_) | (with_reducible refine stopStore 135 rfl ?_) | (with_reducible refine stopLoad 98 rfl ?_) | (with_reducible refine stopStore 33 rfl ?_))
  refine store_known 33 (w.heap.size + 1 + 1) _ #[.int .i64 0, .int .i64 0, .slice none 0 0, .int .i64 0, .int .i64 0, .int .i64 0, .int .i64 0, .slice none 0 0, .slice none 0 0, .slice none 0 0] 33 HZ.out.1 rfl rfl rfl rfl (by kernel_rfl) rfl (by kernel_rfl) ?_
  go_wp2
  refine bodyPost_ret (results_row_tmp Tryz.results67 _ _ (w.heap.size + 1 + 1) _ _ _ _ rfl HZ.out.1.setRow Tryz.underlying33 rfl (by kernel_rfl)) rfl ?_
  rw [HV.out, En.addR_not HV.out]
  exact ⟨_, [], [], rfl, rdEn_zero _, Own.nil, Own.nil, by simp, below_setRow HZ.out.2 (by omega) _⟩
 have k1 := HS5.out.1.2.2.2
 have k2 := HS5.out.2.2.2.2
 go_wp2_with fail
 refine (joinImpl_any ax ay lx ly cx cy x.ids y.ids F G _ HP5.out.1 HP5.out.2 HP.out.2.2.2.2 HP.out.2.2.1.2).mono ?_
 rintro e w6 ⟨aj, lj, cj, Fj, rfl, rj, oj, bj, hcj⟩
 have HJ : Hid (RdP w6 aj lj (x.ids.join y.ids) Fj ∧ lj ≤ 2097152) := ⟨rj, by rw [← rj.length]; have := join_length x.ids y.ids; have := HX.out.2.2.2.2; omega⟩
 have HZ6 : Hid (Blk w6 (w.heap.size + 1 + 1) #[.int .i64 0, .int .i64 0, .slice none 0 0, .int .i64 0, .int .i64 0, .int .i64 0, .int .i64 0, .slice none 0 0, .slice none 0 0, .slice none 0 0] 33 ∧ Below w.heap.size w w6) := ⟨HZ.out.1.below bj, Below.next HZ.out.2 bj⟩
 have HS6 : Hid (HoldS w1.heap.size x.key x.window ax lx cx ys w6 ∧ HoldS w3.heap.size y.key y.window ay ly cy zs w6) := ⟨HS5.out.1.below bj, HS5.out.2.below bj⟩
 clear rj oj bj hcj HS5 HZ5 HP5 HZ k1 k2
 obtain ⟨dj, hdj⟩ : ∃ d, d = (x.ids.ok && y.ids.ok) := ⟨_, rfl⟩
 rw [← hdj]
 clear hdj
 go_wp2
 have HS : Hid (HoldS w1.heap.size x.key x.window ax lx cx ys w6.drew ∧ HoldS w3.heap.size y.key y.window ay ly cy zs w6.drew) := ⟨holdS HS6.out.1.1.drew, holdS HS6.out.2.1.drew⟩
 have HZ : Hid (Blk w6.drew (w.heap.size + 1 + 1) #[.int .i64 0, .int .i64 0, .slice none 0 0, .int .i64 0, .int .i64 0, .int .i64 0, .int .i64 0, .slice none 0 0, .slice none 0 0, .slice none 0 0] 33 ∧ Below w.heap.size w w6.drew) := ⟨HZ6.out.1.drew, HZ6.out.2.drew⟩
 have HJ : Hid (RdP w6.drew aj lj (x.ids.join y.ids) Fj ∧ lj ≤ 2097152) := ⟨HJ.out.1.below (Below.refl _ _).drew, HJ.out.2⟩
 obtain ⟨W7, hW7⟩ : ∃ W, W = w6.drew := ⟨_, rfl⟩
 have HSS : ∀ W W', (HoldS w1.heap.size x.key x.window ax lx cx ys W ∧ HoldS w3.heap.size y.key y.window ay ly cy zs W) → Below W.heap.size W W' → (HoldS w1.heap.size x.key x.window ax lx cx ys W' ∧ HoldS w3.heap.size y.key y.window ay ly cy zs W') := fun W W' h b => ⟨h.1.below b, h.2.below b⟩
 refine wp_region_held (S := fun W => HoldS w1.heap.size x.key x.window ax lx cx ys W ∧ HoldS w3.heap.size y.key y.window ay ly cy zs W) (by kernel_rfl) ?_
 change wpAnyH _ _ _ _ _ _ _ _ (World.drew _)
 rw [← hW7] at HS HZ HJ ⊢
 clear hW7 HS6 HZ6
 refine tg 0 (.pointer (some ⟨w1.heap.size, 0, none⟩)) (H := ⟨HS.out, ?_⟩)
 refine tk 1 (.agg #[.int .i64 x.key, .int .i64 x.window]) (H := ⟨(yields_cut 98 w1.heap.size 0 2 _ #[.int .i64 x.key, .int .i64 x.window] 135 _ rfl rfl rfl Tryz.underlying98 rfl infoPlace (by rw [hc_size HY.out.1]; omega) (cutOf_place ..) (fun W hW => hW.1.1)), HS.out, ?_⟩)
 refine tg 2 (.slice aj lj cj) (H := ⟨HS.out, ?_⟩)
 refine tg 3 (.pointer (some ⟨w1.heap.size, 3, none⟩)) (H := ⟨HS.out, ?_⟩)
 refine tk 4 (.agg (tc ys)) (H := ⟨(yields_cut 118 w1.heap.size 3 28 _ (tc ys) 135 _ rfl rfl rfl Tryz.underlying118 rfl infoTally (by rw [hc_size HY.out.1]; omega) (cutOf_hc HY.out.1) (fun W hW => hW.1.1)), HS.out, ?_⟩)
 refine tg 5 (.pointer (some ⟨w3.heap.size, 3, none⟩)) (H := ⟨HS.out, ?_⟩)
 refine tk 6 (.agg (tc zs)) (H := ⟨(yields_cut 118 w3.heap.size 3 28 _ (tc zs) 135 _ rfl rfl rfl Tryz.underlying118 rfl infoTally (by rw [hc_size HY'.out.1]; omega) (cutOf_hc HY'.out.1) (fun W hW => hW.2.1)), HS.out, ?_⟩)
 refine oq 7 (H := fun K hK => ?_)
 refine op_call2' 104 _ _ _ Tryz.f104 (fun v w' => v = .agg (tc (plusL ys zs 28)) ∧ Below W7.heap.size W7 w') rfl rfl Tryz.func104 (by kernel_rfl) (by kernel_rfl) ((plus_any ys zs W7 HY.out.1 HY'.out.1).mono (by rintro e w' ⟨rfl, h1⟩; exact ⟨_, rfl, rfl, h1⟩)) ?_
 rintro _ W8 ⟨rfl, bz⟩
 refine pk (h := hK _ _ ⟨HSS _ _ HS.out bz, ?_⟩)
 have HS8 : Hid (HoldS w1.heap.size x.key x.window ax lx cx ys W8 ∧ HoldS w3.heap.size y.key y.window ay ly cy zs W8) := HSS _ _ HS.out bz
 have HZ8 : Hid (Blk W8 (w.heap.size + 1 + 1) #[.int .i64 0, .int .i64 0, .slice none 0 0, .int .i64 0, .int .i64 0, .int .i64 0, .int .i64 0, .slice none 0 0, .slice none 0 0, .slice none 0 0] 33 ∧ Below w.heap.size w W8) := ⟨HZ.out.1.below bz, Below.next HZ.out.2 bz⟩
 have HJ8 : Hid (RdP W8 aj lj (x.ids.join y.ids) Fj ∧ lj ≤ 2097152) := ⟨HJ.out.1.below bz, HJ.out.2⟩
 clear hK bz HS HZ HJ
 refine tk 8 (.agg (hc x.key x.window aj lj cj (plusL ys zs 28))) (H := ⟨(.inl ⟨rfl, fun W _ => by unfold execOp; simp only [List.map_toArray, List.map_cons, List.map_nil]; exact value_ok (build_hold _ _ _ _ _ _ _ (plusL_length _ _ _))⟩), HS8.out, ?_⟩)
 refine oq 9 (H := fun K hK => ?_)
 refine op_call1 105 _ _ Tryz.f105 (fun v w' => ∃ X Y, RdEn w' v ⟨x.key, x.window, x.ids.join y.ids, skOf (plusL ys zs 28)⟩ X Y ∧ Own W8.heap.size w' X ∧ Own W8.heap.size w' Y ∧ (∀ b ∈ X, b ∉ Y) ∧ Below W8.heap.size W8 w') rfl rfl Tryz.func105 (by kernel_rfl) (by kernel_rfl) ((holdEntry_any x.key x.window aj lj cj (x.ids.join y.ids) (plusL ys zs 28) Fj W8 HJ8.out.1 HJ8.out.2 (plusL_length _ _ _)).mono (by rintro e w' ⟨v, X, Y, rfl, h1, h2, h3, h4, h5⟩; exact ⟨_, rfl, X, Y, h1, h2, h3, h4, h5⟩)) ?_
 rintro vm W9 ⟨X, Y, rm, oX, oY, hXY, bz⟩
 have hT : (⟨x.key, x.window, x.ids.join y.ids, skOf (plusL ys zs 28)⟩ : En) = x.addR y := by
  rw [En.addR_yes (HC.out), HE.out.1, HE.out.2]
  unfold En.add
  rw [merge_tl (En.ok_sk HD1.out.symm) (En.ok_sk HD2.out.symm), Sp.join_yes (En.ok_ids HD1.out.symm).1 (En.ok_ids HD2.out.symm).1]
 rw [hT] at rm
 obtain ⟨E, rfl, hE10, hE1⟩ := (show RdE W9 vm (x.addR y) (X ++ Y) from ⟨X, Y, rfl, rm⟩).cells
 refine pk (h := hK _ _ ⟨HSS _ _ HS8.out bz, ?_⟩)
 have HS9 : Hid (HoldS w1.heap.size x.key x.window ax lx cx ys W9 ∧ HoldS w3.heap.size y.key y.window ay ly cy zs W9) := HSS _ _ HS8.out bz
 have HZ9 : Hid (Blk W9 (w.heap.size + 1 + 1) #[.int .i64 0, .int .i64 0, .slice none 0 0, .int .i64 0, .int .i64 0, .int .i64 0, .int .i64 0, .slice none 0 0, .slice none 0 0, .slice none 0 0] 33 ∧ Below w.heap.size w W9) := ⟨HZ8.out.1.below bz, Below.next HZ8.out.2 bz⟩
 have HR9 : Hid (RdEn W9 (.agg E) (x.addR y) X Y ∧ Own (w.heap.size + 3) W9 X ∧ Own (w.heap.size + 3) W9 Y ∧ (∀ b ∈ X, b ∉ Y) ∧ E.size = 10 ∧ E.all (·.oneCell') = true) := ⟨rm, oX.mono HZ8.out.1.lt, oY.mono HZ8.out.1.lt, hXY, hE10, hE1⟩
 clear hK bz rm oX oY hXY hT hE10 hE1 HS8 HZ8 HJ8
 refine oq 10 (H := fun K hK => ?_)
 refine op_store 33 (w.heap.size + 1 + 1) #[.int .i64 0, .int .i64 0, .slice none 0 0, .int .i64 0, .int .i64 0, .int .i64 0, .int .i64 0, .slice none 0 0, .slice none 0 0, .slice none 0 0] E 33 rfl rfl rfl rfl HZ9.out.1 (enSizeA HR9.out.2.2.2.2.1) HR9.out.2.2.2.2.1.symm HR9.out.2.2.2.2.2 (pk (h := hK _ _ ⟨⟨HS9.out.1.setRow (by have := LZ.out; omega), HS9.out.2.setRow (by have := LZ.out; omega)⟩, ?_⟩))
 clear hK
 have HSF : Hid (HoldS w1.heap.size x.key x.window ax lx cx ys (W9.setRow (w.heap.size + 1 + 1) E) ∧ HoldS w3.heap.size y.key y.window ay ly cy zs (W9.setRow (w.heap.size + 1 + 1) E)) := ⟨HS9.out.1.setRow (by have := LZ.out; omega), HS9.out.2.setRow (by have := LZ.out; omega)⟩
 refine tg 11 (.bool true) (H := ⟨HSF.out, ?_⟩)
 refine wpAnyH_done (by kernel_rfl) ?_ _
 go_wp2
 refine bodyPost_ret (results_row_tmp Tryz.results67 _ _ (w.heap.size + 1 + 1) _ _ _ _ rfl HZ9.out.1.setRow Tryz.underlying33 rfl (enSizeA HR9.out.2.2.2.2.1)) rfl ?_
 have nX : w.heap.size + 1 + 1 ∉ X := fun hx => by have := HR9.out.2.1.ge _ hx; omega
 have nY : w.heap.size + 1 + 1 ∉ Y := fun hx => by have := HR9.out.2.2.1.ge _ hx; omega
 exact ⟨_, X, Y, by rw [HC.out]; rfl, HR9.out.1.agree (Agree.row nX E) (Agree.row nY E), (HR9.out.2.1.agree (Agree.row nX E)).mono (by omega), (HR9.out.2.2.1.agree (Agree.row nY E)).mono (by omega), HR9.out.2.2.2.1, below_setRow HZ9.out.2 (by omega) _⟩
end
section
set_option maxRecDepth 200000
set_option maxHeartbeats 16000000
open Go.RowKit
theorem addImplE_any (v u : Value) (x y : En) (F G : List Nat) (w : World) (h : RdE w v x F) (k : RdE w u y G) (hx : x.wide) (hy : y.wide) :
 Calls Tryz.prog 67 #[v, u] w fun e w' => ∃ v' F, e = .returned (.tuple #[v', .bool (x.addOk y)]) ∧ RdE w' v' (x.addR y) F ∧ Own w.heap.size w' F ∧ Below w.heap.size w w' := by
 obtain ⟨F1, F2, rfl, h⟩ := h
 obtain ⟨G1, G2, rfl, k⟩ := k
 refine (entryAddImpl_any v u x y F1 F2 G1 G2 w h k hx.1 hy.1 (by have := hx.2; have := hy.2; omega)).mono ?_
 rintro e w' ⟨v', F', G', rfl, r, o, o', d, b⟩
 exact ⟨v', F' ++ G', rfl, ⟨F', G', rfl, r⟩, o.app o' d, b⟩
structure PuW (w : World) (A : Array Value) (es : Array Value) (W : World) : Prop where
 box : Blk W w.heap.size A 60
 en : Blk W (w.heap.size + 1) es 33
 res : Blk W (w.heap.size + 1 + 1) #[.slice none 0 0] 60
 bel : Below w.heap.size w W
theorem PuW.below {w W W' : World} {A es : Array Value} (h : PuW w A es W) (b : Below W.heap.size W W') : PuW w A es W' := ⟨h.box.below b, h.en.below b, h.res.below b, Below.next h.bel b⟩
theorem PuW.made (w : World) (A es : Array Value) : PuW w A es (((w.alloc (.cells A 60)).alloc (.cells es 33)).alloc (.cells #[.slice none 0 0] 60)) :=
 ⟨((Blk.made _ _ _).alloc _).alloc _, (Blk.made_eq (by simp)).alloc _, Blk.made_eq (by simp), Below.allocW _ (Below.allocW _ (Below.allocW _ (Below.refl _ _) (Nat.le_refl _)) (by simp)) (by simp <;> omega)⟩
theorem PuW.size {w W : World} {A es : Array Value} (h : PuW w A es W) : w.heap.size + 3 ≤ W.heap.size := h.res.lt
def Pushed (w : World) (xs : List En) (F G : List Nat) (r : Ending) (w' : World) : Prop := ∃ v', r = .returned (.agg #[v']) ∧ ∃ H, Shal w xs v' H w' ∧ ∀ b ∈ H, b ∈ F ∨ b ∈ G ∨ w.heap.size ≤ b
def PushedA (w : World) (xs : List En) (F G : List Nat) (r : Ending) (w' : World) : Prop := ∃ v', r = .returned (.agg #[v']) ∧ ∃ H, Shal w xs v' H w' ∧ (∀ b ∈ H, b ∈ F ∨ b ∈ G ∨ w.heap.size ≤ b) ∧ ∀ g n c, v' = .slice (some ⟨g, 0, none⟩) n c → g ∉ H ∧ w.heap.size ≤ g
theorem Shal.apart {w w' : World} {xs : List En} {v : Value} {H : List Nat} (h : Shal w xs v H w') (hp : 0 < xs.length) {m : Nat} (hm : m ≤ w.heap.size) (hl : ∀ b ∈ H, b < w.heap.size) : ∀ g n c, v = .slice (some ⟨g, 0, none⟩) n c → g ∉ H ∧ m ≤ g := by
 intro g n c e
 obtain ⟨g', cap, e', _, _, hge, _⟩ := h.row hp
 rw [e'] at e
 injection e with e1
 injection e1 with e1
 injection e1 with e1
 subst e1
 exact ⟨fun hx => by have := hl _ hx; omega, by omega⟩
theorem pushed_gen (v u : Value) (x : Rw) (F : List Nat) (e : En) (G : List Nat) (join : Bool) (w : World) (h : RdRw w v x F) (k : RdE w u e G) (hw : ∀ y ∈ x.list, y.wide) (he : e.wide) (hl : x.list.length ≤ 2097151) :
 Calls Tryz.prog 28 #[v, u, .bool join] w fun r w' => PushedA w (pushL x.list e join) F G r w' := by
 have HH : Hid (RdRw w v x F ∧ RdE w u e G ∧ (∀ y ∈ x.list, y.wide) ∧ e.wide ∧ x.list.length ≤ 2097151) := ⟨h, k, hw, he, hl⟩
 obtain ⟨es, rfl, hes, hes1⟩ := RdE.cells k
 have HE : Hid (es.size = 10 ∧ es.all (·.oneCell') = true) := ⟨hes, hes1⟩
 obtain ⟨a, n, c, rfl, hL, hcp⟩ := h
 have HL : Hid (RdL enK w a n x.list F ∧ x.list.length = n) := ⟨hL, hL.length⟩
 have hn : n ≤ 2097151 := by rw [← hL.length]; exact hl
 have HP : Hid (PuW w #[.slice a n c] es _) := PuW.made w #[.slice a n c] es
 clear k hw he hl hes hes1 hL hcp
 go_enter Tryz.func28, Tryz.ntmps28
 go_wp2_with fail
 refine (indexFunc_any a n c x.list F e es G (w.heap.size + 1) _ (HL.out.1.below HP.out.bel) (HH.out.2.1.below HP.out.bel) HP.out.en (by omega)).mono ?_
 rintro r w1 ⟨rfl, hb⟩
 have HP1 : Hid (PuW w #[.slice a n c] es w1) := HP.out.below hb
 clear hb HP
 by_cases hno : join = false ∨ hitAt x.list e = none
 ·
  have HV : Hid (pushL x.list e join = x.list ++ [e]) := pushL_none hno
  obtain ⟨i, hi⟩ : ∃ i, i = idxV (hitAt x.list e) := ⟨_, rfl⟩
  rw [← hi]
  have hneg : join = true → i < 0 := fun hj => by
   rcases hno with h | h
   ·
    rw [hj] at h; cases h
   ·
    rw [hi, h]; decide
  have HD : Hid (True) := trivial
  clear hno hi
  cases join
  ·
   clear hneg
   go_wp2_with (first | go_skip | (with_reducible refine stopLoad 60 rfl ?_) | (with_reducible refine stopLoad 33 rfl ?_))
   refine load_any 60 w.heap.size #[.slice a n c] 60 _ HP1.out.box rfl rfl rfl Tryz.underlying60 rfl infoQI2 ?_
   go_wp2_with (first | go_skip | (with_reducible refine stopLoad 33 rfl ?_))
   refine load_any 33 (w.heap.size + 1) es 33 _ HP1.out.en rfl rfl rfl Tryz.underlying33 rfl (enSize HE.out.1) ?_
   go_wp2_with fail
   refine (behind_any _ _ x F e G _ (HH.out.1.below HP1.out.bel) (HH.out.2.1.below HP1.out.bel) (by have := HH.out.2.2.2.2; omega)).mono ?_
   rintro r w2 ⟨v', rfl, H, hS, hH⟩
   obtain ⟨g, m, cap, rfl⟩ := hS.val (by simp)
   have HS : Hid (Shal w1 (x.list ++ [e]) (.slice (some ⟨g, 0, none⟩) m cap) H w2 ∧ (∀ b ∈ H, b ∈ F ∨ b ∈ G) ∧ Blk w2 (w.heap.size + 1 + 1) #[.slice none 0 0] 60 ∧ w.heap.size + 1 + 1 ∉ H) := ⟨hS, hH, HP1.out.res.below hS.choose_spec.2.2.2, fun hx => by
     rcases hH _ hx with h | h
     · have := HL.out.1.lt _ h; omega
     · have := HH.out.2.1.lt _ h; omega⟩
   clear hS hH
   go_wp2_with (first | go_skip | (with_reducible refine stopStore 60 rfl ?_))
   refine store_known 60 (w.heap.size + 1 + 1) _ #[.slice (some ⟨g, 0, none⟩) m cap] 60 HS.out.2.2.1 rfl rfl rfl rfl infoQI2 rfl (by simp [Value.oneCell']) ?_
   go_wp2
   refine bodyPost_ret (results_cell_row Tryz.results28 _ _ (w.heap.size + 1 + 1) _ _ (0, 0) _ rfl HS.out.2.2.1.setRow Tryz.underlying60 rfl infoQI2) rfl ?_
   rw [HV.out]
   exact ⟨_, rfl, H, HS.out.1.into HP1.out.bel (by omega) (by have := HP1.out.size; omega) HS.out.2.2.2 _, fun b hb => (HS.out.2.1 b hb).imp id .inl, HS.out.1.apart (by simp) (by have := HP1.out.size; omega) (fun b hb => by
     have := HP1.out.size
     rcases HS.out.2.1 b hb with h | h
     · have := HL.out.1.lt _ h; omega
     · have := HH.out.2.1.lt _ h; omega)⟩
  ·
   have hi0 : i < 0 := hneg rfl
   clear hneg
   go_wp2_with (first | go_skip | (with_reducible refine stopLoad 60 rfl ?_) | (with_reducible refine stopLoad 33 rfl ?_))
   refine load_any 60 w.heap.size #[.slice a n c] 60 _ HP1.out.box rfl rfl rfl Tryz.underlying60 rfl infoQI2 ?_
   go_wp2_with (first | go_skip | (with_reducible refine stopLoad 33 rfl ?_))
   refine load_any 33 (w.heap.size + 1) es 33 _ HP1.out.en rfl rfl rfl Tryz.underlying33 rfl (enSize HE.out.1) ?_
   go_wp2_with fail
   refine (behind_any _ _ x F e G _ (HH.out.1.below HP1.out.bel) (HH.out.2.1.below HP1.out.bel) (by have := HH.out.2.2.2.2; omega)).mono ?_
   rintro r w2 ⟨v', rfl, H, hS, hH⟩
   obtain ⟨g, m, cap, rfl⟩ := hS.val (by simp)
   have HS : Hid (Shal w1 (x.list ++ [e]) (.slice (some ⟨g, 0, none⟩) m cap) H w2 ∧ (∀ b ∈ H, b ∈ F ∨ b ∈ G) ∧ Blk w2 (w.heap.size + 1 + 1) #[.slice none 0 0] 60 ∧ w.heap.size + 1 + 1 ∉ H) := ⟨hS, hH, HP1.out.res.below hS.choose_spec.2.2.2, fun hx => by
     rcases hH _ hx with h | h
     · have := HL.out.1.lt _ h; omega
     · have := HH.out.2.1.lt _ h; omega⟩
   clear hS hH
   go_wp2_with (first | go_skip | (with_reducible refine stopStore 60 rfl ?_))
   refine store_known 60 (w.heap.size + 1 + 1) _ #[.slice (some ⟨g, 0, none⟩) m cap] 60 HS.out.2.2.1 rfl rfl rfl rfl infoQI2 rfl (by simp [Value.oneCell']) ?_
   go_wp2
   refine bodyPost_ret (results_cell_row Tryz.results28 _ _ (w.heap.size + 1 + 1) _ _ (0, 0) _ rfl HS.out.2.2.1.setRow Tryz.underlying60 rfl infoQI2) rfl ?_
   rw [HV.out]
   exact ⟨_, rfl, H, HS.out.1.into HP1.out.bel (by omega) (by have := HP1.out.size; omega) HS.out.2.2.2 _, fun b hb => (HS.out.2.1 b hb).imp id .inl, HS.out.1.apart (by simp) (by have := HP1.out.size; omega) (fun b hb => by
     have := HP1.out.size
     rcases HS.out.2.1 b hb with h | h
     · have := HL.out.1.lt _ h; omega
     · have := HH.out.2.1.lt _ h; omega)⟩
 ·
  obtain ⟨k, hk⟩ : ∃ k, hitAt x.list e = some k := by cases hh : hitAt x.list e; exact absurd (.inr hh) hno; exact ⟨_, rfl⟩
  have hj : join = true := by cases join; exact absurd (.inl rfl) hno; rfl
  subst hj
  obtain ⟨y, hy, _, _⟩ := hitAt_lt hk
  have HV : Hid (pushL x.list e true = x.list.set k (y.addR e)) := pushL_hit hk hy
  have hkn : k < n := by rw [← HL.out.2]; exact (List.getElem?_eq_some_iff.1 hy).1
  rw [hk]
  have hI : (k : Int) < (n : Int) := by omega
  have hI0 : ¬ ((k : Int) < 0) := by omega
  obtain ⟨b, off, y', cs, Fi, rfl, hbw, hy', hcs, hcc, hr⟩ := ens_at HL.out.1 hkn
  rw [hy] at hy'; cases hy'
  have HY : Hid (RdE w (.agg cs) y Fi ∧ cs.size = 10 ∧ y.wide ∧ x.list[k]? = some y ∧ b < w.heap.size ∧ ∀ j, j < 10 → w.cell? ⟨b, off + k * 10 + j, none⟩ = cs[j]?) := ⟨hr, hcs, HH.out.2.2.1 y (List.mem_of_getElem? hy), hy, hbw, hcc⟩
  clear hno hk hy hbw hcs hcc hr
  go_wp2_with fail
  have HPd : Hid (PuW w #[.slice (some ⟨b, off, none⟩) n c] es w1.drew) := HP1.out.below (Below.refl _ _).drew
  obtain ⟨Y0, hY0⟩ : ∃ Y, Y = w1.drew := ⟨_, rfl⟩
  rw [← hY0] at HPd
  have HS : Hid (∀ W, PuW w #[.slice (some ⟨b, off, none⟩) n c] es W → Blk W w.heap.size #[.slice (some ⟨b, off, none⟩) n c] 60 ∧ Blk W (w.heap.size + 1) es 33 ∧ ∀ j, j < 10 → W.cell? ⟨b, off + k * 10 + j, none⟩ = cs[j]?) := fun W hP => ⟨hP.box, hP.en, fun j hj => (hP.bel.cell (p := ⟨b, off + k * 10 + j, none⟩) HY.out.2.2.2.2.1).trans (HY.out.2.2.2.2.2 j hj)⟩
  clear HP1
  refine wp_region_held (S := fun W => Blk W w.heap.size #[.slice (some ⟨b, off, none⟩) n c] 60 ∧ Blk W (w.heap.size + 1) es 33 ∧ ∀ j, j < 10 → W.cell? ⟨b, off + k * 10 + j, none⟩ = cs[j]?) (by kernel_rfl) ?_
  change wpAnyH _ _ _ _ _ _ _ _ (World.drew _)
  rw [← hY0]
  clear hY0
  refine tm 0 (.pointer (some ⟨w.heap.size, 0, none⟩)) (H := ⟨(HS.out _ HPd.out), ?_⟩)
  refine tk 1 (.slice (some ⟨b, off, none⟩) n c) (H := ⟨(.inl ⟨rfl, fun W hW => by have c := hW.1.cell 0; simp only [aT, aZ] at c; go_simp⟩), (HS.out _ HPd.out), ?_⟩)
  refine tm 2 (.int .i64 k) (H := ⟨(HS.out _ HPd.out), ?_⟩)
  refine tk 3 (.pointer (some ⟨b, off + k * 10, none⟩)) (H := ⟨(.inl ⟨rfl, fun W _ => by go_simp; first | done | (intro h; omega) | (rw [if_pos (by omega)]; rfl)⟩), (HS.out _ HPd.out), ?_⟩)
  refine tk 4 (.agg cs) (H := ⟨(yields_at 33 b (off + k * 10) 10 cs _ rfl rfl rfl Tryz.underlying33 rfl infoEnG2 HY.out.2.1 (fun W hW => hW.2.2)), (HS.out _ HPd.out), ?_⟩)
  refine tk 5 (.agg es) (H := ⟨(yields_whole 33 (w.heap.size + 1) es 33 _ rfl rfl rfl Tryz.underlying33 rfl (enSize HE.out.1) (fun W hW => hW.2.1)), (HS.out _ HPd.out), ?_⟩)
  refine twoH (o := ?o25) (o' := ?p25) 6 10 (by kernel_rfl) ?h25 ?g25 ?r25 ?s25
  case h25 => simp only [aT, aS, aZ]; rfl
  case g25 => simp only [aT, aS, aZ]; rfl
  case r25 =>
   intro K hK
   refine op_call2' 67 _ _ _ Tryz.f67 (fun v w' => ∃ rr R, v = .tuple #[.agg rr, .bool (y.addOk e)] ∧ rr.size = 10 ∧ rr.all (·.oneCell') = true ∧ RdE w' (.agg rr) (y.addR e) R ∧ Own Y0.heap.size w' R ∧ Below Y0.heap.size Y0 w') rfl rfl Tryz.func67 (by kernel_rfl) (by kernel_rfl) ((addImplE_any (.agg cs) (.agg es) y e Fi G Y0 (HY.out.1.below HPd.out.bel) (HH.out.2.1.below HPd.out.bel) HY.out.2.2.1 HH.out.2.2.2.1).mono (by
     rintro e' w' ⟨v', R, rfl, h1, h2, h3⟩
     obtain ⟨rr, rfl, h4, h5⟩ := RdE.cells h1
     exact ⟨_, rfl, rr, R, rfl, h4, h5, h1, h2, h3⟩)) ?_
   rintro _ Y1 ⟨rr, R, rfl, rs, r1, rd, ro, rb⟩
   have HP1 : Hid (PuW w #[.slice (some ⟨b, off, none⟩) n c] es Y1) := HPd.out.below rb
   have RR1 : Hid (RdE Y1 (.agg rr) (y.addR e) R ∧ w.heap.size ≤ Y0.heap.size ∧ (∀ b ∈ R, Y0.heap.size ≤ b) ∧ rr.size = 10 ∧ rr.all (·.oneCell') = true) := ⟨rd, by have := HPd.out.size; omega, ro.ge, rs, r1⟩
   have HNR : Hid (∀ b ∈ R, w.heap.size + 3 ≤ b) := fun b hb => Nat.le_trans HPd.out.size (ro.ge b hb)
   refine pk (h := hK _ _ ⟨HS.out _ HP1.out, ?_⟩)
   clear hK rs r1 rd ro rb
   refine tm 7 (.tuple #[.agg rr, .bool (y.addOk e)]) (H := ⟨(HS.out _ HP1.out), ?_⟩)
   refine tm 8 (.agg rr) (H := ⟨(HS.out _ HP1.out), ?_⟩)
   refine tm 9 (.bool (y.addOk e)) (H := ⟨(HS.out _ HP1.out), ?_⟩)
   refine oq 10 (H := fun K hK => ?_)
   refine op_turn (.pointer (some ⟨Y1.heap.size, 0, none⟩)) (Y1.alloc (.cells #[.int .i64 0, .int .i64 0, .slice none 0 0, .int .i64 0, .int .i64 0, .int .i64 0, .int .i64 0, .slice none 0 0, .slice none 0 0, .slice none 0 0] 33)) rfl (by kernel_rfl) (pk (h := hK _ _ ⟨HS.out _ (HP1.out.below ((Below.refl _ _).alloc (Nat.le_refl _) _)), ?_⟩))
   have bz : Below Y1.heap.size Y1 (Y1.alloc (.cells #[.int .i64 0, .int .i64 0, .slice none 0 0, .int .i64 0, .int .i64 0, .int .i64 0, .int .i64 0, .slice none 0 0, .slice none 0 0, .slice none 0 0] 33)) := (Below.refl _ _).alloc (Nat.le_refl _) _
   have tx : Blk (Y1.alloc (.cells #[.int .i64 0, .int .i64 0, .slice none 0 0, .int .i64 0, .int .i64 0, .int .i64 0, .int .i64 0, .slice none 0 0, .slice none 0 0, .slice none 0 0] 33)) Y1.heap.size #[.int .i64 0, .int .i64 0, .slice none 0 0, .int .i64 0, .int .i64 0, .int .i64 0, .int .i64 0, .slice none 0 0, .slice none 0 0, .slice none 0 0] 33 := Blk.made _ _ _
   obtain ⟨Y2, hW2⟩ : ∃ Z, Z = (Y1.alloc (.cells #[.int .i64 0, .int .i64 0, .slice none 0 0, .int .i64 0, .int .i64 0, .int .i64 0, .int .i64 0, .slice none 0 0, .slice none 0 0, .slice none 0 0] 33)) := ⟨_, rfl⟩
   rw [← hW2] at bz tx ⊢
   obtain ⟨X, hX⟩ : ∃ z, z = Y1.heap.size := ⟨_, rfl⟩
   rw [← hX] at tx ⊢
   have HP2 : Hid (PuW w #[.slice (some ⟨b, off, none⟩) n c] es Y2) := HP1.out.below bz
   have TX2 : Hid (Blk Y2 X #[.int .i64 0, .int .i64 0, .slice none 0 0, .int .i64 0, .int .i64 0, .int .i64 0, .int .i64 0, .slice none 0 0, .slice none 0 0, .slice none 0 0] 33 ∧ w.heap.size + 3 ≤ X) := ⟨tx, by rw [hX]; exact HP1.out.size⟩
   have RR2 : Hid (RdE Y2 (.agg rr) (y.addR e) R ∧ w.heap.size ≤ X ∧ (∀ b ∈ R, w.heap.size ≤ b) ∧ rr.size = 10 ∧ rr.all (·.oneCell') = true) := ⟨RR1.out.1.below bz, by have := HP1.out.size; omega, fun b hb => Nat.le_trans RR1.out.2.1 (RR1.out.2.2.1 b hb), RR1.out.2.2.2⟩
   have XR2 : Hid (X ∉ R) := fun hx => by have := RR1.out.1.lt X hx; omega
   clear hK bz tx hX hW2
   refine oq 11 (H := fun K hK => ?_)
   have HPs : Hid (PuW w #[.slice (some ⟨b, off, none⟩) n c] es (Y2.setRow X rr)) := by
    have := TX2.out.2
    exact ⟨HP2.out.box.setRowOther (by omega), HP2.out.en.setRowOther (by omega), HP2.out.res.setRowOther (by omega), below_setRow HP2.out.bel (by omega) _⟩
   have HX : Hid (Blk (Y2.setRow X rr) X rr 33 ∧ RdE (Y2.setRow X rr) (.agg rr) (y.addR e) R ∧ (∀ b ∈ R, w.heap.size ≤ b) ∧ rr.size = 10) := ⟨TX2.out.1.setRow, RR2.out.1.agree (Agree.row XR2.out _), fun b hb => by have h1 := RR2.out.2.2.1 b hb; have h2 := RR2.out.2.1; omega, RR2.out.2.2.2.1⟩
   refine op_store 33 X #[.int .i64 0, .int .i64 0, .slice none 0 0, .int .i64 0, .int .i64 0, .int .i64 0, .int .i64 0, .slice none 0 0, .slice none 0 0, .slice none 0 0] rr 33 rfl rfl rfl rfl TX2.out.1 (enSize RR2.out.2.2.2.1) RR2.out.2.2.2.1.symm RR2.out.2.2.2.2 (pk (h := hK _ _ ⟨HS.out _ HPs.out, ?_⟩))
   obtain ⟨Y9, hY9⟩ : ∃ Z, Z = (Y2.setRow X rr) := ⟨_, rfl⟩
   rw [← hY9] at HPs HX ⊢
   clear hK hY9
   refine tm 12 (.bool (y.addOk e)) (H := ⟨(HS.out _ HPs.out), ?_⟩)
   refine wpAnyH_done (by kernel_rfl) ?_ _
   go_wp2_with (first | go_skip | (with_reducible refine stopLoad 60 rfl ?_) | (with_reducible refine stopLoad 33 rfl ?_))
   refine load_any 60 w.heap.size #[.slice (some ⟨b, off, none⟩) n c] 60 _ HPs.out.box rfl rfl rfl Tryz.underlying60 rfl infoQI2 ?_
   go_wp2_with (first | go_skip | (with_reducible refine stopLoad 33 rfl ?_))
   refine load_any 33 X rr 33 _ HX.out.1 rfl rfl rfl Tryz.underlying33 rfl (enSize HX.out.2.2.2) ?_
   go_wp2_with fail
   refine (with_any _ _ x F (y.addR e) R k _ (HH.out.1.below HPs.out.bel) HX.out.2.1 (by rw [HL.out.2]; exact hkn) (by have := HH.out.2.2.2.2; omega)).mono ?_
   rintro r w2 ⟨v', rfl, H, hS, hH⟩
   obtain ⟨g, m, cap, rfl⟩ := hS.val (by rw [List.length_set, HL.out.2]; omega)
   have HT : Hid (Shal Y9 (x.list.set k (y.addR e)) (.slice (some ⟨g, 0, none⟩) m cap) H w2 ∧ (∀ b ∈ H, b ∈ F ∨ b ∈ R) ∧ Blk w2 (w.heap.size + 1 + 1) #[.slice none 0 0] 60 ∧ w.heap.size + 1 + 1 ∉ H) := ⟨hS, hH, HPs.out.res.below hS.choose_spec.2.2.2, fun hx => by
     rcases hH _ hx with h | h
     · have := HL.out.1.lt _ h; omega
     · have := HNR.out _ h; omega⟩
   clear hS hH
   go_wp2_with (first | go_skip | (with_reducible refine stopStore 60 rfl ?_))
   refine store_known 60 (w.heap.size + 1 + 1) _ #[.slice (some ⟨g, 0, none⟩) m cap] 60 HT.out.2.2.1 rfl rfl rfl rfl infoQI2 rfl (by simp [Value.oneCell']) ?_
   go_wp2
   refine bodyPost_ret (results_cell_row Tryz.results28 _ _ (w.heap.size + 1 + 1) _ _ (0, 0) _ rfl HT.out.2.2.1.setRow Tryz.underlying60 rfl infoQI2) rfl ?_
   rw [HV.out]
   exact ⟨_, rfl, H, HT.out.1.into HPs.out.bel (by omega) (by have := HPs.out.size; omega) HT.out.2.2.2 _, (fun b hb => by
     rcases HT.out.2.1 b hb with h | h
     · exact .inl h
     · exact .inr (.inr (HX.out.2.2.1 b h))), HT.out.1.apart (by rw [List.length_set, HL.out.2]; omega) (by have := HPs.out.size; omega) (fun b hb => by
     rcases HT.out.2.1 b hb with h | h
     · have := HL.out.1.lt _ h; have := HPs.out.size; omega
     · exact HX.out.2.1.lt _ h)⟩
  case s25 =>
   intro K hK
   refine op_turn (.pointer (some ⟨Y0.heap.size, 0, none⟩)) (Y0.alloc (.cells #[.int .i64 0, .int .i64 0, .slice none 0 0, .int .i64 0, .int .i64 0, .int .i64 0, .int .i64 0, .slice none 0 0, .slice none 0 0, .slice none 0 0] 33)) rfl (by kernel_rfl) (pk (h := hK _ _ ⟨HS.out _ (HPd.out.below ((Below.refl _ _).alloc (Nat.le_refl _) _)), ?_⟩))
   have bz : Below Y0.heap.size Y0 (Y0.alloc (.cells #[.int .i64 0, .int .i64 0, .slice none 0 0, .int .i64 0, .int .i64 0, .int .i64 0, .int .i64 0, .slice none 0 0, .slice none 0 0, .slice none 0 0] 33)) := (Below.refl _ _).alloc (Nat.le_refl _) _
   have tx : Blk (Y0.alloc (.cells #[.int .i64 0, .int .i64 0, .slice none 0 0, .int .i64 0, .int .i64 0, .int .i64 0, .int .i64 0, .slice none 0 0, .slice none 0 0, .slice none 0 0] 33)) Y0.heap.size #[.int .i64 0, .int .i64 0, .slice none 0 0, .int .i64 0, .int .i64 0, .int .i64 0, .int .i64 0, .slice none 0 0, .slice none 0 0, .slice none 0 0] 33 := Blk.made _ _ _
   obtain ⟨Y4, hW4⟩ : ∃ Z, Z = (Y0.alloc (.cells #[.int .i64 0, .int .i64 0, .slice none 0 0, .int .i64 0, .int .i64 0, .int .i64 0, .int .i64 0, .slice none 0 0, .slice none 0 0, .slice none 0 0] 33)) := ⟨_, rfl⟩
   rw [← hW4] at bz tx ⊢
   obtain ⟨X, hX⟩ : ∃ z, z = Y0.heap.size := ⟨_, rfl⟩
   rw [← hX] at tx ⊢
   have HP4 : Hid (PuW w #[.slice (some ⟨b, off, none⟩) n c] es Y4) := HPd.out.below bz
   have TX4 : Hid (Blk Y4 X #[.int .i64 0, .int .i64 0, .slice none 0 0, .int .i64 0, .int .i64 0, .int .i64 0, .int .i64 0, .slice none 0 0, .slice none 0 0, .slice none 0 0] 33 ∧ w.heap.size + 3 ≤ X) := ⟨tx, by rw [hX]; exact HPd.out.size⟩
   clear hK bz tx hX hW4
   refine oq 6 (H := fun K hK => ?_)
   refine op_call2' 67 _ _ _ Tryz.f67 (fun v w' => ∃ rr R, v = .tuple #[.agg rr, .bool (y.addOk e)] ∧ rr.size = 10 ∧ rr.all (·.oneCell') = true ∧ RdE w' (.agg rr) (y.addR e) R ∧ Own Y4.heap.size w' R ∧ Below Y4.heap.size Y4 w') rfl rfl Tryz.func67 (by kernel_rfl) (by kernel_rfl) ((addImplE_any (.agg cs) (.agg es) y e Fi G Y4 (HY.out.1.below HP4.out.bel) (HH.out.2.1.below HP4.out.bel) HY.out.2.2.1 HH.out.2.2.2.1).mono (by
     rintro e' w' ⟨v', R, rfl, h1, h2, h3⟩
     obtain ⟨rr, rfl, h4, h5⟩ := RdE.cells h1
     exact ⟨_, rfl, rr, R, rfl, h4, h5, h1, h2, h3⟩)) ?_
   rintro _ Y5 ⟨rr, R, rfl, rs, r1, rd, ro, rb⟩
   have HP5 : Hid (PuW w #[.slice (some ⟨b, off, none⟩) n c] es Y5) := HP4.out.below rb
   have RR5 : Hid (RdE Y5 (.agg rr) (y.addR e) R ∧ w.heap.size ≤ Y4.heap.size ∧ (∀ b ∈ R, Y4.heap.size ≤ b) ∧ rr.size = 10 ∧ rr.all (·.oneCell') = true) := ⟨rd, by have := HP4.out.size; omega, ro.ge, rs, r1⟩
   have HNR : Hid (∀ b ∈ R, w.heap.size + 3 ≤ b) := fun b hb => Nat.le_trans HP4.out.size (ro.ge b hb)
   have TX5 : Hid (Blk Y5 X #[.int .i64 0, .int .i64 0, .slice none 0 0, .int .i64 0, .int .i64 0, .int .i64 0, .int .i64 0, .slice none 0 0, .slice none 0 0, .slice none 0 0] 33 ∧ w.heap.size + 3 ≤ X) := ⟨TX4.out.1.below rb, TX4.out.2⟩
   have XR5 : Hid (X ∉ R) := fun hx => by have h1 := ro.ge X hx; have h2 := TX4.out.1.lt; omega
   refine pk (h := hK _ _ ⟨HS.out _ HP5.out, ?_⟩)
   clear hK rs r1 rd ro rb
   refine tm 7 (.tuple #[.agg rr, .bool (y.addOk e)]) (H := ⟨(HS.out _ HP5.out), ?_⟩)
   refine tm 8 (.agg rr) (H := ⟨(HS.out _ HP5.out), ?_⟩)
   refine tm 9 (.bool (y.addOk e)) (H := ⟨(HS.out _ HP5.out), ?_⟩)
   refine oq 11 (H := fun K hK => ?_)
   have HPs : Hid (PuW w #[.slice (some ⟨b, off, none⟩) n c] es (Y5.setRow X rr)) := by
    have := TX5.out.2
    exact ⟨HP5.out.box.setRowOther (by omega), HP5.out.en.setRowOther (by omega), HP5.out.res.setRowOther (by omega), below_setRow HP5.out.bel (by omega) _⟩
   have HX : Hid (Blk (Y5.setRow X rr) X rr 33 ∧ RdE (Y5.setRow X rr) (.agg rr) (y.addR e) R ∧ (∀ b ∈ R, w.heap.size ≤ b) ∧ rr.size = 10) := ⟨TX5.out.1.setRow, RR5.out.1.agree (Agree.row XR5.out _), fun b hb => by have h1 := RR5.out.2.2.1 b hb; have h2 := RR5.out.2.1; omega, RR5.out.2.2.2.1⟩
   refine op_store 33 X #[.int .i64 0, .int .i64 0, .slice none 0 0, .int .i64 0, .int .i64 0, .int .i64 0, .int .i64 0, .slice none 0 0, .slice none 0 0, .slice none 0 0] rr 33 rfl rfl rfl rfl TX5.out.1 (enSize RR5.out.2.2.2.1) RR5.out.2.2.2.1.symm RR5.out.2.2.2.2 (pk (h := hK _ _ ⟨HS.out _ HPs.out, ?_⟩))
   obtain ⟨Y9, hY9⟩ : ∃ Z, Z = (Y5.setRow X rr) := ⟨_, rfl⟩
   rw [← hY9] at HPs HX ⊢
   clear hK hY9
   refine tm 12 (.bool (y.addOk e)) (H := ⟨(HS.out _ HPs.out), ?_⟩)
   refine wpAnyH_done (by kernel_rfl) ?_ _
   go_wp2_with (first | go_skip | (with_reducible refine stopLoad 60 rfl ?_) | (with_reducible refine stopLoad 33 rfl ?_))
   refine load_any 60 w.heap.size #[.slice (some ⟨b, off, none⟩) n c] 60 _ HPs.out.box rfl rfl rfl Tryz.underlying60 rfl infoQI2 ?_
   go_wp2_with (first | go_skip | (with_reducible refine stopLoad 33 rfl ?_))
   refine load_any 33 X rr 33 _ HX.out.1 rfl rfl rfl Tryz.underlying33 rfl (enSize HX.out.2.2.2) ?_
   go_wp2_with fail
   refine (with_any _ _ x F (y.addR e) R k _ (HH.out.1.below HPs.out.bel) HX.out.2.1 (by rw [HL.out.2]; exact hkn) (by have := HH.out.2.2.2.2; omega)).mono ?_
   rintro r w2 ⟨v', rfl, H, hS, hH⟩
   obtain ⟨g, m, cap, rfl⟩ := hS.val (by rw [List.length_set, HL.out.2]; omega)
   have HT : Hid (Shal Y9 (x.list.set k (y.addR e)) (.slice (some ⟨g, 0, none⟩) m cap) H w2 ∧ (∀ b ∈ H, b ∈ F ∨ b ∈ R) ∧ Blk w2 (w.heap.size + 1 + 1) #[.slice none 0 0] 60 ∧ w.heap.size + 1 + 1 ∉ H) := ⟨hS, hH, HPs.out.res.below hS.choose_spec.2.2.2, fun hx => by
     rcases hH _ hx with h | h
     · have := HL.out.1.lt _ h; omega
     · have := HNR.out _ h; omega⟩
   clear hS hH
   go_wp2_with (first | go_skip | (with_reducible refine stopStore 60 rfl ?_))
   refine store_known 60 (w.heap.size + 1 + 1) _ #[.slice (some ⟨g, 0, none⟩) m cap] 60 HT.out.2.2.1 rfl rfl rfl rfl infoQI2 rfl (by simp [Value.oneCell']) ?_
   go_wp2
   refine bodyPost_ret (results_cell_row Tryz.results28 _ _ (w.heap.size + 1 + 1) _ _ (0, 0) _ rfl HT.out.2.2.1.setRow Tryz.underlying60 rfl infoQI2) rfl ?_
   rw [HV.out]
   exact ⟨_, rfl, H, HT.out.1.into HPs.out.bel (by omega) (by have := HPs.out.size; omega) HT.out.2.2.2 _, (fun b hb => by
     rcases HT.out.2.1 b hb with h | h
     · exact .inl h
     · exact .inr (.inr (HX.out.2.2.1 b h))), HT.out.1.apart (by rw [List.length_set, HL.out.2]; omega) (by have := HPs.out.size; omega) (fun b hb => by
     rcases HT.out.2.1 b hb with h | h
     · have := HL.out.1.lt _ h; have := HPs.out.size; omega
     · exact HX.out.2.1.lt _ h)⟩
theorem pushed_any (v u : Value) (x : Rw) (F : List Nat) (e : En) (G : List Nat) (join : Bool) (w : World) (h : RdRw w v x F) (k : RdE w u e G) (hw : ∀ y ∈ x.list, y.wide) (he : e.wide) (hl : x.list.length ≤ 2097151) :
 Calls Tryz.prog 28 #[v, u, .bool join] w fun r w' => Pushed w (pushL x.list e join) F G r w' :=
 (pushed_gen v u x F e G join w h k hw he hl).mono fun _ _ ⟨v', a, H, b, c, _⟩ => ⟨v', a, H, b, c⟩
end
section
set_option maxRecDepth 200000
set_option maxHeartbeats 16000000
open Go.RowKit
theorem sumP_succ {P xs : List En} {k : Nat} {y : En} (hy : xs[k]? = some y) : sumP P (xs.take (k + 1)) = pushL (sumP P (xs.take k)) y true := by
 rw [take_snoc_en hy]; unfold sumP; rw [List.foldl_append]; rfl
structure SuS (w : World) (A : Array Value) (xs : List En) (Q : Nat) (p : Option Addr) (c : Nat) (W : World) : Prop where
 bel : Below w.heap.size w W
 box : Blk W w.heap.size A 26
 q : Blk W Q #[.slice p xs.length c] 60
 lo : w.heap.size < Q
 row : ∃ FF, RdRw W (.agg #[.slice p xs.length c]) ⟨xs⟩ FF ∧ Q ∉ FF
 shal : 0 < xs.length → ∃ H, Shal w xs (.slice p xs.length c) H W ∧ ∀ g n c', Value.slice p xs.length c = .slice (some ⟨g, 0, none⟩) n c' → g ∉ H ∧ Q ≠ g
structure SuE (w : World) (xs : List En) (Q : Nat) (p : Option Addr) (l c : Nat) (W : World) : Prop where
 bel : Below w.heap.size w W
 q : Blk W Q #[.slice p l c] 60
 row : ∃ FF, RdRw W (.agg #[.slice p l c]) ⟨xs⟩ FF
theorem sums_sorted {w W : World} {A : Array Value} {P M : List En} {Q : Nat} {p : Option Addr} {c : Nat} (h : SuS w A P Q p c W) (hl : P.length ≤ 1000) (hperm : P.Perm M) (ha : Asc M) :
 Calls Tryz.prog 37 #[.slice p P.length c, .func (.func 38) #[] #[]] W fun e w2 => e = .returned (.tuple #[]) ∧ SuE w M Q p P.length c w2 := by
 by_cases hp : 0 < P.length
 ·
  obtain ⟨H, hS, hH⟩ := h.shal hp
  refine (sorted_any w W P M _ H hS hp hl hperm ha (fun g cap e => (hH g _ _ e).1)).mono ?_
  rintro e w2 ⟨rfl, hr, hb, hq⟩
  exact ⟨rfl, hb, h.q.agree (hq Q h.q.lt (fun g n c e => (hH g _ _ e).2) Q (List.mem_singleton.2 rfl)), hr⟩
 ·
  have e0 : P.length = 0 := by omega
  have hP := List.eq_nil_of_length_eq_zero e0
  subst hP
  have hM : M = [] := List.eq_nil_of_length_eq_zero (by rw [← hperm.length_eq]; rfl)
  subst hM
  refine (sort_none p c _ W).mono ?_
  rintro e w2 ⟨rfl, rfl⟩
  exact ⟨rfl, h.bel, h.q, ⟨_, h.row.choose_spec.1⟩⟩
theorem SuS.below {w W W' : World} {A : Array Value} {xs : List En} {Q : Nat} {p : Option Addr} {c : Nat} (h : SuS w A xs Q p c W) (hb : Below W.heap.size W W') : Below w.heap.size w W' ∧ Blk W' w.heap.size A 26 ∧ Blk W' Q #[.slice p xs.length c] 60 ∧ w.heap.size < Q ∧ (∃ FF, RdRw W' (.agg #[.slice p xs.length c]) ⟨xs⟩ FF ∧ Q ∉ FF) ∧ Q < W'.heap.size :=
 ⟨Below.next h.bel hb, h.box.below hb, h.q.below hb, h.lo, by obtain ⟨FF, r, n⟩ := h.row; exact ⟨FF, r.below hb, n⟩, by have := h.q.lt; have := hb.size; omega⟩
theorem sums_pushed {w W W' : World} {A : Array Value} {P xs : List En} {Q : Nat} {p : Option Addr} {c : Nat} {F G : List Nat} {v' : Value} {H : List Nat} (hbel : Below w.heap.size w W) (hbox : Blk W w.heap.size A 26) (hlo : w.heap.size < Q) (hQ : Q < W.heap.size) (hF : Q ∉ F) (hG : Q ∉ G) (hp : 0 < xs.length)
 (hS : Shal W xs v' H W') (hH : ∀ b ∈ H, b ∈ F ∨ b ∈ G ∨ W.heap.size ≤ b) (ha : ∀ g n c, v' = .slice (some ⟨g, 0, none⟩) n c → g ∉ H ∧ W.heap.size ≤ g) (hq : Blk W Q #[.slice p P.length c] 60) :
 ∃ g c', v' = .slice (some ⟨g, 0, none⟩) xs.length c' ∧ Blk W' Q #[.slice p P.length c] 60 ∧ SuS w A xs Q (some ⟨g, 0, none⟩) c' (W'.setRow Q #[v']) := by
 obtain ⟨g, c', rfl, _⟩ := hS.row hp
 have hb : Below W.heap.size W W' := hS.choose_spec.2.2.2
 have hQH : Q ∉ H := fun hx => by
  rcases hH _ hx with h | h | h
  ·
   exact hF h
  ·
   exact hG h
  ·
   omega
 have hS' := hS.into hbel (Nat.le_of_lt hlo) hQ hQH #[.slice (some ⟨g, 0, none⟩) xs.length c']
 obtain ⟨FF, r, hr⟩ := hS.rd hp
 obtain ⟨hg, hge⟩ := ha g _ _ rfl
 have hq' : Blk W' Q #[.slice p P.length c] 60 := hq.below hb
 have hQF : Q ∉ FF := fun hx => by
  rcases hr _ hx with h | h
  ·
   exact hQH h
  ·
   omega
 refine ⟨g, c', rfl, hq', below_setRow (Below.next hbel hb) (Nat.le_of_lt hlo) _, (hbox.below hb).setRowOther (by omega), hq'.setRow, hlo, ⟨FF, r.agree (Agree.row hQF _), hQF⟩, fun _ => ⟨H, hS', fun g' n c e => ?_⟩⟩
 injection e with e1
 injection e1 with e1
 injection e1 with e1
 subst e1
 exact ⟨hg, by omega⟩
theorem rowSumImpl_any (v : Value) (x : Rw) (F : List Nat) (w : World) (h : RdRw w v x F) (hw : x.fits) :
 Calls Tryz.prog 10 #[v] w fun e w' => NewEs w x.sums e w' := by
 have HH : Hid (RdRw w v x F ∧ x.fits) := ⟨h, hw⟩
 obtain ⟨a, n, c, rfl, hL, hcp⟩ := h
 have HL : Hid (RdL enK w a n x.list F ∧ x.list.length = n ∧ x.fits) := ⟨hL, hL.length, hw⟩
 have hn : n ≤ 1048576 := by rw [← hL.length]; exact hw.len
 have HB : Hid (Below w.heap.size w (w.alloc (.cells #[.slice a n c] 26)) ∧ Blk (w.alloc (.cells #[.slice a n c] 26)) w.heap.size #[.slice a n c] 26) := ⟨Below.allocW _ (Below.refl _ _) (Nat.le_refl _), Blk.made _ _ _⟩
 clear hL hw hcp
 have hfd : ∀ (w : World) (q : Option Addr) (n d : Nat), (Instr.field 60 (.agg #[.slice q n d]) 0).run Tryz.prog w = .ok (.slice q n d) w := fun _ _ _ _ => by kernel_rfl
 go_enter Tryz.func10, Tryz.ntmps10
 go_wp2_with (first | go_skip | (with_reducible refine stopLoad 26 rfl ?_))
 refine load_any 26 w.heap.size #[.slice a n c] 26 _ HB.out.2 rfl rfl rfl Tryz.underlying26 rfl (rwSize rfl) ?_
 go_wp2_with fail
 refine (rowOkImpl_any _ x F _ (HH.out.1.below HB.out.1) HH.out.2).mono ?_
 rintro e w2 ⟨rfl, hb⟩
 have HW : Hid (Below w.heap.size w w2 ∧ Blk w2 w.heap.size #[.slice a n c] 26) := ⟨Below.next HB.out.1 hb, HB.out.2.below hb⟩
 obtain ⟨d, hd⟩ : ∃ d, d = x.ok := ⟨_, rfl⟩
 rw [← hd]
 have HD : Hid (d = x.ok) := hd
 clear hd hb HB HH
 cases d
 ·
  have HV : Hid (x.sums = []) := by show _ = _; unfold Rw.sums; rw [← HD.out]; rfl
  go_wp2
  go_ret
  exact ⟨none, 0, w.heap.size, [], [], by rw [HV.out]; rfl, by rw [HV.out]; exact GrowL.start HW.out.1.size, Nat.le_refl _, HW.out.1⟩
 have HQ : Hid (SuS w #[.slice a n c] (sumP [] (x.list.take 0)) w2.heap.size none 0 (w2.alloc (.cells #[.slice none 0 0] 60))) := by
  have hz : sumP [] (x.list.take 0) = [] := by rw [List.take_zero]; rfl
  show SuS _ _ _ _ _ _ _
  rw [hz]
  exact ⟨Below.allocW _ HW.out.1 (Nat.le_refl _), HW.out.2.alloc _, Blk.made _ _ _, HW.out.2.lt, ⟨[], ⟨none, 0, 0, rfl, RdL.zero, (fun _ => rfl), Nat.le_refl _⟩, (fun hx => by cases hx)⟩, fun h0 => by cases h0⟩
 have c0 := HQ.out.box.cell 0
 simp only [aT, aZ] at c0
 go_wp2
 go_loopw [12] (fun i wr => ∃ (k : Nat) (p : Option Addr) (kc : Nat), k ≤ n ∧ i = .int .i64 k ∧ Hid (SuS w #[.slice a n c] (sumP [] (x.list.take k)) w2.heap.size p kc wr)) (fun i _ => n - (intOf i).toNat)
 case atStart => exact ⟨0, none, 0, by omega, rfl, HQ⟩
 case round =>
  clear HQ c0
  obtain ⟨k, p, kc, hk, rfl, HS⟩ := hrel
  have HM : Hid (_ ∧ _) := sums_at HD.out.symm HL.out.2.2 k
  by_cases hlt : k < n
  ·
   have hI : (k : Int) < (n : Int) := by omega
   obtain ⟨b, off, y, cs, Fi, rfl, hbw, hy, hcs, hcc, hr⟩ := ens_at HL.out.1 hlt
   have HY : Hid (x.list[k]? = some y ∧ cs.size = 10 ∧ RdE wr (.agg cs) y Fi ∧ (∀ j, j < 10 → wr.cell? ⟨b, off + k * 10 + j, none⟩ = cs[j]?) ∧ cs.all (·.oneCell') = true ∧ y.fits ∧ ∀ g ∈ Fi, g < w.heap.size) := ⟨hy, hcs, hr.below HS.out.bel, fun j hj => (HS.out.bel.cell (p := ⟨b, off + k * 10 + j, none⟩) hbw).trans (hcc j hj), by
     obtain ⟨cs', e, _, h1⟩ := RdE.cells hr
     injection e with e
     rw [e]
     exact h1, HL.out.2.2.each y (List.mem_of_getElem? hy), hr.lt⟩
   clear hbw hy hcs hcc hr
   go_wp2_with (first | go_skip | (with_reducible refine stopLoad 33 rfl ?_))
   refine load_at 33 b (off + k * 10) 10 cs _ HY.out.2.2.2.1 HY.out.2.1 rfl rfl rfl Tryz.underlying33 rfl infoEnG2 ?_
   go_wp2_with (first | go_skip | (with_reducible refine stopStore 33 rfl ?_))
   refine store_fresh 33 wr.heap.size rfl #[.int .i64 0, .int .i64 0, .slice none 0 0, .int .i64 0, .int .i64 0, .int .i64 0, .int .i64 0, .slice none 0 0, .slice none 0 0, .slice none 0 0] cs 33 rfl rfl rfl rfl (by rw [HY.out.2.1]; exact infoEnG2) (by rw [HY.out.2.1]; rfl) HY.out.2.2.2.2.1 ?_
   intro w3 hg3 hb3
   have HS3 : Hid (_ ∧ _) := HS.out.below hb3
   have HX : Hid (Blk w3 wr.heap.size cs 33 ∧ RdE w3 (.agg cs) y Fi) := ⟨hg3, HY.out.2.2.1.below hb3⟩
   obtain ⟨X, hX⟩ : ∃ X, X = wr.heap.size := ⟨_, rfl⟩
   rw [← hX] at HX ⊢
   clear hg3 hb3 hX HS
   go_wp2_with (first | go_skip | (with_reducible refine stopLoad 60 rfl ?_))
   refine load_any 60 w2.heap.size #[.slice p (sumP [] (x.list.take k)).length kc] 60 _ HS3.out.2.2.1 rfl rfl rfl Tryz.underlying60 rfl infoQI2 ?_
   go_wp2_with (first | go_skip | (with_reducible refine stopLoad 33 rfl ?_))
   refine load_any 33 X cs 33 _ HX.out.1 rfl rfl rfl Tryz.underlying33 rfl (enSize HY.out.2.1) ?_
   go_wp2_with fail
   obtain ⟨FF, hRF⟩ := HS3.out.2.2.2.2.1
   have HRF : Hid (RdRw w3 (.agg #[.slice p (sumP [] (x.list.take k)).length kc]) ⟨sumP [] (x.list.take k)⟩ FF ∧ w2.heap.size ∉ FF) := hRF
   clear hRF
   refine (pushed_gen _ _ ⟨sumP [] (x.list.take k)⟩ FF y Fi true _ HRF.out.1 HX.out.2 (fun z hz => (HM.out.2.1 z (HM.out.2.2.2.1.mem_iff.1 hz)).2.wide) HY.out.2.2.2.2.2.1.wide (by show (sumP [] (x.list.take k)).length ≤ _; rw [HM.out.2.2.2.1.length_eq]; have := HM.out.2.2.1; omega)).mono ?_
   rintro r w4 ⟨v', rfl, H, hS, hH, ha⟩
   rw [← sumP_succ HY.out.1] at hS
   have HP : Hid (_ ) := sums_pushed HS3.out.1 HS3.out.2.1 HS3.out.2.2.2.1 HS3.out.2.2.2.2.2 HRF.out.2 (fun hx => by have h1 := HY.out.2.2.2.2.2.2 _ hx; have h2 := HS3.out.2.2.2.1; omega) (by rw [sumP_succ HY.out.1]; exact (pushL_size _ _ _).2.2) hS hH ha HS3.out.2.2.1
   obtain ⟨g, c', rfl, hq', hs'⟩ := HP.out
   have HT : Hid (Blk w4 w2.heap.size #[.slice p (sumP [] (x.list.take k)).length kc] 60 ∧ SuS w #[.slice (some ⟨b, off, none⟩) n c] (sumP [] (x.list.take (k + 1))) w2.heap.size (some ⟨g, 0, none⟩) c' (w4.setRow w2.heap.size #[.slice (some ⟨g, 0, none⟩) (sumP [] (x.list.take (k + 1))).length c'])) := ⟨hq', hs'⟩
   clear hS hH ha HP hq' hs' HS3 HX HRF HM
   go_wp2_with (first | go_skip | (with_reducible refine stopStore 60 rfl ?_))
   refine store_known 60 w2.heap.size _ #[.slice (some ⟨g, 0, none⟩) (sumP [] (x.list.take (k + 1))).length c'] 60 HT.out.1 rfl rfl rfl rfl infoQI2 rfl (by simp [Value.oneCell']) ?_
   obtain ⟨W5, hW5⟩ : ∃ W, W = w4.setRow w2.heap.size #[.slice (some ⟨g, 0, none⟩) (sumP [] (x.list.take (k + 1))).length c'] := ⟨_, rfl⟩
   have HT5 : Hid (SuS w #[.slice (some ⟨b, off, none⟩) n c] (sumP [] (x.list.take (k + 1))) w2.heap.size (some ⟨g, 0, none⟩) c' W5) := by rw [hW5]; exact HT.out.2
   rw [← hW5]
   clear hW5 HT
   go_wp2
   go_roundw
   case rel => exact ⟨k + 1, _, _, by omega, by go_num, HT5⟩
   case measure => simp [intOf]; omega
  ·
   obtain rfl : k = n := by omega
   have hI : ¬ (k : Int) < (k : Int) := by omega
   have HV : Hid (x.sums = sumM [] (x.list.take k)) := by show _ = _; unfold Rw.sums; rw [if_pos HD.out.symm, List.take_of_length_le (by rw [HL.out.2.1]; exact Nat.le_refl _)]
   have c0 := HS.out.q.cell 0
   simp only [aT, aZ] at c0
   go_wp2_with fail
   refine (sums_sorted HS.out (by rw [HM.out.2.2.2.1.length_eq]; have := HM.out.2.2.1; omega) HM.out.2.2.2.1 HM.out.1).mono ?_
   rintro e w5 ⟨rfl, hE⟩
   have HE : Hid (SuE w (sumM [] (x.list.take k)) w2.heap.size p (sumP [] (x.list.take k)).length kc w5) := hE
   clear hE c0 HS
   go_wp2_with (first | go_skip | (with_reducible refine stopLoad 60 rfl ?_))
   refine load_any 60 w2.heap.size #[.slice p (sumP [] (x.list.take k)).length kc] 60 _ HE.out.q rfl rfl rfl Tryz.underlying60 rfl infoQI2 ?_
   go_wp2_with fail
   obtain ⟨FF, hr⟩ := HE.out.row
   refine (each_grow _ ⟨sumM [] (x.list.take k)⟩ FF _ hr (fun z hz => (HM.out.2.1 z hz).2) (by have := HM.out.2.2.1; show (sumM [] (x.list.take k)).length ≤ _; omega)).mono ?_
   rintro e w6 ⟨q1, d1, F1, lo, vs, GG, rfl, r1, cp1, o1, hb6, g1, hlo⟩
   have HR : Hid (Below w.heap.size w w6 ∧ GrowL enK 33 (sumM [] (x.list.take k)) lo (sumM [] (x.list.take k)).length (.slice q1 (sumM [] (x.list.take k)).length d1) vs GG w6 ∧ w.heap.size ≤ lo) := ⟨Below.next HE.out.bel hb6, g1, by have := HE.out.bel.size; omega⟩
   clear hr r1 cp1 o1 hb6 g1 hlo HE HM
   go_wp2
   go_ret
   exact ⟨q1, d1, lo, vs, GG, by rw [HV.out]; rfl, by rw [HV.out]; exact HR.out.2.1, HR.out.2.2, HR.out.1⟩
end
section
set_option maxRecDepth 200000
set_option maxHeartbeats 16000000
open Go.RowKit
theorem rowPushImpl_any (v u : Value) (x : Rw) (F : List Nat) (e : En) (G : List Nat) (join : Bool) (w : World) (h : RdRw w v x F) (k : RdE w u e G) (hs : x.size + e.wt ≤ 1048576) :
 Calls Tryz.prog 7 #[v, u, .bool join] w fun r w' => NewRw2 w (x.push e join) r w' := by
 have HH : Hid (RdRw w v x F ∧ RdE w u e G ∧ x.fits) := ⟨h, k, (push_sizes join hs).1⟩
 have HS : Hid (e.fits ∧ (∀ y ∈ pushL x.list e join, y.fits) ∧ (pushL x.list e join).length ≤ 1048577 ∧ ensSize (pushL x.list e join) ≤ 1048576 ∧ 0 < (pushL x.list e join).length) := (push_sizes join hs).2
 obtain ⟨es, rfl, hes, hes1⟩ := RdE.cells k
 have HE : Hid (es.size = 10 ∧ es.all (·.oneCell') = true) := ⟨hes, hes1⟩
 obtain ⟨a, n, c, rfl, _, _⟩ := h
 have HP : Hid (PuR w #[.slice a n c] es 26 33 _) := PuR.made w #[.slice a n c] es 26 33
 clear k hs hes hes1
 go_enter Tryz.func7, Tryz.ntmps7
 go_wp2_with (first | go_skip | (with_reducible refine stopLoad 26 rfl ?_) | (with_reducible refine stopLoad 33 rfl ?_))
 refine load_any 26 w.heap.size #[.slice a n c] 26 _ HP.out.box rfl rfl rfl Tryz.underlying26 rfl (rwSize rfl) ?_
 go_wp2_with (first | go_skip | (with_reducible refine stopLoad 33 rfl ?_))
 refine load_any 33 (w.heap.size + 1) es 33 _ HP.out.en rfl rfl rfl Tryz.underlying33 rfl (enSize HE.out.1) ?_
 go_wp2_with fail
 refine (pushed_any _ _ x F e G join _ (HH.out.1.below HP.out.bel) (HH.out.2.1.below HP.out.bel) HH.out.2.2.wide.1 HS.out.1.wide (by have := HH.out.2.2.len; omega)).mono ?_
 rintro r w1 ⟨v', rfl, H, hS, hH⟩
 obtain ⟨g, m, cap, rfl⟩ := hS.val HS.out.2.2.2.2
 have HP1 : Hid (PuR w #[.slice a n c] es 26 33 w1) := HP.out.below hS.choose_spec.2.2.2
 obtain ⟨FX, hrd, _⟩ := hS.rd HS.out.2.2.2.2
 obtain ⟨X, hX⟩ : ∃ X, X = w1.heap.size := ⟨_, rfl⟩
 have HX : Hid (w.heap.size + 3 ≤ X) := by rw [hX]; exact HP1.out.size
 have HR : Hid (RdRw w1 (.agg #[.slice (some ⟨g, 0, none⟩) m cap]) ⟨pushL x.list e join⟩ FX) := hrd
 clear hS hH hrd HP
 go_wp2_with (first | go_skip | (with_reducible refine stopStore 26 rfl ?_))
 refine store_fresh 26 w1.heap.size rfl #[.slice none 0 0] #[.slice (some ⟨g, 0, none⟩) m cap] 26 rfl rfl rfl rfl (rwSize rfl) rfl (by simp [Value.oneCell']) ?_
 intro w2 hg hb
 have HP2 : Hid (PuR w #[.slice a n c] es 26 33 w2 ∧ Blk w2 X #[.slice (some ⟨g, 0, none⟩) m cap] 26 ∧ RdRw w2 (.agg #[.slice (some ⟨g, 0, none⟩) m cap]) ⟨pushL x.list e join⟩ FX) := ⟨HP1.out.below hb, by rw [hX]; exact hg, HR.out.below hb⟩
 rw [← hX]
 clear hg hb hX HP1 HR
 go_wp2_with (first | go_skip | (with_reducible refine stopLoad 26 rfl ?_))
 refine load_any 26 X #[.slice (some ⟨g, 0, none⟩) m cap] 26 _ HP2.out.2.1 rfl rfl rfl Tryz.underlying26 rfl (rwSize rfl) ?_
 go_wp2_with fail
 refine (rowOkImpl_gen _ ⟨pushL x.list e join⟩ FX _ HP2.out.2.2 (by have := HS.out.2.2.1; show (pushL x.list e join).length ≤ _; omega) (fun y hy => (HS.out.2.1 y hy).wide) HS.out.2.2.2.1).mono ?_
 rintro r w3 ⟨rfl, hb⟩
 have HP3 : Hid (PuR w #[.slice a n c] es 26 33 w3 ∧ Blk w3 X #[.slice (some ⟨g, 0, none⟩) m cap] 26 ∧ RdRw w3 (.agg #[.slice (some ⟨g, 0, none⟩) m cap]) ⟨pushL x.list e join⟩ FX) := ⟨HP2.out.1.below hb, HP2.out.2.1.below hb, HP2.out.2.2.below hb⟩
 obtain ⟨d, hd⟩ : ∃ d, d = (Rw.mk (pushL x.list e join)).ok := ⟨_, rfl⟩
 rw [← hd]
 have HD : Hid (d = (Rw.mk (pushL x.list e join)).ok) := hd
 clear hd hb HP2
 cases d
 ·
  have HV : Hid (x.push e join = (x, false)) := by show _ = _; unfold Rw.push; rw [← HD.out]; rfl
  go_wp2_with (first | go_skip | (with_reducible refine stopLoad 26 rfl ?_))
  refine load_any 26 w.heap.size #[.slice a n c] 26 _ HP3.out.1.box rfl rfl rfl Tryz.underlying26 rfl (rwSize rfl) ?_
  go_wp2_with fail
  refine (copiedRow_grow _ x F _ (HH.out.1.below HP3.out.1.bel) HH.out.2.2.each (by have := HH.out.2.2.len; omega)).mono ?_
  rintro r w4 ⟨q, cp, F4, lo, vs, GG, rfl, r4, hc4, o4, hb, _⟩
  obtain ⟨m4, hm4⟩ : ∃ m, m = x.list.length := ⟨_, rfl⟩
  rw [← hm4] at r4 hc4 ⊢
  have H4 : Hid (PuR w #[.slice a n c] es 26 33 w4 ∧ RdL enK w4 q m4 x.list F4 ∧ Capd q m4 cp ∧ Own (w.heap.size + 3) w4 F4) := ⟨HP3.out.1.below hb, r4, hc4, o4.mono HP3.out.1.size⟩
  clear r4 hc4 o4 hb hm4
  go_wp2_with (first | go_skip | (with_reducible refine stopStore 26 rfl ?_))
  refine store_known 26 (w.heap.size + 1 + 1) _ #[.slice q m4 cp] 26 H4.out.1.res rfl rfl rfl rfl (rwSize rfl) rfl (by simp [Value.oneCell']) ?_
  go_wp2
  refine bodyPost_ret (results_row_tmp Tryz.results7 _ _ (w.heap.size + 1 + 1) _ _ _ _ rfl H4.out.1.res.setRow Tryz.underlying26 rfl (rwSize rfl)) rfl ?_
  rw [HV.out]
  have nr : w.heap.size + 1 + 1 ∉ F4 := fun hx => by have := H4.out.2.2.2.ge _ hx; omega
  exact ⟨_, F4, rfl, ⟨q, m4, cp, rfl, H4.out.2.1.agree (Agree.row nr _), H4.out.2.2.1⟩, (H4.out.2.2.2.agree (Agree.row nr _)).mono (by omega), below_setRow H4.out.1.bel (by omega) _⟩
 have HV : Hid (x.push e join = (⟨pushL x.list e join⟩, true)) := by show _ = _; unfold Rw.push; rw [← HD.out]; rfl
 go_wp2_with (first | go_skip | (with_reducible refine stopLoad 26 rfl ?_))
 refine load_any 26 X #[.slice (some ⟨g, 0, none⟩) m cap] 26 _ HP3.out.2.1 rfl rfl rfl Tryz.underlying26 rfl (rwSize rfl) ?_
 go_wp2_with fail
 refine (copiedRow_grow _ ⟨pushL x.list e join⟩ FX _ HP3.out.2.2 HS.out.2.1 (by have := HS.out.2.2.1; show (pushL x.list e join).length ≤ _; omega)).mono ?_
 rintro r w4 ⟨q, cp, F4, lo, vs, GG, rfl, r4, hc4, o4, hb, _⟩
 obtain ⟨m4, hm4⟩ : ∃ m, m = (pushL x.list e join).length := ⟨_, rfl⟩
 rw [← hm4] at r4 hc4 ⊢
 have H4 : Hid (PuR w #[.slice a n c] es 26 33 w4 ∧ RdL enK w4 q m4 (pushL x.list e join) F4 ∧ Capd q m4 cp ∧ Own (w.heap.size + 3) w4 F4) := ⟨HP3.out.1.below hb, r4, hc4, o4.mono HP3.out.1.size⟩
 clear r4 hc4 o4 hb hm4
 go_wp2_with (first | go_skip | (with_reducible refine stopStore 26 rfl ?_))
 refine store_known 26 (w.heap.size + 1 + 1) _ #[.slice q m4 cp] 26 H4.out.1.res rfl rfl rfl rfl (rwSize rfl) rfl (by simp [Value.oneCell']) ?_
 go_wp2
 refine bodyPost_ret (results_row_tmp Tryz.results7 _ _ (w.heap.size + 1 + 1) _ _ _ _ rfl H4.out.1.res.setRow Tryz.underlying26 rfl (rwSize rfl)) rfl ?_
 rw [HV.out]
 have nr : w.heap.size + 1 + 1 ∉ F4 := fun hx => by have := H4.out.2.2.2.ge _ hx; omega
 exact ⟨_, F4, rfl, ⟨q, m4, cp, rfl, H4.out.2.1.agree (Agree.row nr _), H4.out.2.2.1⟩, (H4.out.2.2.2.agree (Agree.row nr _)).mono (by omega), below_setRow H4.out.1.bel (by omega) _⟩
end
section
set_option maxRecDepth 200000
set_option maxHeartbeats 16000000
open Go.RowKit
theorem l5Same_any (a b : Option Addr) (la lb ca cb : Nat) (xs ys : Sp) (F G : List Nat) (w : World) (ha : RdP w a la xs F) (hb : RdP w b lb ys G) (hla : la ≤ 140737488355328) (hlb : lb ≤ 140737488355328) :
 Calls Tryz.prog 114 #[.slice a la ca, .slice b lb cb] w fun e w' => e = .returned (.bool (decide (xs = ys))) ∧ QuietTo w w' := by
 have Hx : Hid (xs.length = la) := ha.length
 have Hy : Hid (ys.length = lb) := hb.length
 by_cases hl : la = lb
 ·
  subst hl
  have hbne : ((la : Int) != (la : Int)) = false := by simp
  have HCA : Hid (la = 0 ∨ ∃ b1 o1, a = some ⟨b1, o1, none⟩ ∧ b1 < w.heap.size ∧ SpCells w b1 o1 la xs) := cells_of ha
  have HCB : Hid (la = 0 ∨ ∃ b1 o1, b = some ⟨b1, o1, none⟩ ∧ b1 < w.heap.size ∧ SpCells w b1 o1 la ys) := cells_of hb
  clear ha hb
  go_enter Tryz.func114, Tryz.ntmps114
  go_wp2
  go_loopw [5] (fun i wr => ∃ k : Nat, k ≤ la ∧ i = .int .i64 k ∧ Hid (xs.take k = ys.take k) ∧ Hid (QuietTo w wr)) (fun i _ => la - (intOf i).toNat)
  case atStart => exact ⟨0, by omega, rfl, rfl, QuietTo.refl _⟩
  case round =>
   obtain ⟨k, hk, rfl, HT, HQ⟩ := hrel
   by_cases hlt : k < la
   ·
    rcases HCA.out with h0 | ⟨b1, o1, rfl, hbw1, hc1⟩
    ·
     omega
    rcases HCB.out with h0 | ⟨b2, o2, rfl, hbw2, hc2⟩
    ·
     omega
    obtain ⟨x, hx⟩ : ∃ x, x = (xs.at k).1 := ⟨_, rfl⟩
    obtain ⟨y, hy⟩ : ∃ x, x = (xs.at k).2 := ⟨_, rfl⟩
    obtain ⟨x', hx'⟩ : ∃ x, x = (ys.at k).1 := ⟨_, rfl⟩
    obtain ⟨y', hy'⟩ : ∃ x, x = (ys.at k).2 := ⟨_, rfl⟩
    have e1 := hc1 k hlt
    have e2 := hc2 k hlt
    rw [← hx, ← hy] at e1
    rw [← hx', ← hy'] at e2
    have d1 : wr.cell? ⟨b1, o1 + k * 2, none⟩ = some (.int .i64 x) := (HQ.out.cell _).trans e1.1
    have d2 : wr.cell? ⟨b1, o1 + k * 2 + 1, none⟩ = some (.int .i64 y) := (HQ.out.cell _).trans e1.2
    have d3 : wr.cell? ⟨b2, o2 + k * 2, none⟩ = some (.int .i64 x') := (HQ.out.cell _).trans e2.1
    have d4 : wr.cell? ⟨b2, o2 + k * 2 + 1, none⟩ = some (.int .i64 y') := (HQ.out.cell _).trans e2.2
    have HE : Hid ((x = x' ∧ y = y') ↔ xs[k]?.getD (0, 0) = ys[k]?.getD (0, 0)) := by rw [hx, hy, hx', hy']; exact Prod.ext_iff.symm
    have hI : (k : Int) < (la : Int) := by omega
    clear e1 e2 hx hy hx' hy' hc1 hc2
    by_cases c : x = x' ∧ y = y'
    ·
     have e1 : (x == x') = true := by simp [c.1]
     have e2 : (y == y') = true := by simp [c.2]
     have HT2 : Hid (xs.take (k + 1) = ys.take (k + 1)) := eqP_step (by rw [Hx.out, Hy.out]) (by rw [Hx.out]; exact hlt) HT.out (HE.out.1 c)
     clear c
     go_wp2
     go_quiet (fail)
     go_wp2
     go_roundw
     case rel => exact ⟨k + 1, by omega, by go_num, HT2, HQ.out.drewN _⟩
     case measure => simp [intOf]; omega
    have HV : Hid (decide (xs = ys) = false) := neP_of_at (fun e => c (HE.out.2 e))
    by_cases c1 : x = x'
    ·
     have e1 : (x == x') = true := by simp [c1]
     have e2 : (y == y') = false := by simpa using (fun e => c ⟨c1, e⟩)
     clear c c1
     go_wp2
     go_quiet (fail)
     go_wp2
     go_ret
     exact ⟨ret_bool HV.out.symm, HQ.out.drewN _⟩
    ·
     have e1 : (x == x') = false := by simpa using c1
     clear c c1
     go_wp2
     go_quiet (fail)
     go_wp2
     go_ret
     exact ⟨ret_bool HV.out.symm, HQ.out.drewN _⟩
   ·
    obtain rfl : k = la := by omega
    go_wp2
    go_ret
    exact ⟨ret_bool (eqP_end Hx.out Hy.out HT.out).symm, HQ.out⟩
 ·
  have hbne : ((la : Int) != (lb : Int)) = true := by simp; omega
  have e : decide (xs = ys) = false := by
   rw [decide_eq_false_iff_not]; intro e; subst e; exact hl (Hx.out.symm.trans Hy.out)
  clear ha hb
  go_enter Tryz.func114, Tryz.ntmps114
  go_wp2
  go_ret
  exact ⟨ret_bool e.symm, QuietTo.refl _⟩
theorem entrySameSpec_any (v u : Value) (x y : En) (F F' G G' : List Nat) (w : World) (h : RdEn w v x F F') (k : RdEn w u y G G') (hx : x.sk.wide) (hy : y.sk.wide) (hlx : x.ids.length ≤ 2097152) (hly : y.ids.length ≤ 2097152) :
 Calls Tryz.prog 77 #[v, u] w fun e w' => e = .returned (.bool (decide (x = y))) ∧ Below w.heap.size w w' := by
 obtain ⟨p, l, g, a1, n1, nc1, a2, n2, nc2, a3, n3, nc3, rfl, px, sx, _⟩ := h
 obtain ⟨q, k, j, b1, m1, mc1, b2, m2, mc2, b3, m3, mc3, rfl, py, sy, _⟩ := k
 have HX : Hid (RdSk w (.agg #[.int .i64 x.sk.count, .int .i64 x.sk.sum, .int .i64 x.sk.min, .int .i64 x.sk.max, .slice a1 n1 nc1, .slice a2 n2 nc2, .slice a3 n3 nc3]) x.sk F' ∧ RdSk w (.agg #[.int .i64 y.sk.count, .int .i64 y.sk.sum, .int .i64 y.sk.min, .int .i64 y.sk.max, .slice b1 m1 mc1, .slice b2 m2 mc2, .slice b3 m3 mc3]) y.sk G' ∧ x.sk.wide ∧ y.sk.wide) := ⟨sx, sy, hx, hy⟩
 have HP : Hid (RdP w p l x.ids F ∧ RdP w q k y.ids G ∧ l ≤ 2097152 ∧ k ≤ 2097152) := ⟨px, py, by rw [← px.length]; exact hlx, by rw [← py.length]; exact hly⟩
 have HT : Hid (_ ∧ _ ∧ _) := two_made w #[.int .i64 x.key, .int .i64 x.window, .slice p l g, .int .i64 x.sk.count, .int .i64 x.sk.sum, .int .i64 x.sk.min, .int .i64 x.sk.max, .slice a1 n1 nc1, .slice a2 n2 nc2, .slice a3 n3 nc3] #[.int .i64 y.key, .int .i64 y.window, .slice q k j, .int .i64 y.sk.count, .int .i64 y.sk.sum, .int .i64 y.sk.min, .int .i64 y.sk.max, .slice b1 m1 mc1, .slice b2 m2 mc2, .slice b3 m3 mc3] 33 33
 obtain ⟨d, hd⟩ : ∃ d, d = decide (x = y) := ⟨_, rfl⟩
 rw [← hd]
 have HD : Hid (d = decide (x = y)) := hd
 clear px py sx sy hx hy hlx hly hd
 obtain ⟨W0, hW0⟩ : ∃ W0, W0 = (w.alloc (.cells #[.int .i64 x.key, .int .i64 x.window, .slice p l g, .int .i64 x.sk.count, .int .i64 x.sk.sum, .int .i64 x.sk.min, .int .i64 x.sk.max, .slice a1 n1 nc1, .slice a2 n2 nc2, .slice a3 n3 nc3] 33)).alloc (.cells #[.int .i64 y.key, .int .i64 y.window, .slice q k j, .int .i64 y.sk.count, .int .i64 y.sk.sum, .int .i64 y.sk.min, .int .i64 y.sk.max, .slice b1 m1 mc1, .slice b2 m2 mc2, .slice b3 m3 mc3] 33) := ⟨_, rfl⟩
 have k0 := HT.out.1.cell 0
 have k1 := HT.out.1.cell 1
 have k2 := HT.out.1.cell 2
 have j0 := HT.out.2.1.cell 0
 have j1 := HT.out.2.1.cell 1
 have j2 := HT.out.2.1.cell 2
 simp only [aT, aS, aZ] at k0 k1 k2 j0 j1 j2
 clear hW0 W0
 by_cases c1 : x.key = y.key
 rotate_left
 ·
  have HV : Hid (d = false) := by show d = _; rw [HD.out]; exact dec_false (fun e => c1 (by rw [e]))
  have z1 : (x.key == y.key) = false := by simpa using c1
  clear c1
  go_enter Tryz.func77, Tryz.ntmps77
  go_wp2
  go_ret
  exact ⟨ret_bool HV.out.symm, HT.out.2.2⟩
 have z1 : (x.key == y.key) = true := by simpa using c1
 by_cases c2 : x.window = y.window
 rotate_left
 ·
  have HV : Hid (d = false) := by show d = _; rw [HD.out]; exact dec_false (fun e => c2 (by rw [e]))
  have z2 : (x.window == y.window) = false := by simpa using c2
  clear c1 c2
  go_enter Tryz.func77, Tryz.ntmps77
  go_wp2
  go_ret
  exact ⟨ret_bool HV.out.symm, HT.out.2.2⟩
 have z2 : (x.window == y.window) = true := by simpa using c2
 have HC : Hid (x.key = y.key ∧ x.window = y.window) := ⟨c1, c2⟩
 clear c1 c2
 go_enter Tryz.func77, Tryz.ntmps77
 go_wp2_with fail
 refine (l5Same_any p q l k g j x.ids y.ids F G _ (HP.out.1.below HT.out.2.2) (HP.out.2.1.below HT.out.2.2) (by have := HP.out.2.2; omega) (by have := HP.out.2.2; omega)).mono ?_
 rintro e w1 ⟨rfl, hq⟩
 have HB1 : Hid (Blk w1 w.heap.size #[.int .i64 x.key, .int .i64 x.window, .slice p l g, .int .i64 x.sk.count, .int .i64 x.sk.sum, .int .i64 x.sk.min, .int .i64 x.sk.max, .slice a1 n1 nc1, .slice a2 n2 nc2, .slice a3 n3 nc3] 33 ∧ Blk w1 (w.heap.size + 1) #[.int .i64 y.key, .int .i64 y.window, .slice q k j, .int .i64 y.sk.count, .int .i64 y.sk.sum, .int .i64 y.sk.min, .int .i64 y.sk.max, .slice b1 m1 mc1, .slice b2 m2 mc2, .slice b3 m3 mc3] 33 ∧ Below w.heap.size w w1) := ⟨HT.out.1.below (quiet_below hq), HT.out.2.1.below (quiet_below hq), Below.next HT.out.2.2 (quiet_below hq)⟩
 clear hq HT k0 k1 k2 j0 j1 j2 z1 z2
 by_cases c3 : x.ids = y.ids
 rotate_left
 ·
  rw [dec_false c3]
  have HV : Hid (d = false) := by show d = _; rw [HD.out]; exact dec_false (fun e => c3 (by rw [e]))
  clear c3
  go_wp2
  go_ret
  exact ⟨ret_bool HV.out.symm, HB1.out.2.2⟩
 rw [dec_true c3]
 have HC3 : Hid (x.ids = y.ids) := c3
 clear c3
 go_wp2_with (first | go_skip | (with_reducible refine stopLoad 31 rfl ?_))
 refine load_cutw 31 w.heap.size 3 7 _ #[.int .i64 x.sk.count, .int .i64 x.sk.sum, .int .i64 x.sk.min, .int .i64 x.sk.max, .slice a1 n1 nc1, .slice a2 n2 nc2, .slice a3 n3 nc3] 33 _ HB1.out.1 rfl rfl rfl Tryz.underlying31 rfl infoSkI (by simp) rfl ?_
 go_wp2_with (first | go_skip | (with_reducible refine stopLoad 31 rfl ?_))
 refine load_cutw 31 (w.heap.size + 1) 3 7 _ #[.int .i64 y.sk.count, .int .i64 y.sk.sum, .int .i64 y.sk.min, .int .i64 y.sk.max, .slice b1 m1 mc1, .slice b2 m2 mc2, .slice b3 m3 mc3] 33 _ HB1.out.2.1 rfl rfl rfl Tryz.underlying31 rfl infoSkI (by simp) rfl ?_
 go_wp2_with fail
 refine (sameSpec_any _ _ x.sk y.sk F' G' _ (HX.out.1.below HB1.out.2.2) (HX.out.2.1.below HB1.out.2.2) HX.out.2.2.1 HX.out.2.2.2).mono ?_
 rintro e w2 ⟨rfl, b2⟩
 have HB2 : Hid (Below w.heap.size w w2) := Below.next HB1.out.2.2 b2
 clear b2
 obtain ⟨d2, hd2⟩ : ∃ d, d = decide (x.sk = y.sk) := ⟨_, rfl⟩
 rw [← hd2]
 have HV : Hid (d2 = d) := by
  show _ = _
  rw [hd2, HD.out]
  by_cases e : x.sk = y.sk
  ·
   rw [dec_true e, dec_true (En.eq_of HC.out.1 HC.out.2 HC3.out e)]
  ·
   rw [dec_false e, dec_false (fun q => e (by rw [q]))]
 clear hd2
 go_wp2
 go_ret
 exact ⟨ret_bool HV.out, HB2.out⟩
end
section
set_option maxRecDepth 200000
set_option maxHeartbeats 16000000
open Go.RowKit
theorem sameSpecE_any (v u : Value) (x y : En) (F G : List Nat) (w : World) (h : RdE w v x F) (k : RdE w u y G) (hw : x.wide) (kw : y.wide) :
 Calls Tryz.prog 77 #[v, u] w fun e w' => e = .returned (.bool (decide (x = y))) ∧ Below w.heap.size w w' := by
 obtain ⟨F1, F2, rfl, h⟩ := h
 obtain ⟨G1, G2, rfl, k⟩ := k
 exact entrySameSpec_any v u x y F1 F2 G1 G2 w h k hw.1 kw.1 (by have := hw.2; omega) (by have := kw.2; omega)
theorem l10Entries_any (a b : Option Addr) (la lb ca cb : Nat) (xs ys : List En) (F G : List Nat) (w : World) (ha : RdL enK w a la xs F) (hb : RdL enK w b lb ys G) (hla : la ≤ 140737488355328) (hlb : lb ≤ 140737488355328) (hw : ∀ x ∈ xs, x.wide) (kw : ∀ y ∈ ys, y.wide) :
 Calls Tryz.prog 36 #[.slice a la ca, .slice b lb cb] w fun e w' => e = .returned (.bool (decide (xs = ys))) ∧ Below w.heap.size w w' := by
 have HX : Hid (RdL enK w a la xs F ∧ ∀ x ∈ xs, x.wide) := ⟨ha, hw⟩
 have HY : Hid (RdL enK w b lb ys G ∧ ∀ x ∈ ys, x.wide) := ⟨hb, kw⟩
 clear ha hb hw kw
 by_cases hl : la = lb
 rotate_left
 ·
  have hne : ((la : Int) != (lb : Int)) = true := by simpa using (by omega : ¬ (la : Int) = (lb : Int))
  have HV : Hid (decide (xs = ys) = false) := dec_false (fun e => hl (by have h1 := HX.out.1.length; have h2 := HY.out.1.length; rw [← h1, ← h2, e]))
  clear hl
  go_enter Tryz.func36, Tryz.ntmps36
  go_wp2
  go_ret
  exact ⟨ret_bool HV.out.symm, Below.refl _ _⟩
 subst hl
 have hbne : ((la : Int) != (la : Int)) = false := by simp
 go_enter Tryz.func36, Tryz.ntmps36
 go_wp2_with fail
 go_loopw [5] (fun i wr => ∃ k : Nat, k ≤ la ∧ i = .int .i64 k ∧ Hid (xs.take k = ys.take k ∧ Below w.heap.size w wr)) (fun i _ => la - (intOf i).toNat)
 case atStart => exact ⟨0, by omega, rfl, rfl, Below.refl _ _⟩
 case round =>
  obtain ⟨k, hk, rfl, HT⟩ := hrel
  by_cases hlt : k < la
  ·
   have hI : (k : Int) < (la : Int) := by omega
   obtain ⟨b1, o1, x, cs, Fi, rfl, hbw1, hx, hs1, hcc1, hr1⟩ := ens_at HX.out.1 hlt
   obtain ⟨b2, o2, y, ds, Gi, rfl, hbw2, hy, hs2, hcc2, hr2⟩ := ens_at HY.out.1 hlt
   have HP : Hid (xs[k]? = some x ∧ ys[k]? = some y ∧ x.wide ∧ y.wide ∧ cs.size = 10 ∧ ds.size = 10) := ⟨hx, hy, HX.out.2 x (List.mem_of_getElem? hx), HY.out.2 y (List.mem_of_getElem? hy), hs1, hs2⟩
   have HCW : Hid (∀ W, Below w.heap.size w W → ((∀ j, j < 10 → W.cell? ⟨b1, o1 + k * 10 + j, none⟩ = cs[j]?) ∧ ∀ j, j < 10 → W.cell? ⟨b2, o2 + k * 10 + j, none⟩ = ds[j]?) ∧ RdE W (.agg cs) x Fi ∧ RdE W (.agg ds) y Gi) := fun W hB => ⟨⟨fun j hj => by rw [← hcc1 j hj]; exact hB.cell (p := ⟨b1, o1 + k * 10 + j, none⟩) hbw1, fun j hj => by rw [← hcc2 j hj]; exact hB.cell (p := ⟨b2, o2 + k * 10 + j, none⟩) hbw2⟩, hr1.below hB, hr2.below hB⟩
   clear hx hy hs1 hs2 hcc1 hcc2 hr1 hr2
   go_wp2_with fail
   have HTd : Hid (Below w.heap.size w wr.drew) := Below.drew HT.out.2
   obtain ⟨Y, hY⟩ : ∃ Y, Y = wr.drew := ⟨_, rfl⟩
   rw [← hY] at HTd
   refine wp_region_held (S := fun W => (∀ j, j < 10 → W.cell? ⟨b1, o1 + k * 10 + j, none⟩ = cs[j]?) ∧ ∀ j, j < 10 → W.cell? ⟨b2, o2 + k * 10 + j, none⟩ = ds[j]?) (by kernel_rfl) ?_
   change wpAnyH _ _ _ _ _ _ _ _ (World.drew _)
   rw [← hY]
   clear hY
   refine tm 0 (.slice (some ⟨b1, o1, none⟩) la ca) (H := ⟨(HCW.out _ HTd.out).1, ?_⟩)
   refine tm 1 (.int .i64 k) (H := ⟨(HCW.out _ HTd.out).1, ?_⟩)
   refine tk 2 (.pointer (some ⟨b1, o1 + k * 10, none⟩)) (H := ⟨(.inl ⟨rfl, fun W _ => by go_simp; first | done | (intro h; omega) | (rw [if_pos (by omega)]; rfl)⟩), (HCW.out _ HTd.out).1, ?_⟩)
   refine tk 3 (.agg cs) (H := ⟨(yields_at 33 b1 (o1 + k * 10) 10 cs _ rfl rfl rfl Tryz.underlying33 rfl infoEnS2 HP.out.2.2.2.2.1 (fun W hW => hW.1)), (HCW.out _ HTd.out).1, ?_⟩)
   refine tm 4 (.slice (some ⟨b2, o2, none⟩) la cb) (H := ⟨(HCW.out _ HTd.out).1, ?_⟩)
   refine tm 5 (.int .i64 k) (H := ⟨(HCW.out _ HTd.out).1, ?_⟩)
   refine tk 6 (.pointer (some ⟨b2, o2 + k * 10, none⟩)) (H := ⟨(.inl ⟨rfl, fun W _ => by go_simp; first | done | (intro h; omega) | (rw [if_pos (by omega)]; rfl)⟩), (HCW.out _ HTd.out).1, ?_⟩)
   refine tk 7 (.agg ds) (H := ⟨(yields_at 33 b2 (o2 + k * 10) 10 ds _ rfl rfl rfl Tryz.underlying33 rfl infoEnS2 HP.out.2.2.2.2.2 (fun W hW => hW.2)), (HCW.out _ HTd.out).1, ?_⟩)
   refine oq 8 (H := fun K hK => ?_)
   obtain ⟨d, hd⟩ : ∃ d, d = decide (x = y) := ⟨_, rfl⟩
   have HD : Hid (d = decide (x = y)) := hd
   refine op_call2' 77 _ _ _ Tryz.f77 (fun v w' => v = .bool d ∧ Below Y.heap.size Y w') rfl rfl Tryz.func77 (by kernel_rfl) (by kernel_rfl) ((sameSpecE_any (.agg cs) (.agg ds) x y Fi Gi Y (HCW.out _ HTd.out).2.1 (HCW.out _ HTd.out).2.2 HP.out.2.2.1 HP.out.2.2.2.1).mono (by rintro e w' ⟨rfl, h1⟩; exact ⟨_, rfl, by rw [hd], h1⟩)) ?_
   rintro v Y2 ⟨rfl, hb2⟩
   have HB3 : Hid (Below w.heap.size w Y2) := Below.next HTd.out hb2
   clear hb2 hd
   refine pk (h := hK _ _ ⟨(HCW.out _ HB3.out).1, ?_⟩)
   clear hK
   refine oq 9 (H := fun K hK => ?_)
   refine op_value (.bool (!d)) rfl (by go_simp) (pk (h := hK _ _ ⟨(HCW.out _ HB3.out).1, ?_⟩))
   clear hK
   refine wpAnyH_done (by kernel_rfl) ?_ _
   cases d
   ·
    have HV : Hid (decide (xs = ys) = false) := ens_ne_at HP.out.1 HP.out.2.1 (of_decide_eq_false HD.out.symm)
    go_wp2
    go_ret
    exact ⟨ret_bool HV.out.symm, HB3.out⟩
   ·
    have HE : Hid (xs.take (k + 1) = ys.take (k + 1)) := ens_eq_step HP.out.1 HP.out.2.1 HT.out.1 (of_decide_eq_true HD.out.symm)
    go_wp2
    go_roundw
    case rel => exact ⟨k + 1, by omega, by go_num, HE.out, HB3.out⟩
    case measure => simp [intOf]; omega
  ·
   obtain rfl : k = la := by omega
   have HV : Hid (decide (xs = ys) = true) := by
    have := HT.out.1
    rw [List.take_of_length_le (by rw [HX.out.1.length]; omega), List.take_of_length_le (by rw [HY.out.1.length]; omega)] at this
    exact dec_true this
   go_wp2
   go_ret
   exact ⟨ret_bool HV.out.symm, HT.out.2⟩
theorem rowSameSpec_any (v u : Value) (x y : Rw) (F G : List Nat) (w : World) (h : RdRw w v x F) (k : RdRw w u y G) (hw : x.wide) (kw : y.wide) :
 Calls Tryz.prog 9 #[v, u] w fun e w' => e = .returned (.bool (decide (x = y))) ∧ Below w.heap.size w w' := by
 obtain ⟨a, n, c, rfl, hL, _⟩ := h
 obtain ⟨b, m, d, rfl, kL, _⟩ := k
 have HX : Hid (RdL enK w a n x.list F ∧ RdL enK w b m y.list G ∧ n ≤ 140737488355328 ∧ m ≤ 140737488355328 ∧ (∀ z ∈ x.list, z.wide) ∧ ∀ z ∈ y.list, z.wide) := ⟨hL, kL, by rw [← hL.length]; exact Nat.le_trans hw.2 (by omega), by rw [← kL.length]; exact Nat.le_trans kw.2 (by omega), hw.1, kw.1⟩
 have HT : Hid (Two w #[.slice a n c] #[.slice b m d] 26 ((w.alloc (.cells #[.slice a n c] 26)).alloc (.cells #[.slice b m d] 26))) := Two.made w _ _ _
 clear hL kL hw kw
 go_enter Tryz.func9, Tryz.ntmps9
 go_wp2_with fail
 refine (l10Entries_any a b n m c d x.list y.list F G _ (HX.out.1.below HT.out.bel) (HX.out.2.1.below HT.out.bel) HX.out.2.2.1 HX.out.2.2.2.1 HX.out.2.2.2.2.1 HX.out.2.2.2.2.2).mono ?_
 rintro e w2 ⟨rfl, hb2⟩
 have HT2 : Hid (Below w.heap.size w w2) := Below.next HT.out.bel hb2
 have HE : Hid (decide (x.list = y.list) = decide (x = y)) := decide_eq_decide.2 ⟨Rw.eq_of, fun e => by rw [e]⟩
 obtain ⟨g, hg⟩ : ∃ d, d = decide (x.list = y.list) := ⟨_, rfl⟩
 rw [← hg]
 have HG : Hid (g = decide (x = y)) := hg.trans HE.out
 clear hb2 HT hg
 go_wp2
 go_ret
 exact ⟨ret_bool HG.out, HT2.out⟩
end
end Go.Proofs.YtjnamoppcklomaaGreat
