/- A summary (chapter 3) as plain data; the walks through the helpers of the laws over it. No statement of the seat is proved here. -/
import Derived.Test.YtjnamoppcklomaaGreatIntRows
import Derived.Test.YtjnamoppcklomaaGreatBlocks
import Derived.Laws.Rows
namespace Go.Proofs.YtjnamoppcklomaaGreat
open Go.RowKit

structure Sk where
  count : Int
  sum : Int
  min : Int
  max : Int
  hist : List Int
  regs : List Int
  rows : List (List Int)
  deriving DecidableEq

/-- A summary's value that can be read. -/
def RdSk (w : World) (v : Value) (s : Sk) (F : List Nat) : Prop :=
  ∃ a1 n1 c1 a2 n2 c2 a3 n3 c3 F1 F2 F3, v = .agg #[.int .i64 s.count, .int .i64 s.sum, .int .i64 s.min, .int .i64 s.max, .slice a1 n1 c1, .slice a2 n2 c2, .slice a3 n3 c3] ∧
    RdI w a1 n1 s.hist F1 ∧ RdI w a2 n2 s.regs F2 ∧ RdII w a3 n3 s.rows F3 ∧ F = F1 ++ (F2 ++ F3)
theorem RdSk.agree {w w' : World} {v : Value} {s : Sk} {F : List Nat} (h : RdSk w v s F) (ha : Agree w w' F) : RdSk w' v s F := by
  obtain ⟨a1, n1, c1, a2, n2, c2, a3, n3, c3, F1, F2, F3, hv, h1, h2, h3, rfl⟩ := h
  exact ⟨a1, n1, c1, a2, n2, c2, a3, n3, c3, F1, F2, F3, hv, h1.agree ha.left, h2.agree ha.right.left, h3.agree ha.right.right, rfl⟩
theorem RdSk.lt {w : World} {v : Value} {s : Sk} {F : List Nat} (h : RdSk w v s F) : ∀ b ∈ F, b < w.heap.size := by
  obtain ⟨a1, n1, c1, a2, n2, c2, a3, n3, c3, F1, F2, F3, hv, h1, h2, h3, rfl⟩ := h
  intro b hb
  rcases List.mem_append.1 hb with hb | hb
  · exact h1.lt b hb
  · rcases List.mem_append.1 hb with hb | hb
    · exact h2.lt b hb
    · exact h3.lt b hb
theorem RdSk.below {w w' : World} {v : Value} {s : Sk} {F : List Nat} (h : RdSk w v s F) (hb : Below w.heap.size w w') : RdSk w' v s F := h.agree (.below hb h.lt)
/-- What a summary weighs, and that each of its lists is no longer than this. -/
def Sk.size (s : Sk) : Int := s.hist.length + s.regs.length + (s.rows.length + sumLen s.rows)
def NewSk (w : World) (s : Sk) (e : Ending) (w' : World) : Prop :=
  ∃ v F, e = .returned v ∧ RdSk w' v s F ∧ Own w.heap.size w' F ∧ Below w.heap.size w w'
structure Sk.fits (s : Sk) : Prop where
  hist : s.hist.length ≤ 1048576
  regs : s.regs.length ≤ 1048576
  rows : s.rows.length ≤ 1048576
  row : ∀ z ∈ s.rows, z.length ≤ 1048576
set_option maxRecDepth 200000 in
set_option maxHeartbeats 1000000 in
theorem toSketch_any (v : Value) (s : Sk) (F : List Nat) (w : World) (h : RdSk w v s F) (hf : s.fits) :
    Calls Tryz.prog 136 #[v] w fun e w' => NewSk w s e w' := by
  obtain ⟨a1, n1, c1, a2, n2, c2, a3, n3, c3, F1, F2, F3, rfl, h1, h2, h3, _⟩ := h
  have H1 : Hid (RdI w a1 n1 s.hist F1) := h1
  have H2 : Hid (RdI w a2 n2 s.regs F2) := h2
  have H3 : Hid (RdII w a3 n3 s.rows F3) := h3
  have HF : Hid s.fits := hf
  clear h1 h2 h3 hf
  go_enter Tryz.func136, Tryz.ntmps136
  go_wp2_with fail
  have T0 := Three.made w #[.int .i64 s.count, .int .i64 s.sum, .int .i64 s.min, .int .i64 s.max, .slice a1 n1 c1, .slice a2 n2 c2, .slice a3 n3 c3] 125 #[.int .i64 0, .int .i64 0, .int .i64 0, .int .i64 0, .slice none 0 0, .slice none 0 0, .slice none 0 0] #[.int .i64 s.count, .int .i64 s.sum, .int .i64 s.min, .int .i64 s.max, .slice none 0 0, .slice none 0 0, .slice none 0 0] 31
  refine (toIntS_any a1 n1 c1 s.hist F1 _ (H1.out.below T0.bel) (by rw [← H1.out.length]; exact HF.out.hist)).mono ?_
  rintro e w1 ⟨x1, m1, d1, G1, rfl, r1, o1, hb1⟩
  have T1 := T0.below hb1
  have ge1 := fun b hb => Nat.le_trans T0.size (o1.ge b hb)
  have P1 : Hid (RdI w1 x1 m1 s.hist G1 ∧ Own (w.heap.size + 3) w1 G1) := ⟨r1, o1.mono T0.size⟩
  have HT1 : Hid (Three w _ _ _ _ _ w1) := T1
  have c14 := T1.loc.cell 4
  have f14 := T1.loc.frozen 4
  have b15 := T1.box.cell 5
  simp only [aT, aS, aZ] at c14 b15
  clear T0 T1 r1 o1 hb1 ge1
  go_wp2_with fail
  have T1' := HT1.out.set 4 (.slice x1 m1 d1)
  have ne1 : w.heap.size + 1 + 1 ∉ G1 := fun hx => by have := P1.out.2.ge _ hx; omega
  refine (toIntS_any a2 n2 c2 s.regs F2 _ (H2.out.below T1'.bel) (by rw [← H2.out.length]; exact HF.out.regs)).mono ?_
  rintro e w2 ⟨x2, m2, d2, G2, rfl, r2, o2, hb2⟩
  have T2 := T1'.below hb2
  have q1 := P1.out.1.agree (.set ne1 4 (.slice x1 m1 d1))
  have p1 := P1.out.2.agree (.set ne1 4 (.slice x1 m1 d1))
  have p2 := (p1.below q1.lt hb2).join o2 q1.lt T1'.size
  have P2 : Hid (RdI w2 x1 m1 s.hist G1 ∧ RdI w2 x2 m2 s.regs G2 ∧ Own (w.heap.size + 3) w2 (G1 ++ G2)) := ⟨q1.below hb2, r2, p2⟩
  have HT2 : Hid (Three w _ _ _ _ _ w2) := T2
  have c25 := T2.loc.cell 5
  have f25 := T2.loc.frozen 5
  have b26 := T2.box.cell 6
  simp only [List.setIfInBounds_toArray, List.set_cons_succ, List.set_cons_zero, aT, aS, aZ] at c25 b26
  clear HT1 P1 T1' T2 r2 o2 hb2 q1 p1 p2 ne1 c14 f14 b15
  go_wp2_with fail
  have T2' := HT2.out.set 5 (.slice x2 m2 d2)
  have ne2 : w.heap.size + 1 + 1 ∉ G1 ++ G2 := fun hx => by have := P2.out.2.2.ge _ hx; omega
  refine (toIntSS_any a3 n3 c3 s.rows F3 _ (H3.out.below T2'.bel) (by rw [← H3.out.length]; exact HF.out.rows) HF.out.row).mono ?_
  rintro e w3 ⟨x3, m3, d3, G3, rfl, r3, o3, hb3⟩
  have T3 := T2'.below hb3
  have ag := Agree.set (w := w2) ne2 5 (.slice x2 m2 d2)
  have q1 := P2.out.1.agree ag.left
  have q2 := P2.out.2.1.agree ag.right
  have p2 := P2.out.2.2.agree ag
  have lt2 : ∀ b ∈ G1 ++ G2, b < (w2.setCell ⟨w.heap.size + 1 + 1, 5, none⟩ (.slice x2 m2 d2)).heap.size := fun b hb => (List.mem_append.1 hb).elim (q1.lt b) (q2.lt b)
  have p3 := (p2.below lt2 hb3).join o3 lt2 T2'.size
  have P3 : Hid (RdI w3 x1 m1 s.hist G1 ∧ RdI w3 x2 m2 s.regs G2 ∧ RdII w3 x3 m3 s.rows G3 ∧ Own (w.heap.size + 3) w3 (G1 ++ (G2 ++ G3))) := ⟨q1.below hb3, q2.below hb3, r3, by rw [← List.append_assoc]; exact p3⟩
  have HT3 : Hid (Three w _ _ _ _ _ w3) := T3
  have c36 := T3.loc.cell 6
  have f36 := T3.loc.frozen 6
  have c30 := T3.loc.cell 0
  have c31 := T3.loc.cell 1
  have c32 := T3.loc.cell 2
  have c33 := T3.loc.cell 3
  have c34 := T3.loc.cell 4
  have c35 := T3.loc.cell 5
  have e0 := T3.res.cell 0
  have g0 := T3.res.frozen 0
  have e1 := T3.res.cell 1
  have g1 := T3.res.frozen 1
  have e2 := T3.res.cell 2
  have g2 := T3.res.frozen 2
  have e3 := T3.res.cell 3
  have g3 := T3.res.frozen 3
  have e4 := T3.res.cell 4
  have g4 := T3.res.frozen 4
  have e5 := T3.res.cell 5
  have g5 := T3.res.frozen 5
  have e6 := T3.res.cell 6
  have g6 := T3.res.frozen 6
  simp only [List.setIfInBounds_toArray, List.set_cons_succ, List.set_cons_zero, aT, aS, aZ] at c36 c30 c31 c32 c33 c34 c35 e0 e1 e2 e3 e4 e5 e6
  clear HT2 P2 T2' T3 r3 o3 hb3 q1 q2 p2 p3 lt2 ag ne2 c25 f25 b26 H1 H2 H3 HF
  go_wp2
  have T4 := (((((((HT3.out.set 6 (.slice x3 m3 d3)).setRes 0 (.int .i64 s.count)).setRes 1 (.int .i64 s.sum)).setRes 2 (.int .i64 s.min)).setRes 3 (.int .i64 s.max)).setRes 4 (.slice x1 m1 d1)).setRes 5 (.slice x2 m2 d2)).setRes 6 (.slice x3 m3 d3)
  have nr : w.heap.size + 1 ∉ G1 ++ (G2 ++ G3) := fun hx => by have := P3.out.2.2.2.ge _ hx; omega
  have nl : w.heap.size + 1 + 1 ∉ G1 ++ (G2 ++ G3) := fun hx => by have := P3.out.2.2.2.ge _ hx; omega
  have ag := ((((((((Agree.refl w3 (G1 ++ (G2 ++ G3))).thenSet nl 6 (.slice x3 m3 d3)).thenSet nr 0 (.int .i64 s.count)).thenSet nr 1 (.int .i64 s.sum)).thenSet nr 2 (.int .i64 s.min)).thenSet nr 3 (.int .i64 s.max)).thenSet nr 4 (.slice x1 m1 d1)).thenSet nr 5 (.slice x2 m2 d2)).thenSet nr 6 (.slice x3 m3 d3)
  refine bodyPost_ret (results_cell_row Tryz.results136 _ _ (w.heap.size + 1) _ _ _ _ rfl T4.res Tryz.underlying31 rfl (by kernel_rfl)) rfl ?_
  refine ⟨_, G1 ++ (G2 ++ G3), rfl, ⟨x1, m1, d1, x2, m2, d2, x3, m3, d3, G1, G2, G3, rfl, P3.out.1.agree ag.left, P3.out.2.1.agree ag.right.left, P3.out.2.2.1.agree ag.right.right, rfl⟩, (P3.out.2.2.2.agree ag).mono (by omega), T4.bel⟩
/-- Each list is no longer than memory allows. -/
structure Sk.wide (s : Sk) : Prop where
  hist : s.hist.length ≤ 140737488355328
  regs : s.regs.length ≤ 140737488355328
  rows : s.rows.length ≤ 140737488355328
  row : ∀ z ∈ s.rows, z.length ≤ 140737488355328
theorem Sk.fits.wide {s : Sk} (h : s.fits) : s.wide := ⟨by have := h.hist; omega, by have := h.regs; omega, by have := h.rows; omega, fun z hz => by have := h.row z hz; omega⟩
theorem Sk.fits_of {s : Sk} (h : s.size ≤ 1048576) : s.fits := by
  have h0 := sumLen_nonneg s.rows
  unfold Sk.size at h
  exact ⟨by omega, by omega, by omega, fun z hz => by have := sumLen_mem s.rows z hz; omega⟩
/-- Two boxes. -/
structure Two (w : World) (A B : Array Value) (t : TypeId) (W : World) : Prop where
  fst : Blk W w.heap.size A t
  snd : Blk W (w.heap.size + 1) B t
  bel : Below w.heap.size w W
theorem Two.made (w : World) (A B : Array Value) (t : TypeId) : Two w A B t ((w.alloc (.cells A t)).alloc (.cells B t)) := by
  have s1 : (w.alloc (.cells A t)).heap.size = w.heap.size + 1 := by simp
  refine ⟨(Blk.made w A t).alloc _, ?_, ((Below.refl _ _).alloc (Nat.le_refl _) _).alloc (by omega) _⟩
  have := Blk.made (w.alloc (.cells A t)) B t
  rw [s1] at this
  exact this
theorem Two.below {w W W' : World} {A B : Array Value} {t : TypeId} (h : Two w A B t W) (hb : Below W.heap.size W W') : Two w A B t W' :=
  ⟨h.fst.below hb, h.snd.below hb, h.bel.trans (hb.mono h.bel.size)⟩
theorem Sk.eq_of {s t : Sk} (h1 : s.count = t.count) (h2 : s.sum = t.sum) (h3 : s.min = t.min) (h4 : s.max = t.max) (h5 : s.hist = t.hist) (h6 : s.regs = t.regs) (h7 : s.rows = t.rows) : s = t := by
  cases s; cases t; simp_all
theorem dec_false {p : Prop} [Decidable p] (h : ¬ p) : decide p = false := by simpa using h
theorem dec_true {p : Prop} [Decidable p] (h : p) : decide p = true := by simpa using h
set_option maxRecDepth 200000 in
set_option maxHeartbeats 2000000 in
theorem eqSketch_any (v u : Value) (s t : Sk) (F G : List Nat) (w : World) (h : RdSk w v s F) (k : RdSk w u t G) (hw : s.wide) (kw : t.wide) :
    Calls Tryz.prog 94 #[v, u] w fun e w' => e = .returned (.bool (decide (s = t))) ∧ Below w.heap.size w w' := by
  obtain ⟨a1, n1, c1, a2, n2, c2, a3, n3, c3, F1, F2, F3, rfl, h1, h2, h3, _⟩ := h
  obtain ⟨b1, m1, d1, b2, m2, d2, b3, m3, d3, G1, G2, G3, rfl, k1, k2, k3, _⟩ := k
  have H1 : Hid (RdI w a1 n1 s.hist F1 ∧ RdI w b1 m1 t.hist G1 ∧ n1 ≤ 140737488355328 ∧ m1 ≤ 140737488355328) := ⟨h1, k1, by rw [← h1.length]; exact hw.hist, by rw [← k1.length]; exact kw.hist⟩
  have H2 : Hid (RdI w a2 n2 s.regs F2 ∧ RdI w b2 m2 t.regs G2 ∧ n2 ≤ 140737488355328 ∧ m2 ≤ 140737488355328) := ⟨h2, k2, by rw [← h2.length]; exact hw.regs, by rw [← k2.length]; exact kw.regs⟩
  have H3 : Hid (RdII w a3 n3 s.rows F3 ∧ RdII w b3 m3 t.rows G3 ∧ n3 ≤ 140737488355328 ∧ m3 ≤ 140737488355328) := ⟨h3, k3, by rw [← h3.length]; exact hw.rows, by rw [← k3.length]; exact kw.rows⟩
  have HW : Hid (s.wide ∧ t.wide) := ⟨hw, kw⟩
  clear h1 h2 h3 k1 k2 k3 hw kw
  have hD : ∃ d : Bool, d = decide (s = t) := ⟨_, rfl⟩
  obtain ⟨d, hd⟩ := hD
  rw [← hd]
  have HD : Hid (d = decide (s = t)) := hd
  clear hd
  have T0 := Two.made w #[.int .i64 s.count, .int .i64 s.sum, .int .i64 s.min, .int .i64 s.max, .slice a1 n1 c1, .slice a2 n2 c2, .slice a3 n3 c3] #[.int .i64 t.count, .int .i64 t.sum, .int .i64 t.min, .int .i64 t.max, .slice b1 m1 d1, .slice b2 m2 d2, .slice b3 m3 d3] 31
  have HT0 : Hid (Two w _ _ _ _) := T0
  clear T0
  go_enter Tryz.func94, Tryz.ntmps94
  by_cases q1 : s.count = t.count
  rotate_left
  · have q1' : (s.count != t.count) = true := by simpa using q1
    go_wp2
    go_ret
    exact ⟨ret_bool (by rw [HD.out]; exact (dec_false (fun e => q1 (by rw [e]))).symm), HT0.out.bel⟩
  have q1' : (s.count != t.count) = false := by simpa using q1
  have Q1 : Hid (s.count = t.count) := q1
  clear q1
  by_cases q2 : s.sum = t.sum
  rotate_left
  · have q2' : (s.sum != t.sum) = true := by simpa using q2
    go_wp2
    go_ret
    exact ⟨ret_bool (by rw [HD.out]; exact (dec_false (fun e => q2 (by rw [e]))).symm), HT0.out.bel⟩
  have q2' : (s.sum != t.sum) = false := by simpa using q2
  have Q2 : Hid (s.sum = t.sum) := q2
  clear q2
  by_cases q3 : s.min = t.min
  rotate_left
  · have q3' : (s.min != t.min) = true := by simpa using q3
    go_wp2
    go_ret
    exact ⟨ret_bool (by rw [HD.out]; exact (dec_false (fun e => q3 (by rw [e]))).symm), HT0.out.bel⟩
  have q3' : (s.min != t.min) = false := by simpa using q3
  have Q3 : Hid (s.min = t.min) := q3
  clear q3
  by_cases q4 : s.max = t.max
  rotate_left
  · have q4' : (s.max != t.max) = true := by simpa using q4
    go_wp2
    go_ret
    exact ⟨ret_bool (by rw [HD.out]; exact (dec_false (fun e => q4 (by rw [e]))).symm), HT0.out.bel⟩
  have q4' : (s.max != t.max) = false := by simpa using q4
  have Q4 : Hid (s.max = t.max) := q4
  clear q4
  go_wp2_with fail
  refine (eqIntS_any a1 b1 n1 m1 c1 d1 s.hist t.hist F1 G1 _ (H1.out.1.below HT0.out.bel) (H1.out.2.1.below HT0.out.bel) H1.out.2.2.1 H1.out.2.2.2).mono ?_
  rintro e w1 ⟨rfl, hb1⟩
  have T1 := HT0.out.below hb1
  have HT1 : Hid (Two w _ _ _ w1) := T1
  have x5 := T1.fst.cell 5
  have y5 := T1.snd.cell 5
  simp only [aT, aS, aZ] at x5 y5
  clear T1 hb1 HT0 H1 q1' q2' q3' q4'
  by_cases q5 : s.hist = t.hist
  rotate_left
  · rw [dec_false q5]
    go_wp2
    go_ret
    exact ⟨ret_bool (by rw [HD.out]; exact (dec_false (fun e => q5 (by rw [e]))).symm), HT1.out.bel⟩
  rw [dec_true q5]
  have Q5 : Hid (s.hist = t.hist) := q5
  clear q5
  go_wp2_with fail
  refine (eqIntS_any a2 b2 n2 m2 c2 d2 s.regs t.regs F2 G2 _ (H2.out.1.below HT1.out.bel) (H2.out.2.1.below HT1.out.bel) H2.out.2.2.1 H2.out.2.2.2).mono ?_
  rintro e w2 ⟨rfl, hb2⟩
  have T2 := HT1.out.below hb2
  have HT2 : Hid (Two w _ _ _ w2) := T2
  have x6 := T2.fst.cell 6
  have y6 := T2.snd.cell 6
  simp only [aT, aS, aZ] at x6 y6
  clear T2 hb2 HT1 H2 x5 y5
  by_cases q6 : s.regs = t.regs
  rotate_left
  · rw [dec_false q6]
    go_wp2
    go_ret
    exact ⟨ret_bool (by rw [HD.out]; exact (dec_false (fun e => q6 (by rw [e]))).symm), HT2.out.bel⟩
  rw [dec_true q6]
  have Q6 : Hid (s.regs = t.regs) := q6
  clear q6
  go_wp2_with fail
  refine (eqIntSS_any a3 b3 n3 m3 c3 d3 s.rows t.rows F3 G3 _ (H3.out.1.below HT2.out.bel) (H3.out.2.1.below HT2.out.bel) H3.out.2.2.1 H3.out.2.2.2 HW.out.1.row HW.out.2.row).mono ?_
  rintro e w3 ⟨rfl, hb3⟩
  have HB3 : Hid (Below w.heap.size w w3) := (HT2.out.below hb3).bel
  clear hb3 HT2 H3 x6 y6
  by_cases q7 : s.rows = t.rows
  · rw [dec_true q7]
    have Q7 : Hid (s.rows = t.rows) := q7
    clear q7
    go_wp2
    go_ret
    exact ⟨ret_bool (by rw [HD.out]; exact (dec_true (Sk.eq_of Q1.out Q2.out Q3.out Q4.out Q5.out Q6.out Q7.out)).symm), HB3.out⟩
  · rw [dec_false q7]
    go_wp2
    go_ret
    exact ⟨ret_bool (by rw [HD.out]; exact (dec_false (fun e => q7 (by rw [e]))).symm), HB3.out⟩
def Sk.zero : Sk := ⟨0, 0, 0, 0, [], [], []⟩
end Go.Proofs.YtjnamoppcklomaaGreat
