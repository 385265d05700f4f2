/- Several texts of mine, laid together. No statement of the seat is proved here. -/
import Derived.Test.YtbmbmnhamogghapB1
import Derived.Laws.Rows
import Derived.ProofKit
import Derived.OpenShut
import Derived.ChangeSlices
import Derived.WideShapes
import Derived.Deep.Matrix
/- A block's cells as a whole: structs that a call lays in memory of its own. No statement of the seat is proved here. -/
namespace Go.Proofs.Ytbmbmnhamogghap
open Go.RowKit

/-- Block g is these cells, none frozen. -/
def Blk (w : World) (g : Nat) (cs : Array Value) (t : TypeId) : Prop := w.heap[g]? = some (.cells cs t (0, 0))
theorem Blk.cell {w : World} {g : Nat} {cs : Array Value} {t : TypeId} (h : Blk w g cs t) (i : Nat) : w.cell? ⟨g, i, none⟩ = cs[i]? := by
  have h' : w.heap[g]? = some (.cells cs t (0, 0)) := h
  simp [World.cell?, h']
theorem Blk.frozen {w : World} {g : Nat} {cs : Array Value} {t : TypeId} (h : Blk w g cs t) (i : Nat) : w.frozen? ⟨g, i, none⟩ = false := by
  have h' : w.heap[g]? = some (.cells cs t (0, 0)) := h
  simp [World.frozen?, h']
theorem Blk.lt {w : World} {g : Nat} {cs : Array Value} {t : TypeId} (h : Blk w g cs t) : g < w.heap.size := by
  have h' : w.heap[g]? = some (.cells cs t (0, 0)) := h
  by_cases hg : g < w.heap.size
  · exact hg
  · rw [Array.getElem?_eq_none (by omega)] at h'; cases h'
theorem Blk.agree {w w' : World} {g : Nat} {cs : Array Value} {t : TypeId} (h : Blk w g cs t) (e : w'.heap[g]? = w.heap[g]?) : Blk w' g cs t := e.trans h
theorem Blk.below {w w' : World} {g : Nat} {cs : Array Value} {t : TypeId} (h : Blk w g cs t) (hb : Below w.heap.size w w') : Blk w' g cs t := h.agree (hb.block g h.lt)
theorem Blk.alloc {w : World} {g : Nat} {cs : Array Value} {t : TypeId} (h : Blk w g cs t) (o : Obj) : Blk (w.alloc o) g cs t := h.agree (Below.heap_alloc w o g h.lt)
theorem Blk.made (w : World) (cs : Array Value) (t : TypeId) : Blk (w.alloc (.cells cs t)) w.heap.size cs t := by
  show (w.heap.push _)[w.heap.size]? = _
  simp
theorem Blk.setOther {w : World} {g g' : Nat} {cs : Array Value} {t : TypeId} (h : Blk w g cs t) (hne : g ≠ g') (j : Nat) (v : Value) : Blk (w.setCell ⟨g', j, none⟩ v) g cs t := h.agree (Below.heap_setCell w ⟨g', j, none⟩ v g hne)
theorem Blk.set {w : World} {g : Nat} {cs : Array Value} {t : TypeId} (h : Blk w g cs t) (j : Nat) (v : Value) : Blk (w.setCell ⟨g, j, none⟩ v) g (cs.setIfInBounds j v) t := by
  have h' : w.heap[g]? = some (.cells cs t (0, 0)) := h
  unfold Blk
  simp only [World.setCell, Array.getElem?_modify, if_true]
  rw [h']
  simp

/-- What a copying of a struct has laid: the argument's box, the result's place, the new struct. -/
structure Three (w : World) (A : Array Value) (tA : TypeId) (B : Array Value) (C : Array Value) (tC : TypeId) (W : World) : Prop where
  box : Blk W w.heap.size A tA
  res : Blk W (w.heap.size + 1) B tC
  loc : Blk W (w.heap.size + 1 + 1) C tC
  bel : Below w.heap.size w W
theorem Three.made (w : World) (A : Array Value) (tA : TypeId) (B C : Array Value) (tC : TypeId) : Three w A tA B C tC (((w.alloc (.cells A tA)).alloc (.cells B tC)).alloc (.cells C tC)) := by
  have s1 : (w.alloc (.cells A tA)).heap.size = w.heap.size + 1 := by simp
  have s2 : ((w.alloc (.cells A tA)).alloc (.cells B tC)).heap.size = w.heap.size + 1 + 1 := by simp
  refine ⟨((Blk.made w A tA).alloc _).alloc _, ?_, ?_, (((Below.refl _ _).alloc (Nat.le_refl _) _).alloc (by omega) _).alloc (by omega) _⟩
  · have := Blk.made (w.alloc (.cells A tA)) B tC
    rw [s1] at this
    exact this.alloc _
  · have := Blk.made ((w.alloc (.cells A tA)).alloc (.cells B tC)) C tC
    rw [s2] at this
    exact this
theorem Three.size {w W : World} {A B C : Array Value} {tA tC : TypeId} (h : Three w A tA B C tC W) : w.heap.size + 3 ≤ W.heap.size := h.loc.lt
theorem Three.below {w W W' : World} {A B C : Array Value} {tA tC : TypeId} (h : Three w A tA B C tC W) (hb : Below W.heap.size W W') : Three w A tA B C tC W' :=
  ⟨h.box.below hb, h.res.below hb, h.loc.below hb, h.bel.trans (hb.mono h.bel.size)⟩
theorem Three.set {w W : World} {A B C : Array Value} {tA tC : TypeId} (h : Three w A tA B C tC W) (j : Nat) (v : Value) : Three w A tA B (C.setIfInBounds j v) tC (W.setCell ⟨w.heap.size + 1 + 1, j, none⟩ v) :=
  ⟨h.box.setOther (by omega) j v, h.res.setOther (by omega) j v, h.loc.set j v, h.bel.setCell (by show w.heap.size ≤ w.heap.size + 1 + 1; omega) v⟩
theorem Three.setRes {w W : World} {A B C : Array Value} {tA tC : TypeId} (h : Three w A tA B C tC W) (j : Nat) (v : Value) : Three w A tA (B.setIfInBounds j v) C tC (W.setCell ⟨w.heap.size + 1, j, none⟩ v) :=
  ⟨h.box.setOther (by omega) j v, h.res.set j v, h.loc.setOther (by omega) j v, h.bel.setCell (by show w.heap.size ≤ w.heap.size + 1; omega) v⟩
theorem Agree.refl (w : World) (F : List Nat) : Agree w w F := fun _ _ => rfl
theorem Agree.trans {a b c : World} {F : List Nat} (h : Agree a b F) (k : Agree b c F) : Agree a c F := fun x hx => (k x hx).trans (h x hx)
theorem Agree.mono {a b : World} {F G : List Nat} (h : Agree a b G) (hs : ∀ x ∈ F, x ∈ G) : Agree a b F := fun x hx => h x (hs x hx)
theorem Agree.thenSet {w w' : World} {F : List Nat} {g : Nat} (h : Agree w w' F) (hg : g ∉ F) (j : Nat) (v : Value) : Agree w (w'.setCell ⟨g, j, none⟩ v) F :=
  h.trans (fun b hb => Below.heap_setCell w' ⟨g, j, none⟩ v b (fun e => hg (by have e2 : b = g := e; rw [← e2]; exact hb)))
/-! ### blocks one behind the other, as a walk writes them out: 'blk', 'bel' -/
theorem Blk.made_eq {w : World} {cs : Array Value} {t : TypeId} {g : Nat} (h : g = w.heap.size) : Blk (w.alloc (.cells cs t)) g cs t := by subst h; exact Blk.made w cs t
theorem Blk.drew {w : World} {g : Nat} {cs : Array Value} {t : TypeId} (h : Blk w g cs t) : Blk w.drew g cs t := h
theorem Below.allocW {B : Nat} {a w : World} (o : Obj) (h : Below B a w) (hB : B ≤ a.heap.size) : Below B a (w.alloc o) := h.alloc (Nat.le_trans hB h.size) o
theorem Below.next {w0 wx w1 : World} (h : Below w0.heap.size w0 wx) (hb : Below wx.heap.size wx w1) : Below w0.heap.size w0 w1 := h.trans (hb.mono h.size)
theorem Below.sets7 {B : Nat} {a w : World} {g : Nat} {v0 v1 v2 v3 v4 v5 v6 : Value} (h : Below B a w) (hg : B ≤ g) :
    Below B a (((((((w.setCell ⟨g, 0, none⟩ v0).setCell ⟨g, 1, none⟩ v1).setCell ⟨g, 2, none⟩ v2).setCell ⟨g, 3, none⟩ v3).setCell ⟨g, 4, none⟩ v4).setCell ⟨g, 5, none⟩ v5).setCell ⟨g, 6, none⟩ v6) :=
  ((((((h.setCell hg v0).setCell hg v1).setCell hg v2).setCell hg v3).setCell hg v4).setCell hg v5).setCell hg v6
end Go.Proofs.Ytbmbmnhamogghap
/- A summary (chapter 3) as plain data; the walks through the helpers of the laws over it. No statement of the seat is proved here. -/
namespace Go.Proofs.Ytbmbmnhamogghap
open Go.RowKit

structure Sk where
  count : Int
  sum : Int
  min : Int
  max : Int
  hist : List Int
  regs : List Int
  rows : List (List Int)
  deriving DecidableEq

/-- A summary's value that can be read. -/
def RdSk (w : World) (v : Value) (s : Sk) (F : List Nat) : Prop :=
  ∃ a1 n1 c1 a2 n2 c2 a3 n3 c3 F1 F2 F3, v = .agg #[.int .i64 s.count, .int .i64 s.sum, .int .i64 s.min, .int .i64 s.max, .slice a1 n1 c1, .slice a2 n2 c2, .slice a3 n3 c3] ∧
    RdI w a1 n1 s.hist F1 ∧ RdI w a2 n2 s.regs F2 ∧ RdII w a3 n3 s.rows F3 ∧ F = F1 ++ (F2 ++ F3)
theorem RdSk.agree {w w' : World} {v : Value} {s : Sk} {F : List Nat} (h : RdSk w v s F) (ha : Agree w w' F) : RdSk w' v s F := by
  obtain ⟨a1, n1, c1, a2, n2, c2, a3, n3, c3, F1, F2, F3, hv, h1, h2, h3, rfl⟩ := h
  exact ⟨a1, n1, c1, a2, n2, c2, a3, n3, c3, F1, F2, F3, hv, h1.agree ha.left, h2.agree ha.right.left, h3.agree ha.right.right, rfl⟩
theorem RdSk.lt {w : World} {v : Value} {s : Sk} {F : List Nat} (h : RdSk w v s F) : ∀ b ∈ F, b < w.heap.size := by
  obtain ⟨a1, n1, c1, a2, n2, c2, a3, n3, c3, F1, F2, F3, hv, h1, h2, h3, rfl⟩ := h
  intro b hb
  rcases List.mem_append.1 hb with hb | hb
  · exact h1.lt b hb
  · rcases List.mem_append.1 hb with hb | hb
    · exact h2.lt b hb
    · exact h3.lt b hb
theorem RdSk.below {w w' : World} {v : Value} {s : Sk} {F : List Nat} (h : RdSk w v s F) (hb : Below w.heap.size w w') : RdSk w' v s F := h.agree (.below hb h.lt)
/-- What a summary weighs, and that each of its lists is no longer than this. -/
def Sk.size (s : Sk) : Int := s.hist.length + s.regs.length + (s.rows.length + sumLen s.rows)
def NewSk (w : World) (s : Sk) (e : Ending) (w' : World) : Prop :=
  ∃ v F, e = .returned v ∧ RdSk w' v s F ∧ Own w.heap.size w' F ∧ Below w.heap.size w w'
structure Sk.fits (s : Sk) : Prop where
  hist : s.hist.length ≤ 1048576
  regs : s.regs.length ≤ 1048576
  rows : s.rows.length ≤ 1048576
  row : ∀ z ∈ s.rows, z.length ≤ 1048576
set_option maxRecDepth 200000 in
set_option maxHeartbeats 1000000 in
theorem toSketch_any (v : Value) (s : Sk) (F : List Nat) (w : World) (h : RdSk w v s F) (hf : s.fits) :
    Calls Try.prog 39 #[v] w fun e w' => NewSk w s e w' := by
  obtain ⟨a1, n1, c1, a2, n2, c2, a3, n3, c3, F1, F2, F3, rfl, h1, h2, h3, _⟩ := h
  have H1 : Hid (RdI w a1 n1 s.hist F1) := h1
  have H2 : Hid (RdI w a2 n2 s.regs F2) := h2
  have H3 : Hid (RdII w a3 n3 s.rows F3) := h3
  have HF : Hid s.fits := hf
  clear h1 h2 h3 hf
  go_enter Try.func39, Try.ntmps39
  go_wp2_with fail
  have T0 := Three.made w #[.int .i64 s.count, .int .i64 s.sum, .int .i64 s.min, .int .i64 s.max, .slice a1 n1 c1, .slice a2 n2 c2, .slice a3 n3 c3] 26 #[.int .i64 0, .int .i64 0, .int .i64 0, .int .i64 0, .slice none 0 0, .slice none 0 0, .slice none 0 0] #[.int .i64 s.count, .int .i64 s.sum, .int .i64 s.min, .int .i64 s.max, .slice none 0 0, .slice none 0 0, .slice none 0 0] 32
  refine (toIntS_any a1 n1 c1 s.hist F1 _ (H1.out.below T0.bel) (by rw [← H1.out.length]; exact HF.out.hist)).mono ?_
  rintro e w1 ⟨x1, m1, d1, G1, rfl, r1, o1, hb1⟩
  have T1 := T0.below hb1
  have ge1 := fun b hb => Nat.le_trans T0.size (o1.ge b hb)
  have P1 : Hid (RdI w1 x1 m1 s.hist G1 ∧ Own (w.heap.size + 3) w1 G1) := ⟨r1, o1.mono T0.size⟩
  have HT1 : Hid (Three w _ _ _ _ _ w1) := T1
  have c14 := T1.loc.cell 4
  have f14 := T1.loc.frozen 4
  have b15 := T1.box.cell 5
  simp only [List.getElem?_toArray, List.getElem?_cons_succ, List.getElem?_cons_zero] at c14 b15
  clear T0 T1 r1 o1 hb1 ge1
  go_wp2_with fail
  have T1' := HT1.out.set 4 (.slice x1 m1 d1)
  have ne1 : w.heap.size + 1 + 1 ∉ G1 := fun hx => by have := P1.out.2.ge _ hx; omega
  refine (toIntS_any a2 n2 c2 s.regs F2 _ (H2.out.below T1'.bel) (by rw [← H2.out.length]; exact HF.out.regs)).mono ?_
  rintro e w2 ⟨x2, m2, d2, G2, rfl, r2, o2, hb2⟩
  have T2 := T1'.below hb2
  have q1 := P1.out.1.agree (.set ne1 4 (.slice x1 m1 d1))
  have p1 := P1.out.2.agree (.set ne1 4 (.slice x1 m1 d1))
  have p2 := (p1.below q1.lt hb2).join o2 q1.lt T1'.size
  have P2 : Hid (RdI w2 x1 m1 s.hist G1 ∧ RdI w2 x2 m2 s.regs G2 ∧ Own (w.heap.size + 3) w2 (G1 ++ G2)) := ⟨q1.below hb2, r2, p2⟩
  have HT2 : Hid (Three w _ _ _ _ _ w2) := T2
  have c25 := T2.loc.cell 5
  have f25 := T2.loc.frozen 5
  have b26 := T2.box.cell 6
  simp only [List.setIfInBounds_toArray, List.set_cons_succ, List.set_cons_zero, List.getElem?_toArray, List.getElem?_cons_succ, List.getElem?_cons_zero] at c25 b26
  clear HT1 P1 T1' T2 r2 o2 hb2 q1 p1 p2 ne1 c14 f14 b15
  go_wp2_with fail
  have T2' := HT2.out.set 5 (.slice x2 m2 d2)
  have ne2 : w.heap.size + 1 + 1 ∉ G1 ++ G2 := fun hx => by have := P2.out.2.2.ge _ hx; omega
  refine (toIntSS_any a3 n3 c3 s.rows F3 _ (H3.out.below T2'.bel) (by rw [← H3.out.length]; exact HF.out.rows) HF.out.row).mono ?_
  rintro e w3 ⟨x3, m3, d3, G3, rfl, r3, o3, hb3⟩
  have T3 := T2'.below hb3
  have ag := Agree.set (w := w2) ne2 5 (.slice x2 m2 d2)
  have q1 := P2.out.1.agree ag.left
  have q2 := P2.out.2.1.agree ag.right
  have p2 := P2.out.2.2.agree ag
  have lt2 : ∀ b ∈ G1 ++ G2, b < (w2.setCell ⟨w.heap.size + 1 + 1, 5, none⟩ (.slice x2 m2 d2)).heap.size := fun b hb => (List.mem_append.1 hb).elim (q1.lt b) (q2.lt b)
  have p3 := (p2.below lt2 hb3).join o3 lt2 T2'.size
  have P3 : Hid (RdI w3 x1 m1 s.hist G1 ∧ RdI w3 x2 m2 s.regs G2 ∧ RdII w3 x3 m3 s.rows G3 ∧ Own (w.heap.size + 3) w3 (G1 ++ (G2 ++ G3))) := ⟨q1.below hb3, q2.below hb3, r3, by rw [← List.append_assoc]; exact p3⟩
  have HT3 : Hid (Three w _ _ _ _ _ w3) := T3
  have c36 := T3.loc.cell 6
  have f36 := T3.loc.frozen 6
  have c30 := T3.loc.cell 0
  have c31 := T3.loc.cell 1
  have c32 := T3.loc.cell 2
  have c33 := T3.loc.cell 3
  have c34 := T3.loc.cell 4
  have c35 := T3.loc.cell 5
  have e0 := T3.res.cell 0
  have g0 := T3.res.frozen 0
  have e1 := T3.res.cell 1
  have g1 := T3.res.frozen 1
  have e2 := T3.res.cell 2
  have g2 := T3.res.frozen 2
  have e3 := T3.res.cell 3
  have g3 := T3.res.frozen 3
  have e4 := T3.res.cell 4
  have g4 := T3.res.frozen 4
  have e5 := T3.res.cell 5
  have g5 := T3.res.frozen 5
  have e6 := T3.res.cell 6
  have g6 := T3.res.frozen 6
  simp only [List.setIfInBounds_toArray, List.set_cons_succ, List.set_cons_zero, List.getElem?_toArray, List.getElem?_cons_succ, List.getElem?_cons_zero] at c36 c30 c31 c32 c33 c34 c35 e0 e1 e2 e3 e4 e5 e6
  clear HT2 P2 T2' T3 r3 o3 hb3 q1 q2 p2 p3 lt2 ag ne2 c25 f25 b26 H1 H2 H3 HF
  go_wp2
  have T4 := (((((((HT3.out.set 6 (.slice x3 m3 d3)).setRes 0 (.int .i64 s.count)).setRes 1 (.int .i64 s.sum)).setRes 2 (.int .i64 s.min)).setRes 3 (.int .i64 s.max)).setRes 4 (.slice x1 m1 d1)).setRes 5 (.slice x2 m2 d2)).setRes 6 (.slice x3 m3 d3)
  have nr : w.heap.size + 1 ∉ G1 ++ (G2 ++ G3) := fun hx => by have := P3.out.2.2.2.ge _ hx; omega
  have nl : w.heap.size + 1 + 1 ∉ G1 ++ (G2 ++ G3) := fun hx => by have := P3.out.2.2.2.ge _ hx; omega
  have ag := ((((((((Agree.refl w3 (G1 ++ (G2 ++ G3))).thenSet nl 6 (.slice x3 m3 d3)).thenSet nr 0 (.int .i64 s.count)).thenSet nr 1 (.int .i64 s.sum)).thenSet nr 2 (.int .i64 s.min)).thenSet nr 3 (.int .i64 s.max)).thenSet nr 4 (.slice x1 m1 d1)).thenSet nr 5 (.slice x2 m2 d2)).thenSet nr 6 (.slice x3 m3 d3)
  refine bodyPost_ret (results_cell_row Try.results39 _ _ (w.heap.size + 1) _ _ _ _ rfl T4.res Try.underlying32 rfl (by kernel_rfl)) rfl ?_
  refine ⟨_, G1 ++ (G2 ++ G3), rfl, ⟨x1, m1, d1, x2, m2, d2, x3, m3, d3, G1, G2, G3, rfl, P3.out.1.agree ag.left, P3.out.2.1.agree ag.right.left, P3.out.2.2.1.agree ag.right.right, rfl⟩, (P3.out.2.2.2.agree ag).mono (by omega), T4.bel⟩
/-- Each list is no longer than memory allows. -/
structure Sk.wide (s : Sk) : Prop where
  hist : s.hist.length ≤ 140737488355328
  regs : s.regs.length ≤ 140737488355328
  rows : s.rows.length ≤ 140737488355328
  row : ∀ z ∈ s.rows, z.length ≤ 140737488355328
theorem Sk.fits.wide {s : Sk} (h : s.fits) : s.wide := ⟨by have := h.hist; omega, by have := h.regs; omega, by have := h.rows; omega, fun z hz => by have := h.row z hz; omega⟩
theorem Sk.fits_of {s : Sk} (h : s.size ≤ 1048576) : s.fits := by
  have h0 := sumLen_nonneg s.rows
  unfold Sk.size at h
  exact ⟨by omega, by omega, by omega, fun z hz => by have := sumLen_mem s.rows z hz; omega⟩
set_option maxRecDepth 200000 in
theorem szSketch_any (v : Value) (s : Sk) (F : List Nat) (left : Int) (w : World) (h : RdSk w v s F) (hw : s.wide) (hl0 : 0 ≤ left) (hl1 : left ≤ 1048576) :
    Calls Try.prog 34 #[v, .int .i64 left] w fun e w' => Weighed left s.size e ∧ Below w.heap.size w w' := by
  obtain ⟨a1, n1, c1, a2, n2, c2, a3, n3, c3, F1, F2, F3, rfl, h1, h2, h3, _⟩ := h
  have e1 := h1.length
  have e2 := h2.length
  have e3 := h3.length
  have hn1 : n1 ≤ 140737488355328 := by rw [← e1]; exact hw.hist
  have hn2 : n2 ≤ 140737488355328 := by rw [← e2]; exact hw.regs
  have hn3 : n3 ≤ 140737488355328 := by rw [← e3]; exact hw.rows
  have HW : Hid (∀ z ∈ s.rows, z.length ≤ 140737488355328) := hw.row
  have HSz : Hid (s.size = n1 + n2 + (n3 + sumLen s.rows) ∧ 0 ≤ sumLen s.rows) := by
    have h0 := sumLen_nonneg s.rows
    exact ⟨by unfold Sk.size; omega, h0⟩
  have H3 : Hid (RdII w a3 n3 s.rows F3) := h3
  clear h1 h2 h3 hw e1 e2 e3
  go_enter Try.func34, Try.ntmps34
  go_wp2_with fail
  refine (szIntS_any a1 n1 c1 left _ hn1 hl0 hl1).mono ?_
  rintro e w1 ⟨⟨r1, rfl, ra, rb, rc⟩, hw1⟩
  have hw1' := hw1.symm
  subst hw1'
  clear hw1
  have HR1 : Hid (r1 ≤ left ∧ (0 ≤ r1 → r1 = left - n1) ∧ (r1 < 0 → left < n1)) := ⟨ra, rb, rc⟩
  clear ra rb rc
  by_cases q1 : r1 < 0
  · go_wp2
    go_ret
    have x1 := HR1.out; have x2 := HSz.out
    exact ⟨⟨-1, rfl, by omega, by omega, by omega⟩, (Below.refl _ _).alloc (Nat.le_refl _) _⟩
  have p1 : 0 ≤ r1 := by omega
  have u1 : r1 ≤ 1048576 := by have := HR1.out; omega
  go_wp2_with fail
  refine (szIntS_any a2 n2 c2 r1 _ hn2 p1 u1).mono ?_
  rintro e w1 ⟨⟨r2, rfl, ra, rb, rc⟩, hw1⟩
  have hw1' := hw1.symm
  subst hw1'
  clear hw1
  have HR2 : Hid (r2 ≤ r1 ∧ (0 ≤ r2 → r2 = r1 - n2) ∧ (r2 < 0 → r1 < n2)) := ⟨ra, rb, rc⟩
  clear ra rb rc
  by_cases q2 : r2 < 0
  · go_wp2
    go_ret
    have x1 := HR1.out; have x2 := HSz.out; have x3 := HR2.out
    exact ⟨⟨-1, rfl, by omega, by omega, by omega⟩, (Below.refl _ _).alloc (Nat.le_refl _) _⟩
  have p2 : 0 ≤ r2 := by omega
  have u2 : r2 ≤ 1048576 := by have := HR2.out; omega
  go_wp2_with fail
  refine (szIntSS_any a3 n3 c3 s.rows F3 r2 _ (H3.out.below ((Below.refl _ _).alloc (Nat.le_refl _) _)) hn3 HW.out p2 u2).mono ?_
  rintro e w1 ⟨⟨r3, rfl, ra, rb, rc⟩, hw1⟩
  have hw1' := hw1.symm
  subst hw1'
  clear hw1
  have HR3 : Hid (r3 ≤ r2 ∧ (0 ≤ r3 → r3 = r2 - (n3 + sumLen s.rows)) ∧ (r3 < 0 → r2 < n3 + sumLen s.rows)) := ⟨ra, rb, rc⟩
  clear ra rb rc
  by_cases q3 : r3 < 0
  · go_wp2
    go_ret
    have x1 := HR1.out; have x2 := HSz.out; have x3 := HR2.out; have x4 := HR3.out
    exact ⟨⟨-1, rfl, by omega, by omega, by omega⟩, (Below.refl _ _).alloc (Nat.le_refl _) _⟩
  go_wp2
  go_ret
  have x1 := HR1.out; have x2 := HSz.out; have x3 := HR2.out; have x4 := HR3.out
  exact ⟨⟨r3, rfl, by omega, by omega, by omega⟩, (Below.refl _ _).alloc (Nat.le_refl _) _⟩
/-- Two boxes. -/
structure Two (w : World) (A B : Array Value) (t : TypeId) (W : World) : Prop where
  fst : Blk W w.heap.size A t
  snd : Blk W (w.heap.size + 1) B t
  bel : Below w.heap.size w W
theorem Two.made (w : World) (A B : Array Value) (t : TypeId) : Two w A B t ((w.alloc (.cells A t)).alloc (.cells B t)) := by
  have s1 : (w.alloc (.cells A t)).heap.size = w.heap.size + 1 := by simp
  refine ⟨(Blk.made w A t).alloc _, ?_, ((Below.refl _ _).alloc (Nat.le_refl _) _).alloc (by omega) _⟩
  have := Blk.made (w.alloc (.cells A t)) B t
  rw [s1] at this
  exact this
theorem Two.below {w W W' : World} {A B : Array Value} {t : TypeId} (h : Two w A B t W) (hb : Below W.heap.size W W') : Two w A B t W' :=
  ⟨h.fst.below hb, h.snd.below hb, h.bel.trans (hb.mono h.bel.size)⟩
theorem Sk.eq_of {s t : Sk} (h1 : s.count = t.count) (h2 : s.sum = t.sum) (h3 : s.min = t.min) (h4 : s.max = t.max) (h5 : s.hist = t.hist) (h6 : s.regs = t.regs) (h7 : s.rows = t.rows) : s = t := by
  cases s; cases t; simp_all
theorem dec_false {p : Prop} [Decidable p] (h : ¬ p) : decide p = false := by simpa using h
theorem dec_true {p : Prop} [Decidable p] (h : p) : decide p = true := by simpa using h
set_option maxRecDepth 200000 in
set_option maxHeartbeats 2000000 in
theorem eqSketch_any (v u : Value) (s t : Sk) (F G : List Nat) (w : World) (h : RdSk w v s F) (k : RdSk w u t G) (hw : s.wide) (kw : t.wide) :
    Calls Try.prog 42 #[v, u] w fun e w' => e = .returned (.bool (decide (s = t))) ∧ Below w.heap.size w w' := by
  obtain ⟨a1, n1, c1, a2, n2, c2, a3, n3, c3, F1, F2, F3, rfl, h1, h2, h3, _⟩ := h
  obtain ⟨b1, m1, d1, b2, m2, d2, b3, m3, d3, G1, G2, G3, rfl, k1, k2, k3, _⟩ := k
  have H1 : Hid (RdI w a1 n1 s.hist F1 ∧ RdI w b1 m1 t.hist G1 ∧ n1 ≤ 140737488355328 ∧ m1 ≤ 140737488355328) := ⟨h1, k1, by rw [← h1.length]; exact hw.hist, by rw [← k1.length]; exact kw.hist⟩
  have H2 : Hid (RdI w a2 n2 s.regs F2 ∧ RdI w b2 m2 t.regs G2 ∧ n2 ≤ 140737488355328 ∧ m2 ≤ 140737488355328) := ⟨h2, k2, by rw [← h2.length]; exact hw.regs, by rw [← k2.length]; exact kw.regs⟩
  have H3 : Hid (RdII w a3 n3 s.rows F3 ∧ RdII w b3 m3 t.rows G3 ∧ n3 ≤ 140737488355328 ∧ m3 ≤ 140737488355328) := ⟨h3, k3, by rw [← h3.length]; exact hw.rows, by rw [← k3.length]; exact kw.rows⟩
  have HW : Hid (s.wide ∧ t.wide) := ⟨hw, kw⟩
  clear h1 h2 h3 k1 k2 k3 hw kw
  have hD : ∃ d : Bool, d = decide (s = t) := ⟨_, rfl⟩
  obtain ⟨d, hd⟩ := hD
  rw [← hd]
  have HD : Hid (d = decide (s = t)) := hd
  clear hd
  have T0 := Two.made w #[.int .i64 s.count, .int .i64 s.sum, .int .i64 s.min, .int .i64 s.max, .slice a1 n1 c1, .slice a2 n2 c2, .slice a3 n3 c3] #[.int .i64 t.count, .int .i64 t.sum, .int .i64 t.min, .int .i64 t.max, .slice b1 m1 d1, .slice b2 m2 d2, .slice b3 m3 d3] 32
  have HT0 : Hid (Two w _ _ _ _) := T0
  clear T0
  go_enter Try.func42, Try.ntmps42
  by_cases q1 : s.count = t.count
  rotate_left
  · have q1' : (s.count != t.count) = true := by simpa using q1
    go_wp2
    go_ret
    exact ⟨ret_bool (by rw [HD.out]; exact (dec_false (fun e => q1 (by rw [e]))).symm), HT0.out.bel⟩
  have q1' : (s.count != t.count) = false := by simpa using q1
  have Q1 : Hid (s.count = t.count) := q1
  clear q1
  by_cases q2 : s.sum = t.sum
  rotate_left
  · have q2' : (s.sum != t.sum) = true := by simpa using q2
    go_wp2
    go_ret
    exact ⟨ret_bool (by rw [HD.out]; exact (dec_false (fun e => q2 (by rw [e]))).symm), HT0.out.bel⟩
  have q2' : (s.sum != t.sum) = false := by simpa using q2
  have Q2 : Hid (s.sum = t.sum) := q2
  clear q2
  by_cases q3 : s.min = t.min
  rotate_left
  · have q3' : (s.min != t.min) = true := by simpa using q3
    go_wp2
    go_ret
    exact ⟨ret_bool (by rw [HD.out]; exact (dec_false (fun e => q3 (by rw [e]))).symm), HT0.out.bel⟩
  have q3' : (s.min != t.min) = false := by simpa using q3
  have Q3 : Hid (s.min = t.min) := q3
  clear q3
  by_cases q4 : s.max = t.max
  rotate_left
  · have q4' : (s.max != t.max) = true := by simpa using q4
    go_wp2
    go_ret
    exact ⟨ret_bool (by rw [HD.out]; exact (dec_false (fun e => q4 (by rw [e]))).symm), HT0.out.bel⟩
  have q4' : (s.max != t.max) = false := by simpa using q4
  have Q4 : Hid (s.max = t.max) := q4
  clear q4
  go_wp2_with fail
  refine (eqIntS_any a1 b1 n1 m1 c1 d1 s.hist t.hist F1 G1 _ (H1.out.1.below HT0.out.bel) (H1.out.2.1.below HT0.out.bel) H1.out.2.2.1 H1.out.2.2.2).mono ?_
  rintro e w1 ⟨rfl, hb1⟩
  have T1 := HT0.out.below hb1
  have HT1 : Hid (Two w _ _ _ w1) := T1
  have x5 := T1.fst.cell 5
  have y5 := T1.snd.cell 5
  simp only [List.getElem?_toArray, List.getElem?_cons_succ, List.getElem?_cons_zero] at x5 y5
  clear T1 hb1 HT0 H1 q1' q2' q3' q4'
  by_cases q5 : s.hist = t.hist
  rotate_left
  · rw [dec_false q5]
    go_wp2
    go_ret
    exact ⟨ret_bool (by rw [HD.out]; exact (dec_false (fun e => q5 (by rw [e]))).symm), HT1.out.bel⟩
  rw [dec_true q5]
  have Q5 : Hid (s.hist = t.hist) := q5
  clear q5
  go_wp2_with fail
  refine (eqIntS_any a2 b2 n2 m2 c2 d2 s.regs t.regs F2 G2 _ (H2.out.1.below HT1.out.bel) (H2.out.2.1.below HT1.out.bel) H2.out.2.2.1 H2.out.2.2.2).mono ?_
  rintro e w2 ⟨rfl, hb2⟩
  have T2 := HT1.out.below hb2
  have HT2 : Hid (Two w _ _ _ w2) := T2
  have x6 := T2.fst.cell 6
  have y6 := T2.snd.cell 6
  simp only [List.getElem?_toArray, List.getElem?_cons_succ, List.getElem?_cons_zero] at x6 y6
  clear T2 hb2 HT1 H2 x5 y5
  by_cases q6 : s.regs = t.regs
  rotate_left
  · rw [dec_false q6]
    go_wp2
    go_ret
    exact ⟨ret_bool (by rw [HD.out]; exact (dec_false (fun e => q6 (by rw [e]))).symm), HT2.out.bel⟩
  rw [dec_true q6]
  have Q6 : Hid (s.regs = t.regs) := q6
  clear q6
  go_wp2_with fail
  refine (eqIntSS_any a3 b3 n3 m3 c3 d3 s.rows t.rows F3 G3 _ (H3.out.1.below HT2.out.bel) (H3.out.2.1.below HT2.out.bel) H3.out.2.2.1 H3.out.2.2.2 HW.out.1.row HW.out.2.row).mono ?_
  rintro e w3 ⟨rfl, hb3⟩
  have HB3 : Hid (Below w.heap.size w w3) := (HT2.out.below hb3).bel
  clear hb3 HT2 H3 x6 y6
  by_cases q7 : s.rows = t.rows
  · rw [dec_true q7]
    have Q7 : Hid (s.rows = t.rows) := q7
    clear q7
    go_wp2
    go_ret
    exact ⟨ret_bool (by rw [HD.out]; exact (dec_true (Sk.eq_of Q1.out Q2.out Q3.out Q4.out Q5.out Q6.out Q7.out)).symm), HB3.out⟩
  · rw [dec_false q7]
    go_wp2
    go_ret
    exact ⟨ret_bool (by rw [HD.out]; exact (dec_false (fun e => q7 (by rw [e]))).symm), HB3.out⟩
def Sk.zero : Sk := ⟨0, 0, 0, 0, [], [], []⟩
end Go.Proofs.Ytbmbmnhamogghap
/- What a summary that comes in weighs, however long its lists are. No statement of the seat is proved here. -/
namespace Go.Proofs.Ytbmbmnhamogghap
open Go.RowKit
/-- Each list is no longer than a length can say. -/
structure Sk.vast (s : Sk) : Prop where
  hist : s.hist.length ≤ 9223372036854775807
  regs : s.regs.length ≤ 9223372036854775807
  rows : s.rows.length ≤ 9223372036854775807
  row : ∀ z ∈ s.rows, z.length ≤ 9223372036854775807
set_option maxRecDepth 200000 in
theorem szIntS_vast (a : Option Addr) (len cap : Nat) (left : Int) (w : World) (hlen : len ≤ 9223372036854775807) (hl0 : 0 ≤ left) (hl1 : left ≤ 1048576) :
    Calls Try.prog 69 #[.slice a len cap, .int .i64 left] w fun e w' => Weighed left len e ∧ w' = w := by
  by_cases h : left < (len : Int)
  · go_enter Try.func69, Try.ntmps69
    go_wp2
    go_ret
    exact ⟨⟨-1, rfl, by omega, by omega, by omega⟩, rfl⟩
  · go_enter Try.func69, Try.ntmps69
    go_wp2
    go_ret
    exact ⟨⟨left - len, rfl, by omega, by omega, by omega⟩, rfl⟩
set_option maxRecDepth 200000 in
set_option maxHeartbeats 1000000 in
theorem szIntSS_vast (a : Option Addr) (len cap : Nat) (zss : List (List Int)) (F : List Nat) (left : Int) (w : World) (h : RdII w a len zss F) (hlen : len ≤ 9223372036854775807) (hrow : ∀ z ∈ zss, z.length ≤ 9223372036854775807) (hl0 : 0 ≤ left) (hl1 : left ≤ 1048576) :
    Calls Try.prog 70 #[.slice a len cap, .int .i64 left] w fun e w' => Weighed left (len + sumLen zss) e ∧ w' = w := by
  have HL : Hid (zss.length = len) := h.length
  have HRow : Hid (∀ zs ∈ zss, zs.length ≤ 9223372036854775807) := hrow
  have hs0 := sumLen_nonneg zss
  clear hrow
  by_cases hbig : left < (len : Int)
  · clear h
    have HS : Hid (0 ≤ sumLen zss) := hs0
    clear hs0
    go_enter Try.func70, Try.ntmps70
    go_wp2
    go_ret
    have := HS.out
    exact ⟨⟨-1, rfl, by omega, by omega, by omega⟩, rfl⟩
  · rcases h.cells with ⟨h0, _⟩ | ⟨b, off, F', hp, rfl, _, hm⟩
    · subst h0
      have hz : zss = [] := List.eq_nil_of_length_eq_zero h.length
      subst hz
      clear h hs0
      go_enter Try.func70, Try.ntmps70
      go_wp2
      refine wp_loop_rounds 1 ?_
      rw [rounds_succ]
      go_wp2
      go_ret
      exact ⟨⟨left, ret_int (by simp), by omega, by simp [sumLen], by omega⟩, rfl⟩
    · have HM : Hid (RdM w (zss.map ints) b off F') := hm
      have HS : Hid (0 ≤ sumLen zss) := hs0
      have hsub0 : 0 ≤ left - (len : Int) := by omega
      clear h hm hs0
      go_enter Try.func70, Try.ntmps70
      go_wp2
      go_loop [1, 5] (fun s i => ∃ (k : Nat) (y : Int), k ≤ len ∧ 0 ≤ y ∧ y ≤ 1048576 ∧ i = .int .i64 k ∧ s = .int .i64 y ∧ Hid (y = left - len - sumLen (zss.take k))) (fun _ i => len - (intOf i).toNat)
      case atStart => exact ⟨0, _, by omega, hsub0, by omega, rfl, rfl, show _ = _ by simp [sumLen]⟩
      case round =>
        obtain ⟨k, y, hk, hy0, hy1, rfl, rfl, HY⟩ := hrel
        by_cases hlt : k < len
        · obtain ⟨a1, n1, c1, G1, hc1, hr1, _⟩ := RdII.row HM.out HL.out k hlt
          have hn1 : n1 ≤ 9223372036854775807 := by rw [← hr1.length]; exact HRow.out _ (mem_getD (by rw [HL.out]; exact hlt))
          have HN : Hid ((zss.getD k []).length = n1) := hr1.length
          clear hr1
          go_wp2_with fail
          refine (szIntS_vast a1 n1 c1 y _ hn1 hy0 hy1).mono ?_
          rintro e w1 ⟨⟨r, rfl, hr1, hr2, hr3⟩, hw1⟩
          have hw1' := hw1.symm
          subst hw1'
          clear hw1
          have hsn := sumLen_snoc zss k (by rw [HL.out]; exact hlt)
          have hle := sumLen_le zss (k + 1)
          have HF : Hid (sumLen (zss.take (k + 1)) = sumLen (zss.take k) + (n1 : Int) ∧ sumLen (zss.take (k + 1)) ≤ sumLen zss) := ⟨by rw [hsn, HN.out], hle⟩
          have HR : Hid (r ≤ y ∧ (0 ≤ r → r = y - n1) ∧ (r < 0 → y < n1)) := ⟨hr1, hr2, hr3⟩
          clear hsn hle hr1 hr2 hr3
          by_cases hneg : r < 0
          · go_wp2
            go_ret
            have h1 := HY.out; have h2 := HF.out; have h3 := HR.out
            exact ⟨⟨-1, rfl, by omega, by omega, by omega⟩, rfl⟩
          · have hr0 : 0 ≤ r := by omega
            go_wp2
            go_round
            case rel => exact ⟨k + 1, r, by omega, hr0, by have := HR.out; omega, by go_num, rfl, show r = _ by have h1 := HY.out; have h2 := HF.out; have h3 := HR.out; omega⟩
            case measure => simp [intOf]; omega
        · obtain rfl : k = len := by omega
          go_wp2
          go_ret
          have h1 := HY.out
          rw [List.take_of_length_le (Nat.le_of_eq HL.out)] at h1
          have h2 := HS.out
          exact ⟨⟨y, rfl, by omega, by omega, by omega⟩, rfl⟩
set_option maxRecDepth 200000 in
theorem szSketch_vast (v : Value) (s : Sk) (F : List Nat) (left : Int) (w : World) (h : RdSk w v s F) (hw : s.vast) (hl0 : 0 ≤ left) (hl1 : left ≤ 1048576) :
    Calls Try.prog 34 #[v, .int .i64 left] w fun e w' => Weighed left s.size e ∧ Below w.heap.size w w' := by
  obtain ⟨a1, n1, c1, a2, n2, c2, a3, n3, c3, F1, F2, F3, rfl, h1, h2, h3, _⟩ := h
  have e1 := h1.length
  have e2 := h2.length
  have e3 := h3.length
  have hn1 : n1 ≤ 9223372036854775807 := by rw [← e1]; exact hw.hist
  have hn2 : n2 ≤ 9223372036854775807 := by rw [← e2]; exact hw.regs
  have hn3 : n3 ≤ 9223372036854775807 := by rw [← e3]; exact hw.rows
  have HW : Hid (∀ z ∈ s.rows, z.length ≤ 9223372036854775807) := hw.row
  have HSz : Hid (s.size = n1 + n2 + (n3 + sumLen s.rows) ∧ 0 ≤ sumLen s.rows) := by
    have h0 := sumLen_nonneg s.rows
    exact ⟨by unfold Sk.size; omega, h0⟩
  have H3 : Hid (RdII w a3 n3 s.rows F3) := h3
  clear h1 h2 h3 hw e1 e2 e3
  go_enter Try.func34, Try.ntmps34
  go_wp2_with fail
  refine (szIntS_vast a1 n1 c1 left _ hn1 hl0 hl1).mono ?_
  rintro e w1 ⟨⟨r1, rfl, ra, rb, rc⟩, hw1⟩
  have hw1' := hw1.symm
  subst hw1'
  clear hw1
  have HR1 : Hid (r1 ≤ left ∧ (0 ≤ r1 → r1 = left - n1) ∧ (r1 < 0 → left < n1)) := ⟨ra, rb, rc⟩
  clear ra rb rc
  by_cases q1 : r1 < 0
  · go_wp2
    go_ret
    have x1 := HR1.out; have x2 := HSz.out
    exact ⟨⟨-1, rfl, by omega, by omega, by omega⟩, (Below.refl _ _).alloc (Nat.le_refl _) _⟩
  have p1 : 0 ≤ r1 := by omega
  have u1 : r1 ≤ 1048576 := by have := HR1.out; omega
  go_wp2_with fail
  refine (szIntS_vast a2 n2 c2 r1 _ hn2 p1 u1).mono ?_
  rintro e w1 ⟨⟨r2, rfl, ra, rb, rc⟩, hw1⟩
  have hw1' := hw1.symm
  subst hw1'
  clear hw1
  have HR2 : Hid (r2 ≤ r1 ∧ (0 ≤ r2 → r2 = r1 - n2) ∧ (r2 < 0 → r1 < n2)) := ⟨ra, rb, rc⟩
  clear ra rb rc
  by_cases q2 : r2 < 0
  · go_wp2
    go_ret
    have x1 := HR1.out; have x2 := HSz.out; have x3 := HR2.out
    exact ⟨⟨-1, rfl, by omega, by omega, by omega⟩, (Below.refl _ _).alloc (Nat.le_refl _) _⟩
  have p2 : 0 ≤ r2 := by omega
  have u2 : r2 ≤ 1048576 := by have := HR2.out; omega
  go_wp2_with fail
  refine (szIntSS_vast a3 n3 c3 s.rows F3 r2 _ (H3.out.below ((Below.refl _ _).alloc (Nat.le_refl _) _)) hn3 HW.out p2 u2).mono ?_
  rintro e w1 ⟨⟨r3, rfl, ra, rb, rc⟩, hw1⟩
  have hw1' := hw1.symm
  subst hw1'
  clear hw1
  have HR3 : Hid (r3 ≤ r2 ∧ (0 ≤ r3 → r3 = r2 - (n3 + sumLen s.rows)) ∧ (r3 < 0 → r2 < n3 + sumLen s.rows)) := ⟨ra, rb, rc⟩
  clear ra rb rc
  by_cases q3 : r3 < 0
  · go_wp2
    go_ret
    have x1 := HR1.out; have x2 := HSz.out; have x3 := HR2.out; have x4 := HR3.out
    exact ⟨⟨-1, rfl, by omega, by omega, by omega⟩, (Below.refl _ _).alloc (Nat.le_refl _) _⟩
  go_wp2
  go_ret
  have x1 := HR1.out; have x2 := HSz.out; have x3 := HR2.out; have x4 := HR3.out
  exact ⟨⟨r3, rfl, by omega, by omega, by omega⟩, (Below.refl _ _).alloc (Nat.le_refl _) _⟩
end Go.Proofs.Ytbmbmnhamogghap
/- A summary that comes in as an argument: what it holds. No statement of the seat is proved here. -/
namespace Go.Proofs.Ytbmbmnhamogghap
open Go.RowKit Go.WideShapes Go.ChangeShapes Go.ChangeAt Go.Deep
theorem addr_plain {w : World} {x : Addr} {v : Value} (h : w.cell? (x.add 0) = some v) : ∃ b off, x = ⟨b, off, none⟩ := by
  obtain ⟨b, off, spot⟩ := x
  have hspot : spot = none := by simpa [Addr.add] using World.cell?_spot h
  subst hspot
  exact ⟨b, off, rfl⟩
theorem add_none (b off i : Nat) : (⟨b, off, none⟩ : Addr).add i = ⟨b, off + i, none⟩ := by unfold Addr.add; split <;> simp_all
theorem rdI_open {w : World} {a : Option Addr} {len cap : Nat} {zs : List Int} (hz : zs.length = cap) (hl : len ≤ cap) (hc : ∀ x, a = some x → ∀ i, i < cap → w.cell? (x.add i) = some (.int .i64 (zs.getD i 0))) (hn : a = none → cap = 0) : ∃ F, RdI w a len (zs.take len) F := by
  by_cases h0 : len = 0
  · subst h0
    exact ⟨[], by simp, .inl ⟨rfl, rfl⟩⟩
  · cases a with
    | none => have := hn rfl; omega
    | some x =>
      have hc := hc x rfl
      obtain ⟨b, off, rfl⟩ := addr_plain (hc 0 (by omega))
      refine ⟨[b], by simp; omega, .inr ⟨b, off, by omega, rfl, rfl, fun i hi => ?_⟩⟩
      have := hc i (by omega)
      rw [add_none] at this
      rw [this]
      simp [hi]
theorem rdM_open {w : World} {b : Nat} : ∀ (n off : Nat) (V : Nat → Value) (zs : Nat → List Int), (∀ r, r < n → w.cell? ⟨b, off + r, none⟩ = some (V r) ∧ ∃ F, Rd w (ints (zs r)) (V r) F) → ∃ F, RdM w (((List.range n).map zs).map ints) b off F
  | 0, off, V, zs, _ => ⟨[], by simp [RdM]⟩
  | n + 1, off, V, zs, h => by
    obtain ⟨F2, h2⟩ := rdM_open (w := w) (b := b) n (off + 1) (fun r => V (r + 1)) (fun r => zs (r + 1)) (fun r hr => by
      have := h (r + 1) (by omega)
      rw [show off + 1 + r = off + (r + 1) by omega]; exact this)
    obtain ⟨hc, F1, h1⟩ := h 0 (by omega)
    refine ⟨F1 ++ F2, ?_⟩
    rw [List.range_succ_eq_map, List.map_cons, List.map_cons, RdM]
    refine ⟨V 0, F1, F2, hc, h1, ?_, rfl⟩
    simpa [Function.comp_def] using h2
set_option maxRecDepth 100000 in
set_option maxHeartbeats 1000000 in
theorem open_sk7 {H : Type} {enc : TypeId × Value → H} {W : World} {e0 e1 e2 e3 e4 e5 e6 : Value} {d : DataW H} {p : List MemPlace} (h : DataW.Trod enc Try.prog W 0 (fun _ => true) true 26 (.agg ⟨[e0, e1, e2, e3, e4, e5, e6]⟩) d p) :
    ∃ s F, RdSk W (.agg ⟨[e0, e1, e2, e3, e4, e5, e6]⟩) s F ∧ s.vast := by
  have c3 : Try.prog.cellsOf 3 = 1 := by kernel_rfl
  have c4 : Try.prog.cellsOf 23 = 1 := by kernel_rfl
  have c5 : Try.prog.cellsOf 24 = 1 := by kernel_rfl
  obtain ⟨fuel, hf⟩ := h
  obtain ⟨xs, n, _, _, _, hlen, hx⟩ := DataW.trod_struct Try.underlying26 hf
  match xs, hlen with
  | [y0, y1, y2, y3, y4, y5, y6], _ =>
    have g0 := hx 0 _ rfl
    have g1 := hx 1 _ rfl
    have g2 := hx 2 _ rfl
    have g3 := hx 3 _ rfl
    have g4 := hx 4 _ rfl
    have g5 := hx 5 _ rfl
    have g6 := hx 6 _ rfl
    simp [Value.cells, c3, c4, c5] at g0 g1 g2 g3 g4 g5 g6
    obtain ⟨i0, q0, _, _⟩ := DataW.trod_int Try.underlying3 g0
    obtain ⟨i1, q1, _, _⟩ := DataW.trod_int Try.underlying3 g1
    obtain ⟨i2, q2, _, _⟩ := DataW.trod_int Try.underlying3 g2
    obtain ⟨i3, q3, _, _⟩ := DataW.trod_int Try.underlying3 g3
    simp at q0 q1 q2 q3
    subst q0 q1 q2 q3
    obtain ⟨a1, n1, k1, z1, F1, rfl, r1, b1⟩ : ∃ a n k zs F, e4 = .slice a n k ∧ RdI W a n zs F ∧ n ≤ 9223372036854775807 := by
      rcases open_ints Try.underlying23 Try.underlying3 c3 g4 with ⟨q, _⟩ | ⟨x, l, c, zs, q, _, hl, hm, hz, _, hcell, _⟩
      · simp at q; subst q
        exact ⟨none, 0, 0, [], [], rfl, ⟨rfl, .inl ⟨rfl, rfl⟩⟩, by omega⟩
      · simp at q; subst q
        have hz' : zs.length = c := by simpa using hz
        obtain ⟨F, hF⟩ := rdI_open (w := W) (a := some x) hz' hl (fun x' e i hi => by cases e; exact hcell i (by omega)) (fun e => by cases e)
        exact ⟨_, _, _, _, F, rfl, hF, by unfold maxLen at hm; omega⟩
    obtain ⟨a2, n2, k2, z2, F2, rfl, r2, b2⟩ : ∃ a n k zs F, e5 = .slice a n k ∧ RdI W a n zs F ∧ n ≤ 9223372036854775807 := by
      rcases open_ints Try.underlying23 Try.underlying3 c3 g5 with ⟨q, _⟩ | ⟨x, l, c, zs, q, _, hl, hm, hz, _, hcell, _⟩
      · simp at q; subst q
        exact ⟨none, 0, 0, [], [], rfl, ⟨rfl, .inl ⟨rfl, rfl⟩⟩, by omega⟩
      · simp at q; subst q
        have hz' : zs.length = c := by simpa using hz
        obtain ⟨F, hF⟩ := rdI_open (w := W) (a := some x) hz' hl (fun x' e i hi => by cases e; exact hcell i (by omega)) (fun e => by cases e)
        exact ⟨_, _, _, _, F, rfl, hF, by unfold maxLen at hm; omega⟩
    obtain ⟨a3, n3, k3, z3, F3, rfl, r3, b3, b4⟩ : ∃ a n k zss F, e6 = .slice a n k ∧ RdII W a n zss F ∧ n ≤ 9223372036854775807 ∧ ∀ z ∈ zss, z.length ≤ 9223372036854775807 := by
      rcases open_int_rows Try.underlying24 Try.underlying23 Try.underlying3 c4 c3 g6 with ⟨q, _⟩ | ⟨a, len, cap, AA, L, C, Z, q, _, hl, hm, _, hrow⟩
      · simp at q; subst q
        exact ⟨none, 0, 0, [], [], rfl, ⟨rfl, .inl ⟨rfl, rfl⟩⟩, by omega, by simp⟩
      · simp at q; subst q
        have hrd : ∀ r, r < cap → ∃ F, RdI W (AA r) (L r) ((Z r).take (L r)) F := fun r hr => by
          obtain ⟨_, h2, _, h4, _, h6, h7⟩ := hrow r hr
          exact rdI_open h4 h2 (fun x' e i hi => (h7 x' e).2 i hi) h6
        have hmem : ∀ z ∈ (List.range len).map (fun r => (Z r).take (L r)), z.length ≤ 9223372036854775807 := by
          intro z hz
          obtain ⟨r, hr, rfl⟩ := List.mem_map.1 hz
          have hr' : r < cap := by have := List.mem_range.1 hr; omega
          obtain ⟨_, h2, h3, h4, _⟩ := hrow r hr'
          unfold maxLen at h3
          simp; omega
        by_cases h0 : len = 0
        · subst h0
          exact ⟨_, _, _, [], [], rfl, ⟨rfl, .inl ⟨rfl, rfl⟩⟩, by omega, by simp⟩
        · obtain ⟨b, off, rfl⟩ := addr_plain (hrow 0 (by omega)).1
          obtain ⟨F, hF⟩ := rdM_open (w := W) (b := b) len off (fun r => .slice (AA r) (L r) (C r)) (fun r => (Z r).take (L r)) (fun r hr => by
            have h1 := (hrow r (by omega)).1
            rw [add_none] at h1
            obtain ⟨F, hF⟩ := hrd r (by omega)
            exact ⟨h1, F, rd_ints.2 ⟨_, _, _, rfl, hF⟩⟩)
          exact ⟨_, _, _, _, b :: F, rfl, ⟨by simp, .inr ⟨b, off, F, by omega, rfl, rfl, hF⟩⟩, by unfold maxLen at hm; omega, hmem⟩
    exact ⟨⟨i0, i1, i2, i3, z1, z2, z3⟩, F1 ++ (F2 ++ F3), ⟨a1, n1, k1, a2, n2, k2, a3, n3, k3, F1, F2, F3, rfl, r1, r2, r3, rfl⟩, ⟨by rw [r1.length]; exact b1, by rw [r2.length]; exact b2, by rw [r3.length]; exact b3, b4⟩⟩
set_option maxRecDepth 100000 in
set_option maxHeartbeats 1000000 in
theorem open_sk {H : Type} {enc : TypeId × Value → H} {W : World} {base : Nat} {v : Value} {d : DataW H} {p : List MemPlace} (hv : Value.okWide Try.prog W .any base 26 v) (h : DataW.Trod enc Try.prog W 0 (fun _ => true) true 26 v d p) :
    ∃ s F, RdSk W v s F ∧ s.vast := by
  obtain ⟨cs, rfl, hsz⟩ := okWide_struct Try.underlying26 hv
  have hC : Try.prog.cellsOf 26 = 7 := by kernel_rfl
  rw [hC] at hsz
  obtain ⟨l⟩ := cs
  match l, hsz with
  | [e0, e1, e2, e3, e4, e5, e6], _ => exact open_sk7 h
end Go.Proofs.Ytbmbmnhamogghap
/- Marks in a row of numbers, as plain data. No statement of the seat is proved here. -/
namespace Go.Proofs.Ytbmbmnhamogghap
open Go.RowKit

def marksI (k : Int) : Nat → List Int
  | 0 => []
  | n + 1 => marksI k n ++ [k + n]
theorem marksI_length (k : Int) (n : Nat) : (marksI k n).length = n := by
  induction n with
  | zero => rfl
  | succ n ih => simp [marksI, ih]
theorem marksI_getD (k : Int) (n i : Nat) (h : i < n) : (marksI k n).getD i 0 = k + i := by
  induction n with
  | zero => omega
  | succ n ih =>
    rw [marksI, List.getD_eq_getElem?_getD]
    by_cases hi : i < n
    · rw [List.getElem?_append_left (by rw [marksI_length]; exact hi), ← List.getD_eq_getElem?_getD]; exact ih hi
    · obtain rfl : i = n := by omega
      rw [List.getElem?_append_right (by rw [marksI_length]; omega), marksI_length]; simp
def markedI (k : Int) (j : Nat) (zs : List Int) : List Int := marksI k j ++ zs.drop j
theorem markedI_length (k : Int) (j : Nat) (zs : List Int) (h : j ≤ zs.length) : (markedI k j zs).length = zs.length := by
  simp [markedI, marksI_length]; omega
theorem markedI_step (k : Int) (j : Nat) (zs : List Int) (h : j < zs.length) : (markedI k j zs).set j (k + j) = markedI k (j + 1) zs := by
  unfold markedI
  rw [List.set_append_right j _ (by rw [marksI_length]; omega), marksI_length, Nat.sub_self, List.drop_eq_getElem_cons h, List.set_cons_zero]
  simp [marksI]
theorem markedI_end (k : Int) (n : Nat) (zs : List Int) (h : zs.length = n) : markedI k n zs = marksI k n := by
  simp [markedI, List.drop_of_length_le (Nat.le_of_eq h)]
theorem RdI.set {w : World} {b off len : Nat} {zs : List Int} (h : RdI w (some ⟨b, off, none⟩) len zs [b]) (hp : 0 < len) (j : Nat) (hj : j < len) (n : Int) : RdI (w.setCell ⟨b, off + j, none⟩ (.int .i64 n)) (some ⟨b, off, none⟩) len (zs.set j n) [b] := by
  have hl := h.length
  rcases h.cells with ⟨h0, _⟩ | ⟨b', off', _, he, _, hc⟩
  · omega
  · obtain ⟨rfl, rfl⟩ : b = b' ∧ off = off' := by simpa using he
    refine ⟨by simp [hl], .inr ⟨b, off, hp, rfl, rfl, fun i hi => ?_⟩⟩
    by_cases hij : i = j
    · subst hij
      rw [World.cell?_setCell_same _ _ _ (hc i hi)]
      simp [hl, hi]
    · rw [World.cell?_setCell_other _ _ _ _ (by intro e; simp only [Addr.mk.injEq] at e; omega), hc i hi]
      simp [Ne.symm hij]
theorem Only.set {F : List Nat} {w w' : World} {g : Nat} (h : Only F w w') (hg : g ∈ F) (j : Nat) (v : Value) : Only F w (w'.setCell ⟨g, j, none⟩ v) :=
  h.trans ⟨rfl, rfl, rfl, by simp [World.setCell], fun k _ hf => Below.heap_setCell w' ⟨g, j, none⟩ v k (fun e => hf (by have e2 : k = g := e; rw [e2]; exact hg))⟩
theorem Own.set {B : Nat} {w : World} {F : List Nat} (h : Own B w F) (g j : Nat) (v : Value) : Own B (w.setCell ⟨g, j, none⟩ v) F :=
  ⟨h.nodup, fun b hb o => (World.frozen?_setCell _ _ _ _).trans (h.free b hb o), h.ge⟩

/-- What a marking tells: how far it came, what is held now, that nothing else was written. -/
structure MarkedI (B : Nat) (w : World) (a : Option Addr) (len : Nat) (k : Int) (F : List Nat) (w' : World) : Prop where
  rd : RdI w' a len (marksI k len) F
  own : Own B w' F
  only : Only F w w'
structure MarkingI (B : Nat) (w : World) (a : Option Addr) (len : Nat) (k : Int) (zs : List Int) (j : Nat) (F : List Nat) (w' : World) : Prop where
  rd : RdI w' a len (markedI k j zs) F
  own : Own B w' F
  only : Only F w w'
theorem MarkingI.step {B : Nat} {w wr : World} {b off len : Nat} {k : Int} {zs : List Int} {j : Nat} (h : MarkingI B w (some ⟨b, off, none⟩) len k zs j [b] wr) (hl : zs.length = len) (hj : j < len) :
    MarkingI B w (some ⟨b, off, none⟩) len k zs (j + 1) [b] (wr.setCell ⟨b, off + j, none⟩ (.int .i64 (k + j))) := by
  refine ⟨?_, h.own.set _ _ _, h.only.set (by simp) _ _⟩
  have := h.rd.set (by omega) j hj (k + j)
  rwa [markedI_step k j zs (by omega)] at this
end Go.Proofs.Ytbmbmnhamogghap
