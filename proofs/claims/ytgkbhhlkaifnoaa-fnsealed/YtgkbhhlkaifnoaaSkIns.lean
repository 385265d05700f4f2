/- The walk through the model's Insert, of a summary whose lists are as long as told: what comes of it is such a one again. No statement of the seat is proved here. -/
import Derived.Test.YtgkbhhlkaifnoaaSkCopy
import Derived.Test.YtgkbhhlkaifnoaaSkOk
import Derived.Test.YtgkbhhlkaifnoaaSkLaw
import Derived.Test.YtgkbhhlkaifnoaaTallyMath
import Derived.Deep.DeepCutAuto
namespace Go.Proofs.Ytgkbhhlkaifnoaa
open Go.RowKit
/-- A summary that is being worked on: where its parts lie. -/
structure Out (w : World) (lo g : Nat) (c sm mn mx : Int) (b1 o1 k1 b2 o2 k2 p po k3 b3 o3 j0 b4 o4 j1 : Nat) (l1 l2 x y : List Int) (W : World) : Prop where
  blk : Blk W g #[.int .i64 c, .int .i64 sm, .int .i64 mn, .int .i64 mx, .slice (some ⟨b1, o1, none⟩) 8 k1, .slice (some ⟨b2, o2, none⟩) 8 k2, .slice (some ⟨p, po, none⟩) 2 k3] 34
  hist : RdI W (some ⟨b1, o1, none⟩) 8 l1 [b1]
  regs : RdI W (some ⟨b2, o2, none⟩) 8 l2 [b2]
  c0 : W.cell? ⟨p, po, none⟩ = some (.slice (some ⟨b3, o3, none⟩) 4 j0)
  c1 : W.cell? ⟨p, po + 1, none⟩ = some (.slice (some ⟨b4, o4, none⟩) 4 j1)
  row0 : RdI W (some ⟨b3, o3, none⟩) 4 x [b3]
  row1 : RdI W (some ⟨b4, o4, none⟩) 4 y [b4]
  own : Own lo W [g, b1, b2, p, b3, b4]
  bel : Below w.heap.size w W
  lw : w.heap.size + 1 < lo
  room : Room W b1 o1 8 k1
  wide : 2 ≤ k3
section
variable {w : World} {lo g : Nat} {c sm mn mx : Int} {b1 o1 k1 b2 o2 k2 p po k3 b3 o3 j0 b4 o4 j1 : Nat} {l1 l2 x y : List Int} {W : World}
theorem Out.nd (h : Out w lo g c sm mn mx b1 o1 k1 b2 o2 k2 p po k3 b3 o3 j0 b4 o4 j1 l1 l2 x y W) : (g ≠ b1 ∧ g ≠ b2 ∧ g ≠ p ∧ g ≠ b3 ∧ g ≠ b4) ∧ (b1 ≠ b2 ∧ b1 ≠ p ∧ b1 ≠ b3 ∧ b1 ≠ b4) ∧ (b2 ≠ p ∧ b2 ≠ b3 ∧ b2 ≠ b4) ∧ (p ≠ b3 ∧ p ≠ b4) ∧ b3 ≠ b4 := by
  have := h.own.nodup
  simp at this
  omega
theorem Out.ges (h : Out w lo g c sm mn mx b1 o1 k1 b2 o2 k2 p po k3 b3 o3 j0 b4 o4 j1 l1 l2 x y W) : lo ≤ g ∧ lo ≤ b1 ∧ lo ≤ b2 ∧ lo ≤ p ∧ lo ≤ b3 ∧ lo ≤ b4 :=
  ⟨h.own.ge g (by simp), h.own.ge b1 (by simp), h.own.ge b2 (by simp), h.own.ge p (by simp), h.own.ge b3 (by simp), h.own.ge b4 (by simp)⟩
theorem cell_keep {u : Value} (h : W.cell? ⟨p, po, none⟩ = some u) {q j : Nat} {n : Value} (hq : p ≠ q) : (W.setCell ⟨q, j, none⟩ n).cell? ⟨p, po, none⟩ = some u :=
  (World.cell?_of_block (w := W) (a := ⟨p, po, none⟩) (Below.heap_setCell W ⟨q, j, none⟩ n p hq)).trans h
theorem Out.setC (h : Out w lo g c sm mn mx b1 o1 k1 b2 o2 k2 p po k3 b3 o3 j0 b4 o4 j1 l1 l2 x y W) (n : Int) : Out w lo g n sm mn mx b1 o1 k1 b2 o2 k2 p po k3 b3 o3 j0 b4 o4 j1 l1 l2 x y (W.setCell ⟨g, 0, none⟩ (.int .i64 n)) := by
  have nd := h.nd
  have ge := h.ges
  have lw := h.lw
  exact ⟨h.blk.set 0 (.int .i64 n), h.hist.agree (.set (by simp; omega) _ _), h.regs.agree (.set (by simp; omega) _ _), cell_keep h.c0 (by omega), cell_keep h.c1 (by omega), h.row0.agree (.set (by simp; omega) _ _), h.row1.agree (.set (by simp; omega) _ _), h.own.set _ _ _, h.bel.setCell (by show w.heap.size ≤ g; omega) _, h.lw, h.room.set _ _ _, h.wide⟩
theorem Out.setS (h : Out w lo g c sm mn mx b1 o1 k1 b2 o2 k2 p po k3 b3 o3 j0 b4 o4 j1 l1 l2 x y W) (n : Int) : Out w lo g c n mn mx b1 o1 k1 b2 o2 k2 p po k3 b3 o3 j0 b4 o4 j1 l1 l2 x y (W.setCell ⟨g, 1, none⟩ (.int .i64 n)) := by
  have nd := h.nd
  have ge := h.ges
  have lw := h.lw
  exact ⟨h.blk.set 1 (.int .i64 n), h.hist.agree (.set (by simp; omega) _ _), h.regs.agree (.set (by simp; omega) _ _), cell_keep h.c0 (by omega), cell_keep h.c1 (by omega), h.row0.agree (.set (by simp; omega) _ _), h.row1.agree (.set (by simp; omega) _ _), h.own.set _ _ _, h.bel.setCell (by show w.heap.size ≤ g; omega) _, h.lw, h.room.set _ _ _, h.wide⟩
theorem Out.setMn (h : Out w lo g c sm mn mx b1 o1 k1 b2 o2 k2 p po k3 b3 o3 j0 b4 o4 j1 l1 l2 x y W) (n : Int) : Out w lo g c sm n mx b1 o1 k1 b2 o2 k2 p po k3 b3 o3 j0 b4 o4 j1 l1 l2 x y (W.setCell ⟨g, 2, none⟩ (.int .i64 n)) := by
  have nd := h.nd
  have ge := h.ges
  have lw := h.lw
  exact ⟨h.blk.set 2 (.int .i64 n), h.hist.agree (.set (by simp; omega) _ _), h.regs.agree (.set (by simp; omega) _ _), cell_keep h.c0 (by omega), cell_keep h.c1 (by omega), h.row0.agree (.set (by simp; omega) _ _), h.row1.agree (.set (by simp; omega) _ _), h.own.set _ _ _, h.bel.setCell (by show w.heap.size ≤ g; omega) _, h.lw, h.room.set _ _ _, h.wide⟩
theorem Out.setMx (h : Out w lo g c sm mn mx b1 o1 k1 b2 o2 k2 p po k3 b3 o3 j0 b4 o4 j1 l1 l2 x y W) (n : Int) : Out w lo g c sm mn n b1 o1 k1 b2 o2 k2 p po k3 b3 o3 j0 b4 o4 j1 l1 l2 x y (W.setCell ⟨g, 3, none⟩ (.int .i64 n)) := by
  have nd := h.nd
  have ge := h.ges
  have lw := h.lw
  exact ⟨h.blk.set 3 (.int .i64 n), h.hist.agree (.set (by simp; omega) _ _), h.regs.agree (.set (by simp; omega) _ _), cell_keep h.c0 (by omega), cell_keep h.c1 (by omega), h.row0.agree (.set (by simp; omega) _ _), h.row1.agree (.set (by simp; omega) _ _), h.own.set _ _ _, h.bel.setCell (by show w.heap.size ≤ g; omega) _, h.lw, h.room.set _ _ _, h.wide⟩
theorem Out.setHist (h : Out w lo g c sm mn mx b1 o1 k1 b2 o2 k2 p po k3 b3 o3 j0 b4 o4 j1 l1 l2 x y W) (j : Nat) (hj : j < 8) (n : Int) : Out w lo g c sm mn mx b1 o1 k1 b2 o2 k2 p po k3 b3 o3 j0 b4 o4 j1 (l1.set j n) l2 x y (W.setCell ⟨b1, o1 + j, none⟩ (.int .i64 n)) := by
  have nd := h.nd
  have ge := h.ges
  have lw := h.lw
  exact ⟨h.blk.setOther (by omega) _ _, h.hist.set (by omega) j hj n, h.regs.agree (.set (by simp; omega) _ _), cell_keep h.c0 (by omega), cell_keep h.c1 (by omega), h.row0.agree (.set (by simp; omega) _ _), h.row1.agree (.set (by simp; omega) _ _), h.own.set _ _ _, h.bel.setCell (by show w.heap.size ≤ b1; omega) _, h.lw, h.room.set _ _ _, h.wide⟩
theorem Out.setRegs (h : Out w lo g c sm mn mx b1 o1 k1 b2 o2 k2 p po k3 b3 o3 j0 b4 o4 j1 l1 l2 x y W) (j : Nat) (hj : j < 8) (n : Int) : Out w lo g c sm mn mx b1 o1 k1 b2 o2 k2 p po k3 b3 o3 j0 b4 o4 j1 l1 (l2.set j n) x y (W.setCell ⟨b2, o2 + j, none⟩ (.int .i64 n)) := by
  have nd := h.nd
  have ge := h.ges
  have lw := h.lw
  exact ⟨h.blk.setOther (by omega) _ _, h.hist.agree (.set (by simp; omega) _ _), h.regs.set (by omega) j hj n, cell_keep h.c0 (by omega), cell_keep h.c1 (by omega), h.row0.agree (.set (by simp; omega) _ _), h.row1.agree (.set (by simp; omega) _ _), h.own.set _ _ _, h.bel.setCell (by show w.heap.size ≤ b2; omega) _, h.lw, h.room.set _ _ _, h.wide⟩
theorem Out.setRow0 (h : Out w lo g c sm mn mx b1 o1 k1 b2 o2 k2 p po k3 b3 o3 j0 b4 o4 j1 l1 l2 x y W) (j : Nat) (hj : j < 4) (n : Int) : Out w lo g c sm mn mx b1 o1 k1 b2 o2 k2 p po k3 b3 o3 j0 b4 o4 j1 l1 l2 (x.set j n) y (W.setCell ⟨b3, o3 + j, none⟩ (.int .i64 n)) := by
  have nd := h.nd
  have ge := h.ges
  have lw := h.lw
  exact ⟨h.blk.setOther (by omega) _ _, h.hist.agree (.set (by simp; omega) _ _), h.regs.agree (.set (by simp; omega) _ _), cell_keep h.c0 (by omega), cell_keep h.c1 (by omega), h.row0.set (by omega) j hj n, h.row1.agree (.set (by simp; omega) _ _), h.own.set _ _ _, h.bel.setCell (by show w.heap.size ≤ b3; omega) _, h.lw, h.room.set _ _ _, h.wide⟩
theorem Out.setRow1 (h : Out w lo g c sm mn mx b1 o1 k1 b2 o2 k2 p po k3 b3 o3 j0 b4 o4 j1 l1 l2 x y W) (j : Nat) (hj : j < 4) (n : Int) : Out w lo g c sm mn mx b1 o1 k1 b2 o2 k2 p po k3 b3 o3 j0 b4 o4 j1 l1 l2 x (y.set j n) (W.setCell ⟨b4, o4 + j, none⟩ (.int .i64 n)) := by
  have nd := h.nd
  have ge := h.ges
  have lw := h.lw
  exact ⟨h.blk.setOther (by omega) _ _, h.hist.agree (.set (by simp; omega) _ _), h.regs.agree (.set (by simp; omega) _ _), cell_keep h.c0 (by omega), cell_keep h.c1 (by omega), h.row0.agree (.set (by simp; omega) _ _), h.row1.set (by omega) j hj n, h.own.set _ _ _, h.bel.setCell (by show w.heap.size ≤ b4; omega) _, h.lw, h.room.set _ _ _, h.wide⟩
theorem Out.drew (h : Out w lo g c sm mn mx b1 o1 k1 b2 o2 k2 p po k3 b3 o3 j0 b4 o4 j1 l1 l2 x y W) : Out w lo g c sm mn mx b1 o1 k1 b2 o2 k2 p po k3 b3 o3 j0 b4 o4 j1 l1 l2 x y W.drew := ⟨h.blk, h.hist.below (Below.refl _ _).drew, h.regs.below (Below.refl _ _).drew, h.c0, h.c1, h.row0.below (Below.refl _ _).drew, h.row1.below (Below.refl _ _).drew, h.own.agree (fun _ _ => rfl), h.bel.drew, h.lw, h.room.agree rfl, h.wide⟩
end
theorem Out.below {w : World} {lo g : Nat} {c sm mn mx : Int} {b1 o1 k1 b2 o2 k2 p po k3 b3 o3 j0 b4 o4 j1 : Nat} {l1 l2 x y : List Int} {W W' : World} (h : Out w lo g c sm mn mx b1 o1 k1 b2 o2 k2 p po k3 b3 o3 j0 b4 o4 j1 l1 l2 x y W) (b : Below W.heap.size W W') : Out w lo g c sm mn mx b1 o1 k1 b2 o2 k2 p po k3 b3 o3 j0 b4 o4 j1 l1 l2 x y W' := by
  have e1 := h.hist.lt b1 (by simp)
  have e2 := h.regs.lt b2 (by simp)
  have e3 := h.row0.lt b3 (by simp)
  have e4 := h.row1.lt b4 (by simp)
  have e5 : p < W.heap.size := World.block_lt_of_cell? _ _ h.c0
  have e6 := h.blk.lt
  exact ⟨h.blk.below b, h.hist.below b, h.regs.below b, (b.cell (by exact e5)).trans h.c0, (b.cell (by exact e5)).trans h.c1, h.row0.below b, h.row1.below b, h.own.below (fun q hq => by simp at hq; omega) b, Below.next h.bel b, h.lw, h.room.below b, h.wide⟩
theorem RdI.single {w : World} {a : Option Addr} {n : Nat} {zs : List Int} {F : List Nat} (h : RdI w a n zs F) (hp : 0 < n) : ∃ b off, a = some ⟨b, off, none⟩ ∧ F = [b] := by
  rcases h.cells with ⟨h0, _⟩ | ⟨b, off, _, e, f, _⟩
  · omega
  · exact ⟨b, off, e, f⟩
theorem out_of {w W : World} {lo g : Nat} {cs : Array Value} {s : Sk} {F : List Nat} (r : RdSk W (.agg cs) s F) (k : Blk W g cs 34) (o : Own lo W F) (hg : lo ≤ g) (ap : g ∉ F) (hs : s.shaped = true) (bel : Below w.heap.size w W) (lw : w.heap.size + 1 < lo) (rm : Roomy W (.agg cs)) :
    ∃ b1 o1 k1 b2 o2 k2 p po k3 b3 o3 j0 b4 o4 j1 l1 l2 x y, Out w lo g s.count s.sum s.min s.max b1 o1 k1 b2 o2 k2 p po k3 b3 o3 j0 b4 o4 j1 l1 l2 x y W := by
  obtain ⟨a1, n1, c1, a2, n2, c2, a3, n3, c3, F1, F2, F3, e, h1, h2, h3, rfl⟩ := r
  obtain ⟨e1, e2, x, y, er, ex, ey⟩ := Sk.shaped_parts hs
  cases e
  obtain ⟨_, _, _, _, a1', n1', k1', F', _, a3', n3', k3', e', ⟨bb, oo, ea, _, rr⟩, kk⟩ := rm
  injection e' with e'
  have e' := congrArg Array.toList e'
  simp at e'
  obtain ⟨_, _, _, _, ⟨rfl, rfl, rfl⟩, _, ⟨rfl, rfl, rfl⟩⟩ := e'
  obtain rfl : n1 = 8 := by rw [← h1.length]; exact e1
  obtain rfl : n2 = 8 := by rw [← h2.length]; exact e2
  obtain rfl : n3 = 2 := by rw [← h3.length, er]; rfl
  obtain ⟨b1, o1, rfl, rfl⟩ := h1.single (by omega)
  obtain ⟨b2, o2, rfl, rfl⟩ := h2.single (by omega)
  rcases h3.cells with ⟨h0, _⟩ | ⟨p, po, F', _, rfl, rfl, hm⟩
  · omega
  rw [er] at hm
  simp only [List.map_cons, List.map_nil] at hm
  rw [RdM] at hm
  obtain ⟨v3, X, F2', hc0, hr0, hm, rfl⟩ := hm
  rw [RdM] at hm
  obtain ⟨v4, Y, F4', hc1, hr1, hm, rfl⟩ := hm
  rw [RdM] at hm
  subst hm
  obtain ⟨a3, n3, j0, rfl, r3⟩ := rd_ints.1 hr0
  obtain ⟨a4, n4, j1, rfl, r4⟩ := rd_ints.1 hr1
  obtain rfl : n3 = 4 := by rw [← r3.length]; exact ex
  obtain rfl : n4 = 4 := by rw [← r4.length]; exact ey
  obtain ⟨b3, o3, rfl, rfl⟩ := r3.single (by omega)
  obtain ⟨b4, o4, rfl, rfl⟩ := r4.single (by omega)
  refine ⟨b1, o1, c1, b2, o2, c2, p, po, c3, b3, o3, j0, b4, o4, j1, s.hist, s.regs, x, y, k, h1, h2, hc0, hc1, r3, r4, ?_, bel, lw, by cases ea; exact rr, kk⟩
  have o' : Own lo W [b1, b2, p, b3, b4] := by simpa using o
  have ap' : g ∉ [b1, b2, p, b3, b4] := by simpa using ap
  exact ⟨List.nodup_cons.2 ⟨ap', o'.nodup⟩, fun q hq i => (List.mem_cons.1 hq).elim (fun e => by subst e; exact k.frozen i) (fun hq => o'.free q hq i), fun q hq => (List.mem_cons.1 hq).elim (fun e => by omega) (o'.ge q)⟩
theorem out_to {w W : World} {lo g : Nat} {c sm mn mx : Int} {b1 o1 k1 b2 o2 k2 p po k3 b3 o3 j0 b4 o4 j1 : Nat} {l1 l2 x y : List Int} (h : Out w lo g c sm mn mx b1 o1 k1 b2 o2 k2 p po k3 b3 o3 j0 b4 o4 j1 l1 l2 x y W) :
    RdSk W (.agg #[.int .i64 c, .int .i64 sm, .int .i64 mn, .int .i64 mx, .slice (some ⟨b1, o1, none⟩) 8 k1, .slice (some ⟨b2, o2, none⟩) 8 k2, .slice (some ⟨p, po, none⟩) 2 k3]) ⟨c, sm, mn, mx, l1, l2, [x, y]⟩ [b1, b2, p, b3, b4] ∧ Own lo W [b1, b2, p, b3, b4] ∧ (⟨c, sm, mn, mx, l1, l2, [x, y]⟩ : Sk).shaped = true := by
  refine ⟨⟨_, 8, k1, _, 8, k2, _, 2, k3, [b1], [b2], [p, b3, b4], rfl, h.hist, h.regs, ⟨rfl, .inr ⟨p, po, [b3, b4], by omega, rfl, rfl, ?_⟩⟩, rfl⟩, ⟨(List.nodup_cons.1 h.own.nodup).2, fun q hq => h.own.free q (List.mem_cons_of_mem _ hq), fun q hq => h.own.ge q (List.mem_cons_of_mem _ hq)⟩, ?_⟩
  · show RdM W [ints x, ints y] p po [b3, b4]
    rw [RdM]
    refine ⟨_, [b3], [b4], h.c0, rd_ints.2 ⟨_, _, _, rfl, h.row0⟩, ?_, rfl⟩
    rw [RdM]
    exact ⟨_, [b4], [], h.c1, rd_ints.2 ⟨_, _, _, rfl, h.row1⟩, by simp [RdM], rfl⟩
  · unfold Sk.shaped
    simp [h.hist.length, h.regs.length, h.row0.length, h.row1.length]
theorem out_rd {w W : World} {lo g : Nat} {c sm mn mx : Int} {b1 o1 k1 b2 o2 k2 p po k3 b3 o3 j0 b4 o4 j1 : Nat} {l1 l2 x y : List Int} (h : Out w lo g c sm mn mx b1 o1 k1 b2 o2 k2 p po k3 b3 o3 j0 b4 o4 j1 l1 l2 x y W) :
    RdR W (.agg #[.int .i64 c, .int .i64 sm, .int .i64 mn, .int .i64 mx, .slice (some ⟨b1, o1, none⟩) 8 k1, .slice (some ⟨b2, o2, none⟩) 8 k2, .slice (some ⟨p, po, none⟩) 2 k3]) ⟨c, sm, mn, mx, l1, l2, [x, y]⟩ [b1, b2, p, b3, b4] ∧ Own lo W [b1, b2, p, b3, b4] ∧ (⟨c, sm, mn, mx, l1, l2, [x, y]⟩ : Sk).shaped = true := by
  obtain ⟨r, o, hs⟩ := out_to h
  exact ⟨⟨r, _, _, _, _, _, _, _, [b1], _, _, _, _, rfl, ⟨b1, o1, rfl, rfl, h.room⟩, by simp, h.wide⟩, o, hs⟩
theorem shaped_full {s : Sk} (h : s.shaped = true) : s.full := by
  obtain ⟨e1, e2, x, y, e3, e4, e5⟩ := Sk.shaped_parts h
  refine ⟨by omega, by omega, by rw [e3]; simp, fun z hz => ?_⟩
  rw [e3] at hz
  simp at hz
  rcases hz with rfl | rfl <;> omega
theorem shaped_wide {s : Sk} (h : s.shaped = true) : s.wide := by
  obtain ⟨e1, e2, x, y, e3, e4, e5⟩ := Sk.shaped_parts h
  refine ⟨by omega, by omega, by rw [e3]; simp, fun z hz => ?_⟩
  rw [e3] at hz
  simp at hz
  rcases hz with rfl | rfl <;> omega
end Go.Proofs.Ytgkbhhlkaifnoaa
