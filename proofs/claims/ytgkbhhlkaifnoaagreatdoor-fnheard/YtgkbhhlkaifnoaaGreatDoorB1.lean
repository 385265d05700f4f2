/- Several texts of mine, laid together. No statement of the seat is proved here. -/
import Derived.Test.YtgkbhhlkaifnoaaGreatDoorSkCopy
import Derived.Test.YtgkbhhlkaifnoaaGreatDoorSkOk
import Derived.Test.YtgkbhhlkaifnoaaGreatDoorSkLaw
import Derived.Test.YtgkbhhlkaifnoaaGreatDoorTallyMath
import Derived.Deep.DeepCutAuto
import Derived.Test.YtgkbhhlkaifnoaaGreatDoorSk
import Derived.Deep.RegionHeld3
import Derived.Deep.OwnRows
import Derived.Test.YtgkbhhlkaifnoaaGreatDoorDrawSk
import Derived.Test.YtgkbhhlkaifnoaaGreatDoorItOf
import Derived.Test.YtgkbhhlkaifnoaaGreatDoorPart
import Derived.Test.YtgkbhhlkaifnoaaGreatDoorSpModel
import Derived.Laws.CopyOwn
import Derived.OrdersHeld
import Derived.Laws.AppendOwnNone
import Derived.Test.YtgkbhhlkaifnoaaGreatDoorDrawPick
/- The walk through the model's Insert, of a summary whose lists are as long as told: what comes of it is such a one again. No statement of the seat is proved here. -/
namespace Go.Proofs.YtgkbhhlkaifnoaaGreatDoor
open Go.RowKit
/-- A summary that is being worked on: where its parts lie. -/
structure Out (w : World) (lo g : Nat) (c sm mn mx : Int) (b1 o1 k1 b2 o2 k2 p po k3 b3 o3 j0 b4 o4 j1 : Nat) (l1 l2 x y : List Int) (W : World) : Prop where
  blk : Blk W g #[.int .i64 c, .int .i64 sm, .int .i64 mn, .int .i64 mx, .slice (some ⟨b1, o1, none⟩) 8 k1, .slice (some ⟨b2, o2, none⟩) 8 k2, .slice (some ⟨p, po, none⟩) 2 k3] 31
  hist : RdI W (some ⟨b1, o1, none⟩) 8 l1 [b1]
  regs : RdI W (some ⟨b2, o2, none⟩) 8 l2 [b2]
  c0 : W.cell? ⟨p, po, none⟩ = some (.slice (some ⟨b3, o3, none⟩) 4 j0)
  c1 : W.cell? ⟨p, po + 1, none⟩ = some (.slice (some ⟨b4, o4, none⟩) 4 j1)
  row0 : RdI W (some ⟨b3, o3, none⟩) 4 x [b3]
  row1 : RdI W (some ⟨b4, o4, none⟩) 4 y [b4]
  own : Own lo W [g, b1, b2, p, b3, b4]
  bel : Below w.heap.size w W
  lw : w.heap.size + 1 < lo
  room : Room W b1 o1 8 k1
  wide : 2 ≤ k3
section
variable {w : World} {lo g : Nat} {c sm mn mx : Int} {b1 o1 k1 b2 o2 k2 p po k3 b3 o3 j0 b4 o4 j1 : Nat} {l1 l2 x y : List Int} {W : World}
theorem Out.nd (h : Out w lo g c sm mn mx b1 o1 k1 b2 o2 k2 p po k3 b3 o3 j0 b4 o4 j1 l1 l2 x y W) : (g ≠ b1 ∧ g ≠ b2 ∧ g ≠ p ∧ g ≠ b3 ∧ g ≠ b4) ∧ (b1 ≠ b2 ∧ b1 ≠ p ∧ b1 ≠ b3 ∧ b1 ≠ b4) ∧ (b2 ≠ p ∧ b2 ≠ b3 ∧ b2 ≠ b4) ∧ (p ≠ b3 ∧ p ≠ b4) ∧ b3 ≠ b4 := by
  have := h.own.nodup
  simp at this
  omega
theorem Out.ges (h : Out w lo g c sm mn mx b1 o1 k1 b2 o2 k2 p po k3 b3 o3 j0 b4 o4 j1 l1 l2 x y W) : lo ≤ g ∧ lo ≤ b1 ∧ lo ≤ b2 ∧ lo ≤ p ∧ lo ≤ b3 ∧ lo ≤ b4 :=
  ⟨h.own.ge g (by simp), h.own.ge b1 (by simp), h.own.ge b2 (by simp), h.own.ge p (by simp), h.own.ge b3 (by simp), h.own.ge b4 (by simp)⟩
theorem cell_keep {u : Value} (h : W.cell? ⟨p, po, none⟩ = some u) {q j : Nat} {n : Value} (hq : p ≠ q) : (W.setCell ⟨q, j, none⟩ n).cell? ⟨p, po, none⟩ = some u :=
  (World.cell?_of_block (w := W) (a := ⟨p, po, none⟩) (Below.heap_setCell W ⟨q, j, none⟩ n p hq)).trans h
theorem Out.setC (h : Out w lo g c sm mn mx b1 o1 k1 b2 o2 k2 p po k3 b3 o3 j0 b4 o4 j1 l1 l2 x y W) (n : Int) : Out w lo g n sm mn mx b1 o1 k1 b2 o2 k2 p po k3 b3 o3 j0 b4 o4 j1 l1 l2 x y (W.setCell ⟨g, 0, none⟩ (.int .i64 n)) := by
  have nd := h.nd
  have ge := h.ges
  have lw := h.lw
  exact ⟨h.blk.set 0 (.int .i64 n), h.hist.agree (.set (by simp; omega) _ _), h.regs.agree (.set (by simp; omega) _ _), cell_keep h.c0 (by omega), cell_keep h.c1 (by omega), h.row0.agree (.set (by simp; omega) _ _), h.row1.agree (.set (by simp; omega) _ _), h.own.set _ _ _, h.bel.setCell (by show w.heap.size ≤ g; omega) _, h.lw, h.room.set _ _ _, h.wide⟩
theorem Out.setS (h : Out w lo g c sm mn mx b1 o1 k1 b2 o2 k2 p po k3 b3 o3 j0 b4 o4 j1 l1 l2 x y W) (n : Int) : Out w lo g c n mn mx b1 o1 k1 b2 o2 k2 p po k3 b3 o3 j0 b4 o4 j1 l1 l2 x y (W.setCell ⟨g, 1, none⟩ (.int .i64 n)) := by
  have nd := h.nd
  have ge := h.ges
  have lw := h.lw
  exact ⟨h.blk.set 1 (.int .i64 n), h.hist.agree (.set (by simp; omega) _ _), h.regs.agree (.set (by simp; omega) _ _), cell_keep h.c0 (by omega), cell_keep h.c1 (by omega), h.row0.agree (.set (by simp; omega) _ _), h.row1.agree (.set (by simp; omega) _ _), h.own.set _ _ _, h.bel.setCell (by show w.heap.size ≤ g; omega) _, h.lw, h.room.set _ _ _, h.wide⟩
theorem Out.setMn (h : Out w lo g c sm mn mx b1 o1 k1 b2 o2 k2 p po k3 b3 o3 j0 b4 o4 j1 l1 l2 x y W) (n : Int) : Out w lo g c sm n mx b1 o1 k1 b2 o2 k2 p po k3 b3 o3 j0 b4 o4 j1 l1 l2 x y (W.setCell ⟨g, 2, none⟩ (.int .i64 n)) := by
  have nd := h.nd
  have ge := h.ges
  have lw := h.lw
  exact ⟨h.blk.set 2 (.int .i64 n), h.hist.agree (.set (by simp; omega) _ _), h.regs.agree (.set (by simp; omega) _ _), cell_keep h.c0 (by omega), cell_keep h.c1 (by omega), h.row0.agree (.set (by simp; omega) _ _), h.row1.agree (.set (by simp; omega) _ _), h.own.set _ _ _, h.bel.setCell (by show w.heap.size ≤ g; omega) _, h.lw, h.room.set _ _ _, h.wide⟩
theorem Out.setMx (h : Out w lo g c sm mn mx b1 o1 k1 b2 o2 k2 p po k3 b3 o3 j0 b4 o4 j1 l1 l2 x y W) (n : Int) : Out w lo g c sm mn n b1 o1 k1 b2 o2 k2 p po k3 b3 o3 j0 b4 o4 j1 l1 l2 x y (W.setCell ⟨g, 3, none⟩ (.int .i64 n)) := by
  have nd := h.nd
  have ge := h.ges
  have lw := h.lw
  exact ⟨h.blk.set 3 (.int .i64 n), h.hist.agree (.set (by simp; omega) _ _), h.regs.agree (.set (by simp; omega) _ _), cell_keep h.c0 (by omega), cell_keep h.c1 (by omega), h.row0.agree (.set (by simp; omega) _ _), h.row1.agree (.set (by simp; omega) _ _), h.own.set _ _ _, h.bel.setCell (by show w.heap.size ≤ g; omega) _, h.lw, h.room.set _ _ _, h.wide⟩
theorem Out.setHist (h : Out w lo g c sm mn mx b1 o1 k1 b2 o2 k2 p po k3 b3 o3 j0 b4 o4 j1 l1 l2 x y W) (j : Nat) (hj : j < 8) (n : Int) : Out w lo g c sm mn mx b1 o1 k1 b2 o2 k2 p po k3 b3 o3 j0 b4 o4 j1 (l1.set j n) l2 x y (W.setCell ⟨b1, o1 + j, none⟩ (.int .i64 n)) := by
  have nd := h.nd
  have ge := h.ges
  have lw := h.lw
  exact ⟨h.blk.setOther (by omega) _ _, h.hist.set (by omega) j hj n, h.regs.agree (.set (by simp; omega) _ _), cell_keep h.c0 (by omega), cell_keep h.c1 (by omega), h.row0.agree (.set (by simp; omega) _ _), h.row1.agree (.set (by simp; omega) _ _), h.own.set _ _ _, h.bel.setCell (by show w.heap.size ≤ b1; omega) _, h.lw, h.room.set _ _ _, h.wide⟩
theorem Out.setRegs (h : Out w lo g c sm mn mx b1 o1 k1 b2 o2 k2 p po k3 b3 o3 j0 b4 o4 j1 l1 l2 x y W) (j : Nat) (hj : j < 8) (n : Int) : Out w lo g c sm mn mx b1 o1 k1 b2 o2 k2 p po k3 b3 o3 j0 b4 o4 j1 l1 (l2.set j n) x y (W.setCell ⟨b2, o2 + j, none⟩ (.int .i64 n)) := by
  have nd := h.nd
  have ge := h.ges
  have lw := h.lw
  exact ⟨h.blk.setOther (by omega) _ _, h.hist.agree (.set (by simp; omega) _ _), h.regs.set (by omega) j hj n, cell_keep h.c0 (by omega), cell_keep h.c1 (by omega), h.row0.agree (.set (by simp; omega) _ _), h.row1.agree (.set (by simp; omega) _ _), h.own.set _ _ _, h.bel.setCell (by show w.heap.size ≤ b2; omega) _, h.lw, h.room.set _ _ _, h.wide⟩
theorem Out.setRow0 (h : Out w lo g c sm mn mx b1 o1 k1 b2 o2 k2 p po k3 b3 o3 j0 b4 o4 j1 l1 l2 x y W) (j : Nat) (hj : j < 4) (n : Int) : Out w lo g c sm mn mx b1 o1 k1 b2 o2 k2 p po k3 b3 o3 j0 b4 o4 j1 l1 l2 (x.set j n) y (W.setCell ⟨b3, o3 + j, none⟩ (.int .i64 n)) := by
  have nd := h.nd
  have ge := h.ges
  have lw := h.lw
  exact ⟨h.blk.setOther (by omega) _ _, h.hist.agree (.set (by simp; omega) _ _), h.regs.agree (.set (by simp; omega) _ _), cell_keep h.c0 (by omega), cell_keep h.c1 (by omega), h.row0.set (by omega) j hj n, h.row1.agree (.set (by simp; omega) _ _), h.own.set _ _ _, h.bel.setCell (by show w.heap.size ≤ b3; omega) _, h.lw, h.room.set _ _ _, h.wide⟩
theorem Out.setRow1 (h : Out w lo g c sm mn mx b1 o1 k1 b2 o2 k2 p po k3 b3 o3 j0 b4 o4 j1 l1 l2 x y W) (j : Nat) (hj : j < 4) (n : Int) : Out w lo g c sm mn mx b1 o1 k1 b2 o2 k2 p po k3 b3 o3 j0 b4 o4 j1 l1 l2 x (y.set j n) (W.setCell ⟨b4, o4 + j, none⟩ (.int .i64 n)) := by
  have nd := h.nd
  have ge := h.ges
  have lw := h.lw
  exact ⟨h.blk.setOther (by omega) _ _, h.hist.agree (.set (by simp; omega) _ _), h.regs.agree (.set (by simp; omega) _ _), cell_keep h.c0 (by omega), cell_keep h.c1 (by omega), h.row0.agree (.set (by simp; omega) _ _), h.row1.set (by omega) j hj n, h.own.set _ _ _, h.bel.setCell (by show w.heap.size ≤ b4; omega) _, h.lw, h.room.set _ _ _, h.wide⟩
theorem Out.drew (h : Out w lo g c sm mn mx b1 o1 k1 b2 o2 k2 p po k3 b3 o3 j0 b4 o4 j1 l1 l2 x y W) : Out w lo g c sm mn mx b1 o1 k1 b2 o2 k2 p po k3 b3 o3 j0 b4 o4 j1 l1 l2 x y W.drew := ⟨h.blk, h.hist.below (Below.refl _ _).drew, h.regs.below (Below.refl _ _).drew, h.c0, h.c1, h.row0.below (Below.refl _ _).drew, h.row1.below (Below.refl _ _).drew, h.own.agree (fun _ _ => rfl), h.bel.drew, h.lw, h.room.agree rfl, h.wide⟩
end
theorem Out.below {w : World} {lo g : Nat} {c sm mn mx : Int} {b1 o1 k1 b2 o2 k2 p po k3 b3 o3 j0 b4 o4 j1 : Nat} {l1 l2 x y : List Int} {W W' : World} (h : Out w lo g c sm mn mx b1 o1 k1 b2 o2 k2 p po k3 b3 o3 j0 b4 o4 j1 l1 l2 x y W) (b : Below W.heap.size W W') : Out w lo g c sm mn mx b1 o1 k1 b2 o2 k2 p po k3 b3 o3 j0 b4 o4 j1 l1 l2 x y W' := by
  have e1 := h.hist.lt b1 (by simp)
  have e2 := h.regs.lt b2 (by simp)
  have e3 := h.row0.lt b3 (by simp)
  have e4 := h.row1.lt b4 (by simp)
  have e5 : p < W.heap.size := World.block_lt_of_cell? _ _ h.c0
  have e6 := h.blk.lt
  exact ⟨h.blk.below b, h.hist.below b, h.regs.below b, (b.cell (by exact e5)).trans h.c0, (b.cell (by exact e5)).trans h.c1, h.row0.below b, h.row1.below b, h.own.below (fun q hq => by simp at hq; omega) b, Below.next h.bel b, h.lw, h.room.below b, h.wide⟩
theorem RdI.single {w : World} {a : Option Addr} {n : Nat} {zs : List Int} {F : List Nat} (h : RdI w a n zs F) (hp : 0 < n) : ∃ b off, a = some ⟨b, off, none⟩ ∧ F = [b] := by
  rcases h.cells with ⟨h0, _⟩ | ⟨b, off, _, e, f, _⟩
  · omega
  · exact ⟨b, off, e, f⟩
theorem out_of {w W : World} {lo g : Nat} {cs : Array Value} {s : Sk} {F : List Nat} (r : RdSk W (.agg cs) s F) (k : Blk W g cs 31) (o : Own lo W F) (hg : lo ≤ g) (ap : g ∉ F) (hs : s.shaped = true) (bel : Below w.heap.size w W) (lw : w.heap.size + 1 < lo) (rm : Roomy W (.agg cs)) :
    ∃ b1 o1 k1 b2 o2 k2 p po k3 b3 o3 j0 b4 o4 j1 l1 l2 x y, Out w lo g s.count s.sum s.min s.max b1 o1 k1 b2 o2 k2 p po k3 b3 o3 j0 b4 o4 j1 l1 l2 x y W := by
  obtain ⟨a1, n1, c1, a2, n2, c2, a3, n3, c3, F1, F2, F3, e, h1, h2, h3, rfl⟩ := r
  obtain ⟨e1, e2, x, y, er, ex, ey⟩ := Sk.shaped_parts hs
  cases e
  obtain ⟨_, _, _, _, a1', n1', k1', F', _, a3', n3', k3', e', ⟨bb, oo, ea, _, rr⟩, kk⟩ := rm
  injection e' with e'
  have e' := congrArg Array.toList e'
  simp at e'
  obtain ⟨_, _, _, _, ⟨rfl, rfl, rfl⟩, _, ⟨rfl, rfl, rfl⟩⟩ := e'
  obtain rfl : n1 = 8 := by rw [← h1.length]; exact e1
  obtain rfl : n2 = 8 := by rw [← h2.length]; exact e2
  obtain rfl : n3 = 2 := by rw [← h3.length, er]; rfl
  obtain ⟨b1, o1, rfl, rfl⟩ := h1.single (by omega)
  obtain ⟨b2, o2, rfl, rfl⟩ := h2.single (by omega)
  rcases h3.cells with ⟨h0, _⟩ | ⟨p, po, F', _, rfl, rfl, hm⟩
  · omega
  rw [er] at hm
  simp only [List.map_cons, List.map_nil] at hm
  rw [RdM] at hm
  obtain ⟨v3, X, F2', hc0, hr0, hm, rfl⟩ := hm
  rw [RdM] at hm
  obtain ⟨v4, Y, F4', hc1, hr1, hm, rfl⟩ := hm
  rw [RdM] at hm
  subst hm
  obtain ⟨a3, n3, j0, rfl, r3⟩ := rd_ints.1 hr0
  obtain ⟨a4, n4, j1, rfl, r4⟩ := rd_ints.1 hr1
  obtain rfl : n3 = 4 := by rw [← r3.length]; exact ex
  obtain rfl : n4 = 4 := by rw [← r4.length]; exact ey
  obtain ⟨b3, o3, rfl, rfl⟩ := r3.single (by omega)
  obtain ⟨b4, o4, rfl, rfl⟩ := r4.single (by omega)
  refine ⟨b1, o1, c1, b2, o2, c2, p, po, c3, b3, o3, j0, b4, o4, j1, s.hist, s.regs, x, y, k, h1, h2, hc0, hc1, r3, r4, ?_, bel, lw, by cases ea; exact rr, kk⟩
  have o' : Own lo W [b1, b2, p, b3, b4] := by simpa using o
  have ap' : g ∉ [b1, b2, p, b3, b4] := by simpa using ap
  exact ⟨List.nodup_cons.2 ⟨ap', o'.nodup⟩, fun q hq i => (List.mem_cons.1 hq).elim (fun e => by subst e; exact k.frozen i) (fun hq => o'.free q hq i), fun q hq => (List.mem_cons.1 hq).elim (fun e => by omega) (o'.ge q)⟩
theorem out_to {w W : World} {lo g : Nat} {c sm mn mx : Int} {b1 o1 k1 b2 o2 k2 p po k3 b3 o3 j0 b4 o4 j1 : Nat} {l1 l2 x y : List Int} (h : Out w lo g c sm mn mx b1 o1 k1 b2 o2 k2 p po k3 b3 o3 j0 b4 o4 j1 l1 l2 x y W) :
    RdSk W (.agg #[.int .i64 c, .int .i64 sm, .int .i64 mn, .int .i64 mx, .slice (some ⟨b1, o1, none⟩) 8 k1, .slice (some ⟨b2, o2, none⟩) 8 k2, .slice (some ⟨p, po, none⟩) 2 k3]) ⟨c, sm, mn, mx, l1, l2, [x, y]⟩ [b1, b2, p, b3, b4] ∧ Own lo W [b1, b2, p, b3, b4] ∧ (⟨c, sm, mn, mx, l1, l2, [x, y]⟩ : Sk).shaped = true := by
  refine ⟨⟨_, 8, k1, _, 8, k2, _, 2, k3, [b1], [b2], [p, b3, b4], rfl, h.hist, h.regs, ⟨rfl, .inr ⟨p, po, [b3, b4], by omega, rfl, rfl, ?_⟩⟩, rfl⟩, ⟨(List.nodup_cons.1 h.own.nodup).2, fun q hq => h.own.free q (List.mem_cons_of_mem _ hq), fun q hq => h.own.ge q (List.mem_cons_of_mem _ hq)⟩, ?_⟩
  · show RdM W [ints x, ints y] p po [b3, b4]
    rw [RdM]
    refine ⟨_, [b3], [b4], h.c0, rd_ints.2 ⟨_, _, _, rfl, h.row0⟩, ?_, rfl⟩
    rw [RdM]
    exact ⟨_, [b4], [], h.c1, rd_ints.2 ⟨_, _, _, rfl, h.row1⟩, by simp [RdM], rfl⟩
  · unfold Sk.shaped
    simp [h.hist.length, h.regs.length, h.row0.length, h.row1.length]
theorem out_rd {w W : World} {lo g : Nat} {c sm mn mx : Int} {b1 o1 k1 b2 o2 k2 p po k3 b3 o3 j0 b4 o4 j1 : Nat} {l1 l2 x y : List Int} (h : Out w lo g c sm mn mx b1 o1 k1 b2 o2 k2 p po k3 b3 o3 j0 b4 o4 j1 l1 l2 x y W) :
    RdR W (.agg #[.int .i64 c, .int .i64 sm, .int .i64 mn, .int .i64 mx, .slice (some ⟨b1, o1, none⟩) 8 k1, .slice (some ⟨b2, o2, none⟩) 8 k2, .slice (some ⟨p, po, none⟩) 2 k3]) ⟨c, sm, mn, mx, l1, l2, [x, y]⟩ [b1, b2, p, b3, b4] ∧ Own lo W [b1, b2, p, b3, b4] ∧ (⟨c, sm, mn, mx, l1, l2, [x, y]⟩ : Sk).shaped = true := by
  obtain ⟨r, o, hs⟩ := out_to h
  exact ⟨⟨r, _, _, _, _, _, _, _, [b1], _, _, _, _, rfl, ⟨b1, o1, rfl, rfl, h.room⟩, by simp, h.wide⟩, o, hs⟩
theorem shaped_full {s : Sk} (h : s.shaped = true) : s.full := by
  obtain ⟨e1, e2, x, y, e3, e4, e5⟩ := Sk.shaped_parts h
  refine ⟨by omega, by omega, by rw [e3]; simp, fun z hz => ?_⟩
  rw [e3] at hz
  simp at hz
  rcases hz with rfl | rfl <;> omega
theorem shaped_wide {s : Sk} (h : s.shaped = true) : s.wide := by
  obtain ⟨e1, e2, x, y, e3, e4, e5⟩ := Sk.shaped_parts h
  refine ⟨by omega, by omega, by rw [e3]; simp, fun z hz => ?_⟩
  rw [e3] at hz
  simp at hz
  rcases hz with rfl | rfl <;> omega
end Go.Proofs.YtgkbhhlkaifnoaaGreatDoor
/- The walk through the model's Insert. No statement of the seat is proved here. -/
namespace Go.Proofs.YtgkbhhlkaifnoaaGreatDoor
open Go.RowKit
/-- What a putting in answers: some summary, in memory of its own, its lists as long as told. -/
def NewShaped2 (w : World) (e : Ending) (w' : World) : Prop :=
  ∃ v s d F, e = .returned (.tuple #[v, .bool d]) ∧ RdR w' v s F ∧ s.shaped = true ∧ Own w.heap.size w' F ∧ Below w.heap.size w w'
theorem newShaped_of {w W : World} {lo g : Nat} {c sm mn mx : Int} {b1 o1 k1 b2 o2 k2 p po k3 b3 o3 j0 b4 o4 j1 : Nat} {l1 l2 x y : List Int} {d : Bool} (h : Out w lo g c sm mn mx b1 o1 k1 b2 o2 k2 p po k3 b3 o3 j0 b4 o4 j1 l1 l2 x y W) :
    NewShaped2 w (.returned (.tuple #[.agg #[.int .i64 c, .int .i64 sm, .int .i64 mn, .int .i64 mx, .slice (some ⟨b1, o1, none⟩) 8 k1, .slice (some ⟨b2, o2, none⟩) 8 k2, .slice (some ⟨p, po, none⟩) 2 k3], .bool d])) (W.setRow (w.heap.size + 1) #[.int .i64 c, .int .i64 sm, .int .i64 mn, .int .i64 mx, .slice (some ⟨b1, o1, none⟩) 8 k1, .slice (some ⟨b2, o2, none⟩) 8 k2, .slice (some ⟨p, po, none⟩) 2 k3]) := by
  obtain ⟨r, o, hs⟩ := out_rd h
  have lw := h.lw
  have ag : Agree W (W.setRow (w.heap.size + 1) #[.int .i64 c, .int .i64 sm, .int .i64 mn, .int .i64 mx, .slice (some ⟨b1, o1, none⟩) 8 k1, .slice (some ⟨b2, o2, none⟩) 8 k2, .slice (some ⟨p, po, none⟩) 2 k3]) [b1, b2, p, b3, b4] := fun b hb => setRow_other W _ b _ (fun e => by have := o.ge b hb; omega)
  exact ⟨_, _, d, _, rfl, r.agree ag, hs, (o.agree ag).mono (by omega), below_setRow h.bel (by omega) _⟩
set_option maxRecDepth 200000 in
set_option maxHeartbeats 8000000 in
theorem insert_any (v0 : Value) (s : Sk) (v : Int) (F : List Nat) (w : World) (h : RdSk w v0 s F) (hs : s.shaped = true) :
    Calls Tryz.prog 119 #[v0, .int .i64 v] w fun e w' => NewShaped2 w e w' := by
  have HH : Hid (RdSk w v0 s F ∧ s.shaped = true) := ⟨h, hs⟩
  obtain ⟨a1, n1, c1, a2, n2, c2, a3, n3, c3, F1, F2, F3, rfl, _⟩ := h
  have HT : Hid (_ ∧ _ ∧ _) := two_made w #[.int .i64 s.count, .int .i64 s.sum, .int .i64 s.min, .int .i64 s.max, .slice a1 n1 c1, .slice a2 n2 c2, .slice a3 n3 c3] #[.int .i64 0, .int .i64 0, .int .i64 0, .int .i64 0, .slice none 0 0, .slice none 0 0, .slice none 0 0] 31 31
  clear hs
  go_enter Tryz.func119, Tryz.ntmps119
  go_wp2_with (first | go_skip | (with_reducible refine stopLoad 31 rfl ?_) | (with_reducible refine stopStore 31 rfl ?_))
  obtain ⟨W0, hW0⟩ : ∃ W0, W0 = (w.alloc (.cells #[.int .i64 s.count, .int .i64 s.sum, .int .i64 s.min, .int .i64 s.max, .slice a1 n1 c1, .slice a2 n2 c2, .slice a3 n3 c3] 31)).alloc (.cells #[.int .i64 0, .int .i64 0, .int .i64 0, .int .i64 0, .slice none 0 0, .slice none 0 0, .slice none 0 0] 31) := ⟨_, rfl⟩
  have hs0 : W0.heap.size = w.heap.size + 1 + 1 := by rw [hW0]; simp
  rw [← hW0] at HT ⊢
  clear hW0
  refine load_any 31 w.heap.size _ 31 _ HT.out.1 rfl rfl rfl Tryz.underlying31 rfl (by kernel_rfl) ?_
  go_wp2_with fail
  refine (l3Copy_room _ s F _ (HH.out.1.below HT.out.2.2) (shaped_full HH.out.2)).mono ?_
  rintro e w1 ⟨vv, FF, rfl, rr, oo, bb, ro⟩
  obtain ⟨es, rfl, e7, e1⟩ := rr.cells
  have HM : Hid (Roomy w1 (.agg es)) := ro
  clear ro
  have HE : Hid (RdSk w1 (.agg es) s FF ∧ Own W0.heap.size w1 FF ∧ Below W0.heap.size W0 w1 ∧ es.size = 7 ∧ es.all (·.oneCell') = true) := ⟨rr, oo, bb, e7, e1⟩
  clear rr oo bb e7 e1
  go_wp2_with (first | go_skip | (with_reducible refine stopLoad 31 rfl ?_) | (with_reducible refine stopStore 31 rfl ?_))
  refine store_fresh 31 w1.heap.size rfl #[.int .i64 0, .int .i64 0, .int .i64 0, .int .i64 0, .slice none 0 0, .slice none 0 0, .slice none 0 0] es 31 rfl rfl rfl rfl (skSize HE.out.2.2.2.1) HE.out.2.2.2.1.symm HE.out.2.2.2.2 ?_
  intro W2 hg2 hb2
  have hbw := Below.next HE.out.2.2.1 hb2
  obtain ⟨b1, o1, k1, b2, o2, k2, p, po, k3, b3, o3, j0, b4, o4, j1, l1, l2, x, y, hO⟩ := out_of (w := w) (lo := W0.heap.size) (HE.out.1.below hb2) hg2 (HE.out.2.1.below HE.out.1.lt hb2) HE.out.2.2.1.size (fun hx => by have := HE.out.1.lt _ hx; omega) HH.out.2 (Below.next HT.out.2.2 hbw) (by omega) (HM.out.below hb2)
  have HO2 : Hid (Out w W0.heap.size w1.heap.size s.count s.sum s.min s.max b1 o1 k1 b2 o2 k2 p po k3 b3 o3 j0 b4 o4 j1 l1 l2 x y W2) := hO
  have HB2 : Hid (Blk W2 w.heap.size #[.int .i64 s.count, .int .i64 s.sum, .int .i64 s.min, .int .i64 s.max, .slice a1 n1 c1, .slice a2 n2 c2, .slice a3 n3 c3] 31 ∧ Blk W2 (w.heap.size + 1) #[.int .i64 0, .int .i64 0, .int .i64 0, .int .i64 0, .slice none 0 0, .slice none 0 0, .slice none 0 0] 31) := ⟨HT.out.1.below hbw, HT.out.2.1.below hbw⟩
  clear hg2 hb2 hbw hO HE HT HM
  go_wp2_with (first | go_skip | (with_reducible refine stopLoad 31 rfl ?_) | (with_reducible refine stopStore 31 rfl ?_))
  refine load_any 31 w.heap.size _ 31 _ HB2.out.1 rfl rfl rfl Tryz.underlying31 rfl (by kernel_rfl) ?_
  go_wp2_with fail
  refine (okSpec_any _ s F _ (HH.out.1.below HO2.out.bel) (shaped_wide HH.out.2)).mono ?_
  rintro e w3 ⟨rfl, hb3⟩
  have HO3 : Hid (Out w W0.heap.size w1.heap.size s.count s.sum s.min s.max b1 o1 k1 b2 o2 k2 p po k3 b3 o3 j0 b4 o4 j1 l1 l2 x y w3) := HO2.out.below hb3
  have HB3 : Hid (Blk w3 w.heap.size #[.int .i64 s.count, .int .i64 s.sum, .int .i64 s.min, .int .i64 s.max, .slice a1 n1 c1, .slice a2 n2 c2, .slice a3 n3 c3] 31 ∧ Blk w3 (w.heap.size + 1) #[.int .i64 0, .int .i64 0, .int .i64 0, .int .i64 0, .slice none 0 0, .slice none 0 0, .slice none 0 0] 31) := ⟨HB2.out.1.below hb3, HB2.out.2.below hb3⟩
  clear hb3 HO2 HB2
  cases es : s.ok
  · clear es
    go_wp2_with (first | go_skip | (with_reducible refine stopLoad 31 rfl ?_) | (with_reducible refine stopStore 31 rfl ?_))
    refine load_any 31 w1.heap.size _ 31 _ HO3.out.blk rfl rfl rfl Tryz.underlying31 rfl (by kernel_rfl) ?_
    go_wp2_with (first | go_skip | (with_reducible refine stopLoad 31 rfl ?_) | (with_reducible refine stopStore 31 rfl ?_))
    refine store_known 31 (w.heap.size + 1) _ _ 31 HB3.out.2 rfl rfl rfl rfl (by kernel_rfl) rfl (by kernel_rfl) ?_
    go_wp2
    refine bodyPost_ret (results_row_tmp Tryz.results119 _ _ (w.heap.size + 1) _ _ _ _ rfl HB3.out.2.setRow Tryz.underlying31 rfl (by kernel_rfl)) rfl ?_
    exact newShaped_of HO3.out
  clear es
  go_wp2_with fail
  refine (l1In_any _ _ _ _).mono ?_
  rintro e w4 ⟨rfl, hw4⟩
  have hw4' := hw4.symm
  subst hw4'
  clear hw4
  by_cases hv : 0 ≤ v ∧ v ≤ 1000000
  rotate_left
  · rw [dec_false hv]
    clear hv
    go_wp2_with (first | go_skip | (with_reducible refine stopLoad 31 rfl ?_) | (with_reducible refine stopStore 31 rfl ?_))
    refine load_any 31 w1.heap.size _ 31 _ HO3.out.blk rfl rfl rfl Tryz.underlying31 rfl (by kernel_rfl) ?_
    go_wp2_with (first | go_skip | (with_reducible refine stopLoad 31 rfl ?_) | (with_reducible refine stopStore 31 rfl ?_))
    refine store_known 31 (w.heap.size + 1) _ _ 31 HB3.out.2 rfl rfl rfl rfl (by kernel_rfl) rfl (by kernel_rfl) ?_
    go_wp2
    refine bodyPost_ret (results_row_tmp Tryz.results119 _ _ (w.heap.size + 1) _ _ _ _ rfl HB3.out.2.setRow Tryz.underlying31 rfl (by kernel_rfl)) rfl ?_
    exact newShaped_of HO3.out
  rw [dec_true hv]
  have HV : Hid (0 ≤ v ∧ v ≤ 1000000) := hv
  clear hv
  have x0 := HB3.out.1.cell 0
  have x1 := HB3.out.1.cell 1
  have x2 := HB3.out.1.cell 2
  have x3 := HB3.out.1.cell 3
  have g0 := HO3.out.blk.cell 0
  have g1 := HO3.out.blk.cell 1
  have g2 := HO3.out.blk.cell 2
  have g3 := HO3.out.blk.cell 3
  have f0 := HO3.out.blk.frozen 0
  have f1 := HO3.out.blk.frozen 1
  have f2 := HO3.out.blk.frozen 2
  have f3 := HO3.out.blk.frozen 3
  simp only [aT, aS, aZ] at x0 x1 x2 x3 g0 g1 g2 g3
  have ne : ¬ w1.heap.size = w.heap.size := by have := HO3.out.lw; have := HO3.out.ges; omega
  have ne' : ¬ w.heap.size = w1.heap.size := fun e => ne e.symm
  go_wp2_with fail
  refine (addSpec_any _ _ _).mono ?_
  rintro e w4 ⟨rfl, rfl⟩
  go_wp2_with fail
  refine (addSpec_any _ _ _).mono ?_
  rintro e w4 ⟨rfl, rfl⟩
  go_wp2_with fail
  refine (l1Min_any _ _ _).mono ?_
  rintro e w4 ⟨rfl, rfl⟩
  go_upto_if 37 with fail
  go_cut [] (fun wx => ∃ mq : Int, (Out w W0.heap.size w1.heap.size (addN s.count 1) (addN s.sum v) mq s.max b1 o1 k1 b2 o2 k2 p po k3 b3 o3 j0 b4 o4 j1 l1 l2 x y wx) ∧ (Blk wx w.heap.size #[.int .i64 s.count, .int .i64 s.sum, .int .i64 s.min, .int .i64 s.max, .slice a1 n1 c1, .slice a2 n2 c2, .slice a3 n3 c3] 31 ∧ Blk wx (w.heap.size + 1) #[.int .i64 0, .int .i64 0, .int .i64 0, .int .i64 0, .slice none 0 0, .slice none 0 0, .slice none 0 0] 31))
  case first =>
    have R := (((HO3.out.setC (addN s.count 1)).setS (addN s.sum v)).setMn (Min.min s.min v))
    have B := fun (n : Nat) (u : Value) (W : World) (h : (Blk W w.heap.size #[.int .i64 s.count, .int .i64 s.sum, .int .i64 s.min, .int .i64 s.max, .slice a1 n1 c1, .slice a2 n2 c2, .slice a3 n3 c3] 31 ∧ Blk W (w.heap.size + 1) #[.int .i64 0, .int .i64 0, .int .i64 0, .int .i64 0, .slice none 0 0, .slice none 0 0, .slice none 0 0] 31)) => (show (Blk (W.setCell ⟨w1.heap.size, n, none⟩ u) w.heap.size #[.int .i64 s.count, .int .i64 s.sum, .int .i64 s.min, .int .i64 s.max, .slice a1 n1 c1, .slice a2 n2 c2, .slice a3 n3 c3] 31 ∧ Blk (W.setCell ⟨w1.heap.size, n, none⟩ u) (w.heap.size + 1) #[.int .i64 0, .int .i64 0, .int .i64 0, .int .i64 0, .slice none 0 0, .slice none 0 0, .slice none 0 0] 31) from ⟨h.1.setOther ne' n u, h.2.setOther (by have := HO3.out.lw; have := HO3.out.ges; omega) n u⟩)
    by_cases za : s.count = 0
    · have zab : (s.count == 0) = true := by simpa using za
      clear za
      go_wp2
      go_meet
      case rel => exact ⟨v, R.setMn v, B _ _ _ (B _ _ _ (B _ _ _ (B _ _ _ HB3.out)))⟩
    · have zab : (s.count == 0) = false := by simpa using za
      clear za
      go_wp2
      go_meet
      case rel => exact ⟨Min.min s.min v, R, B _ _ _ (B _ _ _ (B _ _ _ HB3.out))⟩
  case rest =>
    obtain ⟨mq, hO, hB⟩ := hcut
    have HO5 : Hid (Out w W0.heap.size w1.heap.size (addN s.count 1) (addN s.sum v) mq s.max b1 o1 k1 b2 o2 k2 p po k3 b3 o3 j0 b4 o4 j1 l1 l2 x y wc) := hO
    have HB5 : Hid (Blk wc w.heap.size #[.int .i64 s.count, .int .i64 s.sum, .int .i64 s.min, .int .i64 s.max, .slice a1 n1 c1, .slice a2 n2 c2, .slice a3 n3 c3] 31 ∧ Blk wc (w.heap.size + 1) #[.int .i64 0, .int .i64 0, .int .i64 0, .int .i64 0, .slice none 0 0, .slice none 0 0, .slice none 0 0] 31) := hB
    clear hO hB x0 x1 x2 x3 g0 g1 g2 g3 f0 f1 f2 f3 HO3 HB3
    have x3 := HB5.out.1.cell 3
    have g3 := HO5.out.blk.cell 3
    have f3 := HO5.out.blk.frozen 3
    simp only [aT, aS, aZ] at x3 g3
    go_wp2_with fail
    refine (l1Max_any _ _ _).mono ?_
    rintro e w6 ⟨rfl, hw6⟩
    have hw6' := hw6.symm
    subst hw6'
    clear hw6
    go_wp2
    obtain ⟨W6, hW6⟩ : ∃ W6, W6 = wc.setCell ⟨w1.heap.size, 3, none⟩ (.int .i64 (max s.max v)) := ⟨_, rfl⟩
    have hO6 := HO5.out.setMx (max s.max v)
    rw [← hW6] at hO6 ⊢
    have HO6 : Hid (Out w W0.heap.size w1.heap.size (addN s.count 1) (addN s.sum v) mq (max s.max v) b1 o1 k1 b2 o2 k2 p po k3 b3 o3 j0 b4 o4 j1 l1 l2 x y W6) := hO6
    have HB6 : Hid (Blk W6 w.heap.size #[.int .i64 s.count, .int .i64 s.sum, .int .i64 s.min, .int .i64 s.max, .slice a1 n1 c1, .slice a2 n2 c2, .slice a3 n3 c3] 31 ∧ Blk W6 (w.heap.size + 1) #[.int .i64 0, .int .i64 0, .int .i64 0, .int .i64 0, .slice none 0 0, .slice none 0 0, .slice none 0 0] 31) := by rw [hW6]; exact ⟨HB5.out.1.setOther ne' _ _, HB5.out.2.setOther (by have := HO5.out.lw; have := HO5.out.ges; omega) _ _⟩
    clear hW6 hO6 HO5 HB5 x3 g3 f3
    obtain ⟨jb, hjb⟩ := Int.eq_ofNat_of_zero_le (bucketN_range v).1
    have hj8 : jb < 8 := by have := (bucketN_range v).2; omega
    have hj8i : (jb : Int) < 8 := by omega
    have HJ : Hid (bucketN v = (jb : Int)) := hjb
    clear hjb
    obtain ⟨e1, he1⟩ : ∃ e, e = l1.getD jb 0 := ⟨_, rfl⟩
    have cc1 : W6.drew.cell? ⟨b1, o1 + jb, none⟩ = some (.int .i64 e1) := by rw [he1]; exact HO6.out.drew.hist.at jb hj8
    have ff1 : W6.drew.frozen? ⟨b1, o1 + jb, none⟩ = false := HO6.out.drew.own.free b1 (by simp) _
    have HS : Hid (Blk W6.drew w1.heap.size #[.int .i64 (addN s.count 1), .int .i64 (addN s.sum v), .int .i64 mq, .int .i64 (max s.max v), .slice (some ⟨b1, o1, none⟩) 8 k1, .slice (some ⟨b2, o2, none⟩) 8 k2, .slice (some ⟨p, po, none⟩) 2 k3] 31) := HO6.out.drew.blk
    clear he1
    refine wp_region_held (S := fun W => Blk W w1.heap.size #[.int .i64 (addN s.count 1), .int .i64 (addN s.sum v), .int .i64 mq, .int .i64 (max s.max v), .slice (some ⟨b1, o1, none⟩) 8 k1, .slice (some ⟨b2, o2, none⟩) 8 k2, .slice (some ⟨p, po, none⟩) 2 k3] 31) (by kernel_rfl) ?_
    change wpAnyH _ _ _ _ _ _ _ _ (World.drew _)
    refine takeH (o := ?o1) 0 (.pointer (some ⟨w1.heap.size, 4, none⟩)) ?h1 ?r1
    case h1 => simp only [aT, aZ]; rfl
    refine ⟨_, by simp [Act.put]; rfl, by kernel_rfl, by kernel_rfl, by kernel_rfl, fun _ _ _ h => h, (.inl ⟨rfl, fun W _ => by go_simp⟩), HS.out, ?_⟩
    refine takeH (o := ?o2) 1 (.slice (some ⟨b1, o1, none⟩) 8 k1) ?h2 ?r2
    case h2 => simp only [aT, aS, aZ]; rfl
    refine ⟨_, by simp [Act.put]; rfl, by kernel_rfl, by kernel_rfl, by kernel_rfl, fun _ _ _ h => h, (.inl ⟨rfl, fun W hW => by have c := Blk.cell hW 4; simp only [aT, aS, aZ] at c; go_simp⟩), HS.out, ?_⟩
    refine takeH (o := ?o3) 2 (.int .i64 v) ?h3 ?r3
    case h3 => simp only [aT, aS, aZ]; rfl
    refine ⟨_, by simp [Act.put]; rfl, by kernel_rfl, by kernel_rfl, by kernel_rfl, fun _ _ _ h => h, (.inl ⟨rfl, fun W _ => by go_simp⟩), HS.out, ?_⟩
    refine takeH (o := ?o4) 4 (.pointer (some ⟨w1.heap.size, 4, none⟩)) ?h4 ?r4
    case h4 => simp only [aT, aS, aZ]; rfl
    refine ⟨_, by simp [Act.put]; rfl, by kernel_rfl, by kernel_rfl, by kernel_rfl, fun _ _ _ h => h, (.inl ⟨rfl, fun W _ => by go_simp⟩), HS.out, ?_⟩
    refine takeH (o := ?o5) 5 (.slice (some ⟨b1, o1, none⟩) 8 k1) ?h5 ?r5
    case h5 => simp only [aT, aS, aZ]; rfl
    refine ⟨_, by simp [Act.put]; rfl, by kernel_rfl, by kernel_rfl, by kernel_rfl, fun _ _ _ h => h, (.inl ⟨rfl, fun W hW => by have c := Blk.cell hW 4; simp only [aT, aS, aZ] at c; go_simp⟩), HS.out, ?_⟩
    refine takeH (o := ?o6) 6 (.int .i64 v) ?h6 ?r6
    case h6 => simp only [aT, aS, aZ]; rfl
    refine ⟨_, by simp [Act.put]; rfl, by kernel_rfl, by kernel_rfl, by kernel_rfl, fun _ _ _ h => h, (.inl ⟨rfl, fun W _ => by go_simp⟩), HS.out, ?_⟩
    refine onlyH (o := ?o7) 3 (by kernel_rfl) ?h7 ?r7
    case h7 => simp only [aT, aS, aZ]; rfl
    intro K hK
    refine op_call1 126 _ _ Tryz.f126 (fun u w' => u = .int .i64 jb ∧ w' = W6.drew) rfl rfl Tryz.func126 (by kernel_rfl) (by kernel_rfl) ((bucketSpec_any v W6.drew).mono (by rintro e w' ⟨rfl, rfl⟩; exact ⟨_, rfl, by rw [HJ.out], rfl⟩)) ?_
    rintro _ _ ⟨rfl, rfl⟩
    refine ⟨_, by simp [Act.put]; rfl, hK _ _ ⟨HS.out, ?_⟩⟩
    clear hK
    refine onlyH (o := ?o8) 7 (by kernel_rfl) ?h8 ?r8
    case h8 => simp only [aT, aS, aZ]; rfl
    intro K hK
    refine op_call1 126 _ _ Tryz.f126 (fun u w' => u = .int .i64 jb ∧ w' = W6.drew) rfl rfl Tryz.func126 (by kernel_rfl) (by kernel_rfl) ((bucketSpec_any v W6.drew).mono (by rintro e w' ⟨rfl, rfl⟩; exact ⟨_, rfl, by rw [HJ.out], rfl⟩)) ?_
    rintro _ _ ⟨rfl, rfl⟩
    refine ⟨_, by simp [Act.put]; rfl, hK _ _ ⟨HS.out, ?_⟩⟩
    clear hK
    refine takeH (o := ?o9) 8 (.pointer (some ⟨b1, o1 + jb, none⟩)) ?h9 ?r9
    case h9 => simp only [aT, aS, aZ]; rfl
    refine ⟨_, by simp [Act.put]; rfl, by kernel_rfl, by kernel_rfl, by kernel_rfl, fun _ _ _ h => h, (.inl ⟨rfl, fun W _ => by go_simp⟩), HS.out, ?_⟩
    refine onlyH (o := ?o10) 9 (by kernel_rfl) ?h10 ?r10
    case h10 => simp only [aT, aS, aZ]; rfl
    intro K hK
    refine op_value (.int .i64 e1) rfl (by go_simp) ⟨_, by simp [Act.put]; rfl, hK _ _ ⟨HS.out, ?_⟩⟩
    clear hK
    refine onlyH (o := ?o11) 10 (by kernel_rfl) ?h11 ?r11
    case h11 => simp only [aT, aS, aZ]; rfl
    intro K hK
    refine op_call2 125 _ _ _ Tryz.f125 (fun w' => w' = W6.drew) (.int .i64 (addN e1 1)) rfl rfl Tryz.func125 (by kernel_rfl) (by kernel_rfl) (addSpec_any e1 1 _) ⟨_, by simp [Act.put]; rfl, ?_⟩
    rintro _ rfl
    refine hK _ _ ⟨HS.out, ?_⟩
    clear hK
    refine takeH (o := ?o12) 11 (.pointer (some ⟨b1, o1 + jb, none⟩)) ?h12 ?r12
    case h12 => simp only [aT, aS, aZ]; rfl
    refine ⟨_, by simp [Act.put]; rfl, by kernel_rfl, by kernel_rfl, by kernel_rfl, fun _ _ _ h => h, (.inl ⟨rfl, fun W _ => by go_simp⟩), HS.out, ?_⟩
    refine onlyH (o := ?o13) 12 (by kernel_rfl) ?h13 ?r13
    case h13 => simp only [aT, aS, aZ]; rfl
    intro K hK
    have hO7 := HO6.out.drew.setHist jb hj8 (addN e1 1)
    refine op_skip (W6.drew.setCell ⟨b1, o1 + jb, none⟩ (.int .i64 (addN e1 1))) rfl (by go_simp) ⟨_, by simp [Act.put]; rfl, hK _ _ ⟨hO7.blk, ?_⟩⟩
    have HO7 : Hid (Out w W0.heap.size w1.heap.size (addN s.count 1) (addN s.sum v) mq (max s.max v) b1 o1 k1 b2 o2 k2 p po k3 b3 o3 j0 b4 o4 j1 (l1.set jb (addN e1 1)) l2 x y (W6.drew.setCell ⟨b1, o1 + jb, none⟩ (.int .i64 (addN e1 1)))) := hO7
    have HB7 : Hid (Blk (W6.drew.setCell ⟨b1, o1 + jb, none⟩ (.int .i64 (addN e1 1))) w.heap.size #[.int .i64 s.count, .int .i64 s.sum, .int .i64 s.min, .int .i64 s.max, .slice a1 n1 c1, .slice a2 n2 c2, .slice a3 n3 c3] 31 ∧ Blk (W6.drew.setCell ⟨b1, o1 + jb, none⟩ (.int .i64 (addN e1 1))) (w.heap.size + 1) #[.int .i64 0, .int .i64 0, .int .i64 0, .int .i64 0, .slice none 0 0, .slice none 0 0, .slice none 0 0] 31) := ⟨HB6.out.1.drew.setOther (by have := HO6.out.lw; have := HO6.out.ges; omega) _ _, HB6.out.2.drew.setOther (by have := HO6.out.lw; have := HO6.out.ges; omega) _ _⟩
    clear hK hO7 cc1 ff1 HO6 HB6 HS
    refine wpAnyH_done (by kernel_rfl) ?_ _
    obtain ⟨W7, hW7⟩ : ∃ W7, W7 = W6.drew.setCell ⟨b1, o1 + jb, none⟩ (.int .i64 (addN e1 1)) := ⟨_, rfl⟩
    rw [← hW7] at HO7 HB7 ⊢
    clear hW7
    obtain ⟨m, hm⟩ := Int.eq_ofNat_of_zero_le (mixN_range v).1
    have hm1 : m < 65536 := by have := (mixN_range v).2; omega
    have HM : Hid (mixN v = (m : Int)) := hm
    clear hm
    go_wp2_with fail
    refine (mixSpec_any _ _).mono ?_
    rintro e w8 ⟨rfl, hw8⟩
    have hw8' := hw8.symm
    subst hw8'
    clear hw8
    rw [HM.out]
    go_upto_region 12 with fail
    obtain ⟨jr, hjr⟩ : ∃ jr, jr = m % 8 := ⟨_, rfl⟩
    have hr8 : jr < 8 := by omega
    have hr8i : (jr : Int) < 8 := by omega
    have hsl : ((m : Int) % 8) = (jr : Int) := by rw [hjr]; omega
    rw [hsl]
    clear hjr hsl
    go_cut [] (fun wx => ∃ L1 L2 X Y, (Out w W0.heap.size w1.heap.size (addN s.count 1) (addN s.sum v) mq (max s.max v) b1 o1 k1 b2 o2 k2 p po k3 b3 o3 j0 b4 o4 j1 L1 L2 X Y wx) ∧ (Blk wx w.heap.size #[.int .i64 s.count, .int .i64 s.sum, .int .i64 s.min, .int .i64 s.max, .slice a1 n1 c1, .slice a2 n2 c2, .slice a3 n3 c3] 31 ∧ Blk wx (w.heap.size + 1) #[.int .i64 0, .int .i64 0, .int .i64 0, .int .i64 0, .slice none 0 0, .slice none 0 0, .slice none 0 0] 31))
    case first =>
      obtain ⟨e2, he2⟩ : ∃ e, e = l2.getD jr 0 := ⟨_, rfl⟩
      have cc2 : W7.drew.cell? ⟨b2, o2 + jr, none⟩ = some (.int .i64 e2) := by rw [he2]; exact HO7.out.drew.regs.at jr hr8
      have ff2 : W7.drew.frozen? ⟨b2, o2 + jr, none⟩ = false := HO7.out.drew.own.free b2 (by simp) _
      have HS : Hid (Blk W7.drew w1.heap.size #[.int .i64 (addN s.count 1), .int .i64 (addN s.sum v), .int .i64 mq, .int .i64 (max s.max v), .slice (some ⟨b1, o1, none⟩) 8 k1, .slice (some ⟨b2, o2, none⟩) 8 k2, .slice (some ⟨p, po, none⟩) 2 k3] 31 ∧ True) := ⟨HO7.out.drew.blk, trivial⟩
      clear he2
      refine wp_region_held (S := fun W => Blk W w1.heap.size #[.int .i64 (addN s.count 1), .int .i64 (addN s.sum v), .int .i64 mq, .int .i64 (max s.max v), .slice (some ⟨b1, o1, none⟩) 8 k1, .slice (some ⟨b2, o2, none⟩) 8 k2, .slice (some ⟨p, po, none⟩) 2 k3] 31 ∧ True) (by kernel_rfl) ?_
      change wpAnyH _ _ _ _ _ _ _ _ (World.drew _)
      refine takeH (o := ?o401) 0 (.pointer (some ⟨w1.heap.size, 5, none⟩)) ?h401 ?r401
      case h401 => simp only [aT, aZ]; rfl
      refine ⟨_, by simp [Act.put]; rfl, by kernel_rfl, by kernel_rfl, by kernel_rfl, fun _ _ _ h => h, (.inl ⟨rfl, fun W _ => by go_simp⟩), HS.out, ?_⟩
      refine takeH (o := ?o402) 1 (.slice (some ⟨b2, o2, none⟩) 8 k2) ?h402 ?r402
      case h402 => simp only [aT, aS, aZ]; rfl
      refine ⟨_, by simp [Act.put]; rfl, by kernel_rfl, by kernel_rfl, by kernel_rfl, fun _ _ _ h => h, (.inl ⟨rfl, fun W hW => by have c := Blk.cell hW.1 5; simp only [aT, aS, aZ] at c; go_simp⟩), HS.out, ?_⟩
      refine takeH (o := ?o403) 2 (.int .i64 jr) ?h403 ?r403
      case h403 => simp only [aT, aS, aZ]; rfl
      refine ⟨_, by simp [Act.put]; rfl, by kernel_rfl, by kernel_rfl, by kernel_rfl, fun _ _ _ h => h, (.inl ⟨rfl, fun W _ => by go_simp⟩), HS.out, ?_⟩
      refine takeH (o := ?o404) 3 (.pointer (some ⟨w1.heap.size, 5, none⟩)) ?h404 ?r404
      case h404 => simp only [aT, aS, aZ]; rfl
      refine ⟨_, by simp [Act.put]; rfl, by kernel_rfl, by kernel_rfl, by kernel_rfl, fun _ _ _ h => h, (.inl ⟨rfl, fun W _ => by go_simp⟩), HS.out, ?_⟩
      refine takeH (o := ?o405) 4 (.slice (some ⟨b2, o2, none⟩) 8 k2) ?h405 ?r405
      case h405 => simp only [aT, aS, aZ]; rfl
      refine ⟨_, by simp [Act.put]; rfl, by kernel_rfl, by kernel_rfl, by kernel_rfl, fun _ _ _ h => h, (.inl ⟨rfl, fun W hW => by have c := Blk.cell hW.1 5; simp only [aT, aS, aZ] at c; go_simp⟩), HS.out, ?_⟩
      refine takeH (o := ?o406) 5 (.int .i64 jr) ?h406 ?r406
      case h406 => simp only [aT, aS, aZ]; rfl
      refine ⟨_, by simp [Act.put]; rfl, by kernel_rfl, by kernel_rfl, by kernel_rfl, fun _ _ _ h => h, (.inl ⟨rfl, fun W _ => by go_simp⟩), HS.out, ?_⟩
      refine takeH (o := ?o407) 6 (.pointer (some ⟨b2, o2 + jr, none⟩)) ?h407 ?r407
      case h407 => simp only [aT, aS, aZ]; rfl
      refine ⟨_, by simp [Act.put]; rfl, by kernel_rfl, by kernel_rfl, by kernel_rfl, fun _ _ _ h => h, (.inl ⟨rfl, fun W _ => by go_simp⟩), HS.out, ?_⟩
      refine takeH (o := ?o408) 8 (.int .i64 v) ?h408 ?r408
      case h408 => simp only [aT, aS, aZ]; rfl
      refine ⟨_, by simp [Act.put]; rfl, by kernel_rfl, by kernel_rfl, by kernel_rfl, fun _ _ _ h => h, (.inl ⟨rfl, fun W _ => by go_simp⟩), HS.out, ?_⟩
      refine twoH (o := ?o409) (o' := ?p409) 7 9 (by kernel_rfl) ?h409 ?g409 ?r409 ?s409
      case h409 => simp only [aT, aS, aZ]; rfl
      case g409 => simp only [aT, aS, aZ]; rfl
      case r409 =>
        intro K hK
        refine op_value (.int .i64 e2) rfl (by go_simp) ⟨_, by simp [Act.put]; rfl, hK _ _ ⟨HS.out, ?_⟩⟩
        clear hK
        refine onlyH (o := ?o410) 9 (by kernel_rfl) ?h410 ?r410
        case h410 => simp only [aT, aS, aZ]; rfl
        intro K hK
        refine op_call1 128 _ _ Tryz.f128 (fun u w' => u = .int .i64 (rankN v) ∧ w' = W7.drew) rfl rfl Tryz.func128 (by kernel_rfl) (by kernel_rfl) ((rankSpec_any v W7.drew).mono (by rintro e w' ⟨rfl, rfl⟩; exact ⟨_, rfl, rfl, rfl⟩)) ?_
        rintro _ _ ⟨rfl, rfl⟩
        refine ⟨_, by simp [Act.put]; rfl, hK _ _ ⟨HS.out, ?_⟩⟩
        clear hK
        refine onlyH (o := ?o411) 10 (by kernel_rfl) ?h411 ?r411
        case h411 => simp only [aT, aS, aZ]; rfl
        intro K hK
        refine op_call2 38 _ _ _ Tryz.f38 (fun w' => w' = W7.drew) (.int .i64 (max e2 (rankN v))) rfl rfl Tryz.func38 (by kernel_rfl) (by kernel_rfl) (l1Max_any e2 (rankN v) _) ⟨_, by simp [Act.put]; rfl, ?_⟩
        rintro _ rfl
        refine hK _ _ ⟨HS.out, ?_⟩
        clear hK
        refine takeH (o := ?o412) 11 (.pointer (some ⟨b2, o2 + jr, none⟩)) ?h412 ?r412
        case h412 => simp only [aT, aS, aZ]; rfl
        refine ⟨_, by simp [Act.put]; rfl, by kernel_rfl, by kernel_rfl, by kernel_rfl, fun _ _ _ h => h, (.inl ⟨rfl, fun W _ => by go_simp⟩), HS.out, ?_⟩
        refine onlyH (o := ?o413) 12 (by kernel_rfl) ?h413 ?r413
        case h413 => simp only [aT, aS, aZ]; rfl
        intro K hK
        have hO8 := HO7.out.drew.setRegs jr hr8 (max e2 (rankN v))
        refine op_skip (W7.drew.setCell ⟨b2, o2 + jr, none⟩ (.int .i64 (max e2 (rankN v)))) rfl (by go_simp) ⟨_, by simp [Act.put]; rfl, hK _ _ ⟨⟨hO8.blk, trivial⟩, ?_⟩⟩
        clear hK
        refine wpAnyH_done (by kernel_rfl) ?_ _
        go_wp2_with fail
        go_meet
        case rel => exact ⟨_, _, _, _, hO8, HB7.out.1.drew.setOther (by have := HO7.out.lw; have := HO7.out.ges; omega) _ _, HB7.out.2.drew.setOther (by have := HO7.out.lw; have := HO7.out.ges; omega) _ _⟩
      case s409 =>
        intro K hK
        refine op_call1 128 _ _ Tryz.f128 (fun u w' => u = .int .i64 (rankN v) ∧ w' = W7.drew) rfl rfl Tryz.func128 (by kernel_rfl) (by kernel_rfl) ((rankSpec_any v W7.drew).mono (by rintro e w' ⟨rfl, rfl⟩; exact ⟨_, rfl, rfl, rfl⟩)) ?_
        rintro _ _ ⟨rfl, rfl⟩
        refine ⟨_, by simp [Act.put]; rfl, hK _ _ ⟨HS.out, ?_⟩⟩
        clear hK
        refine onlyH (o := ?o414) 7 (by kernel_rfl) ?h414 ?r414
        case h414 => simp only [aT, aS, aZ]; rfl
        intro K hK
        refine op_value (.int .i64 e2) rfl (by go_simp) ⟨_, by simp [Act.put]; rfl, hK _ _ ⟨HS.out, ?_⟩⟩
        clear hK
        refine onlyH (o := ?o415) 10 (by kernel_rfl) ?h415 ?r415
        case h415 => simp only [aT, aS, aZ]; rfl
        intro K hK
        refine op_call2 38 _ _ _ Tryz.f38 (fun w' => w' = W7.drew) (.int .i64 (max e2 (rankN v))) rfl rfl Tryz.func38 (by kernel_rfl) (by kernel_rfl) (l1Max_any e2 (rankN v) _) ⟨_, by simp [Act.put]; rfl, ?_⟩
        rintro _ rfl
        refine hK _ _ ⟨HS.out, ?_⟩
        clear hK
        refine takeH (o := ?o416) 11 (.pointer (some ⟨b2, o2 + jr, none⟩)) ?h416 ?r416
        case h416 => simp only [aT, aS, aZ]; rfl
        refine ⟨_, by simp [Act.put]; rfl, by kernel_rfl, by kernel_rfl, by kernel_rfl, fun _ _ _ h => h, (.inl ⟨rfl, fun W _ => by go_simp⟩), HS.out, ?_⟩
        refine onlyH (o := ?o417) 12 (by kernel_rfl) ?h417 ?r417
        case h417 => simp only [aT, aS, aZ]; rfl
        intro K hK
        have hO8 := HO7.out.drew.setRegs jr hr8 (max e2 (rankN v))
        refine op_skip (W7.drew.setCell ⟨b2, o2 + jr, none⟩ (.int .i64 (max e2 (rankN v)))) rfl (by go_simp) ⟨_, by simp [Act.put]; rfl, hK _ _ ⟨⟨hO8.blk, trivial⟩, ?_⟩⟩
        clear hK
        refine wpAnyH_done (by kernel_rfl) ?_ _
        go_wp2_with fail
        go_meet
        case rel => exact ⟨_, _, _, _, hO8, HB7.out.1.drew.setOther (by have := HO7.out.lw; have := HO7.out.ges; omega) _ _, HB7.out.2.drew.setOther (by have := HO7.out.lw; have := HO7.out.ges; omega) _ _⟩
    case rest =>
      obtain ⟨L1, L2, X, Y, hO, hB⟩ := hcut
      have HO8 : Hid (Out w W0.heap.size w1.heap.size (addN s.count 1) (addN s.sum v) mq (max s.max v) b1 o1 k1 b2 o2 k2 p po k3 b3 o3 j0 b4 o4 j1 L1 L2 X Y wc) := hO
      have HB8 : Hid (Blk wc w.heap.size #[.int .i64 s.count, .int .i64 s.sum, .int .i64 s.min, .int .i64 s.max, .slice a1 n1 c1, .slice a2 n2 c2, .slice a3 n3 c3] 31 ∧ Blk wc (w.heap.size + 1) #[.int .i64 0, .int .i64 0, .int .i64 0, .int .i64 0, .slice none 0 0, .slice none 0 0, .slice none 0 0] 31) := hB
      clear hO hB HO7 HB7
      go_wp2
      refine wp_loop_rounds 3 ?_
      rw [rounds_succ]
      go_wp2_with fail
      refine (mixSpec_any _ _).mono ?_
      rintro e w9 ⟨rfl, hw9⟩
      have hw9' := hw9.symm
      subst hw9'
      clear hw9
      rw [HM.out]
      obtain ⟨jc0, hjc⟩ : ∃ jc, jc = (m + 0) % 4 := ⟨_, rfl⟩
      have h40 : jc0 < 4 := by omega
      have h4i0 : (jc0 : Int) < 4 := by omega
      have hsl0 : ((m : Int) % 4) = (jc0 : Int) := by rw [hjc]; omega
      clear hjc
      go_wp2
      rw [hsl0]
      clear hsl0
      obtain ⟨e0r, her⟩ : ∃ e, e = X.getD jc0 0 := ⟨_, rfl⟩
      have ccr : wc.drew.cell? ⟨b3, o3 + jc0, none⟩ = some (.int .i64 e0r) := by rw [her]; exact HO8.out.drew.row0.at jc0 h40
      have ffr : wc.drew.frozen? ⟨b3, o3 + jc0, none⟩ = false := HO8.out.drew.own.free b3 (by simp) _
      have HS : Hid ((fun W => Blk W w1.heap.size #[.int .i64 (addN s.count 1), .int .i64 (addN s.sum v), .int .i64 mq, .int .i64 (max s.max v), .slice (some ⟨b1, o1, none⟩) 8 k1, .slice (some ⟨b2, o2, none⟩) 8 k2, .slice (some ⟨p, po, none⟩) 2 k3] 31 ∧ W.cell? ⟨p, po, none⟩ = some (.slice (some ⟨b3, o3, none⟩) 4 j0) ∧ W.cell? ⟨p, po + 1, none⟩ = some (.slice (some ⟨b4, o4, none⟩) 4 j1)) wc.drew) := ⟨HO8.out.drew.blk, HO8.out.drew.c0, HO8.out.drew.c1⟩
      clear her
      refine wp_region_held (S := fun W => Blk W w1.heap.size #[.int .i64 (addN s.count 1), .int .i64 (addN s.sum v), .int .i64 mq, .int .i64 (max s.max v), .slice (some ⟨b1, o1, none⟩) 8 k1, .slice (some ⟨b2, o2, none⟩) 8 k2, .slice (some ⟨p, po, none⟩) 2 k3] 31 ∧ W.cell? ⟨p, po, none⟩ = some (.slice (some ⟨b3, o3, none⟩) 4 j0) ∧ W.cell? ⟨p, po + 1, none⟩ = some (.slice (some ⟨b4, o4, none⟩) 4 j1)) (by kernel_rfl) ?_
      change wpAnyH _ _ _ _ _ _ _ _ (World.drew _)
      refine takeH (o := ?o801) 0 (.pointer (some ⟨w1.heap.size, 6, none⟩)) ?h801 ?r801
      case h801 => simp only [aT, aZ]; rfl
      refine ⟨_, by simp [Act.put]; rfl, by kernel_rfl, by kernel_rfl, by kernel_rfl, fun _ _ _ h => h, (.inl ⟨rfl, fun W _ => by go_simp⟩), HS.out, ?_⟩
      refine takeH (o := ?o802) 1 (.slice (some ⟨p, po, none⟩) 2 k3) ?h802 ?r802
      case h802 => simp only [aT, aS, aZ]; rfl
      refine ⟨_, by simp [Act.put]; rfl, by kernel_rfl, by kernel_rfl, by kernel_rfl, fun _ _ _ h => h, (.inl ⟨rfl, fun W hW => by have c := Blk.cell hW.1 6; simp only [aT, aS, aZ] at c; go_simp⟩), HS.out, ?_⟩
      refine takeH (o := ?o803) 2 (.int .i64 0) ?h803 ?r803
      case h803 => simp only [aT, aS, aZ]; rfl
      refine ⟨_, by simp [Act.put]; rfl, by kernel_rfl, by kernel_rfl, by kernel_rfl, fun _ _ _ h => h, (.inl ⟨rfl, fun W _ => by go_simp⟩), HS.out, ?_⟩
      refine takeH (o := ?o804) 3 (.pointer (some ⟨p, po, none⟩)) ?h804 ?r804
      case h804 => simp only [aT, aS, aZ]; rfl
      refine ⟨_, by simp [Act.put]; rfl, by kernel_rfl, by kernel_rfl, by kernel_rfl, fun _ _ _ h => h, (.inl ⟨rfl, fun W _ => by go_simp⟩), HS.out, ?_⟩
      refine takeH (o := ?o805) 4 (.slice (some ⟨b3, o3, none⟩) 4 j0) ?h805 ?r805
      case h805 => simp only [aT, aS, aZ]; rfl
      refine ⟨_, by simp [Act.put]; rfl, by kernel_rfl, by kernel_rfl, by kernel_rfl, fun _ _ _ h => h, (.inl ⟨rfl, fun W hW => by have c := hW.2.1; go_simp⟩), HS.out, ?_⟩
      refine takeH (o := ?o806) 5 (.int .i64 jc0) ?h806 ?r806
      case h806 => simp only [aT, aS, aZ]; rfl
      refine ⟨_, by simp [Act.put]; rfl, by kernel_rfl, by kernel_rfl, by kernel_rfl, fun _ _ _ h => h, (.inl ⟨rfl, fun W _ => by go_simp⟩), HS.out, ?_⟩
      refine takeH (o := ?o807) 6 (.pointer (some ⟨w1.heap.size, 6, none⟩)) ?h807 ?r807
      case h807 => simp only [aT, aS, aZ]; rfl
      refine ⟨_, by simp [Act.put]; rfl, by kernel_rfl, by kernel_rfl, by kernel_rfl, fun _ _ _ h => h, (.inl ⟨rfl, fun W _ => by go_simp⟩), HS.out, ?_⟩
      refine takeH (o := ?o808) 7 (.slice (some ⟨p, po, none⟩) 2 k3) ?h808 ?r808
      case h808 => simp only [aT, aS, aZ]; rfl
      refine ⟨_, by simp [Act.put]; rfl, by kernel_rfl, by kernel_rfl, by kernel_rfl, fun _ _ _ h => h, (.inl ⟨rfl, fun W hW => by have c := Blk.cell hW.1 6; simp only [aT, aS, aZ] at c; go_simp⟩), HS.out, ?_⟩
      refine takeH (o := ?o809) 8 (.int .i64 0) ?h809 ?r809
      case h809 => simp only [aT, aS, aZ]; rfl
      refine ⟨_, by simp [Act.put]; rfl, by kernel_rfl, by kernel_rfl, by kernel_rfl, fun _ _ _ h => h, (.inl ⟨rfl, fun W _ => by go_simp⟩), HS.out, ?_⟩
      refine takeH (o := ?o810) 9 (.pointer (some ⟨p, po, none⟩)) ?h810 ?r810
      case h810 => simp only [aT, aS, aZ]; rfl
      refine ⟨_, by simp [Act.put]; rfl, by kernel_rfl, by kernel_rfl, by kernel_rfl, fun _ _ _ h => h, (.inl ⟨rfl, fun W _ => by go_simp⟩), HS.out, ?_⟩
      refine takeH (o := ?o811) 10 (.slice (some ⟨b3, o3, none⟩) 4 j0) ?h811 ?r811
      case h811 => simp only [aT, aS, aZ]; rfl
      refine ⟨_, by simp [Act.put]; rfl, by kernel_rfl, by kernel_rfl, by kernel_rfl, fun _ _ _ h => h, (.inl ⟨rfl, fun W hW => by have c := hW.2.1; go_simp⟩), HS.out, ?_⟩
      refine takeH (o := ?o812) 11 (.int .i64 jc0) ?h812 ?r812
      case h812 => simp only [aT, aS, aZ]; rfl
      refine ⟨_, by simp [Act.put]; rfl, by kernel_rfl, by kernel_rfl, by kernel_rfl, fun _ _ _ h => h, (.inl ⟨rfl, fun W _ => by go_simp⟩), HS.out, ?_⟩
      refine takeH (o := ?o813) 12 (.pointer (some ⟨b3, o3 + jc0, none⟩)) ?h813 ?r813
      case h813 => simp only [aT, aS, aZ]; rfl
      refine ⟨_, by simp [Act.put]; rfl, by kernel_rfl, by kernel_rfl, by kernel_rfl, fun _ _ _ h => h, (.inl ⟨rfl, fun W _ => by go_simp⟩), HS.out, ?_⟩
      refine onlyH (o := ?o814) 13 (by kernel_rfl) ?h814 ?r814
      case h814 => simp only [aT, aS, aZ]; rfl
      intro K hK
      refine op_value (.int .i64 e0r) rfl (by go_simp) ⟨_, by simp [Act.put]; rfl, hK _ _ ⟨HS.out, ?_⟩⟩
      clear hK
      refine onlyH (o := ?o815) 14 (by kernel_rfl) ?h815 ?r815
      case h815 => simp only [aT, aS, aZ]; rfl
      intro K hK
      refine op_call2 125 _ _ _ Tryz.f125 (fun w' => w' = wc.drew) (.int .i64 (addN e0r 1)) rfl rfl Tryz.func125 (by kernel_rfl) (by kernel_rfl) (addSpec_any e0r 1 _) ⟨_, by simp [Act.put]; rfl, ?_⟩
      rintro _ rfl
      refine hK _ _ ⟨HS.out, ?_⟩
      clear hK
      refine takeH (o := ?o816) 15 (.pointer (some ⟨b3, o3 + jc0, none⟩)) ?h816 ?r816
      case h816 => simp only [aT, aS, aZ]; rfl
      refine ⟨_, by simp [Act.put]; rfl, by kernel_rfl, by kernel_rfl, by kernel_rfl, fun _ _ _ h => h, (.inl ⟨rfl, fun W _ => by go_simp⟩), HS.out, ?_⟩
      refine onlyH (o := ?o817) 16 (by kernel_rfl) ?h817 ?r817
      case h817 => simp only [aT, aS, aZ]; rfl
      intro K hK
      have hOn := HO8.out.drew.setRow0 jc0 h40 (addN e0r 1)
      refine op_skip (wc.drew.setCell ⟨b3, o3 + jc0, none⟩ (.int .i64 (addN e0r 1))) rfl (by go_simp) ⟨_, by simp [Act.put]; rfl, hK _ _ ⟨⟨hOn.blk, hOn.c0, hOn.c1⟩, ?_⟩⟩
      obtain ⟨Wa, hWn⟩ : ∃ W, W = wc.drew.setCell ⟨b3, o3 + jc0, none⟩ (.int .i64 (addN e0r 1)) := ⟨_, rfl⟩
      have hBn : (Blk Wa w.heap.size #[.int .i64 s.count, .int .i64 s.sum, .int .i64 s.min, .int .i64 s.max, .slice a1 n1 c1, .slice a2 n2 c2, .slice a3 n3 c3] 31 ∧ Blk Wa (w.heap.size + 1) #[.int .i64 0, .int .i64 0, .int .i64 0, .int .i64 0, .slice none 0 0, .slice none 0 0, .slice none 0 0] 31) := by rw [hWn]; exact ⟨HB8.out.1.drew.setOther (by have := HO8.out.lw; have := HO8.out.ges; omega) _ _, HB8.out.2.drew.setOther (by have := HO8.out.lw; have := HO8.out.ges; omega) _ _⟩
      rw [← hWn] at hOn ⊢
      have HO9 : Hid (_) := hOn
      have HB9 : Hid (_ ∧ _) := hBn
      clear hK hWn hOn hBn ccr ffr HS HO8 HB8
      refine wpAnyH_done (by kernel_rfl) ?_ _
      go_wp2_with fail
      rw [rounds_succ]
      go_wp2_with fail
      refine (mixSpec_any _ _).mono ?_
      rintro e w9 ⟨rfl, hw9⟩
      have hw9' := hw9.symm
      subst hw9'
      clear hw9
      rw [HM.out]
      obtain ⟨jc1, hjc⟩ : ∃ jc, jc = (m + 1) % 4 := ⟨_, rfl⟩
      have h41 : jc1 < 4 := by omega
      have h4i1 : (jc1 : Int) < 4 := by omega
      have hsl1 : (((m : Int) + 1) % 4) = (jc1 : Int) := by rw [hjc]; omega
      clear hjc
      go_wp2
      rw [hsl1]
      clear hsl1
      obtain ⟨e1r, her⟩ : ∃ e, e = Y.getD jc1 0 := ⟨_, rfl⟩
      have ccr : Wa.drew.cell? ⟨b4, o4 + jc1, none⟩ = some (.int .i64 e1r) := by rw [her]; exact HO9.out.drew.row1.at jc1 h41
      have ffr : Wa.drew.frozen? ⟨b4, o4 + jc1, none⟩ = false := HO9.out.drew.own.free b4 (by simp) _
      have HS : Hid ((fun W => Blk W w1.heap.size #[.int .i64 (addN s.count 1), .int .i64 (addN s.sum v), .int .i64 mq, .int .i64 (max s.max v), .slice (some ⟨b1, o1, none⟩) 8 k1, .slice (some ⟨b2, o2, none⟩) 8 k2, .slice (some ⟨p, po, none⟩) 2 k3] 31 ∧ W.cell? ⟨p, po, none⟩ = some (.slice (some ⟨b3, o3, none⟩) 4 j0) ∧ W.cell? ⟨p, po + 1, none⟩ = some (.slice (some ⟨b4, o4, none⟩) 4 j1)) Wa.drew) := ⟨HO9.out.drew.blk, HO9.out.drew.c0, HO9.out.drew.c1⟩
      clear her
      refine wp_region_held (S := fun W => Blk W w1.heap.size #[.int .i64 (addN s.count 1), .int .i64 (addN s.sum v), .int .i64 mq, .int .i64 (max s.max v), .slice (some ⟨b1, o1, none⟩) 8 k1, .slice (some ⟨b2, o2, none⟩) 8 k2, .slice (some ⟨p, po, none⟩) 2 k3] 31 ∧ W.cell? ⟨p, po, none⟩ = some (.slice (some ⟨b3, o3, none⟩) 4 j0) ∧ W.cell? ⟨p, po + 1, none⟩ = some (.slice (some ⟨b4, o4, none⟩) 4 j1)) (by kernel_rfl) ?_
      change wpAnyH _ _ _ _ _ _ _ _ (World.drew _)
      refine takeH (o := ?o818) 0 (.pointer (some ⟨w1.heap.size, 6, none⟩)) ?h818 ?r818
      case h818 => simp only [aT, aZ]; rfl
      refine ⟨_, by simp [Act.put]; rfl, by kernel_rfl, by kernel_rfl, by kernel_rfl, fun _ _ _ h => h, (.inl ⟨rfl, fun W _ => by go_simp⟩), HS.out, ?_⟩
      refine takeH (o := ?o819) 1 (.slice (some ⟨p, po, none⟩) 2 k3) ?h819 ?r819
      case h819 => simp only [aT, aS, aZ]; rfl
      refine ⟨_, by simp [Act.put]; rfl, by kernel_rfl, by kernel_rfl, by kernel_rfl, fun _ _ _ h => h, (.inl ⟨rfl, fun W hW => by have c := Blk.cell hW.1 6; simp only [aT, aS, aZ] at c; go_simp⟩), HS.out, ?_⟩
      refine takeH (o := ?o820) 2 (.int .i64 1) ?h820 ?r820
      case h820 => simp only [aT, aS, aZ]; rfl
      refine ⟨_, by simp [Act.put]; rfl, by kernel_rfl, by kernel_rfl, by kernel_rfl, fun _ _ _ h => h, (.inl ⟨rfl, fun W _ => by go_simp⟩), HS.out, ?_⟩
      refine takeH (o := ?o821) 3 (.pointer (some ⟨p, po + 1, none⟩)) ?h821 ?r821
      case h821 => simp only [aT, aS, aZ]; rfl
      refine ⟨_, by simp [Act.put]; rfl, by kernel_rfl, by kernel_rfl, by kernel_rfl, fun _ _ _ h => h, (.inl ⟨rfl, fun W _ => by go_simp⟩), HS.out, ?_⟩
      refine takeH (o := ?o822) 4 (.slice (some ⟨b4, o4, none⟩) 4 j1) ?h822 ?r822
      case h822 => simp only [aT, aS, aZ]; rfl
      refine ⟨_, by simp [Act.put]; rfl, by kernel_rfl, by kernel_rfl, by kernel_rfl, fun _ _ _ h => h, (.inl ⟨rfl, fun W hW => by have c := hW.2.2; go_simp⟩), HS.out, ?_⟩
      refine takeH (o := ?o823) 5 (.int .i64 jc1) ?h823 ?r823
      case h823 => simp only [aT, aS, aZ]; rfl
      refine ⟨_, by simp [Act.put]; rfl, by kernel_rfl, by kernel_rfl, by kernel_rfl, fun _ _ _ h => h, (.inl ⟨rfl, fun W _ => by go_simp⟩), HS.out, ?_⟩
      refine takeH (o := ?o824) 6 (.pointer (some ⟨w1.heap.size, 6, none⟩)) ?h824 ?r824
      case h824 => simp only [aT, aS, aZ]; rfl
      refine ⟨_, by simp [Act.put]; rfl, by kernel_rfl, by kernel_rfl, by kernel_rfl, fun _ _ _ h => h, (.inl ⟨rfl, fun W _ => by go_simp⟩), HS.out, ?_⟩
      refine takeH (o := ?o825) 7 (.slice (some ⟨p, po, none⟩) 2 k3) ?h825 ?r825
      case h825 => simp only [aT, aS, aZ]; rfl
      refine ⟨_, by simp [Act.put]; rfl, by kernel_rfl, by kernel_rfl, by kernel_rfl, fun _ _ _ h => h, (.inl ⟨rfl, fun W hW => by have c := Blk.cell hW.1 6; simp only [aT, aS, aZ] at c; go_simp⟩), HS.out, ?_⟩
      refine takeH (o := ?o826) 8 (.int .i64 1) ?h826 ?r826
      case h826 => simp only [aT, aS, aZ]; rfl
      refine ⟨_, by simp [Act.put]; rfl, by kernel_rfl, by kernel_rfl, by kernel_rfl, fun _ _ _ h => h, (.inl ⟨rfl, fun W _ => by go_simp⟩), HS.out, ?_⟩
      refine takeH (o := ?o827) 9 (.pointer (some ⟨p, po + 1, none⟩)) ?h827 ?r827
      case h827 => simp only [aT, aS, aZ]; rfl
      refine ⟨_, by simp [Act.put]; rfl, by kernel_rfl, by kernel_rfl, by kernel_rfl, fun _ _ _ h => h, (.inl ⟨rfl, fun W _ => by go_simp⟩), HS.out, ?_⟩
      refine takeH (o := ?o828) 10 (.slice (some ⟨b4, o4, none⟩) 4 j1) ?h828 ?r828
      case h828 => simp only [aT, aS, aZ]; rfl
      refine ⟨_, by simp [Act.put]; rfl, by kernel_rfl, by kernel_rfl, by kernel_rfl, fun _ _ _ h => h, (.inl ⟨rfl, fun W hW => by have c := hW.2.2; go_simp⟩), HS.out, ?_⟩
      refine takeH (o := ?o829) 11 (.int .i64 jc1) ?h829 ?r829
      case h829 => simp only [aT, aS, aZ]; rfl
      refine ⟨_, by simp [Act.put]; rfl, by kernel_rfl, by kernel_rfl, by kernel_rfl, fun _ _ _ h => h, (.inl ⟨rfl, fun W _ => by go_simp⟩), HS.out, ?_⟩
      refine takeH (o := ?o830) 12 (.pointer (some ⟨b4, o4 + jc1, none⟩)) ?h830 ?r830
      case h830 => simp only [aT, aS, aZ]; rfl
      refine ⟨_, by simp [Act.put]; rfl, by kernel_rfl, by kernel_rfl, by kernel_rfl, fun _ _ _ h => h, (.inl ⟨rfl, fun W _ => by go_simp⟩), HS.out, ?_⟩
      refine onlyH (o := ?o831) 13 (by kernel_rfl) ?h831 ?r831
      case h831 => simp only [aT, aS, aZ]; rfl
      intro K hK
      refine op_value (.int .i64 e1r) rfl (by go_simp) ⟨_, by simp [Act.put]; rfl, hK _ _ ⟨HS.out, ?_⟩⟩
      clear hK
      refine onlyH (o := ?o832) 14 (by kernel_rfl) ?h832 ?r832
      case h832 => simp only [aT, aS, aZ]; rfl
      intro K hK
      refine op_call2 125 _ _ _ Tryz.f125 (fun w' => w' = Wa.drew) (.int .i64 (addN e1r 1)) rfl rfl Tryz.func125 (by kernel_rfl) (by kernel_rfl) (addSpec_any e1r 1 _) ⟨_, by simp [Act.put]; rfl, ?_⟩
      rintro _ rfl
      refine hK _ _ ⟨HS.out, ?_⟩
      clear hK
      refine takeH (o := ?o833) 15 (.pointer (some ⟨b4, o4 + jc1, none⟩)) ?h833 ?r833
      case h833 => simp only [aT, aS, aZ]; rfl
      refine ⟨_, by simp [Act.put]; rfl, by kernel_rfl, by kernel_rfl, by kernel_rfl, fun _ _ _ h => h, (.inl ⟨rfl, fun W _ => by go_simp⟩), HS.out, ?_⟩
      refine onlyH (o := ?o834) 16 (by kernel_rfl) ?h834 ?r834
      case h834 => simp only [aT, aS, aZ]; rfl
      intro K hK
      have hOn := HO9.out.drew.setRow1 jc1 h41 (addN e1r 1)
      refine op_skip (Wa.drew.setCell ⟨b4, o4 + jc1, none⟩ (.int .i64 (addN e1r 1))) rfl (by go_simp) ⟨_, by simp [Act.put]; rfl, hK _ _ ⟨⟨hOn.blk, hOn.c0, hOn.c1⟩, ?_⟩⟩
      obtain ⟨Wb, hWn⟩ : ∃ W, W = Wa.drew.setCell ⟨b4, o4 + jc1, none⟩ (.int .i64 (addN e1r 1)) := ⟨_, rfl⟩
      have hBn : (Blk Wb w.heap.size #[.int .i64 s.count, .int .i64 s.sum, .int .i64 s.min, .int .i64 s.max, .slice a1 n1 c1, .slice a2 n2 c2, .slice a3 n3 c3] 31 ∧ Blk Wb (w.heap.size + 1) #[.int .i64 0, .int .i64 0, .int .i64 0, .int .i64 0, .slice none 0 0, .slice none 0 0, .slice none 0 0] 31) := by rw [hWn]; exact ⟨HB9.out.1.drew.setOther (by have := HO9.out.lw; have := HO9.out.ges; omega) _ _, HB9.out.2.drew.setOther (by have := HO9.out.lw; have := HO9.out.ges; omega) _ _⟩
      rw [← hWn] at hOn ⊢
      have HO10 : Hid (_) := hOn
      have HB10 : Hid (_ ∧ _) := hBn
      clear hK hWn hOn hBn ccr ffr HS HO9 HB9
      refine wpAnyH_done (by kernel_rfl) ?_ _
      go_wp2_with fail
      rw [rounds_succ]
      go_wp2_with (first | go_skip | (with_reducible refine stopLoad 31 rfl ?_) | (with_reducible refine stopStore 31 rfl ?_))
      refine load_any 31 w1.heap.size _ 31 _ HO10.out.blk rfl rfl rfl Tryz.underlying31 rfl (by kernel_rfl) ?_
      go_wp2_with (first | go_skip | (with_reducible refine stopLoad 31 rfl ?_) | (with_reducible refine stopStore 31 rfl ?_))
      refine store_known 31 (w.heap.size + 1) _ _ 31 HB10.out.2 rfl rfl rfl rfl (by kernel_rfl) rfl (by kernel_rfl) ?_
      go_wp2
      refine bodyPost_ret (results_row_tmp Tryz.results119 _ _ (w.heap.size + 1) _ _ _ _ rfl HB10.out.2.setRow Tryz.underlying31 rfl (by kernel_rfl)) rfl ?_
      exact newShaped_of HO10.out
end Go.Proofs.YtgkbhhlkaifnoaaGreatDoor
/- The walk through the model's SketchNew. No statement of the seat is proved here. -/
namespace Go.Proofs.YtgkbhhlkaifnoaaGreatDoor
open Go.RowKit
def Sk.new : Sk := ⟨0, 0, 0, 0, [0, 0, 0, 0, 0, 0, 0, 0], [0, 0, 0, 0, 0, 0, 0, 0], [[0, 0, 0, 0], [0, 0, 0, 0]]⟩
theorem rdI_blk {W : World} {g n : Nat} {cs : Array Value} {t : TypeId} {zs : List Int} (h : Blk W g cs t) (hc : cs.toList = zs.map (Value.int .i64)) (hn : zs.length = n) (hp : 0 < n) : RdI W (some ⟨g, 0, none⟩) n zs [g] := by
  refine ⟨hn, .inr ⟨g, 0, hp, rfl, rfl, fun i hi => ?_⟩⟩
  rw [Nat.zero_add, h.cell i, ← Array.getElem?_toList, hc, List.getElem?_map, List.getElem?_eq_getElem (by omega)]
  simp [List.getElem?_eq_getElem (show i < zs.length by omega)]
/-- A new summary, and what lies behind its lists. -/
def NewSkX (w : World) (t : TypeId) (e : Ending) (W : World) : Prop := ∃ v F g1 x5 g5 z8, e = .returned v ∧ v = .agg #[.int .i64 0, .int .i64 0, .int .i64 0, .int .i64 0, .slice (some ⟨g1, 0, none⟩) 8 8, x5, .slice (some ⟨g5, 0, none⟩) 2 2] ∧ RdSk W v Sk.new F ∧ Own w.heap.size W F ∧ Below w.heap.size w W ∧ g1 ∈ F ∧ Blk W g1 z8 t ∧ z8.size = 8
theorem NewSkX.sk {w W : World} {t : TypeId} {e : Ending} (h : NewSkX w t e W) : NewSk w Sk.new e W := by
  obtain ⟨v, F, _, _, _, _, h1, _, h2, h3, h4, _⟩ := h
  exact ⟨v, F, h1, h2, h3, h4⟩
theorem newSk_close {w W : World} {g1 g2 g3 g4 g5 : Nat} {z8 z4 : Array Value} {t t' : TypeId} (b1 : Blk W g1 z8 t) (b2 : Blk W g2 z8 t) (b5 : Blk W g5 #[.slice (some ⟨g3, 0, none⟩) 4 4, .slice (some ⟨g4, 0, none⟩) 4 4] t') (b3 : Blk W g3 z4 t) (b4 : Blk W g4 z4 t)
    (hz8 : z8 = madeCells #[.int .i64 0] 8) (hz4 : z4 = madeCells #[.int .i64 0] 4)
    (hn : g1 ≠ g2 ∧ g1 ≠ g3 ∧ g1 ≠ g4 ∧ g1 ≠ g5 ∧ g2 ≠ g3 ∧ g2 ≠ g4 ∧ g2 ≠ g5 ∧ g3 ≠ g4 ∧ g3 ≠ g5 ∧ g4 ≠ g5) (hge : w.heap.size ≤ g1 ∧ w.heap.size ≤ g2 ∧ w.heap.size ≤ g3 ∧ w.heap.size ≤ g4 ∧ w.heap.size ≤ g5) (hb : Below w.heap.size w W) :
    NewSkX w t (.returned (.agg #[.int .i64 0, .int .i64 0, .int .i64 0, .int .i64 0, .slice (some ⟨g1, 0, none⟩) 8 8, .slice (some ⟨g2, 0, none⟩) 8 8, .slice (some ⟨g5, 0, none⟩) 2 2])) W := by
  have e8 : z8.toList = ([0, 0, 0, 0, 0, 0, 0, 0] : List Int).map (Value.int .i64) := by rw [hz8]; kernel_rfl
  have e4 : z4.toList = ([0, 0, 0, 0] : List Int).map (Value.int .i64) := by rw [hz4]; kernel_rfl
  have es : z8.size = 8 := by have := congrArg List.length e8; simpa using this
  refine ⟨_, [g1] ++ ([g2] ++ [g5, g3, g4]), g1, _, g5, z8, rfl, rfl, ⟨_, 8, 8, _, 8, 8, _, 2, 2, [g1], [g2], [g5, g3, g4], rfl, rdI_blk b1 e8 rfl (by omega), rdI_blk b2 e8 rfl (by omega), ⟨rfl, .inr ⟨g5, 0, [g3, g4], by omega, rfl, rfl, ?_⟩⟩, rfl⟩, ⟨?_, ?_, ?_⟩, hb, by simp, b1, es⟩
  · show RdM W [ints [0, 0, 0, 0], ints [0, 0, 0, 0]] g5 0 [g3, g4]
    rw [RdM]
    refine ⟨_, [g3], [g4], by rw [b5.cell 0]; rfl, rd_ints.2 ⟨_, 4, 4, rfl, rdI_blk b3 e4 rfl (by omega)⟩, ?_, rfl⟩
    rw [RdM]
    exact ⟨_, [g4], [], by rw [b5.cell 1]; rfl, rd_ints.2 ⟨_, 4, 4, rfl, rdI_blk b4 e4 rfl (by omega)⟩, by simp [RdM], rfl⟩
  · simp
    omega
  · intro b hx o
    simp at hx
    rcases hx with rfl | rfl | rfl | rfl | rfl
    · exact b1.frozen o
    · exact b2.frozen o
    · exact b5.frozen o
    · exact b3.frozen o
    · exact b4.frozen o
  · intro b hx
    simp at hx
    omega
theorem newSk_close2 {w W : World} {g1 g2 g5 : Nat} {z8 z4 : Array Value} {t t' : TypeId} (b1 : Blk W g1 z8 t) (b2 : Blk W g2 z8 t)
    (h : ∃ g3 g4, Blk W g5 #[.slice (some ⟨g3, 0, none⟩) 4 4, .slice (some ⟨g4, 0, none⟩) 4 4] t' ∧ Blk W g3 z4 t ∧ Blk W g4 z4 t ∧ (g1 ≠ g2 ∧ g1 ≠ g3 ∧ g1 ≠ g4 ∧ g1 ≠ g5 ∧ g2 ≠ g3 ∧ g2 ≠ g4 ∧ g2 ≠ g5 ∧ g3 ≠ g4 ∧ g3 ≠ g5 ∧ g4 ≠ g5) ∧ (w.heap.size ≤ g1 ∧ w.heap.size ≤ g2 ∧ w.heap.size ≤ g3 ∧ w.heap.size ≤ g4 ∧ w.heap.size ≤ g5))
    (hz8 : z8 = madeCells #[.int .i64 0] 8) (hz4 : z4 = madeCells #[.int .i64 0] 4) (hb : Below w.heap.size w W) :
    NewSkX w t (.returned (.agg #[.int .i64 0, .int .i64 0, .int .i64 0, .int .i64 0, .slice (some ⟨g1, 0, none⟩) 8 8, .slice (some ⟨g2, 0, none⟩) 8 8, .slice (some ⟨g5, 0, none⟩) 2 2])) W := by
  obtain ⟨g3, g4, b5, b3, b4, hn, hge⟩ := h
  exact newSk_close b1 b2 b5 b3 b4 hz8 hz4 hn hge hb
set_option maxRecDepth 200000 in
set_option maxHeartbeats 40000000 in
theorem newSpec_x (w : World) : Calls Tryz.prog 118 #[] w fun e w' => NewSkX w 3 e w' := by
  obtain ⟨z8, hz8⟩ : ∃ z : Array Value, z = madeCells #[.int .i64 0] 8 := ⟨_, rfl⟩
  obtain ⟨z4, hz4⟩ : ∃ z : Array Value, z = madeCells #[.int .i64 0] 4 := ⟨_, rfl⟩
  have hmk8 : ∀ w : World, (Instr.makeSlice 28 (.int .i64 8) (.int .i64 8)).run Tryz.prog w = .ok (.slice (some ⟨w.heap.size, 0, none⟩) 8 8) (w.alloc (.cells z8 3)) := fun w => by
    rw [hz8]; exact run_make_row' (P := Tryz.prog) 28 3 (.int .i64 0) 8 Tryz.underlying28 infoInt rfl .i64 .i64 8 (by omega) (by omega) w
  have hmk4 : ∀ w : World, (Instr.makeSlice 28 (.int .i64 4) (.int .i64 4)).run Tryz.prog w = .ok (.slice (some ⟨w.heap.size, 0, none⟩) 4 4) (w.alloc (.cells z4 3)) := fun w => by
    rw [hz4]; exact run_make_row' (P := Tryz.prog) 28 3 (.int .i64 0) 8 Tryz.underlying28 infoInt rfl .i64 .i64 4 (by omega) (by omega) w
  have HZ : Hid (z8 = madeCells #[.int .i64 0] 8 ∧ z4 = madeCells #[.int .i64 0] 4) := ⟨hz8, hz4⟩
  clear hz8 hz4
  go_enter Tryz.func118, Tryz.ntmps118
  go_wp2
  go_region
  all_goals
    go_wp2
    refine bodyPost_ret (results_cell_row Tryz.results118 _ _ w.heap.size _ _ (0, 0) _ rfl (Blk.drew (Blk.alloc (Blk.alloc (Blk.alloc (Blk.alloc (Blk.alloc (Blk.made w _ _) _) _) _) _) _)) Tryz.underlying31 rfl (by kernel_rfl)) rfl ?_
    refine newSk_close2 (t := 3) (t' := 28) ?_ ?_ ?_ HZ.out.1 HZ.out.2 ?_
    · apply Blk.drew; repeat (first | (refine Blk.made_eq ?_; simp; done) | apply Blk.alloc)
    · apply Blk.drew; repeat (first | (refine Blk.made_eq ?_; simp; done) | apply Blk.alloc)
    · apply Exists.intro
      apply Exists.intro
      refine ⟨?_, ?_, ?_, ?_, ?_⟩
      · apply Blk.drew; repeat (first | (refine Blk.made_eq ?_; simp; done) | apply Blk.alloc)
      · apply Blk.drew; repeat (first | (refine Blk.made_eq ?_; simp; done) | apply Blk.alloc)
      · apply Blk.drew; repeat (first | (refine Blk.made_eq ?_; simp; done) | apply Blk.alloc)
      · omega
      · omega
    · apply Below.drew; repeat (first | exact Below.refl _ _ | refine Below.allocW _ ?_ (Nat.le_refl _))
end Go.Proofs.YtgkbhhlkaifnoaaGreatDoor
/- The walk through the model's Sketched. No statement of the seat is proved here. -/
namespace Go.Proofs.YtgkbhhlkaifnoaaGreatDoor
open Go.RowKit
section
variable {P : Program} {ops : Array Oper} {Q : Exit → Act → World → Prop} {a : Act} {w : World} {x : Operand} {o : Oper} {K : Act → World → Prop}
theorem op_load (ty : TypeId) (g : Nat) (cells : Array Value) (t : TypeId) (d : TypeDesc) (hg : Blk w g cells t) (hw : Region.wanted o (yielded ops a.tmps) = true) (ho : o.op = .load ty x) (hx : a.eval x = .pointer (some ⟨g, 0, none⟩))
    (hu : P.underlying ty = some d) (hd : (match d with | .struct _ | .array _ _ => true | _ => false) = true) (hi : (P.info? ty).map (·.size) = some cells.size)
    (h : ∃ a', a.put o.dst (.agg cells) = a' ∧ K a' w) : if Region.wanted o (yielded ops a.tmps) = true then Oper.wp P o a w K Q else K (a.put o.dst undef) w := by
  obtain ⟨_, rfl, h⟩ := h
  rw [if_pos hw]
  exact wp_load_row ty x ho g hx t cells (0, 0) d hg hu hd hi h
end
/-- Some summary, in memory of its own, its lists as long as told. -/
def NewShaped (w : World) (e : Ending) (w' : World) : Prop :=
  ∃ v s F, e = .returned v ∧ RdR w' v s F ∧ s.shaped = true ∧ Own w.heap.size w' F ∧ Below w.heap.size w w'
theorem NewSkX.rd {w W : World} {e : Ending} (h : NewSkX w 3 e W) : ∃ v F, e = .returned v ∧ RdR W v Sk.new F ∧ Own w.heap.size W F ∧ Below w.heap.size w W := by
  obtain ⟨v, F, g1, x5, g5, z8, h1, h2, h3, h4, h5, h6, h7, h8⟩ := h
  exact ⟨v, F, h1, ⟨h3, _, _, _, _, _, _, _, [g1], _, _, _, _, h2, ⟨g1, 0, rfl, rfl, rfl, ⟨z8, h7, h8⟩, by omega, by decide⟩, by simpa using h6, by omega⟩, h4, h5⟩
theorem new_shaped : Sk.new.shaped = true := by decide
set_option maxRecDepth 200000 in
set_option maxHeartbeats 4000000 in
theorem sketched_any (a : Option Addr) (len cap : Nat) (zs : List Int) (FL : List Nat) (w : World) (h : RdI w a len zs FL) (hlen : len ≤ 1048576) :
    Calls Tryz.prog 108 #[.slice a len cap] w fun e w' => NewShaped w e w' := by
  have HR : Hid (RdI w a len zs FL) := h
  have HT : Hid (Blk (w.alloc (.cells #[.int .i64 0, .int .i64 0, .int .i64 0, .int .i64 0, .slice none 0 0, .slice none 0 0, .slice none 0 0] 31)) w.heap.size #[.int .i64 0, .int .i64 0, .int .i64 0, .int .i64 0, .slice none 0 0, .slice none 0 0, .slice none 0 0] 31 ∧ Below w.heap.size w (w.alloc (.cells #[.int .i64 0, .int .i64 0, .int .i64 0, .int .i64 0, .slice none 0 0, .slice none 0 0, .slice none 0 0] 31))) := ⟨Blk.made _ _ _, (Below.refl _ _).alloc (Nat.le_refl _) _⟩
  clear h
  go_enter Tryz.func108, Tryz.ntmps108
  go_wp2_with fail
  refine (newSpec_x _).mono ?_
  intro e w1 hx
  obtain ⟨vv, X, rfl, rr, oo, bb⟩ := hx.rd
  clear hx
  obtain ⟨cs, rfl, e7, e1⟩ := rr.cells
  have HE : Hid (RdR w1 (.agg cs) Sk.new X ∧ Own (w.heap.size + 1) w1 X ∧ cs.size = 7 ∧ cs.all (·.oneCell') = true ∧ Blk w1 w.heap.size #[.int .i64 0, .int .i64 0, .int .i64 0, .int .i64 0, .slice none 0 0, .slice none 0 0, .slice none 0 0] 31 ∧ Below w.heap.size w w1) := ⟨rr, by simpa using oo, e7, e1, HT.out.1.below bb, Below.next HT.out.2 bb⟩
  clear rr oo bb e7 e1 HT
  go_wp2_with (first | go_skip | (with_reducible refine stopLoad 31 rfl ?_) | (with_reducible refine stopStore 31 rfl ?_))
  refine store_fresh 31 w1.heap.size rfl #[.int .i64 0, .int .i64 0, .int .i64 0, .int .i64 0, .slice none 0 0, .slice none 0 0, .slice none 0 0] cs 31 rfl rfl rfl rfl (skSize HE.out.2.2.1) HE.out.2.2.1.symm HE.out.2.2.2.1 ?_
  intro W2 hg2 hb2
  have HV2 : Hid (Blk W2 w1.heap.size cs 31 ∧ RdR W2 (.agg cs) Sk.new X ∧ cs.size = 7 ∧ Own (w.heap.size + 1) W2 X ∧ Below w.heap.size w W2 ∧ Blk W2 w.heap.size #[.int .i64 0, .int .i64 0, .int .i64 0, .int .i64 0, .slice none 0 0, .slice none 0 0, .slice none 0 0] 31 ∧ w.heap.size < w1.heap.size) := ⟨hg2, HE.out.1.below hb2, HE.out.2.2.1, HE.out.2.1.below HE.out.1.lt hb2, Below.next HE.out.2.2.2.2.2 hb2, HE.out.2.2.2.2.1.below hb2, HE.out.2.2.2.2.1.lt⟩
  clear hg2 hb2 HE
  have HEND : Hid (∀ W cs s X, Blk W w1.heap.size cs 31 → RdR W (.agg cs) s X → s.shaped = true → Own (w.heap.size + 1) W X → Below w.heap.size w W → NewShaped w (.returned (.agg cs)) (W.setRow w.heap.size cs)) := fun W cs s X _ q2 q3 q4 q5 => by
    have ag : Agree W (W.setRow w.heap.size cs) X := fun b hb => setRow_other W _ b _ (fun e => by have := q4.ge b hb; omega)
    exact ⟨_, s, X, rfl, q2.agree ag, q3, (q4.agree ag).mono (by omega), below_setRow q5 (Nat.le_refl _) _⟩
  by_cases h0 : len = 0
  · subst h0
    go_wp2
    refine wp_loop_rounds 1 ?_
    rw [rounds_succ]
    go_wp2_with (first | go_skip | (with_reducible refine stopLoad 31 rfl ?_) | (with_reducible refine stopStore 31 rfl ?_))
    refine load_any 31 w1.heap.size cs 31 _ HV2.out.1 rfl rfl rfl Tryz.underlying31 rfl (skSize HV2.out.2.2.1) ?_
    go_wp2_with (first | go_skip | (with_reducible refine stopLoad 31 rfl ?_) | (with_reducible refine stopStore 31 rfl ?_))
    refine store_known 31 w.heap.size _ cs 31 HV2.out.2.2.2.2.2.1 rfl rfl rfl rfl (skSize HV2.out.2.2.1) HV2.out.2.2.1.symm (by obtain ⟨ds, e, _, h8⟩ := HV2.out.2.1.cells; cases e; exact h8) ?_
    go_wp2
    refine bodyPost_ret (results_cell_row Tryz.results108 _ _ w.heap.size _ _ _ _ rfl HV2.out.2.2.2.2.2.1.setRow Tryz.underlying31 rfl (skSize HV2.out.2.2.1)) rfl ?_
    exact HEND.out _ _ _ _ HV2.out.1 HV2.out.2.1 new_shaped HV2.out.2.2.2.1 HV2.out.2.2.2.2.1
  obtain ⟨lb, lof, rfl⟩ := HR.out.addr (by omega)
  have hlb : lb < w.heap.size := World.block_lt_of_cell? _ _ (HR.out.at 0 (by omega))
  have HFL : Hid (∀ b ∈ FL, b < w.heap.size) := HR.out.lt
  go_wp2
  go_loopw [4] (fun i wr => ∃ (k : Nat) (cs : Array Value) (s : Sk) (X : List Nat), k ≤ len ∧ i = .int .i64 k ∧ Hid (Blk wr w1.heap.size cs 31 ∧ RdR wr (.agg cs) s X ∧ cs.size = 7 ∧ s.shaped = true ∧ Own (w.heap.size + 1) wr X ∧ Below w.heap.size w wr ∧ Blk wr w.heap.size #[.int .i64 0, .int .i64 0, .int .i64 0, .int .i64 0, .slice none 0 0, .slice none 0 0, .slice none 0 0] 31 ∧ w.heap.size < w1.heap.size ∧ RdI wr (some ⟨lb, lof, none⟩) len zs FL ∧ lb < w.heap.size)) (fun i _ => len - (intOf i).toNat)
  case atStart => exact ⟨0, cs, Sk.new, X, by omega, rfl, ⟨HV2.out.1, HV2.out.2.1, HV2.out.2.2.1, new_shaped, HV2.out.2.2.2.1, HV2.out.2.2.2.2.1, HV2.out.2.2.2.2.2.1, HV2.out.2.2.2.2.2.2, HR.out.below HV2.out.2.2.2.2.1, hlb⟩⟩
  case round =>
    clear HV2
    obtain ⟨k, cs, s, X, hk, rfl, HV⟩ := hrel
    by_cases hlt : k < len
    · obtain ⟨n, hn⟩ : ∃ n, n = zs.getD k 0 := ⟨_, rfl⟩
      have HS : Hid (wr.drew.cell? ⟨lb, lof + k, none⟩ = some (.int .i64 n)) := by rw [hn]; exact HV.out.2.2.2.2.2.2.2.2.1.at k hlt
      have HCS : Hid (cs.size = 7) := HV.out.2.2.1
      clear hn
      go_wp2
      refine wp_region_held (S := fun W => W.cell? ⟨lb, lof + k, none⟩ = some (.int .i64 n)) (by kernel_rfl) ?_
      change wpAnyH _ _ _ _ _ _ _ _ (World.drew _)
      refine takeH (o := ?o1) 1 (.slice (some ⟨lb, lof, none⟩) len cap) ?h1 ?r1
      case h1 => simp only [aT, aS, aZ]; rfl
      refine ⟨_, by simp [Act.put]; rfl, by kernel_rfl, by kernel_rfl, by kernel_rfl, fun _ _ _ h => h, (.inl ⟨rfl, fun W _ => by go_simp⟩), HS.out, ?_⟩
      refine takeH (o := ?o2) 2 (.int .i64 k) ?h2 ?r2
      case h2 => simp only [aT, aS, aZ]; rfl
      refine ⟨_, by simp [Act.put]; rfl, by kernel_rfl, by kernel_rfl, by kernel_rfl, fun _ _ _ h => h, (.inl ⟨rfl, fun W _ => by go_simp⟩), HS.out, ?_⟩
      refine takeH (o := ?o3) 3 (.pointer (some ⟨lb, lof + k, none⟩)) ?h3 ?r3
      case h3 => simp only [aT, aS, aZ]; rfl
      refine ⟨_, by simp [Act.put]; rfl, by kernel_rfl, by kernel_rfl, by kernel_rfl, fun _ _ _ h => h, (.inl ⟨rfl, fun W _ => by go_simp⟩), HS.out, ?_⟩
      refine takeH (o := ?o4) 4 (.int .i64 n) ?h4 ?r4
      case h4 => simp only [aT, aS, aZ]; rfl
      refine ⟨_, by simp [Act.put]; rfl, by kernel_rfl, by kernel_rfl, by kernel_rfl, fun _ _ _ h => h, (.inl ⟨rfl, fun W hW => by have c := hW; go_simp⟩), HS.out, ?_⟩
      refine onlyH (o := ?o5) 0 (by kernel_rfl) ?h5 ?r5
      case h5 => simp only [aT, aZ]; rfl
      intro K hK
      refine op_load 31 w1.heap.size cs 31 _ HV.out.1.drew rfl rfl rfl Tryz.underlying31 rfl (skSize HV.out.2.2.1) ⟨_, by simp [Act.put]; rfl, hK _ _ ⟨HS.out, ?_⟩⟩
      clear hK
      refine onlyH (o := ?o6) 5 (by kernel_rfl) ?h6 ?r6
      case h6 => simp only [aT, aS, aZ]; rfl
      intro K hK
      refine op_call2' 119 _ _ _ Tryz.f119 (fun u w' => ∃ es s' d X, u = .tuple #[.agg es, .bool d] ∧ es.size = 7 ∧ es.all (·.oneCell') = true ∧ RdR w' (.agg es) s' X ∧ s'.shaped = true ∧ Own wr.drew.heap.size w' X ∧ Below wr.drew.heap.size wr.drew w') rfl rfl Tryz.func119 (by kernel_rfl) (by kernel_rfl) ((insert_any (.agg cs) s n X wr.drew (HV.out.2.1.sk.below (Below.refl _ _).drew) HV.out.2.2.2.1).mono (by rintro e w' ⟨u, s', d, X', rfl, q1, q2, q3, q4⟩; obtain ⟨es, rfl, q5, q6⟩ := q1.cells; exact ⟨_, rfl, es, s', d, X', rfl, q5, q6, q1, q2, q3, q4⟩)) ?_
      rintro _ W5 ⟨es, s', d, X5, rfl, q5, q6, q1, q2, q3, q4⟩
      have HS5 : Hid (W5.cell? ⟨lb, lof + k, none⟩ = some (.int .i64 n)) := (q4.cell (by exact World.block_lt_of_cell? _ _ HS.out)).trans HS.out
      refine ⟨_, by simp [Act.put]; rfl, hK _ _ ⟨HS5.out, ?_⟩⟩
      have HV5 : Hid (Blk W5 w1.heap.size cs 31 ∧ RdR W5 (.agg es) s' X5 ∧ es.size = 7 ∧ es.all (·.oneCell') = true ∧ s'.shaped = true ∧ Own wr.heap.size W5 X5 ∧ Below w.heap.size w W5 ∧ Blk W5 w.heap.size #[.int .i64 0, .int .i64 0, .int .i64 0, .int .i64 0, .slice none 0 0, .slice none 0 0, .slice none 0 0] 31 ∧ w1.heap.size < wr.heap.size ∧ w.heap.size < w1.heap.size ∧ RdI W5 (some ⟨lb, lof, none⟩) len zs FL ∧ lb < w.heap.size) := ⟨HV.out.1.drew.below q4, q1, q5, q6, q2, q3, Below.next HV.out.2.2.2.2.2.1.drew q4, HV.out.2.2.2.2.2.2.1.drew.below q4, HV.out.1.lt, HV.out.2.2.2.2.2.2.2.1, (HV.out.2.2.2.2.2.2.2.2.1.below (Below.refl _ _).drew).below q4, HV.out.2.2.2.2.2.2.2.2.2⟩
      clear hK q1 q2 q3 q4 q5 q6 HV HS
      refine takeH (o := ?o7) 6 (.tuple #[.agg es, .bool d]) ?h7 ?r7
      case h7 => simp only [aT, aS, aZ]; rfl
      refine ⟨_, by simp [Act.put]; rfl, by kernel_rfl, by kernel_rfl, by kernel_rfl, fun _ _ _ h => h, (.inl ⟨rfl, fun W _ => by go_simp⟩), HS5.out, ?_⟩
      refine takeH (o := ?o8) 7 (.agg es) ?h8 ?r8
      case h8 => simp only [aT, aS, aZ]; rfl
      refine ⟨_, by simp [Act.put]; rfl, by kernel_rfl, by kernel_rfl, by kernel_rfl, fun _ _ _ h => h, (.inl ⟨rfl, fun W _ => by go_simp⟩), HS5.out, ?_⟩
      refine takeH (o := ?o9) 8 (.bool d) ?h9 ?r9
      case h9 => simp only [aT, aS, aZ]; rfl
      refine ⟨_, by simp [Act.put]; rfl, by kernel_rfl, by kernel_rfl, by kernel_rfl, fun _ _ _ h => h, (.inl ⟨rfl, fun W _ => by go_simp⟩), HS5.out, ?_⟩
      refine onlyH (o := ?o10) 9 (by kernel_rfl) ?h10 ?r10
      case h10 => simp only [aT, aS, aZ]; rfl
      intro K hK
      have hne : lb ≠ w1.heap.size := by have := HV5.out.2.2.2.2.2.2.2.2.2.2.2; have := HV5.out.2.2.2.2.2.2.2.2.2.1; omega
      have hsz : (W5.setRow w1.heap.size es).heap.size = W5.heap.size := by simp
      refine op_store 31 w1.heap.size cs es 31 rfl rfl rfl rfl HV5.out.1 (skSize HV5.out.2.2.1) (by rw [HCS.out, HV5.out.2.2.1]) HV5.out.2.2.2.1 ⟨_, by simp [Act.put]; rfl, hK _ _ ⟨(World.cell?_of_block (w := W5) (a := ⟨lb, lof + k, none⟩) (setRow_other W5 w1.heap.size lb es hne)).trans HS5.out, ?_⟩⟩
      have ag : Agree W5 (W5.setRow w1.heap.size es) X5 := fun b hb => setRow_other W5 _ b _ (fun e => by have := HV5.out.2.2.2.2.2.1.ge b hb; have := HV5.out.2.2.2.2.2.2.2.2.1; omega)
      have agL : Agree W5 (W5.setRow w1.heap.size es) FL := fun b hb => setRow_other W5 _ b _ (fun e => by have := HFL.out b hb; have := HV5.out.2.2.2.2.2.2.2.2.2.1; omega)
      have HN : Hid (Blk (W5.setRow w1.heap.size es) w1.heap.size es 31 ∧ RdR (W5.setRow w1.heap.size es) (.agg es) s' X5 ∧ es.size = 7 ∧ s'.shaped = true ∧ Own (w.heap.size + 1) (W5.setRow w1.heap.size es) X5 ∧ Below w.heap.size w (W5.setRow w1.heap.size es) ∧ Blk (W5.setRow w1.heap.size es) w.heap.size #[.int .i64 0, .int .i64 0, .int .i64 0, .int .i64 0, .slice none 0 0, .slice none 0 0, .slice none 0 0] 31 ∧ w.heap.size < w1.heap.size ∧ RdI (W5.setRow w1.heap.size es) (some ⟨lb, lof, none⟩) len zs FL ∧ lb < w.heap.size) := ⟨HV5.out.1.setRow, HV5.out.2.1.agree ag, HV5.out.2.2.1, HV5.out.2.2.2.2.1, (HV5.out.2.2.2.2.2.1.agree ag).mono (by have := HV5.out.2.2.2.2.2.2.2.2.1; have := HV5.out.2.2.2.2.2.2.2.2.2.1; omega), below_setRow HV5.out.2.2.2.2.2.2.1 (by have := HV5.out.2.2.2.2.2.2.2.2.2.1; omega) _, HV5.out.2.2.2.2.2.2.2.1.setRowOther (by have := HV5.out.2.2.2.2.2.2.2.2.2.1; omega), HV5.out.2.2.2.2.2.2.2.2.2.1, HV5.out.2.2.2.2.2.2.2.2.2.2.1.agree agL, HV5.out.2.2.2.2.2.2.2.2.2.2.2⟩
      clear hK ag agL hne hsz HV5 HS5
      refine wpAnyH_done (by kernel_rfl) ?_ _
      go_wp2
      go_roundw
      case rel => exact ⟨k + 1, es, s', X5, by omega, by go_num, HN⟩
      case measure => simp [intOf]; omega
    · obtain rfl : k = len := by omega
      go_wp2_with (first | go_skip | (with_reducible refine stopLoad 31 rfl ?_) | (with_reducible refine stopStore 31 rfl ?_))
      refine load_any 31 w1.heap.size cs 31 _ HV.out.1 rfl rfl rfl Tryz.underlying31 rfl (skSize HV.out.2.2.1) ?_
      go_wp2_with (first | go_skip | (with_reducible refine stopLoad 31 rfl ?_) | (with_reducible refine stopStore 31 rfl ?_))
      refine store_known 31 w.heap.size _ cs 31 HV.out.2.2.2.2.2.2.1 rfl rfl rfl rfl (skSize HV.out.2.2.1) HV.out.2.2.1.symm (by obtain ⟨ds, e, _, h8⟩ := HV.out.2.1.cells; cases e; exact h8) ?_
      go_wp2
      refine bodyPost_ret (results_cell_row Tryz.results108 _ _ w.heap.size _ _ _ _ rfl HV.out.2.2.2.2.2.2.1.setRow Tryz.underlying31 rfl (skSize HV.out.2.2.1)) rfl ?_
      exact HEND.out _ _ _ _ HV.out.1 HV.out.2.1 HV.out.2.2.2.1 HV.out.2.2.2.2.1 HV.out.2.2.2.2.2.1
end Go.Proofs.YtgkbhhlkaifnoaaGreatDoor
/- The walk through the model's drawing of a summary that is right. No statement of the seat is proved here. -/
namespace Go.Proofs.YtgkbhhlkaifnoaaGreatDoor
open Go.RowKit
set_option maxRecDepth 200000 in
theorem l1Once_any (g : Nat) (a : Option Addr) (len cap : Nat) (zs : List Int) (i h : Int) (n : Int) (w : World) (C : Cur w g a len cap zs i h) (hlen : len ≤ 1048576) (hn : 0 < n) (hn' : n ≤ 2147483647) :
    Calls Tryz.prog 27 #[.pointer (some ⟨g, 0, none⟩), .int .i64 n] w fun e w' => ∃ b i' h', e = .returned (.bool b) ∧ Cur w' g a len cap zs i' h' ∧ w.grownBy w' (some g) := by
  have HC : Hid (Cur w g a len cap zs i h) := C
  clear C
  go_enter Tryz.func27, Tryz.ntmps27
  go_wp2_with fail
  refine (l1Below_any g a len cap zs i h n _ HC.out hlen hn hn').mono ?_
  rintro e w1 ⟨x, i1, h1, rfl, _, _, C1, g1⟩
  have HC1 : Hid (Cur w1 g a len cap zs i1 h1 ∧ w.grownBy w1 (some g)) := ⟨C1, g1⟩
  clear C1 g1
  go_wp2
  go_ret
  exact ⟨_, i1, h1, rfl, HC1.out.1, HC1.out.2⟩
theorem grown_below {w w' : World} (g : Nat) (b : Below w.heap.size w w') : w.grownBy w' (some g) := ⟨b.os, b.tape, b.output, b.size, fun k hk _ => b.block k hk⟩
/-- The same world, with nothing in memory. -/
def World.bare (w : World) : World := { w with heap := #[] }
theorem bare_below {w W : World} {q : Nat} (k : w.grownBy W (some q)) : Below (World.bare w).heap.size (World.bare w) W := ⟨k.os, k.tape, k.output, Nat.zero_le _, fun j hj => absurd hj (Nat.not_lt_zero j)⟩
theorem Blk.grown {w W : World} {b q : Nat} {cs : Array Value} {t : TypeId} (h : Blk w b cs t) (k : w.grownBy W (some q)) (hq : b ≠ q) : Blk W b cs t := h.agree (k.block b h.lt (fun e => hq (by simpa using e)))
theorem agree_grown {w W : World} {F : List Nat} {q : Nat} (k : w.grownBy W (some q)) (hlt : ∀ b ∈ F, b < w.heap.size) (hq : q ∉ F) : Agree w W F := fun b hb => k.block b (hlt b hb) (fun e => hq (by simp at e; rw [← e]; exact hb))
section
variable {w : World} {lo g : Nat} {c sm mn mx : Int} {b1 o1 k1 b2 o2 k2 p po k3 b3 o3 j0 b4 o4 j1 : Nat} {l1 l2 x y : List Int} {W W' : World}
theorem Out.grown {q : Nat} (h : Out w lo g c sm mn mx b1 o1 k1 b2 o2 k2 p po k3 b3 o3 j0 b4 o4 j1 l1 l2 x y W) (k : W.grownBy W' (some q)) (hq : q < lo) (hw : w.heap.size ≤ q) : Out w lo g c sm mn mx b1 o1 k1 b2 o2 k2 p po k3 b3 o3 j0 b4 o4 j1 l1 l2 x y W' := by
  have ge := h.ges
  have e1 := h.hist.lt b1 (by simp)
  have e2 := h.regs.lt b2 (by simp)
  have e3 := h.row0.lt b3 (by simp)
  have e4 := h.row1.lt b4 (by simp)
  have e5 : p < W.heap.size := World.block_lt_of_cell? _ _ h.c0
  have e6 := h.blk.lt
  have bp := k.block p e5 (fun e => by simp at e; omega)
  exact ⟨h.blk.grown k (by omega), h.hist.agree (agree_grown k (by simpa using e1) (by simp; omega)), h.regs.agree (agree_grown k (by simpa using e2) (by simp; omega)), (World.cell?_of_block (w := W) (a := ⟨p, po, none⟩) bp).trans h.c0, (World.cell?_of_block (w := W) (a := ⟨p, po + 1, none⟩) bp).trans h.c1, h.row0.agree (agree_grown k (by simpa using e3) (by simp; omega)), h.row1.agree (agree_grown k (by simpa using e4) (by simp; omega)), h.own.agree (agree_grown k (fun b hb => by simp at hb; omega) (by simp; omega)), h.bel.grown k h.bel.size (fun j hj => by simp at hj; omega), h.lw, h.room.grown k (by omega), h.wide⟩
end
/-- What the drawing of a summary tells: some summary, its lists as long as told, in memory of its own; the cursor goes on. -/
def DrewShaped (w : World) (q : Nat) (a : Option Addr) (len cap : Nat) (zs : List Int) (e : Ending) (w' : World) : Prop :=
  ∃ v s F i' h', e = .returned v ∧ RdR w' v s F ∧ s.shaped = true ∧ Own w.heap.size w' F ∧ Cur w' q a len cap zs i' h' ∧ w.grownBy w' (some q)
theorem drew_end {w W ww : World} {q lo g : Nat} {c sm mn mx : Int} {b1 o1 k1 b2 o2 k2 p po k3 b3 o3 j0 b4 o4 j1 : Nat} {l1 l2 x y : List Int} {a : Option Addr} {len cap : Nat} {zs : List Int} {i h : Int} (hO : Out ww lo g c sm mn mx b1 o1 k1 b2 o2 k2 p po k3 b3 o3 j0 b4 o4 j1 l1 l2 x y W) (hr : Blk W w.heap.size #[.int .i64 0, .int .i64 0, .int .i64 0, .int .i64 0, .slice none 0 0, .slice none 0 0, .slice none 0 0] 31) (hC : Cur W q a len cap zs i h) (hG : w.grownBy W (some q)) (hq : q < w.heap.size) (hlo : w.heap.size < lo) :
    DrewShaped w q a len cap zs (.returned (.agg #[.int .i64 c, .int .i64 sm, .int .i64 mn, .int .i64 mx, .slice (some ⟨b1, o1, none⟩) 8 k1, .slice (some ⟨b2, o2, none⟩) 8 k2, .slice (some ⟨p, po, none⟩) 2 k3])) (W.setRow w.heap.size #[.int .i64 c, .int .i64 sm, .int .i64 mn, .int .i64 mx, .slice (some ⟨b1, o1, none⟩) 8 k1, .slice (some ⟨b2, o2, none⟩) 8 k2, .slice (some ⟨p, po, none⟩) 2 k3]) := by
  obtain ⟨r, o, hs⟩ := out_rd hO
  have ag : Agree W (W.setRow w.heap.size #[.int .i64 c, .int .i64 sm, .int .i64 mn, .int .i64 mx, .slice (some ⟨b1, o1, none⟩) 8 k1, .slice (some ⟨b2, o2, none⟩) 8 k2, .slice (some ⟨p, po, none⟩) 2 k3]) [b1, b2, p, b3, b4] := fun b hb => setRow_other W _ b _ (fun e => by have := o.ge b hb; omega)
  have hgr : w.grownBy (W.setRow w.heap.size #[.int .i64 c, .int .i64 sm, .int .i64 mn, .int .i64 mx, .slice (some ⟨b1, o1, none⟩) 8 k1, .slice (some ⟨b2, o2, none⟩) 8 k2, .slice (some ⟨p, po, none⟩) 2 k3]) (some q) := ⟨hG.os, hG.tape, hG.output, by simp; exact hG.size, fun b hb hn => (setRow_other W _ b _ (by omega)).trans (hG.block b hb hn)⟩
  refine ⟨_, _, _, i, h, rfl, r.agree ag, hs, (o.agree ag).mono (by omega), ?_, hgr⟩
  refine cur_agree hC (World.block_lt_of_cell? _ _ hC.c0) (setRow_other W _ q _ (by omega)) (fun b hb ⟨off, ha, hp⟩ => setRow_other W _ b _ (fun e => ?_))
  subst e
  rcases hC.rd.cells with h0 | ⟨b', off', ha', hc⟩
  · omega
  · rw [ha] at ha'
    cases ha'
    have e0 := hc 0 hp
    rw [hr.cell] at e0
    match off, e0 with
    | 0, e0 => simp at e0
    | 1, e0 => simp at e0
    | 2, e0 => simp at e0
    | 3, e0 => simp at e0
    | 4, e0 => simp at e0
    | 5, e0 => simp at e0
    | 6, e0 => simp at e0
    | n + 7, e0 => simp at e0
theorem cur_lt {w : World} {q : Nat} {a : Option Addr} {len cap : Nat} {zs : List Int} {i h : Int} (C : Cur w q a len cap zs i h) (b : Nat) (hb : ∃ off, a = some ⟨b, off, none⟩ ∧ 0 < len) : b < w.heap.size := by
  obtain ⟨off, ha, hp⟩ := hb
  rcases C.rd.cells with h0 | ⟨b', off', ha', hc⟩
  · omega
  · rw [ha] at ha'
    cases ha'
    exact World.block_lt_of_cell? _ _ (hc 0 hp)
theorem held_set {w W : World} {q : Nat} {a : Option Addr} {len cap : Nat} {zs : List Int} {i h : Int} {cs : Array Value} {t : TypeId} (H : Blk W w.heap.size cs t ∧ Cur W q a len cap zs i h ∧ w.grownBy W (some q)) (hq : q < w.heap.size) (ha : ∀ b, (∃ off, a = some ⟨b, off, none⟩ ∧ 0 < len) → b < w.heap.size) (k j : Nat) (v : Value) (hk : w.heap.size < k) : Blk (W.setCell ⟨k, j, none⟩ v) w.heap.size cs t ∧ Cur (W.setCell ⟨k, j, none⟩ v) q a len cap zs i h ∧ w.grownBy (W.setCell ⟨k, j, none⟩ v) (some q) := by
  refine ⟨H.1.setOther (by omega) _ _, ?_, ?_⟩
  · exact cur_agree H.2.1 (World.block_lt_of_cell? _ _ H.2.1.c0) (Below.heap_setCell W ⟨k, j, none⟩ v q (by simp; omega)) (fun b _ hb => Below.heap_setCell W ⟨k, j, none⟩ v b (by have := ha b hb; simp; omega))
  · have G := H.2.2
    exact ⟨G.os, G.tape, G.output, by simpa using G.size, fun b hb hn => (Below.heap_setCell W ⟨k, j, none⟩ v b (by simp; omega)).trans (G.block b hb hn)⟩
set_option maxRecDepth 200000 in
set_option maxHeartbeats 4000000 in
theorem l3Right_any (q : Nat) (a : Option Addr) (len cap : Nat) (zs : List Int) (i h : Int) (w : World) (C : Cur w q a len cap zs i h) (hlen : len ≤ 1048576) :
    Calls Tryz.prog 110 #[.pointer (some ⟨q, 0, none⟩)] w fun e w' => DrewShaped w q a len cap zs e w' := by
  have hqw : q < w.heap.size := World.block_lt_of_cell? _ _ C.c0
  have hAw := cur_lt C
  have HT : Hid (Blk (w.alloc (.cells #[.int .i64 0, .int .i64 0, .int .i64 0, .int .i64 0, .slice none 0 0, .slice none 0 0, .slice none 0 0] 31)) w.heap.size #[.int .i64 0, .int .i64 0, .int .i64 0, .int .i64 0, .slice none 0 0, .slice none 0 0, .slice none 0 0] 31 ∧ Below w.heap.size w (w.alloc (.cells #[.int .i64 0, .int .i64 0, .int .i64 0, .int .i64 0, .slice none 0 0, .slice none 0 0, .slice none 0 0] 31))) := ⟨Blk.made _ _ _, (Below.refl _ _).alloc (Nat.le_refl _) _⟩
  have HC : Hid (Cur (w.alloc (.cells #[.int .i64 0, .int .i64 0, .int .i64 0, .int .i64 0, .slice none 0 0, .slice none 0 0, .slice none 0 0] 31)) q a len cap zs i h) := C.keep HT.out.2
  clear C
  go_enter Tryz.func110, Tryz.ntmps110
  go_wp2_with fail
  refine (l3Values_any q a len cap zs i h _ HC.out hlen).mono ?_
  rintro e w1 ⟨a', n, cc, xs, F, i1, h1, rfl, r1, hn, o1, C1, g1⟩
  have hlo : w.heap.size < w1.heap.size := by have := g1.size; simp at this; omega
  have HL1 : Hid (Blk w1 w.heap.size #[.int .i64 0, .int .i64 0, .int .i64 0, .int .i64 0, .slice none 0 0, .slice none 0 0, .slice none 0 0] 31 ∧ Cur w1 q a len cap zs i1 h1 ∧ w.grownBy w1 (some q) ∧ RdI w1 a' n xs F) := ⟨HT.out.1.grown g1 (by omega), C1, grown_tr (grown_below q HT.out.2) g1, r1⟩
  clear r1 o1 C1 g1 HT HC
  go_wp2_with fail
  refine (sketched_any a' n cc xs F _ HL1.out.2.2.2 (by omega)).mono ?_
  rintro e w2 ⟨vv, s, X, rfl, rr, hs, oo, bb⟩
  obtain ⟨es, rfl, e7, e1⟩ := rr.cells
  have HE : Hid (RdR w2 (.agg es) s X ∧ Own w1.heap.size w2 X ∧ Below w1.heap.size w1 w2 ∧ es.size = 7 ∧ es.all (·.oneCell') = true ∧ s.shaped = true) := ⟨rr, oo, bb, e7, e1, hs⟩
  clear rr oo bb e7 e1 hs
  go_wp2_with (first | go_skip | (with_reducible refine stopLoad 31 rfl ?_) | (with_reducible refine stopStore 31 rfl ?_))
  refine store_fresh 31 w2.heap.size rfl #[.int .i64 0, .int .i64 0, .int .i64 0, .int .i64 0, .slice none 0 0, .slice none 0 0, .slice none 0 0] es 31 rfl rfl rfl rfl (skSize HE.out.2.2.2.1) HE.out.2.2.2.1.symm HE.out.2.2.2.2.1 ?_
  intro W3 hg3 hb3
  have hbw := Below.next HE.out.2.2.1 hb3
  have hG3 := grown_tr HL1.out.2.2.1 (grown_below q hbw)
  obtain ⟨b1, o1, k1, b2, o2, k2, p, po, k3, b3, o3, j0, b4, o4, j1, l1, l2, x, y, hO⟩ := out_of (w := World.bare w) (lo := w1.heap.size) (HE.out.1.below hb3).sk hg3 (HE.out.2.1.below HE.out.1.lt hb3) HE.out.2.2.1.size (fun hx => by have := HE.out.1.lt _ hx; omega) HE.out.2.2.2.2.2 (bare_below hG3) (by show 0 + 1 < w1.heap.size; omega) (HE.out.1.below hb3).room
  have HO3 : Hid (Out (World.bare w) w1.heap.size w2.heap.size s.count s.sum s.min s.max b1 o1 k1 b2 o2 k2 p po k3 b3 o3 j0 b4 o4 j1 l1 l2 x y W3) := hO
  have HR3 : Hid (Blk W3 w.heap.size #[.int .i64 0, .int .i64 0, .int .i64 0, .int .i64 0, .slice none 0 0, .slice none 0 0, .slice none 0 0] 31 ∧ Cur W3 q a len cap zs i1 h1 ∧ w.grownBy W3 (some q)) := ⟨HL1.out.1.below hbw, HL1.out.2.1.keep hbw, hG3⟩
  have HL : Hid (q < w.heap.size ∧ w.heap.size < w1.heap.size ∧ ∀ b, (∃ off, a = some ⟨b, off, none⟩ ∧ 0 < len) → b < w.heap.size) := ⟨hqw, hlo, hAw⟩
  clear hg3 hb3 hbw hG3 hO HE HL1
  go_wp2_with fail
  refine (l1Once_any q a len cap zs i1 h1 16 _ HR3.out.2.1 hlen (by omega) (by omega)).mono ?_
  rintro e w4 ⟨b, i4, h4, rfl, C4, g4⟩
  have HOX : Hid (Out (World.bare w) w1.heap.size w2.heap.size s.count s.sum s.min s.max b1 o1 k1 b2 o2 k2 p po k3 b3 o3 j0 b4 o4 j1 l1 l2 x y w4) := HO3.out.grown g4 (by omega) (Nat.zero_le _)
  have HRX : Hid (Blk w4 w.heap.size #[.int .i64 0, .int .i64 0, .int .i64 0, .int .i64 0, .slice none 0 0, .slice none 0 0, .slice none 0 0] 31 ∧ Cur w4 q a len cap zs i4 h4 ∧ w.grownBy w4 (some q)) := ⟨HR3.out.1.grown g4 (by omega), C4, grown_tr HR3.out.2.2 g4⟩
  clear C4 g4 HO3 HR3
  cases b
  · go_wp2_with (first | go_skip | (with_reducible refine stopLoad 31 rfl ?_) | (with_reducible refine stopStore 31 rfl ?_))
    refine load_any 31 w2.heap.size _ 31 _ HOX.out.blk rfl rfl rfl Tryz.underlying31 rfl (by kernel_rfl) ?_
    go_wp2_with (first | go_skip | (with_reducible refine stopLoad 31 rfl ?_) | (with_reducible refine stopStore 31 rfl ?_))
    refine store_known 31 w.heap.size _ _ 31 HRX.out.1 rfl rfl rfl rfl (by kernel_rfl) rfl (by kernel_rfl) ?_
    go_wp2
    refine bodyPost_ret (results_cell_row Tryz.results110 _ _ w.heap.size _ _ _ _ rfl HRX.out.1.setRow Tryz.underlying31 rfl (by kernel_rfl)) rfl ?_
    exact drew_end HOX.out HRX.out.1 HRX.out.2.1 HRX.out.2.2 HL.out.1 HL.out.2.1
  have g0 := HOX.out.blk.cell 0
  simp only [aT, aZ] at g0
  by_cases hc : 0 < s.count
  rotate_left
  · have hcb : decide (0 < s.count) = false := dec_false hc
    clear hc
    go_wp2_with (first | go_skip | (with_reducible refine stopLoad 31 rfl ?_) | (with_reducible refine stopStore 31 rfl ?_))
    refine load_any 31 w2.heap.size _ 31 _ HOX.out.blk rfl rfl rfl Tryz.underlying31 rfl (by kernel_rfl) ?_
    go_wp2_with (first | go_skip | (with_reducible refine stopLoad 31 rfl ?_) | (with_reducible refine stopStore 31 rfl ?_))
    refine store_known 31 w.heap.size _ _ 31 HRX.out.1 rfl rfl rfl rfl (by kernel_rfl) rfl (by kernel_rfl) ?_
    go_wp2
    refine bodyPost_ret (results_cell_row Tryz.results110 _ _ w.heap.size _ _ _ _ rfl HRX.out.1.setRow Tryz.underlying31 rfl (by kernel_rfl)) rfl ?_
    exact drew_end HOX.out HRX.out.1 HRX.out.2.1 HRX.out.2.2 HL.out.1 HL.out.2.1
  have hcb : decide (0 < s.count) = true := dec_true hc
  clear hc
  go_wp2_with fail
  refine (l1Below_any q a len cap zs i4 h4 2 _ HRX.out.2.1 hlen (by omega) (by omega)).mono ?_
  rintro e w5 ⟨z, i5, h5, rfl, z0, z1, C5, g5⟩
  have HO5 : Hid (Out (World.bare w) w1.heap.size w2.heap.size s.count s.sum s.min s.max b1 o1 k1 b2 o2 k2 p po k3 b3 o3 j0 b4 o4 j1 l1 l2 x y w5) := HOX.out.grown g5 (by omega) (Nat.zero_le _)
  have HR5 : Hid (Blk w5 w.heap.size #[.int .i64 0, .int .i64 0, .int .i64 0, .int .i64 0, .slice none 0 0, .slice none 0 0, .slice none 0 0] 31 ∧ Cur w5 q a len cap zs i5 h5 ∧ w.grownBy w5 (some q)) := ⟨HRX.out.1.grown g5 (by omega), C5, grown_tr HRX.out.2.2 g5⟩
  clear C5 g5 HOX HRX g0 hcb
  have g0 := HO5.out.blk.cell 0
  have g1 := HO5.out.blk.cell 1
  have g4 := HO5.out.blk.cell 4
  have f0 := HO5.out.blk.frozen 0
  have f1 := HO5.out.blk.frozen 1
  have cE := HO5.out.hist.at 3 (by omega)
  have fE := HO5.out.own.free b1 (by simp) (o1 + 3)
  simp only [aT, aS, aZ] at g0 g1 g4
  have ne1 : ¬ w2.heap.size = b1 := by have := HO5.out.nd; omega
  have ne2 : ¬ b1 = w2.heap.size := fun e => ne1 e.symm
  go_wp2_with (first | go_skip | (with_reducible refine stopLoad 31 rfl ?_) | (with_reducible refine stopStore 31 rfl ?_))
  have HOX : Hid _ := ((HO5.out.setC (1000000000 - z)).setHist 3 (by omega) 1000000000).setS 999999997
  have HRX : Hid _ := held_set (held_set (held_set HR5.out HL.out.1 HL.out.2.2 w2.heap.size 0 (.int .i64 (1000000000 - z)) (by have := HO5.out.ges; have := HL.out.2.1; omega)) HL.out.1 HL.out.2.2 b1 (o1 + 3) (.int .i64 1000000000) (by have := HO5.out.ges; have := HL.out.2.1; omega)) HL.out.1 HL.out.2.2 w2.heap.size 1 (.int .i64 999999997) (by have := HO5.out.ges; have := HL.out.2.1; omega)
  refine load_any 31 w2.heap.size _ 31 _ HOX.out.blk rfl rfl rfl Tryz.underlying31 rfl (by kernel_rfl) ?_
  go_wp2_with (first | go_skip | (with_reducible refine stopLoad 31 rfl ?_) | (with_reducible refine stopStore 31 rfl ?_))
  refine store_known 31 w.heap.size _ _ 31 HRX.out.1 rfl rfl rfl rfl (by kernel_rfl) rfl (by kernel_rfl) ?_
  go_wp2
  refine bodyPost_ret (results_cell_row Tryz.results110 _ _ w.heap.size _ _ _ _ rfl HRX.out.1.setRow Tryz.underlying31 rfl (by kernel_rfl)) rfl ?_
  exact drew_end HOX.out HRX.out.1 HRX.out.2.1 HRX.out.2.2 HL.out.1 HL.out.2.1
end Go.Proofs.YtgkbhhlkaifnoaaGreatDoor
/- The walk through the model's drawing of a summary. No statement of the seat is proved here. -/
namespace Go.Proofs.YtgkbhhlkaifnoaaGreatDoor
open Go.RowKit
theorem cell_al {W : World} {b i : Nat} {v : Value} (h : W.cell? ⟨b, i, none⟩ = some v) (o : Obj) : (W.alloc o).cell? ⟨b, i, none⟩ = some v :=
  (((Below.refl _ W).alloc (Nat.le_refl _) o).cell (p := ⟨b, i, none⟩) (World.block_lt_of_cell? _ _ h)).trans h
/-- What the drawing of a summary tells: some summary, each of its lists with something in it, in memory of its own; the cursor goes on. -/
def DrewFull (w : World) (q : Nat) (a : Option Addr) (len cap : Nat) (zs : List Int) (e : Ending) (w' : World) : Prop :=
  ∃ v s F i' h', e = .returned v ∧ RdSk w' v s F ∧ s.full ∧ Own w.heap.size w' F ∧ Cur w' q a len cap zs i' h' ∧ w.grownBy w' (some q)
theorem drew_full {w w' : World} {q : Nat} {a : Option Addr} {len cap : Nat} {zs : List Int} {e : Ending} (h : DrewShaped w q a len cap zs e w') : DrewFull w q a len cap zs e w' := by
  obtain ⟨v, s, F, i', h', e1, e2, e3, e4⟩ := h
  exact ⟨v, s, F, i', h', e1, e2.sk, shaped_full e3, e4⟩
/-- The result's place is written last. -/
theorem drew_put {w W : World} {q : Nat} {a : Option Addr} {len cap : Nat} {zs : List Int} {i h : Int} {cs : Array Value} {s : Sk} {F : List Nat} (hr : Blk W w.heap.size #[.int .i64 0, .int .i64 0, .int .i64 0, .int .i64 0, .slice none 0 0, .slice none 0 0, .slice none 0 0] 31) (hC : Cur W q a len cap zs i h) (hG : w.grownBy W (some q)) (hq : q < w.heap.size) (r : RdSk W (.agg cs) s F) (hs : s.full) (o : Own (w.heap.size + 1) W F) : DrewFull w q a len cap zs (.returned (.agg cs)) (W.setRow w.heap.size cs) := by
  have ag : Agree W (W.setRow w.heap.size cs) F := fun b hb => setRow_other W _ b _ (fun e => by have := o.ge b hb; omega)
  have hgr : w.grownBy (W.setRow w.heap.size cs) (some q) := ⟨hG.os, hG.tape, hG.output, by simp; exact hG.size, fun b hb hn => (setRow_other W _ b _ (by omega)).trans (hG.block b hb hn)⟩
  refine ⟨_, s, F, i, h, rfl, r.agree ag, hs, (o.agree ag).mono (by omega), ?_, hgr⟩
  refine cur_agree hC (World.block_lt_of_cell? _ _ hC.c0) (setRow_other W _ q _ (by omega)) (fun b hb ⟨off, ha, hp⟩ => setRow_other W _ b _ (fun e => ?_))
  subst e
  rcases hC.rd.cells with h0 | ⟨b', off', ha', hc⟩
  · omega
  · rw [ha] at ha'
    cases ha'
    have e0 := hc 0 hp
    rw [hr.cell] at e0
    match off, e0 with
    | 0, e0 => simp at e0
    | 1, e0 => simp at e0
    | 2, e0 => simp at e0
    | 3, e0 => simp at e0
    | 4, e0 => simp at e0
    | 5, e0 => simp at e0
    | 6, e0 => simp at e0
    | n + 7, e0 => simp at e0
theorem drew_row {w W ww : World} {q lo g : Nat} {c sm mn mx : Int} {b1 o1 k1 b2 o2 k2 p po k3 b3 o3 j0 b4 o4 j1 : Nat} {l1 l2 x y : List Int} {a : Option Addr} {len cap : Nat} {zs : List Int} {i h : Int} {v6 : Value} (hO : Out ww lo g c sm mn mx b1 o1 k1 b2 o2 k2 p po k3 b3 o3 j0 b4 o4 j1 l1 l2 x y W) (hr : Blk (W.setCell ⟨g, 6, none⟩ v6) w.heap.size #[.int .i64 0, .int .i64 0, .int .i64 0, .int .i64 0, .slice none 0 0, .slice none 0 0, .slice none 0 0] 31) (hC : Cur (W.setCell ⟨g, 6, none⟩ v6) q a len cap zs i h) (hG : w.grownBy (W.setCell ⟨g, 6, none⟩ v6) (some q)) (hq : q < w.heap.size) (hlo : w.heap.size + 1 ≤ lo) :
    DrewFull w q a len cap zs (.returned (.agg #[.int .i64 c, .int .i64 sm, .int .i64 mn, .int .i64 mx, .slice (some ⟨b1, o1, none⟩) 8 k1, .slice (some ⟨b2, o2, none⟩) 8 k2, .slice (some ⟨p, po, none⟩) 1 k3])) ((W.setCell ⟨g, 6, none⟩ v6).setRow w.heap.size #[.int .i64 c, .int .i64 sm, .int .i64 mn, .int .i64 mx, .slice (some ⟨b1, o1, none⟩) 8 k1, .slice (some ⟨b2, o2, none⟩) 8 k2, .slice (some ⟨p, po, none⟩) 1 k3]) := by
  have nd := hO.nd
  refine drew_put hr hC hG hq (s := ⟨c, sm, mn, mx, l1, l2, [x]⟩) (F := [b1, b2, p, b3]) ⟨_, 8, k1, _, 8, k2, _, 1, k3, [b1], [b2], [p, b3], rfl, hO.hist.agree (.set (by simp; omega) _ _), hO.regs.agree (.set (by simp; omega) _ _), ⟨rfl, .inr ⟨p, po, [b3], by omega, rfl, rfl, ?_⟩⟩, rfl⟩ ⟨?_, ?_, ?_, ?_⟩ ?_
  · show RdM _ [ints x] p po [b3]
    rw [RdM]
    exact ⟨_, [b3], [], cell_keep hO.c0 (by omega), rd_ints.2 ⟨_, _, _, rfl, hO.row0.agree (.set (by simp; omega) _ _)⟩, by simp [RdM], rfl⟩
  · have := hO.hist.length; simp; omega
  · have := hO.regs.length; simp; omega
  · simp
  · intro z hz
    have := hO.row0.length
    simp at hz
    subst hz
    omega
  · have o := (hO.own.set g 6 v6).mono hlo
    exact ⟨by have := o.nodup; simp at this ⊢; omega, fun b hb => o.free b (by simp at hb ⊢; omega), fun b hb => o.ge b (by simp at hb ⊢; omega)⟩
/-- What an append of one number onto the first list leaves. -/
structure HistX (w W W6 : World) (b1 : Nat) (l1 : List Int) (gB cp : Nat) : Prop where
  own : W6.ownsRow (w.heap.size + 1) 3 1 (.slice (some ⟨gB, 0, none⟩) (8 + 1) cp) (8 + 1) (l1.map (Value.int .i64) ++ [.int .i64 0])
  grow : (W.alloc (.cells #[.int .i64 0] 3)).grownBy W6 (Value.slice (some ⟨b1, 0, none⟩) 8 0).ownBlock
  at_ : (Value.slice (some ⟨b1, 0, none⟩) 8 0).ownBlock = some gB ∨ gB = W.heap.size + 1
theorem HistX.keep {w W W6 : World} {b1 : Nat} {l1 : List Int} {gB cp : Nat} (h : HistX w W W6 b1 l1 gB cp) : ∀ b, b < W.heap.size → b ≠ b1 → W6.heap[b]? = W.heap[b]? := fun b hb hn =>
  (h.grow.block b (by simp; omega) (fun e => hn (by simp [Value.ownBlock] at e; exact e))).trans (Below.heap_alloc W _ b hb)
theorem HistX.which {w W W6 : World} {b1 : Nat} {l1 : List Int} {gB cp : Nat} (h : HistX w W W6 b1 l1 gB cp) : gB = b1 ∨ W.heap.size < gB := by
  rcases h.at_ with e | e
  · left; simp [Value.ownBlock] at e; exact e.symm
  · right; omega
section
variable {w W W6 ww : World} {q g : Nat} {c sm mn mx : Int} {b1 o1 k1 b2 o2 k2 p po k3 b3 o3 j0 b4 o4 j1 : Nat} {l1 l2 x y : List Int} {a : Option Addr} {len cap : Nat} {zs : List Int} {i h : Int} {gB cp : Nat}
theorem HistX.held (hX : HistX w W W6 b1 l1 gB cp) (hO : Out ww (w.heap.size + 1) g c sm mn mx b1 o1 k1 b2 o2 k2 p po k3 b3 o3 j0 b4 o4 j1 l1 l2 x y W) (H : Blk W w.heap.size #[.int .i64 0, .int .i64 0, .int .i64 0, .int .i64 0, .slice none 0 0, .slice none 0 0, .slice none 0 0] 31 ∧ Cur W q a len cap zs i h ∧ w.grownBy W (some q)) (hq : q < w.heap.size) (ha : ∀ b, (∃ off, a = some ⟨b, off, none⟩ ∧ 0 < len) → b < w.heap.size) : Blk W6 w.heap.size #[.int .i64 0, .int .i64 0, .int .i64 0, .int .i64 0, .slice none 0 0, .slice none 0 0, .slice none 0 0] 31 ∧ Cur W6 q a len cap zs i h ∧ w.grownBy W6 (some q) := by
  have ge := hO.ges
  have hs := H.2.2.size
  have hsz : W.heap.size ≤ W6.heap.size := by have := hX.grow.size; simp at this; omega
  refine ⟨H.1.agree (hX.keep _ H.1.lt (by omega)), cur_agree H.2.1 (World.block_lt_of_cell? _ _ H.2.1.c0) (hX.keep q (by omega) (by omega)) (fun b hb hx => hX.keep b hb (by have := ha b hx; omega)), ?_⟩
  exact ⟨hX.grow.os.trans H.2.2.os, hX.grow.tape.trans H.2.2.tape, hX.grow.output.trans H.2.2.output, by omega, fun b hb hn => (hX.keep b (by omega) (by omega)).trans (H.2.2.block b hb hn)⟩
theorem HistX.blk (hX : HistX w W W6 b1 l1 gB cp) (hO : Out ww (w.heap.size + 1) g c sm mn mx b1 o1 k1 b2 o2 k2 p po k3 b3 o3 j0 b4 o4 j1 l1 l2 x y W) : Blk W6 g #[.int .i64 c, .int .i64 sm, .int .i64 mn, .int .i64 mx, .slice (some ⟨b1, o1, none⟩) 8 k1, .slice (some ⟨b2, o2, none⟩) 8 k2, .slice (some ⟨p, po, none⟩) 2 k3] 31 :=
  hO.blk.agree (hX.keep g hO.blk.lt (by have := hO.nd; omega))
theorem drew_hist (hO : Out ww (w.heap.size + 1) g c sm mn mx b1 o1 k1 b2 o2 k2 p po k3 b3 o3 j0 b4 o4 j1 l1 l2 x y W) (hX : HistX w W W6 b1 l1 gB cp) {v6 : Value} (hr : Blk (W6.setCell ⟨g, 4, none⟩ v6) w.heap.size #[.int .i64 0, .int .i64 0, .int .i64 0, .int .i64 0, .slice none 0 0, .slice none 0 0, .slice none 0 0] 31) (hC : Cur (W6.setCell ⟨g, 4, none⟩ v6) q a len cap zs i h) (hG : w.grownBy (W6.setCell ⟨g, 4, none⟩ v6) (some q)) (hq : q < w.heap.size) :
    DrewFull w q a len cap zs (.returned (.agg #[.int .i64 c, .int .i64 sm, .int .i64 mn, .int .i64 mx, .slice (some ⟨gB, 0, none⟩) 9 cp, .slice (some ⟨b2, o2, none⟩) 8 k2, .slice (some ⟨p, po, none⟩) 2 k3])) ((W6.setCell ⟨g, 4, none⟩ v6).setRow w.heap.size #[.int .i64 c, .int .i64 sm, .int .i64 mn, .int .i64 mx, .slice (some ⟨gB, 0, none⟩) 9 cp, .slice (some ⟨b2, o2, none⟩) 8 k2, .slice (some ⟨p, po, none⟩) 2 k3]) := by
  have nd := hO.nd
  have e1 := hO.hist.lt b1 (by simp)
  have e2 := hO.regs.lt b2 (by simp)
  have e3 := hO.row0.lt b3 (by simp)
  have e4 := hO.row1.lt b4 (by simp)
  have e5 : p < W.heap.size := World.block_lt_of_cell? _ _ hO.c0
  have e6 := hO.blk.lt
  have wh := hX.which
  have ag : Agree W W6 [b2, p, b3, b4] := fun b hb => hX.keep b (by simp at hb; omega) (by simp at hb; omega)
  have hown : W6.ownsRow (w.heap.size + 1) 3 1 (.slice (some ⟨gB, 0, none⟩) 9 cp) 9 ((l1 ++ [0]).map (Value.int .i64)) := by rw [List.map_append]; exact hX.own
  obtain ⟨F, hR, hF, hFg⟩ := RdI.of_own hown
  obtain ⟨b', o', hb', rfl⟩ := hR.single (by omega)
  cases hb'
  have hgd : g ≠ gB := by omega
  refine drew_put hr hC hG hq (s := ⟨c, sm, mn, mx, l1 ++ [0], l2, [x, y]⟩) (F := [gB, b2, p, b3, b4]) ⟨_, 9, cp, _, 8, k2, _, 2, k3, [gB], [b2], [p, b3, b4], rfl, hR.agree (.set (by simp; omega) _ _), (hO.regs.agree (ag.mono (by simp))).agree (.set (by simp; omega) _ _), ⟨rfl, .inr ⟨p, po, [b3, b4], by omega, rfl, rfl, ?_⟩⟩, rfl⟩ ⟨?_, ?_, ?_, ?_⟩ ?_
  · have bp := ag p (by simp)
    show RdM _ [ints x, ints y] p po [b3, b4]
    rw [RdM]
    refine ⟨_, [b3], [b4], cell_keep ((World.cell?_of_block (w := W) (a := ⟨p, po, none⟩) bp).trans hO.c0) (by omega), rd_ints.2 ⟨_, _, _, rfl, (hO.row0.agree (ag.mono (by simp))).agree (.set (by simp; omega) _ _)⟩, ?_, rfl⟩
    rw [RdM]
    exact ⟨_, [b4], [], cell_keep ((World.cell?_of_block (w := W) (a := ⟨p, po + 1, none⟩) bp).trans hO.c1) (by omega), rd_ints.2 ⟨_, _, _, rfl, (hO.row1.agree (ag.mono (by simp))).agree (.set (by simp; omega) _ _)⟩, by simp [RdM], rfl⟩
  · have := hO.hist.length; simp; omega
  · have := hO.regs.length; simp; omega
  · simp
  · intro z hz
    have := hO.row0.length
    have := hO.row1.length
    simp at hz
    rcases hz with rfl | rfl <;> omega
  · have oG := hF.set g 4 v6
    have oR : Own (w.heap.size + 1) W6 [b2, p, b3, b4] := (⟨by have := hO.own.nodup; simp at this ⊢; omega, fun b hb => hO.own.free b (by simp at hb ⊢; omega), fun b hb => hO.own.ge b (by simp at hb ⊢; omega)⟩ : Own (w.heap.size + 1) W [b2, p, b3, b4]).agree ag
    exact oG.app (oR.set g 4 v6) (fun b hb => by simp at hb ⊢; omega)
end
set_option maxRecDepth 200000 in
set_option maxHeartbeats 8000000 in
theorem l3Draw_any (q : Nat) (a : Option Addr) (len cap : Nat) (zs : List Int) (i h : Int) (w : World) (C : Cur w q a len cap zs i h) (hlen : len ≤ 1048576) :
    Calls Tryz.prog 92 #[.pointer (some ⟨q, 0, none⟩)] w fun e w' => DrewFull w q a len cap zs e w' := by
  have HL : Hid (q < w.heap.size ∧ ∀ b, (∃ off, a = some ⟨b, off, none⟩ ∧ 0 < len) → b < w.heap.size) := ⟨World.block_lt_of_cell? _ _ C.c0, cur_lt C⟩
  have HT : Hid (Blk (w.alloc (.cells #[.int .i64 0, .int .i64 0, .int .i64 0, .int .i64 0, .slice none 0 0, .slice none 0 0, .slice none 0 0] 31)) w.heap.size #[.int .i64 0, .int .i64 0, .int .i64 0, .int .i64 0, .slice none 0 0, .slice none 0 0, .slice none 0 0] 31 ∧ Below w.heap.size w (w.alloc (.cells #[.int .i64 0, .int .i64 0, .int .i64 0, .int .i64 0, .slice none 0 0, .slice none 0 0, .slice none 0 0] 31))) := ⟨Blk.made _ _ _, (Below.refl _ _).alloc (Nat.le_refl _) _⟩
  have HC : Hid (Cur (w.alloc (.cells #[.int .i64 0, .int .i64 0, .int .i64 0, .int .i64 0, .slice none 0 0, .slice none 0 0, .slice none 0 0] 31)) q a len cap zs i h) := C.keep HT.out.2
  clear C
  go_enter Tryz.func92, Tryz.ntmps92
  go_wp2_with fail
  refine (l3Right_any q a len cap zs i h _ HC.out hlen).mono ?_
  rintro e w1 ⟨vv, s, X, i1, h1, rfl, rr, hs, oo, C1, g1⟩
  have hlo : w.heap.size + 1 ≤ w1.heap.size := by have := g1.size; simpa using this
  obtain ⟨es, rfl, e7, e1⟩ := rr.cells
  have HE : Hid (RdR w1 (.agg es) s X ∧ Own (w.heap.size + 1) w1 X ∧ es.size = 7 ∧ es.all (·.oneCell') = true ∧ s.shaped = true) := ⟨rr, by simpa using oo, e7, e1, hs⟩
  have HL1 : Hid (Blk w1 w.heap.size #[.int .i64 0, .int .i64 0, .int .i64 0, .int .i64 0, .slice none 0 0, .slice none 0 0, .slice none 0 0] 31 ∧ Cur w1 q a len cap zs i1 h1 ∧ w.grownBy w1 (some q)) := ⟨HT.out.1.grown g1 (by have := HL.out.1; omega), C1, grown_tr (grown_below q HT.out.2) g1⟩
  clear rr oo e7 e1 hs C1 g1 HT HC
  go_wp2_with (first | go_skip | (with_reducible refine stopLoad 31 rfl ?_) | (with_reducible refine stopStore 31 rfl ?_))
  refine store_fresh 31 w1.heap.size rfl #[.int .i64 0, .int .i64 0, .int .i64 0, .int .i64 0, .slice none 0 0, .slice none 0 0, .slice none 0 0] es 31 rfl rfl rfl rfl (skSize HE.out.2.2.1) HE.out.2.2.1.symm HE.out.2.2.2.1 ?_
  intro W3 hg3 hb3
  have hG3 := grown_tr HL1.out.2.2 (grown_below q hb3)
  obtain ⟨b1, o1, k1, b2, o2, k2, p, po, k3, b3, o3, j0, b4, o4, j1, l1, l2, x, y, hO⟩ := out_of (w := World.bare w) (lo := w.heap.size + 1) (HE.out.1.below hb3).sk hg3 (HE.out.2.1.below HE.out.1.lt hb3) hlo (fun hx => by have := HE.out.1.lt _ hx; omega) HE.out.2.2.2.2 (bare_below hG3) (by show 0 + 1 < w.heap.size + 1; have := HL.out.1; omega) (HE.out.1.below hb3).room
  have HO3 : Hid (Out (World.bare w) (w.heap.size + 1) w1.heap.size s.count s.sum s.min s.max b1 o1 k1 b2 o2 k2 p po k3 b3 o3 j0 b4 o4 j1 l1 l2 x y W3) := hO
  have HR3 : Hid (Blk W3 w.heap.size #[.int .i64 0, .int .i64 0, .int .i64 0, .int .i64 0, .slice none 0 0, .slice none 0 0, .slice none 0 0] 31 ∧ Cur W3 q a len cap zs i1 h1 ∧ w.grownBy W3 (some q)) := ⟨HL1.out.1.below hb3, HL1.out.2.1.keep hb3, hG3⟩
  clear hg3 hb3 hG3 hO HE HL1
  go_wp2_with fail
  refine (l1Below_any q a len cap zs i1 h1 16 _ HR3.out.2.1 hlen (by omega) (by omega)).mono ?_
  rintro e w4 ⟨d, i4, h4, rfl, d0, d1, C4, g4⟩
  have HO4 : Hid (Out (World.bare w) (w.heap.size + 1) w1.heap.size s.count s.sum s.min s.max b1 o1 k1 b2 o2 k2 p po k3 b3 o3 j0 b4 o4 j1 l1 l2 x y w4) := HO3.out.grown g4 (by have := HL.out.1; omega) (Nat.zero_le _)
  have HR4 : Hid (Blk w4 w.heap.size #[.int .i64 0, .int .i64 0, .int .i64 0, .int .i64 0, .slice none 0 0, .slice none 0 0, .slice none 0 0] 31 ∧ Cur w4 q a len cap zs i4 h4 ∧ w.grownBy w4 (some q)) := ⟨HR3.out.1.grown g4 (by have := HL.out.1; omega), C4, grown_tr HR3.out.2.2 g4⟩
  clear C4 g4 HO3 HR3
  by_cases q0 : d = 0
  · subst q0
    go_wp2_with fail
    refine (pickInt_cur q w4.heap.size _ a len cap zs i4 h4 [-1, 1000001, 500] _ (HR4.out.2.1.keep ((Below.refl _ _).alloc (Nat.le_refl _) _)) hlen (fun j hj => lit_ints w4 [-1, 1000001, 500] 3 j hj) (by have := HR4.out.2.2.size; have := HL.out.1; omega) _ rfl (by simp) (by simp)).mono ?_
    rintro e w5 ⟨z, i5, h5, _, rfl, C5, g5⟩
    have gg := grown_tr (World.grownBy_alloc w4 _ (some q)) g5
    have HO5 : Hid (Out (World.bare w) (w.heap.size + 1) w1.heap.size s.count s.sum s.min s.max b1 o1 k1 b2 o2 k2 p po k3 b3 o3 j0 b4 o4 j1 l1 l2 x y w5) := HO4.out.grown gg (by have := HL.out.1; omega) (Nat.zero_le _)
    have HR5 : Hid (Blk w5 w.heap.size #[.int .i64 0, .int .i64 0, .int .i64 0, .int .i64 0, .slice none 0 0, .slice none 0 0, .slice none 0 0] 31 ∧ Cur w5 q a len cap zs i5 h5 ∧ w.grownBy w5 (some q)) := ⟨HR4.out.1.grown gg (by have := HL.out.1; omega), C5, grown_tr HR4.out.2.2 gg⟩
    have HOX : Hid _ := HO5.out.setMn z
    have HRX : Hid _ := held_set HR5.out HL.out.1 HL.out.2 w1.heap.size 2 (.int .i64 z) (by have := HO5.out.ges; omega)
    have f2 := HO5.out.blk.frozen 2
    have c2 := HO5.out.blk.cell 2
    simp only [aT, aS, aZ] at c2
    clear C5 g5 gg
    go_wp2_with (first | go_skip | (with_reducible refine stopLoad 31 rfl ?_) | (with_reducible refine stopStore 31 rfl ?_))
    refine load_any 31 w1.heap.size _ 31 _ HOX.out.blk rfl rfl rfl Tryz.underlying31 rfl (by kernel_rfl) ?_
    go_wp2_with (first | go_skip | (with_reducible refine stopLoad 31 rfl ?_) | (with_reducible refine stopStore 31 rfl ?_))
    refine store_known 31 w.heap.size _ _ 31 HRX.out.1 rfl rfl rfl rfl (by kernel_rfl) rfl (by kernel_rfl) ?_
    go_wp2
    refine bodyPost_ret (results_cell_row Tryz.results92 _ _ w.heap.size _ _ _ _ rfl HRX.out.1.setRow Tryz.underlying31 rfl (by kernel_rfl)) rfl ?_
    exact drew_full (drew_end HOX.out HRX.out.1 HRX.out.2.1 HRX.out.2.2 HL.out.1 (by omega))
  by_cases q1 : d = 1
  · subst q1
    have HS4 : Hid (w4.drew.cell? ⟨w1.heap.size, 5, none⟩ = some (.slice (some ⟨b2, o2, none⟩) 8 k2)) := HO4.out.drew.blk.cell 5
    have HO4d : Hid (Out (World.bare w) (w.heap.size + 1) w1.heap.size s.count s.sum s.min s.max b1 o1 k1 b2 o2 k2 p po k3 b3 o3 j0 b4 o4 j1 l1 l2 x y w4.drew) := HO4.out.drew
    have HR4d : Hid (Blk w4.drew w.heap.size #[.int .i64 0, .int .i64 0, .int .i64 0, .int .i64 0, .slice none 0 0, .slice none 0 0, .slice none 0 0] 31 ∧ Cur w4.drew q a len cap zs i4 h4 ∧ w.grownBy w4.drew (some q)) := ⟨HR4.out.1.drew, HR4.out.2.1.keep (Below.refl _ _).drew, grown_tr HR4.out.2.2 (grown_below q (Below.refl _ _).drew)⟩
    go_wp2
    refine wp_region_held (S := (fun W => W.cell? ⟨w1.heap.size, 5, none⟩ = some (.slice (some ⟨b2, o2, none⟩) 8 k2))) (by kernel_rfl) ?_
    change wpAnyH _ _ _ _ _ _ _ _ (World.drew _)
    refine takeH (o := ?o1) 0 (.pointer (some ⟨w1.heap.size, 5, none⟩)) ?h1 ?r1
    case h1 => simp only [aT, aZ]; rfl
    refine ⟨_, by simp [Act.put]; rfl, by kernel_rfl, by kernel_rfl, by kernel_rfl, fun _ _ _ h => h, (.inl ⟨rfl, fun W _ => by go_simp⟩), HS4.out, ?_⟩
    refine takeH (o := ?o2) 1 (.slice (some ⟨b2, o2, none⟩) 8 k2) ?h2 ?r2
    case h2 => simp only [aT, aS, aZ]; rfl
    refine ⟨_, by simp [Act.put]; rfl, by kernel_rfl, by kernel_rfl, by kernel_rfl, fun _ _ _ h => h, (.inl ⟨rfl, fun W hW => by have c := hW; go_simp⟩), HS4.out, ?_⟩
    refine takeH (o := ?o3) 2 (.pointer (some ⟨q, 0, none⟩)) ?h3 ?r3
    case h3 => simp only [aT, aS, aZ]; rfl
    refine ⟨_, by simp [Act.put]; rfl, by kernel_rfl, by kernel_rfl, by kernel_rfl, fun _ _ _ h => h, (.inl ⟨rfl, fun W _ => by go_simp⟩), HS4.out, ?_⟩
    refine takeH (o := ?o4) 4 (.pointer (some ⟨q, 0, none⟩)) ?h4 ?r4
    case h4 => simp only [aT, aS, aZ]; rfl
    refine ⟨_, by simp [Act.put]; rfl, by kernel_rfl, by kernel_rfl, by kernel_rfl, fun _ _ _ h => h, (.inl ⟨rfl, fun W _ => by go_simp⟩), HS4.out, ?_⟩
    refine twoH (o := ?o5) (o' := ?p5) 3 5 (by kernel_rfl) ?h5 ?g5 ?r5 ?s5
    case h5 => simp only [aT, aS, aZ]; rfl
    case g5 => simp only [aT, aS, aZ]; rfl
    case r5 =>
      intro K hK
      refine op_call2' 28 _ _ _ Tryz.f28 (fun v w' => ∃ j i' h', v = .int .i64 j ∧ 0 ≤ j ∧ j < 8 ∧ Cur w' q a len cap zs i' h' ∧ w4.drew.grownBy w' (some q)) rfl rfl Tryz.func28 (by kernel_rfl) (by kernel_rfl) ((l1Below_any q a len cap zs i4 h4 8 w4.drew HR4d.out.2.1 hlen (by omega) (by omega)).mono (by rintro e w' ⟨z, i', h', rfl, z0, z1, C, g⟩; exact ⟨_, rfl, z, i', h', rfl, z0, z1, C, g⟩)) ?_
      rintro _ w5 ⟨z, i5, h5, rfl, z0, z1, C5, g5⟩
      obtain ⟨j, rfl⟩ := Int.eq_ofNat_of_zero_le z0
      have hj : j < 8 := by omega
      have HO5 : Hid (Out (World.bare w) (w.heap.size + 1) w1.heap.size s.count s.sum s.min s.max b1 o1 k1 b2 o2 k2 p po k3 b3 o3 j0 b4 o4 j1 l1 l2 x y w5) := HO4d.out.grown g5 (by have := HL.out.1; omega) (Nat.zero_le _)
      have HR5 : Hid (Blk w5 w.heap.size #[.int .i64 0, .int .i64 0, .int .i64 0, .int .i64 0, .slice none 0 0, .slice none 0 0, .slice none 0 0] 31 ∧ Cur w5 q a len cap zs i5 h5 ∧ w.grownBy w5 (some q)) := ⟨HR4d.out.1.grown g5 (by have := HL.out.1; omega), C5, grown_tr HR4d.out.2.2 g5⟩
      have HS5 : Hid (w5.cell? ⟨w1.heap.size, 5, none⟩ = some (.slice (some ⟨b2, o2, none⟩) 8 k2)) := HO5.out.blk.cell 5
      refine ⟨_, by simp [Act.put]; rfl, hK _ _ ⟨HS5.out, ?_⟩⟩
      clear hK C5 g5 z0 z1 HS4 HO4d HR4d
      refine onlyH (o := ?o6) 5 (by kernel_rfl) ?h6 ?r6
      case h6 => simp only [aT, aS, aZ]; rfl
      intro K hK
      refine op_turn (.slice (some ⟨w5.heap.size, 0, none⟩) 3 3) (w5.alloc (.cells ([-1, 17, 18].map (Value.int .i64)).toArray 3)) rfl (by go_simp) ⟨_, by simp [Act.put]; rfl, hK _ _ ⟨(HO5.out.blk.alloc _).cell 5, ?_⟩⟩
      obtain ⟨w6, hW⟩ : ∃ W, W = (w5.alloc (.cells ([-1, 17, 18].map (Value.int .i64)).toArray 3)) := ⟨_, rfl⟩
      rw [← hW]
      have hbw : Below w5.heap.size w5 w6 := by rw [hW]; exact (Below.refl _ _).alloc (Nat.le_refl _) _
      have HLIT : Hid (∀ j, j < ([-1, 17, 18] : List Int).length → w6.cell? ⟨w5.heap.size, j, none⟩ = some (.int .i64 (([-1, 17, 18] : List Int).getD j 0))) := fun j hj => by rw [hW]; exact lit_ints w5 [-1, 17, 18] 3 j hj
      have HO6 : Hid (Out (World.bare w) (w.heap.size + 1) w1.heap.size s.count s.sum s.min s.max b1 o1 k1 b2 o2 k2 p po k3 b3 o3 j0 b4 o4 j1 l1 l2 x y w6) := HO5.out.below hbw
      have HR6 : Hid (Blk w6 w.heap.size #[.int .i64 0, .int .i64 0, .int .i64 0, .int .i64 0, .slice none 0 0, .slice none 0 0, .slice none 0 0] 31 ∧ Cur w6 q a len cap zs i5 h5 ∧ w.grownBy w6 (some q)) := ⟨HR5.out.1.below hbw, HR5.out.2.1.keep hbw, grown_tr HR5.out.2.2 (grown_below q hbw)⟩
      have HS6 : Hid (w6.cell? ⟨w1.heap.size, 5, none⟩ = some (.slice (some ⟨b2, o2, none⟩) 8 k2)) := HO6.out.blk.cell 5
      clear hK hW hbw
      refine onlyH (o := ?o7) 6 (by kernel_rfl) ?h7 ?r7
      case h7 => simp only [aT, aS, aZ]; rfl
      intro K hK
      have hs5 := HR5.out.2.2.size
      refine op_call2' 47 _ _ _ Tryz.f47 (fun v w' => ∃ y i' h', v = .int .i64 y ∧ Cur w' q a len cap zs i' h' ∧ w6.grownBy w' (some q)) rfl rfl Tryz.func47 (by kernel_rfl) (by kernel_rfl) ((pickInt_cur q w5.heap.size _ a len cap zs i5 h5 [-1, 17, 18] w6 HR6.out.2.1 hlen HLIT.out (by have := HL.out.1; have := HR4.out.2.2.size; have := hs5; omega) _ rfl (by simp) (by simp)).mono (by rintro e w' ⟨y, i', h', _, rfl, C, g⟩; exact ⟨_, rfl, y, i', h', rfl, C, g⟩)) ?_
      rintro _ w7 ⟨vy, i7, h7, rfl, C7, g7⟩
      have HO7 : Hid (Out (World.bare w) (w.heap.size + 1) w1.heap.size s.count s.sum s.min s.max b1 o1 k1 b2 o2 k2 p po k3 b3 o3 j0 b4 o4 j1 l1 l2 x y w7) := HO6.out.grown g7 (by have := HL.out.1; omega) (Nat.zero_le _)
      have HR7 : Hid (Blk w7 w.heap.size #[.int .i64 0, .int .i64 0, .int .i64 0, .int .i64 0, .slice none 0 0, .slice none 0 0, .slice none 0 0] 31 ∧ Cur w7 q a len cap zs i7 h7 ∧ w.grownBy w7 (some q)) := ⟨HR6.out.1.grown g7 (by have := HL.out.1; omega), C7, grown_tr HR6.out.2.2 g7⟩
      have HS7 : Hid (w7.cell? ⟨w1.heap.size, 5, none⟩ = some (.slice (some ⟨b2, o2, none⟩) 8 k2)) := HO7.out.blk.cell 5
      refine ⟨_, by simp [Act.put]; rfl, hK _ _ ⟨HS7.out, ?_⟩⟩
      clear hK C7 g7 HS6 HO6 HR6 HS5 HO5 HR5 HLIT HO4 HR4
      refine takeH (o := ?o8) 7 (.pointer (some ⟨b2, o2 + j, none⟩)) ?h8 ?r8
      case h8 => simp only [aT, aS, aZ]; rfl
      refine ⟨_, by simp [Act.put]; rfl, by kernel_rfl, by kernel_rfl, by kernel_rfl, fun _ _ _ h => h, (.inl ⟨rfl, fun W _ => by go_simp; intro h; omega⟩), HS7.out, ?_⟩
      refine onlyH (o := ?o9) 8 (by kernel_rfl) ?h9 ?r9
      case h9 => simp only [aT, aS, aZ]; rfl
      intro K hK
      have fE := HO7.out.own.free b2 (by simp) (o2 + j)
      have cE := HO7.out.regs.at j hj
      have HOX : Hid _ := HO7.out.setRegs j hj vy
      have HRX : Hid _ := held_set HR7.out HL.out.1 HL.out.2 b2 (o2 + j) (.int .i64 vy) (by have := HO7.out.ges; omega)
      refine op_skip (w7.setCell ⟨b2, o2 + j, none⟩ (.int .i64 vy)) rfl (by go_simp) ⟨_, by simp [Act.put]; rfl, hK _ _ ⟨HOX.out.blk.cell 5, ?_⟩⟩
      clear hK
      refine wpAnyH_done (by kernel_rfl) ?_ _
      clear HO7 HR7 HS7
      go_wp2_with (first | go_skip | (with_reducible refine stopLoad 31 rfl ?_) | (with_reducible refine stopStore 31 rfl ?_))
      refine load_any 31 w1.heap.size _ 31 _ HOX.out.blk rfl rfl rfl Tryz.underlying31 rfl (by kernel_rfl) ?_
      go_wp2_with (first | go_skip | (with_reducible refine stopLoad 31 rfl ?_) | (with_reducible refine stopStore 31 rfl ?_))
      refine store_known 31 w.heap.size _ _ 31 HRX.out.1 rfl rfl rfl rfl (by kernel_rfl) rfl (by kernel_rfl) ?_
      go_wp2
      refine bodyPost_ret (results_cell_row Tryz.results92 _ _ w.heap.size _ _ _ _ rfl HRX.out.1.setRow Tryz.underlying31 rfl (by kernel_rfl)) rfl ?_
      exact drew_full (drew_end HOX.out HRX.out.1 HRX.out.2.1 HRX.out.2.2 HL.out.1 (by omega))
    case s5 =>
      intro K hK
      refine op_turn (.slice (some ⟨w4.drew.heap.size, 0, none⟩) 3 3) (w4.drew.alloc (.cells ([-1, 17, 18].map (Value.int .i64)).toArray 3)) rfl (by go_simp) ⟨_, by simp [Act.put]; rfl, hK _ _ ⟨(HO4d.out.blk.alloc _).cell 5, ?_⟩⟩
      obtain ⟨w6, hW⟩ : ∃ W, W = (w4.drew.alloc (.cells ([-1, 17, 18].map (Value.int .i64)).toArray 3)) := ⟨_, rfl⟩
      rw [← hW]
      have hbw : Below w4.drew.heap.size w4.drew w6 := by rw [hW]; exact (Below.refl _ _).alloc (Nat.le_refl _) _
      have HLIT : Hid (∀ j, j < ([-1, 17, 18] : List Int).length → w6.cell? ⟨w4.drew.heap.size, j, none⟩ = some (.int .i64 (([-1, 17, 18] : List Int).getD j 0))) := fun j hj => by rw [hW]; exact lit_ints w4.drew [-1, 17, 18] 3 j hj
      have HO6 : Hid (Out (World.bare w) (w.heap.size + 1) w1.heap.size s.count s.sum s.min s.max b1 o1 k1 b2 o2 k2 p po k3 b3 o3 j0 b4 o4 j1 l1 l2 x y w6) := HO4d.out.below hbw
      have HR6 : Hid (Blk w6 w.heap.size #[.int .i64 0, .int .i64 0, .int .i64 0, .int .i64 0, .slice none 0 0, .slice none 0 0, .slice none 0 0] 31 ∧ Cur w6 q a len cap zs i4 h4 ∧ w.grownBy w6 (some q)) := ⟨HR4d.out.1.below hbw, HR4d.out.2.1.keep hbw, grown_tr HR4d.out.2.2 (grown_below q hbw)⟩
      have HS6 : Hid (w6.cell? ⟨w1.heap.size, 5, none⟩ = some (.slice (some ⟨b2, o2, none⟩) 8 k2)) := HO6.out.blk.cell 5
      have hd : w4.drew.heap.size = w4.heap.size := rfl
      clear hK hW HS4 HO4d HR4d
      refine onlyH (o := ?o10) 3 (by kernel_rfl) ?h10 ?r10
      case h10 => simp only [aT, aS, aZ]; rfl
      intro K hK
      refine op_call2' 28 _ _ _ Tryz.f28 (fun v w' => ∃ j i' h', v = .int .i64 j ∧ 0 ≤ j ∧ j < 8 ∧ Cur w' q a len cap zs i' h' ∧ w6.grownBy w' (some q)) rfl rfl Tryz.func28 (by kernel_rfl) (by kernel_rfl) ((l1Below_any q a len cap zs i4 h4 8 w6 HR6.out.2.1 hlen (by omega) (by omega)).mono (by rintro e w' ⟨z, i', h', rfl, z0, z1, C, g⟩; exact ⟨_, rfl, z, i', h', rfl, z0, z1, C, g⟩)) ?_
      rintro _ w5 ⟨z, i5, h5, rfl, z0, z1, C5, g5⟩
      obtain ⟨j, rfl⟩ := Int.eq_ofNat_of_zero_le z0
      have hj : j < 8 := by omega
      have HO5 : Hid (Out (World.bare w) (w.heap.size + 1) w1.heap.size s.count s.sum s.min s.max b1 o1 k1 b2 o2 k2 p po k3 b3 o3 j0 b4 o4 j1 l1 l2 x y w5) := HO6.out.grown g5 (by have := HL.out.1; omega) (Nat.zero_le _)
      have HR5 : Hid (Blk w5 w.heap.size #[.int .i64 0, .int .i64 0, .int .i64 0, .int .i64 0, .slice none 0 0, .slice none 0 0, .slice none 0 0] 31 ∧ Cur w5 q a len cap zs i5 h5 ∧ w.grownBy w5 (some q)) := ⟨HR6.out.1.grown g5 (by have := HL.out.1; omega), C5, grown_tr HR6.out.2.2 g5⟩
      have HS5 : Hid (w5.cell? ⟨w1.heap.size, 5, none⟩ = some (.slice (some ⟨b2, o2, none⟩) 8 k2)) := HO5.out.blk.cell 5
      have HLIT5 : Hid (∀ j, j < ([-1, 17, 18] : List Int).length → w5.cell? ⟨w4.drew.heap.size, j, none⟩ = some (.int .i64 (([-1, 17, 18] : List Int).getD j 0))) := fun j hj => (World.cell?_of_block (g5.block w4.drew.heap.size (World.block_lt_of_cell? _ _ (HLIT.out j hj)) (fun e => by have := HR4.out.2.2.size; have := HL.out.1; simp at e; omega))).trans (HLIT.out j hj)
      refine ⟨_, by simp [Act.put]; rfl, hK _ _ ⟨HS5.out, ?_⟩⟩
      clear hK C5 g5 z0 z1 hbw
      refine onlyH (o := ?o11) 6 (by kernel_rfl) ?h11 ?r11
      case h11 => simp only [aT, aS, aZ]; rfl
      intro K hK
      refine op_call2' 47 _ _ _ Tryz.f47 (fun v w' => ∃ y i' h', v = .int .i64 y ∧ Cur w' q a len cap zs i' h' ∧ w5.grownBy w' (some q)) rfl rfl Tryz.func47 (by kernel_rfl) (by kernel_rfl) ((pickInt_cur q w4.drew.heap.size _ a len cap zs i5 h5 [-1, 17, 18] w5 HR5.out.2.1 hlen HLIT5.out (by have := HL.out.1; have := HR4.out.2.2.size; omega) _ rfl (by simp) (by simp)).mono (by rintro e w' ⟨y, i', h', _, rfl, C, g⟩; exact ⟨_, rfl, y, i', h', rfl, C, g⟩)) ?_
      rintro _ w7 ⟨vy, i7, h7, rfl, C7, g7⟩
      have HO7 : Hid (Out (World.bare w) (w.heap.size + 1) w1.heap.size s.count s.sum s.min s.max b1 o1 k1 b2 o2 k2 p po k3 b3 o3 j0 b4 o4 j1 l1 l2 x y w7) := HO5.out.grown g7 (by have := HL.out.1; omega) (Nat.zero_le _)
      have HR7 : Hid (Blk w7 w.heap.size #[.int .i64 0, .int .i64 0, .int .i64 0, .int .i64 0, .slice none 0 0, .slice none 0 0, .slice none 0 0] 31 ∧ Cur w7 q a len cap zs i7 h7 ∧ w.grownBy w7 (some q)) := ⟨HR5.out.1.grown g7 (by have := HL.out.1; omega), C7, grown_tr HR5.out.2.2 g7⟩
      have HS7 : Hid (w7.cell? ⟨w1.heap.size, 5, none⟩ = some (.slice (some ⟨b2, o2, none⟩) 8 k2)) := HO7.out.blk.cell 5
      refine ⟨_, by simp [Act.put]; rfl, hK _ _ ⟨HS7.out, ?_⟩⟩
      clear hK C7 g7 HS6 HO6 HR6 HS5 HO5 HR5 HLIT HLIT5 HO4 HR4 hd
      refine takeH (o := ?o12) 7 (.pointer (some ⟨b2, o2 + j, none⟩)) ?h12 ?r12
      case h12 => simp only [aT, aS, aZ]; rfl
      refine ⟨_, by simp [Act.put]; rfl, by kernel_rfl, by kernel_rfl, by kernel_rfl, fun _ _ _ h => h, (.inl ⟨rfl, fun W _ => by go_simp; intro h; omega⟩), HS7.out, ?_⟩
      refine onlyH (o := ?o13) 8 (by kernel_rfl) ?h13 ?r13
      case h13 => simp only [aT, aS, aZ]; rfl
      intro K hK
      have fE := HO7.out.own.free b2 (by simp) (o2 + j)
      have cE := HO7.out.regs.at j hj
      have HOX : Hid _ := HO7.out.setRegs j hj vy
      have HRX : Hid _ := held_set HR7.out HL.out.1 HL.out.2 b2 (o2 + j) (.int .i64 vy) (by have := HO7.out.ges; omega)
      refine op_skip (w7.setCell ⟨b2, o2 + j, none⟩ (.int .i64 vy)) rfl (by go_simp) ⟨_, by simp [Act.put]; rfl, hK _ _ ⟨HOX.out.blk.cell 5, ?_⟩⟩
      clear hK
      refine wpAnyH_done (by kernel_rfl) ?_ _
      clear HO7 HR7 HS7
      go_wp2_with (first | go_skip | (with_reducible refine stopLoad 31 rfl ?_) | (with_reducible refine stopStore 31 rfl ?_))
      refine load_any 31 w1.heap.size _ 31 _ HOX.out.blk rfl rfl rfl Tryz.underlying31 rfl (by kernel_rfl) ?_
      go_wp2_with (first | go_skip | (with_reducible refine stopLoad 31 rfl ?_) | (with_reducible refine stopStore 31 rfl ?_))
      refine store_known 31 w.heap.size _ _ 31 HRX.out.1 rfl rfl rfl rfl (by kernel_rfl) rfl (by kernel_rfl) ?_
      go_wp2
      refine bodyPost_ret (results_cell_row Tryz.results92 _ _ w.heap.size _ _ _ _ rfl HRX.out.1.setRow Tryz.underlying31 rfl (by kernel_rfl)) rfl ?_
      exact drew_full (drew_end HOX.out HRX.out.1 HRX.out.2.1 HRX.out.2.2 HL.out.1 (by omega))
  by_cases q2 : d = 2
  · subst q2
    have c4 := HO4.out.blk.cell 4
    have f4 := HO4.out.blk.frozen 4
    simp only [aT, aS, aZ] at c4
    have hsz := HR4.out.2.2.size
    have hb1 := HO4.out.ges
    have HW : Hid (w4.ownsRow (w.heap.size + 1) 3 1 (.slice (some ⟨b1, o1, none⟩) 8 k1) 8 (l1.map (Value.int .i64))) := HO4.out.room.to_own HO4.out.hist hb1.2.1
    obtain ⟨t0, hi, hz0, hz1, hz2⟩ := info_parts infoInt
    have hs4 : (w4.alloc (.cells #[.int .i64 0] 3)).heap.size = w4.heap.size + 1 := by simp
    go_wp2_with (at_builtin; (refine wpList_append_lies _ rfl _ _ 28 rfl (w.heap.size + 1) 3 t0 (.int .i64 0) 1 8 Tryz.underlying28 hi hz0 hz1 hz2 rfl (by decide) _ 8 (l1.map (Value.int .i64)) rfl (HW.out.alloc _) ⟨w4.heap.size, 0, none⟩ 1 1 [.int .i64 0] rfl rfl (cell_new1 _ _ _) (by intro u hu; simp at hu; subst hu; rfl) (by decide) (by unfold maxLen; omega) (by omega) (by have := HO4.out.blk.lt; simp; omega) (w4.heap.size + 1) hs4 ?_))
    intro gB cp w6 hown hgrow hat hltB
    have HX : Hid (HistX w w4 w6 b1 l1 gB cp) := ⟨hown, hgrow, hat⟩
    clear hown hgrow hat hs4
    have HR6 : Hid (Blk w6 w.heap.size #[.int .i64 0, .int .i64 0, .int .i64 0, .int .i64 0, .slice none 0 0, .slice none 0 0, .slice none 0 0] 31 ∧ Cur w6 q a len cap zs i4 h4 ∧ w.grownBy w6 (some q)) := HX.out.held HO4.out HR4.out HL.out.1 HL.out.2
    have HRX : Hid _ := held_set HR6.out HL.out.1 HL.out.2 w1.heap.size 4 (.slice (some ⟨gB, 0, none⟩) 9 cp) (by have := HO4.out.ges; omega)
    have HB6 : Hid (Blk w6 w1.heap.size #[.int .i64 s.count, .int .i64 s.sum, .int .i64 s.min, .int .i64 s.max, .slice (some ⟨b1, o1, none⟩) 8 k1, .slice (some ⟨b2, o2, none⟩) 8 k2, .slice (some ⟨p, po, none⟩) 2 k3] 31) := HX.out.blk HO4.out
    have HBX : Hid _ := HB6.out.set 4 (.slice (some ⟨gB, 0, none⟩) 9 cp)
    have c4 := HB6.out.cell 4
    have f4 := HB6.out.frozen 4
    simp only [aT, aS, aZ] at c4
    go_wp2_with (first | go_skip | (with_reducible refine stopLoad 31 rfl ?_) | (with_reducible refine stopStore 31 rfl ?_))
    refine load_any 31 w1.heap.size _ 31 _ HBX.out rfl rfl rfl Tryz.underlying31 rfl (by kernel_rfl) ?_
    go_wp2_with (first | go_skip | (with_reducible refine stopLoad 31 rfl ?_) | (with_reducible refine stopStore 31 rfl ?_))
    refine store_known 31 w.heap.size _ _ 31 HRX.out.1 rfl rfl rfl rfl (by kernel_rfl) rfl (by kernel_rfl) ?_
    go_wp2
    refine bodyPost_ret (results_cell_row Tryz.results92 _ _ w.heap.size _ _ _ _ rfl HRX.out.1.setRow Tryz.underlying31 rfl (by kernel_rfl)) rfl ?_
    exact drew_hist HO4.out HX.out HRX.out.1 HRX.out.2.1 HRX.out.2.2 HL.out.1
  by_cases q3 : d = 3
  · subst q3
    have c6 := HO4.out.blk.cell 6
    have f6 := HO4.out.blk.frozen 6
    have hk3 := HO4.out.wide
    simp only [aT, aS, aZ] at c6
    have HRX : Hid _ := held_set HR4.out HL.out.1 HL.out.2 w1.heap.size 6 (.slice (some ⟨p, po, none⟩) 1 k3) (by have := HO4.out.ges; omega)
    have HBX : Hid _ := HO4.out.blk.set 6 (.slice (some ⟨p, po, none⟩) 1 k3)
    go_wp2_with (first | go_skip | (with_reducible refine stopLoad 31 rfl ?_) | (with_reducible refine stopStore 31 rfl ?_))
    refine load_any 31 w1.heap.size _ 31 _ HBX.out rfl rfl rfl Tryz.underlying31 rfl (by kernel_rfl) ?_
    go_wp2_with (first | go_skip | (with_reducible refine stopLoad 31 rfl ?_) | (with_reducible refine stopStore 31 rfl ?_))
    refine store_known 31 w.heap.size _ _ 31 HRX.out.1 rfl rfl rfl rfl (by kernel_rfl) rfl (by kernel_rfl) ?_
    go_wp2
    refine bodyPost_ret (results_cell_row Tryz.results92 _ _ w.heap.size _ _ _ _ rfl HRX.out.1.setRow Tryz.underlying31 rfl (by kernel_rfl)) rfl ?_
    exact drew_row HO4.out HRX.out.1 HRX.out.2.1 HRX.out.2.2 HL.out.1 (by omega)
  by_cases q4 : d = 4
  · subst q4
    go_wp2_with fail
    refine (pickInt_cur q w4.heap.size _ a len cap zs i4 h4 [0, -1, 1000000001] _ (HR4.out.2.1.keep ((Below.refl _ _).alloc (Nat.le_refl _) _)) hlen (fun j hj => lit_ints w4 [0, -1, 1000000001] 3 j hj) (by have := HR4.out.2.2.size; have := HL.out.1; omega) _ rfl (by simp) (by simp)).mono ?_
    rintro e w5 ⟨z, i5, h5, _, rfl, C5, g5⟩
    have gg := grown_tr (World.grownBy_alloc w4 _ (some q)) g5
    have HO5 : Hid (Out (World.bare w) (w.heap.size + 1) w1.heap.size s.count s.sum s.min s.max b1 o1 k1 b2 o2 k2 p po k3 b3 o3 j0 b4 o4 j1 l1 l2 x y w5) := HO4.out.grown gg (by have := HL.out.1; omega) (Nat.zero_le _)
    have HR5 : Hid (Blk w5 w.heap.size #[.int .i64 0, .int .i64 0, .int .i64 0, .int .i64 0, .slice none 0 0, .slice none 0 0, .slice none 0 0] 31 ∧ Cur w5 q a len cap zs i5 h5 ∧ w.grownBy w5 (some q)) := ⟨HR4.out.1.grown gg (by have := HL.out.1; omega), C5, grown_tr HR4.out.2.2 gg⟩
    have HOX : Hid _ := HO5.out.setC z
    have HRX : Hid _ := held_set HR5.out HL.out.1 HL.out.2 w1.heap.size 0 (.int .i64 z) (by have := HO5.out.ges; omega)
    have f2 := HO5.out.blk.frozen 0
    have c2 := HO5.out.blk.cell 0
    simp only [aT, aZ] at c2
    clear C5 g5 gg
    go_wp2_with (first | go_skip | (with_reducible refine stopLoad 31 rfl ?_) | (with_reducible refine stopStore 31 rfl ?_))
    refine load_any 31 w1.heap.size _ 31 _ HOX.out.blk rfl rfl rfl Tryz.underlying31 rfl (by kernel_rfl) ?_
    go_wp2_with (first | go_skip | (with_reducible refine stopLoad 31 rfl ?_) | (with_reducible refine stopStore 31 rfl ?_))
    refine store_known 31 w.heap.size _ _ 31 HRX.out.1 rfl rfl rfl rfl (by kernel_rfl) rfl (by kernel_rfl) ?_
    go_wp2
    refine bodyPost_ret (results_cell_row Tryz.results92 _ _ w.heap.size _ _ _ _ rfl HRX.out.1.setRow Tryz.underlying31 rfl (by kernel_rfl)) rfl ?_
    exact drew_full (drew_end HOX.out HRX.out.1 HRX.out.2.1 HRX.out.2.2 HL.out.1 (by omega))
  by_cases q5 : d = 5
  · subst q5
    have HS4 : Hid (w4.drew.cell? ⟨w1.heap.size, 6, none⟩ = some (.slice (some ⟨p, po, none⟩) 2 k3) ∧ w4.drew.cell? ⟨p, po + 1, none⟩ = some (.slice (some ⟨b4, o4, none⟩) 4 j1)) := ⟨HO4.out.drew.blk.cell 6, HO4.out.drew.c1⟩
    have HO4d : Hid (Out (World.bare w) (w.heap.size + 1) w1.heap.size s.count s.sum s.min s.max b1 o1 k1 b2 o2 k2 p po k3 b3 o3 j0 b4 o4 j1 l1 l2 x y w4.drew) := HO4.out.drew
    have HR4d : Hid (Blk w4.drew w.heap.size #[.int .i64 0, .int .i64 0, .int .i64 0, .int .i64 0, .slice none 0 0, .slice none 0 0, .slice none 0 0] 31 ∧ Cur w4.drew q a len cap zs i4 h4 ∧ w.grownBy w4.drew (some q)) := ⟨HR4.out.1.drew, HR4.out.2.1.keep (Below.refl _ _).drew, grown_tr HR4.out.2.2 (grown_below q (Below.refl _ _).drew)⟩
    go_wp2
    refine wp_region_held (S := (fun W => W.cell? ⟨w1.heap.size, 6, none⟩ = some (.slice (some ⟨p, po, none⟩) 2 k3) ∧ W.cell? ⟨p, po + 1, none⟩ = some (.slice (some ⟨b4, o4, none⟩) 4 j1))) (by kernel_rfl) ?_
    change wpAnyH _ _ _ _ _ _ _ _ (World.drew _)
    refine takeH (o := ?o14) 0 (.pointer (some ⟨w1.heap.size, 6, none⟩)) ?h14 ?r14
    case h14 => simp only [aT, aZ]; rfl
    refine ⟨_, by simp [Act.put]; rfl, by kernel_rfl, by kernel_rfl, by kernel_rfl, fun _ _ _ h => h, (.inl ⟨rfl, fun W _ => by go_simp⟩), HS4.out, ?_⟩
    refine takeH (o := ?o15) 1 (.slice (some ⟨p, po, none⟩) 2 k3) ?h15 ?r15
    case h15 => simp only [aT, aS, aZ]; rfl
    refine ⟨_, by simp [Act.put]; rfl, by kernel_rfl, by kernel_rfl, by kernel_rfl, fun _ _ _ h => h, (.inl ⟨rfl, fun W hW => by have c := hW.1; go_simp⟩), HS4.out, ?_⟩
    refine takeH (o := ?o16) 2 (.pointer (some ⟨p, po + 1, none⟩)) ?h16 ?r16
    case h16 => simp only [aT, aS, aZ]; rfl
    refine ⟨_, by simp [Act.put]; rfl, by kernel_rfl, by kernel_rfl, by kernel_rfl, fun _ _ _ h => h, (.inl ⟨rfl, fun W _ => by go_simp⟩), HS4.out, ?_⟩
    refine takeH (o := ?o17) 3 (.slice (some ⟨b4, o4, none⟩) 4 j1) ?h17 ?r17
    case h17 => simp only [aT, aS, aZ]; rfl
    refine ⟨_, by simp [Act.put]; rfl, by kernel_rfl, by kernel_rfl, by kernel_rfl, fun _ _ _ h => h, (.inl ⟨rfl, fun W hW => by have c := hW.2; go_simp⟩), HS4.out, ?_⟩
    refine takeH (o := ?o18) 4 (.pointer (some ⟨q, 0, none⟩)) ?h18 ?r18
    case h18 => simp only [aT, aS, aZ]; rfl
    refine ⟨_, by simp [Act.put]; rfl, by kernel_rfl, by kernel_rfl, by kernel_rfl, fun _ _ _ h => h, (.inl ⟨rfl, fun W _ => by go_simp⟩), HS4.out, ?_⟩
    refine onlyH (o := ?o19) 5 (by kernel_rfl) ?h19 ?r19
    case h19 => simp only [aT, aS, aZ]; rfl
    intro K hK
    refine op_turn (.slice (some ⟨w4.drew.heap.size, 0, none⟩) 3 3) (w4.drew.alloc (.cells ([-1, 3, 1000000001].map (Value.int .i64)).toArray 3)) rfl (by go_simp) ⟨_, by simp [Act.put]; rfl, hK _ _ ⟨(HO4d.out.blk.alloc _).cell 6 |> fun e => ⟨e, cell_al HO4d.out.c1 _⟩, ?_⟩⟩
    obtain ⟨w6, hW⟩ : ∃ W, W = (w4.drew.alloc (.cells ([-1, 3, 1000000001].map (Value.int .i64)).toArray 3)) := ⟨_, rfl⟩
    rw [← hW]
    have hbw : Below w4.drew.heap.size w4.drew w6 := by rw [hW]; exact (Below.refl _ _).alloc (Nat.le_refl _) _
    have HLIT : Hid (∀ j, j < ([-1, 3, 1000000001] : List Int).length → w6.cell? ⟨w4.drew.heap.size, j, none⟩ = some (.int .i64 (([-1, 3, 1000000001] : List Int).getD j 0))) := fun j hj => by rw [hW]; exact lit_ints w4.drew [-1, 3, 1000000001] 3 j hj
    have HO6 : Hid (Out (World.bare w) (w.heap.size + 1) w1.heap.size s.count s.sum s.min s.max b1 o1 k1 b2 o2 k2 p po k3 b3 o3 j0 b4 o4 j1 l1 l2 x y w6) := HO4d.out.below hbw
    have HR6 : Hid (Blk w6 w.heap.size #[.int .i64 0, .int .i64 0, .int .i64 0, .int .i64 0, .slice none 0 0, .slice none 0 0, .slice none 0 0] 31 ∧ Cur w6 q a len cap zs i4 h4 ∧ w.grownBy w6 (some q)) := ⟨HR4d.out.1.below hbw, HR4d.out.2.1.keep hbw, grown_tr HR4d.out.2.2 (grown_below q hbw)⟩
    have HS6 : Hid (w6.cell? ⟨w1.heap.size, 6, none⟩ = some (.slice (some ⟨p, po, none⟩) 2 k3) ∧ w6.cell? ⟨p, po + 1, none⟩ = some (.slice (some ⟨b4, o4, none⟩) 4 j1)) := ⟨HO6.out.blk.cell 6, HO6.out.c1⟩
    have hd : w4.drew.heap.size = w4.heap.size := rfl
    clear hK hW hbw HS4 HO4d HR4d
    refine onlyH (o := ?o20) 6 (by kernel_rfl) ?h20 ?r20
    case h20 => simp only [aT, aS, aZ]; rfl
    intro K hK
    refine op_call2' 47 _ _ _ Tryz.f47 (fun v w' => ∃ y i' h', v = .int .i64 y ∧ Cur w' q a len cap zs i' h' ∧ w6.grownBy w' (some q)) rfl rfl Tryz.func47 (by kernel_rfl) (by kernel_rfl) ((pickInt_cur q w4.drew.heap.size _ a len cap zs i4 h4 [-1, 3, 1000000001] w6 HR6.out.2.1 hlen HLIT.out (by have := HL.out.1; have := HR4.out.2.2.size; omega) _ rfl (by simp) (by simp)).mono (by rintro e w' ⟨y, i', h', _, rfl, C, g⟩; exact ⟨_, rfl, y, i', h', rfl, C, g⟩)) ?_
    rintro _ w7 ⟨vy, i7, h7, rfl, C7, g7⟩
    have HO7 : Hid (Out (World.bare w) (w.heap.size + 1) w1.heap.size s.count s.sum s.min s.max b1 o1 k1 b2 o2 k2 p po k3 b3 o3 j0 b4 o4 j1 l1 l2 x y w7) := HO6.out.grown g7 (by have := HL.out.1; omega) (Nat.zero_le _)
    have HR7 : Hid (Blk w7 w.heap.size #[.int .i64 0, .int .i64 0, .int .i64 0, .int .i64 0, .slice none 0 0, .slice none 0 0, .slice none 0 0] 31 ∧ Cur w7 q a len cap zs i7 h7 ∧ w.grownBy w7 (some q)) := ⟨HR6.out.1.grown g7 (by have := HL.out.1; omega), C7, grown_tr HR6.out.2.2 g7⟩
    have HS7 : Hid (w7.cell? ⟨w1.heap.size, 6, none⟩ = some (.slice (some ⟨p, po, none⟩) 2 k3) ∧ w7.cell? ⟨p, po + 1, none⟩ = some (.slice (some ⟨b4, o4, none⟩) 4 j1)) := ⟨HO7.out.blk.cell 6, HO7.out.c1⟩
    refine ⟨_, by simp [Act.put]; rfl, hK _ _ ⟨HS7.out, ?_⟩⟩
    clear hK C7 g7 HS6 HO6 HR6 HLIT HO4 HR4 hd
    refine takeH (o := ?o21) 7 (.pointer (some ⟨b4, o4 + 2, none⟩)) ?h21 ?r21
    case h21 => simp only [aT, aS, aZ]; rfl
    refine ⟨_, by simp [Act.put]; rfl, by kernel_rfl, by kernel_rfl, by kernel_rfl, fun _ _ _ h => h, (.inl ⟨rfl, fun W _ => by go_simp⟩), HS7.out, ?_⟩
    refine onlyH (o := ?o22) 8 (by kernel_rfl) ?h22 ?r22
    case h22 => simp only [aT, aS, aZ]; rfl
    intro K hK
    have fE := HO7.out.own.free b4 (by simp) (o4 + 2)
    have cE := HO7.out.row1.at 2 (by omega)
    have HOX : Hid _ := HO7.out.setRow1 2 (by omega) vy
    have HRX : Hid _ := held_set HR7.out HL.out.1 HL.out.2 b4 (o4 + 2) (.int .i64 vy) (by have := HO7.out.ges; omega)
    refine op_skip (w7.setCell ⟨b4, o4 + 2, none⟩ (.int .i64 vy)) rfl (by go_simp) ⟨_, by simp [Act.put]; rfl, hK _ _ ⟨⟨HOX.out.blk.cell 6, HOX.out.c1⟩, ?_⟩⟩
    clear hK
    refine wpAnyH_done (by kernel_rfl) ?_ _
    clear HO7 HR7 HS7
    go_wp2_with (first | go_skip | (with_reducible refine stopLoad 31 rfl ?_) | (with_reducible refine stopStore 31 rfl ?_))
    refine load_any 31 w1.heap.size _ 31 _ HOX.out.blk rfl rfl rfl Tryz.underlying31 rfl (by kernel_rfl) ?_
    go_wp2_with (first | go_skip | (with_reducible refine stopLoad 31 rfl ?_) | (with_reducible refine stopStore 31 rfl ?_))
    refine store_known 31 w.heap.size _ _ 31 HRX.out.1 rfl rfl rfl rfl (by kernel_rfl) rfl (by kernel_rfl) ?_
    go_wp2
    refine bodyPost_ret (results_cell_row Tryz.results92 _ _ w.heap.size _ _ _ _ rfl HRX.out.1.setRow Tryz.underlying31 rfl (by kernel_rfl)) rfl ?_
    exact drew_full (drew_end HOX.out HRX.out.1 HRX.out.2.1 HRX.out.2.2 HL.out.1 (by omega))
  have p0 : (d == 0) = false := beq_false_of_ne q0
  have p1 : (d == 1) = false := beq_false_of_ne q1
  have p2 : (d == 2) = false := beq_false_of_ne q2
  have p3 : (d == 3) = false := beq_false_of_ne q3
  have p4 : (d == 4) = false := beq_false_of_ne q4
  have p5 : (d == 5) = false := beq_false_of_ne q5
  have HOX := HO4
  have HRX := HR4
  clear HO4 HR4 q0 q1 q2 q3 q4 q5
  go_wp2_with (first | go_skip | (with_reducible refine stopLoad 31 rfl ?_) | (with_reducible refine stopStore 31 rfl ?_))
  refine load_any 31 w1.heap.size _ 31 _ HOX.out.blk rfl rfl rfl Tryz.underlying31 rfl (by kernel_rfl) ?_
  go_wp2_with (first | go_skip | (with_reducible refine stopLoad 31 rfl ?_) | (with_reducible refine stopStore 31 rfl ?_))
  refine store_known 31 w.heap.size _ _ 31 HRX.out.1 rfl rfl rfl rfl (by kernel_rfl) rfl (by kernel_rfl) ?_
  go_wp2
  refine bodyPost_ret (results_cell_row Tryz.results92 _ _ w.heap.size _ _ _ _ rfl HRX.out.1.setRow Tryz.underlying31 rfl (by kernel_rfl)) rfl ?_
  exact drew_full (drew_end HOX.out HRX.out.1 HRX.out.2.1 HRX.out.2.2 HL.out.1 (by omega))
end Go.Proofs.YtgkbhhlkaifnoaaGreatDoor
/- The walks through the model's drawing of items. No statement of the seat is proved here. -/
namespace Go.Proofs.YtgkbhhlkaifnoaaGreatDoor
open Go.RowKit
theorem cur_row {W : World} {q g : Nat} {a : Option Addr} {len cap : Nat} {zs : List Int} {i h : Int} {cs : Array Value} (C : Cur W q a len cap zs i h) (hq : q ≠ g) (ha : ∀ b, (∃ off, a = some ⟨b, off, none⟩ ∧ 0 < len) → b ≠ g) : Cur (W.setRow g cs) q a len cap zs i h :=
  cur_agree C (World.block_lt_of_cell? _ _ C.c0) (setRow_other W g q cs hq) (fun b _ hx => setRow_other W g b cs (ha b hx))
theorem cur_cell {W : World} {q g j : Nat} {v : Value} {a : Option Addr} {len cap : Nat} {zs : List Int} {i h : Int} (C : Cur W q a len cap zs i h) (hq : q ≠ g) (ha : ∀ b, (∃ off, a = some ⟨b, off, none⟩ ∧ 0 < len) → b ≠ g) : Cur (W.setCell ⟨g, j, none⟩ v) q a len cap zs i h :=
  cur_agree C (World.block_lt_of_cell? _ _ C.c0) (Below.heap_setCell W ⟨g, j, none⟩ v q hq) (fun b _ hx => Below.heap_setCell W ⟨g, j, none⟩ v b (ha b hx))
theorem grown_row {w W : World} {q g : Nat} {cs : Array Value} (k : w.grownBy W (some q)) (hg : w.heap.size ≤ g) : w.grownBy (W.setRow g cs) (some q) :=
  ⟨k.os, k.tape, k.output, by simp; exact k.size, fun b hb hn => (setRow_other W g b cs (by omega)).trans (k.block b hb hn)⟩
theorem grown_cell {w W : World} {q g j : Nat} {v : Value} (k : w.grownBy W (some q)) (hg : w.heap.size ≤ g) : w.grownBy (W.setCell ⟨g, j, none⟩ v) (some q) :=
  ⟨k.os, k.tape, k.output, by simp; exact k.size, fun b hb hn => (Below.heap_setCell W ⟨g, j, none⟩ v b (fun e => by have e2 : b = g := e; omega)).trans (k.block b hb hn)⟩
/-- The result's place and the cursor. -/
structure HeldR (w : World) (q : Nat) (a : Option Addr) (len cap : Nat) (zs : List Int) (i h : Int) (cs : Array Value) (t : TypeId) (W : World) : Prop where
  res : Blk W w.heap.size cs t
  cur : Cur W q a len cap zs i h
  grown : w.grownBy W (some q)
section
variable {w W W' : World} {q : Nat} {a : Option Addr} {len cap : Nat} {zs : List Int} {i h i' h' : Int} {cs : Array Value} {t : TypeId}
theorem HeldR.next (H : HeldR w q a len cap zs i h cs t W) (hq : q < w.heap.size) (C : Cur W' q a len cap zs i' h') (g : W.grownBy W' (some q)) : HeldR w q a len cap zs i' h' cs t W' := ⟨H.res.grown g (by omega), C, grown_tr H.grown g⟩
theorem HeldR.below (H : HeldR w q a len cap zs i h cs t W) (b : Below W.heap.size W W') : HeldR w q a len cap zs i h cs t W' := ⟨H.res.below b, H.cur.below b, grown_tr H.grown (grown_below q b)⟩
theorem HeldR.made (C : Cur w q a len cap zs i h) (cs : Array Value) (t : TypeId) : HeldR w q a len cap zs i h cs t (w.alloc (.cells cs t)) := ⟨Blk.made _ _ _, C.alloc _, grown_below q ((Below.refl _ _).alloc (Nat.le_refl _) _)⟩
end
/-- What a drawing of an item tells. -/
def DrewItem (w : World) (q : Nat) (a : Option Addr) (len cap : Nat) (zs : List Int) (e : Ending) (w' : World) : Prop :=
  ∃ v x F i' h', e = .returned v ∧ RdIt w' v x F ∧ x.sk.full ∧ Own w.heap.size w' F ∧ Cur w' q a len cap zs i' h' ∧ w.grownBy w' (some q)
set_option maxRecDepth 200000 in
set_option maxHeartbeats 4000000 in
theorem l6Right_any (q : Nat) (a : Option Addr) (len cap : Nat) (zs : List Int) (i h : Int) (w : World) (C : Cur w q a len cap zs i h) (hlen : len ≤ 1048576) :
    Calls Tryz.prog 90 #[.pointer (some ⟨q, 0, none⟩)] w fun e w' => DrewItem w q a len cap zs e w' := by
  have hq : q < w.heap.size := World.block_lt_of_cell? _ _ C.c0
  have HA : Hid (∀ b, (∃ off, a = some ⟨b, off, none⟩ ∧ 0 < len) → b < w.heap.size) := cur_lt C
  have H0 : Hid (HeldR w q a len cap zs i h #[.int .i64 0, .int .i64 0, .int .i64 0, .int .i64 0, .int .i64 0, .int .i64 0, .int .i64 0, .int .i64 0, .slice none 0 0, .slice none 0 0, .slice none 0 0] 33 (w.alloc (.cells #[.int .i64 0, .int .i64 0, .int .i64 0, .int .i64 0, .int .i64 0, .int .i64 0, .int .i64 0, .int .i64 0, .slice none 0 0, .slice none 0 0, .slice none 0 0] 33))) := HeldR.made C _ _
  clear C
  go_enter Tryz.func90, Tryz.ntmps90
  go_wp2_with fail
  refine (l1Below_any q a len cap zs i h 8 _ H0.out.cur hlen (by omega) (by omega)).mono ?_
  rintro e w1 ⟨x1, i1, h1, rfl, p1, r1, C1, g1⟩
  have H1 : Hid (HeldR w q a len cap zs i1 h1 #[.int .i64 0, .int .i64 0, .int .i64 0, .int .i64 0, .int .i64 0, .int .i64 0, .int .i64 0, .int .i64 0, .slice none 0 0, .slice none 0 0, .slice none 0 0] 33 w1) := H0.out.next hq C1 g1
  clear C1 g1 H0
  go_wp2_with fail
  refine (l1Below_any q a len cap zs i1 h1 2 _ H1.out.cur hlen (by omega) (by omega)).mono ?_
  rintro e w2 ⟨x2, i2, h2, rfl, p2, r2, C2, g2⟩
  have H2 : Hid (HeldR w q a len cap zs i2 h2 #[.int .i64 0, .int .i64 0, .int .i64 0, .int .i64 0, .int .i64 0, .int .i64 0, .int .i64 0, .int .i64 0, .slice none 0 0, .slice none 0 0, .slice none 0 0] 33 w2) := H1.out.next hq C2 g2
  clear C2 g2 H1
  go_wp2_with fail
  refine (l1Below_any q a len cap zs i2 h2 2 _ H2.out.cur hlen (by omega) (by omega)).mono ?_
  rintro e w3 ⟨x3, i3, h3, rfl, p3, r3, C3, g3⟩
  have H3 : Hid (HeldR w q a len cap zs i3 h3 #[.int .i64 0, .int .i64 0, .int .i64 0, .int .i64 0, .int .i64 0, .int .i64 0, .int .i64 0, .int .i64 0, .slice none 0 0, .slice none 0 0, .slice none 0 0] 33 w3) := H2.out.next hq C3 g3
  clear C3 g3 H2
  go_wp2_with fail
  refine (l1Below_any q a len cap zs i3 h3 3 _ H3.out.cur hlen (by omega) (by omega)).mono ?_
  rintro e w4 ⟨x4, i4, h4, rfl, p4, r4, C4, g4⟩
  have H4 : Hid (HeldR w q a len cap zs i4 h4 #[.int .i64 0, .int .i64 0, .int .i64 0, .int .i64 0, .int .i64 0, .int .i64 0, .int .i64 0, .int .i64 0, .slice none 0 0, .slice none 0 0, .slice none 0 0] 33 w4) := H3.out.next hq C4 g4
  clear C4 g4 H3
  go_wp2_with fail
  refine (l3Values_any q a len cap zs i4 h4 _ H4.out.cur hlen).mono ?_
  rintro e w5 ⟨a', n, c, xs, F5, i5, h5, rfl, r5, n5, o5, C5, g5⟩
  have H5 : Hid (HeldR w q a len cap zs i5 h5 #[.int .i64 0, .int .i64 0, .int .i64 0, .int .i64 0, .int .i64 0, .int .i64 0, .int .i64 0, .int .i64 0, .slice none 0 0, .slice none 0 0, .slice none 0 0] 33 w5) := H4.out.next hq C5 g5
  have HR5 : Hid (RdI w5 a' n xs F5) := r5
  clear C5 g5 H4 r5 o5
  go_wp2_with fail
  refine (sketched_any a' n c xs F5 _ HR5.out (by omega)).mono ?_
  rintro e w6 ⟨v, s, F, rfl, rR, hs, oF, b6⟩
  obtain ⟨e1, r1', f1, e2, r2', f2, e3, r3', f3, rfl⟩ := rR.sk.cells7
  have H6 : Hid (HeldR w q a len cap zs i5 h5 #[.int .i64 0, .int .i64 0, .int .i64 0, .int .i64 0, .int .i64 0, .int .i64 0, .int .i64 0, .int .i64 0, .slice none 0 0, .slice none 0 0, .slice none 0 0] 33 w6) := H5.out.below b6
  have HS : Hid (RdSk w6 (.agg #[.int .i64 s.count, .int .i64 s.sum, .int .i64 s.min, .int .i64 s.max, .slice e1 r1' f1, .slice e2 r2' f2, .slice e3 r3' f3]) s F ∧ s.shaped = true ∧ Own (w.heap.size + 1) w6 F) := ⟨rR.sk, hs, oF.mono H5.out.res.lt⟩
  clear rR hs oF b6 H5 HR5
  go_wp2_with (first | go_skip | (with_reducible refine stopStore 33 rfl ?_))
  refine store_known 33 w.heap.size _ #[.int .i64 (1 + x1), .int .i64 x2, .int .i64 x3, .int .i64 x4, .int .i64 s.count, .int .i64 s.sum, .int .i64 s.min, .int .i64 s.max, .slice e1 r1' f1, .slice e2 r2' f2, .slice e3 r3' f3] 33 H6.out.res rfl rfl rfl rfl (by kernel_rfl) rfl (by simp [Value.oneCell']) ?_
  obtain ⟨E, hE⟩ : ∃ E : Array Value, E = #[.int .i64 (1 + x1), .int .i64 x2, .int .i64 x3, .int .i64 x4, .int .i64 s.count, .int .i64 s.sum, .int .i64 s.min, .int .i64 s.max, .slice e1 r1' f1, .slice e2 r2' f2, .slice e3 r3' f3] := ⟨_, rfl⟩
  rw [← hE]
  have HE : Hid (E = #[.int .i64 (1 + x1), .int .i64 x2, .int .i64 x3, .int .i64 x4, .int .i64 s.count, .int .i64 s.sum, .int .i64 s.min, .int .i64 s.max, .slice e1 r1' f1, .slice e2 r2' f2, .slice e3 r3' f3] ∧ E.size = 11) := ⟨hE, by rw [hE]; rfl⟩
  clear hE
  go_wp2
  refine bodyPost_ret (results_cell_row Tryz.results90 _ _ w.heap.size _ _ (0, 0) _ rfl H6.out.res.setRow Tryz.underlying33 rfl (by rw [HE.out.2]; exact infoItA)) rfl ?_
  have nF : w.heap.size ∉ F := fun hx => by have := HS.out.2.2.ge _ hx; omega
  exact ⟨_, ⟨1 + x1, x2, x3, x4, s⟩, F, i5, h5, rfl, ⟨e1, r1', f1, e2, r2', f2, e3, r3', f3, by rw [HE.out.1], HS.out.1.agree (Agree.row nF E)⟩, shaped_full HS.out.2.1, (HS.out.2.2.agree (Agree.row nF E)).mono (by omega), cur_row H6.out.cur (by omega) (fun b hb => by have := HA.out b hb; omega), grown_row H6.out.grown (Nat.le_refl _)⟩
/-- In the midst of a drawing: the item lies in block L. -/
structure LocI (w : World) (q : Nat) (a : Option Addr) (len cap : Nat) (zs : List Int) (i h : Int) (L : Nat) (ic : Array Value) (x : It) (F : List Nat) (W : World) : Prop where
  held : HeldR w q a len cap zs i h #[.int .i64 0, .int .i64 0, .int .i64 0, .int .i64 0, .int .i64 0, .int .i64 0, .int .i64 0, .int .i64 0, .slice none 0 0, .slice none 0 0, .slice none 0 0] 33 W
  loc : Blk W L ic 33
  rd : RdIt W (.agg ic) x F
  own : Own (w.heap.size + 1) W F
  apart : L ∉ F
  gt : w.heap.size < L
  full : x.sk.full
section
variable {w W W' : World} {q : Nat} {a : Option Addr} {len cap : Nat} {zs : List Int} {i h i' h' : Int} {L : Nat} {ic : Array Value} {x : It} {F : List Nat}
theorem LocI.next (H : LocI w q a len cap zs i h L ic x F W) (hq : q < w.heap.size) (C : Cur W' q a len cap zs i' h') (g : W.grownBy W' (some q)) : LocI w q a len cap zs i' h' L ic x F W' := by
  have nq : q ∉ F := fun hx => by have := H.own.ge _ hx; omega
  have ag := agree_grown g H.rd.lt nq
  have := H.gt
  exact ⟨H.held.next hq C g, H.loc.grown g (by omega), H.rd.agree ag, H.own.agree ag, H.apart, H.gt, H.full⟩
theorem LocI.below (H : LocI w q a len cap zs i h L ic x F W) (b : Below W.heap.size W W') : LocI w q a len cap zs i h L ic x F W' := ⟨H.held.below b, H.loc.below b, H.rd.below b, H.own.below H.rd.lt b, H.apart, H.gt, H.full⟩
theorem LocI.done (H : LocI w q a len cap zs i h L ic x F W) (hq : q < w.heap.size) (ha : ∀ b, (∃ off, a = some ⟨b, off, none⟩ ∧ 0 < len) → b < w.heap.size) : DrewItem w q a len cap zs (.returned (.agg ic)) (W.setRow w.heap.size ic) := by
  have nF : w.heap.size ∉ F := fun hx => by have := H.own.ge _ hx; omega
  exact ⟨_, x, F, i, h, rfl, H.rd.agree (Agree.row nF ic), H.full, (H.own.agree (Agree.row nF ic)).mono (by omega), cur_row H.held.cur (by omega) (fun b hb => by have := ha b hb; omega), grown_row H.held.grown (Nat.le_refl _)⟩
theorem LocI.set (H : LocI w q a len cap zs i h L ic x F W) (hq : q < w.heap.size) (ha : ∀ b, (∃ off, a = some ⟨b, off, none⟩ ∧ 0 < len) → b < w.heap.size) (j : Nat) (v : Value) {ic' : Array Value} {y : It} (hic : ic.setIfInBounds j v = ic') (hr : RdIt (W.setCell ⟨L, j, none⟩ v) (.agg ic') y F) (hy : y.sk = x.sk) : LocI w q a len cap zs i h L ic' y F (W.setCell ⟨L, j, none⟩ v) := by
  subst hic
  have hgt := H.gt
  have ag : Agree W (W.setCell ⟨L, j, none⟩ v) F := .set H.apart j v
  exact ⟨⟨H.held.res.setOther (by omega) j v, cur_cell H.held.cur (by omega) (fun b hb => by have := ha b hb; omega), grown_cell H.held.grown (by omega)⟩, H.loc.set j v, hr, H.own.agree ag, H.apart, H.gt, by rw [hy]; exact H.full⟩
end
set_option maxRecDepth 200000 in
set_option maxHeartbeats 8000000 in
theorem l6Draw_any (q : Nat) (a : Option Addr) (len cap : Nat) (zs : List Int) (i h : Int) (w : World) (C : Cur w q a len cap zs i h) (hlen : len ≤ 1048576) :
    Calls Tryz.prog 60 #[.pointer (some ⟨q, 0, none⟩)] w fun e w' => DrewItem w q a len cap zs e w' := by
  have hq : q < w.heap.size := World.block_lt_of_cell? _ _ C.c0
  have HA : Hid (∀ b, (∃ off, a = some ⟨b, off, none⟩ ∧ 0 < len) → b < w.heap.size) := cur_lt C
  have H0 : Hid (HeldR w q a len cap zs i h #[.int .i64 0, .int .i64 0, .int .i64 0, .int .i64 0, .int .i64 0, .int .i64 0, .int .i64 0, .int .i64 0, .slice none 0 0, .slice none 0 0, .slice none 0 0] 33 (w.alloc (.cells #[.int .i64 0, .int .i64 0, .int .i64 0, .int .i64 0, .int .i64 0, .int .i64 0, .int .i64 0, .int .i64 0, .slice none 0 0, .slice none 0 0, .slice none 0 0] 33))) := HeldR.made C _ _
  clear C
  go_enter Tryz.func60, Tryz.ntmps60
  go_wp2_with fail
  refine (l6Right_any q a len cap zs i h _ H0.out.cur hlen).mono ?_
  rintro e w1 ⟨v, x, F, i1, h1, rfl, rx, fx, ox, C1, g1⟩
  obtain ⟨a1, n1, c1, a2, n2, c2, a3, n3, c3, rfl, rs⟩ := rx
  have H1 : Hid (HeldR w q a len cap zs i1 h1 #[.int .i64 0, .int .i64 0, .int .i64 0, .int .i64 0, .int .i64 0, .int .i64 0, .int .i64 0, .int .i64 0, .slice none 0 0, .slice none 0 0, .slice none 0 0] 33 w1) := H0.out.next hq C1 g1
  have HX : Hid (RdIt w1 (.agg #[.int .i64 x.seq, .int .i64 x.cls, .int .i64 x.key, .int .i64 x.window, .int .i64 x.sk.count, .int .i64 x.sk.sum, .int .i64 x.sk.min, .int .i64 x.sk.max, .slice a1 n1 c1, .slice a2 n2 c2, .slice a3 n3 c3]) x F ∧ x.sk.full ∧ Own (w.heap.size + 1) w1 F) := ⟨⟨a1, n1, c1, a2, n2, c2, a3, n3, c3, rfl, rs⟩, fx, ox.mono (by simp)⟩
  clear C1 g1 rs fx ox H0
  go_wp2_with (first | go_skip | (with_reducible refine stopStore 33 rfl ?_))
  refine store_fresh 33 w1.heap.size rfl #[.int .i64 0, .int .i64 0, .int .i64 0, .int .i64 0, .int .i64 0, .int .i64 0, .int .i64 0, .int .i64 0, .slice none 0 0, .slice none 0 0, .slice none 0 0] #[.int .i64 x.seq, .int .i64 x.cls, .int .i64 x.key, .int .i64 x.window, .int .i64 x.sk.count, .int .i64 x.sk.sum, .int .i64 x.sk.min, .int .i64 x.sk.max, .slice a1 n1 c1, .slice a2 n2 c2, .slice a3 n3 c3] 33 rfl rfl rfl rfl (by kernel_rfl) rfl (by simp [Value.oneCell']) ?_
  intro W2 hg2 hb2
  have HL : Hid (LocI w q a len cap zs i1 h1 w1.heap.size #[.int .i64 x.seq, .int .i64 x.cls, .int .i64 x.key, .int .i64 x.window, .int .i64 x.sk.count, .int .i64 x.sk.sum, .int .i64 x.sk.min, .int .i64 x.sk.max, .slice a1 n1 c1, .slice a2 n2 c2, .slice a3 n3 c3] x F W2) := ⟨H1.out.below hb2, hg2, HX.out.1.below hb2, HX.out.2.2.below HX.out.1.lt hb2, fun hx => by have := HX.out.1.lt _ hx; omega, H1.out.res.lt, HX.out.2.1⟩
  obtain ⟨L, hLe⟩ : ∃ L, L = w1.heap.size := ⟨_, rfl⟩
  rw [← hLe] at HL ⊢
  have hLgt : w.heap.size < L := HL.out.gt
  clear hg2 hb2 H1 HX hLe
  go_wp2_with fail
  refine (l1Below_any q a len cap zs i1 h1 14 _ HL.out.held.cur hlen (by omega) (by omega)).mono ?_
  rintro e w3 ⟨n, i3, h3, rfl, n0, n14, C3, g3⟩
  have HL3 : Hid (LocI w q a len cap zs i3 h3 L #[.int .i64 x.seq, .int .i64 x.cls, .int .i64 x.key, .int .i64 x.window, .int .i64 x.sk.count, .int .i64 x.sk.sum, .int .i64 x.sk.min, .int .i64 x.sk.max, .slice a1 n1 c1, .slice a2 n2 c2, .slice a3 n3 c3] x F w3) := HL.out.next hq C3 g3
  clear C3 g3 HL
  by_cases qn0 : n = 0
  · subst qn0
    go_wp2_with fail
    refine (pickInt_cur q w3.heap.size 4 a len cap zs i3 h3 [0, 60, 61, -1] _ (HL3.out.held.cur.alloc _) hlen (fun j hj => lit_ints w3 [0, 60, 61, -1] _ j hj) (by have := HL3.out.held.grown.size; omega) 4 rfl (by omega) (by omega)).mono ?_
    rintro e w4 ⟨y, i4, h4, _, rfl, C4, g4⟩
    have HL4 : Hid (LocI w q a len cap zs i4 h4 L #[.int .i64 x.seq, .int .i64 x.cls, .int .i64 x.key, .int .i64 x.window, .int .i64 x.sk.count, .int .i64 x.sk.sum, .int .i64 x.sk.min, .int .i64 x.sk.max, .slice a1 n1 c1, .slice a2 n2 c2, .slice a3 n3 c3] x F w4) := (HL3.out.below ((Below.refl _ _).alloc (Nat.le_refl _) _)).next hq C4 g4
    have cc := HL4.out.loc.cell 0
    have ff := HL4.out.loc.frozen 0
    simp only [aT, aZ] at cc
    clear C4 g4 HL3
    go_wp2_with (first | go_skip | (with_reducible refine stopLoad 33 rfl ?_))
    have HL5 : Hid (LocI w q a len cap zs i4 h4 L #[.int .i64 y, .int .i64 x.cls, .int .i64 x.key, .int .i64 x.window, .int .i64 x.sk.count, .int .i64 x.sk.sum, .int .i64 x.sk.min, .int .i64 x.sk.max, .slice a1 n1 c1, .slice a2 n2 c2, .slice a3 n3 c3] ⟨y, x.cls, x.key, x.window, x.sk⟩ F (w4.setCell ⟨L, 0, none⟩ (.int .i64 y))) := HL4.out.set hq HA.out 0 _ (by simp) (by
      have hrr := HL4.out.rd.agree (.set HL4.out.apart 0 (.int .i64 y))
      obtain ⟨b1, m1, d1, b2, m2, d2, b3, m3, d3, ev, hs⟩ := hrr
      simp at ev
      obtain ⟨⟨rfl, rfl, rfl⟩, ⟨rfl, rfl, rfl⟩, rfl, rfl, rfl⟩ := ev
      exact ⟨_, _, _, _, _, _, _, _, _, rfl, hs⟩) rfl
    obtain ⟨W5, hW5⟩ : ∃ W, W = w4.setCell ⟨L, 0, none⟩ (.int .i64 y) := ⟨_, rfl⟩
    rw [← hW5] at HL5 ⊢
    clear hW5 HL4 cc ff
    refine load_any 33 L _ 33 _ HL5.out.loc rfl rfl rfl Tryz.underlying33 rfl (by kernel_rfl) ?_
    go_wp2_with (first | go_skip | (with_reducible refine stopStore 33 rfl ?_))
    refine store_known 33 w.heap.size _ #[.int .i64 y, .int .i64 x.cls, .int .i64 x.key, .int .i64 x.window, .int .i64 x.sk.count, .int .i64 x.sk.sum, .int .i64 x.sk.min, .int .i64 x.sk.max, .slice a1 n1 c1, .slice a2 n2 c2, .slice a3 n3 c3] 33 HL5.out.held.res rfl rfl rfl rfl (by kernel_rfl) rfl (by simp [Value.oneCell']) ?_
    obtain ⟨E, hE⟩ : ∃ E : Array Value, E = #[.int .i64 y, .int .i64 x.cls, .int .i64 x.key, .int .i64 x.window, .int .i64 x.sk.count, .int .i64 x.sk.sum, .int .i64 x.sk.min, .int .i64 x.sk.max, .slice a1 n1 c1, .slice a2 n2 c2, .slice a3 n3 c3] := ⟨_, rfl⟩
    have HZ := HL5.out.done hq HA.out
    rw [← hE] at HZ ⊢
    have HE : Hid (DrewItem w q a len cap zs (.returned (.agg E)) (W5.setRow w.heap.size E) ∧ E.size = 11 ∧ Blk (W5.setRow w.heap.size E) w.heap.size E 33) := ⟨HZ, by rw [hE]; rfl, HL5.out.held.res.setRow⟩
    clear hE HZ
    go_wp2
    refine bodyPost_ret (results_cell_row Tryz.results60 _ _ w.heap.size _ _ (0, 0) _ rfl HE.out.2.2 Tryz.underlying33 rfl (by rw [HE.out.2.1]; exact infoItA)) rfl ?_
    exact HE.out.1
  by_cases qn1 : n = 1
  · subst qn1
    go_wp2_with fail
    refine (pickInt_cur q w3.heap.size 2 a len cap zs i3 h3 [-1, 2] _ (HL3.out.held.cur.alloc _) hlen (fun j hj => lit_ints w3 [-1, 2] _ j hj) (by have := HL3.out.held.grown.size; omega) 2 rfl (by omega) (by omega)).mono ?_
    rintro e w4 ⟨y, i4, h4, _, rfl, C4, g4⟩
    have HL4 : Hid (LocI w q a len cap zs i4 h4 L #[.int .i64 x.seq, .int .i64 x.cls, .int .i64 x.key, .int .i64 x.window, .int .i64 x.sk.count, .int .i64 x.sk.sum, .int .i64 x.sk.min, .int .i64 x.sk.max, .slice a1 n1 c1, .slice a2 n2 c2, .slice a3 n3 c3] x F w4) := (HL3.out.below ((Below.refl _ _).alloc (Nat.le_refl _) _)).next hq C4 g4
    have cc := HL4.out.loc.cell 1
    have ff := HL4.out.loc.frozen 1
    simp only [aT, aS, aZ] at cc
    clear C4 g4 HL3
    go_wp2_with (first | go_skip | (with_reducible refine stopLoad 33 rfl ?_))
    have HL5 : Hid (LocI w q a len cap zs i4 h4 L #[.int .i64 x.seq, .int .i64 y, .int .i64 x.key, .int .i64 x.window, .int .i64 x.sk.count, .int .i64 x.sk.sum, .int .i64 x.sk.min, .int .i64 x.sk.max, .slice a1 n1 c1, .slice a2 n2 c2, .slice a3 n3 c3] ⟨x.seq, y, x.key, x.window, x.sk⟩ F (w4.setCell ⟨L, 1, none⟩ (.int .i64 y))) := HL4.out.set hq HA.out 1 _ (by simp) (by
      have hrr := HL4.out.rd.agree (.set HL4.out.apart 1 (.int .i64 y))
      obtain ⟨b1, m1, d1, b2, m2, d2, b3, m3, d3, ev, hs⟩ := hrr
      simp at ev
      obtain ⟨⟨rfl, rfl, rfl⟩, ⟨rfl, rfl, rfl⟩, rfl, rfl, rfl⟩ := ev
      exact ⟨_, _, _, _, _, _, _, _, _, rfl, hs⟩) rfl
    obtain ⟨W5, hW5⟩ : ∃ W, W = w4.setCell ⟨L, 1, none⟩ (.int .i64 y) := ⟨_, rfl⟩
    rw [← hW5] at HL5 ⊢
    clear hW5 HL4 cc ff
    refine load_any 33 L _ 33 _ HL5.out.loc rfl rfl rfl Tryz.underlying33 rfl (by kernel_rfl) ?_
    go_wp2_with (first | go_skip | (with_reducible refine stopStore 33 rfl ?_))
    refine store_known 33 w.heap.size _ #[.int .i64 x.seq, .int .i64 y, .int .i64 x.key, .int .i64 x.window, .int .i64 x.sk.count, .int .i64 x.sk.sum, .int .i64 x.sk.min, .int .i64 x.sk.max, .slice a1 n1 c1, .slice a2 n2 c2, .slice a3 n3 c3] 33 HL5.out.held.res rfl rfl rfl rfl (by kernel_rfl) rfl (by simp [Value.oneCell']) ?_
    obtain ⟨E, hE⟩ : ∃ E : Array Value, E = #[.int .i64 x.seq, .int .i64 y, .int .i64 x.key, .int .i64 x.window, .int .i64 x.sk.count, .int .i64 x.sk.sum, .int .i64 x.sk.min, .int .i64 x.sk.max, .slice a1 n1 c1, .slice a2 n2 c2, .slice a3 n3 c3] := ⟨_, rfl⟩
    have HZ := HL5.out.done hq HA.out
    rw [← hE] at HZ ⊢
    have HE : Hid (DrewItem w q a len cap zs (.returned (.agg E)) (W5.setRow w.heap.size E) ∧ E.size = 11 ∧ Blk (W5.setRow w.heap.size E) w.heap.size E 33) := ⟨HZ, by rw [hE]; rfl, HL5.out.held.res.setRow⟩
    clear hE HZ
    go_wp2
    refine bodyPost_ret (results_cell_row Tryz.results60 _ _ w.heap.size _ _ (0, 0) _ rfl HE.out.2.2 Tryz.underlying33 rfl (by rw [HE.out.2.1]; exact infoItA)) rfl ?_
    exact HE.out.1
  by_cases qn2 : n = 2
  · subst qn2
    go_wp2_with fail
    refine (pickInt_cur q w3.heap.size 3 a len cap zs i3 h3 [-1, 4, 5] _ (HL3.out.held.cur.alloc _) hlen (fun j hj => lit_ints w3 [-1, 4, 5] _ j hj) (by have := HL3.out.held.grown.size; omega) 3 rfl (by omega) (by omega)).mono ?_
    rintro e w4 ⟨y, i4, h4, _, rfl, C4, g4⟩
    have HL4 : Hid (LocI w q a len cap zs i4 h4 L #[.int .i64 x.seq, .int .i64 x.cls, .int .i64 x.key, .int .i64 x.window, .int .i64 x.sk.count, .int .i64 x.sk.sum, .int .i64 x.sk.min, .int .i64 x.sk.max, .slice a1 n1 c1, .slice a2 n2 c2, .slice a3 n3 c3] x F w4) := (HL3.out.below ((Below.refl _ _).alloc (Nat.le_refl _) _)).next hq C4 g4
    have cc := HL4.out.loc.cell 2
    have ff := HL4.out.loc.frozen 2
    simp only [aT, aS, aZ] at cc
    clear C4 g4 HL3
    go_wp2_with (first | go_skip | (with_reducible refine stopLoad 33 rfl ?_))
    have HL5 : Hid (LocI w q a len cap zs i4 h4 L #[.int .i64 x.seq, .int .i64 x.cls, .int .i64 y, .int .i64 x.window, .int .i64 x.sk.count, .int .i64 x.sk.sum, .int .i64 x.sk.min, .int .i64 x.sk.max, .slice a1 n1 c1, .slice a2 n2 c2, .slice a3 n3 c3] ⟨x.seq, x.cls, y, x.window, x.sk⟩ F (w4.setCell ⟨L, 2, none⟩ (.int .i64 y))) := HL4.out.set hq HA.out 2 _ (by simp) (by
      have hrr := HL4.out.rd.agree (.set HL4.out.apart 2 (.int .i64 y))
      obtain ⟨b1, m1, d1, b2, m2, d2, b3, m3, d3, ev, hs⟩ := hrr
      simp at ev
      obtain ⟨⟨rfl, rfl, rfl⟩, ⟨rfl, rfl, rfl⟩, rfl, rfl, rfl⟩ := ev
      exact ⟨_, _, _, _, _, _, _, _, _, rfl, hs⟩) rfl
    obtain ⟨W5, hW5⟩ : ∃ W, W = w4.setCell ⟨L, 2, none⟩ (.int .i64 y) := ⟨_, rfl⟩
    rw [← hW5] at HL5 ⊢
    clear hW5 HL4 cc ff
    refine load_any 33 L _ 33 _ HL5.out.loc rfl rfl rfl Tryz.underlying33 rfl (by kernel_rfl) ?_
    go_wp2_with (first | go_skip | (with_reducible refine stopStore 33 rfl ?_))
    refine store_known 33 w.heap.size _ #[.int .i64 x.seq, .int .i64 x.cls, .int .i64 y, .int .i64 x.window, .int .i64 x.sk.count, .int .i64 x.sk.sum, .int .i64 x.sk.min, .int .i64 x.sk.max, .slice a1 n1 c1, .slice a2 n2 c2, .slice a3 n3 c3] 33 HL5.out.held.res rfl rfl rfl rfl (by kernel_rfl) rfl (by simp [Value.oneCell']) ?_
    obtain ⟨E, hE⟩ : ∃ E : Array Value, E = #[.int .i64 x.seq, .int .i64 x.cls, .int .i64 y, .int .i64 x.window, .int .i64 x.sk.count, .int .i64 x.sk.sum, .int .i64 x.sk.min, .int .i64 x.sk.max, .slice a1 n1 c1, .slice a2 n2 c2, .slice a3 n3 c3] := ⟨_, rfl⟩
    have HZ := HL5.out.done hq HA.out
    rw [← hE] at HZ ⊢
    have HE : Hid (DrewItem w q a len cap zs (.returned (.agg E)) (W5.setRow w.heap.size E) ∧ E.size = 11 ∧ Blk (W5.setRow w.heap.size E) w.heap.size E 33) := ⟨HZ, by rw [hE]; rfl, HL5.out.held.res.setRow⟩
    clear hE HZ
    go_wp2
    refine bodyPost_ret (results_cell_row Tryz.results60 _ _ w.heap.size _ _ (0, 0) _ rfl HE.out.2.2 Tryz.underlying33 rfl (by rw [HE.out.2.1]; exact infoItA)) rfl ?_
    exact HE.out.1
  by_cases qn3 : n = 3
  · subst qn3
    go_wp2_with fail
    refine (pickInt_cur q w3.heap.size 3 a len cap zs i3 h3 [-1, 20, 21] _ (HL3.out.held.cur.alloc _) hlen (fun j hj => lit_ints w3 [-1, 20, 21] _ j hj) (by have := HL3.out.held.grown.size; omega) 3 rfl (by omega) (by omega)).mono ?_
    rintro e w4 ⟨y, i4, h4, _, rfl, C4, g4⟩
    have HL4 : Hid (LocI w q a len cap zs i4 h4 L #[.int .i64 x.seq, .int .i64 x.cls, .int .i64 x.key, .int .i64 x.window, .int .i64 x.sk.count, .int .i64 x.sk.sum, .int .i64 x.sk.min, .int .i64 x.sk.max, .slice a1 n1 c1, .slice a2 n2 c2, .slice a3 n3 c3] x F w4) := (HL3.out.below ((Below.refl _ _).alloc (Nat.le_refl _) _)).next hq C4 g4
    have cc := HL4.out.loc.cell 3
    have ff := HL4.out.loc.frozen 3
    simp only [aT, aS, aZ] at cc
    clear C4 g4 HL3
    go_wp2_with (first | go_skip | (with_reducible refine stopLoad 33 rfl ?_))
    have HL5 : Hid (LocI w q a len cap zs i4 h4 L #[.int .i64 x.seq, .int .i64 x.cls, .int .i64 x.key, .int .i64 y, .int .i64 x.sk.count, .int .i64 x.sk.sum, .int .i64 x.sk.min, .int .i64 x.sk.max, .slice a1 n1 c1, .slice a2 n2 c2, .slice a3 n3 c3] ⟨x.seq, x.cls, x.key, y, x.sk⟩ F (w4.setCell ⟨L, 3, none⟩ (.int .i64 y))) := HL4.out.set hq HA.out 3 _ (by simp) (by
      have hrr := HL4.out.rd.agree (.set HL4.out.apart 3 (.int .i64 y))
      obtain ⟨b1, m1, d1, b2, m2, d2, b3, m3, d3, ev, hs⟩ := hrr
      simp at ev
      obtain ⟨⟨rfl, rfl, rfl⟩, ⟨rfl, rfl, rfl⟩, rfl, rfl, rfl⟩ := ev
      exact ⟨_, _, _, _, _, _, _, _, _, rfl, hs⟩) rfl
    obtain ⟨W5, hW5⟩ : ∃ W, W = w4.setCell ⟨L, 3, none⟩ (.int .i64 y) := ⟨_, rfl⟩
    rw [← hW5] at HL5 ⊢
    clear hW5 HL4 cc ff
    refine load_any 33 L _ 33 _ HL5.out.loc rfl rfl rfl Tryz.underlying33 rfl (by kernel_rfl) ?_
    go_wp2_with (first | go_skip | (with_reducible refine stopStore 33 rfl ?_))
    refine store_known 33 w.heap.size _ #[.int .i64 x.seq, .int .i64 x.cls, .int .i64 x.key, .int .i64 y, .int .i64 x.sk.count, .int .i64 x.sk.sum, .int .i64 x.sk.min, .int .i64 x.sk.max, .slice a1 n1 c1, .slice a2 n2 c2, .slice a3 n3 c3] 33 HL5.out.held.res rfl rfl rfl rfl (by kernel_rfl) rfl (by simp [Value.oneCell']) ?_
    obtain ⟨E, hE⟩ : ∃ E : Array Value, E = #[.int .i64 x.seq, .int .i64 x.cls, .int .i64 x.key, .int .i64 y, .int .i64 x.sk.count, .int .i64 x.sk.sum, .int .i64 x.sk.min, .int .i64 x.sk.max, .slice a1 n1 c1, .slice a2 n2 c2, .slice a3 n3 c3] := ⟨_, rfl⟩
    have HZ := HL5.out.done hq HA.out
    rw [← hE] at HZ ⊢
    have HE : Hid (DrewItem w q a len cap zs (.returned (.agg E)) (W5.setRow w.heap.size E) ∧ E.size = 11 ∧ Blk (W5.setRow w.heap.size E) w.heap.size E 33) := ⟨HZ, by rw [hE]; rfl, HL5.out.held.res.setRow⟩
    clear hE HZ
    go_wp2
    refine bodyPost_ret (results_cell_row Tryz.results60 _ _ w.heap.size _ _ (0, 0) _ rfl HE.out.2.2 Tryz.underlying33 rfl (by rw [HE.out.2.1]; exact infoItA)) rfl ?_
    exact HE.out.1
  by_cases qn4 : n = 4
  · subst qn4
    go_wp2_with fail
    refine (l3Draw_any q a len cap zs i3 h3 _ HL3.out.held.cur hlen).mono ?_
    rintro e w4 ⟨v4, s, F4, i4, h4, rfl, r4, f4, o4, C4, g4⟩
    obtain ⟨e1, r1, f1, e2, r2, f2, e3, r3, f3, rfl⟩ := r4.cells7
    have HL4 : Hid (LocI w q a len cap zs i4 h4 L #[.int .i64 x.seq, .int .i64 x.cls, .int .i64 x.key, .int .i64 x.window, .int .i64 x.sk.count, .int .i64 x.sk.sum, .int .i64 x.sk.min, .int .i64 x.sk.max, .slice a1 n1 c1, .slice a2 n2 c2, .slice a3 n3 c3] x F w4) := HL3.out.next hq C4 g4
    have HS4 : Hid (RdSk w4 (.agg #[.int .i64 s.count, .int .i64 s.sum, .int .i64 s.min, .int .i64 s.max, .slice e1 r1 f1, .slice e2 r2 f2, .slice e3 r3 f3]) s F4 ∧ s.full ∧ Own (w.heap.size + 1) w4 F4 ∧ L ∉ F4) := ⟨r4, f4, o4.mono (by have := HL3.out.loc.lt; omega), fun hx => by have := o4.ge _ hx; have := HL3.out.loc.lt; omega⟩
    clear C4 g4 r4 f4 o4 HL3
    go_wp2_with (first | go_skip | (with_reducible refine stopStore 31 rfl ?_))
    refine store_cut 31 L 4 _ #[.int .i64 s.count, .int .i64 s.sum, .int .i64 s.min, .int .i64 s.max, .slice e1 r1 f1, .slice e2 r2 f2, .slice e3 r3 f3] #[.int .i64 x.seq, .int .i64 x.cls, .int .i64 x.key, .int .i64 x.window, .int .i64 s.count, .int .i64 s.sum, .int .i64 s.min, .int .i64 s.max, .slice e1 r1 f1, .slice e2 r2 f2, .slice e3 r3 f3] 33 HL4.out.loc rfl rfl rfl rfl infoSkI (by simp) (one7 ..) (by simp [cutIn]) ?_
    have HL5 : Hid (LocI w q a len cap zs i4 h4 L #[.int .i64 x.seq, .int .i64 x.cls, .int .i64 x.key, .int .i64 x.window, .int .i64 s.count, .int .i64 s.sum, .int .i64 s.min, .int .i64 s.max, .slice e1 r1 f1, .slice e2 r2 f2, .slice e3 r3 f3] ⟨x.seq, x.cls, x.key, x.window, s⟩ F4 (w4.setRow L #[.int .i64 x.seq, .int .i64 x.cls, .int .i64 x.key, .int .i64 x.window, .int .i64 s.count, .int .i64 s.sum, .int .i64 s.min, .int .i64 s.max, .slice e1 r1 f1, .slice e2 r2 f2, .slice e3 r3 f3])) := by
      have ag : Agree w4 (w4.setRow L #[.int .i64 x.seq, .int .i64 x.cls, .int .i64 x.key, .int .i64 x.window, .int .i64 s.count, .int .i64 s.sum, .int .i64 s.min, .int .i64 s.max, .slice e1 r1 f1, .slice e2 r2 f2, .slice e3 r3 f3]) F4 := Agree.row HS4.out.2.2.2 _
      exact ⟨⟨HL4.out.held.res.setRowOther (by omega), cur_row HL4.out.held.cur (by omega) (fun b hb => by have := HA.out b hb; omega), grown_row HL4.out.held.grown (by omega)⟩, HL4.out.loc.setRow, ⟨_, _, _, _, _, _, _, _, _, rfl, HS4.out.1.agree ag⟩, HS4.out.2.2.1.agree ag, HS4.out.2.2.2, hLgt, HS4.out.2.1⟩
    obtain ⟨W5, hW5⟩ : ∃ W, W = w4.setRow L #[.int .i64 x.seq, .int .i64 x.cls, .int .i64 x.key, .int .i64 x.window, .int .i64 s.count, .int .i64 s.sum, .int .i64 s.min, .int .i64 s.max, .slice e1 r1 f1, .slice e2 r2 f2, .slice e3 r3 f3] := ⟨_, rfl⟩
    rw [← hW5] at HL5 ⊢
    clear hW5 HL4 HS4
    go_wp2_with (first | go_skip | (with_reducible refine stopLoad 33 rfl ?_))
    refine load_any 33 L _ 33 _ HL5.out.loc rfl rfl rfl Tryz.underlying33 rfl (by kernel_rfl) ?_
    go_wp2_with (first | go_skip | (with_reducible refine stopStore 33 rfl ?_))
    refine store_known 33 w.heap.size _ #[.int .i64 x.seq, .int .i64 x.cls, .int .i64 x.key, .int .i64 x.window, .int .i64 s.count, .int .i64 s.sum, .int .i64 s.min, .int .i64 s.max, .slice e1 r1 f1, .slice e2 r2 f2, .slice e3 r3 f3] 33 HL5.out.held.res rfl rfl rfl rfl (by kernel_rfl) rfl (by simp [Value.oneCell']) ?_
    obtain ⟨E, hE⟩ : ∃ E : Array Value, E = #[.int .i64 x.seq, .int .i64 x.cls, .int .i64 x.key, .int .i64 x.window, .int .i64 s.count, .int .i64 s.sum, .int .i64 s.min, .int .i64 s.max, .slice e1 r1 f1, .slice e2 r2 f2, .slice e3 r3 f3] := ⟨_, rfl⟩
    have HZ := HL5.out.done hq HA.out
    rw [← hE] at HZ ⊢
    have HE : Hid (DrewItem w q a len cap zs (.returned (.agg E)) (W5.setRow w.heap.size E) ∧ E.size = 11 ∧ Blk (W5.setRow w.heap.size E) w.heap.size E 33) := ⟨HZ, by rw [hE]; rfl, HL5.out.held.res.setRow⟩
    clear hE HZ
    go_wp2
    refine bodyPost_ret (results_cell_row Tryz.results60 _ _ w.heap.size _ _ (0, 0) _ rfl HE.out.2.2 Tryz.underlying33 rfl (by rw [HE.out.2.1]; exact infoItA)) rfl ?_
    exact HE.out.1
  have z0 : (n == 0) = false := by simp; omega
  have z1 : (n == 1) = false := by simp; omega
  have z2 : (n == 2) = false := by simp; omega
  have z3 : (n == 3) = false := by simp; omega
  have z4 : (n == 4) = false := by simp; omega
  clear qn0 qn1 qn2 qn3 qn4
  go_wp2_with (first | go_skip | (with_reducible refine stopLoad 33 rfl ?_))
  refine load_any 33 L _ 33 _ HL3.out.loc rfl rfl rfl Tryz.underlying33 rfl (by kernel_rfl) ?_
  go_wp2_with (first | go_skip | (with_reducible refine stopStore 33 rfl ?_))
  refine store_known 33 w.heap.size _ #[.int .i64 x.seq, .int .i64 x.cls, .int .i64 x.key, .int .i64 x.window, .int .i64 x.sk.count, .int .i64 x.sk.sum, .int .i64 x.sk.min, .int .i64 x.sk.max, .slice a1 n1 c1, .slice a2 n2 c2, .slice a3 n3 c3] 33 HL3.out.held.res rfl rfl rfl rfl (by kernel_rfl) rfl (by simp [Value.oneCell']) ?_
  obtain ⟨E, hE⟩ : ∃ E : Array Value, E = #[.int .i64 x.seq, .int .i64 x.cls, .int .i64 x.key, .int .i64 x.window, .int .i64 x.sk.count, .int .i64 x.sk.sum, .int .i64 x.sk.min, .int .i64 x.sk.max, .slice a1 n1 c1, .slice a2 n2 c2, .slice a3 n3 c3] := ⟨_, rfl⟩
  have HZ := HL3.out.done hq HA.out
  rw [← hE] at HZ ⊢
  have HE : Hid (DrewItem w q a len cap zs (.returned (.agg E)) (w3.setRow w.heap.size E) ∧ E.size = 11 ∧ Blk (w3.setRow w.heap.size E) w.heap.size E 33) := ⟨HZ, by rw [hE]; rfl, HL3.out.held.res.setRow⟩
  clear hE HZ
  go_wp2
  refine bodyPost_ret (results_cell_row Tryz.results60 _ _ w.heap.size _ _ (0, 0) _ rfl HE.out.2.2 Tryz.underlying33 rfl (by rw [HE.out.2.1]; exact infoItA)) rfl ?_
  exact HE.out.1
end Go.Proofs.YtgkbhhlkaifnoaaGreatDoor
/- The walks through the model's SetSize and SetApart. No statement of the seat is proved here. -/
namespace Go.Proofs.YtgkbhhlkaifnoaaGreatDoor
open Go.RowKit
def Sp.sum (ps : Sp) : Int := (ps.map fun p => p.2 - p.1 + 1).sum
def Sp.size (ps : Sp) : Int := if ps.ok = true then ps.sum else 0
def meet (p q : Int × Int) : Bool := decide (p.1 ≤ q.2 ∧ q.1 ≤ p.2)
def Sp.apart (ps qs : Sp) : Bool := ps.ok && qs.ok && ps.all fun p => qs.all fun q => !meet p q
end Go.Proofs.YtgkbhhlkaifnoaaGreatDoor
/- The walk through the model's SetApart. No statement of the seat is proved here. -/
namespace Go.Proofs.YtgkbhhlkaifnoaaGreatDoor
open Go.RowKit
theorem QuietTo.trans {a b c : World} (h : QuietTo a b) (k : QuietTo b c) : QuietTo a c := by
  obtain ⟨m, rfl⟩ := h
  obtain ⟨n, rfl⟩ := k
  exact ⟨m + n, World.drewN_drewN ..⟩
end Go.Proofs.YtgkbhhlkaifnoaaGreatDoor
/- The walks through the model's putting of a span into a set, and what is made of it. No statement of the seat is proved here. -/
namespace Go.Proofs.YtgkbhhlkaifnoaaGreatDoor
open Go.RowKit
section
variable {P : Program} {ops : Array Oper} {Q : Exit → Act → World → Prop} {rest : List Oper} {a : Act} {w : World} {x y : Operand} {o : Oper}
theorem stopAppend2 {ts : Array TypeId} (_ho : o.op = .call { callee := .builtin .append, args := #[x, y], argTypes := ts }) (h : Stop (wpList P ops Q (o :: rest) a w)) : wpList P ops Q (o :: rest) a w := h
end
theorem rdP_of_own {w : World} {B e n : Nat} {v : Value} {ps : Sp} (h : w.ownsRow B e 2 v n ((flat ps).map (Value.int .i64))) : ∃ a cap F, v = .slice a n cap ∧ RdP w a n ps F ∧ Own B w F ∧ Capd a n cap := by
  rcases h.2 with ⟨h1, h2⟩ | ⟨g, cap, cur, h1, _, _, hcap, _⟩
  · subst h2
    have hl : (flat ps).length = 0 := by simpa using h.1
    rw [flat_length] at hl
    obtain rfl : ps = [] := List.eq_nil_of_length_eq_zero (by omega)
    exact ⟨none, 0, [], h1, RdP.nil, Own.nil, fun _ => rfl, Nat.le_refl _⟩
  · subst h1
    obtain ⟨F, hr, ho, _⟩ := RdP.of_own h
    exact ⟨_, cap, F, rfl, hr, ho, (fun e => by cases e), hcap⟩
theorem own_mono {w : World} {B B' e size n : Nat} {v : Value} {xs : List Value} (h : w.ownsRow B e size v n xs) (hB : B' ≤ B) : w.ownsRow B' e size v n xs := by
  refine ⟨h.1, ?_⟩
  rcases h.2 with e | ⟨g, cap, cur, h1, h2, h3⟩
  · exact .inl e
  · exact .inr ⟨g, cap, cur, h1, Nat.le_trans hB h2, h3⟩
theorem own_empty2 (w : World) (e : TypeId) : (w.alloc (.cells #[] e)).ownsRow w.heap.size e 2 (.slice (some ⟨w.heap.size, 0, none⟩) 0 0) 0 [] :=
  ⟨rfl, .inr ⟨w.heap.size, 0, #[], rfl, Nat.le_refl _, Blk.made w #[] e, Nat.le_refl _, by simp, rfl, rfl⟩⟩
theorem cell_new2 (w : World) (u v : Value) (t : TypeId) : ∀ (j : Nat) (x : Value), [u, v][j]? = some x → (w.alloc (.cells #[u, v] t)).cell? ((⟨w.heap.size, 0, none⟩ : Addr).add j) = some x := by
  intro j x hx
  match j, hx with
  | 0, hx =>
    obtain rfl : u = x := by simpa using hx
    simp [Addr.add]
  | 1, hx =>
    obtain rfl : v = x := by simpa using hx
    simp [Addr.add]
  | j + 2, hx => simp at hx
/-- What is put behind what has come: the rest of the set, the span, whether it has been put. -/
def put : Sp → Int × Int → Bool → Sp
  | [], x, d => if d then [] else [x]
  | p :: ps, x, d => if p.2 + 1 < x.1 then p :: put ps x d else if x.2 + 1 < p.1 then (if d then [] else [x]) ++ p :: put ps x true else put ps (min x.1 p.1, max x.2 p.2) d
/-- All numbers are in bounds. -/
def InB (p : Int × Int) : Prop := (0 ≤ p.1 ∧ p.1 ≤ 9999) ∧ 0 ≤ p.2 ∧ p.2 ≤ 9999
theorem drop_at {ps : Sp} {k : Nat} (hk : k < ps.length) : ps.drop k = ps.at k :: ps.drop (k + 1) := by
  unfold Sp.at
  rw [List.drop_eq_getElem_cons hk, List.getElem?_eq_getElem hk]
  rfl
theorem put_a {ps : Sp} {k : Nat} {x : Int × Int} {d : Bool} (hk : k < ps.length) (h : (ps.at k).2 + 1 < x.1) : put (ps.drop k) x d = ps.at k :: put (ps.drop (k + 1)) x d := by rw [drop_at hk, put, if_pos h]
theorem put_b {ps : Sp} {k : Nat} {x : Int × Int} {d : Bool} (hk : k < ps.length) (h : ¬ (ps.at k).2 + 1 < x.1) (h2 : x.2 + 1 < (ps.at k).1) : put (ps.drop k) x d = (if d then [] else [x]) ++ ps.at k :: put (ps.drop (k + 1)) x true := by rw [drop_at hk, put, if_neg h, if_pos h2]
theorem put_c {ps : Sp} {k : Nat} {x : Int × Int} {d : Bool} (hk : k < ps.length) (h : ¬ (ps.at k).2 + 1 < x.1) (h2 : ¬ x.2 + 1 < (ps.at k).1) : put (ps.drop k) x d = put (ps.drop (k + 1)) (min x.1 (ps.at k).1, max x.2 (ps.at k).2) d := by rw [drop_at hk, put, if_neg h, if_neg h2]
theorem put_length : ∀ (ps : Sp) (x : Int × Int) (d : Bool), (put ps x d).length ≤ ps.length + 1
  | [], x, d => by cases d <;> simp [put]
  | p :: ps, x, d => by
    rw [put]
    split
    · have := put_length ps x d; simp; omega
    · split
      · cases d
        · have := put_true ps x; simp; omega
        · have := put_length ps x true; simp; omega
      · have := put_length ps (min x.1 p.1, max x.2 p.2) d; simp; omega
where put_true : ∀ (ps : Sp) (x : Int × Int), (put ps x true).length ≤ ps.length
  | [], x => by simp [put]
  | p :: ps, x => by
    rw [put]
    split
    · have := put_true ps x; simp; omega
    · split
      · have := put_true ps x; simp; omega
      · have := put_true ps (min x.1 p.1, max x.2 p.2); simp; omega
/-- Where the putting is: what has come, the span's box. -/
structure PutAt (w : World) (v : Value) (o : Sp) (x : Int × Int) (W : World) : Prop where
  own : W.ownsRow (w.heap.size + 1) 62 2 v o.length ((flat o).map (Value.int .i64))
  box : Blk W w.heap.size #[.int .i64 x.1, .int .i64 x.2] 62
  bel : Below w.heap.size w W
theorem PutAt.app {w W W6 : World} {v v' : Value} {o : Sp} {x : Int × Int} {p q : Int} (h : PutAt w v o x W) (hown : W6.ownsRow (w.heap.size + 1) 62 2 v' (o.length + 1) ((flat o).map (Value.int .i64) ++ [.int .i64 p, .int .i64 q])) (hgrow : (W.alloc (.cells #[.int .i64 p, .int .i64 q] 62)).grownBy W6 v.ownBlock) : PutAt w v' (o ++ [(p, q)]) x W6 := by
  have hne : ∀ k, v.ownBlock = some k → w.heap.size + 1 ≤ k := fun k hk => (h.own.lt k hk).1
  have hb : Below w.heap.size w (W.alloc (.cells #[.int .i64 p, .int .i64 q] 62)) := Below.allocW _ h.bel (Nat.le_refl _)
  refine ⟨?_, ?_, ?_⟩
  · rw [flat_append, List.map_append, List.length_append]
    exact hown
  · exact (h.box.alloc _).agree (hgrow.block _ (h.box.alloc _).lt (fun e => by have := hne _ e.symm; omega))
  · exact hb.grown hgrow hb.size (fun k hk => by have := hne k hk; omega)
theorem PutAt.drewN {w W : World} {v : Value} {o : Sp} {x : Int × Int} (h : PutAt w v o x W) (m : Nat) : PutAt w v o x (W.drewN m) := ⟨⟨h.own.1, h.own.2⟩, h.box, ⟨h.bel.os, h.bel.tape, h.bel.output, h.bel.size, h.bel.block⟩⟩
/-- A span lies in memory. -/
def SpanAt (b c : Nat) (p q : Int) (W : World) : Prop := W.cell? ⟨b, c, none⟩ = some (.int .i64 p) ∧ W.cell? ⟨b, c + 1, none⟩ = some (.int .i64 q)
theorem SpanAt.setRow {b c g : Nat} {p q : Int} {W : World} {cs : Array Value} (h : SpanAt b c p q W) (hn : b ≠ g) : SpanAt b c p q (W.setRow g cs) :=
  ⟨(World.cell?_of_block (w := W) (a := ⟨b, c, none⟩) (setRow_other W g b cs hn)).trans h.1, (World.cell?_of_block (w := W) (a := ⟨b, c + 1, none⟩) (setRow_other W g b cs hn)).trans h.2⟩
theorem PutAt.setBox {w W : World} {v : Value} {o : Sp} {x z : Int × Int} (h : PutAt w v o x W) : PutAt w v o z (W.setRow w.heap.size #[.int .i64 z.1, .int .i64 z.2]) := by
  refine ⟨⟨h.own.1, ?_⟩, h.box.setRow, below_setRow h.bel (Nat.le_refl _) _⟩
  rcases h.own.2 with e | ⟨g, cap, cur, h1, h2, h3, h4⟩
  · exact .inl e
  · exact .inr ⟨g, cap, cur, h1, h2, (setRow_other W _ g _ (by omega)).trans h3, h4⟩
set_option maxRecDepth 100000 in
set_option maxHeartbeats 8000000 in
theorem l5Put_own (a : Option Addr) (len cap : Nat) (ps : Sp) (x0 : Int × Int) (F : List Nat) (w : World) (h : RdP w a len ps F) (hlen : len ≤ 2097152) (hin : ∀ k, k < len → InB (ps.at k)) (hx : InB x0) :
    Calls Tryz.prog 55 #[.slice a len cap, .agg #[.int .i64 x0.1, .int .i64 x0.2]] w fun e w' => ∃ v, e = .returned v ∧ w'.ownsRow w.heap.size 62 2 v (put ps x0 false).length ((flat (put ps x0 false)).map (Value.int .i64)) ∧ Below w.heap.size w w' := by
  obtain ⟨t0, hi, hz0, hz1, hz2⟩ := info_parts infoSpan
  have HL : Hid (ps.length = len) := h.length
  have HIN : Hid ((∀ k, k < len → InB (ps.at k)) ∧ InB x0) := ⟨hin, hx⟩
  have HP0 : Hid (PutAt w (.slice (some ⟨w.heap.size + 1, 0, none⟩) 0 0) [] x0 ((w.alloc (.cells #[.int .i64 x0.1, .int .i64 x0.2] 62)).alloc (.cells #[] 62))) := by
    have e := own_empty2 (w.alloc (.cells #[.int .i64 x0.1, .int .i64 x0.2] 62)) 62
    simp only [World.size_alloc] at e
    exact ⟨e, (Blk.made _ _ _).alloc _, Below.allocW _ (Below.allocW _ (Below.refl _ _) (Nat.le_refl _)) (Nat.le_refl _)⟩
  have HC : Hid (len = 0 ∨ ∃ b off, a = some ⟨b, off, none⟩ ∧ b < w.heap.size ∧ SpCells w b off len ps) := by
    rcases h.cells with ⟨h0, _⟩ | ⟨b, off, hp, e, _, hc⟩
    · exact .inl h0
    · exact .inr ⟨b, off, e, World.block_lt_of_cell? _ _ (hc 0 hp).1, hc⟩
  clear h hin hx
  obtain ⟨xa, xb⟩ := x0
  go_enter Tryz.func55, Tryz.ntmps55
  go_wp2
  go_loopw [5, 6, 7] (fun v d i wr => ∃ (k : Nat) (o : Sp) (x : Int × Int) (f : Bool), k ≤ len ∧ i = .int .i64 k ∧ d = .bool f ∧ o.length ≤ k + 1 ∧ Hid (PutAt w v o x wr) ∧ Hid (InB x) ∧ Hid (o ++ put (ps.drop k) x f = put ps (xa, xb) false) ∧ Hid (f = false → o.length ≤ k)) (fun _ _ i _ => len - (intOf i).toNat)
  case atStart => exact ⟨0, [], (xa, xb), false, by omega, rfl, rfl, by simp, HP0, HIN.out.2, rfl, fun _ => by simp⟩
  case round =>
    clear HP0
    obtain ⟨k, o, ⟨x, y⟩, f, hk, rfl, rfl, hol, HP, HX, HN, HF⟩ := hrel
    obtain ⟨⟨x0, x1⟩, y0, y1⟩ := HX.out
    by_cases hlt : k < len
    · have hca := HC.out
      rcases hca with h0 | ⟨b, off, rfl, hbw, hc⟩
      · omega
      obtain ⟨p, hp⟩ : ∃ x, x = (ps.at k).1 := ⟨_, rfl⟩
      obtain ⟨q, hq⟩ : ∃ x, x = (ps.at k).2 := ⟨_, rfl⟩
      have e := hc k hlt
      have hb := HIN.out.1 k hlt
      have HPQ : Hid (ps.at k = (p, q)) := by rw [hp, hq]; rfl
      rw [HPQ.out] at hb e
      obtain ⟨⟨p0, p1⟩, q0, q1⟩ := hb
      have d1 : wr.cell? ⟨b, off + k * 2, none⟩ = some (.int .i64 p) := (HP.out.bel.cell (by exact hbw)).trans e.1
      have d2 : wr.cell? ⟨b, off + k * 2 + 1, none⟩ = some (.int .i64 q) := (HP.out.bel.cell (by exact hbw)).trans e.2
      have b1 : wr.cell? ⟨w.heap.size, 0, none⟩ = some (.int .i64 x) := by rw [HP.out.box.cell]; rfl
      have b2 : wr.cell? ⟨w.heap.size, 1, none⟩ = some (.int .i64 y) := by rw [HP.out.box.cell]; rfl
      have hI : (k : Int) < (len : Int) := by omega
      have hkl : k < ps.length := by rw [HL.out]; exact hlt
      clear e hp hq hc
      by_cases c1 : q + 1 < x
      · have c1d : decide (q + 1 < x) = true := decT c1
        have HN2 : Hid (o ++ [(p, q)] ++ put (ps.drop (k + 1)) (x, y) f = put ps (xa, xb) false) := by
          rw [put_a hkl (by rw [HPQ.out]; exact c1), HPQ.out] at HN
          show _ = _
          rw [← HN.out]; simp
        go_wp2
        go_quiet (fail)
        have HP1 : Hid (PutAt w u5 o (x, y) (wr.drewN nq)) := HP.out.drewN nq
        go_wp2_with (first | go_skip | (with_reducible refine stopAppend2 rfl ?_))
        refine Stop.intro (wpList_append_own _ rfl _ _ 25 rfl (w.heap.size + 1) 62 t0 (.agg #[.int .i64 0, .int .i64 0]) 2 16 Tryz.underlying25 hi hz0 hz1 hz2 rfl (by decide) _ (o).length ((flat (o)).map (Value.int .i64)) rfl (HP1.out.own.alloc _) ⟨(wr.drewN nq).heap.size, 0, none⟩ 1 1 [.int .i64 p, .int .i64 q] rfl rfl (cell_new2 _ _ _ _) (by intro u hu; simp at hu; rcases hu with rfl | rfl <;> rfl) (by unfold maxLen; omega) (by omega) (by have := HP1.out.box.lt; simp at this ⊢; omega) ?_)
        intro v2 w2 hown hgrow _
        have HP2 : Hid (PutAt w v2 (o ++ [(p, q)]) (x, y) w2) := HP1.out.app hown hgrow
        have HF2 : Hid (f = false → (o ++ [(p, q)]).length ≤ k + 1) := fun e => by have := HF.out e; simp; omega
        clear hown hgrow HP1
        go_wp2
        go_roundw
        case rel => exact ⟨k + 1, o ++ [(p, q)], (x, y), f, by omega, by go_num, rfl, by simp; omega, HP2, HX, HN2, HF2⟩
        case measure => simp [intOf]; omega
      have c1d : decide (q + 1 < x) = false := decF c1
      by_cases c2 : y + 1 < p
      · have c2d : decide (y + 1 < p) = true := decT c2
        cases f
        · have hol2 : o.length ≤ k := HF.out rfl
          have HN2 : Hid (o ++ [(x, y)] ++ [(p, q)] ++ put (ps.drop (k + 1)) (x, y) true = put ps (xa, xb) false) := by
            rw [put_b hkl (by rw [HPQ.out]; exact c1) (by rw [HPQ.out]; exact c2), HPQ.out] at HN
            show _ = _
            rw [← HN.out]; simp
          go_wp2
          go_quiet (fail)
          obtain ⟨wq, hwq⟩ : ∃ W, W = wr.drewN nq := ⟨_, rfl⟩
          have HPq : Hid (PutAt w u5 o (x, y) wq) := by rw [hwq]; exact HP.out.drewN nq
          have d1 : wq.cell? ⟨b, off + k * 2, none⟩ = some (.int .i64 p) := by rw [hwq]; exact d1
          have d2 : wq.cell? ⟨b, off + k * 2 + 1, none⟩ = some (.int .i64 q) := by rw [hwq]; exact d2
          have b1 : wq.cell? ⟨w.heap.size, 0, none⟩ = some (.int .i64 x) := by rw [hwq]; exact b1
          have b2 : wq.cell? ⟨w.heap.size, 1, none⟩ = some (.int .i64 y) := by rw [hwq]; exact b2
          rw [← hwq]
          clear HP hwq
          go_wp2
          go_quiet (fail)
          have HP1 : Hid (PutAt w u5 o (x, y) (wq.drewN nq)) := HPq.out.drewN nq
          go_wp2_with (first | go_skip | (with_reducible refine stopAppend2 rfl ?_))
          refine Stop.intro (wpList_append_own _ rfl _ _ 25 rfl (w.heap.size + 1) 62 t0 (.agg #[.int .i64 0, .int .i64 0]) 2 16 Tryz.underlying25 hi hz0 hz1 hz2 rfl (by decide) _ (o).length ((flat (o)).map (Value.int .i64)) rfl (HP1.out.own.alloc _) ⟨(wq.drewN nq).heap.size, 0, none⟩ 1 1 [.int .i64 x, .int .i64 y] rfl rfl (cell_new2 _ _ _ _) (by intro u hu; simp at hu; rcases hu with rfl | rfl <;> rfl) (by unfold maxLen; omega) (by omega) (by have := HP1.out.box.lt; simp at this ⊢; omega) ?_)
          intro v2 w2 hown hgrow _
          have HP2 : Hid (PutAt w v2 (o ++ [(x, y)]) (x, y) w2) := HP1.out.app hown hgrow
          have hl2 : (o ++ [(x, y)]).length = o.length + 1 := by simp
          have d1 : w2.cell? ⟨b, off + k * 2, none⟩ = some (.int .i64 p) := ((HP2.out.bel.cell (by exact hbw)).trans ((HPq.out.bel.cell (by exact hbw)).symm.trans d1))
          have d2 : w2.cell? ⟨b, off + k * 2 + 1, none⟩ = some (.int .i64 q) := ((HP2.out.bel.cell (by exact hbw)).trans ((HPq.out.bel.cell (by exact hbw)).symm.trans d2))
          obtain ⟨o2, ho2⟩ : ∃ o2, o2 = o ++ [(x, y)] := ⟨_, rfl⟩
          rw [← ho2] at HP2 hl2 HN2
          clear hown hgrow HP1 b1 b2 HPq
          go_wp2_with (first | go_skip | (with_reducible refine stopAppend2 rfl ?_))
          refine Stop.intro (wpList_append_own _ rfl _ _ 25 rfl (w.heap.size + 1) 62 t0 (.agg #[.int .i64 0, .int .i64 0]) 2 16 Tryz.underlying25 hi hz0 hz1 hz2 rfl (by decide) _ (o2).length ((flat (o2)).map (Value.int .i64)) rfl (HP2.out.own.alloc _) ⟨w2.heap.size, 0, none⟩ 1 1 [.int .i64 p, .int .i64 q] rfl rfl (cell_new2 _ _ _ _) (by intro u hu; simp at hu; rcases hu with rfl | rfl <;> rfl) (by unfold maxLen; omega) (by omega) (by have := HP2.out.box.lt; simp at this ⊢; omega) ?_)
          intro v3 w3 hown hgrow _
          have HP3 : Hid (PutAt w v3 (o2 ++ [(p, q)]) (x, y) w3) := HP2.out.app hown hgrow
          clear hown hgrow HP2
          go_wp2
          go_roundw
          case rel => exact ⟨k + 1, o2 ++ [(p, q)], (x, y), true, by omega, by go_num, rfl, by simp; omega, HP3, HX, HN2, fun e => by cases e⟩
          case measure => simp [intOf]; omega
        · have HN2 : Hid (o ++ [(p, q)] ++ put (ps.drop (k + 1)) (x, y) true = put ps (xa, xb) false) := by
            rw [put_b hkl (by rw [HPQ.out]; exact c1) (by rw [HPQ.out]; exact c2), HPQ.out] at HN
            show _ = _
            rw [← HN.out]; simp
          go_wp2
          go_quiet (fail)
          obtain ⟨wq, hwq⟩ : ∃ W, W = wr.drewN nq := ⟨_, rfl⟩
          have HPq : Hid (PutAt w u5 o (x, y) wq) := by rw [hwq]; exact HP.out.drewN nq
          have d1 : wq.cell? ⟨b, off + k * 2, none⟩ = some (.int .i64 p) := by rw [hwq]; exact d1
          have d2 : wq.cell? ⟨b, off + k * 2 + 1, none⟩ = some (.int .i64 q) := by rw [hwq]; exact d2
          have b1 : wq.cell? ⟨w.heap.size, 0, none⟩ = some (.int .i64 x) := by rw [hwq]; exact b1
          have b2 : wq.cell? ⟨w.heap.size, 1, none⟩ = some (.int .i64 y) := by rw [hwq]; exact b2
          rw [← hwq]
          clear HP hwq
          go_wp2
          go_quiet (fail)
          have HP1 : Hid (PutAt w u5 o (x, y) (wq.drewN nq)) := HPq.out.drewN nq
          go_wp2_with (first | go_skip | (with_reducible refine stopAppend2 rfl ?_))
          refine Stop.intro (wpList_append_own _ rfl _ _ 25 rfl (w.heap.size + 1) 62 t0 (.agg #[.int .i64 0, .int .i64 0]) 2 16 Tryz.underlying25 hi hz0 hz1 hz2 rfl (by decide) _ (o).length ((flat (o)).map (Value.int .i64)) rfl (HP1.out.own.alloc _) ⟨(wq.drewN nq).heap.size, 0, none⟩ 1 1 [.int .i64 p, .int .i64 q] rfl rfl (cell_new2 _ _ _ _) (by intro u hu; simp at hu; rcases hu with rfl | rfl <;> rfl) (by unfold maxLen; omega) (by omega) (by have := HP1.out.box.lt; simp at this ⊢; omega) ?_)
          intro v2 w2 hown hgrow _
          have HP2 : Hid (PutAt w v2 (o ++ [(p, q)]) (x, y) w2) := HP1.out.app hown hgrow
          clear hown hgrow HP1
          go_wp2
          go_roundw
          case rel => exact ⟨k + 1, o ++ [(p, q)], (x, y), true, by omega, by go_num, rfl, by simp; omega, HP2, HX, HN2, fun e => by cases e⟩
          case measure => simp [intOf]; omega
      have c2d : decide (y + 1 < p) = false := decF c2
      have HN2 : Hid (o ++ put (ps.drop (k + 1)) (min x p, max y q) f = put ps (xa, xb) false) := by
        rw [put_c hkl (by rw [HPQ.out]; exact c1) (by rw [HPQ.out]; exact c2), HPQ.out] at HN
        exact HN
      have HX2 : Hid (InB (min x p, max y q)) := by show InB _; unfold InB; simp only; omega
      go_wp2
      go_quiet (fail)
      obtain ⟨wq, hwq⟩ : ∃ W, W = wr.drewN nq := ⟨_, rfl⟩
      have HPq : Hid (PutAt w u5 o (x, y) wq) := by rw [hwq]; exact HP.out.drewN nq
      have d1 : wq.cell? ⟨b, off + k * 2, none⟩ = some (.int .i64 p) := by rw [hwq]; exact d1
      have d2 : wq.cell? ⟨b, off + k * 2 + 1, none⟩ = some (.int .i64 q) := by rw [hwq]; exact d2
      have b1 : wq.cell? ⟨w.heap.size, 0, none⟩ = some (.int .i64 x) := by rw [hwq]; exact b1
      have b2 : wq.cell? ⟨w.heap.size, 1, none⟩ = some (.int .i64 y) := by rw [hwq]; exact b2
      rw [← hwq]
      clear HP hwq
      go_wp2
      go_quiet (fail)
      have HP1 : Hid (PutAt w u5 o (x, y) (wq.drewN nq).drew) := (HPq.out.drewN nq).drewN 1
      have HS : Hid (((wq.drewN nq).drew.cell? ⟨w.heap.size, 0, none⟩ = some (.int .i64 x) ∧ (wq.drewN nq).drew.cell? ⟨w.heap.size, 1, none⟩ = some (.int .i64 y)) ∧ SpanAt b (off + k * 2) p q (wq.drewN nq).drew) := ⟨⟨b1, b2⟩, d1, d2⟩
      clear d1 d2 b1 b2 HPq
      go_wp2
      refine wp_region_held (S := SpanAt b (off + k * 2) p q) (by kernel_rfl) ?_
      change wpAnyH _ _ _ _ _ _ _ _ (World.drew _)
      refine takeH (o := ?o1) 0 (.pointer (some ⟨w.heap.size, 0, none⟩)) ?h1 ?r1
      case h1 => simp only [aT, aZ]; rfl
      refine ⟨_, by simp [Act.put]; rfl, by kernel_rfl, by kernel_rfl, by kernel_rfl, fun _ _ _ h => h, (.inl ⟨rfl, fun W _ => by go_simp⟩), HS.out.2, ?_⟩
      refine takeH (o := ?o2) 2 (.slice (some ⟨b, off, none⟩) len cap) ?h2 ?r2
      case h2 => simp only [aT, aS, aZ]; rfl
      refine ⟨_, by simp [Act.put]; rfl, by kernel_rfl, by kernel_rfl, by kernel_rfl, fun _ _ _ h => h, (.inl ⟨rfl, fun W _ => by go_simp⟩), HS.out.2, ?_⟩
      refine takeH (o := ?o3) 3 (.int .i64 k) ?h3 ?r3
      case h3 => simp only [aT, aS, aZ]; rfl
      refine ⟨_, by simp [Act.put]; rfl, by kernel_rfl, by kernel_rfl, by kernel_rfl, fun _ _ _ h => h, (.inl ⟨rfl, fun W _ => by go_simp⟩), HS.out.2, ?_⟩
      refine takeH (o := ?o4) 4 (.pointer (some ⟨b, off + k * 2, none⟩)) ?h4 ?r4
      case h4 => simp only [aT, aS, aZ]; rfl
      refine ⟨_, by simp [Act.put]; rfl, by kernel_rfl, by kernel_rfl, by kernel_rfl, fun _ _ _ h => h, (.inl ⟨rfl, fun W _ => by go_simp⟩), HS.out.2, ?_⟩
      refine takeH (o := ?o5) 5 (.pointer (some ⟨b, off + k * 2, none⟩)) ?h5 ?r5
      case h5 => simp only [aT, aS, aZ]; rfl
      refine ⟨_, by simp [Act.put]; rfl, by kernel_rfl, by kernel_rfl, by kernel_rfl, fun _ _ _ h => h, (.inl ⟨rfl, fun W _ => by go_simp⟩), HS.out.2, ?_⟩
      refine takeH (o := ?o6) 6 (.int .i64 p) ?h6 ?r6
      case h6 => simp only [aT, aS, aZ]; rfl
      refine ⟨_, by simp [Act.put]; rfl, by kernel_rfl, by kernel_rfl, by kernel_rfl, fun _ _ _ h => h, (.inl ⟨rfl, fun W hW => by have c := hW.1; go_simp⟩), HS.out.2, ?_⟩
      refine takeH (o := ?o7) 8 (.pointer (some ⟨w.heap.size, 1, none⟩)) ?h7 ?r7
      case h7 => simp only [aT, aS, aZ]; rfl
      refine ⟨_, by simp [Act.put]; rfl, by kernel_rfl, by kernel_rfl, by kernel_rfl, fun _ _ _ h => h, (.inl ⟨rfl, fun W _ => by go_simp⟩), HS.out.2, ?_⟩
      refine takeH (o := ?o8) 10 (.slice (some ⟨b, off, none⟩) len cap) ?h8 ?r8
      case h8 => simp only [aT, aS, aZ]; rfl
      refine ⟨_, by simp [Act.put]; rfl, by kernel_rfl, by kernel_rfl, by kernel_rfl, fun _ _ _ h => h, (.inl ⟨rfl, fun W _ => by go_simp⟩), HS.out.2, ?_⟩
      refine takeH (o := ?o9) 11 (.int .i64 k) ?h9 ?r9
      case h9 => simp only [aT, aS, aZ]; rfl
      refine ⟨_, by simp [Act.put]; rfl, by kernel_rfl, by kernel_rfl, by kernel_rfl, fun _ _ _ h => h, (.inl ⟨rfl, fun W _ => by go_simp⟩), HS.out.2, ?_⟩
      refine takeH (o := ?o10) 12 (.pointer (some ⟨b, off + k * 2, none⟩)) ?h10 ?r10
      case h10 => simp only [aT, aS, aZ]; rfl
      refine ⟨_, by simp [Act.put]; rfl, by kernel_rfl, by kernel_rfl, by kernel_rfl, fun _ _ _ h => h, (.inl ⟨rfl, fun W _ => by go_simp⟩), HS.out.2, ?_⟩
      refine takeH (o := ?o11) 13 (.pointer (some ⟨b, off + k * 2 + 1, none⟩)) ?h11 ?r11
      case h11 => simp only [aT, aS, aZ]; rfl
      refine ⟨_, by simp [Act.put]; rfl, by kernel_rfl, by kernel_rfl, by kernel_rfl, fun _ _ _ h => h, (.inl ⟨rfl, fun W _ => by go_simp⟩), HS.out.2, ?_⟩
      refine takeH (o := ?o12) 14 (.int .i64 q) ?h12 ?r12
      case h12 => simp only [aT, aS, aZ]; rfl
      refine ⟨_, by simp [Act.put]; rfl, by kernel_rfl, by kernel_rfl, by kernel_rfl, fun _ _ _ h => h, (.inl ⟨rfl, fun W hW => by have c := hW.2; go_simp⟩), HS.out.2, ?_⟩
      refine twoH (o := ?o13) (o' := ?p13) 1 9 (by kernel_rfl) ?h13 ?g13 ?r13 ?s13
      case h13 => simp only [aT, aS, aZ]; rfl
      case g13 => simp only [aT, aS, aZ]; rfl
      case r13 =>
        intro K hK
        refine op_value (.int .i64 x) rfl (by have c : wq.cell? ⟨w.heap.size, 0, none⟩ = some (.int .i64 x) := HS.out.1.1; go_simp) ⟨_, by simp [Act.put]; rfl, hK _ _ ⟨HS.out.2, ?_⟩⟩
        clear hK
        refine twoH (o := ?o14) (o' := ?p14) 7 9 (by kernel_rfl) ?h14 ?g14 ?r14 ?s14
        case h14 => simp only [aT, aS, aZ]; rfl
        case g14 => simp only [aT, aS, aZ]; rfl
        case r14 =>
          intro K hK
          refine op_call2 57 _ _ _ Tryz.f57 (fun w' => w' = (wq.drewN nq).drew) (.int .i64 (min x p)) rfl rfl Tryz.func57 (by kernel_rfl) (by kernel_rfl) (l1Min_any x p _) ⟨_, by simp [Act.put]; rfl, ?_⟩
          intro wc hwc
          subst hwc
          refine hK _ _ ⟨HS.out.2, ?_⟩
          clear hK
          refine onlyH (o := ?o15) 9 (by kernel_rfl) ?h15 ?r15
          case h15 => simp only [aT, aS, aZ]; rfl
          intro K hK
          refine op_value (.int .i64 y) rfl (by have c : wq.cell? ⟨w.heap.size, 1, none⟩ = some (.int .i64 y) := HS.out.1.2; go_simp) ⟨_, by simp [Act.put]; rfl, hK _ _ ⟨HS.out.2, ?_⟩⟩
          clear hK
          refine onlyH (o := ?o16) 15 (by kernel_rfl) ?h16 ?r16
          case h16 => simp only [aT, aS, aZ]; rfl
          intro K hK
          refine op_call2 38 _ _ _ Tryz.f38 (fun w' => w' = (wq.drewN nq).drew) (.int .i64 (max y q)) rfl rfl Tryz.func38 (by kernel_rfl) (by kernel_rfl) (l1Max_any y q _) ⟨_, by simp [Act.put]; rfl, ?_⟩
          intro wc hwc
          subst hwc
          refine hK _ _ ⟨HS.out.2, ?_⟩
          clear hK
          refine takeH (o := ?o17) 16 (.agg #[.int .i64 (min x p), .int .i64 (max y q)]) ?h17 ?r17
          case h17 => simp only [aT, aS, aZ]; rfl
          refine ⟨_, by simp [Act.put]; rfl, by kernel_rfl, by kernel_rfl, by kernel_rfl, fun _ _ _ h => h, (.inl ⟨rfl, fun W _ => by go_simp⟩), HS.out.2, ?_⟩
          refine onlyH (o := ?o18) 17 (by kernel_rfl) ?h18 ?r18
          case h18 => simp only [aT, aS, aZ]; rfl
          intro K hK
          refine op_store 62 w.heap.size #[.int .i64 x, .int .i64 y] #[.int .i64 (min x p), .int .i64 (max y q)] 62 rfl rfl rfl rfl HP1.out.box (by kernel_rfl) rfl (by kernel_rfl) ⟨_, by simp [Act.put]; rfl, hK _ _ ⟨HS.out.2.setRow (by omega), ?_⟩⟩
          clear hK
          refine wpAnyH_done (by kernel_rfl) ?_ _
          have HP2 : Hid (PutAt w u5 o (min x p, max y q) ((wq.drewN nq).drew.setRow w.heap.size #[.int .i64 (min x p), .int .i64 (max y q)])) := HP1.out.setBox
          have HF2 : Hid (f = false → o.length ≤ k + 1) := fun e => by have := HF.out e; omega
          clear HP1 HS
          go_wp2
          go_roundw
          case rel => exact ⟨k + 1, o, (min x p, max y q), f, by omega, by go_num, rfl, by omega, HP2, HX2, HN2, HF2⟩
          case measure => simp [intOf]; omega
        case s14 =>
          intro K hK
          refine op_value (.int .i64 y) rfl (by have c : wq.cell? ⟨w.heap.size, 1, none⟩ = some (.int .i64 y) := HS.out.1.2; go_simp) ⟨_, by simp [Act.put]; rfl, hK _ _ ⟨HS.out.2, ?_⟩⟩
          clear hK
          refine onlyH (o := ?o19) 7 (by kernel_rfl) ?h19 ?r19
          case h19 => simp only [aT, aS, aZ]; rfl
          intro K hK
          refine op_call2 57 _ _ _ Tryz.f57 (fun w' => w' = (wq.drewN nq).drew) (.int .i64 (min x p)) rfl rfl Tryz.func57 (by kernel_rfl) (by kernel_rfl) (l1Min_any x p _) ⟨_, by simp [Act.put]; rfl, ?_⟩
          intro wc hwc
          subst hwc
          refine hK _ _ ⟨HS.out.2, ?_⟩
          clear hK
          refine onlyH (o := ?o20) 15 (by kernel_rfl) ?h20 ?r20
          case h20 => simp only [aT, aS, aZ]; rfl
          intro K hK
          refine op_call2 38 _ _ _ Tryz.f38 (fun w' => w' = (wq.drewN nq).drew) (.int .i64 (max y q)) rfl rfl Tryz.func38 (by kernel_rfl) (by kernel_rfl) (l1Max_any y q _) ⟨_, by simp [Act.put]; rfl, ?_⟩
          intro wc hwc
          subst hwc
          refine hK _ _ ⟨HS.out.2, ?_⟩
          clear hK
          refine takeH (o := ?o21) 16 (.agg #[.int .i64 (min x p), .int .i64 (max y q)]) ?h21 ?r21
          case h21 => simp only [aT, aS, aZ]; rfl
          refine ⟨_, by simp [Act.put]; rfl, by kernel_rfl, by kernel_rfl, by kernel_rfl, fun _ _ _ h => h, (.inl ⟨rfl, fun W _ => by go_simp⟩), HS.out.2, ?_⟩
          refine onlyH (o := ?o22) 17 (by kernel_rfl) ?h22 ?r22
          case h22 => simp only [aT, aS, aZ]; rfl
          intro K hK
          refine op_store 62 w.heap.size #[.int .i64 x, .int .i64 y] #[.int .i64 (min x p), .int .i64 (max y q)] 62 rfl rfl rfl rfl HP1.out.box (by kernel_rfl) rfl (by kernel_rfl) ⟨_, by simp [Act.put]; rfl, hK _ _ ⟨HS.out.2.setRow (by omega), ?_⟩⟩
          clear hK
          refine wpAnyH_done (by kernel_rfl) ?_ _
          have HP2 : Hid (PutAt w u5 o (min x p, max y q) ((wq.drewN nq).drew.setRow w.heap.size #[.int .i64 (min x p), .int .i64 (max y q)])) := HP1.out.setBox
          have HF2 : Hid (f = false → o.length ≤ k + 1) := fun e => by have := HF.out e; omega
          clear HP1 HS
          go_wp2
          go_roundw
          case rel => exact ⟨k + 1, o, (min x p, max y q), f, by omega, by go_num, rfl, by omega, HP2, HX2, HN2, HF2⟩
          case measure => simp [intOf]; omega
      case s13 =>
        intro K hK
        refine op_value (.int .i64 y) rfl (by have c : wq.cell? ⟨w.heap.size, 1, none⟩ = some (.int .i64 y) := HS.out.1.2; go_simp) ⟨_, by simp [Act.put]; rfl, hK _ _ ⟨HS.out.2, ?_⟩⟩
        clear hK
        refine onlyH (o := ?o23) 1 (by kernel_rfl) ?h23 ?r23
        case h23 => simp only [aT, aS, aZ]; rfl
        intro K hK
        refine op_value (.int .i64 x) rfl (by have c : wq.cell? ⟨w.heap.size, 0, none⟩ = some (.int .i64 x) := HS.out.1.1; go_simp) ⟨_, by simp [Act.put]; rfl, hK _ _ ⟨HS.out.2, ?_⟩⟩
        clear hK
        refine onlyH (o := ?o24) 7 (by kernel_rfl) ?h24 ?r24
        case h24 => simp only [aT, aS, aZ]; rfl
        intro K hK
        refine op_call2 57 _ _ _ Tryz.f57 (fun w' => w' = (wq.drewN nq).drew) (.int .i64 (min x p)) rfl rfl Tryz.func57 (by kernel_rfl) (by kernel_rfl) (l1Min_any x p _) ⟨_, by simp [Act.put]; rfl, ?_⟩
        intro wc hwc
        subst hwc
        refine hK _ _ ⟨HS.out.2, ?_⟩
        clear hK
        refine onlyH (o := ?o25) 15 (by kernel_rfl) ?h25 ?r25
        case h25 => simp only [aT, aS, aZ]; rfl
        intro K hK
        refine op_call2 38 _ _ _ Tryz.f38 (fun w' => w' = (wq.drewN nq).drew) (.int .i64 (max y q)) rfl rfl Tryz.func38 (by kernel_rfl) (by kernel_rfl) (l1Max_any y q _) ⟨_, by simp [Act.put]; rfl, ?_⟩
        intro wc hwc
        subst hwc
        refine hK _ _ ⟨HS.out.2, ?_⟩
        clear hK
        refine takeH (o := ?o26) 16 (.agg #[.int .i64 (min x p), .int .i64 (max y q)]) ?h26 ?r26
        case h26 => simp only [aT, aS, aZ]; rfl
        refine ⟨_, by simp [Act.put]; rfl, by kernel_rfl, by kernel_rfl, by kernel_rfl, fun _ _ _ h => h, (.inl ⟨rfl, fun W _ => by go_simp⟩), HS.out.2, ?_⟩
        refine onlyH (o := ?o27) 17 (by kernel_rfl) ?h27 ?r27
        case h27 => simp only [aT, aS, aZ]; rfl
        intro K hK
        refine op_store 62 w.heap.size #[.int .i64 x, .int .i64 y] #[.int .i64 (min x p), .int .i64 (max y q)] 62 rfl rfl rfl rfl HP1.out.box (by kernel_rfl) rfl (by kernel_rfl) ⟨_, by simp [Act.put]; rfl, hK _ _ ⟨HS.out.2.setRow (by omega), ?_⟩⟩
        clear hK
        refine wpAnyH_done (by kernel_rfl) ?_ _
        have HP2 : Hid (PutAt w u5 o (min x p, max y q) ((wq.drewN nq).drew.setRow w.heap.size #[.int .i64 (min x p), .int .i64 (max y q)])) := HP1.out.setBox
        have HF2 : Hid (f = false → o.length ≤ k + 1) := fun e => by have := HF.out e; omega
        clear HP1 HS
        go_wp2
        go_roundw
        case rel => exact ⟨k + 1, o, (min x p, max y q), f, by omega, by go_num, rfl, by omega, HP2, HX2, HN2, HF2⟩
        case measure => simp [intOf]; omega
    · obtain rfl : k = len := by omega
      have hdr : ps.drop k = [] := List.drop_of_length_le (by rw [HL.out]; omega)
      cases f
      · have HV : Hid (o ++ [(x, y)] = put ps (xa, xb) false) := by
          have e := HN.out
          rw [hdr] at e
          exact e
        have hol2 : o.length ≤ k := HF.out rfl
        have b1 : wr.cell? ⟨w.heap.size, 0, none⟩ = some (.int .i64 x) := by rw [HP.out.box.cell]; rfl
        have b2 : wr.cell? ⟨w.heap.size, 1, none⟩ = some (.int .i64 y) := by rw [HP.out.box.cell]; rfl
        clear hdr
        go_wp2_with (first | go_skip | (with_reducible refine stopAppend2 rfl ?_))
        refine Stop.intro (wpList_append_own _ rfl _ _ 25 rfl (w.heap.size + 1) 62 t0 (.agg #[.int .i64 0, .int .i64 0]) 2 16 Tryz.underlying25 hi hz0 hz1 hz2 rfl (by decide) _ (o).length ((flat (o)).map (Value.int .i64)) rfl (HP.out.own.alloc _) ⟨wr.heap.size, 0, none⟩ 1 1 [.int .i64 x, .int .i64 y] rfl rfl (cell_new2 _ _ _ _) (by intro u hu; simp at hu; rcases hu with rfl | rfl <;> rfl) (by unfold maxLen; omega) (by omega) (by have := HP.out.box.lt; simp at this ⊢; omega) ?_)
        intro v2 w2 hown hgrow _
        have HP2 : Hid (PutAt w v2 (o ++ [(x, y)]) (x, y) w2) := HP.out.app hown hgrow
        clear hown hgrow
        go_wp2
        go_ret
        have e := HP2.out.own
        rw [HV.out] at e
        exact ⟨_, rfl, own_mono e (by omega), HP2.out.bel⟩
      · have HV : Hid (o = put ps (xa, xb) false) := by
          have e := HN.out
          rw [hdr] at e
          show _ = _
          simpa [put] using e
        clear hdr
        go_wp2
        go_ret
        have e := HP.out.own
        rw [HV.out] at e
        exact ⟨_, rfl, own_mono e (by omega), HP.out.bel⟩
set_option maxRecDepth 200000 in
theorem l5Put_any (a : Option Addr) (len cap : Nat) (ps : Sp) (x0 : Int × Int) (F : List Nat) (w : World) (h : RdP w a len ps F) (hlen : len ≤ 2097152) (hin : ∀ k, k < len → InB (ps.at k)) (hx : InB x0) :
    Calls Tryz.prog 55 #[.slice a len cap, .agg #[.int .i64 x0.1, .int .i64 x0.2]] w fun e w' => NewP w (put ps x0 false) e w' :=
  (l5Put_own a len cap ps x0 F w h hlen hin hx).mono (fun _ _ h => by
    obtain ⟨v, rfl, h1, h2⟩ := h
    obtain ⟨a', c', F', rfl, hr, ho, hnn⟩ := rdP_of_own h1
    exact ⟨_, _, _, F', rfl, hr, ho, h2, hnn⟩)
end Go.Proofs.YtgkbhhlkaifnoaaGreatDoor
/- The walks through the model's SetAdd and SetJoin. No statement of the seat is proved here. -/
namespace Go.Proofs.YtgkbhhlkaifnoaaGreatDoor
open Go.RowKit
/-- A set and a word. -/
def NewP2 (w : World) (ps : Sp) (d : Bool) (e : Ending) (w' : World) : Prop :=
  ∃ a len cap F, e = .returned (.tuple #[.slice a len cap, .bool d]) ∧ RdP w' a len ps F ∧ Own w.heap.size w' F ∧ Below w.heap.size w w' ∧ Capd a len cap
theorem NewP.from {w w1 w' : World} {ps : Sp} {e : Ending} (hb : Below w.heap.size w w1) (h : NewP w1 ps e w') : NewP w ps e w' := by
  obtain ⟨a, len, cap, F, h1, h2, h3, h4, h5⟩ := h
  exact ⟨a, len, cap, F, h1, h2, h3.mono hb.size, Below.next hb h4, h5⟩
theorem cells_flat {w : World} {b off len : Nat} {ps : Sp} {F : List Nat} (h : RdP w (some ⟨b, off, none⟩) len ps F) (hp : 0 < len) : ∀ j v, ((flat ps).map (Value.int .i64))[j]? = some v → w.cell? ((⟨b, off, none⟩ : Addr).add j) = some v := by
  intro j v hj
  rcases h.rd.cells with ⟨h0, _⟩ | ⟨b', off', _, he, _, hc⟩
  · omega
  · obtain ⟨rfl, rfl⟩ : b = b' ∧ off = off' := by simpa using he
    have hjl : j < (flat ps).length := by
      have := (List.getElem?_eq_some_iff.1 hj).1
      simpa using this
    rw [flat_length, h.length] at hjl
    rw [sp_add, hc j hjl]
    rw [List.getElem?_map] at hj
    rw [List.getD_eq_getElem?_getD]
    have hjl' : j < (flat ps).length := by rw [flat_length, h.length]; exact hjl
    rw [List.getElem?_eq_getElem hjl'] at hj ⊢
    simpa using hj
set_option maxRecDepth 200000 in
set_option maxHeartbeats 1000000 in
theorem l5Copy_any (a : Option Addr) (len cap : Nat) (ps : Sp) (F : List Nat) (w : World) (h : RdP w a len ps F) (hlen : len ≤ 2097152) (hn : a = none → cap = 0) :
    Calls Tryz.prog 67 #[.slice a len cap] w fun e w' => NewP w ps e w' := by
  obtain ⟨t0, hi, hz0, hz1, hz2⟩ := info_parts infoSpan
  have HO : Hid ((w.alloc (.cells #[] 62)).ownsRow w.heap.size 62 2 (.slice (some ⟨w.heap.size, 0, none⟩) 0 0) 0 []) := own_empty2 w _
  have HB : Hid (Below w.heap.size w (w.alloc (.cells #[] 62))) := (Below.refl _ _).alloc (Nat.le_refl _) _
  cases a with
  | none =>
    obtain rfl : cap = 0 := hn rfl
    rcases h.cells with ⟨rfl, _, rfl⟩ | ⟨b, off, hp, e, _⟩
    rotate_left
    · cases e
    clear h hn
    go_enter Tryz.func67, Tryz.ntmps67
    go_wp2_with (first | go_skip | (with_reducible refine stopAppend2 rfl ?_))
    refine Stop.intro (wpList_append_own_none rfl _ _ 25 rfl w.heap.size 62 t0 2 Tryz.underlying25 hi _ 0 [] rfl HO.out rfl ?_)
    go_wp2
    go_ret
    exact ⟨_, 0, 0, [], rfl, RdP.nil, Own.nil, HB.out, (fun e => by cases e), Nat.le_refl _⟩
  | some ad =>
    have HC : Hid (∀ j v, ((flat ps).map (Value.int .i64))[j]? = some v → (w.alloc (.cells #[] 62)).cell? (ad.add j) = some v) := by
      rcases h.cells with ⟨rfl, _, rfl⟩ | ⟨b, off, hp, e, _⟩
      · exact fun j v hj => by simp [flat] at hj
      · cases e
        exact cells_flat (h.below HB.out) hp
    have HL : Hid (((flat ps).map (Value.int .i64)).length = len * 2) := by
      show _ = _
      rw [List.length_map, flat_length, h.length]; omega
    clear h hn
    go_enter Tryz.func67, Tryz.ntmps67
    go_wp2_with (first | go_skip | (with_reducible refine stopAppend2 rfl ?_))
    refine Stop.intro (wpList_append_own _ rfl _ _ 25 rfl w.heap.size 62 t0 (.agg #[.int .i64 0, .int .i64 0]) 2 16 Tryz.underlying25 hi hz0 hz1 hz2 rfl (by decide) _ 0 [] rfl HO.out ad len cap ((flat ps).map (Value.int .i64)) rfl HL.out HC.out (by intro u hu; simp at hu; obtain ⟨z, _, rfl⟩ := hu; rfl) (by unfold maxLen; omega) (by omega) (by simp) ?_)
    intro v' w1 hown hgrow _
    have HN : Hid (w1.ownsRow w.heap.size 62 2 v' len ((flat ps).map (Value.int .i64)) ∧ Below w.heap.size w w1) := by
      refine ⟨by simpa using hown, HB.out.grown hgrow HB.out.size (fun k hk => (HO.out.lt k hk).1)⟩
    clear hown hgrow
    go_wp2
    go_ret
    obtain ⟨a', c', F', rfl, hr, ho, hnn⟩ := rdP_of_own HN.out.1
    exact ⟨_, _, _, F', rfl, hr, ho, HN.out.2, hnn⟩
def Sp.add (ps : Sp) (n : Int) : Sp × Bool := if ps.ok = true ∧ (0 ≤ n ∧ n ≤ 9999) ∧ ps.has n = false then (put ps (n, n) false, true) else (ps, false)
theorem ok_inb {ps : Sp} (h : ps.ok = true) : ∀ k, k < ps.length → InB (ps.at k) := fun k hk => by
  have := (Sp.okAt_parts (Sp.ok_at h k hk)).1
  unfold InB
  omega
end Go.Proofs.YtgkbhhlkaifnoaaGreatDoor
/- The walks through the model's SetJoin. No statement of the seat is proved here. -/
namespace Go.Proofs.YtgkbhhlkaifnoaaGreatDoor
open Go.RowKit
theorem Sp.at_mem {ps : Sp} {k : Nat} (hk : k < ps.length) : ps.at k ∈ ps := by
  unfold Sp.at
  rw [List.getElem?_eq_getElem hk]
  exact List.getElem_mem hk
theorem inb_iff {ps : Sp} : (∀ k, k < ps.length → InB (ps.at k)) ↔ ∀ p ∈ ps, InB p := by
  constructor
  · intro h p hp
    obtain ⟨k, hk, rfl⟩ := List.getElem_of_mem hp
    have := h k hk
    unfold Sp.at at this
    rw [List.getElem?_eq_getElem hk] at this
    exact this
  · exact fun h k hk => h _ (Sp.at_mem hk)
theorem put_inb : ∀ {ps : Sp} {x : Int × Int} {d : Bool}, (∀ p ∈ ps, InB p) → InB x → ∀ p ∈ put ps x d, InB p
  | [], x, d, _, hx, p, hp => by
    cases d <;> simp [put] at hp
    subst hp; exact hx
  | q :: ps, x, d, h, hx, p, hp => by
    have hq := h q (by simp)
    have hr : ∀ p ∈ ps, InB p := fun p hp => h p (by simp [hp])
    rw [put] at hp
    split at hp
    · rcases List.mem_cons.1 hp with rfl | hp
      · exact hq
      · exact put_inb hr hx p hp
    · split at hp
      · rcases List.mem_append.1 hp with hp | hp
        · cases d <;> simp at hp
          subst hp; exact hx
        · rcases List.mem_cons.1 hp with rfl | hp
          · exact hq
          · exact put_inb hr hx p hp
      · exact put_inb hr (by unfold InB at hq hx ⊢; simp only; omega) p hp
def joinTo (ps qs : Sp) (k : Nat) : Sp := (qs.take k).foldl (fun o q => put o q false) ps
theorem joinTo_zero (ps qs : Sp) : joinTo ps qs 0 = ps := by simp [joinTo]
theorem joinTo_succ {ps qs : Sp} {k : Nat} (hk : k < qs.length) : joinTo ps qs (k + 1) = put (joinTo ps qs k) (qs.at k) false := by
  unfold joinTo
  rw [takeP_succ qs k hk, List.foldl_append]
  rfl
theorem joinTo_inb {ps qs : Sp} (h1 : ∀ p ∈ ps, InB p) (h2 : ∀ p ∈ qs, InB p) : ∀ k, k ≤ qs.length → ∀ p ∈ joinTo ps qs k, InB p
  | 0, _ => by rw [joinTo_zero]; exact h1
  | k + 1, hk => by
    rw [joinTo_succ (by omega)]
    exact put_inb (joinTo_inb h1 h2 k (by omega)) (h2 _ (Sp.at_mem (by omega)))
theorem joinTo_length {ps qs : Sp} : ∀ k, k ≤ qs.length → (joinTo ps qs k).length ≤ ps.length + k
  | 0, _ => by rw [joinTo_zero]; omega
  | k + 1, hk => by
    rw [joinTo_succ (by omega)]
    have := put_length (joinTo ps qs k) (qs.at k) false
    have := joinTo_length (ps := ps) (qs := qs) k (by omega)
    omega
def Sp.join (ps qs : Sp) : Sp := if (ps.ok && qs.ok) = true then joinTo ps qs qs.length else []
theorem Sp.join_not {ps qs : Sp} (h : (ps.ok && qs.ok) = false) : ps.join qs = [] := by unfold Sp.join; rw [h]; rfl
theorem Sp.join_yes {ps qs : Sp} (h1 : ps.ok = true) (h2 : qs.ok = true) : ps.join qs = joinTo ps qs qs.length := by unfold Sp.join; rw [h1, h2]; rfl
set_option maxRecDepth 200000 in
set_option maxHeartbeats 2000000 in
theorem l5Join_any (a b : Option Addr) (la lb ca cb : Nat) (ps qs : Sp) (F G : List Nat) (w : World) (h : RdP w a la ps F) (k : RdP w b lb qs G) (hlen : la + lb ≤ 2097152) (hn : a = none → ca = 0) (h1 : ∀ p ∈ ps, InB p) (h2 : ∀ p ∈ qs, InB p) :
    Calls Tryz.prog 37 #[.slice a la ca, .slice b lb cb] w fun e w' => NewP w (joinTo ps qs qs.length) e w' := by
  have HL : Hid (ps.length = la ∧ qs.length = lb) := ⟨h.length, k.length⟩
  have HR : Hid (RdP w a la ps F ∧ RdP w b lb qs G) := ⟨h, k⟩
  have HI : Hid ((∀ p ∈ ps, InB p) ∧ (∀ p ∈ qs, InB p) ∧ (a = none → ca = 0)) := ⟨h1, h2, hn⟩
  clear h k h1 h2 hn
  go_enter Tryz.func37, Tryz.ntmps37
  go_wp2_with fail
  refine (l5Copy_any a la ca ps F _ HR.out.1 (by omega) HI.out.2.2).mono ?_
  rintro e w1 ⟨a', l', c', F', rfl, g1, g2, g3, g4⟩
  have HE : Hid (RdP w1 a' l' (joinTo ps qs 0) F' ∧ Own w.heap.size w1 F' ∧ Below w.heap.size w w1 ∧ Capd a' l' c') := ⟨by rw [joinTo_zero]; exact g1, g2, g3, g4⟩
  have HCB : Hid (lb = 0 ∨ ∃ b1 o1, b = some ⟨b1, o1, none⟩ ∧ b1 < w.heap.size ∧ SpCells w b1 o1 lb qs) := by
    rcases HR.out.2.cells with ⟨h0, _⟩ | ⟨b1, o1, hp, e, _, hc⟩
    · exact .inl h0
    · exact .inr ⟨b1, o1, e, World.block_lt_of_cell? _ _ (hc 0 hp).1, hc⟩
  clear g1 g2 g3 g4 HR
  go_wp2
  go_loopw [5, 6] (fun v i wr => ∃ (k : Nat) (a' : Option Addr) (l' c' : Nat) (F' : List Nat), k ≤ lb ∧ i = .int .i64 k ∧ v = .slice a' l' c' ∧ Hid (RdP wr a' l' (joinTo ps qs k) F' ∧ Own w.heap.size wr F' ∧ Below w.heap.size w wr ∧ Capd a' l' c')) (fun _ i _ => lb - (intOf i).toNat)
  case atStart => exact ⟨0, a', l', c', F', by omega, rfl, rfl, HE⟩
  case round =>
    clear HE
    obtain ⟨k, a', l', c', F', hk, rfl, rfl, HE⟩ := hrel
    by_cases hlt : k < lb
    · have hcb := HCB.out
      rcases hcb with h0 | ⟨b1, o1, rfl, hbw, hc⟩
      · omega
      obtain ⟨x, hx⟩ : ∃ x, x = (qs.at k).1 := ⟨_, rfl⟩
      obtain ⟨y, hy⟩ : ∃ x, x = (qs.at k).2 := ⟨_, rfl⟩
      have e := hc k hlt
      have HXY : Hid (qs.at k = (x, y)) := by rw [hx, hy]; rfl
      rw [HXY.out] at e
      have d1 : wr.cell? ⟨b1, o1 + k * 2, none⟩ = some (.int .i64 x) := (HE.out.2.2.1.cell (by exact hbw)).trans e.1
      have d2 : wr.cell? ⟨b1, o1 + k * 2 + 1, none⟩ = some (.int .i64 y) := (HE.out.2.2.1.cell (by exact hbw)).trans e.2
      have hql : k < qs.length := by rw [HL.out.2]; exact hlt
      clear e hx hy hc
      go_wp2_with fail
      refine (l5Put_any a' l' c' (joinTo ps qs k) (x, y) F' _ HE.out.1 (by have := joinTo_length (ps := ps) (qs := qs) k (by omega); rw [HE.out.1.length, HL.out.1] at this; omega) (fun j hj => inb_iff.2 (joinTo_inb HI.out.1 HI.out.2.1 k (by omega)) j (by rw [HE.out.1.length]; exact hj)) (by rw [← HXY.out]; exact HI.out.2.1 _ (Sp.at_mem hql))).mono ?_
      rintro e w2 ⟨a2, l2, c2, F2, rfl, g1, g2, g3, g4⟩
      have HE2 : Hid (RdP w2 a2 l2 (joinTo ps qs (k + 1)) F2 ∧ Own w.heap.size w2 F2 ∧ Below w.heap.size w w2 ∧ Capd a2 l2 c2) := ⟨by rw [joinTo_succ hql, HXY.out]; exact g1, g2.mono HE.out.2.2.1.size, Below.next HE.out.2.2.1 g3, g4⟩
      clear g1 g2 g3 g4 HE
      go_wp2
      go_roundw
      case rel => exact ⟨k + 1, a2, l2, c2, F2, by omega, by go_num, rfl, HE2⟩
      case measure => simp [intOf]; omega
    · obtain rfl : k = lb := by omega
      go_wp2
      go_ret
      refine ⟨a', l', c', F', rfl, ?_, HE.out.2⟩
      rw [HL.out.2]
      exact HE.out.1
end Go.Proofs.YtgkbhhlkaifnoaaGreatDoor
/- The walks through the model's drawing of sets. No statement of the seat is proved here. -/
namespace Go.Proofs.YtgkbhhlkaifnoaaGreatDoor
open Go.RowKit
theorem grow_below {w w' : World} (g : Nat) (b : Below w.heap.size w w') : w.grownBy w' (some g) := ⟨b.os, b.tape, b.output, b.size, fun k hk _ => b.block k hk⟩
theorem ownsKeep {w w' : World} {B e size g : Nat} {v : Value} {n : Nat} {xs : List Value} (h : w.ownsRow B e size v n xs) (k : w.grownBy w' (some g)) (hg : g < B) : w'.ownsRow B e size v n xs := by
  refine ⟨h.1, ?_⟩
  rcases h.2 with e | ⟨b, cap, cur, h1, h2, h3, h4⟩
  · exact .inl e
  · refine .inr ⟨b, cap, cur, h1, h2, ?_, h4⟩
    have hb : b < w.heap.size := by
      by_cases hb : b < w.heap.size
      · exact hb
      · rw [Array.getElem?_eq_none (by omega)] at h3; cases h3
    rw [k.block b hb (fun e => by simp at e; omega)]
    exact h3
theorem ownsBelow {w w' : World} {B e size : Nat} {v : Value} {n : Nat} {xs : List Value} (h : w.ownsRow B e size v n xs) (k : Below w.heap.size w w') : w'.ownsRow B e size v n xs := by
  refine ⟨h.1, ?_⟩
  rcases h.2 with e | ⟨b, cap, cur, h1, h2, h3, h4⟩
  · exact .inl e
  · refine .inr ⟨b, cap, cur, h1, h2, ?_, h4⟩
    have hb : b < w.heap.size := by
      by_cases hb : b < w.heap.size
      · exact hb
      · rw [Array.getElem?_eq_none (by omega)] at h3; cases h3
    rw [k.block b hb]
    exact h3
set_option maxRecDepth 200000 in
theorem RdP.grown {w W : World} {B q : Nat} {a : Option Addr} {len : Nat} {ps : Sp} {F : List Nat} (h : RdP w a len ps F) (hF : ∀ b ∈ F, B ≤ b) (k : w.grownBy W (some q)) (hq : q < B) : RdP W a len ps F := h.agree (fun b hb => k.block b (h.lt b hb) (fun e => by have := hF b hb; simp at e; omega))
set_option maxRecDepth 200000 in
theorem once_any (g : Nat) (a : Option Addr) (len cap : Nat) (zs : List Int) (i h : Int) (n : Int) (w : World) (C : Cur w g a len cap zs i h) (hlen : len ≤ 1048576) (hn : 0 < n) (hn' : n ≤ 2147483647) :
    Calls Tryz.prog 27 #[.pointer (some ⟨g, 0, none⟩), .int .i64 n] w fun e w' => ∃ b i' h', e = .returned (.bool b) ∧ Cur w' g a len cap zs i' h' ∧ w.grownBy w' (some g) := by
  have HC : Hid (Cur w g a len cap zs i h) := C
  clear C
  go_enter Tryz.func27, Tryz.ntmps27
  go_wp2_with fail
  refine (l1Below_any g a len cap zs i h n _ HC.out hlen hn hn').mono ?_
  rintro e w1 ⟨x, i1, h1, rfl, _, _, C1, g1⟩
  have HC1 : Hid (Cur w1 g a len cap zs i1 h1 ∧ w.grownBy w1 (some g)) := ⟨C1, g1⟩
  clear C1 g1
  go_wp2
  go_ret
  exact ⟨_, i1, h1, rfl, HC1.out.1, HC1.out.2⟩
/-- Midway in a drawing: the set so far, the cursor. -/
structure DrP (w : World) (q : Nat) (a : Option Addr) (len cap : Nat) (zs : List Int) (v : Value) (ps : Sp) (W : World) : Prop where
  own : W.ownsRow w.heap.size 62 2 v ps.length ((flat ps).map (Value.int .i64))
  cur : ∃ i h, Cur W q a len cap zs i h
  grown : w.grownBy W (some q)
  lt : q < w.heap.size
theorem DrP.next {w : World} {q : Nat} {a : Option Addr} {len cap : Nat} {zs : List Int} {v : Value} {ps : Sp} {W W' : World} {i h : Int} (D : DrP w q a len cap zs v ps W) (C : Cur W' q a len cap zs i h) (g : W.grownBy W' (some q)) : DrP w q a len cap zs v ps W' :=
  ⟨ownsKeep D.own g D.lt, ⟨i, h, C⟩, grown_tr D.grown g, D.lt⟩
theorem DrP.below {w : World} {q : Nat} {a : Option Addr} {len cap : Nat} {zs : List Int} {v : Value} {ps : Sp} {W W' : World} (D : DrP w q a len cap zs v ps W) (b : Below W.heap.size W W') : DrP w q a len cap zs v ps W' := by
  obtain ⟨i, h, C⟩ := D.cur
  exact ⟨ownsBelow D.own b, ⟨i, h, C.keep b⟩, grown_tr D.grown (grow_below q b), D.lt⟩
theorem DrP.alloc {w : World} {q : Nat} {a : Option Addr} {len cap : Nat} {zs : List Int} {v : Value} {ps : Sp} {W : World} (D : DrP w q a len cap zs v ps W) (o : Obj) : DrP w q a len cap zs v ps (W.alloc o) := D.below (Below.allocW _ (Below.refl _ _) (Nat.le_refl _))
/-- What a drawing of a set tells. -/
def DrewP (w : World) (q : Nat) (a : Option Addr) (len cap : Nat) (zs : List Int) (n : Nat) (e : Ending) (w' : World) : Prop := ∃ v ps, e = .returned v ∧ DrP w q a len cap zs v ps w' ∧ ps.length ≤ n ∧ v ≠ .slice none 0 0 ∧ ps.fit
theorem fit_of_inb {ps : Sp} (h : ∀ p ∈ ps, InB p) : ps.fit := fun p hp => by
  have q := h p hp
  exact ⟨⟨by have := q.1.1; omega, by have := q.1.2; omega⟩, ⟨by have := q.2.1; have := q.1.1; omega, by have := q.2.2; omega⟩⟩
theorem list3 {x y z u : Int} (h : u ∈ [x, y, z]) : u = x ∨ u = y ∨ u = z := by simpa using h
theorem put_ne (W : World) (B e n : Nat) (v : Value) (xs : List Value) (h : W.ownsRow B e 2 v n xs) (hn : 0 < n) : v ≠ .slice none 0 0 := by
  rcases h.2 with ⟨_, h0⟩ | ⟨b, cap, cur, h1, _⟩
  · omega
  · rw [h1]; intro e; cases e
theorem put_pos : ∀ (ps : Sp) (x : Int × Int), 0 < (put ps x false).length
  | [], x => by simp [put]
  | p :: ps, x => by
    rw [put]
    split
    · simp
    · split
      · simp
      · exact put_pos ps _
set_option maxRecDepth 100000 in
set_option maxHeartbeats 4000000 in
theorem l5Right_any (q : Nat) (a : Option Addr) (len cap : Nat) (zs : List Int) (i h : Int) (w : World) (C : Cur w q a len cap zs i h) (hlen : len ≤ 1048576) :
    Calls Tryz.prog 93 #[.pointer (some ⟨q, 0, none⟩)] w fun e w' => DrewP w q a len cap zs 7 e w' := by
  have hq : q < w.heap.size := World.block_lt_of_cell? _ _ C.c0
  have HD0 : Hid (DrP w q a len cap zs (.slice (some ⟨w.heap.size, 0, none⟩) 0 0) [] (w.alloc (.cells #[] 62))) := ⟨own_empty2 w _, ⟨i, h, C.alloc _⟩, grow_below q ((Below.refl _ _).alloc (Nat.le_refl _) _), hq⟩
  have HC0 : Hid (Cur (w.alloc (.cells #[] 62)) q a len cap zs i h) := C.alloc _
  clear C
  go_enter Tryz.func93, Tryz.ntmps93
  go_wp2_with fail
  refine (l1Below_any q a len cap zs i h 7 _ HC0.out hlen (by omega) (by omega)).mono ?_
  rintro e w1 ⟨m, i1, h1, rfl, m0, m1, C1, g1⟩
  have HD1 : Hid (DrP w q a len cap zs (.slice (some ⟨w.heap.size, 0, none⟩) 0 0) [] w1) := HD0.out.next C1 g1
  clear C1 g1 HD0 HC0
  go_wp2
  go_loopw [3, 5] (fun v i wr => ∃ (k : Nat) (ps : Sp), (k : Int) ≤ m ∧ i = .int .i64 k ∧ ps.length ≤ k ∧ Hid (DrP w q a len cap zs v ps wr ∧ v ≠ .slice none 0 0) ∧ Hid (∀ p ∈ ps, InB p)) (fun _ i _ => (m - intOf i).toNat)
  case atStart => exact ⟨0, [], by omega, rfl, by simp, ⟨HD1.out, fun e => by cases e⟩, by intro p hp; simp at hp⟩
  case round =>
    clear HD1
    obtain ⟨k, ps, hk, rfl, hpl, HD, HIN⟩ := hrel
    by_cases hlt : (k : Int) < m
    · have hcd : decide ((k : Int) < m) = true := decT hlt
      obtain ⟨i2, h2, C2⟩ := HD.out.1.cur
      go_wp2_with fail
      refine (l1Below_any q a len cap zs i2 h2 20 _ C2 hlen (by omega) (by omega)).mono ?_
      rintro e w2 ⟨x1, i3, h3, rfl, x10, x11, C3, g3⟩
      have HD2 : Hid (DrP w q a len cap zs u3 ps w2) := HD.out.1.next C3 g3
      clear g3 C2
      go_wp2_with fail
      refine (l1Below_any q a len cap zs i3 h3 20 _ C3 hlen (by omega) (by omega)).mono ?_
      rintro e w3 ⟨x2, i4, h4, rfl, x20, x21, C4, g4⟩
      have HD3 : Hid (DrP w q a len cap zs u3 ps w3) := HD2.out.next C4 g4
      clear g4 C3 HD2
      go_wp2_with fail
      refine (l1Below_any q a len cap zs i4 h4 10 _ C4 hlen (by omega) (by omega)).mono ?_
      rintro e w4 ⟨x3, i5, h5, rfl, x30, x31, C5, g5⟩
      have HD4 : Hid (DrP w q a len cap zs u3 ps w4) := HD3.out.next C5 g5
      have HC5 : Hid (Cur w4 q a len cap zs i5 h5) := C5
      clear g5 C4 C5 HD3
      go_wp2_with fail
      have hqw4 : q < w4.heap.size := World.block_lt_of_cell? _ _ HC5.out.c0
      refine (pickInt_cur q w4.heap.size 3 a len cap zs i5 h5 [x1, x2, 9990 + x3] _ (HC5.out.alloc _) hlen (fun j hj => lit_ints w4 [x1, x2, 9990 + x3] _ j hj) (by omega) 3 rfl (by omega) (by omega)).mono ?_
      rintro e w5 ⟨y, i6, h6, hy, rfl, C6, g6⟩
      have HD5 : Hid (DrP w q a len cap zs u3 ps w5) := (HD4.out.alloc _).next C6 g6
      have HC6 : Hid (Cur w5 q a len cap zs i6 h6) := C6
      have hy3 := list3 hy
      have y0 : 0 ≤ y := by omega
      have y1 : y ≤ 9999 := by omega
      clear g6 C6 HD4 HC5 hy hy3 x10 x11 x20 x21 x30 x31 hqw4
      go_wp2_with fail
      refine (l1Below_any q a len cap zs i6 h6 3 _ HC6.out hlen (by omega) (by omega)).mono ?_
      rintro e w6 ⟨z, i7, h7, rfl, z0, z1, C7, g7⟩
      have HD6 : Hid (DrP w q a len cap zs u3 ps w6) := HD5.out.next C7 g7
      clear g7 C7 HD5 HC6
      go_wp2_with fail
      refine (l1Min_any _ _ _).mono ?_
      rintro e w7 ⟨rfl, hw7⟩
      have hw7' := hw7.symm
      subst hw7'
      clear hw7
      obtain ⟨t, ht⟩ : ∃ t, t = min (y + z) 9999 := ⟨_, rfl⟩
      rw [← ht]
      have HT : Hid (InB (y, t)) := by rw [ht]; exact ⟨⟨y0, y1⟩, by simp only; omega, by simp only; omega⟩
      clear ht
      obtain ⟨a', c', F', hv, hr, ho, hnn⟩ := rdP_of_own HD6.out.own
      have HV : Hid (u3 = .slice a' ps.length c' ∧ RdP w6 a' ps.length ps F') := ⟨hv, hr⟩
      clear hr ho hnn
      subst hv
      go_wp2_with fail
      refine (l5Put_own a' ps.length c' ps (y, t) F' _ HV.out.2 (by omega) (fun k hk => HIN.out _ (Sp.at_mem hk)) HT.out).mono ?_
      rintro e w8 ⟨v8, rfl, own8, bel8⟩
      have HD8 : Hid (DrP w q a len cap zs v8 (put ps (y, t) false) w8 ∧ v8 ≠ .slice none 0 0) := by
        have := HD6.out.below bel8
        exact ⟨⟨own_mono own8 HD6.out.grown.size, this.cur, this.grown, this.lt⟩, put_ne _ _ _ _ _ _ own8 (put_pos _ _)⟩
      have HIN8 : Hid (∀ p ∈ put ps (y, t) false, InB p) := put_inb HIN.out HT.out
      have hpl8 := put_length ps (y, t) false
      clear own8 bel8 HD6 HV
      go_wp2
      go_roundw
      case rel => exact ⟨k + 1, put ps (y, t) false, by omega, by go_num, by omega, HD8, HIN8⟩
      case measure => simp [intOf]; omega
    · have hcd : decide ((k : Int) < m) = false := decF hlt
      go_wp2
      go_ret
      exact ⟨_, ps, rfl, HD.out.1, by omega, HD.out.2, fit_of_inb HIN.out⟩
end Go.Proofs.YtgkbhhlkaifnoaaGreatDoor
