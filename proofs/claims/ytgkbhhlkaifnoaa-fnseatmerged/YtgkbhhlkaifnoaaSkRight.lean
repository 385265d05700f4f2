/- The walk through the model's drawing of a summary that is right. No statement of the seat is proved here. -/
import Derived.Test.YtgkbhhlkaifnoaaSkDone
import Derived.Test.YtgkbhhlkaifnoaaDrawSk
namespace Go.Proofs.Ytgkbhhlkaifnoaa
open Go.RowKit
set_option maxRecDepth 200000 in
theorem l1Once_any (g : Nat) (a : Option Addr) (len cap : Nat) (zs : List Int) (i h : Int) (n : Int) (w : World) (C : Cur w g a len cap zs i h) (hlen : len ≤ 1048576) (hn : 0 < n) (hn' : n ≤ 2147483647) :
    Calls Try.prog 60 #[.pointer (some ⟨g, 0, none⟩), .int .i64 n] w fun e w' => ∃ b i' h', e = .returned (.bool b) ∧ Cur w' g a len cap zs i' h' ∧ w.grownBy w' (some g) := by
  have HC : Hid (Cur w g a len cap zs i h) := C
  clear C
  go_enter Try.func60, Try.ntmps60
  go_wp2_with fail
  refine (l1Below_any g a len cap zs i h n _ HC.out hlen hn hn').mono ?_
  rintro e w1 ⟨x, i1, h1, rfl, _, _, C1, g1⟩
  have HC1 : Hid (Cur w1 g a len cap zs i1 h1 ∧ w.grownBy w1 (some g)) := ⟨C1, g1⟩
  clear C1 g1
  go_wp2
  go_ret
  exact ⟨_, i1, h1, rfl, HC1.out.1, HC1.out.2⟩
theorem grown_below {w w' : World} (g : Nat) (b : Below w.heap.size w w') : w.grownBy w' (some g) := ⟨b.os, b.tape, b.output, b.size, fun k hk _ => b.block k hk⟩
/-- The same world, with nothing in memory. -/
def World.bare (w : World) : World := { w with heap := #[] }
theorem bare_below {w W : World} {q : Nat} (k : w.grownBy W (some q)) : Below (World.bare w).heap.size (World.bare w) W := ⟨k.os, k.tape, k.output, Nat.zero_le _, fun j hj => absurd hj (Nat.not_lt_zero j)⟩
theorem Blk.grown {w W : World} {b q : Nat} {cs : Array Value} {t : TypeId} (h : Blk w b cs t) (k : w.grownBy W (some q)) (hq : b ≠ q) : Blk W b cs t := h.agree (k.block b h.lt (fun e => hq (by simpa using e)))
theorem agree_grown {w W : World} {F : List Nat} {q : Nat} (k : w.grownBy W (some q)) (hlt : ∀ b ∈ F, b < w.heap.size) (hq : q ∉ F) : Agree w W F := fun b hb => k.block b (hlt b hb) (fun e => hq (by simp at e; rw [← e]; exact hb))
section
variable {w : World} {lo g : Nat} {c sm mn mx : Int} {b1 o1 k1 b2 o2 k2 p po k3 b3 o3 j0 b4 o4 j1 : Nat} {l1 l2 x y : List Int} {W W' : World}
theorem Out.grown {q : Nat} (h : Out w lo g c sm mn mx b1 o1 k1 b2 o2 k2 p po k3 b3 o3 j0 b4 o4 j1 l1 l2 x y W) (k : W.grownBy W' (some q)) (hq : q < lo) (hw : w.heap.size ≤ q) : Out w lo g c sm mn mx b1 o1 k1 b2 o2 k2 p po k3 b3 o3 j0 b4 o4 j1 l1 l2 x y W' := by
  have ge := h.ges
  have e1 := h.hist.lt b1 (by simp)
  have e2 := h.regs.lt b2 (by simp)
  have e3 := h.row0.lt b3 (by simp)
  have e4 := h.row1.lt b4 (by simp)
  have e5 : p < W.heap.size := World.block_lt_of_cell? _ _ h.c0
  have e6 := h.blk.lt
  have bp := k.block p e5 (fun e => by simp at e; omega)
  exact ⟨h.blk.grown k (by omega), h.hist.agree (agree_grown k (by simpa using e1) (by simp; omega)), h.regs.agree (agree_grown k (by simpa using e2) (by simp; omega)), (World.cell?_of_block (w := W) (a := ⟨p, po, none⟩) bp).trans h.c0, (World.cell?_of_block (w := W) (a := ⟨p, po + 1, none⟩) bp).trans h.c1, h.row0.agree (agree_grown k (by simpa using e3) (by simp; omega)), h.row1.agree (agree_grown k (by simpa using e4) (by simp; omega)), h.own.agree (agree_grown k (fun b hb => by simp at hb; omega) (by simp; omega)), h.bel.grown k h.bel.size (fun j hj => by simp at hj; omega), h.lw, h.room.grown k (by omega), h.wide⟩
end
/-- What the drawing of a summary tells: some summary, its lists as long as told, in memory of its own; the cursor goes on. -/
def DrewShaped (w : World) (q : Nat) (a : Option Addr) (len cap : Nat) (zs : List Int) (e : Ending) (w' : World) : Prop :=
  ∃ v s F i' h', e = .returned v ∧ RdR w' v s F ∧ s.shaped = true ∧ Own w.heap.size w' F ∧ Cur w' q a len cap zs i' h' ∧ w.grownBy w' (some q)
theorem drew_end {w W ww : World} {q lo g : Nat} {c sm mn mx : Int} {b1 o1 k1 b2 o2 k2 p po k3 b3 o3 j0 b4 o4 j1 : Nat} {l1 l2 x y : List Int} {a : Option Addr} {len cap : Nat} {zs : List Int} {i h : Int} (hO : Out ww lo g c sm mn mx b1 o1 k1 b2 o2 k2 p po k3 b3 o3 j0 b4 o4 j1 l1 l2 x y W) (hr : Blk W w.heap.size #[.int .i64 0, .int .i64 0, .int .i64 0, .int .i64 0, .slice none 0 0, .slice none 0 0, .slice none 0 0] 34) (hC : Cur W q a len cap zs i h) (hG : w.grownBy W (some q)) (hq : q < w.heap.size) (hlo : w.heap.size < lo) :
    DrewShaped w q a len cap zs (.returned (.agg #[.int .i64 c, .int .i64 sm, .int .i64 mn, .int .i64 mx, .slice (some ⟨b1, o1, none⟩) 8 k1, .slice (some ⟨b2, o2, none⟩) 8 k2, .slice (some ⟨p, po, none⟩) 2 k3])) (W.setRow w.heap.size #[.int .i64 c, .int .i64 sm, .int .i64 mn, .int .i64 mx, .slice (some ⟨b1, o1, none⟩) 8 k1, .slice (some ⟨b2, o2, none⟩) 8 k2, .slice (some ⟨p, po, none⟩) 2 k3]) := by
  obtain ⟨r, o, hs⟩ := out_rd hO
  have ag : Agree W (W.setRow w.heap.size #[.int .i64 c, .int .i64 sm, .int .i64 mn, .int .i64 mx, .slice (some ⟨b1, o1, none⟩) 8 k1, .slice (some ⟨b2, o2, none⟩) 8 k2, .slice (some ⟨p, po, none⟩) 2 k3]) [b1, b2, p, b3, b4] := fun b hb => setRow_other W _ b _ (fun e => by have := o.ge b hb; omega)
  have hgr : w.grownBy (W.setRow w.heap.size #[.int .i64 c, .int .i64 sm, .int .i64 mn, .int .i64 mx, .slice (some ⟨b1, o1, none⟩) 8 k1, .slice (some ⟨b2, o2, none⟩) 8 k2, .slice (some ⟨p, po, none⟩) 2 k3]) (some q) := ⟨hG.os, hG.tape, hG.output, by simp; exact hG.size, fun b hb hn => (setRow_other W _ b _ (by omega)).trans (hG.block b hb hn)⟩
  refine ⟨_, _, _, i, h, rfl, r.agree ag, hs, (o.agree ag).mono (by omega), ?_, hgr⟩
  refine cur_agree hC (World.block_lt_of_cell? _ _ hC.c0) (setRow_other W _ q _ (by omega)) (fun b hb ⟨off, ha, hp⟩ => setRow_other W _ b _ (fun e => ?_))
  subst e
  rcases hC.rd.cells with h0 | ⟨b', off', ha', hc⟩
  · omega
  · rw [ha] at ha'
    cases ha'
    have e0 := hc 0 hp
    rw [hr.cell] at e0
    match off, e0 with
    | 0, e0 => simp at e0
    | 1, e0 => simp at e0
    | 2, e0 => simp at e0
    | 3, e0 => simp at e0
    | 4, e0 => simp at e0
    | 5, e0 => simp at e0
    | 6, e0 => simp at e0
    | n + 7, e0 => simp at e0
theorem cur_lt {w : World} {q : Nat} {a : Option Addr} {len cap : Nat} {zs : List Int} {i h : Int} (C : Cur w q a len cap zs i h) (b : Nat) (hb : ∃ off, a = some ⟨b, off, none⟩ ∧ 0 < len) : b < w.heap.size := by
  obtain ⟨off, ha, hp⟩ := hb
  rcases C.rd.cells with h0 | ⟨b', off', ha', hc⟩
  · omega
  · rw [ha] at ha'
    cases ha'
    exact World.block_lt_of_cell? _ _ (hc 0 hp)
theorem held_set {w W : World} {q : Nat} {a : Option Addr} {len cap : Nat} {zs : List Int} {i h : Int} {cs : Array Value} {t : TypeId} (H : Blk W w.heap.size cs t ∧ Cur W q a len cap zs i h ∧ w.grownBy W (some q)) (hq : q < w.heap.size) (ha : ∀ b, (∃ off, a = some ⟨b, off, none⟩ ∧ 0 < len) → b < w.heap.size) (k j : Nat) (v : Value) (hk : w.heap.size < k) : Blk (W.setCell ⟨k, j, none⟩ v) w.heap.size cs t ∧ Cur (W.setCell ⟨k, j, none⟩ v) q a len cap zs i h ∧ w.grownBy (W.setCell ⟨k, j, none⟩ v) (some q) := by
  refine ⟨H.1.setOther (by omega) _ _, ?_, ?_⟩
  · exact cur_agree H.2.1 (World.block_lt_of_cell? _ _ H.2.1.c0) (Below.heap_setCell W ⟨k, j, none⟩ v q (by simp; omega)) (fun b _ hb => Below.heap_setCell W ⟨k, j, none⟩ v b (by have := ha b hb; simp; omega))
  · have G := H.2.2
    exact ⟨G.os, G.tape, G.output, by simpa using G.size, fun b hb hn => (Below.heap_setCell W ⟨k, j, none⟩ v b (by simp; omega)).trans (G.block b hb hn)⟩
set_option maxRecDepth 200000 in
set_option maxHeartbeats 4000000 in
theorem l3Right_any (q : Nat) (a : Option Addr) (len cap : Nat) (zs : List Int) (i h : Int) (w : World) (C : Cur w q a len cap zs i h) (hlen : len ≤ 1048576) :
    Calls Try.prog 114 #[.pointer (some ⟨q, 0, none⟩)] w fun e w' => DrewShaped w q a len cap zs e w' := by
  have hqw : q < w.heap.size := World.block_lt_of_cell? _ _ C.c0
  have hAw := cur_lt C
  have HT : Hid (Blk (w.alloc (.cells #[.int .i64 0, .int .i64 0, .int .i64 0, .int .i64 0, .slice none 0 0, .slice none 0 0, .slice none 0 0] 34)) w.heap.size #[.int .i64 0, .int .i64 0, .int .i64 0, .int .i64 0, .slice none 0 0, .slice none 0 0, .slice none 0 0] 34 ∧ Below w.heap.size w (w.alloc (.cells #[.int .i64 0, .int .i64 0, .int .i64 0, .int .i64 0, .slice none 0 0, .slice none 0 0, .slice none 0 0] 34))) := ⟨Blk.made _ _ _, (Below.refl _ _).alloc (Nat.le_refl _) _⟩
  have HC : Hid (Cur (w.alloc (.cells #[.int .i64 0, .int .i64 0, .int .i64 0, .int .i64 0, .slice none 0 0, .slice none 0 0, .slice none 0 0] 34)) q a len cap zs i h) := C.keep HT.out.2
  clear C
  go_enter Try.func114, Try.ntmps114
  go_wp2_with fail
  refine (l3Values_any q a len cap zs i h _ HC.out hlen).mono ?_
  rintro e w1 ⟨a', n, cc, xs, F, i1, h1, rfl, r1, hn, o1, C1, g1⟩
  have hlo : w.heap.size < w1.heap.size := by have := g1.size; simp at this; omega
  have HL1 : Hid (Blk w1 w.heap.size #[.int .i64 0, .int .i64 0, .int .i64 0, .int .i64 0, .slice none 0 0, .slice none 0 0, .slice none 0 0] 34 ∧ Cur w1 q a len cap zs i1 h1 ∧ w.grownBy w1 (some q) ∧ RdI w1 a' n xs F) := ⟨HT.out.1.grown g1 (by omega), C1, grown_tr (grown_below q HT.out.2) g1, r1⟩
  clear r1 o1 C1 g1 HT HC
  go_wp2_with fail
  refine (sketched_any a' n cc xs F _ HL1.out.2.2.2 (by omega)).mono ?_
  rintro e w2 ⟨vv, s, X, rfl, rr, hs, oo, bb⟩
  obtain ⟨es, rfl, e7, e1⟩ := rr.cells
  have HE : Hid (RdR w2 (.agg es) s X ∧ Own w1.heap.size w2 X ∧ Below w1.heap.size w1 w2 ∧ es.size = 7 ∧ es.all (·.oneCell') = true ∧ s.shaped = true) := ⟨rr, oo, bb, e7, e1, hs⟩
  clear rr oo bb e7 e1 hs
  go_wp2_with (first | go_skip | (with_reducible refine stopLoad 34 rfl ?_) | (with_reducible refine stopStore 34 rfl ?_))
  refine store_fresh 34 w2.heap.size rfl #[.int .i64 0, .int .i64 0, .int .i64 0, .int .i64 0, .slice none 0 0, .slice none 0 0, .slice none 0 0] es 34 rfl rfl rfl rfl (skSize HE.out.2.2.2.1) HE.out.2.2.2.1.symm HE.out.2.2.2.2.1 ?_
  intro W3 hg3 hb3
  have hbw := Below.next HE.out.2.2.1 hb3
  have hG3 := grown_tr HL1.out.2.2.1 (grown_below q hbw)
  obtain ⟨b1, o1, k1, b2, o2, k2, p, po, k3, b3, o3, j0, b4, o4, j1, l1, l2, x, y, hO⟩ := out_of (w := World.bare w) (lo := w1.heap.size) (HE.out.1.below hb3).sk hg3 (HE.out.2.1.below HE.out.1.lt hb3) HE.out.2.2.1.size (fun hx => by have := HE.out.1.lt _ hx; omega) HE.out.2.2.2.2.2 (bare_below hG3) (by show 0 + 1 < w1.heap.size; omega) (HE.out.1.below hb3).room
  have HO3 : Hid (Out (World.bare w) w1.heap.size w2.heap.size s.count s.sum s.min s.max b1 o1 k1 b2 o2 k2 p po k3 b3 o3 j0 b4 o4 j1 l1 l2 x y W3) := hO
  have HR3 : Hid (Blk W3 w.heap.size #[.int .i64 0, .int .i64 0, .int .i64 0, .int .i64 0, .slice none 0 0, .slice none 0 0, .slice none 0 0] 34 ∧ Cur W3 q a len cap zs i1 h1 ∧ w.grownBy W3 (some q)) := ⟨HL1.out.1.below hbw, HL1.out.2.1.keep hbw, hG3⟩
  have HL : Hid (q < w.heap.size ∧ w.heap.size < w1.heap.size ∧ ∀ b, (∃ off, a = some ⟨b, off, none⟩ ∧ 0 < len) → b < w.heap.size) := ⟨hqw, hlo, hAw⟩
  clear hg3 hb3 hbw hG3 hO HE HL1
  go_wp2_with fail
  refine (l1Once_any q a len cap zs i1 h1 16 _ HR3.out.2.1 hlen (by omega) (by omega)).mono ?_
  rintro e w4 ⟨b, i4, h4, rfl, C4, g4⟩
  have HOX : Hid (Out (World.bare w) w1.heap.size w2.heap.size s.count s.sum s.min s.max b1 o1 k1 b2 o2 k2 p po k3 b3 o3 j0 b4 o4 j1 l1 l2 x y w4) := HO3.out.grown g4 (by omega) (Nat.zero_le _)
  have HRX : Hid (Blk w4 w.heap.size #[.int .i64 0, .int .i64 0, .int .i64 0, .int .i64 0, .slice none 0 0, .slice none 0 0, .slice none 0 0] 34 ∧ Cur w4 q a len cap zs i4 h4 ∧ w.grownBy w4 (some q)) := ⟨HR3.out.1.grown g4 (by omega), C4, grown_tr HR3.out.2.2 g4⟩
  clear C4 g4 HO3 HR3
  cases b
  · go_wp2_with (first | go_skip | (with_reducible refine stopLoad 34 rfl ?_) | (with_reducible refine stopStore 34 rfl ?_))
    refine load_any 34 w2.heap.size _ 34 _ HOX.out.blk rfl rfl rfl Try.underlying34 rfl (by kernel_rfl) ?_
    go_wp2_with (first | go_skip | (with_reducible refine stopLoad 34 rfl ?_) | (with_reducible refine stopStore 34 rfl ?_))
    refine store_known 34 w.heap.size _ _ 34 HRX.out.1 rfl rfl rfl rfl (by kernel_rfl) rfl (by kernel_rfl) ?_
    go_wp2
    refine bodyPost_ret (results_cell_row Try.results114 _ _ w.heap.size _ _ _ _ rfl HRX.out.1.setRow Try.underlying34 rfl (by kernel_rfl)) rfl ?_
    exact drew_end HOX.out HRX.out.1 HRX.out.2.1 HRX.out.2.2 HL.out.1 HL.out.2.1
  have g0 := HOX.out.blk.cell 0
  simp only [aT, aZ] at g0
  by_cases hc : 0 < s.count
  rotate_left
  · have hcb : decide (0 < s.count) = false := dec_false hc
    clear hc
    go_wp2_with (first | go_skip | (with_reducible refine stopLoad 34 rfl ?_) | (with_reducible refine stopStore 34 rfl ?_))
    refine load_any 34 w2.heap.size _ 34 _ HOX.out.blk rfl rfl rfl Try.underlying34 rfl (by kernel_rfl) ?_
    go_wp2_with (first | go_skip | (with_reducible refine stopLoad 34 rfl ?_) | (with_reducible refine stopStore 34 rfl ?_))
    refine store_known 34 w.heap.size _ _ 34 HRX.out.1 rfl rfl rfl rfl (by kernel_rfl) rfl (by kernel_rfl) ?_
    go_wp2
    refine bodyPost_ret (results_cell_row Try.results114 _ _ w.heap.size _ _ _ _ rfl HRX.out.1.setRow Try.underlying34 rfl (by kernel_rfl)) rfl ?_
    exact drew_end HOX.out HRX.out.1 HRX.out.2.1 HRX.out.2.2 HL.out.1 HL.out.2.1
  have hcb : decide (0 < s.count) = true := dec_true hc
  clear hc
  go_wp2_with fail
  refine (l1Below_any q a len cap zs i4 h4 2 _ HRX.out.2.1 hlen (by omega) (by omega)).mono ?_
  rintro e w5 ⟨z, i5, h5, rfl, z0, z1, C5, g5⟩
  have HO5 : Hid (Out (World.bare w) w1.heap.size w2.heap.size s.count s.sum s.min s.max b1 o1 k1 b2 o2 k2 p po k3 b3 o3 j0 b4 o4 j1 l1 l2 x y w5) := HOX.out.grown g5 (by omega) (Nat.zero_le _)
  have HR5 : Hid (Blk w5 w.heap.size #[.int .i64 0, .int .i64 0, .int .i64 0, .int .i64 0, .slice none 0 0, .slice none 0 0, .slice none 0 0] 34 ∧ Cur w5 q a len cap zs i5 h5 ∧ w.grownBy w5 (some q)) := ⟨HRX.out.1.grown g5 (by omega), C5, grown_tr HRX.out.2.2 g5⟩
  clear C5 g5 HOX HRX g0 hcb
  have g0 := HO5.out.blk.cell 0
  have g1 := HO5.out.blk.cell 1
  have g4 := HO5.out.blk.cell 4
  have f0 := HO5.out.blk.frozen 0
  have f1 := HO5.out.blk.frozen 1
  have cE := HO5.out.hist.at 3 (by omega)
  have fE := HO5.out.own.free b1 (by simp) (o1 + 3)
  simp only [aT, aS, aZ] at g0 g1 g4
  have ne1 : ¬ w2.heap.size = b1 := by have := HO5.out.nd; omega
  have ne2 : ¬ b1 = w2.heap.size := fun e => ne1 e.symm
  go_wp2_with (first | go_skip | (with_reducible refine stopLoad 34 rfl ?_) | (with_reducible refine stopStore 34 rfl ?_))
  have HOX : Hid _ := ((HO5.out.setC (1000000000 - z)).setHist 3 (by omega) 1000000000).setS 999999997
  have HRX : Hid _ := held_set (held_set (held_set HR5.out HL.out.1 HL.out.2.2 w2.heap.size 0 (.int .i64 (1000000000 - z)) (by have := HO5.out.ges; have := HL.out.2.1; omega)) HL.out.1 HL.out.2.2 b1 (o1 + 3) (.int .i64 1000000000) (by have := HO5.out.ges; have := HL.out.2.1; omega)) HL.out.1 HL.out.2.2 w2.heap.size 1 (.int .i64 999999997) (by have := HO5.out.ges; have := HL.out.2.1; omega)
  refine load_any 34 w2.heap.size _ 34 _ HOX.out.blk rfl rfl rfl Try.underlying34 rfl (by kernel_rfl) ?_
  go_wp2_with (first | go_skip | (with_reducible refine stopLoad 34 rfl ?_) | (with_reducible refine stopStore 34 rfl ?_))
  refine store_known 34 w.heap.size _ _ 34 HRX.out.1 rfl rfl rfl rfl (by kernel_rfl) rfl (by kernel_rfl) ?_
  go_wp2
  refine bodyPost_ret (results_cell_row Try.results114 _ _ w.heap.size _ _ _ _ rfl HRX.out.1.setRow Try.underlying34 rfl (by kernel_rfl)) rfl ?_
  exact drew_end HOX.out HRX.out.1 HRX.out.2.1 HRX.out.2.2 HL.out.1 HL.out.2.1
end Go.Proofs.Ytgkbhhlkaifnoaa
