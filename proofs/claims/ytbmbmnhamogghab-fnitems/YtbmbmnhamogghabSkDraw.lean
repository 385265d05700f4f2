/- The walk through the model's drawing of a summary. No statement of the seat is proved here. -/
import Derived.Test.YtbmbmnhamogghabSkRight
namespace Go.Proofs.Ytbmbmnhamogghab
open Go.RowKit
theorem cell_al {W : World} {b i : Nat} {v : Value} (h : W.cell? ⟨b, i, none⟩ = some v) (o : Obj) : (W.alloc o).cell? ⟨b, i, none⟩ = some v :=
  (((Below.refl _ W).alloc (Nat.le_refl _) o).cell (p := ⟨b, i, none⟩) (World.block_lt_of_cell? _ _ h)).trans h
/-- What the drawing of a summary tells: some summary, each of its lists with something in it, in memory of its own; the cursor goes on. -/
def DrewFull (w : World) (q : Nat) (a : Option Addr) (len cap : Nat) (zs : List Int) (e : Ending) (w' : World) : Prop :=
  ∃ v s F i' h', e = .returned v ∧ RdSk w' v s F ∧ s.full ∧ Own w.heap.size w' F ∧ Cur w' q a len cap zs i' h' ∧ w.grownBy w' (some q)
theorem drew_full {w w' : World} {q : Nat} {a : Option Addr} {len cap : Nat} {zs : List Int} {e : Ending} (h : DrewShaped w q a len cap zs e w') : DrewFull w q a len cap zs e w' := by
  obtain ⟨v, s, F, i', h', e1, e2, e3, e4⟩ := h
  exact ⟨v, s, F, i', h', e1, e2.sk, shaped_full e3, e4⟩
/-- The result's place is written last. -/
theorem drew_put {w W : World} {q : Nat} {a : Option Addr} {len cap : Nat} {zs : List Int} {i h : Int} {cs : Array Value} {s : Sk} {F : List Nat} (hr : Blk W w.heap.size #[.int .i64 0, .int .i64 0, .int .i64 0, .int .i64 0, .slice none 0 0, .slice none 0 0, .slice none 0 0] 28) (hC : Cur W q a len cap zs i h) (hG : w.grownBy W (some q)) (hq : q < w.heap.size) (r : RdSk W (.agg cs) s F) (hs : s.full) (o : Own (w.heap.size + 1) W F) : DrewFull w q a len cap zs (.returned (.agg cs)) (W.setRow w.heap.size cs) := by
  have ag : Agree W (W.setRow w.heap.size cs) F := fun b hb => setRow_other W _ b _ (fun e => by have := o.ge b hb; omega)
  have hgr : w.grownBy (W.setRow w.heap.size cs) (some q) := ⟨hG.os, hG.tape, hG.output, by simp; exact hG.size, fun b hb hn => (setRow_other W _ b _ (by omega)).trans (hG.block b hb hn)⟩
  refine ⟨_, s, F, i, h, rfl, r.agree ag, hs, (o.agree ag).mono (by omega), ?_, hgr⟩
  refine cur_agree hC (World.block_lt_of_cell? _ _ hC.c0) (setRow_other W _ q _ (by omega)) (fun b hb ⟨off, ha, hp⟩ => setRow_other W _ b _ (fun e => ?_))
  subst e
  rcases hC.rd.cells with h0 | ⟨b', off', ha', hc⟩
  · omega
  · rw [ha] at ha'
    cases ha'
    have e0 := hc 0 hp
    rw [hr.cell] at e0
    match off, e0 with
    | 0, e0 => simp at e0
    | 1, e0 => simp at e0
    | 2, e0 => simp at e0
    | 3, e0 => simp at e0
    | 4, e0 => simp at e0
    | 5, e0 => simp at e0
    | 6, e0 => simp at e0
    | n + 7, e0 => simp at e0
theorem drew_row {w W ww : World} {q lo g : Nat} {c sm mn mx : Int} {b1 o1 k1 b2 o2 k2 p po k3 b3 o3 j0 b4 o4 j1 : Nat} {l1 l2 x y : List Int} {a : Option Addr} {len cap : Nat} {zs : List Int} {i h : Int} {v6 : Value} (hO : Out ww lo g c sm mn mx b1 o1 k1 b2 o2 k2 p po k3 b3 o3 j0 b4 o4 j1 l1 l2 x y W) (hr : Blk (W.setCell ⟨g, 6, none⟩ v6) w.heap.size #[.int .i64 0, .int .i64 0, .int .i64 0, .int .i64 0, .slice none 0 0, .slice none 0 0, .slice none 0 0] 28) (hC : Cur (W.setCell ⟨g, 6, none⟩ v6) q a len cap zs i h) (hG : w.grownBy (W.setCell ⟨g, 6, none⟩ v6) (some q)) (hq : q < w.heap.size) (hlo : w.heap.size + 1 ≤ lo) :
    DrewFull w q a len cap zs (.returned (.agg #[.int .i64 c, .int .i64 sm, .int .i64 mn, .int .i64 mx, .slice (some ⟨b1, o1, none⟩) 8 k1, .slice (some ⟨b2, o2, none⟩) 8 k2, .slice (some ⟨p, po, none⟩) 1 k3])) ((W.setCell ⟨g, 6, none⟩ v6).setRow w.heap.size #[.int .i64 c, .int .i64 sm, .int .i64 mn, .int .i64 mx, .slice (some ⟨b1, o1, none⟩) 8 k1, .slice (some ⟨b2, o2, none⟩) 8 k2, .slice (some ⟨p, po, none⟩) 1 k3]) := by
  have nd := hO.nd
  refine drew_put hr hC hG hq (s := ⟨c, sm, mn, mx, l1, l2, [x]⟩) (F := [b1, b2, p, b3]) ⟨_, 8, k1, _, 8, k2, _, 1, k3, [b1], [b2], [p, b3], rfl, hO.hist.agree (.set (by simp; omega) _ _), hO.regs.agree (.set (by simp; omega) _ _), ⟨rfl, .inr ⟨p, po, [b3], by omega, rfl, rfl, ?_⟩⟩, rfl⟩ ⟨?_, ?_, ?_, ?_⟩ ?_
  · show RdM _ [ints x] p po [b3]
    rw [RdM]
    exact ⟨_, [b3], [], cell_keep hO.c0 (by omega), rd_ints.2 ⟨_, _, _, rfl, hO.row0.agree (.set (by simp; omega) _ _)⟩, by simp [RdM], rfl⟩
  · have := hO.hist.length; simp; omega
  · have := hO.regs.length; simp; omega
  · simp
  · intro z hz
    have := hO.row0.length
    simp at hz
    subst hz
    omega
  · have o := (hO.own.set g 6 v6).mono hlo
    exact ⟨by have := o.nodup; simp at this ⊢; omega, fun b hb => o.free b (by simp at hb ⊢; omega), fun b hb => o.ge b (by simp at hb ⊢; omega)⟩
/-- What an append of one number onto the first list leaves. -/
structure HistX (w W W6 : World) (b1 : Nat) (l1 : List Int) (gB cp : Nat) : Prop where
  own : W6.ownsRow (w.heap.size + 1) 3 1 (.slice (some ⟨gB, 0, none⟩) (8 + 1) cp) (8 + 1) (l1.map (Value.int .i64) ++ [.int .i64 0])
  grow : (W.alloc (.cells #[.int .i64 0] 3)).grownBy W6 (Value.slice (some ⟨b1, 0, none⟩) 8 0).ownBlock
  at_ : (Value.slice (some ⟨b1, 0, none⟩) 8 0).ownBlock = some gB ∨ gB = W.heap.size + 1
theorem HistX.keep {w W W6 : World} {b1 : Nat} {l1 : List Int} {gB cp : Nat} (h : HistX w W W6 b1 l1 gB cp) : ∀ b, b < W.heap.size → b ≠ b1 → W6.heap[b]? = W.heap[b]? := fun b hb hn =>
  (h.grow.block b (by simp; omega) (fun e => hn (by simp [Value.ownBlock] at e; exact e))).trans (Below.heap_alloc W _ b hb)
theorem HistX.which {w W W6 : World} {b1 : Nat} {l1 : List Int} {gB cp : Nat} (h : HistX w W W6 b1 l1 gB cp) : gB = b1 ∨ W.heap.size < gB := by
  rcases h.at_ with e | e
  · left; simp [Value.ownBlock] at e; exact e.symm
  · right; omega
section
variable {w W W6 ww : World} {q g : Nat} {c sm mn mx : Int} {b1 o1 k1 b2 o2 k2 p po k3 b3 o3 j0 b4 o4 j1 : Nat} {l1 l2 x y : List Int} {a : Option Addr} {len cap : Nat} {zs : List Int} {i h : Int} {gB cp : Nat}
theorem HistX.held (hX : HistX w W W6 b1 l1 gB cp) (hO : Out ww (w.heap.size + 1) g c sm mn mx b1 o1 k1 b2 o2 k2 p po k3 b3 o3 j0 b4 o4 j1 l1 l2 x y W) (H : Blk W w.heap.size #[.int .i64 0, .int .i64 0, .int .i64 0, .int .i64 0, .slice none 0 0, .slice none 0 0, .slice none 0 0] 28 ∧ Cur W q a len cap zs i h ∧ w.grownBy W (some q)) (hq : q < w.heap.size) (ha : ∀ b, (∃ off, a = some ⟨b, off, none⟩ ∧ 0 < len) → b < w.heap.size) : Blk W6 w.heap.size #[.int .i64 0, .int .i64 0, .int .i64 0, .int .i64 0, .slice none 0 0, .slice none 0 0, .slice none 0 0] 28 ∧ Cur W6 q a len cap zs i h ∧ w.grownBy W6 (some q) := by
  have ge := hO.ges
  have hs := H.2.2.size
  have hsz : W.heap.size ≤ W6.heap.size := by have := hX.grow.size; simp at this; omega
  refine ⟨H.1.agree (hX.keep _ H.1.lt (by omega)), cur_agree H.2.1 (World.block_lt_of_cell? _ _ H.2.1.c0) (hX.keep q (by omega) (by omega)) (fun b hb hx => hX.keep b hb (by have := ha b hx; omega)), ?_⟩
  exact ⟨hX.grow.os.trans H.2.2.os, hX.grow.tape.trans H.2.2.tape, hX.grow.output.trans H.2.2.output, by omega, fun b hb hn => (hX.keep b (by omega) (by omega)).trans (H.2.2.block b hb hn)⟩
theorem HistX.blk (hX : HistX w W W6 b1 l1 gB cp) (hO : Out ww (w.heap.size + 1) g c sm mn mx b1 o1 k1 b2 o2 k2 p po k3 b3 o3 j0 b4 o4 j1 l1 l2 x y W) : Blk W6 g #[.int .i64 c, .int .i64 sm, .int .i64 mn, .int .i64 mx, .slice (some ⟨b1, o1, none⟩) 8 k1, .slice (some ⟨b2, o2, none⟩) 8 k2, .slice (some ⟨p, po, none⟩) 2 k3] 28 :=
  hO.blk.agree (hX.keep g hO.blk.lt (by have := hO.nd; omega))
theorem drew_hist (hO : Out ww (w.heap.size + 1) g c sm mn mx b1 o1 k1 b2 o2 k2 p po k3 b3 o3 j0 b4 o4 j1 l1 l2 x y W) (hX : HistX w W W6 b1 l1 gB cp) {v6 : Value} (hr : Blk (W6.setCell ⟨g, 4, none⟩ v6) w.heap.size #[.int .i64 0, .int .i64 0, .int .i64 0, .int .i64 0, .slice none 0 0, .slice none 0 0, .slice none 0 0] 28) (hC : Cur (W6.setCell ⟨g, 4, none⟩ v6) q a len cap zs i h) (hG : w.grownBy (W6.setCell ⟨g, 4, none⟩ v6) (some q)) (hq : q < w.heap.size) :
    DrewFull w q a len cap zs (.returned (.agg #[.int .i64 c, .int .i64 sm, .int .i64 mn, .int .i64 mx, .slice (some ⟨gB, 0, none⟩) 9 cp, .slice (some ⟨b2, o2, none⟩) 8 k2, .slice (some ⟨p, po, none⟩) 2 k3])) ((W6.setCell ⟨g, 4, none⟩ v6).setRow w.heap.size #[.int .i64 c, .int .i64 sm, .int .i64 mn, .int .i64 mx, .slice (some ⟨gB, 0, none⟩) 9 cp, .slice (some ⟨b2, o2, none⟩) 8 k2, .slice (some ⟨p, po, none⟩) 2 k3]) := by
  have nd := hO.nd
  have e1 := hO.hist.lt b1 (by simp)
  have e2 := hO.regs.lt b2 (by simp)
  have e3 := hO.row0.lt b3 (by simp)
  have e4 := hO.row1.lt b4 (by simp)
  have e5 : p < W.heap.size := World.block_lt_of_cell? _ _ hO.c0
  have e6 := hO.blk.lt
  have wh := hX.which
  have ag : Agree W W6 [b2, p, b3, b4] := fun b hb => hX.keep b (by simp at hb; omega) (by simp at hb; omega)
  have hown : W6.ownsRow (w.heap.size + 1) 3 1 (.slice (some ⟨gB, 0, none⟩) 9 cp) 9 ((l1 ++ [0]).map (Value.int .i64)) := by rw [List.map_append]; exact hX.own
  obtain ⟨F, hR, hF, hFg⟩ := RdI.of_own hown
  obtain ⟨b', o', hb', rfl⟩ := hR.single (by omega)
  cases hb'
  have hgd : g ≠ gB := by omega
  refine drew_put hr hC hG hq (s := ⟨c, sm, mn, mx, l1 ++ [0], l2, [x, y]⟩) (F := [gB, b2, p, b3, b4]) ⟨_, 9, cp, _, 8, k2, _, 2, k3, [gB], [b2], [p, b3, b4], rfl, hR.agree (.set (by simp; omega) _ _), (hO.regs.agree (ag.mono (by simp))).agree (.set (by simp; omega) _ _), ⟨rfl, .inr ⟨p, po, [b3, b4], by omega, rfl, rfl, ?_⟩⟩, rfl⟩ ⟨?_, ?_, ?_, ?_⟩ ?_
  · have bp := ag p (by simp)
    show RdM _ [ints x, ints y] p po [b3, b4]
    rw [RdM]
    refine ⟨_, [b3], [b4], cell_keep ((World.cell?_of_block (w := W) (a := ⟨p, po, none⟩) bp).trans hO.c0) (by omega), rd_ints.2 ⟨_, _, _, rfl, (hO.row0.agree (ag.mono (by simp))).agree (.set (by simp; omega) _ _)⟩, ?_, rfl⟩
    rw [RdM]
    exact ⟨_, [b4], [], cell_keep ((World.cell?_of_block (w := W) (a := ⟨p, po + 1, none⟩) bp).trans hO.c1) (by omega), rd_ints.2 ⟨_, _, _, rfl, (hO.row1.agree (ag.mono (by simp))).agree (.set (by simp; omega) _ _)⟩, by simp [RdM], rfl⟩
  · have := hO.hist.length; simp; omega
  · have := hO.regs.length; simp; omega
  · simp
  · intro z hz
    have := hO.row0.length
    have := hO.row1.length
    simp at hz
    rcases hz with rfl | rfl <;> omega
  · have oG := hF.set g 4 v6
    have oR : Own (w.heap.size + 1) W6 [b2, p, b3, b4] := (⟨by have := hO.own.nodup; simp at this ⊢; omega, fun b hb => hO.own.free b (by simp at hb ⊢; omega), fun b hb => hO.own.ge b (by simp at hb ⊢; omega)⟩ : Own (w.heap.size + 1) W [b2, p, b3, b4]).agree ag
    exact oG.app (oR.set g 4 v6) (fun b hb => by simp at hb ⊢; omega)
end
set_option maxRecDepth 200000 in
set_option maxHeartbeats 8000000 in
theorem l3Draw_any (q : Nat) (a : Option Addr) (len cap : Nat) (zs : List Int) (i h : Int) (w : World) (C : Cur w q a len cap zs i h) (hlen : len ≤ 1048576) :
    Calls Try.prog 70 #[.pointer (some ⟨q, 0, none⟩)] w fun e w' => DrewFull w q a len cap zs e w' := by
  have HL : Hid (q < w.heap.size ∧ ∀ b, (∃ off, a = some ⟨b, off, none⟩ ∧ 0 < len) → b < w.heap.size) := ⟨World.block_lt_of_cell? _ _ C.c0, cur_lt C⟩
  have HT : Hid (Blk (w.alloc (.cells #[.int .i64 0, .int .i64 0, .int .i64 0, .int .i64 0, .slice none 0 0, .slice none 0 0, .slice none 0 0] 28)) w.heap.size #[.int .i64 0, .int .i64 0, .int .i64 0, .int .i64 0, .slice none 0 0, .slice none 0 0, .slice none 0 0] 28 ∧ Below w.heap.size w (w.alloc (.cells #[.int .i64 0, .int .i64 0, .int .i64 0, .int .i64 0, .slice none 0 0, .slice none 0 0, .slice none 0 0] 28))) := ⟨Blk.made _ _ _, (Below.refl _ _).alloc (Nat.le_refl _) _⟩
  have HC : Hid (Cur (w.alloc (.cells #[.int .i64 0, .int .i64 0, .int .i64 0, .int .i64 0, .slice none 0 0, .slice none 0 0, .slice none 0 0] 28)) q a len cap zs i h) := C.keep HT.out.2
  clear C
  go_enter Try.func70, Try.ntmps70
  go_wp2_with fail
  refine (l3Right_any q a len cap zs i h _ HC.out hlen).mono ?_
  rintro e w1 ⟨vv, s, X, i1, h1, rfl, rr, hs, oo, C1, g1⟩
  have hlo : w.heap.size + 1 ≤ w1.heap.size := by have := g1.size; simpa using this
  obtain ⟨es, rfl, e7, e1⟩ := rr.cells
  have HE : Hid (RdR w1 (.agg es) s X ∧ Own (w.heap.size + 1) w1 X ∧ es.size = 7 ∧ es.all (·.oneCell') = true ∧ s.shaped = true) := ⟨rr, by simpa using oo, e7, e1, hs⟩
  have HL1 : Hid (Blk w1 w.heap.size #[.int .i64 0, .int .i64 0, .int .i64 0, .int .i64 0, .slice none 0 0, .slice none 0 0, .slice none 0 0] 28 ∧ Cur w1 q a len cap zs i1 h1 ∧ w.grownBy w1 (some q)) := ⟨HT.out.1.grown g1 (by have := HL.out.1; omega), C1, grown_tr (grown_below q HT.out.2) g1⟩
  clear rr oo e7 e1 hs C1 g1 HT HC
  go_wp2_with (first | go_skip | (with_reducible refine stopLoad 28 rfl ?_) | (with_reducible refine stopStore 28 rfl ?_))
  refine store_fresh 28 w1.heap.size rfl #[.int .i64 0, .int .i64 0, .int .i64 0, .int .i64 0, .slice none 0 0, .slice none 0 0, .slice none 0 0] es 28 rfl rfl rfl rfl (skSize HE.out.2.2.1) HE.out.2.2.1.symm HE.out.2.2.2.1 ?_
  intro W3 hg3 hb3
  have hG3 := grown_tr HL1.out.2.2 (grown_below q hb3)
  obtain ⟨b1, o1, k1, b2, o2, k2, p, po, k3, b3, o3, j0, b4, o4, j1, l1, l2, x, y, hO⟩ := out_of (w := World.bare w) (lo := w.heap.size + 1) (HE.out.1.below hb3).sk hg3 (HE.out.2.1.below HE.out.1.lt hb3) hlo (fun hx => by have := HE.out.1.lt _ hx; omega) HE.out.2.2.2.2 (bare_below hG3) (by show 0 + 1 < w.heap.size + 1; have := HL.out.1; omega) (HE.out.1.below hb3).room
  have HO3 : Hid (Out (World.bare w) (w.heap.size + 1) w1.heap.size s.count s.sum s.min s.max b1 o1 k1 b2 o2 k2 p po k3 b3 o3 j0 b4 o4 j1 l1 l2 x y W3) := hO
  have HR3 : Hid (Blk W3 w.heap.size #[.int .i64 0, .int .i64 0, .int .i64 0, .int .i64 0, .slice none 0 0, .slice none 0 0, .slice none 0 0] 28 ∧ Cur W3 q a len cap zs i1 h1 ∧ w.grownBy W3 (some q)) := ⟨HL1.out.1.below hb3, HL1.out.2.1.keep hb3, hG3⟩
  clear hg3 hb3 hG3 hO HE HL1
  go_wp2_with fail
  refine (l1Below_any q a len cap zs i1 h1 16 _ HR3.out.2.1 hlen (by omega) (by omega)).mono ?_
  rintro e w4 ⟨d, i4, h4, rfl, d0, d1, C4, g4⟩
  have HO4 : Hid (Out (World.bare w) (w.heap.size + 1) w1.heap.size s.count s.sum s.min s.max b1 o1 k1 b2 o2 k2 p po k3 b3 o3 j0 b4 o4 j1 l1 l2 x y w4) := HO3.out.grown g4 (by have := HL.out.1; omega) (Nat.zero_le _)
  have HR4 : Hid (Blk w4 w.heap.size #[.int .i64 0, .int .i64 0, .int .i64 0, .int .i64 0, .slice none 0 0, .slice none 0 0, .slice none 0 0] 28 ∧ Cur w4 q a len cap zs i4 h4 ∧ w.grownBy w4 (some q)) := ⟨HR3.out.1.grown g4 (by have := HL.out.1; omega), C4, grown_tr HR3.out.2.2 g4⟩
  clear C4 g4 HO3 HR3
  by_cases q0 : d = 0
  · subst q0
    go_wp2_with fail
    refine (pickInt_cur q w4.heap.size _ a len cap zs i4 h4 [-1, 1000001, 500] _ (HR4.out.2.1.keep ((Below.refl _ _).alloc (Nat.le_refl _) _)) hlen (fun j hj => lit_ints w4 [-1, 1000001, 500] 3 j hj) (by have := HR4.out.2.2.size; have := HL.out.1; omega) _ rfl (by simp) (by simp)).mono ?_
    rintro e w5 ⟨z, i5, h5, _, rfl, C5, g5⟩
    have gg := grown_tr (World.grownBy_alloc w4 _ (some q)) g5
    have HO5 : Hid (Out (World.bare w) (w.heap.size + 1) w1.heap.size s.count s.sum s.min s.max b1 o1 k1 b2 o2 k2 p po k3 b3 o3 j0 b4 o4 j1 l1 l2 x y w5) := HO4.out.grown gg (by have := HL.out.1; omega) (Nat.zero_le _)
    have HR5 : Hid (Blk w5 w.heap.size #[.int .i64 0, .int .i64 0, .int .i64 0, .int .i64 0, .slice none 0 0, .slice none 0 0, .slice none 0 0] 28 ∧ Cur w5 q a len cap zs i5 h5 ∧ w.grownBy w5 (some q)) := ⟨HR4.out.1.grown gg (by have := HL.out.1; omega), C5, grown_tr HR4.out.2.2 gg⟩
    have HOX : Hid _ := HO5.out.setMn z
    have HRX : Hid _ := held_set HR5.out HL.out.1 HL.out.2 w1.heap.size 2 (.int .i64 z) (by have := HO5.out.ges; omega)
    have f2 := HO5.out.blk.frozen 2
    have c2 := HO5.out.blk.cell 2
    simp only [List.getElem?_toArray, List.getElem?_cons_succ, List.getElem?_cons_zero] at c2
    clear C5 g5 gg
    go_wp2_with (first | go_skip | (with_reducible refine stopLoad 28 rfl ?_) | (with_reducible refine stopStore 28 rfl ?_))
    refine load_any 28 w1.heap.size _ 28 _ HOX.out.blk rfl rfl rfl Try.underlying28 rfl (by kernel_rfl) ?_
    go_wp2_with (first | go_skip | (with_reducible refine stopLoad 28 rfl ?_) | (with_reducible refine stopStore 28 rfl ?_))
    refine store_known 28 w.heap.size _ _ 28 HRX.out.1 rfl rfl rfl rfl (by kernel_rfl) rfl (by kernel_rfl) ?_
    go_wp2
    refine bodyPost_ret (results_cell_row Try.results70 _ _ w.heap.size _ _ _ _ rfl HRX.out.1.setRow Try.underlying28 rfl (by kernel_rfl)) rfl ?_
    exact drew_full (drew_end HOX.out HRX.out.1 HRX.out.2.1 HRX.out.2.2 HL.out.1 (by omega))
  by_cases q1 : d = 1
  · subst q1
    have HS4 : Hid (w4.drew.cell? ⟨w1.heap.size, 5, none⟩ = some (.slice (some ⟨b2, o2, none⟩) 8 k2)) := HO4.out.drew.blk.cell 5
    have HO4d : Hid (Out (World.bare w) (w.heap.size + 1) w1.heap.size s.count s.sum s.min s.max b1 o1 k1 b2 o2 k2 p po k3 b3 o3 j0 b4 o4 j1 l1 l2 x y w4.drew) := HO4.out.drew
    have HR4d : Hid (Blk w4.drew w.heap.size #[.int .i64 0, .int .i64 0, .int .i64 0, .int .i64 0, .slice none 0 0, .slice none 0 0, .slice none 0 0] 28 ∧ Cur w4.drew q a len cap zs i4 h4 ∧ w.grownBy w4.drew (some q)) := ⟨HR4.out.1.drew, HR4.out.2.1.keep (Below.refl _ _).drew, grown_tr HR4.out.2.2 (grown_below q (Below.refl _ _).drew)⟩
    go_wp2
    refine wp_region_held (S := (fun W => W.cell? ⟨w1.heap.size, 5, none⟩ = some (.slice (some ⟨b2, o2, none⟩) 8 k2))) (by kernel_rfl) ?_
    change wpAnyH _ _ _ _ _ _ _ _ (World.drew _)
    refine takeH (o := ?o1) 0 (.pointer (some ⟨w1.heap.size, 5, none⟩)) ?h1 ?r1
    case h1 => simp only [List.getElem?_toArray, List.getElem?_cons_zero]; rfl
    refine ⟨_, by simp [Act.put]; rfl, by kernel_rfl, by kernel_rfl, by kernel_rfl, fun _ _ _ h => h, (.inl ⟨rfl, fun W _ => by go_simp⟩), HS4.out, ?_⟩
    refine takeH (o := ?o2) 1 (.slice (some ⟨b2, o2, none⟩) 8 k2) ?h2 ?r2
    case h2 => simp only [List.getElem?_toArray, List.getElem?_cons_succ, List.getElem?_cons_zero]; rfl
    refine ⟨_, by simp [Act.put]; rfl, by kernel_rfl, by kernel_rfl, by kernel_rfl, fun _ _ _ h => h, (.inl ⟨rfl, fun W hW => by have c := hW; go_simp⟩), HS4.out, ?_⟩
    refine takeH (o := ?o3) 2 (.pointer (some ⟨q, 0, none⟩)) ?h3 ?r3
    case h3 => simp only [List.getElem?_toArray, List.getElem?_cons_succ, List.getElem?_cons_zero]; rfl
    refine ⟨_, by simp [Act.put]; rfl, by kernel_rfl, by kernel_rfl, by kernel_rfl, fun _ _ _ h => h, (.inl ⟨rfl, fun W _ => by go_simp⟩), HS4.out, ?_⟩
    refine takeH (o := ?o4) 4 (.pointer (some ⟨q, 0, none⟩)) ?h4 ?r4
    case h4 => simp only [List.getElem?_toArray, List.getElem?_cons_succ, List.getElem?_cons_zero]; rfl
    refine ⟨_, by simp [Act.put]; rfl, by kernel_rfl, by kernel_rfl, by kernel_rfl, fun _ _ _ h => h, (.inl ⟨rfl, fun W _ => by go_simp⟩), HS4.out, ?_⟩
    refine twoH (o := ?o5) (o' := ?p5) 3 5 (by kernel_rfl) ?h5 ?g5 ?r5 ?s5
    case h5 => simp only [List.getElem?_toArray, List.getElem?_cons_succ, List.getElem?_cons_zero]; rfl
    case g5 => simp only [List.getElem?_toArray, List.getElem?_cons_succ, List.getElem?_cons_zero]; rfl
    case r5 =>
      intro K hK
      refine op_call2' 35 _ _ _ Try.f35 (fun v w' => ∃ j i' h', v = .int .i64 j ∧ 0 ≤ j ∧ j < 8 ∧ Cur w' q a len cap zs i' h' ∧ w4.drew.grownBy w' (some q)) rfl rfl Try.func35 (by kernel_rfl) (by kernel_rfl) ((l1Below_any q a len cap zs i4 h4 8 w4.drew HR4d.out.2.1 hlen (by omega) (by omega)).mono (by rintro e w' ⟨z, i', h', rfl, z0, z1, C, g⟩; exact ⟨_, rfl, z, i', h', rfl, z0, z1, C, g⟩)) ?_
      rintro _ w5 ⟨z, i5, h5, rfl, z0, z1, C5, g5⟩
      obtain ⟨j, rfl⟩ := Int.eq_ofNat_of_zero_le z0
      have hj : j < 8 := by omega
      have HO5 : Hid (Out (World.bare w) (w.heap.size + 1) w1.heap.size s.count s.sum s.min s.max b1 o1 k1 b2 o2 k2 p po k3 b3 o3 j0 b4 o4 j1 l1 l2 x y w5) := HO4d.out.grown g5 (by have := HL.out.1; omega) (Nat.zero_le _)
      have HR5 : Hid (Blk w5 w.heap.size #[.int .i64 0, .int .i64 0, .int .i64 0, .int .i64 0, .slice none 0 0, .slice none 0 0, .slice none 0 0] 28 ∧ Cur w5 q a len cap zs i5 h5 ∧ w.grownBy w5 (some q)) := ⟨HR4d.out.1.grown g5 (by have := HL.out.1; omega), C5, grown_tr HR4d.out.2.2 g5⟩
      have HS5 : Hid (w5.cell? ⟨w1.heap.size, 5, none⟩ = some (.slice (some ⟨b2, o2, none⟩) 8 k2)) := HO5.out.blk.cell 5
      refine ⟨_, by simp [Act.put]; rfl, hK _ _ ⟨HS5.out, ?_⟩⟩
      clear hK C5 g5 z0 z1 HS4 HO4d HR4d
      refine onlyH (o := ?o6) 5 (by kernel_rfl) ?h6 ?r6
      case h6 => simp only [List.getElem?_toArray, List.getElem?_cons_succ, List.getElem?_cons_zero]; rfl
      intro K hK
      refine op_turn (.slice (some ⟨w5.heap.size, 0, none⟩) 3 3) (w5.alloc (.cells ([-1, 17, 18].map (Value.int .i64)).toArray 3)) rfl (by go_simp) ⟨_, by simp [Act.put]; rfl, hK _ _ ⟨(HO5.out.blk.alloc _).cell 5, ?_⟩⟩
      obtain ⟨w6, hW⟩ : ∃ W, W = (w5.alloc (.cells ([-1, 17, 18].map (Value.int .i64)).toArray 3)) := ⟨_, rfl⟩
      rw [← hW]
      have hbw : Below w5.heap.size w5 w6 := by rw [hW]; exact (Below.refl _ _).alloc (Nat.le_refl _) _
      have HLIT : Hid (∀ j, j < ([-1, 17, 18] : List Int).length → w6.cell? ⟨w5.heap.size, j, none⟩ = some (.int .i64 (([-1, 17, 18] : List Int).getD j 0))) := fun j hj => by rw [hW]; exact lit_ints w5 [-1, 17, 18] 3 j hj
      have HO6 : Hid (Out (World.bare w) (w.heap.size + 1) w1.heap.size s.count s.sum s.min s.max b1 o1 k1 b2 o2 k2 p po k3 b3 o3 j0 b4 o4 j1 l1 l2 x y w6) := HO5.out.below hbw
      have HR6 : Hid (Blk w6 w.heap.size #[.int .i64 0, .int .i64 0, .int .i64 0, .int .i64 0, .slice none 0 0, .slice none 0 0, .slice none 0 0] 28 ∧ Cur w6 q a len cap zs i5 h5 ∧ w.grownBy w6 (some q)) := ⟨HR5.out.1.below hbw, HR5.out.2.1.keep hbw, grown_tr HR5.out.2.2 (grown_below q hbw)⟩
      have HS6 : Hid (w6.cell? ⟨w1.heap.size, 5, none⟩ = some (.slice (some ⟨b2, o2, none⟩) 8 k2)) := HO6.out.blk.cell 5
      clear hK hW hbw
      refine onlyH (o := ?o7) 6 (by kernel_rfl) ?h7 ?r7
      case h7 => simp only [List.getElem?_toArray, List.getElem?_cons_succ, List.getElem?_cons_zero]; rfl
      intro K hK
      have hs5 := HR5.out.2.2.size
      refine op_call2' 41 _ _ _ Try.f41 (fun v w' => ∃ y i' h', v = .int .i64 y ∧ Cur w' q a len cap zs i' h' ∧ w6.grownBy w' (some q)) rfl rfl Try.func41 (by kernel_rfl) (by kernel_rfl) ((pickInt_cur q w5.heap.size _ a len cap zs i5 h5 [-1, 17, 18] w6 HR6.out.2.1 hlen HLIT.out (by have := HL.out.1; have := HR4.out.2.2.size; have := hs5; omega) _ rfl (by simp) (by simp)).mono (by rintro e w' ⟨y, i', h', _, rfl, C, g⟩; exact ⟨_, rfl, y, i', h', rfl, C, g⟩)) ?_
      rintro _ w7 ⟨vy, i7, h7, rfl, C7, g7⟩
      have HO7 : Hid (Out (World.bare w) (w.heap.size + 1) w1.heap.size s.count s.sum s.min s.max b1 o1 k1 b2 o2 k2 p po k3 b3 o3 j0 b4 o4 j1 l1 l2 x y w7) := HO6.out.grown g7 (by have := HL.out.1; omega) (Nat.zero_le _)
      have HR7 : Hid (Blk w7 w.heap.size #[.int .i64 0, .int .i64 0, .int .i64 0, .int .i64 0, .slice none 0 0, .slice none 0 0, .slice none 0 0] 28 ∧ Cur w7 q a len cap zs i7 h7 ∧ w.grownBy w7 (some q)) := ⟨HR6.out.1.grown g7 (by have := HL.out.1; omega), C7, grown_tr HR6.out.2.2 g7⟩
      have HS7 : Hid (w7.cell? ⟨w1.heap.size, 5, none⟩ = some (.slice (some ⟨b2, o2, none⟩) 8 k2)) := HO7.out.blk.cell 5
      refine ⟨_, by simp [Act.put]; rfl, hK _ _ ⟨HS7.out, ?_⟩⟩
      clear hK C7 g7 HS6 HO6 HR6 HS5 HO5 HR5 HLIT HO4 HR4
      refine takeH (o := ?o8) 7 (.pointer (some ⟨b2, o2 + j, none⟩)) ?h8 ?r8
      case h8 => simp only [List.getElem?_toArray, List.getElem?_cons_succ, List.getElem?_cons_zero]; rfl
      refine ⟨_, by simp [Act.put]; rfl, by kernel_rfl, by kernel_rfl, by kernel_rfl, fun _ _ _ h => h, (.inl ⟨rfl, fun W _ => by go_simp; intro h; omega⟩), HS7.out, ?_⟩
      refine onlyH (o := ?o9) 8 (by kernel_rfl) ?h9 ?r9
      case h9 => simp only [List.getElem?_toArray, List.getElem?_cons_succ, List.getElem?_cons_zero]; rfl
      intro K hK
      have fE := HO7.out.own.free b2 (by simp) (o2 + j)
      have cE := HO7.out.regs.at j hj
      have HOX : Hid _ := HO7.out.setRegs j hj vy
      have HRX : Hid _ := held_set HR7.out HL.out.1 HL.out.2 b2 (o2 + j) (.int .i64 vy) (by have := HO7.out.ges; omega)
      refine op_skip (w7.setCell ⟨b2, o2 + j, none⟩ (.int .i64 vy)) rfl (by go_simp) ⟨_, by simp [Act.put]; rfl, hK _ _ ⟨HOX.out.blk.cell 5, ?_⟩⟩
      clear hK
      refine wpAnyH_done (by kernel_rfl) ?_ _
      clear HO7 HR7 HS7
      go_wp2_with (first | go_skip | (with_reducible refine stopLoad 28 rfl ?_) | (with_reducible refine stopStore 28 rfl ?_))
      refine load_any 28 w1.heap.size _ 28 _ HOX.out.blk rfl rfl rfl Try.underlying28 rfl (by kernel_rfl) ?_
      go_wp2_with (first | go_skip | (with_reducible refine stopLoad 28 rfl ?_) | (with_reducible refine stopStore 28 rfl ?_))
      refine store_known 28 w.heap.size _ _ 28 HRX.out.1 rfl rfl rfl rfl (by kernel_rfl) rfl (by kernel_rfl) ?_
      go_wp2
      refine bodyPost_ret (results_cell_row Try.results70 _ _ w.heap.size _ _ _ _ rfl HRX.out.1.setRow Try.underlying28 rfl (by kernel_rfl)) rfl ?_
      exact drew_full (drew_end HOX.out HRX.out.1 HRX.out.2.1 HRX.out.2.2 HL.out.1 (by omega))
    case s5 =>
      intro K hK
      refine op_turn (.slice (some ⟨w4.drew.heap.size, 0, none⟩) 3 3) (w4.drew.alloc (.cells ([-1, 17, 18].map (Value.int .i64)).toArray 3)) rfl (by go_simp) ⟨_, by simp [Act.put]; rfl, hK _ _ ⟨(HO4d.out.blk.alloc _).cell 5, ?_⟩⟩
      obtain ⟨w6, hW⟩ : ∃ W, W = (w4.drew.alloc (.cells ([-1, 17, 18].map (Value.int .i64)).toArray 3)) := ⟨_, rfl⟩
      rw [← hW]
      have hbw : Below w4.drew.heap.size w4.drew w6 := by rw [hW]; exact (Below.refl _ _).alloc (Nat.le_refl _) _
      have HLIT : Hid (∀ j, j < ([-1, 17, 18] : List Int).length → w6.cell? ⟨w4.drew.heap.size, j, none⟩ = some (.int .i64 (([-1, 17, 18] : List Int).getD j 0))) := fun j hj => by rw [hW]; exact lit_ints w4.drew [-1, 17, 18] 3 j hj
      have HO6 : Hid (Out (World.bare w) (w.heap.size + 1) w1.heap.size s.count s.sum s.min s.max b1 o1 k1 b2 o2 k2 p po k3 b3 o3 j0 b4 o4 j1 l1 l2 x y w6) := HO4d.out.below hbw
      have HR6 : Hid (Blk w6 w.heap.size #[.int .i64 0, .int .i64 0, .int .i64 0, .int .i64 0, .slice none 0 0, .slice none 0 0, .slice none 0 0] 28 ∧ Cur w6 q a len cap zs i4 h4 ∧ w.grownBy w6 (some q)) := ⟨HR4d.out.1.below hbw, HR4d.out.2.1.keep hbw, grown_tr HR4d.out.2.2 (grown_below q hbw)⟩
      have HS6 : Hid (w6.cell? ⟨w1.heap.size, 5, none⟩ = some (.slice (some ⟨b2, o2, none⟩) 8 k2)) := HO6.out.blk.cell 5
      have hd : w4.drew.heap.size = w4.heap.size := rfl
      clear hK hW HS4 HO4d HR4d
      refine onlyH (o := ?o10) 3 (by kernel_rfl) ?h10 ?r10
      case h10 => simp only [List.getElem?_toArray, List.getElem?_cons_succ, List.getElem?_cons_zero]; rfl
      intro K hK
      refine op_call2' 35 _ _ _ Try.f35 (fun v w' => ∃ j i' h', v = .int .i64 j ∧ 0 ≤ j ∧ j < 8 ∧ Cur w' q a len cap zs i' h' ∧ w6.grownBy w' (some q)) rfl rfl Try.func35 (by kernel_rfl) (by kernel_rfl) ((l1Below_any q a len cap zs i4 h4 8 w6 HR6.out.2.1 hlen (by omega) (by omega)).mono (by rintro e w' ⟨z, i', h', rfl, z0, z1, C, g⟩; exact ⟨_, rfl, z, i', h', rfl, z0, z1, C, g⟩)) ?_
      rintro _ w5 ⟨z, i5, h5, rfl, z0, z1, C5, g5⟩
      obtain ⟨j, rfl⟩ := Int.eq_ofNat_of_zero_le z0
      have hj : j < 8 := by omega
      have HO5 : Hid (Out (World.bare w) (w.heap.size + 1) w1.heap.size s.count s.sum s.min s.max b1 o1 k1 b2 o2 k2 p po k3 b3 o3 j0 b4 o4 j1 l1 l2 x y w5) := HO6.out.grown g5 (by have := HL.out.1; omega) (Nat.zero_le _)
      have HR5 : Hid (Blk w5 w.heap.size #[.int .i64 0, .int .i64 0, .int .i64 0, .int .i64 0, .slice none 0 0, .slice none 0 0, .slice none 0 0] 28 ∧ Cur w5 q a len cap zs i5 h5 ∧ w.grownBy w5 (some q)) := ⟨HR6.out.1.grown g5 (by have := HL.out.1; omega), C5, grown_tr HR6.out.2.2 g5⟩
      have HS5 : Hid (w5.cell? ⟨w1.heap.size, 5, none⟩ = some (.slice (some ⟨b2, o2, none⟩) 8 k2)) := HO5.out.blk.cell 5
      have HLIT5 : Hid (∀ j, j < ([-1, 17, 18] : List Int).length → w5.cell? ⟨w4.drew.heap.size, j, none⟩ = some (.int .i64 (([-1, 17, 18] : List Int).getD j 0))) := fun j hj => (World.cell?_of_block (g5.block w4.drew.heap.size (World.block_lt_of_cell? _ _ (HLIT.out j hj)) (fun e => by have := HR4.out.2.2.size; have := HL.out.1; simp at e; omega))).trans (HLIT.out j hj)
      refine ⟨_, by simp [Act.put]; rfl, hK _ _ ⟨HS5.out, ?_⟩⟩
      clear hK C5 g5 z0 z1 hbw
      refine onlyH (o := ?o11) 6 (by kernel_rfl) ?h11 ?r11
      case h11 => simp only [List.getElem?_toArray, List.getElem?_cons_succ, List.getElem?_cons_zero]; rfl
      intro K hK
      refine op_call2' 41 _ _ _ Try.f41 (fun v w' => ∃ y i' h', v = .int .i64 y ∧ Cur w' q a len cap zs i' h' ∧ w5.grownBy w' (some q)) rfl rfl Try.func41 (by kernel_rfl) (by kernel_rfl) ((pickInt_cur q w4.drew.heap.size _ a len cap zs i5 h5 [-1, 17, 18] w5 HR5.out.2.1 hlen HLIT5.out (by have := HL.out.1; have := HR4.out.2.2.size; omega) _ rfl (by simp) (by simp)).mono (by rintro e w' ⟨y, i', h', _, rfl, C, g⟩; exact ⟨_, rfl, y, i', h', rfl, C, g⟩)) ?_
      rintro _ w7 ⟨vy, i7, h7, rfl, C7, g7⟩
      have HO7 : Hid (Out (World.bare w) (w.heap.size + 1) w1.heap.size s.count s.sum s.min s.max b1 o1 k1 b2 o2 k2 p po k3 b3 o3 j0 b4 o4 j1 l1 l2 x y w7) := HO5.out.grown g7 (by have := HL.out.1; omega) (Nat.zero_le _)
      have HR7 : Hid (Blk w7 w.heap.size #[.int .i64 0, .int .i64 0, .int .i64 0, .int .i64 0, .slice none 0 0, .slice none 0 0, .slice none 0 0] 28 ∧ Cur w7 q a len cap zs i7 h7 ∧ w.grownBy w7 (some q)) := ⟨HR5.out.1.grown g7 (by have := HL.out.1; omega), C7, grown_tr HR5.out.2.2 g7⟩
      have HS7 : Hid (w7.cell? ⟨w1.heap.size, 5, none⟩ = some (.slice (some ⟨b2, o2, none⟩) 8 k2)) := HO7.out.blk.cell 5
      refine ⟨_, by simp [Act.put]; rfl, hK _ _ ⟨HS7.out, ?_⟩⟩
      clear hK C7 g7 HS6 HO6 HR6 HS5 HO5 HR5 HLIT HLIT5 HO4 HR4 hd
      refine takeH (o := ?o12) 7 (.pointer (some ⟨b2, o2 + j, none⟩)) ?h12 ?r12
      case h12 => simp only [List.getElem?_toArray, List.getElem?_cons_succ, List.getElem?_cons_zero]; rfl
      refine ⟨_, by simp [Act.put]; rfl, by kernel_rfl, by kernel_rfl, by kernel_rfl, fun _ _ _ h => h, (.inl ⟨rfl, fun W _ => by go_simp; intro h; omega⟩), HS7.out, ?_⟩
      refine onlyH (o := ?o13) 8 (by kernel_rfl) ?h13 ?r13
      case h13 => simp only [List.getElem?_toArray, List.getElem?_cons_succ, List.getElem?_cons_zero]; rfl
      intro K hK
      have fE := HO7.out.own.free b2 (by simp) (o2 + j)
      have cE := HO7.out.regs.at j hj
      have HOX : Hid _ := HO7.out.setRegs j hj vy
      have HRX : Hid _ := held_set HR7.out HL.out.1 HL.out.2 b2 (o2 + j) (.int .i64 vy) (by have := HO7.out.ges; omega)
      refine op_skip (w7.setCell ⟨b2, o2 + j, none⟩ (.int .i64 vy)) rfl (by go_simp) ⟨_, by simp [Act.put]; rfl, hK _ _ ⟨HOX.out.blk.cell 5, ?_⟩⟩
      clear hK
      refine wpAnyH_done (by kernel_rfl) ?_ _
      clear HO7 HR7 HS7
      go_wp2_with (first | go_skip | (with_reducible refine stopLoad 28 rfl ?_) | (with_reducible refine stopStore 28 rfl ?_))
      refine load_any 28 w1.heap.size _ 28 _ HOX.out.blk rfl rfl rfl Try.underlying28 rfl (by kernel_rfl) ?_
      go_wp2_with (first | go_skip | (with_reducible refine stopLoad 28 rfl ?_) | (with_reducible refine stopStore 28 rfl ?_))
      refine store_known 28 w.heap.size _ _ 28 HRX.out.1 rfl rfl rfl rfl (by kernel_rfl) rfl (by kernel_rfl) ?_
      go_wp2
      refine bodyPost_ret (results_cell_row Try.results70 _ _ w.heap.size _ _ _ _ rfl HRX.out.1.setRow Try.underlying28 rfl (by kernel_rfl)) rfl ?_
      exact drew_full (drew_end HOX.out HRX.out.1 HRX.out.2.1 HRX.out.2.2 HL.out.1 (by omega))
  by_cases q2 : d = 2
  · subst q2
    have c4 := HO4.out.blk.cell 4
    have f4 := HO4.out.blk.frozen 4
    simp only [List.getElem?_toArray, List.getElem?_cons_succ, List.getElem?_cons_zero] at c4
    have hsz := HR4.out.2.2.size
    have hb1 := HO4.out.ges
    have HW : Hid (w4.ownsRow (w.heap.size + 1) 3 1 (.slice (some ⟨b1, o1, none⟩) 8 k1) 8 (l1.map (Value.int .i64))) := HO4.out.room.to_own HO4.out.hist hb1.2.1
    obtain ⟨t0, hi, hz0, hz1, hz2⟩ := info_parts infoInt
    have hs4 : (w4.alloc (.cells #[.int .i64 0] 3)).heap.size = w4.heap.size + 1 := by simp
    go_wp2_with (at_builtin; (refine wpList_append_lies _ rfl _ _ 25 rfl (w.heap.size + 1) 3 t0 (.int .i64 0) 1 8 Try.underlying25 hi hz0 hz1 hz2 rfl (by decide) _ 8 (l1.map (Value.int .i64)) rfl (HW.out.alloc _) ⟨w4.heap.size, 0, none⟩ 1 1 [.int .i64 0] rfl rfl (cell_new1 _ _ _) (by intro u hu; simp at hu; subst hu; rfl) (by decide) (by unfold maxLen; omega) (by omega) (by have := HO4.out.blk.lt; simp; omega) (w4.heap.size + 1) hs4 ?_))
    intro gB cp w6 hown hgrow hat hltB
    have HX : Hid (HistX w w4 w6 b1 l1 gB cp) := ⟨hown, hgrow, hat⟩
    clear hown hgrow hat hs4
    have HR6 : Hid (Blk w6 w.heap.size #[.int .i64 0, .int .i64 0, .int .i64 0, .int .i64 0, .slice none 0 0, .slice none 0 0, .slice none 0 0] 28 ∧ Cur w6 q a len cap zs i4 h4 ∧ w.grownBy w6 (some q)) := HX.out.held HO4.out HR4.out HL.out.1 HL.out.2
    have HRX : Hid _ := held_set HR6.out HL.out.1 HL.out.2 w1.heap.size 4 (.slice (some ⟨gB, 0, none⟩) 9 cp) (by have := HO4.out.ges; omega)
    have HB6 : Hid (Blk w6 w1.heap.size #[.int .i64 s.count, .int .i64 s.sum, .int .i64 s.min, .int .i64 s.max, .slice (some ⟨b1, o1, none⟩) 8 k1, .slice (some ⟨b2, o2, none⟩) 8 k2, .slice (some ⟨p, po, none⟩) 2 k3] 28) := HX.out.blk HO4.out
    have HBX : Hid _ := HB6.out.set 4 (.slice (some ⟨gB, 0, none⟩) 9 cp)
    have c4 := HB6.out.cell 4
    have f4 := HB6.out.frozen 4
    simp only [List.getElem?_toArray, List.getElem?_cons_succ, List.getElem?_cons_zero] at c4
    go_wp2_with (first | go_skip | (with_reducible refine stopLoad 28 rfl ?_) | (with_reducible refine stopStore 28 rfl ?_))
    refine load_any 28 w1.heap.size _ 28 _ HBX.out rfl rfl rfl Try.underlying28 rfl (by kernel_rfl) ?_
    go_wp2_with (first | go_skip | (with_reducible refine stopLoad 28 rfl ?_) | (with_reducible refine stopStore 28 rfl ?_))
    refine store_known 28 w.heap.size _ _ 28 HRX.out.1 rfl rfl rfl rfl (by kernel_rfl) rfl (by kernel_rfl) ?_
    go_wp2
    refine bodyPost_ret (results_cell_row Try.results70 _ _ w.heap.size _ _ _ _ rfl HRX.out.1.setRow Try.underlying28 rfl (by kernel_rfl)) rfl ?_
    exact drew_hist HO4.out HX.out HRX.out.1 HRX.out.2.1 HRX.out.2.2 HL.out.1
  by_cases q3 : d = 3
  · subst q3
    have c6 := HO4.out.blk.cell 6
    have f6 := HO4.out.blk.frozen 6
    have hk3 := HO4.out.wide
    simp only [List.getElem?_toArray, List.getElem?_cons_succ, List.getElem?_cons_zero] at c6
    have HRX : Hid _ := held_set HR4.out HL.out.1 HL.out.2 w1.heap.size 6 (.slice (some ⟨p, po, none⟩) 1 k3) (by have := HO4.out.ges; omega)
    have HBX : Hid _ := HO4.out.blk.set 6 (.slice (some ⟨p, po, none⟩) 1 k3)
    go_wp2_with (first | go_skip | (with_reducible refine stopLoad 28 rfl ?_) | (with_reducible refine stopStore 28 rfl ?_))
    refine load_any 28 w1.heap.size _ 28 _ HBX.out rfl rfl rfl Try.underlying28 rfl (by kernel_rfl) ?_
    go_wp2_with (first | go_skip | (with_reducible refine stopLoad 28 rfl ?_) | (with_reducible refine stopStore 28 rfl ?_))
    refine store_known 28 w.heap.size _ _ 28 HRX.out.1 rfl rfl rfl rfl (by kernel_rfl) rfl (by kernel_rfl) ?_
    go_wp2
    refine bodyPost_ret (results_cell_row Try.results70 _ _ w.heap.size _ _ _ _ rfl HRX.out.1.setRow Try.underlying28 rfl (by kernel_rfl)) rfl ?_
    exact drew_row HO4.out HRX.out.1 HRX.out.2.1 HRX.out.2.2 HL.out.1 (by omega)
  by_cases q4 : d = 4
  · subst q4
    go_wp2_with fail
    refine (pickInt_cur q w4.heap.size _ a len cap zs i4 h4 [0, -1, 1000000001] _ (HR4.out.2.1.keep ((Below.refl _ _).alloc (Nat.le_refl _) _)) hlen (fun j hj => lit_ints w4 [0, -1, 1000000001] 3 j hj) (by have := HR4.out.2.2.size; have := HL.out.1; omega) _ rfl (by simp) (by simp)).mono ?_
    rintro e w5 ⟨z, i5, h5, _, rfl, C5, g5⟩
    have gg := grown_tr (World.grownBy_alloc w4 _ (some q)) g5
    have HO5 : Hid (Out (World.bare w) (w.heap.size + 1) w1.heap.size s.count s.sum s.min s.max b1 o1 k1 b2 o2 k2 p po k3 b3 o3 j0 b4 o4 j1 l1 l2 x y w5) := HO4.out.grown gg (by have := HL.out.1; omega) (Nat.zero_le _)
    have HR5 : Hid (Blk w5 w.heap.size #[.int .i64 0, .int .i64 0, .int .i64 0, .int .i64 0, .slice none 0 0, .slice none 0 0, .slice none 0 0] 28 ∧ Cur w5 q a len cap zs i5 h5 ∧ w.grownBy w5 (some q)) := ⟨HR4.out.1.grown gg (by have := HL.out.1; omega), C5, grown_tr HR4.out.2.2 gg⟩
    have HOX : Hid _ := HO5.out.setC z
    have HRX : Hid _ := held_set HR5.out HL.out.1 HL.out.2 w1.heap.size 0 (.int .i64 z) (by have := HO5.out.ges; omega)
    have f2 := HO5.out.blk.frozen 0
    have c2 := HO5.out.blk.cell 0
    simp only [List.getElem?_toArray, List.getElem?_cons_zero] at c2
    clear C5 g5 gg
    go_wp2_with (first | go_skip | (with_reducible refine stopLoad 28 rfl ?_) | (with_reducible refine stopStore 28 rfl ?_))
    refine load_any 28 w1.heap.size _ 28 _ HOX.out.blk rfl rfl rfl Try.underlying28 rfl (by kernel_rfl) ?_
    go_wp2_with (first | go_skip | (with_reducible refine stopLoad 28 rfl ?_) | (with_reducible refine stopStore 28 rfl ?_))
    refine store_known 28 w.heap.size _ _ 28 HRX.out.1 rfl rfl rfl rfl (by kernel_rfl) rfl (by kernel_rfl) ?_
    go_wp2
    refine bodyPost_ret (results_cell_row Try.results70 _ _ w.heap.size _ _ _ _ rfl HRX.out.1.setRow Try.underlying28 rfl (by kernel_rfl)) rfl ?_
    exact drew_full (drew_end HOX.out HRX.out.1 HRX.out.2.1 HRX.out.2.2 HL.out.1 (by omega))
  by_cases q5 : d = 5
  · subst q5
    have HS4 : Hid (w4.drew.cell? ⟨w1.heap.size, 6, none⟩ = some (.slice (some ⟨p, po, none⟩) 2 k3) ∧ w4.drew.cell? ⟨p, po + 1, none⟩ = some (.slice (some ⟨b4, o4, none⟩) 4 j1)) := ⟨HO4.out.drew.blk.cell 6, HO4.out.drew.c1⟩
    have HO4d : Hid (Out (World.bare w) (w.heap.size + 1) w1.heap.size s.count s.sum s.min s.max b1 o1 k1 b2 o2 k2 p po k3 b3 o3 j0 b4 o4 j1 l1 l2 x y w4.drew) := HO4.out.drew
    have HR4d : Hid (Blk w4.drew w.heap.size #[.int .i64 0, .int .i64 0, .int .i64 0, .int .i64 0, .slice none 0 0, .slice none 0 0, .slice none 0 0] 28 ∧ Cur w4.drew q a len cap zs i4 h4 ∧ w.grownBy w4.drew (some q)) := ⟨HR4.out.1.drew, HR4.out.2.1.keep (Below.refl _ _).drew, grown_tr HR4.out.2.2 (grown_below q (Below.refl _ _).drew)⟩
    go_wp2
    refine wp_region_held (S := (fun W => W.cell? ⟨w1.heap.size, 6, none⟩ = some (.slice (some ⟨p, po, none⟩) 2 k3) ∧ W.cell? ⟨p, po + 1, none⟩ = some (.slice (some ⟨b4, o4, none⟩) 4 j1))) (by kernel_rfl) ?_
    change wpAnyH _ _ _ _ _ _ _ _ (World.drew _)
    refine takeH (o := ?o14) 0 (.pointer (some ⟨w1.heap.size, 6, none⟩)) ?h14 ?r14
    case h14 => simp only [List.getElem?_toArray, List.getElem?_cons_zero]; rfl
    refine ⟨_, by simp [Act.put]; rfl, by kernel_rfl, by kernel_rfl, by kernel_rfl, fun _ _ _ h => h, (.inl ⟨rfl, fun W _ => by go_simp⟩), HS4.out, ?_⟩
    refine takeH (o := ?o15) 1 (.slice (some ⟨p, po, none⟩) 2 k3) ?h15 ?r15
    case h15 => simp only [List.getElem?_toArray, List.getElem?_cons_succ, List.getElem?_cons_zero]; rfl
    refine ⟨_, by simp [Act.put]; rfl, by kernel_rfl, by kernel_rfl, by kernel_rfl, fun _ _ _ h => h, (.inl ⟨rfl, fun W hW => by have c := hW.1; go_simp⟩), HS4.out, ?_⟩
    refine takeH (o := ?o16) 2 (.pointer (some ⟨p, po + 1, none⟩)) ?h16 ?r16
    case h16 => simp only [List.getElem?_toArray, List.getElem?_cons_succ, List.getElem?_cons_zero]; rfl
    refine ⟨_, by simp [Act.put]; rfl, by kernel_rfl, by kernel_rfl, by kernel_rfl, fun _ _ _ h => h, (.inl ⟨rfl, fun W _ => by go_simp⟩), HS4.out, ?_⟩
    refine takeH (o := ?o17) 3 (.slice (some ⟨b4, o4, none⟩) 4 j1) ?h17 ?r17
    case h17 => simp only [List.getElem?_toArray, List.getElem?_cons_succ, List.getElem?_cons_zero]; rfl
    refine ⟨_, by simp [Act.put]; rfl, by kernel_rfl, by kernel_rfl, by kernel_rfl, fun _ _ _ h => h, (.inl ⟨rfl, fun W hW => by have c := hW.2; go_simp⟩), HS4.out, ?_⟩
    refine takeH (o := ?o18) 4 (.pointer (some ⟨q, 0, none⟩)) ?h18 ?r18
    case h18 => simp only [List.getElem?_toArray, List.getElem?_cons_succ, List.getElem?_cons_zero]; rfl
    refine ⟨_, by simp [Act.put]; rfl, by kernel_rfl, by kernel_rfl, by kernel_rfl, fun _ _ _ h => h, (.inl ⟨rfl, fun W _ => by go_simp⟩), HS4.out, ?_⟩
    refine onlyH (o := ?o19) 5 (by kernel_rfl) ?h19 ?r19
    case h19 => simp only [List.getElem?_toArray, List.getElem?_cons_succ, List.getElem?_cons_zero]; rfl
    intro K hK
    refine op_turn (.slice (some ⟨w4.drew.heap.size, 0, none⟩) 3 3) (w4.drew.alloc (.cells ([-1, 3, 1000000001].map (Value.int .i64)).toArray 3)) rfl (by go_simp) ⟨_, by simp [Act.put]; rfl, hK _ _ ⟨(HO4d.out.blk.alloc _).cell 6 |> fun e => ⟨e, cell_al HO4d.out.c1 _⟩, ?_⟩⟩
    obtain ⟨w6, hW⟩ : ∃ W, W = (w4.drew.alloc (.cells ([-1, 3, 1000000001].map (Value.int .i64)).toArray 3)) := ⟨_, rfl⟩
    rw [← hW]
    have hbw : Below w4.drew.heap.size w4.drew w6 := by rw [hW]; exact (Below.refl _ _).alloc (Nat.le_refl _) _
    have HLIT : Hid (∀ j, j < ([-1, 3, 1000000001] : List Int).length → w6.cell? ⟨w4.drew.heap.size, j, none⟩ = some (.int .i64 (([-1, 3, 1000000001] : List Int).getD j 0))) := fun j hj => by rw [hW]; exact lit_ints w4.drew [-1, 3, 1000000001] 3 j hj
    have HO6 : Hid (Out (World.bare w) (w.heap.size + 1) w1.heap.size s.count s.sum s.min s.max b1 o1 k1 b2 o2 k2 p po k3 b3 o3 j0 b4 o4 j1 l1 l2 x y w6) := HO4d.out.below hbw
    have HR6 : Hid (Blk w6 w.heap.size #[.int .i64 0, .int .i64 0, .int .i64 0, .int .i64 0, .slice none 0 0, .slice none 0 0, .slice none 0 0] 28 ∧ Cur w6 q a len cap zs i4 h4 ∧ w.grownBy w6 (some q)) := ⟨HR4d.out.1.below hbw, HR4d.out.2.1.keep hbw, grown_tr HR4d.out.2.2 (grown_below q hbw)⟩
    have HS6 : Hid (w6.cell? ⟨w1.heap.size, 6, none⟩ = some (.slice (some ⟨p, po, none⟩) 2 k3) ∧ w6.cell? ⟨p, po + 1, none⟩ = some (.slice (some ⟨b4, o4, none⟩) 4 j1)) := ⟨HO6.out.blk.cell 6, HO6.out.c1⟩
    have hd : w4.drew.heap.size = w4.heap.size := rfl
    clear hK hW hbw HS4 HO4d HR4d
    refine onlyH (o := ?o20) 6 (by kernel_rfl) ?h20 ?r20
    case h20 => simp only [List.getElem?_toArray, List.getElem?_cons_succ, List.getElem?_cons_zero]; rfl
    intro K hK
    refine op_call2' 41 _ _ _ Try.f41 (fun v w' => ∃ y i' h', v = .int .i64 y ∧ Cur w' q a len cap zs i' h' ∧ w6.grownBy w' (some q)) rfl rfl Try.func41 (by kernel_rfl) (by kernel_rfl) ((pickInt_cur q w4.drew.heap.size _ a len cap zs i4 h4 [-1, 3, 1000000001] w6 HR6.out.2.1 hlen HLIT.out (by have := HL.out.1; have := HR4.out.2.2.size; omega) _ rfl (by simp) (by simp)).mono (by rintro e w' ⟨y, i', h', _, rfl, C, g⟩; exact ⟨_, rfl, y, i', h', rfl, C, g⟩)) ?_
    rintro _ w7 ⟨vy, i7, h7, rfl, C7, g7⟩
    have HO7 : Hid (Out (World.bare w) (w.heap.size + 1) w1.heap.size s.count s.sum s.min s.max b1 o1 k1 b2 o2 k2 p po k3 b3 o3 j0 b4 o4 j1 l1 l2 x y w7) := HO6.out.grown g7 (by have := HL.out.1; omega) (Nat.zero_le _)
    have HR7 : Hid (Blk w7 w.heap.size #[.int .i64 0, .int .i64 0, .int .i64 0, .int .i64 0, .slice none 0 0, .slice none 0 0, .slice none 0 0] 28 ∧ Cur w7 q a len cap zs i7 h7 ∧ w.grownBy w7 (some q)) := ⟨HR6.out.1.grown g7 (by have := HL.out.1; omega), C7, grown_tr HR6.out.2.2 g7⟩
    have HS7 : Hid (w7.cell? ⟨w1.heap.size, 6, none⟩ = some (.slice (some ⟨p, po, none⟩) 2 k3) ∧ w7.cell? ⟨p, po + 1, none⟩ = some (.slice (some ⟨b4, o4, none⟩) 4 j1)) := ⟨HO7.out.blk.cell 6, HO7.out.c1⟩
    refine ⟨_, by simp [Act.put]; rfl, hK _ _ ⟨HS7.out, ?_⟩⟩
    clear hK C7 g7 HS6 HO6 HR6 HLIT HO4 HR4 hd
    refine takeH (o := ?o21) 7 (.pointer (some ⟨b4, o4 + 2, none⟩)) ?h21 ?r21
    case h21 => simp only [List.getElem?_toArray, List.getElem?_cons_succ, List.getElem?_cons_zero]; rfl
    refine ⟨_, by simp [Act.put]; rfl, by kernel_rfl, by kernel_rfl, by kernel_rfl, fun _ _ _ h => h, (.inl ⟨rfl, fun W _ => by go_simp⟩), HS7.out, ?_⟩
    refine onlyH (o := ?o22) 8 (by kernel_rfl) ?h22 ?r22
    case h22 => simp only [List.getElem?_toArray, List.getElem?_cons_succ, List.getElem?_cons_zero]; rfl
    intro K hK
    have fE := HO7.out.own.free b4 (by simp) (o4 + 2)
    have cE := HO7.out.row1.at 2 (by omega)
    have HOX : Hid _ := HO7.out.setRow1 2 (by omega) vy
    have HRX : Hid _ := held_set HR7.out HL.out.1 HL.out.2 b4 (o4 + 2) (.int .i64 vy) (by have := HO7.out.ges; omega)
    refine op_skip (w7.setCell ⟨b4, o4 + 2, none⟩ (.int .i64 vy)) rfl (by go_simp) ⟨_, by simp [Act.put]; rfl, hK _ _ ⟨⟨HOX.out.blk.cell 6, HOX.out.c1⟩, ?_⟩⟩
    clear hK
    refine wpAnyH_done (by kernel_rfl) ?_ _
    clear HO7 HR7 HS7
    go_wp2_with (first | go_skip | (with_reducible refine stopLoad 28 rfl ?_) | (with_reducible refine stopStore 28 rfl ?_))
    refine load_any 28 w1.heap.size _ 28 _ HOX.out.blk rfl rfl rfl Try.underlying28 rfl (by kernel_rfl) ?_
    go_wp2_with (first | go_skip | (with_reducible refine stopLoad 28 rfl ?_) | (with_reducible refine stopStore 28 rfl ?_))
    refine store_known 28 w.heap.size _ _ 28 HRX.out.1 rfl rfl rfl rfl (by kernel_rfl) rfl (by kernel_rfl) ?_
    go_wp2
    refine bodyPost_ret (results_cell_row Try.results70 _ _ w.heap.size _ _ _ _ rfl HRX.out.1.setRow Try.underlying28 rfl (by kernel_rfl)) rfl ?_
    exact drew_full (drew_end HOX.out HRX.out.1 HRX.out.2.1 HRX.out.2.2 HL.out.1 (by omega))
  have p0 : (d == 0) = false := beq_false_of_ne q0
  have p1 : (d == 1) = false := beq_false_of_ne q1
  have p2 : (d == 2) = false := beq_false_of_ne q2
  have p3 : (d == 3) = false := beq_false_of_ne q3
  have p4 : (d == 4) = false := beq_false_of_ne q4
  have p5 : (d == 5) = false := beq_false_of_ne q5
  have HOX := HO4
  have HRX := HR4
  clear HO4 HR4 q0 q1 q2 q3 q4 q5
  go_wp2_with (first | go_skip | (with_reducible refine stopLoad 28 rfl ?_) | (with_reducible refine stopStore 28 rfl ?_))
  refine load_any 28 w1.heap.size _ 28 _ HOX.out.blk rfl rfl rfl Try.underlying28 rfl (by kernel_rfl) ?_
  go_wp2_with (first | go_skip | (with_reducible refine stopLoad 28 rfl ?_) | (with_reducible refine stopStore 28 rfl ?_))
  refine store_known 28 w.heap.size _ _ 28 HRX.out.1 rfl rfl rfl rfl (by kernel_rfl) rfl (by kernel_rfl) ?_
  go_wp2
  refine bodyPost_ret (results_cell_row Try.results70 _ _ w.heap.size _ _ _ _ rfl HRX.out.1.setRow Try.underlying28 rfl (by kernel_rfl)) rfl ?_
  exact drew_full (drew_end HOX.out HRX.out.1 HRX.out.2.1 HRX.out.2.2 HL.out.1 (by omega))
end Go.Proofs.Ytbmbmnhamogghab
