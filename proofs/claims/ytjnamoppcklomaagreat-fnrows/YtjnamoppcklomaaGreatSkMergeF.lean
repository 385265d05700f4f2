/- The walk through the model's merging of two summaries that are right. No statement of the seat is proved here. -/
import Derived.Test.YtjnamoppcklomaaGreatSkShape
import Derived.Deep.DeepCutAuto
import Derived.Test.YtjnamoppcklomaaGreatB2
set_option maxRecDepth 200000
set_option maxHeartbeats 16000000
namespace Go.Proofs.YtjnamoppcklomaaGreat
open Go.RowKit
def maxL (xs ys : List Int) : List Int := List.zipWith max xs ys
def Sk.merge (a b : Sk) : Sk :=
 ⟨addN a.count b.count, addN a.sum b.sum, if b.count = 0 then a.min else if a.count = 0 then b.min else Min.min a.min b.min, Max.max a.max b.max, sumL a.hist b.hist, maxL a.regs b.regs, [sumL (a.rows.getD 0 []) (b.rows.getD 0 []), sumL (a.rows.getD 1 []) (b.rows.getD 1 [])]⟩
structure MergeMid (w0 wx : World) (g5 : Nat) (c sm mn mx : Int) (x1 : Option Addr) (j1 : Nat) (X1 : List Nat) (l1 : List Int) (xr : Option Addr) (jr : Nat) (XR : List Nat) (lr : List (List Int)) : Prop where
 out : Blk wx g5 #[.int .i64 c, .int .i64 sm, .int .i64 mn, .int .i64 mx, .slice x1 8 j1, .slice none 0 0, .slice xr 2 jr] 31
 r1 : RdI wx x1 8 l1 X1
 rr : RdII wx xr 2 lr XR
 own : Own w0.heap.size wx (X1 ++ XR)
 apart : g5 ∉ X1 ++ XR
 ge : w0.heap.size ≤ g5
 bel : Below w0.heap.size w0 wx
section
variable {w0 w1 w2 w3 wa wb wc wx : World} {x1 x2 x3 : Option Addr} {i1 i2 i3 : Nat} {l1 l2 l3 : List Int} {X1 X2 X3 : List Nat}
theorem gather (r1 : RdI w1 x1 i1 l1 X1) (o1 : Own wa.heap.size w1 X1) (ha : w0.heap.size ≤ wa.heap.size) (q12 : Below w1.heap.size w1 w2) (r2 : RdI w2 x2 i2 l2 X2) (o2 : Own wb.heap.size w2 X2) (hb : w1.heap.size ≤ wb.heap.size) (hb0 : w0.heap.size ≤ wb.heap.size)
 (q23 : Below w2.heap.size w2 w3) (r3 : RdI w3 x3 i3 l3 X3) (o3 : Own wc.heap.size w3 X3) (hc : w2.heap.size ≤ wc.heap.size) (hc0 : w0.heap.size ≤ wc.heap.size) :
 RdI w3 x1 i1 l1 X1 ∧ RdI w3 x2 i2 l2 X2 ∧ RdI w3 x3 i3 l3 X3 ∧ Own w0.heap.size w3 (X1 ++ (X2 ++ X3)) := by
 have r12 := r1.below q12
 have p12 := ((o1.below r1.lt q12).mono ha).join o2 (fun b h => Nat.lt_of_lt_of_le (r1.lt b h) hb) hb0
 have l12 : ∀ b ∈ X1 ++ X2, b < w2.heap.size := fun b h => (List.mem_append.1 h).elim (r12.lt b) (r2.lt b)
 have p123 := (p12.below l12 q23).join o3 (fun b h => Nat.lt_of_lt_of_le (l12 b h) hc) hc0
 rw [List.append_assoc] at p123
 exact ⟨r12.below q23, r2.below q23, r3, p123⟩
theorem two_rows {g : Nat} {j2 j3 : Nat} {t : TypeId} (br : Blk wx g #[.slice x2 4 j2, .slice x3 4 j3] t) (r2 : RdI wx x2 4 l2 X2) (r3 : RdI wx x3 4 l3 X3) : RdII wx (some ⟨g, 0, none⟩) 2 [l2, l3] (g :: (X2 ++ X3)) := by
 refine ⟨rfl, .inr ⟨g, 0, X2 ++ X3, by omega, rfl, rfl, ?_⟩⟩
 show RdM wx [ints l2, ints l3] g 0 (X2 ++ X3)
 rw [RdM]
 refine ⟨_, X2, X3, by rw [br.cell 0]; rfl, rd_ints.2 ⟨_, 4, j2, rfl, r2⟩, ?_, rfl⟩
 rw [RdM]
 exact ⟨_, X3, [], by rw [br.cell 1]; rfl, rd_ints.2 ⟨_, 4, j3, rfl, r3⟩, by simp [RdM], by simp⟩
theorem own_rows {B : Nat} {g : Nat} {cs : Array Value} {t : TypeId} (o : Own B wx (X1 ++ (X2 ++ X3))) (br : Blk wx g cs t) (hg : g ∉ X1 ++ (X2 ++ X3)) (hB : B ≤ g) : Own B wx (X1 ++ (g :: (X2 ++ X3))) := by
 have nd := List.nodup_append.1 o.nodup
 refine ⟨List.nodup_append.2 ⟨nd.1, List.nodup_cons.2 ⟨fun h => hg (List.mem_append_right _ h), nd.2.1⟩, fun a ha b hb e => ?_⟩, fun b hb x => ?_, fun b hb => ?_⟩
 ·
  subst e
  rcases List.mem_cons.1 hb with rfl | hb
  ·
   exact hg (List.mem_append_left _ ha)
  ·
   exact nd.2.2 a ha a hb rfl
 ·
  rcases List.mem_append.1 hb with h | h
  ·
   exact o.free b (List.mem_append_left _ h) x
  ·
   rcases List.mem_cons.1 h with rfl | h
   ·
    exact br.frozen x
   ·
    exact o.free b (List.mem_append_right _ h) x
 ·
  rcases List.mem_append.1 hb with h | h
  ·
   exact o.ge b (List.mem_append_left _ h)
  ·
   rcases List.mem_cons.1 h with rfl | h
   ·
    exact hB
   ·
    exact o.ge b (List.mem_append_right _ h)
theorem mid_of {g5 gr : Nat} {c sm mn mx : Int} {j1 j2 j3 : Nat} {t : TypeId} (kb : Below w0.heap.size w0 wx) (R1 : RdI wx x1 8 l1 X1) (R2 : RdI wx x2 4 l2 X2) (R3 : RdI wx x3 4 l3 X3) (O : Own w0.heap.size wx (X1 ++ (X2 ++ X3)))
 (bo : Blk wx g5 #[.int .i64 c, .int .i64 sm, .int .i64 mn, .int .i64 mx, .slice x1 8 j1, .slice none 0 0, .slice (some ⟨gr, 0, none⟩) 2 2] 31) (br : Blk wx gr #[.slice x2 4 j2, .slice x3 4 j3] t)
 (hne : g5 ≠ gr) (n5 : g5 ∉ X1 ++ (X2 ++ X3)) (nr : gr ∉ X1 ++ (X2 ++ X3)) (h5 : w0.heap.size ≤ g5) (hr : w0.heap.size ≤ gr) :
 MergeMid w0 wx g5 c sm mn mx x1 j1 X1 l1 (some ⟨gr, 0, none⟩) 2 (gr :: (X2 ++ X3)) [l2, l3] :=
 ⟨bo, R1, two_rows br R2 R3, own_rows O br nr hr, fun h => (List.mem_append.1 h).elim (fun h => n5 (List.mem_append_left _ h)) (fun h => (List.mem_cons.1 h).elim hne (fun h => n5 (List.mem_append_right _ h))), h5, kb⟩
theorem mid_late {w3 : World} {g5 gr : Nat} {c sm mn mx : Int} {j1 j2 j3 : Nat} {t : TypeId} (k3 : Below w0.heap.size w0 w3) (hb : Below w3.heap.size w3 wx) (G : RdI w3 x1 8 l1 X1 ∧ RdI w3 x2 4 l2 X2 ∧ RdI w3 x3 4 l3 X3 ∧ Own w0.heap.size w3 (X1 ++ (X2 ++ X3)))
 (bo : Blk wx g5 #[.int .i64 c, .int .i64 sm, .int .i64 mn, .int .i64 mx, .slice x1 8 j1, .slice none 0 0, .slice (some ⟨gr, 0, none⟩) 2 2] 31) (br : Blk wx gr #[.slice x2 4 j2, .slice x3 4 j3] t) (hne : g5 ≠ gr) (h5 : w3.heap.size ≤ g5) (hr : w3.heap.size ≤ gr) :
 MergeMid w0 wx g5 c sm mn mx x1 j1 X1 l1 (some ⟨gr, 0, none⟩) 2 (gr :: (X2 ++ X3)) [l2, l3] := by
 obtain ⟨R1, R2, R3, O⟩ := G
 have lt : ∀ b ∈ X1 ++ (X2 ++ X3), b < w3.heap.size := fun b h => (List.mem_append.1 h).elim (R1.lt b) (fun h => (List.mem_append.1 h).elim (R2.lt b) (R3.lt b))
 exact mid_of (Below.next k3 hb) (R1.below hb) (R2.below hb) (R3.below hb) (O.below lt hb) bo br hne (fun h => by have := lt _ h; omega) (fun h => by have := lt _ h; omega) (Nat.le_trans k3.size h5) (Nat.le_trans k3.size hr)
theorem mid_early {w3 : World} {g5 : Nat} {c sm mn mx : Int} {j1 j2 j3 : Nat} {t : TypeId} (k3 : Below w0.heap.size w0 w3) (G : RdI w3 x1 8 l1 X1 ∧ RdI w3 x2 4 l2 X2 ∧ RdI w3 x3 4 l3 X3 ∧ Own w0.heap.size w3 (X1 ++ (X2 ++ X3)))
 (bz : Blk w3 g5 #[.int .i64 0, .int .i64 0, .int .i64 0, .int .i64 0, .slice none 0 0, .slice none 0 0, .slice none 0 0] 31) (n5 : g5 ∉ X1 ++ (X2 ++ X3)) (h5 : w0.heap.size ≤ g5) :
 MergeMid w0 ((((((((w3.alloc (.cells #[.slice x2 4 j2, .slice x3 4 j3] t)).setCell ⟨g5, 0, none⟩ (.int .i64 c)).setCell ⟨g5, 1, none⟩ (.int .i64 sm)).setCell ⟨g5, 2, none⟩ (.int .i64 mn)).setCell ⟨g5, 3, none⟩ (.int .i64 mx)).setCell ⟨g5, 4, none⟩ (.slice x1 8 j1)).setCell ⟨g5, 5, none⟩ (.slice none 0 0)).setCell ⟨g5, 6, none⟩ (.slice (some ⟨w3.heap.size, 0, none⟩) 2 2)) g5 c sm mn mx x1 j1 X1 l1 (some ⟨w3.heap.size, 0, none⟩) 2 (w3.heap.size :: (X2 ++ X3)) [l2, l3] := by
 obtain ⟨R1, R2, R3, O⟩ := G
 have hb : Below w3.heap.size w3 (w3.alloc (.cells #[.slice x2 4 j2, .slice x3 4 j3] t)) := (Below.refl _ _).alloc (Nat.le_refl _) _
 have lt : ∀ b ∈ X1 ++ (X2 ++ X3), b < w3.heap.size := fun b h => (List.mem_append.1 h).elim (R1.lt b) (fun h => (List.mem_append.1 h).elim (R2.lt b) (R3.lt b))
 have ag := ((((((((Agree.below hb lt).thenSet n5 0 (.int .i64 c)).thenSet n5 1 (.int .i64 sm)).thenSet n5 2 (.int .i64 mn)).thenSet n5 3 (.int .i64 mx)).thenSet n5 4 (.slice x1 8 j1)).thenSet n5 5 (.slice none 0 0)).thenSet n5 6 (.slice (some ⟨w3.heap.size, 0, none⟩) 2 2))
 have h53 : g5 < w3.heap.size := bz.lt
 have bo := (((((((bz.alloc (.cells #[.slice x2 4 j2, .slice x3 4 j3] t)).set 0 (.int .i64 c)).set 1 (.int .i64 sm)).set 2 (.int .i64 mn)).set 3 (.int .i64 mx)).set 4 (.slice x1 8 j1)).set 5 (.slice none 0 0)).set 6 (.slice (some ⟨w3.heap.size, 0, none⟩) 2 2)
 have hne : w3.heap.size ≠ g5 := by omega
 have br := (((((((Blk.made w3 #[.slice x2 4 j2, .slice x3 4 j3] t).setOther hne 0 (.int .i64 c)).setOther hne 1 (.int .i64 sm)).setOther hne 2 (.int .i64 mn)).setOther hne 3 (.int .i64 mx)).setOther hne 4 (.slice x1 8 j1)).setOther hne 5 (.slice none 0 0)).setOther hne 6 (.slice (some ⟨w3.heap.size, 0, none⟩) 2 2)
 refine mid_of ?_ (R1.agree ag.left) (R2.agree ag.right.left) (R3.agree ag.right.right) (O.agree ag) ?_ br (by omega) n5 (fun h => by have := lt _ h; omega) h5 k3.size
 ·
  exact Below.sets7 (Below.next k3 hb) h5
 ·
  exact bo
end
def MidRel (w0 : World) (s t : Sk) (s5 : Value) (wx : World) : Prop :=
 ∃ (g5 : Nat) (x1 : Option Addr) (j1 : Nat) (X1 : List Nat) (xr : Option Addr) (jr : Nat) (XR : List Nat), s5 = .pointer (some ⟨g5, 0, none⟩) ∧ MergeMid w0 wx g5 (addN s.count t.count) (addN s.sum t.sum) (Min.min s.min t.min) (Max.max s.max t.max) x1 j1 X1 (sumL s.hist t.hist) xr jr XR [sumL (s.rows.getD 0 []) (t.rows.getD 0 []), sumL (s.rows.getD 1 []) (t.rows.getD 1 [])]
theorem MergeMid.setMin {w0 wx : World} {g5 : Nat} {c sm mn mx : Int} {x1 : Option Addr} {j1 : Nat} {X1 : List Nat} {l1 : List Int} {xr : Option Addr} {jr : Nat} {XR : List Nat} {lr : List (List Int)} (h : MergeMid w0 wx g5 c sm mn mx x1 j1 X1 l1 xr jr XR lr) (m : Int) :
 MergeMid w0 (wx.setCell ⟨g5, 2, none⟩ (.int .i64 m)) g5 c sm m mx x1 j1 X1 l1 xr jr XR lr := by
 have ag : Agree wx (wx.setCell ⟨g5, 2, none⟩ (.int .i64 m)) (X1 ++ XR) := .set h.apart 2 _
 exact ⟨h.out.set 2 (.int .i64 m), h.r1.agree ag.left, h.rr.agree ag.right, h.own.agree ag, h.apart, h.ge, h.bel.setCell h.ge _⟩
structure RegMid (w0 wx : World) (g5 : Nat) (c sm mn mx : Int) (x1 : Option Addr) (j1 : Nat) (X1 : List Nat) (l1 : List Int) (xr : Option Addr) (jr : Nat) (XR : List Nat) (lr : List (List Int)) (v : Value) (k : Nat) (ms : List Int) : Prop where
 out : Blk wx g5 #[.int .i64 c, .int .i64 sm, .int .i64 mn, .int .i64 mx, .slice x1 8 j1, v, .slice xr 2 jr] 31
 r1 : RdI wx x1 8 l1 X1
 rr : RdII wx xr 2 lr XR
 own : Own w0.heap.size wx (X1 ++ XR)
 apart : g5 ∉ X1 ++ XR
 ge : w0.heap.size ≤ g5
 bel : Below w0.heap.size w0 wx
 row : wx.ownsRow w0.heap.size 3 1 v k (ms.map (Value.int .i64))
 rowX : ∀ b, v.ownBlock = some b → b ∉ X1 ++ XR ∧ b ≠ g5
theorem RegMid.start {w0 wx : World} {g5 : Nat} {c sm mn mx : Int} {x1 : Option Addr} {j1 : Nat} {X1 : List Nat} {l1 : List Int} {xr : Option Addr} {jr : Nat} {XR : List Nat} {lr : List (List Int)} (h : MergeMid w0 wx g5 c sm mn mx x1 j1 X1 l1 xr jr XR lr) :
 RegMid w0 wx g5 c sm mn mx x1 j1 X1 l1 xr jr XR lr (.slice none 0 0) 0 [] :=
 ⟨h.out, h.r1, h.rr, h.own, h.apart, h.ge, h.bel, World.ownsRow_nil _ _ _ _, fun b hb => by cases hb⟩
theorem grown_one (w : World) (g j : Nat) (v : Value) : w.grownBy (w.setCell ⟨g, j, none⟩ v) (some g) :=
 ⟨rfl, rfl, rfl, by simp, fun k _ hk => Below.heap_setCell w ⟨g, j, none⟩ v k (fun e => hk (by simp [e]))⟩
theorem maxL_length (xs ys : List Int) (n : Nat) (hx : xs.length = n) (hy : ys.length = n) : (maxL xs ys).length = n := by simp [maxL, hx, hy]
theorem maxL_snoc (xs ys : List Int) (k : Nat) (hx : k < xs.length) (hy : k < ys.length) : (maxL xs ys).take (k + 1) = (maxL xs ys).take k ++ [Max.max (xs[k]?.getD 0) (ys[k]?.getD 0)] := by
 rw [take_snoc (maxL xs ys) 0 k (by simp [maxL]; omega)]
 simp [maxL, List.getElem?_zipWith, List.getElem?_eq_getElem hx, List.getElem?_eq_getElem hy]
theorem RegMid.grow {w0 wr w1 : World} {g5 : Nat} {c sm mn mx : Int} {x1 : Option Addr} {j1 : Nat} {X1 : List Nat} {l1 : List Int} {xr : Option Addr} {jr : Nat} {XR : List Nat} {lr : List (List Int)} {v : Value} {k : Nat} {ms : List Int} {o : Obj}
 (h : RegMid w0 wr g5 c sm mn mx x1 j1 X1 l1 xr jr XR lr v k ms) (hg : (wr.drew.alloc o).grownBy w1 v.ownBlock) :
 Blk w1 g5 #[.int .i64 c, .int .i64 sm, .int .i64 mn, .int .i64 mx, .slice x1 8 j1, v, .slice xr 2 jr] 31 ∧ Agree wr w1 (X1 ++ XR) ∧ Below w0.heap.size w0 w1 := by
 have lt : ∀ b ∈ X1 ++ XR, b < wr.heap.size := fun b hb => (List.mem_append.1 hb).elim (h.r1.lt b) (h.rr.lt b)
 have step : ∀ b, b < wr.heap.size → v.ownBlock ≠ some b → w1.heap[b]? = wr.heap[b]? := fun b hb hn => by
  rw [hg.block b (by simp; omega) (fun e => hn e.symm)]
  exact Below.heap_alloc wr.drew o b hb
 refine ⟨h.out.agree (step g5 h.out.lt (fun e => (h.rowX g5 e).2 rfl)), fun b hb => step b (lt b hb) (fun e => (h.rowX b e).1 hb), ?_⟩
 have hb1 : Below w0.heap.size w0 (wr.drew.alloc o) := (h.bel.drew).alloc h.bel.size o
 exact hb1.grown hg (by simp; have := h.bel.size; omega) (fun b hb => (h.row.lt b hb).1)
theorem RegMid.step {w0 wr w1 : World} {g5 : Nat} {c sm mn mx : Int} {x1 : Option Addr} {j1 : Nat} {X1 : List Nat} {l1 : List Int} {xr : Option Addr} {jr : Nat} {XR : List Nat} {lr : List (List Int)} {v : Value} {k : Nat} {ms : List Int} {o : Obj} {g cp : Nat} {m : Int}
 (h : RegMid w0 wr g5 c sm mn mx x1 j1 X1 l1 xr jr XR lr v k ms) (hg : (wr.drew.alloc o).grownBy w1 v.ownBlock)
 (ho : w1.ownsRow w0.heap.size 3 1 (.slice (some ⟨g, 0, none⟩) (k + 1) cp) (k + 1) (ms.map (Value.int .i64) ++ [.int .i64 m])) (hat : v.ownBlock = some g ∨ g = (wr.drew.alloc o).heap.size) :
 RegMid w0 (w1.setCell ⟨g5, 5, none⟩ (.slice (some ⟨g, 0, none⟩) (k + 1) cp)) g5 c sm mn mx x1 j1 X1 l1 xr jr XR lr (.slice (some ⟨g, 0, none⟩) (k + 1) cp) (k + 1) (ms ++ [m]) := by
 obtain ⟨b5, ag0, bl⟩ := h.grow hg
 have lt : ∀ b ∈ X1 ++ XR, b < wr.heap.size := fun b hb => (List.mem_append.1 hb).elim (h.r1.lt b) (h.rr.lt b)
 have gX : g ∉ X1 ++ XR ∧ g ≠ g5 := by
  rcases hat with e | e
  ·
   exact h.rowX g e
  ·
   have e2 : g = wr.heap.size + 1 := by rw [e]; simp
   exact ⟨fun hx => by have := lt g hx; omega, by have := h.out.lt; omega⟩
 have ag := ag0.thenSet h.apart 5 (.slice (some ⟨g, 0, none⟩) (k + 1) cp)
 refine ⟨b5.set 5 _, h.r1.agree ag.left, h.rr.agree ag.right, h.own.agree ag, h.apart, h.ge, bl.setCell h.ge _, ?_, ?_⟩
 ·
  rw [List.map_append]
  exact ho.kept (grown_one w1 g5 5 _) (.inr (by simp [Value.ownBlock]; exact gX.2))
 ·
  intro b hb
  obtain rfl : g = b := by simpa [Value.ownBlock] using hb
  exact gX
theorem RegMid.done {w0 wr : World} {g5 : Nat} {c sm mn mx : Int} {x1 : Option Addr} {j1 : Nat} {X1 : List Nat} {l1 : List Int} {xr : Option Addr} {jr : Nat} {XR : List Nat} {lr : List (List Int)} {v : Value} {k : Nat} {ms : List Int}
 (h : RegMid w0 wr g5 c sm mn mx x1 j1 X1 l1 xr jr XR lr v k ms) : ∃ a cap Xv, v = .slice a k cap ∧ RdI wr a k ms Xv ∧ Own w0.heap.size wr (X1 ++ (Xv ++ XR)) := by
 obtain ⟨a, cap, Xv, rfl, hr, ho⟩ := rdI_of_own h.row
 have hX : ∀ b ∈ Xv, b ∉ X1 ++ XR := by
  intro b hb
  rcases hr.cells with ⟨_, e⟩ | ⟨b', off, _, ea, eF, _⟩
  ·
   subst e; cases hb
  ·
   subst ea eF
   obtain rfl : b = b' := by simpa using hb
   exact (h.rowX b rfl).1
 refine ⟨a, cap, Xv, rfl, hr, h.own.left.app (ho.app h.own.right (fun b hb hx => hX b hb (List.mem_append_right _ hx))) (fun b hb hx => ?_)⟩
 rcases List.mem_append.1 hx with hx | hx
 ·
  exact hX b hx (List.mem_append_left _ hb)
 ·
  exact h.own.apart b hb hx
theorem l3Merge_any (v u : Value) (s t : Sk) (F G : List Nat) (w : World) (h : RdSk w v s F) (k : RdSk w u t G) (hs : s.ok = true) (ht : t.ok = true) :
 Calls Tryz.prog 74 #[v, u] w fun e w' => NewSk w (s.merge t) e w' := by
 obtain ⟨a1, n1, c1, a2, n2, c2, a3, n3, c3, F1, F2, F3, rfl, h1, h2, h3, _⟩ := h
 obtain ⟨b1, m1, d1, b2, m2, d2, b3, m3, d3, G1, G2, G3, rfl, g1, g2, g3, _⟩ := k
 obtain ⟨rfl, rfl, rfl, p, po, r0, r1, k0, k1, rfl, hA⟩ := shape_of h1 h2 h3 hs
 obtain ⟨rfl, rfl, rfl, q, qo, u0, u1, l0, l1, rfl, hB⟩ := shape_of g1 g2 g3 ht
 have T := Three.made w #[.int .i64 s.count, .int .i64 s.sum, .int .i64 s.min, .int .i64 s.max, .slice a1 8 c1, .slice a2 8 c2, .slice (some ⟨p, po, none⟩) 2 c3] 31 #[.int .i64 t.count, .int .i64 t.sum, .int .i64 t.min, .int .i64 t.max, .slice b1 8 d1, .slice b2 8 d2, .slice (some ⟨q, qo, none⟩) 2 d3] #[.int .i64 0, .int .i64 0, .int .i64 0, .int .i64 0, .slice none 0 0, .slice none 0 0, .slice none 0 0] 31
 clear h1 h2 h3 g1 g2 g3 hs ht
 have HT : Hid (Three w _ _ _ _ _ _) := T
 have HA : Hid (Shape w s a1 a2 p po r0 r1 k0 k1) := hA
 have HB : Hid (Shape w t b1 b2 q qo u0 u1 l0 l1) := hB
 clear T hA hB
 go_enter Tryz.func74, Tryz.ntmps74
 go_upto_region 1 with fail
 obtain ⟨w0, hw0⟩ : ∃ w0, w0 = ((w.alloc (.cells #[.int .i64 s.count, .int .i64 s.sum, .int .i64 s.min, .int .i64 s.max, .slice a1 8 c1, .slice a2 8 c2, .slice (some ⟨p, po, none⟩) 2 c3] 31)).alloc (.cells #[.int .i64 t.count, .int .i64 t.sum, .int .i64 t.min, .int .i64 t.max, .slice b1 8 d1, .slice b2 8 d2, .slice (some ⟨q, qo, none⟩) 2 d3] 31)).alloc (.cells #[.int .i64 0, .int .i64 0, .int .i64 0, .int .i64 0, .slice none 0 0, .slice none 0 0, .slice none 0 0] 31) := ⟨_, rfl⟩
 rw [← hw0] at HT ⊢
 clear hw0
 have HSh : Hid (Shape w0 s a1 a2 p po r0 r1 k0 k1 ∧ Shape w0 t b1 b2 q qo u0 u1 l0 l1) := ⟨HA.out.below HT.out.bel, HB.out.below HT.out.bel⟩
 have HK : Hid (∀ w', Below w0.heap.size w0 w' → (fun w' => Below w0.heap.size w0 w' ∧ w'.cell? ⟨w.heap.size, 0, none⟩ = some (.int .i64 s.count) ∧ w'.cell? ⟨w.heap.size, 1, none⟩ = some (.int .i64 s.sum) ∧ w'.cell? ⟨w.heap.size, 2, none⟩ = some (.int .i64 s.min) ∧ w'.cell? ⟨w.heap.size, 3, none⟩ = some (.int .i64 s.max) ∧ w'.cell? ⟨w.heap.size, 4, none⟩ = some (.slice a1 8 c1) ∧ w'.cell? ⟨w.heap.size, 6, none⟩ = some (.slice (some ⟨p, po, none⟩) 2 c3) ∧ w'.cell? ⟨w.heap.size + 1, 0, none⟩ = some (.int .i64 t.count) ∧ w'.cell? ⟨w.heap.size + 1, 1, none⟩ = some (.int .i64 t.sum) ∧ w'.cell? ⟨w.heap.size + 1, 2, none⟩ = some (.int .i64 t.min) ∧ w'.cell? ⟨w.heap.size + 1, 3, none⟩ = some (.int .i64 t.max) ∧ w'.cell? ⟨w.heap.size + 1, 4, none⟩ = some (.slice b1 8 d1) ∧ w'.cell? ⟨w.heap.size + 1, 6, none⟩ = some (.slice (some ⟨q, qo, none⟩) 2 d3) ∧ w'.cell? ⟨p, po, none⟩ = some (.slice r0 4 k0) ∧ w'.cell? ⟨p, po + 1, none⟩ = some (.slice r1 4 k1) ∧ w'.cell? ⟨q, qo, none⟩ = some (.slice u0 4 l0) ∧ w'.cell? ⟨q, qo + 1, none⟩ = some (.slice u1 4 l1)) w') := by
  intro w' hb
  have X := HT.out.below hb
  have Y := HSh.out.1.below hb
  have V := HSh.out.2.below hb
  refine ⟨hb, by rw [X.box.cell]; rfl, by rw [X.box.cell]; rfl, by rw [X.box.cell]; rfl, by rw [X.box.cell]; rfl, by rw [X.box.cell]; rfl, by rw [X.box.cell]; rfl, by rw [X.res.cell]; rfl, by rw [X.res.cell]; rfl, by rw [X.res.cell]; rfl, by rw [X.res.cell]; rfl, by rw [X.res.cell]; rfl, by rw [X.res.cell]; rfl, Y.cell0, Y.cell1, V.cell0, V.cell1⟩
 go_cut [5] (fun s5 wx => MidRel w0 s t s5 wx)
 case first =>
  go_region_held3 (fun w' => Below w0.heap.size w0 w' ∧ w'.cell? ⟨w.heap.size, 0, none⟩ = some (.int .i64 s.count) ∧ w'.cell? ⟨w.heap.size, 1, none⟩ = some (.int .i64 s.sum) ∧ w'.cell? ⟨w.heap.size, 2, none⟩ = some (.int .i64 s.min) ∧ w'.cell? ⟨w.heap.size, 3, none⟩ = some (.int .i64 s.max) ∧ w'.cell? ⟨w.heap.size, 4, none⟩ = some (.slice a1 8 c1) ∧ w'.cell? ⟨w.heap.size, 6, none⟩ = some (.slice (some ⟨p, po, none⟩) 2 c3) ∧ w'.cell? ⟨w.heap.size + 1, 0, none⟩ = some (.int .i64 t.count) ∧ w'.cell? ⟨w.heap.size + 1, 1, none⟩ = some (.int .i64 t.sum) ∧ w'.cell? ⟨w.heap.size + 1, 2, none⟩ = some (.int .i64 t.min) ∧ w'.cell? ⟨w.heap.size + 1, 3, none⟩ = some (.int .i64 t.max) ∧ w'.cell? ⟨w.heap.size + 1, 4, none⟩ = some (.slice b1 8 d1) ∧ w'.cell? ⟨w.heap.size + 1, 6, none⟩ = some (.slice (some ⟨q, qo, none⟩) 2 d3) ∧ w'.cell? ⟨p, po, none⟩ = some (.slice r0 4 k0) ∧ w'.cell? ⟨p, po + 1, none⟩ = some (.slice r1 4 k1) ∧ w'.cell? ⟨q, qo, none⟩ = some (.slice u0 4 l0) ∧ w'.cell? ⟨q, qo + 1, none⟩ = some (.slice u1 4 l1))
   ((refine HK.out _ ?_; first | (with_reducible assumption) | (with_reducible exact (Below.refl _ _).drew) | (with_reducible exact (Below.allocW _ (Below.refl _ _) (Nat.le_refl _)).drew) | (with_reducible refine Below.sets7 ?_ ?_; (with_reducible refine Below.allocW _ ?_ (Nat.le_refl _); with_reducible assumption); (first | (with_reducible exact kk2.size) | (with_reducible exact kk1.size) | exact Nat.le_refl _)) | (with_reducible refine Below.allocW _ ?_ (Nat.le_refl _); (first | (with_reducible assumption) | (with_reducible exact (Below.refl _ _).drew))) | (with_reducible refine Below.allocW _ ?_ (Nat.le_refl _); with_reducible refine Below.allocW _ ?_ (Nat.le_refl _); (first | (with_reducible assumption) | (with_reducible exact (Below.refl _ _).drew)))))
   (first
     | (go_at_call 113; have zz := kk2; clear zz; obtain ⟨E1, e1⟩ := HSh.out.1.row1; obtain ⟨E2, e2⟩ := HSh.out.2.row1; refine (l3Sum_any r1 u1 4 k1 l1 (s.rows.getD 1 []) (t.rows.getD 1 []) E1 E2 _ ?_ ?_ (by decide)).mono ?_; exact e1.below (And.left (‹Below w0.heap.size w0 _ ∧ _›)); exact e2.below (And.left (‹Below w0.heap.size w0 _ ∧ _›)); rintro e w3 ⟨x3, i3, j3, X3, rfl, rr3, oo3, hb3⟩; have kk3 : Below w0.heap.size w0 w3 := (by refine Below.next ?_ hb3; exact And.left (‹Below w0.heap.size w0 _ ∧ _›)); (try (have bz := Blk.below bz hb3)); (try (have bz := Blk.below (Blk.made _ #[.int .i64 0, .int .i64 0, .int .i64 0, .int .i64 0, .slice none 0 0, .slice none 0 0, .slice none 0 0] 31) hb3)); (try (have bz := Blk.below (Blk.drew (Blk.made _ #[.int .i64 0, .int .i64 0, .int .i64 0, .int .i64 0, .slice none 0 0, .slice none 0 0, .slice none 0 0] 31)) hb3)); (try (have zc0 := fun o => (bz.alloc o).cell 0; have zf0 := fun o => (bz.alloc o).frozen 0; have zc1 := fun o => (bz.alloc o).cell 1; have zf1 := fun o => (bz.alloc o).frozen 1; have zc2 := fun o => (bz.alloc o).cell 2; have zf2 := fun o => (bz.alloc o).frozen 2; have zc3 := fun o => (bz.alloc o).cell 3; have zf3 := fun o => (bz.alloc o).frozen 3; have zc4 := fun o => (bz.alloc o).cell 4; have zf4 := fun o => (bz.alloc o).frozen 4; have zc5 := fun o => (bz.alloc o).cell 5; have zf5 := fun o => (bz.alloc o).frozen 5; have zc6 := fun o => (bz.alloc o).cell 6; have zf6 := fun o => (bz.alloc o).frozen 6; simp only [aT, aS, aZ] at zc0 zc1 zc2 zc3 zc4 zc5 zc6)); clear e1 e2)
     | (go_at_call 113; have zz := kk1; clear zz; obtain ⟨E1, e1⟩ := HSh.out.1.row0; obtain ⟨E2, e2⟩ := HSh.out.2.row0; refine (l3Sum_any r0 u0 4 k0 l0 (s.rows.getD 0 []) (t.rows.getD 0 []) E1 E2 _ ?_ ?_ (by decide)).mono ?_; exact e1.below (And.left (‹Below w0.heap.size w0 _ ∧ _›)); exact e2.below (And.left (‹Below w0.heap.size w0 _ ∧ _›)); rintro e w2 ⟨x2, i2, j2, X2, rfl, rr2, oo2, hb2⟩; have kk2 : Below w0.heap.size w0 w2 := (by refine Below.next ?_ hb2; exact And.left (‹Below w0.heap.size w0 _ ∧ _›)); (try (have bz := Blk.below bz hb2)); (try (have bz := Blk.below (Blk.made _ #[.int .i64 0, .int .i64 0, .int .i64 0, .int .i64 0, .slice none 0 0, .slice none 0 0, .slice none 0 0] 31) hb2)); (try (have bz := Blk.below (Blk.drew (Blk.made _ #[.int .i64 0, .int .i64 0, .int .i64 0, .int .i64 0, .slice none 0 0, .slice none 0 0, .slice none 0 0] 31)) hb2)); clear e1 e2)
     | (go_at_call 113; obtain ⟨E1, e1⟩ := HSh.out.1.hist; obtain ⟨E2, e2⟩ := HSh.out.2.hist; refine (l3Sum_any a1 b1 8 c1 d1 s.hist t.hist E1 E2 _ ?_ ?_ (by decide)).mono ?_; exact e1.below (And.left (‹Below w0.heap.size w0 _ ∧ _›)); exact e2.below (And.left (‹Below w0.heap.size w0 _ ∧ _›)); rintro e w1 ⟨x1, i1, j1, X1, rfl, rr1, oo1, hb1⟩; have kk1 : Below w0.heap.size w0 w1 := (by refine Below.next ?_ hb1; exact And.left (‹Below w0.heap.size w0 _ ∧ _›)); (try (have bz := Blk.below bz hb1)); (try (have bz := Blk.below (Blk.made _ #[.int .i64 0, .int .i64 0, .int .i64 0, .int .i64 0, .slice none 0 0, .slice none 0 0, .slice none 0 0] 31) hb1)); (try (have bz := Blk.below (Blk.drew (Blk.made _ #[.int .i64 0, .int .i64 0, .int .i64 0, .int .i64 0, .slice none 0 0, .slice none 0 0, .slice none 0 0] 31)) hb1)); clear e1 e2)
     | (go_at_call 110; refine (addSpec_any _ _ _).mono ?_; rintro e w9 ⟨rfl, rfl⟩)
     | (go_at_call 111; refine (l1Min_any _ _ _).mono ?_; rintro e w9 ⟨rfl, rfl⟩)
     | (go_at_call 112; refine (l1Max_any _ _ _).mono ?_; rintro e w9 ⟨rfl, rfl⟩))
  all_goals
   go_wp2_with fail
   go_meet
   case rel =>
    have HLn : Hid (s.hist.length = 8 ∧ t.hist.length = 8 ∧ (s.rows.getD 0 []).length = 4 ∧ (t.rows.getD 0 []).length = 4 ∧ (s.rows.getD 1 []).length = 4 ∧ (t.rows.getD 1 []).length = 4 ∧ s.regs.length = 8 ∧ t.regs.length = 8) := by
     obtain ⟨_, q1⟩ := HSh.out.1.hist; obtain ⟨_, q2⟩ := HSh.out.2.hist; obtain ⟨_, q3⟩ := HSh.out.1.row0; obtain ⟨_, q4⟩ := HSh.out.2.row0; obtain ⟨_, q5⟩ := HSh.out.1.row1; obtain ⟨_, q6⟩ := HSh.out.2.row1; obtain ⟨_, q7⟩ := HSh.out.1.regs; obtain ⟨_, q8⟩ := HSh.out.2.regs
     exact ⟨q1.length, q2.length, q3.length, q4.length, q5.length, q6.length, q7.length, q8.length⟩
    have s1 := hb1.size
    have s2 := hb2.size
    have s3 := hb3.size
    obtain rfl : i1 = 8 := by rw [← rr1.length]; exact sumL_length _ _ 8 HLn.out.1 HLn.out.2.1
    obtain rfl : i2 = 4 := by rw [← rr2.length]; exact sumL_length _ _ 4 HLn.out.2.2.1 HLn.out.2.2.2.1
    obtain rfl : i3 = 4 := by rw [← rr3.length]; exact sumL_length _ _ 4 HLn.out.2.2.2.2.1 HLn.out.2.2.2.2.2.1
    have q12 : Below w1.heap.size w1 w2 := by first | (with_reducible exact hb2) | exact Below.next (Below.allocW _ (Below.refl _ _) (Nat.le_refl _)) hb2
    have q23 : Below w2.heap.size w2 w3 := by first | (with_reducible exact hb3) | exact Below.next (Below.allocW _ (Below.refl _ _) (Nat.le_refl _)) hb3
    have z1 := kk1.size
    have z2 := kk2.size
    have G := gather (w0 := w0) rr1 oo1 (by first | simp | exact Nat.le_refl _) q12 rr2 oo2 (by simp) (by first | exact z1 | (simp; omega)) q23 rr3 oo3 (by simp) (by first | exact z2 | (simp; omega))
    first
     | (have hbz := bz
        clear hbz
        refine ⟨_, x1, j1, X1, some ⟨w3.heap.size, 0, none⟩, 2, w3.heap.size :: (X2 ++ X3), rfl, mid_early kk3 G bz ?_ ?_⟩
        · intro h
          try simp at s1
          try simp at s2
          try simp at s3
          rcases List.mem_append.1 h with h | h
          · have a := oo1.ge _ h
            have b := rr1.lt _ h
            try simp at a
            omega
          · rcases List.mem_append.1 h with h | h
            · have a := oo2.ge _ h
              have b := rr2.lt _ h
              try simp at a
              omega
            · have a := oo3.ge _ h
              have b := rr3.lt _ h
              try simp at a
              omega
        · first
            | (with_reducible exact z2)
            | (with_reducible exact z1)
            | exact Nat.le_refl _)
     | (refine ⟨w3.heap.size + 1, x1, j1, X1, some ⟨w3.heap.size, 0, none⟩, 2, w3.heap.size :: (X2 ++ X3), rfl, ?_⟩
        exact mid_late kk3 (Below.allocW _ (Below.allocW _ (Below.refl _ _) (Nat.le_refl _)) (Nat.le_refl _)) G (Blk.made_eq (by simp)) ((Blk.made w3 _ _).alloc _) (by omega) (by omega) (by omega))
     | (refine ⟨w3.heap.size, x1, j1, X1, some ⟨w3.heap.size + 1, 0, none⟩, 2, (w3.heap.size + 1) :: (X2 ++ X3), rfl, ?_⟩
        exact mid_late kk3 (Below.allocW _ (Below.allocW _ (Below.refl _ _) (Nat.le_refl _)) (Nat.le_refl _)) G ((Blk.made w3 _ _).alloc _) (Blk.made_eq (by simp)) (by omega) (by omega) (by omega))
 case rest =>
  obtain ⟨g5, x1, j1, X1, xr, jr, XR, rfl, hmid⟩ := hcut
  have n1 : ¬ g5 = w.heap.size := by have := hmid.ge; have := HT.out.size; omega
  have n2 : ¬ g5 = w.heap.size + 1 := by have := hmid.ge; have := HT.out.size; omega
  have n1' : ¬ w.heap.size = g5 := fun e => n1 e.symm
  have n2' : ¬ w.heap.size + 1 = g5 := fun e => n2 e.symm
  have TT := HT.out.below hmid.bel
  have X0 := TT.box.cell 0
  have X2c := TT.box.cell 2
  have Y0 := TT.res.cell 0
  have Y2c := TT.res.cell 2
  have O2 := hmid.out.cell 2
  have O2f := hmid.out.frozen 2
  simp only [aT, aS, aZ] at X0 X2c Y0 Y2c O2
  have HMid : Hid (MergeMid _ _ _ _ _ _ _ _ _ _ _ _ _ _ _) := hmid
  clear hmid TT
  go_upto_if 54 with fail
  go_cut [] (fun wx => MergeMid w0 wx g5 (addN s.count t.count) (addN s.sum t.sum) (if s.count = 0 then t.min else Min.min s.min t.min) (Max.max s.max t.max) x1 j1 X1 (sumL s.hist t.hist) xr jr XR [sumL (s.rows.getD 0 []) (t.rows.getD 0 []), sumL (s.rows.getD 1 []) (t.rows.getD 1 [])])
  case first =>
   by_cases za : s.count = 0
   ·
    have zab : (s.count == 0) = true := by simpa using za
    have ZA : Hid (s.count = 0) := za
    clear za
    go_wp2
    go_meet
    case rel => rw [if_pos ZA.out]; exact HMid.out.setMin t.min
   ·
    have zab : (s.count == 0) = false := by simpa using za
    have ZA : Hid (¬ s.count = 0) := za
    clear za
    go_wp2
    go_meet
    case rel => rw [if_neg ZA.out]; exact HMid.out
  case rest =>
   clear HMid X0 X2c Y0 Y2c O2 O2f
   obtain ⟨m1, hm1⟩ : ∃ m1, m1 = if s.count = 0 then t.min else Min.min s.min t.min := ⟨_, rfl⟩
   rw [← hm1] at hcut
   have HM1 : Hid (m1 = if s.count = 0 then t.min else Min.min s.min t.min) := hm1
   have hmid := hcut
   clear hm1 hcut
   have TT := HT.out.below hmid.bel
   have X2c := TT.box.cell 2
   have Y0 := TT.res.cell 0
   have O2 := hmid.out.cell 2
   have O2f := hmid.out.frozen 2
   simp only [aT, aS, aZ] at X2c Y0 O2
   have HMid : Hid (MergeMid _ _ _ _ _ _ _ _ _ _ _ _ _ _ _) := hmid
   clear hmid TT
   go_upto_if 60 with fail
   go_cut [] (fun wx => MergeMid w0 wx g5 (addN s.count t.count) (addN s.sum t.sum) (if t.count = 0 then s.min else m1) (Max.max s.max t.max) x1 j1 X1 (sumL s.hist t.hist) xr jr XR [sumL (s.rows.getD 0 []) (t.rows.getD 0 []), sumL (s.rows.getD 1 []) (t.rows.getD 1 [])])
   case first =>
    by_cases za : t.count = 0
    ·
     have zab : (t.count == 0) = true := by simpa using za
     have ZA : Hid (t.count = 0) := za
     clear za
     go_wp2
     go_meet
     case rel => rw [if_pos ZA.out]; exact HMid.out.setMin s.min
    ·
     have zab : (t.count == 0) = false := by simpa using za
     have ZA : Hid (¬ t.count = 0) := za
     clear za
     go_wp2
     go_meet
     case rel => rw [if_neg ZA.out]; exact HMid.out
   case rest =>
    clear HMid X2c Y0 O2 O2f
    obtain ⟨mm, hmm⟩ : ∃ mm, mm = if t.count = 0 then s.min else m1 := ⟨_, rfl⟩
    rw [← hmm] at hcut
    have HMin : Hid (mm = (s.merge t).min) := by rw [hmm, HM1.out]; rfl
    have HStart : Hid (RegMid w0 wc g5 (addN s.count t.count) (addN s.sum t.sum) mm (Max.max s.max t.max) x1 j1 X1 (sumL s.hist t.hist) xr jr XR [sumL (s.rows.getD 0 []) (t.rows.getD 0 []), sumL (s.rows.getD 1 []) (t.rows.getD 1 [])] (.slice none 0 0) 0 ((maxL s.regs t.regs).take 0)) := RegMid.start hcut
    clear hcut hmm n1 n2 n1' n2'
    go_wp2
    obtain ⟨E1, e1⟩ := HSh.out.1.regs
    obtain ⟨E2, e2⟩ := HSh.out.2.regs
    obtain ⟨ba, oa, ha2, hca⟩ : ∃ b off, a2 = some ⟨b, off, none⟩ ∧ ∀ i, i < 8 → w0.cell? ⟨b, off + i, none⟩ = some (.int .i64 (s.regs.getD i 0)) := by
     rcases e1.cells with ⟨h0, _⟩ | ⟨b, off, _, h1, _, h2⟩
     ·
      omega
     ·
      exact ⟨b, off, h1, h2⟩
    obtain ⟨bb, ob, hb2', hcb⟩ : ∃ b off, b2 = some ⟨b, off, none⟩ ∧ ∀ i, i < 8 → w0.cell? ⟨b, off + i, none⟩ = some (.int .i64 (t.regs.getD i 0)) := by
     rcases e2.cells with ⟨h0, _⟩ | ⟨b, off, _, h1, _, h2⟩
     ·
      omega
     ·
      exact ⟨b, off, h1, h2⟩
    have HC : Hid ((∀ i, i < 8 → w0.cell? ⟨ba, oa + i, none⟩ = some (.int .i64 (s.regs.getD i 0))) ∧ (∀ i, i < 8 → w0.cell? ⟨bb, ob + i, none⟩ = some (.int .i64 (t.regs.getD i 0))) ∧ s.regs.length = 8 ∧ t.regs.length = 8) := ⟨hca, hcb, e1.length, e2.length⟩
    subst ha2
    subst hb2'
    clear e1 e2 hca hcb
    obtain ⟨i0, hi, hz0, hz1, hz2⟩ := info_parts infoInt
    go_loopw [6] (fun i wr => ∃ (k : Nat) (v : Value), k ≤ 8 ∧ i = .int .i64 k ∧ Hid (RegMid w0 wr g5 (addN s.count t.count) (addN s.sum t.sum) mm (Max.max s.max t.max) x1 j1 X1 (sumL s.hist t.hist) xr jr XR [sumL (s.rows.getD 0 []) (t.rows.getD 0 []), sumL (s.rows.getD 1 []) (t.rows.getD 1 [])] v k ((maxL s.regs t.regs).take k))) (fun i _ => 8 - (intOf i).toNat)
    case atStart => exact ⟨0, _, by omega, rfl, HStart.out⟩
    case round =>
     obtain ⟨k, v, hk, rfl, HG⟩ := hrel
     by_cases hlt : k < 8
     ·
      obtain ⟨x, hx⟩ : ∃ x, x = s.regs[k]?.getD 0 := ⟨_, rfl⟩
      obtain ⟨y, hy⟩ : ∃ y, y = t.regs[k]?.getD 0 := ⟨_, rfl⟩
      have HS : Hid ((maxL s.regs t.regs).take (k + 1) = (maxL s.regs t.regs).take k ++ [Max.max x y]) := by rw [hx, hy]; exact maxL_snoc _ _ k (by rw [HC.out.2.2.1]; exact hlt) (by rw [HC.out.2.2.2]; exact hlt)
      have HK2 : Hid (∀ w', Below w0.heap.size w0 w' → (fun w' => w'.cell? ⟨w.heap.size, 5, none⟩ = some (.slice (some ⟨ba, oa, none⟩) 8 c2) ∧ w'.cell? ⟨w.heap.size + 1, 5, none⟩ = some (.slice (some ⟨bb, ob, none⟩) 8 d2) ∧ w'.cell? ⟨ba, oa + k, none⟩ = some (.int .i64 x) ∧ w'.cell? ⟨bb, ob + k, none⟩ = some (.int .i64 y)) w') := by
       intro w' hb
       have X := HT.out.below hb
       have c1 := HC.out.1 k hlt
       have c2 := HC.out.2.1 k hlt
       refine ⟨by rw [X.box.cell]; rfl, by rw [X.res.cell]; rfl, ?_, ?_⟩
       ·
        rw [hb.cell (p := ⟨ba, oa + k, none⟩) (World.block_lt_of_cell? _ _ c1), c1, hx]; simp
       ·
        rw [hb.cell (p := ⟨bb, ob + k, none⟩) (World.block_lt_of_cell? _ _ c2), c2, hy]; simp
      have hki : ((k : Nat) : Int) < 8 := by omega
      have hc5 := HG.out.out.cell 5
      have hc5a := fun o => (HG.out.out.alloc o).cell 5
      simp only [aT, aS, aZ] at hc5 hc5a
      have HBel : Hid (Below w0.heap.size w0 wr) := HG.out.bel
      have hwr : w0.heap.size ≤ wr.heap.size := HG.out.bel.size
      clear hx hy
      go_wp2
      have hb5 := (HK2.out wr HBel.out)
      obtain ⟨f1, f2, f3, f4⟩ := hb5
      have hb6 := fun o => (HK2.out (wr.alloc o) (Below.allocW o HBel.out (Nat.le_refl _)))
      have g1 := fun o => (hb6 o).1
      have g2 := fun o => (hb6 o).2.1
      have g3 := fun o => (hb6 o).2.2.1
      have g4 := fun o => (hb6 o).2.2.2
      clear hb6
      go_region_law
       (first
         | (refine step_append_lies _ rfl _ _ 28 rfl w0.heap.size 3 i0 (.int .i64 0) 1 8 Tryz.underlying28 hi hz0 hz1 hz2 rfl (by decide) _ k (((maxL s.regs t.regs).take k).map (Value.int .i64)) rfl (HG.out.row.alloc _) ⟨wr.heap.size, 0, none⟩ 1 1 [.int .i64 (Max.max x y)] rfl rfl (cell_new1 _ _ _) (by intro u hu; simp at hu; subst hu; rfl) (by decide) (by unfold maxLen; omega) (by omega) (by simp; omega) _ rfl ?_; intro g cp w1 hown hgrow hat hlt2; have b5 := (HG.out.grow hgrow).1; have q5 := b5.cell 5; have q5f := b5.frozen 5; simp only [aT, aS, aZ] at q5)
         | (refine step_call_quiet rfl 112 _ _ _ Tryz.f112 Tryz.func112 (by kernel_rfl) (by kernel_rfl) rfl (.int .i64 (Max.max x y)) ?_ ?_; exact l1Max_any x y _))
      all_goals
       have R := HG.out.step hgrow hown hat
       rw [← HS.out] at R
       have HR2 : Hid (RegMid w0 _ g5 _ _ _ _ x1 j1 X1 _ xr jr XR _ _ (k + 1) _) := R
       clear R hown hgrow hat b5 q5 q5f HG
       go_wp2
       go_roundw
       case rel => exact ⟨k + 1, _, by omega, by go_num, HR2⟩
       case measure => simp [intOf]; omega
     ·
      obtain rfl : k = 8 := by omega
      have HG8 : Hid (RegMid w0 wr g5 (addN s.count t.count) (addN s.sum t.sum) mm (Max.max s.max t.max) x1 j1 X1 (sumL s.hist t.hist) xr jr XR [sumL (s.rows.getD 0 []) (t.rows.getD 0 []), sumL (s.rows.getD 1 []) (t.rows.getD 1 [])] v 8 (maxL s.regs t.regs)) := by
       have := HG.out
       rw [List.take_of_length_le (Nat.le_of_eq (maxL_length _ _ 8 HC.out.2.2.1 HC.out.2.2.2))] at this
       exact this
      obtain ⟨av, cv, Xv, rfl, rv, ov⟩ := HG8.out.done
      have LL := HT.out.below HG8.out.bel
      have HV : Hid (RdI wr av 8 (maxL s.regs t.regs) Xv ∧ Own w0.heap.size wr (X1 ++ (Xv ++ XR)) ∧ Three w _ _ _ _ _ wr) := ⟨rv, ov, LL⟩
      have o0 := HG8.out.out.cell 0
      have l0c := LL.loc.cell 0
      have l0f := LL.loc.frozen 0
      have o1 := HG8.out.out.cell 1
      have l1c := LL.loc.cell 1
      have l1f := LL.loc.frozen 1
      have o2 := HG8.out.out.cell 2
      have l2c := LL.loc.cell 2
      have l2f := LL.loc.frozen 2
      have o3 := HG8.out.out.cell 3
      have l3c := LL.loc.cell 3
      have l3f := LL.loc.frozen 3
      have o4 := HG8.out.out.cell 4
      have l4c := LL.loc.cell 4
      have l4f := LL.loc.frozen 4
      have o5 := HG8.out.out.cell 5
      have l5c := LL.loc.cell 5
      have l5f := LL.loc.frozen 5
      have o6 := HG8.out.out.cell 6
      have l6c := LL.loc.cell 6
      have l6f := LL.loc.frozen 6
      simp only [aT, aS, aZ] at o0 l0c o1 l1c o2 l2c o3 l3c o4 l4c o5 l5c o6 l6c
      clear rv ov LL HG
      go_wp2
      have T4 := ((((((HV.out.2.2.set 0 (.int .i64 (addN s.count t.count))).set 1 (.int .i64 (addN s.sum t.sum))).set 2 (.int .i64 mm)).set 3 (.int .i64 (Max.max s.max t.max))).set 4 (.slice x1 8 j1)).set 5 (.slice av 8 cv)).set 6 (.slice xr 2 jr)
      have nl : w.heap.size + 1 + 1 ∉ X1 ++ (Xv ++ XR) := fun hx => by have := HV.out.2.1.ge _ hx; have := HT.out.size; omega
      have ag := ((((((((Agree.refl wr (X1 ++ (Xv ++ XR))).thenSet nl 0 (.int .i64 (addN s.count t.count))).thenSet nl 1 (.int .i64 (addN s.sum t.sum))).thenSet nl 2 (.int .i64 mm)).thenSet nl 3 (.int .i64 (Max.max s.max t.max))).thenSet nl 4 (.slice x1 8 j1)).thenSet nl 5 (.slice av 8 cv)).thenSet nl 6 (.slice xr 2 jr))
      refine bodyPost_ret (results_cell_row Tryz.results74 _ _ (w.heap.size + 1 + 1) _ _ _ _ rfl T4.loc Tryz.underlying31 rfl (by kernel_rfl)) rfl ?_
      have eM : s.merge t = ⟨addN s.count t.count, addN s.sum t.sum, mm, Max.max s.max t.max, sumL s.hist t.hist, maxL s.regs t.regs, [sumL (s.rows.getD 0 []) (t.rows.getD 0 []), sumL (s.rows.getD 1 []) (t.rows.getD 1 [])]⟩ := by rw [HMin.out]; rfl
      rw [eM]
      exact ⟨_, X1 ++ (Xv ++ XR), rfl, ⟨x1, 8, j1, av, 8, cv, xr, 2, jr, X1, Xv, XR, rfl, HG8.out.r1.agree ag.left, HV.out.1.agree ag.right.left, HG8.out.rr.agree ag.right.right, rfl⟩, (HV.out.2.1.agree ag).mono (by have := HT.out.size; omega), T4.bel⟩
end Go.Proofs.YtjnamoppcklomaaGreat
