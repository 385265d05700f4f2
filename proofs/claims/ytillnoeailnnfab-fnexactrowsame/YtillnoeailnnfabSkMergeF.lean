/- The walk through the model's merging of two summaries that are right. No statement of the seat is proved here. -/
import Derived.Test.YtillnoeailnnfabB1
import Derived.Deep.DeepCutAuto
namespace Go.Proofs.Ytillnoeailnnfab
open Go.RowKit
def maxL (xs ys : List Int) : List Int := List.zipWith max xs ys
def Sk.merge (a b : Sk) : Sk :=
  ⟨addN a.count b.count, addN a.sum b.sum, if b.count = 0 then a.min else if a.count = 0 then b.min else Min.min a.min b.min, Max.max a.max b.max, sumL a.hist b.hist, maxL a.regs b.regs, [sumL (a.rows.getD 0 []) (b.rows.getD 0 []), sumL (a.rows.getD 1 []) (b.rows.getD 1 [])]⟩
/-- In the midst of a merging: the sum's struct lies in block g5, its buckets and rows each in memory of its own. -/
structure MergeMid (w0 wx : World) (g5 : Nat) (c sm mn mx : Int) (x1 : Option Addr) (j1 : Nat) (X1 : List Nat) (l1 : List Int) (xr : Option Addr) (jr : Nat) (XR : List Nat) (lr : List (List Int)) : Prop where
  out : Blk wx g5 #[.int .i64 c, .int .i64 sm, .int .i64 mn, .int .i64 mx, .slice x1 8 j1, .slice none 0 0, .slice xr 2 jr] 40
  r1 : RdI wx x1 8 l1 X1
  rr : RdII wx xr 2 lr XR
  own : Own w0.heap.size wx (X1 ++ XR)
  apart : g5 ∉ X1 ++ XR
  ge : w0.heap.size ≤ g5
  bel : Below w0.heap.size w0 wx
section
variable {w0 w1 w2 w3 wa wb wc wx : World} {x1 x2 x3 : Option Addr} {i1 i2 i3 : Nat} {l1 l2 l3 : List Int} {X1 X2 X3 : List Nat}
theorem gather (r1 : RdI w1 x1 i1 l1 X1) (o1 : Own wa.heap.size w1 X1) (ha : w0.heap.size ≤ wa.heap.size) (q12 : Below w1.heap.size w1 w2) (r2 : RdI w2 x2 i2 l2 X2) (o2 : Own wb.heap.size w2 X2) (hb : w1.heap.size ≤ wb.heap.size) (hb0 : w0.heap.size ≤ wb.heap.size)
    (q23 : Below w2.heap.size w2 w3) (r3 : RdI w3 x3 i3 l3 X3) (o3 : Own wc.heap.size w3 X3) (hc : w2.heap.size ≤ wc.heap.size) (hc0 : w0.heap.size ≤ wc.heap.size) :
    RdI w3 x1 i1 l1 X1 ∧ RdI w3 x2 i2 l2 X2 ∧ RdI w3 x3 i3 l3 X3 ∧ Own w0.heap.size w3 (X1 ++ (X2 ++ X3)) := by
  have r12 := r1.below q12
  have p12 := ((o1.below r1.lt q12).mono ha).join o2 (fun b h => Nat.lt_of_lt_of_le (r1.lt b h) hb) hb0
  have l12 : ∀ b ∈ X1 ++ X2, b < w2.heap.size := fun b h => (List.mem_append.1 h).elim (r12.lt b) (r2.lt b)
  have p123 := (p12.below l12 q23).join o3 (fun b h => Nat.lt_of_lt_of_le (l12 b h) hc) hc0
  rw [List.append_assoc] at p123
  exact ⟨r12.below q23, r2.below q23, r3, p123⟩
theorem two_rows {g : Nat} {j2 j3 : Nat} {t : TypeId} (br : Blk wx g #[.slice x2 4 j2, .slice x3 4 j3] t) (r2 : RdI wx x2 4 l2 X2) (r3 : RdI wx x3 4 l3 X3) : RdII wx (some ⟨g, 0, none⟩) 2 [l2, l3] (g :: (X2 ++ X3)) := by
  refine ⟨rfl, .inr ⟨g, 0, X2 ++ X3, by omega, rfl, rfl, ?_⟩⟩
  show RdM wx [ints l2, ints l3] g 0 (X2 ++ X3)
  rw [RdM]
  refine ⟨_, X2, X3, by rw [br.cell 0]; rfl, rd_ints.2 ⟨_, 4, j2, rfl, r2⟩, ?_, rfl⟩
  rw [RdM]
  exact ⟨_, X3, [], by rw [br.cell 1]; rfl, rd_ints.2 ⟨_, 4, j3, rfl, r3⟩, by simp [RdM], by simp⟩
theorem own_rows {B : Nat} {g : Nat} {cs : Array Value} {t : TypeId} (o : Own B wx (X1 ++ (X2 ++ X3))) (br : Blk wx g cs t) (hg : g ∉ X1 ++ (X2 ++ X3)) (hB : B ≤ g) : Own B wx (X1 ++ (g :: (X2 ++ X3))) := by
  have nd := List.nodup_append.1 o.nodup
  refine ⟨List.nodup_append.2 ⟨nd.1, List.nodup_cons.2 ⟨fun h => hg (List.mem_append_right _ h), nd.2.1⟩, fun a ha b hb e => ?_⟩, fun b hb x => ?_, fun b hb => ?_⟩
  · subst e
    rcases List.mem_cons.1 hb with rfl | hb
    · exact hg (List.mem_append_left _ ha)
    · exact nd.2.2 a ha a hb rfl
  · rcases List.mem_append.1 hb with h | h
    · exact o.free b (List.mem_append_left _ h) x
    · rcases List.mem_cons.1 h with rfl | h
      · exact br.frozen x
      · exact o.free b (List.mem_append_right _ h) x
  · rcases List.mem_append.1 hb with h | h
    · exact o.ge b (List.mem_append_left _ h)
    · rcases List.mem_cons.1 h with rfl | h
      · exact hB
      · exact o.ge b (List.mem_append_right _ h)
theorem mid_of {g5 gr : Nat} {c sm mn mx : Int} {j1 j2 j3 : Nat} {t : TypeId} (kb : Below w0.heap.size w0 wx) (R1 : RdI wx x1 8 l1 X1) (R2 : RdI wx x2 4 l2 X2) (R3 : RdI wx x3 4 l3 X3) (O : Own w0.heap.size wx (X1 ++ (X2 ++ X3)))
    (bo : Blk wx g5 #[.int .i64 c, .int .i64 sm, .int .i64 mn, .int .i64 mx, .slice x1 8 j1, .slice none 0 0, .slice (some ⟨gr, 0, none⟩) 2 2] 40) (br : Blk wx gr #[.slice x2 4 j2, .slice x3 4 j3] t)
    (hne : g5 ≠ gr) (n5 : g5 ∉ X1 ++ (X2 ++ X3)) (nr : gr ∉ X1 ++ (X2 ++ X3)) (h5 : w0.heap.size ≤ g5) (hr : w0.heap.size ≤ gr) :
    MergeMid w0 wx g5 c sm mn mx x1 j1 X1 l1 (some ⟨gr, 0, none⟩) 2 (gr :: (X2 ++ X3)) [l2, l3] :=
  ⟨bo, R1, two_rows br R2 R3, own_rows O br nr hr, fun h => (List.mem_append.1 h).elim (fun h => n5 (List.mem_append_left _ h)) (fun h => (List.mem_cons.1 h).elim hne (fun h => n5 (List.mem_append_right _ h))), h5, kb⟩
theorem mid_late {w3 : World} {g5 gr : Nat} {c sm mn mx : Int} {j1 j2 j3 : Nat} {t : TypeId} (k3 : Below w0.heap.size w0 w3) (hb : Below w3.heap.size w3 wx) (G : RdI w3 x1 8 l1 X1 ∧ RdI w3 x2 4 l2 X2 ∧ RdI w3 x3 4 l3 X3 ∧ Own w0.heap.size w3 (X1 ++ (X2 ++ X3)))
    (bo : Blk wx g5 #[.int .i64 c, .int .i64 sm, .int .i64 mn, .int .i64 mx, .slice x1 8 j1, .slice none 0 0, .slice (some ⟨gr, 0, none⟩) 2 2] 40) (br : Blk wx gr #[.slice x2 4 j2, .slice x3 4 j3] t) (hne : g5 ≠ gr) (h5 : w3.heap.size ≤ g5) (hr : w3.heap.size ≤ gr) :
    MergeMid w0 wx g5 c sm mn mx x1 j1 X1 l1 (some ⟨gr, 0, none⟩) 2 (gr :: (X2 ++ X3)) [l2, l3] := by
  obtain ⟨R1, R2, R3, O⟩ := G
  have lt : ∀ b ∈ X1 ++ (X2 ++ X3), b < w3.heap.size := fun b h => (List.mem_append.1 h).elim (R1.lt b) (fun h => (List.mem_append.1 h).elim (R2.lt b) (R3.lt b))
  exact mid_of (Below.next k3 hb) (R1.below hb) (R2.below hb) (R3.below hb) (O.below lt hb) bo br hne (fun h => by have := lt _ h; omega) (fun h => by have := lt _ h; omega) (Nat.le_trans k3.size h5) (Nat.le_trans k3.size hr)
theorem mid_early {w3 : World} {g5 : Nat} {c sm mn mx : Int} {j1 j2 j3 : Nat} {t : TypeId} (k3 : Below w0.heap.size w0 w3) (G : RdI w3 x1 8 l1 X1 ∧ RdI w3 x2 4 l2 X2 ∧ RdI w3 x3 4 l3 X3 ∧ Own w0.heap.size w3 (X1 ++ (X2 ++ X3)))
    (bz : Blk w3 g5 #[.int .i64 0, .int .i64 0, .int .i64 0, .int .i64 0, .slice none 0 0, .slice none 0 0, .slice none 0 0] 40) (n5 : g5 ∉ X1 ++ (X2 ++ X3)) (h5 : w0.heap.size ≤ g5) :
    MergeMid w0 ((((((((w3.alloc (.cells #[.slice x2 4 j2, .slice x3 4 j3] t)).setCell ⟨g5, 0, none⟩ (.int .i64 c)).setCell ⟨g5, 1, none⟩ (.int .i64 sm)).setCell ⟨g5, 2, none⟩ (.int .i64 mn)).setCell ⟨g5, 3, none⟩ (.int .i64 mx)).setCell ⟨g5, 4, none⟩ (.slice x1 8 j1)).setCell ⟨g5, 5, none⟩ (.slice none 0 0)).setCell ⟨g5, 6, none⟩ (.slice (some ⟨w3.heap.size, 0, none⟩) 2 2)) g5 c sm mn mx x1 j1 X1 l1 (some ⟨w3.heap.size, 0, none⟩) 2 (w3.heap.size :: (X2 ++ X3)) [l2, l3] := by
  obtain ⟨R1, R2, R3, O⟩ := G
  have hb : Below w3.heap.size w3 (w3.alloc (.cells #[.slice x2 4 j2, .slice x3 4 j3] t)) := (Below.refl _ _).alloc (Nat.le_refl _) _
  have lt : ∀ b ∈ X1 ++ (X2 ++ X3), b < w3.heap.size := fun b h => (List.mem_append.1 h).elim (R1.lt b) (fun h => (List.mem_append.1 h).elim (R2.lt b) (R3.lt b))
  have ag := ((((((((Agree.below hb lt).thenSet n5 0 (.int .i64 c)).thenSet n5 1 (.int .i64 sm)).thenSet n5 2 (.int .i64 mn)).thenSet n5 3 (.int .i64 mx)).thenSet n5 4 (.slice x1 8 j1)).thenSet n5 5 (.slice none 0 0)).thenSet n5 6 (.slice (some ⟨w3.heap.size, 0, none⟩) 2 2))
  have h53 : g5 < w3.heap.size := bz.lt
  have bo := (((((((bz.alloc (.cells #[.slice x2 4 j2, .slice x3 4 j3] t)).set 0 (.int .i64 c)).set 1 (.int .i64 sm)).set 2 (.int .i64 mn)).set 3 (.int .i64 mx)).set 4 (.slice x1 8 j1)).set 5 (.slice none 0 0)).set 6 (.slice (some ⟨w3.heap.size, 0, none⟩) 2 2)
  have hne : w3.heap.size ≠ g5 := by omega
  have br := (((((((Blk.made w3 #[.slice x2 4 j2, .slice x3 4 j3] t).setOther hne 0 (.int .i64 c)).setOther hne 1 (.int .i64 sm)).setOther hne 2 (.int .i64 mn)).setOther hne 3 (.int .i64 mx)).setOther hne 4 (.slice x1 8 j1)).setOther hne 5 (.slice none 0 0)).setOther hne 6 (.slice (some ⟨w3.heap.size, 0, none⟩) 2 2)
  refine mid_of ?_ (R1.agree ag.left) (R2.agree ag.right.left) (R3.agree ag.right.right) (O.agree ag) ?_ br (by omega) n5 (fun h => by have := lt _ h; omega) h5 k3.size
  · exact Below.sets7 (Below.next k3 hb) h5
  · exact bo
end
/-- The same, of two summaries. -/
def MidRel (w0 : World) (s t : Sk) (s5 : Value) (wx : World) : Prop :=
  ∃ (g5 : Nat) (x1 : Option Addr) (j1 : Nat) (X1 : List Nat) (xr : Option Addr) (jr : Nat) (XR : List Nat), s5 = .pointer (some ⟨g5, 0, none⟩) ∧ MergeMid w0 wx g5 (addN s.count t.count) (addN s.sum t.sum) (Min.min s.min t.min) (Max.max s.max t.max) x1 j1 X1 (sumL s.hist t.hist) xr jr XR [sumL (s.rows.getD 0 []) (t.rows.getD 0 []), sumL (s.rows.getD 1 []) (t.rows.getD 1 [])]
theorem MergeMid.setMin {w0 wx : World} {g5 : Nat} {c sm mn mx : Int} {x1 : Option Addr} {j1 : Nat} {X1 : List Nat} {l1 : List Int} {xr : Option Addr} {jr : Nat} {XR : List Nat} {lr : List (List Int)} (h : MergeMid w0 wx g5 c sm mn mx x1 j1 X1 l1 xr jr XR lr) (m : Int) :
    MergeMid w0 (wx.setCell ⟨g5, 2, none⟩ (.int .i64 m)) g5 c sm m mx x1 j1 X1 l1 xr jr XR lr := by
  have ag : Agree wx (wx.setCell ⟨g5, 2, none⟩ (.int .i64 m)) (X1 ++ XR) := .set h.apart 2 _
  exact ⟨h.out.set 2 (.int .i64 m), h.r1.agree ag.left, h.rr.agree ag.right, h.own.agree ag, h.apart, h.ge, h.bel.setCell h.ge _⟩
/-- In the midst of the registers' merging: k of them lie in the row v. -/
structure RegMid (w0 wx : World) (g5 : Nat) (c sm mn mx : Int) (x1 : Option Addr) (j1 : Nat) (X1 : List Nat) (l1 : List Int) (xr : Option Addr) (jr : Nat) (XR : List Nat) (lr : List (List Int)) (v : Value) (k : Nat) (ms : List Int) : Prop where
  out : Blk wx g5 #[.int .i64 c, .int .i64 sm, .int .i64 mn, .int .i64 mx, .slice x1 8 j1, v, .slice xr 2 jr] 40
  r1 : RdI wx x1 8 l1 X1
  rr : RdII wx xr 2 lr XR
  own : Own w0.heap.size wx (X1 ++ XR)
  apart : g5 ∉ X1 ++ XR
  ge : w0.heap.size ≤ g5
  bel : Below w0.heap.size w0 wx
  row : wx.ownsRow w0.heap.size 3 1 v k (ms.map (Value.int .i64))
  rowX : ∀ b, v.ownBlock = some b → b ∉ X1 ++ XR ∧ b ≠ g5
theorem RegMid.start {w0 wx : World} {g5 : Nat} {c sm mn mx : Int} {x1 : Option Addr} {j1 : Nat} {X1 : List Nat} {l1 : List Int} {xr : Option Addr} {jr : Nat} {XR : List Nat} {lr : List (List Int)} (h : MergeMid w0 wx g5 c sm mn mx x1 j1 X1 l1 xr jr XR lr) :
    RegMid w0 wx g5 c sm mn mx x1 j1 X1 l1 xr jr XR lr (.slice none 0 0) 0 [] :=
  ⟨h.out, h.r1, h.rr, h.own, h.apart, h.ge, h.bel, World.ownsRow_nil _ _ _ _, fun b hb => by cases hb⟩
theorem grown_one (w : World) (g j : Nat) (v : Value) : w.grownBy (w.setCell ⟨g, j, none⟩ v) (some g) :=
  ⟨rfl, rfl, rfl, by simp, fun k _ hk => Below.heap_setCell w ⟨g, j, none⟩ v k (fun e => hk (by simp [e]))⟩
theorem maxL_length (xs ys : List Int) (n : Nat) (hx : xs.length = n) (hy : ys.length = n) : (maxL xs ys).length = n := by simp [maxL, hx, hy]
theorem maxL_snoc (xs ys : List Int) (k : Nat) (hx : k < xs.length) (hy : k < ys.length) : (maxL xs ys).take (k + 1) = (maxL xs ys).take k ++ [Max.max (xs[k]?.getD 0) (ys[k]?.getD 0)] := by
  rw [take_snoc (maxL xs ys) 0 k (by simp [maxL]; omega)]
  simp [maxL, List.getElem?_zipWith, List.getElem?_eq_getElem hx, List.getElem?_eq_getElem hy]
theorem RegMid.grow {w0 wr w1 : World} {g5 : Nat} {c sm mn mx : Int} {x1 : Option Addr} {j1 : Nat} {X1 : List Nat} {l1 : List Int} {xr : Option Addr} {jr : Nat} {XR : List Nat} {lr : List (List Int)} {v : Value} {k : Nat} {ms : List Int} {o : Obj}
    (h : RegMid w0 wr g5 c sm mn mx x1 j1 X1 l1 xr jr XR lr v k ms) (hg : (wr.drew.alloc o).grownBy w1 v.ownBlock) :
    Blk w1 g5 #[.int .i64 c, .int .i64 sm, .int .i64 mn, .int .i64 mx, .slice x1 8 j1, v, .slice xr 2 jr] 40 ∧ Agree wr w1 (X1 ++ XR) ∧ Below w0.heap.size w0 w1 := by
  have lt : ∀ b ∈ X1 ++ XR, b < wr.heap.size := fun b hb => (List.mem_append.1 hb).elim (h.r1.lt b) (h.rr.lt b)
  have step : ∀ b, b < wr.heap.size → v.ownBlock ≠ some b → w1.heap[b]? = wr.heap[b]? := fun b hb hn => by
    rw [hg.block b (by simp; omega) (fun e => hn e.symm)]
    exact Below.heap_alloc wr.drew o b hb
  refine ⟨h.out.agree (step g5 h.out.lt (fun e => (h.rowX g5 e).2 rfl)), fun b hb => step b (lt b hb) (fun e => (h.rowX b e).1 hb), ?_⟩
  have hb1 : Below w0.heap.size w0 (wr.drew.alloc o) := (h.bel.drew).alloc h.bel.size o
  exact hb1.grown hg (by simp; have := h.bel.size; omega) (fun b hb => (h.row.lt b hb).1)
theorem RegMid.step {w0 wr w1 : World} {g5 : Nat} {c sm mn mx : Int} {x1 : Option Addr} {j1 : Nat} {X1 : List Nat} {l1 : List Int} {xr : Option Addr} {jr : Nat} {XR : List Nat} {lr : List (List Int)} {v : Value} {k : Nat} {ms : List Int} {o : Obj} {g cp : Nat} {m : Int}
    (h : RegMid w0 wr g5 c sm mn mx x1 j1 X1 l1 xr jr XR lr v k ms) (hg : (wr.drew.alloc o).grownBy w1 v.ownBlock)
    (ho : w1.ownsRow w0.heap.size 3 1 (.slice (some ⟨g, 0, none⟩) (k + 1) cp) (k + 1) (ms.map (Value.int .i64) ++ [.int .i64 m])) (hat : v.ownBlock = some g ∨ g = (wr.drew.alloc o).heap.size) :
    RegMid w0 (w1.setCell ⟨g5, 5, none⟩ (.slice (some ⟨g, 0, none⟩) (k + 1) cp)) g5 c sm mn mx x1 j1 X1 l1 xr jr XR lr (.slice (some ⟨g, 0, none⟩) (k + 1) cp) (k + 1) (ms ++ [m]) := by
  obtain ⟨b5, ag0, bl⟩ := h.grow hg
  have lt : ∀ b ∈ X1 ++ XR, b < wr.heap.size := fun b hb => (List.mem_append.1 hb).elim (h.r1.lt b) (h.rr.lt b)
  have gX : g ∉ X1 ++ XR ∧ g ≠ g5 := by
    rcases hat with e | e
    · exact h.rowX g e
    · have e2 : g = wr.heap.size + 1 := by rw [e]; simp
      exact ⟨fun hx => by have := lt g hx; omega, by have := h.out.lt; omega⟩
  have ag := ag0.thenSet h.apart 5 (.slice (some ⟨g, 0, none⟩) (k + 1) cp)
  refine ⟨b5.set 5 _, h.r1.agree ag.left, h.rr.agree ag.right, h.own.agree ag, h.apart, h.ge, bl.setCell h.ge _, ?_, ?_⟩
  · rw [List.map_append]
    exact ho.kept (grown_one w1 g5 5 _) (.inr (by simp [Value.ownBlock]; exact gX.2))
  · intro b hb
    obtain rfl : g = b := by simpa [Value.ownBlock] using hb
    exact gX
theorem RegMid.done {w0 wr : World} {g5 : Nat} {c sm mn mx : Int} {x1 : Option Addr} {j1 : Nat} {X1 : List Nat} {l1 : List Int} {xr : Option Addr} {jr : Nat} {XR : List Nat} {lr : List (List Int)} {v : Value} {k : Nat} {ms : List Int}
    (h : RegMid w0 wr g5 c sm mn mx x1 j1 X1 l1 xr jr XR lr v k ms) : ∃ a cap Xv, v = .slice a k cap ∧ RdI wr a k ms Xv ∧ Own w0.heap.size wr (X1 ++ (Xv ++ XR)) := by
  obtain ⟨a, cap, Xv, rfl, hr, ho⟩ := rdI_of_own h.row
  have hX : ∀ b ∈ Xv, b ∉ X1 ++ XR := by
    intro b hb
    rcases hr.cells with ⟨_, e⟩ | ⟨b', off, _, ea, eF, _⟩
    · subst e; cases hb
    · subst ea eF
      obtain rfl : b = b' := by simpa using hb
      exact (h.rowX b rfl).1
  refine ⟨a, cap, Xv, rfl, hr, h.own.left.app (ho.app h.own.right (fun b hb hx => hX b hb (List.mem_append_right _ hx))) (fun b hb hx => ?_)⟩
  rcases List.mem_append.1 hx with hx | hx
  · exact hX b hx (List.mem_append_left _ hb)
  · exact h.own.apart b hb hx
end Go.Proofs.Ytillnoeailnnfab
