/- Several texts of mine, laid together. No statement of the seat is proved here. -/
import Derived.Test.YtillnoeailnnfabTallyB
import Derived.Test.YtillnoeailnnfabArrEq
import Derived.Test.YtillnoeailnnfabSkOk
import Derived.Deep.RegionHeld3
import Derived.Deep.AppendLies
import Derived.Test.YtillnoeailnnfabSkSame
import Derived.Test.YtillnoeailnnfabSkLaw
import Derived.Test.YtillnoeailnnfabSpImplA
import Derived.Maps.AppendAt
import Derived.BigRegion
import Derived.Laws.StructEq
import Derived.Test.YtillnoeailnnfabItModel
import Derived.Test.YtillnoeailnnfabLstCopy
import Derived.Test.YtillnoeailnnfabBase
import Derived.Deep.RegionLaw
/- Two rows of numbers of the program's own kind, compared; a summary that is right. No statement of the seat is proved here. -/
namespace Go.Proofs.Ytillnoeailnnfab
open Go.RowKit
set_option maxRecDepth 200000 in
set_option maxHeartbeats 2000000 in
theorem same_any (xs ys : List Int) (w : World) (hx : xs.length = 28) (hy : ys.length = 28) :
    Calls Try.prog 28 #[.agg (tc xs), .agg (tc ys)] w fun e w' => e = .returned (.bool (decide (xs = ys))) ∧ Below w.heap.size w w' := by
  have HL : Hid (xs.length = 28 ∧ ys.length = 28) := ⟨hx, hy⟩
  have HT : Hid (_ ∧ _ ∧ _) := two_made w (tc xs) (tc ys) 62 62
  obtain ⟨d, hd⟩ : ∃ d, d = decide (xs = ys) := ⟨_, rfl⟩
  rw [← hd]
  have HD : Hid (d = decide (xs = ys)) := hd
  obtain ⟨x0, hx0⟩ : ∃ x, x = xs.getD 0 0 := ⟨_, rfl⟩
  obtain ⟨x1, hx1⟩ : ∃ x, x = xs.getD 1 0 := ⟨_, rfl⟩
  obtain ⟨x2, hx2⟩ : ∃ x, x = xs.getD 2 0 := ⟨_, rfl⟩
  obtain ⟨x3, hx3⟩ : ∃ x, x = xs.getD 3 0 := ⟨_, rfl⟩
  obtain ⟨y0, hy0⟩ : ∃ x, x = ys.getD 0 0 := ⟨_, rfl⟩
  obtain ⟨y1, hy1⟩ : ∃ x, x = ys.getD 1 0 := ⟨_, rfl⟩
  obtain ⟨y2, hy2⟩ : ∃ x, x = ys.getD 2 0 := ⟨_, rfl⟩
  obtain ⟨y3, hy3⟩ : ∃ x, x = ys.getD 3 0 := ⟨_, rfl⟩
  have a0 : (tc xs)[0]? = some (.int .i64 x0) := by rw [hx0]; exact tc_get (by omega)
  have a1 : (tc xs)[1]? = some (.int .i64 x1) := by rw [hx1]; exact tc_get (by omega)
  have a2 : (tc xs)[2]? = some (.int .i64 x2) := by rw [hx2]; exact tc_get (by omega)
  have a3 : (tc xs)[3]? = some (.int .i64 x3) := by rw [hx3]; exact tc_get (by omega)
  have b0 : (tc ys)[0]? = some (.int .i64 y0) := by rw [hy0]; exact tc_get (by omega)
  have b1 : (tc ys)[1]? = some (.int .i64 y1) := by rw [hy1]; exact tc_get (by omega)
  have b2 : (tc ys)[2]? = some (.int .i64 y2) := by rw [hy2]; exact tc_get (by omega)
  have b3 : (tc ys)[3]? = some (.int .i64 y3) := by rw [hy3]; exact tc_get (by omega)
  have HX : Hid ((x0 = xs.getD 0 0 ∧ y0 = ys.getD 0 0) ∧ (x1 = xs.getD 1 0 ∧ y1 = ys.getD 1 0) ∧ (x2 = xs.getD 2 0 ∧ y2 = ys.getD 2 0) ∧ (x3 = xs.getD 3 0 ∧ y3 = ys.getD 3 0)) := ⟨⟨hx0, hy0⟩, ⟨hx1, hy1⟩, ⟨hx2, hy2⟩, ⟨hx3, hy3⟩⟩
  clear hx hy hd hx0 hx1 hx2 hx3 hy0 hy1 hy2 hy3
  go_enter Try.func28, Try.ntmps28
  by_cases q0 : x0 = y0
  rotate_left
  · have q0' : (x0 == y0) = false := by simpa using q0
    have HN : Hid (d = false) := by show d = _; rw [HD.out]; exact dec_false (fun e => q0 (by rw [HX.out.1.1, HX.out.1.2, e]))
    clear q0
    go_wp2
    go_ret
    exact ⟨ret_bool HN.out.symm, HT.out.2.2⟩
  have Q0 : Hid (x0 = y0) := q0
  have q0' : (x0 == y0) = true := by simpa using q0
  clear q0
  by_cases q1 : x1 = y1
  rotate_left
  · have q1' : (x1 == y1) = false := by simpa using q1
    have HN : Hid (d = false) := by show d = _; rw [HD.out]; exact dec_false (fun e => q1 (by rw [HX.out.2.1.1, HX.out.2.1.2, e]))
    clear q1
    go_wp2
    go_ret
    exact ⟨ret_bool HN.out.symm, HT.out.2.2⟩
  have Q1 : Hid (x1 = y1) := q1
  have q1' : (x1 == y1) = true := by simpa using q1
  clear q1
  by_cases q2 : x2 = y2
  rotate_left
  · have q2' : (x2 == y2) = false := by simpa using q2
    have HN : Hid (d = false) := by show d = _; rw [HD.out]; exact dec_false (fun e => q2 (by rw [HX.out.2.2.1.1, HX.out.2.2.1.2, e]))
    clear q2
    go_wp2
    go_ret
    exact ⟨ret_bool HN.out.symm, HT.out.2.2⟩
  have Q2 : Hid (x2 = y2) := q2
  have q2' : (x2 == y2) = true := by simpa using q2
  clear q2
  by_cases q3 : x3 = y3
  rotate_left
  · have q3' : (x3 == y3) = false := by simpa using q3
    have HN : Hid (d = false) := by show d = _; rw [HD.out]; exact dec_false (fun e => q3 (by rw [HX.out.2.2.2.1, HX.out.2.2.2.2, e]))
    clear q3
    go_wp2
    go_ret
    exact ⟨ret_bool HN.out.symm, HT.out.2.2⟩
  have Q3 : Hid (x3 = y3) := q3
  have q3' : (x3 == y3) = true := by simpa using q3
  clear q3
  go_wp2_with (first | go_skip | (with_reducible refine stopLoad 58 rfl ?_))
  refine load_part 58 w.heap.size 4 8 xs 62 _ HT.out.1 rfl rfl rfl Try.underlying58 rfl (by kernel_rfl) (by rw [HL.out.1]; omega) ?_
  go_wp2_with (first | go_skip | (with_reducible refine stopLoad 58 rfl ?_))
  refine load_part 58 (w.heap.size + 1) 4 8 ys 62 _ HT.out.2.1 rfl rfl rfl Try.underlying58 rfl (by kernel_rfl) (by rw [HL.out.2]; omega) ?_
  have hq0 : ∀ w, (Op.equalIn 10000 58 (.agg (tc ((xs.drop 4).take 8))) (.agg (tc ((ys.drop 4).take 8)))).run Try.prog w = .ok (decide ((xs.drop 4).take 8 = (ys.drop 4).take 8)) w := fun w => run_eq_ints w 9998 58 3 8 _ _ Try.underlying58 Try.underlying3 (fun _ => by simp) (by simp; have := HL.out.1; omega) (by simp; have := HL.out.2; omega)
  cases q4 : decide ((xs.drop 4).take 8 = (ys.drop 4).take 8)
  · rw [q4] at hq0
    have HN : Hid (d = false) := by show d = _; rw [HD.out]; exact dec_false (fun e => by rw [e] at q4; simp at q4)
    clear q4
    go_wp2
    go_ret
    exact ⟨ret_bool HN.out.symm, HT.out.2.2⟩
  rw [q4] at hq0
  have Q4 : Hid ((xs.drop 4).take 8 = (ys.drop 4).take 8) := (show (xs.drop 4).take 8 = (ys.drop 4).take 8 from of_decide_eq_true q4)
  clear q4
  go_wp2_with (first | go_skip | (with_reducible refine stopLoad 58 rfl ?_))
  refine load_part 58 w.heap.size 12 8 xs 62 _ HT.out.1 rfl rfl rfl Try.underlying58 rfl (by kernel_rfl) (by rw [HL.out.1]; omega) ?_
  go_wp2_with (first | go_skip | (with_reducible refine stopLoad 58 rfl ?_))
  refine load_part 58 (w.heap.size + 1) 12 8 ys 62 _ HT.out.2.1 rfl rfl rfl Try.underlying58 rfl (by kernel_rfl) (by rw [HL.out.2]; omega) ?_
  have hq1 : ∀ w, (Op.equalIn 10000 58 (.agg (tc ((xs.drop 12).take 8))) (.agg (tc ((ys.drop 12).take 8)))).run Try.prog w = .ok (decide ((xs.drop 12).take 8 = (ys.drop 12).take 8)) w := fun w => run_eq_ints w 9998 58 3 8 _ _ Try.underlying58 Try.underlying3 (fun _ => by simp) (by simp; have := HL.out.1; omega) (by simp; have := HL.out.2; omega)
  cases q5 : decide ((xs.drop 12).take 8 = (ys.drop 12).take 8)
  · rw [q5] at hq1
    have HN : Hid (d = false) := by show d = _; rw [HD.out]; exact dec_false (fun e => by rw [e] at q5; simp at q5)
    clear q5
    go_wp2
    go_ret
    exact ⟨ret_bool HN.out.symm, HT.out.2.2⟩
  rw [q5] at hq1
  have Q5 : Hid ((xs.drop 12).take 8 = (ys.drop 12).take 8) := (show (xs.drop 12).take 8 = (ys.drop 12).take 8 from of_decide_eq_true q5)
  clear q5
  go_wp2_with (first | go_skip | (with_reducible refine stopLoad 60 rfl ?_))
  refine load_part 60 w.heap.size 20 8 xs 62 _ HT.out.1 rfl rfl rfl Try.underlying60 rfl (by kernel_rfl) (by rw [HL.out.1]; omega) ?_
  go_wp2_with (first | go_skip | (with_reducible refine stopLoad 60 rfl ?_))
  refine load_part 60 (w.heap.size + 1) 20 8 ys 62 _ HT.out.2.1 rfl rfl rfl Try.underlying60 rfl (by kernel_rfl) (by rw [HL.out.2]; omega) ?_
  have hq2 : ∀ w, (Op.equalIn 10000 60 (.agg (tc ((xs.drop 20).take 8))) (.agg (tc ((ys.drop 20).take 8)))).run Try.prog w = .ok (decide ((xs.drop 20).take 8 = (ys.drop 20).take 8)) w := fun w => run_eq_rows w 9997 60 59 3 _ _ Try.underlying60 Try.underlying59 Try.underlying3 (fun _ => by simp) (fun _ => by simp) (by simp; have := HL.out.1; omega) (by simp; have := HL.out.2; omega)
  cases q6 : decide ((xs.drop 20).take 8 = (ys.drop 20).take 8)
  · rw [q6] at hq2
    have HN : Hid (d = false) := by show d = _; rw [HD.out]; exact dec_false (fun e => by rw [e] at q6; simp at q6)
    clear q6
    go_wp2
    go_ret
    exact ⟨ret_bool HN.out.symm, HT.out.2.2⟩
  rw [q6] at hq2
  have Q6 : Hid ((xs.drop 20).take 8 = (ys.drop 20).take 8) := (show (xs.drop 20).take 8 = (ys.drop 20).take 8 from of_decide_eq_true q6)
  clear q6
  have HN : Hid (d = true) := by show d = _; rw [HD.out]; exact dec_true (eq28 HL.out.1 HL.out.2 (by rw [← HX.out.1.1, ← HX.out.1.2]; exact Q0.out) (by rw [← HX.out.2.1.1, ← HX.out.2.1.2]; exact Q1.out) (by rw [← HX.out.2.2.1.1, ← HX.out.2.2.1.2]; exact Q2.out) (by rw [← HX.out.2.2.2.1, ← HX.out.2.2.2.2]; exact Q3.out) Q4.out Q5.out Q6.out)
  go_wp2
  go_ret
  exact ⟨ret_bool HN.out.symm, HT.out.2.2⟩
end Go.Proofs.Ytillnoeailnnfab
/- The program's look at all numbers of its row. No statement of the seat is proved here. -/
namespace Go.Proofs.Ytillnoeailnnfab
open Go.RowKit
def inB (xs : List Int) : Bool :=
  decide (0 ≤ xs.getD 0 0 ∧ xs.getD 0 0 ≤ 1000000000) && decide (0 ≤ xs.getD 1 0 ∧ xs.getD 1 0 ≤ 1000000000) && decide (0 ≤ xs.getD 2 0 ∧ xs.getD 2 0 ≤ 1000000) && decide (0 ≤ xs.getD 3 0 ∧ xs.getD 3 0 ≤ 1000000) &&
  ((xs.drop 20).take 4).all (okN 1000000000 false) && ((xs.drop 24).take 4).all (okN 1000000000 false) && ((xs.drop 4).take 8).all (okN 1000000000 false) && ((xs.drop 12).take 8).all (okN 17 false)
theorem rdI_tc {W : World} {g off n : Nat} {xs : List Int} {t : TypeId} (h : Blk W g (tc xs) t) (hfit : off + n ≤ xs.length) (hp : 0 < n) : RdI W (some ⟨g, off, none⟩) n ((xs.drop off).take n) [g] := by
  refine ⟨by simp; omega, .inr ⟨g, off, hp, rfl, rfl, fun i hi => ?_⟩⟩
  rw [h.cell, tc_get (by omega)]
  simp [hi]
theorem rdI_tc0 {W : World} {g n : Nat} {xs : List Int} {t : TypeId} (h : Blk W g (tc xs) t) (hn : xs.length = n) (hp : 0 < n) : RdI W (some ⟨g, 0, none⟩) n xs [g] := by
  have := rdI_tc h (off := 0) (n := n) (by omega) hp
  rw [List.drop_zero, List.take_of_length_le (by omega)] at this
  exact this
theorem run_index_row {P : Program} (w : World) (t u e : TypeId) (zs : List Int) (i : Int) (n : Nat) (hn : i = n) (h2 : n < 2) (ht : P.underlying t = some (.array 2 u)) (hu : P.underlying u = some (.array 4 e)) (hs : ∀ w, (sizeOf u).run P w = .ok 4 w) :
    (Instr.index t (.agg (tc zs)) (.int .i64 i)).run P w = .ok (.agg (tc ((zs.drop (n * 4)).take 4))) w := by
  have hagg : (isAgg u).run P w = .ok true w := by unfold isAgg; rw [Sem.run_bind, run_underlying hu w]; simp
  subst hn
  have h3 : (0 : Int) ≤ n ∧ (n : Int) < 2 := by omega
  unfold Instr.index part
  simp [asIntOf, run_underlying ht, Sem.run_bind, h3, hs, hagg, tc_extract]
  intro h; omega
end Go.Proofs.Ytillnoeailnnfab
/- A summary that is right, by the program. No statement of the seat is proved here. -/
namespace Go.Proofs.Ytillnoeailnnfab
open Go.RowKit
end Go.Proofs.Ytillnoeailnnfab
/- What the program's row of numbers comes to: right just where the summary is; the sum is the merged summary. No statement of the seat is proved here. -/
namespace Go.Proofs.Ytillnoeailnnfab
open Go.RowKit
/-- A summary whose lists are as long as told, written out. -/
theorem Sk.written {s : Sk} (h : s.shaped = true) : ∃ h0 h1 h2 h3 h4 h5 h6 h7 r0 r1 r2 r3 r4 r5 r6 r7 p0 p1 p2 p3 q0 q1 q2 q3, s = ⟨s.count, s.sum, s.min, s.max, [h0, h1, h2, h3, h4, h5, h6, h7], [r0, r1, r2, r3, r4, r5, r6, r7], [[p0, p1, p2, p3], [q0, q1, q2, q3]]⟩ := by
  obtain ⟨e1, e2, x, y, e3, e4, e5⟩ := Sk.shaped_parts h
  obtain ⟨h0, h1, h2, h3, h4, h5, h6, h7, eh⟩ := len8 e1
  obtain ⟨r0, r1, r2, r3, r4, r5, r6, r7, er⟩ := len8 e2
  obtain ⟨p0, p1, p2, p3, rfl⟩ := len4 e4
  obtain ⟨q0, q1, q2, q3, rfl⟩ := len4 e5
  refine ⟨h0, h1, h2, h3, h4, h5, h6, h7, r0, r1, r2, r3, r4, r5, r6, r7, p0, p1, p2, p3, q0, q1, q2, q3, ?_⟩
  cases s
  simp_all
theorem okL_shape {l : List Int} {n : Nat} {m : Int} {z : Bool} (h : okL l n m z = true) : l.length = n := by
  unfold okL at h; simp at h; exact h.1
theorem Sk.ok_shaped {s : Sk} (h : s.ok = true) : s.shaped = true := by
  unfold Sk.ok okHead okLists at h
  simp only [Bool.and_eq_true, decide_eq_true_eq] at h
  obtain ⟨⟨⟨_, hr⟩, _⟩, ⟨⟨⟨l1, l2⟩, l3⟩, l4⟩⟩ := h
  have e1 := okL_shape l1; have e2 := okL_shape l2; have e3 := okL_shape l3; have e4 := okL_shape l4
  obtain ⟨x, y, e⟩ : ∃ x y, s.rows = [x, y] := by
    match s.rows, hr with
    | [x, y], _ => exact ⟨x, y, rfl⟩
  unfold Sk.shaped
  rw [e] at e3 e4 ⊢
  simp at e3 e4
  simp [e1, e2, e3, e4]
end Go.Proofs.Ytillnoeailnnfab
/- The walks through the model's helpers of a merging. No statement of the seat is proved here. -/
namespace Go.Proofs.Ytillnoeailnnfab
open Go.RowKit
def sumL (xs ys : List Int) : List Int := List.zipWith addN xs ys
theorem sumL_length (xs ys : List Int) (n : Nat) (hx : xs.length = n) (hy : ys.length = n) : (sumL xs ys).length = n := by simp [sumL, hx, hy]
theorem sumL_snoc (xs ys : List Int) (k : Nat) (hx : k < xs.length) (hy : k < ys.length) : (sumL xs ys).take (k + 1) = (sumL xs ys).take k ++ [addN (xs[k]?.getD 0) (ys[k]?.getD 0)] := by
  rw [take_snoc (sumL xs ys) 0 k (by simp [sumL]; omega)]
  simp [sumL, List.getElem?_zipWith, List.getElem?_eq_getElem hx, List.getElem?_eq_getElem hy]
theorem own_grow {w wr w1 : World} {e : TypeId} {v : Value} {n : Nat} {xs : List Value} {o : Obj} (hbel : Below w.heap.size w wr) (hown : wr.ownsRow w.heap.size e 1 v n xs) (hgrow : ((wr.drew).alloc o).grownBy w1 v.ownBlock):
    Below w.heap.size w w1 := by
  have h1 : Below w.heap.size w (wr.drew.alloc o) := (hbel.drew).alloc hbel.size o
  exact h1.grown hgrow (by simp; have := hbel.size; omega) (fun k hk => (hown.lt k hk).1)
theorem rdI_of_own {w : World} {B e n : Nat} {v : Value} {zs : List Int} (h : w.ownsRow B e 1 v n (zs.map (Value.int .i64))) : ∃ a cap F, v = .slice a n cap ∧ RdI w a n zs F ∧ Own B w F := by
  rcases h.2 with ⟨h1, h2⟩ | ⟨g, cap, cur, h1, _⟩
  · subst h2
    exact ⟨none, 0, [], h1, ⟨by simpa using h.1, .inl ⟨rfl, rfl⟩⟩, Own.nil⟩
  · subst h1
    obtain ⟨F, hr, ho, _⟩ := RdI.of_own h
    exact ⟨_, cap, F, rfl, hr, ho⟩
theorem own_empty (w : World) (e : TypeId) : (w.alloc (.cells #[] e)).ownsRow w.heap.size e 1 (.slice (some ⟨w.heap.size, 0, none⟩) 0 0) 0 [] :=
  ⟨rfl, .inr ⟨w.heap.size, 0, #[], rfl, Nat.le_refl _, Blk.made w #[] e, Nat.le_refl _, by simp, rfl, rfl⟩⟩
theorem cell_new1 (w : World) (u : Value) (t : TypeId) : ∀ (j : Nat) (x : Value), [u][j]? = some x → (w.alloc (.cells #[u] t)).cell? ((⟨w.heap.size, 0, none⟩ : Addr).add j) = some x := by
  intro j x hx
  cases j with
  | zero =>
    obtain rfl : u = x := by simpa using hx
    simp [Addr.add]
  | succ j => simp at hx
end Go.Proofs.Ytillnoeailnnfab
/- What the program lays out of its row: a summary in memory of its own. No statement of the seat is proved here. -/
namespace Go.Proofs.Ytillnoeailnnfab
open Go.RowKit
/-- The summary whose numbers these are. -/
def skOf (xs : List Int) : Sk := ⟨xs.getD 0 0, xs.getD 1 0, xs.getD 2 0, xs.getD 3 0, (xs.drop 4).take 8, (xs.drop 12).take 8, [(xs.drop 20).take 4, (xs.drop 24).take 4]⟩
theorem Own.perm {B : Nat} {w : World} {F G : List Nat} (h : Own B w F) (p : F.Perm G) : Own B w G :=
  ⟨p.nodup h.nodup, fun b hb => h.free b (p.mem_iff.2 hb), fun b hb => h.ge b (p.mem_iff.2 hb)⟩
theorem Own.blk {B : Nat} {w : World} {F : List Nat} {g : Nat} {cs : Array Value} {t : TypeId} (h : Own B w F) (b : Blk w g cs t) (hg : g ∉ F) (hB : B ≤ g) : Own B w (F ++ [g]) :=
  h.app ⟨by simp, fun x hx o => by (obtain rfl : x = g := by simpa using hx); exact b.frozen o, fun x hx => by (obtain rfl : x = g := by simpa using hx); exact hB⟩ (fun x hx hx' => hg (by (obtain rfl : x = g := by simpa using hx'); exact hx))
theorem two_rows4 {wx : World} {x2 x3 : Option Addr} {l2 l3 : List Int} {X2 X3 : List Nat} {g : Nat} {j2 j3 : Nat} {t : TypeId} (br : Blk wx g #[.slice x2 4 j2, .slice x3 4 j3] t) (r2 : RdI wx x2 4 l2 X2) (r3 : RdI wx x3 4 l3 X3) : RdII wx (some ⟨g, 0, none⟩) 2 [l2, l3] (g :: (X2 ++ X3)) := by
  refine ⟨rfl, .inr ⟨g, 0, X2 ++ X3, by omega, rfl, rfl, ?_⟩⟩
  show RdM wx [ints l2, ints l3] g 0 (X2 ++ X3)
  rw [RdM]
  refine ⟨_, X2, X3, by rw [br.cell 0]; rfl, rd_ints.2 ⟨_, 4, j2, rfl, r2⟩, ?_, rfl⟩
  rw [RdM]
  exact ⟨_, X3, [], by rw [br.cell 1]; rfl, rd_ints.2 ⟨_, 4, j3, rfl, r3⟩, by simp [RdM], by simp⟩
/-- Four lists that were made one behind the other, and a row of the last two. -/
theorem four_lists {w0 w1 w2 w3 w4 w5 : World} {a1 a2 a3 a4 : Option Addr} {n1 n2 n3 n4 : Nat} {l1 l2 l3 l4 : List Int} {F1 F2 F3 F4 : List Nat} {cs : Array Value} {t : TypeId}
    (r1 : RdI w1 a1 n1 l1 F1) (o1 : Own w0.heap.size w1 F1) (b1 : Below w0.heap.size w0 w1) (r2 : RdI w2 a2 n2 l2 F2) (o2 : Own w1.heap.size w2 F2) (b2 : Below w1.heap.size w1 w2) (r3 : RdI w3 a3 n3 l3 F3) (o3 : Own w2.heap.size w3 F3) (b3 : Below w2.heap.size w2 w3)
    (r4 : RdI w4 a4 n4 l4 F4) (o4 : Own w3.heap.size w4 F4) (b4 : Below w3.heap.size w3 w4) (k : Blk w5 w4.heap.size cs t) (b5 : Below w4.heap.size w4 w5) :
    RdI w5 a1 n1 l1 F1 ∧ RdI w5 a2 n2 l2 F2 ∧ RdI w5 a3 n3 l3 F3 ∧ RdI w5 a4 n4 l4 F4 ∧ Own w0.heap.size w5 (F1 ++ (F2 ++ (w4.heap.size :: (F3 ++ F4)))) := by
  have s1 := b1.size; have s2 := b2.size; have s3 := b3.size; have s4 := b4.size
  have p2 := (o1.below r1.lt b2).join o2 r1.lt s1
  have q1 := r1.below b2
  have l2 : ∀ b ∈ F1 ++ F2, b < w2.heap.size := fun b h => (List.mem_append.1 h).elim (q1.lt b) (r2.lt b)
  have p3 := (p2.below l2 b3).join o3 l2 (by omega)
  have l3 : ∀ b ∈ F1 ++ F2 ++ F3, b < w3.heap.size := fun b h => (List.mem_append.1 h).elim (fun h => by have := l2 b h; omega) (r3.lt b)
  have p4 := (p3.below l3 b4).join o4 l3 (by omega)
  have l4 : ∀ b ∈ F1 ++ F2 ++ F3 ++ F4, b < w4.heap.size := fun b h => (List.mem_append.1 h).elim (fun h => by have := l3 b h; omega) (r4.lt b)
  have p5 := (p4.below l4 b5).blk k (fun h => by have := l4 _ h; omega) (by omega)
  refine ⟨((q1.below b3).below b4).below b5, ((r2.below b3).below b4).below b5, (r3.below b4).below b5, r4.below b5, p5.perm ?_⟩
  rw [List.perm_iff_count]
  intro x
  simp only [List.count_append, List.count_cons, List.count_nil]
  omega
/-- The row lies there, and its four first numbers are these. -/
def SkHeld (g : Nat) (xs : List Int) (x0 x1 x2 x3 : Int) (W : World) : Prop := Blk W g (tc xs) 62 ∧ W.cell? ⟨g, 0, none⟩ = some (.int .i64 x0) ∧ W.cell? ⟨g, 1, none⟩ = some (.int .i64 x1) ∧ W.cell? ⟨g, 2, none⟩ = some (.int .i64 x2) ∧ W.cell? ⟨g, 3, none⟩ = some (.int .i64 x3)
end Go.Proofs.Ytillnoeailnnfab
/- The walks through the program's SketchSame. No statement of the seat is proved here. -/
namespace Go.Proofs.Ytillnoeailnnfab
open Go.RowKit
def numsEq (s t : Sk) : Bool := decide (s.count = t.count ∧ s.sum = t.sum ∧ s.min = t.min ∧ s.max = t.max)
set_option maxRecDepth 200000 in
set_option maxHeartbeats 1000000 in
theorem sameNumbers_any (v u : Value) (s t : Sk) (F G : List Nat) (w : World) (h : RdSk w v s F) (k : RdSk w u t G) :
    Calls Try.prog 29 #[v, u] w fun e w' => e = .returned (.bool (numsEq s t)) ∧ Below w.heap.size w w' := by
  obtain ⟨a1, n1, c1, a2, n2, c2, a3, n3, c3, F1, F2, F3, rfl, _⟩ := h
  obtain ⟨b1, m1, d1, b2, m2, d2, b3, m3, d3, G1, G2, G3, rfl, _⟩ := k
  have HT : Hid (_ ∧ _ ∧ _) := two_made w #[.int .i64 s.count, .int .i64 s.sum, .int .i64 s.min, .int .i64 s.max, .slice a1 n1 c1, .slice a2 n2 c2, .slice a3 n3 c3] #[.int .i64 t.count, .int .i64 t.sum, .int .i64 t.min, .int .i64 t.max, .slice b1 m1 d1, .slice b2 m2 d2, .slice b3 m3 d3] 40 40
  obtain ⟨d, hd⟩ : ∃ d, d = numsEq s t := ⟨_, rfl⟩
  rw [← hd]
  have HD : Hid (d = decide (s.count = t.count ∧ s.sum = t.sum ∧ s.min = t.min ∧ s.max = t.max)) := hd
  clear hd
  go_enter Try.func29, Try.ntmps29
  by_cases q1 : s.count = t.count
  rotate_left
  · have q' : (s.count == t.count) = false := by simpa using q1
    have HN : Hid (d = false) := by show d = _; rw [HD.out]; exact dec_false (fun e => q1 e.1)
    clear q1
    go_wp2
    go_ret
    exact ⟨ret_bool HN.out.symm, HT.out.2.2⟩
  have Q1 : Hid (s.count = t.count) := q1
  have q1' : (s.count == t.count) = true := by simpa using q1
  clear q1
  by_cases q2 : s.sum = t.sum
  rotate_left
  · have q' : (s.sum == t.sum) = false := by simpa using q2
    have HN : Hid (d = false) := by show d = _; rw [HD.out]; exact dec_false (fun e => q2 e.2.1)
    clear q2
    go_wp2
    go_ret
    exact ⟨ret_bool HN.out.symm, HT.out.2.2⟩
  have Q2 : Hid (s.sum = t.sum) := q2
  have q2' : (s.sum == t.sum) = true := by simpa using q2
  clear q2
  by_cases q3 : s.min = t.min
  rotate_left
  · have q' : (s.min == t.min) = false := by simpa using q3
    have HN : Hid (d = false) := by show d = _; rw [HD.out]; exact dec_false (fun e => q3 e.2.2.1)
    clear q3
    go_wp2
    go_ret
    exact ⟨ret_bool HN.out.symm, HT.out.2.2⟩
  have Q3 : Hid (s.min = t.min) := q3
  have q3' : (s.min == t.min) = true := by simpa using q3
  clear q3
  by_cases q4 : s.max = t.max
  rotate_left
  · have q' : (s.max == t.max) = false := by simpa using q4
    have HN : Hid (d = false) := by show d = _; rw [HD.out]; exact dec_false (fun e => q4 e.2.2.2)
    clear q4
    go_wp2
    go_ret
    exact ⟨ret_bool HN.out.symm, HT.out.2.2⟩
  have Q4 : Hid (s.max = t.max) := q4
  have q4' : (s.max == t.max) = true := by simpa using q4
  clear q4
  have HN : Hid (d = true) := by show d = _; rw [HD.out]; exact dec_true ⟨Q1.out, Q2.out, Q3.out, Q4.out⟩
  go_wp2
  go_ret
  exact ⟨ret_bool HN.out.symm, HT.out.2.2⟩
set_option maxRecDepth 200000 in
set_option maxHeartbeats 2000000 in
theorem eqFunc_any (a b : Option Addr) (la lb ca cb : Nat) (xs ys : List (List Int)) (F G : List Nat) (w : World) (ha : RdII w a la xs F) (hb : RdII w b lb ys G) (hla : la ≤ 140737488355328) (hlb : lb ≤ 140737488355328)
    (hxr : ∀ z ∈ xs, z.length ≤ 140737488355328) (hyr : ∀ z ∈ ys, z.length ≤ 140737488355328) :
    Calls Try.prog 41 #[.slice a la ca, .slice b lb cb, .func (.func 40) #[] #[]] w fun e w' => e = .returned (.bool (decide (xs = ys))) ∧ Below w.heap.size w w' := by
  have Hx : Hid (xs.length = la) := ha.length
  have Hy : Hid (ys.length = lb) := hb.length
  have Hxr : Hid (∀ z ∈ xs, z.length ≤ 140737488355328) := hxr
  have Hyr : Hid (∀ z ∈ ys, z.length ≤ 140737488355328) := hyr
  clear hxr hyr
  by_cases hl : la = lb
  · subst hl
    have hbne : ((la : Int) != (la : Int)) = false := by simp
    by_cases h0 : la = 0
    · subst h0
      have ex : xs = [] := List.eq_nil_of_length_eq_zero ha.length
      have ey : ys = [] := List.eq_nil_of_length_eq_zero hb.length
      clear ha hb
      go_enter Try.func41, Try.ntmps41
      go_wp2
      refine wp_loop_rounds 1 ?_
      rw [rounds_succ]
      go_wp2
      go_ret
      exact ⟨ret_bool (by rw [ex, ey]; rfl), Below.refl _ _⟩
    · obtain ⟨b1, o1, F1, rfl, hm1⟩ : ∃ b off F', a = some ⟨b, off, none⟩ ∧ RdM w (xs.map ints) b off F' := by
        rcases ha.cells with h | ⟨b, off, F', _, h1, _, h2⟩
        · exact absurd h.1 h0
        · exact ⟨b, off, F', h1, h2⟩
      obtain ⟨b2, o2, F2, rfl, hm2⟩ : ∃ b' off F', b = some ⟨b', off, none⟩ ∧ RdM w (ys.map ints) b' off F' := by
        rcases hb.cells with h | ⟨b, off, F', _, h1, _, h2⟩
        · exact absurd h.1 h0
        · exact ⟨b, off, F', h1, h2⟩
      have HM1 : Hid (RdM w (xs.map ints) b1 o1 F1) := hm1
      have HM2 : Hid (RdM w (ys.map ints) b2 o2 F2) := hm2
      clear ha hb hm1 hm2
      go_enter Try.func41, Try.ntmps41
      go_wp2
      go_loopw [17] (fun i wr => ∃ k : Nat, k ≤ la ∧ i = .int .i64 k ∧ Hid (xs.take k = ys.take k) ∧ Hid (Below w.heap.size w wr)) (fun i _ => la - (intOf i).toNat)
      case atStart => exact ⟨0, by omega, rfl, rfl, Below.refl _ _⟩
      case round =>
        obtain ⟨k, hk, rfl, HT, HB⟩ := hrel
        by_cases hlt : k < la
        · obtain ⟨a1, n1, c1, G1, hc1, hr1, _⟩ := RdII.row HM1.out Hx.out k hlt
          obtain ⟨a2, n2, c2, G2, hc2, hr2, _⟩ := RdII.row HM2.out Hy.out k hlt
          have hb1 : b1 < w.heap.size := World.block_lt_of_cell? _ _ hc1
          have hb2 : b2 < w.heap.size := World.block_lt_of_cell? _ _ hc2
          have d1 : wr.cell? ⟨b1, o1 + k, none⟩ = some (.slice a1 n1 c1) := (HB.out.cell (by exact hb1)).trans hc1
          have d2 : wr.cell? ⟨b2, o2 + k, none⟩ = some (.slice a2 n2 c2) := (HB.out.cell (by exact hb2)).trans hc2
          have HQ : Hid (RdI w a1 n1 (xs.getD k []) G1 ∧ RdI w a2 n2 (ys.getD k []) G2 ∧ n1 ≤ 140737488355328 ∧ n2 ≤ 140737488355328) := ⟨hr1, hr2, by rw [← hr1.length]; exact Hxr.out _ (mem_getD (by rw [Hx.out]; exact hlt)), by rw [← hr2.length]; exact Hyr.out _ (mem_getD (by rw [Hy.out]; exact hlt))⟩
          clear hr1 hr2 hc1 hc2
          go_wp2_with fail
          refine (slEqual_any a1 a2 n1 n2 c1 c2 _ _ G1 G2 _ (HQ.out.1.below HB.out) (HQ.out.2.1.below HB.out) HQ.out.2.2.1 HQ.out.2.2.2).mono ?_
          rintro e w1 ⟨rfl, hbz⟩
          have HB1 : Hid (Below w.heap.size w w1) := Below.next HB.out hbz
          clear hbz
          cases ee : decide (xs.getD k [] = ys.getD k [])
          · have HE : Hid (¬ xs.getD k [] = ys.getD k []) := (show ¬ xs.getD k [] = ys.getD k [] from of_decide_eq_false ee)
            clear ee
            go_wp2
            go_ret
            exact ⟨ret_bool (neII_of_at HE.out).symm, HB1.out⟩
          · have HE : Hid (xs.take (k + 1) = ys.take (k + 1)) := eqII_step (by rw [Hx.out, Hy.out]) (by rw [Hx.out]; exact hlt) HT.out (of_decide_eq_true ee)
            clear ee
            go_wp2
            go_roundw
            case rel => exact ⟨k + 1, by omega, by go_num, HE, HB1⟩
            case measure => simp [intOf]; omega
        · obtain rfl : k = la := by omega
          go_wp2
          go_ret
          exact ⟨ret_bool (eqII_end Hx.out Hy.out HT.out).symm, HB.out⟩
  · have hbne : ((la : Int) != (lb : Int)) = true := by simp; omega
    have e : decide (xs = ys) = false := by
      rw [decide_eq_false_iff_not]; intro e; subst e; exact hl (Hx.out.symm.trans Hy.out)
    clear ha hb
    go_enter Try.func41, Try.ntmps41
    go_wp2
    go_ret
    exact ⟨ret_bool e.symm, Below.refl _ _⟩
def listsEq (s t : Sk) : Bool := decide (s.hist = t.hist ∧ s.regs = t.regs ∧ s.rows = t.rows)
set_option maxRecDepth 200000 in
set_option maxHeartbeats 2000000 in
theorem sameLists_any (v u : Value) (s t : Sk) (F G : List Nat) (w : World) (h : RdSk w v s F) (k : RdSk w u t G) (hw : s.wide) (kw : t.wide) :
    Calls Try.prog 30 #[v, u] w fun e w' => e = .returned (.bool (listsEq s t)) ∧ Below w.heap.size w w' := by
  obtain ⟨a1, n1, c1, a2, n2, c2, a3, n3, c3, F1, F2, F3, rfl, h1, h2, h3, _⟩ := h
  obtain ⟨b1, m1, d1, b2, m2, d2, b3, m3, d3, G1, G2, G3, rfl, k1, k2, k3, _⟩ := k
  have H1 : Hid (RdI w a1 n1 s.hist F1 ∧ RdI w b1 m1 t.hist G1 ∧ n1 ≤ 140737488355328 ∧ m1 ≤ 140737488355328) := ⟨h1, k1, by rw [← h1.length]; exact hw.hist, by rw [← k1.length]; exact kw.hist⟩
  have H2 : Hid (RdI w a2 n2 s.regs F2 ∧ RdI w b2 m2 t.regs G2 ∧ n2 ≤ 140737488355328 ∧ m2 ≤ 140737488355328) := ⟨h2, k2, by rw [← h2.length]; exact hw.regs, by rw [← k2.length]; exact kw.regs⟩
  have H3 : Hid (RdII w a3 n3 s.rows F3 ∧ RdII w b3 m3 t.rows G3 ∧ n3 ≤ 140737488355328 ∧ m3 ≤ 140737488355328) := ⟨h3, k3, by rw [← h3.length]; exact hw.rows, by rw [← k3.length]; exact kw.rows⟩
  have hn3 : n3 ≤ 140737488355328 := H3.out.2.2.1
  have hm3 : m3 ≤ 140737488355328 := H3.out.2.2.2
  have HW : Hid (s.wide ∧ t.wide) := ⟨hw, kw⟩
  clear h1 h2 h3 k1 k2 k3 hw kw
  have HT : Hid (_ ∧ _ ∧ _) := two_made w #[.int .i64 s.count, .int .i64 s.sum, .int .i64 s.min, .int .i64 s.max, .slice a1 n1 c1, .slice a2 n2 c2, .slice a3 n3 c3] #[.int .i64 t.count, .int .i64 t.sum, .int .i64 t.min, .int .i64 t.max, .slice b1 m1 d1, .slice b2 m2 d2, .slice b3 m3 d3] 40 40
  obtain ⟨d, hd⟩ : ∃ d, d = listsEq s t := ⟨_, rfl⟩
  rw [← hd]
  have HD : Hid (d = decide (s.hist = t.hist ∧ s.regs = t.regs ∧ s.rows = t.rows)) := hd
  clear hd
  go_enter Try.func30, Try.ntmps30
  go_wp2_with fail
  refine (slEqual_any a1 b1 n1 m1 c1 d1 s.hist t.hist F1 G1 _ (H1.out.1.below HT.out.2.2) (H1.out.2.1.below HT.out.2.2) H1.out.2.2.1 H1.out.2.2.2).mono ?_
  rintro e w1 ⟨rfl, hb1⟩
  have HB1 : Hid (Boxes w #[.int .i64 s.count, .int .i64 s.sum, .int .i64 s.min, .int .i64 s.max, .slice a1 n1 c1, .slice a2 n2 c2, .slice a3 n3 c3] #[.int .i64 t.count, .int .i64 t.sum, .int .i64 t.min, .int .i64 t.max, .slice b1 m1 d1, .slice b2 m2 d2, .slice b3 m3 d3] 40 w1) := ⟨HT.out.1.below hb1, HT.out.2.1.below hb1, Below.next HT.out.2.2 hb1⟩
  clear hb1 HT
  cases e5 : decide (s.hist = t.hist)
  · have HN : Hid (d = false) := by show d = _; rw [HD.out]; exact dec_false (fun e => by rw [e.1] at e5; simp at e5)
    clear e5
    go_wp2
    go_ret
    exact ⟨ret_bool HN.out.symm, HB1.out.bel⟩
  have Q5 : Hid (s.hist = t.hist) := (show s.hist = t.hist from of_decide_eq_true e5)
  clear e5
  have x5 := HB1.out.fst.cell 5
  have y5 := HB1.out.snd.cell 5
  simp only [aT, aS, aZ] at x5 y5
  go_wp2_with fail
  refine (slEqual_any a2 b2 n2 m2 c2 d2 s.regs t.regs F2 G2 _ (H2.out.1.below HB1.out.bel) (H2.out.2.1.below HB1.out.bel) H2.out.2.2.1 H2.out.2.2.2).mono ?_
  rintro e w2 ⟨rfl, hb2⟩
  have HB2 : Hid (Boxes w #[.int .i64 s.count, .int .i64 s.sum, .int .i64 s.min, .int .i64 s.max, .slice a1 n1 c1, .slice a2 n2 c2, .slice a3 n3 c3] #[.int .i64 t.count, .int .i64 t.sum, .int .i64 t.min, .int .i64 t.max, .slice b1 m1 d1, .slice b2 m2 d2, .slice b3 m3 d3] 40 w2) := HB1.out.below hb2
  clear hb2 x5 y5 HB1
  cases e6 : decide (s.regs = t.regs)
  · have HN : Hid (d = false) := by show d = _; rw [HD.out]; exact dec_false (fun e => by rw [e.2.1] at e6; simp at e6)
    clear e6
    go_wp2
    go_ret
    exact ⟨ret_bool HN.out.symm, HB2.out.bel⟩
  have Q6 : Hid (s.regs = t.regs) := (show s.regs = t.regs from of_decide_eq_true e6)
  clear e6
  have x6 := HB2.out.fst.cell 6
  have y6 := HB2.out.snd.cell 6
  simp only [aT, aS, aZ] at x6 y6
  go_wp2_with fail
  refine (eqFunc_any a3 b3 n3 m3 c3 d3 s.rows t.rows F3 G3 _ (H3.out.1.below HB2.out.bel) (H3.out.2.1.below HB2.out.bel) hn3 hm3 HW.out.1.row HW.out.2.row).mono ?_
  rintro e w3 ⟨rfl, hb3⟩
  have HB3 : Hid (Below w.heap.size w w3) := Below.next HB2.out.bel hb3
  clear hb3 x6 y6
  obtain ⟨d3', hd3⟩ : ∃ d, d = decide (s.rows = t.rows) := ⟨_, rfl⟩
  rw [← hd3]
  have HN : Hid (d = d3') := by
    show d = _
    rw [HD.out, hd3]
    by_cases e : s.rows = t.rows
    · rw [dec_true e, dec_true ⟨Q5.out, Q6.out, e⟩]
    · rw [dec_false e, dec_false (fun x => e x.2.2)]
  clear hd3
  go_wp2
  go_ret
  exact ⟨ret_bool HN.out.symm, HB3.out⟩
theorem sk_tl {s : Sk} (h : s.shaped = true) : skOf s.tl = s := by
  obtain ⟨h0, h1, h2, h3, h4, h5, h6, h7, r0, r1, r2, r3, r4, r5, r6, r7, p0, p1, p2, p3, q0, q1, q2, q3, e⟩ := Sk.written h
  clear h
  generalize s.count = c at e
  generalize s.sum = sm at e
  generalize s.min = mn at e
  generalize s.max = mx at e
  subst e
  rfl
theorem tl_inj {s t : Sk} (hs : s.shaped = true) (ht : t.shaped = true) : decide (s.tl = t.tl) = decide (s = t) := by
  by_cases e : s = t
  · subst e; simp
  · rw [dec_false e]
    exact dec_false (fun x => e (by rw [← sk_tl hs, ← sk_tl ht, x]))
set_option maxRecDepth 200000 in
set_option maxHeartbeats 4000000 in
theorem sameImpl_any (v u : Value) (s t : Sk) (F G : List Nat) (w : World) (h : RdSk w v s F) (k : RdSk w u t G) (hw : s.wide) (kw : t.wide) :
    Calls Try.prog 19 #[v, u] w fun e w' => e = .returned (.bool (decide (s = t))) ∧ Below w.heap.size w w' := by
  have HH : Hid (RdSk w v s F ∧ RdSk w u t G ∧ s.wide ∧ t.wide) := ⟨h, k, hw, kw⟩
  obtain ⟨cs, rfl, hc7, hc1⟩ := h.cells
  obtain ⟨ds, rfl, hd7, hd1⟩ := k.cells
  have HC : Hid (cs.size = 7 ∧ ds.size = 7) := ⟨hc7, hd7⟩
  have HT : Hid (_ ∧ _ ∧ _) := two_made w cs ds 40 40
  obtain ⟨d, hd⟩ : ∃ d, d = decide (s = t) := ⟨_, rfl⟩
  rw [← hd]
  have HD : Hid (d = decide (s = t)) := hd
  clear h k hw kw hc7 hc1 hd7 hd1 hd
  go_enter Try.func19, Try.ntmps19
  go_wp2_with (first | go_skip | (with_reducible refine stopLoad 40 rfl ?_) | (with_reducible refine stopLoad 62 rfl ?_) | (with_reducible refine stopStore 62 rfl ?_))
  refine load_any 40 w.heap.size cs 40 _ HT.out.1 rfl rfl rfl Try.underlying40 rfl (skSize HC.out.1) ?_
  go_wp2_with fail
  refine (tallyOf_any _ s F _ (HH.out.1.below HT.out.2.2) HH.out.2.2.1).mono ?_
  rintro e w1 ⟨xs, rfl, xl, xe, b1⟩
  have HX : Hid (xs.length = 28 ∧ (s.shaped = true → xs = s.tl)) := ⟨xl, xe⟩
  have HW1 : Hid (Boxes w cs ds 40 w1) := ⟨HT.out.1.below b1, HT.out.2.1.below b1, Below.next HT.out.2.2 b1⟩
  clear xl xe b1 HT
  go_wp2_with (first | go_skip | (with_reducible refine stopLoad 40 rfl ?_) | (with_reducible refine stopLoad 62 rfl ?_) | (with_reducible refine stopStore 62 rfl ?_))
  refine store_fresh 62 w1.heap.size rfl (tc (List.replicate 28 0)) (tc xs) 62 rfl rfl rfl rfl (tallySize HX.out.1) (by rw [tc_size, tc_size, HX.out.1]; rfl) (tc_one _) ?_
  intro W2 hg2 b2
  have HW2 : Hid (Boxes w cs ds 40 W2 ∧ Blk W2 w1.heap.size (tc xs) 62) := ⟨HW1.out.below b2, hg2⟩
  clear hg2 b2 HW1
  go_wp2_with (first | go_skip | (with_reducible refine stopLoad 40 rfl ?_) | (with_reducible refine stopLoad 62 rfl ?_) | (with_reducible refine stopStore 62 rfl ?_))
  refine load_any 40 (w.heap.size + 1) ds 40 _ HW2.out.1.snd rfl rfl rfl Try.underlying40 rfl (skSize HC.out.2) ?_
  go_wp2_with fail
  refine (tallyOf_any _ t G _ (HH.out.2.1.below HW2.out.1.bel) HH.out.2.2.2).mono ?_
  rintro e w3 ⟨ys, rfl, xl, xe, b3⟩
  have HY : Hid (ys.length = 28 ∧ (t.shaped = true → ys = t.tl)) := ⟨xl, xe⟩
  have HW3 : Hid (Boxes w cs ds 40 w3 ∧ Blk w3 w1.heap.size (tc xs) 62) := ⟨HW2.out.1.below b3, HW2.out.2.below b3⟩
  clear xl xe b3 HW2
  go_wp2_with (first | go_skip | (with_reducible refine stopLoad 40 rfl ?_) | (with_reducible refine stopLoad 62 rfl ?_) | (with_reducible refine stopStore 62 rfl ?_))
  refine store_fresh 62 w3.heap.size rfl (tc (List.replicate 28 0)) (tc ys) 62 rfl rfl rfl rfl (tallySize HY.out.1) (by rw [tc_size, tc_size, HY.out.1]; rfl) (tc_one _) ?_
  intro W4 hg4 b4
  have HW4 : Hid (Boxes w cs ds 40 W4 ∧ Blk W4 w1.heap.size (tc xs) 62 ∧ Blk W4 w3.heap.size (tc ys) 62) := ⟨HW3.out.1.below b4, HW3.out.2.below b4, hg4⟩
  clear hg4 b4 HW3
  by_cases both : s.shaped = true ∧ t.shaped = true
  · have HE : Hid (d = decide (xs = ys)) := by show d = _; rw [HD.out, HX.out.2 both.1, HY.out.2 both.2]; exact (tl_inj both.1 both.2).symm
    obtain ⟨sa, sb⟩ := both
    rw [sa, sb]
    clear sa sb
    go_wp2_with (first | go_skip | (with_reducible refine stopLoad 40 rfl ?_) | (with_reducible refine stopLoad 62 rfl ?_) | (with_reducible refine stopStore 62 rfl ?_))
    refine load_any 62 w1.heap.size (tc xs) 62 _ HW4.out.2.1 rfl rfl rfl Try.underlying62 rfl (tallySize HX.out.1) ?_
    go_wp2_with (first | go_skip | (with_reducible refine stopLoad 40 rfl ?_) | (with_reducible refine stopLoad 62 rfl ?_) | (with_reducible refine stopStore 62 rfl ?_))
    refine load_any 62 w3.heap.size (tc ys) 62 _ HW4.out.2.2 rfl rfl rfl Try.underlying62 rfl (tallySize HY.out.1) ?_
    go_wp2_with fail
    refine (same_any xs ys _ HX.out.1 HY.out.1).mono ?_
    rintro e w5 ⟨rfl, b5⟩
    have HB5 : Hid (Below w.heap.size w w5) := Below.next HW4.out.1.bel b5
    rw [← HE.out]
    clear b5
    go_wp2
    go_ret
    exact ⟨rfl, HB5.out⟩
  · have hb : (s.shaped && t.shaped) = false := by
      cases e1 : s.shaped
      · rfl
      · cases e2 : t.shaped
        · rfl
        · exact absurd ⟨e1, e2⟩ both
    have rest : ∀ W (_ : W = W4), True := fun _ _ => trivial
    clear both rest
    cases sa : s.shaped
    · clear hb
      go_wp2_with (first | go_skip | (with_reducible refine stopLoad 40 rfl ?_) | (with_reducible refine stopLoad 62 rfl ?_) | (with_reducible refine stopStore 62 rfl ?_))
      refine load_any 40 w.heap.size cs 40 _ HW4.out.1.fst rfl rfl rfl Try.underlying40 rfl (skSize HC.out.1) ?_
      go_wp2_with (first | go_skip | (with_reducible refine stopLoad 40 rfl ?_) | (with_reducible refine stopLoad 62 rfl ?_) | (with_reducible refine stopStore 62 rfl ?_))
      refine load_any 40 (w.heap.size + 1) ds 40 _ HW4.out.1.snd rfl rfl rfl Try.underlying40 rfl (skSize HC.out.2) ?_
      go_wp2_with fail
      refine (sameNumbers_any _ _ s t F G _ (HH.out.1.below HW4.out.1.bel) (HH.out.2.1.below HW4.out.1.bel)).mono ?_
      rintro e w5 ⟨rfl, b5⟩
      have HB5 : Hid (Boxes w cs ds 40 w5) := HW4.out.1.below b5
      clear b5
      cases en : numsEq s t
      · have HN : Hid (d = false) := by show d = _; rw [HD.out]; exact dec_false (fun e => by rw [e] at en; simp [numsEq] at en)
        clear en
        go_wp2
        go_ret
        exact ⟨ret_bool HN.out.symm, HB5.out.bel⟩
      have HN1 : Hid (s.count = t.count ∧ s.sum = t.sum ∧ s.min = t.min ∧ s.max = t.max) := (show s.count = t.count ∧ s.sum = t.sum ∧ s.min = t.min ∧ s.max = t.max from of_decide_eq_true en)
      clear en
      go_wp2_with (first | go_skip | (with_reducible refine stopLoad 40 rfl ?_) | (with_reducible refine stopLoad 62 rfl ?_) | (with_reducible refine stopStore 62 rfl ?_))
      refine load_any 40 w.heap.size cs 40 _ HB5.out.fst rfl rfl rfl Try.underlying40 rfl (skSize HC.out.1) ?_
      go_wp2_with (first | go_skip | (with_reducible refine stopLoad 40 rfl ?_) | (with_reducible refine stopLoad 62 rfl ?_) | (with_reducible refine stopStore 62 rfl ?_))
      refine load_any 40 (w.heap.size + 1) ds 40 _ HB5.out.snd rfl rfl rfl Try.underlying40 rfl (skSize HC.out.2) ?_
      go_wp2_with fail
      refine (sameLists_any _ _ s t F G _ (HH.out.1.below HB5.out.bel) (HH.out.2.1.below HB5.out.bel) HH.out.2.2.1 HH.out.2.2.2).mono ?_
      rintro e w6 ⟨rfl, b6⟩
      have HB6 : Hid (Below w.heap.size w w6) := Below.next HB5.out.bel b6
      clear b6
      obtain ⟨dl, hdl⟩ : ∃ d, d = listsEq s t := ⟨_, rfl⟩
      rw [← hdl]
      have HN : Hid (d = dl) := by
        show d = _
        rw [HD.out, hdl]
        unfold listsEq
        by_cases e : s.hist = t.hist ∧ s.regs = t.regs ∧ s.rows = t.rows
        · rw [dec_true e, dec_true (Sk.eq_of HN1.out.1 HN1.out.2.1 HN1.out.2.2.1 HN1.out.2.2.2 e.1 e.2.1 e.2.2)]
        · rw [dec_false e]; exact dec_false (fun x => e (by rw [x]; exact ⟨rfl, rfl, rfl⟩))
      clear hdl
      go_wp2
      go_ret
      exact ⟨ret_bool HN.out.symm, HB6.out⟩
    · rw [sa] at hb
      have sb : t.shaped = false := by simpa using hb
      rw [sb]
      clear hb sa sb
      go_wp2_with (first | go_skip | (with_reducible refine stopLoad 40 rfl ?_) | (with_reducible refine stopLoad 62 rfl ?_) | (with_reducible refine stopStore 62 rfl ?_))
      refine load_any 40 w.heap.size cs 40 _ HW4.out.1.fst rfl rfl rfl Try.underlying40 rfl (skSize HC.out.1) ?_
      go_wp2_with (first | go_skip | (with_reducible refine stopLoad 40 rfl ?_) | (with_reducible refine stopLoad 62 rfl ?_) | (with_reducible refine stopStore 62 rfl ?_))
      refine load_any 40 (w.heap.size + 1) ds 40 _ HW4.out.1.snd rfl rfl rfl Try.underlying40 rfl (skSize HC.out.2) ?_
      go_wp2_with fail
      refine (sameNumbers_any _ _ s t F G _ (HH.out.1.below HW4.out.1.bel) (HH.out.2.1.below HW4.out.1.bel)).mono ?_
      rintro e w5 ⟨rfl, b5⟩
      have HB5 : Hid (Boxes w cs ds 40 w5) := HW4.out.1.below b5
      clear b5
      cases en : numsEq s t
      · have HN : Hid (d = false) := by show d = _; rw [HD.out]; exact dec_false (fun e => by rw [e] at en; simp [numsEq] at en)
        clear en
        go_wp2
        go_ret
        exact ⟨ret_bool HN.out.symm, HB5.out.bel⟩
      have HN1 : Hid (s.count = t.count ∧ s.sum = t.sum ∧ s.min = t.min ∧ s.max = t.max) := (show s.count = t.count ∧ s.sum = t.sum ∧ s.min = t.min ∧ s.max = t.max from of_decide_eq_true en)
      clear en
      go_wp2_with (first | go_skip | (with_reducible refine stopLoad 40 rfl ?_) | (with_reducible refine stopLoad 62 rfl ?_) | (with_reducible refine stopStore 62 rfl ?_))
      refine load_any 40 w.heap.size cs 40 _ HB5.out.fst rfl rfl rfl Try.underlying40 rfl (skSize HC.out.1) ?_
      go_wp2_with (first | go_skip | (with_reducible refine stopLoad 40 rfl ?_) | (with_reducible refine stopLoad 62 rfl ?_) | (with_reducible refine stopStore 62 rfl ?_))
      refine load_any 40 (w.heap.size + 1) ds 40 _ HB5.out.snd rfl rfl rfl Try.underlying40 rfl (skSize HC.out.2) ?_
      go_wp2_with fail
      refine (sameLists_any _ _ s t F G _ (HH.out.1.below HB5.out.bel) (HH.out.2.1.below HB5.out.bel) HH.out.2.2.1 HH.out.2.2.2).mono ?_
      rintro e w6 ⟨rfl, b6⟩
      have HB6 : Hid (Below w.heap.size w w6) := Below.next HB5.out.bel b6
      clear b6
      obtain ⟨dl, hdl⟩ : ∃ d, d = listsEq s t := ⟨_, rfl⟩
      rw [← hdl]
      have HN : Hid (d = dl) := by
        show d = _
        rw [HD.out, hdl]
        unfold listsEq
        by_cases e : s.hist = t.hist ∧ s.regs = t.regs ∧ s.rows = t.rows
        · rw [dec_true e, dec_true (Sk.eq_of HN1.out.1 HN1.out.2.1 HN1.out.2.2.1 HN1.out.2.2.2 e.1 e.2.1 e.2.2)]
        · rw [dec_false e]; exact dec_false (fun x => e (by rw [x]; exact ⟨rfl, rfl, rfl⟩))
      clear hdl
      go_wp2
      go_ret
      exact ⟨ret_bool HN.out.symm, HB6.out⟩
end Go.Proofs.Ytillnoeailnnfab
/- The walk through the program's laying of spans behind a set that it makes. No statement of the seat is proved here. -/
namespace Go.Proofs.Ytillnoeailnnfab
open Go.RowKit
theorem lay1_apart {o : Sp} {x : Int × Int} (h : o = [] ∨ (o.at (o.length - 1)).2 + 1 < x.1) : lay1 o x = o ++ [x] := by unfold lay1; rw [if_pos h]
theorem lay1_widen {o : Sp} {x : Int × Int} (h : ¬ (o = [] ∨ (o.at (o.length - 1)).2 + 1 < x.1)) : lay1 o x = o.take (o.length - 1) ++ [((o.at (o.length - 1)).1, max (o.at (o.length - 1)).2 x.2)] := by unfold lay1; rw [if_neg h]
theorem lay_drop {o xs : Sp} {k : Nat} (hk : k < xs.length) : lay o (xs.drop k) = lay (lay1 o (xs.at k)) (xs.drop (k + 1)) := by rw [drop_at hk]; rfl
theorem lay1_inb {o : Sp} {x : Int × Int} (h : ∀ p ∈ o, InB p) (hx : InB x) : ∀ p ∈ lay1 o x, InB p := by
  intro p hp
  unfold lay1 at hp
  split at hp
  · rcases List.mem_append.1 hp with hp | hp
    · exact h p hp
    · obtain rfl : p = x := by simpa using hp
      exact hx
  · rename_i hc
    rcases List.mem_append.1 hp with hp | hp
    · exact h p (List.mem_of_mem_take hp)
    · have e : p = ((o.at (o.length - 1)).1, max (o.at (o.length - 1)).2 x.2) := by simpa using hp
      have hne : 0 < o.length := List.length_pos_iff.2 (fun e => hc (.inl e))
      have := h _ (Sp.at_mem (ps := o) (k := o.length - 1) (by omega))
      subst e
      unfold InB at this hx ⊢
      simp only
      omega
theorem lay1_length (o : Sp) (x : Int × Int) : (lay1 o x).length ≤ o.length + 1 := by
  unfold lay1
  split
  · simp
  · simp
theorem lay_length : ∀ (xs o : Sp), (lay o xs).length ≤ o.length + xs.length
  | [], o => by simp [lay]
  | x :: xs, o => by
    have h1 := lay_length xs (lay1 o x)
    have h2 := lay1_length o x
    rw [show lay o (x :: xs) = lay (lay1 o x) xs from rfl]
    simp
    omega
theorem lay_inb : ∀ {xs o : Sp}, (∀ p ∈ o, InB p) → (∀ p ∈ xs, InB p) → ∀ p ∈ lay o xs, InB p
  | [], _, h, _ => h
  | x :: xs, o, h, hx => lay_inb (xs := xs) (lay1_inb h (hx x (by simp))) (fun p hp => hx p (by simp [hp]))
theorem flat_widen {o : Sp} {m : Nat} (hm : o.length = m + 1) (z : Int) : flat (o.take m ++ [((o.at m).1, z)]) = (flat o).set (m * 2 + 1) z := by
  have e : o = o.take m ++ [o.at m] := by
    have := takeP_succ o m (by omega)
    rw [List.take_of_length_le (by omega)] at this
    exact this
  have hl : (flat (o.take m)).length = m * 2 := by rw [flat_length]; simp; omega
  conv => rhs; rw [e]
  rw [flat_append, flat_append, List.set_append_right (m * 2 + 1) _ (by omega), hl, show m * 2 + 1 - m * 2 = 1 by omega]
  simp [flat]
/-- The set that is made: what it holds, and that nothing else was written since w. -/
structure LayAt (w : World) (B : Nat) (v0 v : Value) (o : Sp) (W : World) : Prop where
  own : W.ownsRow B 52 2 v o.length ((flat o).map (Value.int .i64))
  grown : w.grownBy W v0.ownBlock
  fresh : v.ownBlock = v0.ownBlock ∨ ∀ g, v.ownBlock = some g → w.heap.size ≤ g
theorem LayAt.alloc {w W : World} {B : Nat} {v0 v : Value} {o : Sp} (h : LayAt w B v0 v o W) (ob : Obj) : LayAt w B v0 v o (W.alloc ob) :=
  ⟨h.own.alloc _, ⟨h.grown.os, h.grown.tape, h.grown.output, by have := h.grown.size; simp; omega, fun k hk hne => (Below.heap_alloc W ob k (by have := h.grown.size; omega)).trans (h.grown.block k hk hne)⟩, h.fresh⟩
theorem LayAt.drewN {w W : World} {B : Nat} {v0 v : Value} {o : Sp} (h : LayAt w B v0 v o W) (m : Nat) : LayAt w B v0 v o (W.drewN m) :=
  ⟨⟨h.own.1, h.own.2⟩, ⟨h.grown.os, h.grown.tape, h.grown.output, h.grown.size, h.grown.block⟩, h.fresh⟩
theorem LayAt.app {w W W6 : World} {B : Nat} {v0 v v' : Value} {o : Sp} {p q : Int} {ob : Obj} (h : LayAt w B v0 v o W) (hown : W6.ownsRow B 52 2 v' (o.length + 1) ((flat o).map (Value.int .i64) ++ [.int .i64 p, .int .i64 q])) (hgrow : (W.alloc ob).grownBy W6 v.ownBlock) (hob : v'.ownBlock = v.ownBlock ∨ v'.ownBlock = some (W.alloc ob).heap.size) : LayAt w B v0 v' (o ++ [(p, q)]) W6 := by
  have ha := h.alloc ob
  refine ⟨?_, ⟨hgrow.os.trans ha.grown.os, hgrow.tape.trans ha.grown.tape, hgrow.output.trans ha.grown.output, Nat.le_trans ha.grown.size hgrow.size, fun k hk hne => ?_⟩, ?_⟩
  · rw [flat_append, List.map_append, List.length_append]
    exact hown
  · refine (hgrow.block k (Nat.lt_of_lt_of_le hk ha.grown.size) (fun e => ?_)).trans (ha.grown.block k hk hne)
    rcases h.fresh with f | f
    · exact hne (e.trans f)
    · have := f k e.symm; omega
  · rcases hob with e | e
    · rw [e]; exact h.fresh
    · right
      intro g hg
      rw [e] at hg
      cases hg
      exact ha.grown.size
theorem LayAt.widen {w W : World} {B g n cap m : Nat} {v0 : Value} {o : Sp} (h : LayAt w B v0 (.slice (some ⟨g, 0, none⟩) n cap) o W) (hm : o.length = m + 1) (z : Int) : LayAt w B v0 (.slice (some ⟨g, 0, none⟩) n cap) (o.take m ++ [((o.at m).1, z)]) (W.setCell ⟨g, m * 2 + 1, none⟩ (.int .i64 z)) := by
  refine ⟨?_, ⟨h.grown.os, h.grown.tape, h.grown.output, by have := h.grown.size; simp; omega, fun k hk hne => ?_⟩, h.fresh⟩
  · have hl : (o.take m ++ [((o.at m).1, z)]).length = o.length := by simp; omega
    rw [hl, flat_widen hm]
    refine ⟨by have := h.own.1; simpa using this, ?_⟩
    rcases h.own.2 with ⟨e, _⟩ | ⟨g', cap', cur, e, h2, h3, h4, h5, h6, h7⟩
    · cases e
    · cases e
      refine .inr ⟨g, cap, cur.setIfInBounds (m * 2 + 1) (.int .i64 z), rfl, h2, ?_, h4, h5, by simpa using h6, ?_⟩
      · exact Blk.set (w := W) (g := g) (cs := cur) h3 (m * 2 + 1) _
      · rw [Array.toList_setIfInBounds, List.take_set, h7]
        simp
  · have hg : k ≠ g := by
      rintro rfl
      rcases h.fresh with f | f
      · exact hne f
      · have := f k rfl; omega
    exact (Below.heap_setCell W ⟨g, m * 2 + 1, none⟩ _ k hg).trans (h.grown.block k hk hne)
theorem LayAt.cells {w W : World} {B g n cap : Nat} {v0 : Value} {o : Sp} (h : LayAt w B v0 (.slice (some ⟨g, 0, none⟩) n cap) o W) {m : Nat} (hm : m < o.length) : W.cell? ⟨g, m * 2, none⟩ = some (.int .i64 (o.at m).1) ∧ W.cell? ⟨g, m * 2 + 1, none⟩ = some (.int .i64 (o.at m).2) ∧ ∀ j, W.frozen? ⟨g, j, none⟩ = false := by
  have hn : o.length = n := by
    rcases h.own.2 with ⟨e, _⟩ | ⟨g', cap', cur, e, _⟩
    · cases e
    · cases e; rfl
  have own := h.own
  rw [hn] at own
  have hl := flat_length o
  have e1 := own.cellAt (m * 2) (by omega)
  have e2 := own.cellAt (m * 2 + 1) (by omega)
  refine ⟨?_, ?_, fun j => own.frozenAt j⟩
  · rw [e1]
    have := flat_lo o m
    rw [show 2 * m = m * 2 by omega, List.getElem?_eq_getElem (by omega)] at this
    simp only [List.getElem?_map, List.getElem?_eq_getElem (show m * 2 < (flat o).length by omega), Option.map_some]
    unfold Sp.at
    rw [← this]; rfl
  · rw [e2]
    have := flat_hi o m
    rw [show 2 * m = m * 2 by omega, List.getElem?_eq_getElem (by omega)] at this
    simp only [List.getElem?_map, List.getElem?_eq_getElem (show m * 2 + 1 < (flat o).length by omega), Option.map_some]
    unfold Sp.at
    rw [← this]; rfl
end Go.Proofs.Ytillnoeailnnfab
/- The walk through the program's laying of spans behind a set that it makes. No statement of the seat is proved here. -/
namespace Go.Proofs.Ytillnoeailnnfab
open Go.RowKit
/-- A set of the maker's own: not nil. -/
theorem own_cases {W : World} {B e n : Nat} {v : Value} {xs : List Value} (h : W.ownsRow B e 2 v n xs) : (v = .slice none 0 0 ∧ n = 0) ∨ ∃ g cap n', v = .slice (some ⟨g, 0, none⟩) n' cap ∧ n' = n ∧ n ≤ cap := by
  rcases h.2 with e | ⟨g, cap, cur, e, _, _, h4, _⟩
  · exact .inl e
  · exact .inr ⟨g, cap, n, e, rfl, h4⟩
end Go.Proofs.Ytillnoeailnnfab
/- The walks through the program's cutting of a set, and its going through two sets. No statement of the seat is proved here. -/
namespace Go.Proofs.Ytillnoeailnnfab
open Go.RowKit
theorem flat_take : ∀ (ps : Sp) (k : Nat), flat (ps.take k) = (flat ps).take (2 * k)
  | [], k => by simp [flat]
  | p :: ps, 0 => by simp [flat]
  | p :: ps, k + 1 => by rw [List.take_succ_cons, flat, flat, flat_take ps k, show 2 * (k + 1) = 2 * k + 1 + 1 by omega, List.take_succ_cons, List.take_succ_cons]
theorem flat_drop : ∀ (ps : Sp) (k : Nat), flat (ps.drop k) = (flat ps).drop (2 * k)
  | [], k => by simp [flat]
  | p :: ps, 0 => by simp [flat]
  | p :: ps, k + 1 => by rw [List.drop_succ_cons, flat, flat_drop ps k, show 2 * (k + 1) = 2 * k + 1 + 1 by omega, List.drop_succ_cons, List.drop_succ_cons]
theorem RdP.take {w : World} {a : Option Addr} {len : Nat} {ps : Sp} {F : List Nat} (h : RdP w a len ps F) {k : Nat} (hk : k ≤ len) : ∃ G, RdP w a k (ps.take k) G ∧ ∀ b ∈ G, b ∈ F := by
  have hl := h.length
  by_cases h0 : k = 0
  · subst h0
    exact ⟨[], by simpa using (RdP.nil (w := w) (a := a)), by simp⟩
  · rcases h.rd.cells with ⟨e, _⟩ | ⟨b, off, hp, e, eF, hc⟩
    · omega
    · refine ⟨F, ⟨by simp; omega, ?_, .inr ⟨b, off, by omega, e, eF, fun i hi => ?_⟩⟩, fun b hb => hb⟩
      · rw [flat_length]; simp; omega
      · rw [hc i (by omega), flat_take]
        simp [List.getD_eq_getElem?_getD, hi]
theorem RdP.drop {w : World} {b off len : Nat} {ps : Sp} {F : List Nat} (h : RdP w (some ⟨b, off, none⟩) len ps F) {k : Nat} (hk : k < len) : RdP w (some ⟨b, off + k * 2, none⟩) (len - k) (ps.drop k) F := by
  have hl := h.length
  rcases h.rd.cells with ⟨e, _⟩ | ⟨b', off', hp, e, eF, hc⟩
  · omega
  · obtain ⟨rfl, rfl⟩ : b = b' ∧ off = off' := by simpa using e
    refine ⟨by simp; omega, ?_, .inr ⟨b, off + k * 2, by omega, rfl, eF, fun i hi => ?_⟩⟩
    · rw [flat_length]; simp; omega
    · rw [show off + k * 2 + i = off + (2 * k + i) by omega, hc (2 * k + i) (by omega), flat_drop]
      simp [List.getD_eq_getElem?_getD]
theorem cutN_at {ps : Sp} {k : Nat} {n : Int} (hk : k < ps.length) (h : (ps.at k).1 ≤ n) : cutN (ps.drop k) n = cutN (ps.drop (k + 1)) n + 1 := by rw [drop_at hk, cutN, if_pos h]
theorem cutN_stop {ps : Sp} {k : Nat} {n : Int} (hk : k < ps.length) (h : ¬ (ps.at k).1 ≤ n) : cutN (ps.drop k) n = 0 := by rw [drop_at hk, cutN, if_neg h]
/-- What a cut tells: the part ahead, the part behind, both out of what was there. -/
def CutTo (w : World) (ps : Sp) (F : List Nat) (k : Nat) (e : Ending) (w' : World) : Prop :=
  ∃ a1 l1 c1 a2 l2 c2 F1 F2, e = .returned (.tuple #[.slice a1 l1 c1, .slice a2 l2 c2]) ∧ RdP w a1 l1 (ps.take k) F1 ∧ RdP w a2 l2 (ps.drop k) F2 ∧ (∀ b ∈ F1, b ∈ F) ∧ (∀ b ∈ F2, b ∈ F) ∧ l2 ≤ c2 ∧ QuietTo w w'
end Go.Proofs.Ytillnoeailnnfab
/- The walk through the program's going through two sets. No statement of the seat is proved here. -/
namespace Go.Proofs.Ytillnoeailnnfab
open Go.RowKit
theorem RdP.move {w W : World} {B : Nat} {a : Option Addr} {len : Nat} {ps : Sp} {F : List Nat} (h : RdP w a len ps F) (hF : ∀ b ∈ F, b < B) (h1 : Below B w W) : RdP W a len ps F := h.agree (fun b hb => h1.block b (hF b hb))
theorem RdP.back {w W : World} {B : Nat} {a : Option Addr} {len : Nat} {ps : Sp} {F : List Nat} (h : RdP W a len ps F) (hF : ∀ b ∈ F, b < B) (h1 : Below B w W) : RdP w a len ps F := h.agree (fun b hb => (h1.block b (hF b hb)).symm)
theorem LayAt.below {w W : World} {B n : Nat} {v0 v : Value} {o : Sp} {xs : List Value} (h : LayAt w B v0 v o W) (h0 : w.ownsRow B 52 2 v0 n xs) (hB : B ≤ w.heap.size) : Below B w W :=
  ⟨h.grown.os, h.grown.tape, h.grown.output, h.grown.size, fun k hk => h.grown.block k (by omega) (fun e => by have := (h0.lt k e.symm).1; omega)⟩
/-- Midway in a round: the set that is made, the span's box. -/
structure MidB (w : World) (nb : Nat) (x y : Int) (v : Value) (o : Sp) (W : World) : Prop where
  own : W.ownsRow w.heap.size 52 2 v o.length ((flat o).map (Value.int .i64))
  bel : Below w.heap.size w W
  box : Blk W nb #[.int .i64 x, .int .i64 y] 52
  ne : some nb ≠ v.ownBlock
theorem MidB.alloc {w : World} {nb : Nat} {x y : Int} {v : Value} {o : Sp} {W : World} (h : MidB w nb x y v o W) (ob : Obj) : MidB w nb x y v o (W.alloc ob) := ⟨h.own.alloc _, Below.allocW _ h.bel (Nat.le_refl _), h.box.alloc _, h.ne⟩
theorem MidB.drew {w : World} {nb : Nat} {x y : Int} {v : Value} {o : Sp} {W : World} (h : MidB w nb x y v o W) : MidB w nb x y v o W.drew := ⟨⟨h.own.1, h.own.2⟩, h.bel.drew, h.box, h.ne⟩
/-- Behind the first laying: what lay beside lies there still. -/
structure AftB (w : World) (nb : Nat) (x y : Int) (v v' : Value) (o' : Sp) (W W' : World) : Prop where
  mid : MidB w nb x y v' o' W'
  old : ∀ g cs t, Blk W g cs t → some g ≠ v.ownBlock → Blk W' g cs t ∧ some g ≠ v'.ownBlock
theorem AftB.of {w : World} {nb : Nat} {x y : Int} {v v' : Value} {o o' : Sp} {W W' : World} (h : MidB w nb x y v o W) (k : LayAt W w.heap.size v v' o' W') : AftB w nb x y v v' o' W W' := by
  have hold : ∀ g cs t, Blk W g cs t → some g ≠ v.ownBlock → Blk W' g cs t ∧ some g ≠ v'.ownBlock := fun g cs t hb hne => by
    refine ⟨hb.agree (k.grown.block g hb.lt hne), ?_⟩
    rcases k.fresh with e | e
    · rw [e]; exact hne
    · intro e2; have := e g e2.symm; have := hb.lt; omega
  obtain ⟨h1, h2⟩ := hold _ _ _ h.box h.ne
  exact ⟨⟨k.own, h.bel.trans (k.below h.own h.bel.size), h1, h2⟩, hold⟩
/-- Ahead of the second laying: the one span's slice. -/
structure TwoB (w : World) (nb : Nat) (x y : Int) (v' : Value) (o' : Sp) (g : Nat) (W : World) : Prop where
  mid : MidB w nb x y v' o' W
  one : Blk W g #[.int .i64 x, .int .i64 y] 52
  ne : some g ≠ v'.ownBlock
theorem AftB.two {w : World} {nb : Nat} {x y : Int} {v v' : Value} {o o' : Sp} {W W' : World} (h : AftB w nb x y v v' o' (W.alloc (.cells #[.int .i64 x, .int .i64 y] 52)).drew W') (k : MidB w nb x y v o W) : TwoB w nb x y v' o' W.heap.size W' := by
  obtain ⟨h1, h2⟩ := h.old _ _ _ (Blk.made W _ _) (fun e => by have := (k.own.lt _ e.symm).2; omega)
  exact ⟨h.mid, h1, h2⟩
theorem AftB.new {w : World} {nb : Nat} {x y : Int} {v v' : Value} {o' : Sp} {W W' : World} (h : AftB w nb x y v v' o' W W') : TwoB w nb x y v' o' W'.heap.size (W'.alloc (.cells #[.int .i64 x, .int .i64 y] 52)) :=
  ⟨h.mid.alloc _, Blk.made _ _ _, fun e => by have := (h.mid.own.lt _ e.symm).2; omega⟩
theorem rdP_one {W : World} {g : Nat} {x y : Int} {t : TypeId} (h : Blk W g #[.int .i64 x, .int .i64 y] t) : RdP W (some ⟨g, 0, none⟩) 1 [(x, y)] [g] :=
  ⟨rfl, rdI_tcv (xs := flat [(x, y)]) (by simpa [tcv, flat] using h) (by simp [flat]) (by omega)⟩
/-- Ahead of a round. -/
structure BInv (w : World) (ps qs : Sp) (k : Nat) (o rs : Sp) (aa : Option Addr) (la ca : Nat) (F : List Nat) (v : Value) (wr : World) : Prop where
  own : wr.ownsRow w.heap.size 52 2 v o.length ((flat o).map (Value.int .i64))
  bel : Below w.heap.size w wr
  rd : RdP w aa la rs F
  lt : ∀ b ∈ F, b < w.heap.size
  cap : la ≤ ca
  len : o.length + rs.length ≤ ps.length + k
  ino : ∀ p ∈ o, InB p
  ina : ∀ p ∈ rs, InB p
  eq : both rs (qs.drop k) o = both ps qs []
end Go.Proofs.Ytillnoeailnnfab
/- The walks through the program's copying of a set, and the library's comparing of two. No statement of the seat is proved here. -/
namespace Go.Proofs.Ytillnoeailnnfab
open Go.RowKit
theorem run_copy_row2 {P : Program} (w : World) (dT sT ty elem : TypeId) (g len dCap : Nat) (a : Addr) (sCap : Nat) (cur : Array Value) (t : TypeId) (cs : List Value)
    (hu : P.underlying dT = some (.slice elem)) (hs : (P.info? elem).map (·.size) = some 2)
    (hg : w.heap[g]? = some (.cells cur t (0, 0))) (hn : cs.length = len * 2)
    (hsrc : ∀ j v, cs[j]? = some v → w.cell? (a.add j) = some v) (hfit : cs.length ≤ cur.size) (h1 : ∀ v ∈ cs, v.oneCell' = true) :
    (Builtin.copy_ #[dT, sT] ty #[.slice (some ⟨g, 0, none⟩) len dCap, .slice (some a) len sCap]).run P w =
      .ok (goInt len) (w.setRow g (cs ++ cur.toList.drop cs.length).toArray) := by
  have hl := run_loadCells_list (P := P) w a cs hsrc
  have hst := run_storeCells_at P g 0 t cs 0 cur w hg (by simpa using hfit) h1
  rw [hn] at hl
  cases hq : P.info? elem with
  | none => simp [hq] at hs
  | some i =>
    have hi : i.size = 2 := by simpa [hq] using hs
    simp [Builtin.copy_, run_underlying hu, Builtin.lenOf, Builtin.firstCells, sizeOf, typeInfo, hq, hi, hl, hst]
theorem run_copy_none2 {P : Program} (w : World) (dT sT ty elem : TypeId) (d a : Option Addr) (dCap sCap : Nat) (hu : P.underlying dT = some (.slice elem)) (hs : (P.info? elem).map (·.size) = some 2) :
    (Builtin.copy_ #[dT, sT] ty #[.slice d 0 dCap, .slice a 0 sCap]).run P w = .ok (goInt 0) w := by
  cases hq : P.info? elem with
  | none => simp [hq] at hs
  | some i =>
    have hl : ∀ (x : Addr), (loadCells x 0).run P w = .ok #[] w := fun x => by simpa using run_loadCells_list (P := P) w x [] (by simp)
    cases d <;> cases a <;> simp [Builtin.copy_, run_underlying hu, Builtin.lenOf, Builtin.firstCells, sizeOf, typeInfo, hq, storeCells, hl]
theorem wpList_copy_none2 {P : Program} {w : World} {ops : Array Oper} {rest : List Oper} {o : Oper} {a : Act} {Q : Exit → Act → World → Prop} (hgd : o.guard = none) (d s : Operand) (dT sT : TypeId)
    (ho : o.op = .call { callee := .builtin .copy, args := #[d, s], argTypes := #[dT, sT] }) (elem : TypeId) (hu : P.underlying dT = some (.slice elem)) (hsz : (P.info? elem).map (·.size) = some 2)
    (dp sp : Option Addr) (dCap sCap : Nat) (hd : a.eval d = .slice dp 0 dCap) (hs : a.eval s = .slice sp 0 sCap)
    (h : wpList P ops Q rest (a.put o.dst (goInt 0)) w) : wpList P ops Q (o :: rest) a w := by
  refine wpList_plain hgd fun K hK => ?_
  have hrun := run_copy_none2 (P := P) w dT sT o.type elem dp sp dCap sCap hu hsz
  unfold Oper.wp
  simp [execOp, ho, resolve, invoke, builtin, hd, hs, hrun, Result.andThen]
  exact hK _ _ h
theorem wpList_copy_own2 {P : Program} {w : World} {ops : Array Oper} {rest : List Oper} {o : Oper} {a : Act} {Q : Exit → Act → World → Prop} (hgd : o.guard = none) (d s : Operand) (dT sT : TypeId)
    (ho : o.op = .call { callee := .builtin .copy, args := #[d, s], argTypes := #[dT, sT] }) (elem : TypeId) (hu : P.underlying dT = some (.slice elem)) (hsz : (P.info? elem).map (·.size) = some 2)
    (g len dCap : Nat) (ad : Addr) (sCap : Nat) (hd : a.eval d = .slice (some ⟨g, 0, none⟩) len dCap) (hs : a.eval s = .slice (some ad) len sCap)
    (cur : Array Value) (t : TypeId) (hg : w.heap[g]? = some (.cells cur t (0, 0))) (cs : List Value) (hn : cs.length = len * 2)
    (hsrc : ∀ j v, cs[j]? = some v → w.cell? (ad.add j) = some v) (hfit : cs.length ≤ cur.size) (h1 : ∀ v ∈ cs, v.oneCell' = true)
    (h : wpList P ops Q rest (a.put o.dst (goInt len)) (w.setRow g (cs ++ cur.toList.drop cs.length).toArray)) : wpList P ops Q (o :: rest) a w := by
  refine wpList_plain hgd fun K hK => ?_
  have hrun := run_copy_row2 (P := P) w dT sT o.type elem g len dCap ad sCap cur t cs hu hsz hg hn hsrc hfit h1
  unfold Oper.wp
  simp [execOp, ho, resolve, invoke, builtin, hd, hs, hrun, Result.andThen]
  exact hK _ _ h
theorem infoSpan2 : (Try.prog.info? 52).map (·.size) = some 2 := by kernel_rfl
theorem flat_one {ps : Sp} : ∀ v ∈ (flat ps).map (Value.int .i64), v.oneCell' = true := by
  intro v hv
  obtain ⟨x, _, rfl⟩ := List.mem_map.1 hv
  rfl
theorem sp_eta (p : Int × Int) : p = (p.1, p.2) := rfl
set_option maxRecDepth 200000 in
set_option maxHeartbeats 2000000 in
theorem slEqualP_any (a b : Option Addr) (la lb ca cb : Nat) (xs ys : Sp) (F G : List Nat) (w : World) (ha : RdP w a la xs F) (hb : RdP w b lb ys G) (hla : la ≤ 140737488355328) (hlb : lb ≤ 140737488355328) :
    Calls Try.prog 18 #[.slice a la ca, .slice b lb cb] w fun e w' => e = .returned (.bool (decide (xs = ys))) ∧ QuietTo w w' := by
  have Hx : Hid (xs.length = la) := ha.length
  have Hy : Hid (ys.length = lb) := hb.length
  by_cases hl : la = lb
  · subst hl
    have hbne : ((la : Int) != (la : Int)) = false := by simp
    have HCA : Hid (la = 0 ∨ ∃ b1 o1, a = some ⟨b1, o1, none⟩ ∧ b1 < w.heap.size ∧ SpCells w b1 o1 la xs) := cells_of ha
    have HCB : Hid (la = 0 ∨ ∃ b1 o1, b = some ⟨b1, o1, none⟩ ∧ b1 < w.heap.size ∧ SpCells w b1 o1 la ys) := cells_of hb
    clear ha hb
    go_enter Try.func18, Try.ntmps18
    go_wp2
    go_loopw [13] (fun i wr => ∃ k : Nat, k ≤ la ∧ i = .int .i64 k ∧ Hid (xs.take k = ys.take k) ∧ Hid (QuietTo w wr)) (fun i _ => la - (intOf i).toNat)
    case atStart => exact ⟨0, by omega, rfl, rfl, QuietTo.refl _⟩
    case round =>
      obtain ⟨k, hk, rfl, HT, HQ⟩ := hrel
      by_cases hlt : k < la
      · rcases HCA.out with h0 | ⟨b1, o1, rfl, hbw1, hc1⟩
        · omega
        rcases HCB.out with h0 | ⟨b2, o2, rfl, hbw2, hc2⟩
        · omega
        obtain ⟨x, hx⟩ : ∃ x, x = (xs.at k).1 := ⟨_, rfl⟩
        obtain ⟨y, hy⟩ : ∃ x, x = (xs.at k).2 := ⟨_, rfl⟩
        obtain ⟨x', hx'⟩ : ∃ x, x = (ys.at k).1 := ⟨_, rfl⟩
        obtain ⟨y', hy'⟩ : ∃ x, x = (ys.at k).2 := ⟨_, rfl⟩
        have e1 := hc1 k hlt
        have e2 := hc2 k hlt
        rw [← hx, ← hy] at e1
        rw [← hx', ← hy'] at e2
        have d1 : wr.cell? ⟨b1, o1 + k * 2, none⟩ = some (.int .i64 x) := (HQ.out.cell _).trans e1.1
        have d2 : wr.cell? ⟨b1, o1 + k * 2 + 1, none⟩ = some (.int .i64 y) := (HQ.out.cell _).trans e1.2
        have d3 : wr.cell? ⟨b2, o2 + k * 2, none⟩ = some (.int .i64 x') := (HQ.out.cell _).trans e2.1
        have d4 : wr.cell? ⟨b2, o2 + k * 2 + 1, none⟩ = some (.int .i64 y') := (HQ.out.cell _).trans e2.2
        have HE : Hid ((x = x' ∧ y = y') ↔ xs[k]?.getD (0, 0) = ys[k]?.getD (0, 0)) := by rw [hx, hy, hx', hy']; exact Prod.ext_iff.symm
        have hI : (k : Int) < (la : Int) := by omega
        clear e1 e2 hx hy hx' hy' hc1 hc2
        by_cases c : x = x' ∧ y = y'
        · have e1 : (x == x') = true := by simp [c.1]
          have e2 : (y == y') = true := by simp [c.2]
          have HT2 : Hid (xs.take (k + 1) = ys.take (k + 1)) := eqP_step (by rw [Hx.out, Hy.out]) (by rw [Hx.out]; exact hlt) HT.out (HE.out.1 c)
          clear c
          go_wp2
          go_quiet (fail)
          go_wp2
          go_roundw
          case rel => exact ⟨k + 1, by omega, by go_num, HT2, HQ.out.drewN _⟩
          case measure => simp [intOf]; omega
        have HV : Hid (decide (xs = ys) = false) := neP_of_at (fun e => c (HE.out.2 e))
        by_cases c1 : x = x'
        · have e1 : (x == x') = true := by simp [c1]
          have e2 : (y == y') = false := by simpa using (fun e => c ⟨c1, e⟩)
          clear c c1
          go_wp2
          go_quiet (fail)
          go_wp2
          go_ret
          exact ⟨ret_bool HV.out.symm, HQ.out.drewN _⟩
        · have e1 : (x == x') = false := by simpa using c1
          clear c c1
          go_wp2
          go_quiet (fail)
          go_wp2
          go_ret
          exact ⟨ret_bool HV.out.symm, HQ.out.drewN _⟩
      · obtain rfl : k = la := by omega
        go_wp2
        go_ret
        exact ⟨ret_bool (eqP_end Hx.out Hy.out HT.out).symm, HQ.out⟩
  · have hbne : ((la : Int) != (lb : Int)) = true := by simp; omega
    have e : decide (xs = ys) = false := by
      rw [decide_eq_false_iff_not]; intro e; subst e; exact hl (Hx.out.symm.trans Hy.out)
    clear ha hb
    go_enter Try.func18, Try.ntmps18
    go_wp2
    go_ret
    exact ⟨ret_bool e.symm, QuietTo.refl _⟩
end Go.Proofs.Ytillnoeailnnfab
/- The walk through EntrySame. No statement of the seat is proved here. -/
namespace Go.Proofs.Ytillnoeailnnfab
open Go.RowKit
set_option maxRecDepth 200000 in
set_option maxHeartbeats 4000000 in
theorem entrySameImpl_any (v u : Value) (x y : En) (F F' G G' : List Nat) (w : World) (h : RdEn w v x F F') (k : RdEn w u y G G') (hx : x.sk.wide) (hy : y.sk.wide) (hlx : x.ids.length ≤ 2097152) (hly : y.ids.length ≤ 2097152) :
    Calls Try.prog 13 #[v, u] w fun e w' => e = .returned (.bool (decide (x = y))) ∧ Below w.heap.size w w' := by
  obtain ⟨p, l, g, a1, n1, nc1, a2, n2, nc2, a3, n3, nc3, rfl, px, sx, _⟩ := h
  obtain ⟨q, k, j, b1, m1, mc1, b2, m2, mc2, b3, m3, mc3, rfl, py, sy, _⟩ := k
  have HX : Hid (RdSk w (.agg #[.int .i64 x.sk.count, .int .i64 x.sk.sum, .int .i64 x.sk.min, .int .i64 x.sk.max, .slice a1 n1 nc1, .slice a2 n2 nc2, .slice a3 n3 nc3]) x.sk F' ∧ RdSk w (.agg #[.int .i64 y.sk.count, .int .i64 y.sk.sum, .int .i64 y.sk.min, .int .i64 y.sk.max, .slice b1 m1 mc1, .slice b2 m2 mc2, .slice b3 m3 mc3]) y.sk G' ∧ x.sk.wide ∧ y.sk.wide) := ⟨sx, sy, hx, hy⟩
  have HP : Hid (RdP w p l x.ids F ∧ RdP w q k y.ids G ∧ l ≤ 2097152 ∧ k ≤ 2097152) := ⟨px, py, by rw [← px.length]; exact hlx, by rw [← py.length]; exact hly⟩
  have HT : Hid (_ ∧ _ ∧ _) := two_made w #[.int .i64 x.key, .int .i64 x.window, .slice p l g, .int .i64 x.sk.count, .int .i64 x.sk.sum, .int .i64 x.sk.min, .int .i64 x.sk.max, .slice a1 n1 nc1, .slice a2 n2 nc2, .slice a3 n3 nc3] #[.int .i64 y.key, .int .i64 y.window, .slice q k j, .int .i64 y.sk.count, .int .i64 y.sk.sum, .int .i64 y.sk.min, .int .i64 y.sk.max, .slice b1 m1 mc1, .slice b2 m2 mc2, .slice b3 m3 mc3] 42 42
  obtain ⟨d, hd⟩ : ∃ d, d = decide (x = y) := ⟨_, rfl⟩
  rw [← hd]
  have HD : Hid (d = decide (x = y)) := hd
  clear px py sx sy hx hy hlx hly hd
  obtain ⟨W0, hW0⟩ : ∃ W0, W0 = (w.alloc (.cells #[.int .i64 x.key, .int .i64 x.window, .slice p l g, .int .i64 x.sk.count, .int .i64 x.sk.sum, .int .i64 x.sk.min, .int .i64 x.sk.max, .slice a1 n1 nc1, .slice a2 n2 nc2, .slice a3 n3 nc3] 42)).alloc (.cells #[.int .i64 y.key, .int .i64 y.window, .slice q k j, .int .i64 y.sk.count, .int .i64 y.sk.sum, .int .i64 y.sk.min, .int .i64 y.sk.max, .slice b1 m1 mc1, .slice b2 m2 mc2, .slice b3 m3 mc3] 42) := ⟨_, rfl⟩
  have k0 := HT.out.1.cell 0
  have k1 := HT.out.1.cell 1
  have k2 := HT.out.1.cell 2
  have j0 := HT.out.2.1.cell 0
  have j1 := HT.out.2.1.cell 1
  have j2 := HT.out.2.1.cell 2
  simp only [aT, aS, aZ] at k0 k1 k2 j0 j1 j2
  clear hW0 W0
  by_cases c1 : x.key = y.key
  rotate_left
  · have HV : Hid (d = false) := by show d = _; rw [HD.out]; exact dec_false (fun e => c1 (by rw [e]))
    have z1 : (x.key == y.key) = false := by simpa using c1
    clear c1
    go_enter Try.func13, Try.ntmps13
    go_wp2
    go_ret
    exact ⟨ret_bool HV.out.symm, HT.out.2.2⟩
  have z1 : (x.key == y.key) = true := by simpa using c1
  by_cases c2 : x.window = y.window
  rotate_left
  · have HV : Hid (d = false) := by show d = _; rw [HD.out]; exact dec_false (fun e => c2 (by rw [e]))
    have z2 : (x.window == y.window) = false := by simpa using c2
    clear c1 c2
    go_enter Try.func13, Try.ntmps13
    go_wp2
    go_ret
    exact ⟨ret_bool HV.out.symm, HT.out.2.2⟩
  have z2 : (x.window == y.window) = true := by simpa using c2
  have HC : Hid (x.key = y.key ∧ x.window = y.window) := ⟨c1, c2⟩
  clear c1 c2
  go_enter Try.func13, Try.ntmps13
  go_wp2_with fail
  refine (slEqualP_any p q l k g j x.ids y.ids F G _ (HP.out.1.below HT.out.2.2) (HP.out.2.1.below HT.out.2.2) (by have := HP.out.2.2; omega) (by have := HP.out.2.2; omega)).mono ?_
  rintro e w1 ⟨rfl, hq⟩
  have HB1 : Hid (Blk w1 w.heap.size #[.int .i64 x.key, .int .i64 x.window, .slice p l g, .int .i64 x.sk.count, .int .i64 x.sk.sum, .int .i64 x.sk.min, .int .i64 x.sk.max, .slice a1 n1 nc1, .slice a2 n2 nc2, .slice a3 n3 nc3] 42 ∧ Blk w1 (w.heap.size + 1) #[.int .i64 y.key, .int .i64 y.window, .slice q k j, .int .i64 y.sk.count, .int .i64 y.sk.sum, .int .i64 y.sk.min, .int .i64 y.sk.max, .slice b1 m1 mc1, .slice b2 m2 mc2, .slice b3 m3 mc3] 42 ∧ Below w.heap.size w w1) := ⟨HT.out.1.below (quiet_below hq), HT.out.2.1.below (quiet_below hq), Below.next HT.out.2.2 (quiet_below hq)⟩
  clear hq HT k0 k1 k2 j0 j1 j2 z1 z2
  by_cases c3 : x.ids = y.ids
  rotate_left
  · rw [dec_false c3]
    have HV : Hid (d = false) := by show d = _; rw [HD.out]; exact dec_false (fun e => c3 (by rw [e]))
    clear c3
    go_wp2
    go_ret
    exact ⟨ret_bool HV.out.symm, HB1.out.2.2⟩
  rw [dec_true c3]
  have HC3 : Hid (x.ids = y.ids) := c3
  clear c3
  go_wp2_with (first | go_skip | (with_reducible refine stopLoad 40 rfl ?_))
  refine load_cutw 40 w.heap.size 3 7 _ #[.int .i64 x.sk.count, .int .i64 x.sk.sum, .int .i64 x.sk.min, .int .i64 x.sk.max, .slice a1 n1 nc1, .slice a2 n2 nc2, .slice a3 n3 nc3] 42 _ HB1.out.1 rfl rfl rfl Try.underlying40 rfl infoSkI (by simp) rfl ?_
  go_wp2_with (first | go_skip | (with_reducible refine stopLoad 40 rfl ?_))
  refine load_cutw 40 (w.heap.size + 1) 3 7 _ #[.int .i64 y.sk.count, .int .i64 y.sk.sum, .int .i64 y.sk.min, .int .i64 y.sk.max, .slice b1 m1 mc1, .slice b2 m2 mc2, .slice b3 m3 mc3] 42 _ HB1.out.2.1 rfl rfl rfl Try.underlying40 rfl infoSkI (by simp) rfl ?_
  go_wp2_with fail
  refine (sameImpl_any _ _ x.sk y.sk F' G' _ (HX.out.1.below HB1.out.2.2) (HX.out.2.1.below HB1.out.2.2) HX.out.2.2.1 HX.out.2.2.2).mono ?_
  rintro e w2 ⟨rfl, b2⟩
  have HB2 : Hid (Below w.heap.size w w2) := Below.next HB1.out.2.2 b2
  clear b2
  obtain ⟨d2, hd2⟩ : ∃ d, d = decide (x.sk = y.sk) := ⟨_, rfl⟩
  rw [← hd2]
  have HV : Hid (d2 = d) := by
    show _ = _
    rw [hd2, HD.out]
    by_cases e : x.sk = y.sk
    · rw [dec_true e, dec_true (En.eq_of HC.out.1 HC.out.2 HC3.out e)]
    · rw [dec_false e, dec_false (fun q => e (by rw [q]))]
  clear hd2
  go_wp2
  go_ret
  exact ⟨ret_bool HV.out, HB2.out⟩
end Go.Proofs.Ytillnoeailnnfab
/- A slice of structs that grows by appending, element by element. No statement of the seat is proved here. -/
namespace Go.Proofs.Ytillnoeailnnfab
open Go.RowKit
section
variable {α : Type} {K : ElK α} {e : TypeId} {xs : List α} {lo k : Nat} {v : Value} {vs : List Value} {G : List Nat} {W W' : World}
/-- What has been appended behind k rounds. -/
structure GrowL (K : ElK α) (e : TypeId) (xs : List α) (lo k : Nat) (v : Value) (vs : List Value) (G : List Nat) (W : World) : Prop where
  row : W.ownsRow lo e K.n v k vs
  rd : RdC K W (xs.take k) vs G
  og : Own lo W G
  ap : ∀ b, v.ownBlock = some b → b ∉ G
  lw : lo ≤ W.heap.size
theorem GrowL.start (hw : lo ≤ W.heap.size) : GrowL K e xs lo 0 (.slice none 0 0) [] [] W := ⟨World.ownsRow_nil _ _ _ _, by rw [List.take_zero]; exact RdC.nil, Own.nil, (fun b hb => by cases hb), hw⟩
theorem GrowL.below (h : GrowL K e xs lo k v vs G W) (b : Below W.heap.size W W') : GrowL K e xs lo k v vs G W' := by
  refine ⟨?_, h.rd.below b, h.og.below h.rd.lt b, h.ap, Nat.le_trans h.lw b.size⟩
  refine ⟨h.row.1, ?_⟩
  rcases h.row.2 with q | ⟨g, cap, cur, h1, h2, h3, h4⟩
  · exact .inl q
  · refine .inr ⟨g, cap, cur, h1, h2, ?_, h4⟩
    rw [b.block g (h.row.lt g (by rw [h1]; rfl)).2]
    exact h3
theorem GrowL.set {g j : Nat} {u : Value} (h : GrowL K e xs lo k v vs G W) (hg : g < lo) : GrowL K e xs lo k v vs G (W.setCell ⟨g, j, none⟩ u) := by
  have nG : g ∉ G := fun hx => by have := h.og.ge _ hx; omega
  refine ⟨⟨h.row.1, ?_⟩, h.rd.agree (.set nG _ _), h.og.agree (.set nG _ _), h.ap, by simpa using h.lw⟩
  rcases h.row.2 with q | ⟨g', cap, cur, h1, h2, h3, h4⟩
  · exact .inl q
  · exact .inr ⟨g', cap, cur, h1, h2, by rw [Below.heap_setCell W ⟨g, j, none⟩ u g' (by show g' ≠ g; omega)]; exact h3, h4⟩
theorem GrowL.setRow {g : Nat} {ds : Array Value} (h : GrowL K e xs lo k v vs G W) (hg : g < lo) : GrowL K e xs lo k v vs G (W.setRow g ds) := by
  have nG : g ∉ G := fun hx => by have := h.og.ge _ hx; omega
  refine ⟨⟨h.row.1, ?_⟩, h.rd.agree (Agree.row nG _), h.og.agree (Agree.row nG _), h.ap, ?_⟩
  · rcases h.row.2 with q | ⟨g', cap, cur, h1, h2, h3, h4⟩
    · exact .inl q
    · exact .inr ⟨g', cap, cur, h1, h2, by rw [setRow_other W g g' ds (by omega)]; exact h3, h4⟩
  · have := (below_setRow (Below.refl 0 W) (Nat.zero_le g) ds).size
    exact Nat.le_trans h.lw this
theorem GrowL.lts (h : GrowL K e xs lo k v vs G W) : (∀ b ∈ G, b < W.heap.size) ∧ (∀ b, v.ownBlock = some b → b < W.heap.size) ∧ lo ≤ W.heap.size := ⟨h.rd.lt, fun b hb => (h.row.lt b hb).2, h.lw⟩
theorem GrowL.step (h : GrowL K e xs lo k v vs G W) {x : α} {cs : Array Value} {Fk : List Nat} {L g4 cp4 : Nat} (hx : xs[k]? = some x) (rk : K.R W (.agg cs) x Fk) (hn : cs.size = K.n) (ok : Own L W Fk) (ltG : ∀ b ∈ G, b < L) (ltv : ∀ b, v.ownBlock = some b → b < L) (hL : lo ≤ L)
    (hown : W'.ownsRow lo e K.n (.slice (some ⟨g4, 0, none⟩) (k + 1) cp4) (k + 1) (vs ++ cs.toList)) (hgrow : W.grownBy W' v.ownBlock) (hat : v.ownBlock = some g4 ∨ g4 = W.heap.size) :
    GrowL K e xs lo (k + 1) (.slice (some ⟨g4, 0, none⟩) (k + 1) cp4) (vs ++ cs.toList) (G ++ Fk) W' := by
  have blk : ∀ b, b < W.heap.size → ¬ v.ownBlock = some b → W'.heap[b]? = W.heap[b]? := fun b hb hn => hgrow.block b hb (fun e => hn e.symm)
  have agG : Agree W W' G := fun b hb => blk b (h.rd.lt b hb) (fun e => h.ap b e hb)
  have agF : Agree W W' Fk := fun b hb => blk b (K.lt rk b hb) (fun e => by have := ok.ge b hb; have := ltv b e; omega)
  refine ⟨hown, ?_, ?_, ?_, Nat.le_trans h.lw hgrow.size⟩
  · rw [take_snoc_at hx]
    exact (h.rd.agree agG).snoc (K.agree rk agF) hn
  · exact (h.og.agree agG).join (ok.agree agF) ltG hL
  · intro b hb hx
    have hb' : b = g4 := by simpa [Value.ownBlock] using hb.symm
    subst hb'
    rcases hat with q | q
    · rcases List.mem_append.1 hx with hx | hx
      · exact h.ap _ q hx
      · have := ok.ge _ hx; have := ltv _ q; omega
    · rcases List.mem_append.1 hx with hx | hx
      · have := h.rd.lt _ hx; omega
      · have := K.lt rk _ hx; omega
/-- What lies elsewhere stays, where only the growing row is written. -/
theorem GrowL.other (h : GrowL K e xs lo k v vs G W) (hgrow : W.grownBy W' v.ownBlock) {b : Nat} (hb : b < lo) : W'.heap[b]? = W.heap[b]? := hgrow.block b (Nat.lt_of_lt_of_le hb h.lw) (fun e => by have := (h.row.lt b e.symm).1; omega)
theorem GrowL.done (h : GrowL K e xs lo k v vs G W) (hk : xs.length = k) : ∃ a cap F, v = .slice a k cap ∧ RdL K W a k xs F ∧ Own lo W F ∧ Capd a k cap := by
  have rd := h.rd
  rw [List.take_of_length_le (Nat.le_of_eq hk)] at rd
  exact rdL_of_own h.row rd h.og h.ap
/-- The same, and where its blocks lie. -/
theorem GrowL.done2 (h : GrowL K e xs lo k v vs G W) (hk : xs.length = k) : ∃ a cap F, v = .slice a k cap ∧ RdL K W a k xs F ∧ Own lo W F ∧ Capd a k cap ∧ ∀ b ∈ F, v.ownBlock = some b ∨ b ∈ G := by
  have rd := h.rd
  rw [List.take_of_length_le (Nat.le_of_eq hk)] at rd
  have hr := h.row
  have hl : xs.length = k := hk
  rcases hr.2 with ⟨e1, e2⟩ | ⟨g, cap, cur, e1, h1, h2, h3, h4, h5, h6⟩
  · subst e2
    obtain rfl : xs = [] := List.eq_nil_of_length_eq_zero hl
    exact ⟨_, 0, [], e1, RdL.nil, Own.nil, ⟨fun _ => rfl, Nat.le_refl _⟩, fun b hb => by cases hb⟩
  · by_cases h0 : k = 0
    · subst h0
      obtain rfl : xs = [] := List.eq_nil_of_length_eq_zero hl
      exact ⟨_, cap, [], e1, RdL.zero, Own.nil, ⟨fun e => (by cases e), h3⟩, fun b hb => by cases hb⟩
    · subst e1
      refine ⟨_, cap, g :: G, rfl, ⟨hl, .inr ⟨g, 0, G, by omega, rfl, rfl, rdEls_of 0 rd (fun i hi => ?_)⟩⟩, ⟨?_, fun b hb o => ?_, fun b hb => ?_⟩, ⟨(fun e => by cases e), h3⟩, fun b hb => ?_⟩
      · rw [Nat.zero_add]; exact hr.cellAt i (by rw [← hr.1]; exact hi)
      · exact List.nodup_cons.2 ⟨h.ap g rfl, h.og.nodup⟩
      · rcases List.mem_cons.1 hb with rfl | hb
        · exact hr.frozenAt o
        · exact h.og.free b hb o
      · rcases List.mem_cons.1 hb with rfl | hb
        · exact h1
        · exact h.og.ge b hb
      · rcases List.mem_cons.1 hb with rfl | hb
        · exact .inl rfl
        · exact .inr hb
end
theorem news_lit (w : World) (cs : Array Value) (t : TypeId) : ∀ j u, cs.toList[j]? = some u → (w.alloc (.cells cs t)).cell? ((⟨w.heap.size, 0, none⟩ : Addr).add j) = some u := by
  intro j u hu
  have ea : ((⟨w.heap.size, 0, none⟩ : Addr).add j) = ⟨w.heap.size, j, none⟩ := by simp [Addr.add]; try (intro h; omega)
  rw [ea, (Blk.made w cs t).cell j, ← Array.getElem?_toList]
  exact hu
end Go.Proofs.Ytillnoeailnnfab
/- Where the lists of a summary that is right lie. No statement of the seat is proved here. -/
namespace Go.Proofs.Ytillnoeailnnfab
open Go.RowKit
/-- A summary whose lists are as long as told, and where they lie. -/
structure Shape (w : World) (s : Sk) (a1 a2 : Option Addr) (p po : Nat) (r0 r1 : Option Addr) (k0 k1 : Nat) : Prop where
  hist : ∃ F, RdI w a1 8 s.hist F
  regs : ∃ F, RdI w a2 8 s.regs F
  row0 : ∃ F, RdI w r0 4 (s.rows.getD 0 []) F
  row1 : ∃ F, RdI w r1 4 (s.rows.getD 1 []) F
  cell0 : w.cell? ⟨p, po, none⟩ = some (.slice r0 4 k0)
  cell1 : w.cell? ⟨p, po + 1, none⟩ = some (.slice r1 4 k1)
theorem Shape.below {w w' : World} {s : Sk} {a1 a2 : Option Addr} {p po : Nat} {r0 r1 : Option Addr} {k0 k1 : Nat} (h : Shape w s a1 a2 p po r0 r1 k0 k1) (hb : Below w.heap.size w w') : Shape w' s a1 a2 p po r0 r1 k0 k1 :=
  ⟨h.hist.elim fun F x => ⟨F, x.below hb⟩, h.regs.elim fun F x => ⟨F, x.below hb⟩, h.row0.elim fun F x => ⟨F, x.below hb⟩, h.row1.elim fun F x => ⟨F, x.below hb⟩, (hb.cell (World.block_lt_of_cell? _ _ h.cell0)).trans h.cell0, (hb.cell (World.block_lt_of_cell? _ _ h.cell1)).trans h.cell1⟩
theorem okL_len {l : List Int} {n : Nat} {m : Int} {z : Bool} (h : okL l n m z = true) : l.length = n := by
  unfold okL at h; simp at h; exact h.1
theorem shape_of {w : World} {s : Sk} {a1 a2 a3 : Option Addr} {n1 n2 n3 : Nat} {F1 F2 F3 : List Nat} (h1 : RdI w a1 n1 s.hist F1) (h2 : RdI w a2 n2 s.regs F2) (h3 : RdII w a3 n3 s.rows F3) (hok : s.ok = true) :
    n1 = 8 ∧ n2 = 8 ∧ n3 = 2 ∧ ∃ p po r0 r1 k0 k1, a3 = some ⟨p, po, none⟩ ∧ Shape w s a1 a2 p po r0 r1 k0 k1 := by
  unfold Sk.ok okHead okLists at hok
  simp only [Bool.and_eq_true, decide_eq_true_eq] at hok
  obtain ⟨⟨⟨_, hr⟩, _⟩, ⟨⟨⟨l1, l2⟩, l3⟩, l4⟩⟩ := hok
  have e1 := okL_len l1; have e2 := okL_len l2; have e3 := okL_len l3; have e4 := okL_len l4
  obtain rfl : n1 = 8 := by rw [← h1.length]; exact e1
  obtain rfl : n2 = 8 := by rw [← h2.length]; exact e2
  obtain rfl : n3 = 2 := by rw [← h3.length]; exact hr
  refine ⟨rfl, rfl, rfl, ?_⟩
  rcases h3.cells with ⟨h0, _⟩ | ⟨p, po, F', _, rfl, _, hm⟩
  · omega
  · obtain ⟨r0, m0, k0, G0, x0, q0, _⟩ := RdII.row hm h3.length 0 (by omega)
    obtain ⟨r1, m1, k1, G1, x1, q1, _⟩ := RdII.row hm h3.length 1 (by omega)
    obtain rfl : m0 = 4 := by rw [← q0.length]; exact e3
    obtain rfl : m1 = 4 := by rw [← q1.length]; exact e4
    exact ⟨p, po, r0, r1, k0, k1, rfl, ⟨F1, h1⟩, ⟨F2, h2⟩, ⟨G0, q0⟩, ⟨G1, q1⟩, x0, x1⟩
end Go.Proofs.Ytillnoeailnnfab
/- A call of a Go function that leaves the world as it was, as one step of a region that draws its order. No statement of the seat is proved here. -/
namespace Go.Proofs.Ytillnoeailnnfab
open Go.RowKit
theorem step_call_quiet {P : Program} {ops : Array Oper} {o : Oper} {a : Act} {w : World} {K : Act → World → Prop} {Q : Exit → Act → World → Prop} {E : Prop} (hg : o.guard = none) (f : FuncId) (x y : Operand) (ts : Array TypeId)
    (fn : Func) (hfn : P.funcs[f]? = some fn) (hnm : (fn.name == "runtime.NumGoroutine") = false) (hbd : fn.body.isNone = false) (hop : o.op = Op.call { callee := Callee.value (Operand.func f), args := #[x, y], argTypes := ts }) (v : Value) (hc : Calls P f #[a.eval x, a.eval y] w fun e w' => e = .returned v ∧ w' = w) (hK : K (a.put o.dst v) w) :
    if Region.wanted o (yielded ops a.tmps) = true then Oper.wp P o a w K Q else E := by
  have hw : Region.wanted o (yielded ops a.tmps) = true := by simp [Region.wanted, hg]
  rw [if_pos hw]
  have hnm' : ¬ fn.name = "runtime.NumGoroutine" := by simpa using hnm
  have hbd' : ¬ fn.body = none := by intro e; rw [e] at hbd; cases hbd
  unfold Oper.wp
  simp only [execOp, hop, resolve, invoke, Oper.upon, go_sem]
  simp [callFunc, hfn, hnm', hbd', go_sem]
  simp [Act.eval, go_sem] at hc
  simp [Act.put] at hK
  exact Calls.mono hc (by rintro e w1 ⟨rfl, rfl⟩; exact hK)
end Go.Proofs.Ytillnoeailnnfab
