/- Several texts of mine, laid together. No statement of the seat is proved here. -/
import Derived.Test.YtbmbmnhamogghapB10
import Derived.Test.YtbmbmnhamogghapB6
import Derived.Deep.RegionHeld3
import Derived.Deep.AppendLies
/- The program's look at all numbers of its row. No statement of the seat is proved here. -/
namespace Go.Proofs.Ytbmbmnhamogghap
open Go.RowKit
def inB (xs : List Int) : Bool :=
  decide (0 ≤ xs.getD 0 0 ∧ xs.getD 0 0 ≤ 1000000000) && decide (0 ≤ xs.getD 1 0 ∧ xs.getD 1 0 ≤ 1000000000) && decide (0 ≤ xs.getD 2 0 ∧ xs.getD 2 0 ≤ 1000000) && decide (0 ≤ xs.getD 3 0 ∧ xs.getD 3 0 ≤ 1000000) &&
  ((xs.drop 20).take 4).all (okN 1000000000 false) && ((xs.drop 24).take 4).all (okN 1000000000 false) && ((xs.drop 4).take 8).all (okN 1000000000 false) && ((xs.drop 12).take 8).all (okN 17 false)
theorem rdI_tc {W : World} {g off n : Nat} {xs : List Int} {t : TypeId} (h : Blk W g (tc xs) t) (hfit : off + n ≤ xs.length) (hp : 0 < n) : RdI W (some ⟨g, off, none⟩) n ((xs.drop off).take n) [g] := by
  refine ⟨by simp; omega, .inr ⟨g, off, hp, rfl, rfl, fun i hi => ?_⟩⟩
  rw [h.cell, tc_get (by omega)]
  simp [hi]
theorem rdI_tc0 {W : World} {g n : Nat} {xs : List Int} {t : TypeId} (h : Blk W g (tc xs) t) (hn : xs.length = n) (hp : 0 < n) : RdI W (some ⟨g, 0, none⟩) n xs [g] := by
  have := rdI_tc h (off := 0) (n := n) (by omega) hp
  rw [List.drop_zero, List.take_of_length_le (by omega)] at this
  exact this
theorem run_index_row {P : Program} (w : World) (t u e : TypeId) (zs : List Int) (i : Int) (n : Nat) (hn : i = n) (h2 : n < 2) (ht : P.underlying t = some (.array 2 u)) (hu : P.underlying u = some (.array 4 e)) (hs : ∀ w, (sizeOf u).run P w = .ok 4 w) :
    (Instr.index t (.agg (tc zs)) (.int .i64 i)).run P w = .ok (.agg (tc ((zs.drop (n * 4)).take 4))) w := by
  have hagg : (isAgg u).run P w = .ok true w := by unfold isAgg; rw [Sem.run_bind, run_underlying hu w]; simp
  subst hn
  have h3 : (0 : Int) ≤ n ∧ (n : Int) < 2 := by omega
  unfold Instr.index part
  simp [asIntOf, run_underlying ht, Sem.run_bind, h3, hs, hagg, tc_extract]
  intro h; omega
set_option maxRecDepth 200000 in
set_option maxHeartbeats 2000000 in
theorem inBounds_any (xs : List Int) (w : World) (hx : xs.length = 28) :
    Calls Try.prog 104 #[.agg (tc xs)] w fun e w' => e = .returned (.bool (inB xs)) ∧ Below w.heap.size w w' := by
  have HL : Hid (xs.length = 28) := hx
  have HT : Hid (Blk (w.alloc (.cells (tc xs) 75)) w.heap.size (tc xs) 75 ∧ Below w.heap.size w (w.alloc (.cells (tc xs) 75))) := ⟨Blk.made _ _ _, (Below.refl _ _).alloc (Nat.le_refl _) _⟩
  obtain ⟨d, hd⟩ : ∃ d, d = inB xs := ⟨_, rfl⟩
  rw [← hd]
  have HD : Hid (d = inB xs) := hd
  obtain ⟨x0, hx0⟩ : ∃ x, x = xs.getD 0 0 := ⟨_, rfl⟩
  obtain ⟨x1, hx1⟩ : ∃ x, x = xs.getD 1 0 := ⟨_, rfl⟩
  obtain ⟨x2, hx2⟩ : ∃ x, x = xs.getD 2 0 := ⟨_, rfl⟩
  obtain ⟨x3, hx3⟩ : ∃ x, x = xs.getD 3 0 := ⟨_, rfl⟩
  have a0 : (tc xs)[0]? = some (.int .i64 x0) := by rw [hx0]; exact tc_get (by omega)
  have a1 : (tc xs)[1]? = some (.int .i64 x1) := by rw [hx1]; exact tc_get (by omega)
  have a2 : (tc xs)[2]? = some (.int .i64 x2) := by rw [hx2]; exact tc_get (by omega)
  have a3 : (tc xs)[3]? = some (.int .i64 x3) := by rw [hx3]; exact tc_get (by omega)
  have HX : Hid (x0 = xs.getD 0 0 ∧ x1 = xs.getD 1 0 ∧ x2 = xs.getD 2 0 ∧ x3 = xs.getD 3 0) := ⟨hx0, hx1, hx2, hx3⟩
  clear hx hd hx0 hx1 hx2 hx3
  go_enter Try.func104, Try.ntmps104
  go_wp2_with fail
  refine (inRange_any _ _ _).mono ?_
  rintro e w1 ⟨rfl, hw1⟩
  have hw1' := hw1.symm
  subst hw1'
  clear hw1
  by_cases p0 : 0 ≤ x0 ∧ x0 ≤ 1000000000
  rotate_left
  · rw [dec_false p0]
    have HN : Hid (d = false) := by show d = _; rw [HD.out]; unfold inB; rw [← HX.out.1, dec_false p0]; simp
    clear p0
    go_wp2
    go_ret
    exact ⟨ret_bool HN.out.symm, HT.out.2⟩
  rw [dec_true p0]
  have P0 : Hid (decide (0 ≤ x0 ∧ x0 ≤ 1000000000) = true) := dec_true p0
  clear p0
  go_wp2_with fail
  refine (inRange_any _ _ _).mono ?_
  rintro e w1 ⟨rfl, hw1⟩
  have hw1' := hw1.symm
  subst hw1'
  clear hw1
  by_cases p1 : 0 ≤ x1 ∧ x1 ≤ 1000000000
  rotate_left
  · rw [dec_false p1]
    have HN : Hid (d = false) := by show d = _; rw [HD.out]; unfold inB; rw [← HX.out.2.1, dec_false p1]; simp
    clear p1
    go_wp2
    go_ret
    exact ⟨ret_bool HN.out.symm, HT.out.2⟩
  rw [dec_true p1]
  have P1 : Hid (decide (0 ≤ x1 ∧ x1 ≤ 1000000000) = true) := dec_true p1
  clear p1
  go_wp2_with fail
  refine (inRange_any _ _ _).mono ?_
  rintro e w1 ⟨rfl, hw1⟩
  have hw1' := hw1.symm
  subst hw1'
  clear hw1
  by_cases p2 : 0 ≤ x2 ∧ x2 ≤ 1000000
  rotate_left
  · rw [dec_false p2]
    have HN : Hid (d = false) := by show d = _; rw [HD.out]; unfold inB; rw [← HX.out.2.2.1, dec_false p2]; simp
    clear p2
    go_wp2
    go_ret
    exact ⟨ret_bool HN.out.symm, HT.out.2⟩
  rw [dec_true p2]
  have P2 : Hid (decide (0 ≤ x2 ∧ x2 ≤ 1000000) = true) := dec_true p2
  clear p2
  go_wp2_with fail
  refine (inRange_any _ _ _).mono ?_
  rintro e w1 ⟨rfl, hw1⟩
  have hw1' := hw1.symm
  subst hw1'
  clear hw1
  by_cases p3 : 0 ≤ x3 ∧ x3 ≤ 1000000
  rotate_left
  · rw [dec_false p3]
    have HN : Hid (d = false) := by show d = _; rw [HD.out]; unfold inB; rw [← HX.out.2.2.2, dec_false p3]; simp
    clear p3
    go_wp2
    go_ret
    exact ⟨ret_bool HN.out.symm, HT.out.2⟩
  rw [dec_true p3]
  have P3 : Hid (decide (0 ≤ x3 ∧ x3 ≤ 1000000) = true) := dec_true p3
  clear p3
  go_wp2_with (first | go_skip | (with_reducible refine stopLoad 73 rfl ?_))
  refine load_part 73 w.heap.size 20 8 xs 75 _ HT.out.1 rfl rfl rfl Try.underlying73 rfl (by kernel_rfl) (by rw [HL.out]; omega) ?_
  obtain ⟨A, hA⟩ : ∃ A, A = (xs.drop 20).take 8 := ⟨_, rfl⟩
  rw [← hA]
  obtain ⟨R0, hR0⟩ : ∃ A, A = (xs.drop 20).take 4 := ⟨_, rfl⟩
  obtain ⟨R1, hR1⟩ : ∃ A, A = (xs.drop 24).take 4 := ⟨_, rfl⟩
  have HRE : Hid (R0 = (xs.drop 20).take 4 ∧ R1 = (xs.drop 24).take 4) := ⟨hR0, hR1⟩
  have HRL : Hid (R0.length = 4 ∧ R1.length = 4) := ⟨by rw [hR0]; simp; have := HL.out; omega, by rw [hR1]; simp; have := HL.out; omega⟩
  have i0 : ∀ w, (Instr.index 73 (.agg (tc A)) (.int .i64 0)).run Try.prog w = .ok (.agg (tc R0)) w := fun w => by
    rw [run_index_row w 73 72 3 A 0 0 rfl (by omega) Try.underlying73 Try.underlying72 (fun _ => by simp), hA, hR0]
    simp [List.take_take]
  have i1 : ∀ w, (Instr.index 73 (.agg (tc A)) (.int .i64 1)).run Try.prog w = .ok (.agg (tc R1)) w := fun w => by
    rw [run_index_row w 73 72 3 A 1 1 rfl (by omega) Try.underlying73 Try.underlying72 (fun _ => by simp), hA, hR1]
    rw [List.drop_take, List.drop_drop, List.take_take]
    rfl
  clear hA hR0 hR1
  go_wp2
  refine wp_loop_rounds 3 ?_
  rw [rounds_succ]
  go_wp2_with (first | (with_reducible refine stopStore 72 rfl ?_))
  refine store_fresh 72 (w.heap.size + 1) (by simp) (tc (List.replicate 4 0)) (tc R0) 72 rfl rfl rfl rfl (by rw [tc_size, HRL.out.1]; kernel_rfl) (by rw [tc_size, tc_size, HRL.out.1]; rfl) (tc_one _) ?_
  intro W0 hg0 hb0
  have HB0 : Hid (Below w.heap.size w W0 ∧ Blk W0 w.heap.size (tc xs) 75) := ⟨Below.next HT.out.2 hb0, HT.out.1.below hb0⟩
  have HG0 : Hid (Blk W0 _ (tc R0) 72) := hg0
  clear hg0 hb0
  go_wp2_with fail
  refine (allInRange_any _ 4 _ R0 _ 1000000000 _ (rdI_tc0 HG0.out HRL.out.1 (by omega)) (by omega)).mono ?_
  rintro e w1 ⟨rfl, hw1⟩
  have hw1' := hw1.symm
  subst hw1'
  clear hw1
  cases l0 : R0.all (okN 1000000000 false)
  · have HN : Hid (d = false) := by show d = _; rw [HD.out]; unfold inB; rw [← HRE.out.1, l0]; simp
    clear l0
    go_wp2
    go_ret
    exact ⟨ret_bool HN.out.symm, HB0.out.1⟩
  have L0 : Hid (R0.all (okN 1000000000 false) = true) := l0
  clear l0
  go_wp2_with fail
  rw [rounds_succ]
  go_wp2_with (first | (with_reducible refine stopStore 72 rfl ?_))
  refine store_fresh 72 W0.heap.size rfl (tc (List.replicate 4 0)) (tc R1) 72 rfl rfl rfl rfl (by rw [tc_size, HRL.out.2]; kernel_rfl) (by rw [tc_size, tc_size, HRL.out.2]; rfl) (tc_one _) ?_
  intro W1 hg1 hb1
  have HB1 : Hid (Below w.heap.size w W1 ∧ Blk W1 w.heap.size (tc xs) 75) := ⟨Below.next HB0.out.1 hb1, HB0.out.2.below hb1⟩
  have HG1 : Hid (Blk W1 _ (tc R1) 72) := hg1
  clear hg1 hb1
  go_wp2_with fail
  refine (allInRange_any _ 4 _ R1 _ 1000000000 _ (rdI_tc0 HG1.out HRL.out.2 (by omega)) (by omega)).mono ?_
  rintro e w1 ⟨rfl, hw1⟩
  have hw1' := hw1.symm
  subst hw1'
  clear hw1
  cases l1 : R1.all (okN 1000000000 false)
  · have HN : Hid (d = false) := by show d = _; rw [HD.out]; unfold inB; rw [← HRE.out.2, l1]; simp
    clear l1
    go_wp2
    go_ret
    exact ⟨ret_bool HN.out.symm, HB1.out.1⟩
  have L1 : Hid (R1.all (okN 1000000000 false) = true) := l1
  clear l1
  go_wp2_with fail
  rw [rounds_succ]
  go_wp2_with fail
  refine (allInRange_any _ 8 _ ((xs.drop 4).take 8) _ 1000000000 _ (rdI_tc HB1.out.2 (by have := HL.out; omega) (by omega)) (by omega)).mono ?_
  rintro e w1 ⟨rfl, hw1⟩
  have hw1' := hw1.symm
  subst hw1'
  clear hw1
  cases l2 : ((xs.drop 4).take 8).all (okN 1000000000 false)
  · have HN : Hid (d = false) := by show d = _; rw [HD.out]; unfold inB; rw [l2]; simp
    clear l2
    go_wp2
    go_ret
    exact ⟨ret_bool HN.out.symm, HB1.out.1⟩
  have L2 : Hid (((xs.drop 4).take 8).all (okN 1000000000 false) = true) := l2
  clear l2
  go_wp2_with fail
  refine (allInRange_any _ 8 _ ((xs.drop 12).take 8) _ 17 _ (rdI_tc HB1.out.2 (by have := HL.out; omega) (by omega)) (by omega)).mono ?_
  rintro e w1 ⟨rfl, hw1⟩
  have hw1' := hw1.symm
  subst hw1'
  clear hw1
  obtain ⟨d2, hd2⟩ : ∃ d, d = ((xs.drop 12).take 8).all (okN 17 false) := ⟨_, rfl⟩
  rw [← hd2]
  have HE : Hid (d = d2) := by show d = _; rw [HD.out]; unfold inB; rw [← HX.out.1, ← HX.out.2.1, ← HX.out.2.2.1, ← HX.out.2.2.2, P0.out, P1.out, P2.out, P3.out, ← HRE.out.1, ← HRE.out.2, L0.out, L1.out, L2.out, hd2]; simp
  clear hd2
  go_wp2
  go_ret
  exact ⟨ret_bool HE.out.symm, HB1.out.1⟩
end Go.Proofs.Ytbmbmnhamogghap
/- A summary that is right, by the program. No statement of the seat is proved here. -/
namespace Go.Proofs.Ytbmbmnhamogghap
open Go.RowKit
/-- Whether a summary's numbers, in one row, are right. -/
def okT (s : Sk) (xs : List Int) : Bool := s.shaped && inB xs && (if xs.getD 0 0 = 0 then decide (xs = List.replicate 28 0) else decide (xs.getD 2 0 ≤ xs.getD 3 0))
set_option maxRecDepth 200000 in
set_option maxHeartbeats 2000000 in
theorem okTally_any (v : Value) (s : Sk) (F : List Nat) (w : World) (h : RdSk w v s F) (hw : s.wide) :
    Calls Try.prog 75 #[v] w fun e w' => ∃ xs ys : List Int, e = .returned (.tuple #[.agg (tc ys), .bool (okT s xs)]) ∧ xs.length = 28 ∧ ys.length = 28 ∧ (s.shaped = true → xs = s.tl) ∧ (okT s xs = true → ys = xs) ∧ Below w.heap.size w w' := by
  have HH : Hid (RdSk w v s F ∧ s.wide) := ⟨h, hw⟩
  obtain ⟨a1, n1, c1, a2, n2, c2, a3, n3, c3, F1, F2, F3, rfl, h1, h2, h3, _⟩ := h
  clear h1 h2 h3 hw
  have Z28 := two_made w #[.int .i64 s.count, .int .i64 s.sum, .int .i64 s.min, .int .i64 s.max, .slice a1 n1 c1, .slice a2 n2 c2, .slice a3 n3 c3] (tc (List.replicate 28 0)) 32 75
  have HZ : Hid (_ ∧ _ ∧ _) := Z28
  clear Z28
  go_enter Try.func75, Try.ntmps75
  go_wp2_with fail
  refine (tallyOf_any _ s F _ (HH.out.1.below HZ.out.2.2) HH.out.2).mono ?_
  rintro e w1 ⟨xs, rfl, hxl, hxe, hb1⟩
  have HX : Hid (xs.length = 28 ∧ (s.shaped = true → xs = s.tl)) := ⟨hxl, hxe⟩
  have HB : Hid (Blk w1 (w.heap.size + 1) (tc (List.replicate 28 0)) 75 ∧ Below w.heap.size w w1) := ⟨HZ.out.2.1.below hb1, Below.next HZ.out.2.2 hb1⟩
  clear hb1 HZ hxl hxe
  go_wp2_with (with_reducible refine stopStore 75 rfl ?_)
  refine store_fresh 75 w1.heap.size rfl (tc (List.replicate 28 0)) (tc xs) 75 rfl rfl rfl rfl (tallySize HX.out.1) (by rw [tc_size, tc_size, HX.out.1]; rfl) (tc_one _) ?_
  intro W2 hg2 hb2
  have HG2 : Hid (Blk W2 w1.heap.size (tc xs) 75 ∧ Blk W2 (w.heap.size + 1) (tc (List.replicate 28 0)) 75 ∧ Below w.heap.size w W2) := ⟨hg2, HB.out.1.below hb2, Below.next HB.out.2 hb2⟩
  have hlt : w.heap.size + 1 < w1.heap.size := HB.out.1.lt
  clear hg2 hb2
  obtain ⟨d, hd⟩ : ∃ d, d = okT s xs := ⟨_, rfl⟩
  have HD : Hid (d = okT s xs) := hd
  clear hd
  cases es : s.shaped
  · have HN : Hid (okT s xs = false) := by show _ = false; unfold okT; rw [es]; rfl
    clear es
    go_wp2_with (first | go_skip | (with_reducible refine stopStore 75 rfl ?_))
    refine store_known 75 (w.heap.size + 1) _ (tc (List.replicate 28 0)) 75 HG2.out.2.1 rfl rfl rfl rfl infoTally rfl (tc_one _) ?_
    go_wp2
    refine bodyPost_ret (results_row_tmp Try.results75 _ _ (w.heap.size + 1) _ _ _ _ rfl HG2.out.2.1.setRow Try.underlying75 rfl infoTally) rfl ?_
    exact ⟨xs, List.replicate 28 0, by rw [HN.out]; rfl, HX.out.1, rfl, HX.out.2, fun e => by (rw [HN.out] at e; cases e), below_setRow HG2.out.2.2 (by omega) _⟩
  have ES : Hid (s.shaped = true) := es
  clear es
  go_wp2_with (first | go_skip | (with_reducible refine stopLoad 75 rfl ?_))
  refine load_part 75 w1.heap.size 0 28 xs 75 _ HG2.out.1 rfl rfl rfl Try.underlying75 rfl infoTally (by rw [HX.out.1]; omega) ?_
  rw [List.drop_zero, List.take_of_length_le (Nat.le_of_eq HX.out.1)]
  go_wp2_with fail
  refine (inBounds_any xs _ HX.out.1).mono ?_
  rintro e W3 ⟨rfl, hb3⟩
  have HG3 : Hid (Blk W3 w1.heap.size (tc xs) 75 ∧ Blk W3 (w.heap.size + 1) (tc (List.replicate 28 0)) 75 ∧ Below w.heap.size w W3) := ⟨HG2.out.1.below hb3, HG2.out.2.1.below hb3, Below.next HG2.out.2.2 hb3⟩
  clear hb3
  cases ei : inB xs
  · have HN : Hid (okT s xs = false) := by show _ = false; unfold okT; rw [ES.out, ei]; rfl
    clear ei
    go_wp2_with (first | go_skip | (with_reducible refine stopStore 75 rfl ?_))
    refine store_known 75 (w.heap.size + 1) _ (tc (List.replicate 28 0)) 75 HG3.out.2.1 rfl rfl rfl rfl infoTally rfl (tc_one _) ?_
    go_wp2
    refine bodyPost_ret (results_row_tmp Try.results75 _ _ (w.heap.size + 1) _ _ _ _ rfl HG3.out.2.1.setRow Try.underlying75 rfl infoTally) rfl ?_
    exact ⟨xs, List.replicate 28 0, by rw [HN.out]; rfl, HX.out.1, rfl, HX.out.2, fun e => by (rw [HN.out] at e; cases e), below_setRow HG3.out.2.2 (by omega) _⟩
  have EI : Hid (inB xs = true) := ei
  clear ei
  obtain ⟨x0, hx0⟩ : ∃ x, x = xs.getD 0 0 := ⟨_, rfl⟩
  obtain ⟨x2, hx2⟩ : ∃ x, x = xs.getD 2 0 := ⟨_, rfl⟩
  obtain ⟨x3, hx3⟩ : ∃ x, x = xs.getD 3 0 := ⟨_, rfl⟩
  have c0 : W3.cell? ⟨w1.heap.size, 0, none⟩ = some (.int .i64 x0) := by rw [HG3.out.1.cell, hx0]; exact tc_get (by rw [HX.out.1]; omega)
  have HC : Hid (∀ W, Blk W w1.heap.size (tc xs) 75 → W.cell? ⟨w1.heap.size, 2, none⟩ = some (.int .i64 x2) ∧ W.cell? ⟨w1.heap.size, 3, none⟩ = some (.int .i64 x3)) := fun W b => ⟨by rw [b.cell, hx2]; exact tc_get (by rw [HX.out.1]; omega), by rw [b.cell, hx3]; exact tc_get (by rw [HX.out.1]; omega)⟩
  have HXE : Hid (x0 = xs.getD 0 0 ∧ x2 = xs.getD 2 0 ∧ x3 = xs.getD 3 0) := ⟨hx0, hx2, hx3⟩
  clear hx0 hx2 hx3
  by_cases q0 : x0 = 0
  rotate_left
  · have q0' : (x0 == 0) = false := by simpa using q0
    have HV : Hid (okT s xs = decide (x2 ≤ x3)) := by
      show _ = _
      unfold okT
      rw [ES.out, EI.out, if_neg (by rw [← HXE.out.1]; exact q0), ← HXE.out.2.1, ← HXE.out.2.2]; rfl
    clear q0
    go_wp2
    refine wp_region_held (S := fun W => Blk W w1.heap.size (tc xs) 75) (by kernel_rfl) ?_
    change wpAnyH _ _ _ _ _ _ _ _ (World.drew _)
    have HS : Hid (Blk W3.drew w1.heap.size (tc xs) 75) := HG3.out.1.drew
    refine takeH (o := ?o1) 0 (.agg (tc xs)) ?h1 ?r1
    case h1 => simp only [List.getElem?_toArray, List.getElem?_cons_zero]; rfl
    refine ⟨_, by simp [Act.put]; rfl, by kernel_rfl, by kernel_rfl, by kernel_rfl, fun _ _ _ h => h, (yields_whole 75 w1.heap.size (tc xs) 75 _ rfl rfl rfl Try.underlying75 rfl (tallySize HX.out.1) (fun W hW => hW)), HS.out, ?_⟩
    refine takeH (o := ?o2) 1 (.pointer (some ⟨w1.heap.size, 2, none⟩)) ?h2 ?r2
    case h2 => simp only [List.getElem?_toArray, List.getElem?_cons_succ, List.getElem?_cons_zero]; rfl
    refine ⟨_, by simp [Act.put]; rfl, by kernel_rfl, by kernel_rfl, by kernel_rfl, fun _ _ _ h => h, (.inl ⟨rfl, fun W _ => by go_simp⟩), HS.out, ?_⟩
    refine takeH (o := ?o3) 2 (.int .i64 x2) ?h3 ?r3
    case h3 => simp only [List.getElem?_toArray, List.getElem?_cons_succ, List.getElem?_cons_zero]; rfl
    refine ⟨_, by simp [Act.put]; rfl, by kernel_rfl, by kernel_rfl, by kernel_rfl, fun _ _ _ h => h, (.inl ⟨rfl, fun W hW => by have c := (HC.out W hW).1; go_simp⟩), HS.out, ?_⟩
    refine takeH (o := ?o4) 3 (.pointer (some ⟨w1.heap.size, 3, none⟩)) ?h4 ?r4
    case h4 => simp only [List.getElem?_toArray, List.getElem?_cons_succ, List.getElem?_cons_zero]; rfl
    refine ⟨_, by simp [Act.put]; rfl, by kernel_rfl, by kernel_rfl, by kernel_rfl, fun _ _ _ h => h, (.inl ⟨rfl, fun W _ => by go_simp⟩), HS.out, ?_⟩
    refine takeH (o := ?o5) 4 (.int .i64 x3) ?h5 ?r5
    case h5 => simp only [List.getElem?_toArray, List.getElem?_cons_succ, List.getElem?_cons_zero]; rfl
    refine ⟨_, by simp [Act.put]; rfl, by kernel_rfl, by kernel_rfl, by kernel_rfl, fun _ _ _ h => h, (.inl ⟨rfl, fun W hW => by have c := (HC.out W hW).2; go_simp⟩), HS.out, ?_⟩
    refine takeH (o := ?o6) 5 (.bool (decide (x2 ≤ x3))) ?h6 ?r6
    case h6 => simp only [List.getElem?_toArray, List.getElem?_cons_succ, List.getElem?_cons_zero]; rfl
    refine ⟨_, by simp [Act.put]; rfl, by kernel_rfl, by kernel_rfl, by kernel_rfl, fun _ _ _ h => h, (.inl ⟨rfl, fun W _ => by go_simp⟩), HS.out, ?_⟩
    refine onlyH (o := ?o7) 6 (by kernel_rfl) ?h7 ?r7
    case h7 => simp only [List.getElem?_toArray, List.getElem?_cons_succ, List.getElem?_cons_zero]; rfl
    intro K hK
    refine op_store 75 (w.heap.size + 1) (tc (List.replicate 28 0)) (tc xs) 75 rfl rfl rfl rfl HG3.out.2.1.drew (tallySize HX.out.1) (by rw [tc_size, tc_size, HX.out.1]; rfl) (tc_one _) ⟨_, by simp [Act.put]; rfl, hK _ _ ⟨HS.out.setRowOther (by omega), ?_⟩⟩
    clear hK
    refine onlyH (o := ?o8) 7 (by kernel_rfl) ?h8 ?r8
    case h8 => simp only [List.getElem?_toArray, List.getElem?_cons_succ, List.getElem?_cons_zero]; rfl
    intro K hK
    refine op_value (.bool (decide (x2 ≤ x3))) rfl (by go_simp) ⟨_, by simp [Act.put]; rfl, hK _ _ ⟨HS.out.setRowOther (by omega), ?_⟩⟩
    clear hK
    refine wpAnyH_done (by kernel_rfl) ?_ _
    go_wp2
    refine bodyPost_ret (results_row_tmp Try.results75 _ _ (w.heap.size + 1) _ _ _ _ rfl HG3.out.2.1.drew.setRow Try.underlying75 rfl (tallySize HX.out.1)) rfl ?_
    exact ⟨xs, xs, by rw [HV.out]; rfl, HX.out.1, HX.out.1, HX.out.2, fun _ => rfl, below_setRow HG3.out.2.2.drew (by omega) _⟩
  subst q0
  have q0' : ((0 : Int) == 0) = true := by simp
  have HV : Hid (okT s xs = decide (xs = List.replicate 28 0)) := by
    show _ = _
    unfold okT
    rw [ES.out, EI.out, if_pos (HXE.out.1.symm)]; rfl
  go_wp2
  refine wp_region_held (S := fun W => Blk W w1.heap.size (tc xs) 75) (by kernel_rfl) ?_
  change wpAnyH _ _ _ _ _ _ _ _ (World.drew _)
  have HS : Hid (Blk W3.drew w1.heap.size (tc xs) 75) := HG3.out.1.drew
  refine takeH (o := ?o9) 0 (.agg (tc xs)) ?h9 ?r9
  case h9 => simp only [List.getElem?_toArray, List.getElem?_cons_zero]; rfl
  refine ⟨_, by simp [Act.put]; rfl, by kernel_rfl, by kernel_rfl, by kernel_rfl, fun _ _ _ h => h, (yields_whole 75 w1.heap.size (tc xs) 75 _ rfl rfl rfl Try.underlying75 rfl (tallySize HX.out.1) (fun W hW => hW)), HS.out, ?_⟩
  refine takeH (o := ?o10) 1 (.agg (tc xs)) ?h10 ?r10
  case h10 => simp only [List.getElem?_toArray, List.getElem?_cons_succ, List.getElem?_cons_zero]; rfl
  refine ⟨_, by simp [Act.put]; rfl, by kernel_rfl, by kernel_rfl, by kernel_rfl, fun _ _ _ h => h, (yields_whole 75 w1.heap.size (tc xs) 75 _ rfl rfl rfl Try.underlying75 rfl (tallySize HX.out.1) (fun W hW => hW)), HS.out, ?_⟩
  refine takeH (o := ?o11) 2 (.agg (tc (List.replicate 28 0))) ?h11 ?r11
  case h11 => simp only [List.getElem?_toArray, List.getElem?_cons_succ, List.getElem?_cons_zero]; rfl
  refine ⟨_, by simp [Act.put]; rfl, by kernel_rfl, by kernel_rfl, by kernel_rfl, fun _ _ _ h => h, (.inl ⟨rfl, fun W _ => by go_simp; rfl⟩), HS.out, ?_⟩
  refine onlyH (o := ?o12) 3 (by kernel_rfl) ?h12 ?r12
  case h12 => simp only [List.getElem?_toArray, List.getElem?_cons_succ, List.getElem?_cons_zero]; rfl
  intro K hK
  refine op_call2 101 _ _ _ Try.f101 (fun w' => Below W3.drew.heap.size W3.drew w') (.bool (decide (xs = List.replicate 28 0))) rfl rfl Try.func101 (by kernel_rfl) (by kernel_rfl) (same_any xs (List.replicate 28 0) _ HX.out.1 rfl) ⟨_, by simp [Act.put]; rfl, fun W4 hb4 => hK _ _ ⟨HS.out.below hb4, ?_⟩⟩
  have HG4 : Hid (Blk W4 w1.heap.size (tc xs) 75 ∧ Blk W4 (w.heap.size + 1) (tc (List.replicate 28 0)) 75 ∧ Below w.heap.size w W4) := ⟨HG3.out.1.drew.below hb4, HG3.out.2.1.drew.below hb4, Below.next HG3.out.2.2.drew hb4⟩
  clear hb4 hK
  refine onlyH (o := ?o13) 4 (by kernel_rfl) ?h13 ?r13
  case h13 => simp only [List.getElem?_toArray, List.getElem?_cons_succ, List.getElem?_cons_zero]; rfl
  intro K hK
  refine op_store 75 (w.heap.size + 1) (tc (List.replicate 28 0)) (tc xs) 75 rfl rfl rfl rfl HG4.out.2.1 (tallySize HX.out.1) (by rw [tc_size, tc_size, HX.out.1]; rfl) (tc_one _) ⟨_, by simp [Act.put]; rfl, hK _ _ ⟨HG4.out.1.setRowOther (by omega), ?_⟩⟩
  clear hK
  refine onlyH (o := ?o14) 5 (by kernel_rfl) ?h14 ?r14
  case h14 => simp only [List.getElem?_toArray, List.getElem?_cons_succ, List.getElem?_cons_zero]; rfl
  intro K hK
  refine op_value (.bool (decide (xs = List.replicate 28 0))) rfl (by go_simp) ⟨_, by simp [Act.put]; rfl, hK _ _ ⟨HG4.out.1.setRowOther (by omega), ?_⟩⟩
  clear hK
  refine wpAnyH_done (by kernel_rfl) ?_ _
  go_wp2
  refine bodyPost_ret (results_row_tmp Try.results75 _ _ (w.heap.size + 1) _ _ _ _ rfl HG4.out.2.1.setRow Try.underlying75 rfl (tallySize HX.out.1)) rfl ?_
  exact ⟨xs, xs, by rw [HV.out]; rfl, HX.out.1, HX.out.1, HX.out.2, fun _ => rfl, below_setRow HG4.out.2.2 (by omega) _⟩
end Go.Proofs.Ytbmbmnhamogghap
/- What the program's row of numbers comes to: right just where the summary is; the sum is the merged summary. No statement of the seat is proved here. -/
namespace Go.Proofs.Ytbmbmnhamogghap
open Go.RowKit
/-- A summary whose lists are as long as told, written out. -/
theorem Sk.written {s : Sk} (h : s.shaped = true) : ∃ h0 h1 h2 h3 h4 h5 h6 h7 r0 r1 r2 r3 r4 r5 r6 r7 p0 p1 p2 p3 q0 q1 q2 q3, s = ⟨s.count, s.sum, s.min, s.max, [h0, h1, h2, h3, h4, h5, h6, h7], [r0, r1, r2, r3, r4, r5, r6, r7], [[p0, p1, p2, p3], [q0, q1, q2, q3]]⟩ := by
  obtain ⟨e1, e2, x, y, e3, e4, e5⟩ := Sk.shaped_parts h
  obtain ⟨h0, h1, h2, h3, h4, h5, h6, h7, eh⟩ := len8 e1
  obtain ⟨r0, r1, r2, r3, r4, r5, r6, r7, er⟩ := len8 e2
  obtain ⟨p0, p1, p2, p3, rfl⟩ := len4 e4
  obtain ⟨q0, q1, q2, q3, rfl⟩ := len4 e5
  refine ⟨h0, h1, h2, h3, h4, h5, h6, h7, r0, r1, r2, r3, r4, r5, r6, r7, p0, p1, p2, p3, q0, q1, q2, q3, ?_⟩
  cases s
  simp_all
theorem okL_shape {l : List Int} {n : Nat} {m : Int} {z : Bool} (h : okL l n m z = true) : l.length = n := by
  unfold okL at h; simp at h; exact h.1
theorem Sk.ok_shaped {s : Sk} (h : s.ok = true) : s.shaped = true := by
  unfold Sk.ok okHead okLists at h
  simp only [Bool.and_eq_true, decide_eq_true_eq] at h
  obtain ⟨⟨⟨_, hr⟩, _⟩, ⟨⟨⟨l1, l2⟩, l3⟩, l4⟩⟩ := h
  have e1 := okL_shape l1; have e2 := okL_shape l2; have e3 := okL_shape l3; have e4 := okL_shape l4
  obtain ⟨x, y, e⟩ : ∃ x y, s.rows = [x, y] := by
    match s.rows, hr with
    | [x, y], _ => exact ⟨x, y, rfl⟩
  unfold Sk.shaped
  rw [e] at e3 e4 ⊢
  simp at e3 e4
  simp [e1, e2, e3, e4]
set_option maxHeartbeats 2000000 in
theorem okT_ok {s : Sk} {xs : List Int} (hx : s.shaped = true → xs = s.tl) : okT s xs = s.ok := by
  cases hs : s.shaped
  · have h1 : okT s xs = false := by unfold okT; rw [hs]; rfl
    rw [h1]
    cases ho : s.ok
    · rfl
    · rw [Sk.ok_shaped ho] at hs; cases hs
  · have hx := hx hs
    subst hx
    obtain ⟨h0, h1, h2, h3, h4, h5, h6, h7, r0, r1, r2, r3, r4, r5, r6, r7, p0, p1, p2, p3, q0, q1, q2, q3, e⟩ := Sk.written hs
    generalize s.count = c at e
    generalize s.sum = sm at e
    generalize s.min = mn at e
    generalize s.max = mx at e
    subst e
    rw [Bool.eq_iff_iff]
    unfold okT
    rw [hs]
    by_cases q : c = 0
    · subst q
      simp [inB, Sk.tl, Sk.ok, okHead, okZero, okLists, okL, okN, List.replicate]
      omega
    · simp [inB, Sk.tl, Sk.ok, okHead, okZero, okLists, okL, okN, q]
      omega
end Go.Proofs.Ytbmbmnhamogghap
/- The walks through the model's helpers of a merging. No statement of the seat is proved here. -/
namespace Go.Proofs.Ytbmbmnhamogghap
open Go.RowKit
def sumL (xs ys : List Int) : List Int := List.zipWith addN xs ys
theorem sumL_length (xs ys : List Int) (n : Nat) (hx : xs.length = n) (hy : ys.length = n) : (sumL xs ys).length = n := by simp [sumL, hx, hy]
theorem sumL_snoc (xs ys : List Int) (k : Nat) (hx : k < xs.length) (hy : k < ys.length) : (sumL xs ys).take (k + 1) = (sumL xs ys).take k ++ [addN (xs[k]?.getD 0) (ys[k]?.getD 0)] := by
  rw [take_snoc (sumL xs ys) 0 k (by simp [sumL]; omega)]
  simp [sumL, List.getElem?_zipWith, List.getElem?_eq_getElem hx, List.getElem?_eq_getElem hy]
theorem own_grow {w wr w1 : World} {e : TypeId} {v : Value} {n : Nat} {xs : List Value} {o : Obj} (hbel : Below w.heap.size w wr) (hown : wr.ownsRow w.heap.size e 1 v n xs) (hgrow : ((wr.drew).alloc o).grownBy w1 v.ownBlock):
    Below w.heap.size w w1 := by
  have h1 : Below w.heap.size w (wr.drew.alloc o) := (hbel.drew).alloc hbel.size o
  exact h1.grown hgrow (by simp; have := hbel.size; omega) (fun k hk => (hown.lt k hk).1)
theorem rdI_of_own {w : World} {B e n : Nat} {v : Value} {zs : List Int} (h : w.ownsRow B e 1 v n (zs.map (Value.int .i64))) : ∃ a cap F, v = .slice a n cap ∧ RdI w a n zs F ∧ Own B w F := by
  rcases h.2 with ⟨h1, h2⟩ | ⟨g, cap, cur, h1, _⟩
  · subst h2
    exact ⟨none, 0, [], h1, ⟨by simpa using h.1, .inl ⟨rfl, rfl⟩⟩, Own.nil⟩
  · subst h1
    obtain ⟨F, hr, ho, _⟩ := RdI.of_own h
    exact ⟨_, cap, F, rfl, hr, ho⟩
theorem own_empty (w : World) (e : TypeId) : (w.alloc (.cells #[] e)).ownsRow w.heap.size e 1 (.slice (some ⟨w.heap.size, 0, none⟩) 0 0) 0 [] :=
  ⟨rfl, .inr ⟨w.heap.size, 0, #[], rfl, Nat.le_refl _, Blk.made w #[] e, Nat.le_refl _, by simp, rfl, rfl⟩⟩
theorem cell_new1 (w : World) (u : Value) (t : TypeId) : ∀ (j : Nat) (x : Value), [u][j]? = some x → (w.alloc (.cells #[u] t)).cell? ((⟨w.heap.size, 0, none⟩ : Addr).add j) = some x := by
  intro j x hx
  cases j with
  | zero =>
    obtain rfl : u = x := by simpa using hx
    simp [Addr.add]
  | succ j => simp at hx
set_option maxRecDepth 200000 in
set_option maxHeartbeats 2000000 in
theorem l3Sum_any (a b : Option Addr) (la ca cb : Nat) (xs ys : List Int) (F G : List Nat) (w : World) (ha : RdI w a la xs F) (hb : RdI w b la ys G) (hla : la ≤ 1048576) :
    Calls Try.prog 110 #[.slice a la ca, .slice b la cb] w fun e w' => NewI w (sumL xs ys) e w' := by
  obtain ⟨i0, hi, hz0, hz1, hz2⟩ := info_parts infoInt
  have Hx : Hid (xs.length = la) := ha.length
  have Hy : Hid (ys.length = la) := hb.length
  by_cases h0 : la = 0
  · subst h0
    have hx : xs = [] := List.eq_nil_of_length_eq_zero ha.length
    subst hx
    clear ha hb
    go_enter Try.func110, Try.ntmps110
    go_wp2
    refine wp_loop_rounds 1 ?_
    rw [rounds_succ]
    go_wp2
    go_ret
    exact ⟨_, 0, 0, [], rfl, ⟨rfl, .inl ⟨rfl, rfl⟩⟩, Own.nil, (Below.refl _ _).alloc (Nat.le_refl _) _⟩
  obtain ⟨b1, o1, rfl, hc1⟩ : ∃ b off, a = some ⟨b, off, none⟩ ∧ ∀ i, i < la → w.cell? ⟨b, off + i, none⟩ = some (.int .i64 (xs.getD i 0)) := by
    rcases ha.cells with h | ⟨b, off, _, h1, _, h2⟩
    · exact absurd h.1 h0
    · exact ⟨b, off, h1, h2⟩
  obtain ⟨b2, o2, rfl, hc2⟩ : ∃ b' off, b = some ⟨b', off, none⟩ ∧ ∀ i, i < la → w.cell? ⟨b', off + i, none⟩ = some (.int .i64 (ys.getD i 0)) := by
    rcases hb.cells with h | ⟨b, off, _, h1, _, h2⟩
    · exact absurd h.1 h0
    · exact ⟨b, off, h1, h2⟩
  have HC : Hid ((∀ i, i < la → w.cell? ⟨b1, o1 + i, none⟩ = some (.int .i64 (xs.getD i 0))) ∧ ∀ i, i < la → w.cell? ⟨b2, o2 + i, none⟩ = some (.int .i64 (ys.getD i 0))) := ⟨hc1, hc2⟩
  have HB : Hid (b1 < w.heap.size ∧ b2 < w.heap.size) := ⟨World.block_lt_of_cell? _ _ (hc1 0 (by omega)), World.block_lt_of_cell? _ _ (hc2 0 (by omega))⟩
  clear ha hb hc1 hc2
  go_enter Try.func110, Try.ntmps110
  go_wp2
  go_loopw [5, 6] (fun v i wr => ∃ k : Nat, k ≤ la ∧ i = .int .i64 k ∧ Hid (wr.ownsRow w.heap.size 3 1 v k (((sumL xs ys).take k).map (Value.int .i64))) ∧ Hid (Below w.heap.size w wr)) (fun _ i _ => la - (intOf i).toNat)
  case atStart => exact ⟨0, by omega, rfl, own_empty w _, (Below.refl _ _).alloc (Nat.le_refl _) _⟩
  case round =>
    obtain ⟨k, hk, rfl, HO, HBel⟩ := hrel
    by_cases hlt : k < la
    · obtain ⟨x, hx⟩ : ∃ x, x = xs[k]?.getD 0 := ⟨_, rfl⟩
      obtain ⟨y, hy⟩ : ∃ y, y = ys[k]?.getD 0 := ⟨_, rfl⟩
      have d1 : wr.cell? ⟨b1, o1 + k, none⟩ = some (.int .i64 x) := by rw [HBel.out.cell (p := ⟨b1, o1 + k, none⟩) HB.out.1, HC.out.1 k hlt, hx]; simp
      have d2 : wr.cell? ⟨b2, o2 + k, none⟩ = some (.int .i64 y) := by rw [HBel.out.cell (p := ⟨b2, o2 + k, none⟩) HB.out.2, HC.out.2 k hlt, hy]; simp
      have HS : Hid ((sumL xs ys).take (k + 1) = (sumL xs ys).take k ++ [addN x y]) := by rw [hx, hy]; exact sumL_snoc xs ys k (by rw [Hx.out]; exact hlt) (by rw [Hy.out]; exact hlt)
      clear hx hy
      have hwr : w.heap.size ≤ wr.heap.size := HBel.out.size
      have HKp : Hid (∀ o w1, (wr.drew.alloc o).grownBy w1 u5.ownBlock → w1.cell? ⟨b1, o1 + k, none⟩ = some (.int .i64 x) ∧ w1.cell? ⟨b2, o2 + k, none⟩ = some (.int .i64 y)) := by
        intro o w1 hg
        have hb := own_grow HBel.out HO.out hg
        exact ⟨by rw [hb.cell (p := ⟨b1, o1 + k, none⟩) HB.out.1, ← HBel.out.cell (p := ⟨b1, o1 + k, none⟩) HB.out.1]; exact d1, by rw [hb.cell (p := ⟨b2, o2 + k, none⟩) HB.out.2, ← HBel.out.cell (p := ⟨b2, o2 + k, none⟩) HB.out.2]; exact d2⟩
      go_wp2
      go_region_held3 (fun w' => w'.cell? ⟨b1, o1 + k, none⟩ = some (.int .i64 x) ∧ w'.cell? ⟨b2, o2 + k, none⟩ = some (.int .i64 y)) (first | (exact HKp.out _ _ hgrow) | go_keep)
        (first
          | (refine step_append_lies _ rfl _ _ 23 rfl w.heap.size 3 i0 (.int .i64 0) 1 8 Try.underlying23 hi hz0 hz1 hz2 rfl (by decide) _ k (((sumL xs ys).take k).map (Value.int .i64)) rfl (HO.out.alloc _) ⟨wr.heap.size, 0, none⟩ 1 1 [.int .i64 (addN x y)] rfl rfl (cell_new1 _ _ _) (by intro u hu; simp at hu; subst hu; rfl) (by decide) (by unfold maxLen; omega) (by omega) (by simp; omega) _ rfl ?_; intro g cp w1 hown hgrow hat hlt2)
          | (go_at_call 107; refine (addSpec_any _ _ _).mono ?_; rintro e w1 ⟨rfl, rfl⟩))
      have HO2 : Hid (w1.ownsRow w.heap.size 3 1 (.slice (some ⟨g, 0, none⟩) (k + 1) cp) (k + 1) (((sumL xs ys).take (k + 1)).map (Value.int .i64))) := by rw [HS.out, List.map_append]; exact hown
      have HB2 : Hid (Below w.heap.size w w1) := own_grow HBel.out HO.out hgrow
      clear hown hgrow hat HKp HO HBel d1 d2
      go_wp2
      go_roundw
      case rel => exact ⟨k + 1, by omega, by go_num, HO2, HB2⟩
      case measure => simp [intOf]; omega
    · obtain rfl : k = la := by omega
      have HE : Hid ((sumL xs ys).take k = sumL xs ys) := List.take_of_length_le (Nat.le_of_eq (sumL_length xs ys k Hx.out Hy.out))
      go_wp2
      go_ret
      have own := HO.out
      rw [HE.out] at own
      obtain ⟨a, cap, F2, rfl, hr, ho⟩ := rdI_of_own own
      exact ⟨a, k, cap, F2, rfl, hr, ho, HBel.out⟩
end Go.Proofs.Ytbmbmnhamogghap
/- What the program lays out of its row: a summary in memory of its own. No statement of the seat is proved here. -/
namespace Go.Proofs.Ytbmbmnhamogghap
open Go.RowKit
set_option maxRecDepth 200000 in
set_option maxHeartbeats 400000 in
theorem copiedList_any (b off len cap : Nat) (zs : List Int) (F : List Nat) (w : World) (h : RdI w (some ⟨b, off, none⟩) len zs F) (hp : 0 < len) (hlen : len ≤ 1048576) :
    Calls Try.prog 84 #[.slice (some ⟨b, off, none⟩) len cap] w fun e w' => NewI w zs e w' := by
  obtain ⟨i0, hi, hz0, hz1, hz2⟩ := info_parts infoInt
  have HR : Hid (RdI w (some ⟨b, off, none⟩) len zs F) := h
  have hlz := h.length
  obtain ⟨ad, had, hsrc⟩ := h.src (Below.refl _ _) hp
  obtain rfl := Option.some.inj had
  have HSrc : Hid (∀ j v, (zs.map (Value.int .i64))[j]? = some v → w.cell? ((⟨b, off, none⟩ : Addr).add j) = some v) := hsrc
  have HO : Hid (w.ownsRow w.heap.size 3 1 (.slice none 0 0) 0 []) := ⟨rfl, .inl ⟨rfl, rfl⟩⟩
  clear h hsrc had
  go_enter Try.func84, Try.ntmps84
  go_wp2_with (at_builtin; (refine wpList_append_own _ rfl _ _ 23 rfl w.heap.size 3 i0 (.int .i64 0) 1 8 Try.underlying23 hi hz0 hz1 hz2 rfl (by decide) _ 0 [] rfl HO.out ⟨b, off, none⟩ len cap (zs.map (Value.int .i64)) rfl (by simp [hlz]) HSrc.out (ints_one _) (by unfold maxLen; omega) (by omega) (by omega) ?_))
  intro v w2 hown hgrow _
  have HN : Hid (w2.ownsRow w.heap.size 3 1 v len (zs.map (Value.int .i64)) ∧ Below w.heap.size w w2) := ⟨by simpa using hown, (Below.refl _ _).grown hgrow (by omega) (fun k hk => by cases hk)⟩
  clear hown hgrow
  go_wp2
  go_ret
  obtain ⟨a, c, F', rfl, hr, ho⟩ := rdI_of_own HN.out.1
  exact ⟨a, len, c, F', rfl, hr, ho, HN.out.2⟩
/-- The summary whose numbers these are. -/
def skOf (xs : List Int) : Sk := ⟨xs.getD 0 0, xs.getD 1 0, xs.getD 2 0, xs.getD 3 0, (xs.drop 4).take 8, (xs.drop 12).take 8, [(xs.drop 20).take 4, (xs.drop 24).take 4]⟩
theorem Own.perm {B : Nat} {w : World} {F G : List Nat} (h : Own B w F) (p : F.Perm G) : Own B w G :=
  ⟨p.nodup h.nodup, fun b hb => h.free b (p.mem_iff.2 hb), fun b hb => h.ge b (p.mem_iff.2 hb)⟩
theorem Own.blk {B : Nat} {w : World} {F : List Nat} {g : Nat} {cs : Array Value} {t : TypeId} (h : Own B w F) (b : Blk w g cs t) (hg : g ∉ F) (hB : B ≤ g) : Own B w (F ++ [g]) :=
  h.app ⟨by simp, fun x hx o => by (obtain rfl : x = g := by simpa using hx); exact b.frozen o, fun x hx => by (obtain rfl : x = g := by simpa using hx); exact hB⟩ (fun x hx hx' => hg (by (obtain rfl : x = g := by simpa using hx'); exact hx))
theorem two_rows4 {wx : World} {x2 x3 : Option Addr} {l2 l3 : List Int} {X2 X3 : List Nat} {g : Nat} {j2 j3 : Nat} {t : TypeId} (br : Blk wx g #[.slice x2 4 j2, .slice x3 4 j3] t) (r2 : RdI wx x2 4 l2 X2) (r3 : RdI wx x3 4 l3 X3) : RdII wx (some ⟨g, 0, none⟩) 2 [l2, l3] (g :: (X2 ++ X3)) := by
  refine ⟨rfl, .inr ⟨g, 0, X2 ++ X3, by omega, rfl, rfl, ?_⟩⟩
  show RdM wx [ints l2, ints l3] g 0 (X2 ++ X3)
  rw [RdM]
  refine ⟨_, X2, X3, by rw [br.cell 0]; rfl, rd_ints.2 ⟨_, 4, j2, rfl, r2⟩, ?_, rfl⟩
  rw [RdM]
  exact ⟨_, X3, [], by rw [br.cell 1]; rfl, rd_ints.2 ⟨_, 4, j3, rfl, r3⟩, by simp [RdM], by simp⟩
/-- Four lists that were made one behind the other, and a row of the last two. -/
theorem four_lists {w0 w1 w2 w3 w4 w5 : World} {a1 a2 a3 a4 : Option Addr} {n1 n2 n3 n4 : Nat} {l1 l2 l3 l4 : List Int} {F1 F2 F3 F4 : List Nat} {cs : Array Value} {t : TypeId}
    (r1 : RdI w1 a1 n1 l1 F1) (o1 : Own w0.heap.size w1 F1) (b1 : Below w0.heap.size w0 w1) (r2 : RdI w2 a2 n2 l2 F2) (o2 : Own w1.heap.size w2 F2) (b2 : Below w1.heap.size w1 w2) (r3 : RdI w3 a3 n3 l3 F3) (o3 : Own w2.heap.size w3 F3) (b3 : Below w2.heap.size w2 w3)
    (r4 : RdI w4 a4 n4 l4 F4) (o4 : Own w3.heap.size w4 F4) (b4 : Below w3.heap.size w3 w4) (k : Blk w5 w4.heap.size cs t) (b5 : Below w4.heap.size w4 w5) :
    RdI w5 a1 n1 l1 F1 ∧ RdI w5 a2 n2 l2 F2 ∧ RdI w5 a3 n3 l3 F3 ∧ RdI w5 a4 n4 l4 F4 ∧ Own w0.heap.size w5 (F1 ++ (F2 ++ (w4.heap.size :: (F3 ++ F4)))) := by
  have s1 := b1.size; have s2 := b2.size; have s3 := b3.size; have s4 := b4.size
  have p2 := (o1.below r1.lt b2).join o2 r1.lt s1
  have q1 := r1.below b2
  have l2 : ∀ b ∈ F1 ++ F2, b < w2.heap.size := fun b h => (List.mem_append.1 h).elim (q1.lt b) (r2.lt b)
  have p3 := (p2.below l2 b3).join o3 l2 (by omega)
  have l3 : ∀ b ∈ F1 ++ F2 ++ F3, b < w3.heap.size := fun b h => (List.mem_append.1 h).elim (fun h => by have := l2 b h; omega) (r3.lt b)
  have p4 := (p3.below l3 b4).join o4 l3 (by omega)
  have l4 : ∀ b ∈ F1 ++ F2 ++ F3 ++ F4, b < w4.heap.size := fun b h => (List.mem_append.1 h).elim (fun h => by have := l3 b h; omega) (r4.lt b)
  have p5 := (p4.below l4 b5).blk k (fun h => by have := l4 _ h; omega) (by omega)
  refine ⟨((q1.below b3).below b4).below b5, ((r2.below b3).below b4).below b5, (r3.below b4).below b5, r4.below b5, p5.perm ?_⟩
  rw [List.perm_iff_count]
  intro x
  simp only [List.count_append, List.count_cons, List.count_nil]
  omega
/-- The row lies there, and its four first numbers are these. -/
def SkHeld (g : Nat) (xs : List Int) (x0 x1 x2 x3 : Int) (W : World) : Prop := Blk W g (tc xs) 75 ∧ W.cell? ⟨g, 0, none⟩ = some (.int .i64 x0) ∧ W.cell? ⟨g, 1, none⟩ = some (.int .i64 x1) ∧ W.cell? ⟨g, 2, none⟩ = some (.int .i64 x2) ∧ W.cell? ⟨g, 3, none⟩ = some (.int .i64 x3)
set_option maxRecDepth 200000 in
set_option maxHeartbeats 4000000 in
theorem sketch_any (xs : List Int) (w : World) (hx : xs.length = 28) :
    Calls Try.prog 96 #[.agg (tc xs)] w fun e w' => NewSk w (skOf xs) e w' := by
  have HL : Hid (xs.length = 28) := hx
  obtain ⟨x0, hx0⟩ : ∃ x, x = xs.getD 0 0 := ⟨_, rfl⟩
  obtain ⟨x1, hx1⟩ : ∃ x, x = xs.getD 1 0 := ⟨_, rfl⟩
  obtain ⟨x2, hx2⟩ : ∃ x, x = xs.getD 2 0 := ⟨_, rfl⟩
  obtain ⟨x3, hx3⟩ : ∃ x, x = xs.getD 3 0 := ⟨_, rfl⟩
  have HX : Hid (x0 = xs.getD 0 0 ∧ x1 = xs.getD 1 0 ∧ x2 = xs.getD 2 0 ∧ x3 = xs.getD 3 0) := ⟨hx0, hx1, hx2, hx3⟩
  have mkS : ∀ W, Blk W w.heap.size (tc xs) 75 → SkHeld w.heap.size xs x0 x1 x2 x3 W := fun W b =>
    ⟨b, by rw [b.cell, hx0]; exact tc_get (by omega), by rw [b.cell, hx1]; exact tc_get (by omega), by rw [b.cell, hx2]; exact tc_get (by omega), by rw [b.cell, hx3]; exact tc_get (by omega)⟩
  have keepS : ∀ {W W' : World}, SkHeld w.heap.size xs x0 x1 x2 x3 W → Below W.heap.size W W' → SkHeld w.heap.size xs x0 x1 x2 x3 W' := fun h b => mkS _ (h.1.below b)
  have HT : Hid (_ ∧ _ ∧ _) := two_made w (tc xs) #[.int .i64 0, .int .i64 0, .int .i64 0, .int .i64 0, .slice none 0 0, .slice none 0 0, .slice none 0 0] 75 32
  clear hx hx0 hx1 hx2 hx3
  go_enter Try.func96, Try.ntmps96
  go_wp2
  obtain ⟨W0, hW0⟩ : ∃ W0, W0 = (w.alloc (.cells (tc xs) 75)).alloc (.cells #[.int .i64 0, .int .i64 0, .int .i64 0, .int .i64 0, .slice none 0 0, .slice none 0 0, .slice none 0 0] 32) := ⟨_, rfl⟩
  rw [← hW0] at HT ⊢
  clear hW0
  have HS : Hid (SkHeld w.heap.size xs x0 x1 x2 x3 W0.drew) := mkS _ HT.out.1.drew
  refine wp_region_held (S := SkHeld w.heap.size xs x0 x1 x2 x3) (by kernel_rfl) ?_
  change wpAnyH _ _ _ _ _ _ _ _ (World.drew _)
  refine takeH (o := ?o1) 0 (.pointer (some ⟨w.heap.size, 0, none⟩)) ?h1 ?r1
  case h1 => simp only [List.getElem?_toArray, List.getElem?_cons_zero]; rfl
  refine ⟨_, by simp [Act.put]; rfl, by kernel_rfl, by kernel_rfl, by kernel_rfl, fun _ _ _ h => h, (.inl ⟨rfl, fun W _ => by go_simp⟩), HS.out, ?_⟩
  refine takeH (o := ?o2) 1 (.int .i64 x0) ?h2 ?r2
  case h2 => simp only [List.getElem?_toArray, List.getElem?_cons_succ, List.getElem?_cons_zero]; rfl
  refine ⟨_, by simp [Act.put]; rfl, by kernel_rfl, by kernel_rfl, by kernel_rfl, fun _ _ _ h => h, (.inl ⟨rfl, fun W hW => by have c := hW.2.1; go_simp⟩), HS.out, ?_⟩
  refine takeH (o := ?o3) 2 (.pointer (some ⟨w.heap.size, 1, none⟩)) ?h3 ?r3
  case h3 => simp only [List.getElem?_toArray, List.getElem?_cons_succ, List.getElem?_cons_zero]; rfl
  refine ⟨_, by simp [Act.put]; rfl, by kernel_rfl, by kernel_rfl, by kernel_rfl, fun _ _ _ h => h, (.inl ⟨rfl, fun W _ => by go_simp⟩), HS.out, ?_⟩
  refine takeH (o := ?o4) 3 (.int .i64 x1) ?h4 ?r4
  case h4 => simp only [List.getElem?_toArray, List.getElem?_cons_succ, List.getElem?_cons_zero]; rfl
  refine ⟨_, by simp [Act.put]; rfl, by kernel_rfl, by kernel_rfl, by kernel_rfl, fun _ _ _ h => h, (.inl ⟨rfl, fun W hW => by have c := hW.2.2.1; go_simp⟩), HS.out, ?_⟩
  refine takeH (o := ?o5) 4 (.pointer (some ⟨w.heap.size, 2, none⟩)) ?h5 ?r5
  case h5 => simp only [List.getElem?_toArray, List.getElem?_cons_succ, List.getElem?_cons_zero]; rfl
  refine ⟨_, by simp [Act.put]; rfl, by kernel_rfl, by kernel_rfl, by kernel_rfl, fun _ _ _ h => h, (.inl ⟨rfl, fun W _ => by go_simp⟩), HS.out, ?_⟩
  refine takeH (o := ?o6) 5 (.int .i64 x2) ?h6 ?r6
  case h6 => simp only [List.getElem?_toArray, List.getElem?_cons_succ, List.getElem?_cons_zero]; rfl
  refine ⟨_, by simp [Act.put]; rfl, by kernel_rfl, by kernel_rfl, by kernel_rfl, fun _ _ _ h => h, (.inl ⟨rfl, fun W hW => by have c := hW.2.2.2.1; go_simp⟩), HS.out, ?_⟩
  refine takeH (o := ?o7) 6 (.pointer (some ⟨w.heap.size, 3, none⟩)) ?h7 ?r7
  case h7 => simp only [List.getElem?_toArray, List.getElem?_cons_succ, List.getElem?_cons_zero]; rfl
  refine ⟨_, by simp [Act.put]; rfl, by kernel_rfl, by kernel_rfl, by kernel_rfl, fun _ _ _ h => h, (.inl ⟨rfl, fun W _ => by go_simp⟩), HS.out, ?_⟩
  refine takeH (o := ?o8) 7 (.int .i64 x3) ?h8 ?r8
  case h8 => simp only [List.getElem?_toArray, List.getElem?_cons_succ, List.getElem?_cons_zero]; rfl
  refine ⟨_, by simp [Act.put]; rfl, by kernel_rfl, by kernel_rfl, by kernel_rfl, fun _ _ _ h => h, (.inl ⟨rfl, fun W hW => by have c := hW.2.2.2.2; go_simp⟩), HS.out, ?_⟩
  refine takeH (o := ?o9) 8 (.pointer (some ⟨w.heap.size, 4, none⟩)) ?h9 ?r9
  case h9 => simp only [List.getElem?_toArray, List.getElem?_cons_succ, List.getElem?_cons_zero]; rfl
  refine ⟨_, by simp [Act.put]; rfl, by kernel_rfl, by kernel_rfl, by kernel_rfl, fun _ _ _ h => h, (.inl ⟨rfl, fun W _ => by go_simp⟩), HS.out, ?_⟩
  refine takeH (o := ?o10) 9 (.slice (some ⟨w.heap.size, 4, none⟩) 8 8) ?h10 ?r10
  case h10 => simp only [List.getElem?_toArray, List.getElem?_cons_succ, List.getElem?_cons_zero]; rfl
  refine ⟨_, by simp [Act.put]; rfl, by kernel_rfl, by kernel_rfl, by kernel_rfl, fun _ _ _ h => h, (.inl ⟨rfl, fun W _ => by go_simp⟩), HS.out, ?_⟩
  refine takeH (o := ?o11) 11 (.pointer (some ⟨w.heap.size, 12, none⟩)) ?h11 ?r11
  case h11 => simp only [List.getElem?_toArray, List.getElem?_cons_succ, List.getElem?_cons_zero]; rfl
  refine ⟨_, by simp [Act.put]; rfl, by kernel_rfl, by kernel_rfl, by kernel_rfl, fun _ _ _ h => h, (.inl ⟨rfl, fun W _ => by go_simp⟩), HS.out, ?_⟩
  refine takeH (o := ?o12) 12 (.slice (some ⟨w.heap.size, 12, none⟩) 8 8) ?h12 ?r12
  case h12 => simp only [List.getElem?_toArray, List.getElem?_cons_succ, List.getElem?_cons_zero]; rfl
  refine ⟨_, by simp [Act.put]; rfl, by kernel_rfl, by kernel_rfl, by kernel_rfl, fun _ _ _ h => h, (.inl ⟨rfl, fun W _ => by go_simp⟩), HS.out, ?_⟩
  refine takeH (o := ?o13) 14 (.pointer (some ⟨w.heap.size, 20, none⟩)) ?h13 ?r13
  case h13 => simp only [List.getElem?_toArray, List.getElem?_cons_succ, List.getElem?_cons_zero]; rfl
  refine ⟨_, by simp [Act.put]; rfl, by kernel_rfl, by kernel_rfl, by kernel_rfl, fun _ _ _ h => h, (.inl ⟨rfl, fun W _ => by go_simp⟩), HS.out, ?_⟩
  refine takeH (o := ?o14) 15 (.pointer (some ⟨w.heap.size, 20, none⟩)) ?h14 ?r14
  case h14 => simp only [List.getElem?_toArray, List.getElem?_cons_succ, List.getElem?_cons_zero]; rfl
  refine ⟨_, by simp [Act.put]; rfl, by kernel_rfl, by kernel_rfl, by kernel_rfl, fun _ _ _ h => h, (.inl ⟨rfl, fun W _ => by go_simp⟩), HS.out, ?_⟩
  refine takeH (o := ?o15) 16 (.slice (some ⟨w.heap.size, 20, none⟩) 4 4) ?h15 ?r15
  case h15 => simp only [List.getElem?_toArray, List.getElem?_cons_succ, List.getElem?_cons_zero]; rfl
  refine ⟨_, by simp [Act.put]; rfl, by kernel_rfl, by kernel_rfl, by kernel_rfl, fun _ _ _ h => h, (.inl ⟨rfl, fun W _ => by go_simp⟩), HS.out, ?_⟩
  refine takeH (o := ?o16) 18 (.pointer (some ⟨w.heap.size, 20, none⟩)) ?h16 ?r16
  case h16 => simp only [List.getElem?_toArray, List.getElem?_cons_succ, List.getElem?_cons_zero]; rfl
  refine ⟨_, by simp [Act.put]; rfl, by kernel_rfl, by kernel_rfl, by kernel_rfl, fun _ _ _ h => h, (.inl ⟨rfl, fun W _ => by go_simp⟩), HS.out, ?_⟩
  refine takeH (o := ?o17) 19 (.pointer (some ⟨w.heap.size, 24, none⟩)) ?h17 ?r17
  case h17 => simp only [List.getElem?_toArray, List.getElem?_cons_succ, List.getElem?_cons_zero]; rfl
  refine ⟨_, by simp [Act.put]; rfl, by kernel_rfl, by kernel_rfl, by kernel_rfl, fun _ _ _ h => h, (.inl ⟨rfl, fun W _ => by go_simp⟩), HS.out, ?_⟩
  refine takeH (o := ?o18) 20 (.slice (some ⟨w.heap.size, 24, none⟩) 4 4) ?h18 ?r18
  case h18 => simp only [List.getElem?_toArray, List.getElem?_cons_succ, List.getElem?_cons_zero]; rfl
  refine ⟨_, by simp [Act.put]; rfl, by kernel_rfl, by kernel_rfl, by kernel_rfl, fun _ _ _ h => h, (.inl ⟨rfl, fun W _ => by go_simp⟩), HS.out, ?_⟩
  refine onlyH (o := ?o19) 10 (by kernel_rfl) ?h19 ?r19
  case h19 => simp only [List.getElem?_toArray, List.getElem?_cons_succ, List.getElem?_cons_zero]; rfl
  intro K hK
  refine op_call1 84 _ _ Try.f84 (fun v w' => ∃ a len cap F, v = .slice a len cap ∧ RdI w' a len ((xs.drop 4).take 8) F ∧ Own W0.drew.heap.size w' F ∧ Below W0.drew.heap.size W0.drew w') rfl rfl Try.func84 (by kernel_rfl) (by kernel_rfl) ((copiedList_any w.heap.size 4 8 8 ((xs.drop 4).take 8) _ W0.drew (rdI_tc HS.out.1 (by rw [HL.out]; omega) (by omega)) (by omega) (by omega)).mono (by rintro e w' ⟨a, len, cap, F, rfl, h1, h2, h3⟩; exact ⟨_, rfl, a, len, cap, F, rfl, h1, h2, h3⟩)) ?_
  rintro v W1 ⟨y1, m1, d1, G1, rfl, r1z, o1z, b1z⟩
  obtain rfl : m1 = 8 := by rw [← r1z.length]; simp; have := HL.out; omega
  refine ⟨_, by simp [Act.put]; rfl, hK _ _ ⟨keepS HS.out b1z, ?_⟩⟩
  have HS1 : Hid (SkHeld w.heap.size xs x0 x1 x2 x3 W1) := keepS HS.out b1z
  have HR1 : Hid (RdI W1 y1 8 ((xs.drop 4).take 8) G1 ∧ Own W0.drew.heap.size W1 G1 ∧ Below W0.drew.heap.size W0.drew W1) := ⟨r1z, o1z, b1z⟩
  clear hK r1z o1z b1z
  refine onlyH (o := ?o20) 13 (by kernel_rfl) ?h20 ?r20
  case h20 => simp only [List.getElem?_toArray, List.getElem?_cons_succ, List.getElem?_cons_zero]; rfl
  intro K hK
  refine op_call1 84 _ _ Try.f84 (fun v w' => ∃ a len cap F, v = .slice a len cap ∧ RdI w' a len ((xs.drop 12).take 8) F ∧ Own W1.heap.size w' F ∧ Below W1.heap.size W1 w') rfl rfl Try.func84 (by kernel_rfl) (by kernel_rfl) ((copiedList_any w.heap.size 12 8 8 ((xs.drop 12).take 8) _ W1 (rdI_tc HS1.out.1 (by rw [HL.out]; omega) (by omega)) (by omega) (by omega)).mono (by rintro e w' ⟨a, len, cap, F, rfl, h1, h2, h3⟩; exact ⟨_, rfl, a, len, cap, F, rfl, h1, h2, h3⟩)) ?_
  rintro v W2 ⟨y2, m2, d2, G2, rfl, r2z, o2z, b2z⟩
  obtain rfl : m2 = 8 := by rw [← r2z.length]; simp; have := HL.out; omega
  refine ⟨_, by simp [Act.put]; rfl, hK _ _ ⟨keepS HS1.out b2z, ?_⟩⟩
  have HS2 : Hid (SkHeld w.heap.size xs x0 x1 x2 x3 W2) := keepS HS1.out b2z
  have HR2 : Hid (RdI W2 y2 8 ((xs.drop 12).take 8) G2 ∧ Own W1.heap.size W2 G2 ∧ Below W1.heap.size W1 W2) := ⟨r2z, o2z, b2z⟩
  clear hK r2z o2z b2z
  refine onlyH (o := ?o21) 17 (by kernel_rfl) ?h21 ?r21
  case h21 => simp only [List.getElem?_toArray, List.getElem?_cons_succ, List.getElem?_cons_zero]; rfl
  intro K hK
  refine op_call1 84 _ _ Try.f84 (fun v w' => ∃ a len cap F, v = .slice a len cap ∧ RdI w' a len ((xs.drop 20).take 4) F ∧ Own W2.heap.size w' F ∧ Below W2.heap.size W2 w') rfl rfl Try.func84 (by kernel_rfl) (by kernel_rfl) ((copiedList_any w.heap.size 20 4 4 ((xs.drop 20).take 4) _ W2 (rdI_tc HS2.out.1 (by rw [HL.out]; omega) (by omega)) (by omega) (by omega)).mono (by rintro e w' ⟨a, len, cap, F, rfl, h1, h2, h3⟩; exact ⟨_, rfl, a, len, cap, F, rfl, h1, h2, h3⟩)) ?_
  rintro v W3 ⟨y3, m3, d3, G3, rfl, r3z, o3z, b3z⟩
  obtain rfl : m3 = 4 := by rw [← r3z.length]; simp; have := HL.out; omega
  refine ⟨_, by simp [Act.put]; rfl, hK _ _ ⟨keepS HS2.out b3z, ?_⟩⟩
  have HS3 : Hid (SkHeld w.heap.size xs x0 x1 x2 x3 W3) := keepS HS2.out b3z
  have HR3 : Hid (RdI W3 y3 4 ((xs.drop 20).take 4) G3 ∧ Own W2.heap.size W3 G3 ∧ Below W2.heap.size W2 W3) := ⟨r3z, o3z, b3z⟩
  clear hK r3z o3z b3z
  refine onlyH (o := ?o22) 21 (by kernel_rfl) ?h22 ?r22
  case h22 => simp only [List.getElem?_toArray, List.getElem?_cons_succ, List.getElem?_cons_zero]; rfl
  intro K hK
  refine op_call1 84 _ _ Try.f84 (fun v w' => ∃ a len cap F, v = .slice a len cap ∧ RdI w' a len ((xs.drop 24).take 4) F ∧ Own W3.heap.size w' F ∧ Below W3.heap.size W3 w') rfl rfl Try.func84 (by kernel_rfl) (by kernel_rfl) ((copiedList_any w.heap.size 24 4 4 ((xs.drop 24).take 4) _ W3 (rdI_tc HS3.out.1 (by rw [HL.out]; omega) (by omega)) (by omega) (by omega)).mono (by rintro e w' ⟨a, len, cap, F, rfl, h1, h2, h3⟩; exact ⟨_, rfl, a, len, cap, F, rfl, h1, h2, h3⟩)) ?_
  rintro v W4 ⟨y4, m4, d4, G4, rfl, r4z, o4z, b4z⟩
  obtain rfl : m4 = 4 := by rw [← r4z.length]; simp; have := HL.out; omega
  refine ⟨_, by simp [Act.put]; rfl, hK _ _ ⟨keepS HS3.out b4z, ?_⟩⟩
  have HS4 : Hid (SkHeld w.heap.size xs x0 x1 x2 x3 W4) := keepS HS3.out b4z
  have HR4 : Hid (RdI W4 y4 4 ((xs.drop 24).take 4) G4 ∧ Own W3.heap.size W4 G4 ∧ Below W3.heap.size W3 W4) := ⟨r4z, o4z, b4z⟩
  clear hK r4z o4z b4z
  refine onlyH (o := ?o23) 22 (by kernel_rfl) ?h23 ?r23
  case h23 => simp only [List.getElem?_toArray, List.getElem?_cons_succ, List.getElem?_cons_zero]; rfl
  intro K hK
  refine op_turn (.slice (some ⟨W4.heap.size, 0, none⟩) 2 2) (W4.alloc (.cells #[.slice y3 4 d3, .slice y4 4 d4] 23)) rfl (by go_simp) ⟨_, by simp [Act.put]; rfl, hK _ _ ⟨keepS HS4.out ((Below.refl _ _).alloc (Nat.le_refl _) _), ?_⟩⟩
  clear hK
  obtain ⟨W5, hW5⟩ : ∃ W5, W5 = W4.alloc (.cells #[.slice y3 4 d3, .slice y4 4 d4] 23) := ⟨_, rfl⟩
  have HB5 : Hid (Blk W5 W4.heap.size #[.slice y3 4 d3, .slice y4 4 d4] 23 ∧ Below W4.heap.size W4 W5) := by rw [hW5]; exact ⟨Blk.made _ _ _, (Below.refl _ _).alloc (Nat.le_refl _) _⟩
  rw [← hW5]
  clear hW5
  have HS5 : Hid (SkHeld w.heap.size xs x0 x1 x2 x3 W5) := keepS HS4.out HB5.out.2
  have HRes : Hid (Blk W5 (w.heap.size + 1) #[.int .i64 0, .int .i64 0, .int .i64 0, .int .i64 0, .slice none 0 0, .slice none 0 0, .slice none 0 0] 32) := ((((HT.out.2.1.drew.below HR1.out.2.2).below HR2.out.2.2).below HR3.out.2.2).below HR4.out.2.2).below HB5.out.2
  refine takeH (o := ?o24) 23 (.agg #[.int .i64 x0, .int .i64 x1, .int .i64 x2, .int .i64 x3, .slice y1 8 d1, .slice y2 8 d2, .slice (some ⟨W4.heap.size, 0, none⟩) 2 2]) ?h24 ?r24
  case h24 => simp only [List.getElem?_toArray, List.getElem?_cons_succ, List.getElem?_cons_zero]; rfl
  refine ⟨_, by simp [Act.put]; rfl, by kernel_rfl, by kernel_rfl, by kernel_rfl, fun _ _ _ h => h, (.inl ⟨rfl, fun W _ => by go_simp⟩), HS5.out, ?_⟩
  refine onlyH (o := ?o25) 24 (by kernel_rfl) ?h25 ?r25
  case h25 => simp only [List.getElem?_toArray, List.getElem?_cons_succ, List.getElem?_cons_zero]; rfl
  intro K hK
  refine op_store 32 (w.heap.size + 1) _ #[.int .i64 x0, .int .i64 x1, .int .i64 x2, .int .i64 x3, .slice y1 8 d1, .slice y2 8 d2, .slice (some ⟨W4.heap.size, 0, none⟩) 2 2] 32 rfl rfl rfl rfl HRes.out (by kernel_rfl) rfl (by kernel_rfl) ⟨_, by simp [Act.put]; rfl, hK _ _ ⟨mkS _ (HS5.out.1.setRowOther (by omega)), ?_⟩⟩
  clear hK
  refine wpAnyH_done (by kernel_rfl) ?_ _
  go_wp2
  refine bodyPost_ret (results_cell_row Try.results96 _ _ (w.heap.size + 1) _ _ _ _ rfl HRes.out.setRow Try.underlying32 rfl (by kernel_rfl)) rfl ?_
  have R := four_lists HR1.out.1 HR1.out.2.1 HR1.out.2.2 HR2.out.1 HR2.out.2.1 HR2.out.2.2 HR3.out.1 HR3.out.2.1 HR3.out.2.2 HR4.out.1 HR4.out.2.1 HR4.out.2.2 HB5.out.1 HB5.out.2
  have hsz : w.heap.size + 1 < W0.drew.heap.size := HT.out.2.1.drew.lt
  have bel := Below.next (Below.next (Below.next (Below.next (Below.next HT.out.2.2.drew HR1.out.2.2) HR2.out.2.2) HR3.out.2.2) HR4.out.2.2) HB5.out.2
  have nr : w.heap.size + 1 ∉ G1 ++ (G2 ++ (W4.heap.size :: (G3 ++ G4))) := fun hx => by have := R.2.2.2.2.ge _ hx; omega
  have ag : Agree W5 (W5.setRow (w.heap.size + 1) #[.int .i64 x0, .int .i64 x1, .int .i64 x2, .int .i64 x3, .slice y1 8 d1, .slice y2 8 d2, .slice (some ⟨W4.heap.size, 0, none⟩) 2 2]) (G1 ++ (G2 ++ (W4.heap.size :: (G3 ++ G4)))) := fun b hb => setRow_other W5 _ b _ (fun e => nr (e ▸ hb))
  have two := two_rows4 HB5.out.1 R.2.2.1 R.2.2.2.1
  refine ⟨_, G1 ++ (G2 ++ (W4.heap.size :: (G3 ++ G4))), rfl, ⟨y1, 8, d1, y2, 8, d2, _, 2, 2, G1, G2, W4.heap.size :: (G3 ++ G4), ?_, R.1.agree ag.left, R.2.1.agree ag.right.left, two.agree ag.right.right, rfl⟩, (R.2.2.2.2.agree ag).mono (by omega), below_setRow bel (by omega) _⟩
  rw [HX.out.1, HX.out.2.1, HX.out.2.2.1, HX.out.2.2.2]
  rfl
end Go.Proofs.Ytbmbmnhamogghap
