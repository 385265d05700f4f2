/- Several texts of mine, laid together. No statement of the seat is proved here. -/
import Derived.Test.YtbmbmnhamogghapB7
import Derived.Test.YtbmbmnhamogghapB6
/- The program's look at all numbers of its row. No statement of the seat is proved here. -/
namespace Go.Proofs.Ytbmbmnhamogghap
open Go.RowKit
def inB (xs : List Int) : Bool :=
  decide (0 ≤ xs.getD 0 0 ∧ xs.getD 0 0 ≤ 1000000000) && decide (0 ≤ xs.getD 1 0 ∧ xs.getD 1 0 ≤ 1000000000) && decide (0 ≤ xs.getD 2 0 ∧ xs.getD 2 0 ≤ 1000000) && decide (0 ≤ xs.getD 3 0 ∧ xs.getD 3 0 ≤ 1000000) &&
  ((xs.drop 20).take 4).all (okN 1000000000 false) && ((xs.drop 24).take 4).all (okN 1000000000 false) && ((xs.drop 4).take 8).all (okN 1000000000 false) && ((xs.drop 12).take 8).all (okN 17 false)
theorem rdI_tc {W : World} {g off n : Nat} {xs : List Int} {t : TypeId} (h : Blk W g (tc xs) t) (hfit : off + n ≤ xs.length) (hp : 0 < n) : RdI W (some ⟨g, off, none⟩) n ((xs.drop off).take n) [g] := by
  refine ⟨by simp; omega, .inr ⟨g, off, hp, rfl, rfl, fun i hi => ?_⟩⟩
  rw [h.cell, tc_get (by omega)]
  simp [hi]
theorem rdI_tc0 {W : World} {g n : Nat} {xs : List Int} {t : TypeId} (h : Blk W g (tc xs) t) (hn : xs.length = n) (hp : 0 < n) : RdI W (some ⟨g, 0, none⟩) n xs [g] := by
  have := rdI_tc h (off := 0) (n := n) (by omega) hp
  rw [List.drop_zero, List.take_of_length_le (by omega)] at this
  exact this
theorem run_index_row {P : Program} (w : World) (t u e : TypeId) (zs : List Int) (i : Int) (n : Nat) (hn : i = n) (h2 : n < 2) (ht : P.underlying t = some (.array 2 u)) (hu : P.underlying u = some (.array 4 e)) (hs : ∀ w, (sizeOf u).run P w = .ok 4 w) :
    (Instr.index t (.agg (tc zs)) (.int .i64 i)).run P w = .ok (.agg (tc ((zs.drop (n * 4)).take 4))) w := by
  have hagg : (isAgg u).run P w = .ok true w := by unfold isAgg; rw [Sem.run_bind, run_underlying hu w]; simp
  subst hn
  have h3 : (0 : Int) ≤ n ∧ (n : Int) < 2 := by omega
  unfold Instr.index part
  simp [asIntOf, run_underlying ht, Sem.run_bind, h3, hs, hagg, tc_extract]
  intro h; omega
set_option maxRecDepth 200000 in
set_option maxHeartbeats 2000000 in
theorem inBounds_any (xs : List Int) (w : World) (hx : xs.length = 28) :
    Calls Try.prog 104 #[.agg (tc xs)] w fun e w' => e = .returned (.bool (inB xs)) ∧ Below w.heap.size w w' := by
  have HL : Hid (xs.length = 28) := hx
  have HT : Hid (Blk (w.alloc (.cells (tc xs) 75)) w.heap.size (tc xs) 75 ∧ Below w.heap.size w (w.alloc (.cells (tc xs) 75))) := ⟨Blk.made _ _ _, (Below.refl _ _).alloc (Nat.le_refl _) _⟩
  obtain ⟨d, hd⟩ : ∃ d, d = inB xs := ⟨_, rfl⟩
  rw [← hd]
  have HD : Hid (d = inB xs) := hd
  obtain ⟨x0, hx0⟩ : ∃ x, x = xs.getD 0 0 := ⟨_, rfl⟩
  obtain ⟨x1, hx1⟩ : ∃ x, x = xs.getD 1 0 := ⟨_, rfl⟩
  obtain ⟨x2, hx2⟩ : ∃ x, x = xs.getD 2 0 := ⟨_, rfl⟩
  obtain ⟨x3, hx3⟩ : ∃ x, x = xs.getD 3 0 := ⟨_, rfl⟩
  have a0 : (tc xs)[0]? = some (.int .i64 x0) := by rw [hx0]; exact tc_get (by omega)
  have a1 : (tc xs)[1]? = some (.int .i64 x1) := by rw [hx1]; exact tc_get (by omega)
  have a2 : (tc xs)[2]? = some (.int .i64 x2) := by rw [hx2]; exact tc_get (by omega)
  have a3 : (tc xs)[3]? = some (.int .i64 x3) := by rw [hx3]; exact tc_get (by omega)
  have HX : Hid (x0 = xs.getD 0 0 ∧ x1 = xs.getD 1 0 ∧ x2 = xs.getD 2 0 ∧ x3 = xs.getD 3 0) := ⟨hx0, hx1, hx2, hx3⟩
  clear hx hd hx0 hx1 hx2 hx3
  go_enter Try.func104, Try.ntmps104
  go_wp2_with fail
  refine (inRange_any _ _ _).mono ?_
  rintro e w1 ⟨rfl, hw1⟩
  have hw1' := hw1.symm
  subst hw1'
  clear hw1
  by_cases p0 : 0 ≤ x0 ∧ x0 ≤ 1000000000
  rotate_left
  · rw [dec_false p0]
    have HN : Hid (d = false) := by show d = _; rw [HD.out]; unfold inB; rw [← HX.out.1, dec_false p0]; simp
    clear p0
    go_wp2
    go_ret
    exact ⟨ret_bool HN.out.symm, HT.out.2⟩
  rw [dec_true p0]
  have P0 : Hid (decide (0 ≤ x0 ∧ x0 ≤ 1000000000) = true) := dec_true p0
  clear p0
  go_wp2_with fail
  refine (inRange_any _ _ _).mono ?_
  rintro e w1 ⟨rfl, hw1⟩
  have hw1' := hw1.symm
  subst hw1'
  clear hw1
  by_cases p1 : 0 ≤ x1 ∧ x1 ≤ 1000000000
  rotate_left
  · rw [dec_false p1]
    have HN : Hid (d = false) := by show d = _; rw [HD.out]; unfold inB; rw [← HX.out.2.1, dec_false p1]; simp
    clear p1
    go_wp2
    go_ret
    exact ⟨ret_bool HN.out.symm, HT.out.2⟩
  rw [dec_true p1]
  have P1 : Hid (decide (0 ≤ x1 ∧ x1 ≤ 1000000000) = true) := dec_true p1
  clear p1
  go_wp2_with fail
  refine (inRange_any _ _ _).mono ?_
  rintro e w1 ⟨rfl, hw1⟩
  have hw1' := hw1.symm
  subst hw1'
  clear hw1
  by_cases p2 : 0 ≤ x2 ∧ x2 ≤ 1000000
  rotate_left
  · rw [dec_false p2]
    have HN : Hid (d = false) := by show d = _; rw [HD.out]; unfold inB; rw [← HX.out.2.2.1, dec_false p2]; simp
    clear p2
    go_wp2
    go_ret
    exact ⟨ret_bool HN.out.symm, HT.out.2⟩
  rw [dec_true p2]
  have P2 : Hid (decide (0 ≤ x2 ∧ x2 ≤ 1000000) = true) := dec_true p2
  clear p2
  go_wp2_with fail
  refine (inRange_any _ _ _).mono ?_
  rintro e w1 ⟨rfl, hw1⟩
  have hw1' := hw1.symm
  subst hw1'
  clear hw1
  by_cases p3 : 0 ≤ x3 ∧ x3 ≤ 1000000
  rotate_left
  · rw [dec_false p3]
    have HN : Hid (d = false) := by show d = _; rw [HD.out]; unfold inB; rw [← HX.out.2.2.2, dec_false p3]; simp
    clear p3
    go_wp2
    go_ret
    exact ⟨ret_bool HN.out.symm, HT.out.2⟩
  rw [dec_true p3]
  have P3 : Hid (decide (0 ≤ x3 ∧ x3 ≤ 1000000) = true) := dec_true p3
  clear p3
  go_wp2_with (first | go_skip | (with_reducible refine stopLoad 73 rfl ?_))
  refine load_part 73 w.heap.size 20 8 xs 75 _ HT.out.1 rfl rfl rfl Try.underlying73 rfl (by kernel_rfl) (by rw [HL.out]; omega) ?_
  obtain ⟨A, hA⟩ : ∃ A, A = (xs.drop 20).take 8 := ⟨_, rfl⟩
  rw [← hA]
  obtain ⟨R0, hR0⟩ : ∃ A, A = (xs.drop 20).take 4 := ⟨_, rfl⟩
  obtain ⟨R1, hR1⟩ : ∃ A, A = (xs.drop 24).take 4 := ⟨_, rfl⟩
  have HRE : Hid (R0 = (xs.drop 20).take 4 ∧ R1 = (xs.drop 24).take 4) := ⟨hR0, hR1⟩
  have HRL : Hid (R0.length = 4 ∧ R1.length = 4) := ⟨by rw [hR0]; simp; have := HL.out; omega, by rw [hR1]; simp; have := HL.out; omega⟩
  have i0 : ∀ w, (Instr.index 73 (.agg (tc A)) (.int .i64 0)).run Try.prog w = .ok (.agg (tc R0)) w := fun w => by
    rw [run_index_row w 73 72 3 A 0 0 rfl (by omega) Try.underlying73 Try.underlying72 (fun _ => by simp), hA, hR0]
    simp [List.take_take]
  have i1 : ∀ w, (Instr.index 73 (.agg (tc A)) (.int .i64 1)).run Try.prog w = .ok (.agg (tc R1)) w := fun w => by
    rw [run_index_row w 73 72 3 A 1 1 rfl (by omega) Try.underlying73 Try.underlying72 (fun _ => by simp), hA, hR1]
    rw [List.drop_take, List.drop_drop, List.take_take]
    rfl
  clear hA hR0 hR1
  go_wp2
  refine wp_loop_rounds 3 ?_
  rw [rounds_succ]
  go_wp2_with (first | (with_reducible refine stopStore 72 rfl ?_))
  refine store_fresh 72 (w.heap.size + 1) (by simp) (tc (List.replicate 4 0)) (tc R0) 72 rfl rfl rfl rfl (by rw [tc_size, HRL.out.1]; kernel_rfl) (by rw [tc_size, tc_size, HRL.out.1]; rfl) (tc_one _) ?_
  intro W0 hg0 hb0
  have HB0 : Hid (Below w.heap.size w W0 ∧ Blk W0 w.heap.size (tc xs) 75) := ⟨Below.next HT.out.2 hb0, HT.out.1.below hb0⟩
  have HG0 : Hid (Blk W0 _ (tc R0) 72) := hg0
  clear hg0 hb0
  go_wp2_with fail
  refine (allInRange_any _ 4 _ R0 _ 1000000000 _ (rdI_tc0 HG0.out HRL.out.1 (by omega)) (by omega)).mono ?_
  rintro e w1 ⟨rfl, hw1⟩
  have hw1' := hw1.symm
  subst hw1'
  clear hw1
  cases l0 : R0.all (okN 1000000000 false)
  · have HN : Hid (d = false) := by show d = _; rw [HD.out]; unfold inB; rw [← HRE.out.1, l0]; simp
    clear l0
    go_wp2
    go_ret
    exact ⟨ret_bool HN.out.symm, HB0.out.1⟩
  have L0 : Hid (R0.all (okN 1000000000 false) = true) := l0
  clear l0
  go_wp2_with fail
  rw [rounds_succ]
  go_wp2_with (first | (with_reducible refine stopStore 72 rfl ?_))
  refine store_fresh 72 W0.heap.size rfl (tc (List.replicate 4 0)) (tc R1) 72 rfl rfl rfl rfl (by rw [tc_size, HRL.out.2]; kernel_rfl) (by rw [tc_size, tc_size, HRL.out.2]; rfl) (tc_one _) ?_
  intro W1 hg1 hb1
  have HB1 : Hid (Below w.heap.size w W1 ∧ Blk W1 w.heap.size (tc xs) 75) := ⟨Below.next HB0.out.1 hb1, HB0.out.2.below hb1⟩
  have HG1 : Hid (Blk W1 _ (tc R1) 72) := hg1
  clear hg1 hb1
  go_wp2_with fail
  refine (allInRange_any _ 4 _ R1 _ 1000000000 _ (rdI_tc0 HG1.out HRL.out.2 (by omega)) (by omega)).mono ?_
  rintro e w1 ⟨rfl, hw1⟩
  have hw1' := hw1.symm
  subst hw1'
  clear hw1
  cases l1 : R1.all (okN 1000000000 false)
  · have HN : Hid (d = false) := by show d = _; rw [HD.out]; unfold inB; rw [← HRE.out.2, l1]; simp
    clear l1
    go_wp2
    go_ret
    exact ⟨ret_bool HN.out.symm, HB1.out.1⟩
  have L1 : Hid (R1.all (okN 1000000000 false) = true) := l1
  clear l1
  go_wp2_with fail
  rw [rounds_succ]
  go_wp2_with fail
  refine (allInRange_any _ 8 _ ((xs.drop 4).take 8) _ 1000000000 _ (rdI_tc HB1.out.2 (by have := HL.out; omega) (by omega)) (by omega)).mono ?_
  rintro e w1 ⟨rfl, hw1⟩
  have hw1' := hw1.symm
  subst hw1'
  clear hw1
  cases l2 : ((xs.drop 4).take 8).all (okN 1000000000 false)
  · have HN : Hid (d = false) := by show d = _; rw [HD.out]; unfold inB; rw [l2]; simp
    clear l2
    go_wp2
    go_ret
    exact ⟨ret_bool HN.out.symm, HB1.out.1⟩
  have L2 : Hid (((xs.drop 4).take 8).all (okN 1000000000 false) = true) := l2
  clear l2
  go_wp2_with fail
  refine (allInRange_any _ 8 _ ((xs.drop 12).take 8) _ 17 _ (rdI_tc HB1.out.2 (by have := HL.out; omega) (by omega)) (by omega)).mono ?_
  rintro e w1 ⟨rfl, hw1⟩
  have hw1' := hw1.symm
  subst hw1'
  clear hw1
  obtain ⟨d2, hd2⟩ : ∃ d, d = ((xs.drop 12).take 8).all (okN 17 false) := ⟨_, rfl⟩
  rw [← hd2]
  have HE : Hid (d = d2) := by show d = _; rw [HD.out]; unfold inB; rw [← HX.out.1, ← HX.out.2.1, ← HX.out.2.2.1, ← HX.out.2.2.2, P0.out, P1.out, P2.out, P3.out, ← HRE.out.1, ← HRE.out.2, L0.out, L1.out, L2.out, hd2]; simp
  clear hd2
  go_wp2
  go_ret
  exact ⟨ret_bool HE.out.symm, HB1.out.1⟩
end Go.Proofs.Ytbmbmnhamogghap
/- A summary that is right, by the program. No statement of the seat is proved here. -/
namespace Go.Proofs.Ytbmbmnhamogghap
open Go.RowKit
/-- Whether a summary's numbers, in one row, are right. -/
def okT (s : Sk) (xs : List Int) : Bool := s.shaped && inB xs && (if xs.getD 0 0 = 0 then decide (xs = List.replicate 28 0) else decide (xs.getD 2 0 ≤ xs.getD 3 0))
set_option maxRecDepth 200000 in
set_option maxHeartbeats 2000000 in
theorem okTally_any (v : Value) (s : Sk) (F : List Nat) (w : World) (h : RdSk w v s F) (hw : s.wide) :
    Calls Try.prog 75 #[v] w fun e w' => ∃ xs ys : List Int, e = .returned (.tuple #[.agg (tc ys), .bool (okT s xs)]) ∧ xs.length = 28 ∧ ys.length = 28 ∧ (s.shaped = true → xs = s.tl) ∧ (okT s xs = true → ys = xs) ∧ Below w.heap.size w w' := by
  have HH : Hid (RdSk w v s F ∧ s.wide) := ⟨h, hw⟩
  obtain ⟨a1, n1, c1, a2, n2, c2, a3, n3, c3, F1, F2, F3, rfl, h1, h2, h3, _⟩ := h
  clear h1 h2 h3 hw
  have Z28 := two_made w #[.int .i64 s.count, .int .i64 s.sum, .int .i64 s.min, .int .i64 s.max, .slice a1 n1 c1, .slice a2 n2 c2, .slice a3 n3 c3] (tc (List.replicate 28 0)) 32 75
  have HZ : Hid (_ ∧ _ ∧ _) := Z28
  clear Z28
  go_enter Try.func75, Try.ntmps75
  go_wp2_with fail
  refine (tallyOf_any _ s F _ (HH.out.1.below HZ.out.2.2) HH.out.2).mono ?_
  rintro e w1 ⟨xs, rfl, hxl, hxe, hb1⟩
  have HX : Hid (xs.length = 28 ∧ (s.shaped = true → xs = s.tl)) := ⟨hxl, hxe⟩
  have HB : Hid (Blk w1 (w.heap.size + 1) (tc (List.replicate 28 0)) 75 ∧ Below w.heap.size w w1) := ⟨HZ.out.2.1.below hb1, Below.next HZ.out.2.2 hb1⟩
  clear hb1 HZ hxl hxe
  go_wp2_with (with_reducible refine stopStore 75 rfl ?_)
  refine store_fresh 75 w1.heap.size rfl (tc (List.replicate 28 0)) (tc xs) 75 rfl rfl rfl rfl (tallySize HX.out.1) (by rw [tc_size, tc_size, HX.out.1]; rfl) (tc_one _) ?_
  intro W2 hg2 hb2
  have HG2 : Hid (Blk W2 w1.heap.size (tc xs) 75 ∧ Blk W2 (w.heap.size + 1) (tc (List.replicate 28 0)) 75 ∧ Below w.heap.size w W2) := ⟨hg2, HB.out.1.below hb2, Below.next HB.out.2 hb2⟩
  have hlt : w.heap.size + 1 < w1.heap.size := HB.out.1.lt
  clear hg2 hb2
  obtain ⟨d, hd⟩ : ∃ d, d = okT s xs := ⟨_, rfl⟩
  have HD : Hid (d = okT s xs) := hd
  clear hd
  cases es : s.shaped
  · have HN : Hid (okT s xs = false) := by show _ = false; unfold okT; rw [es]; rfl
    clear es
    go_wp2_with (first | go_skip | (with_reducible refine stopStore 75 rfl ?_))
    refine store_known 75 (w.heap.size + 1) _ (tc (List.replicate 28 0)) 75 HG2.out.2.1 rfl rfl rfl rfl infoTally rfl (tc_one _) ?_
    go_wp2
    refine bodyPost_ret (results_row_tmp Try.results75 _ _ (w.heap.size + 1) _ _ _ _ rfl HG2.out.2.1.setRow Try.underlying75 rfl infoTally) rfl ?_
    exact ⟨xs, List.replicate 28 0, by rw [HN.out]; rfl, HX.out.1, rfl, HX.out.2, fun e => by (rw [HN.out] at e; cases e), below_setRow HG2.out.2.2 (by omega) _⟩
  have ES : Hid (s.shaped = true) := es
  clear es
  go_wp2_with (first | go_skip | (with_reducible refine stopLoad 75 rfl ?_))
  refine load_part 75 w1.heap.size 0 28 xs 75 _ HG2.out.1 rfl rfl rfl Try.underlying75 rfl infoTally (by rw [HX.out.1]; omega) ?_
  rw [List.drop_zero, List.take_of_length_le (Nat.le_of_eq HX.out.1)]
  go_wp2_with fail
  refine (inBounds_any xs _ HX.out.1).mono ?_
  rintro e W3 ⟨rfl, hb3⟩
  have HG3 : Hid (Blk W3 w1.heap.size (tc xs) 75 ∧ Blk W3 (w.heap.size + 1) (tc (List.replicate 28 0)) 75 ∧ Below w.heap.size w W3) := ⟨HG2.out.1.below hb3, HG2.out.2.1.below hb3, Below.next HG2.out.2.2 hb3⟩
  clear hb3
  cases ei : inB xs
  · have HN : Hid (okT s xs = false) := by show _ = false; unfold okT; rw [ES.out, ei]; rfl
    clear ei
    go_wp2_with (first | go_skip | (with_reducible refine stopStore 75 rfl ?_))
    refine store_known 75 (w.heap.size + 1) _ (tc (List.replicate 28 0)) 75 HG3.out.2.1 rfl rfl rfl rfl infoTally rfl (tc_one _) ?_
    go_wp2
    refine bodyPost_ret (results_row_tmp Try.results75 _ _ (w.heap.size + 1) _ _ _ _ rfl HG3.out.2.1.setRow Try.underlying75 rfl infoTally) rfl ?_
    exact ⟨xs, List.replicate 28 0, by rw [HN.out]; rfl, HX.out.1, rfl, HX.out.2, fun e => by (rw [HN.out] at e; cases e), below_setRow HG3.out.2.2 (by omega) _⟩
  have EI : Hid (inB xs = true) := ei
  clear ei
  obtain ⟨x0, hx0⟩ : ∃ x, x = xs.getD 0 0 := ⟨_, rfl⟩
  obtain ⟨x2, hx2⟩ : ∃ x, x = xs.getD 2 0 := ⟨_, rfl⟩
  obtain ⟨x3, hx3⟩ : ∃ x, x = xs.getD 3 0 := ⟨_, rfl⟩
  have c0 : W3.cell? ⟨w1.heap.size, 0, none⟩ = some (.int .i64 x0) := by rw [HG3.out.1.cell, hx0]; exact tc_get (by rw [HX.out.1]; omega)
  have HC : Hid (∀ W, Blk W w1.heap.size (tc xs) 75 → W.cell? ⟨w1.heap.size, 2, none⟩ = some (.int .i64 x2) ∧ W.cell? ⟨w1.heap.size, 3, none⟩ = some (.int .i64 x3)) := fun W b => ⟨by rw [b.cell, hx2]; exact tc_get (by rw [HX.out.1]; omega), by rw [b.cell, hx3]; exact tc_get (by rw [HX.out.1]; omega)⟩
  have HXE : Hid (x0 = xs.getD 0 0 ∧ x2 = xs.getD 2 0 ∧ x3 = xs.getD 3 0) := ⟨hx0, hx2, hx3⟩
  clear hx0 hx2 hx3
  by_cases q0 : x0 = 0
  rotate_left
  · have q0' : (x0 == 0) = false := by simpa using q0
    have HV : Hid (okT s xs = decide (x2 ≤ x3)) := by
      show _ = _
      unfold okT
      rw [ES.out, EI.out, if_neg (by rw [← HXE.out.1]; exact q0), ← HXE.out.2.1, ← HXE.out.2.2]; rfl
    clear q0
    go_wp2
    refine wp_region_held (S := fun W => Blk W w1.heap.size (tc xs) 75) (by kernel_rfl) ?_
    change wpAnyH _ _ _ _ _ _ _ _ (World.drew _)
    have HS : Hid (Blk W3.drew w1.heap.size (tc xs) 75) := HG3.out.1.drew
    refine takeH (o := ?o1) 0 (.agg (tc xs)) ?h1 ?r1
    case h1 => simp only [List.getElem?_toArray, List.getElem?_cons_zero]; rfl
    refine ⟨_, by simp [Act.put]; rfl, by kernel_rfl, by kernel_rfl, by kernel_rfl, fun _ _ _ h => h, (yields_whole 75 w1.heap.size (tc xs) 75 _ rfl rfl rfl Try.underlying75 rfl (tallySize HX.out.1) (fun W hW => hW)), HS.out, ?_⟩
    refine takeH (o := ?o2) 1 (.pointer (some ⟨w1.heap.size, 2, none⟩)) ?h2 ?r2
    case h2 => simp only [List.getElem?_toArray, List.getElem?_cons_succ, List.getElem?_cons_zero]; rfl
    refine ⟨_, by simp [Act.put]; rfl, by kernel_rfl, by kernel_rfl, by kernel_rfl, fun _ _ _ h => h, (.inl ⟨rfl, fun W _ => by go_simp⟩), HS.out, ?_⟩
    refine takeH (o := ?o3) 2 (.int .i64 x2) ?h3 ?r3
    case h3 => simp only [List.getElem?_toArray, List.getElem?_cons_succ, List.getElem?_cons_zero]; rfl
    refine ⟨_, by simp [Act.put]; rfl, by kernel_rfl, by kernel_rfl, by kernel_rfl, fun _ _ _ h => h, (.inl ⟨rfl, fun W hW => by have c := (HC.out W hW).1; go_simp⟩), HS.out, ?_⟩
    refine takeH (o := ?o4) 3 (.pointer (some ⟨w1.heap.size, 3, none⟩)) ?h4 ?r4
    case h4 => simp only [List.getElem?_toArray, List.getElem?_cons_succ, List.getElem?_cons_zero]; rfl
    refine ⟨_, by simp [Act.put]; rfl, by kernel_rfl, by kernel_rfl, by kernel_rfl, fun _ _ _ h => h, (.inl ⟨rfl, fun W _ => by go_simp⟩), HS.out, ?_⟩
    refine takeH (o := ?o5) 4 (.int .i64 x3) ?h5 ?r5
    case h5 => simp only [List.getElem?_toArray, List.getElem?_cons_succ, List.getElem?_cons_zero]; rfl
    refine ⟨_, by simp [Act.put]; rfl, by kernel_rfl, by kernel_rfl, by kernel_rfl, fun _ _ _ h => h, (.inl ⟨rfl, fun W hW => by have c := (HC.out W hW).2; go_simp⟩), HS.out, ?_⟩
    refine takeH (o := ?o6) 5 (.bool (decide (x2 ≤ x3))) ?h6 ?r6
    case h6 => simp only [List.getElem?_toArray, List.getElem?_cons_succ, List.getElem?_cons_zero]; rfl
    refine ⟨_, by simp [Act.put]; rfl, by kernel_rfl, by kernel_rfl, by kernel_rfl, fun _ _ _ h => h, (.inl ⟨rfl, fun W _ => by go_simp⟩), HS.out, ?_⟩
    refine onlyH (o := ?o7) 6 (by kernel_rfl) ?h7 ?r7
    case h7 => simp only [List.getElem?_toArray, List.getElem?_cons_succ, List.getElem?_cons_zero]; rfl
    intro K hK
    refine op_store 75 (w.heap.size + 1) (tc (List.replicate 28 0)) (tc xs) 75 rfl rfl rfl rfl HG3.out.2.1.drew (tallySize HX.out.1) (by rw [tc_size, tc_size, HX.out.1]; rfl) (tc_one _) ⟨_, by simp [Act.put]; rfl, hK _ _ ⟨HS.out.setRowOther (by omega), ?_⟩⟩
    clear hK
    refine onlyH (o := ?o8) 7 (by kernel_rfl) ?h8 ?r8
    case h8 => simp only [List.getElem?_toArray, List.getElem?_cons_succ, List.getElem?_cons_zero]; rfl
    intro K hK
    refine op_value (.bool (decide (x2 ≤ x3))) rfl (by go_simp) ⟨_, by simp [Act.put]; rfl, hK _ _ ⟨HS.out.setRowOther (by omega), ?_⟩⟩
    clear hK
    refine wpAnyH_done (by kernel_rfl) ?_ _
    go_wp2
    refine bodyPost_ret (results_row_tmp Try.results75 _ _ (w.heap.size + 1) _ _ _ _ rfl HG3.out.2.1.drew.setRow Try.underlying75 rfl (tallySize HX.out.1)) rfl ?_
    exact ⟨xs, xs, by rw [HV.out]; rfl, HX.out.1, HX.out.1, HX.out.2, fun _ => rfl, below_setRow HG3.out.2.2.drew (by omega) _⟩
  subst q0
  have q0' : ((0 : Int) == 0) = true := by simp
  have HV : Hid (okT s xs = decide (xs = List.replicate 28 0)) := by
    show _ = _
    unfold okT
    rw [ES.out, EI.out, if_pos (HXE.out.1.symm)]; rfl
  go_wp2
  refine wp_region_held (S := fun W => Blk W w1.heap.size (tc xs) 75) (by kernel_rfl) ?_
  change wpAnyH _ _ _ _ _ _ _ _ (World.drew _)
  have HS : Hid (Blk W3.drew w1.heap.size (tc xs) 75) := HG3.out.1.drew
  refine takeH (o := ?o9) 0 (.agg (tc xs)) ?h9 ?r9
  case h9 => simp only [List.getElem?_toArray, List.getElem?_cons_zero]; rfl
  refine ⟨_, by simp [Act.put]; rfl, by kernel_rfl, by kernel_rfl, by kernel_rfl, fun _ _ _ h => h, (yields_whole 75 w1.heap.size (tc xs) 75 _ rfl rfl rfl Try.underlying75 rfl (tallySize HX.out.1) (fun W hW => hW)), HS.out, ?_⟩
  refine takeH (o := ?o10) 1 (.agg (tc xs)) ?h10 ?r10
  case h10 => simp only [List.getElem?_toArray, List.getElem?_cons_succ, List.getElem?_cons_zero]; rfl
  refine ⟨_, by simp [Act.put]; rfl, by kernel_rfl, by kernel_rfl, by kernel_rfl, fun _ _ _ h => h, (yields_whole 75 w1.heap.size (tc xs) 75 _ rfl rfl rfl Try.underlying75 rfl (tallySize HX.out.1) (fun W hW => hW)), HS.out, ?_⟩
  refine takeH (o := ?o11) 2 (.agg (tc (List.replicate 28 0))) ?h11 ?r11
  case h11 => simp only [List.getElem?_toArray, List.getElem?_cons_succ, List.getElem?_cons_zero]; rfl
  refine ⟨_, by simp [Act.put]; rfl, by kernel_rfl, by kernel_rfl, by kernel_rfl, fun _ _ _ h => h, (.inl ⟨rfl, fun W _ => by go_simp; rfl⟩), HS.out, ?_⟩
  refine onlyH (o := ?o12) 3 (by kernel_rfl) ?h12 ?r12
  case h12 => simp only [List.getElem?_toArray, List.getElem?_cons_succ, List.getElem?_cons_zero]; rfl
  intro K hK
  refine op_call2 101 _ _ _ Try.f101 (fun w' => Below W3.drew.heap.size W3.drew w') (.bool (decide (xs = List.replicate 28 0))) rfl rfl Try.func101 (by kernel_rfl) (by kernel_rfl) (same_any xs (List.replicate 28 0) _ HX.out.1 rfl) ⟨_, by simp [Act.put]; rfl, fun W4 hb4 => hK _ _ ⟨HS.out.below hb4, ?_⟩⟩
  have HG4 : Hid (Blk W4 w1.heap.size (tc xs) 75 ∧ Blk W4 (w.heap.size + 1) (tc (List.replicate 28 0)) 75 ∧ Below w.heap.size w W4) := ⟨HG3.out.1.drew.below hb4, HG3.out.2.1.drew.below hb4, Below.next HG3.out.2.2.drew hb4⟩
  clear hb4 hK
  refine onlyH (o := ?o13) 4 (by kernel_rfl) ?h13 ?r13
  case h13 => simp only [List.getElem?_toArray, List.getElem?_cons_succ, List.getElem?_cons_zero]; rfl
  intro K hK
  refine op_store 75 (w.heap.size + 1) (tc (List.replicate 28 0)) (tc xs) 75 rfl rfl rfl rfl HG4.out.2.1 (tallySize HX.out.1) (by rw [tc_size, tc_size, HX.out.1]; rfl) (tc_one _) ⟨_, by simp [Act.put]; rfl, hK _ _ ⟨HG4.out.1.setRowOther (by omega), ?_⟩⟩
  clear hK
  refine onlyH (o := ?o14) 5 (by kernel_rfl) ?h14 ?r14
  case h14 => simp only [List.getElem?_toArray, List.getElem?_cons_succ, List.getElem?_cons_zero]; rfl
  intro K hK
  refine op_value (.bool (decide (xs = List.replicate 28 0))) rfl (by go_simp) ⟨_, by simp [Act.put]; rfl, hK _ _ ⟨HG4.out.1.setRowOther (by omega), ?_⟩⟩
  clear hK
  refine wpAnyH_done (by kernel_rfl) ?_ _
  go_wp2
  refine bodyPost_ret (results_row_tmp Try.results75 _ _ (w.heap.size + 1) _ _ _ _ rfl HG4.out.2.1.setRow Try.underlying75 rfl (tallySize HX.out.1)) rfl ?_
  exact ⟨xs, xs, by rw [HV.out]; rfl, HX.out.1, HX.out.1, HX.out.2, fun _ => rfl, below_setRow HG4.out.2.2 (by omega) _⟩
end Go.Proofs.Ytbmbmnhamogghap
/- What the program's row of numbers comes to: right just where the summary is; the sum is the merged summary. No statement of the seat is proved here. -/
namespace Go.Proofs.Ytbmbmnhamogghap
open Go.RowKit
/-- A summary whose lists are as long as told, written out. -/
theorem Sk.written {s : Sk} (h : s.shaped = true) : ∃ h0 h1 h2 h3 h4 h5 h6 h7 r0 r1 r2 r3 r4 r5 r6 r7 p0 p1 p2 p3 q0 q1 q2 q3, s = ⟨s.count, s.sum, s.min, s.max, [h0, h1, h2, h3, h4, h5, h6, h7], [r0, r1, r2, r3, r4, r5, r6, r7], [[p0, p1, p2, p3], [q0, q1, q2, q3]]⟩ := by
  obtain ⟨e1, e2, x, y, e3, e4, e5⟩ := Sk.shaped_parts h
  obtain ⟨h0, h1, h2, h3, h4, h5, h6, h7, eh⟩ := len8 e1
  obtain ⟨r0, r1, r2, r3, r4, r5, r6, r7, er⟩ := len8 e2
  obtain ⟨p0, p1, p2, p3, rfl⟩ := len4 e4
  obtain ⟨q0, q1, q2, q3, rfl⟩ := len4 e5
  refine ⟨h0, h1, h2, h3, h4, h5, h6, h7, r0, r1, r2, r3, r4, r5, r6, r7, p0, p1, p2, p3, q0, q1, q2, q3, ?_⟩
  cases s
  simp_all
theorem okL_shape {l : List Int} {n : Nat} {m : Int} {z : Bool} (h : okL l n m z = true) : l.length = n := by
  unfold okL at h; simp at h; exact h.1
theorem Sk.ok_shaped {s : Sk} (h : s.ok = true) : s.shaped = true := by
  unfold Sk.ok okHead okLists at h
  simp only [Bool.and_eq_true, decide_eq_true_eq] at h
  obtain ⟨⟨⟨_, hr⟩, _⟩, ⟨⟨⟨l1, l2⟩, l3⟩, l4⟩⟩ := h
  have e1 := okL_shape l1; have e2 := okL_shape l2; have e3 := okL_shape l3; have e4 := okL_shape l4
  obtain ⟨x, y, e⟩ : ∃ x y, s.rows = [x, y] := by
    match s.rows, hr with
    | [x, y], _ => exact ⟨x, y, rfl⟩
  unfold Sk.shaped
  rw [e] at e3 e4 ⊢
  simp at e3 e4
  simp [e1, e2, e3, e4]
set_option maxHeartbeats 2000000 in
theorem okT_ok {s : Sk} {xs : List Int} (hx : s.shaped = true → xs = s.tl) : okT s xs = s.ok := by
  cases hs : s.shaped
  · have h1 : okT s xs = false := by unfold okT; rw [hs]; rfl
    rw [h1]
    cases ho : s.ok
    · rfl
    · rw [Sk.ok_shaped ho] at hs; cases hs
  · have hx := hx hs
    subst hx
    obtain ⟨h0, h1, h2, h3, h4, h5, h6, h7, r0, r1, r2, r3, r4, r5, r6, r7, p0, p1, p2, p3, q0, q1, q2, q3, e⟩ := Sk.written hs
    generalize s.count = c at e
    generalize s.sum = sm at e
    generalize s.min = mn at e
    generalize s.max = mx at e
    subst e
    rw [Bool.eq_iff_iff]
    unfold okT
    rw [hs]
    by_cases q : c = 0
    · subst q
      simp [inB, Sk.tl, Sk.ok, okHead, okZero, okLists, okL, okN, List.replicate]
      omega
    · simp [inB, Sk.tl, Sk.ok, okHead, okZero, okLists, okL, okN, q]
      omega
end Go.Proofs.Ytbmbmnhamogghap
/- The walks through the program's SketchOk. No statement of the seat is proved here. -/
namespace Go.Proofs.Ytbmbmnhamogghap
open Go.RowKit
set_option maxRecDepth 200000 in
set_option maxHeartbeats 1000000 in
theorem okImpl_any (v : Value) (s : Sk) (F : List Nat) (w : World) (h : RdSk w v s F) (hw : s.wide) :
    Calls Try.prog 83 #[v] w fun e w' => e = .returned (.bool s.ok) ∧ Below w.heap.size w w' := by
  have HH : Hid (RdSk w v s F ∧ s.wide) := ⟨h, hw⟩
  obtain ⟨a1, n1, c1, a2, n2, c2, a3, n3, c3, F1, F2, F3, rfl, h1, h2, h3, _⟩ := h
  clear h1 h2 h3 hw
  have HT : Hid (Below w.heap.size w (w.alloc (.cells #[.int .i64 s.count, .int .i64 s.sum, .int .i64 s.min, .int .i64 s.max, .slice a1 n1 c1, .slice a2 n2 c2, .slice a3 n3 c3] 32))) := (Below.refl _ _).alloc (Nat.le_refl _) _
  go_enter Try.func83, Try.ntmps83
  go_wp2_with fail
  refine (okTally_any _ s F _ (HH.out.1.below HT.out) HH.out.2).mono ?_
  rintro e w1 ⟨xs, ys, rfl, _, hy, hx, _, hb1⟩
  have HB : Hid (ys.length = 28 ∧ okT s xs = s.ok ∧ Below w.heap.size w w1) := ⟨hy, okT_ok hx, Below.next HT.out hb1⟩
  clear hb1 hy hx
  go_wp2_with (with_reducible refine stopStore 75 rfl ?_)
  refine store_fresh 75 w1.heap.size rfl (tc (List.replicate 28 0)) (tc ys) 75 rfl rfl rfl rfl (tallySize HB.out.1) (by rw [tc_size, tc_size, HB.out.1]; rfl) (tc_one _) ?_
  intro W2 _ hb2
  have HB2 : Hid (Below w.heap.size w W2) := Below.next HB.out.2.2 hb2
  clear hb2
  go_wp2
  go_ret
  exact ⟨ret_bool HB.out.2.1, HB2.out⟩
end Go.Proofs.Ytbmbmnhamogghap
/- The walks through the model's SetSize and SetApart. No statement of the seat is proved here. -/
namespace Go.Proofs.Ytbmbmnhamogghap
open Go.RowKit
def Sp.sum (ps : Sp) : Int := (ps.map fun p => p.2 - p.1 + 1).sum
def Sp.size (ps : Sp) : Int := if ps.ok = true then ps.sum else 0
theorem Sp.sum_snoc (ps : Sp) (p : Int × Int) : Sp.sum (ps ++ [p]) = ps.sum + (p.2 - p.1 + 1) := by simp [Sp.sum]
theorem Sp.sum_step {ps : Sp} {k : Nat} (hk : k < ps.length) : Sp.sum (ps.take (k + 1)) = Sp.sum (ps.take k) + ((ps.at k).2 - (ps.at k).1 + 1) := by
  rw [takeP_succ ps k hk, Sp.sum_snoc]
  rfl
theorem Sp.sum_nil : Sp.sum [] = 0 := rfl
theorem Sp.sum_range {ps : Sp} (h : ps.ok = true) : ∀ k, k ≤ ps.length → 0 ≤ Sp.sum (ps.take k) ∧ Sp.sum (ps.take k) ≤ 10000 * k
  | 0, _ => by simp [Sp.sum]
  | k + 1, hk => by
    have ih := Sp.sum_range h k (by omega)
    have e := Sp.sum_step (ps := ps) (k := k) (by omega)
    have p := (Sp.okAt_parts (Sp.ok_at h k (by omega))).1
    omega
theorem Sp.size_not {ps : Sp} (h : ps.ok = false) : ps.size = 0 := by unfold Sp.size; rw [h]; rfl
theorem Sp.size_ok {ps : Sp} (h : ps.ok = true) : ps.size = ps.sum := by unfold Sp.size; rw [if_pos h]
def meet (p q : Int × Int) : Bool := decide (p.1 ≤ q.2 ∧ q.1 ≤ p.2)
def Sp.apart (ps qs : Sp) : Bool := ps.ok && qs.ok && ps.all fun p => qs.all fun q => !meet p q
theorem Sp.apart_not {ps qs : Sp} (h : (ps.ok && qs.ok) = false) : ps.apart qs = false := by unfold Sp.apart; rw [h]; rfl
theorem Sp.apart_meet {ps qs : Sp} {i k : Nat} (hi : i < ps.length) (hk : k < qs.length) (h : (ps.at i).1 ≤ (qs.at k).2 ∧ (qs.at k).1 ≤ (ps.at i).2) : ps.apart qs = false := by
  unfold Sp.at at h
  rw [List.getElem?_eq_getElem hi, List.getElem?_eq_getElem hk] at h
  unfold Sp.apart
  rw [Bool.and_eq_false_iff]
  right
  rw [List.all_eq_false]
  refine ⟨ps[i], List.getElem_mem hi, ?_⟩
  rw [Bool.not_eq_true, List.all_eq_false]
  refine ⟨qs[k], List.getElem_mem hk, ?_⟩
  unfold meet
  rw [decT (by simpa using h)]
  decide
theorem Sp.apart_yes {ps qs : Sp} (h1 : ps.ok = true) (h2 : qs.ok = true) (h : ∀ i, i < ps.length → ∀ k, k < qs.length → ¬ ((ps.at i).1 ≤ (qs.at k).2 ∧ (qs.at k).1 ≤ (ps.at i).2)) : ps.apart qs = true := by
  unfold Sp.apart
  rw [h1, h2]
  simp only [Bool.and_self, Bool.true_and]
  rw [List.all_eq_true]
  intro p hp
  rw [List.all_eq_true]
  intro q hq
  obtain ⟨i, hi, rfl⟩ := List.getElem_of_mem hp
  obtain ⟨k, hk, rfl⟩ := List.getElem_of_mem hq
  have := h i hi k hk
  unfold Sp.at at this
  rw [List.getElem?_eq_getElem hi, List.getElem?_eq_getElem hk] at this
  unfold meet
  rw [decF (by simpa using this)]
  rfl
end Go.Proofs.Ytbmbmnhamogghap
/- The walk through the model's SetApart. No statement of the seat is proved here. -/
namespace Go.Proofs.Ytbmbmnhamogghap
open Go.RowKit
theorem QuietTo.trans {a b c : World} (h : QuietTo a b) (k : QuietTo b c) : QuietTo a c := by
  obtain ⟨m, rfl⟩ := h
  obtain ⟨n, rfl⟩ := k
  exact ⟨m + n, World.drewN_drewN ..⟩
theorem RdP.quiet {w w' : World} {a : Option Addr} {len : Nat} {ps : Sp} {F : List Nat} (h : RdP w a len ps F) (q : QuietTo w w') : RdP w' a len ps F := h.below (quiet_below q)
set_option maxRecDepth 200000 in
set_option maxHeartbeats 4000000 in
theorem apartSpec_any (a b : Option Addr) (la lb ca cb : Nat) (ps qs : Sp) (F G : List Nat) (w : World) (h : RdP w a la ps F) (k : RdP w b lb qs G) (hla : la ≤ 140737488355328) (hlb : lb ≤ 140737488355328) :
    Calls Try.prog 54 #[.slice a la ca, .slice b lb cb] w fun e w' => e = .returned (.bool (ps.apart qs)) ∧ ∃ m, w' = w.drewN m := by
  have HL : Hid (ps.length = la ∧ qs.length = lb) := ⟨h.length, k.length⟩
  have HR : Hid (RdP w a la ps F ∧ RdP w b lb qs G) := ⟨h, k⟩
  clear h k
  go_enter Try.func54, Try.ntmps54
  go_wp2_with fail
  refine (setOkSpec_any a la ca ps F _ HR.out.1 hla).mono ?_
  rintro e w1 ⟨rfl, hq⟩
  have HQ0 : Hid (QuietTo w w1) := hq
  clear hq
  obtain ⟨d, hd⟩ : ∃ d, d = ps.ok := ⟨_, rfl⟩
  rw [← hd]
  have HD : Hid (d = ps.ok) := hd
  clear hd
  cases d
  · go_wp2
    go_ret
    rw [Sp.apart_not (by rw [← HD.out]; rfl)]
    exact ⟨rfl, HQ0.out⟩
  go_wp2_with fail
  refine (setOkSpec_any b lb cb qs G _ (HR.out.2.quiet HQ0.out) hlb).mono ?_
  rintro e w2 ⟨rfl, hq⟩
  have HQ1 : Hid (QuietTo w w2) := HQ0.out.trans hq
  clear hq HQ0
  obtain ⟨d, hd⟩ : ∃ d, d = qs.ok := ⟨_, rfl⟩
  rw [← hd]
  have HE : Hid (d = qs.ok) := hd
  clear hd
  cases d
  · go_wp2
    go_ret
    rw [Sp.apart_not (by rw [← HD.out, ← HE.out]; rfl)]
    exact ⟨rfl, HQ1.out⟩
  have HCA : Hid (la = 0 ∨ ∃ b1 o1, a = some ⟨b1, o1, none⟩ ∧ SpCells w b1 o1 la ps) := by
    rcases HR.out.1.cells with ⟨h0, _⟩ | ⟨b1, o1, _, e, _, hc⟩
    · exact .inl h0
    · exact .inr ⟨b1, o1, e, hc⟩
  have HCB : Hid (lb = 0 ∨ ∃ b1 o1, b = some ⟨b1, o1, none⟩ ∧ SpCells w b1 o1 lb qs) := by
    rcases HR.out.2.cells with ⟨h0, _⟩ | ⟨b1, o1, _, e, _, hc⟩
    · exact .inl h0
    · exact .inr ⟨b1, o1, e, hc⟩
  clear HR
  go_wp2
  go_loopw [5] (fun i wr => ∃ (n : Nat), n ≤ la ∧ i = .int .i64 n ∧ Hid (QuietTo w wr) ∧ Hid (∀ i, i < n → ∀ k, k < qs.length → ¬ ((ps.at i).1 ≤ (qs.at k).2 ∧ (qs.at k).1 ≤ (ps.at i).2))) (fun i _ => la - (intOf i).toNat)
  case atStart => exact ⟨0, by omega, rfl, HQ1, fun j hj => by omega⟩
  case round =>
    obtain ⟨n, hn, rfl, HQ, HN⟩ := hrel
    by_cases hlt : n < la
    · have hca := HCA.out
      rcases hca with h0 | ⟨b1, o1, rfl, hc1⟩
      · omega
      obtain ⟨x, hx⟩ : ∃ x, x = (ps.at n).1 := ⟨_, rfl⟩
      obtain ⟨y, hy⟩ : ∃ x, x = (ps.at n).2 := ⟨_, rfl⟩
      have e := hc1 n hlt
      rw [← hx, ← hy] at e
      have HX : Hid ((x = (ps.at n).1 ∧ y = (ps.at n).2) ∧ w.cell? ⟨b1, o1 + n * 2, none⟩ = some (.int .i64 x) ∧ w.cell? ⟨b1, o1 + n * 2 + 1, none⟩ = some (.int .i64 y)) := ⟨⟨hx, hy⟩, e⟩
      have hI : (n : Int) < (la : Int) := by omega
      clear e hx hy hc1
      go_wp2
      go_loopw [6] (fun i ws => ∃ (k : Nat), k ≤ lb ∧ i = .int .i64 k ∧ Hid (QuietTo w ws) ∧ Hid (∀ j, j < k → ¬ (x ≤ (qs.at j).2 ∧ (qs.at j).1 ≤ y))) (fun i _ => lb - (intOf i).toNat)
      case atStart => exact ⟨0, by omega, rfl, HQ, fun j hj => by omega⟩
      case round =>
        clear HQ
        obtain ⟨k, hk, rfl, HQ, HM⟩ := hrel
        by_cases hlt2 : k < lb
        · have hcb := HCB.out
          rcases hcb with h0 | ⟨b2, o2, rfl, hc2⟩
          · omega
          obtain ⟨x', hx⟩ : ∃ x, x = (qs.at k).1 := ⟨_, rfl⟩
          obtain ⟨y', hy⟩ : ∃ x, x = (qs.at k).2 := ⟨_, rfl⟩
          have e := hc2 k hlt2
          rw [← hx, ← hy] at e
          have d1 : wr.cell? ⟨b1, o1 + n * 2, none⟩ = some (.int .i64 x) := (HQ.out.cell _).trans HX.out.2.1
          have d2 : wr.cell? ⟨b1, o1 + n * 2 + 1, none⟩ = some (.int .i64 y) := (HQ.out.cell _).trans HX.out.2.2
          have d3 : wr.cell? ⟨b2, o2 + k * 2, none⟩ = some (.int .i64 x') := (HQ.out.cell _).trans e.1
          have d4 : wr.cell? ⟨b2, o2 + k * 2 + 1, none⟩ = some (.int .i64 y') := (HQ.out.cell _).trans e.2
          have HY : Hid (x' = (qs.at k).1 ∧ y' = (qs.at k).2) := ⟨hx, hy⟩
          have hI2 : (k : Int) < (lb : Int) := by omega
          clear e hx hy hc2
          by_cases h1 : x ≤ y'
          · have h1d : decide (x ≤ y') = true := decT h1
            by_cases h2 : x' ≤ y
            · have h2d : decide (x' ≤ y) = true := decT h2
              have HV : Hid (ps.apart qs = false) := Sp.apart_meet (i := n) (k := k) (by rw [HL.out.1]; exact hlt) (by rw [HL.out.2]; exact hlt2) (by rw [← HX.out.1.1, ← HX.out.1.2, ← HY.out.1, ← HY.out.2]; exact ⟨h1, h2⟩)
              go_wp2
              go_quiet (fail)
              go_wp2
              go_ret
              rw [HV.out]
              exact ⟨rfl, HQ.out.drewN _⟩
            · have h2d : decide (x' ≤ y) = false := decF h2
              have HM2 : Hid (∀ j, j < k + 1 → ¬ (x ≤ (qs.at j).2 ∧ (qs.at j).1 ≤ y)) := all_up HM.out (by rw [← HY.out.1, ← HY.out.2]; exact fun e => h2 e.2)
              go_wp2
              go_quiet (fail)
              go_wp2
              go_roundw
              case rel => exact ⟨k + 1, by omega, by go_num, HQ.out.drewN _, HM2⟩
              case measure => simp [intOf]; omega
          · have h1d : decide (x ≤ y') = false := decF h1
            have HM2 : Hid (∀ j, j < k + 1 → ¬ (x ≤ (qs.at j).2 ∧ (qs.at j).1 ≤ y)) := all_up HM.out (by rw [← HY.out.1, ← HY.out.2]; exact fun e => h1 e.1)
            go_wp2
            go_quiet (fail)
            go_wp2
            go_roundw
            case rel => exact ⟨k + 1, by omega, by go_num, HQ.out.drewN _, HM2⟩
            case measure => simp [intOf]; omega
        · obtain rfl : k = lb := by omega
          have HN2 : Hid (∀ i, i < n + 1 → ∀ k, k < qs.length → ¬ ((ps.at i).1 ≤ (qs.at k).2 ∧ (qs.at k).1 ≤ (ps.at i).2)) := all_up HN.out (fun j hj => by rw [← HX.out.1.1, ← HX.out.1.2]; exact HM.out j (by rw [← HL.out.2]; exact hj))
          go_wp2
          go_roundw
          case rel => exact ⟨n + 1, by omega, by go_num, HQ, HN2⟩
          case measure => simp [intOf]; omega
    · obtain rfl : n = la := by omega
      have HV : Hid (ps.apart qs = true) := Sp.apart_yes HD.out.symm HE.out.symm (fun i hi => HN.out i (by rw [← HL.out.1]; exact hi))
      go_wp2
      go_ret
      rw [HV.out]
      exact ⟨rfl, HQ.out⟩
end Go.Proofs.Ytbmbmnhamogghap
