/- The program's look at all numbers of its row. No statement of the seat is proved here. -/
import Derived.Test.YtjnamoppcklomaaGreatTallyC
set_option maxRecDepth 200000
set_option maxHeartbeats 16000000
namespace Go.Proofs.YtjnamoppcklomaaGreat
open Go.RowKit
def inB (xs : List Int) : Bool :=
 decide (0 ≤ xs.getD 0 0 ∧ xs.getD 0 0 ≤ 1000000000) && decide (0 ≤ xs.getD 1 0 ∧ xs.getD 1 0 ≤ 1000000000) && decide (0 ≤ xs.getD 2 0 ∧ xs.getD 2 0 ≤ 1000000) && decide (0 ≤ xs.getD 3 0 ∧ xs.getD 3 0 ≤ 1000000) &&
 ((xs.drop 20).take 4).all (okN 1000000000 false) && ((xs.drop 24).take 4).all (okN 1000000000 false) && ((xs.drop 4).take 8).all (okN 1000000000 false) && ((xs.drop 12).take 8).all (okN 17 false)
theorem rdI_tc {W : World} {g off n : Nat} {xs : List Int} {t : TypeId} (h : Blk W g (tc xs) t) (hfit : off + n ≤ xs.length) (hp : 0 < n) : RdI W (some ⟨g, off, none⟩) n ((xs.drop off).take n) [g] := by
 refine ⟨by simp; omega, .inr ⟨g, off, hp, rfl, rfl, fun i hi => ?_⟩⟩
 rw [h.cell, tc_get (by omega)]
 simp [hi]
theorem rdI_tc0 {W : World} {g n : Nat} {xs : List Int} {t : TypeId} (h : Blk W g (tc xs) t) (hn : xs.length = n) (hp : 0 < n) : RdI W (some ⟨g, 0, none⟩) n xs [g] := by
 have := rdI_tc h (off := 0) (n := n) (by omega) hp
 rw [List.drop_zero, List.take_of_length_le (by omega)] at this
 exact this
theorem run_index_row {P : Program} (w : World) (t u e : TypeId) (zs : List Int) (i : Int) (n : Nat) (hn : i = n) (h2 : n < 2) (ht : P.underlying t = some (.array 2 u)) (hu : P.underlying u = some (.array 4 e)) (hs : ∀ w, (sizeOf u).run P w = .ok 4 w) :
 (Instr.index t (.agg (tc zs)) (.int .i64 i)).run P w = .ok (.agg (tc ((zs.drop (n * 4)).take 4))) w := by
 have hagg : (isAgg u).run P w = .ok true w := by unfold isAgg; rw [Sem.run_bind, run_underlying hu w]; simp
 subst hn
 have h3 : (0 : Int) ≤ n ∧ (n : Int) < 2 := by omega
 unfold Instr.index part
 simp [asIntOf, run_underlying ht, Sem.run_bind, h3, hs, hagg, tc_extract]
 intro h; omega
theorem inBounds_any (xs : List Int) (w : World) (hx : xs.length = 28) :
 Calls Tryz.prog 166 #[.agg (tc xs)] w fun e w' => e = .returned (.bool (inB xs)) ∧ Below w.heap.size w w' := by
 have HL : Hid (xs.length = 28) := hx
 have HT : Hid (Blk (w.alloc (.cells (tc xs) 118)) w.heap.size (tc xs) 118 ∧ Below w.heap.size w (w.alloc (.cells (tc xs) 118))) := ⟨Blk.made _ _ _, (Below.refl _ _).alloc (Nat.le_refl _) _⟩
 obtain ⟨d, hd⟩ : ∃ d, d = inB xs := ⟨_, rfl⟩
 rw [← hd]
 have HD : Hid (d = inB xs) := hd
 obtain ⟨x0, hx0⟩ : ∃ x, x = xs.getD 0 0 := ⟨_, rfl⟩
 obtain ⟨x1, hx1⟩ : ∃ x, x = xs.getD 1 0 := ⟨_, rfl⟩
 obtain ⟨x2, hx2⟩ : ∃ x, x = xs.getD 2 0 := ⟨_, rfl⟩
 obtain ⟨x3, hx3⟩ : ∃ x, x = xs.getD 3 0 := ⟨_, rfl⟩
 have a0 : (tc xs)[0]? = some (.int .i64 x0) := by rw [hx0]; exact tc_get (by omega)
 have a1 : (tc xs)[1]? = some (.int .i64 x1) := by rw [hx1]; exact tc_get (by omega)
 have a2 : (tc xs)[2]? = some (.int .i64 x2) := by rw [hx2]; exact tc_get (by omega)
 have a3 : (tc xs)[3]? = some (.int .i64 x3) := by rw [hx3]; exact tc_get (by omega)
 have HX : Hid (x0 = xs.getD 0 0 ∧ x1 = xs.getD 1 0 ∧ x2 = xs.getD 2 0 ∧ x3 = xs.getD 3 0) := ⟨hx0, hx1, hx2, hx3⟩
 clear hx hd hx0 hx1 hx2 hx3
 go_enter Tryz.func166, Tryz.ntmps166
 go_wp2_with fail
 refine (inRange_any _ _ _).mono ?_
 rintro e w1 ⟨rfl, hw1⟩
 have hw1' := hw1.symm
 subst hw1'
 clear hw1
 by_cases p0 : 0 ≤ x0 ∧ x0 ≤ 1000000000
 rotate_left
 ·
  rw [dec_false p0]
  have HN : Hid (d = false) := by show d = _; rw [HD.out]; unfold inB; rw [← HX.out.1, dec_false p0]; simp
  clear p0
  go_wp2
  go_ret
  exact ⟨ret_bool HN.out.symm, HT.out.2⟩
 rw [dec_true p0]
 have P0 : Hid (decide (0 ≤ x0 ∧ x0 ≤ 1000000000) = true) := dec_true p0
 clear p0
 go_wp2_with fail
 refine (inRange_any _ _ _).mono ?_
 rintro e w1 ⟨rfl, hw1⟩
 have hw1' := hw1.symm
 subst hw1'
 clear hw1
 by_cases p1 : 0 ≤ x1 ∧ x1 ≤ 1000000000
 rotate_left
 ·
  rw [dec_false p1]
  have HN : Hid (d = false) := by show d = _; rw [HD.out]; unfold inB; rw [← HX.out.2.1, dec_false p1]; simp
  clear p1
  go_wp2
  go_ret
  exact ⟨ret_bool HN.out.symm, HT.out.2⟩
 rw [dec_true p1]
 have P1 : Hid (decide (0 ≤ x1 ∧ x1 ≤ 1000000000) = true) := dec_true p1
 clear p1
 go_wp2_with fail
 refine (inRange_any _ _ _).mono ?_
 rintro e w1 ⟨rfl, hw1⟩
 have hw1' := hw1.symm
 subst hw1'
 clear hw1
 by_cases p2 : 0 ≤ x2 ∧ x2 ≤ 1000000
 rotate_left
 ·
  rw [dec_false p2]
  have HN : Hid (d = false) := by show d = _; rw [HD.out]; unfold inB; rw [← HX.out.2.2.1, dec_false p2]; simp
  clear p2
  go_wp2
  go_ret
  exact ⟨ret_bool HN.out.symm, HT.out.2⟩
 rw [dec_true p2]
 have P2 : Hid (decide (0 ≤ x2 ∧ x2 ≤ 1000000) = true) := dec_true p2
 clear p2
 go_wp2_with fail
 refine (inRange_any _ _ _).mono ?_
 rintro e w1 ⟨rfl, hw1⟩
 have hw1' := hw1.symm
 subst hw1'
 clear hw1
 by_cases p3 : 0 ≤ x3 ∧ x3 ≤ 1000000
 rotate_left
 ·
  rw [dec_false p3]
  have HN : Hid (d = false) := by show d = _; rw [HD.out]; unfold inB; rw [← HX.out.2.2.2, dec_false p3]; simp
  clear p3
  go_wp2
  go_ret
  exact ⟨ret_bool HN.out.symm, HT.out.2⟩
 rw [dec_true p3]
 have P3 : Hid (decide (0 ≤ x3 ∧ x3 ≤ 1000000) = true) := dec_true p3
 clear p3
 go_wp2_with (first | go_skip | (with_reducible refine stopLoad 116 rfl ?_))
 refine load_part 116 w.heap.size 20 8 xs 118 _ HT.out.1 rfl rfl rfl Tryz.underlying116 rfl (by kernel_rfl) (by rw [HL.out]; omega) ?_
 obtain ⟨A, hA⟩ : ∃ A, A = (xs.drop 20).take 8 := ⟨_, rfl⟩
 rw [← hA]
 obtain ⟨R0, hR0⟩ : ∃ A, A = (xs.drop 20).take 4 := ⟨_, rfl⟩
 obtain ⟨R1, hR1⟩ : ∃ A, A = (xs.drop 24).take 4 := ⟨_, rfl⟩
 have HRE : Hid (R0 = (xs.drop 20).take 4 ∧ R1 = (xs.drop 24).take 4) := ⟨hR0, hR1⟩
 have HRL : Hid (R0.length = 4 ∧ R1.length = 4) := ⟨by rw [hR0]; simp; have := HL.out; omega, by rw [hR1]; simp; have := HL.out; omega⟩
 have i0 : ∀ w, (Instr.index 116 (.agg (tc A)) (.int .i64 0)).run Tryz.prog w = .ok (.agg (tc R0)) w := fun w => by
  rw [run_index_row w 116 115 3 A 0 0 rfl (by omega) Tryz.underlying116 Tryz.underlying115 (fun _ => by simp), hA, hR0]
  simp [List.take_take]
 have i1 : ∀ w, (Instr.index 116 (.agg (tc A)) (.int .i64 1)).run Tryz.prog w = .ok (.agg (tc R1)) w := fun w => by
  rw [run_index_row w 116 115 3 A 1 1 rfl (by omega) Tryz.underlying116 Tryz.underlying115 (fun _ => by simp), hA, hR1]
  rw [List.drop_take, List.drop_drop, List.take_take]
  rfl
 clear hA hR0 hR1
 go_wp2
 refine wp_loop_rounds 3 ?_
 rw [rounds_succ]
 go_wp2_with (first | (with_reducible refine stopStore 115 rfl ?_))
 refine store_fresh 115 (w.heap.size + 1) (by simp) (tc (List.replicate 4 0)) (tc R0) 115 rfl rfl rfl rfl (by rw [tc_size, HRL.out.1]; kernel_rfl) (by rw [tc_size, tc_size, HRL.out.1]; rfl) (tc_one _) ?_
 intro W0 hg0 hb0
 have HB0 : Hid (Below w.heap.size w W0 ∧ Blk W0 w.heap.size (tc xs) 118) := ⟨Below.next HT.out.2 hb0, HT.out.1.below hb0⟩
 have HG0 : Hid (Blk W0 _ (tc R0) 115) := hg0
 clear hg0 hb0
 go_wp2_with fail
 refine (allInRange_any _ 4 _ R0 _ 1000000000 _ (rdI_tc0 HG0.out HRL.out.1 (by omega)) (by omega)).mono ?_
 rintro e w1 ⟨rfl, hw1⟩
 have hw1' := hw1.symm
 subst hw1'
 clear hw1
 cases l0 : R0.all (okN 1000000000 false)
 ·
  have HN : Hid (d = false) := by show d = _; rw [HD.out]; unfold inB; rw [← HRE.out.1, l0]; simp
  clear l0
  go_wp2
  go_ret
  exact ⟨ret_bool HN.out.symm, HB0.out.1⟩
 have L0 : Hid (R0.all (okN 1000000000 false) = true) := l0
 clear l0
 go_wp2_with fail
 rw [rounds_succ]
 go_wp2_with (first | (with_reducible refine stopStore 115 rfl ?_))
 refine store_fresh 115 W0.heap.size rfl (tc (List.replicate 4 0)) (tc R1) 115 rfl rfl rfl rfl (by rw [tc_size, HRL.out.2]; kernel_rfl) (by rw [tc_size, tc_size, HRL.out.2]; rfl) (tc_one _) ?_
 intro W1 hg1 hb1
 have HB1 : Hid (Below w.heap.size w W1 ∧ Blk W1 w.heap.size (tc xs) 118) := ⟨Below.next HB0.out.1 hb1, HB0.out.2.below hb1⟩
 have HG1 : Hid (Blk W1 _ (tc R1) 115) := hg1
 clear hg1 hb1
 go_wp2_with fail
 refine (allInRange_any _ 4 _ R1 _ 1000000000 _ (rdI_tc0 HG1.out HRL.out.2 (by omega)) (by omega)).mono ?_
 rintro e w1 ⟨rfl, hw1⟩
 have hw1' := hw1.symm
 subst hw1'
 clear hw1
 cases l1 : R1.all (okN 1000000000 false)
 ·
  have HN : Hid (d = false) := by show d = _; rw [HD.out]; unfold inB; rw [← HRE.out.2, l1]; simp
  clear l1
  go_wp2
  go_ret
  exact ⟨ret_bool HN.out.symm, HB1.out.1⟩
 have L1 : Hid (R1.all (okN 1000000000 false) = true) := l1
 clear l1
 go_wp2_with fail
 rw [rounds_succ]
 go_wp2_with fail
 refine (allInRange_any _ 8 _ ((xs.drop 4).take 8) _ 1000000000 _ (rdI_tc HB1.out.2 (by have := HL.out; omega) (by omega)) (by omega)).mono ?_
 rintro e w1 ⟨rfl, hw1⟩
 have hw1' := hw1.symm
 subst hw1'
 clear hw1
 cases l2 : ((xs.drop 4).take 8).all (okN 1000000000 false)
 ·
  have HN : Hid (d = false) := by show d = _; rw [HD.out]; unfold inB; rw [l2]; simp
  clear l2
  go_wp2
  go_ret
  exact ⟨ret_bool HN.out.symm, HB1.out.1⟩
 have L2 : Hid (((xs.drop 4).take 8).all (okN 1000000000 false) = true) := l2
 clear l2
 go_wp2_with fail
 refine (allInRange_any _ 8 _ ((xs.drop 12).take 8) _ 17 _ (rdI_tc HB1.out.2 (by have := HL.out; omega) (by omega)) (by omega)).mono ?_
 rintro e w1 ⟨rfl, hw1⟩
 have hw1' := hw1.symm
 subst hw1'
 clear hw1
 obtain ⟨d2, hd2⟩ : ∃ d, d = ((xs.drop 12).take 8).all (okN 17 false) := ⟨_, rfl⟩
 rw [← hd2]
 have HE : Hid (d = d2) := by show d = _; rw [HD.out]; unfold inB; rw [← HX.out.1, ← HX.out.2.1, ← HX.out.2.2.1, ← HX.out.2.2.2, P0.out, P1.out, P2.out, P3.out, ← HRE.out.1, ← HRE.out.2, L0.out, L1.out, L2.out, hd2]; simp
 clear hd2
 go_wp2
 go_ret
 exact ⟨ret_bool HE.out.symm, HB1.out.1⟩
end Go.Proofs.YtjnamoppcklomaaGreat
