/- Two rows of numbers of the program's own kind, compared; a summary that is right. No statement of the seat is proved here. -/
import Derived.Test.YtjnamoppcklomaaGreatTallyB
import Derived.Test.YtjnamoppcklomaaGreatArrEq
set_option maxRecDepth 200000
set_option maxHeartbeats 16000000
namespace Go.Proofs.YtjnamoppcklomaaGreat
open Go.RowKit
theorem same_any (xs ys : List Int) (w : World) (hx : xs.length = 28) (hy : ys.length = 28) :
 Calls Tryz.prog 85 #[.agg (tc xs), .agg (tc ys)] w fun e w' => e = .returned (.bool (decide (xs = ys))) ∧ Below w.heap.size w w' := by
 have HL : Hid (xs.length = 28 ∧ ys.length = 28) := ⟨hx, hy⟩
 have HT : Hid (_ ∧ _ ∧ _) := two_made w (tc xs) (tc ys) 118 118
 obtain ⟨d, hd⟩ : ∃ d, d = decide (xs = ys) := ⟨_, rfl⟩
 rw [← hd]
 have HD : Hid (d = decide (xs = ys)) := hd
 obtain ⟨x0, hx0⟩ : ∃ x, x = xs.getD 0 0 := ⟨_, rfl⟩
 obtain ⟨x1, hx1⟩ : ∃ x, x = xs.getD 1 0 := ⟨_, rfl⟩
 obtain ⟨x2, hx2⟩ : ∃ x, x = xs.getD 2 0 := ⟨_, rfl⟩
 obtain ⟨x3, hx3⟩ : ∃ x, x = xs.getD 3 0 := ⟨_, rfl⟩
 obtain ⟨y0, hy0⟩ : ∃ x, x = ys.getD 0 0 := ⟨_, rfl⟩
 obtain ⟨y1, hy1⟩ : ∃ x, x = ys.getD 1 0 := ⟨_, rfl⟩
 obtain ⟨y2, hy2⟩ : ∃ x, x = ys.getD 2 0 := ⟨_, rfl⟩
 obtain ⟨y3, hy3⟩ : ∃ x, x = ys.getD 3 0 := ⟨_, rfl⟩
 have a0 : (tc xs)[0]? = some (.int .i64 x0) := by rw [hx0]; exact tc_get (by omega)
 have a1 : (tc xs)[1]? = some (.int .i64 x1) := by rw [hx1]; exact tc_get (by omega)
 have a2 : (tc xs)[2]? = some (.int .i64 x2) := by rw [hx2]; exact tc_get (by omega)
 have a3 : (tc xs)[3]? = some (.int .i64 x3) := by rw [hx3]; exact tc_get (by omega)
 have b0 : (tc ys)[0]? = some (.int .i64 y0) := by rw [hy0]; exact tc_get (by omega)
 have b1 : (tc ys)[1]? = some (.int .i64 y1) := by rw [hy1]; exact tc_get (by omega)
 have b2 : (tc ys)[2]? = some (.int .i64 y2) := by rw [hy2]; exact tc_get (by omega)
 have b3 : (tc ys)[3]? = some (.int .i64 y3) := by rw [hy3]; exact tc_get (by omega)
 have HX : Hid ((x0 = xs.getD 0 0 ∧ y0 = ys.getD 0 0) ∧ (x1 = xs.getD 1 0 ∧ y1 = ys.getD 1 0) ∧ (x2 = xs.getD 2 0 ∧ y2 = ys.getD 2 0) ∧ (x3 = xs.getD 3 0 ∧ y3 = ys.getD 3 0)) := ⟨⟨hx0, hy0⟩, ⟨hx1, hy1⟩, ⟨hx2, hy2⟩, ⟨hx3, hy3⟩⟩
 clear hx hy hd hx0 hx1 hx2 hx3 hy0 hy1 hy2 hy3
 go_enter Tryz.func85, Tryz.ntmps85
 by_cases q0 : x0 = y0
 rotate_left
 ·
  have q0' : (x0 == y0) = false := by simpa using q0
  have HN : Hid (d = false) := by show d = _; rw [HD.out]; exact dec_false (fun e => q0 (by rw [HX.out.1.1, HX.out.1.2, e]))
  clear q0
  go_wp2
  go_ret
  exact ⟨ret_bool HN.out.symm, HT.out.2.2⟩
 have Q0 : Hid (x0 = y0) := q0
 have q0' : (x0 == y0) = true := by simpa using q0
 clear q0
 by_cases q1 : x1 = y1
 rotate_left
 ·
  have q1' : (x1 == y1) = false := by simpa using q1
  have HN : Hid (d = false) := by show d = _; rw [HD.out]; exact dec_false (fun e => q1 (by rw [HX.out.2.1.1, HX.out.2.1.2, e]))
  clear q1
  go_wp2
  go_ret
  exact ⟨ret_bool HN.out.symm, HT.out.2.2⟩
 have Q1 : Hid (x1 = y1) := q1
 have q1' : (x1 == y1) = true := by simpa using q1
 clear q1
 by_cases q2 : x2 = y2
 rotate_left
 ·
  have q2' : (x2 == y2) = false := by simpa using q2
  have HN : Hid (d = false) := by show d = _; rw [HD.out]; exact dec_false (fun e => q2 (by rw [HX.out.2.2.1.1, HX.out.2.2.1.2, e]))
  clear q2
  go_wp2
  go_ret
  exact ⟨ret_bool HN.out.symm, HT.out.2.2⟩
 have Q2 : Hid (x2 = y2) := q2
 have q2' : (x2 == y2) = true := by simpa using q2
 clear q2
 by_cases q3 : x3 = y3
 rotate_left
 ·
  have q3' : (x3 == y3) = false := by simpa using q3
  have HN : Hid (d = false) := by show d = _; rw [HD.out]; exact dec_false (fun e => q3 (by rw [HX.out.2.2.2.1, HX.out.2.2.2.2, e]))
  clear q3
  go_wp2
  go_ret
  exact ⟨ret_bool HN.out.symm, HT.out.2.2⟩
 have Q3 : Hid (x3 = y3) := q3
 have q3' : (x3 == y3) = true := by simpa using q3
 clear q3
 go_wp2_with (first | go_skip | (with_reducible refine stopLoad 114 rfl ?_))
 refine load_part 114 w.heap.size 4 8 xs 118 _ HT.out.1 rfl rfl rfl Tryz.underlying114 rfl (by kernel_rfl) (by rw [HL.out.1]; omega) ?_
 go_wp2_with (first | go_skip | (with_reducible refine stopLoad 114 rfl ?_))
 refine load_part 114 (w.heap.size + 1) 4 8 ys 118 _ HT.out.2.1 rfl rfl rfl Tryz.underlying114 rfl (by kernel_rfl) (by rw [HL.out.2]; omega) ?_
 have hq0 : ∀ w, (Op.equalIn 10000 114 (.agg (tc ((xs.drop 4).take 8))) (.agg (tc ((ys.drop 4).take 8)))).run Tryz.prog w = .ok (decide ((xs.drop 4).take 8 = (ys.drop 4).take 8)) w := fun w => run_eq_ints w 9998 114 3 8 _ _ Tryz.underlying114 Tryz.underlying3 (fun _ => by simp) (by simp; have := HL.out.1; omega) (by simp; have := HL.out.2; omega)
 cases q4 : decide ((xs.drop 4).take 8 = (ys.drop 4).take 8)
 ·
  rw [q4] at hq0
  have HN : Hid (d = false) := by show d = _; rw [HD.out]; exact dec_false (fun e => by rw [e] at q4; simp at q4)
  clear q4
  go_wp2
  go_ret
  exact ⟨ret_bool HN.out.symm, HT.out.2.2⟩
 rw [q4] at hq0
 have Q4 : Hid ((xs.drop 4).take 8 = (ys.drop 4).take 8) := (show (xs.drop 4).take 8 = (ys.drop 4).take 8 from of_decide_eq_true q4)
 clear q4
 go_wp2_with (first | go_skip | (with_reducible refine stopLoad 114 rfl ?_))
 refine load_part 114 w.heap.size 12 8 xs 118 _ HT.out.1 rfl rfl rfl Tryz.underlying114 rfl (by kernel_rfl) (by rw [HL.out.1]; omega) ?_
 go_wp2_with (first | go_skip | (with_reducible refine stopLoad 114 rfl ?_))
 refine load_part 114 (w.heap.size + 1) 12 8 ys 118 _ HT.out.2.1 rfl rfl rfl Tryz.underlying114 rfl (by kernel_rfl) (by rw [HL.out.2]; omega) ?_
 have hq1 : ∀ w, (Op.equalIn 10000 114 (.agg (tc ((xs.drop 12).take 8))) (.agg (tc ((ys.drop 12).take 8)))).run Tryz.prog w = .ok (decide ((xs.drop 12).take 8 = (ys.drop 12).take 8)) w := fun w => run_eq_ints w 9998 114 3 8 _ _ Tryz.underlying114 Tryz.underlying3 (fun _ => by simp) (by simp; have := HL.out.1; omega) (by simp; have := HL.out.2; omega)
 cases q5 : decide ((xs.drop 12).take 8 = (ys.drop 12).take 8)
 ·
  rw [q5] at hq1
  have HN : Hid (d = false) := by show d = _; rw [HD.out]; exact dec_false (fun e => by rw [e] at q5; simp at q5)
  clear q5
  go_wp2
  go_ret
  exact ⟨ret_bool HN.out.symm, HT.out.2.2⟩
 rw [q5] at hq1
 have Q5 : Hid ((xs.drop 12).take 8 = (ys.drop 12).take 8) := (show (xs.drop 12).take 8 = (ys.drop 12).take 8 from of_decide_eq_true q5)
 clear q5
 go_wp2_with (first | go_skip | (with_reducible refine stopLoad 116 rfl ?_))
 refine load_part 116 w.heap.size 20 8 xs 118 _ HT.out.1 rfl rfl rfl Tryz.underlying116 rfl (by kernel_rfl) (by rw [HL.out.1]; omega) ?_
 go_wp2_with (first | go_skip | (with_reducible refine stopLoad 116 rfl ?_))
 refine load_part 116 (w.heap.size + 1) 20 8 ys 118 _ HT.out.2.1 rfl rfl rfl Tryz.underlying116 rfl (by kernel_rfl) (by rw [HL.out.2]; omega) ?_
 have hq2 : ∀ w, (Op.equalIn 10000 116 (.agg (tc ((xs.drop 20).take 8))) (.agg (tc ((ys.drop 20).take 8)))).run Tryz.prog w = .ok (decide ((xs.drop 20).take 8 = (ys.drop 20).take 8)) w := fun w => run_eq_rows w 9997 116 115 3 _ _ Tryz.underlying116 Tryz.underlying115 Tryz.underlying3 (fun _ => by simp) (fun _ => by simp) (by simp; have := HL.out.1; omega) (by simp; have := HL.out.2; omega)
 cases q6 : decide ((xs.drop 20).take 8 = (ys.drop 20).take 8)
 ·
  rw [q6] at hq2
  have HN : Hid (d = false) := by show d = _; rw [HD.out]; exact dec_false (fun e => by rw [e] at q6; simp at q6)
  clear q6
  go_wp2
  go_ret
  exact ⟨ret_bool HN.out.symm, HT.out.2.2⟩
 rw [q6] at hq2
 have Q6 : Hid ((xs.drop 20).take 8 = (ys.drop 20).take 8) := (show (xs.drop 20).take 8 = (ys.drop 20).take 8 from of_decide_eq_true q6)
 clear q6
 have HN : Hid (d = true) := by show d = _; rw [HD.out]; exact dec_true (eq28 HL.out.1 HL.out.2 (by rw [← HX.out.1.1, ← HX.out.1.2]; exact Q0.out) (by rw [← HX.out.2.1.1, ← HX.out.2.1.2]; exact Q1.out) (by rw [← HX.out.2.2.1.1, ← HX.out.2.2.1.2]; exact Q2.out) (by rw [← HX.out.2.2.2.1, ← HX.out.2.2.2.2]; exact Q3.out) Q4.out Q5.out Q6.out)
 go_wp2
 go_ret
 exact ⟨ret_bool HN.out.symm, HT.out.2.2⟩
end Go.Proofs.YtjnamoppcklomaaGreat
