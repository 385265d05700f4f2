/- The walks through Mean, of the program and of the model. No statement of the seat is proved here. -/
import Derived.Test.YtlapdamopclojanTallyMath
import Derived.Test.YtlapdamopclojanSkOk
import Derived.Test.YtlapdamopclojanSkLaw
namespace Go.Proofs.Ytlapdamopclojan
open Go.RowKit
theorem okHead_of {s : Sk} (h : s.ok = true) : (0 ≤ s.count ∧ s.count ≤ 1000000000) ∧ (0 ≤ s.sum ∧ s.sum ≤ 1000000000) ∧ (0 ≤ s.min ∧ s.min ≤ 1000000) ∧ (0 ≤ s.max ∧ s.max ≤ 1000000) := by
  unfold Sk.ok okHead at h
  simp only [Bool.and_eq_true, decide_eq_true_eq] at h
  exact ⟨h.1.1.1.1.1.1.1, h.1.1.1.1.1.1.2, h.1.1.1.1.1.2, h.1.1.1.1.2⟩
def meanN (s : Sk) : Int := if s.ok = true ∧ s.count ≠ 0 then s.sum / s.count else 0
theorem meanN_not {s : Sk} (h : s.ok = false) : meanN s = 0 := by unfold meanN; rw [if_neg (by rw [h]; simp)]
theorem meanN_zero {s : Sk} (h : s.count = 0) : meanN s = 0 := by unfold meanN; rw [if_neg (by simp [h])]
theorem meanN_pos {s : Sk} (h : s.ok = true) (h0 : ¬ s.count = 0) : meanN s = s.sum / s.count := by unfold meanN; rw [if_pos ⟨h, h0⟩]
set_option maxHeartbeats 1000000 in
theorem meanImpl_any (v : Value) (s : Sk) (F : List Nat) (w : World) (h : RdSk w v s F) (hw : s.wide) :
    Calls Try.prog 11 #[v] w fun e w' => e = .returned (.int .i64 (meanN s)) ∧ Below w.heap.size w w' := by
  have HH : Hid (RdSk w v s F ∧ s.wide) := ⟨h, hw⟩
  obtain ⟨a1, n1, c1, a2, n2, c2, a3, n3, c3, F1, F2, F3, rfl, h1, h2, h3, _⟩ := h
  clear h1 h2 h3 hw
  have HT : Hid (Below w.heap.size w (w.alloc (.cells #[.int .i64 s.count, .int .i64 s.sum, .int .i64 s.min, .int .i64 s.max, .slice a1 n1 c1, .slice a2 n2 c2, .slice a3 n3 c3] 29))) := (Below.refl _ _).alloc (Nat.le_refl _) _
  go_enter Try.func11, Try.ntmps11
  go_wp2_with fail
  refine (okTally_any _ s F _ (HH.out.1.below HT.out) HH.out.2).mono ?_
  rintro e w1 ⟨xs, ys, rfl, _, hy, hx, hyx, hb1⟩
  have hok := okT_ok hx
  have HB : Hid (ys.length = 28 ∧ Below w.heap.size w w1 ∧ (s.ok = true → ys = s.tl)) := ⟨hy, Below.next HT.out hb1, fun e => by rw [hyx (hok.trans e)]; exact hx (Sk.ok_shaped e)⟩
  rw [hok]
  clear hb1 hy hx hyx hok
  obtain ⟨d, hd⟩ : ∃ d, d = s.ok := ⟨_, rfl⟩
  rw [← hd]
  have HD : Hid (d = s.ok) := hd
  clear hd
  go_wp2_with (with_reducible refine stopStore 47 rfl ?_)
  refine store_fresh 47 w1.heap.size rfl (tc (List.replicate 28 0)) (tc ys) 47 rfl rfl rfl rfl (tallySize HB.out.1) (by rw [tc_size, tc_size, HB.out.1]; rfl) (tc_one _) ?_
  intro W2 hg2 hb2
  have HB2 : Hid (Blk W2 w1.heap.size (tc ys) 47 ∧ Below w.heap.size w W2) := ⟨hg2, Below.next HB.out.2.1 hb2⟩
  clear hb2 hg2
  cases d
  · go_wp2
    go_ret
    exact ⟨ret_int (meanN_not HD.out.symm).symm, HB2.out.2⟩
  obtain ⟨x0, hx0⟩ : ∃ x, x = s.count := ⟨_, rfl⟩
  obtain ⟨x1, hx1⟩ : ∃ x, x = s.sum := ⟨_, rfl⟩
  have hE := okHead_of HD.out.symm
  have cc0 : W2.cell? ⟨w1.heap.size, 0, none⟩ = some (.int .i64 x0) := by rw [HB2.out.1.cell, HB.out.2.2 HD.out.symm, hx0]; rfl
  have cc1 : W2.cell? ⟨w1.heap.size, 1, none⟩ = some (.int .i64 x1) := by rw [HB2.out.1.cell, HB.out.2.2 HD.out.symm, hx1]; rfl
  have q0 : 0 ≤ x0 := by rw [hx0]; exact hE.1.1
  have q1 : x0 ≤ 1000000000 := by rw [hx0]; exact hE.1.2
  have q2 : 0 ≤ x1 := by rw [hx1]; exact hE.2.1.1
  have q3 : x1 ≤ 1000000000 := by rw [hx1]; exact hE.2.1.2
  have HX : Hid (x0 = s.count ∧ x1 = s.sum) := ⟨hx0, hx1⟩
  clear hx0 hx1 hE
  by_cases q : x0 = 0
  · subst q
    go_wp2
    go_ret
    exact ⟨ret_int (meanN_zero HX.out.1.symm).symm, HB2.out.2⟩
  have qb : (x0 == 0) = false := by simpa using q
  have HV : Hid (meanN s = x1 / x0) := by
    show _ = _
    rw [meanN_pos HD.out.symm (by rw [← HX.out.1]; exact q), ← HX.out.1, ← HX.out.2]
  go_wp2
  go_ret
  rw [HV.out]
  exact ⟨rfl, HB2.out.2⟩
set_option maxHeartbeats 1000000 in
theorem meanSpec_any (v : Value) (s : Sk) (F : List Nat) (w : World) (h : RdSk w v s F) (hw : s.wide) :
    Calls Try.prog 10 #[v] w fun e w' => e = .returned (.int .i64 (meanN s)) ∧ Below w.heap.size w w' := by
  have HH : Hid (RdSk w v s F ∧ s.wide) := ⟨h, hw⟩
  obtain ⟨a1, n1, c1, a2, n2, c2, a3, n3, c3, F1, F2, F3, rfl, h1, h2, h3, _⟩ := h
  clear h1 h2 h3 hw
  have HT : Hid (Blk (w.alloc (.cells #[.int .i64 s.count, .int .i64 s.sum, .int .i64 s.min, .int .i64 s.max, .slice a1 n1 c1, .slice a2 n2 c2, .slice a3 n3 c3] 29)) w.heap.size #[.int .i64 s.count, .int .i64 s.sum, .int .i64 s.min, .int .i64 s.max, .slice a1 n1 c1, .slice a2 n2 c2, .slice a3 n3 c3] 29 ∧ Below w.heap.size w (w.alloc (.cells #[.int .i64 s.count, .int .i64 s.sum, .int .i64 s.min, .int .i64 s.max, .slice a1 n1 c1, .slice a2 n2 c2, .slice a3 n3 c3] 29))) := ⟨Blk.made _ _ _, (Below.refl _ _).alloc (Nat.le_refl _) _⟩
  go_enter Try.func10, Try.ntmps10
  go_wp2_with fail
  refine (okSpec_any _ s F _ (HH.out.1.below HT.out.2) HH.out.2).mono ?_
  rintro e w1 ⟨rfl, hb1⟩
  have HB : Hid (Blk w1 w.heap.size #[.int .i64 s.count, .int .i64 s.sum, .int .i64 s.min, .int .i64 s.max, .slice a1 n1 c1, .slice a2 n2 c2, .slice a3 n3 c3] 29 ∧ Below w.heap.size w w1) := ⟨HT.out.1.below hb1, Below.next HT.out.2 hb1⟩
  clear hb1
  obtain ⟨d, hd⟩ : ∃ d, d = s.ok := ⟨_, rfl⟩
  rw [← hd]
  have HD : Hid (d = s.ok) := hd
  clear hd
  cases d
  · go_wp2
    go_ret
    exact ⟨ret_int (meanN_not HD.out.symm).symm, HB.out.2⟩
  obtain ⟨x0, hx0⟩ : ∃ x, x = s.count := ⟨_, rfl⟩
  obtain ⟨x1, hx1⟩ : ∃ x, x = s.sum := ⟨_, rfl⟩
  have hE := okHead_of HD.out.symm
  have cc0 : w1.cell? ⟨w.heap.size, 0, none⟩ = some (.int .i64 x0) := by rw [HB.out.1.cell, hx0]; rfl
  have cc1 : w1.cell? ⟨w.heap.size, 1, none⟩ = some (.int .i64 x1) := by rw [HB.out.1.cell, hx1]; rfl
  have q0 : 0 ≤ x0 := by rw [hx0]; exact hE.1.1
  have q1 : x0 ≤ 1000000000 := by rw [hx0]; exact hE.1.2
  have q2 : 0 ≤ x1 := by rw [hx1]; exact hE.2.1.1
  have q3 : x1 ≤ 1000000000 := by rw [hx1]; exact hE.2.1.2
  have HX : Hid (x0 = s.count ∧ x1 = s.sum) := ⟨hx0, hx1⟩
  clear hx0 hx1 hE
  by_cases q : x0 = 0
  · subst q
    go_wp2
    go_ret
    exact ⟨ret_int (meanN_zero HX.out.1.symm).symm, HB.out.2⟩
  have qb : (x0 == 0) = false := by simpa using q
  have HV : Hid (meanN s = x1 / x0) := by
    show _ = _
    rw [meanN_pos HD.out.symm (by rw [← HX.out.1]; exact q), ← HX.out.1, ← HX.out.2]
  go_wp2
  go_ret
  rw [HV.out]
  exact ⟨rfl, HB.out.2⟩
end Go.Proofs.Ytlapdamopclojan
